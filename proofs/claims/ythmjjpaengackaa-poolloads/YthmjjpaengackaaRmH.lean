import Derived.Test.YthmjjpaengackaaRmG
namespace Go.Proofs.Ythmjjpaengackaa.Po
open Go.RowKit Go.Lib Go.Deep

theorem fits_zq {f : Nat} {R : List Ob} {Z : List Int} (h : Fits f R Z) : zQ (Z.map Int.toNat) = Z := by
  unfold zQ
  rw [List.map_map]
  conv => rhs; rw [← List.map_id Z]
  apply List.map_congr_left
  intro a ha
  obtain ⟨k, hk⟩ := List.mem_iff_getElem?.1 ha
  have := (h.queue k a hk).1.1
  simp
  omega
set_option maxRecDepth 20000 in
set_option maxHeartbeats 4000000 in
theorem loadsW_walk (W : World) (v : Value) (R : List Ob) (Z : List Int) (hd : Sd W v R Z) (hsz : ∀ (k : Nat) o, R[k]? = some o → o.nm.size ≤ maxLen ∧ o.tg.size ≤ maxLen) (hZ : Z.length ≤ 17592186044416) (hR : R.length ≤ 2932031007402) (f s : Int) :
    Calls Try.prog 6 #[v, .int .i64 f, .int .i64 s] W fun e w' => e = .returned (.bool true) ∧ Below W.heap.size W w' := by
  obtain ⟨ov, qv, rfl, s1, t1⟩ := hd.ex
  obtain ⟨a1, c1, rfl⟩ := s1.form
  obtain ⟨a2, c2, rfl⟩ := t1.form
  obtain ⟨w, hw, hb, k0, k1⟩ := two_new W #[.slice a1 R.length c1, .slice a2 Z.length c2] #[.pointer none, .pointer none, .pointer none, .pointer none, .pointer none, .pointer none, .slice none 0 0, .int .i64 0] 29 60
  have hly := layW_any W w (W.heap.size + 1) _ R Z hd hb (by omega) k1 hsz hZ hR f s
  have HD : Hid (∀ V, Below W.heap.size W V → Sd V (.agg #[.slice a1 R.length c1, .slice a2 Z.length c2]) R Z) := fun V hV => hd.below hV
  have HK0 : Hid (w.heap[W.heap.size]? = some (.cells #[.slice a1 R.length c1, .slice a2 Z.length c2] 29 (0, 0))) := k0
  have x0 : w.cell? ⟨W.heap.size, 0, none⟩ = some (.slice a1 R.length c1) := (cell_of_heap k0).trans rfl
  have x1 : w.cell? ⟨W.heap.size, 1, none⟩ = some (.slice a2 Z.length c2) := (cell_of_heap k0).trans rfl
  have nu := num_any
  clear hd s1 t1 hb k0 k1 hsz
  go_enter Try.func6, Try.ntmps6
  go_wp2_with fail
  refine hly.mono ?_
  rintro e w2 ⟨rfl, hbe, hon, p, r, hbb, hp⟩
  have hk2 := (hon.block W.heap.size (heap_lt HK0.out) (by simp)).trans HK0.out
  have hnw : Calls Try.prog 24 #[.int .i64 1, .int .i64 1] w2 fun e w' => ∃ pb, e = .returned (.tuple #[.pointer (some ⟨pb, 0, none⟩), .int .i64 0]) ∧ Below w2.heap.size w2 w' := by
    refine (new_any w2 1 1).mono ?_
    intro e w' h
    rw [if_pos (by decide)] at h
    obtain ⟨pb, q, F, rfl, -, -, -, h5⟩ := h
    exact ⟨pb, rfl, h5⟩
  have HBE : Hid (Below W.heap.size W w2) := hbe
  clear hly hon hbe x0 x1 HK0
  go_wp2_with fail
  refine hnw.mono ?_
  rintro e w3 ⟨nb, rfl, hb3⟩
  have hbb3 := (hb3.block _ (heap_lt hbb)).trans hbb
  have hk3 := (hb3.block _ (heap_lt hk2)).trans hk2
  have HB3 : Hid (Below W.heap.size W w3) := HBE.out.trans (hb3.mono HBE.out.size)
  rcases hp with rfl | ⟨pb, q, F, rfl, hok, hft⟩
  · have b0 : w3.cell? ⟨W.heap.size + 1, 0, none⟩ = some (.pointer none) := (cell_of_heap hbb3).trans rfl
    have BD : Hid (∀ j, Below W.heap.size W (w3.drewN j)) := fun j => bdr HB3.out j
    clear hnw hbb hbb3 hk2 hk3 hb3
    go_wp2_with fail
    refine (nu _ _).mono ?_
    rintro e w4 ⟨rfl, rfl⟩
    go_wp2_with fail
    go_quiet (fail)
    go_wp2
    go_ret
    exact ⟨rfl, BD.out _⟩
  · have hok3 : Ok w3 pb q F R.length ⟨f.toNat, R, Z.map Int.toNat⟩ := ⟨hok.top.below hb3, hok.lay.below hb3, hok.good, hok.nn⟩
    have b0 : w3.cell? ⟨W.heap.size + 1, 0, none⟩ = some (.pointer (some ⟨pb, 0, none⟩)) := (cell_of_heap hbb3).trans rfl
    have x0 : w3.cell? ⟨W.heap.size, 0, none⟩ = some (.slice a1 R.length c1) := (cell_of_heap hk3).trans rfl
    have x1 : w3.cell? ⟨W.heap.size, 1, none⟩ = some (.slice a2 Z.length c2) := (cell_of_heap hk3).trans rfl
    have hzq := fits_zq hft
    have K1 : Hid (∀ X, Below w3.heap.size w3 X → Calls Try.prog 9 #[.pointer (some ⟨pb, 0, none⟩)] X fun e w' => ∃ a c a' c', e = .returned (.agg #[.slice a R.length c, .slice a' Z.length c']) ∧ Hid (Sd w' (.agg #[.slice a R.length c, .slice a' Z.length c']) R Z) ∧ Below w3.heap.size w3 w') := fun X hX => by
      refine (state_any X pb q F R.length _ ⟨hok3.top.below hX, hok3.lay.below hX, hok3.good, hok3.nn⟩).mono ?_
      rintro e w' ⟨ov, qv, rfl, o1, o2, hb⟩
      dsimp only at o1 o2
      rw [nsC_zs] at o2
      have e2 : (Z.map Int.toNat).map (fun (n : Nat) => (n : Int)) = Z := hzq
      rw [e2, List.length_map] at o2
      obtain ⟨a, c, rfl⟩ := owns_form o1
      obtain ⟨a', c', rfl⟩ := owns_form o2
      exact ⟨a, c, a', c', rfl, ⟨_, _, rfl, see_row o1 (obsC_one _), see_row o2 (zsC_one _)⟩, hX.trans (hb.mono hX.size)⟩
    have K2 : Hid (∀ X va, Below w3.heap.size w3 X → Sd X va R Z → Calls Try.prog 18 #[va, .agg #[.slice a1 R.length c1, .slice a2 Z.length c2]] X fun e w' => e = .returned (.bool true) ∧ Below w3.heap.size w3 w') := fun X va hX hsd => by
      refine (sameState_any X va _ R Z hsd (HD.out X (HB3.out.trans (hX.mono HB3.out.size))) (by omega) (by omega)).mono ?_
      rintro e w' ⟨rfl, hb⟩
      exact ⟨rfl, hX.trans (hb.mono hX.size)⟩
    have lt3 : W.heap.size + 1 < w3.heap.size := heap_lt hbb3
    have HS : Hid (∀ X, Below w3.heap.size w3 X → Below w3.heap.size w3 X ∧ X.cell? ⟨W.heap.size + 1, 0, none⟩ = some (.pointer (some ⟨pb, 0, none⟩)) ∧ X.cell? ⟨W.heap.size, 0, none⟩ = some (.slice a1 R.length c1) ∧ X.cell? ⟨W.heap.size, 1, none⟩ = some (.slice a2 Z.length c2)) := fun X hX => ⟨hX, (hX.cell (p := ⟨W.heap.size + 1, 0, none⟩) lt3).trans b0, (hX.cell (p := ⟨W.heap.size, 0, none⟩) (by show W.heap.size < _; omega)).trans x0, (hX.cell (p := ⟨W.heap.size, 1, none⟩) (by show W.heap.size < _; omega)).trans x1⟩
    have XD : Below w3.heap.size w3 w3.drew := (Below.refl _ _).drew
    obtain ⟨-, y0, y1, y2⟩ := HS.out w3.drew XD
    clear hnw hbb hbb3 hk2 hk3 hb3 hok hok3 hft hzq lt3 HD
    go_wp2_with fail
    refine (nu _ _).mono ?_
    rintro e w4 ⟨rfl, rfl⟩
    go_wp2_with fail
    go_region_held_law (fun X => Below w4.heap.size w4 X ∧ X.cell? ⟨W.heap.size + 1, 0, none⟩ = some (.pointer (some ⟨pb, 0, none⟩)) ∧ X.cell? ⟨W.heap.size, 0, none⟩ = some (.slice a1 R.length c1) ∧ X.cell? ⟨W.heap.size, 1, none⟩ = some (.slice a2 Z.length c2)) (first | exact HS.out _ (by assumption) | exact HS.out _ (Below.alloc (by assumption) (Below.size (by assumption)) _) | go_keep) (first | (go_at_call 9; refine (K1.out _ (by assumption)).mono ?_; rintro e w5 ⟨a5, e5, a6, e6, rfl, hsd5, hb5⟩) | (go_at_call 18; refine (K2.out _ _ (by assumption) hsd5.out).mono ?_; rintro e w6 ⟨rfl, hb6⟩))
    have HE : Hid (Below W.heap.size W w6) := HB3.out.trans (hb6.mono HB3.out.size)
    clear hb5 hb6 hsd5 K1 K2 HS
    go_wp2
    go_ret
    exact ⟨rfl, HE.out⟩
end Go.Proofs.Ythmjjpaengackaa.Po
