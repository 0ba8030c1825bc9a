import Derived.Test.YtengclnahppmhaaGreatDoorSrD
namespace Go.Proofs.YtengclnahppmhaaGreatDoor.Sr
open Go.RowKit Go.Lib Go.Deep
open Se (tagS)

theorem owns_keep {W W' : World} {B e n size : Nat} {v : Value} {xs : List Value} (h : W.ownsRow B e size v n xs) (hk : ∀ g, v.ownBlock = some g → W'.heap[g]? = W.heap[g]?) : W'.ownsRow B e size v n xs := by
  refine ⟨h.1, ?_⟩
  rcases h.2 with h2 | ⟨g, cap, cur, a, b, c, d⟩
  · exact .inl h2
  · exact .inr ⟨g, cap, cur, a, b, (hk g (by rw [a]; rfl)).trans c, d⟩
theorem own_len {w : World} {B n size : Nat} {v : Value} {e : TypeId} {xs : List Value} (h : w.ownsRow B e size v n xs) : ∃ a cap, v = .slice a n cap := by
  rcases h.2 with ⟨h1, h2⟩ | ⟨g, cap, cur, h1, _⟩
  · exact ⟨none, 0, by rw [h1, h2]⟩
  · exact ⟨_, cap, h1⟩
/-- how the law's world stands -/
structure Iv (w1 w : World) (pb : Nat) (sp rp : Option Addr) (n : Nat) : Prop where
  ex : ∃ (a : Option Addr) (cap : Nat) (xs : List ByteArray), Wl w pb sp rp (.slice a n cap) ∧ xs.length = n ∧ w.ownsRow w1.heap.size 9 1 (.slice a n cap) n (xs.map Value.string) ∧ (∀ s ∈ xs, s.size ≤ 1048616) ∧ Below w1.heap.size w1 w ∧ w1.heap.size ≤ pb
theorem Iv.below {w1 w w' : World} {pb : Nat} {sp rp : Option Addr} {n : Nat} (h : Iv w1 w pb sp rp n) (hb : Below w.heap.size w w') : Iv w1 w' pb sp rp n := by
  obtain ⟨a, cap, xs, h1, h2, h3, h4, h5, h6⟩ := h.ex
  exact ⟨a, cap, xs, h1.below hb, h2, owns_keep h3 (fun g hg => hb.block g (World.ownsRow.lt h3 g hg).2), h4, h5.trans (hb.mono h5.size), h6⟩

/-- the cells of a row of texts -/
theorem own_strs {w : World} {B n cap : Nat} {a : Option Addr} {xs : List ByteArray} (h : w.ownsRow B 9 1 (.slice a n cap) n (xs.map Value.string)) (hx : xs.length = n) (hs : ∀ s ∈ xs, s.size ≤ 1048616) : ∀ i : Nat, i < n → ∃ (bb off : Nat) (s : ByteArray), a = some ⟨bb, off, none⟩ ∧ s.size ≤ 140737488355328 ∧ ∀ W, Below w.heap.size w W → W.cell? ⟨bb, off + i, none⟩ = some (.string s) := fun i hi => by
  rcases h.2 with ⟨_, h2⟩ | ⟨g, cap', cur, e1, e2, e3, e4, e5, e6, e7⟩
  · omega
  · injection e1 with e1 _ _
    obtain ⟨s, hs2⟩ : ∃ s, xs[i]? = some s := ⟨_, List.getElem?_eq_getElem (by omega)⟩
    refine ⟨g, 0, s, e1, ?_, fun W hb => ?_⟩
    · have := hs s (List.mem_of_getElem? hs2)
      omega
    · have h3 : (xs.map Value.string)[i]? = some (.string s) := by rw [List.getElem?_map, hs2]; rfl
      rw [← e7, List.getElem?_take, if_pos (by omega), Array.getElem?_toList] at h3
      rw [Nat.zero_add, cell_of_heap ((hb.block g (heap_lt e3)).trans e3)]
      exact h3

theorem own_apart {w : World} {B n pb : Nat} {v : Value} {ys : List Value} {cs : Array Value} (h : w.ownsRow B 9 1 v n ys) (hr : w.heap[pb]? = some (.cells cs 43 (0, 0))) : some pb ≠ v.ownBlock := by
  intro e
  rcases h.2 with ⟨h1, h2⟩ | ⟨g, cap, cur, h1, _, h3, _⟩
  · rw [h1] at e; cases e
  · rw [h1] at e
    have e2 : pb = g := by simpa [Value.ownBlock] using e
    subst e2
    rw [hr] at h3
    injection h3 with h3
    injection h3 with _ h3
    exact absurd h3 (by decide)
theorem step_end {w1 w : World} {pb n a11n : Nat} {sp rp a11 : Option Addr} {bv : Value} {xs : List ByteArray} {Y : ByteArray} (hx : xs.length = n) (hs : ∀ s ∈ xs, s.size ≤ 1048616) (hY : Y.size ≤ 1048616)
    (hp : w.heap[pb]? = some (.cells #[.bool false, .pointer sp, .pointer none, .pointer rp, bv, .slice none 0 0, .slice none 0 0, .slice none 0 0, .slice none 0 0, .slice none 0 0] 43 (0, 0)))
    (ho : w.ownsRow w1.heap.size 9 1 (.slice a11 (n + 1) a11n) (n + 1) (xs.map Value.string ++ [.string Y])) (hb : Below w1.heap.size w1 w) (hpb : w1.heap.size ≤ pb) : Iv w1 (w.setCell ⟨pb, 4, none⟩ (.slice a11 (n + 1) a11n)) pb sp rp (n + 1) := by
  have hne := own_apart ho hp
  refine ⟨a11, a11n, xs ++ [Y], ⟨heap_setCell_fr w pb 4 _ _ _ (.slice a11 (n + 1) a11n) hp⟩, by rw [List.length_append, hx]; rfl, ?_, fun s h => ?_, hb.setCell hpb _, hpb⟩
  · rw [List.map_append]
    refine owns_keep ho (fun g hg => ?_)
    exact (Only.setCell (S := [pb]) (Only.refl _ w) (List.mem_singleton.2 rfl) _).block g (World.ownsRow.lt ho g hg).2 (fun hm => hne (by rw [hg, List.mem_singleton.1 hm]))
  · rcases List.mem_append.1 h with h | h
    · exact hs s h
    · rw [List.mem_singleton.1 h]; exact hY

def StepP (w1 : World) (pb : Nat) (sp rp : Option Addr) (n : Nat) (_w : World) (e : Ending) (w' : World) : Prop := e = .returned (.bool true) ∧ (Iv w1 w' pb sp rp n ∨ Iv w1 w' pb sp rp (n + 1))

theorem tag_eq (c : ByteArray) (hc : c.size ≤ 281474976710656) (w : World) : Calls Tryz.prog 36 #[.string c] w fun e w' => e = .returned (.string (tagS c)) ∧ Below w.heap.size w w' := Se.tag_any c w hc

set_option maxRecDepth 50000 in
set_option maxHeartbeats 8000000 in
theorem step_any (o : Stp) (pb : Nat) (sp rp : Option Addr) (n : Nat) (A : Ans) (w1 w : World) (hI : Iv w1 w pb sp rp n) (h2 : Two w1 sp rp A) (hn : n ≤ 2097152) (hu : w64 o.use) (ha : w64 o.at_) (hb : w64 o.by_) (g1 : o.name.size ≤ 1048576) (g2 : o.text.size ≤ 1048576) (g3 : o.coins.size ≤ 1048576) :
    Calls Tryz.prog 15 #[.pointer (some ⟨pb, 0, none⟩), .agg (stpA o)] w (StepP w1 pb sp rp n w) := by
  have HO : Hid (w64 o.use ∧ w64 o.at_ ∧ w64 o.by_ ∧ o.coins.size ≤ 140737488355328) := ⟨hu, ha, hb, by omega⟩
  obtain ⟨ba, bc, xs, hWl, hxl, hown, hxs, hbw, hpb⟩ := hI.ex
  obtain ⟨oc, on, onm, ot, oco, ou, oa, ob⟩ := o
  unfold stpA
  dsimp only at *
  obtain ⟨W0, hW0⟩ : ∃ W, w.alloc (.cells #[.int .i64 oc, .int .i64 on, .string onm, .string ot, .string oco, .int .i64 ou, .int .i64 oa, .int .i64 ob] 64) = W := ⟨_, rfl⟩
  have hq0 : W0.heap[w.heap.size]? = some (.cells #[.int .i64 oc, .int .i64 on, .string onm, .string ot, .string oco, .int .i64 ou, .int .i64 oa, .int .i64 ob] 64 (0, 0)) := by rw [← hW0]; exact heap_new _ _
  have hb0 : Below w.heap.size w W0 := by rw [← hW0]; exact (Below.refl _ _).alloc (Nat.le_refl _) _
  have HB0 : Hid (Below w.heap.size w W0) := hb0
  have HI0 : Hid (∀ W, Below W0.heap.size W0 W → Iv w1 W pb sp rp n) := fun W h => hI.below (hb0.trans (h.mono hb0.size))
  have HB1 : Hid (∀ W, Below W0.heap.size W0 W → Below w1.heap.size w1 W) := fun W h => hbw.trans ((hb0.trans (h.mono hb0.size)).mono hbw.size)
  have HWl : Hid (∀ W, Below W0.heap.size W0 W → Wl W pb sp rp (.slice ba n bc)) := fun W h => hWl.below (hb0.trans (h.mono hb0.size))
  have HC : Hid (∀ W, Below W0.heap.size W0 W → (W.cell? ⟨w.heap.size, 0, none⟩ = some (.int .i64 oc) ∧ W.cell? ⟨w.heap.size, 1, none⟩ = some (.int .i64 on) ∧ W.cell? ⟨w.heap.size, 2, none⟩ = some (.string onm) ∧ W.cell? ⟨w.heap.size, 3, none⟩ = some (.string ot) ∧ W.cell? ⟨w.heap.size, 4, none⟩ = some (.string oco) ∧ W.cell? ⟨w.heap.size, 5, none⟩ = some (.int .i64 ou) ∧ W.cell? ⟨w.heap.size, 6, none⟩ = some (.int .i64 oa) ∧ W.cell? ⟨w.heap.size, 7, none⟩ = some (.int .i64 ob)) ∧ (W.cell? ⟨pb, 0, none⟩ = some (.bool false) ∧ W.cell? ⟨pb, 3, none⟩ = some (.pointer rp) ∧ W.cell? ⟨pb, 4, none⟩ = some (.slice ba n bc))) := fun W h => by
    have hh := (h.block _ (heap_lt hq0)).trans hq0
    obtain ⟨x0, x1, x3, x4, _⟩ := hWl.cells.out W (hb0.trans (h.mono hb0.size))
    exact ⟨⟨(cell_of_heap hh).trans rfl, (cell_of_heap hh).trans rfl, (cell_of_heap hh).trans rfl, (cell_of_heap hh).trans rfl, (cell_of_heap hh).trans rfl, (cell_of_heap hh).trans rfl, (cell_of_heap hh).trans rfl, (cell_of_heap hh).trans rfl⟩, x0, x3, x4⟩
  have HT : Hid (∀ W, Below W0.heap.size W0 W → Calls Tryz.prog 31 #[.agg #[.int .i64 oc, .int .i64 on, .string onm, .string ot, .string oco, .int .i64 ou, .int .i64 oa, .int .i64 ob], .slice ba n bc] W fun e w' => ∃ c, e = .returned (.string c) ∧ c.size ≤ 140737488355328 ∧ Below W0.heap.size W0 w') := fun W h => by
    have hbW := hb0.trans (h.mono hb0.size)
    refine (text_any ⟨oc, on, onm, ot, oco, ou, oa, ob⟩ ba n bc W HO.out.1 HO.out.2.1 HO.out.2.2.1 HO.out.2.2.2 (by omega) (own_strs (owns_keep hown (fun g hg => hbW.block g (World.ownsRow.lt hown g hg).2)) hxl hxs)).mono ?_
    rintro e w' ⟨c, rfl, hc, hb'⟩
    exact ⟨c, rfl, hc, h.trans (hb'.mono h.size)⟩
  obtain ⟨⟨z0, z1, z2, z3, z4, z5, z6, z7⟩, y0, y3, y4⟩ := HC.out W0 (Below.refl _ _)
  have H2 : Hid (Two w1 sp rp A) := h2
  have HOW : Hid (xs.length = n ∧ w.ownsRow w1.heap.size 9 1 (.slice ba n bc) n (xs.map Value.string) ∧ (∀ s ∈ xs, s.size ≤ 1048616) ∧ w1.heap.size ≤ pb ∧ Below w1.heap.size w1 w) := ⟨hxl, hown, hxs, hpb, hbw⟩
  clear hq0 hb0 hWl hown hxs hbw hI hxl HO h2 hpb
  go_enter Tryz.func15, Tryz.ntmps15
  go_wp2_with fail
  go_region_held_law (fun W => (W.cell? ⟨w.heap.size, 0, none⟩ = some (.int .i64 oc) ∧ W.cell? ⟨w.heap.size, 1, none⟩ = some (.int .i64 on) ∧ W.cell? ⟨w.heap.size, 2, none⟩ = some (.string onm) ∧ W.cell? ⟨w.heap.size, 3, none⟩ = some (.string ot) ∧ W.cell? ⟨w.heap.size, 4, none⟩ = some (.string oco) ∧ W.cell? ⟨w.heap.size, 5, none⟩ = some (.int .i64 ou) ∧ W.cell? ⟨w.heap.size, 6, none⟩ = some (.int .i64 oa) ∧ W.cell? ⟨w.heap.size, 7, none⟩ = some (.int .i64 ob)) ∧ (W.cell? ⟨pb, 0, none⟩ = some (.bool false) ∧ W.cell? ⟨pb, 3, none⟩ = some (.pointer rp) ∧ W.cell? ⟨pb, 4, none⟩ = some (.slice ba n bc)))
    (first | exact HC.out _ (bdN _ 1) | exact HC.out _ hb5 | go_keep) (first | (go_at_call 31; refine (HT.out _ (bdN _ 1)).mono ?_; rintro e w5 ⟨c, rfl, hcz, hb5⟩))
  clear z0 z1 z2 z3 z4 z5 z6 z7 y0 y3 y4 HT
  obtain ⟨⟨z0, z1, z2, z3, z4, z5, z6, z7⟩, y0, y3, y4⟩ := HC.out _ hb5
  have HB5 : Hid (Below W0.heap.size W0 w5) := hb5
  clear hb5
  have HN : Hid (∀ W, Below W0.heap.size W0 W → StepP w1 pb sp rp n w (.returned (.bool true)) W) := fun W h => ⟨rfl, .inl (HI0.out W h)⟩
  by_cases q1 : oc = 1
  · subst q1
    have HK1 : Hid (∀ W, Below W0.heap.size W0 W → Calls Tryz.prog 32 #[.pointer (some ⟨pb, 0, none⟩), .agg #[.int .i64 1, .int .i64 on, .string onm, .string ot, .string oco, .int .i64 ou, .int .i64 oa, .int .i64 ob], .string c] W fun e w' => e = .returned (.tuple #[.string (A.sY on onm ot c), .int .i64 (A.sE on onm ot c)]) ∧ Below W0.heap.size W0 w') := fun W h => (seals_any ⟨1, on, onm, ot, oco, ou, oa, ob⟩ c pb sp rp _ A w1 W (HWl.out W h) H2.out (HB1.out W h) (by unfold bnd47; dsimp only; omega) (by unfold bnd47; dsimp only; omega) hcz).mono (by
      rintro e w' ⟨rfl, hb'⟩
      exact ⟨rfl, h.trans (hb'.mono h.size)⟩)
    have HK2 : Hid (∀ W, Below W0.heap.size W0 W → Calls Tryz.prog 14 #[.pointer rp, .int .i64 on, .string onm, .string ot, .string c] W fun e w' => e = .returned (.tuple #[.string (A.sY on onm ot c), .int .i64 (A.sE on onm ot c)]) ∧ Below W0.heap.size W0 w') := fun W h => (H2.out.rs W (HB1.out W h) on onm ot c (by unfold bnd47; omega) (by unfold bnd47; omega) hcz).mono (by
      rintro e w' ⟨rfl, hb'⟩
      exact ⟨rfl, h.trans (hb'.mono h.size)⟩)
    have HSZ := H2.out.sz on onm ot c
    generalize A.sY on onm ot c = Y at *
    generalize A.sE on onm ot c = E at *
    go_wp2_with fail
    refine (HK1.out _ HB5.out).mono ?_
    rintro e w6 ⟨rfl, hb6⟩
    clear z0 z1 z2 z3 z4 z5 z6 z7 y0 y3 y4
    obtain ⟨⟨z0, z1, z2, z3, z4, z5, z6, z7⟩, y0, y3, y4⟩ := HC.out _ hb6
    have HB6 : Hid (Below W0.heap.size W0 w6) := hb6
    have HB6N : Hid (∀ j, Below W0.heap.size W0 (w6.drewN j)) := fun j => hb6.trans ((bdN w6 j).mono hb6.size)
    clear hb6
    go_wp2_with fail
    go_region_held_law (fun W => (W.cell? ⟨w.heap.size, 0, none⟩ = some (.int .i64 1) ∧ W.cell? ⟨w.heap.size, 1, none⟩ = some (.int .i64 on) ∧ W.cell? ⟨w.heap.size, 2, none⟩ = some (.string onm) ∧ W.cell? ⟨w.heap.size, 3, none⟩ = some (.string ot) ∧ W.cell? ⟨w.heap.size, 4, none⟩ = some (.string oco) ∧ W.cell? ⟨w.heap.size, 5, none⟩ = some (.int .i64 ou) ∧ W.cell? ⟨w.heap.size, 6, none⟩ = some (.int .i64 oa) ∧ W.cell? ⟨w.heap.size, 7, none⟩ = some (.int .i64 ob)) ∧ (W.cell? ⟨pb, 0, none⟩ = some (.bool false) ∧ W.cell? ⟨pb, 3, none⟩ = some (.pointer rp) ∧ W.cell? ⟨pb, 4, none⟩ = some (.slice ba n bc))) (first | exact HC.out _ (HB6N.out 1) | exact HC.out _ hb7 | go_keep) (first | (go_at_call 14; refine (HK2.out _ (HB6N.out 1)).mono ?_; rintro e w7 ⟨rfl, hb7⟩))
    clear z0 z1 z2 z3 z4 z5 z6 z7 y0 y3 y4
    obtain ⟨⟨z0, z1, z2, z3, z4, z5, z6, z7⟩, y0, y3, y4⟩ := HC.out _ hb7
    have HB7 : Hid (Below W0.heap.size W0 w7) := hb7
    clear hb7
    by_cases q2 : E = 0
    · subst q2
      obtain ⟨i0, hi, hz0, hz1, hz2⟩ := info_parts info9
      obtain ⟨W8, hW8⟩ : ∃ W, w7.alloc (.cells #[.string Y] 9) = W := ⟨_, rfl⟩
      have hb8 : Below W0.heap.size W0 W8 := by rw [← hW8]; exact HB7.out.alloc HB7.out.size _
      have HO8 : Hid (W8.ownsRow w1.heap.size 9 1 (.slice ba n bc) n (xs.map Value.string)) := owns_keep HOW.out.2.1 (fun g hg => (HB0.out.trans (hb8.mono HB0.out.size)).block g (World.ownsRow.lt HOW.out.2.1 g hg).2)
      have HR8 : Hid (Wl W8 pb sp rp (.slice ba n bc)) := HWl.out _ hb8
      have HC8 : Hid (∀ j u, ([.string Y] : List Value)[j]? = some u → W8.cell? ((⟨w7.heap.size, 0, none⟩ : Addr).add j) = some u) := fun j u hj => by rw [← hW8]; exact cells_new w7 #[.string Y] 9 j u (by simpa using hj)
      have HB18 : Hid (Below w1.heap.size w1 W8) := HB1.out _ hb8
      have hz9 : n + 1 ≤ maxLen ∧ (n + 1) * 16 ≤ 140737488355328 ∧ w1.heap.size ≤ W8.heap.size := ⟨by unfold maxLen; omega, by omega, HB18.out.size⟩
      have NE : Hid (some pb ≠ (Value.slice ba n bc).ownBlock) := own_apart HO8.out HR8.out.row
      have HYZ : Hid (Y.size ≤ 1048616) := HSZ rfl
      have HN1 : Hid (n ≤ 2097152) := hn
      clear hb8 HSZ
      go_wp2_with (first | (at_builtin; (try rw [hW8]); refine wpList_append_own _ rfl _ _ 37 rfl w1.heap.size 9 i0 _ 1 16 Tryz.underlying37 hi hz0 hz1 hz2 rfl (by decide) _ _ _ rfl HO8.out _ _ _ [.string Y] rfl rfl HC8.out (by simp [Value.oneCell']) hz9.1 hz9.2.1 hz9.2.2 ?_; intro v' w11 hown hgrow _; obtain ⟨a11, c11, rfl⟩ := own_len hown; have hp11 := (hgrow.block pb (heap_lt HR8.out.row) NE.out).trans HR8.out.row; have y4' : w11.cell? ⟨pb, 4, none⟩ = some (.slice ba n bc) := (cell_of_heap hp11).trans rfl; have f4' : w11.frozen? ⟨pb, 4, none⟩ = false := frozen_of_heap hp11; have HF : Hid _ := step_end HOW.out.1 HOW.out.2.2.1 HYZ.out hp11 hown (HB18.out.trans (grown_below hgrow hz9.2.2 HO8.out)) HOW.out.2.2.2.1; clear hp11 hown hgrow) | fail)
      go_ret
      exact ⟨rfl, .inr HF.out⟩
    · have q2' : ¬ E = 0 := q2
      have q3 : (E == 0) = false := by simpa using q2
      clear HSZ
      go_wp2
      go_ret
      exact HN.out _ HB7.out
  · by_cases q2 : oc = 2
    · subst q2
      have HK1 : Hid (∀ W, Below W0.heap.size W0 W → Calls Tryz.prog 33 #[.pointer (some ⟨pb, 0, none⟩), .agg #[.int .i64 2, .int .i64 on, .string onm, .string ot, .string oco, .int .i64 ou, .int .i64 oa, .int .i64 ob], .string c] W fun e w' => e = .returned (.tuple #[.string (A.oY on onm c), .int .i64 (A.oE on onm c)]) ∧ Below W0.heap.size W0 w') := fun W h => (opens_any ⟨2, on, onm, ot, oco, ou, oa, ob⟩ c pb sp rp _ A w1 W (HWl.out W h) H2.out (HB1.out W h) hcz).mono (by
        rintro e w' ⟨rfl, hb'⟩
        exact ⟨rfl, h.trans (hb'.mono h.size)⟩)
      have HK2 : Hid (∀ W, Below W0.heap.size W0 W → Calls Tryz.prog 34 #[.pointer rp, .int .i64 on, .string onm, .string c] W fun e w' => e = .returned (.tuple #[.string (A.oY on onm c), .int .i64 (A.oE on onm c)]) ∧ Below W0.heap.size W0 w') := fun W h => (H2.out.ro W (HB1.out W h) on onm c hcz).mono (by
        rintro e w' ⟨rfl, hb'⟩
        exact ⟨rfl, h.trans (hb'.mono h.size)⟩)
      generalize A.oY on onm c = Y at *
      generalize A.oE on onm c = E at *
      go_wp2_with fail
      refine (HK1.out _ HB5.out).mono ?_
      rintro e w6 ⟨rfl, hb6⟩
      clear z0 z1 z2 z3 z4 z5 z6 z7 y0 y3 y4
      obtain ⟨⟨z0, z1, z2, z3, z4, z5, z6, z7⟩, y0, y3, y4⟩ := HC.out _ hb6
      have HB6N : Hid (∀ j, Below W0.heap.size W0 (w6.drewN j)) := fun j => hb6.trans ((bdN w6 j).mono hb6.size)
      clear hb6
      go_wp2_with fail
      go_region_held_law (fun W => (W.cell? ⟨w.heap.size, 0, none⟩ = some (.int .i64 2) ∧ W.cell? ⟨w.heap.size, 1, none⟩ = some (.int .i64 on) ∧ W.cell? ⟨w.heap.size, 2, none⟩ = some (.string onm) ∧ W.cell? ⟨w.heap.size, 3, none⟩ = some (.string ot) ∧ W.cell? ⟨w.heap.size, 4, none⟩ = some (.string oco) ∧ W.cell? ⟨w.heap.size, 5, none⟩ = some (.int .i64 ou) ∧ W.cell? ⟨w.heap.size, 6, none⟩ = some (.int .i64 oa) ∧ W.cell? ⟨w.heap.size, 7, none⟩ = some (.int .i64 ob)) ∧ (W.cell? ⟨pb, 0, none⟩ = some (.bool false) ∧ W.cell? ⟨pb, 3, none⟩ = some (.pointer rp) ∧ W.cell? ⟨pb, 4, none⟩ = some (.slice ba n bc))) (first | exact HC.out _ (HB6N.out 1) | exact HC.out _ hb7 | go_keep) (first | (go_at_call 34; refine (HK2.out _ (HB6N.out 1)).mono ?_; rintro e w7 ⟨rfl, hb7⟩))
      go_wp2
      go_ret
      exact HN.out _ hb7
    · by_cases q3 : oc = 3
      · subst q3
        have HK1 : Hid (∀ W, Below W0.heap.size W0 W → Calls Tryz.prog 35 #[.pointer (some ⟨pb, 0, none⟩), .int .i64 on, .string c] W fun e w' => e = .returned (.tuple #[.int .i64 (A.cN on), .bool (A.fB c)]) ∧ Below W0.heap.size W0 w') := fun W h => (asks_any on c pb sp rp _ A w1 W (HWl.out W h) H2.out (HB1.out W h)).mono (by
          rintro e w' ⟨rfl, hb'⟩
          exact ⟨rfl, h.trans (hb'.mono h.size)⟩)
        have HK2 : Hid (∀ W, Below W0.heap.size W0 W → Calls Tryz.prog 26 #[.pointer rp, .int .i64 on] W fun e w' => e = .returned (.int .i64 (A.cN on)) ∧ Below W0.heap.size W0 w') := fun W h => (H2.out.rc W (HB1.out W h) on).mono (by
          rintro e w' ⟨rfl, hb'⟩
          exact ⟨rfl, h.trans (hb'.mono h.size)⟩)
        have HK3 : Hid (∀ W, Below W0.heap.size W0 W → Calls Tryz.prog 27 #[.pointer rp, .string c] W fun e w' => e = .returned (.bool (A.fB c)) ∧ Below W0.heap.size W0 w') := fun W h => (H2.out.rf W (HB1.out W h) c).mono (by
          rintro e w' ⟨rfl, hb'⟩
          exact ⟨rfl, h.trans (hb'.mono h.size)⟩)
        generalize A.cN on = N at *
        generalize A.fB c = Fb at *
        go_wp2_with fail
        refine (HK1.out _ HB5.out).mono ?_
        rintro e w6 ⟨rfl, hb6⟩
        clear z0 z1 z2 z3 z4 z5 z6 z7 y0 y3 y4
        obtain ⟨⟨z0, z1, z2, z3, z4, z5, z6, z7⟩, y0, y3, y4⟩ := HC.out _ hb6
        have HB6N : Hid (∀ j, Below W0.heap.size W0 (w6.drewN j)) := fun j => hb6.trans ((bdN w6 j).mono hb6.size)
        clear hb6
        go_wp2_with fail
        go_region_held_law (fun W => (W.cell? ⟨w.heap.size, 0, none⟩ = some (.int .i64 3) ∧ W.cell? ⟨w.heap.size, 1, none⟩ = some (.int .i64 on) ∧ W.cell? ⟨w.heap.size, 2, none⟩ = some (.string onm) ∧ W.cell? ⟨w.heap.size, 3, none⟩ = some (.string ot) ∧ W.cell? ⟨w.heap.size, 4, none⟩ = some (.string oco) ∧ W.cell? ⟨w.heap.size, 5, none⟩ = some (.int .i64 ou) ∧ W.cell? ⟨w.heap.size, 6, none⟩ = some (.int .i64 oa) ∧ W.cell? ⟨w.heap.size, 7, none⟩ = some (.int .i64 ob)) ∧ (W.cell? ⟨pb, 0, none⟩ = some (.bool false) ∧ W.cell? ⟨pb, 3, none⟩ = some (.pointer rp) ∧ W.cell? ⟨pb, 4, none⟩ = some (.slice ba n bc))) (first | exact HC.out _ (HB6N.out 1) | exact HC.out _ hb7 | exact HC.out _ hb8 | go_keep) (first | (go_at_call 26; refine (HK2.out _ (HB6N.out 1)).mono ?_; rintro e w7 ⟨rfl, hb7⟩) | (go_at_call 27; refine (HK3.out _ hb7).mono ?_; rintro e w8 ⟨rfl, hb8⟩))
        go_wp2
        go_ret
        exact HN.out _ hb8
      · by_cases q4 : oc = 4
        · subst q4
          have HK1 : Hid (∀ W, Below W0.heap.size W0 W → Calls Tryz.prog 35 #[.pointer (some ⟨pb, 0, none⟩), .int .i64 on, .string c] W fun e w' => e = .returned (.tuple #[.int .i64 (A.cN on), .bool (A.fB c)]) ∧ Below W0.heap.size W0 w') := fun W h => (asks_any on c pb sp rp _ A w1 W (HWl.out W h) H2.out (HB1.out W h)).mono (by
            rintro e w' ⟨rfl, hb'⟩
            exact ⟨rfl, h.trans (hb'.mono h.size)⟩)
          have HK2 : Hid (∀ W, Below W0.heap.size W0 W → Calls Tryz.prog 26 #[.pointer rp, .int .i64 on] W fun e w' => e = .returned (.int .i64 (A.cN on)) ∧ Below W0.heap.size W0 w') := fun W h => (H2.out.rc W (HB1.out W h) on).mono (by
            rintro e w' ⟨rfl, hb'⟩
            exact ⟨rfl, h.trans (hb'.mono h.size)⟩)
          have HK3 : Hid (∀ W, Below W0.heap.size W0 W → Calls Tryz.prog 27 #[.pointer rp, .string c] W fun e w' => e = .returned (.bool (A.fB c)) ∧ Below W0.heap.size W0 w') := fun W h => (H2.out.rf W (HB1.out W h) c).mono (by
            rintro e w' ⟨rfl, hb'⟩
            exact ⟨rfl, h.trans (hb'.mono h.size)⟩)
          generalize A.cN on = N at *
          generalize A.fB c = Fb at *
          go_wp2_with fail
          refine (HK1.out _ HB5.out).mono ?_
          rintro e w6 ⟨rfl, hb6⟩
          clear z0 z1 z2 z3 z4 z5 z6 z7 y0 y3 y4
          obtain ⟨⟨z0, z1, z2, z3, z4, z5, z6, z7⟩, y0, y3, y4⟩ := HC.out _ hb6
          have HB6N : Hid (∀ j, Below W0.heap.size W0 (w6.drewN j)) := fun j => hb6.trans ((bdN w6 j).mono hb6.size)
          clear hb6
          go_wp2_with fail
          go_region_held_law (fun W => (W.cell? ⟨w.heap.size, 0, none⟩ = some (.int .i64 4) ∧ W.cell? ⟨w.heap.size, 1, none⟩ = some (.int .i64 on) ∧ W.cell? ⟨w.heap.size, 2, none⟩ = some (.string onm) ∧ W.cell? ⟨w.heap.size, 3, none⟩ = some (.string ot) ∧ W.cell? ⟨w.heap.size, 4, none⟩ = some (.string oco) ∧ W.cell? ⟨w.heap.size, 5, none⟩ = some (.int .i64 ou) ∧ W.cell? ⟨w.heap.size, 6, none⟩ = some (.int .i64 oa) ∧ W.cell? ⟨w.heap.size, 7, none⟩ = some (.int .i64 ob)) ∧ (W.cell? ⟨pb, 0, none⟩ = some (.bool false) ∧ W.cell? ⟨pb, 3, none⟩ = some (.pointer rp) ∧ W.cell? ⟨pb, 4, none⟩ = some (.slice ba n bc))) (first | exact HC.out _ (HB6N.out 1) | exact HC.out _ hb7 | exact HC.out _ hb8 | go_keep) (first | (go_at_call 26; refine (HK2.out _ (HB6N.out 1)).mono ?_; rintro e w7 ⟨rfl, hb7⟩) | (go_at_call 27; refine (HK3.out _ hb7).mono ?_; rintro e w8 ⟨rfl, hb8⟩))
          go_wp2
          go_ret
          exact HN.out _ hb8
        · by_cases q6 : oc = 6
          · subst q6
            have HK1 : Hid (∀ W, Below W0.heap.size W0 W → Calls Tryz.prog 36 #[.string c] W fun e w' => e = .returned (.string (tagS c)) ∧ Below W0.heap.size W0 w') := fun W h => (tag_eq c (by omega) W).mono (by
              rintro e w' ⟨rfl, hb'⟩
              exact ⟨rfl, h.trans (hb'.mono h.size)⟩)
            have hr := Rr.rtag_any c (by omega)
            generalize tagS c = T at *
            go_wp2_with fail
            refine (HK1.out _ HB5.out).mono ?_
            rintro e w6 ⟨rfl, hb6⟩
            go_wp2_with fail
            refine (hr _).mono ?_
            rintro e w7 ⟨rfl, rfl⟩
            go_wp2
            go_ret
            exact HN.out _ hb6
          · by_cases q5 : oc = 5
            · subst q5
              go_wp2
              go_ret
              exact HN.out _ HB5.out
            · go_wp2
              go_ret
              exact HN.out _ HB5.out
end Go.Proofs.YtengclnahppmhaaGreatDoor.Sr
