import Derived.Test.YtpoipgmphhfgeabDoorPaF
import Derived.Test.YtpoipgmphhfgeabDoorPaV
import Derived.Test.YtpoipgmphhfgeabDoorPaT
namespace Go.Proofs.YtpoipgmphhfgeabDoor.Pa
open Go.RowKit Go.Lib

theorem index_any (w : World) (v : Value) (F : List ByteArray) (x : ByteArray) (h : See w v F) (hn : F.length ≤ 9223372036854775000) : Calls Tryd.prog 35 #[v, .string x] w fun e w' => e = .returned (.int .i64 (idxOfS F x)) ∧ w' = w := by
  obtain ⟨a, c, rfl, hc, hnil, hcell⟩ := h
  by_cases h0 : F = []
  · subst h0
    exact Any.slices_Index_string_empty idxLays a c x w
  · obtain ⟨b, off, rfl, _, hcc⟩ := hcell h0
    have hh := Any.slices_Index_string idxLays b off F.length c F x w (Nat.le_refl _) (by omega) (fun j hj => by
      have e : F[j]? = some F[j] := List.getElem?_eq_getElem hj
      rw [hcc j _ e, List.getD_eq_getElem?_getD, e]
      rfl)
    rw [List.take_length] at hh
    exact hh
/-- a slice, laid into a cell of its own -/
def Cap (w : World) (p : Nat) (v : Value) : Prop := w.heap[p]? = some (.cells #[v] 22 (0, 0))
set_option maxRecDepth 20000 in
set_option maxHeartbeats 1000000 in
theorem renaming_any (w : World) (a1 a2 : Option Addr) (n1 c1 n2 c2 : Nat) : Calls Tryd.prog 23 #[.slice a1 n1 c1, .slice a2 n2 c2] w fun e w' => (∃ p q, e = .returned (.func (.func 34) #[] #[.pointer (some ⟨p, 0, none⟩), .pointer (some ⟨q, 0, none⟩)]) ∧ Cap w' p (.slice a1 n1 c1) ∧ Cap w' q (.slice a2 n2 c2)) ∧ Below w.heap.size w w' := by
  go_enter Tryd.func23, Tryd.ntmps23
  go_wp2
  go_ret
  refine ⟨⟨_, _, rfl, ?_, ?_⟩, ((Below.refl _ _).alloc (Nat.le_refl _) _).alloc (by simp) _⟩
  · unfold Cap
    rw [Below.heap_alloc _ _ _ (by simp)]
    exact heap_new _ _
  · have h := heap_new (w.alloc (.cells #[.slice a1 n1 c1] 22)) (.cells #[.slice a2 n2 c2] 22)
    simpa [Cap] using h
theorem Cap.below {w w' : World} {p : Nat} {v : Value} (h : Cap w p v) (hb : Below w.heap.size w w') : Cap w' p v := (hb.block _ (heap_lt h)).trans h

theorem Cap.cell {w : World} {p : Nat} {v : Value} (h : Cap w p v) : w.cell? ⟨p, 0, none⟩ = some v := by rw [cell_of_heap h]; rfl
set_option maxRecDepth 20000 in
set_option maxHeartbeats 1000000 in
theorem clo_any (w : World) (p q : Nat) (f t : Value) (F T : List ByteArray) (x : ByteArray) (hp : Cap w p f) (hq : Cap w q t) (hF : See w f F) (hT : See w t T) (hl : F.length = T.length) (hn : F.length ≤ 9223372036854775000) :
    Calls Tryd.prog 34 #[.string x, .pointer (some ⟨p, 0, none⟩), .pointer (some ⟨q, 0, none⟩)] w fun e w' => e = .returned (.string (chg F T x)) ∧ Below w.heap.size w w' := by
  have hi := index_any w f F x hF hn
  have hcp := hp.cell
  have hcq := hq.cell
  obtain ⟨a1, k1, rfl, -⟩ := hF
  by_cases hx : x ∈ F
  · obtain ⟨k, hk, hne, hix⟩ := idx_place hx
    have hkl := (List.getElem?_eq_some_iff.1 hk).1
    obtain ⟨y, hy⟩ : ∃ y, T[k]? = some y := ⟨_, List.getElem?_eq_getElem (by rw [← hl]; exact hkl)⟩
    rw [chg_hit k hk hne hy]
    rw [hix] at hi
    obtain ⟨a2, k2, rfl, hk2, -⟩ := id hT
    obtain ⟨b, off, rfl, hc⟩ := hT.cell hy
    have hkI : (k : Int) < (T.length : Int) := by omega
    have hk0 : (0 : Int) ≤ (k : Int) := by omega
    clear hne hk hy hix hx
    generalize F.length = m at *
    generalize T.length = n at *
    subst hl
    go_enter Tryd.func34, Tryd.ntmps34
    go_wp2_with (go_at_call 35; refine hi.mono ?_; rintro e w4 ⟨rfl, h4⟩; rw [h4]; clear h4 w4)
    go_ret
    exact ⟨rfl, Below.refl _ _⟩
  · rw [chg_miss hx]
    rw [idx_miss hx] at hi
    obtain ⟨a2, k2, rfl, -⟩ := hT
    generalize F.length = m at *
    generalize T.length = n at *
    subst hl
    go_enter Tryd.func34, Tryd.ntmps34
    go_wp2_with (go_at_call 35; refine hi.mono ?_; rintro e w4 ⟨rfl, h4⟩; rw [h4]; clear h4 w4)
    go_ret
    exact ⟨rfl, Below.refl _ _⟩

/-- the closure, at any world behind -/
def CloC (w : World) (p q : Nat) (F T : List ByteArray) : Prop := ∀ W x, Below w.heap.size w W → Calls Tryd.prog 34 #[.string x, .pointer (some ⟨p, 0, none⟩), .pointer (some ⟨q, 0, none⟩)] W fun e w' => e = .returned (.string (chg F T x)) ∧ Below W.heap.size W w'
set_option maxRecDepth 20000 in
set_option maxHeartbeats 1000000 in
theorem eachR_any (w : World) (v : Value) (L F T : List ByteArray) (h1 : See w v L) (hn : L.length ≤ 16) (p q : Nat) (hC : CloC w p q F T) : Calls Tryd.prog 19 #[v, .func (.func 34) #[] #[.pointer (some ⟨p, 0, none⟩), .pointer (some ⟨q, 0, none⟩)]] w fun e w' => (∃ u, e = .returned u ∧ Own w' w.heap.size u (L.map (chg F T))) ∧ Below w.heap.size w w' := by
  have HA : Hid (∀ W, Below w.heap.size w W → See W v L) := fun W hb => h1.below hb
  have HC : Hid (CloC w p q F T) := hC
  obtain ⟨a1, k1, rfl, -⟩ := h1
  obtain ⟨n, hl⟩ : ∃ n, L.length = n := ⟨_, rfl⟩
  rw [hl] at HA hn ⊢
  have HL : Hid (L.length = n) := hl
  have hmk := make_cap n (by omega)
  have HO := made_own n (by omega) w
  have HB0 : Hid (Below w.heap.size w (w.alloc (.cells (madeCells #[.string { data := #[] }] n) 9))) := (Below.refl _ _).alloc (Nat.le_refl _) _
  clear hl hC
  generalize madeCells #[.string { data := #[] }] n = cs at *
  obtain ⟨G, hG⟩ : ∃ G, G = chg F T := ⟨_, rfl⟩
  rw [← hG]
  have HG : Hid (G = chg F T) := hG
  clear hG
  go_enter Tryd.func19, Tryd.ntmps19
  go_wp2_with fail
  go_loopg [5, 13] n (fun gk ov iv wr => ∃ k : Nat, k + gk = n ∧ iv = .int .i64 (k : Int) ∧ Own wr w.heap.size ov ((L.take k).map G) ∧ Hid (Below w.heap.size w wr))
  case atStart => exact ⟨0, by omega, rfl, HO, HB0⟩
  case round =>
    obtain ⟨k, hk, rfl, hown, HW⟩ := hrel
    have HKG : Hid (k + gk = n) := hk
    have hkn : k ≤ n := by omega
    clear hk
    by_cases hlt : k < n
    · have hltI : (k : Int) < (n : Int) := by omega
      obtain ⟨x, hx⟩ : ∃ x, L[k]? = some x := ⟨_, List.getElem?_eq_getElem (by have := HL.out; omega)⟩
      obtain ⟨b, off, rfl, hc⟩ := (HA.out _ HW.out).cell hx
      have hcl := HC.out wr x HW.out
      rw [← HG.out] at hcl
      have HX : Hid ((L.take (k + 1)).map G = (L.take k).map G ++ [G x]) := by show _ = _; rw [List.take_add_one, hx]; simp
      have HKL : Hid ((((L.take k).map G).length + [G x].length) * 16 ≤ 140737488355328) := by show _ ≤ _; rw [List.length_map, List.length_take, HL.out]; simp; omega
      clear hx
      generalize G x = y at *
      obtain ⟨M, hM⟩ : ∃ M, (L.take k).map G = M := ⟨_, rfl⟩
      rw [hM] at hown HX HKL
      clear hM
      have HO1 : Hid _ := hown
      clear hown
      go_wp2_with (first
        | (go_at_call 34; refine hcl.mono ?_; rintro e w1 ⟨rfl, hb1⟩)
        | (at_builtin; refine wpList_app rfl _ _ rfl w.heap.size _ _ M [y] rfl (World.ownsRow.alloc (Own.below (B := w.heap.size) (L := M) HO1.out hb1) _) rfl (see_new w1 _ [y] 1 1 rfl rfl (Nat.le_refl _)) HKL.out (by have := hb1.size; have := HW.out.size; simp; omega) ?_; intro v2 w2 ho2 hb2))
      go_roundg (gk - 1)
      case measure => have := HKG.out; omega
      case rel => exact ⟨k + 1, by have := HKG.out; omega, by go_num, by rw [HX.out]; exact ho2, (HW.out.trans ((hb1.alloc hb1.size _).mono HW.out.size)).trans hb2⟩
    · obtain rfl : k = n := by omega
      have hltI : ¬ (k : Int) < (k : Int) := by omega
      rw [List.take_of_length_le (by rw [HL.out]; exact Nat.le_refl _)] at hown
      have HE : Hid _ := hown
      clear hown
      go_wp2
      go_ret
      exact ⟨⟨_, rfl, HE.out⟩, HW.out⟩

set_option maxRecDepth 20000 in
set_option maxHeartbeats 1000000 in
theorem map_any (w : World) (s : ByteArray) (f t : Value) (F T : List ByteArray) (hF : See w f F) (hT : See w t T) (hn : F.length ≤ 9223372036854775000) :
    Calls Tryd.prog 12 #[.string s, f, t] w fun e w' => e = .returned (.tuple #[.string (mapY s F T), .int .i64 (mapE s F T)]) ∧ Below w.heap.size w w' := by
  have hp := parse_any s w
  by_cases h0 : parseE s = 0
  · rw [h0] at hp
    by_cases hl : F.length = T.length
    · have eE : mapE s F T = fault ((parseY s).map (chg F T)) := by unfold mapE; rw [if_pos h0, if_pos hl]
      have eY : mapY s F T = textY ((parseY s).map (chg F T)) := by unfold mapY; rw [if_pos ⟨h0, hl⟩]
      rw [eE, eY]
      have hpl := (parse_len s).1
      have HTX : Hid (∀ W v, See W v ((parseY s).map (chg F T)) → Calls Tryd.prog 21 #[v] W fun e w' => e = .returned (.tuple #[.string (textY ((parseY s).map (chg F T))), .int .i64 (fault ((parseY s).map (chg F T)))]) ∧ Below W.heap.size W w') := fun W v hv => text_any W v _ hv (by rw [List.length_map]; omega)
      have HRN : Hid (∀ W, Below w.heap.size w W → Calls Tryd.prog 23 #[f, t] W fun e w' => (∃ p q, e = .returned (.func (.func 34) #[] #[.pointer (some ⟨p, 0, none⟩), .pointer (some ⟨q, 0, none⟩)]) ∧ CloC w' p q F T) ∧ Below W.heap.size W w') := fun W hb => by
        have hF' := hF.below hb
        have hT' := hT.below hb
        obtain ⟨a1, k1, e1, -⟩ := id hF'
        obtain ⟨a2, k2, e2, -⟩ := id hT'
        subst e1 e2
        refine (renaming_any W a1 a2 F.length k1 T.length k2).mono fun e w' ⟨⟨p, q, he, hc1, hc2⟩, hb2⟩ => ⟨⟨p, q, he, fun W2 x hb3 => ?_⟩, hb2⟩
        exact clo_any W2 p q _ _ F T x (hc1.below hb3) (hc2.below hb3) ((hF'.below hb2).below hb3) ((hT'.below hb2).below hb3) hl hn
      have HEA : Hid (∀ W v p q, See W v (parseY s) → CloC W p q F T → Calls Tryd.prog 19 #[v, .func (.func 34) #[] #[.pointer (some ⟨p, 0, none⟩), .pointer (some ⟨q, 0, none⟩)]] W fun e w' => (∃ u, e = .returned u ∧ Own w' W.heap.size u ((parseY s).map (chg F T))) ∧ Below W.heap.size W w') := fun W v p q hv hc => eachR_any W v _ F T hv hpl p q hc
      obtain ⟨a1, k1, rfl, -⟩ := hF
      obtain ⟨a2, k2, rfl, -⟩ := hT
      clear eE eY h0 hpl
      generalize (parseY s).map (chg F T) = M at *
      generalize textY M = Y at *
      generalize fault M = E at *
      generalize parseY s = L at *
      obtain ⟨m, hm⟩ : ∃ m, F.length = m := ⟨_, rfl⟩
      rw [← hl] at HRN ⊢
      rw [hm] at HRN hn ⊢
      clear hm hl
      go_enter Tryd.func12, Tryd.ntmps12
      go_wp2_with (first
        | (go_at_call 6; refine hp.mono ?_; rintro e w1 ⟨⟨u1, rfl, ho1⟩, hb1⟩)
        | (go_at_call 23; refine (HRN.out _ hb1).mono ?_; rintro e w2 ⟨⟨p, q, rfl, hc2⟩, hb2⟩)
        | (go_at_call 19; refine (HEA.out _ _ _ _ ((ho1.below hb2).see) hc2).mono ?_; rintro e w3 ⟨⟨u3, rfl, ho3⟩, hb3⟩)
        | (go_at_call 21; refine (HTX.out _ _ ho3.see).mono ?_; rintro e w4 ⟨rfl, hb4⟩))
      go_ret2
      have h12 := hb1.trans (hb2.mono hb1.size)
      have h13 := h12.trans (hb3.mono h12.size)
      exact ⟨rfl, h13.trans (hb4.mono h13.size)⟩
    · have eE : mapE s F T = 1 := by unfold mapE; rw [if_pos h0, if_neg hl]
      have eY : mapY s F T = str [] := by unfold mapY; rw [if_neg (fun h => hl h.2)]
      rw [eE, eY]
      obtain ⟨a1, k1, rfl, -⟩ := hF
      obtain ⟨a2, k2, rfl, -⟩ := hT
      have hlI : ¬ (F.length : Int) = (T.length : Int) := by omega
      clear eE eY
      generalize F.length = m at *
      generalize T.length = n at *
      go_enter Tryd.func12, Tryd.ntmps12
      go_wp2_with (go_at_call 6; refine hp.mono ?_; rintro e w1 ⟨⟨u1, rfl, ho1⟩, hb1⟩)
      go_ret2
      exact ⟨rfl, hb1⟩
  · have eE : mapE s F T = parseE s := by unfold mapE; rw [if_neg h0]
    have eY : mapY s F T = str [] := by unfold mapY; rw [if_neg (fun h => h0 h.1)]
    rw [eE, eY]
    obtain ⟨a1, k1, rfl, -⟩ := hF
    obtain ⟨a2, k2, rfl, -⟩ := hT
    clear eE eY
    generalize parseE s = E at *
    generalize F.length = m at *
    generalize T.length = n at *
    go_enter Tryd.func12, Tryd.ntmps12
    go_wp2_with (go_at_call 6; refine hp.mono ?_; rintro e w1 ⟨⟨u1, rfl, ho1⟩, hb1⟩)
    go_ret2
    exact ⟨rfl, hb1⟩
end Go.Proofs.YtpoipgmphhfgeabDoor.Pa
