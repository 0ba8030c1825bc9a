import Derived.Test.YtbjiamaaocjbfaaDoorLwH
namespace Go.Proofs.YtbjiamaaocjbfaaDoor.Kl
open Go.RowKit Go.Lib Go.Deep Kr Kp

theorem ringCells_take (ss : List Slot) (k : Nat) (s : Slot) (h : ss[k]? = some s) : ringCells (ss.take (k + 1)) = ringCells (ss.take k) ++ [.string (str s.salt), .int .i64 s.rounds, .string (str s.wrapped)] := by
  rw [List.take_add_one, h]
  simp [ringCells, slotCells]

def behC : List Value := [.string { data := #[98, 101, 104, 105, 110, 100] }, .int .i64 0, .string { data := #[] }]
/-- the list that is lent, with one more behind it -/
structure Lent (W : World) (g c n : Nat) (xs : List Slot) : Prop where
  ex : ∃ cur, W.heap[g]? = some (.cells cur 26 (0, 0)) ∧ cur.size = 3 * c ∧ cur.toList.take ((n + 1) * 3) = ringCells xs ++ behC
  len : xs.length = n
  room : n + 1 ≤ c
theorem Lent.of {W : World} {B n : Nat} {v : Value} {xs : List Slot} (h : W.ownsRow B 26 3 v (n + 1) (ringCells xs ++ behC)) (hl : xs.length = n) : ∃ g c, v = .slice (some ⟨g, 0, none⟩) (n + 1) c ∧ B ≤ g ∧ c ≤ 9223372036854775807 ∧ Lent W g c n xs := by
  rcases h.2 with ⟨_, h2⟩ | ⟨g, cap, cur, e1, e2, e3, e4, e5, e6, e7⟩
  · omega
  · exact ⟨g, cap, e1, e2, e5, ⟨cur, e3, by omega, e7⟩, hl, by omega⟩
theorem Lent.lt {W : World} {g c n : Nat} {xs : List Slot} (h : Lent W g c n xs) : g < W.heap.size := by
  obtain ⟨cur, h1, _⟩ := h.ex
  exact heap_lt h1
theorem Lent.kept {W W' : World} {g c n : Nat} {xs : List Slot} (h : Lent W g c n xs) (hk : W'.heap[g]? = W.heap[g]?) : Lent W' g c n xs := by
  obtain ⟨cur, h1, h2, h3⟩ := h.ex
  exact ⟨⟨cur, hk.trans h1, h2, h3⟩, h.len, h.room⟩
theorem Lent.below {W W' : World} {g c n : Nat} {xs : List Slot} (h : Lent W g c n xs) (hb : Below W.heap.size W W') : Lent W' g c n xs := h.kept (hb.block _ h.lt)
theorem Lent.cell {W : World} {g c n : Nat} {xs : List Slot} (h : Lent W g c n xs) (j : Nat) (u : Value) (hu : (ringCells xs ++ behC)[j]? = some u) : W.cell? ⟨g, j, none⟩ = some u ∧ W.frozen? ⟨g, j, none⟩ = false := by
  obtain ⟨cur, h1, h2, h3⟩ := h.ex
  have hj := (List.getElem?_eq_some_iff.1 hu).1
  rw [List.length_append, ringCells_length, h.len] at hj
  rw [← h3, List.getElem?_take, if_pos (by have : behC.length = 3 := rfl; omega), Array.getElem?_toList] at hu
  exact ⟨(cell_of_heap h1).trans hu, frozen_of_heap h1⟩
theorem Lent.see {W : World} {g c n : Nat} {xs : List Slot} (h : Lent W g c n xs) : SeeS W (.slice (some ⟨g, 0, none⟩) n c) xs := by
  refine ⟨some ⟨g, 0, none⟩, g, 0, c, by rw [h.len], fun _ => ⟨rfl, h.lt⟩, fun j u hu => ?_⟩
  rw [Nat.zero_add]
  refine (h.cell j u ?_).1
  rw [List.getElem?_append_left (List.getElem?_eq_some_iff.1 hu).1]
  exact hu
theorem Lent.beh {W : World} {g c n : Nat} {xs : List Slot} (h : Lent W g c n xs) : W.cell? ⟨g, n * 3, none⟩ = some (.string { data := #[98, 101, 104, 105, 110, 100] }) ∧ W.cell? ⟨g, n * 3 + 1, none⟩ = some (.int .i64 0) ∧ W.cell? ⟨g, n * 3 + 2, none⟩ = some (.string { data := #[] }) := by
  have e : ∀ j u, behC[j]? = some u → (ringCells xs ++ behC)[n * 3 + j]? = some u := fun j u hu => by
    rw [List.getElem?_append_right (by rw [ringCells_length, h.len]; omega), ringCells_length, h.len, show n * 3 + j - n * 3 = j by omega]
    exact hu
  exact ⟨(h.cell _ _ (e 0 _ rfl)).1, (h.cell _ _ (e 1 _ rfl)).1, (h.cell _ _ (e 2 _ rfl)).1⟩

theorem ringCells_set (ss : List Slot) (u : Nat) (s : Slot) (hu : u < ss.length) : (((ringCells ss).set (u * 3) (.string (str s.salt))).set (u * 3 + 1) (.int .i64 s.rounds)).set (u * 3 + 2) (.string (str s.wrapped)) = ringCells (ss.set u s) := by
  induction ss generalizing u with
  | nil => simp at hu
  | cons x ss ih =>
    have e : ∀ y ys, ringCells (y :: ys) = slotCells y ++ ringCells ys := fun y ys => by simp [ringCells]
    have e3 : ∀ y : Slot, (slotCells y).length = 3 := fun y => rfl
    cases u with
    | zero =>
      rw [e, List.set_cons_zero, e]
      simp [slotCells]
    | succ u =>
      rw [List.set_cons_succ, e, e, ← ih u (by simpa using hu)]
      rw [List.set_append_right _ _ (by rw [e3]; omega), List.set_append_right _ _ (by rw [e3]; omega), List.set_append_right _ _ (by rw [e3]; omega), e3]
      rw [show (u + 1) * 3 - 3 = u * 3 by omega, show (u + 1) * 3 + 1 - 3 = u * 3 + 1 by omega, show (u + 1) * 3 + 2 - 3 = u * 3 + 2 by omega]
theorem Lent.put {W : World} {g c n : Nat} {xs : List Slot} (h : Lent W g c n xs) (m : Nat) (hm : m < n) (s : Slot) : Lent (((W.setCell ⟨g, m * 3, none⟩ (.string (str s.salt))).setCell ⟨g, m * 3 + 1, none⟩ (.int .i64 s.rounds)).setCell ⟨g, m * 3 + 2, none⟩ (.string (str s.wrapped))) g c n (xs.set m s) := by
  obtain ⟨cur, h1, h2, h3⟩ := h.ex
  have r1 := heap_setCell_same W g (m * 3) _ _ (.string (str s.salt)) h1
  have r2 := heap_setCell_same _ g (m * 3 + 1) _ _ (.int .i64 s.rounds) r1
  have r3 := heap_setCell_same _ g (m * 3 + 2) _ _ (.string (str s.wrapped)) r2
  have hl := ringCells_length xs
  rw [h.len] at hl
  refine ⟨⟨_, r3, by simp; omega, ?_⟩, by rw [List.length_set]; exact h.len, h.room⟩
  simp only [Array.toList_setIfInBounds]
  rw [List.take_set, List.take_set, List.take_set, h3, List.set_append_left _ _ (by omega), List.set_append_left _ _ (by rw [List.length_set]; omega), List.set_append_left _ _ (by rw [List.length_set, List.length_set]; omega), ringCells_set xs m s (by rw [h.len]; exact hm)]
theorem set_same (l : List Value) (j : Nat) (v : Value) (h : l[j]? = some v) : l.set j v = l := by
  apply List.ext_getElem?
  intro i
  rw [List.getElem?_set]
  by_cases e : j = i
  · subst e
    rw [if_pos rfl, if_pos (List.getElem?_eq_some_iff.1 h).1, h]
  · rw [if_neg e]
theorem Lent.round {W : World} {g c n : Nat} {xs : List Slot} (h : Lent W g c n xs) (m : Nat) (hm : m < n) (s : Slot) (hs : xs[m]? = some s) (z : Int) : Lent (W.setCell ⟨g, m * 3 + 1, none⟩ (.int .i64 z)) g c n (xs.set m ⟨s.salt, z, s.wrapped⟩) := by
  obtain ⟨cur, h1, h2, h3⟩ := h.ex
  have r2 := heap_setCell_same W g (m * 3 + 1) _ _ (.int .i64 z) h1
  have hl := ringCells_length xs
  rw [h.len] at hl
  obtain ⟨a0, a1, a2⟩ := ring_at xs m s hs
  refine ⟨⟨_, r2, by simp; omega, ?_⟩, by rw [List.length_set]; exact h.len, h.room⟩
  simp only [Array.toList_setIfInBounds]
  have e := ringCells_set xs m ⟨s.salt, z, s.wrapped⟩ (by rw [h.len]; exact hm)
  rw [set_same _ _ _ a0, set_same _ _ _ (by rw [List.getElem?_set_ne (by omega)]; exact a2)] at e
  rw [List.take_set, h3, List.set_append_left _ _ (by have := (List.getElem?_eq_some_iff.1 a1).1; omega), e]
theorem Lent.at {W : World} {g c n : Nat} {xs : List Slot} (h : Lent W g c n xs) (m : Nat) (s : Slot) (hs : xs[m]? = some s) : (W.cell? ⟨g, m * 3, none⟩ = some (.string (str s.salt)) ∧ W.cell? ⟨g, m * 3 + 1, none⟩ = some (.int .i64 s.rounds) ∧ W.cell? ⟨g, m * 3 + 2, none⟩ = some (.string (str s.wrapped))) ∧ W.frozen? ⟨g, m * 3, none⟩ = false ∧ W.frozen? ⟨g, m * 3 + 1, none⟩ = false ∧ W.frozen? ⟨g, m * 3 + 2, none⟩ = false := by
  obtain ⟨a0, a1, a2⟩ := ring_at xs m s hs
  have e : ∀ j u, (ringCells xs)[j]? = some u → (ringCells xs ++ behC)[j]? = some u := fun j u hu => by rw [List.getElem?_append_left (List.getElem?_eq_some_iff.1 hu).1]; exact hu
  have b0 := h.cell _ _ (e _ _ a0)
  have b1 := h.cell _ _ (e _ _ a1)
  have b2 := h.cell _ _ (e _ _ a2)
  exact ⟨⟨b0.1, b1.1, b2.1⟩, b0.2, b1.2, b2.2⟩

set_option maxRecDepth 20000 in
set_option maxHeartbeats 2000000 in
theorem prints_walk (id : List UInt8) (a : Option Addr) (n cap : Nat) (ss : List Slot) (hss : ss.length = n) (w : World) (hS : SeeS w (.slice a n cap) ss) (hid : id.length ≤ 140737488355328) (hn : (n + 1) * 40 ≤ 140737488355328) (hT : Tabs w) (hRT : RTabs w) (hI : ITab w) (h4 : 8 ≤ w.heap.size) :
    Calls Tryd.prog 3 #[.agg #[.string (str id), .slice a n cap]] w fun e w' => e = .returned (.bool true) ∧ Below w.heap.size w w' := by
  obtain ⟨a', b, off, cap', hv, h2, h3⟩ := hS.ex
  rw [hss] at hv h2
  injection hv with e1 e2 e3
  subst e1 e3
  have H3 : Hid (∀ j u, (ringCells ss)[j]? = some u → w.cell? ⟨b, off + j, none⟩ = some u) := h3
  have HS : Hid _ := hS
  clear h3 hS e2
  obtain ⟨W0, hW0⟩ : ∃ W, w.alloc (.cells #[.string (str id), .slice a n cap] 24) = W := ⟨_, rfl⟩
  have hb0 : Below w.heap.size w W0 := by rw [← hW0]; exact (Below.refl _ _).alloc (Nat.le_refl _) _
  have hs0 : W0.heap.size = w.heap.size + 1 := by rw [← hW0]; simp
  have hp0 : W0.heap[w.heap.size]? = some (.cells #[.string (str id), .slice a n cap] 24 (0, 0)) := by rw [← hW0]; exact heap_new _ _
  have HR : Hid (∀ W, Below W0.heap.size W0 W → W.cell? ⟨w.heap.size, 0, none⟩ = some (.string (str id)) ∧ W.cell? ⟨w.heap.size, 1, none⟩ = some (.slice a n cap) ∧ Below w.heap.size w W) := fun W hb => by
    have h := (hb.block w.heap.size (by omega)).trans hp0
    exact ⟨(cell_of_heap h).trans rfl, (cell_of_heap h).trans rfl, hb0.trans (hb.mono (by omega))⟩
  have HL : Hid (ss.length = n) := hss
  obtain ⟨x0, x1, _⟩ := HR.out _ (Below.refl _ _)
  have hn' : n ≤ 3518437208882 := by omega
  clear hss hs0 hp0
  obtain ⟨i0, hi, hz0, hz1, hz2⟩ := info_S
  go_enter Tryd.func3, Tryd.ntmps3
  go_wp2
  go_loopg [3, 4] n (fun gk v i wr => ∃ k : Nat, k + gk = n ∧ i = .int .i64 (k : Int) ∧ Hid (wr.ownsRow W0.heap.size 26 3 v k (ringCells (ss.take k))) ∧ Below W0.heap.size W0 wr)
  case atStart => exact ⟨0, by omega, rfl, ⟨rfl, .inl ⟨rfl, rfl⟩⟩, Below.refl _ _⟩
  case round =>
    clear x0 x1 hW0
    obtain ⟨k, hk, rfl, HO, hbel⟩ := hrel
    have HK : Hid (k + gk = n) := hk
    have hk' : k ≤ n := by omega
    clear hk
    obtain ⟨r0, r1, hbw⟩ := HR.out _ hbel
    by_cases hlt : k < n
    · have hltI : (k : Int) < (n : Int) := by omega
      obtain ⟨rfl, hb1⟩ := h2 (by omega)
      obtain ⟨s, hs⟩ : ∃ s, ss[k]? = some s := ⟨_, List.getElem?_eq_getElem (by have := HL.out; omega)⟩
      obtain ⟨a0, a1, a2⟩ := ring_at ss k s hs
      have c0 := (hbw.cell (p := ⟨b, off + k * 3, none⟩) hb1).trans (H3.out _ _ a0)
      have c1 := (hbw.cell (p := ⟨b, off + (k * 3 + 1), none⟩) hb1).trans (H3.out _ _ a1)
      have c2 := (hbw.cell (p := ⟨b, off + (k * 3 + 2), none⟩) hb1).trans (H3.out _ _ a2)
      rw [← Nat.add_assoc] at c1 c2
      clear a0 a1 a2
      have HT : Hid (ringCells (ss.take (k + 1)) = ringCells (ss.take k) ++ [.string (str s.salt), .int .i64 s.rounds, .string (str s.wrapped)]) := ringCells_take ss k s hs
      generalize str s.salt = xa at c0 HT
      generalize str s.wrapped = xc at c2 HT
      generalize s.rounds = xr at c1 HT
      have hnews : ∀ (j : Nat) q, ([.string xa, .int .i64 xr, .string xc] : List Value)[j]? = some q → (wr.alloc (.cells #[.string xa, .int .i64 xr, .string xc] 26)).cell? (Addr.add ⟨wr.heap.size, 0, none⟩ j) = some q := fun j q h => cells_new wr #[.string xa, .int .i64 xr, .string xc] 26 j q (by simpa using h)
      have hone : ∀ q ∈ ([.string xa, .int .i64 xr, .string xc] : List Value), q.oneCell' = true := fun q hq => by
        simp at hq
        rcases hq with rfl | rfl | rfl <;> rfl
      have HN : Hid _ := hnews
      have HB9 : Hid (Below W0.heap.size W0 (wr.alloc (.cells #[.string xa, .int .i64 xr, .string xc] 26))) := hbel.alloc hbel.size _
      clear hs hnews hbw
      go_wp2_with (at_builtin; refine wpList_append_own _ rfl _ _ 22 rfl W0.heap.size 26 i0 (.agg #[.string { data := #[] }, .int .i64 0, .string { data := #[] }]) 3 40 Tryd.underlying22 hi hz0 hz1 hz2 rfl (by decide) _ k (ringCells (ss.take k)) rfl (HO.out.alloc _) ⟨wr.heap.size, 0, none⟩ 1 1 [.string xa, .int .i64 xr, .string xc] rfl rfl HN.out hone (by unfold maxLen; omega) (by omega) HB9.out.size ?_; intro v' w' hown' hgrow' _; refine Hid.out ?_)
      unfold Hid
      go_wp2
      go_roundg (gk - 1)
      case measure => have := HK.out; omega
      case rel => exact ⟨k + 1, by have := HK.out; omega, by go_num, by rw [HT.out]; exact hown', HB9.out.trans (grown_below hgrow' HB9.out.size (HO.out.alloc _))⟩
    · obtain rfl : k = n := by omega
      have hltI : ¬ (k : Int) < (k : Int) := by omega
      rw [List.take_of_length_le (by have := HL.out; omega)] at HO
      have hnews : ∀ (j : Nat) q, ([.string { data := #[98, 101, 104, 105, 110, 100] }, .int .i64 0, .string { data := #[] }] : List Value)[j]? = some q → (wr.alloc (.cells #[.string { data := #[98, 101, 104, 105, 110, 100] }, .int .i64 0, .string { data := #[] }] 26)).cell? (Addr.add ⟨wr.heap.size, 0, none⟩ j) = some q := fun j q h => cells_new wr #[.string { data := #[98, 101, 104, 105, 110, 100] }, .int .i64 0, .string { data := #[] }] 26 j q (by simpa using h)
      have hone : ∀ q ∈ ([.string { data := #[98, 101, 104, 105, 110, 100] }, .int .i64 0, .string { data := #[] }] : List Value), q.oneCell' = true := fun q hq => by
        simp at hq
        rcases hq with rfl | rfl | rfl <;> rfl
      have HN : Hid _ := hnews
      have HB9 : Hid (Below W0.heap.size W0 (wr.alloc (.cells #[.string { data := #[98, 101, 104, 105, 110, 100] }, .int .i64 0, .string { data := #[] }] 26))) := hbel.alloc hbel.size _
      clear hnews hbw hbel
      go_wp2_with (at_builtin; refine wpList_append_own _ rfl _ _ 22 rfl W0.heap.size 26 i0 (.agg #[.string { data := #[] }, .int .i64 0, .string { data := #[] }]) 3 40 Tryd.underlying22 hi hz0 hz1 hz2 rfl (by decide) _ k (ringCells ss) rfl (HO.out.alloc _) ⟨wr.heap.size, 0, none⟩ 1 1 [.string { data := #[98, 101, 104, 105, 110, 100] }, .int .i64 0, .string { data := #[] }] rfl rfl HN.out hone (by unfold maxLen; omega) (by omega) HB9.out.size ?_; intro v' w' hown' hgrow' _; refine Hid.out ?_)
      unfold Hid
      obtain ⟨g, c, rfl, hBg, hcm, hlent⟩ := Lent.of (xs := ss) hown' HL.out
      have hb3 : Below W0.heap.size W0 w' := HB9.out.trans (grown_below hgrow' HB9.out.size (HO.out.alloc _))
      clear hown' hgrow' HB9 HN HO hone r0 r1 HK hk' hltI hlt
      obtain ⟨y0, y1, hbw⟩ := HR.out _ hb3
      have hcI : k ≤ c := by have := hlent.room; omega
      have hn1 : k ≤ 9223372036854775807 := by omega
      have HF : Hid (∀ W, Below w'.heap.size w' W → W.cell? ⟨w.heap.size, 0, none⟩ = some (.string (str id)) ∧ W.cell? ⟨w.heap.size, 1, none⟩ = some (.slice a k cap) ∧ W.cell? ⟨g, k * 3, none⟩ = some (.string { data := #[98, 101, 104, 105, 110, 100] })) := fun W hb => by
        have hb4 : Below W0.heap.size W0 W := hb3.trans (hb.mono hb3.size)
        obtain ⟨q0, q1, _⟩ := HR.out _ hb4
        exact ⟨q0, q1, (hlent.below hb).beh.1⟩
      have K1 : Hid (∀ W, Below w'.heap.size w' W → Calls Tryd.prog 5 #[.agg #[.string (str id), .slice (some ⟨g, 0, none⟩) k c]] W fun e w2 => e = .returned (.tuple #[.string (str (printY id ss)), .int .i64 (printE id ss)]) ∧ Below w'.heap.size w' w2) := fun W hb => by
        have hb4 := (HR.out _ (hb3.trans (hb.mono hb3.size))).2.2
        refine (print_any id (.slice (some ⟨g, 0, none⟩) k c) ss W (hlent.below hb).see hid (by have := HL.out; omega) (hT.below hb4 (by omega)) (hI.below hb4 (by omega)) (by have := hb4.size; omega)).mono ?_
        rintro e w2 ⟨rfl, h⟩
        exact ⟨rfl, hb.trans (h.mono hb.size)⟩
      have K2 : Hid (∀ W, Below w'.heap.size w' W → Calls Tryd.prog 6 #[.agg #[.string (str id), .slice a k cap]] W fun e w2 => e = .returned (.tuple #[.string (str (printY id ss)), .int .i64 (printE id ss)]) ∧ Below w'.heap.size w' w2) := fun W hb => by
        have hb4 := (HR.out _ (hb3.trans (hb.mono hb3.size))).2.2
        refine (rprint_any id (.slice a k cap) ss W (HS.out.below hb4) (by omega) (by have := HL.out; omega) (hI.below hb4 (by omega)) (hRT.below hb4 (by omega)) (by have := hb4.size; omega)).mono ?_
        rintro e w2 ⟨rfl, h⟩
        exact ⟨rfl, hb.trans (h.mono hb.size)⟩
      have K3 : Hid (∀ W, Below w'.heap.size w' W → Calls Tryd.prog 8 #[.agg #[.string (str id), .slice (some ⟨g, 0, none⟩) k c], .agg #[.string (str id), .slice a k cap]] W fun e w2 => e = .returned (.bool true) ∧ Below w'.heap.size w' w2) := fun W hb => by
        have hb4 := (HR.out _ (hb3.trans (hb.mono hb3.size))).2.2
        refine (sameRing_any id id (.slice (some ⟨g, 0, none⟩) k c) (.slice a k cap) ss ss W (hlent.below hb).see (HS.out.below hb4) (by have := HL.out; omega) (by have := HL.out; omega)).mono ?_
        rintro e w2 ⟨rfl, h⟩
        exact ⟨by simp, hb.trans (h.mono hb.size)⟩
      have HLN : Hid _ := hlent
      have HB3 : Hid _ := hb3
      clear hlent hb3 hbw
      generalize hyi : str id = yi at HF K1 K2 K3 y0
      generalize htY : str (printY id ss) = tY at K1 K2
      generalize htE : printE id ss = tE at K1 K2
      go_wp2_with fail
      go_region_held_law (fun W => W.cell? ⟨w.heap.size, 0, none⟩ = some (.string yi) ∧ W.cell? ⟨w.heap.size, 1, none⟩ = some (.slice a k cap) ∧ W.cell? ⟨g, k * 3, none⟩ = some (.string { data := #[98, 101, 104, 105, 110, 100] })) (first | exact HF.out _ (bdN _ _) | exact HF.out _ hb6 | go_keep) (first | (go_at_call 5; refine (K1.out _ (bdN _ _)).mono ?_; rintro e w6 ⟨rfl, hb6⟩))
      obtain ⟨z0, z1, z2⟩ := HF.out _ hb6
      go_wp2_with fail
      refine (K2.out _ hb6).mono ?_
      clear z0 z1 z2 hb6
      rintro e w7 ⟨rfl, hb7⟩
      obtain ⟨z0, z1, z2⟩ := HF.out _ hb7
      have HB7 : Hid (∀ m, Below w'.heap.size w' (w7.drewN m)) := fun m => hb7.trans ((bdN _ _).mono hb7.size)
      clear hb7
      go_wp2_with fail
      go_region_held_law (fun W => W.cell? ⟨w.heap.size, 0, none⟩ = some (.string yi) ∧ W.cell? ⟨w.heap.size, 1, none⟩ = some (.slice a k cap) ∧ W.cell? ⟨g, k * 3, none⟩ = some (.string { data := #[98, 101, 104, 105, 110, 100] })) (first | exact HF.out _ (HB7.out _) | exact HF.out _ hb8 | go_keep) (first | (go_at_call 7; refine (lnum7 _ _).mono ?_; rintro e w5 ⟨rfl, rfl⟩) | (go_at_call 8; refine (K3.out _ (HB7.out _)).mono ?_; rintro e w8 ⟨rfl, hb8⟩))
      have HL8 : Hid (Lent w8 g c k ss) := HLN.out.below hb8
      have HB8 : Hid (Below W0.heap.size W0 w8) := HB3.out.trans (hb8.mono HB3.out.size)
      clear hb8 z0 z1 z2 HF K1 K2 K3 HB7 HLN HB3 y0 y1
      go_wp2
      go_loopg [10] k (fun gj i wx => ∃ (m : Nat) (xs : List Slot), m + gj = k ∧ i = .int .i64 (m : Int) ∧ Hid (Lent wx g c k xs) ∧ Hid (Below W0.heap.size W0 wx))
      case atStart => exact ⟨0, ss, by omega, rfl, HL8, HB8⟩
      case round =>
        clear HL8 HB8
        obtain ⟨m, xs, hm, rfl, HLx, HBx⟩ := hrel
        have HM : Hid (m + gk = k) := hm
        have hm' : m ≤ k := by omega
        clear hm
        by_cases hlt : m < k
        · have hltI : (m : Int) < (k : Int) := by omega
          obtain ⟨p, hp⟩ : ∃ p : Nat, k - 1 - m = p := ⟨_, rfl⟩
          have hpk : p < k := by omega
          have hpI : (k : Int) - 1 - (m : Int) = (p : Int) := by omega
          obtain ⟨s, hs⟩ : ∃ s, xs[p]? = some s := ⟨_, List.getElem?_eq_getElem (by have := HLx.out.len; omega)⟩
          obtain ⟨t, ht⟩ : ∃ t, xs[m]? = some t := ⟨_, List.getElem?_eq_getElem (by have := HLx.out.len; omega)⟩
          obtain ⟨⟨c0, c1, c2⟩, _⟩ := HLx.out.at p s hs
          obtain ⟨⟨d0, d1, d2⟩, f0, f1, f2⟩ := HLx.out.at m t ht
          have h3x := HLx.out.put m hlt s
          obtain ⟨⟨_, l1, _⟩, _, f3, _⟩ := h3x.at m s (by rw [List.getElem?_set_self (by have := HLx.out.len; omega)])
          have HP : Hid (∀ z, Lent _ g c k _) := fun z => h3x.round m hlt s (by rw [List.getElem?_set_self (by have := HLx.out.len; omega)]) z
          have HQ : Hid (∀ z, Below W0.heap.size W0 (((((wr.setCell ⟨g, m * 3, none⟩ (.string (str s.salt))).setCell ⟨g, m * 3 + 1, none⟩ (.int .i64 s.rounds)).setCell ⟨g, m * 3 + 2, none⟩ (.string (str s.wrapped))).setCell ⟨g, m * 3 + 1, none⟩ z))) := fun z => (((HBx.out.setCell hBg _).setCell hBg _).setCell hBg _).setCell hBg _
          clear h3x hs ht HLx HBx hp
          generalize str s.salt = xa at *
          generalize str s.wrapped = xc at *
          generalize s.rounds = xb at *
          generalize str t.salt = ya at *
          generalize str t.wrapped = yc at *
          generalize t.rounds = yb at *
          go_wp2
          go_roundg (gk - 1)
          case measure => have := HM.out; omega
          case rel => exact ⟨m + 1, _, by have := HM.out; omega, by go_num, HP.out _, HQ.out _⟩
        · obtain rfl : m = k := by omega
          have hltI : ¬ (m : Int) < (m : Int) := by omega
          obtain ⟨V, hVe⟩ : ∃ V, V = wr := ⟨_, rfl⟩
          subst hVe
          go_wp2
          go_loopg [11, 12] m (fun gk v i wr => ∃ j : Nat, j + gk = m ∧ i = .int .i64 (j : Int) ∧ Hid (wr.ownsRow V.heap.size 26 3 v j (ringCells (xs.take j))) ∧ Below V.heap.size V wr)
          case atStart => exact ⟨0, by omega, rfl, ⟨rfl, .inl ⟨rfl, rfl⟩⟩, Below.refl _ _⟩
          case round =>
            obtain ⟨j, hj, rfl, HO, hbel⟩ := hrel
            have HK : Hid (j + gk = m) := hj
            have hj' : j ≤ m := by omega
            clear hj
            by_cases hlj : j < m
            · have hltJ : (j : Int) < (m : Int) := by omega
              have hjI : (j : Int) < (m : Int) + 1 := by omega
              obtain ⟨s, hs⟩ : ∃ s, xs[j]? = some s := ⟨_, List.getElem?_eq_getElem (by have := HLx.out.len; omega)⟩
              obtain ⟨⟨c0, c1, c2⟩, _⟩ := (HLx.out.below hbel).at j s hs
              have HT : Hid (ringCells (xs.take (j + 1)) = ringCells (xs.take j) ++ [.string (str s.salt), .int .i64 s.rounds, .string (str s.wrapped)]) := ringCells_take xs j s hs
              generalize str s.salt = xa at c0 HT
              generalize str s.wrapped = xc at c2 HT
              generalize s.rounds = xr at c1 HT
              have hnews : ∀ (j : Nat) q, ([.string xa, .int .i64 xr, .string xc] : List Value)[j]? = some q → (wr.alloc (.cells #[.string xa, .int .i64 xr, .string xc] 26)).cell? (Addr.add ⟨wr.heap.size, 0, none⟩ j) = some q := fun j q h => cells_new wr #[.string xa, .int .i64 xr, .string xc] 26 j q (by simpa using h)
              have hone : ∀ q ∈ ([.string xa, .int .i64 xr, .string xc] : List Value), q.oneCell' = true := fun q hq => by
                simp at hq
                rcases hq with rfl | rfl | rfl <;> rfl
              have HN : Hid _ := hnews
              have HB9 : Hid (Below V.heap.size V (wr.alloc (.cells #[.string xa, .int .i64 xr, .string xc] 26))) := hbel.alloc hbel.size _
              clear hs hnews hbel
              go_wp2_with (at_builtin; refine wpList_append_own _ rfl _ _ 22 rfl V.heap.size 26 i0 (.agg #[.string { data := #[] }, .int .i64 0, .string { data := #[] }]) 3 40 Tryd.underlying22 hi hz0 hz1 hz2 rfl (by decide) _ j (ringCells (xs.take j)) rfl (HO.out.alloc _) ⟨wr.heap.size, 0, none⟩ 1 1 [.string xa, .int .i64 xr, .string xc] rfl rfl HN.out hone (by unfold maxLen; omega) (by omega) HB9.out.size ?_; intro v' w' hown' hgrow' _; refine Hid.out ?_)
              unfold Hid
              go_wp2
              go_roundg (gk - 1)
              case measure => have := HK.out; omega
              case rel => exact ⟨j + 1, by have := HK.out; omega, by go_num, by rw [HT.out]; exact hown', HB9.out.trans (grown_below hgrow' HB9.out.size (HO.out.alloc _))⟩
            · obtain rfl : j = m := by omega
              have hltJ : ¬ (j : Int) < (j : Int) := by omega
              rw [List.take_of_length_le (by have := HLx.out.len; omega)] at HO
              obtain ⟨av, cv, rfl⟩ := owns_len HO.out
              have hown : OwnS wr V.heap.size (.slice av j cv) xs := by
                unfold OwnS
                rw [HLx.out.len]
                exact HO.out
              obtain ⟨U, hUe⟩ : ∃ U, U = wr := ⟨_, rfl⟩
              subst hUe
              have hb3 : Below W0.heap.size W0 U := HBx.out.trans (hbel.mono HBx.out.size)
              have hlent : Lent U g c j xs := HLx.out.below hbel
              have hcI : j ≤ c := by have := hlent.room; omega
              have hlx : xs.length = j := hlent.len
              have HF : Hid (∀ W, Below U.heap.size U W → W.cell? ⟨w.heap.size, 0, none⟩ = some (.string yi) ∧ W.cell? ⟨w.heap.size, 1, none⟩ = some (.slice a j cap)) := fun W hb => by
                obtain ⟨q0, q1, _⟩ := HR.out _ (hb3.trans (hb.mono hb3.size))
                rw [hyi] at q0
                exact ⟨q0, q1⟩
              have HBW : Hid (∀ W, Below U.heap.size U W → Below w.heap.size w W) := fun W hb => (HR.out _ (hb3.trans (hb.mono hb3.size))).2.2
              have K1 : Hid (∀ W, Below U.heap.size U W → Calls Tryd.prog 5 #[.agg #[.string yi, .slice (some ⟨g, 0, none⟩) j c]] W fun e w2 => e = .returned (.tuple #[.string (str (printY id xs)), .int .i64 (printE id xs)]) ∧ Below U.heap.size U w2) := fun W hb => by
                have hb4 := HBW.out W hb
                rw [← hyi]
                refine (print_any id (.slice (some ⟨g, 0, none⟩) j c) xs W (hlent.below hb).see hid (by omega) (hT.below hb4 (by omega)) (hI.below hb4 (by omega)) (by have := hb4.size; omega)).mono ?_
                rintro e w2 ⟨rfl, h⟩
                exact ⟨rfl, hb.trans (h.mono hb.size)⟩
              have K2 : Hid (∀ W, Below U.heap.size U W → Calls Tryd.prog 6 #[.agg #[.string yi, .slice av j cv]] W fun e w2 => e = .returned (.tuple #[.string (str (printY id xs)), .int .i64 (printE id xs)]) ∧ Below U.heap.size U w2) := fun W hb => by
                have hb4 := HBW.out W hb
                rw [← hyi]
                refine (rprint_any id (.slice av j cv) xs W ((SeeS.of_own hown).below hb) (by omega) (by omega) (hI.below hb4 (by omega)) (hRT.below hb4 (by omega)) (by have := hb4.size; omega)).mono ?_
                rintro e w2 ⟨rfl, h⟩
                exact ⟨rfl, hb.trans (h.mono hb.size)⟩
              have K4 : Hid (∀ W, Below U.heap.size U W → Calls Tryd.prog 9 #[] W fun e w2 => e = .returned (.bool true) ∧ Below U.heap.size U w2) := fun W hb => by
                have hb4 := HBW.out W hb
                refine (head_any W (hT.below hb4 (by omega)) (by have := hb4.size; omega)).mono ?_
                rintro e w2 ⟨rfl, h⟩
                exact ⟨rfl, hb.trans (h.mono hb.size)⟩
              generalize str (printY id xs) = tX at K1 K2
              generalize printE id xs = tF at K1 K2
              clear HO hown hbel hlent hlx HLx HBx hb3
              go_wp2_with fail
              go_region_held_law (fun W => W.cell? ⟨w.heap.size, 0, none⟩ = some (.string yi) ∧ W.cell? ⟨w.heap.size, 1, none⟩ = some (.slice a j cap)) (first | exact HF.out _ (bdN _ _) | exact HF.out _ hb6 | go_keep) (first | (go_at_call 5; refine (K1.out _ (bdN _ _)).mono ?_; rintro e w6 ⟨rfl, hb6⟩))
              obtain ⟨z0, z1⟩ := HF.out _ hb6
              go_wp2_with fail
              refine (K2.out _ hb6).mono ?_
              clear z0 z1 hb6
              rintro e w7 ⟨rfl, hb7⟩
              obtain ⟨z0, z1⟩ := HF.out _ hb7
              go_wp2_with (go_at_call 7; refine (lnum7 _ _).mono ?_; rintro e wn ⟨rfl, rfl⟩)
              refine (K4.out _ hb7).mono ?_
              clear z0 z1 hb7
              rintro e w8 ⟨rfl, hb8⟩
              obtain ⟨z0, z1⟩ := HF.out _ hb8
              by_cases hri : rightR id ss = true
              · have htE0 : tE = 0 := by rw [← htE]; unfold printE; rw [if_pos hri]
                have htY0 : tY = str (printL id ss) := by rw [← htY]; unfold printY; rw [if_pos hri]
                have hb9 := HBW.out _ hb8
                obtain ⟨p1, p2, p3⟩ := parse_print hri
                have K5 := parse_any tY w8 (by rw [htY0, str_data]; have := printL_le hri; omega) (hT.below hb9 (by omega)) (by have := hb9.size; omega)
                rw [show tY.data.toList = printL id ss by rw [htY0, str_data], p1, p2, p3, hyi] at K5
                subst htE0
                have HBU : Hid _ := hb8
                clear K1 K2 K4 p1 p2 p3 htY0 htY htE hb8 hb9
                go_wp2_with fail
                refine K5.mono ?_
                clear K5
                rintro e w9 ⟨⟨a9, n9, c9, rfl, ho9⟩, hb9⟩
                have hbU : Below U.heap.size U w9 := HBU.out.trans (hb9.mono HBU.out.size)
                have hbA : Below U.heap.size U (w9.alloc (.cells #[.string yi, .slice a9 n9 c9] 24)) := hbU.alloc hbU.size _
                obtain ⟨t0, t1⟩ := HF.out _ hbA
                have hA9 : (w9.alloc (.cells #[.string yi, .slice a9 n9 c9] 24)).heap[w9.heap.size]? = some (.cells #[.string yi, .slice a9 n9 c9] 24 (0, 0)) := heap_new _ _
                have t2 : (w9.alloc (.cells #[.string yi, .slice a9 n9 c9] 24)).cell? ⟨w9.heap.size, 0, none⟩ = some (.string yi) := (cell_of_heap hA9).trans rfl
                have t3 : (w9.alloc (.cells #[.string yi, .slice a9 n9 c9] 24)).cell? ⟨w9.heap.size, 1, none⟩ = some (.slice a9 n9 c9) := (cell_of_heap hA9).trans rfl
                have hbw9 := HBW.out _ hbA
                have K6 := sameRing_any id id (.slice a9 n9 c9) (.slice a j cap) ss ss _ ((SeeS.of_own ho9).below ((Below.refl _ _).alloc (Nat.le_refl _) (.cells #[.string yi, .slice a9 n9 c9] 24))) (HS.out.below hbw9) (by have := HL.out; omega) (by have := HL.out; omega)
                rw [show decide (id = id ∧ ss = ss) = true by simp, hyi] at K6
                have HBW9 : Hid _ := hbw9
                clear hbU hbA hA9 hbw9 ho9 hb9 z0 z1
                go_wp2_with (first | (go_at_call 7; refine (lnum7 _ _).mono ?_; rintro e wn ⟨rfl, rfl⟩) | (go_at_call 8; refine K6.mono ?_; rintro e w10 ⟨rfl, hb10⟩))
                go_ret
                exact ⟨rfl, HBW9.out.trans (hb10.mono HBW9.out.size)⟩
              · have htE0 : tE = 72 := by rw [← htE]; unfold printE; rw [if_neg hri]
                subst htE0
                have HB10 := HBW.out _ hb8
                clear K1 K2 K4 htY htE hb8
                go_wp2
                go_ret
                exact ⟨rfl, HB10⟩

end Go.Proofs.YtbjiamaaocjbfaaDoor.Kl
