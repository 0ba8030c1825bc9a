import Derived.Test.YtbjiamaaocjbfaaGreatDoorLfB
import Derived.Test.YtbjiamaaocjbfaaGreatDoorCaE
namespace Go.Proofs.YtbjiamaaocjbfaaGreatDoor.Kp
open Go.RowKit Go.Lib Go.Deep Kr

/-- what a step leaves -/
structure LPost (w : World) (master : List UInt8) (a : Option Addr) (e : Ending) (w' : World) : Prop where
  ex : ∃ (t' : ByteArray) (a' : Option Addr) (n' c' : Nat) (cl : Bool), e = .returned (.tuple #[.agg #[.string t', .string (str master), .slice a' n' c'], .bool true, .bool cl]) ∧ (cl = true → ∃ T ph, t' = str T ∧ Inv T master ph ∧ ph.length = n' ∧ Lst w' a' n' (ph.map str)) ∧ (a' = a ∨ ∀ b off, a' = some ⟨b, off, none⟩ → w.heap.size ≤ b)
  below : Below w.heap.size w w'

theorem info_9 : ∃ i0, Tryz.prog.info? 9 = some i0 ∧ i0.zero = some (.string { data := #[] }) ∧ i0.size = 1 ∧ i0.bytes = 16 := by
  have h := info9
  cases hq : Tryz.prog.info? 9 with
  | none => rw [hq] at h; cases h
  | some i =>
    rw [hq] at h
    simp at h
    exact ⟨i, rfl, h.1, h.2.1, h.2.2⟩
theorem lst_cells {w : World} {b off n : Nat} {ss : List ByteArray} (h : Lst w (some ⟨b, off, none⟩) n ss) : ∀ (j : Nat) q, (strCells ss)[j]? = some q → w.cell? (Addr.add ⟨b, off, none⟩ j) = some q := fun j q hq => by
  unfold strCells at hq
  rw [List.getElem?_map] at hq
  cases hs : ss[j]? with
  | none => rw [hs] at hq; cases hq
  | some s =>
    rw [hs] at hq
    obtain ⟨b', off', e, _, hc⟩ := h.cell j s hs
    injection e with e
    injection e with e1 e2 _
    subst e1 e2
    rw [Addr.add_lit, hc]
    exact hq
theorem owns_bel {w w' : World} {B n size : Nat} {v : Value} {e : TypeId} {xs : List Value} (h : w.ownsRow B e size v n xs) (hb : Below w.heap.size w w') : w'.ownsRow B e size v n xs := by
  obtain ⟨h1, h2⟩ := h
  refine ⟨h1, ?_⟩
  rcases h2 with h0 | ⟨g, cap, cur, e1, e2, e3, e4⟩
  · exact .inl h0
  · exact .inr ⟨g, cap, cur, e1, e2, (hb.block _ (heap_lt e3)).trans e3, e4⟩
theorem oth_add (xs : List Slot) (s : Slot) : Oth xs (xs ++ [s]) (-1) false 1 := by
  refine ⟨(fun h => by cases h), fun i x hx => .inr ⟨x, ?_, fun _ => rfl⟩, ?_⟩
  · show (xs ++ [s])[i]? = some x
    rw [List.getElem?_append_left (List.getElem?_eq_some_iff.1 hx).1]
    exact hx
  · show (xs ++ [s]).length = xs.length + 1
    simp
theorem oth_change (xs : List Slot) (s : Slot) (u : Nat) : Oth xs (xs.set u s) (u : Int) false 0 := by
  refine ⟨(fun h => by cases h), fun i x hx => .inr ?_, ?_⟩
  · show ∃ s', (xs.set u s)[i]? = some s' ∧ _
    by_cases hi : u = i
    · subst hi
      refine ⟨s, ?_, fun h => absurd rfl h⟩
      rw [List.getElem?_set_self (List.getElem?_eq_some_iff.1 hx).1]
    · refine ⟨x, ?_, fun _ => rfl⟩
      rw [List.getElem?_set_ne hi]
      exact hx
  · show (xs.set u s).length = xs.length + 0
    simp
theorem oth_drop (xs : List Slot) (d : Nat) (hd : d < xs.length) : Oth xs (xs.eraseIdx d) (d : Int) true 0 := by
  refine ⟨(fun _ => by omega), fun i x hx => ?_, ?_⟩
  · by_cases hi : (i : Int) = (d : Int)
    · exact .inl ⟨hi, rfl⟩
    · refine .inr ⟨x, ?_, fun _ => rfl⟩
      by_cases hlt : (d : Int) < (i : Int)
      · have hk : kf (d : Int) true i = i - 1 := by unfold kf; rw [if_pos ⟨rfl, hlt⟩]
        rw [hk, List.getElem?_eraseIdx, if_neg (by omega), show i - 1 + 1 = i by omega]
        exact hx
      · have hk : kf (d : Int) true i = i := by unfold kf; rw [if_neg (by omega)]
        rw [hk, List.getElem?_eraseIdx, if_pos (by omega)]
        exact hx
  · unfold kf
    rw [if_pos ⟨rfl, by omega⟩, List.length_eraseIdx_of_lt hd]
    omega
theorem lst_end {W : World} {B n c : Nat} {a : Option Addr} {ss : List ByteArray} (h : W.ownsRow B 9 1 (.slice a n c) n (strCells ss)) : Lst W a n ss := by
  obtain ⟨a', c', e, hl⟩ := lst_owns h
  injection e with e1
  subst e1
  exact hl
theorem below_put3 {w W : World} {p : Nat} (h : Below w.heap.size w W) (hp : w.heap.size ≤ p) (v0 v1 v2 : Value) : Below w.heap.size w (((W.setCell ⟨p, 0, none⟩ v0).setCell ⟨p, 1, none⟩ v1).setCell ⟨p, 2, none⟩ v2) := ((h.setCell hp _).setCell hp _).setCell hp _
theorem owns_put3 {W : World} {B n size p : Nat} {v : Value} {e : TypeId} {xs : List Value} (h : W.ownsRow B e size v n xs) (hp : p < B) (v0 v1 v2 : Value) : (((W.setCell ⟨p, 0, none⟩ v0).setCell ⟨p, 1, none⟩ v1).setCell ⟨p, 2, none⟩ v2).ownsRow B e size v n xs := owns_set (owns_set (owns_set h hp) hp) hp
theorem owns_rowS {W : World} {B n c : Nat} {a : Option Addr} {ss : List ByteArray} (h : W.ownsRow B 9 1 (.slice a n c) n (strCells ss)) (hn : 1 ≤ n) : ∃ g, a = some ⟨g, 0, none⟩ ∧ B ≤ g ∧ g < W.heap.size ∧ n ≤ c ∧ c ≤ 9223372036854775807 ∧ (∀ (j : Nat) u, (strCells ss)[j]? = some u → W.cell? ⟨g, j, none⟩ = some u ∧ W.frozen? ⟨g, j, none⟩ = false) ∧
    ∀ (u : Nat) (s : ByteArray), u < n → (W.setCell ⟨g, u, none⟩ (.string s)).ownsRow B 9 1 (.slice (some ⟨g, 0, none⟩) n c) n (strCells (ss.set u s)) := by
  rcases h.2 with ⟨_, h2⟩ | ⟨g, cap, cur, e1, e2, e3, e4, e5, e6, e7⟩
  · omega
  · injection e1 with f1 f2 f3
    subst f1 f3
    have hl := h.1
    rw [strCells_length] at hl
    refine ⟨g, rfl, e2, heap_lt e3, e4, e5, fun j u hu => ?_, fun u s hu => ?_⟩
    · have hj := (List.getElem?_eq_some_iff.1 hu).1
      rw [strCells_length] at hj
      rw [← e7, List.getElem?_take, if_pos (by omega), Array.getElem?_toList] at hu
      exact ⟨(cell_of_heap e3).trans hu, frozen_of_heap e3⟩
    · have r := heap_setCell_same W g u _ _ (.string s) e3
      refine ⟨by rw [strCells_length, List.length_set]; omega, .inr ⟨g, c, _, rfl, e2, r, e4, e5, by simp; omega, ?_⟩⟩
      simp only [Array.toList_setIfInBounds]
      rw [List.take_set, e7]
      simp [strCells, List.map_set]
theorem owns_ge {W : World} {B B' n size c m : Nat} {a : Option Addr} {e : TypeId} {xs : List Value} (h : W.ownsRow B e size (.slice a m c) n xs) (hB : B' ≤ B) : ∀ b off, a = some ⟨b, off, none⟩ → B' ≤ b := fun b off ha => by
  subst ha
  rcases h.2 with ⟨h1, _⟩ | ⟨g, cap, cur, e1, e2, _⟩
  · cases h1
  · injection e1 with f1 f2 f3
    injection f1 with f1
    injection f1 with f1 _ _
    omega
theorem sizeG : (Tryz.prog.info? 49).map (·.size) = some 3 := by kernel_rfl

set_option maxRecDepth 20000 in
set_option maxHeartbeats 4000000 in
theorem lives_any (t master : List UInt8) (ph : List (List UInt8)) (hI : Inv t master ph) (a : Option Addr) (n c : Nat) (hn : ph.length = n) (x0 x1 x2 x5 : Int) (x3 x4 : ByteArray) (h3 : x3.size ≤ 9223372036854775807) (h4 : x4.size ≤ 9223372036854775807) (w : World) (hL : Lst w a n (ph.map str)) (hT : KT w) :
    Calls Tryz.prog 20 #[.agg #[.string (str t), .string (str master), .slice a n c], .agg #[.int .i64 x0, .int .i64 x1, .int .i64 x2, .string x3, .string x4, .int .i64 x5]] w (LPost w master a) := by
  have hn8 := inv_ph hI
  rw [hn] at hn8
  obtain ⟨W0, hW0⟩ : ∃ W, ((w.alloc (.cells #[.string (str t), .string (str master), .slice a n c] 49)).alloc (.cells #[.int .i64 x0, .int .i64 x1, .int .i64 x2, .string x3, .string x4, .int .i64 x5] 54)).alloc (.cells #[.string { data := #[] }, .string { data := #[] }, .slice none 0 0] 49) = W := ⟨_, rfl⟩
  have hb0 : Below w.heap.size w W0 := by rw [← hW0]; exact (((Below.refl _ _).alloc (Nat.le_refl _) _).alloc (by simp) _).alloc (by simp; omega) _
  have hs0 : W0.heap.size = w.heap.size + 3 := by rw [← hW0]; simp
  have e0 : W0.heap[w.heap.size]? = some (.cells #[.string (str t), .string (str master), .slice a n c] 49 (0, 0)) := by
    rw [← hW0, Below.heap_alloc _ _ _ (by simp; omega), Below.heap_alloc _ _ _ (by simp)]
    exact heap_new _ _
  have e1 : W0.heap[w.heap.size + 1]? = some (.cells #[.int .i64 x0, .int .i64 x1, .int .i64 x2, .string x3, .string x4, .int .i64 x5] 54 (0, 0)) := by
    rw [← hW0, Below.heap_alloc _ _ _ (by simp)]
    have := heap_new (w.alloc (.cells #[.string (str t), .string (str master), .slice a n c] 49)) (.cells #[.int .i64 x0, .int .i64 x1, .int .i64 x2, .string x3, .string x4, .int .i64 x5] 54)
    rw [show (w.alloc (.cells #[.string (str t), .string (str master), .slice a n c] 49)).heap.size = w.heap.size + 1 by simp] at this
    exact this
  have e2 : W0.heap[w.heap.size + 1 + 1]? = some (.cells #[.string { data := #[] }, .string { data := #[] }, .slice none 0 0] 49 (0, 0)) := by
    rw [← hW0]
    have := heap_new ((w.alloc (.cells #[.string (str t), .string (str master), .slice a n c] 49)).alloc (.cells #[.int .i64 x0, .int .i64 x1, .int .i64 x2, .string x3, .string x4, .int .i64 x5] 54)) (.cells #[.string { data := #[] }, .string { data := #[] }, .slice none 0 0] 49)
    rw [show ((w.alloc (.cells #[.string (str t), .string (str master), .slice a n c] 49)).alloc (.cells #[.int .i64 x0, .int .i64 x1, .int .i64 x2, .string x3, .string x4, .int .i64 x5] 54)).heap.size = w.heap.size + 1 + 1 by simp] at this
    exact this
  -- who
  obtain ⟨i, hi⟩ : ∃ i, (x1 % (n : Int)).toNat = i := ⟨_, rfl⟩
  have hin : i < n := by
    have h1 := Int.emod_nonneg x1 (show (n : Int) ≠ 0 by omega)
    have h2 := Int.emod_lt_of_pos x1 (show (0 : Int) < (n : Int) by omega)
    omega
  have cwho := fun W => clipped_any x1 0 n (by omega) (by omega) (by omega) W
  rw [show ((0 + n - 1 : Nat) : Int) = (n : Int) - 1 by omega, hi, Nat.zero_add] at cwho
  obtain ⟨q, hq⟩ : ∃ q, ph[i]? = some q := ⟨_, List.getElem?_eq_getElem (by omega)⟩
  obtain ⟨m, u, hop, hui, hul, hum⟩ := hI.opens hq
  obtain ⟨y, hy⟩ : ∃ y, ph[u]? = some y := ⟨_, List.getElem?_eq_getElem hul⟩
  have hym : y = q → m = master := fun e => hum (by rw [hy, e])
  have HR : Hid (∀ W, Below W0.heap.size W0 W → (W.heap[w.heap.size]? = some (.cells #[.string (str t), .string (str master), .slice a n c] 49 (0, 0)) ∧ W.heap[w.heap.size + 1]? = some (.cells #[.int .i64 x0, .int .i64 x1, .int .i64 x2, .string x3, .string x4, .int .i64 x5] 54 (0, 0)) ∧ W.heap[w.heap.size + 1 + 1]? = some (.cells #[.string { data := #[] }, .string { data := #[] }, .slice none 0 0] 49 (0, 0))) ∧ Below w.heap.size w W) := fun W hb =>
    ⟨⟨(hb.block _ (by omega)).trans e0, (hb.block _ (by omega)).trans e1, (hb.block _ (by omega)).trans e2⟩, hb0.trans (hb.mono (by omega))⟩
  have G : ∀ W, Below W0.heap.size W0 W → W.cell? ⟨w.heap.size, 0, none⟩ = some (.string (str t)) ∧ W.cell? ⟨w.heap.size, 1, none⟩ = some (.string (str master)) ∧ W.cell? ⟨w.heap.size, 2, none⟩ = some (.slice a n c) ∧ W.cell? ⟨w.heap.size + 1, 0, none⟩ = some (.int .i64 x0) ∧ W.cell? ⟨w.heap.size + 1, 1, none⟩ = some (.int .i64 x1) ∧ W.cell? ⟨w.heap.size + 1, 2, none⟩ = some (.int .i64 x2) ∧ W.cell? ⟨w.heap.size + 1, 3, none⟩ = some (.string x3) ∧ W.cell? ⟨w.heap.size + 1, 4, none⟩ = some (.string x4) ∧ W.cell? ⟨w.heap.size + 1, 5, none⟩ = some (.int .i64 x5) ∧ W.cell? ⟨w.heap.size + 1 + 1, 0, none⟩ = some (.string { data := #[] }) ∧ W.cell? ⟨w.heap.size + 1 + 1, 1, none⟩ = some (.string { data := #[] }) ∧ W.cell? ⟨w.heap.size + 1 + 1, 2, none⟩ = some (.slice none 0 0) ∧ W.frozen? ⟨w.heap.size + 1 + 1, 0, none⟩ = false ∧ W.frozen? ⟨w.heap.size + 1 + 1, 1, none⟩ = false ∧ W.frozen? ⟨w.heap.size + 1 + 1, 2, none⟩ = false := fun W hb => by
    obtain ⟨⟨a0, a1, a2⟩, _⟩ := HR.out W hb
    exact ⟨(cell_of_heap a0).trans rfl, (cell_of_heap a0).trans rfl, (cell_of_heap a0).trans rfl, (cell_of_heap a1).trans rfl, (cell_of_heap a1).trans rfl, (cell_of_heap a1).trans rfl, (cell_of_heap a1).trans rfl, (cell_of_heap a1).trans rfl, (cell_of_heap a1).trans rfl, (cell_of_heap a2).trans rfl, (cell_of_heap a2).trans rfl, (cell_of_heap a2).trans rfl, frozen_of_heap a2, frozen_of_heap a2, frozen_of_heap a2⟩
  have HG : Hid _ := G
  have HK : Hid (∀ W, Below W0.heap.size W0 W → KT W) := fun W hb => hT.below (HR.out W hb).2
  have HLw : Hid (∀ W, Below w.heap.size w W → Lst W a n (ph.map str)) := fun W hb => hL.below hb
  have HLs : Hid (∀ W, Below W0.heap.size W0 W → Lst W a n (ph.map str)) := fun W hb => hL.below (HR.out W hb).2
  obtain ⟨g0, g1, g2, o0, o1, o2, o3, o4, o5, z0, z1, z2, f0, f1, f2⟩ := G W0 (Below.refl _ _)
  have cun := fun (W : World) (hb : Below W0.heap.size W0 W) => unlocked_any t master ph hI i q m u hq hop hui y hy hym a n c hn W (HLs.out W hb) (HK.out W hb)
  have HII : Hid (Inv t master ph ∧ ph.length = n ∧ ph[i]? = some q ∧ ph[u]? = some y ∧ opensK (parseI t) q (parseS t) = some (m, u) ∧ u ≤ i ∧ (y = q → m = master)) := ⟨hI, hn, hq, hy, hop, hui, hym⟩
  have HS0 : Hid (w.heap.size + 1 + 1 < W0.heap.size) := by show _ < _; omega
  clear hI hn hq hy hop hum hym hb0 hs0 e0 e1 e2 G hL hT hi hul
  have hun : u < n := by omega
  go_enter Tryz.func20, Tryz.ntmps20
  go_wp2_with fail
  refine (cwho _).mono ?_
  rintro e wn ⟨rfl, rfl⟩
  go_wp2_with fail
  refine (cun _ (Below.refl _ _)).mono ?_
  clear cun cwho
  rintro e w1 ⟨rfl, hb1⟩
  obtain ⟨g0, g1, g2, o0, o1, o2, o3, o4, o5, z0, z1, z2, f0, f1, f2⟩ := HG.out _ hb1
  by_cases hyq : y = q
  · subst hyq
    rw [if_pos rfl]
    obtain rfl : m = master := HII.out.2.2.2.2.2.2 rfl
    have cph := fun W => phrase_any x3 h3 W
    have crd := fun W => clipped_any x5 1 3 (by omega) (by omega) (by omega) W
    rw [show ((1 + 3 - 1 : Nat) : Int) = 3 by rfl, show ((1 : Nat) : Int) = 1 by rfl] at crd
    have csz := fun W => ksized_any x4 40 (by omega) (by omega) h4 W
    rw [show ((40 : Nat) : Int) = 40 by rfl] at csz
    have hpk : passK (phraseL x3.data.toList) = true := phrase_ok _
    have hcl : (sz5 x4.data.toList 40).length = 40 := sz5_length _ _
    obtain ⟨rn, hrn⟩ : ∃ rn : Nat, 1 + (x5 % 3).toNat = rn := ⟨_, rfl⟩
    have hr3 : 1 ≤ rn ∧ rn ≤ 3 := by omega
    have hrk : roundsK (rn : Int) = true := by unfold roundsK; exact decide_eq_true (by omega)
    rw [hrn] at crd
    generalize phraseL x3.data.toList = nx at cph hpk
    generalize sz5 x4.data.toList 40 = cn at csz hcl
    clear hrn
    obtain ⟨b, off, ha, hbw, cq⟩ := (HLs.out _ hb1).cell i (str y) (by simp [HII.out.2.2.1])
    subst ha
    go_wp2_with (first | (go_at_call 9; refine (cph _).mono ?_; rintro e wn ⟨rfl, rfl⟩) | (go_at_call 11; refine (crd _).mono ?_; rintro e wn ⟨rfl, rfl⟩) | fail)
    refine (csz _).mono ?_
    clear csz cph crd g0 g1 g2 o0 o1 o2 o3 o4 o5 z0 z1 z2 f0 f1 f2
    rintro e w2 ⟨rfl, hb2'⟩
    have hb2 : Below W0.heap.size W0 w2 := hb1.trans (hb2'.mono hb1.size)
    clear hb2' hb1 cq hbw
    obtain ⟨g0, g1, g2, o0, o1, o2, o3, o4, o5, z0, z1, z2, f0, f1, f2⟩ := HG.out _ hb2
    obtain ⟨i9, hi9, h90, h91, h92⟩ := info_9
    have HNs : Hid _ := lst_cells (HLs.out _ hb2)
    have HB2 : Hid _ := hb2
    have HNl : Hid ((strCells (ph.map str)).length = n * 1) := by show _ = _; rw [strCells_length, List.length_map, HII.out.2.1, Nat.mul_one]
    have HN1 : Hid (∀ q ∈ strCells (ph.map str), q.oneCell' = true) := strCells_one _
    have cwt := fun W => clipped_any x0 0 3 (by omega) (by omega) (by omega) W
    rw [show ((0 + 3 - 1 : Nat) : Int) = 2 by rfl, show ((0 : Nat) : Int) = 0 by rfl, Nat.zero_add] at cwt
    obtain ⟨k3, hk3⟩ : ∃ k3 : Nat, (x0 % ((3 : Nat) : Int)).toNat = k3 := ⟨_, rfl⟩
    have hk33 : k3 < 3 := by omega
    rw [hk3] at cwt
    clear hb2 hk3
    go_wp2_with (at_builtin; refine wpList_append_own _ rfl _ _ 47 rfl W0.heap.size 9 i9 (.string { data := #[] }) 1 16 Tryz.underlying47 hi9 h90 h91 h92 rfl (by decide) (.slice none 0 0) 0 [] rfl (World.ownsRow_nil _ _ _ _) ⟨b, off, none⟩ n c (strCells (ph.map str)) rfl HNl.out HNs.out HN1.out (by unfold maxLen; omega) (by omega) HB2.out.size ?_; intro v' w3 hown' hgrow' _; refine Hid.out ?_)
    unfold Hid
    rw [Nat.zero_add, List.nil_append] at hown'
    have hb3 : Below W0.heap.size W0 w3 := HB2.out.trans (grown_below hgrow' HB2.out.size (World.ownsRow_nil _ _ 9 1))
    obtain ⟨av, cv, rfl⟩ := owns_len hown'
    have HOW : Hid _ := hown'
    have HB3 : Hid _ := hb3
    clear hgrow' HNs HB2 HNl HN1 hown' g0 g1 g2 o0 o1 o2 o3 o4 o5 z0 z1 z2 f0 f1 f2
    obtain ⟨g0, g1, g2, o0, o1, o2, o3, o4, o5, z0, z1, z2, f0, f1, f2⟩ := HG.out _ hb3
    clear hb3
    go_wp2_with fail
    refine (cwt _).mono ?_
    clear cwt
    rintro e wn ⟨rfl, rfl⟩
    rcases (by omega : k3 = 0 ∨ k3 = 1 ∨ k3 = 2) with rfl | rfl | rfl
    · rw [show ((0 : Nat) : Int) = 0 by rfl]
      clear hk33
      obtain ⟨b', off', e', hbw, cq⟩ := (HLs.out _ HB3.out).cell i (str y) (by simp [HII.out.2.2.1])
      injection e' with e'
      injection e' with e1 e2 _
      subst e1 e2
      have hiI : (i : Int) < (n : Int) := by omega
      have HF : Hid (∀ W, Below w3.heap.size w3 W → W.cell? ⟨w.heap.size, 0, none⟩ = some (.string (str t)) ∧ W.cell? ⟨w.heap.size, 2, none⟩ = some (.slice (some ⟨b, off, none⟩) n c) ∧ W.cell? ⟨b, off + i, none⟩ = some (.string (str y))) := fun W hb => by
        obtain ⟨q0, _, q2, _⟩ := HG.out W (HB3.out.trans (hb.mono HB3.out.size))
        exact ⟨q0, q2, (hb.cell (p := ⟨b, off + i, none⟩) hbw).trans cq⟩
      have HK3 : Hid (∀ W, Below w3.heap.size w3 W → KT W) := fun W hb => HK.out W (HB3.out.trans (hb.mono HB3.out.size))
      have hyk : passK y = true := HII.out.1.p y (List.mem_of_getElem? HII.out.2.2.1)
      have hyl := of_decide_eq_true hyk
      have hnl := of_decide_eq_true hpk
      have htl := inv_len HII.out.1
      have K1 : Hid (∀ W, Below w3.heap.size w3 W → Calls Tryz.prog 16 #[.string (str t), .string (str y), .string (str nx), .int .i64 (rn : Int), .string (str cn)] W fun e w4 => e = .returned (.tuple #[.string (str (addY t y nx rn cn)), .int .i64 (addE t y nx rn cn)]) ∧ Below w3.heap.size w3 w4) := fun W hb => by
        have h := addC (str t) (str y) (str nx) (str cn) rn W (by rw [str_size]; omega) (by rw [str_size]; omega) (by rw [str_size]; omega) (by rw [str_size]; omega) (HK3.out W hb)
        rw [str_data, str_data, str_data, str_data] at h
        refine h.mono ?_
        rintro e w4 ⟨rfl, h'⟩
        exact ⟨rfl, hb.trans (h'.mono hb.size)⟩
      by_cases hn8' : n = 8
      · obtain ⟨ae, ay⟩ := add_full HII.out.1 hyk HII.out.2.2.2.2.1 hpk hrk hcl (by rw [HII.out.2.1]; exact hn8')
        rw [ae, ay, show str [] = { data := #[] } by rfl] at K1
        subst hn8'
        have HLt : Hid (∀ W, Below w.heap.size w W → Lst W (some ⟨b, off, none⟩) 8 (ph.map str)) := fun W hb => HLw.out W hb
        generalize htS : str t = tS at *
        generalize hmS : str m = mS at *
        have HE : Hid (str t = tS ∧ str m = mS) := ⟨htS, hmS⟩
        clear htS hmS
        generalize str y = yS at *
        generalize str nx = nS at *
        generalize str cn = cS at *
        clear hyl hnl htl hyk cq hbw HK3 hpk hcl hrk
        go_wp2_with fail
        go_region_held_law (fun W => W.cell? ⟨w.heap.size, 0, none⟩ = some (.string tS) ∧ W.cell? ⟨w.heap.size, 2, none⟩ = some (.slice (some ⟨b, off, none⟩) 8 c) ∧ W.cell? ⟨b, off + i, none⟩ = some (.string yS)) (first | exact HF.out _ (bdN _ _) | exact HF.out _ hb6 | go_keep) (first | (go_at_call 16; refine (K1.out _ (bdN _ _)).mono ?_; rintro e w6 ⟨rfl, hb6⟩))
        have HB6 : Hid (Below W0.heap.size W0 w6) := HB3.out.trans (hb6.mono HB3.out.size)
        clear hb6 HF K1 g0 g1 g2 o0 o1 o2 o3 o4 o5 z0 z1 z2 f0 f1 f2
        obtain ⟨g0, g1, g2, o0, o1, o2, o3, o4, o5, z0, z1, z2, f0, f1, f2⟩ := HG.out _ HB6.out
        have HBW := (HR.out _ HB6.out).2
        have HQ : Hid _ := (HR.out _ HB6.out).1.2.2
        have KW : Hid (∀ k, (w6.drewN k).cell? ⟨w.heap.size, 0, none⟩ = some (.string tS) ∧ (w6.drewN k).cell? ⟨w.heap.size, 1, none⟩ = some (.string mS) ∧ (w6.drewN k).cell? ⟨w.heap.size, 2, none⟩ = some (.slice (some ⟨b, off, none⟩) 8 c)) := fun _ => ⟨g0, g1, g2⟩
        have KS : Hid (∀ k v0 v1 v2 j, ((((w6.drewN k).setCell ⟨w.heap.size + 1 + 1, 0, none⟩ v0).setCell ⟨w.heap.size + 1 + 1, 1, none⟩ v1).setCell ⟨w.heap.size + 1 + 1, 2, none⟩ v2).cell? ⟨w.heap.size, j, none⟩ = (w6.drewN k).cell? ⟨w.heap.size, j, none⟩) := fun k v0 v1 v2 j => by
          have hne : w.heap.size ≠ w.heap.size + 1 + 1 := by omega
          exact World.cell?_of_block (w := w6.drewN k) ((Below.heap_setCell _ _ _ _ hne).trans ((Below.heap_setCell _ _ _ _ hne).trans (Below.heap_setCell _ _ _ _ hne)))
        have KS2 : Hid (∀ k v0 v1 v2, ((((w6.drewN k).setCell ⟨w.heap.size + 1 + 1, 0, none⟩ v0).setCell ⟨w.heap.size + 1 + 1, 1, none⟩ v1).setCell ⟨w.heap.size + 1 + 1, 2, none⟩ v2).cell? ⟨w.heap.size, 0, none⟩ = some (.string tS) ∧ ((((w6.drewN k).setCell ⟨w.heap.size + 1 + 1, 0, none⟩ v0).setCell ⟨w.heap.size + 1 + 1, 1, none⟩ v1).setCell ⟨w.heap.size + 1 + 1, 2, none⟩ v2).cell? ⟨w.heap.size, 1, none⟩ = some (.string mS) ∧ ((((w6.drewN k).setCell ⟨w.heap.size + 1 + 1, 0, none⟩ v0).setCell ⟨w.heap.size + 1 + 1, 1, none⟩ v1).setCell ⟨w.heap.size + 1 + 1, 2, none⟩ v2).cell? ⟨w.heap.size, 2, none⟩ = some (.slice (some ⟨b, off, none⟩) 8 c)) := fun k v0 v1 v2 => ⟨(KS.out k v0 v1 v2 0).trans g0, (KS.out k v0 v1 v2 1).trans g1, (KS.out k v0 v1 v2 2).trans g2⟩
        go_wp2_with fail
        go_region_held_law (fun W => W.cell? ⟨w.heap.size, 0, none⟩ = some (.string tS) ∧ W.cell? ⟨w.heap.size, 1, none⟩ = some (.string mS) ∧ W.cell? ⟨w.heap.size, 2, none⟩ = some (.slice (some ⟨b, off, none⟩) 8 c)) (first | exact KW.out _ | exact KS2.out _ _ _ _ | go_keep) (first | (go_at_call 10; refine (knum_any _ _).mono ?_; rintro e wn ⟨rfl, rfl⟩))
        all_goals
          go_wp2
          refine bodyPost_ret (results_cell_tmp2 rfl _ _ (w.heap.size + 1 + 1) 49 _ (0, 0) _ rfl (put3 HQ.out) Tryz.underlying49 rfl sizeG) rfl ?_
          have hbF : Below w.heap.size w (((w6.setCell ⟨w.heap.size + 1 + 1, 0, none⟩ (.string tS)).setCell ⟨w.heap.size + 1 + 1, 1, none⟩ (.string mS)).setCell ⟨w.heap.size + 1 + 1, 2, none⟩ (.slice (some ⟨b, off, none⟩) 8 c)) := ((HBW.setCell (by show w.heap.size ≤ w.heap.size + 1 + 1; omega) _).setCell (by show w.heap.size ≤ w.heap.size + 1 + 1; omega) _).setCell (by show w.heap.size ≤ w.heap.size + 1 + 1; omega) _
          exact ⟨⟨_, _, _, _, true, by rw [HE.out.2]; rfl, fun _ => ⟨t, ph, HE.out.1.symm, HII.out.1, HII.out.2.1, HLt.out _ hbF.drew⟩, .inl rfl⟩, hbF.drew⟩
      · have hn8I : ¬ (n : Int) = 8 := by omega
        obtain ⟨ae, hinv, hpi, s', hps⟩ := inv_add HII.out.1 hyk HII.out.2.2.2.2.1 hpk hrk hcl (by rw [HII.out.2.1]; omega)
        have htl' := inv_len hinv
        have K2 : Hid (∀ W, Below w3.heap.size w3 W → Calls Tryz.prog 37 #[.string (str t), .string (str (addY t y nx rn cn)), .int .i64 (-1), .bool false, .int .i64 1] W fun e w4 => e = .returned (.bool true) ∧ Below w3.heap.size w3 w4) := fun W hb => by
          have h := others_any t (addY t y nx rn cn) (-1) false 1 W HII.out.1.ok hinv.ok hpi.symm (by rw [hps]; exact oth_add _ _) htl htl' (HK3.out W hb)
          rw [show ((1 : Nat) : Int) = 1 by rfl] at h
          refine h.mono ?_
          rintro e w4 ⟨rfl, h'⟩
          exact ⟨rfl, hb.trans (h'.mono hb.size)⟩
        rw [ae] at K1
        have HIN : Hid (Inv (addY t y nx rn cn) m (ph ++ [nx])) := hinv
        generalize htS : str t = tS at *
        generalize hmS : str m = mS at *
        generalize htZ : str (addY t y nx rn cn) = tZ at *
        generalize hnS : str nx = nS at *
        generalize str y = yS at *
        generalize str cn = cS at *
        have HE : Hid (str t = tS ∧ str m = mS ∧ str (addY t y nx rn cn) = tZ ∧ str nx = nS) := ⟨htS, hmS, htZ, hnS⟩
        clear hyl hnl htl hyk cq hbw HK3 hpk hcl hrk htS hmS htZ hnS ae hinv hpi hps htl'
        go_wp2_with fail
        go_region_held_law (fun W => W.cell? ⟨w.heap.size, 0, none⟩ = some (.string tS) ∧ W.cell? ⟨w.heap.size, 2, none⟩ = some (.slice (some ⟨b, off, none⟩) n c) ∧ W.cell? ⟨b, off + i, none⟩ = some (.string yS)) (first | exact HF.out _ (bdN _ _) | exact HF.out _ hb6 | go_keep) (first | (go_at_call 16; refine (K1.out _ (bdN _ _)).mono ?_; rintro e w6 ⟨rfl, hb6⟩))
        obtain ⟨q0, q2, q3⟩ := HF.out _ hb6
        go_wp2_with (first | (go_at_call 10; refine (knum_any _ _).mono ?_; rintro e wn ⟨rfl, rfl⟩) | (go_at_call 37; refine (K2.out _ hb6).mono ?_; rintro e w7 ⟨rfl, hb7⟩; obtain ⟨r0, r2, r3⟩ := HF.out _ hb7) | fail)
        have HB7 : Hid (Below W0.heap.size W0 w7) := HB3.out.trans (hb7.mono HB3.out.size)
        have HO7 : Hid (∀ k, ((w7.drewN k).alloc (.cells #[.string nS] 9)).ownsRow W0.heap.size 9 1 (.slice av n cv) n (strCells (ph.map str))) := fun k => owns_bel HOW.out ((hb7.trans ((bdN _ _).mono hb7.size)).alloc (by have := hb7.size; exact this) _)
        have HN7 : Hid (∀ k (j : Nat) u, ([.string nS] : List Value)[j]? = some u → ((w7.drewN k).alloc (.cells #[.string nS] 9)).cell? (Addr.add ⟨w7.heap.size, 0, none⟩ j) = some u) := fun k j u h => cells_new (w7.drewN k) #[.string nS] 9 j u (by simpa using h)
        have hone : ∀ u ∈ ([.string nS] : List Value), u.oneCell' = true := fun u hu => by
          simp at hu
          subst hu
          rfl
        have HZ7 : Hid (∀ k, W0.heap.size ≤ ((w7.drewN k).alloc (.cells #[.string nS] 9)).heap.size) := fun k => by have := HB7.out.size; simp; omega
        clear r0 r2 r3 q0 q2 q3 hb6 hb7 HF K1 K2 g0 g1 g2 o0 o1 o2 o3 o4 o5 z0 z1 z2 f0 f1 f2
        obtain ⟨g0, g1, g2, o0, o1, o2, o3, o4, o5, z0, z1, z2, f0, f1, f2⟩ := HG.out _ HB7.out
        have KB : Hid (∀ k w', ((w7.drewN k).alloc (.cells #[.string nS] 9)).grownBy w' (Value.ownBlock (.slice av n cv)) → Below W0.heap.size W0 w') := fun k w' hg =>
          ((HB7.out.trans ((bdN _ _).mono HB7.out.size)).alloc (by have := HB7.out.size; exact this) _).trans (grown_below hg (HZ7.out k) (HO7.out k))
        have KG : Hid (∀ W, Below W0.heap.size W0 W → W.cell? ⟨w.heap.size, 1, none⟩ = some (.string mS) ∧ W.cell? ⟨w.heap.size + 1 + 1, 0, none⟩ = some (.string { data := #[] }) ∧ W.cell? ⟨w.heap.size + 1 + 1, 1, none⟩ = some (.string { data := #[] }) ∧ W.cell? ⟨w.heap.size + 1 + 1, 2, none⟩ = some (.slice none 0 0) ∧ W.frozen? ⟨w.heap.size + 1 + 1, 0, none⟩ = false ∧ W.frozen? ⟨w.heap.size + 1 + 1, 1, none⟩ = false ∧ W.frozen? ⟨w.heap.size + 1 + 1, 2, none⟩ = false) := fun W hb => by
          obtain ⟨_, a1, _, _, _, _, _, _, _, b0, b1, b2, c0, c1, c2⟩ := HG.out W hb
          exact ⟨a1, b0, b1, b2, c0, c1, c2⟩
        have KW : Hid (∀ k, (w7.drewN k).cell? ⟨w.heap.size, 1, none⟩ = some (.string mS)) := fun _ => g1
        have KA : Hid (∀ k, ((w7.drewN k).alloc (.cells #[.string nS] 9)).cell? ⟨w.heap.size, 1, none⟩ = some (.string mS)) := fun k => (KG.out _ ((HB7.out.trans ((bdN _ _).mono HB7.out.size)).alloc (by have := HB7.out.size; exact this) _)).1
        have KS : Hid (∀ (W : World) v0 v1 v2, W.cell? ⟨w.heap.size, 1, none⟩ = some (.string mS) → (((W.setCell ⟨w.heap.size + 1 + 1, 0, none⟩ v0).setCell ⟨w.heap.size + 1 + 1, 1, none⟩ v1).setCell ⟨w.heap.size + 1 + 1, 2, none⟩ v2).cell? ⟨w.heap.size, 1, none⟩ = some (.string mS)) := fun W v0 v1 v2 h => by
          have hne : w.heap.size ≠ w.heap.size + 1 + 1 := by omega
          exact (World.cell?_of_block (w := W) ((Below.heap_setCell _ _ _ _ hne).trans ((Below.heap_setCell _ _ _ _ hne).trans (Below.heap_setCell _ _ _ _ hne)))).trans h
        go_region_held_law (fun W => W.cell? ⟨w.heap.size, 1, none⟩ = some (.string mS)) (first | exact KW.out _ | exact KA.out _ | exact (KG.out _ hbg).1 | exact KS.out _ _ _ _ (KG.out _ hbg).1 | go_keep) (first | (refine step_append_own rfl (.tmp 97) (.tmp 99) 47 rfl W0.heap.size 9 i9 (.string { data := #[] }) 1 16 Tryz.underlying47 hi9 h90 h91 h92 rfl (by decide) (.slice av n cv) n (strCells (ph.map str)) (by simp [Act.eval]) (HO7.out _) ⟨w7.heap.size, 0, none⟩ 1 1 [.string nS] (by simp [Act.eval]) rfl (HN7.out _) hone (by unfold maxLen; omega) (by omega) (HZ7.out _) ?_; intro v' w' hown' hgrow'; have hbg := KB.out _ w' hgrow'; obtain ⟨k1, y0, y1, y2, f0', f1', f2'⟩ := KG.out _ hbg; obtain ⟨av', cv', rfl⟩ := owns_len hown'))
        all_goals
          go_wp2
          refine bodyPost_ret (results_cell_tmp2 rfl _ _ (w.heap.size + 1 + 1) 49 _ (0, 0) _ rfl (put3 (HR.out _ hbg).1.2.2) Tryz.underlying49 rfl sizeG) rfl ?_
          refine ⟨⟨_, _, _, _, true, by rw [HE.out.2.1]; rfl, fun _ => ⟨_, ph ++ [nx], HE.out.2.2.1.symm, HIN.out, by rw [List.length_append, HII.out.2.1]; rfl, lst_end (c := cv') (owns_put3 (B := W0.heap.size) ?_ HS0.out _ _ _)⟩, .inr (owns_ge hown' (by have := HS0.out; omega))⟩, below_put3 (HR.out _ hbg).2 (by omega) _ _ _⟩
          rw [List.map_append, show strCells (ph.map str ++ [nx].map str) = strCells (ph.map str) ++ [.string nS] by rw [← HE.out.2.2.2]; simp [strCells]]
          exact hown'
    · rw [show ((1 : Nat) : Int) = 1 by rfl]
      clear hk33
      obtain ⟨b', off', e', hbw, cq⟩ := (HLs.out _ HB3.out).cell i (str y) (by simp [HII.out.2.2.1])
      injection e' with e'
      injection e' with e1 e2 _
      subst e1 e2
      have hiI : (i : Int) < (n : Int) := by omega
      have HF : Hid (∀ W, Below w3.heap.size w3 W → W.cell? ⟨w.heap.size, 0, none⟩ = some (.string (str t)) ∧ W.cell? ⟨w.heap.size, 2, none⟩ = some (.slice (some ⟨b, off, none⟩) n c) ∧ W.cell? ⟨b, off + i, none⟩ = some (.string (str y))) := fun W hb => by
        obtain ⟨q0, _, q2, _⟩ := HG.out W (HB3.out.trans (hb.mono HB3.out.size))
        exact ⟨q0, q2, (hb.cell (p := ⟨b, off + i, none⟩) hbw).trans cq⟩
      have HK3 : Hid (∀ W, Below w3.heap.size w3 W → KT W) := fun W hb => HK.out W (HB3.out.trans (hb.mono HB3.out.size))
      have hyk : passK y = true := HII.out.1.p y (List.mem_of_getElem? HII.out.2.2.1)
      have hyl := of_decide_eq_true hyk
      have hnl := of_decide_eq_true hpk
      have htl := inv_len HII.out.1
      have K1 : Hid (∀ W, Below w3.heap.size w3 W → Calls Tryz.prog 17 #[.string (str t), .string (str y), .string (str nx), .int .i64 (rn : Int), .string (str cn)] W fun e w4 => e = .returned (.tuple #[.string (str (changeY t y nx rn cn)), .int .i64 (mayE t y nx rn cn)]) ∧ Below w3.heap.size w3 w4) := fun W hb => by
        have h := changeC (str t) (str y) (str nx) (str cn) rn W (by rw [str_size]; omega) (by rw [str_size]; omega) (by rw [str_size]; omega) (by rw [str_size]; omega) (HK3.out W hb)
        rw [str_data, str_data, str_data, str_data] at h
        refine h.mono ?_
        rintro e w4 ⟨rfl, h'⟩
        exact ⟨rfl, hb.trans (h'.mono hb.size)⟩
      obtain ⟨ae, hinv, hpi, s', hps⟩ := inv_change HII.out.1 hyk HII.out.2.2.2.2.1 hpk hrk hcl
      have htl' := inv_len hinv
      have K2 : Hid (∀ W, Below w3.heap.size w3 W → Calls Tryz.prog 37 #[.string (str t), .string (str (changeY t y nx rn cn)), .int .i64 (u : Int), .bool false, .int .i64 0] W fun e w4 => e = .returned (.bool true) ∧ Below w3.heap.size w3 w4) := fun W hb => by
        have h := others_any t (changeY t y nx rn cn) (u : Int) false 0 W HII.out.1.ok hinv.ok hpi.symm (by rw [hps]; exact oth_change _ _ _) htl htl' (HK3.out W hb)
        rw [show ((0 : Nat) : Int) = 0 by rfl] at h
        refine h.mono ?_
        rintro e w4 ⟨rfl, h'⟩
        exact ⟨rfl, hb.trans (h'.mono hb.size)⟩
      rw [ae] at K1
      have HIN : Hid (Inv (changeY t y nx rn cn) m (ph.set u nx)) := hinv
      have HYU : Hid ((strCells (ph.map str))[u]? = some (.string (str y))) := by show _ = _; simp [strCells, HII.out.2.2.2.1]
      generalize htS : str t = tS at *
      generalize hmS : str m = mS at *
      generalize htZ : str (changeY t y nx rn cn) = tZ at *
      generalize hnS : str nx = nS at *
      generalize str y = yS at *
      generalize str cn = cS at *
      have HE : Hid (str t = tS ∧ str m = mS ∧ str (changeY t y nx rn cn) = tZ ∧ str nx = nS) := ⟨htS, hmS, htZ, hnS⟩
      clear hyl hnl htl hyk cq hbw HK3 hpk hcl hrk htS hmS htZ hnS ae hinv hpi hps htl'
      go_wp2_with fail
      go_region_held_law (fun W => W.cell? ⟨w.heap.size, 0, none⟩ = some (.string tS) ∧ W.cell? ⟨w.heap.size, 2, none⟩ = some (.slice (some ⟨b, off, none⟩) n c) ∧ W.cell? ⟨b, off + i, none⟩ = some (.string yS)) (first | exact HF.out _ (bdN _ _) | exact HF.out _ hb6 | go_keep) (first | (go_at_call 17; refine (K1.out _ (bdN _ _)).mono ?_; rintro e w6 ⟨rfl, hb6⟩))
      obtain ⟨q0, q2, q3⟩ := HF.out _ hb6
      go_wp2_with (first | (go_at_call 10; refine (knum_any _ _).mono ?_; rintro e wn ⟨rfl, rfl⟩) | (go_at_call 37; refine (K2.out _ hb6).mono ?_; rintro e w7 ⟨rfl, hb7⟩; obtain ⟨r0, r2, r3⟩ := HF.out _ hb7; refine Hid.out ?_) | fail)
      unfold Hid
      have HB7 : Hid (Below W0.heap.size W0 w7) := HB3.out.trans (hb7.mono HB3.out.size)
      have ho7 : w7.ownsRow W0.heap.size 9 1 (.slice av n cv) n (strCells (ph.map str)) := owns_bel HOW.out hb7
      obtain ⟨gL, rfl, hgB, hgl, hnc, hcm, hcells, hset⟩ := owns_rowS ho7 (by omega)
      obtain ⟨hLu, hFu⟩ := hcells u (.string yS) HYU.out
      have HSet : Hid _ := hset u nS hun
      have HB8 : Hid (Below W0.heap.size W0 (w7.setCell ⟨gL, u, none⟩ (.string nS))) := HB7.out.setCell hgB _
      clear r0 r2 r3 q0 q2 q3 hb6 hb7 HF K1 K2 g0 g1 g2 o0 o1 o2 o3 o4 o5 z0 z1 z2 f0 f1 f2 hcells hset
      obtain ⟨g0, g1, g2, o0, o1, o2, o3, o4, o5, z0, z1, z2, f0, f1, f2⟩ := HG.out _ HB8.out
      have hunI : (u : Int) < (n : Int) := by omega
      go_wp2
      refine bodyPost_ret (results_cell_tmp2 rfl _ _ (w.heap.size + 1 + 1) 49 _ (0, 0) _ rfl (put3 (HR.out _ HB8.out).1.2.2) Tryz.underlying49 rfl sizeG) rfl ?_
      refine ⟨⟨_, _, _, _, true, by rw [HE.out.2.1]; rfl, fun _ => ⟨_, ph.set u nx, HE.out.2.2.1.symm, HIN.out, by rw [List.length_set, HII.out.2.1], lst_end (c := cv) (owns_put3 (B := W0.heap.size) ?_ HS0.out _ _ _)⟩, .inr (owns_ge HSet.out (by have := HS0.out; omega))⟩, below_put3 (HR.out _ HB8.out).2 (by omega) _ _ _⟩
      rw [List.map_set, HE.out.2.2.2]
      exact HSet.out
    · rw [show ((2 : Nat) : Int) = 2 by rfl]
      clear hk33
      obtain ⟨b', off', e', hbw, cq⟩ := (HLs.out _ HB3.out).cell i (str y) (by simp [HII.out.2.2.1])
      injection e' with e'
      injection e' with e1 e2 _
      subst e1 e2
      have hiI : (i : Int) < (n : Int) := by omega
      have HF : Hid (∀ W, Below w3.heap.size w3 W → W.cell? ⟨w.heap.size, 0, none⟩ = some (.string (str t)) ∧ W.cell? ⟨w.heap.size, 2, none⟩ = some (.slice (some ⟨b, off, none⟩) n c) ∧ W.cell? ⟨b, off + i, none⟩ = some (.string (str y))) := fun W hb => by
        obtain ⟨q0, _, q2, _⟩ := HG.out W (HB3.out.trans (hb.mono HB3.out.size))
        exact ⟨q0, q2, (hb.cell (p := ⟨b, off + i, none⟩) hbw).trans cq⟩
      have HK3 : Hid (∀ W, Below w3.heap.size w3 W → KT W) := fun W hb => HK.out W (HB3.out.trans (hb.mono HB3.out.size))
      have hyk : passK y = true := HII.out.1.p y (List.mem_of_getElem? HII.out.2.2.1)
      have hyl := of_decide_eq_true hyk
      have hnl := of_decide_eq_true hpk
      have htl := inv_len HII.out.1
      obtain ⟨d, hd⟩ : ∃ d, (x2 % (n : Int)).toNat = d := ⟨_, rfl⟩
      have hdn : d < n := by
        have h1 := Int.emod_nonneg x2 (show (n : Int) ≠ 0 by omega)
        have h2 := Int.emod_lt_of_pos x2 (show (0 : Int) < (n : Int) by omega)
        omega
      have cdd := fun W => clipped_any x2 0 n (by omega) (by omega) (by omega) W
      rw [show ((0 + n - 1 : Nat) : Int) = (n : Int) - 1 by omega, hd, Nat.zero_add, show ((0 : Nat) : Int) = 0 by rfl] at cdd
      clear hd
      have K1 : Hid (∀ W, Below w3.heap.size w3 W → Calls Tryz.prog 18 #[.string (str t), .string (str y), .int .i64 (d : Int)] W fun e w4 => e = .returned (.tuple #[.string (str (dropY t y (d : Int))), .int .i64 (dropE t y (d : Int))]) ∧ Below w3.heap.size w3 w4) := fun W hb => by
        have h := dropC (str t) (str y) (d : Int) W (by rw [str_size]; omega) (by rw [str_size]; omega) (HK3.out W hb)
        rw [str_data, str_data] at h
        refine h.mono ?_
        rintro e w4 ⟨rfl, h'⟩
        exact ⟨rfl, hb.trans (h'.mono hb.size)⟩
      by_cases hn1 : n = 1
      · obtain rfl : d = 0 := by omega
        obtain ⟨ae, ay⟩ := drop_one HII.out.1 hyk HII.out.2.2.2.2.1 (by rw [HII.out.2.1]; exact hn1)
        rw [show ((0 : Nat) : Int) = 0 by rfl] at K1 cdd
        rw [ae, ay, show str [] = { data := #[] } by rfl] at K1
        subst hn1
        have HLt : Hid (∀ W, Below w.heap.size w W → Lst W (some ⟨b, off, none⟩) 1 (ph.map str)) := fun W hb => HLw.out W hb
        generalize htS : str t = tS at *
        generalize hmS : str m = mS at *
        have HE : Hid (str t = tS ∧ str m = mS) := ⟨htS, hmS⟩
        clear htS hmS
        generalize str y = yS at *
        clear hyl hnl htl hyk cq hbw HK3 hpk hcl hrk
        go_wp2_with fail
        refine (cdd _).mono ?_
        clear cdd
        rintro e wn ⟨rfl, rfl⟩
        go_wp2_with fail
        go_region_held_law (fun W => W.cell? ⟨w.heap.size, 0, none⟩ = some (.string tS) ∧ W.cell? ⟨w.heap.size, 2, none⟩ = some (.slice (some ⟨b, off, none⟩) 1 c) ∧ W.cell? ⟨b, off + i, none⟩ = some (.string yS)) (first | exact HF.out _ (bdN _ _) | exact HF.out _ hb6 | go_keep) (first | (go_at_call 18; refine (K1.out _ (bdN _ _)).mono ?_; rintro e w6 ⟨rfl, hb6⟩))
        have HB6 : Hid (Below W0.heap.size W0 w6) := HB3.out.trans (hb6.mono HB3.out.size)
        clear hb6 HF K1 g0 g1 g2 o0 o1 o2 o3 o4 o5 z0 z1 z2 f0 f1 f2
        obtain ⟨g0, g1, g2, o0, o1, o2, o3, o4, o5, z0, z1, z2, f0, f1, f2⟩ := HG.out _ HB6.out
        have HBW := (HR.out _ HB6.out).2
        have HQ : Hid _ := (HR.out _ HB6.out).1.2.2
        have KW : Hid (∀ k, (w6.drewN k).cell? ⟨w.heap.size, 0, none⟩ = some (.string tS) ∧ (w6.drewN k).cell? ⟨w.heap.size, 1, none⟩ = some (.string mS) ∧ (w6.drewN k).cell? ⟨w.heap.size, 2, none⟩ = some (.slice (some ⟨b, off, none⟩) 1 c)) := fun _ => ⟨g0, g1, g2⟩
        have KS : Hid (∀ k v0 v1 v2 j, ((((w6.drewN k).setCell ⟨w.heap.size + 1 + 1, 0, none⟩ v0).setCell ⟨w.heap.size + 1 + 1, 1, none⟩ v1).setCell ⟨w.heap.size + 1 + 1, 2, none⟩ v2).cell? ⟨w.heap.size, j, none⟩ = (w6.drewN k).cell? ⟨w.heap.size, j, none⟩) := fun k v0 v1 v2 j => by
          have hne : w.heap.size ≠ w.heap.size + 1 + 1 := by omega
          exact World.cell?_of_block (w := w6.drewN k) ((Below.heap_setCell _ _ _ _ hne).trans ((Below.heap_setCell _ _ _ _ hne).trans (Below.heap_setCell _ _ _ _ hne)))
        have KS2 : Hid (∀ k v0 v1 v2, ((((w6.drewN k).setCell ⟨w.heap.size + 1 + 1, 0, none⟩ v0).setCell ⟨w.heap.size + 1 + 1, 1, none⟩ v1).setCell ⟨w.heap.size + 1 + 1, 2, none⟩ v2).cell? ⟨w.heap.size, 0, none⟩ = some (.string tS) ∧ ((((w6.drewN k).setCell ⟨w.heap.size + 1 + 1, 0, none⟩ v0).setCell ⟨w.heap.size + 1 + 1, 1, none⟩ v1).setCell ⟨w.heap.size + 1 + 1, 2, none⟩ v2).cell? ⟨w.heap.size, 1, none⟩ = some (.string mS) ∧ ((((w6.drewN k).setCell ⟨w.heap.size + 1 + 1, 0, none⟩ v0).setCell ⟨w.heap.size + 1 + 1, 1, none⟩ v1).setCell ⟨w.heap.size + 1 + 1, 2, none⟩ v2).cell? ⟨w.heap.size, 2, none⟩ = some (.slice (some ⟨b, off, none⟩) 1 c)) := fun k v0 v1 v2 => ⟨(KS.out k v0 v1 v2 0).trans g0, (KS.out k v0 v1 v2 1).trans g1, (KS.out k v0 v1 v2 2).trans g2⟩
        go_wp2_with fail
        go_region_held_law (fun W => W.cell? ⟨w.heap.size, 0, none⟩ = some (.string tS) ∧ W.cell? ⟨w.heap.size, 1, none⟩ = some (.string mS) ∧ W.cell? ⟨w.heap.size, 2, none⟩ = some (.slice (some ⟨b, off, none⟩) 1 c)) (first | exact KW.out _ | exact KS2.out _ _ _ _ | go_keep) (first | (go_at_call 10; refine (knum_any _ _).mono ?_; rintro e wn ⟨rfl, rfl⟩))
        all_goals
          go_wp2
          refine bodyPost_ret (results_cell_tmp2 rfl _ _ (w.heap.size + 1 + 1) 49 _ (0, 0) _ rfl (put3 HQ.out) Tryz.underlying49 rfl sizeG) rfl ?_
          have hbF : Below w.heap.size w (((w6.setCell ⟨w.heap.size + 1 + 1, 0, none⟩ (.string tS)).setCell ⟨w.heap.size + 1 + 1, 1, none⟩ (.string mS)).setCell ⟨w.heap.size + 1 + 1, 2, none⟩ (.slice (some ⟨b, off, none⟩) 1 c)) := below_put3 HBW (by omega) _ _ _
          exact ⟨⟨_, _, _, _, true, by rw [HE.out.2]; rfl, fun _ => ⟨t, ph, HE.out.1.symm, HII.out.1, HII.out.2.1, HLt.out _ hbF.drew⟩, .inl rfl⟩, hbF.drew⟩
      · have hn1I : ¬ (n : Int) = 1 := by omega
        obtain ⟨ae, hinv, hpi, hps⟩ := inv_drop HII.out.1 hyk HII.out.2.2.2.2.1 d (by rw [HII.out.2.1]; exact hdn) (by rw [HII.out.2.1]; exact hn1)
        have htl' := inv_len hinv
        have K2 : Hid (∀ W, Below w3.heap.size w3 W → Calls Tryz.prog 37 #[.string (str t), .string (str (dropY t y (d : Int))), .int .i64 (d : Int), .bool true, .int .i64 0] W fun e w4 => e = .returned (.bool true) ∧ Below w3.heap.size w3 w4) := fun W hb => by
          have h := others_any t (dropY t y (d : Int)) (d : Int) true 0 W HII.out.1.ok hinv.ok hpi.symm (by rw [hps]; exact oth_drop _ _ (by rw [HII.out.1.n, HII.out.2.1]; exact hdn)) htl htl' (HK3.out W hb)
          rw [show ((0 : Nat) : Int) = 0 by rfl] at h
          refine h.mono ?_
          rintro e w4 ⟨rfl, h'⟩
          exact ⟨rfl, hb.trans (h'.mono hb.size)⟩
        rw [ae] at K1
        have HIN : Hid (Inv (dropY t y (d : Int)) m (ph.eraseIdx d)) := hinv
        generalize htS : str t = tS at *
        generalize hmS : str m = mS at *
        generalize htZ : str (dropY t y (d : Int)) = tZ at *
        generalize str y = yS at *
        have HE : Hid (str t = tS ∧ str m = mS ∧ str (dropY t y (d : Int)) = tZ) := ⟨htS, hmS, htZ⟩
        clear hyl hnl htl hyk cq hbw HK3 hpk hcl hrk htS hmS htZ ae hinv hpi hps htl'
        go_wp2_with fail
        refine (cdd _).mono ?_
        clear cdd
        rintro e wn ⟨rfl, rfl⟩
        go_wp2_with fail
        go_region_held_law (fun W => W.cell? ⟨w.heap.size, 0, none⟩ = some (.string tS) ∧ W.cell? ⟨w.heap.size, 2, none⟩ = some (.slice (some ⟨b, off, none⟩) n c) ∧ W.cell? ⟨b, off + i, none⟩ = some (.string yS)) (first | exact HF.out _ (bdN _ _) | exact HF.out _ hb6 | go_keep) (first | (go_at_call 18; refine (K1.out _ (bdN _ _)).mono ?_; rintro e w6 ⟨rfl, hb6⟩))
        obtain ⟨q0, q2, q3⟩ := HF.out _ hb6
        go_wp2_with (first | (go_at_call 10; refine (knum_any _ _).mono ?_; rintro e wn ⟨rfl, rfl⟩) | (go_at_call 37; refine (K2.out _ hb6).mono ?_; rintro e w7 ⟨rfl, hb7⟩; obtain ⟨r0, r2, r3⟩ := HF.out _ hb7; refine Hid.out ?_) | fail)
        unfold Hid
        have HB7 : Hid (Below W0.heap.size W0 w7) := HB3.out.trans (hb7.mono HB3.out.size)
        have ho7 : w7.ownsRow W0.heap.size 9 1 (.slice av n cv) n (strCells (ph.map str)) := owns_bel HOW.out hb7
        obtain ⟨gL, rfl, hgB, hgl, hnc, hcm, hcells, hset⟩ := owns_rowS ho7 (by omega)
        clear r0 r2 r3 q0 q2 q3 hb6 hb7 HF K1 K2 g0 g1 g2 o0 o1 o2 o3 o4 o5 z0 z1 z2 f0 f1 f2 hset ho7
        have hpl : (ph.map str).length = n := by rw [List.length_map, HII.out.2.1]
        have HCl : Hid _ := hcells
        have hdc : d ≤ cv := by omega
        have hd1c : d + 1 ≤ cv := by omega
        have q1 : (d : Int) + 1 ≤ (n : Int) := by omega
        have q0 : (0 : Int) ≤ (d : Int) + 1 := by omega
        have qd : (d : Int) ≤ (n : Int) := by omega
        have A1 : Hid (((strCells ((ph.map str).take d)).length = d * 1) ∧ (∀ (j : Nat) u, (strCells ((ph.map str).take d))[j]? = some u → w7.cell? (Addr.add ⟨gL, 0, none⟩ j) = some u) ∧ (∀ u ∈ strCells ((ph.map str).take d), u.oneCell' = true)) := by
          refine ⟨by rw [strCells_length, List.length_take, hpl]; omega, fun j u hu => ?_, strCells_one _⟩
          rw [Addr.add_lit, Nat.zero_add]
          refine (HCl.out j u ?_).1
          unfold strCells at hu ⊢
          rw [List.map_take, List.getElem?_take] at hu
          split at hu
          · exact hu
          · cases hu
        clear hcells
        go_wp2_with (at_builtin; refine wpList_append_own _ rfl _ _ 47 rfl W0.heap.size 9 i9 (.string { data := #[] }) 1 16 Tryz.underlying47 hi9 h90 h91 h92 rfl (by decide) (.slice none 0 0) 0 [] rfl (World.ownsRow_nil _ _ _ _) ⟨gL, 0, none⟩ d cv (strCells ((ph.map str).take d)) rfl A1.out.1 A1.out.2.1 A1.out.2.2 (by unfold maxLen; omega) (by omega) HB7.out.size ?_; intro v' w8 hown' hgrow' _; refine Hid.out ?_)
        unfold Hid
        rw [Nat.zero_add, List.nil_append] at hown'
        have hb8 : Below w7.heap.size w7 w8 := ⟨hgrow'.os, hgrow'.tape, hgrow'.output, hgrow'.size, fun k hk => hgrow'.block k hk (by simp [Value.ownBlock])⟩
        have HB8 : Hid (Below W0.heap.size W0 w8) := HB7.out.trans (hb8.mono HB7.out.size)
        obtain ⟨a1, c1, rfl⟩ := owns_len hown'
        obtain ⟨A, hA, hAc⟩ : ∃ A : Addr, (if cv = d + 1 then some (⟨gL, 0, none⟩ : Addr) else some ⟨gL, d + 1, none⟩) = some A ∧ Hid (∀ (j : Nat) u, (strCells ((ph.map str).drop (d + 1)))[j]? = some u → w8.cell? (A.add j) = some u) := by
          have hcd : ∀ (j : Nat) u, (strCells ((ph.map str).drop (d + 1)))[j]? = some u → w8.cell? ⟨gL, d + 1 + j, none⟩ = some u := fun j u hu => by
            refine (hb8.cell (p := ⟨gL, d + 1 + j, none⟩) hgl).trans (HCl.out _ u ?_).1
            unfold strCells at hu ⊢
            rw [List.map_drop, List.getElem?_drop] at hu
            exact hu
          by_cases h : cv = d + 1
          · refine ⟨⟨gL, 0, none⟩, by simp [h], fun j u hu => ?_⟩
            have hj := (List.getElem?_eq_some_iff.1 hu).1
            rw [strCells_length, List.length_drop, hpl] at hj
            omega
          · refine ⟨⟨gL, d + 1, none⟩, by simp [h], fun j u hu => ?_⟩
            rw [Addr.add_lit]
            exact hcd j u hu
        have A2 : Hid (((strCells ((ph.map str).drop (d + 1))).length = (n - (d + 1)) * 1) ∧ (∀ u ∈ strCells ((ph.map str).drop (d + 1)), u.oneCell' = true)) := ⟨by rw [strCells_length, List.length_drop, hpl]; omega, strCells_one _⟩
        have HOw : Hid _ := hown'
        clear hown' hgrow' hb8 A1 HCl
        go_wp2_with (at_builtin; refine wpList_append_own _ rfl _ _ 47 rfl W0.heap.size 9 i9 (.string { data := #[] }) 1 16 Tryz.underlying47 hi9 h90 h91 h92 rfl (by decide) (.slice a1 d c1) d (strCells ((ph.map str).take d)) rfl HOw.out A (n - (d + 1)) (cv - (d + 1)) (strCells ((ph.map str).drop (d + 1))) rfl A2.out.1 hAc.out A2.out.2 (by unfold maxLen; omega) (by omega) HB8.out.size ?_; intro v' w9 hown' hgrow' _; refine Hid.out ?_)
        unfold Hid
        have HB9 : Hid (Below W0.heap.size W0 w9) := HB8.out.trans (grown_below hgrow' HB8.out.size HOw.out)
        obtain ⟨a2, c2, rfl⟩ := owns_len hown'
        have HO9 : Hid _ := hown'
        clear hown' hgrow' HOw A2 hAc hA
        obtain ⟨g0, g1, g2, o0, o1, o2, o3, o4, o5, z0, z1, z2, f0, f1, f2⟩ := HG.out _ HB9.out
        go_wp2
        refine bodyPost_ret (results_cell_tmp2 rfl _ _ (w.heap.size + 1 + 1) 49 _ (0, 0) _ rfl (put3 (HR.out _ HB9.out).1.2.2) Tryz.underlying49 rfl sizeG) rfl ?_
        have hlE : (ph.eraseIdx d).length = d + (n - (d + 1)) := by rw [List.length_eraseIdx_of_lt (by rw [HII.out.2.1]; exact hdn), HII.out.2.1]; omega
        refine ⟨⟨_, _, _, _, true, by rw [HE.out.2.1]; rfl, fun _ => ⟨_, ph.eraseIdx d, HE.out.2.2.symm, HIN.out, hlE, lst_end (c := c2) (owns_put3 (B := W0.heap.size) ?_ HS0.out _ _ _)⟩, .inr (owns_ge HO9.out (by have := HS0.out; omega))⟩, below_put3 (HR.out _ HB9.out).2 (by omega) _ _ _⟩
        have e : strCells ((ph.eraseIdx d).map str) = strCells ((ph.map str).take d) ++ strCells ((ph.map str).drop (d + 1)) := by
          rw [List.eraseIdx_eq_take_drop_succ, List.map_append, List.map_take, List.map_drop]
          simp [strCells]
        rw [e]
        exact HO9.out
  · rw [if_neg hyq]
    have HBW := (HR.out _ hb1).2
    have HQ : Hid _ := (HR.out _ hb1).1.2.2
    clear hyq HII HLs HK HG HR hb1 hW0
    go_wp2
    refine bodyPost_ret (results_cell_tmp2 rfl _ _ (w.heap.size + 1 + 1) 49 _ (0, 0) _ rfl (put3 HQ.out) Tryz.underlying49 rfl sizeG) rfl ?_
    exact ⟨⟨_, _, _, _, false, rfl, (fun h => by cases h), .inl rfl⟩, ((HBW.setCell (by show w.heap.size ≤ w.heap.size + 1 + 1; omega) _).setCell (by show w.heap.size ≤ w.heap.size + 1 + 1; omega) _).setCell (by show w.heap.size ≤ w.heap.size + 1 + 1; omega) _⟩

end Go.Proofs.YtbjiamaaocjbfaaGreatDoor.Kp
