import Derived.Test.YtpjigcccjiidpaaExHb
namespace Go.Proofs.Ytpjigcccjiidpaa.Ex
open Go.RowKit Go.Lib Go.Deep

/-- behind the last call of ExecSplits -/
def FinS (w : World) (o g c : Nat) (T : ByteArray) (b g2 c2 : Nat) (Y : World) : Prop := Y.cell? ⟨b, 1, none⟩ = some (.slice (some ⟨g2, 0, none⟩) 2 c2) ∧ Y.cell? ⟨g2, 0, none⟩ = some (.string T) ∧ Y.cell? ⟨g2, 1, none⟩ = some (.string { data := #[] }) ∧ Y.cell? ⟨o, 1, none⟩ = some (.slice (some ⟨g, 0, none⟩) 2 c) ∧ Y.cell? ⟨g, 0, none⟩ = some (.string T) ∧ Y.cell? ⟨g, 1, none⟩ = some (.string { data := #[] }) ∧ Hid (Below w.heap.size w Y)
theorem zA {U2 w7 : World} (h : Below (U2.alloc (.cells #[.slice none 0 0, .slice none 0 0] 30)).drew.heap.size (U2.alloc (.cells #[.slice none 0 0, .slice none 0 0] 30)).drew w7) : w7.heap[U2.heap.size]? = some (.cells #[.slice none 0 0, .slice none 0 0] 30 (0, 0)) := ((drew_b h).block _ (by simp)).trans (heap_new U2 _)
theorem zB {w7 w8 : World} (h : Below (w7.alloc (.cells #[.slice none 0 0, .slice none 0 0] 30)).heap.size (w7.alloc (.cells #[.slice none 0 0, .slice none 0 0] 30)) w8) : w8.heap[w7.heap.size]? = some (.cells #[.slice none 0 0, .slice none 0 0] 30 (0, 0)) := (h.block _ (by simp)).trans (heap_new w7 _)
theorem zcells {w8 : World} {b : Nat} (h : w8.heap[b]? = some (.cells #[.slice none 0 0, .slice none 0 0] 30 (0, 0))) : w8.cell? ⟨b, 0, none⟩ = some (.slice none 0 0) ∧ w8.cell? ⟨b, 1, none⟩ = some (.slice none 0 0) ∧ w8.frozen? ⟨b, 0, none⟩ = false ∧ w8.frozen? ⟨b, 1, none⟩ = false := ⟨(cell_of_heap h).trans rfl, (cell_of_heap h).trans rfl, frozen_of_heap h, frozen_of_heap h⟩
theorem fin_of {w U U2 w8 Y : World} {o g c B b g2 c2 : Nat} {T : List UInt8} {x : Value} (hw : Below w.heap.size w U) (hU : ∀ X, Below U.heap.size U X → SpE o g c T X) (hU2 : Below U.heap.size U U2) (h8 : Below U2.heap.size U2 w8) (ho : w8.ownsRow B 9 1 (.slice (some ⟨g2, 0, none⟩) 2 c2) 2 (scC ([T, []].map str))) (hb : U2.heap.size ≤ b) (hY : Y.heap[b]? = some (.cells #[x, .slice (some ⟨g2, 0, none⟩) 2 c2] 30 (0, 0))) (hne : g2 ≠ b) (hO : Only [b] w8 Y) : FinS w o g c (str T) b g2 c2 Y := by
  have h2Y : Below U2.heap.size U2 Y := h8.trans (hO.below h8.size (by simpa using hb))
  have hUY := hU2.trans (h2Y.mono hU2.size)
  obtain ⟨s1, s2, s3, -⟩ := hU Y hUY
  have ho' := owns_keep (W' := Y) ho fun gg hg => hO.block gg (ho.lt gg hg).2 (by
    have : gg = g2 := by simp [Value.ownBlock] at hg; exact hg.symm
    subst this
    simpa using hne)
  exact ⟨(cell_of_heap hY).trans rfl, (owns_cell ho' (j := 0) rfl).1, (owns_cell ho' (j := 1) (u := .string { data := #[] }) rfl).1, s1, s2, s3, hw.trans (hUY.mono hw.size)⟩
theorem ne_types {w8 : World} {B b g2 c2 : Nat} {xs : List Value} {cs : Array Value} (ho : w8.ownsRow B 9 1 (.slice (some ⟨g2, 0, none⟩) 2 c2) 2 xs) (hz : w8.heap[b]? = some (.cells cs 30 (0, 0))) : g2 ≠ b := fun e => by
  obtain ⟨cur, hc⟩ := owns_block ho rfl
  rw [e, hz] at hc
  injection hc with hc
  injection hc with _ hc
  exact absurd hc (by decide)
theorem fin_set {w U U2 w8 : World} {o g c B b g2 c2 : Nat} {T : List UInt8} {x : Value} (hw : Below w.heap.size w U) (hU : ∀ X, Below U.heap.size U X → SpE o g c T X) (hU2 : Below U.heap.size U U2) (h8 : Below U2.heap.size U2 w8) (ho : w8.ownsRow B 9 1 (.slice (some ⟨g2, 0, none⟩) 2 c2) 2 (scC ([T, []].map str))) (hb : U2.heap.size ≤ b) (hz : w8.heap[b]? = some (.cells #[.slice none 0 0, .slice none 0 0] 30 (0, 0))) : FinS w o g c (str T) b g2 c2 ((w8.setCell ⟨b, 0, none⟩ x).setCell ⟨b, 1, none⟩ (.slice (some ⟨g2, 0, none⟩) 2 c2)) :=
  fin_of hw hU hU2 h8 ho hb (Tr.put2A hz) (ne_types ho hz) (((Only.refl [b] w8).setCell (p := ⟨b, 0, none⟩) (by simp) _).setCell (p := ⟨b, 1, none⟩) (by simp) _)
theorem fin_new {w U U2 w8 : World} {o g c B g2 c2 : Nat} {T : List UInt8} {x : Value} (hw : Below w.heap.size w U) (hU : ∀ X, Below U.heap.size U X → SpE o g c T X) (hU2 : Below U.heap.size U U2) (h8 : Below U2.heap.size U2 w8) (ho : w8.ownsRow B 9 1 (.slice (some ⟨g2, 0, none⟩) 2 c2) 2 (scC ([T, []].map str))) : FinS w o g c (str T) w8.heap.size g2 c2 (w8.alloc (.cells #[x, .slice (some ⟨g2, 0, none⟩) 2 c2] 30)) :=
  fin_of hw hU hU2 h8 ho h8.size (heap_new w8 _) (by have := (ho.lt g2 rfl).2; omega) (only_of_below (al w8 _))
theorem see_zero7 (V : World) (a : Option Addr) (E : List Ef) (k : Nat) (h : E.length ≤ k) : See V 7 (.slice a 0 0) 0 (efsC (E.drop k)) := by
  rw [List.drop_eq_nil_of_le h]
  exact ⟨rfl, fun u hu => (by cases hu), a, 0, rfl, Nat.le_refl _, fun _ => rfl, fun h => absurd h (Nat.lt_irrefl 0)⟩
theorem cfSt (args : Array Value) (w : World) : (callFunc 10 args).run Try.prog w = .ok (.enter 10 args) w := by kernel_rfl
theorem cfAp (args : Array Value) (w : World) : (callFunc 9 args).run Try.prog w = .ok (.enter 9 args) w := by kernel_rfl
set_option maxRecDepth 20000 in
set_option maxHeartbeats 4000000 in
theorem splits_walk (s0 : List UInt8) (hs0 : s0.length ≤ maxLen) (A0 : List Ed) (w : World) (a0 : Option Addr) (n0 c0 : Nat) (hA : See w 4 (.slice a0 n0 c0) n0 (edsC A0)) (hl : A0.length = n0) (hn0 : n0 ≤ 9223372036854775807) (hw : ∀ e ∈ A0, EdW e) (cut : Int) (hcu : -9223372036854775808 ≤ cut ∧ cut ≤ 9223372036854775807) :
    Calls Try.prog 5 #[.string (str s0), .slice a0 n0 c0, .int .i64 cut] w fun e w' => e = .returned (.bool true) ∧ Below w.heap.size w w' := by
  have hwk := works_any w
  obtain ⟨s, hs⟩ : ∃ s, s0.take 300 = s := ⟨_, rfl⟩
  have hsl : s.length ≤ 300 := by rw [← hs, List.length_take]; omega
  obtain ⟨A, hA6⟩ : ∃ A, A0.take 60 = A := ⟨_, rfl⟩
  have hAl : A.length = min n0 60 := by rw [← hA6, List.length_take, hl]; omega
  obtain ⟨M, hM⟩ : ∃ M, min n0 60 = M := ⟨_, rfl⟩
  rw [hM] at hAl
  have hM60 : M ≤ 60 := by omega
  have hk0 : 0 ≤ cut % ((M : Int) + 1) := Int.emod_nonneg _ (by omega)
  have hk1 : cut % ((M : Int) + 1) < (M : Int) + 1 := Int.emod_lt_of_pos _ (by omega)
  obtain ⟨k, hk⟩ : ∃ k : Nat, cut % ((M : Int) + 1) = k := ⟨(cut % ((M : Int) + 1)).toNat, by omega⟩
  have hkM : k ≤ M := by omega
  have HSH : Hid (∀ V, Calls Try.prog 8 #[.string (str s0), .int .i64 300] V fun x w' => x = .returned (.string (str s)) ∧ w' = V) := fun V => by
    have := short_any s0 300 V hs0
    rw [hs] at this
    exact this
  have HEF : Hid (∀ V, Below w.heap.size w V → Calls Try.prog 13 #[.int .i64 1, .int .i64 (s.length : Int), .slice a0 n0 c0] V fun e w2 => ∃ a c z, e = .returned (.tuple #[.slice a M c, .int .i64 z]) ∧ Hid (w2.ownsRow V.heap.size 26 7 (.slice a M c) M (efsC (edsE 1 s.length A)) ∧ Below w.heap.size w w2)) := fun V hV => by
    refine (effects_any V 1 s.length a0 n0 c0 A0 (hA.below hV) hl hsl hw hn0).mono ?_
    rintro e w2 ⟨a, c, rfl, ho, hb⟩
    rw [hM, hA6] at ho
    rw [hM, hA6]
    exact ⟨a, c, _, rfl, ho, hV.trans (hb.mono hV.size)⟩
  have HC1 : Hid (∀ V, Calls Try.prog 14 #[.int .i64 cut, .int .i64 0, .int .i64 (M : Int)] V fun e w' => e = .returned (.int .i64 (k : Int)) ∧ w' = V) := fun V => by
    have := clipped_any cut 0 (M : Int) hcu (by omega) (by omega) (by omega) V
    rw [Int.zero_add, Int.sub_zero, hk] at this
    exact this
  have hAk : (A.take k).length = k := by rw [List.length_take]; omega
  have hAd : (A.drop k).length = M - k := by rw [List.length_drop]; omega
  have hEt := eds_take 1 A s.length k
  have hEd := eds_drop 1 A s k
  have hmid : (runs s (edsE 1 s.length (A.take k))).length ≤ 300 := by
    rw [runs_len]
    have := edsZ_le 1 (A.take k) s.length
    omega
  have hfin : runs (runs s (edsE 1 s.length (A.take k))) (edsE 1 (runs s (edsE 1 s.length (A.take k))).length (A.drop k)) = runs s (edsE 1 s.length A) := by
    rw [← hEd, ← hEt, ← runs_app, List.take_append_drop]
  have HCall : Hid (∀ (V : World) (b1 : Nat) (s' : List UInt8) (A' : List Ed) (a : Option Addr) (n c : Nat), V.heap[b1]? = some (.cells #[.int .i64 0, .int .i64 1, .int .i64 1, .int .i64 0, .int .i64 0, .int .i64 (-1), .int .i64 (-1), .int .i64 0] 35 (0, 0)) → s'.length ≤ 300 → See V 7 (.slice a n c) n (efsC (edsE 1 s'.length A')) → A'.length = n → n ≤ 60 → _) := fun V b1 s' A' a n c h1 h2 h3 h4 h5 => split_call V b1 h1 s' h2 A' a n c h3 h4 h5
  have HSt : Hid (∀ (V : World) (b1 : Nat) (s' : List UInt8) (A' : List Ed) (a : Option Addr) (n c : Nat), V.heap[b1]? = some (.cells #[.int .i64 0, .int .i64 1, .int .i64 1, .int .i64 0, .int .i64 0, .int .i64 (-1), .int .i64 (-1), .int .i64 0] 35 (0, 0)) → s'.length ≤ 300 → See V 7 (.slice a n c) n (efsC (edsE 1 s'.length A')) → A'.length = n → n ≤ 60 → _) := fun V b1 s' A' a n c h1 h2 h3 h4 h5 => split_steps V b1 h1 s' h2 A' a n c h3 h4 h5
  have hEl : (edsE 1 s.length A).length = M := by rw [edsE_len]; exact hAl
  have hsS : ((str s).size : Int) = (s.length : Int) := by rw [str_size]
  have HP : Hid (hEl = hEl ∧ (A.take k).length = k ∧ (A.drop k).length = M - k ∧ (edsE 1 s.length A).take k = edsE 1 s.length (A.take k) ∧ (edsE 1 s.length A).drop k = edsE 1 (runs s (edsE 1 s.length (A.take k))).length (A.drop k) ∧ (runs s (edsE 1 s.length (A.take k))).length ≤ 300 ∧ runs (runs s (edsE 1 s.length (A.take k))) (edsE 1 (runs s (edsE 1 s.length (A.take k))).length (A.drop k)) = runs s (edsE 1 s.length A) ∧ s.length ≤ 300 ∧ A.length = M) := ⟨rfl, hAk, hAd, hEt, hEd, hmid, hfin, hsl, hAl⟩
  clear hAk hAd hEt hEd hmid hfin hk0 hk1 hk hs hA6 hAl hM hA hl hw hcu hsl
  go_enter Try.func5, Try.ntmps5
  go_wp2_with fail
  refine hwk.mono ?_
  rintro e w1 ⟨rfl, hb1⟩
  go_wp2_with fail
  refine (HSH.out _).mono ?_
  rintro e w9 ⟨rfl, hw9⟩
  subst w9
  go_wp2_with fail
  refine (HEF.out _ hb1).mono ?_
  rintro e w2 ⟨a1, c1, z, rfl, HW2⟩
  clear HEF HSH hwk hb1
  go_wp2_with fail
  refine (HC1.out _).mono ?_
  rintro e w9 ⟨rfl, hw9⟩
  subst w9
  clear HC1
  obtain ⟨W7, hW7, hb7, k7⟩ := one_new w2 #[.int .i64 0, .int .i64 1, .int .i64 1, .int .i64 0, .int .i64 0, .int .i64 (-1), .int .i64 (-1), .int .i64 0] 35
  have hE2 : See w2 7 (.slice a1 M c1) M (efsC (edsE 1 s.length A)) := see_own HW2.out.1 (efs_one _)
  have HSL : Hid (∀ V, Below W7.heap.size W7 V → V.heap[w2.heap.size]? = some (.cells #[.int .i64 0, .int .i64 1, .int .i64 1, .int .i64 0, .int .i64 0, .int .i64 (-1), .int .i64 (-1), .int .i64 0] 35 (0, 0)) ∧ See V 7 (.slice a1 M c1) M (efsC (edsE 1 s.length A)) ∧ Below w.heap.size w V) := fun V hV => by
    have h27 := hb7.trans (hV.mono hb7.size)
    exact ⟨(hV.block _ (heap_lt k7)).trans k7, hE2.below h27, HW2.out.2.trans (h27.mono HW2.out.2.size)⟩
  obtain ⟨q1, q2, -⟩ := HSL.out W7 (Below.refl _ _)
  have hst1 := HCall.out W7 w2.heap.size s A a1 M c1 q1 HP.out.2.2.2.2.2.2.2.1 q2 HP.out.2.2.2.2.2.2.2.2 hM60
  have hcM : M ≤ c1 ∧ (a1 = none → M = 0 ∧ c1 = 0) ∧ (∀ x, a1 = some x → ∃ b, x = ⟨b, 0, none⟩) := by
    rcases HW2.out.1.2 with ⟨h1, h2⟩ | ⟨g, cap, cur, h1, h2, h3, h4, -⟩
    · injection h1 with e1 e2 e3
      exact ⟨by omega, fun _ => ⟨e2, e3⟩, fun x hx => (by rw [e1] at hx; cases hx)⟩
    · injection h1 with e1 e2 e3
      exact ⟨by omega, fun h => (by rw [e1] at h; cases h), fun x hx => ⟨g, (by rw [e1] at hx; injection hx with hx; exact hx.symm)⟩⟩
  clear q1 q2 hE2 hb7 k7
  go_wp2_with fail
  refine hst1.mono ?_
  rintro e w3 ⟨a3, c3, rfl, P2, hP2, hap1⟩
  go_wp2_with fail
  refine hap1.mono ?_
  rintro e w4 ⟨q, g, c, rfl, U, hU, HBU, HU⟩
  clear hst1 hap1 hP2
  obtain ⟨q1, q2, -⟩ := HSL.out U HBU.out
  have hst2 := HCall.out U w2.heap.size s (A.take k) a1 k c1 q1 HP.out.2.2.2.2.2.2.2.1 (by rw [← HP.out.2.2.2.1]; exact q2.take hEl hkM) HP.out.2.1 (by omega)
  clear q1 q2
  have hkc : k ≤ c1 := by omega
  go_wp2_with fail
  refine hst2.mono ?_
  rintro e w5 ⟨a5, c5, rfl, P4, hP4, hap2⟩
  go_wp2_with fail
  refine hap2.mono ?_
  rintro e w6 ⟨q', g', c', rfl, U2, hU2, HBU2, HU2⟩
  clear hst2 hap2 hP4
  have HB72 : Hid (Below W7.heap.size W7 U2) := HBU.out.trans (HBU2.out.mono HBU.out.size)
  obtain ⟨d1, d2, d3, D4⟩ := HU2.out U2 (Below.refl _ _)
  obtain ⟨o1, o2, o3, O4⟩ := HU.out U2 HBU2.out
  have d1z := (HU2.out _ (al U2 (.cells #[.slice none 0 0, .slice none 0 0] 30))).1
  go_wp2_with (first
    | (go_at_call 11; refine (num_any _ _).mono ?_; rintro e w9 ⟨rfl, hw9⟩; subst w9)
    | fail)
  obtain ⟨TT, hTT⟩ : ∃ TT, runs s (edsE 1 s.length A) = TT := ⟨_, rfl⟩
  rw [hTT] at HU
  have HBwU : Hid (Below w.heap.size w U) := (HSL.out U HBU.out).2.2
  have hbD : Below U2.heap.size U2 U2.drew := (Below.refl _ _).drew
  have hbZ : Below U2.heap.size U2 (U2.alloc (.cells #[.slice none 0 0, .slice none 0 0] 30)).drew := (al U2 _).drew
  have HBs : Hid (∀ w7 : World, Below U2.drew.heap.size U2.drew w7 → U2.heap.size ≤ w7.heap.size) := fun w7 h => h.size
  rename_i K hK
  have HT : Hid (∀ (v84 : Value) (B8 q8 g8 c8 N7 : Nat) (a7 : Option Addr) (c7 : Nat) (Y : World), FinS w w4.heap.size g c (str TT) B8 g8 c8 Y → K (({ tmps := #[.string (str s0), .slice a0 n0 c0, .int .i64 cut, undef, undef, undef, .bool false, .bool true, .string (str s), .slice a1 M c1, .int .i64 z, .int .i64 (k : Int), .slice (some ⟨w2.heap.size, 0, none⟩) 2 2, .pointer (some ⟨w4.heap.size, 0, none⟩), .int .i64 0, .pointer (some ⟨w6.heap.size, 0, none⟩), .int .i64 0, .pointer (some ⟨B8, 0, none⟩), undef, .bool true, .bool true, .bool false, .string (str s0), .string (str s), .tuple #[.slice a1 M c1, .int .i64 z], .string (str s), .int .i64 (s.length : Int), .slice a0 n0 c0, .tuple #[.slice a1 M c1, .int .i64 z], .slice a1 M c1, .int .i64 z, .int .i64 cut, .slice a1 M c1, .int .i64 (M : Int), .int .i64 (k : Int), .agg #[.int .i64 0, .int .i64 1, .int .i64 1, .int .i64 0], .agg #[.int .i64 0, .int .i64 (-1), .int .i64 (-1), .int .i64 0], .slice (some ⟨w2.heap.size, 0, none⟩) 2 2, .tuple #[.agg #[.slice (some ⟨q, 0, none⟩) M M, .slice (some ⟨g, 0, none⟩) 2 c], .int .i64 0], .slice (some ⟨w2.heap.size, 0, none⟩) 2 2, .slice a1 M c1, .slice a3 M c3, .agg #[.slice (some ⟨w2.heap.size, 0, none⟩) 2 2, .slice a3 M c3], .string (str s), .slice (some ⟨w3.heap.size, 0, none⟩) 2 2, .tuple #[.agg #[.slice (some ⟨q, 0, none⟩) M M, .slice (some ⟨g, 0, none⟩) 2 c], .int .i64 0], .agg #[.slice (some ⟨q, 0, none⟩) M M, .slice (some ⟨g, 0, none⟩) 2 c], .int .i64 0, .tuple #[.agg #[.slice (some ⟨q', 0, none⟩) k k, .slice (some ⟨g', 0, none⟩) 2 c'], .int .i64 0], .slice (some ⟨w2.heap.size, 0, none⟩) 2 2, .slice a1 M c1, .int .i64 (k : Int), .slice a1 k c1, .slice a5 k c5, .agg #[.slice (some ⟨w2.heap.size, 0, none⟩) 2 2, .slice a5 k c5], .string (str s), .slice (some ⟨w5.heap.size, 0, none⟩) 2 2, .tuple #[.agg #[.slice (some ⟨q', 0, none⟩) k k, .slice (some ⟨g', 0, none⟩) 2 c'], .int .i64 0], .agg #[.slice (some ⟨q', 0, none⟩) k k, .slice (some ⟨g', 0, none⟩) 2 c'], .int .i64 0, .int .i64 0, .int .i64 0, .bool false, .bool false, .int .i64 0, .int .i64 0, .bool false, .bool false, .bool false, .pointer (some ⟨w6.heap.size, 1, none⟩), .slice (some ⟨g', 0, none⟩) 2 c', .int .i64 2, .bool false, .bool false, .bool false, .pointer (some ⟨w4.heap.size, 1, none⟩), .slice (some ⟨g, 0, none⟩) 2 c, .int .i64 2, .bool false, .bool false, .tuple #[.agg #[.slice (some ⟨q8, 0, none⟩) N7 N7, .slice (some ⟨g8, 0, none⟩) 2 c8], .int .i64 0], .slice (some ⟨w2.heap.size, 0, none⟩) 2 2, .slice a1 M c1, .int .i64 (k : Int), v84, .slice a7 N7 c7, .agg #[.slice (some ⟨w2.heap.size, 0, none⟩) 2 2, .slice a7 N7 c7], .pointer (some ⟨w6.heap.size, 1, none⟩), .slice (some ⟨g', 0, none⟩) 2 c', .tuple #[.agg #[.slice (some ⟨q8, 0, none⟩) N7 N7, .slice (some ⟨g8, 0, none⟩) 2 c8], .int .i64 0], .agg #[.slice (some ⟨q8, 0, none⟩) N7 N7, .slice (some ⟨g8, 0, none⟩) 2 c8], .int .i64 0, undef, undef, undef, undef, undef, undef, undef, undef, undef, undef, undef, undef, undef, undef, undef, undef, undef, undef, undef, undef, undef, undef, undef, undef, undef, undef, undef, undef, undef, undef, undef, undef, undef, undef], defers := [] } : Act).put (some 18) (.int .i64 0)) Y) := by
    rintro v84 B8 q8 g8 c8 N7 a7 c7 Y ⟨r1, r2, r3, r4, r5, r6, HR⟩
    have HRD : Hid (∀ j, (Y.drewN j).cell? ⟨B8, 1, none⟩ = some (.slice (some ⟨g8, 0, none⟩) 2 c8) ∧ (Y.drewN j).cell? ⟨g8, 0, none⟩ = some (.string (str TT)) ∧ (Y.drewN j).cell? ⟨g8, 1, none⟩ = some (.string { data := #[] }) ∧ (Y.drewN j).cell? ⟨w4.heap.size, 1, none⟩ = some (.slice (some ⟨g, 0, none⟩) 2 c) ∧ (Y.drewN j).cell? ⟨g, 0, none⟩ = some (.string (str TT)) ∧ (Y.drewN j).cell? ⟨g, 1, none⟩ = some (.string { data := #[] })) := fun j => ⟨r1, r2, r3, r4, r5, r6⟩
    have HRB : Hid (∀ j, Below w.heap.size w (Y.drewN j)) := fun j => HR.out.trans ((bdN Y j).mono HR.out.size)
    clear HR HB72 HU2 HBU HBU2 HBwU HBs hbZ hbD HU hTT HSL HCall HSt HP D4 O4 o1 o2 o3 d1 d1z d2 d3 hU hU2 HW2 hcM hW7
    refine hK _ _ ?_
    go_wp2_with fail
    go_region_held_law (fun V => V.cell? ⟨B8, 1, none⟩ = some (.slice (some ⟨g8, 0, none⟩) 2 c8) ∧ V.cell? ⟨g8, 0, none⟩ = some (.string (str TT)) ∧ V.cell? ⟨g8, 1, none⟩ = some (.string { data := #[] }) ∧ V.cell? ⟨w4.heap.size, 1, none⟩ = some (.slice (some ⟨g, 0, none⟩) 2 c) ∧ V.cell? ⟨g, 0, none⟩ = some (.string (str TT)) ∧ V.cell? ⟨g, 1, none⟩ = some (.string { data := #[] })) (first | exact HRD.out _ | go_keep) (first | (go_at_call 11; refine (num_any _ _).mono ?_; rintro e w9 ⟨rfl, hw9⟩; subst w9))
    all_goals
      go_wp2
      go_ret
      exact ⟨rfl, HRB.out _⟩
  clear hK
  obtain ⟨N7, hN7⟩ : ∃ N7, M - k = N7 := ⟨_, rfl⟩
  have HS3 : Hid (∀ (x : Option Addr) (cc : Nat), (∀ V, Below U2.heap.size U2 V → See V 7 (.slice x N7 cc) N7 (efsC ((edsE 1 s.length A).drop k))) → ∀ V, Below U2.heap.size U2 V → Calls Try.prog 10 #[.slice x N7 cc] V fun e w7 => ∃ a7 c7, e = .returned (.slice a7 N7 c7) ∧ Below V.heap.size V w7 ∧ (w7.cell? ⟨w6.heap.size, 1, none⟩ = some (.slice (some ⟨g', 0, none⟩) 2 c') ∧ (w7.alloc (.cells #[.slice none 0 0, .slice none 0 0] 30)).cell? ⟨w6.heap.size, 1, none⟩ = some (.slice (some ⟨g', 0, none⟩) 2 c')) ∧ Hid (∀ X, Below w7.heap.size w7 X → Calls Try.prog 9 #[.agg #[.slice (some ⟨w2.heap.size, 0, none⟩) 2 2, .slice a7 N7 c7], .slice (some ⟨g', 0, none⟩) 2 c'] X fun e w8 => ∃ q8 g8 c8, e = .returned (.tuple #[.agg #[.slice (some ⟨q8, 0, none⟩) N7 N7, .slice (some ⟨g8, 0, none⟩) 2 c8], .int .i64 0]) ∧ Below X.heap.size X w8 ∧ Hid (Below U2.heap.size U2 w8 ∧ w8.ownsRow X.heap.size 9 1 (.slice (some ⟨g8, 0, none⟩) 2 c8) 2 (scC ([TT, []].map str))))) := fun x cc hx V hV => by
    have h7V := HB72.out.trans (hV.mono HB72.out.size)
    obtain ⟨y1, y2, -⟩ := HSL.out V h7V
    refine (HSt.out V w2.heap.size _ (A.drop k) _ _ _ y1 HP.out.2.2.2.2.2.1 (by have := hx V hV; rw [HP.out.2.2.2.2.1] at this; exact this) (HP.out.2.2.1.trans hN7) (by omega)).mono ?_
    rintro e w7 ⟨a7, c7, rfl, hb7, HA⟩
    have hU7 := hV.trans (hb7.mono hV.size)
    refine ⟨a7, c7, rfl, hb7, ⟨(HU2.out w7 hU7).1, (HU2.out _ (hU7.trans ((al w7 _).mono hU7.size))).1⟩, fun X hX => ?_⟩
    have hUX := hU7.trans (hX.mono hU7.size)
    refine (HA.out X _ _ hX (HU2.out X hUX).2.2.2.out).mono ?_
    rintro e w8 ⟨q8, g8, c8, rfl, hb8, HO8⟩
    refine ⟨q8, g8, c8, rfl, hb8, hUX.trans (hb8.mono hUX.size), ?_⟩
    have := HO8.out
    rw [HP.out.2.2.2.2.2.2.1, hTT] at this
    exact this
  have HDr : Hid (∀ V, Below U2.heap.size U2 V → See V 7 (.slice a1 M c1) M (efsC (edsE 1 s.length A))) := fun V hV => (HSL.out V (HB72.out.trans (hV.mono HB72.out.size))).2.1
  clear HSt HSL HCall HP D4 O4 o1 o2 o3 d2 d3 hU hU2 HW2
  cases a1 with
  | none =>
    obtain ⟨rfl, rfl⟩ := hcM.2.1 rfl
    obtain rfl : k = 0 := by omega
    obtain rfl : N7 = 0 := by omega
    have HS4 : Hid _ := HS3.out none 0 fun V _ => see_zero7 V none _ _ (Nat.le_of_eq hEl)
    clear HS3 HDr
    go_region_law (first
      | (refine step_call rfl 10 cfSt #[.tmp 84] #[24] rfl #[.slice none 0 0] (by simp [Act.eval, Act.put]) (HS4.out _ (by first | with_reducible exact hbD | with_reducible exact hbZ)) ?_; rintro e w7 ⟨a7, c7, rfl, hb7, ⟨e7, e7z⟩, HA7⟩; refine ⟨_, rfl, ?_⟩; first | with_reducible (have kz := zA (U2 := U2) hb7) | skip)
      | (refine step_call rfl 9 cfAp #[.tmp 86, .tmp 88] #[40, 28] rfl #[.agg #[.slice (some ⟨w2.heap.size, 0, none⟩) 2 2, .slice a7 0 c7], .slice (some ⟨g', 0, none⟩) 2 c'] (by simp [Act.eval, Act.put]) (HA7.out _ (by first | with_reducible exact Below.refl _ _ | with_reducible exact al _ _)) ?_; rintro e w8 ⟨q8, g8, c8, rfl, hb8, HF8⟩; refine ⟨_, rfl, ?_⟩; first | with_reducible (have kz8 := zB (w7 := w7) hb8; obtain ⟨m0, m1, n0, n1⟩ := zcells kz8) | (have kz8 := (hb8.block _ (heap_lt kz)).trans kz; obtain ⟨m0, m1, n0, n1⟩ := zcells kz8) | skip))
    all_goals
      first
      | (refine with_world (Q := fun V => FinS w w4.heap.size g c (str TT) U2.heap.size g8 c8 V) _ (by with_reducible exact fin_set HBwU.out HU.out HBU2.out HF8.out.1 HF8.out.2 (Nat.le_refl _) kz8) ?_)
      | (refine with_world (Q := fun V => FinS w w4.heap.size g c (str TT) w7.heap.size g8 c8 V) _ (by with_reducible exact fin_set HBwU.out HU.out HBU2.out HF8.out.1 HF8.out.2 (HBs.out _ hb7) kz8) ?_)
      | (refine with_world (Q := fun V => FinS w w4.heap.size g c (str TT) w8.heap.size g8 c8 V) _ (by with_reducible exact fin_new HBwU.out HU.out HBU2.out HF8.out.1 HF8.out.2) ?_)
      intro Y hY
      exact HT.out _ _ _ _ _ _ _ _ Y hY
  | some x =>
    obtain ⟨b, rfl⟩ := hcM.2.2 x rfl
    by_cases hck : c1 = k
    · obtain rfl : M = k := by omega
      obtain rfl : M = c1 := by omega
      obtain rfl : N7 = 0 := by omega
      have HS4 : Hid _ := HS3.out (some ⟨b, 0, none⟩) 0 fun V _ => see_zero7 V (some ⟨b, 0, none⟩) _ _ (Nat.le_of_eq hEl)
      clear HS3 HDr
      go_region_law (first
        | (refine step_call rfl 10 cfSt #[.tmp 84] #[24] rfl #[.slice (some ⟨b, 0, none⟩) 0 0] (by simp [Act.eval, Act.put]) (HS4.out _ (by first | with_reducible exact hbD | with_reducible exact hbZ)) ?_; rintro e w7 ⟨a7, c7, rfl, hb7, ⟨e7, e7z⟩, HA7⟩; refine ⟨_, rfl, ?_⟩; first | with_reducible (have kz := zA (U2 := U2) hb7) | skip)
        | (refine step_call rfl 9 cfAp #[.tmp 86, .tmp 88] #[40, 28] rfl #[.agg #[.slice (some ⟨w2.heap.size, 0, none⟩) 2 2, .slice a7 0 c7], .slice (some ⟨g', 0, none⟩) 2 c'] (by simp [Act.eval, Act.put]) (HA7.out _ (by first | with_reducible exact Below.refl _ _ | with_reducible exact al _ _)) ?_; rintro e w8 ⟨q8, g8, c8, rfl, hb8, HF8⟩; refine ⟨_, rfl, ?_⟩; first | with_reducible (have kz8 := zB (w7 := w7) hb8; obtain ⟨m0, m1, n0, n1⟩ := zcells kz8) | (have kz8 := (hb8.block _ (heap_lt kz)).trans kz; obtain ⟨m0, m1, n0, n1⟩ := zcells kz8) | skip))
      all_goals
        first
        | (refine with_world (Q := fun V => FinS w w4.heap.size g c (str TT) U2.heap.size g8 c8 V) _ (by with_reducible exact fin_set HBwU.out HU.out HBU2.out HF8.out.1 HF8.out.2 (Nat.le_refl _) kz8) ?_)
        | (refine with_world (Q := fun V => FinS w w4.heap.size g c (str TT) w7.heap.size g8 c8 V) _ (by with_reducible exact fin_set HBwU.out HU.out HBU2.out HF8.out.1 HF8.out.2 (HBs.out _ hb7) kz8) ?_)
        | (refine with_world (Q := fun V => FinS w w4.heap.size g c (str TT) w8.heap.size g8 c8 V) _ (by with_reducible exact fin_new HBwU.out HU.out HBU2.out HF8.out.1 HF8.out.2) ?_)
        intro Y hY
        exact HT.out _ _ _ _ _ _ _ _ Y hY
    · have hkc2 : k ≤ M := hkM
      have HS4 : Hid _ := HS3.out (some ⟨b, k * 7, none⟩) (c1 - k) fun V hV => by
        have := (HDr.out V hV).drop hEl hkM
        rw [Nat.zero_add, hN7] at this
        exact this
      clear HS3 HDr
      go_region_law (first
        | (refine step_call rfl 10 cfSt #[.tmp 84] #[24] rfl #[.slice (some ⟨b, k * 7, none⟩) N7 (c1 - k)] (by simp [Act.eval, Act.put]) (HS4.out _ (by first | with_reducible exact hbD | with_reducible exact hbZ)) ?_; rintro e w7 ⟨a7, c7, rfl, hb7, ⟨e7, e7z⟩, HA7⟩; refine ⟨_, rfl, ?_⟩; first | with_reducible (have kz := zA (U2 := U2) hb7) | skip)
        | (refine step_call rfl 9 cfAp #[.tmp 86, .tmp 88] #[40, 28] rfl #[.agg #[.slice (some ⟨w2.heap.size, 0, none⟩) 2 2, .slice a7 N7 c7], .slice (some ⟨g', 0, none⟩) 2 c'] (by simp [Act.eval, Act.put]) (HA7.out _ (by first | with_reducible exact Below.refl _ _ | with_reducible exact al _ _)) ?_; rintro e w8 ⟨q8, g8, c8, rfl, hb8, HF8⟩; refine ⟨_, rfl, ?_⟩; first | with_reducible (have kz8 := zB (w7 := w7) hb8; obtain ⟨m0, m1, n0, n1⟩ := zcells kz8) | (have kz8 := (hb8.block _ (heap_lt kz)).trans kz; obtain ⟨m0, m1, n0, n1⟩ := zcells kz8) | skip))
      all_goals
        first
        | (refine with_world (Q := fun V => FinS w w4.heap.size g c (str TT) U2.heap.size g8 c8 V) _ (by with_reducible exact fin_set HBwU.out HU.out HBU2.out HF8.out.1 HF8.out.2 (Nat.le_refl _) kz8) ?_)
        | (refine with_world (Q := fun V => FinS w w4.heap.size g c (str TT) w7.heap.size g8 c8 V) _ (by with_reducible exact fin_set HBwU.out HU.out HBU2.out HF8.out.1 HF8.out.2 (HBs.out _ hb7) kz8) ?_)
        | (refine with_world (Q := fun V => FinS w w4.heap.size g c (str TT) w8.heap.size g8 c8 V) _ (by with_reducible exact fin_new HBwU.out HU.out HBU2.out HF8.out.1 HF8.out.2) ?_)
        intro Y hY
        exact HT.out _ _ _ _ _ _ _ _ Y hY
end Go.Proofs.Ytpjigcccjiidpaa.Ex
