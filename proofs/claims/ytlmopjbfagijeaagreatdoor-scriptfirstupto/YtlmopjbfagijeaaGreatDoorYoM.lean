import Derived.Test.YtlmopjbfagijeaaGreatDoorYlM
import Derived.Test.YtlmopjbfagijeaaGreatDoorShD
import Derived.Test.YtlmopjbfagijeaaGreatDoorYnM
namespace Go.Proofs.YtlmopjbfagijeaaGreatDoor.Sc
open Go.RowKit Go.Lib Go.Deep

theorem count_any (s : ByteArray) (w : World) : Calls Tryz.prog 69 #[.string s, .string { data := #[10] }] w fun e w' => e = .returned (.int .i64 (s.data.toList.count 10 : Nat)) ∧ w' = w := Any.strings_Count_one cntLays s 10 w
/-- what actLines answers -/
noncomputable def linesV (V : List ActV) (n : Nat) (B : List UInt8) : Value := if firA V = 0 then .tuple #[.string (str B), .int .i64 ((n + lnsT V : Nat) : Int), .int .i64 0] else .tuple #[.string { data := #[] }, .int .i64 0, .int .i64 (firA V)]
theorem lnsT_bd (V : List ActV) (h : ∀ x ∈ V, lnsA x ≤ 1048578) : lnsT V ≤ 1048578 * V.length := by
  induction V with
  | nil => simp [lnsT]
  | cons a t ih =>
    have h1 := h a (List.mem_cons_self ..)
    have h2 := ih fun n hn => h n (List.mem_cons_of_mem _ hn)
    have e : lnsT (a :: t) = lnsA a + lnsT t := by simp [lnsT]
    rw [e, List.length_cons, Nat.mul_add]
    omega
theorem lnsA_bd (V : List ActV) (hok : VOk V) : ∀ x ∈ V, lnsA x ≤ 1048578 := fun x hx => by
  have := (hok.each x hx).2.2.2
  unfold lnsA
  split
  · omega
  · omega
set_option maxRecDepth 20000 in
set_option maxHeartbeats 4000000 in
theorem actLines_any (a : Option Addr) (c ah : Nat) (V : List ActV) (hok : VOk V) (hah : ah ≤ 1048576) (w : World) (hs : SeeV w a V) (ht : ITab w) :
    Calls Tryz.prog 32 #[.slice a V.length c, .int .i64 (ah : Int)] w fun e w' => (∃ B, (ah + lnsT V ≤ 20000 → firA V = 0 → B = actsT V) ∧ e = .returned (linesV V ah B)) ∧ Below w.heap.size w w' := by
  have HS : Hid (SeeV w a V) := hs
  have HT : Hid (ITab w) := ht
  have HOK : Hid (VOk V) := hok
  obtain ⟨n, hn⟩ : ∃ n, V.length = n := ⟨_, rfl⟩
  have HN : Hid (V.length = n) := hn
  have hnb : n ≤ 1048576 := by rw [← hn]; exact hok.len
  rw [hn]
  clear hn hs ht hok
  have HLb : Hid (∀ j, lnsT (V.take j) ≤ 1099513724928) := by
    show ∀ j, _
    intro j
    have h1 := lnsT_bd V (lnsA_bd V HOK.out)
    rw [HN.out] at h1
    have h2 := lnsT_mono V j
    omega
  have HU1 : Hid (Bu 81 [] w.heap.size w.heap.size [] (w.alloc (.cells #[.pointer none, .slice none 0 0] 81))) := Bu.new 81 [] w
  have HB1 : Hid (Below w.heap.size w (w.alloc (.cells #[.pointer none, .slice none 0 0] 81))) := (Below.refl w.heap.size w).alloc (Nat.le_refl _) _
  go_enter Tryz.func32, Tryz.ntmps32
  go_wp2_with fail
  go_loopg [8, 16] n (fun gk ct i wr => ∃ j : Nat, j + gk = n ∧ i = .int .i64 (j : Int) ∧ ct = .int .i64 ((ah + lnsT (V.take j) : Nat) : Int) ∧ Hid (∃ B, B.length ≤ 5242900000 ∧ (ah + lnsT (V.take j) ≤ 20000 → B = actsT (V.take j)) ∧ Bu 81 [] w.heap.size w.heap.size B wr ∧ Below w.heap.size w wr ∧ ∀ (i : Nat) x, i < j → V[i]? = some x → (prA x).2 = 0))
  case atStart => exact ⟨0, by omega, rfl, by simp [lnsT], [], by simp, fun _ => by simp [actsT], HU1.out, HB1.out, fun i o h => by omega⟩
  case round =>
    clear HU1 HB1
    obtain ⟨j, hj, rfl, rfl, HI⟩ := hrel
    have hjn : j ≤ n := by omega
    obtain ⟨B, hI⟩ := HI.out
    have HI : Hid _ := hI
    have hBl := hI.1
    have hct := HLb.out j
    clear hI
    by_cases hlt : j < n
    · have hltI : (j : Int) < (n : Int) := by omega
      obtain ⟨x, hx⟩ : ∃ x, V[j]? = some x := ⟨_, List.getElem?_eq_getElem (by rw [HN.out]; omega)⟩
      obtain ⟨b, off, rfl, hbl, hcells, hsee⟩ := HS.out.at hx
      obtain ⟨c0, c1, c2, c3, c4, c5, c6, c7, c8⟩ := hcells.below HI.out.2.2.2.1 hbl
      have hxok := HOK.out.each x (List.mem_of_getElem? hx)
      have hpa := prA_pa x hxok
      have HLT := lnsT_take V j x hx
      have HAT := actsT_take V j x hx
      have hla := lnsA_bd V HOK.out x (List.mem_of_getElem? hx)
      have HX : Hid (V[j]? = some x) := hx
      obtain ⟨t, hxt⟩ : ∃ t, (prA x).1 = t := ⟨_, rfl⟩
      obtain ⟨cd, hcd⟩ : ∃ cd, (prA x).2 = cd := ⟨_, rfl⟩
      obtain ⟨la, hlaE⟩ : ∃ la, lnsA x = la := ⟨_, rfl⟩
      obtain ⟨l0, hl0⟩ : ∃ l0, lnsT (V.take j) = l0 := ⟨_, rfl⟩
      have HL0 : Hid (lnsT (V.take j) = l0) := hl0
      have HCD : Hid ((prA x).2 = cd) := hcd
      have hprog := hpa.prog x.1 hxok.1 ⟨x.1.ops, x.1.cops, rfl⟩
      have hc0 := hpa.lo
      have hc1 := hpa.hi
      have hcnt := hpa.cnt
      have hsz := hpa.size
      rw [hxt, hcd] at hprog
      rw [hcd] at hc0 hc1
      rw [hcd, hxt, hlaE] at hcnt hsz
      rw [hlaE] at hla
      rw [hl0] at hct ⊢
      rw [hlaE, hl0] at HLT
      rw [hxt] at HAT
      have HLT : Hid (lnsT (V.take (j + 1)) = l0 + la) := HLT
      have HAT : Hid (actsT (V.take (j + 1)) = actsT (V.take j) ++ (t.data.toList ++ [10])) := HAT
      have hp := hprog (wr.alloc (.cells x.1.cells 36)) ((hsee.below HI.out.2.2.2.1).below ((Below.refl wr.heap.size wr).alloc (Nat.le_refl _) _)) (HT.out.below (HI.out.2.2.2.1.alloc HI.out.2.2.2.1.size _) HT.out.lt)
      have hA := (Below.refl wr.heap.size wr).alloc (Nat.le_refl _) (.cells x.1.cells 36)
      have HBA : Hid (Below wr.heap.size wr (wr.alloc (.cells x.1.cells 36))) := hA
      unfold ActR.val ActR.cells at hp
      unfold ActR.cells at HBA
      clear hcells hsee hpa hprog hx hxok hcd hlaE hl0 hxt hA
      go_wp2_with (go_at_call 10; refine hp.mono ?_)
      rintro e w3 ⟨rfl, hb3⟩
      clear hp c0 c1 c2 c3 c4 c5 c6 c7 c8
      have HB3 : Hid (Below wr.heap.size wr w3) := HBA.out.trans (hb3.mono HBA.out.size)
      clear HBA hb3
      by_cases hz : cd = 0
      · subst hz
        have hcnt := hcnt rfl
        have hsz := hsz rfl
        have hco := count_any t w3
        obtain ⟨k, hk⟩ : ∃ k, t.data.toList.count 10 = k := ⟨_, rfl⟩
        rw [hk] at hco hcnt
        clear hk
        have hadd : (1 : Int) + (k : Int) = ((la : Nat) : Int) := by omega
        have hadd2 : ((ah + l0 : Nat) : Int) + ((la : Nat) : Int) = ((ah + (l0 + la) : Nat) : Int) := by omega
        have HE : Hid (∀ (i : Nat) x, i < j + 1 → V[i]? = some x → (prA x).2 = 0) := by
          show ∀ (i : Nat) x, _
          intro i o' hi ho'
          by_cases e : i = j
          · subst e
            rw [HX.out] at ho'
            rw [← Option.some.inj ho']
            exact HCD.out
          · exact HI.out.2.2.2.2 i o' (by omega) ho'
        by_cases hle : ah + (l0 + la) ≤ 20000
        · have hleI : ((ah + (l0 + la) : Nat) : Int) ≤ 20000 := by omega
          have hw := bwrite_any okB w.heap.size w.heap.size B (str (t.data.toList ++ [10])) w3 (HI.out.2.2.1.below HB3.out) (by rw [str_size, List.length_append, ← size_eq]; simp only [List.length_cons, List.length_nil]; omega) (Nat.le_trans HI.out.2.2.2.1.size HB3.out.size)
          rw [str_data] at hw
          have hsum : t ++ ({ data := #[10] } : ByteArray) = str (t.data.toList ++ [10]) := by
            apply ByteArray.ext
            apply Array.toList_inj.1
            simp [str]
          have hsz2 : ¬ 9223372036854775807 < t.size + ({ data := #[10] } : ByteArray).size := by
            have : ({ data := #[10] } : ByteArray).size = 1 := rfl
            omega
          obtain ⟨y, hy⟩ : ∃ y, str (t.data.toList ++ [10]) = y := ⟨_, rfl⟩
          rw [hy] at hw hsum
          clear hy
          go_wp2_with (first | (go_at_call 61; refine hw.mono ?_; rintro e w4 ⟨rfl, ⟨hu4, hb4⟩, -⟩; clear hw) | (go_at_call 69; refine hco.mono ?_; rintro e w4 ⟨rfl, rfl⟩; clear hco))
          have HJ : Hid (∃ B', B'.length ≤ 5242900000 ∧ (ah + lnsT (V.take (j + 1)) ≤ 20000 → B' = actsT (V.take (j + 1))) ∧ Bu 81 [] w.heap.size w.heap.size B' w4 ∧ Below w.heap.size w w4 ∧ ∀ (i : Nat) x, i < j + 1 → V[i]? = some x → (prA x).2 = 0) := by
            have hB := HI.out.2.1 (by rw [HL0.out]; omega)
            have hal := actsT_len (V.take (j + 1)) (fun x hx => HOK.out.each x (List.mem_of_mem_take hx)) (fun x hx => by
              obtain ⟨i, hi⟩ := List.mem_iff_getElem?.1 hx
              have hij : i < j + 1 := by
                have := (List.getElem?_eq_some_iff.1 hi).1
                rw [List.length_take] at this
                omega
              rw [List.getElem?_take_of_lt hij] at hi
              exact HE.out i x hij hi)
            rw [HLT.out] at hal
            have hal2 := Nat.mul_le_mul_left 262145 (show l0 + la ≤ 20000 by omega)
            refine ⟨actsT (V.take (j + 1)), by omega, fun _ => rfl, ?_, (HI.out.2.2.2.1.trans (HB3.out.mono HI.out.2.2.2.1.size)).trans hb4, HE.out⟩
            rw [HAT.out, ← hB]
            exact hu4
          clear hu4 hb4 HI HB3
          go_roundg (gk - 1)
          case measure => omega
          case rel => exact ⟨j + 1, by omega, by go_num, by rw [HLT.out]; exact congrArg (Value.int .i64) (by omega), HJ⟩
        · have hleI : ¬ ((ah + (l0 + la) : Nat) : Int) ≤ 20000 := by omega
          go_wp2_with (go_at_call 69; refine hco.mono ?_; rintro e w4 ⟨rfl, rfl⟩; clear hco)
          have HJ : Hid (∃ B', B'.length ≤ 5242900000 ∧ (ah + lnsT (V.take (j + 1)) ≤ 20000 → B' = actsT (V.take (j + 1))) ∧ Bu 81 [] w.heap.size w.heap.size B' w4 ∧ Below w.heap.size w w4 ∧ ∀ (i : Nat) x, i < j + 1 → V[i]? = some x → (prA x).2 = 0) :=
            ⟨B, hBl, fun h => absurd h (by rw [HLT.out]; exact hle), HI.out.2.2.1.below HB3.out, HI.out.2.2.2.1.trans (HB3.out.mono HI.out.2.2.2.1.size), HE.out⟩
          clear HI HB3
          go_roundg (gk - 1)
          case measure => omega
          case rel => exact ⟨j + 1, by omega, by go_num, by rw [HLT.out]; exact congrArg (Value.int .i64) (by omega), HJ⟩
      · have HF : Hid (firA V = cd) := by
          show _ = _
          rw [← HCD.out]
          exact firA_hit V j x HX.out HI.out.2.2.2.2 (by rw [HCD.out]; exact hz)
        have HBB : Hid (Below w.heap.size w w3) := HI.out.2.2.2.1.trans (HB3.out.mono HI.out.2.2.2.1.size)
        clear HI HB3
        go_wp2
        go_ret3
        refine ⟨⟨[], fun _ h => absurd (HF.out.symm.trans h) hz, ?_⟩, HBB.out⟩
        unfold linesV
        rw [HF.out, if_neg hz]
        rfl
    · obtain rfl : j = n := by omega
      have hltI : ¬ (j : Int) < (j : Int) := by omega
      have HF : Hid (firA V = 0) := firA_all V fun i o ho => HI.out.2.2.2.2 i o (by have := (List.getElem?_eq_some_iff.1 ho).1; have := HN.out; omega) ho
      have HTk : Hid (V.take j = V) := List.take_of_length_le (by have := HN.out; omega)
      have HBV : Hid (ah + lnsT V ≤ 20000 → B = actsT V) := by
        show _ → _
        have h := HI.out.2.1
        rw [HTk.out] at h
        exact h
      have hst := bstring_any w.heap.size w.heap.size _ wr HI.out.2.2.1
      have HB0 : Hid (Below w.heap.size w wr) := HI.out.2.2.2.1
      rw [HTk.out]
      clear HI
      go_wp2_with (go_at_call 62; refine hst.mono ?_; rintro e w5 ⟨rfl, hb5⟩; clear hst)
      go_ret3
      refine ⟨⟨B, fun h _ => HBV.out h, ?_⟩, HB0.out.trans hb5⟩
      unfold linesV
      rw [HF.out, if_pos rfl]
      first | rfl | (simp only [Nat.cast_add, Int.natCast_add]; rfl)
end Go.Proofs.YtlmopjbfagijeaaGreatDoor.Sc

namespace Go.Proofs.YtlmopjbfagijeaaGreatDoor.Sc
open Go.RowKit Go.Lib Go.Deep

def cfgL (p : PlR) : List UInt8 := [99, 111, 110, 102, 105, 103] ++ nmL [p.s, p.f, p.d, p.m, p.l, p.p]
set_option maxRecDepth 20000 in
set_option maxHeartbeats 4000000 in
theorem configLine_any (p : PlR) (hok : p.Ok) (w : World) (ht : ITab w) :
    Calls Tryz.prog 34 #[.agg #[.int .i64 p.s, .int .i64 p.f, .int .i64 p.d, .int .i64 p.m, .int .i64 p.l, .int .i64 p.p]] w fun e w' => e = .returned (.string (str (cfgL p))) ∧ Below w.heap.size w w' := by
  obtain ⟨c0, hc0⟩ : ∃ c, p.s = c := ⟨_, rfl⟩
  obtain ⟨c1, hc1⟩ : ∃ c, p.f = c := ⟨_, rfl⟩
  obtain ⟨c2, hc2⟩ : ∃ c, p.d = c := ⟨_, rfl⟩
  obtain ⟨c3, hc3⟩ : ∃ c, p.m = c := ⟨_, rfl⟩
  obtain ⟨c4, hc4⟩ : ∃ c, p.l = c := ⟨_, rfl⟩
  obtain ⟨c5, hc5⟩ : ∃ c, p.p = c := ⟨_, rfl⟩
  have hI : ∀ n ∈ [c0, c1, c2, c3, c4, c5], I64 n := by
    rw [← hc0, ← hc1, ← hc2, ← hc3, ← hc4, ← hc5]
    simp only [List.mem_cons, List.not_mem_nil, or_false]
    rintro n (rfl | rfl | rfl | rfl | rfl | rfl)
    · exact hok.s
    · exact hok.f
    · exact hok.d
    · exact hok.m
    · exact hok.l
    · exact hok.p
  have HC : Hid (cfgL p = [99, 111, 110, 102, 105, 103] ++ nmL [c0, c1, c2, c3, c4, c5]) := by
    show _ = _
    unfold cfgL
    rw [hc0, hc1, hc2, hc3, hc4, hc5]
  obtain ⟨l, hl⟩ : ∃ l, cfgL p = l := ⟨_, rfl⟩
  rw [hc0, hc1, hc2, hc3, hc4, hc5, hl]
  have hl : [99, 111, 110, 102, 105, 103] ++ nmL [c0, c1, c2, c3, c4, c5] = l := HC.out.symm.trans hl
  clear hc0 hc1 hc2 hc3 hc4 hc5 HC hok
  obtain ⟨W, hW⟩ : ∃ W, w.alloc (.cells #[.int .i64 c0, .int .i64 c1, .int .i64 c2, .int .i64 c3, .int .i64 c4, .int .i64 c5] 24) = W := ⟨_, rfl⟩
  have hbW : Below w.heap.size w W := by rw [← hW]; exact (Below.refl _ _).alloc (Nat.le_refl _) _
  have hlt : w.heap.size < W.heap.size := by rw [← hW]; simp
  have hrb : W.heap[w.heap.size]? = some (.cells #[.int .i64 c0, .int .i64 c1, .int .i64 c2, .int .i64 c3, .int .i64 c4, .int .i64 c5] 24 (0, 0)) := by rw [← hW]; exact heap_alloc_new _ _
  have h0 := lineOf_any { data := #[99, 111, 110, 102, 105, 103] } (by decide) W
  go_enter Tryz.func34, Tryz.ntmps34
  go_wp2_with fail
  try rw [hW]
  refine h0.mono ?_
  rintro e w1 ⟨rfl, hu1, hb1⟩
  have hu1 : Ln false W.heap.size [99, 111, 110, 102, 105, 103] w1 := hu1
  clear h0
  have hr1 := (hb1.block _ hlt).trans hrb
  have k0 : w1.cell? ⟨w.heap.size, 0, none⟩ = some (.int .i64 c0) := by rw [Lib.cell_of_heap hr1]; rfl
  have k1 : w1.cell? ⟨w.heap.size, 1, none⟩ = some (.int .i64 c1) := by rw [Lib.cell_of_heap hr1]; rfl
  have k2 : w1.cell? ⟨w.heap.size, 2, none⟩ = some (.int .i64 c2) := by rw [Lib.cell_of_heap hr1]; rfl
  have k3 : w1.cell? ⟨w.heap.size, 3, none⟩ = some (.int .i64 c3) := by rw [Lib.cell_of_heap hr1]; rfl
  have k4 : w1.cell? ⟨w.heap.size, 4, none⟩ = some (.int .i64 c4) := by rw [Lib.cell_of_heap hr1]; rfl
  have k5 : w1.cell? ⟨w.heap.size, 5, none⟩ = some (.int .i64 c5) := by rw [Lib.cell_of_heap hr1]; rfl
  have hbL := hbW.trans (hb1.mono (Nat.le_of_lt hlt))
  have hgL : 3 < W.heap.size := Nat.lt_trans ht.lt hlt
  have hlt1 := hu1.lt
  have hA1 := (Below.refl w1.heap.size w1).alloc (Nat.le_refl _) (.cells #[.int .i64 c0, .int .i64 c1, .int .i64 c2, .int .i64 c3, .int .i64 c4, .int .i64 c5] 3)
  have h1 := numbers_any false W.heap.size w1.heap.size 6 6 [c0, c1, c2, c3, c4, c5] [99, 111, 110, 102, 105, 103] _ (hu1.below hA1) (ht.below (hbL.trans (hA1.mono (Nat.le_trans hbL.size (Nat.le_refl _)))) ht.lt) hgL (Nat.ne_of_gt hlt1) (heap_alloc_new _ _) rfl hI (by decide) (by decide)
  have HB : Hid (Below w.heap.size w (w1.alloc (.cells #[.int .i64 c0, .int .i64 c1, .int .i64 c2, .int .i64 c3, .int .i64 c4, .int .i64 c5] 3))) := hbL.trans (hA1.mono (Nat.le_trans hbL.size (Nat.le_refl _)))
  rw [hl] at h1
  clear hW hrb hr1 hbL hgL hA1 hb1 hu1 hI hl hbW
  go_wp2_with (first | (go_at_call 62; refine hst.mono ?_; rintro e w3 ⟨rfl, hb3⟩; clear hst) | (go_at_call 70; refine h1.mono ?_; rintro e w2 ⟨rfl, ⟨hu2, hb2⟩, ho2⟩; clear h1 ho2; have hst := bstring_any W.heap.size W.heap.size _ w2 hu2))
  go_ret
  exact ⟨rfl, HB.out.trans ((hb2.trans (hb3.mono (Nat.le_refl _))).mono (by omega))⟩
end Go.Proofs.YtlmopjbfagijeaaGreatDoor.Sc
