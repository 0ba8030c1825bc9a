import Derived.Test.YtpjigcccjiidpaaExG
namespace Go.Proofs.Ytpjigcccjiidpaa.Ex
open Go.RowKit Go.Lib Go.Deep

/-- behind Apply: what the rest of ExecBytes asks -/
def GbE (w : World) (a1 : Option Addr) (M c1 : Nat) (E : List Ef) (o q g c : Nat) (C D : ByteArray) (k : Nat) (V : World) : Prop :=
  V.cell? ⟨o, 0, none⟩ = some (.slice (some ⟨q, 0, none⟩) (M + 1) (M + 1)) ∧ V.cell? ⟨o, 1, none⟩ = some (.slice (some ⟨g, 0, none⟩) 1 c) ∧ V.cell? ⟨g, 0, none⟩ = some (.string C) ∧ V.cell? ⟨q, M * 6 + 1, none⟩ = some (.string D) ∧ V.cell? ⟨q, M * 6 + 2, none⟩ = some (.int .i64 (k : Int)) ∧ Hid (See V 7 (.slice a1 M c1) M (efsC E) ∧ Below w.heap.size w V)
theorem wf9 : wf 9 := by unfold wf; decide
theorem wf0 : wf 0 := by unfold wf; decide
set_option maxRecDepth 20000 in
theorem bytes_apply (w w2 : World) (hb : Below w.heap.size w w2) (s : List UInt8) (hs : s.length ≤ 300) (A : List Ed) (hA : A.length ≤ 60) (a1 : Option Addr) (M c1 : Nat) (hM : A.length = M) (hE : See w2 7 (.slice a1 M c1) M (efsC (edsE 9 s.length A))) (f k : Nat) (hfk : f + k ≤ edsZ 9 s.length A) :
    Calls Try.prog 10 #[.slice a1 M c1] w2 fun e w3 => ∃ a3 c3, e = .returned (.slice a3 M c3) ∧ ∃ W8, w3.alloc (.cells #[.int .i64 0, .string { data := #[] }, .int .i64 (k : Int), .slice none 0 0, .int .i64 0, .int .i64 0, .int .i64 2, .int .i64 9, .int .i64 0, .int .i64 (f : Int), .int .i64 (k : Int), .string { data := #[] }, .int .i64 ((edsZ 9 s.length A : Nat) : Int)] 58) = W8 ∧
      Hid (W8.ownsRow w2.heap.size 58 13 (.slice a3 M c3) M (stsC ((edsE 9 s.length A).map mk0))) ∧ Hid (See W8 13 (.slice (some ⟨w3.heap.size, 0, none⟩) 1 1) 1 (stC (rdSt f k (edsZ 9 s.length A)))) ∧ (M + 1 ≤ maxLen ∧ (M + 1) * 136 ≤ 140737488355328 ∧ w2.heap.size ≤ W8.heap.size) ∧
      Hid (∀ (w4 : World) (a4 : Option Addr) (c4 : Nat), w4.ownsRow w2.heap.size 58 13 (.slice a4 (M + 1) c4) (M + 1) (stsC ((edsE 9 s.length A).map mk0) ++ stC (rdSt f k (edsZ 9 s.length A))) → W8.grownBy w4 (Value.slice a3 M c3).ownBlock →
        ∃ W9, w4.alloc (.cells #[.int .i64 0, .int .i64 9, .int .i64 9, .int .i64 0] 35) = W9 ∧ ∃ W10, W9.alloc (.cells #[.string (str s)] 9) = W10 ∧
          Calls Try.prog 9 #[.agg #[.slice (some ⟨w4.heap.size, 0, none⟩) 1 1, .slice a4 (M + 1) c4], .slice (some ⟨W9.heap.size, 0, none⟩) 1 1] W10 fun e w5 => ∃ q g c, e = .returned (.tuple #[.agg #[.slice (some ⟨q, 0, none⟩) (M + 1) (M + 1), .slice (some ⟨g, 0, none⟩) 1 c], .int .i64 0]) ∧ ∃ U, w5.alloc (.cells #[.slice (some ⟨q, 0, none⟩) (M + 1) (M + 1), .slice (some ⟨g, 0, none⟩) 1 c] 30) = U ∧
            Hid (∀ V, Below U.heap.size U V → GbE w a1 M c1 (edsE 9 s.length A) w5.heap.size q g c (str (runs s (edsE 9 s.length A))) (str (((runs s (edsE 9 s.length A)).drop f).take k)) k V)) := by
  refine (steps_any w2 a1 M c1 (edsE 9 s.length A) hE (by rw [edsE_len]; exact hM) (by omega)).mono ?_
  rintro e w3 ⟨a3, c3, rfl, hown, hb3⟩
  obtain ⟨W8, hW8, hb8, k8⟩ := one_new w3 #[.int .i64 0, .string { data := #[] }, .int .i64 (k : Int), .slice none 0 0, .int .i64 0, .int .i64 0, .int .i64 2, .int .i64 9, .int .i64 0, .int .i64 (f : Int), .int .i64 (k : Int), .string { data := #[] }, .int .i64 ((edsZ 9 s.length A : Nat) : Int)] 58
  have hb38 := hb3.trans (hb8.mono hb3.size)
  refine ⟨a3, c3, rfl, W8, hW8, owns_below hown hb8, see_blk k8 rfl (stC_one (rdSt f k (edsZ 9 s.length A))), ⟨by unfold maxLen; omega, by omega, hb38.size⟩, fun w4 a4 c4 ho4 hg4 => ?_⟩
  have hb4 : Below w2.heap.size w2 w4 := hb38.trans (grown_below hg4 hb38.size (owns_below hown hb8))
  obtain ⟨W9, hW9, hb9, k9⟩ := one_new w4 #[.int .i64 0, .int .i64 9, .int .i64 9, .int .i64 0] 35
  obtain ⟨W10, hW10, hb10, k10⟩ := one_new W9 #[.string (str s)] 9
  refine ⟨W9, hW9, W10, hW10, ?_⟩
  have hbB : Below w4.heap.size w4 W10 := hb9.trans (hb10.mono hb9.size)
  have hb210 := hb4.trans (hbB.mono hb4.size)
  have s1 : See W10 4 (.slice (some ⟨w4.heap.size, 0, none⟩) 1 1) 1 (slsC [⟨0, 9, 9, 0⟩]) := see_blk ((hb10.block _ (heap_lt k9)).trans k9) rfl (fun u hu => by simp at hu; rcases hu with rfl | rfl | rfl <;> rfl)
  have hsn : stsC ((edsE 9 s.length A).map mk0) ++ stC (rdSt f k (edsZ 9 s.length A)) = stsC ((edsE 9 s.length A).map mk0 ++ [rdSt f k (edsZ 9 s.length A)]) := (stsC_snoc _ _).symm
  rw [hsn] at ho4
  have s2 : See W10 13 (.slice a4 (M + 1) c4) (M + 1) (stsC ((edsE 9 s.length A).map mk0 ++ [rdSt f k (edsZ 9 s.length A)])) := see_own (owns_below ho4 hbB) (sts_one _)
  have s3 : See W10 1 (.slice (some ⟨W9.heap.size, 0, none⟩) 1 1) 1 (scC ([s].map str)) := see_blk k10 rfl (fun u hu => by simp at hu; subst hu; rfl)
  have hTl : ((edsE 9 s.length A).map mk0 ++ [rdSt f k (edsZ 9 s.length A)]).length = M + 1 := by rw [List.length_append, List.length_map, edsE_len, hM]; rfl
  have hmem : ∀ x ∈ (edsE 9 s.length A).map mk0 ++ [rdSt f k (edsZ 9 s.length A)], EfW x.s.e ∧ x.v = ⟨none, 0, 0⟩ ∧ x.nm = [] := fun x hx => by
    rcases List.mem_append.1 hx with h | h
    · refine ⟨eds_ef (by unfold wf; decide) A s x h, ?_⟩
      obtain ⟨e, -, rfl⟩ := List.mem_map.1 h
      exact ⟨rfl, rfl⟩
    · obtain rfl := List.mem_singleton.1 h
      refine ⟨⟨(wf9 : wf 9), (wf0 : wf 0), ?_, by show 0 ≤ _; omega⟩, rfl, rfl⟩
      have := edsZ_le 9 A s.length
      show (f : Int) ≤ _
      omega
  refine (apply_any [⟨0, 9, 9, 0⟩] ((edsE 9 s.length A).map mk0 ++ [rdSt f k (edsZ 9 s.length A)]) [s] W10 (some ⟨w4.heap.size, 0, none⟩) a4 (some ⟨W9.heap.size, 0, none⟩) 1 1 (M + 1) c4 1 1 s1 rfl s2 hTl s3 rfl (by omega) (by omega) (fun x hx => ?_) (fun x hx => (hmem x hx).1) (fun x hx => ?_) (fun x hx => ?_) (fun c hc => ?_)).mono ?_
  · simp at hx; subst hx; exact ⟨by unfold wf; decide, by unfold wf; decide⟩
  · rw [(hmem x hx).2.1]; show 0 ≤ _; omega
  · rw [(hmem x hx).2.1, (hmem x hx).2.2]; exact see_nil _ _
  · simp at hc; subst hc; omega
  · intro e w5 h5
    obtain ⟨hb5, q, a, l, c, R, rfl, hO⟩ := ap_some (app_bytes s A f k hfk) h5
    obtain ⟨g, rfl, hg, t0⟩ := hO.text (i := 0) rfl
    obtain ⟨hq, r1, r2⟩ := hO.res (i := M) (r := ⟨0, ((runs s (edsE 9 s.length A)).drop f).take k, (k : Int), 0, 0⟩) (by rw [List.getElem?_append_right (by simp [hM])]; simp [hM])
    obtain rfl : l = 1 := hO.cl
    obtain ⟨U, hU, hbU, kU⟩ := one_new w5 #[.slice (some ⟨q, 0, none⟩) (M + 1) (M + 1), .slice (some ⟨g, 0, none⟩) 1 c] 30
    refine ⟨q, g, c, rfl, U, hU, fun V hV => ?_⟩
    have hk := (hV.block _ (heap_lt kU)).trans kU
    have hb5V := hbU.trans (hV.mono hbU.size)
    have hb2V : Below w2.heap.size w2 V := by
      have h1 := hb210.trans (hb5.mono hb210.size)
      exact h1.trans (hb5V.mono h1.size)
    exact ⟨(cell_of_heap hk).trans rfl, (cell_of_heap hk).trans rfl, (hb5V.cell (p := ⟨g, 0, none⟩) hg).trans t0, (hb5V.cell (p := ⟨q, M * 6 + 1, none⟩) hq).trans r1, (hb5V.cell (p := ⟨q, M * 6 + 2, none⟩) hq).trans r2, hE.below hb2V, hb.trans (hb2V.mono hb.size)⟩
end Go.Proofs.Ytpjigcccjiidpaa.Ex
