import Derived.Test.YtcochbcaillldaaGreatDoorSqI
import Derived.Test.YtcochbcaillldaaGreatDoorSqK
namespace Go.Proofs.YtcochbcaillldaaGreatDoor.Sc
open Go.RowKit Go.Lib Go.Deep

set_option maxRecDepth 20000 in
set_option maxHeartbeats 1000000 in
theorem rPrintAct_out (o : ActR) (h : o.kind < 1 ∨ 6 < o.kind) (w : World) :
    Calls Tryz.prog 11 #[.agg o.cells] w fun e w' => e = .returned (.tuple #[.string { data := #[] }, .int .i64 222]) ∧ Below w.heap.size w w' := by
  obtain ⟨W, hW⟩ : ∃ W, w.alloc (.cells o.cells 36) = W := ⟨_, rfl⟩
  have hbW : Below w.heap.size w W := by rw [← hW]; exact (Below.refl _ _).alloc (Nat.le_refl _) _
  have hoW : ActAt W w.heap.size o := by
    rw [← hW]
    exact heap_alloc_new _ _
  obtain ⟨c0, -⟩ := hoW.nine
  unfold ActR.cells at *
  clear hoW
  have HW : Hid (Unit → _ = W) := fun _ => hW
  clear hW
  rcases h with h | h
  · go_enter Tryz.func11, Tryz.ntmps11
    go_wp2_with fail
    rw [HW.out ()]
    go_wp2_with fail
    go_ret2
    exact ⟨rfl, hbW⟩
  · have h1 : ¬ o.kind < 1 := by omega
    go_enter Tryz.func11, Tryz.ntmps11
    go_wp2_with fail
    rw [HW.out ()]
    go_wp2_with fail
    go_ret2
    exact ⟨rfl, hbW⟩
theorem tabA_kinds (f : Fm) (hf : f ∈ actTab) : 1 ≤ f.kind ∧ f.kind ≤ 6 ∧ f.kind = (kN f : Int) ∧ actsL[kN f]? = some f.word := by
  unfold actTab at hf
  simp only [List.mem_cons, List.not_mem_nil, or_false] at hf
  rcases hf with rfl | rfl | rfl | rfl | rfl | rfl
  all_goals exact ⟨by decide, by decide, rfl, rfl⟩
theorem tabA_all (k : Int) (h1 : 1 ≤ k) (h2 : k ≤ 6) : ∃ f ∈ actTab, f.kind = k := by
  have h : k = 1 ∨ k = 2 ∨ k = 3 ∨ k = 4 ∨ k = 5 ∨ k = 6 := by omega
  unfold actTab
  rcases h with rfl | rfl | rfl | rfl | rfl | rfl <;> simp
theorem tabA_one (f g : Fm) (hf : f ∈ actTab) (hg : g ∈ actTab) (h : f.kind = g.kind) : f = g := by
  unfold actTab at hf hg
  simp only [List.mem_cons, List.not_mem_nil, or_false] at hf hg
  rcases hf with rfl | rfl | rfl | rfl | rfl | rfl <;> rcases hg with rfl | rfl | rfl | rfl | rfl | rfl <;> first | rfl | (exfalso; revert h; decide)
theorem act_line_eq (o : ActR) (f : Fm) (L : List OpR) (nm : List UInt8) (h3 : ¬ f.kind = 3) (h3' : ¬ o.kind = 3) (hb : bareA (shRA f.wr o) = true ↔ okA2 o)
    (h1 : (shGA f.wr o (false, f.word.data.toList)).1 = true → 262144 < (refL o nm).length)
    (h2 : (shGA f.wr o (false, f.word.data.toList)).1 = false → (shGA f.wr o (false, f.word.data.toList)).2 = refL o nm) : actV o L f = refAV o L nm := by
  unfold actV lineA refAV
  rw [if_neg (fun h => h3 h.1)]
  by_cases hn : okA2 o
  · rw [if_neg (show ¬ (bareA (shRA f.wr o) = false) by simp [hb.2 hn]), if_neg (show ¬ ¬ okA2 o from fun h => h hn), if_neg h3']
    cases hc : (shGA f.wr o (false, f.word.data.toList)).1
    · rw [h2 hc]
      simp
    · rw [if_pos (show true = true ∨ _ from Or.inl rfl), if_pos (h1 hc)]
  · have hf : bareA (shRA f.wr o) = false := by
      cases h : bareA (shRA f.wr o)
      · rfl
      · exact absurd (hb.1 h) hn
    rw [if_pos hf, if_pos hn]
theorem act_batch_eq (o : ActR) (f : Fm) (L : List OpR) (nm : List UInt8) (h3 : f.kind = 3) (h3' : o.kind = 3) (hb : bareA (shRA f.wr o) = true ↔ okA2 o) : actV o L f = refAV o L nm := by
  unfold actV lineA refAV
  by_cases hn : okA2 o
  · rw [if_pos ⟨h3, hb.2 hn⟩, if_neg (show ¬ ¬ okA2 o from fun h => h hn), if_pos h3']
  · have hf : bareA (shRA f.wr o) = false := by
      cases h : bareA (shRA f.wr o)
      · rfl
      · exact absurd (hb.1 h) hn
    rw [if_neg (fun h => hn (hb.1 h.2)), if_pos hf, if_pos hn]
set_option maxHeartbeats 4000000 in
theorem actV_eq (o : ActR) (L : List OpR) (f : Fm) (hf : f ∈ actTab) (hk : f.kind = o.kind) : actV o L f = refAV o L f.word.data.toList := by
  obtain ⟨kd, a, n, c, i, b, ek, p, fr, nm, bl⟩ := o
  have hnm := byL_ge nm
  have hbl := byL_ge bl
  unfold actTab at hf
  simp only [List.mem_cons, List.not_mem_nil, or_false] at hf
  have hbare : ∀ (kd : Int) (f : Fm), f ∈ actTab → f.kind = kd → (bareA (shRA f.wr ⟨kd, a, n, c, i, b, ek, p, fr, nm, bl⟩) = true ↔ okA2 ⟨kd, a, n, c, i, b, ek, p, fr, nm, bl⟩) := by
    intro kd f hf hk
    unfold actTab at hf
    simp only [List.mem_cons, List.not_mem_nil, or_false] at hf
    rcases hf with rfl | rfl | rfl | rfl | rfl | rfl
    all_goals
      dsimp only at hk
      subst hk
      simp [shRA, bareA, okA2, sameE, nmdA, zeroA, ActR.noEdit, isE, nil_]
      constructor
      · intro h
        simp_all
      · rintro h
        simp [← h]
  have hB := hbare kd f (by unfold actTab; simp only [List.mem_cons, List.not_mem_nil, or_false]; exact hf) hk
  clear hbare
  rcases hf with rfl | rfl | rfl | rfl | rfl | rfl
  all_goals
    dsimp only at hk
    subst hk
    first
      | exact act_batch_eq _ _ _ _ rfl rfl hB
      | (refine act_line_eq _ _ _ _ (by decide) (by dsimp only; decide) hB ?_ ?_
         · by_cases hx : 262144 < nm.size <;> by_cases hy : 262144 < bl.size <;> simp [shGA, stB, stN, refL, hx, hy] <;> omega
         · by_cases hx : 262144 < nm.size <;> by_cases hy : 262144 < bl.size <;> simp [shGA, stB, stN, refL, hx, hy, nmL])
/-- the answer of both -/
def AnsA (o : ActR) (L : List OpR) (x : ByteArray) (c : Int) : Prop := 0 ≤ c ∧ c < 1000 ∧
  (∀ w, SeeO w o.ops L → ITab w → Calls Tryz.prog 10 #[o.val] w fun e w' => e = .returned (.tuple #[.string x, .int .i64 c]) ∧ Below w.heap.size w w')
theorem firE_bd (L : List OpR) (hL : ∀ o ∈ L, o.Ok) : 0 ≤ firE L ∧ firE L < 1000 := by
  induction L with
  | nil => exact ⟨Int.le_refl _, by decide⟩
  | cons a t ih =>
    have h1 := (prO_ans a (hL a (List.mem_cons_self ..))).1
    have h2 := ih fun n hn => hL n (List.mem_cons_of_mem _ hn)
    unfold firE
    split
    · exact h2
    · exact ⟨h1.1, h1.2.1⟩
theorem acts_same (o : ActR) (hok : o.Ok) (L : List OpR) (hL : ∀ x ∈ L, x.Ok) (hn : L.length = o.nops) (hll : L.length ≤ 1048576) : ∃ (x : ByteArray) (c : Int), 0 ≤ c ∧ c < 1000 ∧
    (∀ w, SeeO w o.ops L → ITab w → Calls Tryz.prog 11 #[o.val] w fun e w' => e = .returned (.tuple #[.string x, .int .i64 c]) ∧ Below w.heap.size w w') ∧
    (∀ p : ActR, p.Ok → (∃ a ca, p = { o with ops := a, cops := ca }) → ∀ w, SeeO w p.ops L → ITab w → Calls Tryz.prog 10 #[p.val] w fun e w' => e = .returned (.tuple #[.string x, .int .i64 c]) ∧ Below w.heap.size w w') := by
  by_cases hin : 1 ≤ o.kind ∧ o.kind ≤ 6
  · obtain ⟨f, hf, hk⟩ := tabA_all o.kind hin.1 hin.2
    obtain ⟨h1, h6, hkn, hnm⟩ := tabA_kinds f hf
    have hx : ∃ (x : ByteArray) (c : Int), (0 : Int) ≤ c ∧ c < 1000 ∧ refAV o L f.word.data.toList = .tuple #[.string x, .int .i64 c] := by
      unfold refAV
      split
      · exact ⟨_, _, by decide, by decide, rfl⟩
      · split
        · unfold batchV
          split
          · exact ⟨_, _, by decide, by decide, rfl⟩
          · exact ⟨_, _, (firE_bd L hL).1, (firE_bd L hL).2, rfl⟩
        · split
          · exact ⟨_, _, by decide, by decide, rfl⟩
          · exact ⟨_, _, by decide, by decide, rfl⟩
    obtain ⟨x, c, c0, c1, hv⟩ := hx
    refine ⟨x, c, c0, c1, fun w hs ht => (rPrintAct_any o hok L hL hn hll (kN f) (by omega) (by rw [← hk, hkn]) f.word hnm w hs ht).mono ?_, fun p hp hpo w hs ht => (printAct_any p hp L hL (by obtain ⟨a, ca, rfl⟩ := hpo; exact hn) hll w hs ht).mono ?_⟩
    · rintro e w' ⟨rfl, hb⟩
      exact ⟨by rw [hv], hb⟩
    · rintro e w' ⟨hout, hb⟩
      refine ⟨?_, hb⟩
      have hpk : p.kind = o.kind := by obtain ⟨a, ca, rfl⟩ := hpo; rfl
      have hpr : refAV p L f.word.data.toList = refAV o L f.word.data.toList := by obtain ⟨a, ca, rfl⟩ := hpo; rfl
      rcases hout with ⟨hno, -⟩ | ⟨g, hg, hgk, rfl⟩
      · exact absurd (hk.trans hpk.symm) (hno f hf)
      · rw [tabA_one g f hg hf (hgk.trans (hpk.trans hk.symm)), actV_eq p L f hf (hk.trans hpk.symm), hpr, hv]
  · refine ⟨{ data := #[] }, 222, by decide, by decide, fun w _ _ => rPrintAct_out o (by omega) w, fun p hp hpo w hs ht => (printAct_any p hp L hL (by obtain ⟨a, ca, rfl⟩ := hpo; exact hn) hll w hs ht).mono ?_⟩
    rintro e w' ⟨hout, hb⟩
    refine ⟨?_, hb⟩
    have hpk : p.kind = o.kind := by obtain ⟨a, ca, rfl⟩ := hpo; rfl
    rcases hout with ⟨-, rfl⟩ | ⟨g, hg, hgk, rfl⟩
    · rfl
    · have := tabA_kinds g hg
      omega
end Go.Proofs.YtcochbcaillldaaGreatDoor.Sc
