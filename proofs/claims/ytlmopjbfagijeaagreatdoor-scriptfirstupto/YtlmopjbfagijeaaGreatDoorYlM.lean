import Derived.Test.YtlmopjbfagijeaaGreatDoorSqI
import Derived.Test.YtlmopjbfagijeaaGreatDoorYkM
import Derived.Test.YtlmopjbfagijeaaGreatDoorYfM
namespace Go.Proofs.YtlmopjbfagijeaaGreatDoor.Sc
open Go.RowKit Go.Lib Go.Deep

set_option maxRecDepth 20000 in
set_option maxHeartbeats 1000000 in
theorem rPrintAct_out (o : ActR) (h : o.kind < 1 ∨ 6 < o.kind) (w : World) :
    Calls Tryz.prog 11 #[.agg o.cells] w fun e w' => e = .returned (.tuple #[.string { data := #[] }, .int .i64 222]) ∧ Below w.heap.size w w' := by
  obtain ⟨W, hW⟩ : ∃ W, w.alloc (.cells o.cells 36) = W := ⟨_, rfl⟩
  have hbW : Below w.heap.size w W := by rw [← hW]; exact (Below.refl _ _).alloc (Nat.le_refl _) _
  have hoW : ActAt W w.heap.size o := by
    rw [← hW]
    exact heap_alloc_new _ _
  obtain ⟨c0, -⟩ := hoW.nine
  unfold ActR.cells at *
  clear hoW
  have HW : Hid (Unit → _ = W) := fun _ => hW
  clear hW
  rcases h with h | h
  · go_enter Tryz.func11, Tryz.ntmps11
    go_wp2_with fail
    rw [HW.out ()]
    go_wp2_with fail
    go_ret2
    exact ⟨rfl, hbW⟩
  · have h1 : ¬ o.kind < 1 := by omega
    go_enter Tryz.func11, Tryz.ntmps11
    go_wp2_with fail
    rw [HW.out ()]
    go_wp2_with fail
    go_ret2
    exact ⟨rfl, hbW⟩
theorem tabA_kinds (f : Fm) (hf : f ∈ actTab) : 1 ≤ f.kind ∧ f.kind ≤ 6 ∧ f.kind = (kN f : Int) ∧ actsL[kN f]? = some f.word := by
  unfold actTab at hf
  simp only [List.mem_cons, List.not_mem_nil, or_false] at hf
  rcases hf with rfl | rfl | rfl | rfl | rfl | rfl
  all_goals exact ⟨by decide, by decide, rfl, rfl⟩
theorem tabA_all (k : Int) (h1 : 1 ≤ k) (h2 : k ≤ 6) : ∃ f ∈ actTab, f.kind = k := by
  have h : k = 1 ∨ k = 2 ∨ k = 3 ∨ k = 4 ∨ k = 5 ∨ k = 6 := by omega
  unfold actTab
  rcases h with rfl | rfl | rfl | rfl | rfl | rfl <;> simp
theorem tabA_one (f g : Fm) (hf : f ∈ actTab) (hg : g ∈ actTab) (h : f.kind = g.kind) : f = g := by
  unfold actTab at hf hg
  simp only [List.mem_cons, List.not_mem_nil, or_false] at hf hg
  rcases hf with rfl | rfl | rfl | rfl | rfl | rfl <;> rcases hg with rfl | rfl | rfl | rfl | rfl | rfl <;> first | rfl | (exfalso; revert h; decide)
theorem act_line_eq (o : ActR) (f : Fm) (L : List OpR) (nm : List UInt8) (h3 : ¬ f.kind = 3) (h3' : ¬ o.kind = 3) (hb : bareA (shRA f.wr o) = true ↔ okA2 o)
    (h1 : (shGA f.wr o (false, f.word.data.toList)).1 = true → 262144 < (refL o nm).length)
    (h2 : (shGA f.wr o (false, f.word.data.toList)).1 = false → (shGA f.wr o (false, f.word.data.toList)).2 = refL o nm) : actV o L f = refAV o L nm := by
  unfold actV lineA refAV
  rw [if_neg (fun h => h3 h.1)]
  by_cases hn : okA2 o
  · rw [if_neg (show ¬ (bareA (shRA f.wr o) = false) by simp [hb.2 hn]), if_neg (show ¬ ¬ okA2 o from fun h => h hn), if_neg h3']
    cases hc : (shGA f.wr o (false, f.word.data.toList)).1
    · rw [h2 hc]
      simp
    · rw [if_pos (show true = true ∨ _ from Or.inl rfl), if_pos (h1 hc)]
  · have hf : bareA (shRA f.wr o) = false := by
      cases h : bareA (shRA f.wr o)
      · rfl
      · exact absurd (hb.1 h) hn
    rw [if_pos hf, if_pos hn]
theorem act_batch_eq (o : ActR) (f : Fm) (L : List OpR) (nm : List UInt8) (h3 : f.kind = 3) (h3' : o.kind = 3) (hb : bareA (shRA f.wr o) = true ↔ okA2 o) : actV o L f = refAV o L nm := by
  unfold actV lineA refAV
  by_cases hn : okA2 o
  · rw [if_pos ⟨h3, hb.2 hn⟩, if_neg (show ¬ ¬ okA2 o from fun h => h hn), if_pos h3']
  · have hf : bareA (shRA f.wr o) = false := by
      cases h : bareA (shRA f.wr o)
      · rfl
      · exact absurd (hb.1 h) hn
    rw [if_neg (fun h => hn (hb.1 h.2)), if_pos hf, if_pos hn]
set_option maxHeartbeats 4000000 in
theorem actV_eq (o : ActR) (L : List OpR) (f : Fm) (hf : f ∈ actTab) (hk : f.kind = o.kind) : actV o L f = refAV o L f.word.data.toList := by
  obtain ⟨kd, a, n, c, i, b, ek, p, fr, nm, bl⟩ := o
  have hnm := byL_ge nm
  have hbl := byL_ge bl
  unfold actTab at hf
  simp only [List.mem_cons, List.not_mem_nil, or_false] at hf
  have hbare : ∀ (kd : Int) (f : Fm), f ∈ actTab → f.kind = kd → (bareA (shRA f.wr ⟨kd, a, n, c, i, b, ek, p, fr, nm, bl⟩) = true ↔ okA2 ⟨kd, a, n, c, i, b, ek, p, fr, nm, bl⟩) := by
    intro kd f hf hk
    unfold actTab at hf
    simp only [List.mem_cons, List.not_mem_nil, or_false] at hf
    rcases hf with rfl | rfl | rfl | rfl | rfl | rfl
    all_goals
      dsimp only at hk
      subst hk
      simp [shRA, bareA, okA2, sameE, nmdA, zeroA, ActR.noEdit, isE, nil_]
      constructor
      · intro h
        simp_all
      · rintro h
        simp [← h]
  have hB := hbare kd f (by unfold actTab; simp only [List.mem_cons, List.not_mem_nil, or_false]; exact hf) hk
  clear hbare
  rcases hf with rfl | rfl | rfl | rfl | rfl | rfl
  all_goals
    dsimp only at hk
    subst hk
    first
      | exact act_batch_eq _ _ _ _ rfl rfl hB
      | (refine act_line_eq _ _ _ _ (by decide) (by dsimp only; decide) hB ?_ ?_
         · by_cases hx : 262144 < nm.size <;> by_cases hy : 262144 < bl.size <;> simp [shGA, stB, stN, refL, hx, hy] <;> omega
         · by_cases hx : 262144 < nm.size <;> by_cases hy : 262144 < bl.size <;> simp [shGA, stB, stN, refL, hx, hy, nmL])
/-- the answer of both -/
def AnsA (o : ActR) (L : List OpR) (x : ByteArray) (c : Int) : Prop := 0 ≤ c ∧ c < 1000 ∧
  (∀ w, SeeO w o.ops L → ITab w → Calls Tryz.prog 10 #[o.val] w fun e w' => e = .returned (.tuple #[.string x, .int .i64 c]) ∧ Below w.heap.size w w')
theorem firE_bd (L : List OpR) (hL : ∀ o ∈ L, o.Ok) : 0 ≤ firE L ∧ firE L < 1000 := by
  induction L with
  | nil => exact ⟨Int.le_refl _, by decide⟩
  | cons a t ih =>
    have h1 := (prO_ans a (hL a (List.mem_cons_self ..))).1
    have h2 := ih fun n hn => hL n (List.mem_cons_of_mem _ hn)
    unfold firE
    split
    · exact h2
    · exact ⟨h1.1, h1.2.1⟩
theorem acts_same (o : ActR) (hok : o.Ok) (L : List OpR) (hL : ∀ x ∈ L, x.Ok) (hn : L.length = o.nops) (hll : L.length ≤ 1048576) : ∃ (x : ByteArray) (c : Int), 0 ≤ c ∧ c < 1000 ∧
    (∀ w, SeeO w o.ops L → ITab w → Calls Tryz.prog 11 #[o.val] w fun e w' => e = .returned (.tuple #[.string x, .int .i64 c]) ∧ Below w.heap.size w w') ∧
    (∀ p : ActR, p.Ok → (∃ a ca, p = { o with ops := a, cops := ca }) → ∀ w, SeeO w p.ops L → ITab w → Calls Tryz.prog 10 #[p.val] w fun e w' => e = .returned (.tuple #[.string x, .int .i64 c]) ∧ Below w.heap.size w w') := by
  by_cases hin : 1 ≤ o.kind ∧ o.kind ≤ 6
  · obtain ⟨f, hf, hk⟩ := tabA_all o.kind hin.1 hin.2
    obtain ⟨h1, h6, hkn, hnm⟩ := tabA_kinds f hf
    have hx : ∃ (x : ByteArray) (c : Int), (0 : Int) ≤ c ∧ c < 1000 ∧ refAV o L f.word.data.toList = .tuple #[.string x, .int .i64 c] := by
      unfold refAV
      split
      · exact ⟨_, _, by decide, by decide, rfl⟩
      · split
        · unfold batchV
          split
          · exact ⟨_, _, by decide, by decide, rfl⟩
          · exact ⟨_, _, (firE_bd L hL).1, (firE_bd L hL).2, rfl⟩
        · split
          · exact ⟨_, _, by decide, by decide, rfl⟩
          · exact ⟨_, _, by decide, by decide, rfl⟩
    obtain ⟨x, c, c0, c1, hv⟩ := hx
    refine ⟨x, c, c0, c1, fun w hs ht => (rPrintAct_any o hok L hL hn hll (kN f) (by omega) (by rw [← hk, hkn]) f.word hnm w hs ht).mono ?_, fun p hp hpo w hs ht => (printAct_any p hp L hL (by obtain ⟨a, ca, rfl⟩ := hpo; exact hn) hll w hs ht).mono ?_⟩
    · rintro e w' ⟨rfl, hb⟩
      exact ⟨by rw [hv], hb⟩
    · rintro e w' ⟨hout, hb⟩
      refine ⟨?_, hb⟩
      have hpk : p.kind = o.kind := by obtain ⟨a, ca, rfl⟩ := hpo; rfl
      have hpr : refAV p L f.word.data.toList = refAV o L f.word.data.toList := by obtain ⟨a, ca, rfl⟩ := hpo; rfl
      rcases hout with ⟨hno, -⟩ | ⟨g, hg, hgk, rfl⟩
      · exact absurd (hk.trans hpk.symm) (hno f hf)
      · rw [tabA_one g f hg hf (hgk.trans (hpk.trans hk.symm)), actV_eq p L f hf (hk.trans hpk.symm), hpr, hv]
  · refine ⟨{ data := #[] }, 222, by decide, by decide, fun w _ _ => rPrintAct_out o (by omega) w, fun p hp hpo w hs ht => (printAct_any p hp L hL (by obtain ⟨a, ca, rfl⟩ := hpo; exact hn) hll w hs ht).mono ?_⟩
    rintro e w' ⟨hout, hb⟩
    refine ⟨?_, hb⟩
    have hpk : p.kind = o.kind := by obtain ⟨a, ca, rfl⟩ := hpo; rfl
    rcases hout with ⟨-, rfl⟩ | ⟨g, hg, hgk, rfl⟩
    · rfl
    · have := tabA_kinds g hg
      omega
end Go.Proofs.YtlmopjbfagijeaaGreatDoor.Sc

namespace Go.Proofs.YtlmopjbfagijeaaGreatDoor.Sc
open Go.RowKit Go.Lib Go.Deep

theorem opsT_count (L : List OpR) (h : ∀ o ∈ L, o.Ok) : (opsT L).count 10 = L.length := by
  induction L with
  | nil => rfl
  | cons a t ih =>
    have h1 := (prO_all a (h a (List.mem_cons_self ..))).2.2.count
    have h2 := ih fun n hn => h n (List.mem_cons_of_mem _ hn)
    simp only [opsT, List.flatMap_cons] at h2 ⊢
    rw [List.count_append, h2, List.count_cons, h1, List.length_cons]
    simp
    omega
/-- how many lines an act has -/
def lnsA (x : ActV) : Nat := if x.1.kind = 3 then x.2.length + 2 else 1
/-- a text is the first line of an act -/
def ActForm (a : ActR) (t : List UInt8) : Prop := ∃ f ∈ actTab, f.kind = a.kind ∧ bareA (shRA f.wr a) ≠ false ∧ (shGA f.wr a (false, f.word.data.toList)).1 = false ∧ (shGA f.wr a (false, f.word.data.toList)).2.length ≤ 262144 ∧ t = (shGA f.wr a (false, f.word.data.toList)).2 ∧ Nl t
/-- the text of an act, by what its lines are -/
def actText (T : OpR → List UInt8) (x : ActV) (t : List UInt8) : List UInt8 := if x.1.kind = 3 then t ++ 10 :: (x.2.flatMap (fun o => T o ++ [10]) ++ [101, 110, 100]) else t
noncomputable def prT (o : OpR) : List UInt8 := (prO o).1.data.toList
structure AForm (x : ActV) (p : List UInt8) : Prop where
  text : ∃ t, ActForm x.1 t ∧ p = actText prT x t
  fir : x.1.kind = 3 → firE x.2 = 0
  alone : x.1.kind ≠ 3 → x.2 = []
theorem actForm_to {a : ActR} {t : List UInt8} (h : ActForm a t) (b : Option Addr) (c : Nat) : ActForm { a with ops := b, cops := c } t := by
  obtain ⟨f, hf, hk, hb, h1, h2, h3, h4⟩ := h
  have e : bareA (shRA f.wr { a with ops := b, cops := c }) = bareA (shRA f.wr a) := by
    unfold shRA
    repeat' split
    all_goals rfl
  have e2 : shGA f.wr { a with ops := b, cops := c } (false, f.word.data.toList) = shGA f.wr a (false, f.word.data.toList) := by
    unfold shGA
    repeat' split
    all_goals rfl
  exact ⟨f, hf, hk, by rw [e]; exact hb, by rw [e2]; exact h1, by rw [e2]; exact h2, by rw [e2]; exact h3, h4⟩
theorem opsT_turn (L : List OpR) (b : List UInt8) : opsT L ++ 10 :: b = 10 :: (L.flatMap (fun o => prT o ++ [10]) ++ b) := by
  induction L with
  | nil => rfl
  | cons o L ih =>
    have e : opsT (o :: L) = 10 :: (prT o ++ opsT L) := by simp [opsT, prT]
    rw [e, List.cons_append, List.append_assoc, ih]
    simp
theorem batch_word (f : Fm) (hf : f ∈ actTab) (h3 : f.kind = 3) (o : ActR) : shGA f.wr o (false, f.word.data.toList) = (false, [98, 97, 116, 99, 104]) := by
  unfold actTab at hf
  simp only [List.mem_cons, List.not_mem_nil, or_false] at hf
  rcases hf with rfl | rfl | rfl | rfl | rfl | rfl
  all_goals first
    | exact absurd h3 (by decide)
    | rfl
theorem alone_nops (f : Fm) (hf : f ∈ actTab) (h3 : f.kind ≠ 3) (o : ActR) (hb : bareA (shRA f.wr o) ≠ false) : o.nops = 0 := by
  have hb : bareA (shRA f.wr o) = true := by simpa using hb
  unfold actTab at hf
  simp only [List.mem_cons, List.not_mem_nil, or_false] at hf
  unfold bareA at hb
  simp only [Bool.and_eq_true, beq_iff_eq] at hb
  have h0 := hb.1.1.1.1.1.1.1
  rcases hf with rfl | rfl | rfl | rfl | rfl | rfl
  all_goals first
    | exact absurd rfl h3
    | exact h0
theorem act_form (o : ActR) (L : List OpR) (f : Fm) (hf : f ∈ actTab) (hk : f.kind = o.kind) (hn : L.length = o.nops) {x : ByteArray} {c : Int} (h : actV o L f = .tuple #[.string x, .int .i64 c]) (hc : c = 0) : AForm (o, L) x.data.toList := by
  subst hc
  unfold actV at h
  by_cases h3 : f.kind = 3 ∧ bareA (shRA f.wr o) = true
  · rw [if_pos h3] at h
    unfold batchV at h
    have hw := batch_word f hf h3.1 o
    split at h
    · rename_i hfe
      have hx : x = str ([98, 97, 116, 99, 104] ++ opsT L ++ [10, 101, 110, 100]) := by simpa using h.symm
      refine ⟨⟨[98, 97, 116, 99, 104], ⟨f, hf, hk, by rw [h3.2]; decide, by rw [hw], by rw [hw]; decide, by rw [hw], by intro c hc; revert hc; revert c; decide⟩, ?_⟩, fun _ => hfe, fun h => absurd (hk.symm.trans h3.1) h⟩
      have h3o : o.kind = 3 := hk.symm.trans h3.1
      unfold actText
      rw [if_pos h3o, hx, str_data, List.append_assoc]
      show _ ++ (opsT L ++ 10 :: [101, 110, 100]) = _
      rw [opsT_turn]
    · rename_i hfe
      have : firE L = 0 := by simpa using (show firE L = 0 by injection h with h; simp at h; exact h.2)
      exact absurd this hfe
  · rw [if_neg h3] at h
    unfold lineA at h
    split at h
    · simp at h
    · rename_i hb
      split at h
      · simp at h
      · rename_i hl
        have h3f : f.kind ≠ 3 := fun e => h3 ⟨e, by simpa using hb⟩
        have hx : x = str (shGA f.wr o (false, f.word.data.toList)).2 := by simpa using h.symm
        have h3o : o.kind ≠ 3 := fun e => h3f (hk.trans e)
        refine ⟨⟨_, ⟨f, hf, hk, hb, by simpa using (fun e => hl (Or.inl e)), Nat.le_of_not_lt (fun e => hl (Or.inr e)), rfl, shGA_nl f.wr o (word_nl f (Or.inr hf))⟩, ?_⟩, fun e => absurd e h3o, fun _ => List.eq_nil_of_length_eq_zero (hn.trans (alone_nops f hf h3f o hb))⟩
        unfold actText
        rw [if_neg h3o, hx, str_data]
/-- what PrintAct answers of an act, wherever its list lies -/
structure PA (x : ActV) (p : ByteArray × Int) : Prop where
  lo : 0 ≤ p.2
  hi : p.2 < 1000
  ref : ∀ q : ActR, q.Ok → (∃ a ca, q = { x.1 with ops := a, cops := ca }) → ∀ w, SeeO w q.ops x.2 → ITab w → Calls Tryz.prog 11 #[q.val] w fun e w' => e = .returned (.tuple #[.string p.1, .int .i64 p.2]) ∧ Below w.heap.size w w'
  prog : ∀ q : ActR, q.Ok → (∃ a ca, q = { x.1 with ops := a, cops := ca }) → ∀ w, SeeO w q.ops x.2 → ITab w → Calls Tryz.prog 10 #[q.val] w fun e w' => e = .returned (.tuple #[.string p.1, .int .i64 p.2]) ∧ Below w.heap.size w w'
  cnt : p.2 = 0 → p.1.data.toList.count 10 + 1 = lnsA x
  size : p.2 = 0 → p.1.size + 1 ≤ 262145 * lnsA x
  form : p.2 = 0 → AForm x p.1.data.toList
theorem pa_ex (x : ActV) (h : x.1.Ok ∧ (∀ o ∈ x.2, o.Ok) ∧ x.2.length = x.1.nops ∧ x.2.length ≤ 1048576) : ∃ p, PA x p := by
  obtain ⟨o, L⟩ := x
  obtain ⟨hok, hL, hn, hll⟩ := h
  dsimp only at hok hL hn hll
  by_cases hin : 1 ≤ o.kind ∧ o.kind ≤ 6
  · obtain ⟨f, hf, hk⟩ := tabA_all o.kind hin.1 hin.2
    obtain ⟨h1, h6, hkn, hnm⟩ := tabA_kinds f hf
    have hx : ∃ (x : ByteArray) (c : Int), (0 : Int) ≤ c ∧ c < 1000 ∧ refAV o L f.word.data.toList = .tuple #[.string x, .int .i64 c] ∧ (c = 0 → x.data.toList.count 10 + 1 = lnsA (o, L)) ∧ (c = 0 → x.size + 1 ≤ 262145 * lnsA (o, L)) := by
      unfold refAV
      split
      · exact ⟨_, _, by decide, by decide, rfl, fun e => (by cases e), fun e => (by cases e)⟩
      · split
        · rename_i h3
          have h3 : o.kind = 3 := h3
          unfold batchV
          split
          · refine ⟨_, _, by decide, by decide, rfl, fun _ => ?_, fun _ => ?_⟩
            · rw [str_data, List.count_append, List.count_append, opsT_count L hL]
              unfold lnsA
              rw [if_pos h3]
              simp
            · have hb := opsT_len L hL
              rw [str_size, List.length_append, List.length_append]
              unfold lnsA
              rw [if_pos h3]
              simp only [List.length_cons, List.length_nil]
              omega
          · exact ⟨_, _, (firE_bd L hL).1, (firE_bd L hL).2, rfl, fun e => absurd e (by assumption), fun e => absurd e (by assumption)⟩
        · rename_i h3
          split
          · exact ⟨_, _, by decide, by decide, rfl, fun e => (by cases e), fun e => (by cases e)⟩
          · rename_i hl
            refine ⟨_, _, by decide, by decide, rfl, fun _ => ?_, fun _ => ?_⟩
            · have hnl : Nl (refL o f.word.data.toList) := by
                have hw := word_nl f (Or.inr hf)
                unfold refL
                split
                · exact hw.app (Nl.cons (by decide) (itoa_nl _))
                · split
                  · exact (((((hw.app (Nl.cons (by decide) (itoa_nl _))).app (Nl.cons (by decide) (itoa_nl _))).app (Nl.cons (by decide) (itoa_nl _))).app (Nl.cons (by decide) (itoa_nl _))).app (Nl.cons (by decide) (byL_nl _))).app (Nl.cons (by decide) (byL_nl _))
                  · exact hw
              rw [str_data, hnl.count]
              unfold lnsA
              rw [if_neg h3]
            · rw [str_size]
              unfold lnsA
              rw [if_neg h3]
              omega
    obtain ⟨x, c, c0, c1, hv, hcnt, hsz⟩ := hx
    refine ⟨(x, c), c0, c1, fun p hp hpo w hs ht => (rPrintAct_any p hp L hL (by obtain ⟨a, ca, rfl⟩ := hpo; exact hn) hll (kN f) (by omega) (by rw [show p.kind = o.kind by obtain ⟨a, ca, rfl⟩ := hpo; rfl, ← hk, hkn]) f.word hnm w hs ht).mono ?_, fun p hp hpo w hs ht => (printAct_any p hp L hL (by obtain ⟨a, ca, rfl⟩ := hpo; exact hn) hll w hs ht).mono ?_, hcnt, hsz, act_form o L f hf hk hn ((actV_eq o L f hf hk).trans hv)⟩
    · rintro e w' ⟨rfl, hb⟩
      have hpr : refAV p L f.word.data.toList = refAV o L f.word.data.toList := by obtain ⟨a, ca, rfl⟩ := hpo; rfl
      exact ⟨by rw [hpr, hv], hb⟩
    · rintro e w' ⟨hout, hb⟩
      refine ⟨?_, hb⟩
      have hpk : p.kind = o.kind := by obtain ⟨a, ca, rfl⟩ := hpo; rfl
      have hpr : refAV p L f.word.data.toList = refAV o L f.word.data.toList := by obtain ⟨a, ca, rfl⟩ := hpo; rfl
      rcases hout with ⟨hno, -⟩ | ⟨g, hg, hgk, rfl⟩
      · exact absurd (hk.trans hpk.symm) (hno f hf)
      · rw [tabA_one g f hg hf (hgk.trans (hpk.trans hk.symm)), actV_eq p L f hf (hk.trans hpk.symm), hpr, hv]
  · refine ⟨({ data := #[] }, 222), by decide, by decide, fun p _ hpo w _ _ => rPrintAct_out p (by rw [show p.kind = o.kind by obtain ⟨a, ca, rfl⟩ := hpo; rfl]; omega) w, fun p hp hpo w hs ht => (printAct_any p hp L hL (by obtain ⟨a, ca, rfl⟩ := hpo; exact hn) hll w hs ht).mono ?_, fun e => (by cases e), fun e => (by cases e), fun e => (by cases e)⟩
    rintro e w' ⟨hout, hb⟩
    refine ⟨?_, hb⟩
    have hpk : p.kind = o.kind := by obtain ⟨a, ca, rfl⟩ := hpo; rfl
    rcases hout with ⟨-, rfl⟩ | ⟨g, hg, hgk, rfl⟩
    · rfl
    · have := tabA_kinds g hg
      omega
open Classical in
noncomputable def prOf (P : ByteArray × Int → Prop) : ByteArray × Int := if h : ∃ p, P p then Classical.choose h else (nil_, 0)
noncomputable def prA (x : ActV) : ByteArray × Int := prOf (PA x)
theorem prA_pa (x : ActV) (h : x.1.Ok ∧ (∀ o ∈ x.2, o.Ok) ∧ x.2.length = x.1.nops ∧ x.2.length ≤ 1048576) : PA x (prA x) := by
  have h := pa_ex x h
  unfold prA prOf
  rw [dif_pos h]
  exact Classical.choose_spec h
theorem pa_to (x : ActV) (a : Option Addr) (c : Nat) (p : ByteArray × Int) (h : PA x p) : PA ({ x.1 with ops := a, cops := c }, x.2) p :=
  ⟨h.lo, h.hi, fun q hq hqo => h.ref q hq (by obtain ⟨a', c', rfl⟩ := hqo; exact ⟨a', c', rfl⟩), fun q hq hqo => h.prog q hq (by obtain ⟨a', c', rfl⟩ := hqo; exact ⟨a', c', rfl⟩), h.cnt, h.size, fun e => by obtain ⟨⟨t, ht, hp⟩, h2, h3⟩ := h.form e; exact ⟨⟨t, actForm_to ht a c, hp⟩, h2, h3⟩⟩
theorem prA_moved (x : ActV) (a : Option Addr) (c : Nat) : prA ({ x.1 with ops := a, cops := c }, x.2) = prA x := by
  have e : PA ({ x.1 with ops := a, cops := c }, x.2) = PA x := by
    funext p
    exact propext ⟨fun h => pa_to ({ x.1 with ops := a, cops := c }, x.2) x.1.ops x.1.cops p h, pa_to x a c p⟩
  unfold prA
  rw [e]
/-- the lines of acts -/
noncomputable def actsT (V : List ActV) : List UInt8 := V.flatMap fun x => (prA x).1.data.toList ++ [10]
noncomputable def lnsT (V : List ActV) : Nat := (V.map lnsA).sum
noncomputable def firA : List ActV → Int
  | [] => 0
  | x :: r => if (prA x).2 = 0 then firA r else (prA x).2
theorem firA_all (V : List ActV) : (∀ (i : Nat) x, V[i]? = some x → (prA x).2 = 0) → firA V = 0 := by
  induction V with
  | nil => intro _; rfl
  | cons a t ih =>
    intro h
    rw [firA, if_pos (h 0 a rfl)]
    exact ih fun i o ho => h (i + 1) o ho
theorem firA_hit (V : List ActV) : ∀ (j : Nat) (x : ActV), V[j]? = some x → (∀ (i : Nat) x, i < j → V[i]? = some x → (prA x).2 = 0) → (prA x).2 ≠ 0 → firA V = (prA x).2 := by
  induction V with
  | nil => intro j o h; cases h
  | cons a t ih =>
    intro j o h h0 hne
    cases j with
    | zero =>
      have e : a = o := by simpa only [List.getElem?_cons_zero, Option.some.injEq] using h
      subst e
      rw [firA, if_neg hne]
    | succ j =>
      rw [firA, if_pos (h0 0 a (by omega) rfl)]
      exact ih j o h (fun i o hi ho => h0 (i + 1) o (by omega) ho) hne
theorem take_snoc {α : Type} (V : List α) (j : Nat) (x : α) (h : V[j]? = some x) : V.take (j + 1) = V.take j ++ [x] := by
  rw [List.take_add_one, h]
  rfl
theorem actsT_take (V : List ActV) (j : Nat) (x : ActV) (h : V[j]? = some x) : actsT (V.take (j + 1)) = actsT (V.take j) ++ ((prA x).1.data.toList ++ [10]) := by
  rw [take_snoc V j x h]
  simp [actsT]
theorem lnsT_take (V : List ActV) (j : Nat) (x : ActV) (h : V[j]? = some x) : lnsT (V.take (j + 1)) = lnsT (V.take j) + lnsA x := by
  rw [take_snoc V j x h]
  simp [lnsT]
theorem lnsT_mono (V : List ActV) (j : Nat) : lnsT (V.take j) ≤ lnsT V := by
  have h : lnsT V = lnsT (V.take j) + lnsT (V.drop j) := by
    unfold lnsT
    rw [← List.sum_append, ← List.map_append, List.take_append_drop]
  omega
theorem actsT_len (V : List ActV) (hok : ∀ x ∈ V, x.1.Ok ∧ (∀ o ∈ x.2, o.Ok) ∧ x.2.length = x.1.nops ∧ x.2.length ≤ 1048576) (h0 : ∀ x ∈ V, (prA x).2 = 0) : (actsT V).length ≤ 262145 * lnsT V := by
  induction V with
  | nil => simp [actsT]
  | cons a t ih =>
    have h1 := (prA_pa a (hok a (List.mem_cons_self ..))).size (h0 a (List.mem_cons_self ..))
    have h2 := ih (fun n hn => hok n (List.mem_cons_of_mem _ hn)) (fun n hn => h0 n (List.mem_cons_of_mem _ hn))
    rw [size_eq] at h1
    have e1 : (actsT (a :: t)).length = (prA a).1.data.toList.length + 1 + (actsT t).length := by
      simp only [actsT, List.flatMap_cons, List.length_append, List.length_cons, List.length_nil]
    have e2 : lnsT (a :: t) = lnsA a + lnsT t := by simp [lnsT]
    rw [e1, e2, Nat.mul_add]
    omega
end Go.Proofs.YtlmopjbfagijeaaGreatDoor.Sc
