import Derived.Test.YtlmopjbfagijeaaGreatDoorZkM
namespace Go.Proofs.YtlmopjbfagijeaaGreatDoor.Sc
open Go.RowKit Go.Lib Go.Deep

theorem rN_i64 (x : ByteArray) : I64 (rN x) := by
  unfold rN
  cases h : rdN x.data.toList with
  | none => exact ⟨by decide, by decide⟩
  | some v =>
    show I64 v
    unfold rdN at h
    split at h
    · rename_i v' hv
      split at h
      · cases h
        exact Lib.atoiAll_bounds hv
      · cases h
    · cases h
theorem rdBs_len : ∀ (l : List UInt8) (due v : Nat) (r : List UInt8), rdBs due v l = some r → r.length ≤ l.length
  | [], due, v, r, h => by
    cases due with
    | zero => rw [rdBs] at h; cases h; exact Nat.le_refl _
    | succ n => rw [rdBs] at h; cases h
  | c :: t, due, v, r, h => by
    rw [rdBs] at h
    have key : ∀ (a : UInt8) (d w : Nat), (rdBs d w t).map (a :: ·) = some r → r.length ≤ (c :: t).length := fun a d w h => by
      cases e : rdBs d w t with
      | none => rw [e] at h; cases h
      | some q =>
        rw [e] at h
        cases h
        have := rdBs_len t d w q e
        simp only [List.length_cons]
        omega
    split at h
    · split at h
      · split at h
        · cases h
        · exact key _ _ _ h
      · have := rdBs_len t _ _ r h
        simp only [List.length_cons]
        omega
    · split at h
      · have := rdBs_len t _ _ r h
        simp only [List.length_cons]
        omega
      · split at h
        · exact key _ _ _ h
        · cases h
theorem rB_size (x : ByteArray) : (rB x).size ≤ x.size := by
  unfold rB
  rw [str_size, size_eq x]
  cases h : rdB x.data.toList with
  | none => exact Nat.zero_le _
  | some r =>
    show r.length ≤ _
    unfold rdB at h
    split at h
    · cases h
    · rename_i c t e
      split at h
      · rw [e]
        have := rdBs_len t 0 0 r h
        simp only [List.length_cons]
        omega
      · cases h
theorem rdAc_ok (f : FuncId) (T : List ByteArray) (h : ∀ y ∈ T, y.size ≤ 1048576) (o : ActR) (ho : o.Ok) : (rdAc f o T).1.Ok := by
  have hB : ∀ y ∈ T, (rB y).size ≤ 1048576 := fun y hy => Nat.le_trans (rB_size y) (h y hy)
  unfold rdAc
  split
  · split <;> exact ho
  · split
    · split
      · exact ⟨ho.kind, rN_i64 _, ho.before, ho.ek, ho.put, ho.frm, ho.name, ho.blob⟩
      · exact ho
    · split
      · exact ⟨ho.kind, ho.i, rN_i64 _, rN_i64 _, rN_i64 _, rN_i64 _, hB _ (by simp), hB _ (by simp)⟩
      · exact ho
theorem rdO_ok (f : FuncId) (T : List ByteArray) (h : ∀ y ∈ T, y.size ≤ 1048576) (o : OpR) (ho : o.Ok) : (rdO f o T).1.Ok := by
  have hB : ∀ y ∈ T, (rB y).size ≤ 1048576 := fun y hy => Nat.le_trans (rB_size y) (h y hy)
  unfold rdO
  repeat' split
  all_goals first
    | exact ho
    | exact ⟨ho.kind, ho.at_, ho.n, hB _ (by simp), ho.to, ho.data⟩
    | exact ⟨ho.kind, rN_i64 _, rN_i64 _, hB _ (by simp), ho.to, ho.data⟩
    | exact ⟨ho.kind, rN_i64 _, ho.n, hB _ (by simp), ho.to, hB _ (by simp)⟩
    | exact ⟨ho.kind, ho.at_, rN_i64 _, hB _ (by simp), ho.to, ho.data⟩
    | exact ⟨ho.kind, ho.at_, ho.n, hB _ (by simp), hB _ (by simp), ho.data⟩
theorem i64_0 : I64 0 := ⟨by decide, by decide⟩
theorem zA_ok : zA.Ok := ⟨i64_0, i64_0, i64_0, i64_0, i64_0, i64_0, by show nil_.size ≤ _; decide, by show nil_.size ≤ _; decide⟩
theorem zeroP_ok : zeroP.Ok := ⟨i64_0, i64_0, i64_0, by show nil_.size ≤ _; decide, by show nil_.size ≤ _; decide, by show nil_.size ≤ _; decide⟩
theorem kinds_i64 : (∀ f ∈ actTab, I64 f.kind) ∧ ∀ f ∈ opTab, I64 f.kind := by
  constructor
  · intro f hf
    obtain ⟨h1, h6, -, -⟩ := tabA_kinds f hf
    exact ⟨by omega, by omega⟩
  · intro f hf
    obtain ⟨h1, h10, -, -, -⟩ := tab_kinds f hf
    exact ⟨by omega, by omega⟩
theorem fmOf_mem : ∀ (L : List Fm) (x : ByteArray) (f : Fm), fmOf L x = some f → f ∈ L
  | [], x, f, h => by cases h
  | g :: r, x, f, h => by
    unfold fmOf at h
    split at h
    · cases h
      exact List.mem_cons_self ..
    · exact List.mem_cons_of_mem _ (fmOf_mem r x f h)
theorem tellA_good (L : List ByteArray) (h : ∀ y ∈ L, y.size ≤ 1048576) : I64 (tellA L).1 ∧ (tellA L).2.1.Ok := by
  cases L with
  | nil => exact ⟨i64_0, zA_ok⟩
  | cons x r =>
    show I64 (tellAF r (fmOf actTab x)).1 ∧ (tellAF r (fmOf actTab x)).2.1.Ok
    cases hf : fmOf actTab x with
    | none => exact ⟨i64_0, zA_ok⟩
    | some f =>
      have hm := fmOf_mem _ _ _ hf
      have hr := rdAc_ok f.rd r (fun y hy => h y (List.mem_cons_of_mem _ hy)) zA zA_ok
      unfold tellAF
      dsimp only
      split
      · exact ⟨i64_0, zA_ok⟩
      · split
        · exact ⟨i64_0, zA_ok⟩
        · exact ⟨kinds_i64.1 f hm, hr⟩
theorem tellO_good (L : List ByteArray) (h : ∀ y ∈ L, y.size ≤ 1048576) : I64 (tellO L).1 ∧ (tellO L).2.1.Ok := by
  cases L with
  | nil => exact ⟨i64_0, zeroP_ok⟩
  | cons x r =>
    show I64 (tellOF r (fmOf opTab x)).1 ∧ (tellOF r (fmOf opTab x)).2.1.Ok
    cases hf : fmOf opTab x with
    | none => exact ⟨i64_0, zeroP_ok⟩
    | some f =>
      have hm := fmOf_mem _ _ _ hf
      have hr := rdO_ok f.rd r (fun y hy => h y (List.mem_cons_of_mem _ hy)) zeroP zeroP_ok
      unfold tellOF
      dsimp only
      split
      · exact ⟨i64_0, zeroP_ok⟩
      · split
        · exact ⟨i64_0, zeroP_ok⟩
        · exact ⟨kinds_i64.2 f hm, hr⟩
/-- what was read is within bounds -/
structure StOk (b : Nat) (S : St) : Prop where
  s : I64 S.s
  f : I64 S.f
  d : I64 S.d
  m : I64 S.m
  l : I64 S.l
  p : I64 S.p
  master : S.master.size ≤ 262144
  tape : S.tape.length ≤ b
  each : ∀ x ∈ S.V, x.1.Ok ∧ (∀ o ∈ x.2, o.Ok) ∧ x.2.length = x.1.nops ∧ x.2.length ≤ b
  len : S.V.length ≤ b
theorem StOk.up {b c : Nat} {S : St} (h : StOk b S) (hbc : b ≤ c) : StOk c S :=
  ⟨h.s, h.f, h.d, h.m, h.l, h.p, h.master, Nat.le_trans h.tape hbc, fun x hx => ⟨(h.each x hx).1, (h.each x hx).2.1, (h.each x hx).2.2.1, Nat.le_trans (h.each x hx).2.2.2 hbc⟩, Nat.le_trans h.len hbc⟩
theorem StOk.pl {b : Nat} {S : St} (h : StOk b S) (k : Int) : StOk b { S with pl := k } := ⟨h.s, h.f, h.d, h.m, h.l, h.p, h.master, h.tape, h.each, h.len⟩
theorem toS_ok {b : Nat} {S : St} (h : StOk b S) (r : List ByteArray) : StOk b (toS S r).1 := by
  cases r with
  | nil => exact h.pl 3
  | cons => exact h
theorem stepS_ok (b n : Nat) (S : St) (h : StOk b S) (hn : 1 ≤ n) (hn2 : n ≤ 262144) (L : List ByteArray) (hL : ∀ y ∈ L, y.size ≤ n) : StOk (b + n) (stepS S L).1 := by
  have hu : StOk (b + n) S := h.up (by omega)
  have hL2 : ∀ y ∈ L, y.size ≤ 1048576 := fun y hy => by have := hL y hy; omega
  cases L with
  | nil => exact hu
  | cons x r =>
    rw [stepS]
    split
    · split
      · exact hu
      · obtain ⟨hk, ho⟩ := tellA_good (x :: r) hL2
        have hz := (tellA_facts (x :: r)).1
        refine ⟨h.s, h.f, h.d, h.m, h.l, h.p, h.master, hu.tape, fun y hy => ?_, ?_⟩
        · rcases List.mem_append.1 hy with hy | hy
          · exact hu.each y hy
          · rw [List.mem_singleton] at hy
            subst hy
            exact ⟨⟨hk, ho.i, ho.before, ho.ek, ho.put, ho.frm, ho.name, ho.blob⟩, (fun o ho => by cases ho), hz.2.1.symm, Nat.zero_le _⟩
        · show (S.V ++ [_]).length ≤ _
          rw [List.length_append]
          have := h.len
          simp only [List.length_cons, List.length_nil]
          omega
    · split
      · split
        · exact toS_ok hu r
        · split
          · exact hu
          · obtain ⟨hk, ho⟩ := tellO_good (x :: r) hL2
            have hob : OpR.Ok { (tellO (x :: r)).2.1 with kind := (tellO (x :: r)).1 } := ⟨hk, ho.at_, ho.n, ho.path, ho.to, ho.data⟩
            have hV : ∀ (V : List ActV), (∀ y ∈ V, y.1.Ok ∧ (∀ o ∈ y.2, o.Ok) ∧ y.2.length = y.1.nops ∧ y.2.length ≤ b) → V.length ≤ b → (∀ y ∈ addOp V { (tellO (x :: r)).2.1 with kind := (tellO (x :: r)).1 }, y.1.Ok ∧ (∀ o ∈ y.2, o.Ok) ∧ y.2.length = y.1.nops ∧ y.2.length ≤ b + n) ∧ (addOp V { (tellO (x :: r)).2.1 with kind := (tellO (x :: r)).1 }).length ≤ b + n := by
              intro V hV hVl
              rcases List.eq_nil_or_concat V with rfl | ⟨V0, y0, rfl⟩
              · exact ⟨fun y hy => (by cases hy), Nat.zero_le _⟩
              · rw [List.concat_eq_append] at hV hVl ⊢
                rw [addOp_snoc]
                refine ⟨fun y hy => ?_, ?_⟩
                · rcases List.mem_append.1 hy with hy | hy
                  · obtain ⟨q1, q2, q3, q4⟩ := hV y (List.mem_append_left _ hy)
                    exact ⟨q1, q2, q3, by omega⟩
                  · rw [List.mem_singleton] at hy
                    subst hy
                    obtain ⟨q1, q2, q3, q4⟩ := hV y0 (List.mem_append_right _ (List.mem_singleton.2 rfl))
                    refine ⟨⟨q1.kind, q1.i, q1.before, q1.ek, q1.put, q1.frm, q1.name, q1.blob⟩, fun o ho => ?_, ?_, ?_⟩
                    · rcases List.mem_append.1 ho with ho | ho
                      · exact q2 o ho
                      · rw [List.mem_singleton] at ho
                        subst ho
                        exact hob
                    · show (y0.2 ++ [_]).length = y0.1.nops + 1
                      rw [List.length_append, q3]
                      rfl
                    · show (y0.2 ++ [_]).length ≤ _
                      rw [List.length_append]
                      simp only [List.length_cons, List.length_nil]
                      omega
                · rw [List.length_append] at hVl ⊢
                  simp only [List.length_cons, List.length_nil] at hVl ⊢
                  omega
            have h2 := hV S.V h.each h.len
            exact ⟨h.s, h.f, h.d, h.m, h.l, h.p, h.master, hu.tape, h2.1, h2.2⟩
      · split
        · split
          · unfold cfgS
            split
            · exact ⟨rN_i64 _, rN_i64 _, rN_i64 _, rN_i64 _, rN_i64 _, rN_i64 _, h.master, hu.tape, hu.each, hu.len⟩
            · exact hu
          · exact hu
        · split
          · split
            · unfold sealS
              split
              · split
                · exact ⟨h.s, h.f, h.d, h.m, h.l, h.p, h.master, hu.tape, hu.each, hu.len⟩
                · exact hu
              · split
                · rename_i x1 x2 _
                  have hx := hL x2 (by simp)
                  have := rH_size x2
                  exact ⟨h.s, h.f, h.d, h.m, h.l, h.p, (by show (rH x2).size ≤ _; omega), hu.tape, hu.each, hu.len⟩
                · exact hu
              · exact hu
            · exact hu
          · split
            · unfold tapeS
              split
              · rename_i x1
                have hx := hL x1 (by simp)
                have h1 := rH_size x1
                have h2 := size_eq (rH x1)
                refine ⟨h.s, h.f, h.d, h.m, h.l, h.p, h.master, ?_, hu.each, hu.len⟩
                show (S.tape ++ (rH x1).data.toList).length ≤ _
                rw [List.length_append, ← h2]
                have := h.tape
                omega
              · exact hu
            · split
              · exact toS_ok hu r
              · exact hu
theorem lineS_ok (b : Nat) (S : St) (h : StOk b S) (N : Int) (s : ByteArray) : StOk (b + s.size) (lineS S N s).1 := by
  have hu : StOk (b + s.size) S := h.up (by omega)
  unfold lineS
  split
  · exact hu
  · rename_i hs
    split
    · exact hu
    · rename_i x t e
      split
      · exact hu
      · split
        · exact hu
        · have hs1 : 1 ≤ s.size := by rw [size_eq, e]; simp
          exact stepS_ok b s.size S h hs1 (by omega) _ (wordsB_size s)
theorem runS_ok : ∀ (ls : List ByteArray) (b : Nat) (S : St) (N k : Int), StOk b S → StOk (b + (ls.map ByteArray.size).sum) (runS S N k ls).1
  | [], b, S, N, k, h => by
    unfold runS
    split <;> exact h.up (by omega)
  | s :: ls, b, S, N, k, h => by
    have h1 := lineS_ok b S h N s
    rw [List.map_cons, List.sum_cons]
    unfold runS
    split
    · exact h.up (by omega)
    · exact (runS_ok ls _ _ _ _ h1).up (by omega)
theorem s00_ok : StOk 0 S00 := ⟨i64_0, i64_0, i64_0, i64_0, i64_0, i64_0, by show nil_.size ≤ _; decide, Nat.le_refl _, fun x hx => (by cases hx), Nat.le_refl _⟩
/-- lines are no longer than their text -/
theorem lnsL_sum (n : Nat) : ∀ l : List UInt8, l.length ≤ n → ((lnsL l).map ByteArray.size).sum ≤ l.length := by
  induction n with
  | zero =>
    intro l hl
    obtain rfl : l = [] := List.length_eq_zero_iff.1 (by omega)
    rw [lnsL_nil]
    exact Nat.le_refl _
  | succ n ih =>
    intro l hl
    rcases cut_or l with h | ⟨a, b, e, h⟩
    · by_cases h0 : l = []
      · subst h0
        rw [lnsL_nil]
        exact Nat.le_refl _
      · rw [lnsL_free h h0]
        simp [str_size]
    · subst e
      rw [lnsL_cut h, List.map_cons, List.sum_cons, str_size]
      rw [List.length_append, List.length_cons] at hl ⊢
      have := ih b (by omega)
      omega
end Go.Proofs.YtlmopjbfagijeaaGreatDoor.Sc

namespace Go.Proofs.YtlmopjbfagijeaaGreatDoor.Sc
open Go.RowKit Go.Lib Go.Deep

/-- a later start moves the line that is told, and nothing else -/
theorem runS_shift (d : Int) (hd : 0 ≤ d) : ∀ (ls : List ByteArray) (S : St) (N k : Int), 1 ≤ k → (runS S N (k + d) ls).1 = (runS S N k ls).1 ∧ (runS S N (k + d) ls).2.2 = (runS S N k ls).2.2 ∧ 0 ≤ (runS S N k ls).2.1 ∧ (runS S N (k + d) ls).2.1 = if (runS S N k ls).2.1 = 0 then 0 else (runS S N k ls).2.1 + d
  | [], S, N, k, hk => by
    rw [runS, runS]
    split <;> exact ⟨rfl, rfl, Int.le_refl _, rfl⟩
  | s :: ls, S, N, k, hk => by
    rw [runS, runS]
    split
    · refine ⟨rfl, rfl, by show 0 ≤ k; omega, ?_⟩
      show k + d = if k = 0 then 0 else k + d
      rw [if_neg (by omega)]
    · rw [show k + d + 1 = (k + 1) + d by omega]
      exact runS_shift d hd ls _ _ (k + 1) (by omega)
theorem lineS_empty (S : St) (N : Int) : lineS S N (str []) = (S, N, 0) := by
  unfold lineS
  rw [if_neg (by rw [str_size]; decide), str_data]
theorem lineS_note (S : St) (N : Int) (r : List UInt8) (h : r.length < 1000) : lineS S N (str (35 :: r)) = (S, N, 0) := by
  unfold lineS
  rw [if_neg (by rw [str_size]; simp only [List.length_cons]; omega), str_data]
  rfl
def noteL : List UInt8 := [35, 32, 97, 32, 119, 111, 114, 100]
def endL : List UInt8 := [35, 32, 116, 104, 101, 32, 101, 110, 100]
/-- a comment and an empty line ahead -/
theorem run_ahead (T : List UInt8) : runS S00 0 1 (lnsL (noteL ++ 10 :: 10 :: T)) = runS S00 0 3 (lnsL T) := by
  rw [lnsL_cut (by decide), show (10 :: T) = [] ++ 10 :: T from rfl, lnsL_cut (by decide), runS, show noteL = 35 :: [32, 97, 32, 119, 111, 114, 100] from rfl, lineS_note _ _ _ (by decide), if_neg (by simp), runS, lineS_empty, if_neg (by simp)]
  rfl
/-- lines that say nothing -/
def Mute (s : ByteArray) : Prop := ∀ S N, lineS S N s = (S, N, 0)
theorem runS_mute : ∀ (q : List ByteArray), (∀ s ∈ q, Mute s) → ∀ S N k, runS S N k q = runS S N k []
  | [], _, S, N, k => rfl
  | s :: q, h, S, N, k => by
    have e : runS S N k (s :: q) = runS S N (k + 1) q := by
      rw [runS.eq_2, h s (List.mem_cons_self ..), if_neg (by simp)]
    rw [e, runS_mute q (fun x hx => h x (List.mem_cons_of_mem _ hx)), runS.eq_1, runS.eq_1]
theorem runS_tail (q : List ByteArray) (hq : ∀ s ∈ q, Mute s) : ∀ (ls : List ByteArray) (S : St) (N k : Int), runS S N k (ls ++ q) = runS S N k ls
  | [], S, N, k => by rw [List.nil_append]; exact runS_mute q hq S N k
  | s :: ls, S, N, k => by
    rw [List.cons_append, runS, runS]
    split
    · rfl
    · exact runS_tail q hq ls _ _ _
/-- a comment behind -/
theorem lnsL_more (n : Nat) : ∀ T : List UInt8, T.length ≤ n → ∃ q, lnsL (T ++ 10 :: endL) = lnsL T ++ q ∧ ∀ s ∈ q, Mute s := by
  have hm : Mute (str endL) := fun S N => lineS_note S N _ (by decide)
  have he : lnsL endL = [str endL] := lnsL_free (by decide) (by decide)
  induction n with
  | zero =>
    intro T hT
    obtain rfl : T = [] := List.length_eq_zero_iff.1 (by omega)
    refine ⟨[str [], str endL], by rw [lnsL_cut (by decide), he]; rfl, ?_⟩
    intro s hs
    rcases List.mem_cons.1 hs with rfl | hs
    · exact fun S N => lineS_empty S N
    · rw [List.mem_singleton] at hs
      subst hs
      exact hm
  | succ n ih =>
    intro T hT
    rcases cut_or T with h | ⟨a, b, e, h⟩
    · by_cases h0 : T = []
      · subst h0
        exact ih [] (by simp)
      · refine ⟨[str endL], by rw [lnsL_cut h, he, lnsL_free h h0]; rfl, ?_⟩
        intro s hs
        rw [List.mem_singleton] at hs
        subst hs
        exact hm
    · subst e
      rw [List.length_append, List.length_cons] at hT
      obtain ⟨q, h1, h2⟩ := ih b (by omega)
      refine ⟨q, ?_, h2⟩
      rw [List.append_assoc, List.cons_append, lnsL_cut h, lnsL_cut h, h1]
      rfl
theorem run_behind (T : List UInt8) : runS S00 0 1 (lnsL (T ++ 10 :: endL)) = runS S00 0 1 (lnsL T) := by
  obtain ⟨q, h1, h2⟩ := lnsL_more T.length T (Nat.le_refl _)
  rw [h1, runS_tail q h2]
/-- the text ahead of a line -/
def aheadL (n : Nat) (ls : List ByteArray) : List UInt8 := (ls.take n).flatMap fun s => s.data.toList ++ [10]
theorem lnsL_free_all (n : Nat) : ∀ T : List UInt8, T.length ≤ n → ∀ s ∈ lnsL T, (10 : UInt8) ∉ s.data.toList := by
  induction n with
  | zero =>
    intro T hT
    obtain rfl : T = [] := List.length_eq_zero_iff.1 (by omega)
    intro s hs
    cases hs
  | succ n ih =>
    intro T hT s hs
    rcases cut_or T with h | ⟨a, b, e, h⟩
    · by_cases h0 : T = []
      · subst h0; cases hs
      · rw [lnsL_free h h0, List.mem_singleton] at hs
        subst hs
        rw [str_data]
        exact h
    · subst e
      rw [List.length_append, List.length_cons] at hT
      rw [lnsL_cut h] at hs
      rcases List.mem_cons.1 hs with rfl | hs
      · rw [str_data]; exact h
      · exact ih b (by omega) s hs
theorem lnsL_ahead : ∀ (ls : List ByteArray), (∀ s ∈ ls, (10 : UInt8) ∉ s.data.toList) → lnsL (ls.flatMap fun s => s.data.toList ++ [10]) = ls
  | [], _ => rfl
  | s :: ls, h => by
    rw [List.flatMap_cons, List.append_assoc]
    show lnsL (s.data.toList ++ 10 :: (ls.flatMap fun s => s.data.toList ++ [10])) = _
    rw [lnsL_cut (h s (List.mem_cons_self ..)), lnsL_ahead ls (fun x hx => h x (List.mem_cons_of_mem _ hx)), str_of]
theorem run_first : ∀ (ls : List ByteArray) (S : St) (N k : Int), 1 ≤ k → (runS S N k ls).2.1 = 0 ∨ ∃ m : Nat, (runS S N k ls).2.1 = k + m ∧ m < ls.length ∧ ((runS S N k (ls.take m)).2 = (0, 0) ∨ (runS S N k (ls.take m)).2 = (0, 220))
  | [], S, N, k, hk => by
    rw [runS]
    split <;> exact .inl rfl
  | s :: ls, S, N, k, hk => by
    by_cases h : (lineS S N s).2.2 ≠ 0
    · refine .inr ⟨0, ?_, by simp, ?_⟩
      · rw [runS, if_pos h]
        simp
      · rw [List.take_zero, runS]
        split
        · exact .inl rfl
        · exact .inr rfl
    · have e : runS S N k (s :: ls) = runS (lineS S N s).1 (lineS S N s).2.1 (k + 1) ls := by rw [runS, if_neg h]
      rw [e]
      rcases run_first ls (lineS S N s).1 (lineS S N s).2.1 (k + 1) (by omega) with h1 | ⟨m, h1, h2, h3⟩
      · exact .inl h1
      · refine .inr ⟨m + 1, by rw [h1]; omega, by simp; omega, ?_⟩
        rw [List.take_succ_cons, runS, if_neg h]
        exact h3
/-- the text ahead of the line that is told is read, or ends too early -/
theorem run_cut (T : List UInt8) (hl : (runS S00 0 1 (lnsL T)).2.1 ≠ 0) : ∃ m : Nat, (runS S00 0 1 (lnsL T)).2.1 = (m : Int) + 1 ∧ m < (lnsL T).length ∧ ((runS S00 0 1 (lnsL (aheadL m (lnsL T)))).2 = (0, 0) ∨ (runS S00 0 1 (lnsL (aheadL m (lnsL T)))).2 = (0, 220)) := by
  rcases run_first (lnsL T) S00 0 1 (by decide) with h | ⟨m, h1, h2, h3⟩
  · exact absurd h hl
  · refine ⟨m, by rw [h1]; omega, h2, ?_⟩
    unfold aheadL
    rw [lnsL_ahead _ fun s hs => lnsL_free_all _ T (Nat.le_refl _) s (List.mem_of_mem_take hs)]
    exact h3
theorem stepS_code (S : St) (L : List ByteArray) : 0 ≤ (stepS S L).2 ∧ (stepS S L).2 < 1000 := by
  cases L with
  | nil => exact ⟨show (0 : Int) ≤ 220 by decide, show (220 : Int) < 1000 by decide⟩
  | cons x r =>
    have hA := (tellA_facts (x :: r)).2
    have hO := tellO_code (x :: r)
    rw [stepS]
    have hto : ∀ r : List ByteArray, 0 ≤ (toS S r).2 ∧ (toS S r).2 < 1000 := fun r => by
      cases r with
      | nil => exact ⟨show (0 : Int) ≤ 0 by decide, show (0 : Int) < 1000 by decide⟩
      | cons => exact ⟨show (0 : Int) ≤ 223 by decide, show (223 : Int) < 1000 by decide⟩
    have hcf : 0 ≤ (cfgS S r).2 ∧ (cfgS S r).2 < 1000 := by
      unfold cfgS
      split
      · dsimp only; split <;> exact ⟨by decide, by decide⟩
      · exact ⟨show (0 : Int) ≤ 223 by decide, show (223 : Int) < 1000 by decide⟩
    have hse : 0 ≤ (sealS S r).2 ∧ (sealS S r).2 < 1000 := by
      unfold sealS
      split
      · split <;> exact ⟨by dsimp only; decide, by dsimp only; decide⟩
      · split
        · dsimp only; split <;> exact ⟨by decide, by decide⟩
        · exact ⟨show (0 : Int) ≤ 224 by decide, show (224 : Int) < 1000 by decide⟩
      · exact ⟨show (0 : Int) ≤ 223 by decide, show (223 : Int) < 1000 by decide⟩
    have hta : 0 ≤ (tapeS S r).2 ∧ (tapeS S r).2 < 1000 := by
      unfold tapeS
      split
      · dsimp only; split <;> exact ⟨by decide, by decide⟩
      · exact ⟨show (0 : Int) ≤ 223 by decide, show (223 : Int) < 1000 by decide⟩
    have h0 : (0 : Int) ≤ 0 ∧ (0 : Int) < 1000 := ⟨by decide, by decide⟩
    have h2 : (0 : Int) ≤ 220 ∧ (220 : Int) < 1000 := ⟨by decide, by decide⟩
    repeat' split
    all_goals first | exact hA | exact h0 | exact hto r | exact hO | exact hcf | exact h2 | exact hse | exact hta
theorem runS_code : ∀ (ls : List ByteArray) (S : St) (N k : Int), 0 ≤ (runS S N k ls).2.2 ∧ (runS S N k ls).2.2 < 1000
  | [], S, N, k => by
    rw [runS]
    split
    · exact ⟨show (0 : Int) ≤ 0 by decide, show (0 : Int) < 1000 by decide⟩
    · exact ⟨show (0 : Int) ≤ 220 by decide, show (220 : Int) < 1000 by decide⟩
  | s :: ls, S, N, k => by
    rw [runS]
    split
    · unfold lineS
      split
      · exact ⟨show (0 : Int) ≤ 221 by decide, show (221 : Int) < 1000 by decide⟩
      · split
        · exact ⟨show (0 : Int) ≤ 0 by decide, show (0 : Int) < 1000 by decide⟩
        · split
          · exact ⟨show (0 : Int) ≤ 0 by decide, show (0 : Int) < 1000 by decide⟩
          · split
            · exact ⟨show (0 : Int) ≤ 226 by decide, show (226 : Int) < 1000 by decide⟩
            · exact stepS_code _ _
    · exact runS_code ls _ _ _
theorem runS_line : ∀ (ls : List ByteArray) (S : St) (N k : Int), 0 ≤ k → 0 ≤ (runS S N k ls).2.1 ∧ (runS S N k ls).2.1 ≤ k + ls.length
  | [], S, N, k, hk => by
    rw [runS]
    split <;> exact ⟨Int.le_refl _, by show (0 : Int) ≤ k + 0; omega⟩
  | s :: ls, S, N, k, hk => by
    rw [runS]
    split
    · exact ⟨hk, by show k ≤ _; simp only [List.length_cons]; omega⟩
    · have h := runS_line ls (lineS S N s).1 (lineS S N s).2.1 (k + 1) (by omega)
      refine ⟨h.1, ?_⟩
      have := h.2
      simp only [List.length_cons]
      omega
def actsWd : List UInt8 := [97, 99, 116, 115]
theorem run_acts : (runS S00 0 1 (lnsL actsWd)).2 = (1, 220) := by
  have hw : wordsB (str actsWd) = [str actsWd] := words_args actsWd [] (by decide) (by simp)
  have hne : str actsWd ≠ cfgW := by
    intro e
    have := congrArg (fun b : ByteArray => b.size) e
    revert this
    decide
  have hst : stepS S00 [str actsWd] = (S00, 220) := by rw [stepS, if_neg (by decide), if_neg (by decide), if_pos (by decide), if_neg hne]
  rw [lnsL_free (by decide) (by decide), runS, lineS_go S00 0 actsWd (by decide) rfl (by decide) (by decide), hw, hst, if_pos (by decide)]
theorem lnsL_count (n : Nat) : ∀ T : List UInt8, T.length ≤ n → (lnsL T).length ≤ T.length := by
  induction n with
  | zero =>
    intro T hT
    obtain rfl : T = [] := List.length_eq_zero_iff.1 (by omega)
    exact Nat.le_refl _
  | succ n ih =>
    intro T hT
    rcases cut_or T with h | ⟨a, b, e, h⟩
    · by_cases h0 : T = []
      · subst h0; exact Nat.le_refl _
      · rw [lnsL_free h h0]
        have := List.length_pos_iff.2 h0
        simp only [List.length_cons, List.length_nil]
        omega
    · subst e
      rw [List.length_append, List.length_cons] at hT
      rw [lnsL_cut h, List.length_cons, List.length_append, List.length_cons]
      have := ih b (by omega)
      omega
end Go.Proofs.YtlmopjbfagijeaaGreatDoor.Sc

namespace Go.Proofs.YtlmopjbfagijeaaGreatDoor.Sc
open Go.RowKit Go.Lib Go.Deep
open Go.Proofs.YtlmopjbfagijeaaGreatDoor.Pa (cutS glue step cut_take cut_drop)

theorem index_at22 {P : Program} (w : World) (t : TypeId) (s : ByteArray) (k : IntKind) (z : Int) (i : Nat) (c : UInt8) (h : P.underlying t = some .string) (hz : z = (i : Int)) (hc : s.data.toList[i]? = some c) :
    (Instr.index t (.string s) (.int k z)).run P w = .ok (.int .u8 (c.toNat : Int)) w := by
  subst hz
  exact index_at w t s k i c h hc
theorem slice_part (P : Program) (W : World) (t : TypeId) (ht : P.underlying t = some .string) (s : ByteArray) (a b : Nat) (r : List UInt8) (hab : a ≤ b) (hb : b ≤ s.size) (hr : (s.data.toList.take b).drop a = r) :
    (Instr.slice t (.string s) (some (.int .i64 (a : Int))) (some (.int .i64 (b : Int))) none).run P W = .ok (.string (str r)) W := by
  rw [run_slice_string (P := P) W t s .i64 .i64 (a : Int) (b : Int) ht (by omega) (by omega) (by omega)]
  congr 2
  rw [← str_of (s.extract _ _), extract_data, Int.toNat_natCast, Int.toNat_natCast, ← hr, List.drop_take]
theorem slice_tail (P : Program) (W : World) (t : TypeId) (ht : P.underlying t = some .string) (s : ByteArray) (a k : Nat) (r : List UInt8) (hk : s.size = k) (hak : a ≤ k) (hr : (s.data.toList.take k).drop a = r) :
    (Instr.slice t (.string s) (some (.int .i64 (a : Int))) none none).run P W = .ok (.string (str r)) W := by
  rw [run_slice_string_l (P := P) W t s ht .i64 (a : Int) (by omega) (by omega)]
  congr 2
  rw [← str_of (s.extract _ _), extract_data, Int.toNat_natCast, ← hr, hk, List.drop_take]
def scL (L : List ByteArray) : List Value := L.map Value.string
theorem scL_snoc (ps : List (List UInt8)) (r : List UInt8) : scL ((ps ++ [r]).map str) = scL (ps.map str) ++ [.string (str r)] := by simp [scL]
theorem info9_ : (Tryz.prog.info? 9).map (fun i => (i.zero, i.size, i.bytes)) = some (some (.string { data := #[] }), 1, 16) := by kernel_rfl
theorem info_s9 : ∃ i0, Tryz.prog.info? 9 = some i0 ∧ i0.zero = some (.string { data := #[] }) ∧ i0.size = 1 ∧ i0.bytes = 16 := info_parts info9_

set_option maxRecDepth 20000 in
set_option maxHeartbeats 1000000 in
theorem rLines_any (s : ByteArray) (hs : s.size ≤ 4194304) (w : World) :
    Calls Tryz.prog 44 #[.string s] w fun e w' => (∃ v, e = .returned v ∧ w'.ownsRow w.heap.size 9 1 v (lnsL s.data.toList).length (scL (lnsL s.data.toList))) ∧ Below w.heap.size w w' := by
  obtain ⟨i0, hi, hz0, hz1, hz2⟩ := info_s9
  have hl : s.data.toList.length = s.size := (size_eq s).symm
  obtain ⟨n, hn⟩ : ∃ n, s.size = n := ⟨_, rfl⟩
  rw [hn] at hl hs
  go_enter Tryz.func44, Tryz.ntmps44
  go_wp2
  go_loopg [3, 4, 5] n (fun gk v f i wr => ∃ (k : Nat) (ps : List (List UInt8)) (r : List UInt8), k + gk = n ∧ i = .int .i64 (k : Int) ∧ Hid (cutS 10 (s.data.toList.take k) = (ps, r)) ∧ r.length ≤ k ∧ ps.length + r.length ≤ k ∧ f = .int .i64 ((k - r.length : Nat) : Int) ∧ wr.ownsRow w.heap.size 9 1 v ps.length (scL (ps.map str)) ∧ Below w.heap.size w wr)
  case atStart => exact ⟨0, [], [], by omega, rfl, rfl, Nat.le_refl _, Nat.le_refl _, rfl, World.ownsRow_nil _ _ _ _, Below.refl _ _⟩
  case round =>
    obtain ⟨k, ps, r, hk, rfl, HC, hr, hpr, rfl, hown, hbel⟩ := hrel
    have HK : Hid (k + gk = n) := hk
    have hk' : k ≤ n := by omega
    clear hk
    obtain ⟨a, ha⟩ : ∃ a, k - r.length = a := ⟨_, rfl⟩
    rw [ha]
    have hak : a ≤ k := by omega
    have HR : Hid ((s.data.toList.take k).drop a = r) := by
      show _ = _
      have h := cut_drop 10 (s.data.toList.take k)
      rw [HC.out, List.length_take, hl, show min k n = k by omega, ha] at h
      exact h
    by_cases hlt : k < n
    · have hltI : (k : Int) < (n : Int) := by omega
      obtain ⟨x, hx⟩ : ∃ x, s.data.toList[k]? = some x := ⟨_, List.getElem?_eq_getElem (by omega)⟩
      have hix := fun W => index_at22 (P := Tryz.prog) W 9 s .i64 (k : Int) k x Tryz.underlying9 rfl hx
      have hst := cut_take 10 s.data.toList k x hx
      rw [HC.out] at hst
      clear hx
      by_cases hxc : x = 10
      · have HC2 : Hid (cutS 10 (s.data.toList.take (k + 1)) = (ps ++ [r], [])) := by
          show _ = _
          rw [hst, Go.Proofs.YtlmopjbfagijeaaGreatDoor.Pa.step, if_pos hxc]
        have hxI : (x.toNat : Int) = 10 := by rw [hxc]; rfl
        have hsl := fun W => slice_part Tryz.prog W 9 Tryz.underlying9 s a k r hak (by omega) HR.out
        have hml : ps.length + 1 ≤ maxLen := by unfold maxLen; omega
        have HS : Hid (scL ((ps ++ [r]).map str) = scL (ps.map str) ++ [.string (str r)]) := scL_snoc ps r
        generalize str r = yr at hsl HS
        have hone : ∀ u ∈ [Value.string yr], u.oneCell' = true := by simp [Value.oneCell']
        clear hst hxc HR
        generalize x.toNat = xn at hix hxI
        go_wp2_with (at_builtin; refine wpList_append_own _ rfl _ _ 96 rfl w.heap.size 9 i0 (.string { data := #[] }) 1 16 Tryz.underlying96 hi hz0 hz1 hz2 rfl (by decide) _ _ _ rfl (hown.alloc _) ⟨wr.heap.size, 0, none⟩ 1 1 [.string yr] rfl rfl (by intro i u h; exact cells_new wr #[.string yr] 9 i u (by simpa using h)) hone hml (by omega) (by have := hbel.size; simp; omega) ?_; intro v' w' hown' hgrow' _)
        have R : w'.ownsRow w.heap.size 9 1 v' (ps ++ [r]).length (scL ((ps ++ [r]).map str)) := by rw [HS.out, List.length_append]; exact hown'
        have hb' : Below w.heap.size w w' := by
          have h1 := hbel.alloc hbel.size (.cells #[.string yr] 9)
          exact h1.trans (grown_below hgrow' h1.size (hown.alloc _))
        clear hown' hgrow' hown
        go_wp2
        go_roundg (gk - 1)
        case measure => have := HK.out; omega
        case rel => exact ⟨k + 1, ps ++ [r], [], by have := HK.out; omega, by go_num, HC2, by simp, by simp; omega, by simp, R, hb'⟩
      · have HC2 : Hid (cutS 10 (s.data.toList.take (k + 1)) = (ps, r ++ [x])) := by
          show _ = _
          rw [hst, Go.Proofs.YtlmopjbfagijeaaGreatDoor.Pa.step, if_neg hxc]
        have hxI : ¬ (x.toNat : Int) = 10 := fun e => hxc (UInt8.toNat_inj.1 (by have : (((10 : UInt8).toNat : Nat) : Int) = 10 := rfl; omega))
        have HA : Hid (a = k + 1 - (r ++ [x]).length) := by show _ = _; simp; omega
        have HQ : Hid ((r ++ [x]).length ≤ k + 1 ∧ ps.length + (r ++ [x]).length ≤ k + 1) := by
          constructor
          · simp; omega
          · simp; omega
        clear hst hxc HR
        generalize r ++ [x] = r2 at HC2 HA HQ
        generalize x.toNat = xn at hix hxI
        go_wp2
        go_roundg (gk - 1)
        case measure => have := HK.out; omega
        case rel => exact ⟨k + 1, ps, r2, by have := HK.out; omega, by go_num, HC2, HQ.out.1, HQ.out.2, by rw [← HA.out], hown, hbel⟩
    · obtain rfl : k = n := by omega
      have HE : Hid (cutS 10 s.data.toList = (ps, r)) := by
        have h := HC.out
        rw [List.take_of_length_le (by omega)] at h
        exact h
      by_cases hr0 : r = []
      · have hsn : ¬ (a : Int) < (k : Int) := by rw [hr0] at ha; simp at ha; omega
        have HL : Hid (lnsL s.data.toList = ps.map str) := by
          show _ = _
          unfold lnsL
          rw [HE.out, hr0]
          simp
        clear HR HC
        go_wp2
        go_ret
        refine ⟨⟨_, rfl, ?_⟩, hbel⟩
        rw [HL.out, List.length_map]
        exact hown
      · have hsn : (a : Int) < (k : Int) := by have := List.length_pos_iff.2 hr0; omega
        have HL : Hid (lnsL s.data.toList = (ps ++ [r]).map str) := by
          show _ = _
          unfold lnsL
          rw [HE.out]
          have : r.isEmpty = false := by simpa using hr0
          simp [this]
        have hsl := fun W => slice_tail Tryz.prog W 9 Tryz.underlying9 s a k r hn hak HR.out
        have hml : ps.length + 1 ≤ maxLen := by unfold maxLen; omega
        have HS : Hid (scL ((ps ++ [r]).map str) = scL (ps.map str) ++ [.string (str r)]) := scL_snoc ps r
        generalize str r = yr at hsl HS
        have hone : ∀ u ∈ [Value.string yr], u.oneCell' = true := by simp [Value.oneCell']
        clear HR HC
        go_wp2_with (at_builtin; refine wpList_append_own _ rfl _ _ 96 rfl w.heap.size 9 i0 (.string { data := #[] }) 1 16 Tryz.underlying96 hi hz0 hz1 hz2 rfl (by decide) _ _ _ rfl (hown.alloc _) ⟨wr.heap.size, 0, none⟩ 1 1 [.string yr] rfl rfl (by intro i u h; exact cells_new wr #[.string yr] 9 i u (by simpa using h)) hone hml (by omega) (by have := hbel.size; simp; omega) ?_; intro v' w' hown' hgrow' _)
        have R : w'.ownsRow w.heap.size 9 1 v' (ps ++ [r]).length (scL ((ps ++ [r]).map str)) := by rw [HS.out, List.length_append]; exact hown'
        have hb' : Below w.heap.size w w' := by
          have h1 := hbel.alloc hbel.size (.cells #[.string yr] 9)
          exact h1.trans (grown_below hgrow' h1.size (hown.alloc _))
        clear hown' hgrow' hown
        go_wp2
        go_ret
        refine ⟨⟨_, rfl, ?_⟩, hb'⟩
        rw [HL.out, List.length_map]
        exact R
end Go.Proofs.YtlmopjbfagijeaaGreatDoor.Sc

namespace Go.Proofs.YtlmopjbfagijeaaGreatDoor.Sc
open Go.RowKit Go.Lib Go.Deep

theorem ahead_len : ∀ (L : List ByteArray) (k : Nat), (aheadL k L).length ≤ (L.map ByteArray.size).sum + L.length
  | [], k => by simp [aheadL]
  | x :: L, k => by
    cases k with
    | zero => simp [aheadL]
    | succ k =>
      have h := ahead_len L k
      have e : aheadL (k + 1) (x :: L) = x.data.toList ++ [10] ++ aheadL k L := by simp [aheadL]
      rw [e, List.length_append, List.length_append, ← size_eq, List.map_cons, List.sum_cons]
      simp only [List.length_cons, List.length_nil]
      omega
theorem ahead_take (L : List ByteArray) (k : Nat) (x : ByteArray) (h : L[k]? = some x) : aheadL (k + 1) L = aheadL k L ++ (x.data.toList ++ [10]) := by
  unfold aheadL
  rw [List.take_add_one, h]
  simp
theorem owns_form {w : World} {B n : Nat} {e : TypeId} {v : Value} {xs : List Value} (h : w.ownsRow B e 1 v n xs) : ∃ a c, v = .slice a n c ∧ ∀ (i : Nat) u, xs[i]? = some u → ∃ g, a = some ⟨g, 0, none⟩ ∧ g < w.heap.size ∧ w.cell? ⟨g, i, none⟩ = some u := by
  rcases h.2 with ⟨rfl, rfl⟩ | ⟨g, cap, cur, rfl, hb, hg, -⟩
  · refine ⟨_, _, rfl, fun i u hi => ?_⟩
    have := h.1
    rw [Nat.zero_mul] at this
    rw [List.length_eq_zero_iff.1 this] at hi
    cases hi
  · refine ⟨_, _, rfl, fun i u hi => ⟨g, rfl, heap_lt hg, ?_⟩⟩
    have := h.cells (g := g) rfl i u hi
    rwa [Addr.add_lit, Nat.zero_add] at this

set_option maxRecDepth 20000 in
set_option maxHeartbeats 1000000 in
theorem cut22_any (s : ByteArray) (hs : s.size ≤ 4194304) (n : Int) (m : Nat) (hm : m ≤ (lnsL s.data.toList).length) (hn : n = m + 1 ∨ (n = 0 ∧ m = 0)) (w : World) :
    Calls Tryz.prog 22 #[.string s, .int .i64 n] w fun e w' => e = .returned (.string (str (aheadL m (lnsL s.data.toList)))) ∧ Below w.heap.size w w' := by
  have h0 := rLines_any s hs w
  have hcnt := lnsL_count _ s.data.toList (Nat.le_refl _)
  rw [← size_eq] at hcnt
  have hsum := lnsL_sum _ s.data.toList (Nat.le_refl _)
  rw [← size_eq] at hsum
  obtain ⟨L, hL⟩ : ∃ L, lnsL s.data.toList = L := ⟨_, rfl⟩
  rw [hL] at h0 hm hcnt hsum ⊢
  go_enter Tryz.func22, Tryz.ntmps22
  go_wp2_with fail
  refine h0.mono ?_
  rintro e w1 ⟨⟨v, rfl, hown⟩, hb1⟩
  obtain ⟨a, c, rfl, hcell⟩ := owns_form hown
  have HC : Hid (∀ (i : Nat) u, (scL L)[i]? = some u → ∃ g, a = some ⟨g, 0, none⟩ ∧ g < w1.heap.size ∧ w1.cell? ⟨g, i, none⟩ = some u) := hcell
  have hal := ahead_len L
  have HB1 : Hid (Below w.heap.size w w1) := hb1
  obtain ⟨z, rfl⟩ : ∃ z, n = z + 1 := ⟨n - 1, by omega⟩
  have hz0 : -1 ≤ z := by omega
  have hz1 : z ≤ 4194304 := by omega
  have HZ : Hid ((z = m) ∨ (z = -1 ∧ m = 0)) := by show _ ∨ _; omega
  have HAL : Hid (∀ k, (aheadL k L).length ≤ 8388608) := fun k => by have := hal k; omega
  have HM : Hid (m ≤ L.length ∧ L.length ≤ 4194304) := ⟨hm, by omega⟩
  have hLl : L.length ≤ 4194304 := by omega
  clear h0 hown hcell hb1 hn hal hL hsum hcnt hm
  go_wp2_with fail
  go_loopg [6, 7] m (fun gk v i wr => ∃ k : Nat, k + gk = m ∧ i = .int .i64 (k : Int) ∧ v = .string (str (aheadL k L)) ∧ wr = w1)
  case atStart => exact ⟨0, by omega, rfl, by simp [aheadL, str], rfl⟩
  case round =>
    obtain ⟨k, hk, rfl, rfl, rfl⟩ := hrel
    have HK : Hid (k + gk = m) := hk
    have hkm : k ≤ m := by omega
    by_cases hlt : k < m
    · have hlI : (k : Int) < (L.length : Int) := by have := HM.out.1; omega
      have hzI : (k : Int) < z := by have := HZ.out; omega
      obtain ⟨x, hx⟩ : ∃ x, L[k]? = some x := ⟨_, List.getElem?_eq_getElem (by have := HM.out.1; omega)⟩
      obtain ⟨g, rfl, hg, hcx⟩ := HC.out k (.string x) (by rw [scL, List.getElem?_map, hx]; rfl)
      have hst := ahead_take L k x hx
      have hb0 := HAL.out k
      have hb2 := HAL.out (k + 1)
      rw [hst, List.length_append, List.length_append, ← size_eq] at hb2
      simp only [List.length_cons, List.length_nil] at hb2
      obtain ⟨s0, hs0⟩ : ∃ s0, str (aheadL k L) = s0 := ⟨_, rfl⟩
      have hz' : s0.size = (aheadL k L).length := by rw [← hs0, str_size]
      obtain ⟨s1, hs1⟩ : ∃ s1, s0 ++ x = s1 := ⟨_, rfl⟩
      have hz1' : s1.size = s0.size + x.size := by rw [← hs1, ByteArray.size_append]
      obtain ⟨s2, hs2⟩ : ∃ s2, s1 ++ ({ data := #[10] } : ByteArray) = s2 := ⟨_, rfl⟩
      have q1 : ¬ 9223372036854775807 < s0.size + x.size := by omega
      have q2 : ¬ 9223372036854775807 < s1.size + 1 := by omega
      have HS : Hid (s2 = str (aheadL (k + 1) L)) := by
        show _ = _
        rw [← hs2, ← hs1, ← hs0, hst]
        apply ByteArray.ext
        apply Array.toList_inj.1
        simp [str, ByteArray.data_append]
      rw [hs0]
      clear hx hst hb0 hb2 hs0 hz' hz1' hk
      go_wp2
      go_roundg (gk - 1)
      case measure => have := HK.out; omega
      case rel => exact ⟨k + 1, by have := HK.out; omega, by go_num, by rw [HS.out], rfl⟩
    · obtain rfl : k = m := by omega
      have hzI : ¬ (k : Int) < z := by have := HZ.out; omega
      by_cases hll : k < L.length
      · have hlI : (k : Int) < (L.length : Int) := by omega
        go_wp2
        go_ret
        exact ⟨rfl, HB1.out⟩
      · have hlI : ¬ (k : Int) < (L.length : Int) := by omega
        go_wp2
        go_ret
        exact ⟨rfl, HB1.out⟩
end Go.Proofs.YtlmopjbfagijeaaGreatDoor.Sc
