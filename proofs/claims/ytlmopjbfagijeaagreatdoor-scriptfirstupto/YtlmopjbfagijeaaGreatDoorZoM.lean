import Derived.Test.YtlmopjbfagijeaaGreatDoorZkM
import Derived.Test.YtlmopjbfagijeaaGreatDoorZmM
import Derived.Test.YtlmopjbfagijeaaGreatDoorZnM
namespace Go.Proofs.YtlmopjbfagijeaaGreatDoor.Sc
open Go.RowKit Go.Lib Go.Deep

def zeroPl : PlR := ⟨0, 0, 0, 0, 0, 0, false, nil_, nil_, none, 0, 0⟩
/-- what Parse answers, wherever its lists lie -/
noncomputable def baseP (R : St × Int × Int) : PlR := if R.2.2 = 0 then { R.1.q none R.1.V.length 0 with tape := str R.1.tape } else zeroPl
noncomputable def baseV (R : St × Int × Int) : List ActV := if R.2.2 = 0 then R.1.V else []
/-- the error that comes beside it -/
def ErrV (R : St × Int × Int) (w : World) (er : Value) : Prop := (R.2.2 = 0 ∧ er = .nilIface) ∨ (R.2.2 ≠ 0 ∧ ∃ g, er = .iface 86 (.pointer (some ⟨g, 0, none⟩)) ∧ w.heap[g]? = some (.cells #[.int .i64 R.2.1, .int .i64 R.2.2] 88 (0, 0)))
def PostP (R : St × Int × Int) (w : World) (e : Ending) (w' : World) : Prop := ∃ (W : List ActV) (ao : Option Addr) (ac : Nat) (er : Value), e = .returned (.tuple #[.agg (PlR.cells { baseP R with acts := ao, cacts := ac }), er]) ∧ Moved (baseV R) W ∧ SeeV w' ao W ∧ ErrV R w' er ∧ Below w.heap.size w w'
noncomputable def runT (l : List UInt8) : St × Int × Int := runS S00 0 1 (lnsL l)
theorem parse_all (B0 : Nat) (text : ByteArray) (hz : text.size ≤ 1125899906842624) (w : World) (hG : GlB B0 w) :
    Calls Tryz.prog 15 #[.string text] w fun e w' => PostP (runT text.data.toList) w e w' := by
  by_cases hc : (runS S00 0 1 (lnsL text.data.toList)).2.2 = 0
  · refine (parse_ok B0 text hz w hG hc).mono ?_
    rintro e w' ⟨V, ao, ac, rfl, hm, hrow, hops, hb⟩
    refine ⟨V, ao, ac, .nilIface, ?_, ?_, seeV_rows hrow hops, .inl ⟨hc, rfl⟩, hb⟩
    · unfold baseP runT
      rw [if_pos hc, hm.1]
      rfl
    · unfold baseV runT
      rw [if_pos hc]
      exact hm
  · refine (parse_no B0 text hz w hG hc).mono ?_
    rintro e w' ⟨g, rfl, -, hg, hb⟩
    refine ⟨[], none, 0, _, ?_, ?_, seeV_nil _ _, .inr ⟨hc, g, rfl, hg⟩, hb⟩
    · unfold baseP runT
      rw [if_neg hc]
      rfl
    · unfold baseV runT
      rw [if_neg hc]
      exact moved_nil
theorem runS_zero : ∀ (ls : List ByteArray) (S : St) (N k : Int), (runS S N k ls).2.2 = 0 → (runS S N k ls).2.1 = 0
  | [], S, N, k, h => by
    rw [runS]
    split <;> rfl
  | s :: ls, S, N, k, h => by
    rw [runS] at h ⊢
    split
    · rename_i hc
      rw [if_pos hc] at h
      exact absurd h hc
    · rename_i hc
      rw [if_neg hc] at h
      exact runS_zero ls _ _ _ h
theorem said_any (B : Nat) (l : List UInt8) (hl : l.length ≤ 4194304) (er : Value) (w : World) (he : ErrV (runT l) w er) (hG : GlE B w) :
    Calls Tryz.prog 21 #[er] w fun e w' => e = .returned (.tuple #[.int .i64 (runT l).2.1, .int .i64 (runT l).2.2, .bool true]) ∧ Below w.heap.size w w' := by
  have hcd := runS_code (lnsL l) S00 0 1
  have hln := runS_line (lnsL l) S00 0 1 (by decide)
  have hct := lnsL_count _ l (Nat.le_refl _)
  rcases he with ⟨h0, rfl⟩ | ⟨h0, g, rfl, hg⟩
  · have h1 : (runT l).2.1 = 0 := runS_zero _ _ _ _ h0
    rw [h0, h1]
    refine (said_nil w).mono ?_
    rintro e w' ⟨rfl, rfl⟩
    exact ⟨rfl, Below.refl _ _⟩
  · have h2 : (runT l).2.2 ≠ 0 := h0
    exact said_err B g _ _ ⟨by show -9223372036854775808 ≤ (runS S00 0 1 (lnsL l)).2.1; omega, by show (runS S00 0 1 (lnsL l)).2.1 ≤ 9223372036854775807; omega⟩ ⟨by have := hcd.1; show 0 < (runS S00 0 1 (lnsL l)).2.2; have h3 : (runS S00 0 1 (lnsL l)).2.2 ≠ 0 := h2; omega, hcd.2⟩ w hg hG
theorem runT_ok (l : List UInt8) (hl : l.length ≤ 1048576) : StOk 1048576 (runT l).1 := by
  have h := runS_ok (lnsL l) 0 S00 0 1 s00_ok
  have h2 := lnsL_sum _ l (Nat.le_refl _)
  exact h.up (by omega)
theorem baseP_ok (l : List UInt8) (hl : l.length ≤ 1048576) (ao : Option Addr) (ac : Nat) : PlR.Ok { baseP (runT l) with acts := ao, cacts := ac } := by
  have h := runT_ok l hl
  unfold baseP
  split
  · exact ⟨h.s, h.f, h.d, h.m, h.l, h.p, Nat.le_trans h.master (by decide), by show (str (runT l).1.tape).size ≤ _; rw [str_size]; exact h.tape⟩
  · exact ⟨i64_0, i64_0, i64_0, i64_0, i64_0, i64_0, by show nil_.size ≤ _; decide, by show nil_.size ≤ _; decide⟩
theorem baseV_ok (l : List UInt8) (hl : l.length ≤ 1048576) : VOk (baseV (runT l)) ∧ (baseV (runT l)).length = (baseP (runT l)).nacts := by
  have h := runT_ok l hl
  unfold baseV baseP
  split
  · exact ⟨⟨h.each, h.len⟩, rfl⟩
  · exact ⟨vok_nil, rfl⟩
/-- the same lists twice -/
theorem moved_both {A V W : List ActV} (h1 : Moved A V) (h2 : Moved A W) : Moved V W := by
  refine ⟨h2.1.trans h1.1.symm, fun i x hx => ?_⟩
  have hi : i < A.length := by rw [← h1.1]; exact (List.getElem?_eq_some_iff.1 hx).1
  obtain ⟨y, hy⟩ : ∃ y, A[i]? = some y := ⟨_, List.getElem?_eq_getElem hi⟩
  obtain ⟨a, c, h3⟩ := h1.2 i y hy
  obtain ⟨b, d, h4⟩ := h2.2 i y hy
  rw [h3] at hx
  cases hx
  exact ⟨b, d, h4⟩
theorem ErrV.below {R : St × Int × Int} {w w' : World} {er : Value} (h : ErrV R w er) (hb : Below w.heap.size w w') : ErrV R w' er := by
  rcases h with h | ⟨h0, g, e, hg⟩
  · exact .inl h
  · exact .inr ⟨h0, g, e, (hb.block _ (heap_lt hg)).trans hg⟩
/-- a comment and an empty line ahead: the same play, the line by two -/
theorem runT_ahead (T : List UInt8) : (runT (noteL ++ 10 :: 10 :: T)).1 = (runT T).1 ∧ (runT (noteL ++ 10 :: 10 :: T)).2.2 = (runT T).2.2 ∧ 0 ≤ (runT T).2.1 ∧ (runT (noteL ++ 10 :: 10 :: T)).2.1 = if (runT T).2.1 = 0 then 0 else (runT T).2.1 + 2 := by
  unfold runT
  rw [run_ahead]
  exact runS_shift 2 (by decide) (lnsL T) S00 0 1 (by decide)
theorem base_ahead (T : List UInt8) : baseP (runT (noteL ++ 10 :: 10 :: T)) = baseP (runT T) ∧ baseV (runT (noteL ++ 10 :: 10 :: T)) = baseV (runT T) := by
  have h := runT_ahead T
  unfold baseP baseV
  rw [h.1, h.2.1]
  exact ⟨rfl, rfl⟩
theorem runT_behind (T : List UInt8) : runT (T ++ 10 :: endL) = runT T := run_behind T
theorem runT_acts : (runT actsWd).2 = (1, 220) := run_acts
theorem runT_cut (T : List UInt8) : ∃ m : Nat, m ≤ (lnsL T).length ∧ ((runT T).2.1 = (m : Int) + 1 ∨ ((runT T).2.1 = 0 ∧ m = 0)) ∧ ((runT (aheadL m (lnsL T))).2 = (0, 0) ∨ (runT (aheadL m (lnsL T))).2 = (0, 220)) := by
  by_cases h : (runT T).2.1 = 0
  · exact ⟨0, Nat.zero_le _, .inr ⟨h, rfl⟩, .inr rfl⟩
  · obtain ⟨m, h1, h2, h3⟩ := run_cut T h
    exact ⟨m, Nat.le_of_lt h2, .inl h1, h3⟩
end Go.Proofs.YtlmopjbfagijeaaGreatDoor.Sc

namespace Go.Proofs.YtlmopjbfagijeaaGreatDoor.Sc
open Go.RowKit Go.Lib Go.Deep

theorem put_any (u : World) (pc : Array Value) : ∃ A X, u.alloc (.cells #[.int .i64 0, .int .i64 0, .int .i64 0, .int .i64 0, .int .i64 0, .int .i64 0, .bool false, .string { data := #[] }, .string { data := #[] }, .slice none 0 0] 26) = A ∧ A.setRow u.heap.size pc = X ∧ A.heap[u.heap.size]? = some (.cells #[.int .i64 0, .int .i64 0, .int .i64 0, .int .i64 0, .int .i64 0, .int .i64 0, .bool false, .string { data := #[] }, .string { data := #[] }, .slice none 0 0] 26 (0, 0)) ∧ Below u.heap.size u X ∧ X.heap[u.heap.size]? = some (.cells pc 26 (0, 0)) := by
  have hz : (u.alloc (.cells #[.int .i64 0, .int .i64 0, .int .i64 0, .int .i64 0, .int .i64 0, .int .i64 0, .bool false, .string { data := #[] }, .string { data := #[] }, .slice none 0 0] 26)).heap[u.heap.size]? = some (.cells #[.int .i64 0, .int .i64 0, .int .i64 0, .int .i64 0, .int .i64 0, .int .i64 0, .bool false, .string { data := #[] }, .string { data := #[] }, .slice none 0 0] 26 (0, 0)) := heap_alloc_new _ _
  refine ⟨_, _, rfl, rfl, hz, ?_, setRow_heap _ _ _ _ _ _ hz⟩
  have hb : Below u.heap.size u (u.alloc (.cells #[.int .i64 0, .int .i64 0, .int .i64 0, .int .i64 0, .int .i64 0, .int .i64 0, .bool false, .string { data := #[] }, .string { data := #[] }, .slice none 0 0] 26)) := (Below.refl _ _).alloc (Nat.le_refl _) _
  exact hb.trans ⟨rfl, rfl, rfl, by simp, fun i hi => setRow_other _ _ _ _ (by omega)⟩
set_option maxRecDepth 20000 in
set_option maxHeartbeats 8000000 in
theorem first_any (B0 : Nat) (s : ByteArray) (hs : s.size ≤ 1048576) (w : World) (hG : GlE B0 w) :
    Calls Tryz.prog 8 #[.string s] w fun e w' => e = .returned (.bool true) ∧ Below w.heap.size w w' := by
  have HPA : Hid (∀ (t : ByteArray) (U : World), t.size ≤ 16777216 → Below w.heap.size w U → Calls Tryz.prog 15 #[.string t] U fun e w' => PostP (runT t.data.toList) U e w') := fun t U ht hU => parse_all B0 t (by omega) U (hG.to (hU.mono hG.gl.le)).gl
  have HSD : Hid (∀ (l : List UInt8) (er : Value) (U : World), l.length ≤ 4194304 → ErrV (runT l) U er → Below w.heap.size w U → Calls Tryz.prog 21 #[er] U fun e w' => e = .returned (.tuple #[.int .i64 (runT l).2.1, .int .i64 (runT l).2.2, .bool true]) ∧ Below U.heap.size U w') := fun l er U hl he hU => said_any B0 l hl er U he (hG.to (hU.mono hG.gl.le))
  have HGL : Hid (∀ U, Below w.heap.size w U → GlB B0 U) := fun U hU => (hG.to (hU.mono hG.gl.le)).gl
  have HSZ : Hid (s.size ≤ 1048576) := hs
  have hsl : s.data.toList.length ≤ 1048576 := by rw [← size_eq]; exact hs
  obtain ⟨hvo, hvn⟩ := baseV_ok s.data.toList hsl
  have hpo := baseP_ok s.data.toList hsl
  have hah := runT_ahead s.data.toList
  have hba := base_ahead s.data.toList
  have hbe := runT_behind s.data.toList
  obtain ⟨m, hm, hmn, hmc⟩ := runT_cut s.data.toList
  have hcl := ahead_len (lnsL s.data.toList) m
  have hcs := lnsL_sum _ s.data.toList (Nat.le_refl _)
  have hcc := lnsL_count _ s.data.toList (Nat.le_refl _)
  have hll := runS_line (lnsL s.data.toList) S00 0 1 (by decide)
  have HLN : Hid (0 ≤ (runT s.data.toList).2.1 ∧ (runT s.data.toList).2.1 ≤ 1048577) := ⟨hll.1, by have h2 : (runT s.data.toList).2.1 ≤ 1 + ((lnsL s.data.toList).length : Int) := hll.2; omega⟩
  have HCL : Hid ((aheadL m (lnsL s.data.toList)).length ≤ 2097152) := by show _ ≤ _; omega
  have HMM : Hid (m ≤ (lnsL s.data.toList).length ∧ ((runT s.data.toList).2.1 = (m : Int) + 1 ∨ ((runT s.data.toList).2.1 = 0 ∧ m = 0)) ∧ ((runT (aheadL m (lnsL s.data.toList))).2 = (0, 0) ∨ (runT (aheadL m (lnsL s.data.toList))).2 = (0, 220))) := ⟨hm, hmn, hmc⟩
  obtain ⟨R, hR⟩ : ∃ R, runT s.data.toList = R := ⟨_, rfl⟩
  have HR : Hid (runT s.data.toList = R) := hR
  rw [hR] at hvo hvn hpo hah hba hbe HLN HMM
  obtain ⟨P0, hP0⟩ : ∃ P0, baseP R = P0 := ⟨_, rfl⟩
  obtain ⟨A0, hA0⟩ : ∃ A0, baseV R = A0 := ⟨_, rfl⟩
  rw [hP0] at hvn hpo
  rw [hA0] at hvo hvn
  rw [hP0, hA0] at hba
  have HPO : Hid ((∀ ao ac, PlR.Ok { P0 with acts := ao, cacts := ac }) ∧ VOk A0 ∧ A0.length = P0.nacts) := ⟨hpo, hvo, hvn⟩
  have HAH : Hid ((runT (noteL ++ 10 :: 10 :: s.data.toList)).2.2 = R.2.2 ∧ (runT (noteL ++ 10 :: 10 :: s.data.toList)).2.1 = (if R.2.1 = 0 then 0 else R.2.1 + 2) ∧ baseP (runT (noteL ++ 10 :: 10 :: s.data.toList)) = P0 ∧ baseV (runT (noteL ++ 10 :: 10 :: s.data.toList)) = A0) := ⟨hah.2.1, hah.2.2.2, hba.1, hba.2⟩
  have HBE : Hid (runT (s.data.toList ++ 10 :: endL) = R) := hbe
  have HBP : Hid (baseP R = P0 ∧ baseV R = A0) := ⟨hP0, hA0⟩
  obtain ⟨t2, ht2⟩ : ∃ t2, ({ data := #[35, 32, 97, 32, 119, 111, 114, 100, 10, 10] } : ByteArray) ++ s = t2 := ⟨_, rfl⟩
  have e10 : ({ data := #[35, 32, 97, 32, 119, 111, 114, 100, 10, 10] } : ByteArray).size = 10 := rfl
  have ht2z : t2.size = 10 + s.size := by rw [← ht2, ByteArray.size_append, e10]
  have HT2 : Hid (t2.data.toList = noteL ++ 10 :: 10 :: s.data.toList ∧ t2.size ≤ 2097152) := ⟨by rw [← ht2]; simp [noteL, ByteArray.data_append], by omega⟩
  obtain ⟨t3, ht3⟩ : ∃ t3, s ++ ({ data := #[10, 35, 32, 116, 104, 101, 32, 101, 110, 100] } : ByteArray) = t3 := ⟨_, rfl⟩
  have e10b : ({ data := #[10, 35, 32, 116, 104, 101, 32, 101, 110, 100] } : ByteArray).size = 10 := rfl
  have ht3z : t3.size = s.size + 10 := by rw [← ht3, ByteArray.size_append, e10b]
  have HT3 : Hid (t3.data.toList = s.data.toList ++ 10 :: endL ∧ t3.size ≤ 2097152) := ⟨by rw [← ht3]; simp [endL, ByteArray.data_append], by omega⟩
  have q2 : ¬ 9223372036854775807 < 10 + s.size := by omega
  have q3 : ¬ 9223372036854775807 < s.size + 10 := by omega
  have h1 := HPA.out s w (by omega) (Below.refl _ _)
  rw [hR] at h1
  clear hG hs hsl hvo hvn hpo hah hba hbe hm hmn hmc hcl hcs hcc hll hP0 hA0 e10 ht2z e10b ht3z hR
  go_enter Tryz.func8, Tryz.ntmps8
  have hb0 : Below w.heap.size w w := Below.refl _ _
  go_wp2_with fail
  refine h1.mono ?_
  rintro e w1 ⟨W1, ao1, ac1, er1, rfl, hm1, hs1, he1, hb1⟩
  clear h1
  rw [HBP.out.2] at hm1
  rw [HBP.out.1]
  obtain ⟨pc1, hpc1⟩ : ∃ pc, PlR.cells { P0 with acts := ao1, cacts := ac1 } = pc := ⟨_, rfl⟩
  have HQ1 : Hid (pc1.size = 10 ∧ (pc1.all fun x => x.oneCell') = true) := by
    show _ ∧ _
    rw [← hpc1]
    exact ⟨rfl, plr_one _⟩
  rw [hpc1]
  obtain ⟨A1, X1, hA1, hX1, hz1, hbx1, hrx1⟩ := put_any w1 pc1
  have HBX1 : Hid (Below w.heap.size w X1) := (hb0.trans (hb1.mono hb0.size)).trans (hbx1.mono (hb0.trans (hb1.mono hb0.size)).size)
  have HA1 : Hid (Unit → _ = A1) := fun _ => hA1
  have HXW1 : Hid (Unit → _ = X1) := fun _ => hX1
  have HZ1 : Hid (A1.heap[w1.heap.size]? = some (.cells #[.int .i64 0, .int .i64 0, .int .i64 0, .int .i64 0, .int .i64 0, .int .i64 0, .bool false, .string { data := #[] }, .string { data := #[] }, .slice none 0 0] 26 (0, 0))) := hz1
  have HRX1 : Hid (∀ U, Below X1.heap.size X1 U → U.heap[w1.heap.size]? = some (.cells pc1 26 (0, 0))) := fun U hU => (hU.block _ (heap_lt hrx1)).trans hrx1
  have HPC1 : Hid (PlR.cells { P0 with acts := ao1, cacts := ac1 } = pc1) := hpc1
  have HSE1 : Hid (SeeV X1 ao1 W1 ∧ Moved A0 W1) := ⟨hs1.below hbx1, hm1⟩
  have g1 := HSD.out s.data.toList er1 X1 (by have := HSZ.out; rw [← size_eq]; omega) (by rw [HR.out]; exact he1.below hbx1) HBX1.out
  rw [HR.out] at g1
  obtain ⟨ln, hln⟩ : ∃ ln, R.2.1 = ln := ⟨_, rfl⟩
  obtain ⟨cd, hcd⟩ : ∃ cd, R.2.2 = cd := ⟨_, rfl⟩
  rw [hln, hcd] at g1
  rw [hln, hcd] at HAH
  rw [hln] at HLN HMM
  have HRL : Hid (R.2.1 = ln ∧ R.2.2 = cd) := ⟨hln, hcd⟩
  clear hm1 hs1 he1 hb1 hbx1 hrx1 hz1 hA1 hX1 hpc1 hln hcd hb0
  go_wp2_with (first | (rw [HA1.out ()]; refine wpList_store_row rfl 26 (.tmp 3) (.tmp 31) rfl w1.heap.size pc1 rfl rfl 26 _ HZ1.out (by rw [HQ1.out.1]; exact sizePl) (by rw [HQ1.out.1]; rfl) HQ1.out.2 ?_; rw [HXW1.out ()]) | (go_at_call 21; refine g1.mono ?_; rintro e u1 ⟨rfl, hbs1⟩; clear g1; have HBU1 : Hid (Below w.heap.size w u1) := HBX1.out.trans (hbs1.mono HBX1.out.size); have HXU1 : Hid (Below X1.heap.size X1 u1) := hbs1; clear hbs1))
  have h2 := HPA.out t2 u1 (by have := HT2.out.2; omega) HBU1.out
  rw [HT2.out.1] at h2
  go_wp2_with fail
  refine h2.mono ?_
  rintro e w2 ⟨W2, ao2, ac2, er2, rfl, hm2, hs2, he2, hb2⟩
  clear h2
  rw [HAH.out.2.2.2] at hm2
  rw [HAH.out.2.2.1]
  obtain ⟨pc2, hpc2⟩ : ∃ pc, PlR.cells { P0 with acts := ao2, cacts := ac2 } = pc := ⟨_, rfl⟩
  have HQ2 : Hid (pc2.size = 10 ∧ (pc2.all fun x => x.oneCell') = true) := by
    show _ ∧ _
    rw [← hpc2]
    exact ⟨rfl, plr_one _⟩
  rw [hpc2]
  obtain ⟨A2, X2, hA2, hX2, hz2, hbx2, hrx2⟩ := put_any w2 pc2
  have HBX2 : Hid (Below w.heap.size w X2) := (HBU1.out.trans (hb2.mono HBU1.out.size)).trans (hbx2.mono (HBU1.out.trans (hb2.mono HBU1.out.size)).size)
  have HA2 : Hid (Unit → _ = A2) := fun _ => hA2
  have HXW2 : Hid (Unit → _ = X2) := fun _ => hX2
  have HZ2 : Hid (A2.heap[w2.heap.size]? = some (.cells #[.int .i64 0, .int .i64 0, .int .i64 0, .int .i64 0, .int .i64 0, .int .i64 0, .bool false, .string { data := #[] }, .string { data := #[] }, .slice none 0 0] 26 (0, 0))) := hz2
  have HRX2 : Hid (∀ U, Below X2.heap.size X2 U → U.heap[w2.heap.size]? = some (.cells pc2 26 (0, 0))) := fun U hU => (hU.block _ (heap_lt hrx2)).trans hrx2
  have g2 := HSD.out (noteL ++ 10 :: 10 :: s.data.toList) er2 X2 (by rw [← HT2.out.1, ← size_eq]; have := HT2.out.2; omega) (he2.below hbx2) HBX2.out
  rw [HAH.out.1, HAH.out.2.1] at g2
  have HX12 : Hid (Below X1.heap.size X1 X2) := (HXU1.out.trans (hb2.mono HXU1.out.size)).trans (hbx2.mono (HXU1.out.trans (hb2.mono HXU1.out.size)).size)
  have HSP : Hid (∀ U, Below X2.heap.size X2 U → Calls Tryz.prog 16 #[.agg (PlR.cells { P0 with acts := ao1, cacts := ac1 }), .agg (PlR.cells { P0 with acts := ao2, cacts := ac2 })] U fun e w' => e = .returned (.bool true) ∧ Below U.heap.size U w') := fun U hU => by
    have hx1 := HX12.out.trans (hU.mono HX12.out.size)
    exact samePlay_any { P0 with acts := ao2, cacts := ac2 } ao1 ac1 W2 W1 (moved_ok hm2 HPO.out.2.1) (by rw [hm2.1]; exact HPO.out.2.2) (moved_both hm2 HSE1.out.2) U ((hs2.below hbx2).below hU) (HSE1.out.1.below hx1)
  have HTE : Hid (∀ U, Below X2.heap.size X2 U → U.heap[w1.heap.size]? = some (.cells (PlR.cells { P0 with acts := ao1, cacts := ac1 }) 26 (0, 0)) ∧ U.heap[w2.heap.size]? = some (.cells (PlR.cells { P0 with acts := ao2, cacts := ac2 }) 26 (0, 0))) := fun U hU => ⟨by rw [HPC1.out]; exact HRX1.out U (HX12.out.trans (hU.mono HX12.out.size)), by rw [hpc2]; exact HRX2.out U hU⟩
  have HPC2 : Hid (PlR.cells { P0 with acts := ao2, cacts := ac2 } = pc2) := hpc2
  obtain ⟨l2, hl2⟩ : ∃ l2, (if ln = 0 then (0 : Int) else ln + 2) = l2 := ⟨_, rfl⟩
  have HL2 : Hid ((if ln = 0 then (0 : Int) else ln + 2) = l2) := hl2
  rw [hl2] at g2
  clear hm2 hs2 he2 hb2 hbx2 hrx2 hz2 hA2 hX2 hpc2 hl2
  have hlb := HLN.out.2
  have hcase : (ln = 0 ∧ l2 = 0) ∨ (0 < ln ∧ ¬ ln = 0 ∧ l2 = ln + 2) := by
    have h := HL2.out
    have h3 := HLN.out.1
    by_cases h0 : ln = 0
    · rw [if_pos h0] at h
      exact .inl ⟨h0, h.symm⟩
    · rw [if_neg h0] at h
      exact .inr ⟨by omega, h0, h.symm⟩
  clear HL2
  rcases hcase with ⟨rfl, rfl⟩ | ⟨hgt, hne0, rfl⟩
  all_goals
    go_wp2_with (first | (rw [HA2.out ()]; refine wpList_store_row rfl 26 (.tmp 8) (.tmp 43) rfl w2.heap.size pc2 rfl rfl 26 _ HZ2.out (by rw [HQ2.out.1]; exact sizePl) (by rw [HQ2.out.1]; rfl) HQ2.out.2 ?_; rw [HXW2.out ()]) | (go_at_call 21; refine g2.mono ?_; rintro e u2 ⟨rfl, hbs2⟩; clear g2; have HBU2 : Hid (Below w.heap.size w u2) := HBX2.out.trans (hbs2.mono HBX2.out.size); have HXU2 : Hid (Below X2.heap.size X2 u2) := hbs2; clear hbs2; have hsp := HSP.out u2 HXU2.out; have c5 := (plAt_of (p := { P0 with acts := ao1, cacts := ac1 }) (HTE.out u2 HXU2.out).1).ten; have d5 := (plAt_of (p := { P0 with acts := ao2, cacts := ac2 }) (HTE.out u2 HXU2.out).2).ten; obtain ⟨c0, c1, c2, c3, c4, c5, c6, c7, c8, c9⟩ := c5; obtain ⟨d0, d1, d2, d3, d4, d5, d6, d7, d8, d9⟩ := d5; dsimp only at c0 c1 c2 c3 c4 c5 c6 c7 c8 c9 d0 d1 d2 d3 d4 d5 d6 d7 d8 d9; unfold PlR.cells at hsp; dsimp only at hsp; clear HSP) | (go_at_call 16; refine hsp.mono ?_; rintro e u3 ⟨rfl, hb6⟩; have HBU3 : Hid (Below w.heap.size w u3) := HBU2.out.trans (hb6.mono HBU2.out.size); have HXU3 : Hid (Below X2.heap.size X2 u3) := HXU2.out.trans (hb6.mono HXU2.out.size); clear hsp hb6 c0 c1 c2 c3 c4 c5 c6 c7 c8 c9 d0 d1 d2 d3 d4 d5 d6 d7 d8 d9))
    have HCu3 : Hid (Below X1.heap.size X1 u3) := HX12.out.trans (HXU3.out.mono HX12.out.size)
    have h3 := HPA.out { data := #[97, 99, 116, 115] } u3 (by decide) HBU3.out
    rw [show ({ data := #[97, 99, 116, 115] } : ByteArray).data.toList = actsWd from rfl] at h3
    go_wp2_with fail
    refine h3.mono ?_
    rintro e w3 ⟨W3, ao3, ac3, er3, rfl, hm3, hs3, he3, hb3⟩
    clear h3
    obtain ⟨pc3, hpc3⟩ : ∃ pc, PlR.cells { baseP (runT actsWd) with acts := ao3, cacts := ac3 } = pc := ⟨_, rfl⟩
    have HQ3 : Hid (pc3.size = 10 ∧ (pc3.all fun x => x.oneCell') = true) := by
      show _ ∧ _
      rw [← hpc3]
      exact ⟨rfl, plr_one _⟩
    rw [hpc3]
    obtain ⟨A3, X3, hA3, hX3, hz3, hbx3, hrx3⟩ := put_any w3 pc3
    have HBX3 : Hid (Below w.heap.size w X3) := (HBU3.out.trans (hb3.mono HBU3.out.size)).trans (hbx3.mono (HBU3.out.trans (hb3.mono HBU3.out.size)).size)
    have HA3 : Hid (Unit → _ = A3) := fun _ => hA3
    have HXW3 : Hid (Unit → _ = X3) := fun _ => hX3
    have HZ3 : Hid (A3.heap[w3.heap.size]? = some (.cells #[.int .i64 0, .int .i64 0, .int .i64 0, .int .i64 0, .int .i64 0, .int .i64 0, .bool false, .string { data := #[] }, .string { data := #[] }, .slice none 0 0] 26 (0, 0))) := hz3
    have HRX3 : Hid (∀ U, Below X3.heap.size X3 U → U.heap[w3.heap.size]? = some (.cells pc3 26 (0, 0))) := fun U hU => (hU.block _ (heap_lt hrx3)).trans hrx3
    have HCX3 : Hid (Below X1.heap.size X1 X3) := (HCu3.out.trans (hb3.mono HCu3.out.size)).trans (hbx3.mono (HCu3.out.trans (hb3.mono HCu3.out.size)).size)
    have g3 := HSD.out actsWd er3 X3 (by decide) (he3.below hbx3) HBX3.out
    rw [runT_acts] at g3
    dsimp only at g3
    clear hm3 hs3 he3 hb3 hbx3 hrx3 hz3 hA3 hX3 hpc3
  · go_wp2_with (first | (rw [HA3.out ()]; refine wpList_store_row rfl 26 (.tmp 13) (.tmp 86) rfl w3.heap.size pc3 rfl rfl 26 _ HZ3.out (by rw [HQ3.out.1]; exact sizePl) (by rw [HQ3.out.1]; rfl) HQ3.out.2 ?_; rw [HXW3.out ()]) | (go_at_call 21; refine g3.mono ?_; rintro e u4 ⟨rfl, hbs3⟩; clear g3; have HBU3 : Hid (Below w.heap.size w u4) := HBX3.out.trans (hbs3.mono HBX3.out.size); have HCu4 : Hid (Below X1.heap.size X1 u4) := HCX3.out.trans (hbs3.mono HCX3.out.size); clear hbs3))
    have h5 := HPA.out t3 u4 (by have := HT3.out.2; omega) HBU3.out
    rw [HT3.out.1, HBE.out] at h5
    go_wp2_with fail
    refine h5.mono ?_
    rintro e w5 ⟨W5, ao5, ac5, er5, rfl, hm5, hs5, he5, hb5⟩
    clear h5
    obtain ⟨pc5, hpc5⟩ : ∃ pc, PlR.cells { baseP R with acts := ao5, cacts := ac5 } = pc := ⟨_, rfl⟩
    have HQ5 : Hid (pc5.size = 10 ∧ (pc5.all fun x => x.oneCell') = true) := by
      show _ ∧ _
      rw [← hpc5]
      exact ⟨rfl, plr_one _⟩
    rw [hpc5]
    obtain ⟨A5, X5, hA5, hX5, hz5, hbx5, hrx5⟩ := put_any w5 pc5
    have HBX5 : Hid (Below w.heap.size w X5) := (HBU3.out.trans (hb5.mono HBU3.out.size)).trans (hbx5.mono (HBU3.out.trans (hb5.mono HBU3.out.size)).size)
    have HA5 : Hid (Unit → _ = A5) := fun _ => hA5
    have HXW5 : Hid (Unit → _ = X5) := fun _ => hX5
    have HZ5 : Hid (A5.heap[w5.heap.size]? = some (.cells #[.int .i64 0, .int .i64 0, .int .i64 0, .int .i64 0, .int .i64 0, .int .i64 0, .bool false, .string { data := #[] }, .string { data := #[] }, .slice none 0 0] 26 (0, 0))) := hz5
    have HRX5 : Hid (∀ U, Below X5.heap.size X5 U → U.heap[w5.heap.size]? = some (.cells pc5 26 (0, 0))) := fun U hU => (hU.block _ (heap_lt hrx5)).trans hrx5
    have HCX5 : Hid (Below X1.heap.size X1 X5) := (HCu4.out.trans (hb5.mono HCu4.out.size)).trans (hbx5.mono (HCu4.out.trans (hb5.mono HCu4.out.size)).size)
    have g5 := HSD.out (s.data.toList ++ 10 :: endL) er5 X5 (by rw [← HT3.out.1, ← size_eq]; have := HT3.out.2; omega) (by rw [HBE.out]; exact he5.below hbx5) HBX5.out
    rw [HBE.out, HRL.out.1, HRL.out.2] at g5
    have HRD : Hid (∀ U, Below w.heap.size w U → Below X1.heap.size X1 U → Calls Tryz.prog 4 #[.agg (PlR.cells { P0 with acts := ao1, cacts := ac1 })] U fun e w' => e = .returned (.bool true) ∧ Below U.heap.size U w') := fun U hU hC => round_any { P0 with acts := ao1, cacts := ac1 } W1 (HPO.out.1 ao1 ac1) (moved_ok HSE1.out.2 HPO.out.2.1) (by rw [HSE1.out.2.1]; exact HPO.out.2.2) B0 U (HSE1.out.1.below hC) (HGL.out U hU)
    have HTF : Hid (∀ U, Below X1.heap.size X1 U → U.heap[w1.heap.size]? = some (.cells (PlR.cells { P0 with acts := ao1, cacts := ac1 }) 26 (0, 0))) := fun U hU => by rw [HPC1.out]; exact HRX1.out U hU
    clear hm5 hs5 he5 hb5 hbx5 hrx5 hz5 hA5 hX5 hpc5
    go_wp2_with (first | (rw [HA5.out ()]; refine wpList_store_row rfl 26 (.tmp 18) (.tmp 110) rfl w5.heap.size pc5 rfl rfl 26 _ HZ5.out (by rw [HQ5.out.1]; exact sizePl) (by rw [HQ5.out.1]; rfl) HQ5.out.2 ?_; rw [HXW5.out ()]) | (go_at_call 21; refine g5.mono ?_; rintro e u6 ⟨rfl, hbs5⟩; clear g5; have HBU5 : Hid (Below w.heap.size w u6) := HBX5.out.trans (hbs5.mono HBX5.out.size); have HCu6 : Hid (Below X1.heap.size X1 u6) := HCX5.out.trans (hbs5.mono HCX5.out.size); clear hbs5; have c5 := (plAt_of (p := { P0 with acts := ao1, cacts := ac1 }) (HTF.out u6 HCu6.out)).ten; obtain ⟨c0, c1, c2, c3, c4, c5, c6, c7, c8, c9⟩ := c5; dsimp only at c0 c1 c2 c3 c4 c5 c6 c7 c8 c9; have hrd := HRD.out u6 HBU5.out HCu6.out; unfold PlR.cells at hrd; dsimp only at hrd) | (go_at_call 4; refine hrd.mono ?_; rintro e u7 ⟨rfl, hb7⟩; have HB7 : Hid (Below w.heap.size w u7) := HBU5.out.trans (hb7.mono HBU5.out.size); clear hrd hb7 c0 c1 c2 c3 c4 c5 c6 c7 c8 c9))
    go_ret
    exact ⟨rfl, HB7.out⟩
  · go_wp2_with (first | (rw [HA3.out ()]; refine wpList_store_row rfl 26 (.tmp 13) (.tmp 86) rfl w3.heap.size pc3 rfl rfl 26 _ HZ3.out (by rw [HQ3.out.1]; exact sizePl) (by rw [HQ3.out.1]; rfl) HQ3.out.2 ?_; rw [HXW3.out ()]) | (go_at_call 21; refine g3.mono ?_; rintro e u4 ⟨rfl, hbs3⟩; clear g3; have HBU3 : Hid (Below w.heap.size w u4) := HBX3.out.trans (hbs3.mono HBX3.out.size); have HCu4 : Hid (Below X1.heap.size X1 u4) := HCX3.out.trans (hbs3.mono HCX3.out.size); clear hbs3; have hcut := cut22_any s (by have := HSZ.out; omega) _ m HMM.out.1 HMM.out.2.1 u4) | (go_at_call 22; refine hcut.mono ?_; rintro e v1 ⟨rfl, hbv⟩; clear hcut; have HBV : Hid (Below w.heap.size w v1) := HBU3.out.trans (hbv.mono HBU3.out.size); have HCV : Hid (Below X1.heap.size X1 v1) := HCu4.out.trans (hbv.mono HCu4.out.size); clear hbv))
    have h6 := HPA.out (str (aheadL m (lnsL s.data.toList))) v1 (by rw [str_size]; have := HCL.out; omega) HBV.out
    rw [str_data] at h6
    refine h6.mono ?_
    rintro e w6 ⟨W6, ao6, ac6, er6, rfl, hm6, hs6, he6, hb6⟩
    clear h6
    obtain ⟨pc6, hpc6⟩ : ∃ pc, PlR.cells { baseP (runT (aheadL m (lnsL s.data.toList))) with acts := ao6, cacts := ac6 } = pc := ⟨_, rfl⟩
    have HQ6 : Hid (pc6.size = 10 ∧ (pc6.all fun x => x.oneCell') = true) := by
      show _ ∧ _
      rw [← hpc6]
      exact ⟨rfl, plr_one _⟩
    rw [hpc6]
    obtain ⟨A6, X6, hA6, hX6, hz6, hbx6, hrx6⟩ := put_any w6 pc6
    have HBX6 : Hid (Below w.heap.size w X6) := (HBV.out.trans (hb6.mono HBV.out.size)).trans (hbx6.mono (HBV.out.trans (hb6.mono HBV.out.size)).size)
    have HA6 : Hid (Unit → _ = A6) := fun _ => hA6
    have HXW6 : Hid (Unit → _ = X6) := fun _ => hX6
    have HZ6 : Hid (A6.heap[w6.heap.size]? = some (.cells #[.int .i64 0, .int .i64 0, .int .i64 0, .int .i64 0, .int .i64 0, .int .i64 0, .bool false, .string { data := #[] }, .string { data := #[] }, .slice none 0 0] 26 (0, 0))) := hz6
    have HRX6 : Hid (∀ U, Below X6.heap.size X6 U → U.heap[w6.heap.size]? = some (.cells pc6 26 (0, 0))) := fun U hU => (hU.block _ (heap_lt hrx6)).trans hrx6
    have HCX6 : Hid (Below X1.heap.size X1 X6) := (HCV.out.trans (hb6.mono HCV.out.size)).trans (hbx6.mono (HCV.out.trans (hb6.mono HCV.out.size)).size)
    have g6 := HSD.out (aheadL m (lnsL s.data.toList)) er6 X6 (by have := HCL.out; omega) (he6.below hbx6) HBX6.out
    have hmc := HMM.out.2.2
    clear hm6 hs6 he6 hb6 hbx6 hrx6 hz6 hA6 hX6 hpc6
    rcases hmc with hmc | hmc
    all_goals
      rw [hmc] at g6
      dsimp only at g6
      clear hmc
      go_wp2_with (first | (rw [HA6.out ()]; refine wpList_store_row rfl 26 (.tmp 23) (.tmp 133) rfl w6.heap.size pc6 rfl rfl 26 _ HZ6.out (by rw [HQ6.out.1]; exact sizePl) (by rw [HQ6.out.1]; rfl) HQ6.out.2 ?_; rw [HXW6.out ()]) | (go_at_call 21; refine g6.mono ?_; rintro e u8 ⟨rfl, hbs6⟩; clear g6; have HBU6 : Hid (Below w.heap.size w u8) := HBX6.out.trans (hbs6.mono HBX6.out.size); have HCu8 : Hid (Below X1.heap.size X1 u8) := HCX6.out.trans (hbs6.mono HCX6.out.size); clear hbs6))
      go_ret
      exact ⟨rfl, HBU6.out⟩

end Go.Proofs.YtlmopjbfagijeaaGreatDoor.Sc
