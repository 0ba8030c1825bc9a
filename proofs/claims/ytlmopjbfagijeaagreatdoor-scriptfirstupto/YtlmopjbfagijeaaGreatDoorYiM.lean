import Derived.Laws.StructEq
import Derived.Deep.RegionHeldLaw
import Derived.Test.YtlmopjbfagijeaaGreatDoorYhM
import Derived.Test.YtlmopjbfagijeaaGreatDoorYgM
namespace Go.Proofs.YtlmopjbfagijeaaGreatDoor.Sc
open Go.RowKit Go.Lib Go.Deep
theorem guardO : Tryz.prog.eqGuardType Tryz.prog.depth 54 = false := by kernel_rfl
theorem sizeInt : (Tryz.prog.info? 3).map (·.size) = some 1 := by kernel_rfl
theorem sizeStr : (Tryz.prog.info? 9).map (·.size) = some 1 := by kernel_rfl
set_option maxHeartbeats 1000000 in
theorem eq_ops (x o : OpR) (w : World) : (Op.equalIn 10000 54 (.agg x.cells) (.agg o.cells)).run Tryz.prog w =
    .ok (x.kind == o.kind && (x.path.toList == o.path.toList && (x.to.toList == o.to.toList && (x.at_ == o.at_ && (x.n == o.n && x.data.toList == o.data.toList))))) w := by
  have u3 := Tryz.underlying3
  have u9 := Tryz.underlying9
  have z3 : ∀ w, (Go.sizeOf 3).run Tryz.prog w = .ok 1 w := fun w => by
    have hs := sizeInt
    cases hq : Tryz.prog.info? 3 with
    | none => simp [hq] at hs
    | some q =>
      have hz : q.size = 1 := by simpa [hq] using hs
      simp [Go.sizeOf, typeInfo, hq, hz]
  have z9 : ∀ w, (Go.sizeOf 9).run Tryz.prog w = .ok 1 w := fun w => by
    have hs := sizeStr
    cases hq : Tryz.prog.info? 9 with
    | none => simp [hq] at hs
    | some q =>
      have hz : q.size = 1 := by simpa [hq] using hs
      simp [Go.sizeOf, typeInfo, hq, hz]
  unfold OpR.cells
  rw [show (10000 : Nat) = 9999 + 1 from rfl]
  go_simp
  repeat' split
  all_goals simp_all
theorem eq_bool (x o : OpR) : (x.kind == o.kind && (x.path.toList == o.path.toList && (x.to.toList == o.to.toList && (x.at_ == o.at_ && (x.n == o.n && x.data.toList == o.data.toList))))) = true ↔ x = o := by
  obtain ⟨a, b, c, d, e, f⟩ := x
  obtain ⟨a', b', c', d', e', f'⟩ := o
  have hb : ∀ u v : ByteArray, u.toList = v.toList ↔ u = v := fun u v => by
    rw [ByteArray.toList_eq, ByteArray.toList_eq]
    exact ⟨fun h => ByteArray.ext (Array.toList_inj.1 h), fun h => by rw [h]⟩
  simp only [Bool.and_eq_true, beq_iff_eq, hb, OpR.mk.injEq]
theorem if_ops (U : World) (p q r s t u : Prop) [Decidable p] [Decidable q] [Decidable r] [Decidable s] [Decidable t] [Decidable u] (b : Bool) (h : b = true ↔ p ∧ q ∧ r ∧ s ∧ t ∧ u) :
    (if p then if q then if r then if s then if t then if u then Result.ok (Next.value (.bool false)) U else Result.ok (Next.value (.bool true)) U else Result.ok (Next.value (.bool true)) U else Result.ok (Next.value (.bool true)) U else Result.ok (Next.value (.bool true)) U else Result.ok (Next.value (.bool true)) U else Result.ok (Next.value (.bool true)) U) = (Result.ok (Next.value (.bool (!b))) U : Result Next) := by
  cases b <;> by_cases h1 : p <;> by_cases h2 : q <;> by_cases h3 : r <;> by_cases h4 : s <;> by_cases h5 : t <;> by_cases h6 : u <;> simp_all
theorem step_neq {P : Program} {ops : Array Oper} {o : Oper} {a : Act} {w : World} {K : Act → World → Prop} {Q : Exit → Act → World → Prop} {E : Prop} (hgd : o.guard = none) (sx sy : Operand) (t : TypeId)
    (r : TypeId) (ho : o.op = .binOp .neq t sx sy r) (xs ys : Array Value) (hx : a.eval sx = .agg xs) (hy : a.eval sy = .agg ys) (hg : P.eqGuardType P.depth t = false) (b : Bool)
    (hr : (Op.equalIn 10000 t (.agg xs) (.agg ys)).run P w = .ok b w) (h : K (a.put o.dst (.bool (!b))) w) : if Region.wanted o (yielded ops a.tmps) = true then Oper.wp P o a w K Q else E := by
  have hw : Region.wanted o (yielded ops a.tmps) = true := by simp [Region.wanted, hgd]
  rw [if_pos hw]
  unfold Oper.wp execOp
  simp only [ho, Sem.run_bind, Sem.run_pure, Result.andThen_ok, hx, hy, run_eqGuard_agg _ _ _ _ _ _ _ hg, run_neq_struct, hr]
  exact h
open Classical in
noncomputable def refW (o : OpR) (nm sh : List UInt8) : Value :=
  if namedR o sh ≠ o then .tuple #[.string { data := #[] }, .int .i64 225]
  else if 262144 < (lineL o nm sh).length then .tuple #[.string { data := #[] }, .int .i64 221]
  else .tuple #[.string (str (lineL o nm sh)), .int .i64 0]
set_option maxRecDepth 20000 in
set_option maxHeartbeats 4000000 in
theorem rPrint_any (o : OpR) (hok : o.Ok) (k : Nat) (h1 : 1 ≤ k) (hk : o.kind = k) (sh nm : ByteArray) (hsh : shapeL[k]? = some sh) (hnm : opsL[k]? = some nm) (w : World) (ht : ITab w) :
    Calls Tryz.prog 29 #[.agg o.cells] w fun e w' => e = .returned (refW o nm.data.toList sh.data.toList) ∧ Below w.heap.size w w' := by
  obtain ⟨W, hW⟩ : ∃ W, w.alloc (.cells o.cells 54) = W := ⟨_, rfl⟩
  have hbW : Below w.heap.size w W := by rw [← hW]; exact (Below.refl _ _).alloc (Nat.le_refl _) _
  have hoW : OpAt W w.heap.size o := by
    rw [← hW]
    exact heap_alloc_new _ _
  have hk10 : (k : Int) ≤ 10 := by
    have := (List.getElem?_eq_some_iff.1 hsh).1
    have e : shapeL.length = 11 := rfl
    omega
  have hk1 : (1 : Int) ≤ k := by omega
  have hna := named_any o k hk sh hsh W.drew
  have hbd : Below W.heap.size W W.drew := (Below.refl W.heap.size W).drew
  have HLn : Hid (∀ U, Below W.heap.size W U → Calls Tryz.prog 66 #[.agg o.cells] U fun e w' => e = .returned (.string (str (lineL o nm.data.toList sh.data.toList))) ∧ Below U.heap.size U w') := fun U hb =>
    opLine_any o hok k hk sh nm hsh hnm U (ht.below (hbW.trans (hb.mono hbW.size)) ht.lt)
  have HO : Hid (∀ U, Below W.heap.size W U → OpAt U w.heap.size o) := fun U hb => hoW.below hb hoW.lt
  obtain ⟨c0, c1, c2, c3, c4, c5⟩ := hoW.six
  have HK : Hid (o.kind = k) := hk
  unfold OpR.cells at *
  clear hsh hnm hoW
  rw [hk] at c0 hna
  rw [hk] at hW ⊢
  have HW : Hid (_ = W) := hW
  clear hk hW
  go_enter Tryz.func29, Tryz.ntmps29
  go_wp2_with fail
  rw [HW.out]
  obtain ⟨x, hx⟩ : ∃ x, namedR o sh.data.toList = x := ⟨_, rfl⟩
  have HX : Hid (namedR o sh.data.toList = x) := hx
  rw [hx] at hna
  clear hx h1
  have HB0 : Hid (Below w.heap.size w W) := hbW
  have HQ : Hid (∀ U, Below W.heap.size W U → (fun U => U.cell? ⟨w.heap.size, 0, none⟩ = some (.int .i64 k) ∧ U.cell? ⟨w.heap.size, 1, none⟩ = some (.string o.path) ∧ U.cell? ⟨w.heap.size, 2, none⟩ = some (.string o.to) ∧ U.cell? ⟨w.heap.size, 3, none⟩ = some (.int .i64 o.at_) ∧ U.cell? ⟨w.heap.size, 4, none⟩ = some (.int .i64 o.n) ∧ U.cell? ⟨w.heap.size, 5, none⟩ = some (.string o.data)) U) := fun U hb => by
    have h := (HO.out U hb).six
    rw [HK.out] at h
    exact h
  have hs0 := HQ.out W (Below.refl _ _)
  obtain ⟨b, hb⟩ : ∃ b, (x.kind == o.kind && (x.path.toList == o.path.toList && (x.to.toList == o.to.toList && (x.at_ == o.at_ && (x.n == o.n && x.data.toList == o.data.toList))))) = b := ⟨_, rfl⟩
  have HE : Hid (∀ W, (Op.equalIn 10000 54 (.agg #[.int .i64 x.kind, .string x.path, .string x.to, .int .i64 x.at_, .int .i64 x.n, .string x.data]) (.agg #[.int .i64 k, .string o.path, .string o.to, .int .i64 o.at_, .int .i64 o.n, .string o.data])).run Tryz.prog W = .ok b W) := fun W => by
    have h := eq_ops x o W
    rw [hb] at h
    unfold OpR.cells at h
    rw [HK.out] at h
    exact h
  have HB1 : Hid ((x.kind == o.kind && (x.path.toList == o.path.toList && (x.to.toList == o.to.toList && (x.at_ == o.at_ && (x.n == o.n && x.data.toList == o.data.toList))))) = b) := hb
  have HEB : Hid (b = true ↔ x = o) := by
    show b = true ↔ x = o
    rw [← hb]
    exact eq_bool x o
  clear hb c0 c1 c2 c3 c4 c5
  have hif : ∀ U, (if x.kind = (k : Int) then if x.path.toList = o.path.toList then if x.to.toList = o.to.toList then if x.at_ = o.at_ then if x.n = o.n then if x.data.toList = o.data.toList then Result.ok (Next.value (.bool false)) U else Result.ok (Next.value (.bool true)) U else Result.ok (Next.value (.bool true)) U else Result.ok (Next.value (.bool true)) U else Result.ok (Next.value (.bool true)) U else Result.ok (Next.value (.bool true)) U else Result.ok (Next.value (.bool true)) U) = (Result.ok (Next.value (.bool (!b))) U : Result Next) := fun U => by
    have e := HB1.out
    rw [HK.out] at e
    exact if_ops U _ _ _ _ _ _ b (by rw [← e]; simp)
  have HI : Hid _ := hif
  clear hif
  go_region_held_law (fun U => U.cell? ⟨w.heap.size, 0, none⟩ = some (.int .i64 k) ∧ U.cell? ⟨w.heap.size, 1, none⟩ = some (.string o.path) ∧ U.cell? ⟨w.heap.size, 2, none⟩ = some (.string o.to) ∧ U.cell? ⟨w.heap.size, 3, none⟩ = some (.int .i64 o.at_) ∧ U.cell? ⟨w.heap.size, 4, none⟩ = some (.int .i64 o.n) ∧ U.cell? ⟨w.heap.size, 5, none⟩ = some (.string o.data)) (first | exact HQ.out _ hbd | exact HQ.out _ hb2x | go_keep) (first | (rw [HI.out, Oper.upon_value]) | (go_at_call 65; refine hna.mono ?_; rintro e w2 ⟨rfl, hb2⟩; have hb2x : Below W.heap.size W w2 := hbd.trans hb2; clear hna))
  cases b
  · have hne : namedR o sh.data.toList ≠ o := fun h => by
      have := HEB.out.2 (HX.out.symm.trans h)
      cases this
    have HF : Hid (Value.tuple #[.string { data := #[] }, .int .i64 225] = refW o nm.data.toList sh.data.toList) := by
      show _ = _
      unfold refW
      rw [if_pos hne]
    have HBB : Hid (Below w.heap.size w w2) := hbW.trans (hb2x.mono hbW.size)
    clear hne hb2x hb2 hs0
    go_wp2_with fail
    go_ret2
    exact ⟨by rw [← HF.out]; rfl, HBB.out⟩
  · have hxo : namedR o sh.data.toList = o := HX.out.trans (HEB.out.1 rfl)
    have HF : Hid (∀ v, (v = if 262144 < (lineL o nm.data.toList sh.data.toList).length then Value.tuple #[.string { data := #[] }, .int .i64 221] else .tuple #[.string (str (lineL o nm.data.toList sh.data.toList)), .int .i64 0]) → v = refW o nm.data.toList sh.data.toList) := by
      show ∀ v, _ → _
      intro v hv
      unfold refW
      rw [if_neg (by simpa using hxo)]
      exact hv
    have HBB : Hid (Below w.heap.size w w2) := hbW.trans (hb2x.mono hbW.size)
    obtain ⟨c0, c1, c2, c3, c4, c5⟩ := HQ.out w2 hb2x
    have hl := HLn.out w2 hb2x
    rw [HK.out] at hl
    obtain ⟨t, htt⟩ : ∃ t, str (lineL o nm.data.toList sh.data.toList) = t := ⟨_, rfl⟩
    obtain ⟨m, hm⟩ : ∃ m, (lineL o nm.data.toList sh.data.toList).length = m := ⟨_, rfl⟩
    rw [hm] at HF
    have hts : t.size = m := by rw [← htt, str_size, hm]
    rw [htt] at hl
    clear hb2x hb2 hs0 hxo
    go_wp2_with (go_at_call 66; refine hl.mono ?_; rintro e w3 ⟨rfl, hb3⟩; clear hl)
    all_goals
      go_ret2
      refine ⟨congrArg Ending.returned (HF.out _ ?_), HBB.out.trans (hb3.mono HBB.out.size)⟩
      rw [htt]
      first
        | (rw [if_pos (by omega)]; rfl)
        | (rw [if_neg (by omega)]; rfl)
set_option maxRecDepth 20000 in
set_option maxHeartbeats 1000000 in
theorem rPrint_out (o : OpR) (h : o.kind < 1 ∨ 10 < o.kind) (w : World) :
    Calls Tryz.prog 29 #[.agg o.cells] w fun e w' => e = .returned (.tuple #[.string { data := #[] }, .int .i64 222]) ∧ Below w.heap.size w w' := by
  obtain ⟨W, hW⟩ : ∃ W, w.alloc (.cells o.cells 54) = W := ⟨_, rfl⟩
  have hbW : Below w.heap.size w W := by rw [← hW]; exact (Below.refl _ _).alloc (Nat.le_refl _) _
  have hoW : OpAt W w.heap.size o := by
    rw [← hW]
    exact heap_alloc_new _ _
  obtain ⟨c0, c1, c2, c3, c4, c5⟩ := hoW.six
  unfold OpR.cells at *
  clear hoW
  have HW : Hid (_ = W) := hW
  clear hW
  rcases h with h | h
  · go_enter Tryz.func29, Tryz.ntmps29
    go_wp2_with fail
    rw [HW.out]
    go_wp2_with fail
    go_ret2
    exact ⟨rfl, hbW⟩
  · have h1 : ¬ o.kind < 1 := by omega
    go_enter Tryz.func29, Tryz.ntmps29
    go_wp2_with fail
    rw [HW.out]
    go_wp2_with fail
    go_ret2
    exact ⟨rfl, hbW⟩
end Go.Proofs.YtlmopjbfagijeaaGreatDoor.Sc

namespace Go.Proofs.YtlmopjbfagijeaaGreatDoor.Sc
open Go.RowKit Go.Lib Go.Deep

theorem wrL_ge (l : List UInt8) : l.length ≤ (wrL l).length := by
  induction l with
  | nil => simp
  | cons a t ih =>
    simp only [wrL, List.flatMap_cons, List.length_append, List.length_cons] at ih ⊢
    have : 1 ≤ (one a).length := by
      unfold one
      split <;> simp
    omega
theorem byL_ge (s : ByteArray) : s.size < (byL s).length := by
  have h := wrL_ge s.data.toList
  rw [size_eq]
  simp only [byL, List.length_cons]
  omega
theorem isE (s : ByteArray) : s.toList = [] ↔ s = nil_ := by
  rw [ByteArray.toList_eq]
  exact ⟨fun h => ByteArray.ext (by simpa [nil_] using h), fun h => by rw [h]; rfl⟩
/-- the two answers of a line, by their parts -/
theorem line_eq (o : OpR) (f : Fm) (nm sh : List UInt8) (hb : bare (shR f.wr o) o.kind = true ↔ namedR o sh = o)
    (h1 : (shG f.wr o (false, f.word.data.toList)).1 = true → 262144 < (lineL o nm sh).length)
    (h2 : (shG f.wr o (false, f.word.data.toList)).1 = false → (shG f.wr o (false, f.word.data.toList)).2 = lineL o nm sh) : lineW o f = refW o nm sh := by
  unfold lineW refW
  by_cases hn : namedR o sh = o
  · rw [if_neg (show ¬ (bare (shR f.wr o) o.kind = false) by simp [hb.2 hn]), if_neg (show ¬ (namedR o sh ≠ o) by simp [hn])]
    cases hc : (shG f.wr o (false, f.word.data.toList)).1
    · rw [h2 hc]
      simp
    · rw [if_pos (show true = true ∨ _ from Or.inl rfl), if_pos (h1 hc)]
  · have hf : bare (shR f.wr o) o.kind = false := by
      cases h : bare (shR f.wr o) o.kind
      · rfl
      · exact absurd (hb.1 h) hn
    rw [if_pos hf, if_pos hn]
theorem c112 (o : OpR) : ch1 o 112 = 32 :: byL o.path := by simp [ch1]
theorem c116 (o : OpR) : ch1 o 116 = 32 :: byL o.to := by simp [ch1]
theorem c100 (o : OpR) : ch1 o 100 = 32 :: byL o.data := by simp [ch1]
theorem c97 (o : OpR) : ch1 o 97 = 32 :: itoa o.at_ := by simp [ch1]
theorem c110 (o : OpR) : ch1 o 110 = 32 :: itoa o.n := by simp [ch1]
def kN (f : Fm) : Nat := f.kind.toNat
set_option maxHeartbeats 4000000 in
theorem forms_eq (o : OpR) (f : Fm) (hf : f ∈ opTab) (sh nm : ByteArray) (hsh : shapeL[kN f]? = some sh) (hnm : opsL[kN f]? = some nm) : lineW o f = refW o nm.data.toList sh.data.toList := by
  obtain ⟨kd, pa, to, a, n, da⟩ := o
  have hp := byL_ge pa
  have ht := byL_ge to
  have hd := byL_ge da
  unfold opTab at hf
  simp only [List.mem_cons, List.not_mem_nil, or_false] at hf
  rcases hf with rfl | rfl | rfl | rfl | rfl | rfl | rfl | rfl | rfl | rfl
  all_goals
    simp only [shapeL, opsL, kN, Int.toNat, List.getElem?_cons_succ, List.getElem?_cons_zero, Option.some.injEq] at hsh hnm
    subst hsh hnm
    refine line_eq _ _ _ _ ?_ ?_ ?_
    · simp [bare, shR, namedR, put1, zeroO, isE, nil_]
      try (rw [show (({ data := #[] } : ByteArray) = to) = (to = { data := #[] }) from propext eq_comm])
      try (rw [show (({ data := #[] } : ByteArray) = da) = (da = { data := #[] }) from propext eq_comm])
      try (rw [show ((0 : Int) = a) = (a = 0) from propext eq_comm])
      try (rw [show ((0 : Int) = n) = (n = 0) from propext eq_comm])
      try simp only [and_assoc]
    · by_cases hx : 262144 < pa.size <;> by_cases hy : 262144 < da.size <;> by_cases hz : 262144 < to.size <;> simp [shG, stB, stN, lineL, c112, c116, c100, c97, c110, hx, hy, hz] <;> omega
    · by_cases hx : 262144 < pa.size <;> by_cases hy : 262144 < da.size <;> by_cases hz : 262144 < to.size <;> simp [shG, stB, stN, lineL, c112, c116, c100, c97, c110, hx, hy, hz, nmL]
end Go.Proofs.YtlmopjbfagijeaaGreatDoor.Sc

namespace Go.Proofs.YtlmopjbfagijeaaGreatDoor.Sc
open Go.RowKit Go.Lib Go.Deep

theorem tab_kinds (f : Fm) (hf : f ∈ opTab) : 1 ≤ f.kind ∧ f.kind ≤ 10 ∧ f.kind = (kN f : Int) ∧ (∃ sh, shapeL[kN f]? = some sh) ∧ opsL[kN f]? = some f.word := by
  unfold opTab at hf
  simp only [List.mem_cons, List.not_mem_nil, or_false] at hf
  rcases hf with rfl | rfl | rfl | rfl | rfl | rfl | rfl | rfl | rfl | rfl
  all_goals exact ⟨by decide, by decide, rfl, ⟨_, rfl⟩, rfl⟩
theorem tab_all (k : Int) (h1 : 1 ≤ k) (h2 : k ≤ 10) : ∃ f ∈ opTab, f.kind = k := by
  have h : k = 1 ∨ k = 2 ∨ k = 3 ∨ k = 4 ∨ k = 5 ∨ k = 6 ∨ k = 7 ∨ k = 8 ∨ k = 9 ∨ k = 10 := by omega
  unfold opTab
  rcases h with rfl | rfl | rfl | rfl | rfl | rfl | rfl | rfl | rfl | rfl <;> simp
theorem tab_one (f g : Fm) (hf : f ∈ opTab) (hg : g ∈ opTab) (h : f.kind = g.kind) : f = g := by
  unfold opTab at hf hg
  simp only [List.mem_cons, List.not_mem_nil, or_false] at hf hg
  rcases hf with rfl | rfl | rfl | rfl | rfl | rfl | rfl | rfl | rfl | rfl <;> rcases hg with rfl | rfl | rfl | rfl | rfl | rfl | rfl | rfl | rfl | rfl <;> first | rfl | (exfalso; revert h; decide)
/-- the answer of both: a text and a code -/
def Ans (o : OpR) (x : ByteArray) (c : Int) : Prop := 0 ≤ c ∧ c < 1000 ∧
  (∀ w, ITab w → Calls Tryz.prog 17 #[o.val] w fun e w' => e = .returned (.tuple #[.string x, .int .i64 c]) ∧ Below w.heap.size w w') ∧
  ∀ w, ITab w → Calls Tryz.prog 29 #[o.val] w fun e w' => e = .returned (.tuple #[.string x, .int .i64 c]) ∧ Below w.heap.size w w'
theorem prints_same (o : OpR) (hok : o.Ok) : ∃ x c, Ans o x c := by
  by_cases hin : 1 ≤ o.kind ∧ o.kind ≤ 10
  · obtain ⟨f, hf, hk⟩ := tab_all o.kind hin.1 hin.2
    obtain ⟨h1, h10, hkn, ⟨sh, hsh⟩, hnm⟩ := tab_kinds f hf
    have he := forms_eq o f hf sh f.word hsh hnm
    have hx : ∃ x c, (0 : Int) ≤ c ∧ c < 1000 ∧ lineW o f = .tuple #[.string x, .int .i64 c] := by
      unfold lineW
      split
      · exact ⟨_, _, by decide, by decide, rfl⟩
      · split
        · exact ⟨_, _, by decide, by decide, rfl⟩
        · exact ⟨_, _, by decide, by decide, rfl⟩
    obtain ⟨x, c, c0, c1, hv⟩ := hx
    refine ⟨x, c, c0, c1, fun w ht => (printOp_any o hok w ht).mono ?_, fun w ht => (rPrint_any o hok (kN f) (by omega) (by rw [← hk, hkn]) sh f.word hsh hnm w ht).mono ?_⟩
    · rintro e w' ⟨hout, hb⟩
      refine ⟨?_, hb⟩
      rcases hout with ⟨hno, -⟩ | ⟨g, hg, hgk, rfl⟩
      · exact absurd hk (hno f hf)
      · rw [tab_one g f hg hf (hgk.trans hk.symm), hv]
    · rintro e w' ⟨rfl, hb⟩
      exact ⟨by rw [← he, hv], hb⟩
  · refine ⟨{ data := #[] }, 222, by decide, by decide, fun w ht => (printOp_any o hok w ht).mono ?_, fun w _ => rPrint_out o (by omega) w⟩
    rintro e w' ⟨hout, hb⟩
    refine ⟨?_, hb⟩
    rcases hout with ⟨-, rfl⟩ | ⟨g, hg, hgk, rfl⟩
    · rfl
    · have := tab_kinds g hg
      omega
end Go.Proofs.YtlmopjbfagijeaaGreatDoor.Sc
