import Derived.Test.YtpjigcccjiidpaaExEb
import Derived.Deep.Slices
import Derived.Deep.Strs
import Derived.WalkKit
import Derived.ProofKit
import Derived.OpenShut
import Derived.ShutString
import Derived.SizedLaws
import Derived.JoinedCond
import Derived.Carry
namespace Go.Proofs.Ytpjigcccjiidpaa.Ex
open Go.ChangeShapes Go.WideShapes Go.ChangeAt Go.RowKit Go.Deep

theorem laidOut : laidOutB Try.prog = true := by kernel_rfl
theorem sized_of {H : Type} {ts : List TypeId} {ds : List (DataW H)} (h : (DataW.weightsEach Try.prog ts ds).all (· ≤ reachBytes) = true) {j : Nat} {d : DataW H} {t : TypeId} {n : Nat} (ht : ts[j]? = some t) (hd : ds[j]? = some d) (hn : n ∈ d.weights Try.prog t) : n ≤ 140737488355328 := by
  have h1 := of_decide_eq_true (List.all_eq_true.1 h _ (DataW.weights_mem_each ht hd n hn))
  unfold reachBytes at h1
  omega
theorem cells3i : Try.prog.cellsOf 3 = 1 := by kernel_rfl
theorem cells9s : Try.prog.cellsOf 9 = 1 := by kernel_rfl
theorem cells4b : Try.prog.cellsOf 4 = 1 := by kernel_rfl
theorem cellsEd : Try.prog.cellsOf 45 = 4 := by kernel_rfl
theorem bytesEd : Try.prog.bytesOf 45 = 40 := by kernel_rfl
theorem flat_inv {α : Type} (f : α → List Value) (k : Nat) (hk : 0 < k) (hf : ∀ a, (f a).length = k) (l : List α) (j : Nat) (u : Value) (h : (l.flatMap f)[j]? = some u) : ∃ x, l[j / k]? = some x ∧ (f x)[j % k]? = some u := by
  have hl := some_lt h
  rw [flat_len f k hf] at hl
  have hi : j / k < l.length := (Nat.div_lt_iff_lt_mul hk).2 hl
  refine ⟨l[j / k], List.getElem?_eq_getElem hi, ?_⟩
  have := flat_get f k hf l (j / k) l[j / k] (List.getElem?_eq_getElem hi) (j % k) (Nat.mod_lt _ hk)
  rw [← this, Nat.div_add_mod']
  exact h
theorem wf_range {n : Int} (h : (Lit.int .i64 n).wf = true) : -9223372036854775808 ≤ n ∧ n ≤ 9223372036854775807 := by
  have e1 : IntKind.i64.min = -9223372036854775808 := by decide
  have e2 : IntKind.i64.max = 9223372036854775807 := by decide
  simp only [Lit.wf, Bool.and_eq_true, decide_eq_true_eq] at h
  omega
theorem edC_one (e : Ed) : ∀ u ∈ edC e, u.oneCell' = true := fun u hu => by
  simp [edC] at hu
  rcases hu with rfl | rfl | rfl | rfl <;> rfl
set_option maxRecDepth 40000 in
set_option maxHeartbeats 1000000 in
theorem ed_of {H : Type} {enc : TypeId × Value → H} {W : World} {cs : List Value} {y : DataW H × List MemPlace} {fuel : Nat} (hl : cs.length = 4) (h2 : DataW.trod enc Try.prog W 0 (fun _ => true) true fuel 45 cs = some y) : ∃ o : Ed, cs = edC o ∧ EdW o := by
  obtain ⟨xs, k, hk, hxy, _, hxl, hfl⟩ := DataW.trod_struct Try.underlying45 h2
  match xs, hxl, cs, hl with
  | [y0, y1, y2, y3], _, [v0, v1, v2, v3], _ =>
    have g0 := hfl 0 _ rfl
    have g1 := hfl 1 _ rfl
    have g2 := hfl 2 _ rfl
    have g3 := hfl 3 _ rfl
    simp [cells3i, cells9s, cells4b] at g0 g1 g2 g3
    obtain ⟨i0, a0, _⟩ := DataW.trod_bool Try.underlying4 g0
    obtain ⟨i1, a1, _, z1⟩ := DataW.trod_int Try.underlying3 g1
    obtain ⟨i2, a2, _, z2⟩ := DataW.trod_int Try.underlying3 g2
    obtain ⟨i3, a3, _, z3⟩ := DataW.trod_string Try.underlying9 g3
    simp at a0 a1 a2 a3
    subst a0 a1 a2 a3
    refine ⟨⟨i0, i1, i2, i3.data.toList⟩, by unfold edC; rw [str_of], ⟨?_, wf_range z1, wf_range z2⟩⟩
    have : i3.data.toList.length = i3.size := (Lib.size_eq i3).symm
    show i3.data.toList.length ≤ maxLen
    omega
set_option maxRecDepth 40000 in
/-- edits as they were handed in -/
theorem eds_of {H : Type} {enc : TypeId × Value → H} {W : World} {a : Option Addr} {len cap : Nat} {d : DataW H} {ps : List MemPlace} (h : DataW.Trod enc Try.prog W 0 (fun _ => true) true 50 (.slice a len cap) d ps) :
    ∃ A : List Ed, See W 4 (.slice a len cap) len (edsC A) ∧ A.length = len ∧ (∀ e ∈ A, EdW e) ∧ (len = 0 ∨ ∃ m, len ≤ m ∧ m * 40 ∈ d.weights Try.prog 50) := by
  obtain ⟨fuel, hf⟩ := h
  rcases open_slice Try.underlying50 hf with ⟨hcs, _⟩ | ⟨x, len', cap', m, n, D, Pl, hcs, _, hl, hm, hmm, hx0, hx⟩
  · simp [Value.cells] at hcs
    obtain ⟨rfl, rfl, rfl⟩ := hcs
    exact ⟨[], see_nil _ _, rfl, fun e he => (by cases he), .inl rfl⟩
  · simp [Value.cells] at hcs
    obtain ⟨rfl, rfl, rfl⟩ := hcs
    simp only [if_true] at hmm
    subst hmm
    have hy1 : d = .slice ((List.range len).map D) ((List.range (m - len)).map fun j => D (len + j)) := by
      simp only [Prod.mk.injEq] at hx0
      exact hx0.1
    have hwm : m * 40 ∈ DataW.weights (H := H) Try.prog 50 d := by
      rw [hy1]
      simp only [DataW.weights, Try.underlying50, bytesEd]
      refine List.mem_cons.2 (.inl ?_)
      simp
      omega
    have each : ∀ i, i < len → ∃ o : Ed, (∀ j u, (edC o)[j]? = some u → W.cell? (x.add (i * 4 + j)) = some u) ∧ EdW o := by
      intro i hi
      obtain ⟨cs', h1, h2⟩ := hx i (by omega)
      rw [cellsEd] at h1
      obtain ⟨_, hlen, hcell⟩ := World.cells?_some h1
      obtain ⟨o, rfl, ho⟩ := ed_of hlen h2
      refine ⟨o, fun j u hu => ?_, ho⟩
      have hj := (List.getElem?_eq_some_iff.1 hu).1
      have e := hcell j (by rw [hlen] at hj; exact hj)
      rw [add_add] at e
      rw [e]
      simpa using hu
    haveI : Inhabited Ed := ⟨⟨false, 0, 0, []⟩⟩
    obtain ⟨q, hq⟩ := choose_lt each
    have hget : ∀ i o, ((List.range len).map q)[i]? = some o → i < len ∧ q i = o := fun i o ho => by
      have hi := (List.getElem?_eq_some_iff.1 ho).1
      simp at hi
      rw [List.getElem?_map, List.getElem?_range hi] at ho
      exact ⟨hi, Option.some.inj ho⟩
    refine ⟨(List.range len).map q, ?_, by simp, fun e he => ?_, .inr ⟨m, by omega, hwm⟩⟩
    · refine see_in (by decide) (by omega) (by show (List.flatMap edC _).length = _; rw [flat_len edC 4 edC_len]; simp) (fun u hu => ?_) (fun j u hu => ?_)
      · obtain ⟨n, _, h⟩ := List.mem_flatMap.1 hu
        exact edC_one n u h
      · obtain ⟨o, ho, hu'⟩ := flat_inv edC 4 (by decide) edC_len _ j u hu
        obtain ⟨hi, rfl⟩ := hget _ _ ho
        have := (hq _ hi).1 _ _ hu'
        rw [Nat.div_add_mod'] at this
        exact this
    · obtain ⟨i, hi⟩ := List.mem_iff_getElem?.1 he
      obtain ⟨h1, rfl⟩ := hget _ _ hi
      exact (hq i h1).2
end Go.Proofs.Ytpjigcccjiidpaa.Ex
