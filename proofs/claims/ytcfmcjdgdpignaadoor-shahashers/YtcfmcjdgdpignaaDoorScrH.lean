import Derived.Test.YtcfmcjdgdpignaaDoorListA
import Derived.Deep.Slices
import Derived.Deep.Strs
import Derived.WalkKit
import Derived.ProofKit
import Derived.OpenShut
import Derived.SizedLaws
namespace Go.Proofs.YtcfmcjdgdpignaaDoor
open Go.ChangeShapes Go.WideShapes Go.ChangeAt Go.RowKit Go.Deep

theorem cells4op : Tryd.prog.cellsOf 44 = 4 := by kernel_rfl
theorem cells3i : Tryd.prog.cellsOf 3 = 1 := by kernel_rfl
theorem cells9s : Tryd.prog.cellsOf 9 = 1 := by kernel_rfl

/-- a script as it was handed in: three numbers and a text each -/
def IsOps (w : World) (a : Option Addr) (len : Nat) (K A F : Nat → Int) (S : Nat → ByteArray) : Prop :=
  ∀ i, i < len → ∃ b off, a = some ⟨b, off, none⟩ ∧ b < w.heap.size ∧ w.rangeAt b (off + i * 4) [.int .i64 (K i), .int .i64 (A i), .int .i64 (F i), .string (S i)]
theorem IsOps.below {w w' : World} {a : Option Addr} {len : Nat} {K A F : Nat → Int} {S : Nat → ByteArray} (h : IsOps w a len K A F S) (hb : Below w.heap.size w w') : IsOps w' a len K A F S := fun i hi => by
  obtain ⟨b, off, rfl, hbl, h0⟩ := h i hi
  exact ⟨b, off, rfl, by have := hb.size; omega, fun d v hv => (hb.cell (p := ⟨b, off + i * 4 + d, none⟩) hbl).trans (h0 d v hv)⟩

theorem weightsAll_mem {H : Type} {P : Program} {e : TypeId} : ∀ {l : List (DataW H)} {d : DataW H} {n : Nat}, d ∈ l → n ∈ d.weights P e → n ∈ DataW.weightsAll P e l
  | x :: r, d, n, hd, hn => by
    rw [DataW.weightsAll, List.mem_append]
    rcases List.mem_cons.1 hd with rfl | hd
    · exact Or.inl hn
    · exact Or.inr (weightsAll_mem hd hn)

theorem ops_of {H : Type} {enc : TypeId × Value → H} {W : World} {a : Option Addr} {len cap : Nat} {d : DataW H} {ps : List MemPlace} (h : DataW.Trod enc Tryd.prog W 0 (fun _ => true) true 35 (.slice a len cap) d ps) :
    ∃ K A F S, IsOps W a len K A F S ∧ len ≤ 9223372036854775807 ∧ ∀ i, i < len → (S i).size ∈ d.weights Tryd.prog 35 := by
  obtain ⟨fuel, hf⟩ := h
  rcases open_slice Tryd.underlying35 hf with ⟨hcs, _⟩ | ⟨x, len', cap', m, n, D, Pl, hcs, _, hl, hm, hmm, hx0, hx⟩
  · simp [Value.cells] at hcs
    obtain ⟨rfl, rfl, rfl⟩ := hcs
    exact ⟨fun _ => 0, fun _ => 0, fun _ => 0, fun _ => .empty, fun i hi => by omega, by omega, fun i hi => by omega⟩
  · simp [Value.cells] at hcs
    obtain ⟨rfl, rfl, rfl⟩ := hcs
    simp only [if_true] at hmm
    subst hmm
    simp only [Prod.mk.injEq] at hx0
    obtain ⟨rfl, _⟩ := hx0
    have each : ∀ i, i < len → ∃ q : Int × Int × Int × ByteArray, W.cell? (x.add (i * 4)) = some (.int .i64 q.1) ∧ W.cell? (x.add (i * 4 + 1)) = some (.int .i64 q.2.1) ∧ W.cell? (x.add (i * 4 + 2)) = some (.int .i64 q.2.2.1) ∧ W.cell? (x.add (i * 4 + 3)) = some (.string q.2.2.2) ∧ q.2.2.2.size ∈ (D i).weights Tryd.prog 44 := by
      intro i hi
      obtain ⟨cs', h1, h2⟩ := hx i (by omega)
      rw [cells4op] at h1
      obtain ⟨_, hlen, hcell⟩ := World.cells?_some h1
      obtain ⟨xs, k, hk, hxy, _, hxl, hfl⟩ := DataW.trod_struct Tryd.underlying44 h2
      match xs, hxl, cs', hlen with
      | [y0, y1, y2, y3], _, [v0, v1, v2, v3], _ =>
        have g0 := hfl 0 _ rfl
        have g1 := hfl 1 _ rfl
        have g2 := hfl 2 _ rfl
        have g3 := hfl 3 _ rfl
        simp [cells3i, cells9s] at g0 g1 g2 g3
        have e0 := hcell 0 (by omega)
        have e1 := hcell 1 (by omega)
        have e2 := hcell 2 (by omega)
        have e3 := hcell 3 (by omega)
        rw [add_add] at e0 e1 e2 e3
        obtain ⟨i0, a0, _⟩ := DataW.trod_int Tryd.underlying3 g0
        obtain ⟨i1, a1, _⟩ := DataW.trod_int Tryd.underlying3 g1
        obtain ⟨i2, a2, _⟩ := DataW.trod_int Tryd.underlying3 g2
        obtain ⟨s3, a3, b3, _⟩ := DataW.trod_string Tryd.underlying9 g3
        simp at a0 a1 a2 a3
        subst a0 a1 a2 a3
        refine ⟨(i0, i1, i2, s3), by simpa using e0, by simpa using e1, by simpa using e2, by simpa using e3, ?_⟩
        simp only [Prod.mk.injEq] at hxy
        rw [hxy.1]
        have hsz : s3.data.toList.length = s3.size := by rw [Array.length_toList]; rfl
        have hw : s3.data.toList.length ∈ DataW.weights (H := H) Tryd.prog 9 (.lit (.string s3.data.toList)) := by simp [DataW.weights]
        simp only [DataW.weights, Tryd.underlying44]
        refine DataW.weights_mem_each (j := 3) (t := 9) (d := .lit (.string s3.data.toList)) rfl ?_ _ (by rw [← hsz]; exact hw)
        simp only [List.map_cons, List.map_nil, b3]
        rfl
    obtain ⟨q, hq⟩ := choose_lt each
    refine ⟨fun i => (q i).1, fun i => (q i).2.1, fun i => (q i).2.2.1, fun i => (q i).2.2.2, fun i hi => ?_, by unfold maxLen at hm; omega, fun i hi => ?_⟩
    · obtain ⟨c0, c1, c2, c3, _⟩ := hq i hi
      obtain ⟨b, off, spot⟩ := x
      have hspot : spot = none := by
        have h0 := (hq 0 (by omega)).1
        simpa [Addr.add] using World.cell?_spot h0
      subst hspot
      rw [Addr.add_lit] at c0 c1 c2 c3
      refine ⟨b, off, rfl, block_lt_of_cell c0, fun d v hv => ?_⟩
      rcases d with _ | _ | _ | _ | d
      · simp at hv; subst hv; exact c0
      · simp at hv; subst hv; rw [Nat.add_assoc]; exact c1
      · simp at hv; subst hv; rw [Nat.add_assoc]; exact c2
      · simp at hv; subst hv; rw [Nat.add_assoc]; exact c3
      · simp at hv
    · simp only [DataW.weights, Tryd.underlying35]
      refine List.mem_cons_of_mem _ (List.mem_append_left _ (weightsAll_mem (d := D i) ?_ (hq i hi).2.2.2.2))
      exact List.mem_map.2 ⟨i, List.mem_range.2 hi, rfl⟩

/-- a text of a script that came in is within reach -/
theorem sized_ops {H : Type} {ts : List TypeId} {ds : List (DataW H)} (h : (DataW.weightsEach Tryd.prog ts ds).all (· ≤ reachBytes) = true) {j : Nat} {d : DataW H} {t : TypeId} {n : Nat} (ht : ts[j]? = some t) (hd : ds[j]? = some d) (hn : n ∈ d.weights Tryd.prog t) : n ≤ 140737488355328 := by
  have h1 := of_decide_eq_true (List.all_eq_true.1 h _ (DataW.weights_mem_each ht hd n hn))
  unfold reachBytes at h1
  omega

end Go.Proofs.YtcfmcjdgdpignaaDoor
