import Derived.Test.YtggfeppphhigdabDoorLawsB
import Derived.Test.YtggfeppphhigdabDoorRows
import Derived.Deep.Slices
import Derived.Deep.Strs
import Derived.WalkKit
import Derived.ProofKit
import Derived.OpenShut
namespace Go.Proofs.YtggfeppphhigdabDoor
open Go.ChangeShapes Go.WideShapes Go.ChangeAt Go.RowKit Go.Deep

theorem cells3op : Tryd.prog.cellsOf 37 = 3 := by kernel_rfl
theorem cells3i : Tryd.prog.cellsOf 3 = 1 := by kernel_rfl
theorem cells4b : Tryd.prog.cellsOf 4 = 1 := by kernel_rfl
theorem cells9s : Tryd.prog.cellsOf 9 = 1 := by kernel_rfl

/-- a script as it was handed in: two numbers and a text each -/
def IsOps (w : World) (a : Option Addr) (len : Nat) (A : Nat → Int) (B : Nat → Bool) (S : Nat → ByteArray) : Prop :=
  ∀ i, i < len → ∃ b off, a = some ⟨b, off, none⟩ ∧ b < w.heap.size ∧ w.cell? ⟨b, off + i * 3, none⟩ = some (.int .i64 (A i)) ∧ w.cell? ⟨b, off + i * 3 + 1, none⟩ = some (.bool (B i)) ∧ w.cell? ⟨b, off + i * 3 + 2, none⟩ = some (.string (S i))
theorem IsOps.below {w w' : World} {a : Option Addr} {len : Nat} {A : Nat → Int} {B : Nat → Bool} {S : Nat → ByteArray} (h : IsOps w a len A B S) (hb : Below w.heap.size w w') : IsOps w' a len A B S := fun i hi => by
  obtain ⟨b, off, rfl, hbl, h0, h1, h2⟩ := h i hi
  exact ⟨b, off, rfl, by have := hb.size; omega, (hb.cell (p := ⟨b, off + i * 3, none⟩) hbl).trans h0, (hb.cell (p := ⟨b, off + i * 3 + 1, none⟩) hbl).trans h1, (hb.cell (p := ⟨b, off + i * 3 + 2, none⟩) hbl).trans h2⟩

/-- how many bytes the first texts have -/
def sumS (S : Nat → ByteArray) : Nat → Nat
  | 0 => 0
  | n + 1 => sumS S n + (S n).size
theorem sumS_mono (S : Nat → ByteArray) {m n : Nat} (h : m ≤ n) : sumS S m ≤ sumS S n := by
  induction n with
  | zero => have : m = 0 := by omega
            subst this; exact Nat.le_refl _
  | succ n ih =>
    by_cases hm : m = n + 1
    · subst hm; exact Nat.le_refl _
    · have := ih (by omega)
      rw [sumS]
      omega
theorem bulkAll_append {H : Type} : ∀ (x y : List (DataW H)), Rows.uptoBulkAll (x ++ y) = Rows.uptoBulkAll x + Rows.uptoBulkAll y
  | [], y => by simp [Rows.uptoBulkAll]
  | d :: r, y => by rw [List.cons_append, Rows.uptoBulkAll, Rows.uptoBulkAll, bulkAll_append r y]; omega
theorem bulk_range {H : Type} (D : Nat → DataW H) (S : Nat → ByteArray) : ∀ n, (∀ i, i < n → (S i).size + 1 ≤ Rows.uptoBulk (D i)) → sumS S n + n ≤ Rows.uptoBulkAll ((List.range n).map D)
  | 0, _ => by simp [sumS]
  | n + 1, h => by
    have ih := bulk_range D S n (fun i hi => h i (by omega))
    have h1 := h n (by omega)
    rw [List.range_succ, List.map_append, bulkAll_append, sumS]
    simp only [List.map_cons, List.map_nil, Rows.uptoBulkAll]
    omega

theorem ops_of {H : Type} {enc : TypeId × Value → H} {W : World} {a : Option Addr} {len cap : Nat} {d : DataW H} {ps : List MemPlace} (h : DataW.Trod enc Tryd.prog W 0 (fun _ => true) true 29 (.slice a len cap) d ps) :
    ∃ A B S, IsOps W a len A B S ∧ len ≤ 9223372036854775807 ∧ sumS S len + len ≤ Rows.uptoBulk d := by
  obtain ⟨fuel, hf⟩ := h
  rcases open_slice Tryd.underlying29 hf with ⟨hcs, _⟩ | ⟨x, len', cap', m, n, D, Pl, hcs, _, hl, hm, hmm, hx0, hx⟩
  · simp [Value.cells] at hcs
    obtain ⟨rfl, rfl, rfl⟩ := hcs
    exact ⟨fun _ => 0, fun _ => false, fun _ => .empty, fun i hi => by omega, by omega, by simp [sumS]⟩
  · simp [Value.cells] at hcs
    obtain ⟨rfl, rfl, rfl⟩ := hcs
    simp only [if_true] at hmm
    subst hmm
    simp only [Prod.mk.injEq] at hx0
    obtain ⟨rfl, _⟩ := hx0
    have each : ∀ i, i < len → ∃ q : Int × Bool × ByteArray, W.cell? (x.add (i * 3)) = some (.int .i64 q.1) ∧ W.cell? (x.add (i * 3 + 1)) = some (.bool q.2.1) ∧ W.cell? (x.add (i * 3 + 2)) = some (.string q.2.2) ∧ q.2.2.size + 1 ≤ Rows.uptoBulk (D i) := by
      intro i hi
      obtain ⟨cs', h1, h2⟩ := hx i (by omega)
      rw [cells3op] at h1
      obtain ⟨_, hlen, hcell⟩ := World.cells?_some h1
      obtain ⟨xs, k, hk, hxy, _, hxl, hfl⟩ := DataW.trod_struct Tryd.underlying37 h2
      match xs, hxl, cs', hlen with
      | [y0, y1, y2], _, [v0, v1, v2], _ =>
        have g0 := hfl 0 _ rfl
        have g1 := hfl 1 _ rfl
        have g2 := hfl 2 _ rfl
        simp [cells3i, cells4b, cells9s] at g0 g1 g2
        have e0 := hcell 0 (by omega)
        have e1 := hcell 1 (by omega)
        have e2 := hcell 2 (by omega)
        rw [add_add] at e0 e1 e2
        obtain ⟨i0, a0, _⟩ := DataW.trod_int Tryd.underlying3 g0
        obtain ⟨i1, a1, _⟩ := DataW.trod_bool Tryd.underlying4 g1
        obtain ⟨s2, a2, b2, _⟩ := DataW.trod_string Tryd.underlying9 g2
        simp at a0 a1 a2
        subst a0 a1 a2
        refine ⟨(i0, i1, s2), by simpa using e0, by simpa using e1, by simpa using e2, ?_⟩
        simp only [Prod.mk.injEq] at hxy
        rw [hxy.1]
        simp only [List.map_cons, List.map_nil, Rows.uptoBulk, Rows.uptoBulkAll, b2]
        have : s2.data.toList.length = s2.size := by rw [Array.length_toList]; rfl
        omega
    obtain ⟨q, hq⟩ := choose_lt each
    refine ⟨fun i => (q i).1, fun i => (q i).2.1, fun i => (q i).2.2, fun i hi => ?_, by unfold maxLen at hm; omega, ?_⟩
    · obtain ⟨c0, c1, c2, _⟩ := hq i hi
      obtain ⟨b, off, spot⟩ := x
      have hspot : spot = none := by
        have h0 := (hq 0 (by omega)).1
        simpa [Addr.add] using World.cell?_spot h0
      subst hspot
      rw [Addr.add_lit] at c0 c1 c2
      exact ⟨b, off, rfl, block_lt_of_cell c0, c0, by rw [Nat.add_assoc]; exact c1, by rw [Nat.add_assoc]; exact c2⟩
    · have hb := bulk_range (H := H) D (fun i => (q i).2.2) len (fun i hi => (hq i hi).2.2.2)
      simp only [Rows.uptoBulk]
      refine Nat.le_trans hb ?_
      rw [Nat.add_assoc]
      exact Nat.le_add_right _ _

end Go.Proofs.YtggfeppphhigdabDoor
