import Derived.Test.YtengclnahppmhaaGreatDoorSrF
import Derived.Deep.Strs
import Derived.WalkKit
import Derived.ProofKit
import Derived.OpenShut
import Derived.ShutString
import Derived.JoinedCond
import Derived.Carry
import Derived.Deep.Slices
namespace Go.Proofs.YtengclnahppmhaaGreatDoor.Sr
open Go.ChangeShapes Go.WideShapes Go.ChangeAt Go.RowKit Go.Deep

theorem cells9 : Tryz.prog.cellsOf 9 = 1 := by kernel_rfl
def wf64 (x : Int) : Prop := -9223372036854775808 ≤ x ∧ x ≤ 9223372036854775807
def stpC (o : Stp) : List Value := [.int .i64 o.call, .int .i64 o.n, .string o.name, .string o.text, .string o.coins, .int .i64 o.use, .int .i64 o.at_, .int .i64 o.by_]
/-- cells of structs in a row -/
def fc {α : Type} (f : α → List Value) (L : List α) : List Value := L.flatMap f
theorem fc_length {α : Type} {f : α → List Value} {s : Nat} (hf : ∀ x, (f x).length = s) : ∀ L : List α, (fc f L).length = L.length * s
  | [] => by simp [fc]
  | x :: L => by
    have := fc_length hf L
    unfold fc at this ⊢
    rw [List.flatMap_cons, List.length_append, hf, this, List.length_cons, Nat.add_mul]
    omega
theorem fc_at {α : Type} {f : α → List Value} {s : Nat} (hf : ∀ x, (f x).length = s) : ∀ (L : List α) (i : Nat) (x : α), L[i]? = some x → ∀ j, j < s → (fc f L)[i * s + j]? = (f x)[j]?
  | [], i, x, h, _, _ => by cases h
  | y :: L, 0, x, h, j, hj => by
    obtain rfl : y = x := Option.some.inj h
    unfold fc
    rw [List.flatMap_cons, Nat.zero_mul, Nat.zero_add, List.getElem?_append_left (by rw [hf]; exact hj)]
  | y :: L, i + 1, x, h, j, hj => by
    have := fc_at hf L i x h j hj
    unfold fc at this ⊢
    rw [List.flatMap_cons, List.getElem?_append_right (by rw [hf, Nat.add_mul]; omega), hf, ← this]
    congr 1
    rw [Nat.add_mul]
    omega
/-- cells that can be read -/
structure See (w : World) (v : Value) (n : Nat) (xs : List Value) : Prop where
  ex : ∃ a b off cap, v = .slice a n cap ∧ (n ≠ 0 → a = some ⟨b, off, none⟩ ∧ b < w.heap.size) ∧ (n = 0 → xs = []) ∧ ∀ j u, xs[j]? = some u → w.cell? ⟨b, off + j, none⟩ = some u
theorem bulk_mem {H : Type} : ∀ (ds : List (DataW H)) (d : DataW H), d ∈ ds → Rows.uptoBulk d ≤ Rows.uptoBulkAll ds
  | [], _, h => by cases h
  | x :: r, d, h => by
    simp only [Rows.uptoBulkAll]
    rcases List.mem_cons.1 h with rfl | h
    · omega
    · have := bulk_mem r d h; omega
theorem wf_lo {n : Int} (h : (Lit.int .i64 n).wf = true) : -9223372036854775808 ≤ n := by
  simp [Lit.wf, IntKind.min, IntKind.max, IntKind.signed, IntKind.bits] at h
  omega
theorem wf_hi {n : Int} (h : (Lit.int .i64 n).wf = true) : n ≤ 9223372036854775807 := by
  simp [Lit.wf, IntKind.min, IntKind.max, IntKind.signed, IntKind.bits] at h
  omega
theorem cells3i : Tryz.prog.cellsOf 3 = 1 := by kernel_rfl
theorem cells4b : Tryz.prog.cellsOf 4 = 1 := by kernel_rfl
theorem bulk_app {H : Type} : ∀ (x y : List (DataW H)), Rows.uptoBulkAll (x ++ y) = Rows.uptoBulkAll x + Rows.uptoBulkAll y
  | [], y => by simp [Rows.uptoBulkAll]
  | d :: r, y => by rw [List.cons_append, Rows.uptoBulkAll, Rows.uptoBulkAll, bulk_app r y]; omega
theorem bulk_ones {H : Type} (D : Nat → DataW H) : ∀ n, (∀ i, i < n → 1 ≤ Rows.uptoBulk (D i)) → n ≤ Rows.uptoBulkAll ((List.range n).map D)
  | 0, _ => by omega
  | n + 1, h => by
    have ih := bulk_ones D n (fun i hi => h i (by omega))
    have h1 := h n (by omega)
    rw [List.range_succ, List.map_append, bulk_app]
    simp only [List.map_cons, List.map_nil, Rows.uptoBulkAll]
    omega
theorem cellsStep : Tryz.prog.cellsOf 64 = 8 := by kernel_rfl
set_option maxRecDepth 20000 in
theorem steps_of {H : Type} {enc : TypeId × Value → H} {W : World} {a : Option Addr} {len cap : Nat} {d : DataW H} {ps : List MemPlace} (h : DataW.Trod enc Tryz.prog W 0 (fun _ => true) true 23 (.slice a len cap) d ps) (hb : Rows.uptoBulk d ≤ 1048576) :
    ∃ bs : List Stp, bs.length = len ∧ len ≤ 1048576 ∧ (∀ b ∈ bs, wf64 b.call ∧ wf64 b.n ∧ wf64 b.use ∧ wf64 b.at_ ∧ wf64 b.by_ ∧ b.name.size ≤ 1048576 ∧ b.text.size ≤ 1048576 ∧ b.coins.size ≤ 1048576) ∧ See W (.slice a len cap) len (fc stpC bs) := by
  obtain ⟨fuel, hf⟩ := h
  rcases open_slice Tryz.underlying23 hf with ⟨hcs, _⟩ | ⟨x, len', cap', m, n, D, Pl, hcs, _, hl, hm, hmm, hx0, hx⟩
  · simp [Value.cells] at hcs
    obtain ⟨rfl, rfl, rfl⟩ := hcs
    exact ⟨[], rfl, by omega, (by intro b hb; cases hb), ⟨none, 0, 0, 0, rfl, fun h => absurd rfl h, fun _ => rfl, fun j u hu => by cases hu⟩⟩
  · simp [Value.cells] at hcs
    obtain ⟨rfl, rfl, rfl⟩ := hcs
    simp only [if_true] at hmm
    subst hmm
    simp only [Prod.mk.injEq] at hx0
    obtain ⟨rfl, _⟩ := hx0
    have each : ∀ i, i < len → ∃ q : Int × Int × ByteArray × ByteArray × ByteArray × Int × Int × Int, (W.cell? (x.add (i * 8)) = some (.int .i64 (q.1)) ∧ W.cell? (x.add (i * 8 + 1)) = some (.int .i64 (q.2.1)) ∧ W.cell? (x.add (i * 8 + 2)) = some (.string (q.2.2.1)) ∧ W.cell? (x.add (i * 8 + 3)) = some (.string (q.2.2.2.1)) ∧ W.cell? (x.add (i * 8 + 4)) = some (.string (q.2.2.2.2.1)) ∧ W.cell? (x.add (i * 8 + 5)) = some (.int .i64 (q.2.2.2.2.2.1)) ∧ W.cell? (x.add (i * 8 + 6)) = some (.int .i64 (q.2.2.2.2.2.2.1)) ∧ W.cell? (x.add (i * 8 + 7)) = some (.int .i64 (q.2.2.2.2.2.2.2))) ∧ (wf64 (q.1) ∧ wf64 (q.2.1) ∧ wf64 (q.2.2.2.2.2.1) ∧ wf64 (q.2.2.2.2.2.2.1) ∧ wf64 (q.2.2.2.2.2.2.2)) ∧ ((q.2.2.1).size ≤ Rows.uptoBulk (D i) ∧ (q.2.2.2.1).size ≤ Rows.uptoBulk (D i) ∧ (q.2.2.2.2.1).size ≤ Rows.uptoBulk (D i)) ∧ 1 ≤ Rows.uptoBulk (D i) := by
      intro i hi
      obtain ⟨cs', h1, h2⟩ := hx i (by omega)
      rw [cellsStep] at h1
      obtain ⟨_, hlen, hcell⟩ := World.cells?_some h1
      obtain ⟨xs, k, hk, hxy, _, hxl, hfl⟩ := DataW.trod_struct Tryz.underlying64 h2
      match xs, hxl, cs', hlen with
      | [y0, y1, y2, y3, y4, y5, y6, y7], _, [v0, v1, v2, v3, v4, v5, v6, v7], _ =>
        have g0 := hfl 0 _ rfl
        have g1 := hfl 1 _ rfl
        have g2 := hfl 2 _ rfl
        have g3 := hfl 3 _ rfl
        have g4 := hfl 4 _ rfl
        have g5 := hfl 5 _ rfl
        have g6 := hfl 6 _ rfl
        have g7 := hfl 7 _ rfl
        simp [cells3i, cells9] at g0 g1 g2 g3 g4 g5 g6 g7
        have e0 := hcell 0 (by omega)
        have e1 := hcell 1 (by omega)
        have e2 := hcell 2 (by omega)
        have e3 := hcell 3 (by omega)
        have e4 := hcell 4 (by omega)
        have e5 := hcell 5 (by omega)
        have e6 := hcell 6 (by omega)
        have e7 := hcell 7 (by omega)
        rw [add_add] at e0 e1 e2 e3 e4 e5 e6 e7
        obtain ⟨i0, a0, _, w0⟩ := DataW.trod_int Tryz.underlying3 g0
        obtain ⟨i1, a1, _, w1⟩ := DataW.trod_int Tryz.underlying3 g1
        obtain ⟨i2, a2, b2, _⟩ := DataW.trod_string Tryz.underlying9 g2
        obtain ⟨i3, a3, b3, _⟩ := DataW.trod_string Tryz.underlying9 g3
        obtain ⟨i4, a4, b4, _⟩ := DataW.trod_string Tryz.underlying9 g4
        obtain ⟨i5, a5, _, w5⟩ := DataW.trod_int Tryz.underlying3 g5
        obtain ⟨i6, a6, _, w6⟩ := DataW.trod_int Tryz.underlying3 g6
        obtain ⟨i7, a7, _, w7⟩ := DataW.trod_int Tryz.underlying3 g7
        simp at a0 a1 a2 a3 a4 a5 a6 a7
        subst a0 a1 a2 a3 a4 a5 a6 a7
        have hbd : i2.size ≤ Rows.uptoBulk (D i) ∧ i3.size ≤ Rows.uptoBulk (D i) ∧ i4.size ≤ Rows.uptoBulk (D i) ∧ 1 ≤ Rows.uptoBulk (D i) := by
          simp only [Prod.mk.injEq] at hxy
          rw [hxy.1]
          simp only [List.map_cons, List.map_nil, Rows.uptoBulk, Rows.uptoBulkAll, b2, b3, b4]
          have z2 : i2.data.toList.length = i2.size := by rw [Array.length_toList]; rfl
          have z3 : i3.data.toList.length = i3.size := by rw [Array.length_toList]; rfl
          have z4 : i4.data.toList.length = i4.size := by rw [Array.length_toList]; rfl
          omega
        exact ⟨(i0, i1, i2, i3, i4, i5, i6, i7), ⟨by simpa using e0, by simpa using e1, by simpa using e2, by simpa using e3, by simpa using e4, by simpa using e5, by simpa using e6, by simpa using e7⟩, ⟨⟨Sr.wf_lo w0, Sr.wf_hi w0⟩, ⟨Sr.wf_lo w1, Sr.wf_hi w1⟩, ⟨Sr.wf_lo w5, Sr.wf_hi w5⟩, ⟨Sr.wf_lo w6, Sr.wf_hi w6⟩, ⟨Sr.wf_lo w7, Sr.wf_hi w7⟩⟩, ⟨hbd.1, hbd.2.1, hbd.2.2.1⟩, hbd.2.2.2⟩
    obtain ⟨q, hq⟩ := choose_lt each
    have hbl := bulk_ones D len (fun i hi => (hq i hi).2.2.2)
    simp only [Rows.uptoBulk] at hb
    have hmem : ∀ i, i < len → Rows.uptoBulk (D i) ≤ 1048576 := fun i hi => by
      have := bulk_mem ((List.range len).map D) (D i) (List.mem_map.2 ⟨i, List.mem_range.2 hi, rfl⟩)
      omega
    obtain ⟨b, off, spot⟩ := x
    refine ⟨(List.range len).map fun i => ⟨(q i).1, (q i).2.1, (q i).2.2.1, (q i).2.2.2.1, (q i).2.2.2.2.1, (q i).2.2.2.2.2.1, (q i).2.2.2.2.2.2.1, (q i).2.2.2.2.2.2.2⟩, by simp, by omega, fun y hy => ?_, ?_⟩
    · obtain ⟨i, hi, rfl⟩ := List.mem_map.1 hy
      obtain ⟨_, h2, h3, _⟩ := hq i (List.mem_range.1 hi)
      have h4 := hmem i (List.mem_range.1 hi)
      exact ⟨h2.1, h2.2.1, h2.2.2.1, h2.2.2.2.1, h2.2.2.2.2, Nat.le_trans h3.1 h4, Nat.le_trans h3.2.1 h4, Nat.le_trans h3.2.2 h4⟩
    · have hspot : len ≠ 0 → spot = none := fun h0 => by
        have h0 := (hq 0 (by omega)).1.1
        simpa [Addr.add] using World.cell?_spot h0
      by_cases h0 : len = 0
      · subst h0
        exact ⟨_, 0, 0, _, rfl, fun h => absurd rfl h, fun _ => rfl, fun j u hu => by cases hu⟩
      · obtain rfl := hspot h0
        have hlt : b < W.heap.size := block_lt_of_cell (by have := (hq 0 (by omega)).1.1; rw [Addr.add_lit] at this; exact this)
        refine ⟨_, b, off, _, rfl, fun _ => ⟨rfl, hlt⟩, fun h => absurd h h0, fun j u hu => ?_⟩
        have hj := (List.getElem?_eq_some_iff.1 hu).1
        rw [fc_length (f := stpC) (s := 8) (fun _ => rfl), List.length_map, List.length_range] at hj
        have hi : j / 8 < len := by omega
        have at_ := fc_at (f := stpC) (s := 8) (fun _ => rfl) ((List.range len).map fun i => (⟨(q i).1, (q i).2.1, (q i).2.2.1, (q i).2.2.2.1, (q i).2.2.2.2.1, (q i).2.2.2.2.2.1, (q i).2.2.2.2.2.2.1, (q i).2.2.2.2.2.2.2⟩ : Stp)) (j / 8) _ (by rw [List.getElem?_map, List.getElem?_range hi]; rfl) (j % 8) (by omega)
        rw [show j / 8 * 8 + j % 8 = j by omega, hu] at at_
        obtain ⟨hc, _⟩ := hq (j / 8) hi
        simp only [Addr.add_lit] at hc
        have hjr : j = j / 8 * 8 + j % 8 := by omega
        generalize j / 8 = i at at_ hc hjr
        have hr : j % 8 = 0 ∨ j % 8 = 1 ∨ j % 8 = 2 ∨ j % 8 = 3 ∨ j % 8 = 4 ∨ j % 8 = 5 ∨ j % 8 = 6 ∨ j % 8 = 7 := by omega
        rcases hr with hr | hr | hr | hr | hr | hr | hr | hr
        · rw [hr] at at_ hjr
          have e := Option.some.inj at_
          rw [e, hjr, Nat.add_zero]
          exact hc.1
        · rw [hr] at at_ hjr
          have e := Option.some.inj at_
          rw [e, hjr]
          exact hc.2.1
        · rw [hr] at at_ hjr
          have e := Option.some.inj at_
          rw [e, hjr]
          exact hc.2.2.1
        · rw [hr] at at_ hjr
          have e := Option.some.inj at_
          rw [e, hjr]
          exact hc.2.2.2.1
        · rw [hr] at at_ hjr
          have e := Option.some.inj at_
          rw [e, hjr]
          exact hc.2.2.2.2.1
        · rw [hr] at at_ hjr
          have e := Option.some.inj at_
          rw [e, hjr]
          exact hc.2.2.2.2.2.1
        · rw [hr] at at_ hjr
          have e := Option.some.inj at_
          rw [e, hjr]
          exact hc.2.2.2.2.2.2.1
        · rw [hr] at at_ hjr
          have e := Option.some.inj at_
          rw [e, hjr]
          exact hc.2.2.2.2.2.2.2

theorem seeO_of {W : World} {a : Option Addr} {len cap : Nat} {os : List Stp} (hl : os.length = len) (h : See W (.slice a len cap) len (fc stpC os)) : SeeO W a os := ⟨fun k o ho => by
  have hk := (List.getElem?_eq_some_iff.1 ho).1
  obtain ⟨a', bb, off, cap', hv, h2, _, h3⟩ := h.ex
  injection hv with hv1 _ hv2
  obtain ⟨e1, e2⟩ := h2 (by omega)
  refine ⟨bb, off, hv1.trans e1, e2, fun j hj => ?_⟩
  have at_ := fc_at (f := stpC) (s := 8) (fun _ => rfl) os k o ho j hj
  have e3 : (stpC o)[j]? = (stpA o)[j]? := by
    unfold stpC stpA
    rw [List.getElem?_toArray]
  obtain ⟨u, hu⟩ : ∃ u, (stpC o)[j]? = some u := ⟨_, List.getElem?_eq_getElem (by exact hj)⟩
  rw [← e3, hu]
  exact h3 _ _ (by rw [at_, hu])⟩
end Go.Proofs.YtengclnahppmhaaGreatDoor.Sr
