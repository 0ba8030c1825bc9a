import Derived.Test.YtaejapdbghbgeaaSgH
import Derived.Test.YtaejapdbghbgeaaSgP
import Derived.Deep.Slices
namespace Go.Proofs.Ytaejapdbghbgeaa.Se
open Go.ChangeShapes Go.WideShapes Go.ChangeAt Go.RowKit Go.Deep

theorem wf_lo {n : Int} (h : (Lit.int .i64 n).wf = true) : -9223372036854775808 ≤ n := by
  simp [Lit.wf, IntKind.min, IntKind.max, IntKind.signed, IntKind.bits] at h
  omega
theorem wf_hi {n : Int} (h : (Lit.int .i64 n).wf = true) : n ≤ 9223372036854775807 := by
  simp [Lit.wf, IntKind.min, IntKind.max, IntKind.signed, IntKind.bits] at h
  omega
theorem cells3i : Try.prog.cellsOf 3 = 1 := by kernel_rfl
theorem cells4b : Try.prog.cellsOf 4 = 1 := by kernel_rfl
theorem bulk_app {H : Type} : ∀ (x y : List (DataW H)), Rows.uptoBulkAll (x ++ y) = Rows.uptoBulkAll x + Rows.uptoBulkAll y
  | [], y => by simp [Rows.uptoBulkAll]
  | d :: r, y => by rw [List.cons_append, Rows.uptoBulkAll, Rows.uptoBulkAll, bulk_app r y]; omega
theorem bulk_ones {H : Type} (D : Nat → DataW H) : ∀ n, (∀ i, i < n → 1 ≤ Rows.uptoBulk (D i)) → n ≤ Rows.uptoBulkAll ((List.range n).map D)
  | 0, _ => by omega
  | n + 1, h => by
    have ih := bulk_ones D n (fun i hi => h i (by omega))
    have h1 := h n (by omega)
    rw [List.range_succ, List.map_append, bulk_app]
    simp only [List.map_cons, List.map_nil, Rows.uptoBulkAll]
    omega
theorem cellsBox : Try.prog.cellsOf 44 = 4 := by kernel_rfl
set_option maxRecDepth 20000 in
theorem boxes_of {H : Type} {enc : TypeId × Value → H} {W : World} {a : Option Addr} {len cap : Nat} {d : DataW H} {ps : List MemPlace} (h : DataW.Trod enc Try.prog W 0 (fun _ => true) true 37 (.slice a len cap) d ps) (hb : Rows.uptoBulk d ≤ 1048576) :
    ∃ bs : List Box, bs.length = len ∧ len ≤ 1048576 ∧ (∀ b ∈ bs, wf64 b.kind ∧ wf64 b.seed ∧ b.name.size ≤ 1048576 ∧ b.text.size ≤ 1048576) ∧ See W (.slice a len cap) len (fc boxC bs) := by
  obtain ⟨fuel, hf⟩ := h
  rcases open_slice Try.underlying37 hf with ⟨hcs, _⟩ | ⟨x, len', cap', m, n, D, Pl, hcs, _, hl, hm, hmm, hx0, hx⟩
  · simp [Value.cells] at hcs
    obtain ⟨rfl, rfl, rfl⟩ := hcs
    exact ⟨[], rfl, by omega, (by intro b hb; cases hb), ⟨none, 0, 0, 0, rfl, fun h => absurd rfl h, fun _ => rfl, fun j u hu => by cases hu⟩⟩
  · simp [Value.cells] at hcs
    obtain ⟨rfl, rfl, rfl⟩ := hcs
    simp only [if_true] at hmm
    subst hmm
    simp only [Prod.mk.injEq] at hx0
    obtain ⟨rfl, _⟩ := hx0
    have each : ∀ i, i < len → ∃ q : Int × ByteArray × ByteArray × Int, (W.cell? (x.add (i * 4)) = some (.int .i64 (q.1)) ∧ W.cell? (x.add (i * 4 + 1)) = some (.string (q.2.1)) ∧ W.cell? (x.add (i * 4 + 2)) = some (.string (q.2.2.1)) ∧ W.cell? (x.add (i * 4 + 3)) = some (.int .i64 (q.2.2.2))) ∧ (wf64 (q.1) ∧ wf64 (q.2.2.2)) ∧ ((q.2.1).size ≤ Rows.uptoBulk (D i) ∧ (q.2.2.1).size ≤ Rows.uptoBulk (D i)) ∧ 1 ≤ Rows.uptoBulk (D i) := by
      intro i hi
      obtain ⟨cs', h1, h2⟩ := hx i (by omega)
      rw [cellsBox] at h1
      obtain ⟨_, hlen, hcell⟩ := World.cells?_some h1
      obtain ⟨xs, k, hk, hxy, _, hxl, hfl⟩ := DataW.trod_struct Try.underlying44 h2
      match xs, hxl, cs', hlen with
      | [y0, y1, y2, y3], _, [v0, v1, v2, v3], _ =>
        have g0 := hfl 0 _ rfl
        have g1 := hfl 1 _ rfl
        have g2 := hfl 2 _ rfl
        have g3 := hfl 3 _ rfl
        simp [cells3i, cells9] at g0 g1 g2 g3
        have e0 := hcell 0 (by omega)
        have e1 := hcell 1 (by omega)
        have e2 := hcell 2 (by omega)
        have e3 := hcell 3 (by omega)
        rw [add_add] at e0 e1 e2 e3
        obtain ⟨i0, a0, _, w0⟩ := DataW.trod_int Try.underlying3 g0
        obtain ⟨i1, a1, b1, _⟩ := DataW.trod_string Try.underlying9 g1
        obtain ⟨i2, a2, b2, _⟩ := DataW.trod_string Try.underlying9 g2
        obtain ⟨i3, a3, _, w3⟩ := DataW.trod_int Try.underlying3 g3
        simp at a0 a1 a2 a3
        subst a0 a1 a2 a3
        have hbd : i1.size ≤ Rows.uptoBulk (D i) ∧ i2.size ≤ Rows.uptoBulk (D i) ∧ 1 ≤ Rows.uptoBulk (D i) := by
          simp only [Prod.mk.injEq] at hxy
          rw [hxy.1]
          simp only [List.map_cons, List.map_nil, Rows.uptoBulk, Rows.uptoBulkAll, b1, b2]
          have z1 : i1.data.toList.length = i1.size := by rw [Array.length_toList]; rfl
          have z2 : i2.data.toList.length = i2.size := by rw [Array.length_toList]; rfl
          omega
        exact ⟨(i0, i1, i2, i3), ⟨by simpa using e0, by simpa using e1, by simpa using e2, by simpa using e3⟩, ⟨⟨Se.wf_lo w0, Se.wf_hi w0⟩, ⟨Se.wf_lo w3, Se.wf_hi w3⟩⟩, ⟨hbd.1, hbd.2.1⟩, hbd.2.2⟩
    obtain ⟨q, hq⟩ := choose_lt each
    have hbl := bulk_ones D len (fun i hi => (hq i hi).2.2.2)
    simp only [Rows.uptoBulk] at hb
    have hmem : ∀ i, i < len → Rows.uptoBulk (D i) ≤ 1048576 := fun i hi => by
      have := bulk_mem ((List.range len).map D) (D i) (List.mem_map.2 ⟨i, List.mem_range.2 hi, rfl⟩)
      omega
    obtain ⟨b, off, spot⟩ := x
    refine ⟨(List.range len).map fun i => ⟨(q i).1, (q i).2.1, (q i).2.2.1, (q i).2.2.2⟩, by simp, by omega, fun y hy => ?_, ?_⟩
    · obtain ⟨i, hi, rfl⟩ := List.mem_map.1 hy
      obtain ⟨_, h2, h3, _⟩ := hq i (List.mem_range.1 hi)
      have h4 := hmem i (List.mem_range.1 hi)
      exact ⟨h2.1, h2.2, Nat.le_trans h3.1 h4, Nat.le_trans h3.2 h4⟩
    · have hspot : len ≠ 0 → spot = none := fun h0 => by
        have h0 := (hq 0 (by omega)).1.1
        simpa [Addr.add] using World.cell?_spot h0
      by_cases h0 : len = 0
      · subst h0
        exact ⟨_, 0, 0, _, rfl, fun h => absurd rfl h, fun _ => rfl, fun j u hu => by cases hu⟩
      · obtain rfl := hspot h0
        have hlt : b < W.heap.size := block_lt_of_cell (by have := (hq 0 (by omega)).1.1; rw [Addr.add_lit] at this; exact this)
        refine ⟨_, b, off, _, rfl, fun _ => ⟨rfl, hlt⟩, fun h => absurd h h0, fun j u hu => ?_⟩
        have hj := (List.getElem?_eq_some_iff.1 hu).1
        rw [fc_length (f := boxC) (s := 4) (fun _ => rfl), List.length_map, List.length_range] at hj
        have hi : j / 4 < len := by omega
        have at_ := fc_at (f := boxC) (s := 4) (fun _ => rfl) ((List.range len).map fun i => (⟨(q i).1, (q i).2.1, (q i).2.2.1, (q i).2.2.2⟩ : Box)) (j / 4) _ (by rw [List.getElem?_map, List.getElem?_range hi]; rfl) (j % 4) (by omega)
        rw [show j / 4 * 4 + j % 4 = j by omega, hu] at at_
        obtain ⟨hc, _⟩ := hq (j / 4) hi
        simp only [Addr.add_lit] at hc
        have hjr : j = j / 4 * 4 + j % 4 := by omega
        generalize j / 4 = i at at_ hc hjr
        have hr : j % 4 = 0 ∨ j % 4 = 1 ∨ j % 4 = 2 ∨ j % 4 = 3 := by omega
        rcases hr with hr | hr | hr | hr
        · rw [hr] at at_ hjr
          have e := Option.some.inj at_
          rw [e, hjr, Nat.add_zero]
          exact hc.1
        · rw [hr] at at_ hjr
          have e := Option.some.inj at_
          rw [e, hjr]
          exact hc.2.1
        · rw [hr] at at_ hjr
          have e := Option.some.inj at_
          rw [e, hjr]
          exact hc.2.2.1
        · rw [hr] at at_ hjr
          have e := Option.some.inj at_
          rw [e, hjr]
          exact hc.2.2.2
theorem cellsForge : Try.prog.cellsOf 48 = 7 := by kernel_rfl
set_option maxRecDepth 20000 in
theorem forges_of {H : Type} {enc : TypeId × Value → H} {W : World} {a : Option Addr} {len cap : Nat} {d : DataW H} {ps : List MemPlace} (h : DataW.Trod enc Try.prog W 0 (fun _ => true) true 38 (.slice a len cap) d ps) (hb : Rows.uptoBulk d ≤ 1048576) :
    ∃ bs : List Forge, bs.length = len ∧ len ≤ 1048576 ∧ (∀ b ∈ bs, wf64 b.which ∧ wf64 b.kind ∧ wf64 b.at_ ∧ wf64 b.by_ ∧ b.name.size ≤ 1048576 ∧ b.more.size ≤ 1048576) ∧ See W (.slice a len cap) len (fc forgeC bs) := by
  obtain ⟨fuel, hf⟩ := h
  rcases open_slice Try.underlying38 hf with ⟨hcs, _⟩ | ⟨x, len', cap', m, n, D, Pl, hcs, _, hl, hm, hmm, hx0, hx⟩
  · simp [Value.cells] at hcs
    obtain ⟨rfl, rfl, rfl⟩ := hcs
    exact ⟨[], rfl, by omega, (by intro b hb; cases hb), ⟨none, 0, 0, 0, rfl, fun h => absurd rfl h, fun _ => rfl, fun j u hu => by cases hu⟩⟩
  · simp [Value.cells] at hcs
    obtain ⟨rfl, rfl, rfl⟩ := hcs
    simp only [if_true] at hmm
    subst hmm
    simp only [Prod.mk.injEq] at hx0
    obtain ⟨rfl, _⟩ := hx0
    have each : ∀ i, i < len → ∃ q : Int × Int × Int × Int × ByteArray × ByteArray × Bool, (W.cell? (x.add (i * 7)) = some (.int .i64 (q.1)) ∧ W.cell? (x.add (i * 7 + 1)) = some (.int .i64 (q.2.1)) ∧ W.cell? (x.add (i * 7 + 2)) = some (.int .i64 (q.2.2.1)) ∧ W.cell? (x.add (i * 7 + 3)) = some (.int .i64 (q.2.2.2.1)) ∧ W.cell? (x.add (i * 7 + 4)) = some (.string (q.2.2.2.2.1)) ∧ W.cell? (x.add (i * 7 + 5)) = some (.string (q.2.2.2.2.2.1)) ∧ W.cell? (x.add (i * 7 + 6)) = some (.bool (q.2.2.2.2.2.2))) ∧ (wf64 (q.1) ∧ wf64 (q.2.1) ∧ wf64 (q.2.2.1) ∧ wf64 (q.2.2.2.1)) ∧ ((q.2.2.2.2.1).size ≤ Rows.uptoBulk (D i) ∧ (q.2.2.2.2.2.1).size ≤ Rows.uptoBulk (D i)) ∧ 1 ≤ Rows.uptoBulk (D i) := by
      intro i hi
      obtain ⟨cs', h1, h2⟩ := hx i (by omega)
      rw [cellsForge] at h1
      obtain ⟨_, hlen, hcell⟩ := World.cells?_some h1
      obtain ⟨xs, k, hk, hxy, _, hxl, hfl⟩ := DataW.trod_struct Try.underlying48 h2
      match xs, hxl, cs', hlen with
      | [y0, y1, y2, y3, y4, y5, y6], _, [v0, v1, v2, v3, v4, v5, v6], _ =>
        have g0 := hfl 0 _ rfl
        have g1 := hfl 1 _ rfl
        have g2 := hfl 2 _ rfl
        have g3 := hfl 3 _ rfl
        have g4 := hfl 4 _ rfl
        have g5 := hfl 5 _ rfl
        have g6 := hfl 6 _ rfl
        simp [cells3i, cells4b, cells9] at g0 g1 g2 g3 g4 g5 g6
        have e0 := hcell 0 (by omega)
        have e1 := hcell 1 (by omega)
        have e2 := hcell 2 (by omega)
        have e3 := hcell 3 (by omega)
        have e4 := hcell 4 (by omega)
        have e5 := hcell 5 (by omega)
        have e6 := hcell 6 (by omega)
        rw [add_add] at e0 e1 e2 e3 e4 e5 e6
        obtain ⟨i0, a0, _, w0⟩ := DataW.trod_int Try.underlying3 g0
        obtain ⟨i1, a1, _, w1⟩ := DataW.trod_int Try.underlying3 g1
        obtain ⟨i2, a2, _, w2⟩ := DataW.trod_int Try.underlying3 g2
        obtain ⟨i3, a3, _, w3⟩ := DataW.trod_int Try.underlying3 g3
        obtain ⟨i4, a4, b4, _⟩ := DataW.trod_string Try.underlying9 g4
        obtain ⟨i5, a5, b5, _⟩ := DataW.trod_string Try.underlying9 g5
        obtain ⟨i6, a6, _⟩ := DataW.trod_bool Try.underlying4 g6
        simp at a0 a1 a2 a3 a4 a5 a6
        subst a0 a1 a2 a3 a4 a5 a6
        have hbd : i4.size ≤ Rows.uptoBulk (D i) ∧ i5.size ≤ Rows.uptoBulk (D i) ∧ 1 ≤ Rows.uptoBulk (D i) := by
          simp only [Prod.mk.injEq] at hxy
          rw [hxy.1]
          simp only [List.map_cons, List.map_nil, Rows.uptoBulk, Rows.uptoBulkAll, b4, b5]
          have z4 : i4.data.toList.length = i4.size := by rw [Array.length_toList]; rfl
          have z5 : i5.data.toList.length = i5.size := by rw [Array.length_toList]; rfl
          omega
        exact ⟨(i0, i1, i2, i3, i4, i5, i6), ⟨by simpa using e0, by simpa using e1, by simpa using e2, by simpa using e3, by simpa using e4, by simpa using e5, by simpa using e6⟩, ⟨⟨Se.wf_lo w0, Se.wf_hi w0⟩, ⟨Se.wf_lo w1, Se.wf_hi w1⟩, ⟨Se.wf_lo w2, Se.wf_hi w2⟩, ⟨Se.wf_lo w3, Se.wf_hi w3⟩⟩, ⟨hbd.1, hbd.2.1⟩, hbd.2.2⟩
    obtain ⟨q, hq⟩ := choose_lt each
    have hbl := bulk_ones D len (fun i hi => (hq i hi).2.2.2)
    simp only [Rows.uptoBulk] at hb
    have hmem : ∀ i, i < len → Rows.uptoBulk (D i) ≤ 1048576 := fun i hi => by
      have := bulk_mem ((List.range len).map D) (D i) (List.mem_map.2 ⟨i, List.mem_range.2 hi, rfl⟩)
      omega
    obtain ⟨b, off, spot⟩ := x
    refine ⟨(List.range len).map fun i => ⟨(q i).1, (q i).2.1, (q i).2.2.1, (q i).2.2.2.1, (q i).2.2.2.2.1, (q i).2.2.2.2.2.1, (q i).2.2.2.2.2.2⟩, by simp, by omega, fun y hy => ?_, ?_⟩
    · obtain ⟨i, hi, rfl⟩ := List.mem_map.1 hy
      obtain ⟨_, h2, h3, _⟩ := hq i (List.mem_range.1 hi)
      have h4 := hmem i (List.mem_range.1 hi)
      exact ⟨h2.1, h2.2.1, h2.2.2.1, h2.2.2.2, Nat.le_trans h3.1 h4, Nat.le_trans h3.2 h4⟩
    · have hspot : len ≠ 0 → spot = none := fun h0 => by
        have h0 := (hq 0 (by omega)).1.1
        simpa [Addr.add] using World.cell?_spot h0
      by_cases h0 : len = 0
      · subst h0
        exact ⟨_, 0, 0, _, rfl, fun h => absurd rfl h, fun _ => rfl, fun j u hu => by cases hu⟩
      · obtain rfl := hspot h0
        have hlt : b < W.heap.size := block_lt_of_cell (by have := (hq 0 (by omega)).1.1; rw [Addr.add_lit] at this; exact this)
        refine ⟨_, b, off, _, rfl, fun _ => ⟨rfl, hlt⟩, fun h => absurd h h0, fun j u hu => ?_⟩
        have hj := (List.getElem?_eq_some_iff.1 hu).1
        rw [fc_length (f := forgeC) (s := 7) (fun _ => rfl), List.length_map, List.length_range] at hj
        have hi : j / 7 < len := by omega
        have at_ := fc_at (f := forgeC) (s := 7) (fun _ => rfl) ((List.range len).map fun i => (⟨(q i).1, (q i).2.1, (q i).2.2.1, (q i).2.2.2.1, (q i).2.2.2.2.1, (q i).2.2.2.2.2.1, (q i).2.2.2.2.2.2⟩ : Forge)) (j / 7) _ (by rw [List.getElem?_map, List.getElem?_range hi]; rfl) (j % 7) (by omega)
        rw [show j / 7 * 7 + j % 7 = j by omega, hu] at at_
        obtain ⟨hc, _⟩ := hq (j / 7) hi
        simp only [Addr.add_lit] at hc
        have hjr : j = j / 7 * 7 + j % 7 := by omega
        generalize j / 7 = i at at_ hc hjr
        have hr : j % 7 = 0 ∨ j % 7 = 1 ∨ j % 7 = 2 ∨ j % 7 = 3 ∨ j % 7 = 4 ∨ j % 7 = 5 ∨ j % 7 = 6 := by omega
        rcases hr with hr | hr | hr | hr | hr | hr | hr
        · rw [hr] at at_ hjr
          have e := Option.some.inj at_
          rw [e, hjr, Nat.add_zero]
          exact hc.1
        · rw [hr] at at_ hjr
          have e := Option.some.inj at_
          rw [e, hjr]
          exact hc.2.1
        · rw [hr] at at_ hjr
          have e := Option.some.inj at_
          rw [e, hjr]
          exact hc.2.2.1
        · rw [hr] at at_ hjr
          have e := Option.some.inj at_
          rw [e, hjr]
          exact hc.2.2.2.1
        · rw [hr] at at_ hjr
          have e := Option.some.inj at_
          rw [e, hjr]
          exact hc.2.2.2.2.1
        · rw [hr] at at_ hjr
          have e := Option.some.inj at_
          rw [e, hjr]
          exact hc.2.2.2.2.2.1
        · rw [hr] at at_ hjr
          have e := Option.some.inj at_
          rw [e, hjr]
          exact hc.2.2.2.2.2.2
end Go.Proofs.Ytaejapdbghbgeaa.Se
