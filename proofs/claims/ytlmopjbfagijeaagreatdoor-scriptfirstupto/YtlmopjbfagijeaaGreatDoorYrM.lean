import Derived.WalkKit
import Derived.ProofKit
import Derived.OpenShut
import Derived.Test.YtlmopjbfagijeaaGreatDoorYcM
import Derived.Deep.Slices
import Derived.Deep.Strs
import Derived.Test.YtlmopjbfagijeaaGreatDoorYfM
import Derived.Test.YtlmopjbfagijeaaGreatDoorYnM
namespace Go.Proofs.YtlmopjbfagijeaaGreatDoor
open Go.ChangeShapes Go.WideShapes Go.ChangeAt Go.RowKit

theorem wf_lo {n : Int} (h : (Lit.int .i64 n).wf = true) : -9223372036854775808 ≤ n := by
  simp [Lit.wf, IntKind.min, IntKind.max, IntKind.signed, IntKind.bits] at h
  omega
theorem wf_hi {n : Int} (h : (Lit.int .i64 n).wf = true) : n ≤ 9223372036854775807 := by
  simp [Lit.wf, IntKind.min, IntKind.max, IntKind.signed, IntKind.bits] at h
  omega

end Go.Proofs.YtlmopjbfagijeaaGreatDoor

namespace Go.Proofs.YtlmopjbfagijeaaGreatDoor.Sc
open Go.ChangeShapes Go.WideShapes Go.ChangeAt Go.RowKit Go.Deep

theorem cells9 : Tryz.prog.cellsOf 9 = 1 := by kernel_rfl
theorem cells3 : Tryz.prog.cellsOf 3 = 1 := by kernel_rfl
theorem cellsOpS : Tryz.prog.cellsOf 54 = 6 := by kernel_rfl
theorem i64_of {n : Int} (h : (Lit.int .i64 n).wf = true) : I64 n := ⟨wf_lo h, wf_hi h⟩
theorem bulk_in {H : Type} (d : DataW H) : ∀ l : List (DataW H), d ∈ l → Rows.uptoBulk d ≤ Rows.uptoBulkAll l
  | [], h => by cases h
  | x :: r, h => by
    simp only [Rows.uptoBulkAll]
    rcases List.mem_cons.1 h with rfl | h
    · omega
    · have := bulk_in d r h
      omega
theorem bulk_len {H : Type} (f : Nat → DataW H) (h : ∀ i, 1 ≤ Rows.uptoBulk (f i)) : ∀ l : List Nat, l.length ≤ Rows.uptoBulkAll (l.map f)
  | [] => by simp
  | a :: r => by
    have h1 := bulk_len f h r
    have h2 := h a
    simp only [List.map_cons, Rows.uptoBulkAll, List.length_cons]
    omega
theorem bulk_pos {H : Type} (d : DataW H) : 1 ≤ Rows.uptoBulk d := by
  cases d with
  | lit l => cases l <;> simp [Rows.uptoBulk]
  | _ => simp [Rows.uptoBulk]
set_option maxRecDepth 20000 in
/-- an operation as it was handed in -/
theorem op_of {H : Type} {enc : TypeId × Value → H} {W : World} {cs : List Value} {y : DataW H × List MemPlace} {fuel : Nat} (hl : cs.length = 6) (h : DataW.trod enc Tryz.prog W 0 (fun _ => true) true fuel 54 cs = some y) (hb : Rows.uptoBulk y.1 ≤ 1048576) :
    ∃ o : OpR, o.Ok ∧ cs = o.cells.toList := by
  obtain ⟨xs, k, hk, hxy, _, hxl, hfl⟩ := DataW.trod_struct Tryz.underlying54 h
  match xs, hxl, cs, hl with
  | [y0, y1, y2, y3, y4, y5], _, [v0, v1, v2, v3, v4, v5], _ =>
    have g0 := hfl 0 _ rfl
    have g1 := hfl 1 _ rfl
    have g2 := hfl 2 _ rfl
    have g3 := hfl 3 _ rfl
    have g4 := hfl 4 _ rfl
    have g5 := hfl 5 _ rfl
    simp [cells3, cells9] at g0 g1 g2 g3 g4 g5
    obtain ⟨i0, a0, b0, w0⟩ := DataW.trod_int Tryz.underlying3 g0
    obtain ⟨i1, a1, b1, _⟩ := DataW.trod_string Tryz.underlying9 g1
    obtain ⟨i2, a2, b2, _⟩ := DataW.trod_string Tryz.underlying9 g2
    obtain ⟨i3, a3, b3, w3⟩ := DataW.trod_int Tryz.underlying3 g3
    obtain ⟨i4, a4, b4, w4⟩ := DataW.trod_int Tryz.underlying3 g4
    obtain ⟨i5, a5, b5, _⟩ := DataW.trod_string Tryz.underlying9 g5
    have hd : y.1 = .agg [y0.1, y1.1, y2.1, y3.1, y4.1, y5.1] := by rw [hxy]; rfl
    rw [hd] at hb
    simp only [Rows.uptoBulk, Rows.uptoBulkAll] at hb
    have e1 : i1.data.toList.length = i1.size := by rw [Array.length_toList]; rfl
    have e2 : i2.data.toList.length = i2.size := by rw [Array.length_toList]; rfl
    have e5 : i5.data.toList.length = i5.size := by rw [Array.length_toList]; rfl
    have hb1 : Rows.uptoBulk y1.1 = i1.data.toList.length + 1 := by rw [b1]; simp only [Rows.uptoBulk]
    have hb2 : Rows.uptoBulk y2.1 = i2.data.toList.length + 1 := by rw [b2]; simp only [Rows.uptoBulk]
    have hb5 : Rows.uptoBulk y5.1 = i5.data.toList.length + 1 := by rw [b5]; simp only [Rows.uptoBulk]
    simp only [List.cons.injEq, and_true] at a0 a1 a2 a3 a4 a5
    subst a0 a1 a2 a3 a4 a5
    exact ⟨⟨i0, i1, i2, i3, i4, i5⟩, ⟨i64_of w0, i64_of w3, i64_of w4, by show i1.size ≤ _; omega, by show i2.size ≤ _; omega, by show i5.size ≤ _; omega⟩, rfl⟩
set_option maxRecDepth 20000 in
/-- operations as they were handed in -/
theorem ops_of {H : Type} {enc : TypeId × Value → H} {W : World} {a : Option Addr} {len cap : Nat} {d : DataW H} {ps : List MemPlace} (h : DataW.Trod enc Tryz.prog W 0 (fun _ => true) true 32 (.slice a len cap) d ps) (hb : Rows.uptoBulk d ≤ 1048576) :
    ∃ L : List OpR, L.length = len ∧ (∀ o ∈ L, o.Ok) ∧ L.length ≤ 1048576 ∧ SeeO W a L := by
  obtain ⟨fuel, hf⟩ := h
  rcases open_slice Tryz.underlying32 hf with ⟨hcs, _⟩ | ⟨z, len', cap', m, n, D, Pl, hcs, _, hl, hm, hmm, hx0, hx⟩
  · simp [Value.cells] at hcs
    obtain ⟨rfl, rfl, rfl⟩ := hcs
    exact ⟨[], rfl, fun o ho => (by cases ho), by simp, fun e => absurd rfl e⟩
  · simp [Value.cells] at hcs
    obtain ⟨rfl, rfl, rfl⟩ := hcs
    simp only [if_true] at hmm
    subst hmm
    have hy1 : d = .slice ((List.range len).map D) ((List.range (m - len)).map fun j => D (len + j)) := by
      simp only [Prod.mk.injEq] at hx0
      exact hx0.1
    rw [hy1] at hb
    simp only [Rows.uptoBulk] at hb
    have hlen : len ≤ 1048576 := by
      have h1 := bulk_len D (fun i => bulk_pos _) (List.range len)
      rw [List.length_range] at h1
      omega
    have each : ∀ i, i < len → ∃ o : OpR, o.Ok ∧ ∃ cs', W.cells? 0 (z.add (i * 6)) 6 = some cs' ∧ cs' = o.cells.toList := by
      intro i hi
      obtain ⟨cs', h1, h2⟩ := hx i (by omega)
      rw [cellsOpS] at h1
      obtain ⟨_, hlen6, _⟩ := World.cells?_some h1
      have hbi : Rows.uptoBulk (D i) ≤ 1048576 := by
        have h3 := bulk_in (D i) ((List.range len).map D) (List.mem_map.2 ⟨i, List.mem_range.2 hi, rfl⟩)
        omega
      obtain ⟨o, hok, hc⟩ := op_of hlen6 h2 hbi
      exact ⟨o, hok, cs', h1, hc⟩
    haveI : Inhabited OpR := ⟨⟨0, nil_, nil_, 0, 0, nil_⟩⟩
    obtain ⟨q, hq⟩ := choose_lt each
    refine ⟨(List.range len).map q, by simp, fun r hr => ?_, by simpa using hlen, fun hne => ?_⟩
    · obtain ⟨i, hi, rfl⟩ := List.mem_map.1 hr
      exact (hq i (List.mem_range.1 hi)).1
    · have hpos : 0 < len := by
        rcases Nat.eq_zero_or_pos len with h | h
        · subst h; simp at hne
        · exact h
      obtain ⟨b, off, spot⟩ := z
      obtain ⟨_, cs0, h0, hcs0⟩ := hq 0 hpos
      obtain ⟨_, hl0, hc0⟩ := World.cells?_some h0
      have hc00 := hc0 0 (by omega)
      rw [add_add, hcs0] at hc00
      have hc00 : _ = some _ := hc00
      have hspot : spot = none := by simpa [Addr.add] using World.cell?_spot hc00
      subst hspot
      refine ⟨b, off, rfl, ?_, fun i r hr => ?_⟩
      · rw [Addr.add_lit] at hc00
        exact block_lt_of_cell hc00
      · rw [List.getElem?_map] at hr
        obtain ⟨j, hj, rfl⟩ := Option.map_eq_some_iff.1 hr
        have hi := (List.getElem?_eq_some_iff.1 hj).1
        simp only [List.length_range] at hi
        rw [List.getElem?_range hi] at hj
        obtain rfl := Option.some.inj hj
        obtain ⟨_, cs', h1, h2⟩ := hq i hi
        obtain ⟨_, hl1, hc1⟩ := World.cells?_some h1
        subst h2
        have e := fun f (hf : f < 6) => hc1 f (by simpa [OpR.cells] using hf)
        have e0 := e 0 (by decide)
        have e1 := e 1 (by decide)
        have e2 := e 2 (by decide)
        have e3 := e 3 (by decide)
        have e4 := e 4 (by decide)
        have e5 := e 5 (by decide)
        rw [add_add, Addr.add_lit] at e0 e1 e2 e3 e4 e5
        simp only [← Nat.add_assoc] at e0 e1 e2 e3 e4 e5
        exact ⟨by simpa [OpR.cells] using e0, by simpa [OpR.cells] using e1, by simpa [OpR.cells] using e2, by simpa [OpR.cells] using e3, by simpa [OpR.cells] using e4, by simpa [OpR.cells] using e5⟩
end Go.Proofs.YtlmopjbfagijeaaGreatDoor.Sc

namespace Go.Proofs.YtlmopjbfagijeaaGreatDoor.Sc
open Go.ChangeShapes Go.WideShapes Go.ChangeAt Go.RowKit Go.Deep

theorem cellsActS : Tryz.prog.cellsOf 36 = 9 := by kernel_rfl
theorem cellsEdS : Tryz.prog.cellsOf 34 = 6 := by kernel_rfl
theorem cellsSl : Tryz.prog.cellsOf 32 = 1 := by kernel_rfl
set_option maxRecDepth 20000 in
set_option maxHeartbeats 1000000 in
/-- an act as it was handed in -/
theorem act_of {H : Type} {enc : TypeId × Value → H} {W : World} {cs : List Value} {y : DataW H × List MemPlace} {fuel : Nat} (hl : cs.length = 9) (h : DataW.trod enc Tryz.prog W 0 (fun _ => true) true fuel 36 cs = some y) (hb : Rows.uptoBulk y.1 ≤ 1048576) :
    ∃ x : ActV, (x.1.Ok ∧ (∀ o ∈ x.2, o.Ok) ∧ x.2.length = x.1.nops ∧ x.2.length ≤ 1048576) ∧ cs = x.1.cells.toList ∧ SeeO W x.1.ops x.2 := by
  obtain ⟨xs, k, hk, hxy, _, hxl, hfl⟩ := DataW.trod_struct Tryz.underlying36 h
  match xs, hxl, cs, hl with
  | [y0, y1, y2, y3], _, [v0, v1, v2, v3, v4, v5, v6, v7, v8], _ =>
    have g0 := hfl 0 _ rfl
    have g1 := hfl 1 _ rfl
    have g2 := hfl 2 _ rfl
    have g3 := hfl 3 _ rfl
    simp [cells3, cellsSl, cellsEdS] at g0 g1 g2 g3
    obtain ⟨xe, ke, hke, hxye, _, hxle, hfle⟩ := DataW.trod_struct Tryz.underlying34 g3
    match xe, hxle with
    | [z0, z1, z2, z3, z4, z5], _ =>
      have e0 := hfle 0 _ rfl
      have e1 := hfle 1 _ rfl
      have e2 := hfle 2 _ rfl
      have e3 := hfle 3 _ rfl
      have e4 := hfle 4 _ rfl
      have e5 := hfle 5 _ rfl
      simp [cells3, cells9] at e0 e1 e2 e3 e4 e5
      obtain ⟨i0, a0, b0, w0⟩ := DataW.trod_int Tryz.underlying3 g0
      obtain ⟨i2, a2, b2, w2⟩ := DataW.trod_int Tryz.underlying3 g2
      obtain ⟨j0, p0, q0, r0⟩ := DataW.trod_int Tryz.underlying3 e0
      obtain ⟨j1, p1, q1, r1⟩ := DataW.trod_int Tryz.underlying3 e1
      obtain ⟨j2, p2, q2, r2⟩ := DataW.trod_int Tryz.underlying3 e2
      obtain ⟨j3, p3, q3, r3⟩ := DataW.trod_int Tryz.underlying3 e3
      obtain ⟨j4, p4, q4, _⟩ := DataW.trod_string Tryz.underlying9 e4
      obtain ⟨j5, p5, q5, _⟩ := DataW.trod_string Tryz.underlying9 e5
      have hd : y.1 = .agg [y0.1, y1.1, y2.1, y3.1] := by rw [hxy]; rfl
      have hde : y3.1 = .agg [z0.1, z1.1, z2.1, z3.1, z4.1, z5.1] := by rw [hxye]; rfl
      rw [hd] at hb
      simp only [Rows.uptoBulk, Rows.uptoBulkAll] at hb
      rw [hde] at hb
      simp only [Rows.uptoBulk, Rows.uptoBulkAll] at hb
      have l4 : j4.data.toList.length = j4.size := by rw [Array.length_toList]; rfl
      have l5 : j5.data.toList.length = j5.size := by rw [Array.length_toList]; rfl
      have hb4 : Rows.uptoBulk z4.1 = j4.data.toList.length + 1 := by rw [q4]; simp only [Rows.uptoBulk]
      have hb5 : Rows.uptoBulk z5.1 = j5.data.toList.length + 1 := by rw [q5]; simp only [Rows.uptoBulk]
      have hsl : ∃ a len cap, v1 = .slice a len cap := by
        rcases DataW.trod_slice Tryz.underlying32 g1 with ⟨hcs, _⟩ | ⟨a, len, cap, elems, rest, n, _, hcs, _⟩
        · simp only [List.cons.injEq, and_true] at hcs
          exact ⟨_, _, _, hcs⟩
        · simp only [List.cons.injEq, and_true] at hcs
          exact ⟨_, _, _, hcs⟩
      obtain ⟨a, len, cap, rfl⟩ := hsl
      obtain ⟨L, x1, x2, x3, x4⟩ := ops_of (a := a) (len := len) (cap := cap) (d := y1.1) (ps := y1.2) ⟨_, g1⟩ (by omega)
      simp only [List.cons.injEq, and_true] at a0 a2 p0 p1 p2 p3 p4 p5
      subst a0 a2 p0 p1 p2 p3 p4 p5
      exact ⟨(⟨i0, a, len, cap, i2, j0, j1, j2, j3, j4, j5⟩, L), ⟨⟨i64_of w0, i64_of w2, i64_of r0, i64_of r1, i64_of r2, i64_of r3, by show j4.size ≤ _; omega, by show j5.size ≤ _; omega⟩, x2, x1, x3⟩, rfl, x4⟩
set_option maxRecDepth 20000 in
/-- acts as they were handed in -/
theorem acts_of {H : Type} {enc : TypeId × Value → H} {W : World} {a : Option Addr} {len cap : Nat} {d : DataW H} {ps : List MemPlace} (h : DataW.Trod enc Tryz.prog W 0 (fun _ => true) true 22 (.slice a len cap) d ps) (hb : Rows.uptoBulk d ≤ 1048576) :
    ∃ V : List ActV, V.length = len ∧ len ≤ cap ∧ VOk V ∧ SeeV W a V := by
  obtain ⟨fuel, hf⟩ := h
  have hcap : len ≤ cap := by
    rcases DataW.trod_slice Tryz.underlying22 hf with ⟨hcs, _⟩ | ⟨a', len', cap', elems, rest, n, _, hcs, _, _, hle, _⟩
    · simp [Value.cells] at hcs
      omega
    · simp [Value.cells] at hcs
      omega
  rcases open_slice Tryz.underlying22 hf with ⟨hcs, _⟩ | ⟨z, len', cap', m, n, D, Pl, hcs, _, hl, hm, hmm, hx0, hx⟩
  · simp [Value.cells] at hcs
    obtain ⟨rfl, rfl, rfl⟩ := hcs
    exact ⟨[], rfl, hcap, ⟨fun o ho => (by cases ho), by simp⟩, ⟨fun e => absurd rfl e, fun i x hx => by simp at hx⟩⟩
  · simp [Value.cells] at hcs
    obtain ⟨rfl, rfl, rfl⟩ := hcs
    simp only [if_true] at hmm
    subst hmm
    have hy1 : d = .slice ((List.range len).map D) ((List.range (m - len)).map fun j => D (len + j)) := by
      simp only [Prod.mk.injEq] at hx0
      exact hx0.1
    rw [hy1] at hb
    simp only [Rows.uptoBulk] at hb
    have hlen : len ≤ 1048576 := by
      have h1 := bulk_len D (fun i => bulk_pos _) (List.range len)
      rw [List.length_range] at h1
      omega
    have each : ∀ i, i < len → ∃ x : ActV, (x.1.Ok ∧ (∀ o ∈ x.2, o.Ok) ∧ x.2.length = x.1.nops ∧ x.2.length ≤ 1048576) ∧ (∃ cs', W.cells? 0 (z.add (i * 9)) 9 = some cs' ∧ cs' = x.1.cells.toList) ∧ SeeO W x.1.ops x.2 := by
      intro i hi
      obtain ⟨cs', h1, h2⟩ := hx i (by omega)
      rw [cellsActS] at h1
      obtain ⟨_, hlen9, _⟩ := World.cells?_some h1
      have hbi : Rows.uptoBulk (D i) ≤ 1048576 := by
        have h3 := bulk_in (D i) ((List.range len).map D) (List.mem_map.2 ⟨i, List.mem_range.2 hi, rfl⟩)
        omega
      obtain ⟨x, hok, hc, hs⟩ := act_of hlen9 h2 hbi
      exact ⟨x, hok, ⟨cs', h1, hc⟩, hs⟩
    haveI : Inhabited ActV := ⟨(⟨0, none, 0, 0, 0, 0, 0, 0, 0, nil_, nil_⟩, [])⟩
    obtain ⟨q, hq⟩ := choose_lt each
    have nineq : ∀ i, i < len → ∀ f, f < 9 → W.cell? (z.add (i * 9 + f)) = (q i).1.cells.toList[f]? := fun i hi f hf => by
      obtain ⟨_, ⟨cs', h1, h2⟩, _⟩ := hq i hi
      obtain ⟨_, hl1, hc1⟩ := World.cells?_some h1
      have e := hc1 f hf
      rw [add_add] at e
      rw [e, h2]
    refine ⟨(List.range len).map q, by simp, hcap, ⟨fun r hr => ?_, by simpa using hlen⟩, ⟨fun hne => ?_, fun i r hr => ?_⟩⟩
    · obtain ⟨i, hi, rfl⟩ := List.mem_map.1 hr
      exact (hq i (List.mem_range.1 hi)).1
    · have hpos : 0 < len := by
        rcases Nat.eq_zero_or_pos len with h | h
        · subst h; simp at hne
        · exact h
      obtain ⟨b, off, spot⟩ := z
      have hc00 := nineq 0 hpos 0 (by decide)
      have hc00 : W.cell? ((⟨b, off, spot⟩ : Addr).add (0 * 9 + 0)) = some (.int .i64 (q 0).1.kind) := hc00
      have hspot : spot = none := by simpa [Addr.add] using World.cell?_spot hc00
      subst hspot
      refine ⟨b, off, rfl, ?_, fun i r hr => ?_⟩
      · rw [Addr.add_lit] at hc00
        exact block_lt_of_cell hc00
      · rw [List.map_map, List.getElem?_map] at hr
        obtain ⟨j, hj, rfl⟩ := Option.map_eq_some_iff.1 hr
        have hi := (List.getElem?_eq_some_iff.1 hj).1
        simp only [List.length_range] at hi
        rw [List.getElem?_range hi] at hj
        obtain rfl := Option.some.inj hj
        have e := nineq i hi
        have n0 := e 0 (by decide)
        have n1 := e 1 (by decide)
        have n2 := e 2 (by decide)
        have n3 := e 3 (by decide)
        have n4 := e 4 (by decide)
        have n5 := e 5 (by decide)
        have n6 := e 6 (by decide)
        have n7 := e 7 (by decide)
        have n8 := e 8 (by decide)
        rw [Addr.add_lit] at n0 n1 n2 n3 n4 n5 n6 n7 n8
        simp only [← Nat.add_assoc] at n0 n1 n2 n3 n4 n5 n6 n7 n8
        exact ⟨n0, n1, n2, n3, n4, n5, n6, n7, n8⟩
    · rw [List.getElem?_map] at hr
      obtain ⟨j, hj, rfl⟩ := Option.map_eq_some_iff.1 hr
      have hi := (List.getElem?_eq_some_iff.1 hj).1
      simp only [List.length_range] at hi
      rw [List.getElem?_range hi] at hj
      obtain rfl := Option.some.inj hj
      exact (hq i hi).2.2
end Go.Proofs.YtlmopjbfagijeaaGreatDoor.Sc

namespace Go.Proofs.YtlmopjbfagijeaaGreatDoor.Sc
open Go.ChangeShapes Go.WideShapes Go.ChangeAt Go.RowKit Go.Deep

theorem cells4 : Tryz.prog.cellsOf 4 = 1 := by kernel_rfl
theorem cellsPl : Tryz.prog.cellsOf 26 = 10 := by kernel_rfl
theorem cellsCf : Tryz.prog.cellsOf 24 = 6 := by kernel_rfl
theorem cellsAs : Tryz.prog.cellsOf 22 = 1 := by kernel_rfl
theorem bulk_range {H α : Type} (f : α → Nat) (D : Nat → DataW H) : ∀ (V : List α) (k : Nat), (∀ (i : Nat) x, V[i]? = some x → f x ≤ Rows.uptoBulk (D (k + i))) → (V.map f).sum ≤ Rows.uptoBulkAll ((List.range' k V.length).map D)
  | [], k, _ => by simp
  | a :: t, k, h => by
    have h0 := h 0 a rfl
    have h1 := bulk_range f D t (k + 1) fun i x hx => by
      have := h (i + 1) x hx
      rw [show k + 1 + i = k + (i + 1) by omega]
      exact this
    simp only [List.map_cons, List.sum_cons, List.length_cons, List.range'_succ, Rows.uptoBulkAll]
    rw [Nat.add_zero] at h0
    omega
set_option maxRecDepth 20000 in
/-- a list is no longer than its bulk -/
theorem slice_bulk {H : Type} {enc : TypeId × Value → H} {W : World} {t e : TypeId} {fuel : Nat} {a : Option Addr} {n c : Nat} {y : DataW H × List MemPlace} (ht : Tryz.prog.underlying t = some (.slice e)) (h : DataW.trod enc Tryz.prog W 0 (fun _ => true) true fuel t [.slice a n c] = some y) : n ≤ Rows.uptoBulk y.1 := by
  rcases open_slice ht h with ⟨hcs, _⟩ | ⟨z, len', cap', m, q, D, Pl, hcs, _, hl, hm, hmm, hx0, hx⟩
  · simp at hcs
    omega
  · simp at hcs
    obtain ⟨rfl, rfl, rfl⟩ := hcs
    rw [hx0]
    simp only [Rows.uptoBulk]
    have h1 := bulk_len D (fun i => bulk_pos _) (List.range n)
    rw [List.length_range] at h1
    omega
set_option maxRecDepth 20000 in
theorem act_bulk {H : Type} {enc : TypeId × Value → H} {W : World} {cs : List Value} {y : DataW H × List MemPlace} {fuel : Nat} (hl : cs.length = 9) (h : DataW.trod enc Tryz.prog W 0 (fun _ => true) true fuel 36 cs = some y) {a : Option Addr} {n c : Nat} (hc : cs[1]? = some (.slice a n c)) : n ≤ Rows.uptoBulk y.1 := by
  obtain ⟨xs, k, hk, hxy, _, hxl, hfl⟩ := DataW.trod_struct Tryz.underlying36 h
  match xs, hxl, cs, hl with
  | [y0, y1, y2, y3], _, [v0, v1, v2, v3, v4, v5, v6, v7, v8], _ =>
    have g1 := hfl 1 _ rfl
    simp [cellsSl] at g1
    obtain rfl : v1 = .slice a n c := by simpa using hc
    have h1 := slice_bulk Tryz.underlying32 g1
    have hd : y.1 = .agg [y0.1, y1.1, y2.1, y3.1] := by rw [hxy]; rfl
    rw [hd]
    simp only [Rows.uptoBulk, Rows.uptoBulkAll]
    omega
set_option maxRecDepth 20000 in
theorem acts_bulk {H : Type} {enc : TypeId × Value → H} {W : World} {a : Option Addr} {cap fuel : Nat} {y : DataW H × List MemPlace} {V : List ActV} (h : DataW.trod enc Tryz.prog W 0 (fun _ => true) true fuel 22 [.slice a V.length cap] = some y) (hs : SeeV W a V) : (V.map (·.1.nops)).sum ≤ Rows.uptoBulk y.1 := by
  rcases open_slice Tryz.underlying22 h with ⟨hcs, _⟩ | ⟨z, len', cap', m, n, D, Pl, hcs, _, hl, hm, hmm, hx0, hx⟩
  · simp at hcs
    obtain ⟨-, h0, -⟩ := hcs
    subst h0
    simp
  · simp at hcs
    obtain ⟨rfl, rfl, rfl⟩ := hcs
    simp only [if_true] at hmm
    subst hmm
    rw [hx0]
    simp only [Rows.uptoBulk]
    have hsum := bulk_range (fun x : ActV => x.1.nops) D V 0 fun i x hxi => by
      have hi := (List.getElem?_eq_some_iff.1 hxi).1
      obtain ⟨cs', h1, h2⟩ := hx i (by omega)
      rw [cellsActS] at h1
      obtain ⟨_, hlen9, hc1⟩ := World.cells?_some h1
      obtain ⟨b, off, e, _, hnine, _⟩ := hs.at hxi
      injection e with e
      subst e
      have e := hc1 1 (by omega)
      rw [add_add, Addr.add_lit] at e
      simp only [← Nat.add_assoc] at e
      rw [hnine.2.1] at e
      rw [Nat.zero_add]
      exact act_bulk hlen9 h2 e.symm
    rw [← List.range_eq_range'] at hsum
    omega
set_option maxRecDepth 20000 in
set_option maxHeartbeats 1000000 in
/-- a play as it was handed in -/
theorem play_of {H : Type} {enc : TypeId × Value → H} {W : World} {base : Nat} {v : Value} {d : DataW H} {ps : List MemPlace} (hv : Value.okWide Tryz.prog W .any base 26 v) (h : DataW.Trod enc Tryz.prog W 0 (fun _ => true) true 26 v d ps) (hb : Rows.uptoBulk d ≤ 1048576) :
    ∃ (p : PlR) (V : List ActV), v = .agg p.cells ∧ p.Ok ∧ VOk V ∧ V.length = p.nacts ∧ p.nacts ≤ p.cacts ∧ SeeV W p.acts V ∧ (V.map (·.1.nops)).sum ≤ 1048576 := by
  obtain ⟨cs, rfl, hcs⟩ := okWide_struct Tryz.underlying26 hv
  rw [cellsPl] at hcs
  obtain ⟨fuel, hf⟩ := h
  obtain ⟨l⟩ := cs
  match l, hcs with
  | [v0, v1, v2, v3, v4, v5, v6, v7, v8, v9], _ =>
    obtain ⟨xs, k, hk, hxy, _, hxl, hfl⟩ := DataW.trod_struct Tryz.underlying26 hf
    match xs, hxl with
    | [y0, y1, y2, y3, y4], _ =>
      have g0 := hfl 0 _ rfl
      have g1 := hfl 1 _ rfl
      have g2 := hfl 2 _ rfl
      have g3 := hfl 3 _ rfl
      have g4 := hfl 4 _ rfl
      simp [Value.cells, cells4, cells9, cellsCf, cellsAs] at g0 g1 g2 g3 g4
      obtain ⟨xe, ke, hke, hxye, _, hxle, hfle⟩ := DataW.trod_struct Tryz.underlying24 g0
      match xe, hxle with
      | [z0, z1, z2, z3, z4, z5], _ =>
        have e0 := hfle 0 _ rfl
        have e1 := hfle 1 _ rfl
        have e2 := hfle 2 _ rfl
        have e3 := hfle 3 _ rfl
        have e4 := hfle 4 _ rfl
        have e5 := hfle 5 _ rfl
        simp [cells3] at e0 e1 e2 e3 e4 e5
        obtain ⟨i0, a0, b0, w0⟩ := DataW.trod_int Tryz.underlying3 e0
        obtain ⟨i1, a1, b1, w1⟩ := DataW.trod_int Tryz.underlying3 e1
        obtain ⟨i2, a2, b2, w2⟩ := DataW.trod_int Tryz.underlying3 e2
        obtain ⟨i3, a3, b3, w3⟩ := DataW.trod_int Tryz.underlying3 e3
        obtain ⟨i4, a4, b4, w4⟩ := DataW.trod_int Tryz.underlying3 e4
        obtain ⟨i5, a5, b5, w5⟩ := DataW.trod_int Tryz.underlying3 e5
        obtain ⟨bo, p1, q1⟩ := DataW.trod_bool Tryz.underlying4 g1
        obtain ⟨j2, p2, q2, _⟩ := DataW.trod_string Tryz.underlying9 g2
        obtain ⟨j3, p3, q3, _⟩ := DataW.trod_string Tryz.underlying9 g3
        have hd : d = .agg [y0.1, y1.1, y2.1, y3.1, y4.1] := by
          have h := congrArg Prod.fst hxy
          simpa using h
        rw [hd] at hb
        simp only [Rows.uptoBulk, Rows.uptoBulkAll] at hb
        have l2 : j2.data.toList.length = j2.size := by rw [Array.length_toList]; rfl
        have l3 : j3.data.toList.length = j3.size := by rw [Array.length_toList]; rfl
        have hb2 : Rows.uptoBulk y2.1 = j2.data.toList.length + 1 := by rw [q2]; simp only [Rows.uptoBulk]
        have hb3 : Rows.uptoBulk y3.1 = j3.data.toList.length + 1 := by rw [q3]; simp only [Rows.uptoBulk]
        have hsl : ∃ a len cap, v9 = .slice a len cap := by
          rcases DataW.trod_slice Tryz.underlying22 g4 with ⟨hcs, _⟩ | ⟨a, len, cap, elems, rest, n, _, hcs, _⟩
          · simp only [List.cons.injEq, and_true] at hcs
            exact ⟨_, _, _, hcs⟩
          · simp only [List.cons.injEq, and_true] at hcs
            exact ⟨_, _, _, hcs⟩
        obtain ⟨a, len, cap, rfl⟩ := hsl
        obtain ⟨V, x1, x2, x3, x4⟩ := acts_of (a := a) (len := len) (cap := cap) (d := y4.1) (ps := y4.2) ⟨_, g4⟩ (by omega)
        subst x1
        have hsum := acts_bulk g4 x4
        simp only [List.cons.injEq, and_true] at a0 a1 a2 a3 a4 a5 p1 p2 p3
        subst a0 a1 a2 a3 a4 a5 p1 p2 p3
        exact ⟨⟨i0, i1, i2, i3, i4, i5, bo, j2, j3, a, V.length, cap⟩, V, rfl, ⟨i64_of w0, i64_of w1, i64_of w2, i64_of w3, i64_of w4, i64_of w5, by show j2.size ≤ _; omega, by show j3.size ≤ _; omega⟩, x3, rfl, x2, x4, by omega⟩
end Go.Proofs.YtlmopjbfagijeaaGreatDoor.Sc
