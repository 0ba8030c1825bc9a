import Derived.Test.YtcochbcaillldaaGreatDoorSqV
import Derived.Test.YtcochbcaillldaaGreatDoorSpZ
namespace Go.Proofs.YtcochbcaillldaaGreatDoor.Sc
open Go.ChangeShapes Go.WideShapes Go.ChangeAt Go.RowKit Go.Deep

theorem cellsActS : Tryz.prog.cellsOf 36 = 9 := by kernel_rfl
theorem cellsEdS : Tryz.prog.cellsOf 34 = 6 := by kernel_rfl
theorem cellsSl : Tryz.prog.cellsOf 32 = 1 := by kernel_rfl
set_option maxRecDepth 20000 in
set_option maxHeartbeats 1000000 in
/-- an act as it was handed in -/
theorem act_of {H : Type} {enc : TypeId × Value → H} {W : World} {cs : List Value} {y : DataW H × List MemPlace} {fuel : Nat} (hl : cs.length = 9) (h : DataW.trod enc Tryz.prog W 0 (fun _ => true) true fuel 36 cs = some y) (hb : Rows.uptoBulk y.1 ≤ 1048576) :
    ∃ x : ActV, (x.1.Ok ∧ (∀ o ∈ x.2, o.Ok) ∧ x.2.length = x.1.nops ∧ x.2.length ≤ 1048576) ∧ cs = x.1.cells.toList ∧ SeeO W x.1.ops x.2 := by
  obtain ⟨xs, k, hk, hxy, _, hxl, hfl⟩ := DataW.trod_struct Tryz.underlying36 h
  match xs, hxl, cs, hl with
  | [y0, y1, y2, y3], _, [v0, v1, v2, v3, v4, v5, v6, v7, v8], _ =>
    have g0 := hfl 0 _ rfl
    have g1 := hfl 1 _ rfl
    have g2 := hfl 2 _ rfl
    have g3 := hfl 3 _ rfl
    simp [cells3, cellsSl, cellsEdS] at g0 g1 g2 g3
    obtain ⟨xe, ke, hke, hxye, _, hxle, hfle⟩ := DataW.trod_struct Tryz.underlying34 g3
    match xe, hxle with
    | [z0, z1, z2, z3, z4, z5], _ =>
      have e0 := hfle 0 _ rfl
      have e1 := hfle 1 _ rfl
      have e2 := hfle 2 _ rfl
      have e3 := hfle 3 _ rfl
      have e4 := hfle 4 _ rfl
      have e5 := hfle 5 _ rfl
      simp [cells3, cells9] at e0 e1 e2 e3 e4 e5
      obtain ⟨i0, a0, b0, w0⟩ := DataW.trod_int Tryz.underlying3 g0
      obtain ⟨i2, a2, b2, w2⟩ := DataW.trod_int Tryz.underlying3 g2
      obtain ⟨j0, p0, q0, r0⟩ := DataW.trod_int Tryz.underlying3 e0
      obtain ⟨j1, p1, q1, r1⟩ := DataW.trod_int Tryz.underlying3 e1
      obtain ⟨j2, p2, q2, r2⟩ := DataW.trod_int Tryz.underlying3 e2
      obtain ⟨j3, p3, q3, r3⟩ := DataW.trod_int Tryz.underlying3 e3
      obtain ⟨j4, p4, q4, _⟩ := DataW.trod_string Tryz.underlying9 e4
      obtain ⟨j5, p5, q5, _⟩ := DataW.trod_string Tryz.underlying9 e5
      have hd : y.1 = .agg [y0.1, y1.1, y2.1, y3.1] := by rw [hxy]; rfl
      have hde : y3.1 = .agg [z0.1, z1.1, z2.1, z3.1, z4.1, z5.1] := by rw [hxye]; rfl
      rw [hd] at hb
      simp only [Rows.uptoBulk, Rows.uptoBulkAll] at hb
      rw [hde] at hb
      simp only [Rows.uptoBulk, Rows.uptoBulkAll] at hb
      have l4 : j4.data.toList.length = j4.size := by rw [Array.length_toList]; rfl
      have l5 : j5.data.toList.length = j5.size := by rw [Array.length_toList]; rfl
      have hb4 : Rows.uptoBulk z4.1 = j4.data.toList.length + 1 := by rw [q4]; simp only [Rows.uptoBulk]
      have hb5 : Rows.uptoBulk z5.1 = j5.data.toList.length + 1 := by rw [q5]; simp only [Rows.uptoBulk]
      have hsl : ∃ a len cap, v1 = .slice a len cap := by
        rcases DataW.trod_slice Tryz.underlying32 g1 with ⟨hcs, _⟩ | ⟨a, len, cap, elems, rest, n, _, hcs, _⟩
        · simp only [List.cons.injEq, and_true] at hcs
          exact ⟨_, _, _, hcs⟩
        · simp only [List.cons.injEq, and_true] at hcs
          exact ⟨_, _, _, hcs⟩
      obtain ⟨a, len, cap, rfl⟩ := hsl
      obtain ⟨L, x1, x2, x3, x4⟩ := ops_of (a := a) (len := len) (cap := cap) (d := y1.1) (ps := y1.2) ⟨_, g1⟩ (by omega)
      simp only [List.cons.injEq, and_true] at a0 a2 p0 p1 p2 p3 p4 p5
      subst a0 a2 p0 p1 p2 p3 p4 p5
      exact ⟨(⟨i0, a, len, cap, i2, j0, j1, j2, j3, j4, j5⟩, L), ⟨⟨i64_of w0, i64_of w2, i64_of r0, i64_of r1, i64_of r2, i64_of r3, by show j4.size ≤ _; omega, by show j5.size ≤ _; omega⟩, x2, x1, x3⟩, rfl, x4⟩
set_option maxRecDepth 20000 in
/-- acts as they were handed in -/
theorem acts_of {H : Type} {enc : TypeId × Value → H} {W : World} {a : Option Addr} {len cap : Nat} {d : DataW H} {ps : List MemPlace} (h : DataW.Trod enc Tryz.prog W 0 (fun _ => true) true 22 (.slice a len cap) d ps) (hb : Rows.uptoBulk d ≤ 1048576) :
    ∃ V : List ActV, V.length = len ∧ len ≤ cap ∧ VOk V ∧ SeeV W a V := by
  obtain ⟨fuel, hf⟩ := h
  have hcap : len ≤ cap := by
    rcases DataW.trod_slice Tryz.underlying22 hf with ⟨hcs, _⟩ | ⟨a', len', cap', elems, rest, n, _, hcs, _, _, hle, _⟩
    · simp [Value.cells] at hcs
      omega
    · simp [Value.cells] at hcs
      omega
  rcases open_slice Tryz.underlying22 hf with ⟨hcs, _⟩ | ⟨z, len', cap', m, n, D, Pl, hcs, _, hl, hm, hmm, hx0, hx⟩
  · simp [Value.cells] at hcs
    obtain ⟨rfl, rfl, rfl⟩ := hcs
    exact ⟨[], rfl, hcap, ⟨fun o ho => (by cases ho), by simp⟩, ⟨fun e => absurd rfl e, fun i x hx => by simp at hx⟩⟩
  · simp [Value.cells] at hcs
    obtain ⟨rfl, rfl, rfl⟩ := hcs
    simp only [if_true] at hmm
    subst hmm
    have hy1 : d = .slice ((List.range len).map D) ((List.range (m - len)).map fun j => D (len + j)) := by
      simp only [Prod.mk.injEq] at hx0
      exact hx0.1
    rw [hy1] at hb
    simp only [Rows.uptoBulk] at hb
    have hlen : len ≤ 1048576 := by
      have h1 := bulk_len D (fun i => bulk_pos _) (List.range len)
      rw [List.length_range] at h1
      omega
    have each : ∀ i, i < len → ∃ x : ActV, (x.1.Ok ∧ (∀ o ∈ x.2, o.Ok) ∧ x.2.length = x.1.nops ∧ x.2.length ≤ 1048576) ∧ (∃ cs', W.cells? 0 (z.add (i * 9)) 9 = some cs' ∧ cs' = x.1.cells.toList) ∧ SeeO W x.1.ops x.2 := by
      intro i hi
      obtain ⟨cs', h1, h2⟩ := hx i (by omega)
      rw [cellsActS] at h1
      obtain ⟨_, hlen9, _⟩ := World.cells?_some h1
      have hbi : Rows.uptoBulk (D i) ≤ 1048576 := by
        have h3 := bulk_in (D i) ((List.range len).map D) (List.mem_map.2 ⟨i, List.mem_range.2 hi, rfl⟩)
        omega
      obtain ⟨x, hok, hc, hs⟩ := act_of hlen9 h2 hbi
      exact ⟨x, hok, ⟨cs', h1, hc⟩, hs⟩
    haveI : Inhabited ActV := ⟨(⟨0, none, 0, 0, 0, 0, 0, 0, 0, nil_, nil_⟩, [])⟩
    obtain ⟨q, hq⟩ := choose_lt each
    have nineq : ∀ i, i < len → ∀ f, f < 9 → W.cell? (z.add (i * 9 + f)) = (q i).1.cells.toList[f]? := fun i hi f hf => by
      obtain ⟨_, ⟨cs', h1, h2⟩, _⟩ := hq i hi
      obtain ⟨_, hl1, hc1⟩ := World.cells?_some h1
      have e := hc1 f hf
      rw [add_add] at e
      rw [e, h2]
    refine ⟨(List.range len).map q, by simp, hcap, ⟨fun r hr => ?_, by simpa using hlen⟩, ⟨fun hne => ?_, fun i r hr => ?_⟩⟩
    · obtain ⟨i, hi, rfl⟩ := List.mem_map.1 hr
      exact (hq i (List.mem_range.1 hi)).1
    · have hpos : 0 < len := by
        rcases Nat.eq_zero_or_pos len with h | h
        · subst h; simp at hne
        · exact h
      obtain ⟨b, off, spot⟩ := z
      have hc00 := nineq 0 hpos 0 (by decide)
      have hc00 : W.cell? ((⟨b, off, spot⟩ : Addr).add (0 * 9 + 0)) = some (.int .i64 (q 0).1.kind) := hc00
      have hspot : spot = none := by simpa [Addr.add] using World.cell?_spot hc00
      subst hspot
      refine ⟨b, off, rfl, ?_, fun i r hr => ?_⟩
      · rw [Addr.add_lit] at hc00
        exact block_lt_of_cell hc00
      · rw [List.map_map, List.getElem?_map] at hr
        obtain ⟨j, hj, rfl⟩ := Option.map_eq_some_iff.1 hr
        have hi := (List.getElem?_eq_some_iff.1 hj).1
        simp only [List.length_range] at hi
        rw [List.getElem?_range hi] at hj
        obtain rfl := Option.some.inj hj
        have e := nineq i hi
        have n0 := e 0 (by decide)
        have n1 := e 1 (by decide)
        have n2 := e 2 (by decide)
        have n3 := e 3 (by decide)
        have n4 := e 4 (by decide)
        have n5 := e 5 (by decide)
        have n6 := e 6 (by decide)
        have n7 := e 7 (by decide)
        have n8 := e 8 (by decide)
        rw [Addr.add_lit] at n0 n1 n2 n3 n4 n5 n6 n7 n8
        simp only [← Nat.add_assoc] at n0 n1 n2 n3 n4 n5 n6 n7 n8
        exact ⟨n0, n1, n2, n3, n4, n5, n6, n7, n8⟩
    · rw [List.getElem?_map] at hr
      obtain ⟨j, hj, rfl⟩ := Option.map_eq_some_iff.1 hr
      have hi := (List.getElem?_eq_some_iff.1 hj).1
      simp only [List.length_range] at hi
      rw [List.getElem?_range hi] at hj
      obtain rfl := Option.some.inj hj
      exact (hq i hi).2.2
end Go.Proofs.YtcochbcaillldaaGreatDoor.Sc
