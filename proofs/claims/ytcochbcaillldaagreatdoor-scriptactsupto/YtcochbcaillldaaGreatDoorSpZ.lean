import Derived.Test.YtcochbcaillldaaGreatDoorSqO
import Derived.Test.YtcochbcaillldaaGreatDoorWfB
import Derived.Deep.Slices
import Derived.Deep.Strs
namespace Go.Proofs.YtcochbcaillldaaGreatDoor.Sc
open Go.ChangeShapes Go.WideShapes Go.ChangeAt Go.RowKit Go.Deep

theorem cells9 : Tryz.prog.cellsOf 9 = 1 := by kernel_rfl
theorem cells3 : Tryz.prog.cellsOf 3 = 1 := by kernel_rfl
theorem cellsOpS : Tryz.prog.cellsOf 54 = 6 := by kernel_rfl
theorem i64_of {n : Int} (h : (Lit.int .i64 n).wf = true) : I64 n := ⟨wf_lo h, wf_hi h⟩
theorem bulk_in {H : Type} (d : DataW H) : ∀ l : List (DataW H), d ∈ l → Rows.uptoBulk d ≤ Rows.uptoBulkAll l
  | [], h => by cases h
  | x :: r, h => by
    simp only [Rows.uptoBulkAll]
    rcases List.mem_cons.1 h with rfl | h
    · omega
    · have := bulk_in d r h
      omega
theorem bulk_len {H : Type} (f : Nat → DataW H) (h : ∀ i, 1 ≤ Rows.uptoBulk (f i)) : ∀ l : List Nat, l.length ≤ Rows.uptoBulkAll (l.map f)
  | [] => by simp
  | a :: r => by
    have h1 := bulk_len f h r
    have h2 := h a
    simp only [List.map_cons, Rows.uptoBulkAll, List.length_cons]
    omega
theorem bulk_pos {H : Type} (d : DataW H) : 1 ≤ Rows.uptoBulk d := by
  cases d with
  | lit l => cases l <;> simp [Rows.uptoBulk]
  | _ => simp [Rows.uptoBulk]
set_option maxRecDepth 20000 in
/-- an operation as it was handed in -/
theorem op_of {H : Type} {enc : TypeId × Value → H} {W : World} {cs : List Value} {y : DataW H × List MemPlace} {fuel : Nat} (hl : cs.length = 6) (h : DataW.trod enc Tryz.prog W 0 (fun _ => true) true fuel 54 cs = some y) (hb : Rows.uptoBulk y.1 ≤ 1048576) :
    ∃ o : OpR, o.Ok ∧ cs = o.cells.toList := by
  obtain ⟨xs, k, hk, hxy, _, hxl, hfl⟩ := DataW.trod_struct Tryz.underlying54 h
  match xs, hxl, cs, hl with
  | [y0, y1, y2, y3, y4, y5], _, [v0, v1, v2, v3, v4, v5], _ =>
    have g0 := hfl 0 _ rfl
    have g1 := hfl 1 _ rfl
    have g2 := hfl 2 _ rfl
    have g3 := hfl 3 _ rfl
    have g4 := hfl 4 _ rfl
    have g5 := hfl 5 _ rfl
    simp [cells3, cells9] at g0 g1 g2 g3 g4 g5
    obtain ⟨i0, a0, b0, w0⟩ := DataW.trod_int Tryz.underlying3 g0
    obtain ⟨i1, a1, b1, _⟩ := DataW.trod_string Tryz.underlying9 g1
    obtain ⟨i2, a2, b2, _⟩ := DataW.trod_string Tryz.underlying9 g2
    obtain ⟨i3, a3, b3, w3⟩ := DataW.trod_int Tryz.underlying3 g3
    obtain ⟨i4, a4, b4, w4⟩ := DataW.trod_int Tryz.underlying3 g4
    obtain ⟨i5, a5, b5, _⟩ := DataW.trod_string Tryz.underlying9 g5
    have hd : y.1 = .agg [y0.1, y1.1, y2.1, y3.1, y4.1, y5.1] := by rw [hxy]; rfl
    rw [hd] at hb
    simp only [Rows.uptoBulk, Rows.uptoBulkAll] at hb
    have e1 : i1.data.toList.length = i1.size := by rw [Array.length_toList]; rfl
    have e2 : i2.data.toList.length = i2.size := by rw [Array.length_toList]; rfl
    have e5 : i5.data.toList.length = i5.size := by rw [Array.length_toList]; rfl
    have hb1 : Rows.uptoBulk y1.1 = i1.data.toList.length + 1 := by rw [b1]; simp only [Rows.uptoBulk]
    have hb2 : Rows.uptoBulk y2.1 = i2.data.toList.length + 1 := by rw [b2]; simp only [Rows.uptoBulk]
    have hb5 : Rows.uptoBulk y5.1 = i5.data.toList.length + 1 := by rw [b5]; simp only [Rows.uptoBulk]
    simp only [List.cons.injEq, and_true] at a0 a1 a2 a3 a4 a5
    subst a0 a1 a2 a3 a4 a5
    exact ⟨⟨i0, i1, i2, i3, i4, i5⟩, ⟨i64_of w0, i64_of w3, i64_of w4, by show i1.size ≤ _; omega, by show i2.size ≤ _; omega, by show i5.size ≤ _; omega⟩, rfl⟩
set_option maxRecDepth 20000 in
/-- operations as they were handed in -/
theorem ops_of {H : Type} {enc : TypeId × Value → H} {W : World} {a : Option Addr} {len cap : Nat} {d : DataW H} {ps : List MemPlace} (h : DataW.Trod enc Tryz.prog W 0 (fun _ => true) true 32 (.slice a len cap) d ps) (hb : Rows.uptoBulk d ≤ 1048576) :
    ∃ L : List OpR, L.length = len ∧ (∀ o ∈ L, o.Ok) ∧ L.length ≤ 1048576 ∧ SeeO W a L := by
  obtain ⟨fuel, hf⟩ := h
  rcases open_slice Tryz.underlying32 hf with ⟨hcs, _⟩ | ⟨z, len', cap', m, n, D, Pl, hcs, _, hl, hm, hmm, hx0, hx⟩
  · simp [Value.cells] at hcs
    obtain ⟨rfl, rfl, rfl⟩ := hcs
    exact ⟨[], rfl, fun o ho => (by cases ho), by simp, fun e => absurd rfl e⟩
  · simp [Value.cells] at hcs
    obtain ⟨rfl, rfl, rfl⟩ := hcs
    simp only [if_true] at hmm
    subst hmm
    have hy1 : d = .slice ((List.range len).map D) ((List.range (m - len)).map fun j => D (len + j)) := by
      simp only [Prod.mk.injEq] at hx0
      exact hx0.1
    rw [hy1] at hb
    simp only [Rows.uptoBulk] at hb
    have hlen : len ≤ 1048576 := by
      have h1 := bulk_len D (fun i => bulk_pos _) (List.range len)
      rw [List.length_range] at h1
      omega
    have each : ∀ i, i < len → ∃ o : OpR, o.Ok ∧ ∃ cs', W.cells? 0 (z.add (i * 6)) 6 = some cs' ∧ cs' = o.cells.toList := by
      intro i hi
      obtain ⟨cs', h1, h2⟩ := hx i (by omega)
      rw [cellsOpS] at h1
      obtain ⟨_, hlen6, _⟩ := World.cells?_some h1
      have hbi : Rows.uptoBulk (D i) ≤ 1048576 := by
        have h3 := bulk_in (D i) ((List.range len).map D) (List.mem_map.2 ⟨i, List.mem_range.2 hi, rfl⟩)
        omega
      obtain ⟨o, hok, hc⟩ := op_of hlen6 h2 hbi
      exact ⟨o, hok, cs', h1, hc⟩
    haveI : Inhabited OpR := ⟨⟨0, nil_, nil_, 0, 0, nil_⟩⟩
    obtain ⟨q, hq⟩ := choose_lt each
    refine ⟨(List.range len).map q, by simp, fun r hr => ?_, by simpa using hlen, fun hne => ?_⟩
    · obtain ⟨i, hi, rfl⟩ := List.mem_map.1 hr
      exact (hq i (List.mem_range.1 hi)).1
    · have hpos : 0 < len := by
        rcases Nat.eq_zero_or_pos len with h | h
        · subst h; simp at hne
        · exact h
      obtain ⟨b, off, spot⟩ := z
      obtain ⟨_, cs0, h0, hcs0⟩ := hq 0 hpos
      obtain ⟨_, hl0, hc0⟩ := World.cells?_some h0
      have hc00 := hc0 0 (by omega)
      rw [add_add, hcs0] at hc00
      have hc00 : _ = some _ := hc00
      have hspot : spot = none := by simpa [Addr.add] using World.cell?_spot hc00
      subst hspot
      refine ⟨b, off, rfl, ?_, fun i r hr => ?_⟩
      · rw [Addr.add_lit] at hc00
        exact block_lt_of_cell hc00
      · rw [List.getElem?_map] at hr
        obtain ⟨j, hj, rfl⟩ := Option.map_eq_some_iff.1 hr
        have hi := (List.getElem?_eq_some_iff.1 hj).1
        simp only [List.length_range] at hi
        rw [List.getElem?_range hi] at hj
        obtain rfl := Option.some.inj hj
        obtain ⟨_, cs', h1, h2⟩ := hq i hi
        obtain ⟨_, hl1, hc1⟩ := World.cells?_some h1
        subst h2
        have e := fun f (hf : f < 6) => hc1 f (by simpa [OpR.cells] using hf)
        have e0 := e 0 (by decide)
        have e1 := e 1 (by decide)
        have e2 := e 2 (by decide)
        have e3 := e 3 (by decide)
        have e4 := e 4 (by decide)
        have e5 := e 5 (by decide)
        rw [add_add, Addr.add_lit] at e0 e1 e2 e3 e4 e5
        simp only [← Nat.add_assoc] at e0 e1 e2 e3 e4 e5
        exact ⟨by simpa [OpR.cells] using e0, by simpa [OpR.cells] using e1, by simpa [OpR.cells] using e2, by simpa [OpR.cells] using e3, by simpa [OpR.cells] using e4, by simpa [OpR.cells] using e5⟩
end Go.Proofs.YtcochbcaillldaaGreatDoor.Sc
