import Derived.Test.YtadhfhfnhcphiaaDoorScH
import Derived.Test.YtadhfhfnhcphiaaDoorWfB
import Derived.Deep.Slices
import Derived.Deep.Strs
namespace Go.Proofs.YtadhfhfnhcphiaaDoor.Sc
open Go.ChangeShapes Go.WideShapes Go.ChangeAt Go.RowKit Go.Deep

theorem cells9 : Tryd.prog.cellsOf 9 = 1 := by kernel_rfl
theorem cells3 : Tryd.prog.cellsOf 3 = 1 := by kernel_rfl
theorem cellsE : Tryd.prog.cellsOf 22 = 1 := by kernel_rfl
theorem cellsL : Tryd.prog.cellsOf 27 = 1 := by kernel_rfl
theorem cellsRs : Tryd.prog.cellsOf 23 = 1 := by kernel_rfl
theorem cellsR : Tryd.prog.cellsOf 29 = 6 := by kernel_rfl
theorem cellsA : Tryd.prog.cellsOf 25 = 2 := by kernel_rfl
theorem i64_of {n : Int} (h : (Lit.int .i64 n).wf = true) : I64 n := ⟨wf_lo h, wf_hi h⟩

theorem bulk_in {H : Type} (d : DataW H) : ∀ l : List (DataW H), d ∈ l → Rows.uptoBulk d ≤ Rows.uptoBulkAll l
  | [], h => by cases h
  | x :: r, h => by
    simp only [Rows.uptoBulkAll]
    rcases List.mem_cons.1 h with rfl | h
    · omega
    · have := bulk_in d r h
      omega
theorem bulk_sum {H : Type} : ∀ l : List ByteArray, (l.map fun s => s.size + 1).sum ≤ Rows.uptoBulkAll (l.map fun s => (DataW.lit (.string s.data.toList) : DataW H))
  | [] => by simp
  | s :: r => by
    have h := bulk_sum (H := H) r
    have e : s.data.toList.length = s.size := by rw [Array.length_toList]; rfl
    simp only [List.map_cons, List.sum_cons, Rows.uptoBulkAll, Rows.uptoBulk]
    omega
theorem bulk_len {H : Type} (f : Nat → DataW H) (h : ∀ i, 1 ≤ Rows.uptoBulk (f i)) : ∀ l : List Nat, l.length ≤ Rows.uptoBulkAll (l.map f)
  | [] => by simp
  | a :: r => by
    have h1 := bulk_len f h r
    have h2 := h a
    simp only [List.map_cons, Rows.uptoBulkAll, List.length_cons]
    omega
theorem bulk_pos {H : Type} (d : DataW H) : 1 ≤ Rows.uptoBulk d := by
  cases d with
  | lit l => cases l <;> simp [Rows.uptoBulk]
  | _ => simp [Rows.uptoBulk]

theorem le_sum {n : Nat} : ∀ {l : List Nat}, n ∈ l → n ≤ l.sum
  | [], h => by cases h
  | a :: r, h => by
    rw [List.sum_cons]
    rcases List.mem_cons.1 h with rfl | h
    · omega
    · have := le_sum h
      omega

/-- names as they were handed in -/
theorem names_of {H : Type} {enc : TypeId × Value → H} {W : World} {v : Value} {y : DataW H × List MemPlace} {fuel : Nat} (h : DataW.trod enc Tryd.prog W 0 (fun _ => true) true fuel 27 [v] = some y) (hb : Rows.uptoBulk y.1 ≤ 1048576) :
    ∃ L : List ByteArray, SeeS W v L ∧ (∀ s ∈ L, s.size ≤ 1048576) ∧ (L.map fun s => s.size + 1).sum ≤ 1048576 := by
  rcases Deep.open_strs Tryd.underlying27 Tryd.underlying9 cells9 h with ⟨hcs, hx⟩ | ⟨x, len', cap', m, Sx, hcs, _, hl, hm, hmm, hx, hcell⟩
  · obtain rfl : v = .slice none 0 0 := by simpa using hcs
    exact ⟨[], ⟨none, 0, rfl, Nat.le_refl _, fun e => absurd rfl e⟩, fun s hs => (by cases hs), by simp⟩
  · obtain rfl : v = .slice (some x) len' cap' := by simpa using hcs
    simp only [if_true] at hmm
    subst hmm
    have hy1 : y.1 = .slice ((List.range len').map fun i => .lit (.string (Sx i).data.toList)) ((List.range (m - len')).map fun j => .lit (.string (Sx (len' + j)).data.toList)) := by rw [hx]
    rw [hy1] at hb
    simp only [Rows.uptoBulk] at hb
    have hs := bulk_sum (H := H) ((List.range len').map Sx)
    rw [show ((List.range len').map Sx).map (fun s => (DataW.lit (.string s.data.toList) : DataW H)) = (List.range len').map fun i => .lit (.string (Sx i).data.toList) by rw [List.map_map]; rfl] at hs
    have hsum : (((List.range len').map Sx).map fun s => s.size + 1).sum ≤ 1048576 := by
      refine Nat.le_trans hs (Nat.le_trans ?_ hb)
      exact Nat.le_trans (Nat.le_add_right _ _) (Nat.le_add_right _ _)
    refine ⟨(List.range len').map Sx, ⟨some x, m, by simp, by simp; omega, fun hne => ?_⟩, fun s hs => ?_, hsum⟩
    · have hpos : 0 < len' := by
        rcases Nat.eq_zero_or_pos len' with h | h
        · subst h; simp at hne
        · exact h
      obtain ⟨b, off, spot⟩ := x
      have h0 := (hcell 0 (by omega)).1
      have hspot : spot = none := by simpa [Addr.add] using World.cell?_spot h0
      subst hspot
      rw [Addr.add_lit] at h0
      refine ⟨b, off, rfl, block_lt_of_cell h0, fun i s hs => ?_⟩
      rw [List.getElem?_map] at hs
      obtain ⟨j, hj, rfl⟩ := Option.map_eq_some_iff.1 hs
      have hi := (List.getElem?_eq_some_iff.1 hj).1
      simp only [List.length_range] at hi
      rw [List.getElem?_range hi] at hj
      obtain rfl := Option.some.inj hj
      have hc := (hcell i (by omega)).1
      rw [Addr.add_lit] at hc
      exact hc
    · have h1 : s.size + 1 ∈ ((List.range len').map Sx).map fun s => s.size + 1 := List.mem_map.2 ⟨s, hs, rfl⟩
      have h2 := le_sum h1
      omega

/-- a result as it was handed in -/
theorem res_of {H : Type} {enc : TypeId × Value → H} {W : World} {cs : List Value} {y : DataW H × List MemPlace} {fuel : Nat} (hl : cs.length = 6) (h : DataW.trod enc Tryd.prog W 0 (fun _ => true) true fuel 29 cs = some y) (hb : Rows.uptoBulk y.1 ≤ 1048576) :
    ∃ (r : Rz) (nv : Value), r.Ok ∧ SeeS W nv r.names ∧ cs = [.int .i64 r.code, .string r.data, .int .i64 r.n, nv, .int .i64 r.kind, .int .i64 r.size] := by
  obtain ⟨xs, k, hk, hxy, _, hxl, hfl⟩ := DataW.trod_struct Tryd.underlying29 h
  match xs, hxl, cs, hl with
  | [y0, y1, y2, y3, y4, y5], _, [v0, v1, v2, v3, v4, v5], _ =>
    have g0 := hfl 0 _ rfl
    have g1 := hfl 1 _ rfl
    have g2 := hfl 2 _ rfl
    have g3 := hfl 3 _ rfl
    have g4 := hfl 4 _ rfl
    have g5 := hfl 5 _ rfl
    simp [cells3, cells9, cellsE, cellsL] at g0 g1 g2 g3 g4 g5
    obtain ⟨i0, a0, b0, w0⟩ := DataW.trod_int Tryd.underlying22 g0
    obtain ⟨i1, a1, b1, _⟩ := DataW.trod_string Tryd.underlying9 g1
    obtain ⟨i2, a2, b2, w2⟩ := DataW.trod_int Tryd.underlying3 g2
    obtain ⟨i4, a4, b4, w4⟩ := DataW.trod_int Tryd.underlying3 g4
    obtain ⟨i5, a5, b5, w5⟩ := DataW.trod_int Tryd.underlying3 g5
    have hd : y.1 = .agg [y0.1, y1.1, y2.1, y3.1, y4.1, y5.1] := by rw [hxy]; rfl
    rw [hd] at hb
    simp only [Rows.uptoBulk, Rows.uptoBulkAll] at hb
    obtain ⟨L, hS, hE, hA⟩ := names_of (y := y3) g3 (by omega)
    have e1 : i1.data.toList.length = i1.size := by rw [Array.length_toList]; rfl
    have hb1 : Rows.uptoBulk y1.1 = i1.data.toList.length + 1 := by rw [b1]; simp only [Rows.uptoBulk]
    simp only [List.cons.injEq, and_true] at a0 a1 a2 a4 a5
    subst a0 a1 a2 a4 a5
    exact ⟨⟨i0, i1, i2, L, i4, i5⟩, v3, ⟨i64_of w0, i64_of w2, i64_of w4, i64_of w5, by show i1.size ≤ _; omega, hE, hA⟩, hS, rfl⟩

set_option maxRecDepth 20000 in
/-- an answer as it was handed in -/
theorem ans_of {H : Type} {enc : TypeId × Value → H} {W : World} {base : Nat} {v : Value} {d : DataW H} {ps : List MemPlace} (hv : Value.okWide Tryd.prog W .any base 25 v) (h : DataW.Trod enc Tryd.prog W 0 (fun _ => true) true 25 v d ps) (hb : Rows.uptoBulk d ≤ 1048576) :
    ∃ (code : Int) (rs : List Rz) (rv : Value), v = .agg #[.int .i64 code, rv] ∧ I64 code ∧ (∀ r ∈ rs, r.Ok) ∧ rs.length ≤ 1048576 ∧ SeeR W rv rs := by
  obtain ⟨cs, rfl, hcs⟩ := okWide_struct Tryd.underlying25 hv
  rw [cellsA] at hcs
  obtain ⟨x, y, rfl⟩ : ∃ x y, cs = #[x, y] := by
    obtain ⟨l⟩ := cs
    match l, hcs with
    | [x, y], _ => exact ⟨x, y, rfl⟩
  obtain ⟨fuel, hf⟩ := h
  obtain ⟨y0, y1, k, hxy, _, g0, g1⟩ := trod_struct2 Tryd.underlying25 hf
  simp [Value.cells, cellsE, cellsRs] at g0 g1
  obtain ⟨i0, a0, b0, w0⟩ := DataW.trod_int Tryd.underlying22 g0
  simp at a0
  subst a0
  simp only [Prod.mk.injEq] at hxy
  have hd := hxy.1
  subst hd
  simp only [Rows.uptoBulk, Rows.uptoBulkAll] at hb
  rcases open_slice Tryd.underlying23 g1 with ⟨hcs, _⟩ | ⟨z, len', cap', m, n, D, Pl, hcs, _, hl, hm, hmm, hx0, hx⟩
  · obtain rfl : y = .slice none 0 0 := by simpa using hcs
    exact ⟨i0, [], .slice none 0 0, rfl, i64_of w0, fun r hr => (by cases hr), by simp, ⟨none, 0, rfl, Nat.le_refl _, fun e => absurd rfl e⟩⟩
  · obtain rfl : y = .slice (some z) len' cap' := by simpa using hcs
    simp only [if_true] at hmm
    subst hmm
    have hy1 : y1.1 = .slice ((List.range len').map D) ((List.range (m - len')).map fun j => D (len' + j)) := by rw [hx0]
    rw [hy1] at hb
    simp only [Rows.uptoBulk] at hb
    have hlen : len' ≤ 1048576 := by
      have h1 := bulk_len D (fun i => bulk_pos _) (List.range len')
      rw [List.length_range] at h1
      omega
    have each : ∀ i, i < len' → ∃ r : Rz, r.Ok ∧ ∃ nv, SeeS W nv r.names ∧ ∃ cs', W.cells? 0 (z.add (i * 6)) 6 = some cs' ∧ cs' = [.int .i64 r.code, .string r.data, .int .i64 r.n, nv, .int .i64 r.kind, .int .i64 r.size] := by
      intro i hi
      obtain ⟨cs', h1, h2⟩ := hx i (by omega)
      rw [cellsR] at h1
      obtain ⟨_, hlen6, _⟩ := World.cells?_some h1
      have hbi : Rows.uptoBulk (D i) ≤ 1048576 := by
        have h3 := bulk_in (D i) ((List.range len').map D) (List.mem_map.2 ⟨i, List.mem_range.2 hi, rfl⟩)
        omega
      obtain ⟨r, nv, hok, hS, hc⟩ := res_of hlen6 h2 hbi
      exact ⟨r, hok, nv, hS, cs', h1, hc⟩
    obtain ⟨q, hq⟩ := choose_lt each
    refine ⟨i0, (List.range len').map q, .slice (some z) len' m, rfl, i64_of w0, fun r hr => ?_, by simpa using hlen, ⟨some z, m, by simp, by simp; omega, fun hne => ?_⟩⟩
    · obtain ⟨i, hi, rfl⟩ := List.mem_map.1 hr
      exact (hq i (List.mem_range.1 hi)).1
    · have hpos : 0 < len' := by
        rcases Nat.eq_zero_or_pos len' with h | h
        · subst h; simp at hne
        · exact h
      obtain ⟨b, off, spot⟩ := z
      obtain ⟨_, _, _, cs0, h0, hcs0⟩ := hq 0 hpos
      obtain ⟨_, hl0, hc0⟩ := World.cells?_some h0
      have hc00 := hc0 0 (by omega)
      rw [add_add, hcs0] at hc00
      have hc00 : _ = some _ := hc00
      have hspot : spot = none := by simpa [Addr.add] using World.cell?_spot hc00
      subst hspot
      refine ⟨b, off, rfl, ?_, fun i r hr => ?_⟩
      · rw [Addr.add_lit] at hc00
        exact block_lt_of_cell hc00
      · rw [List.getElem?_map] at hr
        obtain ⟨j, hj, rfl⟩ := Option.map_eq_some_iff.1 hr
        have hi := (List.getElem?_eq_some_iff.1 hj).1
        simp only [List.length_range] at hi
        rw [List.getElem?_range hi] at hj
        obtain rfl := Option.some.inj hj
        obtain ⟨_, nv, hS, cs', h1, h2⟩ := hq i hi
        obtain ⟨_, hl1, hc1⟩ := World.cells?_some h1
        subst h2
        have e := fun f (hf : f < 6) => hc1 f (by simpa using hf)
        have e0 := e 0 (by decide)
        have e1 := e 1 (by decide)
        have e2 := e 2 (by decide)
        have e3 := e 3 (by decide)
        have e4 := e 4 (by decide)
        have e5 := e 5 (by decide)
        rw [add_add, Addr.add_lit] at e0 e1 e2 e3 e4 e5
        simp only [← Nat.add_assoc] at e0 e1 e2 e3 e4 e5
        exact ⟨nv, hS, by simpa using e0, by simpa using e1, by simpa using e2, by simpa using e3, by simpa using e4, by simpa using e5⟩
end Go.Proofs.YtadhfhfnhcphiaaDoor.Sc
