import Derived.Test.YtckbbbcjpklnmaaDoorIxS
namespace Go.Proofs.YtckbbbcjpklnmaaDoor.Ix
open Go.RowKit Go.Lib Go.Deep

theorem make_bytes (n : Nat) (hn : n ≤ 100000000) (w : World) : (Instr.makeSlice 45 (.int .i64 0) (.int .i64 (n : Int))).run Tryd.prog w = .ok (.slice (some ⟨w.heap.size, 0, none⟩) 0 n) (w.alloc (.cells (madeCells #[.int .u8 0] n) 5)) := by
  obtain ⟨i0, hi, hz0, hz1, hz2⟩ := info_parts info5
  have h := run_make (P := Tryd.prog) w 45 5 i0 (.int .u8 0) Tryd.underlying45 hi hz0 .i64 .i64 0 n (by omega) (by omega) (by rw [hz2]; omega) (by omega)
  simpa [hz1, Value.cells] using h
/-- a new writer -/
theorem wr_new (V : World) (C : Nat) (hC : C ≤ 100000000) : ∃ V3 V4, V.alloc (.cells (madeCells #[.int .u8 0] C) 5) = V3 ∧ V3.alloc (.cells #[.slice (some ⟨V.heap.size, 0, none⟩) 0 C] 109) = V4 ∧ Below V.heap.size V V4 ∧ Wr V4 V.heap.size V3.heap.size (.slice (some ⟨V.heap.size, 0, none⟩) 0 C) [] ∧ V.heap.size ≤ V4.heap.size := by
  have h1 : Below V.heap.size V (V.alloc (.cells (madeCells #[.int .u8 0] C) 5)) := (Below.refl _ _).alloc (Nat.le_refl _) _
  have h2 : Below (V.alloc (.cells (madeCells #[.int .u8 0] C) 5)).heap.size (V.alloc (.cells (madeCells #[.int .u8 0] C) 5)) ((V.alloc (.cells (madeCells #[.int .u8 0] C) 5)).alloc (.cells #[.slice (some ⟨V.heap.size, 0, none⟩) 0 C] 109)) := (Below.refl _ _).alloc (Nat.le_refl _) _
  have h3 := h1.trans (h2.mono h1.size)
  have ho : World.ownsRow (V.alloc (.cells (madeCells #[.int .u8 0] C) 5)) V.heap.size 5 1 (.slice (some ⟨V.heap.size, 0, none⟩) 0 C) 0 [] := World.ownsRow_made V _ C (Nat.le_refl _) (by unfold maxLen; omega) (by simp [madeCells])
  exact ⟨_, _, rfl, rfl, h3, ⟨by simp, heap_new _ _, owns_below ho h2⟩, h3.size⟩
theorem six_at (sl fl dr mf ls pg i : Nat) (h : i < 6) : (#[.int .i64 (sl : Int), .int .i64 (fl : Int), .int .i64 (dr : Int), .int .i64 (mf : Int), .int .i64 (ls : Int), .int .i64 (pg : Int)] : Array Value)[i]? = some (.int .i64 (((Cn.ns ⟨sl, fl, dr, mf, ls, pg⟩).getD i 0 : Nat) : Int)) := by
  rcases (show i = 0 ∨ i = 1 ∨ i = 2 ∨ i = 3 ∨ i = 4 ∨ i = 5 by omega) with rfl | rfl | rfl | rfl | rfl | rfl <;> rfl
theorem ns_at (c : Cn) (i : Nat) (h : i < 6) : c.ns[i]? = some (c.ns.getD i 0) := by
  rw [List.getD_eq_getElem?_getD, List.getElem?_eq_getElem (by exact h)]
  rfl
theorem ns_le {c : Cn} (hc : c.In) (i : Nat) (h : i < 6) : c.ns.getD i 0 ≤ 65536 := by
  obtain ⟨sl, fl, dr, mf, ls, pg⟩ := c
  simp only [Cn.In] at hc
  rcases (show i = 0 ∨ i = 1 ∨ i = 2 ∨ i = 3 ∨ i = 4 ∨ i = 5 by omega) with rfl | rfl | rfl | rfl | rfl | rfl
  · show sl ≤ _; omega
  · show fl ≤ _; omega
  · show dr ≤ _; omega
  · show mf ≤ _; omega
  · show ls ≤ _; omega
  · show pg ≤ _; omega
set_option maxRecDepth 20000 in
set_option maxHeartbeats 2000000 in
theorem rootOf_any (c : Cn) (hc : c.In) (R : List Rf) (hR : R.length ≤ 1024) (hRf : ∀ r ∈ R, RfF r) (w : World) (av : Option Addr) (n k : Nat) (hS : See w 2 (.slice av n k) n (rfsC R)) (hn : R.length = n) (hpos : 0 < n) :
    Calls Tryd.prog 42 #[.agg (cfA c.cf ++ #[.slice av n k])] w fun e w' => e = .returned (.string (str (rootL c R))) ∧ Below w.heap.size w w' := by
  have hnl := fun i h => ns_le hc i h
  have hna := fun i h => ns_at c i h
  have hsx := six_at c.sl c.fl c.dr c.mf c.ls c.pg
  obtain ⟨sl, fl, dr, mf, ls, pg⟩ := c
  simp only at hsx
  have e0 : (Value.agg (cfA (Cn.cf ⟨sl, fl, dr, mf, ls, pg⟩) ++ #[.slice av n k])) = .agg #[.int .i64 (sl : Int), .int .i64 (fl : Int), .int .i64 (dr : Int), .int .i64 (mf : Int), .int .i64 (ls : Int), .int .i64 (pg : Int), .slice av n k] := rfl
  rw [e0]
  clear e0 hc
  obtain ⟨NS, hNS⟩ : ∃ NS, Cn.ns ⟨sl, fl, dr, mf, ls, pg⟩ = NS := ⟨_, rfl⟩
  rw [hNS] at hnl hna hsx
  have hRL : rootL ⟨sl, fl, dr, mf, ls, pg⟩ R = (([82] ++ NS.flatMap (bgL 4)) ++ bgL 2 n) ++ R.flatMap refL := by
    unfold rootL hedL
    rw [hNS, hn]
    simp only [List.append_assoc]
  have hNl : NS.length = 6 := by rw [← hNS]; rfl
  rw [hRL]
  clear hRL hNS
  obtain ⟨C, hC⟩ : ∃ C : Nat, (27 : Int) + 32 * (n : Int) = (C : Int) := ⟨27 + 32 * n, by omega⟩
  have hC2 : C ≤ 100000000 := by omega
  obtain ⟨V2, hV2, hb2, g0, g1⟩ := two_new w #[.int .i64 (sl : Int), .int .i64 (fl : Int), .int .i64 (dr : Int), .int .i64 (mf : Int), .int .i64 (ls : Int), .int .i64 (pg : Int), .slice av n k] #[.int .i64 (sl : Int), .int .i64 (fl : Int), .int .i64 (dr : Int), .int .i64 (mf : Int), .int .i64 (ls : Int), .int .i64 (pg : Int)] 38 23
  have hmk := make_bytes C hC2 V2
  obtain ⟨V3, V4, hV3, hV4, hb4, hW0, hs4⟩ := wr_new V2 C hC2
  rw [hV3] at hmk
  have HF : Hid (∀ X, Fr V2.heap.size V3.heap.size V4 X → Below w.heap.size w X ∧ V2.heap.size ≤ X.heap.size ∧ (X.cell? ⟨(w.heap.size + 1), 0, none⟩ = some (.int .i64 (sl : Int)) ∧ X.cell? ⟨(w.heap.size + 1), 1, none⟩ = some (.int .i64 (fl : Int)) ∧ X.cell? ⟨(w.heap.size + 1), 2, none⟩ = some (.int .i64 (dr : Int)) ∧ X.cell? ⟨(w.heap.size + 1), 3, none⟩ = some (.int .i64 (mf : Int)) ∧ X.cell? ⟨(w.heap.size + 1), 4, none⟩ = some (.int .i64 (ls : Int)) ∧ X.cell? ⟨(w.heap.size + 1), 5, none⟩ = some (.int .i64 (pg : Int))) ∧ X.cell? ⟨w.heap.size, 6, none⟩ = some (.slice av n k) ∧ See X 2 (.slice av n k) n (rfsC R) ∧ ∀ b off, av = some ⟨b, off, none⟩ → b < w.heap.size → Far X V2.heap.size V3.heap.size b) := fun X hX => by
    have hbX : Below V2.heap.size V4 X := hX.below hW0.hB hs4
    have hb0 : Below V2.heap.size V2 X := hb4.trans hbX
    have hbw : Below w.heap.size w X := hb2.trans (hb0.mono hb2.size)
    have l0 := heap_lt g0
    have l1 := heap_lt g1
    have k0 := (hb0.block _ l0).trans g0
    have k1 := (hb0.block _ l1).trans g1
    refine ⟨hbw, Nat.le_trans hs4 hX.size, ⟨(cell_of_heap k1).trans rfl, (cell_of_heap k1).trans rfl, (cell_of_heap k1).trans rfl, (cell_of_heap k1).trans rfl, (cell_of_heap k1).trans rfl, (cell_of_heap k1).trans rfl⟩, (cell_of_heap k0).trans rfl, hS.below hbw, fun b off _ hlt => ?_⟩
    have hb2s := hb2.size
    exact ⟨Nat.lt_of_lt_of_le hlt hbw.size, by have := hW0.hB; omega, .inl (by omega)⟩
  have HL : Hid (∀ b off, av = some ⟨b, off, none⟩ → 0 < n → b < w.heap.size) := fun b off e hpos => by
    obtain ⟨_, _, a', c', h1, h2, h3, h4⟩ := hS
    injection h1 with e1 _ _
    subst e1
    obtain ⟨b', off', e', hlt, _⟩ := h4 hpos
    rw [e] at e'
    injection e' with e'
    injection e' with e'
    omega
  obtain ⟨y0, y1, y2, y3, y4, y5⟩ : V2.cell? ⟨(w.heap.size + 1), 0, none⟩ = some (.int .i64 (sl : Int)) ∧ V2.cell? ⟨(w.heap.size + 1), 1, none⟩ = some (.int .i64 (fl : Int)) ∧ V2.cell? ⟨(w.heap.size + 1), 2, none⟩ = some (.int .i64 (dr : Int)) ∧ V2.cell? ⟨(w.heap.size + 1), 3, none⟩ = some (.int .i64 (mf : Int)) ∧ V2.cell? ⟨(w.heap.size + 1), 4, none⟩ = some (.int .i64 (ls : Int)) ∧ V2.cell? ⟨(w.heap.size + 1), 5, none⟩ = some (.int .i64 (pg : Int)) := ⟨(cell_of_heap g1).trans rfl, (cell_of_heap g1).trans rfl, (cell_of_heap g1).trans rfl, (cell_of_heap g1).trans rfl, (cell_of_heap g1).trans rfl, (cell_of_heap g1).trans rfl⟩
  have x6 : V2.cell? ⟨w.heap.size, 6, none⟩ = some (.slice av n k) := (cell_of_heap g0).trans rfl
  have K0 : Calls Tryd.prog 65 #[.pointer (some ⟨V3.heap.size, 0, none⟩), .int .i64 82, .int .i64 1] V4 fun e w' => e = .returned (.tuple #[]) ∧ Wt V4 w' V2.heap.size V3.heap.size ([] ++ bgL 1 82) := number_any 82 1 V2.heap.size V3.heap.size _ [] (by omega) (by omega) (by simp) V4 hW0 hs4
  rw [show ([] : List UInt8) ++ bgL 1 82 = [82] by decide] at K0
  have hB23 := hW0.hB
  have HSX : Hid _ := hsx
  have HNL : Hid (∀ (i : Nat), i < 6 → NS.getD i 0 ≤ 65536) := hnl
  have HNA : Hid (∀ (i : Nat), i < 6 → NS[i]? = some (NS.getD i 0)) := hna
  clear hb2 hb4 g0 g1 hS hW0 hs4 hsx hnl hna
  go_enter Tryd.func42, Tryd.ntmps42
  go_wp2_with fail
  refine K0.mono ?_
  rintro e w1 ⟨rfl, hF1, v1, hW1⟩
  obtain ⟨-, hs1, ⟨z0, z1, z2, z3, z4, z5⟩, -⟩ := HF.out w1 hF1
  obtain ⟨W5, hW5, hWr5, hF5, hfar5, hC5, hz5⟩ := hW1.box #[.int .i64 (sl : Int), .int .i64 (fl : Int), .int .i64 (dr : Int), .int .i64 (mf : Int), .int .i64 (ls : Int), .int .i64 (pg : Int)] 3 (by decide)
  have HF5 : Hid (∀ X, Fr V2.heap.size V3.heap.size W5 X → Fr V2.heap.size V3.heap.size V4 X ∧ V2.heap.size ≤ X.heap.size ∧ ∀ i, i < 6 → X.cell? ⟨w1.heap.size, i, none⟩ = some (.int .i64 ((NS.getD i 0 : Nat) : Int))) := fun X hX => by
    refine ⟨hF1.trans (hF5.trans hX), Nat.le_trans hs1 (Nat.le_trans hz5 hX.size), fun i hi => ?_⟩
    exact (cell_of_heap ((hfar5.keep hX).trans hC5)).trans (HSX.out i hi)
  have HW5 : Hid (Wr W5 V2.heap.size V3.heap.size v1 [82]) := hWr5
  clear K0 hW1 hF5 hfar5 hC5 hz5 HSX hWr5 hs1
  go_wp2_with fail
  clear z0 z1 z2 z3 z4 z5 y0 y1 y2 y3 y4 y5 x6 hmk hV2 hV3 hV4 hW5
  go_loopg [33] 6 (fun gk iv wr => ∃ i : Nat, i + gk = 6 ∧ iv = .int .i64 (i : Int) ∧ Hid (Wt W5 wr V2.heap.size V3.heap.size ([82] ++ (NS.take i).flatMap (bgL 4))))
  case atStart => exact ⟨0, by omega, rfl, ⟨Fr.refl _ _ _, v1, by rw [List.take_zero, List.flatMap_nil, List.append_nil]; exact HW5.out⟩⟩
  case round =>
    obtain ⟨i, hik, rfl, hT⟩ := hrel
    by_cases hlt : i < 6
    · have hltI : (i : Int) < 6 := by omega
      obtain ⟨hf, v2, hW2⟩ := hT.out
      obtain ⟨-, hs2, hcx⟩ := HF5.out wr hf
      have hx := hcx i hlt
      have hxl := HNL.out i hlt
      have hxa := HNA.out i hlt
      obtain ⟨x, hxx⟩ : ∃ x, NS.getD i 0 = x := ⟨_, rfl⟩
      rw [hxx] at hx hxl hxa
      have K := number_any x 4 V2.heap.size V3.heap.size v2 _ (by omega) (by omega) (by
        rw [List.length_append, flat_length (bgL 4) 4 _ (fun a _ => bgL_len 4 a), List.length_take, hNl]
        show 1 + _ ≤ _
        omega) wr hW2 hs2
      have HE : Hid (∀ w', Wt wr w' V2.heap.size V3.heap.size (([82] ++ (NS.take i).flatMap (bgL 4)) ++ bgL 4 x) → Wt W5 w' V2.heap.size V3.heap.size ([82] ++ (NS.take (i + 1)).flatMap (bgL 4))) := fun w' h => by
        refine Wt.ahead hf ?_
        rw [flat_take_succ (bgL 4) hxa, ← List.append_assoc]
        exact h
      clear hf hW2 hcx hxx hxa hT
      go_wp2_with fail
      refine K.mono ?_
      rintro e w2 ⟨rfl, hT2⟩
      have HT : Hid _ := HE.out w2 hT2
      clear hT2 HE K
      go_wp2
      go_roundg (gk - 1)
      case measure => omega
      case rel => exact ⟨i + 1, by omega, rfl, HT⟩
    · obtain rfl : i = 6 := by omega
      obtain ⟨hf, v2, hW2⟩ := hT.out
      rw [List.take_of_length_le (by omega)] at hW2
      obtain ⟨hf4, hs2, -⟩ := HF5.out wr hf
      obtain ⟨-, -, -, x6, -⟩ := HF.out wr hf4
      have hlen6 : ([82] ++ NS.flatMap (bgL 4)).length = 25 := by
        rw [List.length_append, flat_length (bgL 4) 4 _ (fun a _ => bgL_len 4 a), hNl]
        rfl
      have K := number_any n 2 V2.heap.size V3.heap.size v2 _ (by omega) (by omega) (by rw [hlen6]; omega) wr hW2 hs2
      have HK : Hid (∀ w', Wt wr w' V2.heap.size V3.heap.size (([82] ++ NS.flatMap (bgL 4)) ++ bgL 2 n) → w'.cell? ⟨w.heap.size, 6, none⟩ = some (.slice av n k) ∧ Calls Tryd.prog 66 #[.pointer (some ⟨V3.heap.size, 0, none⟩), .slice av n k, .func (.func 67) #[] #[]] w' fun e w'' => e = .returned (.tuple #[]) ∧ ∃ a9 n9 c9, w''.cell? ⟨V3.heap.size, 0, none⟩ = some (.slice a9 n9 c9) ∧ (convert 45 9 (.slice a9 n9 c9)).run Tryd.prog w'' = .ok (.string (str ((([82] ++ NS.flatMap (bgL 4)) ++ bgL 2 n) ++ R.flatMap refL))) w'' ∧ Below w.heap.size w w'') := fun w' h => by
        obtain ⟨h1, v3, hW3⟩ := h
        have h4 := hf4.trans h1
        obtain ⟨q1, q2, -, q4, q5, q6⟩ := HF.out w' h4
        refine ⟨q4, ?_⟩
        refine (wrows_ref R (fun r hr => by have := hRf r hr; exact ⟨by have := this.1; omega, by have := this.2; omega⟩) _ _ v3 _ (by
          rw [flat_length refL 32 R (fun r hr => refL_len (hRf r hr)), List.length_append, hlen6, bgL_len]
          omega) w' av n k q5 hn (by omega) (fun b off e => q6 b off e (HL.out b off e hpos)) hW3 q2).mono ?_
        rintro e w'' ⟨rfl, h5, v4, hW4⟩
        obtain ⟨a9, c9, rfl⟩ := owns_form hW4.ho
        refine ⟨rfl, a9, _, c9, hW4.cell.1, convert_own (P := Tryd.prog) w'' 45 9 5 _ _ _ Tryd.underlying45 Tryd.underlying5 Tryd.underlying9 hW4.ho, ?_⟩
        exact (HF.out w'' (h4.trans h5)).1
      clear hf hW2 hf4 hs2 HF HF5 HNL HNA HW5 hT HL hRf hlen6 hF1
      go_wp2_with fail
      refine K.mono ?_
      rintro e w6 ⟨rfl, hT6⟩
      obtain ⟨x66, K6⟩ := HK.out w6 hT6
      clear hT6 HK K
      go_wp2_with fail
      refine K6.mono ?_
      rintro e w7 ⟨rfl, a9, n9, c9, hc7, hcv, hb7⟩
      have HB : Hid _ := hb7
      clear hb7 K6
      go_wp2
      go_ret
      exact ⟨by simp only [List.append_assoc]; rfl, HB.out⟩
end Go.Proofs.YtckbbbcjpklnmaaDoor.Ix
