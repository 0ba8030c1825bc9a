import Derived.Test.YtengclnahppmhaaGreatDoorChaG
import Derived.Test.YtengclnahppmhaaGreatDoorBaseM
namespace Go.Proofs.YtengclnahppmhaaGreatDoor.Cha
open Go.RowKit Go.Lib Go.Deep

/-- the four places of a quarter round, in their block -/
structure QC (g p0 p1 p2 p3 : Nat) (W : World) : Prop where
  c0 : W.cell? ⟨g, 0, none⟩ = some (.int .i64 (p0 : Int))
  c1 : W.cell? ⟨g, 1, none⟩ = some (.int .i64 (p1 : Int))
  c2 : W.cell? ⟨g, 2, none⟩ = some (.int .i64 (p2 : Int))
  c3 : W.cell? ⟨g, 3, none⟩ = some (.int .i64 (p3 : Int))
theorem QC.put {g p0 p1 p2 p3 : Nat} {W : World} (h : QC g p0 p1 p2 p3 W) {B : Nat} (hB : g ≠ B) (i : Nat) (v : Value) : QC g p0 p1 p2 p3 (W.setCell ⟨B, i, none⟩ v) :=
  have e : ∀ j, (⟨g, j, none⟩ : Addr) ≠ ⟨B, i, none⟩ := fun j h => hB (by cases h; rfl)
  ⟨(World.cell?_setCell_other W _ _ _ (e 0).symm).trans h.c0, (World.cell?_setCell_other W _ _ _ (e 1).symm).trans h.c1, (World.cell?_setCell_other W _ _ _ (e 2).symm).trans h.c2, (World.cell?_setCell_other W _ _ _ (e 3).symm).trans h.c3⟩
theorem put4_eq (st : List Nat) (p0 p1 p2 p3 a b c d : Nat) : put4 st p0 p1 p2 p3 ⟨a, b, c, d⟩ = (((st.set p0 a).set p1 b).set p2 c).set p3 d := rfl

set_option maxRecDepth 20000 in
set_option maxHeartbeats 8000000 in
theorem mixed_any (s : List Nat) (hs : St s) (w : World) (hT : CTabs w) (h3 : 8 ≤ w.heap.size) :
    Calls Tryz.prog 156 #[.agg (u32s s)] w fun e w' => e = .returned (.agg (u32s (mixedL s))) ∧ Below w.heap.size w w' := by
  have HPL : Hid (∀ n : Nat, n < 8 → ∀ W, (Instr.index 208 (.agg (i64L plc).toArray) (.int .i64 (n : Int))).run Tryz.prog W = .ok (.agg #[.int .i64 ((plc.getD (4 * n) 0 : Nat) : Int), .int .i64 ((plc.getD (4 * n + 1) 0 : Nat) : Int), .int .i64 ((plc.getD (4 * n + 2) 0 : Nat) : Int), .int .i64 ((plc.getD (4 * n + 3) 0 : Nat) : Int)]) W) := fun n hn W =>
    index_agg_row W 208 207 8 4 _ .i64 n _ Tryz.underlying208 _ Tryz.underlying207 rfl size4i hn (plc_rows n hn)
  have hl32 : (Tryz.prog.info? 208).map (·.size) = some (i64L plc).length := size8x4
  have HDR : Hid (∀ W : World, CTabs W → W.rangeAt 6 0 (i64L plc)) := fun W h => h.dr
  obtain ⟨PL, hPL⟩ : ∃ PL, i64L plc = PL := ⟨_, rfl⟩
  rw [hPL] at HPL hl32 HDR
  clear hPL
  go_enter Tryz.func156, Tryz.ntmps156
  go_wp2
  go_loopg [5] 10 (fun gk i wr => ∃ r : Nat, r + gk = 10 ∧ i = .int .i64 r ∧ Mz w wr (doubles s r))
  case atStart => exact ⟨0, by omega, rfl, Mz.start w s _ rfl hT h3⟩
  case round =>
    obtain ⟨r, hr, rfl, HM⟩ := hrel
    have HR : Hid (r + gk = 10) := hr
    have hr' : r ≤ 10 := by omega
    clear hr
    by_cases hlt : r < 10
    · have hltI : (r : Int) < 10 := by omega
      have hdr := HDR.out _ HM.tabs
      have HD : Hid (doubles s (r + 1) = qsteps (doubles s r) 8) := rfl
      have HS := hs.doubles r
      revert HM HD HS
      generalize doubles s r = s1
      intro HM HD HS
      go_wp2_with (refine wpList_load_mid rfl 208 (.global 6) rfl 6 0 rfl _ _ hdr Tryz.underlying208 rfl hl32 ?_)
      clear hdr
      go_loopg [8] 8 (fun gj j wx => ∃ n : Nat, n + gj = 8 ∧ j = .int .i64 n ∧ Mz w wx (qsteps s1 n))
      case atStart => exact ⟨0, by omega, rfl, HM⟩
      case round =>
        clear HM
        obtain ⟨n, hn, rfl, HM⟩ := hrel
        have HN : Hid (n + gk = 8) := hn
        have hn' : n ≤ 8 := by omega
        clear hn
        by_cases hnl : n < 8
        · have hnI : (n : Int) < 8 := by omega
          have hix := HPL.out n hnl
          have HQ : Hid (qsteps s1 (n + 1) = qstep (qsteps s1 n) n) := rfl
          have HST := HS.qsteps n
          have HAP := plc_apart n hnl
          have lp0 := plc_lt (4 * n)
          have lp1 := plc_lt (4 * n + 1)
          have lp2 := plc_lt (4 * n + 2)
          have lp3 := plc_lt (4 * n + 3)
          have HQS : Hid (∀ st : List Nat, qstep st n = put4 st (plc.getD (4 * n) 0) (plc.getD (4 * n + 1) 0) (plc.getD (4 * n + 2) 0) (plc.getD (4 * n + 3) 0) (qr (four st (plc.getD (4 * n) 0) (plc.getD (4 * n + 1) 0) (plc.getD (4 * n + 2) 0) (plc.getD (4 * n + 3) 0)))) := fun _ => rfl
          revert hix HAP lp0 lp1 lp2 lp3 HQS HM HQ HST
          generalize plc.getD (4 * n) 0 = p0
          generalize plc.getD (4 * n + 1) 0 = p1
          generalize plc.getD (4 * n + 2) 0 = p2
          generalize plc.getD (4 * n + 3) 0 = p3
          generalize qsteps s1 n = st
          intro HM hix HQ HST HAP lp0 lp1 lp2 lp3 HQS
          obtain ⟨n01, n02, n03, n12, n13, n23⟩ := HAP
          have HZ : Mz w (wr.alloc (.cells #[.int .i64 (p0 : Int), .int .i64 (p1 : Int), .int .i64 (p2 : Int), .int .i64 (p3 : Int)] 207)) st := HM.alloc _
          have hq := heap_new wr (.cells #[.int .i64 (p0 : Int), .int .i64 (p1 : Int), .int .i64 (p2 : Int), .int .i64 (p3 : Int)] 207)
          have HLT : Hid (w.heap.size < wr.heap.size) := heap_lt HM.own
          clear HM
          go_wp2_with fail
          refine with_world (R := fun W => Code.wp _ _ _ _ W) (Q := fun W => Mz w W st ∧ W.heap[wr.heap.size]? = some (.cells #[.int .i64 (p0 : Int), .int .i64 (p1 : Int), .int .i64 (p2 : Int), .int .i64 (p3 : Int)] 207 (0, 0))) _ ⟨HZ, hq⟩ ?_
          clear HZ hq
          rintro W ⟨HZ, hq⟩
          have HGL0 : w.heap.size < wr.heap.size := HLT.out
          obtain ⟨g, hg⟩ : ∃ g, wr.heap.size = g := ⟨_, rfl⟩
          rw [hg] at hq HGL0 ⊢
          have HGL : Hid (w.heap.size < g) := HGL0
          clear HGL0
          have q0 : W.cell? ⟨g, 0, none⟩ = some (.int .i64 (p0 : Int)) := (cell_of_heap hq).trans rfl
          have q1 : W.cell? ⟨g, 1, none⟩ = some (.int .i64 (p1 : Int)) := (cell_of_heap hq).trans rfl
          have q2 : W.cell? ⟨g, 2, none⟩ = some (.int .i64 (p2 : Int)) := (cell_of_heap hq).trans rfl
          have q3 : W.cell? ⟨g, 3, none⟩ = some (.int .i64 (p3 : Int)) := (cell_of_heap hq).trans rfl
          have c0 := HZ.cell p0 (by rw [HST.len]; exact lp0)
          have c1 := HZ.cell p1 (by rw [HST.len]; exact lp1)
          have c2 := HZ.cell p2 (by rw [HST.len]; exact lp2)
          have c3 := HZ.cell p3 (by rw [HST.len]; exact lp3)
          have hok := HST.four p0 p1 p2 p3
          have HF : Hid (four st p0 p1 p2 p3 = ⟨st.getD p0 0, st.getD p1 0, st.getD p2 0, st.getD p3 0⟩) := rfl
          rw [HF.out] at hok
          have HF2 : Hid (∀ x, qr ⟨st.getD p0 0, st.getD p1 0, st.getD p2 0, st.getD p3 0⟩ = x → qstep st n = put4 st p0 p1 p2 p3 x) := fun x hx => by rw [HQS.out, HF.out, hx]
          clear HF HQS
          revert c0 c1 c2 c3 hok HF2
          generalize st.getD p0 0 = a
          generalize st.getD p1 0 = b
          generalize st.getD p2 0 = c
          generalize st.getD p3 0 = d
          intro c0 c1 c2 c3 hok HF2
          have hcall := fun W => quarter_any ⟨a, b, c, d⟩ hok W
          have hok2 := qr_OK hok
          obtain ⟨y, hy⟩ : ∃ y, qr ⟨a, b, c, d⟩ = y := ⟨_, rfl⟩
          have HF3 : Hid (qstep st n = put4 st p0 p1 p2 p3 y) := HF2.out y hy
          rw [hy] at hcall hok2
          clear HF2 hy
          obtain ⟨a', b', c', d'⟩ := y
          dsimp only at hcall
          have hgB : g ≠ w.heap.size := by have h1 := heap_lt HZ.own; have h2 := HGL.out; omega
          obtain ⟨B, hB⟩ : ∃ B, w.heap.size = B := ⟨_, rfl⟩
          rw [hB] at hgB c0 c1 c2 c3
          have i0 : (p0 : Int) < 16 := by omega
          have i1 : (p1 : Int) < 16 := by omega
          have i2 : (p2 : Int) < 16 := by omega
          have i3 : (p3 : Int) < 16 := by omega
          have hty : ∀ ty ∈ [141], ∃ kd, Tryz.prog.underlying ty = some (.int kd) := by
            intro ty h
            obtain rfl : ty = 141 := by simpa using h
            exact ⟨_, Tryz.underlying141⟩
          have hS0 : QC g p0 p1 p2 p3 W.drew := ⟨q0, q1, q2, q3⟩
          rw [hB]
          refine wp_region_held_drew (S := QC g p0 p1 p2 p3) (by kernel_rfl) hS0 ?_
          intro hS
          have HV := HZ.drew
          have c0' : W.drew.cell? ⟨B, p0, none⟩ = some (.int .u32 (a : Int)) := c0
          have c1' : W.drew.cell? ⟨B, p1, none⟩ = some (.int .u32 (b : Int)) := c1
          have c2' : W.drew.cell? ⟨B, p2, none⟩ = some (.int .u32 (c : Int)) := c2
          have c3' : W.drew.cell? ⟨B, p3, none⟩ = some (.int .u32 (d : Int)) := c3
          clear hS0 HZ c0 c1 c2 c3 q0 q1 q2 q3 hq
          revert hS HV c0' c1' c2' c3'
          generalize W.drew = V
          intro hS HZ c0 c1 c2 c3
          refine wpAnyH_take (i := 0) (oi := { dst := some 12, op := .indexAddr 207 (.tmp 4) (.const (.int .i64 0)), type := 0, pos := _, after := _, guard := none }) (v := .pointer (some ⟨g, 0, none⟩)) rfl (by kernel_rfl) (by kernel_rfl) (by kernel_rfl) (fun _ _ _ h => h) (Or.inl ⟨by rfl, by intro x _; go_simp⟩) hS ?_
          (try simp only [Act.put, List.setIfInBounds_toArray, List.set_cons_zero, List.set_cons_succ])
          refine wpAnyH_take (i := 1) (oi := { dst := some 13, op := .load 3 (.tmp 12), type := 3, pos := _, after := _, guard := none }) (v := .int .i64 (p0 : Int)) rfl (by kernel_rfl) (by kernel_rfl) (by kernel_rfl) (fun _ _ _ h => h) (Or.inl ⟨by rfl, fun x hx => run_load_one 3 (.tmp 12) rfl g 0 _ (by simp [Act.eval]) .i64 Tryz.underlying3 x hx.c0⟩) hS ?_
          (try simp only [Act.put, List.setIfInBounds_toArray, List.set_cons_zero, List.set_cons_succ])
          refine wpAnyH_take (i := 2) (oi := { dst := some 14, op := .indexAddr 207 (.tmp 4) (.const (.int .i64 1)), type := 0, pos := _, after := _, guard := none }) (v := .pointer (some ⟨g, 1, none⟩)) rfl (by kernel_rfl) (by kernel_rfl) (by kernel_rfl) (fun _ _ _ h => h) (Or.inl ⟨by rfl, by intro x _; go_simp⟩) hS ?_
          (try simp only [Act.put, List.setIfInBounds_toArray, List.set_cons_zero, List.set_cons_succ])
          refine wpAnyH_take (i := 3) (oi := { dst := some 15, op := .load 3 (.tmp 14), type := 3, pos := _, after := _, guard := none }) (v := .int .i64 (p1 : Int)) rfl (by kernel_rfl) (by kernel_rfl) (by kernel_rfl) (fun _ _ _ h => h) (Or.inl ⟨by rfl, fun x hx => run_load_one 3 (.tmp 14) rfl g 1 _ (by simp [Act.eval]) .i64 Tryz.underlying3 x hx.c1⟩) hS ?_
          (try simp only [Act.put, List.setIfInBounds_toArray, List.set_cons_zero, List.set_cons_succ])
          refine wpAnyH_take (i := 4) (oi := { dst := some 16, op := .indexAddr 207 (.tmp 4) (.const (.int .i64 2)), type := 0, pos := _, after := _, guard := none }) (v := .pointer (some ⟨g, 2, none⟩)) rfl (by kernel_rfl) (by kernel_rfl) (by kernel_rfl) (fun _ _ _ h => h) (Or.inl ⟨by rfl, by intro x _; go_simp⟩) hS ?_
          (try simp only [Act.put, List.setIfInBounds_toArray, List.set_cons_zero, List.set_cons_succ])
          refine wpAnyH_take (i := 5) (oi := { dst := some 17, op := .load 3 (.tmp 16), type := 3, pos := _, after := _, guard := none }) (v := .int .i64 (p2 : Int)) rfl (by kernel_rfl) (by kernel_rfl) (by kernel_rfl) (fun _ _ _ h => h) (Or.inl ⟨by rfl, fun x hx => run_load_one 3 (.tmp 16) rfl g 2 _ (by simp [Act.eval]) .i64 Tryz.underlying3 x hx.c2⟩) hS ?_
          (try simp only [Act.put, List.setIfInBounds_toArray, List.set_cons_zero, List.set_cons_succ])
          refine wpAnyH_take (i := 6) (oi := { dst := some 18, op := .indexAddr 207 (.tmp 4) (.const (.int .i64 3)), type := 0, pos := _, after := _, guard := none }) (v := .pointer (some ⟨g, 3, none⟩)) rfl (by kernel_rfl) (by kernel_rfl) (by kernel_rfl) (fun _ _ _ h => h) (Or.inl ⟨by rfl, by intro x _; go_simp⟩) hS ?_
          (try simp only [Act.put, List.setIfInBounds_toArray, List.set_cons_zero, List.set_cons_succ])
          refine wpAnyH_take (i := 7) (oi := { dst := some 19, op := .load 3 (.tmp 18), type := 3, pos := _, after := _, guard := none }) (v := .int .i64 (p3 : Int)) rfl (by kernel_rfl) (by kernel_rfl) (by kernel_rfl) (fun _ _ _ h => h) (Or.inl ⟨by rfl, fun x hx => run_load_one 3 (.tmp 18) rfl g 3 _ (by simp [Act.eval]) .i64 Tryz.underlying3 x hx.c3⟩) hS ?_
          (try simp only [Act.put, List.setIfInBounds_toArray, List.set_cons_zero, List.set_cons_succ])
          refine wpAnyH_take (i := 8) (oi := { dst := some 20, op := .indexAddr 207 (.tmp 4) (.const (.int .i64 0)), type := 0, pos := _, after := _, guard := none }) (v := .pointer (some ⟨g, 0, none⟩)) rfl (by kernel_rfl) (by kernel_rfl) (by kernel_rfl) (fun _ _ _ h => h) (Or.inl ⟨by rfl, by intro x _; go_simp⟩) hS ?_
          (try simp only [Act.put, List.setIfInBounds_toArray, List.set_cons_zero, List.set_cons_succ])
          refine wpAnyH_take (i := 9) (oi := { dst := some 21, op := .load 3 (.tmp 20), type := 3, pos := _, after := _, guard := none }) (v := .int .i64 (p0 : Int)) rfl (by kernel_rfl) (by kernel_rfl) (by kernel_rfl) (fun _ _ _ h => h) (Or.inl ⟨by rfl, fun x hx => run_load_one 3 (.tmp 20) rfl g 0 _ (by simp [Act.eval]) .i64 Tryz.underlying3 x hx.c0⟩) hS ?_
          (try simp only [Act.put, List.setIfInBounds_toArray, List.set_cons_zero, List.set_cons_succ])
          refine wpAnyH_take (i := 10) (oi := { dst := some 22, op := .indexAddr 181 (.tmp 1) (.tmp 21), type := 0, pos := _, after := _, guard := none }) (v := .pointer (some ⟨B, p0, none⟩)) rfl (by kernel_rfl) (by kernel_rfl) (by kernel_rfl) (fun _ _ _ h => h) (Or.inl ⟨by rfl, by intro x _; go_simp⟩) hS ?_
          (try simp only [Act.put, List.setIfInBounds_toArray, List.set_cons_zero, List.set_cons_succ])
          refine wpAnyH_take (i := 12) (oi := { dst := some 24, op := .indexAddr 207 (.tmp 4) (.const (.int .i64 1)), type := 0, pos := _, after := _, guard := none }) (v := .pointer (some ⟨g, 1, none⟩)) rfl (by kernel_rfl) (by kernel_rfl) (by kernel_rfl) (fun _ _ _ h => h) (Or.inl ⟨by rfl, by intro x _; go_simp⟩) hS ?_
          (try simp only [Act.put, List.setIfInBounds_toArray, List.set_cons_zero, List.set_cons_succ])
          refine wpAnyH_take (i := 13) (oi := { dst := some 25, op := .load 3 (.tmp 24), type := 3, pos := _, after := _, guard := none }) (v := .int .i64 (p1 : Int)) rfl (by kernel_rfl) (by kernel_rfl) (by kernel_rfl) (fun _ _ _ h => h) (Or.inl ⟨by rfl, fun x hx => run_load_one 3 (.tmp 24) rfl g 1 _ (by simp [Act.eval]) .i64 Tryz.underlying3 x hx.c1⟩) hS ?_
          (try simp only [Act.put, List.setIfInBounds_toArray, List.set_cons_zero, List.set_cons_succ])
          refine wpAnyH_take (i := 14) (oi := { dst := some 26, op := .indexAddr 181 (.tmp 1) (.tmp 25), type := 0, pos := _, after := _, guard := none }) (v := .pointer (some ⟨B, p1, none⟩)) rfl (by kernel_rfl) (by kernel_rfl) (by kernel_rfl) (fun _ _ _ h => h) (Or.inl ⟨by rfl, by intro x _; go_simp⟩) hS ?_
          (try simp only [Act.put, List.setIfInBounds_toArray, List.set_cons_zero, List.set_cons_succ])
          refine wpAnyH_take (i := 16) (oi := { dst := some 28, op := .indexAddr 207 (.tmp 4) (.const (.int .i64 2)), type := 0, pos := _, after := _, guard := none }) (v := .pointer (some ⟨g, 2, none⟩)) rfl (by kernel_rfl) (by kernel_rfl) (by kernel_rfl) (fun _ _ _ h => h) (Or.inl ⟨by rfl, by intro x _; go_simp⟩) hS ?_
          (try simp only [Act.put, List.setIfInBounds_toArray, List.set_cons_zero, List.set_cons_succ])
          refine wpAnyH_take (i := 17) (oi := { dst := some 29, op := .load 3 (.tmp 28), type := 3, pos := _, after := _, guard := none }) (v := .int .i64 (p2 : Int)) rfl (by kernel_rfl) (by kernel_rfl) (by kernel_rfl) (fun _ _ _ h => h) (Or.inl ⟨by rfl, fun x hx => run_load_one 3 (.tmp 28) rfl g 2 _ (by simp [Act.eval]) .i64 Tryz.underlying3 x hx.c2⟩) hS ?_
          (try simp only [Act.put, List.setIfInBounds_toArray, List.set_cons_zero, List.set_cons_succ])
          refine wpAnyH_take (i := 18) (oi := { dst := some 30, op := .indexAddr 181 (.tmp 1) (.tmp 29), type := 0, pos := _, after := _, guard := none }) (v := .pointer (some ⟨B, p2, none⟩)) rfl (by kernel_rfl) (by kernel_rfl) (by kernel_rfl) (fun _ _ _ h => h) (Or.inl ⟨by rfl, by intro x _; go_simp⟩) hS ?_
          (try simp only [Act.put, List.setIfInBounds_toArray, List.set_cons_zero, List.set_cons_succ])
          refine wpAnyH_take (i := 20) (oi := { dst := some 32, op := .indexAddr 207 (.tmp 4) (.const (.int .i64 3)), type := 0, pos := _, after := _, guard := none }) (v := .pointer (some ⟨g, 3, none⟩)) rfl (by kernel_rfl) (by kernel_rfl) (by kernel_rfl) (fun _ _ _ h => h) (Or.inl ⟨by rfl, by intro x _; go_simp⟩) hS ?_
          (try simp only [Act.put, List.setIfInBounds_toArray, List.set_cons_zero, List.set_cons_succ])
          refine wpAnyH_take (i := 21) (oi := { dst := some 33, op := .load 3 (.tmp 32), type := 3, pos := _, after := _, guard := none }) (v := .int .i64 (p3 : Int)) rfl (by kernel_rfl) (by kernel_rfl) (by kernel_rfl) (fun _ _ _ h => h) (Or.inl ⟨by rfl, fun x hx => run_load_one 3 (.tmp 32) rfl g 3 _ (by simp [Act.eval]) .i64 Tryz.underlying3 x hx.c3⟩) hS ?_
          (try simp only [Act.put, List.setIfInBounds_toArray, List.set_cons_zero, List.set_cons_succ])
          refine wpAnyH_take (i := 22) (oi := { dst := some 34, op := .indexAddr 181 (.tmp 1) (.tmp 33), type := 0, pos := _, after := _, guard := none }) (v := .pointer (some ⟨B, p3, none⟩)) rfl (by kernel_rfl) (by kernel_rfl) (by kernel_rfl) (fun _ _ _ h => h) (Or.inl ⟨by rfl, by intro x _; go_simp⟩) hS ?_
          (try simp only [Act.put, List.setIfInBounds_toArray, List.set_cons_zero, List.set_cons_succ])
          refine held_load (tys := [141]) (i := 11) (oi := { dst := some 23, op := .load 141 (.tmp 22), type := 141, pos := _, after := _, guard := none }) (v := .int .u32 (a : Int)) rfl (by kernel_rfl) (by kernel_rfl) hty (by kernel_rfl) (by kernel_rfl) (fun _ _ _ h => h) (Or.inl ⟨by rfl, fun x hx => by rw [hx]; exact run_load_one 141 (.tmp 22) rfl B p0 _ (by simp [Act.eval]) .u32 Tryz.underlying141 V c0⟩) hS ?_
          (try simp only [Act.put, List.setIfInBounds_toArray, List.set_cons_zero, List.set_cons_succ])
          refine held_load (tys := [141]) (i := 15) (oi := { dst := some 27, op := .load 141 (.tmp 26), type := 141, pos := _, after := _, guard := none }) (v := .int .u32 (b : Int)) rfl (by kernel_rfl) (by kernel_rfl) hty (by kernel_rfl) (by kernel_rfl) (fun _ _ _ h => h) (Or.inl ⟨by rfl, fun x hx => by rw [hx]; exact run_load_one 141 (.tmp 26) rfl B p1 _ (by simp [Act.eval]) .u32 Tryz.underlying141 V c1⟩) hS ?_
          (try simp only [Act.put, List.setIfInBounds_toArray, List.set_cons_zero, List.set_cons_succ])
          refine held_load (tys := [141]) (i := 19) (oi := { dst := some 31, op := .load 141 (.tmp 30), type := 141, pos := _, after := _, guard := none }) (v := .int .u32 (c : Int)) rfl (by kernel_rfl) (by kernel_rfl) hty (by kernel_rfl) (by kernel_rfl) (fun _ _ _ h => h) (Or.inl ⟨by rfl, fun x hx => by rw [hx]; exact run_load_one 141 (.tmp 30) rfl B p2 _ (by simp [Act.eval]) .u32 Tryz.underlying141 V c2⟩) hS ?_
          (try simp only [Act.put, List.setIfInBounds_toArray, List.set_cons_zero, List.set_cons_succ])
          refine held_load (tys := [141]) (i := 23) (oi := { dst := some 35, op := .load 141 (.tmp 34), type := 141, pos := _, after := _, guard := none }) (v := .int .u32 (d : Int)) rfl (by kernel_rfl) (by kernel_rfl) hty (by kernel_rfl) (by kernel_rfl) (fun _ _ _ h => h) (Or.inl ⟨by rfl, fun x hx => by rw [hx]; exact run_load_one 141 (.tmp 34) rfl B p3 _ (by simp [Act.eval]) .u32 Tryz.underlying141 V c3⟩) hS ?_
          (try simp only [Act.put, List.setIfInBounds_toArray, List.set_cons_zero, List.set_cons_succ])
          refine wpAnyH_ready (rs := [24]) (by kernel_rfl) (by simp) ?_
          refine AllReadyH.cons (o := { dst := some 36, op := .call { callee := .value (.func 165), args := #[.tmp 23, .tmp 27, .tmp 31, .tmp 35], argTypes := #[141, 141, 141, 141] }, type := _, pos := _, after := _, guard := none }) rfl (fun K hK => ?_) AllReadyH.nil
          go_simp
          refine (hcall _).mono ?_
          rintro e w5 ⟨rfl, rfl⟩
          refine hK.out _ _ hS (fun _ => ?_)
          clear hK K hcall c0 c1 c2 c3
          (try simp only [Act.put, List.setIfInBounds_toArray, List.set_cons_zero, List.set_cons_succ])
          refine wpAnyH_take (i := 25) (oi := { dst := some 11, op := .move (.tmp 36), type := _, pos := _, after := _, guard := none }) (v := .tuple #[.int .u32 (a' : Int), .int .u32 (b' : Int), .int .u32 (c' : Int), .int .u32 (d' : Int)]) rfl (by kernel_rfl) (by kernel_rfl) (by kernel_rfl) (fun _ _ _ h => h) (Or.inl ⟨by rfl, by intro x _; go_simp⟩) hS ?_
          (try simp only [Act.put, List.setIfInBounds_toArray, List.set_cons_zero, List.set_cons_succ])
          refine wpAnyH_take (i := 26) (oi := { dst := some 37, op := .extract (.tmp 11) 0, type := 141, pos := _, after := _, guard := none }) (v := .int .u32 (a' : Int)) rfl (by kernel_rfl) (by kernel_rfl) (by kernel_rfl) (fun _ _ _ h => h) (Or.inl ⟨by rfl, by intro x _; go_simp⟩) hS ?_
          (try simp only [Act.put, List.setIfInBounds_toArray, List.set_cons_zero, List.set_cons_succ])
          refine wpAnyH_take (i := 27) (oi := { dst := some 38, op := .extract (.tmp 11) 1, type := 141, pos := _, after := _, guard := none }) (v := .int .u32 (b' : Int)) rfl (by kernel_rfl) (by kernel_rfl) (by kernel_rfl) (fun _ _ _ h => h) (Or.inl ⟨by rfl, by intro x _; go_simp⟩) hS ?_
          (try simp only [Act.put, List.setIfInBounds_toArray, List.set_cons_zero, List.set_cons_succ])
          refine wpAnyH_take (i := 28) (oi := { dst := some 39, op := .extract (.tmp 11) 2, type := 141, pos := _, after := _, guard := none }) (v := .int .u32 (c' : Int)) rfl (by kernel_rfl) (by kernel_rfl) (by kernel_rfl) (fun _ _ _ h => h) (Or.inl ⟨by rfl, by intro x _; go_simp⟩) hS ?_
          (try simp only [Act.put, List.setIfInBounds_toArray, List.set_cons_zero, List.set_cons_succ])
          refine wpAnyH_take (i := 29) (oi := { dst := some 40, op := .extract (.tmp 11) 3, type := 141, pos := _, after := _, guard := none }) (v := .int .u32 (d' : Int)) rfl (by kernel_rfl) (by kernel_rfl) (by kernel_rfl) (fun _ _ _ h => h) (Or.inl ⟨by rfl, by intro x _; go_simp⟩) hS ?_
          (try simp only [Act.put, List.setIfInBounds_toArray, List.set_cons_zero, List.set_cons_succ])
          have c0 := HZ.cell p0 (by rw [HST.len]; exact lp0)
          have f0 := HZ.frozen p0
          rw [hB] at c0 f0
          refine wpAnyH_take (i := 30) (oi := { dst := some 41, op := .indexAddr 181 (.tmp 1) (.tmp 13), type := 0, pos := _, after := _, guard := none }) (v := .pointer (some ⟨B, p0, none⟩)) rfl (by kernel_rfl) (by kernel_rfl) (by kernel_rfl) (fun _ _ _ h => h) (Or.inl ⟨by rfl, by intro x _; go_simp⟩) hS ?_
          (try simp only [Act.put, List.setIfInBounds_toArray, List.set_cons_zero, List.set_cons_succ])
          refine wpAnyH_ready (rs := [31]) (by kernel_rfl) (by simp) ?_
          refine AllReadyH.cons (o := { dst := none, op := .store 141 (.tmp 41) (.tmp 37), type := _, pos := _, after := _, guard := none }) rfl (fun K hK => ?_) AllReadyH.nil
          go_simp
          have HZn := HZ.put p0 a'
          rw [hB] at HZn
          have hSn := hS.put hgB p0 (.int .u32 (a' : Int))
          refine hK.out _ _ hSn (fun _ => ?_)
          clear hK K c0 f0
          refine with_world (R := fun W => wpAnyH _ _ _ _ _ _ _ _ W) (Q := fun W => Mz w W (st.set p0 a') ∧ QC g p0 p1 p2 p3 W) _ ⟨HZn, hSn⟩ ?_
          clear HZ hS HZn hSn
          rintro V0 ⟨HZ, hS⟩
          have HL1 : (st.set p0 a').length = 16 := by simp only [List.length_set]; exact HST.len
          have c1 := HZ.cell p1 (by rw [HL1]; exact lp1)
          have f1 := HZ.frozen p1
          rw [hB] at c1 f1
          refine wpAnyH_take (i := 32) (oi := { dst := some 42, op := .indexAddr 181 (.tmp 1) (.tmp 15), type := 0, pos := _, after := _, guard := none }) (v := .pointer (some ⟨B, p1, none⟩)) rfl (by kernel_rfl) (by kernel_rfl) (by kernel_rfl) (fun _ _ _ h => h) (Or.inl ⟨by rfl, by intro x _; go_simp⟩) hS ?_
          (try simp only [Act.put, List.setIfInBounds_toArray, List.set_cons_zero, List.set_cons_succ])
          refine wpAnyH_ready (rs := [33]) (by kernel_rfl) (by simp) ?_
          refine AllReadyH.cons (o := { dst := none, op := .store 141 (.tmp 42) (.tmp 38), type := _, pos := _, after := _, guard := none }) rfl (fun K hK => ?_) AllReadyH.nil
          go_simp
          have HZn := HZ.put p1 b'
          rw [hB] at HZn
          have hSn := hS.put hgB p1 (.int .u32 (b' : Int))
          refine hK.out _ _ hSn (fun _ => ?_)
          clear hK K c1 f1
          refine with_world (R := fun W => wpAnyH _ _ _ _ _ _ _ _ W) (Q := fun W => Mz w W ((st.set p0 a').set p1 b') ∧ QC g p0 p1 p2 p3 W) _ ⟨HZn, hSn⟩ ?_
          clear HZ hS HZn hSn
          rintro V1 ⟨HZ, hS⟩
          have HL2 : ((st.set p0 a').set p1 b').length = 16 := by simp only [List.length_set]; exact HST.len
          have c2 := HZ.cell p2 (by rw [HL2]; exact lp2)
          have f2 := HZ.frozen p2
          rw [hB] at c2 f2
          refine wpAnyH_take (i := 34) (oi := { dst := some 43, op := .indexAddr 181 (.tmp 1) (.tmp 17), type := 0, pos := _, after := _, guard := none }) (v := .pointer (some ⟨B, p2, none⟩)) rfl (by kernel_rfl) (by kernel_rfl) (by kernel_rfl) (fun _ _ _ h => h) (Or.inl ⟨by rfl, by intro x _; go_simp⟩) hS ?_
          (try simp only [Act.put, List.setIfInBounds_toArray, List.set_cons_zero, List.set_cons_succ])
          refine wpAnyH_ready (rs := [35]) (by kernel_rfl) (by simp) ?_
          refine AllReadyH.cons (o := { dst := none, op := .store 141 (.tmp 43) (.tmp 39), type := _, pos := _, after := _, guard := none }) rfl (fun K hK => ?_) AllReadyH.nil
          go_simp
          have HZn := HZ.put p2 c'
          rw [hB] at HZn
          have hSn := hS.put hgB p2 (.int .u32 (c' : Int))
          refine hK.out _ _ hSn (fun _ => ?_)
          clear hK K c2 f2
          refine with_world (R := fun W => wpAnyH _ _ _ _ _ _ _ _ W) (Q := fun W => Mz w W (((st.set p0 a').set p1 b').set p2 c') ∧ QC g p0 p1 p2 p3 W) _ ⟨HZn, hSn⟩ ?_
          clear HZ hS HZn hSn
          rintro V2 ⟨HZ, hS⟩
          have HL3 : (((st.set p0 a').set p1 b').set p2 c').length = 16 := by simp only [List.length_set]; exact HST.len
          have c3 := HZ.cell p3 (by rw [HL3]; exact lp3)
          have f3 := HZ.frozen p3
          rw [hB] at c3 f3
          refine wpAnyH_take (i := 36) (oi := { dst := some 44, op := .indexAddr 181 (.tmp 1) (.tmp 19), type := 0, pos := _, after := _, guard := none }) (v := .pointer (some ⟨B, p3, none⟩)) rfl (by kernel_rfl) (by kernel_rfl) (by kernel_rfl) (fun _ _ _ h => h) (Or.inl ⟨by rfl, by intro x _; go_simp⟩) hS ?_
          (try simp only [Act.put, List.setIfInBounds_toArray, List.set_cons_zero, List.set_cons_succ])
          refine wpAnyH_ready (rs := [37]) (by kernel_rfl) (by simp) ?_
          refine AllReadyH.cons (o := { dst := none, op := .store 141 (.tmp 44) (.tmp 40), type := _, pos := _, after := _, guard := none }) rfl (fun K hK => ?_) AllReadyH.nil
          go_simp
          have HZn := HZ.put p3 d'
          rw [hB] at HZn
          have hSn := hS.put hgB p3 (.int .u32 (d' : Int))
          refine hK.out _ _ hSn (fun _ => ?_)
          clear hK K c3 f3
          refine with_world (R := fun W => wpAnyH _ _ _ _ _ _ _ _ W) (Q := fun W => Mz w W ((((st.set p0 a').set p1 b').set p2 c').set p3 d') ∧ QC g p0 p1 p2 p3 W) _ ⟨HZn, hSn⟩ ?_
          clear HZ hS HZn hSn
          rintro V3 ⟨HZ, hS⟩
          refine wpAnyH_done (by kernel_rfl) ?_ _
          have HN2 : Hid (n < 8) := hnl
          clear hS hty hgB hix i0 i1 i2 i3
          rw [← put4_eq st p0 p1 p2 p3 a' b' c' d', ← HF3.out, ← HQ.out] at HZ
          subst hB
          go_wp2
          go_roundg (gk - 1)
          case measure => have := HN.out; omega
          case rel => exact ⟨n + 1, by have := HN.out; omega, by go_num, HZ⟩
        · obtain rfl : n = 8 := by omega
          rw [← HD.out] at HM
          go_wp2
          go_roundg (10 - (r + 1))
          case measure => have := HR.out; omega
          case rel => exact ⟨r + 1, by have := HR.out; omega, by go_num, HM⟩
    · obtain rfl : r = 10 := by omega
      have HE : Hid (mixedL s = doubles s 10) := rfl
      have hlen := (hs.doubles 10).len
      have hown := HM.own
      obtain ⟨z, hz, hres⟩ := HM.res
      have hbel := HM.bel
      clear HM
      revert HE hlen hown
      generalize doubles s 10 = sf
      intro HE hlen hown
      have hth : wr.there (w.heap.size + 1) 0 (u32s sf).size := there_of_heap hres (by rw [u32s_size, hlen, hz]; decide)
      have hsz : (Tryz.prog.info? 181).map (·.size) = some (u32s sf).size := by rw [u32s_size, hlen]; exact sizeSt
      have hone : (u32s sf).all (·.oneCell') = true := all_oneCell_toArray (u32L_one _)
      have hr := heap_setCells (w.heap.size + 1) 181 (u32s sf).toList 0 _ _ hres
      rw [setMany_all _ _ (by rw [Array.length_toList, u32s_size, hlen, hz]), Array.toArray_toList] at hr
      have HRR : Hid ((wr.setCells (w.heap.size + 1) 0 (u32s sf).toList).heap[w.heap.size + 1]? = some (.cells (u32s sf) 181 (0, 0))) := hr
      clear hr hres
      go_wp2_with (first | (refine wpList_load_row rfl 181 (.tmp 1) rfl w.heap.size rfl 181 _ (0, 0) _ hown Tryz.underlying181 rfl hsz ?_) | (refine wpList_store_mid rfl 181 (.tmp 2) (.tmp 47) rfl (w.heap.size + 1) 0 _ rfl rfl hth hsz hone ?_))
      refine bodyPost_ret (results_cell_row rfl _ _ (w.heap.size + 1) 181 _ (0, 0) _ rfl HRR.out Tryz.underlying181 rfl hsz) rfl ?_
      rw [HE.out]
      exact ⟨rfl, Below.setCells hbel (by omega) _ _⟩

end Go.Proofs.YtengclnahppmhaaGreatDoor.Cha
