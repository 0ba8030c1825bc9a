import Derived.Test.YtengclnahppmhaaGreatDoorRf4M
import Derived.Test.YtengclnahppmhaaGreatDoorBaseM
import Derived.Deep.Cut
import Derived.Test.YtengclnahppmhaaGreatDoorChZ2
import Derived.Test.YtengclnahppmhaaGreatDoorKnM
import Derived.Test.YtengclnahppmhaaGreatDoorChZ3
import Derived.Test.YtengclnahppmhaaGreatDoorChaS
namespace Go.Proofs.YtengclnahppmhaaGreatDoor.Cha
open Go.RowKit Go.Lib Go.Deep

/-- numbers in a row of their own, written over -/
structure IBuf (w : World) (g : Nat) (l : List Nat) : Prop where
  cur : ∃ cur : Array Value, w.heap[g]? = some (.cells cur 3 (0, 0)) ∧ l.length ≤ cur.size ∧ cur.toList.take l.length = i64L l
theorem IBuf.lt {w : World} {g : Nat} {l : List Nat} (h : IBuf w g l) : g < w.heap.size := by
  obtain ⟨cur, h1, _⟩ := h.cur
  exact heap_lt h1
theorem IBuf.kept {w w' : World} {g : Nat} {l : List Nat} (h : IBuf w g l) (hk : w'.heap[g]? = w.heap[g]?) : IBuf w' g l := by
  obtain ⟨cur, h1, h2⟩ := h.cur
  exact ⟨cur, hk.trans h1, h2⟩
theorem IBuf.frozen {w : World} {g : Nat} {l : List Nat} (h : IBuf w g l) (i : Nat) : w.frozen? ⟨g, i, none⟩ = false := by
  obtain ⟨cur, h1, _⟩ := h.cur
  exact frozen_of_heap h1
theorem IBuf.cell {w : World} {g : Nat} {l : List Nat} (h : IBuf w g l) (i : Nat) (hi : i < l.length) : w.cell? ⟨g, i, none⟩ = some (.int .i64 ((l.getD i 0 : Nat) : Int)) := by
  obtain ⟨cur, h1, h2, h3⟩ := h.cur
  have e : (cur.toList.take l.length)[i]? = some (.int .i64 ((l.getD i 0 : Nat) : Int)) := by rw [h3]; exact i64L_at l i hi
  rw [List.getElem?_take, if_pos hi, Array.getElem?_toList] at e
  rw [cell_of_heap h1]
  exact e
theorem IBuf.some {w : World} {g : Nat} {l : List Nat} (h : IBuf w g l) (i : Nat) (hi : i < l.length) : ∃ y : Int, w.cell? ⟨g, i, none⟩ = .some (.int .i64 y) := ⟨_, h.cell i hi⟩
theorem IBuf.put {w : World} {g : Nat} {l : List Nat} (h : IBuf w g l) (i x : Nat) : IBuf (w.setCell ⟨g, i, none⟩ (.int .i64 (x : Int))) g (l.set i x) := by
  obtain ⟨cur, h1, h2, h3⟩ := h.cur
  refine ⟨cur.setIfInBounds i (.int .i64 (x : Int)), heap_setCell_same _ _ _ _ _ _ h1, by rw [List.length_set, Array.size_setIfInBounds]; exact h2, ?_⟩
  have e : i64L (l.set i x) = (i64L l).set i (.int .i64 (x : Int)) := by simp [i64L]
  rw [List.length_set, e, ← h3, Array.toList_setIfInBounds, List.take_set]
theorem IBuf.range {w : World} {g : Nat} {l : List Nat} (h : IBuf w g l) : w.rangeAt g 0 (i64L l) := by
  intro j v hv
  have hj : j < l.length := by
    have := (List.getElem?_eq_some_iff.1 hv).1
    rwa [i64L_length] at this
  rw [i64L_at l j hj] at hv
  rw [Nat.zero_add, h.cell j hj]
  exact hv
theorem IBuf.of_owns {w : World} {B n : Nat} {v : Value} {ws : List Nat} (h : w.ownsRow B 3 1 v n (i64L ws)) (hn : 0 < n) (hl : ws.length = n) : ∃ g cap, v = .slice (.some ⟨g, 0, none⟩) n cap ∧ B ≤ g ∧ n ≤ cap ∧ cap ≤ maxLen ∧ IBuf w g ws := by
  rcases h.2 with ⟨_, h0⟩ | ⟨g, cap, cur, rfl, h1, h2, h3, h4, h5, h6⟩
  · omega
  · exact ⟨g, cap, rfl, h1, h3, h4, ⟨cur, h2, by omega, by rw [hl]; simpa using h6⟩⟩

/-- four cells of a row -/
structure QI (g p0 p1 p2 p3 a b c d : Nat) (W : World) : Prop where
  c0 : W.cell? ⟨g, p0, none⟩ = .some (.int .i64 (a : Int))
  c1 : W.cell? ⟨g, p1, none⟩ = .some (.int .i64 (b : Int))
  c2 : W.cell? ⟨g, p2, none⟩ = .some (.int .i64 (c : Int))
  c3 : W.cell? ⟨g, p3, none⟩ = .some (.int .i64 (d : Int))
theorem QI.kept {g p0 p1 p2 p3 a b c d : Nat} {W W' : World} (h : QI g p0 p1 p2 p3 a b c d W) (hk : W'.heap[g]? = W.heap[g]?) : QI g p0 p1 p2 p3 a b c d W' :=
  ⟨(World.cell?_of_block hk).trans h.c0, (World.cell?_of_block hk).trans h.c1, (World.cell?_of_block hk).trans h.c2, (World.cell?_of_block hk).trans h.c3⟩
theorem put4_eqI (st : List Nat) (p0 p1 p2 p3 a b c d : Nat) : put4 st p0 p1 p2 p3 ⟨a, b, c, d⟩ = (((st.set p0 a).set p1 b).set p2 c).set p3 d := rfl
theorem sizeFour : (Tryz.prog.info? 154).map (·.size) = some 4 := by kernel_rfl
theorem one4 (x0 x1 x2 x3 : Int) : (#[Value.int .i64 x0, .int .i64 x1, .int .i64 x2, .int .i64 x3] : Array Value).all (·.oneCell') = true := by
  refine all_oneCell_toArray (cs := [Value.int .i64 x0, .int .i64 x1, .int .i64 x2, .int .i64 x3]) ?_
  intro v hv
  simp only [List.mem_cons, List.not_mem_nil, or_false] at hv
  rcases hv with rfl | rfl | rfl | rfl <;> rfl
theorem plc_cells {W : World} (h : PTabs W) (j : Nat) (hj : j < 32) : W.cell? ⟨1, j, none⟩ = some (.int .i64 ((plc.getD j 0 : Nat) : Int)) := by
  have := h.pl j _ (i64L_at plc j (by rw [plc_length]; exact hj))
  rwa [Nat.zero_add] at this

set_option maxRecDepth 20000 in
set_option maxHeartbeats 8000000 in
theorem rounds_any (ws : List Nat) (hs : St ws) (gw capw : Nat) (w : World) (_hgw : gw < w.heap.size) (hrw : w.rangeAt gw 0 (i64L ws)) (hP : PTabs w) (h3 : 8 ≤ w.heap.size) :
    Calls Tryz.prog 89 #[.slice (some ⟨gw, 0, none⟩) 16 capw] w fun e w' => ∃ g cap, e = .returned (.slice (some ⟨g, 0, none⟩) 16 cap) ∧ 16 ≤ cap ∧ cap ≤ maxLen ∧ w.heap.size ≤ g ∧ IBuf w' g (mixedL ws) ∧ Below w.heap.size w w' := by
  obtain ⟨i0, hi, hz0, hz1, hz2⟩ := info_parts info3
  have hlw : (i64L ws).length = 16 := by rw [i64L_length, hs.len]
  have ho1 := i64L_one ws
  have hml : 0 + 16 ≤ maxLen := by unfold maxLen; omega
  have hnil := World.ownsRow_nil w w.heap.size 3 1
  have hsF : (Tryz.prog.info? 154).map (·.size) = some (#[.int .i64 (0 : Int), .int .i64 (0 : Int), .int .i64 (0 : Int), .int .i64 (0 : Int)] : Array Value).size := sizeFour
  go_enter Tryz.func89, Tryz.ntmps89
  go_upto_region 3 with (at_builtin; refine wpList_append_own _ rfl _ _ 39 rfl w.heap.size 3 i0 (.int .i64 0) 1 8 Tryz.underlying39 hi hz0 hz1 hz2 rfl (by decide) _ _ _ rfl hnil ⟨gw, 0, none⟩ 16 capw (i64L ws) rfl hlw (cells_range hrw) ho1 hml (by omega) (Nat.le_refl _) ?_; intro v1 w1 hown1 hgrow1 _)
  have hb1 : Below w.heap.size w w1 := grown_below hgrow1 (Nat.le_refl _) hnil
  have hown1' : w1.ownsRow w.heap.size 3 1 v1 16 (i64L ws) := hown1
  obtain ⟨g, cap, rfl, hg, hc, hcm, hI⟩ := IBuf.of_owns hown1' (by omega) hs.len
  have HGW : Hid (w.heap.size ≤ g) := hg
  have HPT : Hid (∀ W, Below w.heap.size w W → PTabs W) := fun W h => hP.below h h3
  clear hown1 hown1' hgrow1 hnil hrw
  go_wp2
  go_loopg [4] 10 (fun gk i wr => ∃ r : Nat, r + gk = 10 ∧ i = .int .i64 r ∧ IBuf wr g (doubles ws r) ∧ Below w.heap.size w wr)
  case atStart => exact ⟨0, by omega, rfl, hI, hb1⟩
  case round =>
    clear hI hb1
    obtain ⟨r, hr, rfl, hI, hB⟩ := hrel
    have HR : Hid (r + gk = 10) := hr
    have hr' : r ≤ 10 := by omega
    clear hr
    by_cases hlt : r < 10
    · have hltI : (r : Int) < 10 := by omega
      have HD : Hid (doubles ws (r + 1) = qsteps (doubles ws r) 8) := rfl
      have HS := hs.doubles r
      revert hI HD HS
      generalize doubles ws r = s1
      intro hI HD HS
      go_wp2
      go_loopg [5] 8 (fun gj j wx => ∃ n : Nat, n + gj = 8 ∧ j = .int .i64 (4 * (n : Int)) ∧ IBuf wx g (qsteps s1 n) ∧ Below w.heap.size w wx)
      case atStart => exact ⟨0, by omega, rfl, hI, hB⟩
      case round =>
        clear hI hB
        obtain ⟨n, hn, rfl, hI, hB⟩ := hrel
        have HN : Hid (n + gk = 8) := hn
        have hn' : n ≤ 8 := by omega
        clear hn
        by_cases hnl : n < 8
        · have hnI : 4 * (n : Int) < 32 := by omega
          have hnI1 : 4 * (n : Int) + 1 < 32 := by omega
          have hnI2 : 4 * (n : Int) + 2 < 32 := by omega
          have hnI3 : 4 * (n : Int) + 3 < 32 := by omega
          have HQ : Hid (qsteps s1 (n + 1) = qstep (qsteps s1 n) n) := rfl
          have HST := HS.qsteps n
          have lp0 := plc_lt (4 * n)
          have lp1 := plc_lt (4 * n + 1)
          have lp2 := plc_lt (4 * n + 2)
          have lp3 := plc_lt (4 * n + 3)
          have hP1 := HPT.out wr hB
          have q0 := plc_cells hP1 (4 * n) (by omega)
          have q1 := plc_cells hP1 (4 * n + 1) (by omega)
          have q2 := plc_cells hP1 (4 * n + 2) (by omega)
          have q3 := plc_cells hP1 (4 * n + 3) (by omega)
          have HQS : Hid (∀ st : List Nat, qstep st n = put4 st (plc.getD (4 * n) 0) (plc.getD (4 * n + 1) 0) (plc.getD (4 * n + 2) 0) (plc.getD (4 * n + 3) 0) (qr (four st (plc.getD (4 * n) 0) (plc.getD (4 * n + 1) 0) (plc.getD (4 * n + 2) 0) (plc.getD (4 * n + 3) 0)))) := fun _ => rfl
          clear hP1
          revert q0 q1 q2 q3 lp0 lp1 lp2 lp3 HQS
          generalize plc.getD (4 * n) 0 = p0
          generalize plc.getD (4 * n + 1) 0 = p1
          generalize plc.getD (4 * n + 2) 0 = p2
          generalize plc.getD (4 * n + 3) 0 = p3
          intro lp0 lp1 lp2 lp3 q0 q1 q2 q3 HQS
          revert hI HQ HST
          generalize qsteps s1 n = st
          intro hI HQ HST
          have i0 : (p0 : Int) < 16 := by omega
          have i1 : (p1 : Int) < 16 := by omega
          have i2 : (p2 : Int) < 16 := by omega
          have i3 : (p3 : Int) < 16 := by omega
          have c0 := hI.cell p0 (by rw [HST.len]; exact lp0)
          have c1 := hI.cell p1 (by rw [HST.len]; exact lp1)
          have c2 := hI.cell p2 (by rw [HST.len]; exact lp2)
          have c3 := hI.cell p3 (by rw [HST.len]; exact lp3)
          have hok := HST.four p0 p1 p2 p3
          have HF : Hid (four st p0 p1 p2 p3 = ⟨st.getD p0 0, st.getD p1 0, st.getD p2 0, st.getD p3 0⟩) := rfl
          rw [HF.out] at hok
          have HF2 : Hid (∀ x, qr ⟨st.getD p0 0, st.getD p1 0, st.getD p2 0, st.getD p3 0⟩ = x → qstep st n = put4 st p0 p1 p2 p3 x) := fun x hx => by rw [HQS.out, HF.out, hx]
          clear HF HQS
          revert c0 c1 c2 c3 hok HF2
          generalize st.getD p0 0 = a
          generalize st.getD p1 0 = b
          generalize st.getD p2 0 = c
          generalize st.getD p3 0 = d
          intro c0 c1 c2 c3 hok HF2
          have hcall := fun W => rquarter_any ⟨a, b, c, d⟩ hok W
          obtain ⟨y, hy⟩ : ∃ y, qr ⟨a, b, c, d⟩ = y := ⟨_, rfl⟩
          have HF3 : Hid (qstep st n = put4 st p0 p1 p2 p3 y) := HF2.out y hy
          rw [hy] at hcall
          clear HF2 hy
          obtain ⟨a', b', c', d'⟩ := y
          dsimp only at hcall
          have hS0 : QI g p0 p1 p2 p3 a b c d wr.drew := ⟨c0, c1, c2, c3⟩
          have hI0 : IBuf wr.drew g st := hI.kept rfl
          have hB0 : Below w.heap.size w wr.drew := hB.drew
          clear c0 c1 c2 c3 hI hB
          go_upto_region 13 with fail
          refine wp_region_held_drew (S := QI g p0 p1 p2 p3 a b c d) (by kernel_rfl) hS0 ?_
          intro hS
          clear hS0
          revert hS hI0 hB0
          generalize wr.drew = V
          intro hI hB hS
          refine wpAnyH_take (i := 0) (oi := { dst := some 37, op := .move (.tmp 3), type := _, pos := _, after := _, guard := none }) (v := .slice (some ⟨g, 0, none⟩) 16 cap) rfl (by kernel_rfl) (by kernel_rfl) (by kernel_rfl) (fun _ _ _ h => h) (Or.inl ⟨by rfl, by intro x _; go_simp⟩) hS ?_
          (try simp only [Act.put, List.setIfInBounds_toArray, List.set_cons_zero, List.set_cons_succ])
          refine wpAnyH_take (i := 1) (oi := { dst := some 38, op := .move (.tmp 6), type := _, pos := _, after := _, guard := none }) (v := .int .i64 (p0 : Int)) rfl (by kernel_rfl) (by kernel_rfl) (by kernel_rfl) (fun _ _ _ h => h) (Or.inl ⟨by rfl, by intro x _; go_simp⟩) hS ?_
          (try simp only [Act.put, List.setIfInBounds_toArray, List.set_cons_zero, List.set_cons_succ])
          refine wpAnyH_take (i := 2) (oi := { dst := some 39, op := .indexAddr 39 (.tmp 37) (.tmp 38), type := _, pos := _, after := _, guard := none }) (v := .pointer (some ⟨g, p0, none⟩)) rfl (by kernel_rfl) (by kernel_rfl) (by kernel_rfl) (fun _ _ _ h => h) (Or.inl ⟨by rfl, by intro x _; go_simp⟩) hS ?_
          (try simp only [Act.put, List.setIfInBounds_toArray, List.set_cons_zero, List.set_cons_succ])
          refine wpAnyH_take (i := 3) (oi := { dst := some 40, op := .load 3 (.tmp 39), type := _, pos := _, after := _, guard := none }) (v := .int .i64 (a : Int)) rfl (by kernel_rfl) (by kernel_rfl) (by kernel_rfl) (fun _ _ _ h => h) (Or.inl ⟨by rfl, fun x hx => run_load_one 3 (.tmp 39) rfl g p0 _ (by simp [Act.eval]) .i64 Tryz.underlying3 x hx.c0⟩) hS ?_
          (try simp only [Act.put, List.setIfInBounds_toArray, List.set_cons_zero, List.set_cons_succ])
          refine wpAnyH_take (i := 4) (oi := { dst := some 41, op := .move (.tmp 3), type := _, pos := _, after := _, guard := none }) (v := .slice (some ⟨g, 0, none⟩) 16 cap) rfl (by kernel_rfl) (by kernel_rfl) (by kernel_rfl) (fun _ _ _ h => h) (Or.inl ⟨by rfl, by intro x _; go_simp⟩) hS ?_
          (try simp only [Act.put, List.setIfInBounds_toArray, List.set_cons_zero, List.set_cons_succ])
          refine wpAnyH_take (i := 5) (oi := { dst := some 42, op := .move (.tmp 7), type := _, pos := _, after := _, guard := none }) (v := .int .i64 (p1 : Int)) rfl (by kernel_rfl) (by kernel_rfl) (by kernel_rfl) (fun _ _ _ h => h) (Or.inl ⟨by rfl, by intro x _; go_simp⟩) hS ?_
          (try simp only [Act.put, List.setIfInBounds_toArray, List.set_cons_zero, List.set_cons_succ])
          refine wpAnyH_take (i := 6) (oi := { dst := some 43, op := .indexAddr 39 (.tmp 41) (.tmp 42), type := _, pos := _, after := _, guard := none }) (v := .pointer (some ⟨g, p1, none⟩)) rfl (by kernel_rfl) (by kernel_rfl) (by kernel_rfl) (fun _ _ _ h => h) (Or.inl ⟨by rfl, by intro x _; go_simp⟩) hS ?_
          (try simp only [Act.put, List.setIfInBounds_toArray, List.set_cons_zero, List.set_cons_succ])
          refine wpAnyH_take (i := 7) (oi := { dst := some 44, op := .load 3 (.tmp 43), type := _, pos := _, after := _, guard := none }) (v := .int .i64 (b : Int)) rfl (by kernel_rfl) (by kernel_rfl) (by kernel_rfl) (fun _ _ _ h => h) (Or.inl ⟨by rfl, fun x hx => run_load_one 3 (.tmp 43) rfl g p1 _ (by simp [Act.eval]) .i64 Tryz.underlying3 x hx.c1⟩) hS ?_
          (try simp only [Act.put, List.setIfInBounds_toArray, List.set_cons_zero, List.set_cons_succ])
          refine wpAnyH_take (i := 8) (oi := { dst := some 45, op := .move (.tmp 3), type := _, pos := _, after := _, guard := none }) (v := .slice (some ⟨g, 0, none⟩) 16 cap) rfl (by kernel_rfl) (by kernel_rfl) (by kernel_rfl) (fun _ _ _ h => h) (Or.inl ⟨by rfl, by intro x _; go_simp⟩) hS ?_
          (try simp only [Act.put, List.setIfInBounds_toArray, List.set_cons_zero, List.set_cons_succ])
          refine wpAnyH_take (i := 9) (oi := { dst := some 46, op := .move (.tmp 8), type := _, pos := _, after := _, guard := none }) (v := .int .i64 (p2 : Int)) rfl (by kernel_rfl) (by kernel_rfl) (by kernel_rfl) (fun _ _ _ h => h) (Or.inl ⟨by rfl, by intro x _; go_simp⟩) hS ?_
          (try simp only [Act.put, List.setIfInBounds_toArray, List.set_cons_zero, List.set_cons_succ])
          refine wpAnyH_take (i := 10) (oi := { dst := some 47, op := .indexAddr 39 (.tmp 45) (.tmp 46), type := _, pos := _, after := _, guard := none }) (v := .pointer (some ⟨g, p2, none⟩)) rfl (by kernel_rfl) (by kernel_rfl) (by kernel_rfl) (fun _ _ _ h => h) (Or.inl ⟨by rfl, by intro x _; go_simp⟩) hS ?_
          (try simp only [Act.put, List.setIfInBounds_toArray, List.set_cons_zero, List.set_cons_succ])
          refine wpAnyH_take (i := 11) (oi := { dst := some 48, op := .load 3 (.tmp 47), type := _, pos := _, after := _, guard := none }) (v := .int .i64 (c : Int)) rfl (by kernel_rfl) (by kernel_rfl) (by kernel_rfl) (fun _ _ _ h => h) (Or.inl ⟨by rfl, fun x hx => run_load_one 3 (.tmp 47) rfl g p2 _ (by simp [Act.eval]) .i64 Tryz.underlying3 x hx.c2⟩) hS ?_
          (try simp only [Act.put, List.setIfInBounds_toArray, List.set_cons_zero, List.set_cons_succ])
          refine wpAnyH_take (i := 12) (oi := { dst := some 49, op := .move (.tmp 3), type := _, pos := _, after := _, guard := none }) (v := .slice (some ⟨g, 0, none⟩) 16 cap) rfl (by kernel_rfl) (by kernel_rfl) (by kernel_rfl) (fun _ _ _ h => h) (Or.inl ⟨by rfl, by intro x _; go_simp⟩) hS ?_
          (try simp only [Act.put, List.setIfInBounds_toArray, List.set_cons_zero, List.set_cons_succ])
          refine wpAnyH_take (i := 13) (oi := { dst := some 50, op := .move (.tmp 9), type := _, pos := _, after := _, guard := none }) (v := .int .i64 (p3 : Int)) rfl (by kernel_rfl) (by kernel_rfl) (by kernel_rfl) (fun _ _ _ h => h) (Or.inl ⟨by rfl, by intro x _; go_simp⟩) hS ?_
          (try simp only [Act.put, List.setIfInBounds_toArray, List.set_cons_zero, List.set_cons_succ])
          refine wpAnyH_take (i := 14) (oi := { dst := some 51, op := .indexAddr 39 (.tmp 49) (.tmp 50), type := _, pos := _, after := _, guard := none }) (v := .pointer (some ⟨g, p3, none⟩)) rfl (by kernel_rfl) (by kernel_rfl) (by kernel_rfl) (fun _ _ _ h => h) (Or.inl ⟨by rfl, by intro x _; go_simp⟩) hS ?_
          (try simp only [Act.put, List.setIfInBounds_toArray, List.set_cons_zero, List.set_cons_succ])
          refine wpAnyH_take (i := 15) (oi := { dst := some 52, op := .load 3 (.tmp 51), type := _, pos := _, after := _, guard := none }) (v := .int .i64 (d : Int)) rfl (by kernel_rfl) (by kernel_rfl) (by kernel_rfl) (fun _ _ _ h => h) (Or.inl ⟨by rfl, fun x hx => run_load_one 3 (.tmp 51) rfl g p3 _ (by simp [Act.eval]) .i64 Tryz.underlying3 x hx.c3⟩) hS ?_
          (try simp only [Act.put, List.setIfInBounds_toArray, List.set_cons_zero, List.set_cons_succ])
          refine wpAnyH_take (i := 16) (oi := { dst := some 53, op := .build 154 #[(0, .tmp 40), (1, .tmp 44), (2, .tmp 48), (3, .tmp 52)], type := _, pos := _, after := _, guard := none }) (v := .agg #[.int .i64 (a : Int), .int .i64 (b : Int), .int .i64 (c : Int), .int .i64 (d : Int)]) rfl (by kernel_rfl) (by kernel_rfl) (by kernel_rfl) (fun _ _ _ h => h) (Or.inl ⟨by rfl, by intro x _; go_simp⟩) hS ?_
          (try simp only [Act.put, List.setIfInBounds_toArray, List.set_cons_zero, List.set_cons_succ])
          refine wpAnyH_ready (rs := [17, 18]) (by kernel_rfl) (by simp) ?_
          refine AllReadyH.cons (o := { dst := some 54, op := .call { callee := .value (.func 109), args := #[.tmp 53], argTypes := #[154] }, type := _, pos := _, after := _, guard := none }) rfl (fun K hK => ?_) ?_
          · go_simp
            refine (hcall V).mono ?_
            rintro e w5 ⟨rfl, hb5⟩
            have hS5 : QI g p0 p1 p2 p3 a b c d w5 := hS.kept (hb5.block g hI.lt)
            have hI5 := hI.kept (hb5.block g hI.lt)
            have hB5 := hB.trans (hb5.mono hB.size)
            refine hK.out _ _ hS5 (fun _ => ?_)
            clear hK K
            (try simp only [Act.put, List.setIfInBounds_toArray, List.set_cons_zero, List.set_cons_succ])
            refine wpAnyH_ready (rs := [18]) (by kernel_rfl) (by simp) ?_
            refine AllReadyH.cons (o := { dst := some 10, op := .alloc 154, type := _, pos := _, after := _, guard := none }) rfl (fun K hK => ?_) AllReadyH.nil
            go_simp
            have hS6 : QI g p0 p1 p2 p3 a b c d (w5.alloc (.cells #[.int .i64 0, .int .i64 0, .int .i64 0, .int .i64 0] 154)) := hS5.kept (Below.heap_alloc _ _ _ hI5.lt)
            refine hK.out _ _ hS6 (fun _ => ?_)
            clear hK K
            (try simp only [Act.put, List.setIfInBounds_toArray, List.set_cons_zero, List.set_cons_succ])
            refine wpAnyH_ready (rs := [19]) (by kernel_rfl) (by simp) ?_
            refine AllReadyH.cons (o := { dst := none, op := .store 154 (.tmp 10) (.tmp 54), type := _, pos := _, after := _, guard := none }) rfl (fun K hK => ?_) AllReadyH.nil
            refine step_store_mid rfl 154 (.tmp 10) (.tmp 54) rfl w5.heap.size 0 #[.int .i64 (a' : Int), .int .i64 (b' : Int), .int .i64 (c' : Int), .int .i64 (d' : Int)] (by simp [Act.eval]) (by simp [Act.eval]) (there_of_heap (heap_new _ _) (by simp)) hsF (one4 _ _ _ _) ?_
            have hne : g ≠ w5.heap.size := by have := hI5.lt; omega
            have hk7 : ((w5.alloc (.cells #[.int .i64 0, .int .i64 0, .int .i64 0, .int .i64 0] 154)).setCells w5.heap.size 0 (#[.int .i64 (a' : Int), .int .i64 (b' : Int), .int .i64 (c' : Int), .int .i64 (d' : Int)] : Array Value).toList).heap[g]? = w5.heap[g]? := (heap_setCells_other _ _ hne _ _ _).trans (Below.heap_alloc _ _ _ hI5.lt)
            have hI7 := hI5.kept hk7
            have hF7 : ((w5.alloc (.cells #[.int .i64 0, .int .i64 0, .int .i64 0, .int .i64 0] 154)).setCells w5.heap.size 0 (#[.int .i64 (a' : Int), .int .i64 (b' : Int), .int .i64 (c' : Int), .int .i64 (d' : Int)] : Array Value).toList).heap[w5.heap.size]? = some (.cells #[.int .i64 (a' : Int), .int .i64 (b' : Int), .int .i64 (c' : Int), .int .i64 (d' : Int)] 154 (0, 0)) := heap_setCells w5.heap.size 154 (#[.int .i64 (a' : Int), .int .i64 (b' : Int), .int .i64 (c' : Int), .int .i64 (d' : Int)] : Array Value).toList 0 _ _ (heap_new w5 (.cells #[.int .i64 0, .int .i64 0, .int .i64 0, .int .i64 0] 154))
            have hB7 : Below w.heap.size w ((w5.alloc (.cells #[.int .i64 0, .int .i64 0, .int .i64 0, .int .i64 0] 154)).setCells w5.heap.size 0 (#[.int .i64 (a' : Int), .int .i64 (b' : Int), .int .i64 (c' : Int), .int .i64 (d' : Int)] : Array Value).toList) := Below.setCells (hB5.alloc hB5.size _) hB5.size _ _
            have hS7 := hS5.kept hk7
            refine hK.out _ _ hS7 (fun _ => ?_)
            clear hK K
            (try simp only [Act.put])
            refine wpAnyH_done (by kernel_rfl) ?_ _
            refine with_world (R := fun W => Exit.then _ _ _ _ W) (Q := fun W => IBuf W g st ∧ W.heap[w5.heap.size]? = some (.cells #[.int .i64 (a' : Int), .int .i64 (b' : Int), .int .i64 (c' : Int), .int .i64 (d' : Int)] 154 (0, 0)) ∧ Below w.heap.size w W) _ ⟨hI7, hF7, hB7⟩ ?_
            clear hI7 hF7 hB7 hS7 hS6 hS5 hI5 hB5 hb5 hS hI hB hk7 hcall
            rintro W ⟨hI, hF, hB⟩
            obtain ⟨gf, hgf'⟩ : ∃ gf, w5.heap.size = gf := ⟨_, rfl⟩
            have hgf : gf ≠ g := by omega
            rw [hgf'] at hF ⊢
            clear hgf' hne
            have k0 : W.cell? ⟨gf, 0, none⟩ = some (.int .i64 (a' : Int)) := (cell_of_heap hF).trans rfl
            have c0 := hI.some p0 (by (try simp only [List.length_set]); rw [HST.len]; exact lp0)
            obtain ⟨y0, c0⟩ := c0
            have f0 := hI.frozen p0
            have hI2 := hI.put p0 a'
            have hF2 : (W.setCell ⟨g, p0, none⟩ (.int .i64 (a' : Int))).heap[gf]? = some (.cells #[.int .i64 (a' : Int), .int .i64 (b' : Int), .int .i64 (c' : Int), .int .i64 (d' : Int)] 154 (0, 0)) := (Below.heap_setCell _ _ _ _ (by show gf ≠ g; exact hgf)).trans hF
            have hB2 := hB.setCell (p := ⟨g, p0, none⟩) HGW.out (.int .i64 (a' : Int))
            go_upto_region 15 with fail
            refine with_world (R := fun W => Code.wp _ _ _ _ W) (Q := fun W => IBuf W g (st.set p0 a') ∧ W.heap[gf]? = some (.cells #[.int .i64 (a' : Int), .int .i64 (b' : Int), .int .i64 (c' : Int), .int .i64 (d' : Int)] 154 (0, 0)) ∧ Below w.heap.size w W) _ ⟨hI2, hF2, hB2⟩ ?_
            clear hI2 hF2 hB2 hI hF hB k0 c0 f0 W
            rintro W ⟨hI, hF, hB⟩
            have k1 : W.cell? ⟨gf, 1, none⟩ = some (.int .i64 (b' : Int)) := (cell_of_heap hF).trans rfl
            have c1 := hI.some p1 (by (try simp only [List.length_set]); rw [HST.len]; exact lp1)
            obtain ⟨y1, c1⟩ := c1
            have f1 := hI.frozen p1
            have hI2 := hI.put p1 b'
            have hF2 : (W.setCell ⟨g, p1, none⟩ (.int .i64 (b' : Int))).heap[gf]? = some (.cells #[.int .i64 (a' : Int), .int .i64 (b' : Int), .int .i64 (c' : Int), .int .i64 (d' : Int)] 154 (0, 0)) := (Below.heap_setCell _ _ _ _ (by show gf ≠ g; exact hgf)).trans hF
            have hB2 := hB.setCell (p := ⟨g, p1, none⟩) HGW.out (.int .i64 (b' : Int))
            go_upto_region 16 with fail
            refine with_world (R := fun W => Code.wp _ _ _ _ W) (Q := fun W => IBuf W g ((st.set p0 a').set p1 b') ∧ W.heap[gf]? = some (.cells #[.int .i64 (a' : Int), .int .i64 (b' : Int), .int .i64 (c' : Int), .int .i64 (d' : Int)] 154 (0, 0)) ∧ Below w.heap.size w W) _ ⟨hI2, hF2, hB2⟩ ?_
            clear hI2 hF2 hB2 hI hF hB k1 c1 f1 W
            rintro W ⟨hI, hF, hB⟩
            have k2 : W.cell? ⟨gf, 2, none⟩ = some (.int .i64 (c' : Int)) := (cell_of_heap hF).trans rfl
            have c2 := hI.some p2 (by (try simp only [List.length_set]); rw [HST.len]; exact lp2)
            obtain ⟨y2, c2⟩ := c2
            have f2 := hI.frozen p2
            have hI2 := hI.put p2 c'
            have hF2 : (W.setCell ⟨g, p2, none⟩ (.int .i64 (c' : Int))).heap[gf]? = some (.cells #[.int .i64 (a' : Int), .int .i64 (b' : Int), .int .i64 (c' : Int), .int .i64 (d' : Int)] 154 (0, 0)) := (Below.heap_setCell _ _ _ _ (by show gf ≠ g; exact hgf)).trans hF
            have hB2 := hB.setCell (p := ⟨g, p2, none⟩) HGW.out (.int .i64 (c' : Int))
            go_upto_region 17 with fail
            refine with_world (R := fun W => Code.wp _ _ _ _ W) (Q := fun W => IBuf W g (((st.set p0 a').set p1 b').set p2 c') ∧ W.heap[gf]? = some (.cells #[.int .i64 (a' : Int), .int .i64 (b' : Int), .int .i64 (c' : Int), .int .i64 (d' : Int)] 154 (0, 0)) ∧ Below w.heap.size w W) _ ⟨hI2, hF2, hB2⟩ ?_
            clear hI2 hF2 hB2 hI hF hB k2 c2 f2 W
            rintro W ⟨hI, hF, hB⟩
            have k3 : W.cell? ⟨gf, 3, none⟩ = some (.int .i64 (d' : Int)) := (cell_of_heap hF).trans rfl
            have c3 := hI.some p3 (by (try simp only [List.length_set]); rw [HST.len]; exact lp3)
            obtain ⟨y3, c3⟩ := c3
            have f3 := hI.frozen p3
            have hI2 := hI.put p3 d'
            have hF2 : (W.setCell ⟨g, p3, none⟩ (.int .i64 (d' : Int))).heap[gf]? = some (.cells #[.int .i64 (a' : Int), .int .i64 (b' : Int), .int .i64 (c' : Int), .int .i64 (d' : Int)] 154 (0, 0)) := (Below.heap_setCell _ _ _ _ (by show gf ≠ g; exact hgf)).trans hF
            have hB2 := hB.setCell (p := ⟨g, p3, none⟩) HGW.out (.int .i64 (d' : Int))
            rw [← put4_eqI st p0 p1 p2 p3 a' b' c' d', ← HF3.out, ← HQ.out] at hI2
            clear hI hF hB hF2
            go_wp2
            go_roundg (gk - 1)
            case measure => have := HN.out; omega
            case rel => exact ⟨n + 1, by have := HN.out; omega, by go_num, hI2, hB2⟩
          · refine AllReadyH.cons (o := { dst := some 10, op := .alloc 154, type := _, pos := _, after := _, guard := none }) rfl (fun K hK => ?_) AllReadyH.nil
            go_simp
            have hk6 : (V.alloc (.cells #[.int .i64 0, .int .i64 0, .int .i64 0, .int .i64 0] 154)).heap[g]? = V.heap[g]? := Below.heap_alloc _ _ _ hI.lt
            have hS6 := hS.kept hk6
            have hI6 := hI.kept hk6
            have hB6 := hB.alloc hB.size (.cells #[.int .i64 0, .int .i64 0, .int .i64 0, .int .i64 0] 154)
            have hF6 := heap_new V (.cells #[.int .i64 0, .int .i64 0, .int .i64 0, .int .i64 0] 154)
            refine hK.out _ _ hS6 (fun _ => ?_)
            clear hK K
            (try simp only [Act.put, List.setIfInBounds_toArray, List.set_cons_zero, List.set_cons_succ])
            refine wpAnyH_ready (rs := [17]) (by kernel_rfl) (by simp) ?_
            refine AllReadyH.cons (o := { dst := some 54, op := .call { callee := .value (.func 109), args := #[.tmp 53], argTypes := #[154] }, type := _, pos := _, after := _, guard := none }) rfl (fun K hK => ?_) AllReadyH.nil
            go_simp
            refine (hcall _).mono ?_
            rintro e w5 ⟨rfl, hb5⟩
            have hk5 := hb5.block g hI6.lt
            have hS5 := hS6.kept hk5
            have hI5 := hI6.kept hk5
            have hB5 := hB6.trans (hb5.mono hB6.size)
            have hF5 := (hb5.block _ (heap_lt hF6)).trans hF6
            have hne : g ≠ V.heap.size := by have := hI.lt; omega
            refine hK.out _ _ hS5 (fun _ => ?_)
            clear hK K
            (try simp only [Act.put, List.setIfInBounds_toArray, List.set_cons_zero, List.set_cons_succ])
            refine wpAnyH_ready (rs := [19]) (by kernel_rfl) (by simp) ?_
            refine AllReadyH.cons (o := { dst := none, op := .store 154 (.tmp 10) (.tmp 54), type := _, pos := _, after := _, guard := none }) rfl (fun K hK => ?_) AllReadyH.nil
            refine step_store_mid rfl 154 (.tmp 10) (.tmp 54) rfl V.heap.size 0 #[.int .i64 (a' : Int), .int .i64 (b' : Int), .int .i64 (c' : Int), .int .i64 (d' : Int)] (by simp [Act.eval]) (by simp [Act.eval]) (there_of_heap hF5 (by simp)) hsF (one4 _ _ _ _) ?_
            have hk7 : (w5.setCells V.heap.size 0 (#[.int .i64 (a' : Int), .int .i64 (b' : Int), .int .i64 (c' : Int), .int .i64 (d' : Int)] : Array Value).toList).heap[g]? = w5.heap[g]? := heap_setCells_other _ _ hne _ _ _
            have hI7 := hI5.kept hk7
            have hF7 : (w5.setCells V.heap.size 0 (#[.int .i64 (a' : Int), .int .i64 (b' : Int), .int .i64 (c' : Int), .int .i64 (d' : Int)] : Array Value).toList).heap[V.heap.size]? = some (.cells #[.int .i64 (a' : Int), .int .i64 (b' : Int), .int .i64 (c' : Int), .int .i64 (d' : Int)] 154 (0, 0)) := heap_setCells V.heap.size 154 (#[.int .i64 (a' : Int), .int .i64 (b' : Int), .int .i64 (c' : Int), .int .i64 (d' : Int)] : Array Value).toList 0 _ _ hF5
            have hB7 : Below w.heap.size w (w5.setCells V.heap.size 0 (#[.int .i64 (a' : Int), .int .i64 (b' : Int), .int .i64 (c' : Int), .int .i64 (d' : Int)] : Array Value).toList) := Below.setCells hB5 hB.size _ _
            have hS7 := hS5.kept hk7
            refine hK.out _ _ hS7 (fun _ => ?_)
            clear hK K
            (try simp only [Act.put])
            refine wpAnyH_done (by kernel_rfl) ?_ _
            refine with_world (R := fun W => Exit.then _ _ _ _ W) (Q := fun W => IBuf W g st ∧ W.heap[V.heap.size]? = some (.cells #[.int .i64 (a' : Int), .int .i64 (b' : Int), .int .i64 (c' : Int), .int .i64 (d' : Int)] 154 (0, 0)) ∧ Below w.heap.size w W) _ ⟨hI7, hF7, hB7⟩ ?_
            clear hI7 hF7 hB7 hS7 hS6 hS5 hI5 hB5 hb5 hS hI hB hk7 hk6 hk5 hI6 hB6 hF6 hF5 hcall
            rintro W ⟨hI, hF, hB⟩
            obtain ⟨gf, hgf'⟩ : ∃ gf, V.heap.size = gf := ⟨_, rfl⟩
            have hgf : gf ≠ g := by omega
            rw [hgf'] at hF ⊢
            clear hgf' hne
            have k0 : W.cell? ⟨gf, 0, none⟩ = some (.int .i64 (a' : Int)) := (cell_of_heap hF).trans rfl
            have c0 := hI.some p0 (by (try simp only [List.length_set]); rw [HST.len]; exact lp0)
            obtain ⟨y0, c0⟩ := c0
            have f0 := hI.frozen p0
            have hI2 := hI.put p0 a'
            have hF2 : (W.setCell ⟨g, p0, none⟩ (.int .i64 (a' : Int))).heap[gf]? = some (.cells #[.int .i64 (a' : Int), .int .i64 (b' : Int), .int .i64 (c' : Int), .int .i64 (d' : Int)] 154 (0, 0)) := (Below.heap_setCell _ _ _ _ (by show gf ≠ g; exact hgf)).trans hF
            have hB2 := hB.setCell (p := ⟨g, p0, none⟩) HGW.out (.int .i64 (a' : Int))
            go_upto_region 15 with fail
            refine with_world (R := fun W => Code.wp _ _ _ _ W) (Q := fun W => IBuf W g (st.set p0 a') ∧ W.heap[gf]? = some (.cells #[.int .i64 (a' : Int), .int .i64 (b' : Int), .int .i64 (c' : Int), .int .i64 (d' : Int)] 154 (0, 0)) ∧ Below w.heap.size w W) _ ⟨hI2, hF2, hB2⟩ ?_
            clear hI2 hF2 hB2 hI hF hB k0 c0 f0 W
            rintro W ⟨hI, hF, hB⟩
            have k1 : W.cell? ⟨gf, 1, none⟩ = some (.int .i64 (b' : Int)) := (cell_of_heap hF).trans rfl
            have c1 := hI.some p1 (by (try simp only [List.length_set]); rw [HST.len]; exact lp1)
            obtain ⟨y1, c1⟩ := c1
            have f1 := hI.frozen p1
            have hI2 := hI.put p1 b'
            have hF2 : (W.setCell ⟨g, p1, none⟩ (.int .i64 (b' : Int))).heap[gf]? = some (.cells #[.int .i64 (a' : Int), .int .i64 (b' : Int), .int .i64 (c' : Int), .int .i64 (d' : Int)] 154 (0, 0)) := (Below.heap_setCell _ _ _ _ (by show gf ≠ g; exact hgf)).trans hF
            have hB2 := hB.setCell (p := ⟨g, p1, none⟩) HGW.out (.int .i64 (b' : Int))
            go_upto_region 16 with fail
            refine with_world (R := fun W => Code.wp _ _ _ _ W) (Q := fun W => IBuf W g ((st.set p0 a').set p1 b') ∧ W.heap[gf]? = some (.cells #[.int .i64 (a' : Int), .int .i64 (b' : Int), .int .i64 (c' : Int), .int .i64 (d' : Int)] 154 (0, 0)) ∧ Below w.heap.size w W) _ ⟨hI2, hF2, hB2⟩ ?_
            clear hI2 hF2 hB2 hI hF hB k1 c1 f1 W
            rintro W ⟨hI, hF, hB⟩
            have k2 : W.cell? ⟨gf, 2, none⟩ = some (.int .i64 (c' : Int)) := (cell_of_heap hF).trans rfl
            have c2 := hI.some p2 (by (try simp only [List.length_set]); rw [HST.len]; exact lp2)
            obtain ⟨y2, c2⟩ := c2
            have f2 := hI.frozen p2
            have hI2 := hI.put p2 c'
            have hF2 : (W.setCell ⟨g, p2, none⟩ (.int .i64 (c' : Int))).heap[gf]? = some (.cells #[.int .i64 (a' : Int), .int .i64 (b' : Int), .int .i64 (c' : Int), .int .i64 (d' : Int)] 154 (0, 0)) := (Below.heap_setCell _ _ _ _ (by show gf ≠ g; exact hgf)).trans hF
            have hB2 := hB.setCell (p := ⟨g, p2, none⟩) HGW.out (.int .i64 (c' : Int))
            go_upto_region 17 with fail
            refine with_world (R := fun W => Code.wp _ _ _ _ W) (Q := fun W => IBuf W g (((st.set p0 a').set p1 b').set p2 c') ∧ W.heap[gf]? = some (.cells #[.int .i64 (a' : Int), .int .i64 (b' : Int), .int .i64 (c' : Int), .int .i64 (d' : Int)] 154 (0, 0)) ∧ Below w.heap.size w W) _ ⟨hI2, hF2, hB2⟩ ?_
            clear hI2 hF2 hB2 hI hF hB k2 c2 f2 W
            rintro W ⟨hI, hF, hB⟩
            have k3 : W.cell? ⟨gf, 3, none⟩ = some (.int .i64 (d' : Int)) := (cell_of_heap hF).trans rfl
            have c3 := hI.some p3 (by (try simp only [List.length_set]); rw [HST.len]; exact lp3)
            obtain ⟨y3, c3⟩ := c3
            have f3 := hI.frozen p3
            have hI2 := hI.put p3 d'
            have hF2 : (W.setCell ⟨g, p3, none⟩ (.int .i64 (d' : Int))).heap[gf]? = some (.cells #[.int .i64 (a' : Int), .int .i64 (b' : Int), .int .i64 (c' : Int), .int .i64 (d' : Int)] 154 (0, 0)) := (Below.heap_setCell _ _ _ _ (by show gf ≠ g; exact hgf)).trans hF
            have hB2 := hB.setCell (p := ⟨g, p3, none⟩) HGW.out (.int .i64 (d' : Int))
            rw [← put4_eqI st p0 p1 p2 p3 a' b' c' d', ← HF3.out, ← HQ.out] at hI2
            clear hI hF hB hF2
            go_wp2
            go_roundg (gk - 1)
            case measure => have := HN.out; omega
            case rel => exact ⟨n + 1, by have := HN.out; omega, by go_num, hI2, hB2⟩
        · obtain rfl : n = 8 := by omega
          rw [← HD.out] at hI
          go_wp2
          go_roundg (10 - (r + 1))
          case measure => have := HR.out; omega
          case rel => exact ⟨r + 1, by have := HR.out; omega, by go_num, hI, hB⟩
    · obtain rfl : r = 10 := by omega
      go_wp2
      go_ret
      exact ⟨g, cap, rfl, hc, hcm, HGW.out, hI, hB⟩

end Go.Proofs.YtengclnahppmhaaGreatDoor.Cha

namespace Go.Proofs.YtengclnahppmhaaGreatDoor.Cha
open Go.RowKit Go.Lib Go.Deep

/-- the errors of sizes and counter -/
def wrongN (key : ByteArray) (c : Int) (nonce : ByteArray) (size : Nat) : Int := if key.size ≠ 32 then 40 else if nonce.size ≠ size then 41 else if c < 0 ∨ c ≥ 4294967296 then 42 else 0

set_option maxHeartbeats 1000000 in
theorem wrong_any (key nonce : ByteArray) (c : Int) (size : Nat) (_hk : key.size ≤ maxLen) (_hn : nonce.size ≤ maxLen) (w : World) :
    Calls Tryz.prog 70 #[.string key, .int .i64 c, .string nonce, .int .i64 (size : Int)] w fun e w' => e = .returned (.int .i64 (wrongN key c nonce size)) ∧ w = w' := by
  unfold maxLen at _hk _hn
  unfold wrongN
  by_cases h1 : key.size = 32
  · have h1b : ((key.size : Int) != 32) = false := by rw [h1]; rfl
    have h1c : ((key.size : Int) == 32) = true := by rw [h1]; rfl
    rw [if_neg (by simp [h1])]
    by_cases h2 : nonce.size = size
    · rw [if_neg (by simp [h2])]
      by_cases h3 : c < 0
      · rw [if_pos (Or.inl h3)]
        go_enter Tryz.func70, Tryz.ntmps70
        go_wp2
        go_ret
        exact ⟨rfl, rfl⟩
      · by_cases h4 : 4294967296 ≤ c
        · rw [if_pos (Or.inr h4)]
          go_enter Tryz.func70, Tryz.ntmps70
          go_wp2
          go_ret
          exact ⟨rfl, rfl⟩
        · rw [if_neg (fun h => h.elim h3 h4)]
          go_enter Tryz.func70, Tryz.ntmps70
          go_wp2
          go_ret
          exact ⟨rfl, rfl⟩
    · have h2b : ((nonce.size : Int) == (size : Int)) = false := by simp; omega
      have h2c : ¬ ((nonce.size : Int) = (size : Int)) := by omega
      rw [if_pos h2]
      go_enter Tryz.func70, Tryz.ntmps70
      go_wp2
      go_ret
      exact ⟨rfl, rfl⟩
  · have h1b : ((key.size : Int) == 32) = false := by simp; omega
    have h1c : ¬ ((key.size : Int) = 32) := by omega
    rw [if_pos h1]
    go_enter Tryz.func70, Tryz.ntmps70
    go_wp2
    go_ret
    exact ⟨rfl, rfl⟩

theorem wrong_ok {key nonce : ByteArray} {c : Int} {size : Nat} (h1 : key.size = 32) (h2 : nonce.size = size) (h3 : 0 ≤ c) (h4 : c < 4294967296) : wrongN key c nonce size = 0 := by
  unfold wrongN
  rw [if_neg (by simp [h1]), if_neg (by simp [h2]), if_neg (by omega)]
theorem wrong_fault {key nonce : ByteArray} {c : Int} {size : Nat} (h : ¬ (key.size = 32 ∧ nonce.size = size)) : wrongN key c nonce size = faultN key nonce size := by
  unfold wrongN faultN
  by_cases h1 : key.size = 32
  · have h2 : nonce.size ≠ size := fun h2 => h ⟨h1, h2⟩
    simp [h1, h2]
  · rw [if_pos h1, if_pos h1]
theorem wrong_far {key nonce : ByteArray} {c : Int} {size : Nat} (h1 : key.size = 32) (h2 : nonce.size = size) (h3 : ¬ (0 ≤ c ∧ c < 4294967296)) : wrongN key c nonce size = 42 := by
  unfold wrongN
  rw [if_neg (by simp [h1]), if_neg (by simp [h2]), if_pos (by omega)]

theorem size3 : (Tryz.prog.info? 3).map (·.size) = some 1 := by kernel_rfl
theorem ints_elem : Tryz.prog.elem 39 = 3 := by kernel_rfl
set_option maxRecDepth 20000 in
theorem slice_to (W : World) (g L cap hi : Nat) (hhi : hi ≤ cap) : (Instr.slice 39 (.slice (some ⟨g, 0, none⟩) L cap) none (some (.int .i64 (hi : Int))) none).run Tryz.prog W = .ok (.slice (some ⟨g, 0, none⟩) hi cap) W := by
  obtain ⟨i0, hi0, hs0⟩ : ∃ i0, Tryz.prog.info? 3 = some i0 ∧ i0.size = 1 := by
    have h := size3
    cases hq : Tryz.prog.info? 3 with
    | none => simp [hq] at h
    | some i => exact ⟨i, rfl, by simpa [hq] using h⟩
  rw [run_slice_h (P := Tryz.prog) (ht := Tryz.underlying39) (kh := .i64) (h := (hi : Int)) (h0 := by omega) (h2 := by omega)]
  simp [sizeOf, typeInfo, ints_elem, hi0, hs0, sliced, Result.andThen, Addr.add_lit]
set_option maxRecDepth 20000 in
theorem slice_from (W : World) (g L cap lo : Nat) (hlo : lo ≤ L) (_hL : L ≤ cap) (hne : lo < cap) : (Instr.slice 39 (.slice (some ⟨g, 0, none⟩) L cap) (some (.int .i64 (lo : Int))) none none).run Tryz.prog W = .ok (.slice (some ⟨g, lo, none⟩) (L - lo) (cap - lo)) W := by
  obtain ⟨i0, hi0, hs0⟩ : ∃ i0, Tryz.prog.info? 3 = some i0 ∧ i0.size = 1 := by
    have h := size3
    cases hq : Tryz.prog.info? 3 with
    | none => simp [hq] at h
    | some i => exact ⟨i, rfl, by simpa [hq] using h⟩
  rw [run_slice_l (P := Tryz.prog) (ht := Tryz.underlying39) (kl := .i64) (l := (lo : Int)) (h0 := by omega) (h1 := by omega)]
  have h1 : ¬ cap = lo := by omega
  simp [sizeOf, typeInfo, ints_elem, hi0, hs0, sliced, Result.andThen, Addr.add_lit, h1]

theorem pick_parts (m : List Nat) (h : m.length = 16) : m.take 4 ++ m.drop 12 = pick m := by
  match m, h with
  | [x0, x1, x2, x3, x4, x5, x6, x7, x8, x9, x10, x11, x12, x13, x14, x15], _ => rfl

end Go.Proofs.YtengclnahppmhaaGreatDoor.Cha

namespace Go.Proofs.YtengclnahppmhaaGreatDoor.Cha
open Go.RowKit Go.Lib Go.Deep

theorem stateL_eq (key last : List UInt8) : con4 ++ wordsL key 8 ++ wordsL last 4 = stateL key last := rfl

set_option maxRecDepth 20000 in
set_option maxHeartbeats 2000000 in
theorem rhch_yes (key nonce : ByteArray) (hk : key.size = 32) (hn : nonce.size = 16) (w : World) (hP : PTabs w) (h3 : 8 ≤ w.heap.size) :
    Calls Tryz.prog 69 #[.string key, .string nonce] w fun e w' => e = .returned (.tuple #[.string (str (hchL key.data.toList nonce.data.toList)), .int .i64 0]) ∧ Below w.heap.size w w' := by
  obtain ⟨i0, hi, hz0, hz1, hz2⟩ := info_parts info3
  have hwr := wrong_any key nonce 0 16 (by unfold maxLen; omega) (by unfold maxLen; omega) w
  rw [wrong_ok hk hn (by omega) (by omega)] at hwr
  have hwo := wordsOf_any nonce 4 hn (by omega) w
  have hlf : (wordsL nonce.data.toList 4).length = 4 := wordsL_length _ _
  have hS := stateL_st key.data.toList nonce.data.toList
  have HL : Hid (hchL key.data.toList nonce.data.toList = textL (pick (mixedL (stateL key.data.toList nonce.data.toList)))) := rfl
  have hm16 := hS.mixed.len
  have hM := hS.mixed
  go_enter Tryz.func69, Tryz.ntmps69
  go_wp2_with fail
  refine hwr.mono ?_
  rintro e w1 ⟨rfl, rfl⟩
  go_wp2_with fail
  refine hwo.mono ?_
  rintro e w2 ⟨v2, rfl, hown2, hb2⟩
  obtain ⟨g2, cap2, rfl, hg2, hc2, hcm2, hl2, hr2⟩ := owns_range hown2 (by omega)
  have hst := start_any key hk (wordsL nonce.data.toList 4) hlf g2 cap2 w2 hl2 hr2
  rw [stateL_eq] at hst
  clear hwo hown2 hwr
  go_wp2_with fail
  refine hst.mono ?_
  rintro e w3 ⟨v3, rfl, hown3, hb3'⟩
  have hb3 := hb2.trans (hb3'.mono hb2.size)
  obtain ⟨g3, cap3, rfl, hg3, hc3, hcm3, hl3, hr3⟩ := owns_range hown3 (by omega)
  clear hst hb3' hr2 hown3
  have hro := rounds_any (stateL key.data.toList nonce.data.toList) hS g3 cap3 w3 hl3 hr3 (hP.below hb3 h3) (by have := hb3.size; omega)
  revert hro HL hm16 hM
  generalize mixedL (stateL key.data.toList nonce.data.toList) = m
  intro HL hm16 hM hro
  go_wp2_with fail
  refine hro.mono ?_
  rintro e w4 ⟨g, cap, rfl, hc16, hcm, hgw, hI, hb4'⟩
  have hb4 := hb3.trans (hb4'.mono hb3.size)
  clear hro hb4' hr3 hb3
  have hsl1 := fun W => slice_to W g 16 cap 4 (by omega)
  have hsl2 := fun W => slice_from W g 16 cap 12 (by omega) hc16 (by omega)
  have z4 := hb4.size
  have hnil := World.ownsRow_nil w4 w4.heap.size 3 1
  have hml1 : 0 + 4 ≤ maxLen := by unfold maxLen; omega
  have hml2 : 0 + 4 + 4 ≤ maxLen := by unfold maxLen; omega
  have hlt4 : (i64L (m.take 4)).length = 4 := by rw [i64L_length, List.length_take]; omega
  have hld : (i64L (m.drop 12)).length = 4 := by rw [i64L_length, List.length_drop]; omega
  have hcc1 : ∀ j u, (i64L (m.take 4))[j]? = some u → w4.cell? ((⟨g, 0, none⟩ : Addr).add j) = some u := by
    intro j u hu
    have hj := (List.getElem?_eq_some_iff.1 hu).1
    rw [i64L_length, List.length_take] at hj
    rw [Addr.add_lit, Nat.zero_add]
    have h1 := hI.range j u (by rw [i64L, List.getElem?_map] at hu ⊢; rwa [List.getElem?_take, if_pos (by omega)] at hu)
    rwa [Nat.zero_add] at h1
  go_upto_region 7 with (at_builtin; refine wpList_append_own _ rfl _ _ 39 rfl w4.heap.size 3 i0 (.int .i64 0) 1 8 Tryz.underlying39 hi hz0 hz1 hz2 rfl (by decide) _ _ _ rfl hnil ⟨g, 0, none⟩ 4 cap (i64L (m.take 4)) rfl hlt4 hcc1 (i64L_one _) hml1 (by omega) (Nat.le_refl _) ?_; intro v5 w5 hown5 hgrow5 _)
  have hb5' : Below w4.heap.size w4 w5 := grown_below hgrow5 (Nat.le_refl _) hnil
  have hI5 := hI.kept (hb5'.block g hI.lt)
  have hcc2 : ∀ j u, (i64L (m.drop 12))[j]? = some u → w5.cell? ((⟨g, 12, none⟩ : Addr).add j) = some u := by
    intro j u hu
    rw [Addr.add_lit]
    have h1 := hI5.range (12 + j) u (by rw [i64L, List.getElem?_map] at hu ⊢; rwa [List.getElem?_drop] at hu)
    rwa [Nat.zero_add] at h1
  clear hgrow5 hcc1 hnil hsl1
  go_upto_region 8 with (at_builtin; refine wpList_append_own _ rfl _ _ 39 rfl w4.heap.size 3 i0 (.int .i64 0) 1 8 Tryz.underlying39 hi hz0 hz1 hz2 rfl (by decide) _ _ _ rfl hown5 ⟨g, 12, none⟩ 4 (cap - 12) (i64L (m.drop 12)) rfl hld hcc2 (i64L_one _) hml2 (by omega) hb5'.size ?_; intro v6 w6 hown6 hgrow6 _)
  have hb6' : Below w4.heap.size w4 w6 := hb5'.trans (grown_below hgrow6 hb5'.size hown5)
  have hb6 := hb4.trans (hb6'.mono z4)
  have hown7 : w6.ownsRow w4.heap.size 3 1 v6 8 (i64L (pick m)) := by
    have h : w6.ownsRow w4.heap.size 3 1 v6 8 ([] ++ i64L (m.take 4) ++ i64L (m.drop 12)) := hown6
    rwa [List.nil_append, ← i64L_append, pick_parts m hm16] at h
  obtain ⟨g7, cap7, rfl, hg7, hc7, hcm7, hl7, hr7⟩ := owns_range hown7 (by omega)
  have hpick : ∀ x ∈ pick m, x < 4294967296 := by
    intro x hx
    simp only [pick, List.mem_cons, List.not_mem_nil, or_false] at hx
    rcases hx with rfl | rfl | rfl | rfl | rfl | rfl | rfl | rfl <;> exact hM.at_lt _
  have hby := bytesOf_any (pick m) hpick (by simp [pick]) g7 cap7 w6 hl7 hr7
  have hpl : (pick m).length = 8 := rfl
  rw [hpl] at hby
  clear hown6 hown7 hgrow6 hown5 hcc2 hsl2 hI hI5 hr7 hb5' hb6' hb4
  go_wp2_with (go_at_call 92; refine hby.mono ?_; rintro e w8 ⟨rfl, hb8⟩)
  go_ret2
  rw [HL.out]
  exact ⟨rfl, hb6.trans (hb8.mono hb6.size)⟩

theorem rhch_no (key nonce : ByteArray) (hk : key.size ≤ maxLen) (hn : nonce.size ≤ maxLen) (h : ¬ (key.size = 32 ∧ nonce.size = 16)) (w : World) :
    Calls Tryz.prog 69 #[.string key, .string nonce] w fun e w' => e = .returned (.tuple #[.string { data := #[] }, .int .i64 (faultN key nonce 16)]) ∧ w = w' := by
  have hwr := wrong_any key nonce 0 16 hk hn w
  rw [wrong_fault h] at hwr
  rcases fault_no h with h40 | h40
  · rw [h40] at hwr ⊢
    go_enter Tryz.func69, Tryz.ntmps69
    go_wp2_with fail
    refine hwr.mono ?_
    rintro e w1 ⟨rfl, rfl⟩
    go_wp2
    go_ret2
    exact ⟨rfl, rfl⟩
  · rw [h40] at hwr ⊢
    go_enter Tryz.func69, Tryz.ntmps69
    go_wp2_with fail
    refine hwr.mono ?_
    rintro e w1 ⟨rfl, rfl⟩
    go_wp2
    go_ret2
    exact ⟨rfl, rfl⟩

end Go.Proofs.YtengclnahppmhaaGreatDoor.Cha

namespace Go.Proofs.YtengclnahppmhaaGreatDoor.Cha
open Go.RowKit Go.Lib Go.Deep

set_option maxRecDepth 20000 in
set_option maxHeartbeats 4000000 in
theorem rblock_any (key nonce : ByteArray) (c : Nat) (hk : key.size = 32) (hn : nonce.size = 12) (hc : c < 4294967296) (w : World) (hP : PTabs w) (h3 : 8 ≤ w.heap.size) :
    Calls Tryz.prog 71 #[.string key, .int .i64 (c : Int), .string nonce] w fun e w' => e = .returned (.string (str (blockL key.data.toList c nonce.data.toList))) ∧ Below w.heap.size w w' := by
  obtain ⟨i0, hi, hz0, hz1, hz2⟩ := info_parts info3
  have HB : Hid (blockL key.data.toList c nonce.data.toList = blockOf (streamL key.data.toList c nonce.data.toList)) := rfl
  have hSt : St (streamL key.data.toList c nonce.data.toList) := stateL_st _ _
  have HSE : Hid (con4 ++ wordsL key.data.toList 8 ++ ([c] ++ wordsL nonce.data.toList 3) = streamL key.data.toList c nonce.data.toList) := (streamL_eq key.data.toList c nonce.data.toList hc).symm
  have hlw : (i64L (wordsL nonce.data.toList 3)).length = 3 := by rw [i64L_length, wordsL_length]
  have hlf : ([c] ++ wordsL nonce.data.toList 3).length = 4 := by rw [List.length_append, wordsL_length]; rfl
  have hnil := World.ownsRow_nil w w.heap.size 3 1
  have hone1 : ∀ u ∈ [Value.int .i64 (c : Int)], u.oneCell' = true := i64L_one [c]
  have hml1 : 0 + 1 ≤ maxLen := by unfold maxLen; omega
  have hml2 : 0 + 1 + 3 ≤ maxLen := by unfold maxLen; omega
  have hbA : Below w.heap.size w (w.alloc (.cells #[.int .i64 (c : Int)] 3)) := (Below.refl _ _).alloc (Nat.le_refl _) _
  go_enter Tryz.func71, Tryz.ntmps71
  go_upto_region 3 with (at_builtin; refine wpList_append_own _ rfl _ _ 39 rfl w.heap.size 3 i0 (.int .i64 0) 1 8 Tryz.underlying39 hi hz0 hz1 hz2 rfl (by decide) _ _ _ rfl (hnil.alloc _) ⟨w.heap.size, 0, none⟩ 1 1 [.int .i64 (c : Int)] rfl rfl (by intro j u h; exact cells_new w #[.int .i64 (c : Int)] 3 j u (by simpa using h)) hone1 hml1 (by omega) hbA.size ?_; intro v1 w1 hown1 hgrow1 _)
  have hb1 : Below w.heap.size w w1 := hbA.trans (grown_below hgrow1 hbA.size (hnil.alloc _))
  have hwo := wordsOf_any nonce 3 hn (by omega) w1
  clear hgrow1 hbA hnil
  go_wp2_with fail
  refine hwo.mono ?_
  rintro e w2 ⟨v2, rfl, hown2, hb2'⟩
  have hb2 := hb1.trans (hb2'.mono hb1.size)
  have hown1' := owns_kept hown1 (fun k hk => hb2'.block k hk)
  obtain ⟨g2, cap2, rfl, hg2, hc2, hcm2, hl2, hr2⟩ := owns_range hown2 (by omega)
  clear hwo hown1 hown2 hb2' hb1
  go_upto_region 4 with (at_builtin; refine wpList_append_own _ rfl _ _ 39 rfl w.heap.size 3 i0 (.int .i64 0) 1 8 Tryz.underlying39 hi hz0 hz1 hz2 rfl (by decide) _ _ _ rfl hown1' ⟨g2, 0, none⟩ 3 cap2 (i64L (wordsL nonce.data.toList 3)) rfl hlw (cells_range hr2) (i64L_one _) hml2 (by omega) hb2.size ?_; intro v3 w3 hown3 hgrow3 _)
  have hb3 : Below w.heap.size w w3 := hb2.trans (grown_below hgrow3 hb2.size hown1')
  have hown3' : w3.ownsRow w.heap.size 3 1 v3 4 (i64L ([c] ++ wordsL nonce.data.toList 3)) := by
    have h : w3.ownsRow w.heap.size 3 1 v3 4 ([] ++ [.int .i64 (c : Int)] ++ i64L (wordsL nonce.data.toList 3)) := hown3
    rw [i64L_append]
    exact h
  obtain ⟨g4, cap4, rfl, hg4, hc4, hcm4, hl4, hr4⟩ := owns_range hown3' (by omega)
  have hst := start_any key hk ([c] ++ wordsL nonce.data.toList 3) hlf g4 cap4 w3 hl4 hr4
  rw [HSE.out] at hst
  clear hown1' hown3 hgrow3 hr2 hb2 hown3' hr4
  go_wp2_with fail
  refine hst.mono ?_
  rintro e w5 ⟨v5, rfl, hown5, hb5'⟩
  have hb5 := hb3.trans (hb5'.mono hb3.size)
  obtain ⟨ga, capa, rfl, hga, hca, hcma, hla, hra⟩ := owns_range hown5 (by omega)
  have hgw : w.heap.size ≤ ga := Nat.le_trans hb3.size hga
  clear hst hb5' hown5 hb3 hga
  have hro := rounds_any (streamL key.data.toList c nonce.data.toList) hSt ga capa w5 hla hra (hP.below hb5 h3) (by have := hb5.size; omega)
  have HBO : Hid (blockOf (streamL key.data.toList c nonce.data.toList) = textL (addL (mixedL (streamL key.data.toList c nonce.data.toList)) (streamL key.data.toList c nonce.data.toList))) := rfl
  have hmS := hSt.mixed
  revert hro HBO HB hSt hra hmS
  generalize mixedL (streamL key.data.toList c nonce.data.toList) = m
  generalize streamL key.data.toList c nonce.data.toList = s
  intro HB hSt hra hro HBO hmS
  have hm16 := hmS.len
  have hs16 := hSt.len
  go_wp2_with fail
  refine hro.mono ?_
  rintro e w6 ⟨g, cap, rfl, hc16, hcm, hgw6, hI, hb6'⟩
  have hb6 := hb5.trans (hb6'.mono hb5.size)
  have hra6 := range_kept hra (hb6'.block ga hla)
  have HNE : Hid (ga < g) := by show _ < _; omega
  have HGW : Hid (w.heap.size ≤ g) := by show _ ≤ _; have := hb5.size; omega
  clear hro hb6' hra hb5
  go_wp2
  go_loopg [10] 16 (fun gk i wr => ∃ k : Nat, k + gk = 16 ∧ i = .int .i64 k ∧ IBuf wr g (addMix m s k) ∧ wr.rangeAt ga 0 (i64L s) ∧ Below w.heap.size w wr)
  case atStart => exact ⟨0, by omega, rfl, by rw [addMix_zero]; exact hI, hra6, hb6⟩
  case round =>
    clear hI hra6 hb6
    obtain ⟨k, hkk, rfl, hI, hra, hB⟩ := hrel
    have HK : Hid (k + gk = 16) := hkk
    have hk' : k ≤ 16 := by omega
    clear hkk
    by_cases hlt : k < 16
    · have hltI : (k : Int) < 16 := by omega
      have hal := addMix_length m s k hm16 hk'
      have c1 : wr.cell? ⟨g, k, none⟩ = some (.int .i64 ((m.getD k 0 : Nat) : Int)) := by rw [hI.cell k (by omega), addMix_at]
      have c2 : wr.cell? ⟨ga, k, none⟩ = some (.int .i64 ((s.getD k 0 : Nat) : Int)) := by
        have := hra k _ (i64L_at s k (by omega))
        rwa [Nat.zero_add] at this
      have f1 := hI.frozen k
      have c1d : wr.drew.cell? ⟨g, k, none⟩ = some (.int .i64 ((m.getD k 0 : Nat) : Int)) := c1
      have c2d : wr.drew.cell? ⟨ga, k, none⟩ = some (.int .i64 ((s.getD k 0 : Nat) : Int)) := c2
      have f1d : wr.drew.frozen? ⟨g, k, none⟩ = false := f1
      have HP := hI.put k ((m.getD k 0 + s.getD k 0) % 4294967296)
      rw [addMix_set m s k (by omega)] at HP
      have lx := hmS.at_lt k
      have ly := hSt.at_lt k
      clear hI hal
      revert c1 c2 c1d c2d HP lx ly
      generalize m.getD k 0 = x
      generalize s.getD k 0 = y
      intro c1 c2 c1d c2d HP lx ly
      obtain ⟨z, hz⟩ : ∃ z, (x + y) % 4294967296 = z := ⟨_, rfl⟩
      rw [hz] at HP
      have hw1 : IntKind.i64.wrap ((x : Int) + (y : Int)) = (x : Int) + (y : Int) := by rw [IntKind.wrap_i64]; omega
      have hw2 : ((x : Int) + (y : Int)) % 4294967296 = (z : Int) := by omega
      have hw3 : ((x : Int) + (y : Int)).tmod 4294967296 = (z : Int) := by rw [Int.tmod_eq_emod_of_nonneg (by omega)]; omega
      clear hz
      have HPd : IBuf (wr.setCell ⟨g, k, none⟩ (.int .i64 (z : Int))).drew g (addMix m s (k + 1)) := HP.kept rfl
      have hra2 : (wr.setCell ⟨g, k, none⟩ (.int .i64 (z : Int))).drew.rangeAt ga 0 (i64L s) := range_kept hra (Below.heap_setCell _ _ _ _ (by show ga ≠ g; have := HNE.out; omega))
      have hB2 : Below w.heap.size w (wr.setCell ⟨g, k, none⟩ (.int .i64 (z : Int))).drew := (hB.setCell HGW.out _).drew
      go_wp2_with fail
      go_region
      refine with_world (R := fun W => Exit.inBlock _ _ _ _ W) (Q := fun W => IBuf W g (addMix m s (k + 1)) ∧ W.rangeAt ga 0 (i64L s) ∧ Below w.heap.size w W) _ ⟨HPd, hra2, hB2⟩ ?_
      clear HP HPd hra2 hB2 hra hB c1 c2 c1d c2d f1 f1d hw1 hw2 hw3
      rintro w9 ⟨HP, hra, hB⟩
      go_wp2
      go_roundg (gk - 1)
      case measure => have := HK.out; omega
      case rel => exact ⟨k + 1, by have := HK.out; omega, by go_num, HP, hra, hB⟩
    · obtain rfl : k = 16 := by omega
      rw [addMix_all m s hm16] at hI
      have hL := addL_st m s
      have hby := bytesOf_any (addL m s) hL.lt (by rw [hL.len]; omega) g cap wr hI.lt hI.range
      rw [hL.len] at hby
      clear hI hra
      go_wp2_with (go_at_call 92; refine hby.mono ?_; rintro e w10 ⟨rfl, hb10⟩)
      go_ret
      rw [HB.out, HBO.out]
      exact ⟨rfl, hB.trans (hb10.mono hB.size)⟩

theorem rBlock_yes (key nonce : ByteArray) (c : Nat) (hk : key.size = 32) (hn : nonce.size = 12) (hc : c < 4294967296) (w : World) (hP : PTabs w) (h3 : 8 ≤ w.heap.size) :
    Calls Tryz.prog 72 #[.string key, .int .i64 (c : Int), .string nonce] w fun e w' => e = .returned (.tuple #[.string (str (blockL key.data.toList c nonce.data.toList)), .int .i64 0]) ∧ Below w.heap.size w w' := by
  have hwr := wrong_any key nonce (c : Int) 12 (by unfold maxLen; omega) (by unfold maxLen; omega) w
  rw [wrong_ok hk hn (by omega) (by omega)] at hwr
  have hbl := rblock_any key nonce c hk hn hc w hP h3
  revert hbl
  generalize str (blockL key.data.toList c nonce.data.toList) = y
  intro hbl
  go_enter Tryz.func72, Tryz.ntmps72
  go_wp2_with fail
  refine hwr.mono ?_
  rintro e w1 ⟨rfl, rfl⟩
  go_wp2_with (go_at_call 71; refine hbl.mono ?_; rintro e w2 ⟨rfl, hb2⟩)
  go_ret2
  exact ⟨rfl, hb2⟩
theorem wrong_not {key nonce : ByteArray} {c : Int} {size : Nat} (h : ¬ (key.size = 32 ∧ nonce.size = size ∧ 0 ≤ c ∧ c < 4294967296)) : wrongN key c nonce size = 40 ∨ wrongN key c nonce size = 41 ∨ wrongN key c nonce size = 42 := by
  by_cases h1 : key.size = 32 ∧ nonce.size = size
  · exact .inr (.inr (wrong_far h1.1 h1.2 fun h2 => h ⟨h1.1, h1.2, h2⟩))
  · rw [wrong_fault h1]
    rcases fault_no h1 with h2 | h2
    · exact .inl h2
    · exact .inr (.inl h2)
theorem rBlock_no (key nonce : ByteArray) (c : Int) (hk : key.size ≤ maxLen) (hn : nonce.size ≤ maxLen) (h : ¬ (key.size = 32 ∧ nonce.size = 12 ∧ 0 ≤ c ∧ c < 4294967296)) (w : World) :
    Calls Tryz.prog 72 #[.string key, .int .i64 c, .string nonce] w fun e w' => e = .returned (.tuple #[.string { data := #[] }, .int .i64 (wrongN key c nonce 12)]) ∧ w = w' := by
  have hwr := wrong_any key nonce c 12 hk hn w
  rcases wrong_not h with h40 | h40 | h40 <;>
  · rw [h40] at hwr ⊢
    clear h h40
    go_enter Tryz.func72, Tryz.ntmps72
    go_wp2_with fail
    refine hwr.mono ?_
    rintro e w1 ⟨rfl, rfl⟩
    go_wp2
    go_ret2
    exact ⟨rfl, rfl⟩

end Go.Proofs.YtengclnahppmhaaGreatDoor.Cha

namespace Go.Proofs.YtengclnahppmhaaGreatDoor.Cha
open Go.RowKit Go.Lib Go.Deep

theorem over_fill (key : List UInt8) (c : Nat) (nonce data : List UInt8) : (List.range data.length).map (fun i => data.getD i 0 ^^^ streamB key c nonce i) = overL key c nonce data := rfl

set_option maxRecDepth 20000 in
set_option maxHeartbeats 4000000 in
theorem rxor_yes (key nonce data : ByteArray) (c : Nat) (hk : key.size = 32) (hn : nonce.size = 12) (hd : data.size ≤ 281474976710656) (hc : c < 4294967296) (hroom : c + (data.size + 63) / 64 ≤ 4294967296) (w : World) (hP : PTabs w) (h3 : 8 ≤ w.heap.size) :
    Calls Tryz.prog 51 #[.string key, .int .i64 (c : Int), .string nonce, .string data] w fun e w' => e = .returned (.tuple #[.string (str (overL key.data.toList c nonce.data.toList data.data.toList)), .int .i64 0]) ∧ Below w.heap.size w w' := by
  obtain ⟨i0, hi, hz0, hz1, hz2⟩ := info_parts info5
  have hwr := wrong_any key nonce (c : Int) 12 (by unfold maxLen; omega) (by unfold maxLen; omega) w
  rw [wrong_ok hk hn (by omega) (by omega)] at hwr
  have hz : data.data.toList.length = data.size := (size_eq data).symm
  obtain ⟨nb, hnb⟩ : ∃ nb, (data.size + 63) / 64 = nb := ⟨_, rfl⟩
  rw [hnb] at hroom
  have HNB : Hid ((data.size + 63) / 64 = nb) := hnb
  have hq : ((data.size : Int) + 63) / 64 = (nb : Int) := by omega
  have hq2 : ((data.size : Int) + 63).tdiv 64 = (nb : Int) := by rw [Int.tdiv_eq_ediv_of_nonneg (by omega)]; exact hq
  have hgt : ¬ (4294967296 < (c : Int) + (nb : Int)) := by omega
  have hgt2 : decide (4294967296 < (c : Int) + (nb : Int)) = false := decide_eq_false hgt
  clear hnb
  have HBL : Hid (∀ (n : Nat), c + n < 4294967296 → ∀ W, Below w.heap.size w W → Calls Tryz.prog 71 #[.string key, .int .i64 ((c : Int) + (n : Int)), .string nonce] W fun e w' => e = .returned (.string (str (blockL key.data.toList (c + n) nonce.data.toList))) ∧ Below W.heap.size W w') := fun n hn2 W hb => by
    have h := rblock_any key nonce (c + n) hk hn hn2 W (hP.below hb h3) (by have := hb.size; omega)
    rwa [show ((c + n : Nat) : Int) = (c : Int) + (n : Int) by omega] at h
  have HOV : Hid ((List.range data.size).map (fun i => data.data.toList.getD i 0 ^^^ streamB key.data.toList c nonce.data.toList i) = overL key.data.toList c nonce.data.toList data.data.toList) := by
    show _ = _
    rw [← over_fill, hz]
  go_enter Tryz.func51, Tryz.ntmps51
  go_wp2_with fail
  refine hwr.mono ?_
  rintro e w1 ⟨rfl, rfl⟩
  go_wp2_with (at_make; refine wpList_make_full _ rfl _ _ 96 rfl w.heap.size 5 i0 (.int .u8 0) 1 Tryz.underlying96 hi hz0 hz1 .i64 .i64 _ _ data.size rfl rfl rfl rfl (by rw [hz2]; omega) (by unfold maxLen; omega) (Nat.le_refl _) ?_; intro w1 hown1 hg1)
  have hb1 : Below w.heap.size w w1 := Below.grown (Below.refl _ _) hg1 (Nat.le_refl _) (by simp)
  have HR1 := Rw.made hown1
  clear hown1 hg1 hwr hq hq2 hgt hgt2
  go_loopg [12, 13] data.size (fun gk sv i wr => ∃ (k : Nat) (ys : ByteArray), k + gk = data.size ∧ i = .int .i64 k ∧ sv = .string ys ∧ (k % 64 ≠ 0 → ys = str (blockL key.data.toList (c + k / 64) nonce.data.toList)) ∧ Rw wr w.heap.size (fillL (fun i => data.data.toList.getD i 0 ^^^ streamB key.data.toList c nonce.data.toList i) data.size k) ∧ Below w.heap.size w wr)
  case atStart => exact ⟨0, _, by omega, rfl, rfl, fun h => absurd rfl h, by rw [fillL_zero]; exact HR1, hb1⟩
  case round =>
    clear HR1 hb1
    obtain ⟨k, ys, hkk, rfl, rfl, hys, HR, hB⟩ := hrel
    have HK : Hid (k + gk = data.size) := hkk
    have hk' : k ≤ data.size := by omega
    clear hkk
    by_cases hlt : k < data.size
    · have hltI : (k : Int) < (data.size : Int) := by omega
      have hk63 : (k : Int) < 9223372036854775807 := by omega
      obtain ⟨x, hx⟩ : ∃ x, data.data.toList[k]? = some x := ⟨_, List.getElem?_eq_getElem (by omega)⟩
      have hix := fun W => rindex_at (P := Tryz.prog) W 9 data .i64 (k : Int) k x Tryz.underlying9 rfl hx
      obtain ⟨y, hy⟩ : ∃ y, (blockL key.data.toList (c + k / 64) nonce.data.toList)[k % 64]? = some y := ⟨_, List.getElem?_eq_getElem (by rw [blockL_length]; omega)⟩
      have hiy := fun W => rindex_at (P := Tryz.prog) W 9 (str (blockL key.data.toList (c + k / 64) nonce.data.toList)) .i64 ((k : Int) % 64) (k % 64) y Tryz.underlying9 (by omega) (by rw [str_data]; exact hy)
      have HXY : Hid (data.data.toList.getD k 0 ^^^ streamB key.data.toList c nonce.data.toList k = x ^^^ y) := by
        show _ = _
        rw [streamB, List.getD_eq_getElem?_getD, List.getD_eq_getElem?_getD, hx, hy]
        rfl
      have hx8 := x.toNat_lt
      have hy8 := y.toNat_lt
      have hxor : bits .xor .u8 (x.toNat : Int) (y.toNat : Int) = ((x ^^^ y).toNat : Int) := by rw [u8_xor_nat _ _ hx8 hy8, UInt8.toNat_xor]
      have HNX : Hid ((k + 1) % 64 ≠ 0 → str (blockL key.data.toList (c + k / 64) nonce.data.toList) = str (blockL key.data.toList (c + (k + 1) / 64) nonce.data.toList)) := fun h => by rw [show (k + 1) / 64 = k / 64 by omega]
      have HFL : Hid (∀ W, Rw W w.heap.size (fillL (fun i => data.data.toList.getD i 0 ^^^ streamB key.data.toList c nonce.data.toList i) data.size k) → Rw (W.setCell ⟨w.heap.size, k, none⟩ (.int .u8 ((x ^^^ y).toNat : Int))) w.heap.size (fillL (fun i => data.data.toList.getD i 0 ^^^ streamB key.data.toList c nonce.data.toList i) data.size (k + 1)) ∧ W.cell? ⟨w.heap.size, k, none⟩ = some (.int .u8 0) ∧ W.frozen? ⟨w.heap.size, k, none⟩ = false) := fun W h => by
        refine ⟨?_, h.cell k 0 (fillL_at _ data.size k hlt), h.frozen k⟩
        have h1 := h.put k (x ^^^ y)
        have h2 := fillL_set (fun i => data.data.toList.getD i 0 ^^^ streamB key.data.toList c nonce.data.toList i) data.size k hlt
        rw [HXY.out] at h2
        rwa [h2] at h1
      have hblk := HBL.out (k / 64) (by have := HNB.out; omega)
      have hkd : (k : Int) / 64 = ((k / 64 : Nat) : Int) := by omega
      clear hx hy hx8 hy8 HXY
      revert hiy hys HNX hblk
      generalize str (blockL key.data.toList (c + k / 64) nonce.data.toList) = yb
      intro hys hiy HNX hblk
      revert hix hiy hxor HFL
      generalize (x.toNat : Int) = xi
      generalize (y.toNat : Int) = yi
      generalize ((x ^^^ y).toNat : Int) = zi
      intro hix hxor HFL hiy
      by_cases hm0 : k % 64 = 0
      · have hmI : ((k : Int) % 64) = 0 := by omega
        have hblk1 := hblk wr hB
        rw [← hkd] at hblk1
        clear hkd
        have hw3 : IntKind.i64.wrap ((c : Int) + (k : Int) / 64) = (c : Int) + (k : Int) / 64 := by rw [IntKind.wrap_i64]; omega
        have hw3' : wrap64 ((c : Int) + (k : Int) / 64) = (c : Int) + (k : Int) / 64 := by unfold wrap64; omega
        have hm1 : ((k : Int) % 64 == 0) = true := by simp [hmI]
        rw [hmI] at hiy
        go_wp2_with fail
        refine hblk1.mono ?_
        rintro e w5 ⟨rfl, hb5⟩
        have hR5 := HR.kept (hb5.block _ (heap_lt HR))
        have hB5 := hB.trans (hb5.mono hB.size)
        obtain ⟨hput, c0, f0⟩ := HFL.out w5 hR5
        clear HR hB hb5 hblk1 hR5 hblk
        have c0d : w5.drew.cell? ⟨w.heap.size, k, none⟩ = some (.int .u8 0) := c0
        have f0d : w5.drew.frozen? ⟨w.heap.size, k, none⟩ = false := f0
        have hputd : Rw (w5.setCell ⟨w.heap.size, k, none⟩ (.int .u8 zi)).drew w.heap.size (fillL (fun i => data.data.toList.getD i 0 ^^^ streamB key.data.toList c nonce.data.toList i) data.size (k + 1)) := hput
        have hBd : Below w.heap.size w (w5.setCell ⟨w.heap.size, k, none⟩ (.int .u8 zi)).drew := (hB5.setCell (p := ⟨w.heap.size, k, none⟩) (Nat.le_refl _) _).drew
        go_wp2_with fail
        go_region
        refine with_world (R := fun W => Exit.inBlock _ _ _ _ W) (Q := fun W => Rw W w.heap.size (fillL (fun i => data.data.toList.getD i 0 ^^^ streamB key.data.toList c nonce.data.toList i) data.size (k + 1)) ∧ Below w.heap.size w W) _ ⟨hputd, hBd⟩ ?_
        clear hputd hBd hput c0 f0 c0d f0d
        rintro w9 ⟨hR9, hB9⟩
        go_wp2
        go_roundg (gk - 1)
        case measure => have := HK.out; omega
        case rel => exact ⟨k + 1, yb, by have := HK.out; omega, by go_num, rfl, HNX.out, hR9, hB9⟩
      · have hmI : ¬ ((k : Int) % 64 = 0) := by omega
        have hm1 : ((k : Int) % 64 == 0) = false := by simp; omega
        clear hkd
        obtain rfl := hys hm0
        obtain ⟨hput, c0, f0⟩ := HFL.out wr HR
        clear HR hblk
        have c0d : wr.drew.cell? ⟨w.heap.size, k, none⟩ = some (.int .u8 0) := c0
        have f0d : wr.drew.frozen? ⟨w.heap.size, k, none⟩ = false := f0
        have hputd : Rw (wr.setCell ⟨w.heap.size, k, none⟩ (.int .u8 zi)).drew w.heap.size (fillL (fun i => data.data.toList.getD i 0 ^^^ streamB key.data.toList c nonce.data.toList i) data.size (k + 1)) := hput
        have hBd : Below w.heap.size w (wr.setCell ⟨w.heap.size, k, none⟩ (.int .u8 zi)).drew := (hB.setCell (p := ⟨w.heap.size, k, none⟩) (Nat.le_refl _) _).drew
        obtain ⟨r, hr⟩ : ∃ r : Int, (k : Int) % 64 = r := ⟨_, rfl⟩
        have hr0 : 0 ≤ r ∧ r < 64 := by omega
        rw [hr] at hiy hmI hm1
        go_wp2_with fail
        go_region
        refine with_world (R := fun W => Exit.inBlock _ _ _ _ W) (Q := fun W => Rw W w.heap.size (fillL (fun i => data.data.toList.getD i 0 ^^^ streamB key.data.toList c nonce.data.toList i) data.size (k + 1)) ∧ Below w.heap.size w W) _ ⟨hputd, hBd⟩ ?_
        clear hputd hBd hput c0 f0 c0d f0d
        rintro w9 ⟨hR9, hB9⟩
        go_wp2
        go_roundg (gk - 1)
        case measure => have := HK.out; omega
        case rel => exact ⟨k + 1, _, by have := HK.out; omega, by go_num, rfl, HNX.out, hR9, hB9⟩
    · obtain rfl : k = data.size := by omega
      have hltI : ¬ (data.size : Int) < (data.size : Int) := by omega
      rw [fillL_all, HOV.out] at HR
      have hcv := HR.text (P := Tryz.prog) 96 9 data.size Tryz.underlying96 Tryz.underlying5 Tryz.underlying9
      rw [overL_length, hz] at hcv
      clear HR hys
      go_wp2
      go_ret2
      exact ⟨rfl, hB⟩

theorem rxor_no (key nonce data : ByteArray) (c : Int) (hk : key.size ≤ maxLen) (hn : nonce.size ≤ maxLen) (h : ¬ (key.size = 32 ∧ nonce.size = 12 ∧ 0 ≤ c ∧ c < 4294967296)) (w : World) :
    Calls Tryz.prog 51 #[.string key, .int .i64 c, .string nonce, .string data] w fun e w' => e = .returned (.tuple #[.string { data := #[] }, .int .i64 (wrongN key c nonce 12)]) ∧ w = w' := by
  have hwr := wrong_any key nonce c 12 hk hn w
  rcases wrong_not h with h40 | h40 | h40 <;>
  · rw [h40] at hwr ⊢
    clear h h40
    go_enter Tryz.func51, Tryz.ntmps51
    go_wp2_with fail
    refine hwr.mono ?_
    rintro e w1 ⟨rfl, rfl⟩
    go_wp2
    go_ret2
    exact ⟨rfl, rfl⟩

theorem rxor_many (key nonce data : ByteArray) (c : Nat) (hk : key.size = 32) (hn : nonce.size = 12) (hd : data.size ≤ 281474976710656) (hc : c < 4294967296) (hroom : ¬ (c + (data.size + 63) / 64 ≤ 4294967296)) (w : World) :
    Calls Tryz.prog 51 #[.string key, .int .i64 (c : Int), .string nonce, .string data] w fun e w' => e = .returned (.tuple #[.string { data := #[] }, .int .i64 42]) ∧ w = w' := by
  have hwr := wrong_any key nonce (c : Int) 12 (by unfold maxLen; omega) (by unfold maxLen; omega) w
  rw [wrong_ok hk hn (by omega) (by omega)] at hwr
  obtain ⟨nb, hnb⟩ : ∃ nb, (data.size + 63) / 64 = nb := ⟨_, rfl⟩
  rw [hnb] at hroom
  have hq : ((data.size : Int) + 63) / 64 = (nb : Int) := by omega
  have hq2 : ((data.size : Int) + 63).tdiv 64 = (nb : Int) := by rw [Int.tdiv_eq_ediv_of_nonneg (by omega)]; exact hq
  have hnl : (nb : Int) ≤ 4398046511105 := by omega
  have hgt : (4294967296 < (c : Int) + (nb : Int)) := by omega
  clear hnb hroom
  go_enter Tryz.func51, Tryz.ntmps51
  go_wp2_with fail
  refine hwr.mono ?_
  rintro e w1 ⟨rfl, rfl⟩
  go_wp2
  go_ret2
  exact ⟨rfl, rfl⟩

end Go.Proofs.YtengclnahppmhaaGreatDoor.Cha
