import Derived.Test.YtebhmebldemndaaDoorRf4C
import Derived.Test.YtebhmebldemndaaDoorBaseM
import Derived.Deep.Cut
namespace Go.Proofs.YtebhmebldemndaaDoor.Cha
open Go.RowKit Go.Lib Go.Deep

/-- numbers in a row of their own, written over -/
structure IBuf (w : World) (g : Nat) (l : List Nat) : Prop where
  cur : ∃ cur : Array Value, w.heap[g]? = some (.cells cur 3 (0, 0)) ∧ l.length ≤ cur.size ∧ cur.toList.take l.length = i64L l
theorem IBuf.lt {w : World} {g : Nat} {l : List Nat} (h : IBuf w g l) : g < w.heap.size := by
  obtain ⟨cur, h1, _⟩ := h.cur
  exact heap_lt h1
theorem IBuf.kept {w w' : World} {g : Nat} {l : List Nat} (h : IBuf w g l) (hk : w'.heap[g]? = w.heap[g]?) : IBuf w' g l := by
  obtain ⟨cur, h1, h2⟩ := h.cur
  exact ⟨cur, hk.trans h1, h2⟩
theorem IBuf.frozen {w : World} {g : Nat} {l : List Nat} (h : IBuf w g l) (i : Nat) : w.frozen? ⟨g, i, none⟩ = false := by
  obtain ⟨cur, h1, _⟩ := h.cur
  exact frozen_of_heap h1
theorem IBuf.cell {w : World} {g : Nat} {l : List Nat} (h : IBuf w g l) (i : Nat) (hi : i < l.length) : w.cell? ⟨g, i, none⟩ = some (.int .i64 ((l.getD i 0 : Nat) : Int)) := by
  obtain ⟨cur, h1, h2, h3⟩ := h.cur
  have e : (cur.toList.take l.length)[i]? = some (.int .i64 ((l.getD i 0 : Nat) : Int)) := by rw [h3]; exact i64L_at l i hi
  rw [List.getElem?_take, if_pos hi, Array.getElem?_toList] at e
  rw [cell_of_heap h1]
  exact e
theorem IBuf.some {w : World} {g : Nat} {l : List Nat} (h : IBuf w g l) (i : Nat) (hi : i < l.length) : ∃ y : Int, w.cell? ⟨g, i, none⟩ = .some (.int .i64 y) := ⟨_, h.cell i hi⟩
theorem IBuf.put {w : World} {g : Nat} {l : List Nat} (h : IBuf w g l) (i x : Nat) : IBuf (w.setCell ⟨g, i, none⟩ (.int .i64 (x : Int))) g (l.set i x) := by
  obtain ⟨cur, h1, h2, h3⟩ := h.cur
  refine ⟨cur.setIfInBounds i (.int .i64 (x : Int)), heap_setCell_same _ _ _ _ _ _ h1, by rw [List.length_set, Array.size_setIfInBounds]; exact h2, ?_⟩
  have e : i64L (l.set i x) = (i64L l).set i (.int .i64 (x : Int)) := by simp [i64L]
  rw [List.length_set, e, ← h3, Array.toList_setIfInBounds, List.take_set]
theorem IBuf.range {w : World} {g : Nat} {l : List Nat} (h : IBuf w g l) : w.rangeAt g 0 (i64L l) := by
  intro j v hv
  have hj : j < l.length := by
    have := (List.getElem?_eq_some_iff.1 hv).1
    rwa [i64L_length] at this
  rw [i64L_at l j hj] at hv
  rw [Nat.zero_add, h.cell j hj]
  exact hv
theorem IBuf.of_owns {w : World} {B n : Nat} {v : Value} {ws : List Nat} (h : w.ownsRow B 3 1 v n (i64L ws)) (hn : 0 < n) (hl : ws.length = n) : ∃ g cap, v = .slice (.some ⟨g, 0, none⟩) n cap ∧ B ≤ g ∧ n ≤ cap ∧ cap ≤ maxLen ∧ IBuf w g ws := by
  rcases h.2 with ⟨_, h0⟩ | ⟨g, cap, cur, rfl, h1, h2, h3, h4, h5, h6⟩
  · omega
  · exact ⟨g, cap, rfl, h1, h3, h4, ⟨cur, h2, by omega, by rw [hl]; simpa using h6⟩⟩

/-- four cells of a row -/
structure QI (g p0 p1 p2 p3 a b c d : Nat) (W : World) : Prop where
  c0 : W.cell? ⟨g, p0, none⟩ = .some (.int .i64 (a : Int))
  c1 : W.cell? ⟨g, p1, none⟩ = .some (.int .i64 (b : Int))
  c2 : W.cell? ⟨g, p2, none⟩ = .some (.int .i64 (c : Int))
  c3 : W.cell? ⟨g, p3, none⟩ = .some (.int .i64 (d : Int))
theorem QI.kept {g p0 p1 p2 p3 a b c d : Nat} {W W' : World} (h : QI g p0 p1 p2 p3 a b c d W) (hk : W'.heap[g]? = W.heap[g]?) : QI g p0 p1 p2 p3 a b c d W' :=
  ⟨(World.cell?_of_block hk).trans h.c0, (World.cell?_of_block hk).trans h.c1, (World.cell?_of_block hk).trans h.c2, (World.cell?_of_block hk).trans h.c3⟩
theorem put4_eqI (st : List Nat) (p0 p1 p2 p3 a b c d : Nat) : put4 st p0 p1 p2 p3 ⟨a, b, c, d⟩ = (((st.set p0 a).set p1 b).set p2 c).set p3 d := rfl
theorem sizeFour : (Tryd.prog.info? 112).map (·.size) = some 4 := by kernel_rfl
theorem one4 (x0 x1 x2 x3 : Int) : (#[Value.int .i64 x0, .int .i64 x1, .int .i64 x2, .int .i64 x3] : Array Value).all (·.oneCell') = true := by
  refine all_oneCell_toArray (cs := [Value.int .i64 x0, .int .i64 x1, .int .i64 x2, .int .i64 x3]) ?_
  intro v hv
  simp only [List.mem_cons, List.not_mem_nil, or_false] at hv
  rcases hv with rfl | rfl | rfl | rfl <;> rfl
theorem plc_cells {W : World} (h : PTabs W) (j : Nat) (hj : j < 32) : W.cell? ⟨3, j, none⟩ = some (.int .i64 ((plc.getD j 0 : Nat) : Int)) := by
  have := h.pl j _ (i64L_at plc j (by rw [plc_length]; exact hj))
  rwa [Nat.zero_add] at this

set_option maxRecDepth 20000 in
set_option maxHeartbeats 8000000 in
theorem rounds_any (ws : List Nat) (hs : St ws) (gw capw : Nat) (w : World) (_hgw : gw < w.heap.size) (hrw : w.rangeAt gw 0 (i64L ws)) (hP : PTabs w) (h3 : 4 ≤ w.heap.size) :
    Calls Tryd.prog 65 #[.slice (some ⟨gw, 0, none⟩) 16 capw] w fun e w' => ∃ g cap, e = .returned (.slice (some ⟨g, 0, none⟩) 16 cap) ∧ 16 ≤ cap ∧ cap ≤ maxLen ∧ w.heap.size ≤ g ∧ IBuf w' g (mixedL ws) ∧ Below w.heap.size w w' := by
  obtain ⟨i0, hi, hz0, hz1, hz2⟩ := info_parts info3
  have hlw : (i64L ws).length = 16 := by rw [i64L_length, hs.len]
  have ho1 := i64L_one ws
  have hml : 0 + 16 ≤ maxLen := by unfold maxLen; omega
  have hnil := World.ownsRow_nil w w.heap.size 3 1
  have hsF : (Tryd.prog.info? 112).map (·.size) = some (#[.int .i64 (0 : Int), .int .i64 (0 : Int), .int .i64 (0 : Int), .int .i64 (0 : Int)] : Array Value).size := sizeFour
  go_enter Tryd.func65, Tryd.ntmps65
  go_upto_region 3 with (at_builtin; refine wpList_append_own _ rfl _ _ 98 rfl w.heap.size 3 i0 (.int .i64 0) 1 8 Tryd.underlying98 hi hz0 hz1 hz2 rfl (by decide) _ _ _ rfl hnil ⟨gw, 0, none⟩ 16 capw (i64L ws) rfl hlw (cells_range hrw) ho1 hml (by omega) (Nat.le_refl _) ?_; intro v1 w1 hown1 hgrow1 _)
  have hb1 : Below w.heap.size w w1 := grown_below hgrow1 (Nat.le_refl _) hnil
  have hown1' : w1.ownsRow w.heap.size 3 1 v1 16 (i64L ws) := hown1
  obtain ⟨g, cap, rfl, hg, hc, hcm, hI⟩ := IBuf.of_owns hown1' (by omega) hs.len
  have HGW : Hid (w.heap.size ≤ g) := hg
  have HPT : Hid (∀ W, Below w.heap.size w W → PTabs W) := fun W h => hP.below h h3
  clear hown1 hown1' hgrow1 hnil hrw
  go_wp2
  go_loopg [4] 10 (fun gk i wr => ∃ r : Nat, r + gk = 10 ∧ i = .int .i64 r ∧ IBuf wr g (doubles ws r) ∧ Below w.heap.size w wr)
  case atStart => exact ⟨0, by omega, rfl, hI, hb1⟩
  case round =>
    clear hI hb1
    obtain ⟨r, hr, rfl, hI, hB⟩ := hrel
    have HR : Hid (r + gk = 10) := hr
    have hr' : r ≤ 10 := by omega
    clear hr
    by_cases hlt : r < 10
    · have hltI : (r : Int) < 10 := by omega
      have HD : Hid (doubles ws (r + 1) = qsteps (doubles ws r) 8) := rfl
      have HS := hs.doubles r
      revert hI HD HS
      generalize doubles ws r = s1
      intro hI HD HS
      go_wp2
      go_loopg [5] 8 (fun gj j wx => ∃ n : Nat, n + gj = 8 ∧ j = .int .i64 (4 * (n : Int)) ∧ IBuf wx g (qsteps s1 n) ∧ Below w.heap.size w wx)
      case atStart => exact ⟨0, by omega, rfl, hI, hB⟩
      case round =>
        clear hI hB
        obtain ⟨n, hn, rfl, hI, hB⟩ := hrel
        have HN : Hid (n + gk = 8) := hn
        have hn' : n ≤ 8 := by omega
        clear hn
        by_cases hnl : n < 8
        · have hnI : 4 * (n : Int) < 32 := by omega
          have hnI1 : 4 * (n : Int) + 1 < 32 := by omega
          have hnI2 : 4 * (n : Int) + 2 < 32 := by omega
          have hnI3 : 4 * (n : Int) + 3 < 32 := by omega
          have HQ : Hid (qsteps s1 (n + 1) = qstep (qsteps s1 n) n) := rfl
          have HST := HS.qsteps n
          have lp0 := plc_lt (4 * n)
          have lp1 := plc_lt (4 * n + 1)
          have lp2 := plc_lt (4 * n + 2)
          have lp3 := plc_lt (4 * n + 3)
          have hP1 := HPT.out wr hB
          have q0 := plc_cells hP1 (4 * n) (by omega)
          have q1 := plc_cells hP1 (4 * n + 1) (by omega)
          have q2 := plc_cells hP1 (4 * n + 2) (by omega)
          have q3 := plc_cells hP1 (4 * n + 3) (by omega)
          have HQS : Hid (∀ st : List Nat, qstep st n = put4 st (plc.getD (4 * n) 0) (plc.getD (4 * n + 1) 0) (plc.getD (4 * n + 2) 0) (plc.getD (4 * n + 3) 0) (qr (four st (plc.getD (4 * n) 0) (plc.getD (4 * n + 1) 0) (plc.getD (4 * n + 2) 0) (plc.getD (4 * n + 3) 0)))) := fun _ => rfl
          clear hP1
          revert q0 q1 q2 q3 lp0 lp1 lp2 lp3 HQS
          generalize plc.getD (4 * n) 0 = p0
          generalize plc.getD (4 * n + 1) 0 = p1
          generalize plc.getD (4 * n + 2) 0 = p2
          generalize plc.getD (4 * n + 3) 0 = p3
          intro lp0 lp1 lp2 lp3 q0 q1 q2 q3 HQS
          revert hI HQ HST
          generalize qsteps s1 n = st
          intro hI HQ HST
          have i0 : (p0 : Int) < 16 := by omega
          have i1 : (p1 : Int) < 16 := by omega
          have i2 : (p2 : Int) < 16 := by omega
          have i3 : (p3 : Int) < 16 := by omega
          have c0 := hI.cell p0 (by rw [HST.len]; exact lp0)
          have c1 := hI.cell p1 (by rw [HST.len]; exact lp1)
          have c2 := hI.cell p2 (by rw [HST.len]; exact lp2)
          have c3 := hI.cell p3 (by rw [HST.len]; exact lp3)
          have hok := HST.four p0 p1 p2 p3
          have HF : Hid (four st p0 p1 p2 p3 = ⟨st.getD p0 0, st.getD p1 0, st.getD p2 0, st.getD p3 0⟩) := rfl
          rw [HF.out] at hok
          have HF2 : Hid (∀ x, qr ⟨st.getD p0 0, st.getD p1 0, st.getD p2 0, st.getD p3 0⟩ = x → qstep st n = put4 st p0 p1 p2 p3 x) := fun x hx => by rw [HQS.out, HF.out, hx]
          clear HF HQS
          revert c0 c1 c2 c3 hok HF2
          generalize st.getD p0 0 = a
          generalize st.getD p1 0 = b
          generalize st.getD p2 0 = c
          generalize st.getD p3 0 = d
          intro c0 c1 c2 c3 hok HF2
          have hcall := fun W => rquarter_any ⟨a, b, c, d⟩ hok W
          obtain ⟨y, hy⟩ : ∃ y, qr ⟨a, b, c, d⟩ = y := ⟨_, rfl⟩
          have HF3 : Hid (qstep st n = put4 st p0 p1 p2 p3 y) := HF2.out y hy
          rw [hy] at hcall
          clear HF2 hy
          obtain ⟨a', b', c', d'⟩ := y
          dsimp only at hcall
          have hS0 : QI g p0 p1 p2 p3 a b c d wr.drew := ⟨c0, c1, c2, c3⟩
          have hI0 : IBuf wr.drew g st := hI.kept rfl
          have hB0 : Below w.heap.size w wr.drew := hB.drew
          clear c0 c1 c2 c3 hI hB
          go_upto_region 13 with fail
          refine wp_region_held_drew (S := QI g p0 p1 p2 p3 a b c d) (by kernel_rfl) hS0 ?_
          intro hS
          clear hS0
          revert hS hI0 hB0
          generalize wr.drew = V
          intro hI hB hS
          refine wpAnyH_take (i := 0) (oi := { dst := some 37, op := .move (.tmp 3), type := _, pos := _, after := _, guard := none }) (v := .slice (some ⟨g, 0, none⟩) 16 cap) rfl (by kernel_rfl) (by kernel_rfl) (by kernel_rfl) (fun _ _ _ h => h) (Or.inl ⟨by rfl, by intro x _; go_simp⟩) hS ?_
          (try simp only [Act.put, List.setIfInBounds_toArray, List.set_cons_zero, List.set_cons_succ])
          refine wpAnyH_take (i := 1) (oi := { dst := some 38, op := .move (.tmp 6), type := _, pos := _, after := _, guard := none }) (v := .int .i64 (p0 : Int)) rfl (by kernel_rfl) (by kernel_rfl) (by kernel_rfl) (fun _ _ _ h => h) (Or.inl ⟨by rfl, by intro x _; go_simp⟩) hS ?_
          (try simp only [Act.put, List.setIfInBounds_toArray, List.set_cons_zero, List.set_cons_succ])
          refine wpAnyH_take (i := 2) (oi := { dst := some 39, op := .indexAddr 98 (.tmp 37) (.tmp 38), type := _, pos := _, after := _, guard := none }) (v := .pointer (some ⟨g, p0, none⟩)) rfl (by kernel_rfl) (by kernel_rfl) (by kernel_rfl) (fun _ _ _ h => h) (Or.inl ⟨by rfl, by intro x _; go_simp⟩) hS ?_
          (try simp only [Act.put, List.setIfInBounds_toArray, List.set_cons_zero, List.set_cons_succ])
          refine wpAnyH_take (i := 3) (oi := { dst := some 40, op := .load 3 (.tmp 39), type := _, pos := _, after := _, guard := none }) (v := .int .i64 (a : Int)) rfl (by kernel_rfl) (by kernel_rfl) (by kernel_rfl) (fun _ _ _ h => h) (Or.inl ⟨by rfl, fun x hx => run_load_one 3 (.tmp 39) rfl g p0 _ (by simp [Act.eval]) .i64 Tryd.underlying3 x hx.c0⟩) hS ?_
          (try simp only [Act.put, List.setIfInBounds_toArray, List.set_cons_zero, List.set_cons_succ])
          refine wpAnyH_take (i := 4) (oi := { dst := some 41, op := .move (.tmp 3), type := _, pos := _, after := _, guard := none }) (v := .slice (some ⟨g, 0, none⟩) 16 cap) rfl (by kernel_rfl) (by kernel_rfl) (by kernel_rfl) (fun _ _ _ h => h) (Or.inl ⟨by rfl, by intro x _; go_simp⟩) hS ?_
          (try simp only [Act.put, List.setIfInBounds_toArray, List.set_cons_zero, List.set_cons_succ])
          refine wpAnyH_take (i := 5) (oi := { dst := some 42, op := .move (.tmp 7), type := _, pos := _, after := _, guard := none }) (v := .int .i64 (p1 : Int)) rfl (by kernel_rfl) (by kernel_rfl) (by kernel_rfl) (fun _ _ _ h => h) (Or.inl ⟨by rfl, by intro x _; go_simp⟩) hS ?_
          (try simp only [Act.put, List.setIfInBounds_toArray, List.set_cons_zero, List.set_cons_succ])
          refine wpAnyH_take (i := 6) (oi := { dst := some 43, op := .indexAddr 98 (.tmp 41) (.tmp 42), type := _, pos := _, after := _, guard := none }) (v := .pointer (some ⟨g, p1, none⟩)) rfl (by kernel_rfl) (by kernel_rfl) (by kernel_rfl) (fun _ _ _ h => h) (Or.inl ⟨by rfl, by intro x _; go_simp⟩) hS ?_
          (try simp only [Act.put, List.setIfInBounds_toArray, List.set_cons_zero, List.set_cons_succ])
          refine wpAnyH_take (i := 7) (oi := { dst := some 44, op := .load 3 (.tmp 43), type := _, pos := _, after := _, guard := none }) (v := .int .i64 (b : Int)) rfl (by kernel_rfl) (by kernel_rfl) (by kernel_rfl) (fun _ _ _ h => h) (Or.inl ⟨by rfl, fun x hx => run_load_one 3 (.tmp 43) rfl g p1 _ (by simp [Act.eval]) .i64 Tryd.underlying3 x hx.c1⟩) hS ?_
          (try simp only [Act.put, List.setIfInBounds_toArray, List.set_cons_zero, List.set_cons_succ])
          refine wpAnyH_take (i := 8) (oi := { dst := some 45, op := .move (.tmp 3), type := _, pos := _, after := _, guard := none }) (v := .slice (some ⟨g, 0, none⟩) 16 cap) rfl (by kernel_rfl) (by kernel_rfl) (by kernel_rfl) (fun _ _ _ h => h) (Or.inl ⟨by rfl, by intro x _; go_simp⟩) hS ?_
          (try simp only [Act.put, List.setIfInBounds_toArray, List.set_cons_zero, List.set_cons_succ])
          refine wpAnyH_take (i := 9) (oi := { dst := some 46, op := .move (.tmp 8), type := _, pos := _, after := _, guard := none }) (v := .int .i64 (p2 : Int)) rfl (by kernel_rfl) (by kernel_rfl) (by kernel_rfl) (fun _ _ _ h => h) (Or.inl ⟨by rfl, by intro x _; go_simp⟩) hS ?_
          (try simp only [Act.put, List.setIfInBounds_toArray, List.set_cons_zero, List.set_cons_succ])
          refine wpAnyH_take (i := 10) (oi := { dst := some 47, op := .indexAddr 98 (.tmp 45) (.tmp 46), type := _, pos := _, after := _, guard := none }) (v := .pointer (some ⟨g, p2, none⟩)) rfl (by kernel_rfl) (by kernel_rfl) (by kernel_rfl) (fun _ _ _ h => h) (Or.inl ⟨by rfl, by intro x _; go_simp⟩) hS ?_
          (try simp only [Act.put, List.setIfInBounds_toArray, List.set_cons_zero, List.set_cons_succ])
          refine wpAnyH_take (i := 11) (oi := { dst := some 48, op := .load 3 (.tmp 47), type := _, pos := _, after := _, guard := none }) (v := .int .i64 (c : Int)) rfl (by kernel_rfl) (by kernel_rfl) (by kernel_rfl) (fun _ _ _ h => h) (Or.inl ⟨by rfl, fun x hx => run_load_one 3 (.tmp 47) rfl g p2 _ (by simp [Act.eval]) .i64 Tryd.underlying3 x hx.c2⟩) hS ?_
          (try simp only [Act.put, List.setIfInBounds_toArray, List.set_cons_zero, List.set_cons_succ])
          refine wpAnyH_take (i := 12) (oi := { dst := some 49, op := .move (.tmp 3), type := _, pos := _, after := _, guard := none }) (v := .slice (some ⟨g, 0, none⟩) 16 cap) rfl (by kernel_rfl) (by kernel_rfl) (by kernel_rfl) (fun _ _ _ h => h) (Or.inl ⟨by rfl, by intro x _; go_simp⟩) hS ?_
          (try simp only [Act.put, List.setIfInBounds_toArray, List.set_cons_zero, List.set_cons_succ])
          refine wpAnyH_take (i := 13) (oi := { dst := some 50, op := .move (.tmp 9), type := _, pos := _, after := _, guard := none }) (v := .int .i64 (p3 : Int)) rfl (by kernel_rfl) (by kernel_rfl) (by kernel_rfl) (fun _ _ _ h => h) (Or.inl ⟨by rfl, by intro x _; go_simp⟩) hS ?_
          (try simp only [Act.put, List.setIfInBounds_toArray, List.set_cons_zero, List.set_cons_succ])
          refine wpAnyH_take (i := 14) (oi := { dst := some 51, op := .indexAddr 98 (.tmp 49) (.tmp 50), type := _, pos := _, after := _, guard := none }) (v := .pointer (some ⟨g, p3, none⟩)) rfl (by kernel_rfl) (by kernel_rfl) (by kernel_rfl) (fun _ _ _ h => h) (Or.inl ⟨by rfl, by intro x _; go_simp⟩) hS ?_
          (try simp only [Act.put, List.setIfInBounds_toArray, List.set_cons_zero, List.set_cons_succ])
          refine wpAnyH_take (i := 15) (oi := { dst := some 52, op := .load 3 (.tmp 51), type := _, pos := _, after := _, guard := none }) (v := .int .i64 (d : Int)) rfl (by kernel_rfl) (by kernel_rfl) (by kernel_rfl) (fun _ _ _ h => h) (Or.inl ⟨by rfl, fun x hx => run_load_one 3 (.tmp 51) rfl g p3 _ (by simp [Act.eval]) .i64 Tryd.underlying3 x hx.c3⟩) hS ?_
          (try simp only [Act.put, List.setIfInBounds_toArray, List.set_cons_zero, List.set_cons_succ])
          refine wpAnyH_take (i := 16) (oi := { dst := some 53, op := .build 112 #[(0, .tmp 40), (1, .tmp 44), (2, .tmp 48), (3, .tmp 52)], type := _, pos := _, after := _, guard := none }) (v := .agg #[.int .i64 (a : Int), .int .i64 (b : Int), .int .i64 (c : Int), .int .i64 (d : Int)]) rfl (by kernel_rfl) (by kernel_rfl) (by kernel_rfl) (fun _ _ _ h => h) (Or.inl ⟨by rfl, by intro x _; go_simp⟩) hS ?_
          (try simp only [Act.put, List.setIfInBounds_toArray, List.set_cons_zero, List.set_cons_succ])
          refine wpAnyH_ready (rs := [17, 18]) (by kernel_rfl) (by simp) ?_
          refine AllReadyH.cons (o := { dst := some 54, op := .call { callee := .value (.func 76), args := #[.tmp 53], argTypes := #[112] }, type := _, pos := _, after := _, guard := none }) rfl (fun K hK => ?_) ?_
          · go_simp
            refine (hcall V).mono ?_
            rintro e w5 ⟨rfl, hb5⟩
            have hS5 : QI g p0 p1 p2 p3 a b c d w5 := hS.kept (hb5.block g hI.lt)
            have hI5 := hI.kept (hb5.block g hI.lt)
            have hB5 := hB.trans (hb5.mono hB.size)
            refine hK.out _ _ hS5 (fun _ => ?_)
            clear hK K
            (try simp only [Act.put, List.setIfInBounds_toArray, List.set_cons_zero, List.set_cons_succ])
            refine wpAnyH_ready (rs := [18]) (by kernel_rfl) (by simp) ?_
            refine AllReadyH.cons (o := { dst := some 10, op := .alloc 112, type := _, pos := _, after := _, guard := none }) rfl (fun K hK => ?_) AllReadyH.nil
            go_simp
            have hS6 : QI g p0 p1 p2 p3 a b c d (w5.alloc (.cells #[.int .i64 0, .int .i64 0, .int .i64 0, .int .i64 0] 112)) := hS5.kept (Below.heap_alloc _ _ _ hI5.lt)
            refine hK.out _ _ hS6 (fun _ => ?_)
            clear hK K
            (try simp only [Act.put, List.setIfInBounds_toArray, List.set_cons_zero, List.set_cons_succ])
            refine wpAnyH_ready (rs := [19]) (by kernel_rfl) (by simp) ?_
            refine AllReadyH.cons (o := { dst := none, op := .store 112 (.tmp 10) (.tmp 54), type := _, pos := _, after := _, guard := none }) rfl (fun K hK => ?_) AllReadyH.nil
            refine step_store_mid rfl 112 (.tmp 10) (.tmp 54) rfl w5.heap.size 0 #[.int .i64 (a' : Int), .int .i64 (b' : Int), .int .i64 (c' : Int), .int .i64 (d' : Int)] (by simp [Act.eval]) (by simp [Act.eval]) (there_of_heap (heap_new _ _) (by simp)) hsF (one4 _ _ _ _) ?_
            have hne : g ≠ w5.heap.size := by have := hI5.lt; omega
            have hk7 : ((w5.alloc (.cells #[.int .i64 0, .int .i64 0, .int .i64 0, .int .i64 0] 112)).setCells w5.heap.size 0 (#[.int .i64 (a' : Int), .int .i64 (b' : Int), .int .i64 (c' : Int), .int .i64 (d' : Int)] : Array Value).toList).heap[g]? = w5.heap[g]? := (heap_setCells_other _ _ hne _ _ _).trans (Below.heap_alloc _ _ _ hI5.lt)
            have hI7 := hI5.kept hk7
            have hF7 : ((w5.alloc (.cells #[.int .i64 0, .int .i64 0, .int .i64 0, .int .i64 0] 112)).setCells w5.heap.size 0 (#[.int .i64 (a' : Int), .int .i64 (b' : Int), .int .i64 (c' : Int), .int .i64 (d' : Int)] : Array Value).toList).heap[w5.heap.size]? = some (.cells #[.int .i64 (a' : Int), .int .i64 (b' : Int), .int .i64 (c' : Int), .int .i64 (d' : Int)] 112 (0, 0)) := heap_setCells w5.heap.size 112 (#[.int .i64 (a' : Int), .int .i64 (b' : Int), .int .i64 (c' : Int), .int .i64 (d' : Int)] : Array Value).toList 0 _ _ (heap_new w5 (.cells #[.int .i64 0, .int .i64 0, .int .i64 0, .int .i64 0] 112))
            have hB7 : Below w.heap.size w ((w5.alloc (.cells #[.int .i64 0, .int .i64 0, .int .i64 0, .int .i64 0] 112)).setCells w5.heap.size 0 (#[.int .i64 (a' : Int), .int .i64 (b' : Int), .int .i64 (c' : Int), .int .i64 (d' : Int)] : Array Value).toList) := Below.setCells (hB5.alloc hB5.size _) hB5.size _ _
            have hS7 := hS5.kept hk7
            refine hK.out _ _ hS7 (fun _ => ?_)
            clear hK K
            (try simp only [Act.put])
            refine wpAnyH_done (by kernel_rfl) ?_ _
            refine with_world (R := fun W => Exit.then _ _ _ _ W) (Q := fun W => IBuf W g st ∧ W.heap[w5.heap.size]? = some (.cells #[.int .i64 (a' : Int), .int .i64 (b' : Int), .int .i64 (c' : Int), .int .i64 (d' : Int)] 112 (0, 0)) ∧ Below w.heap.size w W) _ ⟨hI7, hF7, hB7⟩ ?_
            clear hI7 hF7 hB7 hS7 hS6 hS5 hI5 hB5 hb5 hS hI hB hk7 hcall
            rintro W ⟨hI, hF, hB⟩
            obtain ⟨gf, hgf'⟩ : ∃ gf, w5.heap.size = gf := ⟨_, rfl⟩
            have hgf : gf ≠ g := by omega
            rw [hgf'] at hF ⊢
            clear hgf' hne
            have k0 : W.cell? ⟨gf, 0, none⟩ = some (.int .i64 (a' : Int)) := (cell_of_heap hF).trans rfl
            have c0 := hI.some p0 (by (try simp only [List.length_set]); rw [HST.len]; exact lp0)
            obtain ⟨y0, c0⟩ := c0
            have f0 := hI.frozen p0
            have hI2 := hI.put p0 a'
            have hF2 : (W.setCell ⟨g, p0, none⟩ (.int .i64 (a' : Int))).heap[gf]? = some (.cells #[.int .i64 (a' : Int), .int .i64 (b' : Int), .int .i64 (c' : Int), .int .i64 (d' : Int)] 112 (0, 0)) := (Below.heap_setCell _ _ _ _ (by show gf ≠ g; exact hgf)).trans hF
            have hB2 := hB.setCell (p := ⟨g, p0, none⟩) HGW.out (.int .i64 (a' : Int))
            go_upto_region 15 with fail
            refine with_world (R := fun W => Code.wp _ _ _ _ W) (Q := fun W => IBuf W g (st.set p0 a') ∧ W.heap[gf]? = some (.cells #[.int .i64 (a' : Int), .int .i64 (b' : Int), .int .i64 (c' : Int), .int .i64 (d' : Int)] 112 (0, 0)) ∧ Below w.heap.size w W) _ ⟨hI2, hF2, hB2⟩ ?_
            clear hI2 hF2 hB2 hI hF hB k0 c0 f0 W
            rintro W ⟨hI, hF, hB⟩
            have k1 : W.cell? ⟨gf, 1, none⟩ = some (.int .i64 (b' : Int)) := (cell_of_heap hF).trans rfl
            have c1 := hI.some p1 (by (try simp only [List.length_set]); rw [HST.len]; exact lp1)
            obtain ⟨y1, c1⟩ := c1
            have f1 := hI.frozen p1
            have hI2 := hI.put p1 b'
            have hF2 : (W.setCell ⟨g, p1, none⟩ (.int .i64 (b' : Int))).heap[gf]? = some (.cells #[.int .i64 (a' : Int), .int .i64 (b' : Int), .int .i64 (c' : Int), .int .i64 (d' : Int)] 112 (0, 0)) := (Below.heap_setCell _ _ _ _ (by show gf ≠ g; exact hgf)).trans hF
            have hB2 := hB.setCell (p := ⟨g, p1, none⟩) HGW.out (.int .i64 (b' : Int))
            go_upto_region 16 with fail
            refine with_world (R := fun W => Code.wp _ _ _ _ W) (Q := fun W => IBuf W g ((st.set p0 a').set p1 b') ∧ W.heap[gf]? = some (.cells #[.int .i64 (a' : Int), .int .i64 (b' : Int), .int .i64 (c' : Int), .int .i64 (d' : Int)] 112 (0, 0)) ∧ Below w.heap.size w W) _ ⟨hI2, hF2, hB2⟩ ?_
            clear hI2 hF2 hB2 hI hF hB k1 c1 f1 W
            rintro W ⟨hI, hF, hB⟩
            have k2 : W.cell? ⟨gf, 2, none⟩ = some (.int .i64 (c' : Int)) := (cell_of_heap hF).trans rfl
            have c2 := hI.some p2 (by (try simp only [List.length_set]); rw [HST.len]; exact lp2)
            obtain ⟨y2, c2⟩ := c2
            have f2 := hI.frozen p2
            have hI2 := hI.put p2 c'
            have hF2 : (W.setCell ⟨g, p2, none⟩ (.int .i64 (c' : Int))).heap[gf]? = some (.cells #[.int .i64 (a' : Int), .int .i64 (b' : Int), .int .i64 (c' : Int), .int .i64 (d' : Int)] 112 (0, 0)) := (Below.heap_setCell _ _ _ _ (by show gf ≠ g; exact hgf)).trans hF
            have hB2 := hB.setCell (p := ⟨g, p2, none⟩) HGW.out (.int .i64 (c' : Int))
            go_upto_region 17 with fail
            refine with_world (R := fun W => Code.wp _ _ _ _ W) (Q := fun W => IBuf W g (((st.set p0 a').set p1 b').set p2 c') ∧ W.heap[gf]? = some (.cells #[.int .i64 (a' : Int), .int .i64 (b' : Int), .int .i64 (c' : Int), .int .i64 (d' : Int)] 112 (0, 0)) ∧ Below w.heap.size w W) _ ⟨hI2, hF2, hB2⟩ ?_
            clear hI2 hF2 hB2 hI hF hB k2 c2 f2 W
            rintro W ⟨hI, hF, hB⟩
            have k3 : W.cell? ⟨gf, 3, none⟩ = some (.int .i64 (d' : Int)) := (cell_of_heap hF).trans rfl
            have c3 := hI.some p3 (by (try simp only [List.length_set]); rw [HST.len]; exact lp3)
            obtain ⟨y3, c3⟩ := c3
            have f3 := hI.frozen p3
            have hI2 := hI.put p3 d'
            have hF2 : (W.setCell ⟨g, p3, none⟩ (.int .i64 (d' : Int))).heap[gf]? = some (.cells #[.int .i64 (a' : Int), .int .i64 (b' : Int), .int .i64 (c' : Int), .int .i64 (d' : Int)] 112 (0, 0)) := (Below.heap_setCell _ _ _ _ (by show gf ≠ g; exact hgf)).trans hF
            have hB2 := hB.setCell (p := ⟨g, p3, none⟩) HGW.out (.int .i64 (d' : Int))
            rw [← put4_eqI st p0 p1 p2 p3 a' b' c' d', ← HF3.out, ← HQ.out] at hI2
            clear hI hF hB hF2
            go_wp2
            go_roundg (gk - 1)
            case measure => have := HN.out; omega
            case rel => exact ⟨n + 1, by have := HN.out; omega, by go_num, hI2, hB2⟩
          · refine AllReadyH.cons (o := { dst := some 10, op := .alloc 112, type := _, pos := _, after := _, guard := none }) rfl (fun K hK => ?_) AllReadyH.nil
            go_simp
            have hk6 : (V.alloc (.cells #[.int .i64 0, .int .i64 0, .int .i64 0, .int .i64 0] 112)).heap[g]? = V.heap[g]? := Below.heap_alloc _ _ _ hI.lt
            have hS6 := hS.kept hk6
            have hI6 := hI.kept hk6
            have hB6 := hB.alloc hB.size (.cells #[.int .i64 0, .int .i64 0, .int .i64 0, .int .i64 0] 112)
            have hF6 := heap_new V (.cells #[.int .i64 0, .int .i64 0, .int .i64 0, .int .i64 0] 112)
            refine hK.out _ _ hS6 (fun _ => ?_)
            clear hK K
            (try simp only [Act.put, List.setIfInBounds_toArray, List.set_cons_zero, List.set_cons_succ])
            refine wpAnyH_ready (rs := [17]) (by kernel_rfl) (by simp) ?_
            refine AllReadyH.cons (o := { dst := some 54, op := .call { callee := .value (.func 76), args := #[.tmp 53], argTypes := #[112] }, type := _, pos := _, after := _, guard := none }) rfl (fun K hK => ?_) AllReadyH.nil
            go_simp
            refine (hcall _).mono ?_
            rintro e w5 ⟨rfl, hb5⟩
            have hk5 := hb5.block g hI6.lt
            have hS5 := hS6.kept hk5
            have hI5 := hI6.kept hk5
            have hB5 := hB6.trans (hb5.mono hB6.size)
            have hF5 := (hb5.block _ (heap_lt hF6)).trans hF6
            have hne : g ≠ V.heap.size := by have := hI.lt; omega
            refine hK.out _ _ hS5 (fun _ => ?_)
            clear hK K
            (try simp only [Act.put, List.setIfInBounds_toArray, List.set_cons_zero, List.set_cons_succ])
            refine wpAnyH_ready (rs := [19]) (by kernel_rfl) (by simp) ?_
            refine AllReadyH.cons (o := { dst := none, op := .store 112 (.tmp 10) (.tmp 54), type := _, pos := _, after := _, guard := none }) rfl (fun K hK => ?_) AllReadyH.nil
            refine step_store_mid rfl 112 (.tmp 10) (.tmp 54) rfl V.heap.size 0 #[.int .i64 (a' : Int), .int .i64 (b' : Int), .int .i64 (c' : Int), .int .i64 (d' : Int)] (by simp [Act.eval]) (by simp [Act.eval]) (there_of_heap hF5 (by simp)) hsF (one4 _ _ _ _) ?_
            have hk7 : (w5.setCells V.heap.size 0 (#[.int .i64 (a' : Int), .int .i64 (b' : Int), .int .i64 (c' : Int), .int .i64 (d' : Int)] : Array Value).toList).heap[g]? = w5.heap[g]? := heap_setCells_other _ _ hne _ _ _
            have hI7 := hI5.kept hk7
            have hF7 : (w5.setCells V.heap.size 0 (#[.int .i64 (a' : Int), .int .i64 (b' : Int), .int .i64 (c' : Int), .int .i64 (d' : Int)] : Array Value).toList).heap[V.heap.size]? = some (.cells #[.int .i64 (a' : Int), .int .i64 (b' : Int), .int .i64 (c' : Int), .int .i64 (d' : Int)] 112 (0, 0)) := heap_setCells V.heap.size 112 (#[.int .i64 (a' : Int), .int .i64 (b' : Int), .int .i64 (c' : Int), .int .i64 (d' : Int)] : Array Value).toList 0 _ _ hF5
            have hB7 : Below w.heap.size w (w5.setCells V.heap.size 0 (#[.int .i64 (a' : Int), .int .i64 (b' : Int), .int .i64 (c' : Int), .int .i64 (d' : Int)] : Array Value).toList) := Below.setCells hB5 hB.size _ _
            have hS7 := hS5.kept hk7
            refine hK.out _ _ hS7 (fun _ => ?_)
            clear hK K
            (try simp only [Act.put])
            refine wpAnyH_done (by kernel_rfl) ?_ _
            refine with_world (R := fun W => Exit.then _ _ _ _ W) (Q := fun W => IBuf W g st ∧ W.heap[V.heap.size]? = some (.cells #[.int .i64 (a' : Int), .int .i64 (b' : Int), .int .i64 (c' : Int), .int .i64 (d' : Int)] 112 (0, 0)) ∧ Below w.heap.size w W) _ ⟨hI7, hF7, hB7⟩ ?_
            clear hI7 hF7 hB7 hS7 hS6 hS5 hI5 hB5 hb5 hS hI hB hk7 hk6 hk5 hI6 hB6 hF6 hF5 hcall
            rintro W ⟨hI, hF, hB⟩
            obtain ⟨gf, hgf'⟩ : ∃ gf, V.heap.size = gf := ⟨_, rfl⟩
            have hgf : gf ≠ g := by omega
            rw [hgf'] at hF ⊢
            clear hgf' hne
            have k0 : W.cell? ⟨gf, 0, none⟩ = some (.int .i64 (a' : Int)) := (cell_of_heap hF).trans rfl
            have c0 := hI.some p0 (by (try simp only [List.length_set]); rw [HST.len]; exact lp0)
            obtain ⟨y0, c0⟩ := c0
            have f0 := hI.frozen p0
            have hI2 := hI.put p0 a'
            have hF2 : (W.setCell ⟨g, p0, none⟩ (.int .i64 (a' : Int))).heap[gf]? = some (.cells #[.int .i64 (a' : Int), .int .i64 (b' : Int), .int .i64 (c' : Int), .int .i64 (d' : Int)] 112 (0, 0)) := (Below.heap_setCell _ _ _ _ (by show gf ≠ g; exact hgf)).trans hF
            have hB2 := hB.setCell (p := ⟨g, p0, none⟩) HGW.out (.int .i64 (a' : Int))
            go_upto_region 15 with fail
            refine with_world (R := fun W => Code.wp _ _ _ _ W) (Q := fun W => IBuf W g (st.set p0 a') ∧ W.heap[gf]? = some (.cells #[.int .i64 (a' : Int), .int .i64 (b' : Int), .int .i64 (c' : Int), .int .i64 (d' : Int)] 112 (0, 0)) ∧ Below w.heap.size w W) _ ⟨hI2, hF2, hB2⟩ ?_
            clear hI2 hF2 hB2 hI hF hB k0 c0 f0 W
            rintro W ⟨hI, hF, hB⟩
            have k1 : W.cell? ⟨gf, 1, none⟩ = some (.int .i64 (b' : Int)) := (cell_of_heap hF).trans rfl
            have c1 := hI.some p1 (by (try simp only [List.length_set]); rw [HST.len]; exact lp1)
            obtain ⟨y1, c1⟩ := c1
            have f1 := hI.frozen p1
            have hI2 := hI.put p1 b'
            have hF2 : (W.setCell ⟨g, p1, none⟩ (.int .i64 (b' : Int))).heap[gf]? = some (.cells #[.int .i64 (a' : Int), .int .i64 (b' : Int), .int .i64 (c' : Int), .int .i64 (d' : Int)] 112 (0, 0)) := (Below.heap_setCell _ _ _ _ (by show gf ≠ g; exact hgf)).trans hF
            have hB2 := hB.setCell (p := ⟨g, p1, none⟩) HGW.out (.int .i64 (b' : Int))
            go_upto_region 16 with fail
            refine with_world (R := fun W => Code.wp _ _ _ _ W) (Q := fun W => IBuf W g ((st.set p0 a').set p1 b') ∧ W.heap[gf]? = some (.cells #[.int .i64 (a' : Int), .int .i64 (b' : Int), .int .i64 (c' : Int), .int .i64 (d' : Int)] 112 (0, 0)) ∧ Below w.heap.size w W) _ ⟨hI2, hF2, hB2⟩ ?_
            clear hI2 hF2 hB2 hI hF hB k1 c1 f1 W
            rintro W ⟨hI, hF, hB⟩
            have k2 : W.cell? ⟨gf, 2, none⟩ = some (.int .i64 (c' : Int)) := (cell_of_heap hF).trans rfl
            have c2 := hI.some p2 (by (try simp only [List.length_set]); rw [HST.len]; exact lp2)
            obtain ⟨y2, c2⟩ := c2
            have f2 := hI.frozen p2
            have hI2 := hI.put p2 c'
            have hF2 : (W.setCell ⟨g, p2, none⟩ (.int .i64 (c' : Int))).heap[gf]? = some (.cells #[.int .i64 (a' : Int), .int .i64 (b' : Int), .int .i64 (c' : Int), .int .i64 (d' : Int)] 112 (0, 0)) := (Below.heap_setCell _ _ _ _ (by show gf ≠ g; exact hgf)).trans hF
            have hB2 := hB.setCell (p := ⟨g, p2, none⟩) HGW.out (.int .i64 (c' : Int))
            go_upto_region 17 with fail
            refine with_world (R := fun W => Code.wp _ _ _ _ W) (Q := fun W => IBuf W g (((st.set p0 a').set p1 b').set p2 c') ∧ W.heap[gf]? = some (.cells #[.int .i64 (a' : Int), .int .i64 (b' : Int), .int .i64 (c' : Int), .int .i64 (d' : Int)] 112 (0, 0)) ∧ Below w.heap.size w W) _ ⟨hI2, hF2, hB2⟩ ?_
            clear hI2 hF2 hB2 hI hF hB k2 c2 f2 W
            rintro W ⟨hI, hF, hB⟩
            have k3 : W.cell? ⟨gf, 3, none⟩ = some (.int .i64 (d' : Int)) := (cell_of_heap hF).trans rfl
            have c3 := hI.some p3 (by (try simp only [List.length_set]); rw [HST.len]; exact lp3)
            obtain ⟨y3, c3⟩ := c3
            have f3 := hI.frozen p3
            have hI2 := hI.put p3 d'
            have hF2 : (W.setCell ⟨g, p3, none⟩ (.int .i64 (d' : Int))).heap[gf]? = some (.cells #[.int .i64 (a' : Int), .int .i64 (b' : Int), .int .i64 (c' : Int), .int .i64 (d' : Int)] 112 (0, 0)) := (Below.heap_setCell _ _ _ _ (by show gf ≠ g; exact hgf)).trans hF
            have hB2 := hB.setCell (p := ⟨g, p3, none⟩) HGW.out (.int .i64 (d' : Int))
            rw [← put4_eqI st p0 p1 p2 p3 a' b' c' d', ← HF3.out, ← HQ.out] at hI2
            clear hI hF hB hF2
            go_wp2
            go_roundg (gk - 1)
            case measure => have := HN.out; omega
            case rel => exact ⟨n + 1, by have := HN.out; omega, by go_num, hI2, hB2⟩
        · obtain rfl : n = 8 := by omega
          rw [← HD.out] at hI
          go_wp2
          go_roundg (10 - (r + 1))
          case measure => have := HR.out; omega
          case rel => exact ⟨r + 1, by have := HR.out; omega, by go_num, hI, hB⟩
    · obtain rfl : r = 10 := by omega
      go_wp2
      go_ret
      exact ⟨g, cap, rfl, hc, hcm, HGW.out, hI, hB⟩

end Go.Proofs.YtebhmebldemndaaDoor.Cha
