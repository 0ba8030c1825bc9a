import Derived.Test.YtnfddiabhpandaaGreatDoorStM
import Derived.RangeFuncNested
import Derived.RangeFuncBound
import Derived.RangeFuncCalls
import Derived.RangeFuncLeaves
import Derived.RangeFuncBox
import Derived.Shelf.Abstract
import Derived.Shelf.RegionOpen
import Derived.WalkKit
import Derived.OwnWalkIn
import Derived.TacticsInMore
import Derived.LoopNIn
import Derived.LoopIn
import Derived.Test.YtnfddiabhpandaaGreatDoorLyM
import Derived.Maps.AppendAt
namespace Go.Proofs.YtnfddiabhpandaaGreatDoor.Tr
open Go.RowKit Go.Lib Go.Deep Go.Shelf
attribute [local go_sem] Oper.semAt_some

/-- what comes: a number, and what has it -/
structure Cm where
  i : Nat
  p : Nat
  n : ByteArray
  x : Nat
/-- what has come of the first k rows -/
def upto (rs : List (Option (Nat × ByteArray × Nat))) (k : Nat) : List Cm := (rs.take k).zipIdx.filterMap fun r => r.1.map fun d => ⟨r.2, d.1, d.2.1, d.2.2⟩
theorem upto_succ {rs : List (Option (Nat × ByteArray × Nat))} {k : Nat} {o : Option (Nat × ByteArray × Nat)} (h : rs[k]? = some o) : upto rs (k + 1) = upto rs k ++ (o.map fun d => (⟨k, d.1, d.2.1, d.2.2⟩ : Cm)).toList := by
  have hk := (List.getElem?_eq_some_iff.1 h).1
  unfold upto
  rw [List.take_add_one, h, List.zipIdx_append, List.filterMap_append]
  congr 1
  have hl : (rs.take k).length = k := by rw [List.length_take]; omega
  cases o with
  | none => simp [hl]
  | some d => simp [hl]
theorem upto_len (rs : List (Option (Nat × ByteArray × Nat))) (k : Nat) : (upto rs k).length ≤ k := by
  unfold upto
  refine Nat.le_trans (List.length_filterMap_le _ _) ?_
  rw [List.length_zipIdx, List.length_take]
  omega
theorem upto_all (rs : List (Option (Nat × ByteArray × Nat))) {k : Nat} (h : rs.length ≤ k) : upto rs k = upto rs rs.length := by
  unfold upto
  rw [List.take_of_length_le h, List.take_length]

/-- rows in memory, in block g: what each is -/
structure Rs_d (W : World) (n₀ q g cap : Nat) (rs : List (Option (Nat × ByteArray × Nat))) : Prop where
  cq : W.cell? ⟨q, 1, none⟩ = some (.slice (some ⟨g, 0, none⟩) rs.length cap)
  lq : q < n₀
  lg : g < n₀
  no : ∀ k, rs[k]? = some none → W.cell? ⟨g, k * 4, none⟩ = some (.bool false) ∧ W.cell? ⟨g, k * 4 + 1, none⟩ = some (.int .i64 0) ∧ W.cell? ⟨g, k * 4 + 2, none⟩ = some (.string { data := #[] }) ∧ W.cell? ⟨g, k * 4 + 3, none⟩ = some (.map none)
  ys : ∀ k (p : Nat) (n : ByteArray) (x : Nat), rs[k]? = some (some (p, n, x)) → W.cell? ⟨g, k * 4, none⟩ = some (.bool true) ∧ W.cell? ⟨g, k * 4 + 1, none⟩ = some (.int .i64 (p : Int)) ∧ W.cell? ⟨g, k * 4 + 2, none⟩ = some (.string n) ∧ W.cell? ⟨g, k * 4 + 3, none⟩ = some (.map (some x))
theorem Rs_d.below {W X : World} {n₀ q g cap : Nat} {rs : List (Option (Nat × ByteArray × Nat))} (h : Rs_d W n₀ q g cap rs) (hb : Below n₀ W X) : Rs_d X n₀ q g cap rs := by
  have k : ∀ (j : Nat) (v : Value), W.cell? ⟨g, j, none⟩ = some v → X.cell? ⟨g, j, none⟩ = some v := fun j v e => (hb.cell (p := ⟨g, j, none⟩) h.lg).trans e
  exact ⟨(hb.cell (p := ⟨q, 1, none⟩) h.lq).trans h.cq, h.lq, h.lg, fun i hi => ⟨k _ _ (h.no i hi).1, k _ _ (h.no i hi).2.1, k _ _ (h.no i hi).2.2.1, k _ _ (h.no i hi).2.2.2⟩, fun i p n x hi => ⟨k _ _ (h.ys i p n x hi).1, k _ _ (h.ys i p n x hi).2.1, k _ _ (h.ys i p n x hi).2.2.1, k _ _ (h.ys i p n x hi).2.2.2⟩⟩
set_option maxRecDepth 100000 in
set_option maxHeartbeats 4000000 in
theorem all1_d (F : Fence) (n : Nat) (hf : F.fn 104) (hro : F.round = none) (hn : 1 ≤ n) (l Bn n₀ q g cap : Nat) (rs : List (Option (Nat × ByteArray × Nat))) (hlen : rs.length ≤ 70000) (J Jx : List Cm → World → Prop)
    (W : World) (hJ : AbidesFrom W.heap.size J)
    (hY : ∀ pre (x : Cm) W1, J pre W1 → pre.length < rs.length → YieldAt F (n - 1) Tryz.prog l #[.int .i64 (x.i : Int), .agg #[.int .i64 (x.p : Int), .string x.n, .map (some x.x)]] W1 fun e W' => (e = .returned (.bool true) ∧ J (pre ++ [x]) W' ∧ Below n₀ W1 W') ∨ (e = .returned (.bool false) ∧ Jx (pre ++ [x]) W'))
    (hn₀ : n₀ ≤ W.heap.size) (hBn : W.cell? ⟨Bn, 0, none⟩ = some (.pointer (some ⟨q, 0, none⟩))) (hR : Rs_d W n₀ q g cap rs) (h0 : J [] W) :
    CallsIn F n Tryz.prog 104 #[.func (.yield l) #[] #[], .pointer (some ⟨Bn, 0, none⟩)] W fun e W' => (∃ v, e = .returned v) ∧ ((∃ ys, ys = upto rs rs.length ∧ J ys W') ∨ (∃ pre, (∃ k, k ≤ rs.length ∧ pre = upto rs k) ∧ Jx pre W')) := by
  have cq := hR.cq
  have HR0 : Hid _ := hR
  have HN0 : Hid _ := hn₀
  have HJ : Hid _ := hJ
  have HY : Hid _ := hY
  obtain ⟨N, hN⟩ : ∃ N, rs.length = N := ⟨_, rfl⟩
  have HN : Hid (rs.length = N) := hN
  rw [hN] at cq hlen
  clear hR hJ hY hN
  refine callsIn_of_wp Tryz.func104 rfl hf ?_ hro
  simp only [Tryz.ntmps104, List.size_toArray, List.length_cons, List.length_nil, Nat.reduceAdd, Nat.reduceSub, Array.replicate_succ, Array.replicate_zero, List.push_toArray, List.append_toArray, List.nil_append, List.cons_append]
  gi_wp2
  gi_loopw [10] (fun i wr => ∃ k : Nat, k ≤ N ∧ i = .int .i64 (k : Int) ∧ Hid (J (upto rs k) wr) ∧ Hid (Below n₀ W wr) ∧ Hid (W.heap.size ≤ wr.heap.size))
    (fun i _ => N - (intOf i).toNat)
  case atStart => exact ⟨0, Nat.zero_le _, rfl, h0, Below.refl _ _, Nat.le_refl _⟩
  case round =>
    obtain ⟨k, hk, rfl, HJs, HB, HSZ⟩ := hrel
    by_cases hlt : k < N
    · have hltI : (k : Int) < (N : Int) := by omega
      have hw1 : IntKind.i64.wrap ((k : Int) + 1) = ((k + 1 : Nat) : Int) := by rw [IntKind.wrap_i64]; omega
      have HRr : Hid _ := HR0.out.below HB.out
      cases hrk : rs[k]? with
      | none => exact absurd (List.getElem?_eq_none_iff.1 hrk) (by have := HN.out; omega)
      | some o =>
        cases o with
        | none =>
          obtain ⟨y0, y1, y2, y3⟩ := HRr.out.no k hrk
          have HU : Hid (upto rs (k + 1) = upto rs k) := (upto_succ hrk).trans (by simp)
          clear hrk
          gi_wp2
          refine ⟨fun _ h => (by cases h), ?_⟩
          gi_wp2
          go_roundw
          case rel => exact ⟨k + 1, by omega, by first | rfl | simp, by show J _ _; rw [HU.out]; exact HJ.out _ _ _ none HJs.out (World.grownBy_alloc _ _ _) (fun r e => (by cases e)), HB.out.alloc (Nat.le_trans HN0.out HSZ.out) _, by show _ ≤ _; have := HSZ.out; simp; omega⟩
          case measure => simp [intOf]; omega
        | some d =>
          obtain ⟨p, nm, x⟩ := d
          obtain ⟨y0, y1, y2, y3⟩ := HRr.out.ys k p nm x hrk
          have HU : Hid (upto rs (k + 1) = upto rs k ++ [⟨k, p, nm, x⟩]) := (upto_succ hrk).trans (by simp)
          have hJ1 : J (upto rs k) (wr.alloc (.cells #[.bool true, .int .i64 (p : Int), .string nm, .map (some x)] 172)) := HJ.out _ _ _ none HJs.out (World.grownBy_alloc _ _ _) (fun r e => (by cases e))
          obtain ⟨fn, tmps, assign, body, hy, hRR⟩ := HY.out _ ⟨k, p, nm, x⟩ _ hJ1 (by have := upto_len rs k; have := HN.out; omega)
          dsimp only at hy
          clear hrk hJ1
          gi_wp2
          refine hRR.mono ?_
          rintro e W3 (⟨rfl, hJ3, hk3⟩ | ⟨rfl, hJx3⟩)
          · gi_wp2
            go_roundw
            case rel => exact ⟨k + 1, by omega, by first | rfl | simp, by show J _ _; rw [HU.out]; exact hJ3, (HB.out.alloc (Nat.le_trans HN0.out HSZ.out) _).trans hk3, by show _ ≤ _; have h1 := HSZ.out; have h2 := hk3.size; simp at h2; omega⟩
            case measure => simp [intOf]; omega
          · gi_wp2
            refine bodyPost_ret (results_none rfl _ _ _) rfl ?_
            exact ⟨⟨_, rfl⟩, .inr ⟨_, ⟨k + 1, by have := HN.out; omega, HU.out.symm⟩, hJx3⟩⟩
    · obtain rfl : k = N := by omega
      gi_wp2
      go_end0
      have hN := HN.out
      subst hN
      exact ⟨⟨_, rfl⟩, .inl ⟨_, rfl, HJs.out⟩⟩
set_option maxRecDepth 100000 in
set_option maxHeartbeats 1000000 in
theorem all1_nil_d (F : Fence) (n : Nat) (hf : F.fn 104) (hro : F.round = none) (l Bn q : Nat) (J : List Cm → World → Prop) (W : World) (hBn : W.cell? ⟨Bn, 0, none⟩ = some (.pointer (some ⟨q, 0, none⟩))) (cq : W.cell? ⟨q, 1, none⟩ = some (.slice none 0 0)) (h0 : J [] W) :
    CallsIn F n Tryz.prog 104 #[.func (.yield l) #[] #[], .pointer (some ⟨Bn, 0, none⟩)] W fun e W' => (∃ v, e = .returned v) ∧ J [] W' := by
  refine callsIn_of_wp Tryz.func104 rfl hf ?_ hro
  simp only [Tryz.ntmps104, List.size_toArray, List.length_cons, List.length_nil, Nat.reduceAdd, Nat.reduceSub, Array.replicate_succ, Array.replicate_zero, List.push_toArray, List.append_toArray, List.nil_append, List.cons_append]
  gi_wp2
  gi_loopw [10] (fun i wr => i = .int .i64 0 ∧ J [] wr) (fun _ _ => 0)
  case atStart => exact ⟨rfl, h0⟩
  case round =>
    obtain ⟨rfl, hJs⟩ := hrel
    gi_wp2
    go_end0
    exact ⟨⟨_, rfl⟩, hJs⟩
set_option maxHeartbeats 1000000 in
theorem all_d (F : Fence) (n : Nat) (hf : F.fn 67) (hro : F.round = none) (q : Nat) (w : World) :
    CallsIn F n Tryz.prog 67 #[.pointer (some ⟨q, 0, none⟩)] w fun e w' => e = .returned (.func (.func 104) #[] #[.pointer (some ⟨w.heap.size, 0, none⟩)]) ∧ w' = w.alloc (.cells #[.pointer (some ⟨q, 0, none⟩)] 170) := by
  refine callsIn_of_wp Tryz.func67 rfl hf ?_ hro
  simp only [Tryz.ntmps67, List.size_toArray, List.length_cons, List.length_nil, Nat.reduceAdd, Nat.reduceSub, Array.replicate_succ, Array.replicate_zero, List.push_toArray, List.append_toArray, List.nil_append, List.cons_append]
  gi_wp2
  go_ret
  exact ⟨rfl, rfl⟩
theorem stops_d (F : Fence) (n : Nat) (hf : F.fn 104) (hro : F.round = none) (hn : 1 ≤ n) (Bn n₀ q : Nat) (rs : List (Option (Nat × ByteArray × Nat))) (hlen : rs.length ≤ 70000) (w : World) (hBn : Bn < w.heap.size) (hn₀ : n₀ ≤ w.heap.size)
    (hc : w.cell? ⟨Bn, 0, none⟩ = some (.pointer (some ⟨q, 0, none⟩))) (hI : (w.cell? ⟨q, 1, none⟩ = some (.slice none 0 0) ∧ rs = [] ∧ q < n₀) ∨ ∃ g cap, Rs_d w n₀ q g cap rs) :
    SeqStopsK F n Tryz.prog 104 #[.pointer (some ⟨Bn, 0, none⟩)] (fun x : Cm => #[.int .i64 (x.i : Int), .agg #[.int .i64 (x.p : Int), .string x.n, .map (some x.x)]]) (Below n₀) (fun ys => ys = upto rs rs.length) (fun pre => ∃ k, k ≤ rs.length ∧ pre = upto rs k) rs.length w := fun l J Jx W hW hJ _ hY h0 => by
  have hc' := (hW.cell (p := ⟨Bn, 0, none⟩) hBn).trans hc
  rcases hI with ⟨h1, rfl, hq⟩ | ⟨g, cap, hR⟩
  · exact (all1_nil_d F n hf hro l Bn q J W hc' ((hW.cell (p := ⟨q, 1, none⟩) (Nat.lt_of_lt_of_le hq hn₀)).trans h1) h0).mono fun e W' ⟨he, hj⟩ => ⟨he, .inl ⟨_, rfl, hj⟩⟩
  · exact all1_d F n hf hro hn l Bn n₀ q g cap rs hlen J Jx W hJ hY (Nat.le_trans hn₀ hW.size) hc' (hR.below (hW.mono hn₀)) h0

/-- rows in memory, in block g: what each is -/
structure Rs_f (W : World) (n₀ q g cap : Nat) (rs : List (Option (Nat × ByteArray × Nat))) : Prop where
  cq : W.cell? ⟨q, 4, none⟩ = some (.slice (some ⟨g, 0, none⟩) rs.length cap)
  lq : q < n₀
  lg : g < n₀
  no : ∀ k, rs[k]? = some none → W.cell? ⟨g, k * 4, none⟩ = some (.bool false) ∧ W.cell? ⟨g, k * 4 + 1, none⟩ = some (.int .i64 0) ∧ W.cell? ⟨g, k * 4 + 2, none⟩ = some (.string { data := #[] }) ∧ W.cell? ⟨g, k * 4 + 3, none⟩ = some (.int .i64 0)
  ys : ∀ k (p : Nat) (n : ByteArray) (x : Nat), rs[k]? = some (some (p, n, x)) → W.cell? ⟨g, k * 4, none⟩ = some (.bool true) ∧ W.cell? ⟨g, k * 4 + 1, none⟩ = some (.int .i64 (p : Int)) ∧ W.cell? ⟨g, k * 4 + 2, none⟩ = some (.string n) ∧ W.cell? ⟨g, k * 4 + 3, none⟩ = some (.int .i64 (x : Int))
theorem Rs_f.below {W X : World} {n₀ q g cap : Nat} {rs : List (Option (Nat × ByteArray × Nat))} (h : Rs_f W n₀ q g cap rs) (hb : Below n₀ W X) : Rs_f X n₀ q g cap rs := by
  have k : ∀ (j : Nat) (v : Value), W.cell? ⟨g, j, none⟩ = some v → X.cell? ⟨g, j, none⟩ = some v := fun j v e => (hb.cell (p := ⟨g, j, none⟩) h.lg).trans e
  exact ⟨(hb.cell (p := ⟨q, 4, none⟩) h.lq).trans h.cq, h.lq, h.lg, fun i hi => ⟨k _ _ (h.no i hi).1, k _ _ (h.no i hi).2.1, k _ _ (h.no i hi).2.2.1, k _ _ (h.no i hi).2.2.2⟩, fun i p n x hi => ⟨k _ _ (h.ys i p n x hi).1, k _ _ (h.ys i p n x hi).2.1, k _ _ (h.ys i p n x hi).2.2.1, k _ _ (h.ys i p n x hi).2.2.2⟩⟩
set_option maxRecDepth 100000 in
set_option maxHeartbeats 4000000 in
theorem all1_f (F : Fence) (n : Nat) (hf : F.fn 105) (hro : F.round = none) (hn : 1 ≤ n) (l Bn n₀ q g cap : Nat) (rs : List (Option (Nat × ByteArray × Nat))) (hlen : rs.length ≤ 70000) (J Jx : List Cm → World → Prop)
    (W : World) (hJ : AbidesFrom W.heap.size J)
    (hY : ∀ pre (x : Cm) W1, J pre W1 → pre.length < rs.length → YieldAt F (n - 1) Tryz.prog l #[.int .i64 (x.i : Int), .agg #[.int .i64 (x.p : Int), .string x.n, .int .i64 (x.x : Int)]] W1 fun e W' => (e = .returned (.bool true) ∧ J (pre ++ [x]) W' ∧ Below n₀ W1 W') ∨ (e = .returned (.bool false) ∧ Jx (pre ++ [x]) W'))
    (hn₀ : n₀ ≤ W.heap.size) (hBn : W.cell? ⟨Bn, 0, none⟩ = some (.pointer (some ⟨q, 3, none⟩))) (hR : Rs_f W n₀ q g cap rs) (h0 : J [] W) :
    CallsIn F n Tryz.prog 105 #[.func (.yield l) #[] #[], .pointer (some ⟨Bn, 0, none⟩)] W fun e W' => (∃ v, e = .returned v) ∧ ((∃ ys, ys = upto rs rs.length ∧ J ys W') ∨ (∃ pre, (∃ k, k ≤ rs.length ∧ pre = upto rs k) ∧ Jx pre W')) := by
  have cq := hR.cq
  have HR0 : Hid _ := hR
  have HN0 : Hid _ := hn₀
  have HJ : Hid _ := hJ
  have HY : Hid _ := hY
  obtain ⟨N, hN⟩ : ∃ N, rs.length = N := ⟨_, rfl⟩
  have HN : Hid (rs.length = N) := hN
  rw [hN] at cq hlen
  clear hR hJ hY hN
  refine callsIn_of_wp Tryz.func105 rfl hf ?_ hro
  simp only [Tryz.ntmps105, List.size_toArray, List.length_cons, List.length_nil, Nat.reduceAdd, Nat.reduceSub, Array.replicate_succ, Array.replicate_zero, List.push_toArray, List.append_toArray, List.nil_append, List.cons_append]
  gi_wp2
  gi_loopw [10] (fun i wr => ∃ k : Nat, k ≤ N ∧ i = .int .i64 (k : Int) ∧ Hid (J (upto rs k) wr) ∧ Hid (Below n₀ W wr) ∧ Hid (W.heap.size ≤ wr.heap.size))
    (fun i _ => N - (intOf i).toNat)
  case atStart => exact ⟨0, Nat.zero_le _, rfl, h0, Below.refl _ _, Nat.le_refl _⟩
  case round =>
    obtain ⟨k, hk, rfl, HJs, HB, HSZ⟩ := hrel
    by_cases hlt : k < N
    · have hltI : (k : Int) < (N : Int) := by omega
      have hw1 : IntKind.i64.wrap ((k : Int) + 1) = ((k + 1 : Nat) : Int) := by rw [IntKind.wrap_i64]; omega
      have HRr : Hid _ := HR0.out.below HB.out
      cases hrk : rs[k]? with
      | none => exact absurd (List.getElem?_eq_none_iff.1 hrk) (by have := HN.out; omega)
      | some o =>
        cases o with
        | none =>
          obtain ⟨y0, y1, y2, y3⟩ := HRr.out.no k hrk
          have HU : Hid (upto rs (k + 1) = upto rs k) := (upto_succ hrk).trans (by simp)
          clear hrk
          gi_wp2
          refine ⟨fun _ h => (by cases h), ?_⟩
          gi_wp2
          go_roundw
          case rel => exact ⟨k + 1, by omega, by first | rfl | simp, by show J _ _; rw [HU.out]; exact HJ.out _ _ _ none HJs.out (World.grownBy_alloc _ _ _) (fun r e => (by cases e)), HB.out.alloc (Nat.le_trans HN0.out HSZ.out) _, by show _ ≤ _; have := HSZ.out; simp; omega⟩
          case measure => simp [intOf]; omega
        | some d =>
          obtain ⟨p, nm, x⟩ := d
          obtain ⟨y0, y1, y2, y3⟩ := HRr.out.ys k p nm x hrk
          have HU : Hid (upto rs (k + 1) = upto rs k ++ [⟨k, p, nm, x⟩]) := (upto_succ hrk).trans (by simp)
          have hJ1 : J (upto rs k) (wr.alloc (.cells #[.bool true, .int .i64 (p : Int), .string nm, .int .i64 (x : Int)] 176)) := HJ.out _ _ _ none HJs.out (World.grownBy_alloc _ _ _) (fun r e => (by cases e))
          obtain ⟨fn, tmps, assign, body, hy, hRR⟩ := HY.out _ ⟨k, p, nm, x⟩ _ hJ1 (by have := upto_len rs k; have := HN.out; omega)
          dsimp only at hy
          clear hrk hJ1
          gi_wp2
          refine hRR.mono ?_
          rintro e W3 (⟨rfl, hJ3, hk3⟩ | ⟨rfl, hJx3⟩)
          · gi_wp2
            go_roundw
            case rel => exact ⟨k + 1, by omega, by first | rfl | simp, by show J _ _; rw [HU.out]; exact hJ3, (HB.out.alloc (Nat.le_trans HN0.out HSZ.out) _).trans hk3, by show _ ≤ _; have h1 := HSZ.out; have h2 := hk3.size; simp at h2; omega⟩
            case measure => simp [intOf]; omega
          · gi_wp2
            refine bodyPost_ret (results_none rfl _ _ _) rfl ?_
            exact ⟨⟨_, rfl⟩, .inr ⟨_, ⟨k + 1, by have := HN.out; omega, HU.out.symm⟩, hJx3⟩⟩
    · obtain rfl : k = N := by omega
      gi_wp2
      go_end0
      have hN := HN.out
      subst hN
      exact ⟨⟨_, rfl⟩, .inl ⟨_, rfl, HJs.out⟩⟩
set_option maxRecDepth 100000 in
set_option maxHeartbeats 1000000 in
theorem all1_nil_f (F : Fence) (n : Nat) (hf : F.fn 105) (hro : F.round = none) (l Bn q : Nat) (J : List Cm → World → Prop) (W : World) (hBn : W.cell? ⟨Bn, 0, none⟩ = some (.pointer (some ⟨q, 3, none⟩))) (cq : W.cell? ⟨q, 4, none⟩ = some (.slice none 0 0)) (h0 : J [] W) :
    CallsIn F n Tryz.prog 105 #[.func (.yield l) #[] #[], .pointer (some ⟨Bn, 0, none⟩)] W fun e W' => (∃ v, e = .returned v) ∧ J [] W' := by
  refine callsIn_of_wp Tryz.func105 rfl hf ?_ hro
  simp only [Tryz.ntmps105, List.size_toArray, List.length_cons, List.length_nil, Nat.reduceAdd, Nat.reduceSub, Array.replicate_succ, Array.replicate_zero, List.push_toArray, List.append_toArray, List.nil_append, List.cons_append]
  gi_wp2
  gi_loopw [10] (fun i wr => i = .int .i64 0 ∧ J [] wr) (fun _ _ => 0)
  case atStart => exact ⟨rfl, h0⟩
  case round =>
    obtain ⟨rfl, hJs⟩ := hrel
    gi_wp2
    go_end0
    exact ⟨⟨_, rfl⟩, hJs⟩
set_option maxHeartbeats 1000000 in
theorem all_f (F : Fence) (n : Nat) (hf : F.fn 68) (hro : F.round = none) (q : Nat) (w : World) :
    CallsIn F n Tryz.prog 68 #[.pointer (some ⟨q, 3, none⟩)] w fun e w' => e = .returned (.func (.func 105) #[] #[.pointer (some ⟨w.heap.size, 0, none⟩)]) ∧ w' = w.alloc (.cells #[.pointer (some ⟨q, 3, none⟩)] 173) := by
  refine callsIn_of_wp Tryz.func68 rfl hf ?_ hro
  simp only [Tryz.ntmps68, List.size_toArray, List.length_cons, List.length_nil, Nat.reduceAdd, Nat.reduceSub, Array.replicate_succ, Array.replicate_zero, List.push_toArray, List.append_toArray, List.nil_append, List.cons_append]
  gi_wp2
  go_ret
  exact ⟨rfl, rfl⟩
theorem stops_f (F : Fence) (n : Nat) (hf : F.fn 105) (hro : F.round = none) (hn : 1 ≤ n) (Bn n₀ q : Nat) (rs : List (Option (Nat × ByteArray × Nat))) (hlen : rs.length ≤ 70000) (w : World) (hBn : Bn < w.heap.size) (hn₀ : n₀ ≤ w.heap.size)
    (hc : w.cell? ⟨Bn, 0, none⟩ = some (.pointer (some ⟨q, 3, none⟩))) (hI : (w.cell? ⟨q, 4, none⟩ = some (.slice none 0 0) ∧ rs = [] ∧ q < n₀) ∨ ∃ g cap, Rs_f w n₀ q g cap rs) :
    SeqStopsK F n Tryz.prog 105 #[.pointer (some ⟨Bn, 0, none⟩)] (fun x : Cm => #[.int .i64 (x.i : Int), .agg #[.int .i64 (x.p : Int), .string x.n, .int .i64 (x.x : Int)]]) (Below n₀) (fun ys => ys = upto rs rs.length) (fun pre => ∃ k, k ≤ rs.length ∧ pre = upto rs k) rs.length w := fun l J Jx W hW hJ _ hY h0 => by
  have hc' := (hW.cell (p := ⟨Bn, 0, none⟩) hBn).trans hc
  rcases hI with ⟨h1, rfl, hq⟩ | ⟨g, cap, hR⟩
  · exact (all1_nil_f F n hf hro l Bn q J W hc' ((hW.cell (p := ⟨q, 4, none⟩) (Nat.lt_of_lt_of_le hq hn₀)).trans h1) h0).mono fun e W' ⟨he, hj⟩ => ⟨he, .inl ⟨_, rfl, hj⟩⟩
  · exact all1_f F n hf hro hn l Bn n₀ q g cap rs hlen J Jx W hJ hY (Nat.le_trans hn₀ hW.size) hc' (hR.below (hW.mono hn₀)) h0

end Go.Proofs.YtnfddiabhpandaaGreatDoor.Tr

namespace Go.Proofs.YtnfddiabhpandaaGreatDoor.Tr
open Go.RowKit Go.Lib Go.Deep Go.Shelf
attribute [local go_sem] Oper.semAt_some

def ndc (n : Nd) : List Value := [.int .i64 (n.kind : Int), .int .i64 (n.number : Int), .int .i64 (n.parent : Int), .string n.name, .int .i64 (n.size : Int)]
def ndsc (l : List Nd) : List Value := l.flatMap ndc
theorem ndsc_snoc (l : List Nd) (n : Nd) : ndsc (l ++ [n]) = ndsc l ++ ndc n := by simp [ndsc]
theorem ndc_one (n : Nd) : ∀ u ∈ ndc n, u.oneCell' = true := fun u hu => by
  simp [ndc] at hu
  rcases hu with rfl | rfl | rfl | rfl | rfl <;> rfl
theorem cells_nd (W : World) (n : Nd) : ∀ (j : Nat) u, (ndc n)[j]? = some u → (W.alloc (.cells #[.int .i64 (n.kind : Int), .int .i64 (n.number : Int), .int .i64 (n.parent : Int), .string n.name, .int .i64 (n.size : Int)] 50)).cell? ((⟨W.heap.size, 0, none⟩ : Addr).add j) = some u := fun j u h => by
  have e : (⟨W.heap.size, 0, none⟩ : Addr).add j = ⟨W.heap.size, j, none⟩ := by simp [Addr.add]; omega
  rw [e, cell_of_heap (heap_new W _)]
  simpa [ndc] using h
theorem infoN : (Tryz.prog.info? 50).map (fun i => (i.zero, i.size, i.bytes)) = some (some (.agg #[.int .i64 0, .int .i64 0, .int .i64 0, .string { data := #[] }, .int .i64 0]), 5, 48) := by kernel_rfl
def f1 (pre : List Cm) : List Nd := pre.filterMap fun x => if x.i = 0 then none else some ⟨1, x.i, x.p, x.n, 0⟩
def f2 (L : List Nd) (pre : List Cm) : List Nd := L ++ pre.map fun x => ⟨2, x.i, x.p, x.n, x.x⟩
theorem f1_miss (pre : List Cm) {x : Cm} (h : x.i = 0) : f1 (pre ++ [x]) = f1 pre := by simp [f1, h]
theorem f1_hit (pre : List Cm) {x : Cm} (h : ¬ x.i = 0) : f1 (pre ++ [x]) = f1 pre ++ [⟨1, x.i, x.p, x.n, 0⟩] := by simp [f1, h]
theorem f2_snoc (L : List Nd) (pre : List Cm) (x : Cm) : f2 L (pre ++ [x]) = f2 L pre ++ [⟨2, x.i, x.p, x.n, x.x⟩] := by simp [f2]
theorem f1_len (pre : List Cm) : (f1 pre).length ≤ pre.length := List.length_filterMap_le _ _
theorem f2_len (L : List Nd) (pre : List Cm) : (f2 L pre).length = L.length + pre.length := by simp [f2]
theorem own_block {β : Type} (b : Nat) (cs : Array Value) (t : TypeId) : Own (fun (_ : β) W => W.heap[b]? = some (.cells cs t (0, 0))) := fun s X Y row hs hg hr => (hg.block b (heap_lt hs) (fun e => by
  obtain ⟨o, ho, hc⟩ := hr b e.symm
  rw [hs] at ho
  cases ho
  cases hc)).trans hs
theorem wp_merge {P : Program} {c : Code} {Q : Exit → Act → World → Prop} {a : Act} {w : World} {A : Act} {W : World} (h1 : Code.wp P c (fun e a' w' => match e with | .normal => a' = A ∧ w' = W | _ => False) a w) (h2 : Q .normal A W) : Code.wp P c Q a w :=
  Code.wp_mono (fun e a w h => by
    cases e with
    | normal => obtain ⟨rfl, rfl⟩ := h; exact h2
    | _ => exact h.elim) h1
theorem owns_base {w : World} {B B' n size e : Nat} {v : Value} {xs : List Value} (h : w.ownsRow B e size v n xs) (hB : B' ≤ B) : w.ownsRow B' e size v n xs := by
  obtain ⟨q0, q⟩ := h
  refine ⟨q0, ?_⟩
  rcases q with q | ⟨g1, cap1, cur1, q1, q2, q3⟩
  · exact .inl q
  · exact .inr ⟨g1, cap1, cur1, q1, Nat.le_trans hB q2, q3⟩
theorem sizeTS : (Tryz.prog.info? 28).map (·.size) = some 3 := by kernel_rfl
set_option maxRecDepth 100000 in
set_option maxHeartbeats 4000000 in
theorem told_in (F : Fence) (n : Nat) (h1 : F.fn 35) (h2 : F.fn 67) (h3 : F.fn 68) (h4 : F.fn 104) (h5 : F.fn 105) (hro : F.round = none) (hFw : Hid (F = Fence.wide)) (hn : 3 ≤ n) (q fr dr : Nat) (rd rf : List (Option (Nat × ByteArray × Nat))) (hld : rd.length ≤ 70000) (hlf : rf.length ≤ 70000) (hdr : 1 ≤ dr) (hdm : dr ≤ 70000) (w : World) (cf : w.cell? ⟨q, 3, none⟩ = some (.int .i64 (fr : Int))) (cd : w.cell? ⟨q, 0, none⟩ = some (.int .i64 (dr : Int)))
    (hD : (w.cell? ⟨q, 1, none⟩ = some (.slice none 0 0) ∧ rd = [] ∧ q < w.heap.size) ∨ ∃ g cap, Rs_d w w.heap.size q g cap rd) (hF : (w.cell? ⟨q, 4, none⟩ = some (.slice none 0 0) ∧ rf = [] ∧ q < w.heap.size) ∨ ∃ g cap, Rs_f w w.heap.size q g cap rf) :
    CallsIn F n Tryz.prog 35 #[.pointer (some ⟨q, 0, none⟩)] w fun e W' => ∃ v, e = .returned (.agg #[.int .i64 (fr : Int), .int .i64 ((dr : Int) - 1), v]) ∧ W'.ownsRow w.heap.size 50 5 v (f2 (f1 (upto rd rd.length)) (upto rf rf.length)).length (ndsc (f2 (f1 (upto rd rd.length)) (upto rf rf.length))) ∧ Below w.heap.size w W' := by
  have h1' : 1 ≤ n := by omega
  obtain ⟨i0, hi, hz0, hz1, hz2⟩ := info_parts infoN
  have hqd : q < w.heap.size := by
    rcases hD with h | ⟨g, cap, h⟩
    · exact h.2.2
    · exact h.lq
  obtain ⟨w1, hw1⟩ : ∃ w1, w.alloc (.cells #[.int .i64 0, .int .i64 0, .slice none 0 0] 28) = w1 := ⟨_, rfl⟩
  have hsz1 : w1.heap.size = w.heap.size + 1 := by rw [← hw1]; simp
  have hb1 : Below w.heap.size w w1 := by rw [← hw1]; exact (Below.refl _ _).alloc (Nat.le_refl _) _
  have kr : w1.heap[w.heap.size]? = some (.cells #[.int .i64 0, .int .i64 0, .slice none 0 0] 28 (0, 0)) := by rw [← hw1]; exact heap_new w _
  have HW1 : Hid _ := hw1
  refine callsIn_of_wp_marks Tryz.func35 rfl h1 ?_ hro
  simp only [Tryz.ntmps35, List.size_toArray, List.length_cons, List.length_nil, Nat.reduceAdd, Nat.reduceSub, Array.replicate_succ, Array.replicate_zero, List.push_toArray, List.append_toArray, List.nil_append, List.cons_append]
  gi_wp2_with (gi_at_call 67; refine (all_d F (n - 1) h2 hro _ _).mono ?_; rintro e w' ⟨rfl, rfl⟩)
  skip
  have bO := Boxed.new w1 26 (.slice none 0 0)
  have bN := Boxed.new (w1.alloc (.cells #[.slice none 0 0] 26)) 170 (.pointer (some ⟨q, 0, none⟩))
  rw [World.size_alloc] at bN
  have hB0 : Below (w.heap.size + 1) w1 ((w1.alloc (.cells #[.slice none 0 0] 26)).alloc (.cells #[.pointer (some ⟨q, 0, none⟩)] 170)) := by rw [← hsz1]; exact ((Below.refl _ w1).alloc (Nat.le_refl _) _).alloc (by simp) _
  rw [hsz1] at bO bN
  obtain ⟨W0, hW0⟩ : ∃ W0, (w1.alloc (.cells #[.slice none 0 0] 26)).alloc (.cells #[.pointer (some ⟨q, 0, none⟩)] 170) = W0 := ⟨_, rfl⟩
  have hsz0 : W0.heap.size = w.heap.size + 3 := by rw [← hW0]; simp [hsz1]
  have bO' := bO.alloc (.cells #[.pointer (some ⟨q, 0, none⟩)] 170)
  rw [hW0] at bO' bN hB0 ⊢
  have hbw0 : Below w.heap.size w W0 := hb1.trans (hB0.mono (by omega))
  have hD0 : (W0.cell? ⟨q, 1, none⟩ = some (.slice none 0 0) ∧ rd = [] ∧ q < w.heap.size + 1) ∨ ∃ g cap, Rs_d W0 (w.heap.size + 1) q g cap rd := by
    rcases hD with ⟨e1, e2, e3⟩ | ⟨g, cap, h⟩
    · exact .inl ⟨(hbw0.cell (p := ⟨q, 1, none⟩) e3).trans e1, e2, by omega⟩
    · have := h.below hbw0
      exact .inr ⟨g, cap, this.cq, Nat.lt_succ_of_lt this.lq, Nat.lt_succ_of_lt this.lg, this.no, this.ys⟩
  refine wpIn_rangeFunc_ownH hro h1' (gf := 104) (lb := #[.pointer (some ⟨w.heap.size + 1 + 1, 0, none⟩)]) rfl h4 (enters_of Tryz.func104 (by kernel_rfl) rfl)
    (stops_d F (n - 1) h4 hro (by omega) (w.heap.size + 1 + 1) (w.heap.size + 1) q rd hld W0 (by omega) (by omega) bN.cell hD0) belowK_t (belowK_b (by omega)) (Below.refl _ _) (fun _ => rfl)
    (fun pre W => (∃ v, Boxed W (w.heap.size + 1) 26 v ∧ W.ownsRow (w.heap.size + 1) 50 5 v (f1 pre).length (ndsc (f1 pre)) ∧ True) ∧ Below (w.heap.size + 1) w1 W)
    (fun _ _ _ => False)
    (OwnFrom.and (Own.from (holdsRow_own (w.heap.size + 1) (w.heap.size + 1) 26 50 5 (fun pre => (f1 pre).length) (fun pre => ndsc (f1 pre)) (fun _ _ => True)) _) (ownFrom_below (by omega) (by omega)))
    (fun _ _ _ _ _ hs _ _ => hs)
    ⟨⟨_, bO', World.ownsRow_nil _ _ _ _, trivial⟩, hB0⟩
    (fun x a' W => ∃ Bx, w.heap.size + 1 < Bx ∧ W.heap[Bx]? = some (.cells #[.int .i64 (x.p : Int), .string x.n, .map (some x.x)] 131 (0, 0)) ∧ a' = { tmps := #[.pointer (some ⟨q, 0, none⟩), undef, .pointer (some ⟨w.heap.size, 0, none⟩), .pointer (some ⟨w.heap.size + 1, 0, none⟩), .int .i64 (x.i : Int), .pointer (some ⟨Bx, 0, none⟩), undef, undef, .pointer (some ⟨q, 0, none⟩), .pointer (some ⟨q, 0, none⟩), .pointer (some ⟨q, 0, none⟩), .func (.func 104) #[] #[.pointer (some ⟨w.heap.size + 1 + 1, 0, none⟩)], .int .i64 (x.i : Int), .agg #[.int .i64 (x.p : Int), .string x.n, .map (some x.x)], undef, undef, undef, undef, undef, undef, undef, undef, undef, undef, undef, undef, undef, undef, undef, undef, undef, undef, undef, undef, undef, undef, undef, undef, undef, undef, undef, undef, undef, undef, undef, undef, undef, undef, undef, undef, undef, undef, undef, undef, undef, undef, undef, undef, undef], defers := [] })
    (fun x a' _ X Y row hs hg hr => by obtain ⟨Bx, e1, e2, e3⟩ := hs; exact ⟨Bx, e1, own_block (β := Unit) Bx _ _ () X Y row e2 hg (fun r e => (hr r e).2), e3⟩)
    ?assign ?body ?done ?stop
  case assign =>
    rintro l pre x W K ⟨⟨v, hv, hrow, -⟩, hB1⟩ hK
    gi_wp2
    skip
    exact hK _ _ ((KeepsOthers.alloc _ _).from _) ((Below.refl _ W).alloc (by have := hB1.size; omega) _) ⟨⟨v, hv.alloc _, hrow.alloc _, trivial⟩, hB1.alloc (by have := hB1.size; omega) _⟩ ⟨W.heap.size, hv.lt, heap_new W _, rfl⟩
  case body =>
    rintro l pre x a' W hl ⟨r, hr⟩ ⟨⟨v, hv, hrow, -⟩, hB⟩ ⟨Bx, hBx, bX, rfl⟩ hlt
    have hc := hv.cell
    have x0 : W.cell? ⟨Bx, 0, none⟩ = some (.int .i64 (x.p : Int)) := (cell_of_heap bX).trans rfl
    have x1 : W.cell? ⟨Bx, 1, none⟩ = some (.string x.n) := (cell_of_heap bX).trans rfl
    have hpl := f1_len pre
    by_cases hx : x.i = 0
    · have hxI : ((x.i : Int) != 0) = false := by simp [hx]
      have hxI2 : (x.i : Int) = 0 := by omega
      gi_wp2
      skip
      exact ⟨KeepsFrom.refl _ _, Below.refl _ _, ⟨v, hv, by rw [f1_miss pre hx]; exact hrow, trivial⟩, hB⟩
    · have hxI : ((x.i : Int) != 0) = true := by simp [hx]
      gi_wp2_with (gi_at_builtin; refine wpListIn_append_own _ rfl _ _ 26 rfl (w.heap.size + 1) 50 i0 _ 5 48 Tryz.underlying26 hi hz0 hz1 hz2 rfl (by decide) _ _ _ rfl (hrow.alloc _) ⟨W.heap.size, 0, none⟩ 1 1 (ndc ⟨1, x.i, x.p, x.n, 0⟩) rfl rfl (cells_nd W ⟨1, x.i, x.p, x.n, 0⟩) (ndc_one ⟨1, x.i, x.p, x.n, 0⟩) (by unfold maxLen; omega) (by omega) (by have := hB.size; simp; omega) ?_; intro v' w2 hown' hgrow _; obtain ⟨g', cap', rfl⟩ := ownsRow_succ hown'; obtain ⟨hv1, hv2, hr2, hk2, hb2⟩ := hv.appended (by decide) hrow (by have := hB.size; omega) (Nat.le_refl _) hown' hgrow; have hc1 := hv1.cell; have hf1 := hv1.frozen)
      skip
      exact ⟨hk2.from _, hb2, ⟨_, hv2, by rw [f1_hit pre hx, ndsc_snoc]; simpa using hr2, trivial⟩, hB.trans hb2⟩
  case done =>
    rintro D zs W hD1 rfl ⟨⟨v, hv, hrow, -⟩, hB1⟩ hK
    have hcb := hv.cell
    gi_wp2_with (gi_at_call 68; refine (all_f F (n - 1) h3 hro _ _).mono ?_; rintro e w' ⟨rfl, rfl⟩)
    obtain ⟨L0, hL0⟩ : ∃ L0, f1 (upto rd rd.length) = L0 := ⟨_, rfl⟩
    have hL0l : L0.length ≤ 70000 := by rw [← hL0]; exact Nat.le_trans (f1_len _) (Nat.le_trans (upto_len _ _) hld)
    rw [hL0] at hrow
    have hDlt : D < W.heap.size := (Array.getElem?_eq_some_iff.1 hK).1
    have hWs := hB1.size
    obtain ⟨V0, hV0⟩ : ∃ V0, W.alloc (.cells #[.pointer (some ⟨q, 3, none⟩)] 173) = V0 := ⟨_, rfl⟩
    obtain ⟨g2, hg2⟩ : ∃ g2, W.heap.size = g2 := ⟨_, rfl⟩
    have hszV : V0.heap.size = g2 + 1 := by rw [← hV0, ← hg2]; simp
    have bF : Boxed V0 g2 173 (.pointer (some ⟨q, 3, none⟩)) := by rw [← hV0, ← hg2]; exact Boxed.new W 173 _
    have hv0 : Boxed V0 (w.heap.size + 1) 26 v := by rw [← hV0]; exact hv.alloc _
    have hrow0 : V0.ownsRow (w.heap.size + 1) 50 5 v L0.length (ndsc L0) := by rw [← hV0]; exact hrow.alloc _
    have hBV : Below (w.heap.size + 1) w1 V0 := by rw [← hV0]; exact hB1.alloc (by omega) _
    have hKV : V0.heap[D]? = some (.deferred (some [])) := by rw [← hV0]; exact (Below.heap_alloc W _ _ hDlt).trans hK
    have hbwV : Below w.heap.size w V0 := hb1.trans (hBV.mono (by omega))
    have hF0 : (V0.cell? ⟨q, 4, none⟩ = some (.slice none 0 0) ∧ rf = [] ∧ q < w.heap.size + 1) ∨ ∃ g cap, Rs_f V0 (w.heap.size + 1) q g cap rf := by
      rcases hF with ⟨e1, e2, e3⟩ | ⟨g, cap, h⟩
      · exact .inl ⟨(hbwV.cell (p := ⟨q, 4, none⟩) e3).trans e1, e2, by omega⟩
      · have := h.below hbwV
        exact .inr ⟨g, cap, this.cq, Nat.lt_succ_of_lt this.lq, Nat.lt_succ_of_lt this.lg, this.no, this.ys⟩
    rw [hV0, hg2]
    refine wpIn_rangeFunc_ownH hro h1' (gf := 105) (lb := #[.pointer (some ⟨g2, 0, none⟩)]) rfl h5 (enters_of Tryz.func105 (by kernel_rfl) rfl)
      (stops_f F (n - 1) h5 hro (by omega) g2 (w.heap.size + 1) q rf hlf V0 (by omega) (by omega) bF.cell hF0) belowK_t (belowK_b (by omega)) (Below.refl _ _) (fun _ => rfl)
      (fun pre V => ((∃ v, Boxed V (w.heap.size + 1) 26 v ∧ V.ownsRow (w.heap.size + 1) 50 5 v (f2 L0 pre).length (ndsc (f2 L0 pre)) ∧ True) ∧ Below (w.heap.size + 1) w1 V) ∧ V.heap[D]? = some (.deferred (some [])))
      (fun _ _ _ => False)
      (OwnFrom.and (OwnFrom.and (Own.from (holdsRow_own (w.heap.size + 1) (w.heap.size + 1) 26 50 5 (fun pre => (f2 L0 pre).length) (fun pre => ndsc (f2 L0 pre)) (fun _ _ => True)) _) (ownFrom_below (by omega) (by omega))) (fun _ X Y row hs hg hr => (hg.block D (Array.getElem?_eq_some_iff.1 hs).1 (fun e => by have := (hr D e.symm).1; omega)).trans hs))
      (fun _ _ _ _ _ hs _ _ => hs)
      ⟨⟨⟨_, hv0, by simpa [f2] using hrow0, trivial⟩, hBV⟩, hKV⟩
      (fun x a' V => ∃ Bx, w.heap.size + 1 < Bx ∧ V.heap[Bx]? = some (.cells #[.int .i64 (x.p : Int), .string x.n, .int .i64 (x.x : Int)] 136 (0, 0)) ∧ a' = { tmps := #[.pointer (some ⟨q, 0, none⟩), undef, .pointer (some ⟨w.heap.size, 0, none⟩), .pointer (some ⟨w.heap.size + 1, 0, none⟩), undef, undef, .int .i64 (x.i : Int), .pointer (some ⟨Bx, 0, none⟩), .pointer (some ⟨q, 0, none⟩), .pointer (some ⟨q, 0, none⟩), .pointer (some ⟨q, 0, none⟩), .func (.func 104) #[] #[.pointer (some ⟨w.heap.size + 1 + 1, 0, none⟩)], undef, undef, undef, undef, undef, undef, undef, undef, undef, undef, undef, undef, undef, undef, undef, .pointer (some ⟨q, 0, none⟩), .pointer (some ⟨q, 0, none⟩), .pointer (some ⟨q, 3, none⟩), .func (.func 105) #[] #[.pointer (some ⟨g2, 0, none⟩)], .int .i64 (x.i : Int), .agg #[.int .i64 (x.p : Int), .string x.n, .int .i64 (x.x : Int)], undef, undef, undef, undef, undef, undef, undef, undef, undef, undef, undef, undef, undef, undef, undef, undef, undef, undef, undef, undef, undef, undef, undef, undef, undef, undef], defers := [] })
      (fun x a' _ X Y row hs hg hr => by obtain ⟨Bx, e1, e2, e3⟩ := hs; exact ⟨Bx, e1, own_block (β := Unit) Bx _ _ () X Y row e2 hg (fun r e => (hr r e).2), e3⟩)
      ?assign2 ?body2 ?done2 ?stop2
    case assign2 =>
      rintro l pre x V K ⟨⟨⟨v, hv, hrow, -⟩, hB1⟩, hKD⟩ hK
      gi_wp2
      exact hK _ _ ((KeepsOthers.alloc _ _).from _) ((Below.refl _ V).alloc (by have := hB1.size; omega) _) ⟨⟨⟨v, hv.alloc _, hrow.alloc _, trivial⟩, hB1.alloc (by have := hB1.size; omega) _⟩, (Below.heap_alloc V _ _ (Array.getElem?_eq_some_iff.1 hKD).1).trans hKD⟩ ⟨V.heap.size, hv.lt, heap_new V _, rfl⟩
    case body2 =>
      rintro l pre x a' W hl ⟨r, hr⟩ ⟨⟨⟨v, hv, hrow, -⟩, hB⟩, hKD⟩ ⟨Bx, hBx, bX, rfl⟩ hlt
      have hc := hv.cell
      have x0 : W.cell? ⟨Bx, 0, none⟩ = some (.int .i64 (x.p : Int)) := (cell_of_heap bX).trans rfl
      have x1 : W.cell? ⟨Bx, 1, none⟩ = some (.string x.n) := (cell_of_heap bX).trans rfl
      have x2 : W.cell? ⟨Bx, 2, none⟩ = some (.int .i64 (x.x : Int)) := (cell_of_heap bX).trans rfl
      have hpl : (f2 L0 pre).length ≤ 70000 + pre.length := by rw [f2_len]; omega
      gi_wp2_with (gi_at_builtin; refine wpListIn_append_own _ rfl _ _ 26 rfl (w.heap.size + 1) 50 i0 _ 5 48 Tryz.underlying26 hi hz0 hz1 hz2 rfl (by decide) _ _ _ rfl (hrow.alloc _) ⟨W.heap.size, 0, none⟩ 1 1 (ndc ⟨2, x.i, x.p, x.n, x.x⟩) rfl rfl (cells_nd W ⟨2, x.i, x.p, x.n, x.x⟩) (ndc_one ⟨2, x.i, x.p, x.n, x.x⟩) (by unfold maxLen; omega) (by omega) (by have := hB.size; simp; omega) ?_; intro v' w2 hown' hgrow _; obtain ⟨g', cap', rfl⟩ := ownsRow_succ hown'; obtain ⟨hv1, hv2, hr2, hk2, hb2⟩ := hv.appended (by decide) hrow (by have := hB.size; omega) (Nat.le_refl _) hown' hgrow; have hc1 := hv1.cell; have hf1 := hv1.frozen)
      exact ⟨hk2.from _, hb2, ⟨⟨_, hv2, by rw [f2_snoc, ndsc_snoc]; simpa using hr2, trivial⟩, hB.trans hb2⟩, (hk2.same D _ hKD rfl)⟩
    case done2 =>
      rintro D2 zs W hD2 rfl ⟨⟨⟨v, hv, hrow, -⟩, hB2⟩, hKD⟩ hK2
      have hcb := hv.cell
      have hbW : Below w.heap.size w W := hb1.trans (hB2.mono (by omega))
      have cf' := (hbW.cell (p := ⟨q, 3, none⟩) hqd).trans cf
      have cd' := (hbW.cell (p := ⟨q, 0, none⟩) hqd).trans cd
      have kr' : W.heap[w.heap.size]? = _ := (hB2.block w.heap.size (by omega)).trans kr
      have r0 : W.cell? ⟨w.heap.size, 0, none⟩ = some (.int .i64 0) := (cell_of_heap kr').trans rfl
      have r1 : W.cell? ⟨w.heap.size, 1, none⟩ = some (.int .i64 0) := (cell_of_heap kr').trans rfl
      have r2 : W.cell? ⟨w.heap.size, 2, none⟩ = some (.slice none 0 0) := (cell_of_heap kr').trans rfl
      have fr' : ∀ j, W.frozen? ⟨w.heap.size, j, none⟩ = false := fun j => frozen_of_heap kr'
      have hwd : IntKind.i64.wrap ((dr : Int) - 1) = (dr : Int) - 1 := by rw [IntKind.wrap_i64]; omega
      obtain ⟨va, vc, hva⟩ : ∃ va vc, v = .slice va (f2 L0 (upto rf rf.length)).length vc := by
        rcases hrow.2 with ⟨e1, e2⟩ | ⟨g, cap, cur, e1, _⟩
        · exact ⟨none, 0, by rw [e2]; exact e1⟩
        · exact ⟨_, cap, e1⟩
      subst hva
      obtain ⟨NN, hNN⟩ : ∃ NN, (f2 L0 (upto rf rf.length)).length = NN := ⟨_, rfl⟩
      have HNN : Hid _ := hNN
      rw [hNN] at hcb hrow hv
      gi_wp2
      obtain rfl := hFw.out
      refine wpIn_wide.2 ?_
      have hne : ¬ q = w.heap.size := by omega
      have HSN : Hid ((((W.drew.setCell ⟨w.heap.size, 0, none⟩ (.int .i64 (fr : Int))).setCell ⟨w.heap.size, 1, none⟩ (.int .i64 ((dr : Int) - 1))).setCell ⟨w.heap.size, 2, none⟩ (.slice va NN vc)).cell? ⟨q, 3, none⟩ = some (.int .i64 (fr : Int)) ∧ (((W.drew.setCell ⟨w.heap.size, 0, none⟩ (.int .i64 (fr : Int))).setCell ⟨w.heap.size, 1, none⟩ (.int .i64 ((dr : Int) - 1))).setCell ⟨w.heap.size, 2, none⟩ (.slice va NN vc)).cell? ⟨q, 0, none⟩ = some (.int .i64 (dr : Int)) ∧ (((W.drew.setCell ⟨w.heap.size, 0, none⟩ (.int .i64 (fr : Int))).setCell ⟨w.heap.size, 1, none⟩ (.int .i64 ((dr : Int) - 1))).setCell ⟨w.heap.size, 2, none⟩ (.slice va NN vc)).cell? ⟨w.heap.size + 1, 0, none⟩ = some (.slice va NN vc)) := by
        have e : ∀ k, k ≠ w.heap.size → (((W.drew.setCell ⟨w.heap.size, 0, none⟩ (.int .i64 (fr : Int))).setCell ⟨w.heap.size, 1, none⟩ (.int .i64 ((dr : Int) - 1))).setCell ⟨w.heap.size, 2, none⟩ (.slice va NN vc)).heap[k]? = W.heap[k]? := fun k hk => by rw [heap_setCell_other _ _ _ _ hk, heap_setCell_other _ _ _ _ hk, heap_setCell_other _ _ _ _ hk]; rfl
        have c : ∀ (k j : Nat) (v : Value), k ≠ w.heap.size → W.cell? ⟨k, j, none⟩ = some v → (((W.drew.setCell ⟨w.heap.size, 0, none⟩ (.int .i64 (fr : Int))).setCell ⟨w.heap.size, 1, none⟩ (.int .i64 ((dr : Int) - 1))).setCell ⟨w.heap.size, 2, none⟩ (.slice va NN vc)).cell? ⟨k, j, none⟩ = some v := fun k j v hk h => by simp only [World.cell?] at h ⊢; rw [e k hk]; exact h
        exact ⟨c _ _ _ hne cf', c _ _ _ hne cd', c _ _ _ (by omega) hcb⟩
      apply wp_merge
      · skip
        refine wp_region_held_drew (S := fun V => V.cell? ⟨q, 3, none⟩ = some (.int .i64 (fr : Int)) ∧ V.cell? ⟨q, 0, none⟩ = some (.int .i64 (dr : Int)) ∧ V.cell? ⟨w.heap.size + 1, 0, none⟩ = some (.slice va NN vc)) (by kernel_rfl) ⟨cf', cd', hcb⟩ ?_
        intro hS
        refine wpAnyH_take (i := 0) (oi := { dst := some 46, op := .move (.tmp 0), type := _, pos := _, after := _, guard := none }) (v := .pointer (some ⟨q, 0, none⟩)) rfl (by kernel_rfl) (by kernel_rfl) (by kernel_rfl) (fun _ _ _ h => h) (Or.inl ⟨by rfl, by intro x _; go_simp⟩) hS ?_
        (try simp only [Act.put, List.setIfInBounds_toArray, List.set_cons_zero, List.set_cons_succ])
        refine wpAnyH_take (i := 1) (oi := { dst := some 47, op := .nilCheck (.tmp 46), type := _, pos := _, after := _, guard := none }) (v := .pointer (some ⟨q, 0, none⟩)) rfl (by kernel_rfl) (by kernel_rfl) (by kernel_rfl) (fun _ _ _ h => h) (Or.inl ⟨by rfl, by intro x _; go_simp⟩) hS ?_
        (try simp only [Act.put, List.setIfInBounds_toArray, List.set_cons_zero, List.set_cons_succ])
        refine wpAnyH_take (i := 2) (oi := { dst := some 48, op := .fieldAddr 125 (.tmp 47) 1, type := _, pos := _, after := _, guard := none }) (v := .pointer (some ⟨q, 3, none⟩)) rfl (by kernel_rfl) (by kernel_rfl) (by kernel_rfl) (fun _ _ _ h => h) (Or.inl ⟨by rfl, by intro x _; go_simp⟩) hS ?_
        (try simp only [Act.put, List.setIfInBounds_toArray, List.set_cons_zero, List.set_cons_succ])
        refine wpAnyH_take (i := 3) (oi := { dst := some 49, op := .fieldAddr 123 (.tmp 48) 0, type := _, pos := _, after := _, guard := none }) (v := .pointer (some ⟨q, 3, none⟩)) rfl (by kernel_rfl) (by kernel_rfl) (by kernel_rfl) (fun _ _ _ h => h) (Or.inl ⟨by rfl, by intro x _; go_simp⟩) hS ?_
        (try simp only [Act.put, List.setIfInBounds_toArray, List.set_cons_zero, List.set_cons_succ])
        refine wpAnyH_take (i := 4) (oi := { dst := some 50, op := .load 3 (.tmp 49), type := _, pos := _, after := _, guard := none }) (v := .int .i64 (fr : Int)) rfl (by kernel_rfl) (by kernel_rfl) (by kernel_rfl) (fun _ _ _ h => h) (Or.inl ⟨by rfl, by intro x hx; have h1 := hx.1; go_simp⟩) hS ?_
        (try simp only [Act.put, List.setIfInBounds_toArray, List.set_cons_zero, List.set_cons_succ])
        refine wpAnyH_take (i := 5) (oi := { dst := some 51, op := .move (.tmp 0), type := _, pos := _, after := _, guard := none }) (v := .pointer (some ⟨q, 0, none⟩)) rfl (by kernel_rfl) (by kernel_rfl) (by kernel_rfl) (fun _ _ _ h => h) (Or.inl ⟨by rfl, by intro x _; go_simp⟩) hS ?_
        (try simp only [Act.put, List.setIfInBounds_toArray, List.set_cons_zero, List.set_cons_succ])
        refine wpAnyH_take (i := 6) (oi := { dst := some 52, op := .nilCheck (.tmp 51), type := _, pos := _, after := _, guard := none }) (v := .pointer (some ⟨q, 0, none⟩)) rfl (by kernel_rfl) (by kernel_rfl) (by kernel_rfl) (fun _ _ _ h => h) (Or.inl ⟨by rfl, by intro x _; go_simp⟩) hS ?_
        (try simp only [Act.put, List.setIfInBounds_toArray, List.set_cons_zero, List.set_cons_succ])
        refine wpAnyH_take (i := 7) (oi := { dst := some 53, op := .fieldAddr 125 (.tmp 52) 0, type := _, pos := _, after := _, guard := none }) (v := .pointer (some ⟨q, 0, none⟩)) rfl (by kernel_rfl) (by kernel_rfl) (by kernel_rfl) (fun _ _ _ h => h) (Or.inl ⟨by rfl, by intro x _; go_simp⟩) hS ?_
        (try simp only [Act.put, List.setIfInBounds_toArray, List.set_cons_zero, List.set_cons_succ])
        refine wpAnyH_take (i := 8) (oi := { dst := some 54, op := .fieldAddr 120 (.tmp 53) 0, type := _, pos := _, after := _, guard := none }) (v := .pointer (some ⟨q, 0, none⟩)) rfl (by kernel_rfl) (by kernel_rfl) (by kernel_rfl) (fun _ _ _ h => h) (Or.inl ⟨by rfl, by intro x _; go_simp⟩) hS ?_
        (try simp only [Act.put, List.setIfInBounds_toArray, List.set_cons_zero, List.set_cons_succ])
        refine wpAnyH_take (i := 9) (oi := { dst := some 55, op := .load 3 (.tmp 54), type := _, pos := _, after := _, guard := none }) (v := .int .i64 (dr : Int)) rfl (by kernel_rfl) (by kernel_rfl) (by kernel_rfl) (fun _ _ _ h => h) (Or.inl ⟨by rfl, by intro x hx; have h1 := hx.2.1; go_simp⟩) hS ?_
        (try simp only [Act.put, List.setIfInBounds_toArray, List.set_cons_zero, List.set_cons_succ])
        refine wpAnyH_take (i := 10) (oi := { dst := some 56, op := .binOp .sub 3 (.tmp 55) (.const (.int .i64 1)) 3, type := _, pos := _, after := _, guard := none }) (v := .int .i64 ((dr : Int) - 1)) rfl (by kernel_rfl) (by kernel_rfl) (by kernel_rfl) (fun _ _ _ h => h) (Or.inl ⟨by rfl, by intro x _; go_simp⟩) hS ?_
        (try simp only [Act.put, List.setIfInBounds_toArray, List.set_cons_zero, List.set_cons_succ])
        refine wpAnyH_take (i := 11) (oi := { dst := some 57, op := .load 26 (.tmp 3), type := _, pos := _, after := _, guard := none }) (v := .slice va NN vc) rfl (by kernel_rfl) (by kernel_rfl) (by kernel_rfl) (fun _ _ _ h => h) (Or.inl ⟨by rfl, by intro x hx; have h1 := hx.2.2; go_simp⟩) hS ?_
        (try simp only [Act.put, List.setIfInBounds_toArray, List.set_cons_zero, List.set_cons_succ])
        refine wpAnyH_take (i := 12) (oi := { dst := some 58, op := .build 28 #[(0, .tmp 50), (1, .tmp 56), (2, .tmp 57)], type := _, pos := _, after := _, guard := none }) (v := .agg #[.int .i64 (fr : Int), .int .i64 ((dr : Int) - 1), .slice va NN vc]) rfl (by kernel_rfl) (by kernel_rfl) (by kernel_rfl) (fun _ _ _ h => h) (Or.inl ⟨by rfl, by intro x _; go_simp⟩) hS ?_
        (try simp only [Act.put, List.setIfInBounds_toArray, List.set_cons_zero, List.set_cons_succ])
        refine wpAnyH_ready (rs := [13]) (by kernel_rfl) (by simp) ?_
        refine AllReadyH.cons (o := { dst := none, op := .store 28 (.tmp 2) (.tmp 58), type := _, pos := _, after := _, guard := none }) rfl (fun K hK => ?_) AllReadyH.nil
        go_simp
        have hS2 := HSN.out
        refine hK.out _ _ hS2 (fun _ => ?_)
        clear hK K hS
        (try simp only [Act.put])
        refine wpAnyH_done (by kernel_rfl) ?_ _
        exact ⟨rfl, rfl⟩
      · gi_wp2
        obtain ⟨X, hX⟩ : ∃ X, ((((W.setCell ⟨w.heap.size, 0, none⟩ (.int .i64 (fr : Int))).setCell ⟨w.heap.size, 1, none⟩ (.int .i64 ((dr : Int) - 1))).setCell ⟨w.heap.size, 2, none⟩ (.slice va NN vc)).drew) = X := ⟨_, rfl⟩
        rw [hX]
        have eX : ∀ k, k ≠ w.heap.size → X.heap[k]? = W.heap[k]? := fun k hk => by
          rw [← hX]
          show ((((W.setCell ⟨w.heap.size, 0, none⟩ (.int .i64 (fr : Int))).setCell ⟨w.heap.size, 1, none⟩ (.int .i64 ((dr : Int) - 1))).setCell ⟨w.heap.size, 2, none⟩ (.slice va NN vc))).heap[k]? = _
          rw [heap_setCell_other _ _ _ _ hk, heap_setCell_other _ _ _ _ hk, heap_setCell_other _ _ _ _ hk]
        have kX : X.heap[w.heap.size]? = some (.cells #[.int .i64 (fr : Int), .int .i64 ((dr : Int) - 1), .slice va NN vc] 28 (0, 0)) := by
          rw [← hX]
          exact put3A kr'
        have hbX : Below w.heap.size w X := by
          rw [← hX]
          exact (((hbW.setCell (by simp) _).setCell (by simp) _).setCell (by simp) _).drew
        have nd : ∀ k : Nat, W.heap[k]? = some (.deferred (some [])) → k ≠ w.heap.size := fun k h e => by
          rw [e, kr'] at h
          cases h
        have hX2 : X.heap[D2]? = some (.deferred (some [])) := (eX D2 (nd _ hK2)).trans hK2
        refine ⟨by simp, .inl ⟨_, _, rfl, run_takeDeferred hX2, ?_⟩⟩
        have hDD : D ≠ D2 := by omega
        have hXD : (X.putObj D2 (.deferred none)).heap[D]? = some (.deferred (some [])) := (World.putObj_heap_other hDD).trans ((eX D (nd _ hKD)).trans hKD)
        refine ⟨by simp, .inl ⟨_, _, rfl, run_takeDeferred hXD, ?_⟩⟩
        have kY : ((X.putObj D2 (.deferred none)).putObj D (.deferred none)).heap[w.heap.size]? = some (.cells #[.int .i64 (fr : Int), .int .i64 ((dr : Int) - 1), .slice va NN vc] 28 (0, 0)) := (World.putObj_heap_other (fun e => nd _ hKD e.symm)).trans ((World.putObj_heap_other (fun e => nd _ hK2 e.symm)).trans kX)
        refine ⟨_, results_cell1 rfl _ _ w.heap.size 28 _ (0, 0) _ rfl kY Tryz.underlying28 rfl sizeTS, _, rfl, ?_, ?_⟩
        · have hk := owns_keep hrow (W' := (X.putObj D2 (.deferred none)).putObj D (.deferred none)) (fun g hg => by
            obtain ⟨cur, hcur⟩ := owns_block hrow hg
            have n1 : g ≠ w.heap.size := fun e => by
              rw [e, kr'] at hcur
              injection hcur with hcur
              injection hcur with _ hcur _
              exact absurd hcur (by decide)
            have n2 : g ≠ D2 := fun e => by rw [e, hK2] at hcur; cases hcur
            have n3 : g ≠ D := fun e => by rw [e, hKD] at hcur; cases hcur
            exact (World.putObj_heap_other n3).trans ((World.putObj_heap_other n2).trans (eX g n1)))
          exact owns_base hk (Nat.le_succ _)
        · exact (hbX.trans (belowK_b (w := w) (Nat.le_refl _) X D2 _ _ (by omega) hX2 rfl rfl)).trans (belowK_b (w := w) (Nat.le_refl _) _ D _ _ (by omega) hXD rfl rfl)
    case stop2 =>
      rintro D c pre W _ _ h _
      exact h.elim
  case stop =>
    rintro D c pre W _ _ h _
    exact h.elim

end Go.Proofs.YtnfddiabhpandaaGreatDoor.Tr
