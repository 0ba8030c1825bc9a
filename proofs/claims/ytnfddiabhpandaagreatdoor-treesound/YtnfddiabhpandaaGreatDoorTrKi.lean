import Derived.Test.YtnfddiabhpandaaGreatDoorToM
namespace Go.Proofs.YtnfddiabhpandaaGreatDoor.Tr
open Go.RowKit Go.Lib Go.Deep Go.Shelf
attribute [local go_sem] Oper.semAt_some

/-- the state's block and a table's are as they were -/
structure Kg (q g : Nat) (A B : World) : Prop where
  size : A.heap.size ≤ B.heap.size
  hq : B.heap[q]? = A.heap[q]?
  hg : B.heap[g]? = A.heap[g]?
theorem Kg.refl (q g : Nat) (A : World) : Kg q g A A := ⟨Nat.le_refl _, rfl, rfl⟩
theorem Kg.trans {q g : Nat} {A B C : World} (h : Kg q g A B) (h' : Kg q g B C) : Kg q g A C := ⟨Nat.le_trans h.size h'.size, h'.hq.trans h.hq, h'.hg.trans h.hg⟩
theorem Kg.of_below {q g n : Nat} {A B : World} (h : Below n A B) (hq : q < n) (hg : g < n) : Kg q g A B := ⟨h.size, h.block _ hq, h.block _ hg⟩
theorem Kg.alloc {q g : Nat} {A B : World} (h : Kg q g A B) (hq : q < B.heap.size) (hg : g < B.heap.size) (o : Obj) : Kg q g A (B.alloc o) := h.trans (Kg.of_below ((Below.refl B.heap.size B).alloc (Nat.le_refl _) o) hq hg)
theorem kg_put {q g n : Nat} (hq : q < n) (hg : g < n) (W : World) (l : Nat) (o o' : Obj) (hl : n ≤ l) (_h : W.heap[l]? = some o) (_ : o.isCells = false) (_ : o.isWalk = false) : Kg q g W (W.putObj l o') := ⟨by simp [World.putObj], World.putObj_heap_other (by omega), World.putObj_heap_other (by omega)⟩
/-- what stands in a table -/
abbrev Row_ (rs : List (Option (Nat × ByteArray × Nat))) : Type := {x : Cm // rs[x.i]? = some (some (x.p, x.n, x.x))}
theorem cell_kg {A B : World} {k j : Nat} (h : B.heap[k]? = A.heap[k]?) : B.cell? ⟨k, j, none⟩ = A.cell? ⟨k, j, none⟩ := by simp only [World.cell?, h]
theorem Rs_d.kg {W X : World} {n₀ q g cap : Nat} {rs : List (Option (Nat × ByteArray × Nat))} (h : Rs_d W n₀ q g cap rs) (hb : Kg q g W X) : Rs_d X n₀ q g cap rs := by
  have k : ∀ (j : Nat) (v : Value), W.cell? ⟨g, j, none⟩ = some v → X.cell? ⟨g, j, none⟩ = some v := fun j v e => (cell_kg hb.hg).trans e
  exact ⟨(cell_kg hb.hq).trans h.cq, h.lq, h.lg, fun i hi => ⟨k _ _ (h.no i hi).1, k _ _ (h.no i hi).2.1, k _ _ (h.no i hi).2.2.1, k _ _ (h.no i hi).2.2.2⟩, fun i p n x hi => ⟨k _ _ (h.ys i p n x hi).1, k _ _ (h.ys i p n x hi).2.1, k _ _ (h.ys i p n x hi).2.2.1, k _ _ (h.ys i p n x hi).2.2.2⟩⟩
set_option maxRecDepth 100000 in
set_option maxHeartbeats 4000000 in
theorem all1k_d (F : Fence) (n : Nat) (hf : F.fn 104) (hro : F.round = none) (hn : 1 ≤ n) (l Bn n₀ q g cap : Nat) (rs : List (Option (Nat × ByteArray × Nat))) (hlen : rs.length ≤ 70000) (J Jx : List Cm → World → Prop)
    (W : World) (hJ : AbidesFrom W.heap.size J)
    (hY : ∀ pre (x : Cm) W1, rs[x.i]? = some (some (x.p, x.n, x.x)) → J pre W1 → pre.length < rs.length → YieldAt F (n - 1) Tryz.prog l #[.int .i64 (x.i : Int), .agg #[.int .i64 (x.p : Int), .string x.n, .map (some x.x)]] W1 fun e W' => (e = .returned (.bool true) ∧ J (pre ++ [x]) W' ∧ Kg q g W1 W') ∨ (e = .returned (.bool false) ∧ Jx (pre ++ [x]) W'))
    (hn₀ : n₀ ≤ W.heap.size) (hBn : W.cell? ⟨Bn, 0, none⟩ = some (.pointer (some ⟨q, 0, none⟩))) (hR : Rs_d W n₀ q g cap rs) (h0 : J [] W) :
    CallsIn F n Tryz.prog 104 #[.func (.yield l) #[] #[], .pointer (some ⟨Bn, 0, none⟩)] W fun e W' => (∃ v, e = .returned v) ∧ ((∃ ys, ys = upto rs rs.length ∧ J ys W') ∨ (∃ pre, (∃ k, k ≤ rs.length ∧ pre = upto rs k) ∧ Jx pre W')) := by
  have cq := hR.cq
  have HR0 : Hid _ := hR
  have HN0 : Hid _ := hn₀
  have HJ : Hid _ := hJ
  have HY : Hid _ := hY
  obtain ⟨N, hN⟩ : ∃ N, rs.length = N := ⟨_, rfl⟩
  have HN : Hid (rs.length = N) := hN
  rw [hN] at cq hlen
  clear hR hJ hY hN
  refine callsIn_of_wp Tryz.func104 rfl hf ?_ hro
  simp only [Tryz.ntmps104, List.size_toArray, List.length_cons, List.length_nil, Nat.reduceAdd, Nat.reduceSub, Array.replicate_succ, Array.replicate_zero, List.push_toArray, List.append_toArray, List.nil_append, List.cons_append]
  gi_wp2
  gi_loopw [10] (fun i wr => ∃ k : Nat, k ≤ N ∧ i = .int .i64 (k : Int) ∧ Hid (J (upto rs k) wr) ∧ Hid (Kg q g W wr) ∧ Hid (W.heap.size ≤ wr.heap.size))
    (fun i _ => N - (intOf i).toNat)
  case atStart => exact ⟨0, Nat.zero_le _, rfl, h0, Kg.refl _ _ _, Nat.le_refl _⟩
  case round =>
    obtain ⟨k, hk, rfl, HJs, HB, HSZ⟩ := hrel
    by_cases hlt : k < N
    · have hltI : (k : Int) < (N : Int) := by omega
      have hw1 : IntKind.i64.wrap ((k : Int) + 1) = ((k + 1 : Nat) : Int) := by rw [IntKind.wrap_i64]; omega
      have HRr : Hid _ := HR0.out.kg HB.out
      cases hrk : rs[k]? with
      | none => exact absurd (List.getElem?_eq_none_iff.1 hrk) (by have := HN.out; omega)
      | some o =>
        cases o with
        | none =>
          obtain ⟨y0, y1, y2, y3⟩ := HRr.out.no k hrk
          have HU : Hid (upto rs (k + 1) = upto rs k) := (upto_succ hrk).trans (by simp)
          clear hrk
          gi_wp2
          refine ⟨fun _ h => (by cases h), ?_⟩
          gi_wp2
          go_roundw
          case rel => exact ⟨k + 1, by omega, by first | rfl | simp, by show J _ _; rw [HU.out]; exact HJ.out _ _ _ none HJs.out (World.grownBy_alloc _ _ _) (fun r e => (by cases e)), HB.out.alloc (Nat.lt_of_lt_of_le HR0.out.lq (Nat.le_trans HN0.out HSZ.out)) (Nat.lt_of_lt_of_le HR0.out.lg (Nat.le_trans HN0.out HSZ.out)) _, by show _ ≤ _; have := HSZ.out; simp; omega⟩
          case measure => simp [intOf]; omega
        | some d =>
          obtain ⟨p, nm, x⟩ := d
          obtain ⟨y0, y1, y2, y3⟩ := HRr.out.ys k p nm x hrk
          have HU : Hid (upto rs (k + 1) = upto rs k ++ [⟨k, p, nm, x⟩]) := (upto_succ hrk).trans (by simp)
          have hJ1 : J (upto rs k) (wr.alloc (.cells #[.bool true, .int .i64 (p : Int), .string nm, .map (some x)] 172)) := HJ.out _ _ _ none HJs.out (World.grownBy_alloc _ _ _) (fun r e => (by cases e))
          obtain ⟨fn, tmps, assign, body, hy, hRR⟩ := HY.out _ ⟨k, p, nm, x⟩ _ hrk hJ1 (by have := upto_len rs k; have := HN.out; omega)
          dsimp only at hy
          clear hrk hJ1
          gi_wp2
          refine hRR.mono ?_
          rintro e W3 (⟨rfl, hJ3, hk3⟩ | ⟨rfl, hJx3⟩)
          · gi_wp2
            go_roundw
            case rel => exact ⟨k + 1, by omega, by first | rfl | simp, by show J _ _; rw [HU.out]; exact hJ3, (HB.out.alloc (Nat.lt_of_lt_of_le HR0.out.lq (Nat.le_trans HN0.out HSZ.out)) (Nat.lt_of_lt_of_le HR0.out.lg (Nat.le_trans HN0.out HSZ.out)) _).trans hk3, by show _ ≤ _; have h1 := HSZ.out; have h2 := hk3.size; simp at h2; omega⟩
            case measure => simp [intOf]; omega
          · gi_wp2
            refine bodyPost_ret (results_none rfl _ _ _) rfl ?_
            exact ⟨⟨_, rfl⟩, .inr ⟨_, ⟨k + 1, by have := HN.out; omega, HU.out.symm⟩, hJx3⟩⟩
    · obtain rfl : k = N := by omega
      gi_wp2
      go_end0
      have hN := HN.out
      subst hN
      exact ⟨⟨_, rfl⟩, .inl ⟨_, rfl, HJs.out⟩⟩
theorem stopsk_d (F : Fence) (n : Nat) (hf : F.fn 104) (hro : F.round = none) (hn : 1 ≤ n) (Bn n₀ q g : Nat) (rs : List (Option (Nat × ByteArray × Nat))) (hlen : rs.length ≤ 70000) (w : World) (hBn : Bn < w.heap.size) (hn₀ : n₀ ≤ w.heap.size)
    (hc : w.cell? ⟨Bn, 0, none⟩ = some (.pointer (some ⟨q, 0, none⟩))) (hI : (w.cell? ⟨q, 1, none⟩ = some (.slice none 0 0) ∧ rs = [] ∧ q < n₀) ∨ ∃ cap, Rs_d w n₀ q g cap rs) :
    SeqStopsK F n Tryz.prog 104 #[.pointer (some ⟨Bn, 0, none⟩)] (fun x : Row_ rs => #[.int .i64 (x.1.i : Int), .agg #[.int .i64 (x.1.p : Int), .string x.1.n, .map (some x.1.x)]]) (Kg q g) (fun ys => ys.map Subtype.val = upto rs rs.length) (fun pre => ∃ k, k ≤ rs.length ∧ pre.map Subtype.val = upto rs k) rs.length w := fun l J Jx W hW hJ hJx hY h0 => by
  have hc' := (hW.cell (p := ⟨Bn, 0, none⟩) hBn).trans hc
  rcases hI with ⟨h1, rfl, hq⟩ | ⟨cap, hR⟩
  · exact (all1_nil_d F n hf hro l Bn q (fun p W => p = [] ∧ J [] W) W hc' ((hW.cell (p := ⟨q, 1, none⟩) (Nat.lt_of_lt_of_le hq hn₀)).trans h1) ⟨rfl, h0⟩).mono fun e W' ⟨he, hj⟩ => ⟨he, .inl ⟨[], rfl, hj.2⟩⟩
  · refine (all1k_d F n hf hro hn l Bn n₀ q g cap rs hlen (fun p W => ∃ ys : List (Row_ rs), ys.map Subtype.val = p ∧ J ys W) (fun p W => ∃ ys : List (Row_ rs), ys.map Subtype.val = p ∧ Jx ys W) W (fun s X Y row hs hg hr => ?_) (fun pre x W1 hx hp hl => ?_) (Nat.le_trans hn₀ hW.size) hc' (hR.below (hW.mono hn₀)) ⟨[], rfl, h0⟩).mono ?_
    · obtain ⟨ys, h1, h2⟩ := hs
      exact ⟨ys, h1, hJ ys X Y row h2 hg hr⟩
    · obtain ⟨ys, h1, h2⟩ := hp
      have hyl : ys.length < rs.length := by rw [← h1, List.length_map] at hl; exact hl
      obtain ⟨fn, tmps, assign, body, hy, hRR⟩ := hY ys ⟨x, hx⟩ W1 h2 hyl
      refine ⟨fn, tmps, assign, body, hy, hRR.mono ?_⟩
      rintro e W' (⟨a1, a2, a3⟩ | ⟨a1, a2⟩)
      · exact .inl ⟨a1, ⟨ys ++ [⟨x, hx⟩], by rw [List.map_append, h1]; rfl, a2⟩, a3⟩
      · exact .inr ⟨a1, ⟨ys ++ [⟨x, hx⟩], by rw [List.map_append, h1]; rfl, a2⟩⟩
    · rintro e W' ⟨he, (⟨p, h1, ys, h2, h3⟩ | ⟨p, ⟨k, hk, h1⟩, ys, h2, h3⟩)⟩
      · exact ⟨he, .inl ⟨ys, h2.trans h1, h3⟩⟩
      · exact ⟨he, .inr ⟨ys, ⟨k, hk, h2.trans h1⟩, h3⟩⟩
theorem Rs_f.kg {W X : World} {n₀ q g cap : Nat} {rs : List (Option (Nat × ByteArray × Nat))} (h : Rs_f W n₀ q g cap rs) (hb : Kg q g W X) : Rs_f X n₀ q g cap rs := by
  have k : ∀ (j : Nat) (v : Value), W.cell? ⟨g, j, none⟩ = some v → X.cell? ⟨g, j, none⟩ = some v := fun j v e => (cell_kg hb.hg).trans e
  exact ⟨(cell_kg hb.hq).trans h.cq, h.lq, h.lg, fun i hi => ⟨k _ _ (h.no i hi).1, k _ _ (h.no i hi).2.1, k _ _ (h.no i hi).2.2.1, k _ _ (h.no i hi).2.2.2⟩, fun i p n x hi => ⟨k _ _ (h.ys i p n x hi).1, k _ _ (h.ys i p n x hi).2.1, k _ _ (h.ys i p n x hi).2.2.1, k _ _ (h.ys i p n x hi).2.2.2⟩⟩
set_option maxRecDepth 100000 in
set_option maxHeartbeats 4000000 in
theorem all1k_f (F : Fence) (n : Nat) (hf : F.fn 105) (hro : F.round = none) (hn : 1 ≤ n) (l Bn n₀ q g cap : Nat) (rs : List (Option (Nat × ByteArray × Nat))) (hlen : rs.length ≤ 70000) (J Jx : List Cm → World → Prop)
    (W : World) (hJ : AbidesFrom W.heap.size J)
    (hY : ∀ pre (x : Cm) W1, rs[x.i]? = some (some (x.p, x.n, x.x)) → J pre W1 → pre.length < rs.length → YieldAt F (n - 1) Tryz.prog l #[.int .i64 (x.i : Int), .agg #[.int .i64 (x.p : Int), .string x.n, .int .i64 (x.x : Int)]] W1 fun e W' => (e = .returned (.bool true) ∧ J (pre ++ [x]) W' ∧ Kg q g W1 W') ∨ (e = .returned (.bool false) ∧ Jx (pre ++ [x]) W'))
    (hn₀ : n₀ ≤ W.heap.size) (hBn : W.cell? ⟨Bn, 0, none⟩ = some (.pointer (some ⟨q, 3, none⟩))) (hR : Rs_f W n₀ q g cap rs) (h0 : J [] W) :
    CallsIn F n Tryz.prog 105 #[.func (.yield l) #[] #[], .pointer (some ⟨Bn, 0, none⟩)] W fun e W' => (∃ v, e = .returned v) ∧ ((∃ ys, ys = upto rs rs.length ∧ J ys W') ∨ (∃ pre, (∃ k, k ≤ rs.length ∧ pre = upto rs k) ∧ Jx pre W')) := by
  have cq := hR.cq
  have HR0 : Hid _ := hR
  have HN0 : Hid _ := hn₀
  have HJ : Hid _ := hJ
  have HY : Hid _ := hY
  obtain ⟨N, hN⟩ : ∃ N, rs.length = N := ⟨_, rfl⟩
  have HN : Hid (rs.length = N) := hN
  rw [hN] at cq hlen
  clear hR hJ hY hN
  refine callsIn_of_wp Tryz.func105 rfl hf ?_ hro
  simp only [Tryz.ntmps105, List.size_toArray, List.length_cons, List.length_nil, Nat.reduceAdd, Nat.reduceSub, Array.replicate_succ, Array.replicate_zero, List.push_toArray, List.append_toArray, List.nil_append, List.cons_append]
  gi_wp2
  gi_loopw [10] (fun i wr => ∃ k : Nat, k ≤ N ∧ i = .int .i64 (k : Int) ∧ Hid (J (upto rs k) wr) ∧ Hid (Kg q g W wr) ∧ Hid (W.heap.size ≤ wr.heap.size))
    (fun i _ => N - (intOf i).toNat)
  case atStart => exact ⟨0, Nat.zero_le _, rfl, h0, Kg.refl _ _ _, Nat.le_refl _⟩
  case round =>
    obtain ⟨k, hk, rfl, HJs, HB, HSZ⟩ := hrel
    by_cases hlt : k < N
    · have hltI : (k : Int) < (N : Int) := by omega
      have hw1 : IntKind.i64.wrap ((k : Int) + 1) = ((k + 1 : Nat) : Int) := by rw [IntKind.wrap_i64]; omega
      have HRr : Hid _ := HR0.out.kg HB.out
      cases hrk : rs[k]? with
      | none => exact absurd (List.getElem?_eq_none_iff.1 hrk) (by have := HN.out; omega)
      | some o =>
        cases o with
        | none =>
          obtain ⟨y0, y1, y2, y3⟩ := HRr.out.no k hrk
          have HU : Hid (upto rs (k + 1) = upto rs k) := (upto_succ hrk).trans (by simp)
          clear hrk
          gi_wp2
          refine ⟨fun _ h => (by cases h), ?_⟩
          gi_wp2
          go_roundw
          case rel => exact ⟨k + 1, by omega, by first | rfl | simp, by show J _ _; rw [HU.out]; exact HJ.out _ _ _ none HJs.out (World.grownBy_alloc _ _ _) (fun r e => (by cases e)), HB.out.alloc (Nat.lt_of_lt_of_le HR0.out.lq (Nat.le_trans HN0.out HSZ.out)) (Nat.lt_of_lt_of_le HR0.out.lg (Nat.le_trans HN0.out HSZ.out)) _, by show _ ≤ _; have := HSZ.out; simp; omega⟩
          case measure => simp [intOf]; omega
        | some d =>
          obtain ⟨p, nm, x⟩ := d
          obtain ⟨y0, y1, y2, y3⟩ := HRr.out.ys k p nm x hrk
          have HU : Hid (upto rs (k + 1) = upto rs k ++ [⟨k, p, nm, x⟩]) := (upto_succ hrk).trans (by simp)
          have hJ1 : J (upto rs k) (wr.alloc (.cells #[.bool true, .int .i64 (p : Int), .string nm, .int .i64 (x : Int)] 176)) := HJ.out _ _ _ none HJs.out (World.grownBy_alloc _ _ _) (fun r e => (by cases e))
          obtain ⟨fn, tmps, assign, body, hy, hRR⟩ := HY.out _ ⟨k, p, nm, x⟩ _ hrk hJ1 (by have := upto_len rs k; have := HN.out; omega)
          dsimp only at hy
          clear hrk hJ1
          gi_wp2
          refine hRR.mono ?_
          rintro e W3 (⟨rfl, hJ3, hk3⟩ | ⟨rfl, hJx3⟩)
          · gi_wp2
            go_roundw
            case rel => exact ⟨k + 1, by omega, by first | rfl | simp, by show J _ _; rw [HU.out]; exact hJ3, (HB.out.alloc (Nat.lt_of_lt_of_le HR0.out.lq (Nat.le_trans HN0.out HSZ.out)) (Nat.lt_of_lt_of_le HR0.out.lg (Nat.le_trans HN0.out HSZ.out)) _).trans hk3, by show _ ≤ _; have h1 := HSZ.out; have h2 := hk3.size; simp at h2; omega⟩
            case measure => simp [intOf]; omega
          · gi_wp2
            refine bodyPost_ret (results_none rfl _ _ _) rfl ?_
            exact ⟨⟨_, rfl⟩, .inr ⟨_, ⟨k + 1, by have := HN.out; omega, HU.out.symm⟩, hJx3⟩⟩
    · obtain rfl : k = N := by omega
      gi_wp2
      go_end0
      have hN := HN.out
      subst hN
      exact ⟨⟨_, rfl⟩, .inl ⟨_, rfl, HJs.out⟩⟩
theorem stopsk_f (F : Fence) (n : Nat) (hf : F.fn 105) (hro : F.round = none) (hn : 1 ≤ n) (Bn n₀ q g : Nat) (rs : List (Option (Nat × ByteArray × Nat))) (hlen : rs.length ≤ 70000) (w : World) (hBn : Bn < w.heap.size) (hn₀ : n₀ ≤ w.heap.size)
    (hc : w.cell? ⟨Bn, 0, none⟩ = some (.pointer (some ⟨q, 3, none⟩))) (hI : (w.cell? ⟨q, 4, none⟩ = some (.slice none 0 0) ∧ rs = [] ∧ q < n₀) ∨ ∃ cap, Rs_f w n₀ q g cap rs) :
    SeqStopsK F n Tryz.prog 105 #[.pointer (some ⟨Bn, 0, none⟩)] (fun x : Row_ rs => #[.int .i64 (x.1.i : Int), .agg #[.int .i64 (x.1.p : Int), .string x.1.n, .int .i64 (x.1.x : Int)]]) (Kg q g) (fun ys => ys.map Subtype.val = upto rs rs.length) (fun pre => ∃ k, k ≤ rs.length ∧ pre.map Subtype.val = upto rs k) rs.length w := fun l J Jx W hW hJ hJx hY h0 => by
  have hc' := (hW.cell (p := ⟨Bn, 0, none⟩) hBn).trans hc
  rcases hI with ⟨h1, rfl, hq⟩ | ⟨cap, hR⟩
  · exact (all1_nil_f F n hf hro l Bn q (fun p W => p = [] ∧ J [] W) W hc' ((hW.cell (p := ⟨q, 4, none⟩) (Nat.lt_of_lt_of_le hq hn₀)).trans h1) ⟨rfl, h0⟩).mono fun e W' ⟨he, hj⟩ => ⟨he, .inl ⟨[], rfl, hj.2⟩⟩
  · refine (all1k_f F n hf hro hn l Bn n₀ q g cap rs hlen (fun p W => ∃ ys : List (Row_ rs), ys.map Subtype.val = p ∧ J ys W) (fun p W => ∃ ys : List (Row_ rs), ys.map Subtype.val = p ∧ Jx ys W) W (fun s X Y row hs hg hr => ?_) (fun pre x W1 hx hp hl => ?_) (Nat.le_trans hn₀ hW.size) hc' (hR.below (hW.mono hn₀)) ⟨[], rfl, h0⟩).mono ?_
    · obtain ⟨ys, h1, h2⟩ := hs
      exact ⟨ys, h1, hJ ys X Y row h2 hg hr⟩
    · obtain ⟨ys, h1, h2⟩ := hp
      have hyl : ys.length < rs.length := by rw [← h1, List.length_map] at hl; exact hl
      obtain ⟨fn, tmps, assign, body, hy, hRR⟩ := hY ys ⟨x, hx⟩ W1 h2 hyl
      refine ⟨fn, tmps, assign, body, hy, hRR.mono ?_⟩
      rintro e W' (⟨a1, a2, a3⟩ | ⟨a1, a2⟩)
      · exact .inl ⟨a1, ⟨ys ++ [⟨x, hx⟩], by rw [List.map_append, h1]; rfl, a2⟩, a3⟩
      · exact .inr ⟨a1, ⟨ys ++ [⟨x, hx⟩], by rw [List.map_append, h1]; rfl, a2⟩⟩
    · rintro e W' ⟨he, (⟨p, h1, ys, h2, h3⟩ | ⟨p, ⟨k, hk, h1⟩, ys, h2, h3⟩)⟩
      · exact ⟨he, .inl ⟨ys, h2.trans h1, h3⟩⟩
      · exact ⟨he, .inr ⟨ys, ⟨k, hk, h2.trans h1⟩, h3⟩⟩

end Go.Proofs.YtnfddiabhpandaaGreatDoor.Tr
