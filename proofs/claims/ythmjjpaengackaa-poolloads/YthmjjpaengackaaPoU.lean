import Derived.Test.YthmjjpaengackaaPoT
namespace Go.Proofs.Ythmjjpaengackaa.Po
open Go.RowKit Go.Lib Go.Deep

def clipN (n h : Int) : Int := 1 + n % h
theorem clip40_any (n : Int) (w : World) : Calls Try.prog 19 #[.int .i64 n, .int .i64 1, .int .i64 40] w fun e w' => e = .returned (.int .i64 (clipN n 40)) ∧ w' = w := by
  unfold clipN
  have h12 : (n.tmod 40 = n % 40 ∨ (n.tmod 40 < 0 ∧ n.tmod 40 + 40 = n % 40)) ∧ -40 < n.tmod 40 ∧ n.tmod 40 < 40 := by
    by_cases h0 : 0 ≤ n
    · rw [Int.tmod_eq_emod_of_nonneg h0]; omega
    · have e : n.tmod 40 = -((-n).tmod 40) := by rw [Int.neg_tmod]; omega
      rw [e, Int.tmod_eq_emod_of_nonneg (by omega)]
      omega
  obtain ⟨h1, h2⟩ := h12
  generalize hm : n.tmod 40 = m at *
  have hp : 0 ≤ n % 40 ∧ n % 40 < 40 := by omega
  generalize n % 40 = r at *
  rcases h1 with rfl | ⟨h3, rfl⟩
  · have w1 : IntKind.i64.wrap m = m := by rw [IntKind.wrap_i64]; omega
    have w2 : IntKind.i64.wrap (1 + m) = 1 + m := by rw [IntKind.wrap_i64]; omega
    have h0 : ¬ m < 0 := by omega
    go_enter Try.func19, Try.ntmps19
    go_wp2
    go_ret
    exact ⟨rfl, rfl⟩
  · have w1 : IntKind.i64.wrap m = m := by rw [IntKind.wrap_i64]; omega
    have w3 : IntKind.i64.wrap (m + 40) = m + 40 := by rw [IntKind.wrap_i64]; omega
    have w4 : IntKind.i64.wrap (m + 40 - 1) = m + 40 - 1 := by rw [IntKind.wrap_i64]; omega
    have w5 : IntKind.i64.wrap (m + 40 - 1 + 1) = m + 40 := by rw [IntKind.wrap_i64]; omega
    have w2 : IntKind.i64.wrap (1 + (m + 40)) = 1 + (m + 40) := by rw [IntKind.wrap_i64]; omega
    go_enter Try.func19, Try.ntmps19
    go_wp2
    go_ret
    exact ⟨rfl, rfl⟩
theorem clip12_any (n : Int) (w : World) : Calls Try.prog 19 #[.int .i64 n, .int .i64 1, .int .i64 12] w fun e w' => e = .returned (.int .i64 (clipN n 12)) ∧ w' = w := by
  unfold clipN
  have h12 : (n.tmod 12 = n % 12 ∨ (n.tmod 12 < 0 ∧ n.tmod 12 + 12 = n % 12)) ∧ -12 < n.tmod 12 ∧ n.tmod 12 < 12 := by
    by_cases h0 : 0 ≤ n
    · rw [Int.tmod_eq_emod_of_nonneg h0]; omega
    · have e : n.tmod 12 = -((-n).tmod 12) := by rw [Int.neg_tmod]; omega
      rw [e, Int.tmod_eq_emod_of_nonneg (by omega)]
      omega
  obtain ⟨h1, h2⟩ := h12
  generalize hm : n.tmod 12 = m at *
  have hp : 0 ≤ n % 12 ∧ n % 12 < 12 := by omega
  generalize n % 12 = r at *
  rcases h1 with rfl | ⟨h3, rfl⟩
  · have w1 : IntKind.i64.wrap m = m := by rw [IntKind.wrap_i64]; omega
    have w2 : IntKind.i64.wrap (1 + m) = 1 + m := by rw [IntKind.wrap_i64]; omega
    have h0 : ¬ m < 0 := by omega
    go_enter Try.func19, Try.ntmps19
    go_wp2
    go_ret
    exact ⟨rfl, rfl⟩
  · have w1 : IntKind.i64.wrap m = m := by rw [IntKind.wrap_i64]; omega
    have w3 : IntKind.i64.wrap (m + 12) = m + 12 := by rw [IntKind.wrap_i64]; omega
    have w4 : IntKind.i64.wrap (m + 12 - 1) = m + 12 - 1 := by rw [IntKind.wrap_i64]; omega
    have w5 : IntKind.i64.wrap (m + 12 - 1 + 1) = m + 12 := by rw [IntKind.wrap_i64]; omega
    have w2 : IntKind.i64.wrap (1 + (m + 12)) = 1 + (m + 12) := by rw [IntKind.wrap_i64]; omega
    go_enter Try.func19, Try.ntmps19
    go_wp2
    go_ret
    exact ⟨rfl, rfl⟩
def freshP (f s : Int) : Ps := newP (clipN f 40).toNat (clipN s 12).toNat
theorem fresh_len (f s : Int) : 1 ≤ (freshP f s).fl ∧ (freshP f s).fl ≤ 40 ∧ (freshP f s).R.length ≤ 52 := by
  unfold freshP newP clipN
  simp only [List.length_replicate]
  have h1 : 0 ≤ f % 40 ∧ f % 40 < 40 := by omega
  have h2 : 0 ≤ s % 12 ∧ s % 12 < 12 := by omega
  omega
set_option maxRecDepth 20000 in
theorem fresh_any (w : World) (f s : Int) : Calls Try.prog 7 #[.int .i64 f, .int .i64 s] w fun e w' => ∃ pb q F, e = .returned (.pointer (some ⟨pb, 0, none⟩)) ∧ Ok w' pb q F 0 (freshP f s) ∧ w.heap.size ≤ pb ∧ (∀ k, k ∈ F → w.heap.size ≤ k) ∧ Below w.heap.size w w' := by
  have c1 := clip40_any f w
  have c2 := clip12_any s w
  have hn := new_any w (clipN f 40) (clipN s 12)
  have hr : roomB (clipN f 40) (clipN s 12) = true := by
    unfold roomB clipN
    have h1 : 0 ≤ f % 40 ∧ f % 40 < 40 := by omega
    have h2 : 0 ≤ s % 12 ∧ s % 12 < 12 := by omega
    exact decide_eq_true ⟨by omega, by omega, by omega, by omega⟩
  simp only [hr, if_true] at hn
  have nu := fun W => num_any 0 W
  unfold freshP
  generalize clipN f 40 = a at *
  generalize clipN s 12 = b at *
  clear hr
  go_enter Try.func7, Try.ntmps7
  go_wp2_with fail
  refine c1.mono ?_
  rintro e w2 ⟨rfl, e2⟩
  obtain rfl := e2.symm
  go_wp2_with fail
  refine c2.mono ?_
  rintro e w2 ⟨rfl, e2⟩
  obtain rfl := e2.symm
  go_wp2_with fail
  refine hn.mono ?_
  rintro e w1 ⟨pb, q, F, rfl, h1, h2, h3, h4⟩
  have H1 : Hid _ := h1
  have H2 : Hid _ := h2
  have H3 : Hid (∀ k, k ∈ F → w.heap.size ≤ k) := h3
  have H4 : Hid _ := h4
  clear h1 h2 h3 h4 c1 c2 hn
  go_wp2_with (go_at_call 13; refine (nu _).mono ?_; rintro e w2 ⟨rfl, rfl⟩)
  go_ret
  exact ⟨pb, q, F, rfl, H1.out, H2.out, H3.out, H4.out⟩
/-! a script, as it is handed in -/
def opC (o : Ops) : List Value := [.int .i64 o.kd, .int .i64 o.at_, .int .i64 o.a, .int .i64 o.b, .int .i64 o.bk, .string o.nm, .string o.tg, o.ov, o.qv]
def opV (o : Ops) : Value := .agg #[.int .i64 o.kd, .int .i64 o.at_, .int .i64 o.a, .int .i64 o.b, .int .i64 o.bk, .string o.nm, .string o.tg, o.ov, o.qv]
structure OpOk (o : Ops) : Prop where
  ov : ∃ a n c, o.ov = .slice a n c
  qv : ∃ a n c, o.qv = .slice a n c
  nm : o.nm.size ≤ maxLen
  tg : o.tg.size ≤ maxLen
structure SeeO (w : World) (v : Value) (n : Nat) (ops : List Ops) : Prop where
  len : ops.length = n
  form : ∃ a c, v = .slice a n c ∧ ∀ (i : Nat) o, ops[i]? = some o → ∃ g f, a = some ⟨g, f, none⟩ ∧ g < w.heap.size ∧ ∀ (j : Nat) u, (opC o)[j]? = some u → w.cell? ⟨g, f + i * 9 + j, none⟩ = some u
  ok : ∀ (i : Nat) o, ops[i]? = some o → OpOk o
theorem SeeO.below {w W : World} {v : Value} {n : Nat} {ops : List Ops} (h : SeeO w v n ops) (hb : Below w.heap.size w W) : SeeO W v n ops := by
  obtain ⟨a, c, e, hc⟩ := h.form
  refine ⟨h.len, ⟨a, c, e, fun i o ho => ?_⟩, h.ok⟩
  obtain ⟨g, f, e2, hlt, h2⟩ := hc i o ho
  exact ⟨g, f, e2, Nat.lt_of_lt_of_le hlt hb.size, fun j u hu => (hb.cell (p := ⟨g, f + i * 9 + j, none⟩) hlt).trans (h2 j u hu)⟩
theorem SeeO.at_ {w : World} {a : Option Addr} {n c : Nat} {ops : List Ops} (h : SeeO w (.slice a n c) n ops) {i : Nat} {o : Ops} (ho : ops[i]? = some o) : ∃ g f, a = some ⟨g, f, none⟩ ∧ w.cell? ⟨g, f + i * 9, none⟩ = some (.int .i64 o.kd) ∧ w.cell? ⟨g, f + i * 9 + 1, none⟩ = some (.int .i64 o.at_) ∧ w.cell? ⟨g, f + i * 9 + 2, none⟩ = some (.int .i64 o.a) ∧ w.cell? ⟨g, f + i * 9 + 3, none⟩ = some (.int .i64 o.b) ∧ w.cell? ⟨g, f + i * 9 + 4, none⟩ = some (.int .i64 o.bk) ∧ w.cell? ⟨g, f + i * 9 + 5, none⟩ = some (.string o.nm) ∧ w.cell? ⟨g, f + i * 9 + 6, none⟩ = some (.string o.tg) ∧ w.cell? ⟨g, f + i * 9 + 7, none⟩ = some o.ov ∧ w.cell? ⟨g, f + i * 9 + 8, none⟩ = some o.qv := by
  obtain ⟨a', c', e, hc⟩ := h.form
  injection e with e1 _ _
  subst e1
  obtain ⟨g, f, e2, _, h2⟩ := hc i o ho
  exact ⟨g, f, e2, h2 0 _ rfl, h2 1 _ rfl, h2 2 _ rfl, h2 3 _ rfl, h2 4 _ rfl, h2 5 _ rfl, h2 6 _ rfl, h2 7 _ rfl, h2 8 _ rfl⟩
theorem Turn.call2 {F : List Nat} {w W : World} {q nn N : Nat} {S S' : Ps} {f : Nat} {args : Array Value} (h : Turn F w W q nn S) (hc : ∀ F', Lay W q F' nn S → Calls Try.prog f args W fun e w' => (∃ x, e = .returned x) ∧ Turn F' W w' q N S') : Calls Try.prog f args W fun e w' => (∃ x, e = .returned x) ∧ Turn F w w' q N S' := by
  obtain ⟨h1, F2, h2, h3⟩ := h
  refine (hc F2 h2).mono ?_
  rintro e w' ⟨hx, hT⟩
  exact ⟨hx, turn_trans h1 h3 hT⟩
set_option maxRecDepth 10000 in
set_option maxHeartbeats 4000000 in
theorem does_any (w : World) (pb q : Nat) (F : List Nat) (nn : Nat) (S : Ps) (o : Ops) (hK : Ok w pb q F nn S) (ho : OpOk o) : Calls Try.prog 8 #[.pointer (some ⟨pb, 0, none⟩), opV o] w fun e w' => e = .returned (.tuple #[]) ∧ Turn F w w' q (nn + 1) (doS S o) := by
  obtain ⟨⟨a1, n1, e1, h1⟩, ⟨a2, n2, e2, h2⟩, hnm, htg⟩ := ho
  unfold opV doS
  obtain ⟨kd, at_, a, b, bk, nm, tg, ov, qv⟩ := o
  dsimp only at *
  subst h1 h2
  obtain ⟨w0, hw0, hb0, hcl⟩ := one_new w #[.int .i64 kd, .int .i64 at_, .int .i64 a, .int .i64 b, .int .i64 bk, .string nm, .string tg, .slice a1 n1 e1, .slice a2 n2 e2] 31
  have HT0 : Turn F w w0 q nn S := hK.lay.turn hb0
  have ht0 := hK.top.below hb0
  have hOk : ∀ F', Lay w0 q F' nn S → Ok w0 pb q F' nn S := fun F' hL => ⟨ht0, hL, hK.good, hK.nn⟩
  have v0 : w0.cell? ⟨w.heap.size, 0, none⟩ = some (.int .i64 kd) := (cell_of_heap hcl).trans rfl
  have v2 : w0.cell? ⟨w.heap.size, 2, none⟩ = some (.int .i64 a) := (cell_of_heap hcl).trans rfl
  have v3 : w0.cell? ⟨w.heap.size, 3, none⟩ = some (.int .i64 b) := (cell_of_heap hcl).trans rfl
  have v4 : w0.cell? ⟨w.heap.size, 4, none⟩ = some (.int .i64 bk) := (cell_of_heap hcl).trans rfl
  have v5 : w0.cell? ⟨w.heap.size, 5, none⟩ = some (.string nm) := (cell_of_heap hcl).trans rfl
  have v6 : w0.cell? ⟨w.heap.size, 6, none⟩ = some (.string tg) := (cell_of_heap hcl).trans rfl
  by_cases h4 : kd = 10
  · subst h4
    have hc := (HT0.call2 (N := nn + 1) (S' := popS S) fun F' hF' => (pop_any w0 pb q F' nn S (hOk F' hF')).mono (by rintro e w' ⟨rfl, hT⟩; exact ⟨⟨_, rfl⟩, hT.up (Nat.le_succ _)⟩))
    simp only [Int.reduceEq, if_true, if_false]
    clear hK hOk ht0 hb0 hcl HT0 hnm htg
    go_enter Try.func8, Try.ntmps8
    go_wp2_with fail
    refine hc.mono ?_
    rintro e w2 ⟨⟨x, rfl⟩, hT⟩
    have HT : Hid _ := hT
    clear hT hc
    go_wp2
    go_end0
    exact ⟨rfl, HT.out⟩
  by_cases h5 : kd = 11
  · subst h5
    have hc := (HT0.call2 (N := nn + 1) (S' := pushS S a) fun F' hF' => (push_any w0 pb q F' nn S a (hOk F' hF')).mono (by rintro e w' ⟨rfl, hT⟩; exact ⟨⟨_, rfl⟩, hT.up (Nat.le_succ _)⟩))
    simp only [Int.reduceEq, if_true, if_false]
    clear hK hOk ht0 hb0 hcl HT0 hnm htg
    go_enter Try.func8, Try.ntmps8
    go_wp2_with fail
    refine hc.mono ?_
    rintro e w2 ⟨⟨x, rfl⟩, hT⟩
    have HT : Hid _ := hT
    clear hT hc
    go_wp2
    go_end0
    exact ⟨rfl, HT.out⟩
  by_cases h6 : kd = 12
  · subst h6
    have hc := (HT0.call2 (N := nn + 1) (S' := asgS S a b) fun F' hF' => (asg_any w0 pb q F' nn S a b (hOk F' hF')).mono (by rintro e w' ⟨rfl, hT⟩; exact ⟨⟨_, rfl⟩, hT⟩))
    simp only [Int.reduceEq, if_true, if_false]
    clear hK hOk ht0 hb0 hcl HT0 hnm htg
    go_enter Try.func8, Try.ntmps8
    go_wp2_with fail
    refine hc.mono ?_
    rintro e w2 ⟨⟨x, rfl⟩, hT⟩
    have HT : Hid _ := hT
    clear hT hc
    go_wp2
    go_end0
    exact ⟨rfl, HT.out⟩
  by_cases h7 : kd = 13
  · subst h7
    have hc := (HT0.call2 (N := nn + 1) (S' := relS S a) fun F' hF' => (rel_any w0 pb q F' nn S a (hOk F' hF')).mono (by rintro e w' ⟨rfl, hT⟩; exact ⟨⟨_, rfl⟩, hT⟩))
    simp only [Int.reduceEq, if_true, if_false]
    clear hK hOk ht0 hb0 hcl HT0 hnm htg
    go_enter Try.func8, Try.ntmps8
    go_wp2_with fail
    refine hc.mono ?_
    rintro e w2 ⟨⟨x, rfl⟩, hT⟩
    have HT : Hid _ := hT
    clear hT hc
    go_wp2
    go_end0
    exact ⟨rfl, HT.out⟩
  by_cases h8 : kd = 14
  · subst h8
    have hc := (HT0.call2 (N := nn + 1) (S' := setS S a nm tg bk) fun F' hF' => (set_any w0 pb q F' nn S a nm tg bk (hOk F' hF') hnm htg).mono (by rintro e w' ⟨rfl, hT⟩; exact ⟨⟨_, rfl⟩, hT⟩))
    simp only [Int.reduceEq, if_true, if_false]
    clear hK hOk ht0 hb0 hcl HT0 hnm htg
    go_enter Try.func8, Try.ntmps8
    go_wp2_with fail
    refine hc.mono ?_
    rintro e w2 ⟨⟨x, rfl⟩, hT⟩
    have HT : Hid _ := hT
    clear hT hc
    go_wp2
    go_end0
    exact ⟨rfl, HT.out⟩
  rw [if_neg h4, if_neg h5, if_neg h6, if_neg h7, if_neg h8]
  have HT : Hid (Turn F w w0 q (nn + 1) S) := HT0.up (Nat.le_succ _)
  clear hK hOk ht0 hb0 hcl HT0 hnm htg
  go_enter Try.func8, Try.ntmps8
  go_wp2
  go_end0
  exact ⟨rfl, HT.out⟩
end Go.Proofs.Ythmjjpaengackaa.Po
