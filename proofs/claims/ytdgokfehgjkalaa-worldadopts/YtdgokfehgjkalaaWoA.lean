import Derived.Test.YtdgokfehgjkalaaWdK
namespace Go.Proofs.Ytdgokfehgjkalaa.Wd
open Go.RowKit Go.Lib Go.Deep

theorem num_any (n : Int) (w : World) : Calls Try.prog 9 #[.int .i64 n] w fun e w' => e = .returned (.int .i64 n) ∧ w' = w := by
  go_enter Try.func9, Try.ntmps9
  go_wp2
  go_ret
  exact ⟨rfl, rfl⟩
/-- a step of a script, as it is handed in -/
structure Ops where
  kind : Int
  at_ : Int
  name : ByteArray
  blob : ByteArray
  eb : Int
  ek : Int
  ep : Int
  ef : Int
  en : ByteArray
  el : ByteArray
  n : Int
  ba : Option Addr
  bn : Nat
  bc : Nat
  rc : ByteArray
  rp : ByteArray
  rs : Bool
def opC (o : Ops) : List Value := [.int .i64 o.kind, .int .i64 o.at_, .string o.name, .string o.blob, .int .i64 o.eb, .int .i64 o.ek, .int .i64 o.ep, .int .i64 o.ef, .string o.en, .string o.el, .int .i64 o.n, .slice o.ba o.bn o.bc, .string o.rc, .string o.rp, .bool o.rs]
def opV (o : Ops) : Value := .agg #[.int .i64 o.kind, .int .i64 o.at_, .string o.name, .string o.blob, .int .i64 o.eb, .int .i64 o.ek, .int .i64 o.ep, .int .i64 o.ef, .string o.en, .string o.el, .int .i64 o.n, .slice o.ba o.bn o.bc, .string o.rc, .string o.rp, .bool o.rs]
noncomputable def doS (S : Wst) (o : Ops) : Wst :=
  if o.kind = 4 then getS S o.name else if o.kind = 5 then putS S o.name o.blob else if o.kind = 6 then delS S o.name else if o.kind = 7 then listS S else if o.kind = 8 then loadS S else if o.kind = 9 then pendS S o.name
  else if o.kind = 10 then commitS S else if o.kind = 11 then forgetS S else if o.kind = 12 then stopS S else if o.kind = 14 then armSS S o.n else if o.kind = 15 then powS S else S
theorem Turn.call2 {F : List Nat} {w W : World} {q : Nat} {S S' : Wst} {f : Nat} {args : Array Value} (h : Turn F w W q S) (hc : ∀ F', St W q F' S → Calls Try.prog f args W fun e w' => (∃ x, e = .returned x) ∧ Turn F' W w' q S') : Calls Try.prog f args W fun e w' => (∃ x, e = .returned x) ∧ Turn F w w' q S' := by
  obtain ⟨h1, F2, h2, h3⟩ := h
  refine (hc F2 h2).mono ?_
  rintro e w' ⟨hx, hT⟩
  exact ⟨hx, turn_trans h1 h3 hT⟩
set_option maxRecDepth 10000 in
set_option maxHeartbeats 4000000 in
theorem does_any (w : World) (pb q : Nat) (F : List Nat) (S : Wst) (o : Ops) (B N : Nat) (hon : o.n ≤ 9223372036854775807) (h : Top w pb q) (hs : St w q F S) (hb : Bnd S B N) (hB : B ≤ 1580000000000) (hN : N ≤ 4398046511000) : Calls Try.prog 14 #[.pointer (some ⟨pb, 0, none⟩), opV o] w fun e w' => e = .returned (.tuple #[]) ∧ Turn F w w' q (doS S o) := by
  unfold opV doS
  obtain ⟨kd, at_, nm, bl, eb, ek, ep, ef, en, el, n, ba, bn, bc, rc, rp, rs⟩ := o
  dsimp only at *
  obtain ⟨w0, hw0⟩ : ∃ W, w.alloc (.cells #[.int .i64 kd, .int .i64 at_, .string nm, .string bl, .int .i64 eb, .int .i64 ek, .int .i64 ep, .int .i64 ef, .string en, .string el, .int .i64 n, .slice ba bn bc, .string rc, .string rp, .bool rs] 34) = W := ⟨_, rfl⟩
  have hb0 : Below w.heap.size w w0 := by rw [← hw0]; exact (Below.refl _ _).alloc (Nat.le_refl _) _
  have hcl : w0.heap[w.heap.size]? = some (.cells #[.int .i64 kd, .int .i64 at_, .string nm, .string bl, .int .i64 eb, .int .i64 ek, .int .i64 ep, .int .i64 ef, .string en, .string el, .int .i64 n, .slice ba bn bc, .string rc, .string rp, .bool rs] 34 (0, 0)) := by rw [← hw0]; exact heap_new _ _
  have HT0 : Turn F w w0 q S := hs.turn hb0
  have h' := h.below hb0
  have v0 : w0.cell? ⟨w.heap.size, 0, none⟩ = some (.int .i64 kd) := (cell_of_heap hcl).trans rfl
  have v2 : w0.cell? ⟨w.heap.size, 2, none⟩ = some (.string nm) := (cell_of_heap hcl).trans rfl
  have v3 : w0.cell? ⟨w.heap.size, 3, none⟩ = some (.string bl) := (cell_of_heap hcl).trans rfl
  have v10 : w0.cell? ⟨w.heap.size, 10, none⟩ = some (.int .i64 n) := (cell_of_heap hcl).trans rfl
  have hs0 : w.heap.size < w0.heap.size := heap_lt hcl
  by_cases h4 : kd = 4
  · subst h4
    have hc := (HT0.call2 fun F' hF' => (get_any w0 pb q F' S nm B N h' hF' hb hB).mono (by rintro e w' ⟨rfl, hT⟩; exact ⟨⟨_, rfl⟩, hT⟩))
    simp only [Int.reduceEq, if_true, if_false]
    clear hs h h' hb hb0 hcl HT0
    go_enter Try.func14, Try.ntmps14
    go_wp2_with fail
    refine hc.mono ?_
    rintro e w2 ⟨⟨x, rfl⟩, hT⟩
    go_wp2
    go_end0
    exact ⟨rfl, hT⟩
  by_cases h5 : kd = 5
  · subst h5
    have hc := (HT0.call2 fun F' hF' => (put_any w0 pb q F' S nm bl B N h' hF' hb hB hN).mono (by rintro e w' ⟨rfl, hT⟩; exact ⟨⟨_, rfl⟩, hT⟩))
    simp only [Int.reduceEq, if_true, if_false]
    clear hs h h' hb hb0 hcl HT0
    go_enter Try.func14, Try.ntmps14
    go_wp2_with fail
    refine hc.mono ?_
    rintro e w2 ⟨⟨x, rfl⟩, hT⟩
    go_wp2
    go_end0
    exact ⟨rfl, hT⟩
  by_cases h6 : kd = 6
  · subst h6
    have hc := (HT0.call2 fun F' hF' => (delete_any w0 pb q F' S nm B N h' hF' hb hB).mono (by rintro e w' ⟨rfl, hT⟩; exact ⟨⟨_, rfl⟩, hT⟩))
    simp only [Int.reduceEq, if_true, if_false]
    clear hs h h' hb hb0 hcl HT0
    go_enter Try.func14, Try.ntmps14
    go_wp2_with fail
    refine hc.mono ?_
    rintro e w2 ⟨⟨x, rfl⟩, hT⟩
    go_wp2
    go_end0
    exact ⟨rfl, hT⟩
  by_cases h7 : kd = 7
  · subst h7
    have hc := (HT0.call2 fun F' hF' => (list_any w0 pb q F' S B N h' hF' hb hB hN).mono (by rintro e w' ⟨a, n, c, rfl, _, _, hT⟩; exact ⟨⟨_, rfl⟩, hT⟩))
    simp only [Int.reduceEq, if_true, if_false]
    clear hs h h' hb hb0 hcl HT0
    go_enter Try.func14, Try.ntmps14
    go_wp2_with fail
    refine hc.mono ?_
    rintro e w2 ⟨⟨x, rfl⟩, hT⟩
    go_wp2
    go_end0
    exact ⟨rfl, hT⟩
  by_cases h8 : kd = 8
  · subst h8
    have hc := (HT0.call2 fun F' hF' => (load_any w0 pb q F' S h' hF').mono (by rintro e w' ⟨rfl, hT⟩; exact ⟨⟨_, rfl⟩, hT⟩))
    simp only [Int.reduceEq, if_true, if_false]
    clear hs h h' hb hb0 hcl HT0
    go_enter Try.func14, Try.ntmps14
    go_wp2_with fail
    refine hc.mono ?_
    rintro e w2 ⟨⟨x, rfl⟩, hT⟩
    go_wp2
    go_end0
    exact ⟨rfl, hT⟩
  by_cases h9 : kd = 9
  · subst h9
    have hc := (HT0.call2 fun F' hF' => (pend_any w0 pb q F' S nm h' hF').mono (by rintro e w' ⟨rfl, hT⟩; exact ⟨⟨_, rfl⟩, hT⟩))
    simp only [Int.reduceEq, if_true, if_false]
    clear hs h h' hb hb0 hcl HT0
    go_enter Try.func14, Try.ntmps14
    go_wp2_with fail
    refine hc.mono ?_
    rintro e w2 ⟨⟨x, rfl⟩, hT⟩
    go_wp2
    go_end0
    exact ⟨rfl, hT⟩
  by_cases h10 : kd = 10
  · subst h10
    have hc := (HT0.call2 fun F' hF' => (commit_any w0 pb q F' S h' hF').mono (by rintro e w' ⟨rfl, hT⟩; exact ⟨⟨_, rfl⟩, hT⟩))
    simp only [Int.reduceEq, if_true, if_false]
    clear hs h h' hb hb0 hcl HT0
    go_enter Try.func14, Try.ntmps14
    go_wp2_with fail
    refine hc.mono ?_
    rintro e w2 ⟨⟨x, rfl⟩, hT⟩
    go_wp2
    go_end0
    exact ⟨rfl, hT⟩
  by_cases h11 : kd = 11
  · subst h11
    have hc := (HT0.call2 fun F' hF' => (forget_any w0 pb q F' S h' hF').mono (by rintro e w' ⟨rfl, hT⟩; exact ⟨⟨_, rfl⟩, hT⟩))
    simp only [Int.reduceEq, if_true, if_false]
    clear hs h h' hb hb0 hcl HT0
    go_enter Try.func14, Try.ntmps14
    go_wp2_with fail
    refine hc.mono ?_
    rintro e w2 ⟨⟨x, rfl⟩, hT⟩
    go_wp2
    go_end0
    exact ⟨rfl, hT⟩
  by_cases h12 : kd = 12
  · subst h12
    have hc := (HT0.call2 fun F' hF' => (stop_any w0 pb q F' S h' hF').mono (by rintro e w' ⟨rfl, hT⟩; exact ⟨⟨_, rfl⟩, hT⟩))
    simp only [Int.reduceEq, if_true, if_false]
    clear hs h h' hb hb0 hcl HT0
    go_enter Try.func14, Try.ntmps14
    go_wp2_with fail
    refine hc.mono ?_
    rintro e w2 ⟨⟨x, rfl⟩, hT⟩
    go_wp2
    go_end0
    exact ⟨rfl, hT⟩
  by_cases h14 : kd = 14
  · subst h14
    have hc := (HT0.call2 fun F' hF' => (armW_any w0 pb q F' S n hon h' hF').mono (by rintro e w' ⟨rfl, hT⟩; exact ⟨⟨_, rfl⟩, hT⟩))
    simp only [Int.reduceEq, if_true, if_false]
    clear hs h h' hb hb0 hcl HT0
    go_enter Try.func14, Try.ntmps14
    go_wp2_with fail
    refine hc.mono ?_
    rintro e w2 ⟨⟨x, rfl⟩, hT⟩
    go_wp2
    go_end0
    exact ⟨rfl, hT⟩
  by_cases h15 : kd = 15
  · subst h15
    have hc := (HT0.call2 fun F' hF' => (power_any w0 pb q F' S h' hF').mono (by rintro e w' ⟨rfl, hT⟩; exact ⟨⟨_, rfl⟩, hT⟩))
    simp only [Int.reduceEq, if_true, if_false]
    clear hs h h' hb hb0 hcl HT0
    go_enter Try.func14, Try.ntmps14
    go_wp2_with fail
    refine hc.mono ?_
    rintro e w2 ⟨⟨x, rfl⟩, hT⟩
    go_wp2
    go_end0
    exact ⟨rfl, hT⟩
  rw [if_neg h4, if_neg h5, if_neg h6, if_neg h7, if_neg h8, if_neg h9, if_neg h10, if_neg h11, if_neg h12, if_neg h14, if_neg h15]
  clear hs h h' hb hb0 hcl
  go_enter Try.func14, Try.ntmps14
  go_wp2
  go_end0
  exact ⟨rfl, HT0⟩

end Go.Proofs.Ytdgokfehgjkalaa.Wd
