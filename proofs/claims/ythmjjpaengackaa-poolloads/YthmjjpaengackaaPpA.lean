import Derived.Test.YthmjjpaengackaaPoW
namespace Go.Proofs.Ythmjjpaengackaa.Po
open Go.RowKit Go.Lib Go.Deep

theorem obsC_one (l : List Ob) : ∀ u ∈ obsC l, u.oneCell' = true := fun u hu => by
  unfold obsC at hu
  obtain ⟨o, _, hu⟩ := List.mem_flatMap.1 hu
  simp only [obC, List.mem_cons, List.not_mem_nil, or_false] at hu
  rcases hu with rfl | rfl | rfl | rfl <;> rfl
/-- an object of a list that can be read -/
theorem See.ob {w : World} {a : Option Addr} {n c : Nat} {A : List Ob} (h : See w 4 (.slice a n c) n (obsC A)) {i : Nat} {o : Ob} (hi : A[i]? = some o) (hl : A.length = n) : ∃ b off, a = some ⟨b, off, none⟩ ∧ w.cell? ⟨b, off + i * 4, none⟩ = some (.string o.nm) ∧ w.cell? ⟨b, off + i * 4 + 1, none⟩ = some (.string o.tg) ∧ w.cell? ⟨b, off + i * 4 + 2, none⟩ = some (.int .i64 o.bk) ∧ w.cell? ⟨b, off + i * 4 + 3, none⟩ = some (.int .i64 o.ow) := by
  have hlt := some_lt hi
  obtain ⟨_, _, a', c', e, _, _, h4⟩ := h
  injection e with e1 _ _
  subst e1
  obtain ⟨b, off, rfl, _, hc⟩ := h4 (by omega)
  have hx := fun j (hj : j < 4) => flat_get obC 4 obC_len A i o hi j hj
  refine ⟨b, off, rfl, ?_, ?_, ?_, ?_⟩
  · exact hc _ _ ((hx 0 (by omega)).trans rfl)
  · rw [Nat.add_assoc]; exact hc _ _ ((hx 1 (by omega)).trans rfl)
  · rw [Nat.add_assoc]; exact hc _ _ ((hx 2 (by omega)).trans rfl)
  · rw [Nat.add_assoc]; exact hc _ _ ((hx 3 (by omega)).trans rfl)
def zsC (l : List Int) : List Value := l.map fun z => Value.int .i64 z
theorem zsC_one (l : List Int) : ∀ u ∈ zsC l, u.oneCell' = true := fun u hu => by
  obtain ⟨z, _, rfl⟩ := List.mem_map.1 hu
  rfl
theorem nsC_zs (l : List Nat) : nsC l = zsC (l.map fun (n : Nat) => (n : Int)) := by unfold nsC zsC; rw [List.map_map]; rfl
theorem See.z {w : World} {a : Option Addr} {n c : Nat} {A : List Int} (h : See w 1 (.slice a n c) n (zsC A)) {i : Nat} {z : Int} (hi : A[i]? = some z) (hl : A.length = n) : ∃ b off, a = some ⟨b, off, none⟩ ∧ w.cell? ⟨b, off + i, none⟩ = some (.int .i64 z) := by
  have hlt := some_lt hi
  obtain ⟨_, _, a', c', e, _, _, h4⟩ := h
  injection e with e1 _ _
  subst e1
  obtain ⟨b, off, rfl, _, hc⟩ := h4 (by omega)
  exact ⟨b, off, rfl, hc i _ (by unfold zsC; rw [List.getElem?_map, hi]; rfl)⟩
theorem See.len {w : World} {v : Value} {n : Nat} {A : List Ob} (h : See w 4 v n (obsC A)) : A.length = n := by
  have := h.1
  rw [obsC_len] at this
  omega
theorem See.lenz {w : World} {v : Value} {n : Nat} {A : List Int} (h : See w 1 v n (zsC A)) : A.length = n := by
  have := h.1
  unfold zsC at this
  simpa using this
set_option maxRecDepth 20000 in
set_option maxHeartbeats 1000000 in
theorem sameRows_any (w : World) (va vb : Value) (n : Nat) (A : List Ob) (ha : See w 4 va n (obsC A)) (hb : See w 4 vb n (obsC A)) (hn : n ≤ 9223372036854775807) : Calls Try.prog 37 #[va, vb] w fun e w' => e = .returned (.bool true) ∧ Below w.heap.size w w' := by
  have hl := ha.len
  obtain ⟨a1, c1, rfl⟩ := ha.form
  obtain ⟨a2, c2, rfl⟩ := hb.form
  have HA : Hid (See w 4 (.slice a1 n c1) n (obsC A)) := ha
  have HB : Hid (See w 4 (.slice a2 n c2) n (obsC A)) := hb
  clear ha hb
  go_enter Try.func37, Try.ntmps37
  go_wp2
  go_loopg [5] n (fun gk i wr => ∃ k : Nat, gk = n - k ∧ k ≤ n ∧ i = .int .i64 (k : Int) ∧ Below w.heap.size w wr)
  case atStart => exact ⟨0, by omega, by omega, rfl, Below.refl _ _⟩
  case round =>
    obtain ⟨k, hgk, hkn, rfl, hbe⟩ := hrel
    by_cases hk : k < n
    · have hkI : (k : Int) < (n : Int) := by omega
      obtain ⟨o, hko⟩ : ∃ o, A[k]? = some o := ⟨_, List.getElem?_eq_getElem (by omega)⟩
      obtain ⟨b1, o1, rfl, x0, x1, x2, x3⟩ := (HA.out.below hbe).ob hko hl
      obtain ⟨b2, o2, rfl, y0, y1, y2, y3⟩ := (HB.out.below hbe).ob hko hl
      have w1 : IntKind.i64.wrap ((k : Int) + 1) = ((k + 1 : Nat) : Int) := by rw [IntKind.wrap_i64]; omega
      have B0 : Hid (∀ j, Below w.heap.size w (wr.drewN j)) := fun j => bdr hbe j
      obtain ⟨nm, tg, bk, ow⟩ := o
      dsimp only at *
      clear hbe hko
      go_wp2_with fail
      go_quiet (fail)
      refine with_world (Q := fun V => Below w.heap.size w V) _ (B0.out _) ?_
      intro V hV
      have HV : Hid _ := hV
      clear hV x0 x1 x2 x3 y0 y1 y2 y3 B0
      go_wp2
      go_roundg (n - (k + 1))
      case measure => omega
      case rel => exact ⟨k + 1, rfl, by omega, rfl, HV.out⟩
    · obtain rfl : k = n := by omega
      have hkI : ¬ (k : Int) < (k : Int) := by omega
      go_wp2
      go_ret
      exact ⟨rfl, hbe⟩
set_option maxRecDepth 20000 in
set_option maxHeartbeats 1000000 in
theorem sameInts_any (w : World) (va vb : Value) (n : Nat) (A : List Int) (ha : See w 1 va n (zsC A)) (hb : See w 1 vb n (zsC A)) (hn : n ≤ 9223372036854775807) : Calls Try.prog 38 #[va, vb] w fun e w' => e = .returned (.bool true) ∧ Below w.heap.size w w' := by
  have hl := ha.lenz
  obtain ⟨a1, c1, rfl⟩ := ha.form
  obtain ⟨a2, c2, rfl⟩ := hb.form
  have HA : Hid (See w 1 (.slice a1 n c1) n (zsC A)) := ha
  have HB : Hid (See w 1 (.slice a2 n c2) n (zsC A)) := hb
  clear ha hb
  go_enter Try.func38, Try.ntmps38
  go_wp2
  go_loopg [5] n (fun gk i wr => ∃ k : Nat, gk = n - k ∧ k ≤ n ∧ i = .int .i64 (k : Int) ∧ Below w.heap.size w wr)
  case atStart => exact ⟨0, by omega, by omega, rfl, Below.refl _ _⟩
  case round =>
    obtain ⟨k, hgk, hkn, rfl, hbe⟩ := hrel
    by_cases hk : k < n
    · have hkI : (k : Int) < (n : Int) := by omega
      obtain ⟨o, hko⟩ : ∃ o, A[k]? = some o := ⟨_, List.getElem?_eq_getElem (by omega)⟩
      obtain ⟨b1, o1, rfl, x0⟩ := (HA.out.below hbe).z hko hl
      obtain ⟨b2, o2, rfl, y0⟩ := (HB.out.below hbe).z hko hl
      have w1 : IntKind.i64.wrap ((k : Int) + 1) = ((k + 1 : Nat) : Int) := by rw [IntKind.wrap_i64]; omega
      have B0 : Hid (∀ j, Below w.heap.size w (wr.drewN j)) := fun j => bdr hbe j
      clear hbe hko
      go_wp2_with fail
      go_quiet (fail)
      refine with_world (Q := fun V => Below w.heap.size w V) _ (B0.out _) ?_
      intro V hV
      have HV : Hid _ := hV
      clear hV x0 y0 B0
      go_wp2
      go_roundg (n - (k + 1))
      case measure => omega
      case rel => exact ⟨k + 1, rfl, by omega, rfl, HV.out⟩
    · obtain rfl : k = n := by omega
      have hkI : ¬ (k : Int) < (k : Int) := by omega
      go_wp2
      go_ret
      exact ⟨rfl, hbe⟩
/-- a pool's state as data -/
structure Sd (w : World) (v : Value) (R : List Ob) (Z : List Int) : Prop where
  ex : ∃ ov qv, v = .agg #[ov, qv] ∧ See w 4 ov R.length (obsC R) ∧ See w 1 qv Z.length (zsC Z)
theorem Sd.below {w W : World} {v : Value} {R : List Ob} {Z : List Int} (h : Sd w v R Z) (hb : Below w.heap.size w W) : Sd W v R Z := by
  obtain ⟨ov, qv, e, h1, h2⟩ := h.ex
  exact ⟨ov, qv, e, h1.below hb, h2.below hb⟩
set_option maxRecDepth 20000 in
set_option maxHeartbeats 1000000 in
theorem sameState_any (w : World) (va vb : Value) (R : List Ob) (Z : List Int) (ha : Sd w va R Z) (hb : Sd w vb R Z) (hr : R.length ≤ 9223372036854775807) (hz : Z.length ≤ 9223372036854775807) : Calls Try.prog 18 #[va, vb] w fun e w' => e = .returned (.bool true) ∧ Below w.heap.size w w' := by
  obtain ⟨o1, q1, rfl, s1, t1⟩ := ha.ex
  obtain ⟨o2, q2, rfl, s2, t2⟩ := hb.ex
  obtain ⟨a1, c1, rfl⟩ := s1.form
  obtain ⟨a2, c2, rfl⟩ := s2.form
  obtain ⟨a3, c3, rfl⟩ := t1.form
  obtain ⟨a4, c4, rfl⟩ := t2.form
  generalize hN : R.length = N at *
  generalize hM : Z.length = M at *
  obtain ⟨W, hW, hbe, k0, k1⟩ := two_new w #[.slice a1 N c1, .slice a3 M c3] #[.slice a2 N c2, .slice a4 M c4] 29 29
  have c1' := sameRows_any W _ _ N R (s1.below hbe) (s2.below hbe) hr
  have H2 : Hid (∀ w2, Below W.heap.size W w2 → w2.cell? ⟨w.heap.size, 1, none⟩ = some (.slice a3 M c3) ∧ w2.cell? ⟨w.heap.size + 1, 1, none⟩ = some (.slice a4 M c4) ∧ Calls Try.prog 38 #[.slice a3 M c3, .slice a4 M c4] w2 fun e w' => e = .returned (.bool true) ∧ Hid (Below w.heap.size w w')) := fun w2 hb2 => by
    have hb2' : Below w.heap.size w w2 := hbe.trans (hb2.mono hbe.size)
    refine ⟨(cell_of_heap ((hb2.block _ (heap_lt k0)).trans k0)).trans rfl, (cell_of_heap ((hb2.block _ (heap_lt k1)).trans k1)).trans rfl, (sameInts_any w2 _ _ M Z (t1.below hb2') (t2.below hb2') hz).mono ?_⟩
    rintro e w' ⟨rfl, hb3⟩
    exact ⟨rfl, hb2'.trans (hb3.mono hb2'.size)⟩
  have x0 : W.cell? ⟨w.heap.size, 0, none⟩ = some (.slice a1 N c1) := (cell_of_heap k0).trans rfl
  have x1 : W.cell? ⟨w.heap.size + 1, 0, none⟩ = some (.slice a2 N c2) := (cell_of_heap k1).trans rfl
  clear s1 s2 t1 t2 k0 k1 hbe ha hb
  go_enter Try.func18, Try.ntmps18
  go_wp2_with (first
    | (go_at_call 37; refine c1'.mono ?_; rintro e w2 ⟨rfl, hb2⟩; obtain ⟨y0, y1, hin⟩ := H2.out w2 hb2; clear hb2 H2)
    | (go_at_call 38; refine hin.mono ?_; rintro e w3 ⟨rfl, HB3⟩))
  go_ret
  exact ⟨rfl, HB3.out⟩
/-! what a row is found by -/
set_option maxRecDepth 20000 in
theorem foundI_any (w : World) (m nn : Nat) (D : DataW Unit) (f : Int → Option Nat) (hm : w.ownsMap Try.prog 3 intR m nn D) (hT : Tab litI D f) (k : Int) (i : Nat) (hk : (Lit.int .i64 k).wf = true) (hf : f k = some i) (x : Int) : Calls Try.prog 58 #[.map (some m), .int .i64 k, .int .i64 x] w fun e w' => e = .returned (.tuple #[.int .i64 (i : Int), .int .i64 0]) ∧ w' = w := by
  have hl := look_ok (t := 69) hm hT keyI Try.underlying69 (keyI_mk hk)
  rw [hf] at hl
  simp only [Option.isSome_some, Option.getD_some] at hl
  clear hm hT hk hf
  go_enter Try.func58, Try.ntmps58
  go_wp2
  go_ret2
  exact ⟨rfl, rfl⟩
set_option maxRecDepth 20000 in
theorem foundS_any (w : World) (m nn : Nat) (D : DataW Unit) (f : List UInt8 → Option Nat) (hm : w.ownsMap Try.prog 9 intR m nn D) (hT : Tab litS D f) (k : ByteArray) (i : Nat) (hk : k.size ≤ maxLen) (hf : f (kyB k) = some i) (x : Int) : Calls Try.prog 59 #[.map (some m), .string k, .int .i64 x] w fun e w' => e = .returned (.tuple #[.int .i64 (i : Int), .int .i64 0]) ∧ w' = w := by
  have hl := look_ok (t := 70) hm hT keyS Try.underlying70 (keyS_mk hk)
  rw [hf] at hl
  simp only [Option.isSome_some, Option.getD_some] at hl
  clear hm hT hk hf
  go_enter Try.func59, Try.ntmps59
  go_wp2
  go_ret2
  exact ⟨rfl, rfl⟩
set_option maxRecDepth 20000 in
theorem byOwner_any (w : World) (pb q : Nat) (F : List Nat) (nn : Nat) (S : Ps) (hK : Ok w pb q F nn S) (i : Nat) (o : Ob) (hi : S.R[i]? = some o) (ho : 0 ≤ o.ow) : Calls Try.prog 39 #[.pointer (some ⟨pb, 0, none⟩), .int .i64 o.ow] w fun e w' => e = .returned (.tuple #[.int .i64 (i : Int), .int .i64 0]) ∧ w' = w := by
  have c0 := hK.top.cell
  have hm := made_any w pb q c0
  have hfi := isFile_any w q F nn S o.ow hK.lay
  have hst := hK.good.st i o hi
  rw [show decide (fileN S o.ow) = true from decide_eq_true ⟨ho, hst.2.2⟩] at hfi
  obtain ⟨rv, mv, oa, na, room, h, rfl, hI⟩ := hK.lay
  obtain ⟨D, f, h1, h2, h3⟩ := hI.ho
  have hf := foundI_any w oa nn D f h1 h2 o.ow i (wf_ow (hK.good.ow hi)) ((h3 _ _).2 ⟨by omega, o, hi, rfl⟩) 132
  obtain ⟨-, -, c2, -⟩ := hI.cells
  clear hI h1 h2 h3 hst hi hK
  go_enter Try.func39, Try.ntmps39
  go_wp2_with (first
    | (go_at_call 26; refine hm.mono ?_; rintro e w2 ⟨rfl, e2⟩; obtain rfl := e2.symm)
    | (go_at_call 32; refine hfi.mono ?_; rintro e w2 ⟨rfl, e2⟩; obtain rfl := e2.symm)
    | (go_at_call 58; refine hf.mono ?_; rintro e w2 ⟨rfl, e2⟩; obtain rfl := e2.symm))
  go_ret2
  exact ⟨rfl, rfl⟩
set_option maxRecDepth 20000 in
theorem byName_any (w : World) (pb q : Nat) (F : List Nat) (nn : Nat) (S : Ps) (hK : Ok w pb q F nn S) (i : Nat) (o : Ob) (hi : S.R[i]? = some o) (ho : o.nm.size ≠ 0) : Calls Try.prog 40 #[.pointer (some ⟨pb, 0, none⟩), .string o.nm] w fun e w' => e = .returned (.tuple #[.int .i64 (i : Int), .int .i64 0]) ∧ w' = w := by
  have c0 := hK.top.cell
  have hm := made_any w pb q c0
  obtain ⟨rv, mv, oa, na, room, h, rfl, hI⟩ := hK.lay
  obtain ⟨D, f, h1, h2, h3⟩ := hI.hn
  have hf := foundS_any w na nn D f h1 h2 o.nm i (by have := (hK.good.nm hi).1; unfold maxLen; omega) ((h3 _ _).2 ⟨fun e => ho (kyB_nil.1 e), o, hi, rfl⟩) 131
  obtain ⟨-, -, -, c3, -⟩ := hI.cells
  clear hI h1 h2 h3 hi hK ho
  go_enter Try.func40, Try.ntmps40
  go_wp2_with (first
    | (go_at_call 26; refine hm.mono ?_; rintro e w2 ⟨rfl, e2⟩; obtain rfl := e2.symm)
    | (go_at_call 59; refine hf.mono ?_; rintro e w2 ⟨rfl, e2⟩; obtain rfl := e2.symm))
  go_ret2
  exact ⟨rfl, rfl⟩
end Go.Proofs.Ythmjjpaengackaa.Po
