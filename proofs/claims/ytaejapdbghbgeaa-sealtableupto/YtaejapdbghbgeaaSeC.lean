import Derived.Test.YtaejapdbghbgeaaSeB
import Derived.Deep.RegionHeldLaw
import Derived.Maps.AppendAt
namespace Go.Proofs.Ytaejapdbghbgeaa.Se
open Go.RowKit Go.Lib Go.Deep

/-- an ideal sealer at block pb, whose table has these rows; F: the blocks that a seal may turn -/
structure Idl (w : World) (pb : Nat) (F : List Nat) (R : List Row) : Prop where
  ex : ∃ q m v D, F = [q, m] ++ v.ownBlock.toList ∧ w.heap[pb]? = some (.cells #[.int .i64 40, .int .i64 1, .pointer (some ⟨q, 0, none⟩)] 63 (0, 0)) ∧ w.heap[q]? = some (.cells #[v, .map (some m)] 72 (0, 0)) ∧
    w.ownsRow 0 65 4 v R.length (rowCells R) ∧ w.ownsMap Try.prog 9 (plainElem Try.prog 3) m R.length D ∧ Tab D R

theorem owns_keep {W W' : World} {B e n size : Nat} {v : Value} {xs : List Value} (h : W.ownsRow B e size v n xs) (hk : ∀ g, v.ownBlock = some g → W'.heap[g]? = W.heap[g]?) : W'.ownsRow B e size v n xs := by
  obtain ⟨q0, q⟩ := h
  refine ⟨q0, ?_⟩
  rcases q with q | ⟨g1, cap1, cur1, q1, q2, q3, q4⟩
  · exact .inl q
  · exact .inr ⟨g1, cap1, cur1, q1, q2, (hk g1 (by rw [q1]; rfl)).trans q3, q4⟩
theorem map_keep {W W' : World} {P : Program} {k : TypeId} {R : Value → Option (DataW Unit × List MemPlace)} {b n : Nat} {D : DataW Unit} (h : W.ownsMap P k R b n D) (hk : W'.heap[b]? = W.heap[b]?) : W'.ownsMap P k R b n D := by
  obtain ⟨es, clock, h1, h2⟩ := h
  exact ⟨es, clock, hk.trans h1, h2⟩
theorem Idl.keep {w w' : World} {pb : Nat} {F : List Nat} {R : List Row} (h : Idl w pb F R) (hk : ∀ k, k ∈ pb :: F → w'.heap[k]? = w.heap[k]?) : Idl w' pb F R := by
  obtain ⟨q, m, v, D, hF, h1, h2, h3, h4, h5⟩ := h.ex
  subst hF
  refine ⟨q, m, v, D, rfl, (hk pb (by simp)).trans h1, (hk q (by simp)).trans h2, owns_keep h3 (fun g hg => hk g (by simp [hg])), map_keep h4 (hk m (by simp)), h5⟩
theorem Idl.lt {w : World} {pb : Nat} {F : List Nat} {R : List Row} (h : Idl w pb F R) : ∀ k, k ∈ pb :: F → k < w.heap.size := by
  obtain ⟨q, m, v, D, hF, h1, h2, h3, h4, h5⟩ := h.ex
  subst hF
  intro k hk
  simp at hk
  rcases hk with rfl | rfl | rfl | hk
  · exact heap_lt h1
  · exact heap_lt h2
  · exact h4.lt
  · exact (World.ownsRow.lt h3 k hk).2
theorem Idl.below {w w' : World} {pb : Nat} {F : List Nat} {R : List Row} (h : Idl w pb F R) (hb : Below w.heap.size w w') : Idl w' pb F R := h.keep (fun k hk => hb.block k (h.lt k hk))

theorem there_any (w : World) (pb : Nat) (F : List Nat) (R : List Row) (h : Idl w pb F R) : Calls Try.prog 23 #[.pointer (some ⟨pb, 0, none⟩)] w fun e w' => e = .returned (.bool true) ∧ Below w.heap.size w w' := by
  obtain ⟨q, m, v, D, hF, h1, h2, h3, h4, h5⟩ := h.ex
  have hm := fun W => made_any W
  unfold idV at hm
  have c0 : w.cell? ⟨pb, 0, none⟩ = some (.int .i64 40) := (cell_of_heap h1).trans rfl
  have c1 : w.cell? ⟨pb, 1, none⟩ = some (.int .i64 1) := (cell_of_heap h1).trans rfl
  clear h1 h2 h3 h4 h5 h hF
  go_enter Try.func23, Try.ntmps23
  go_wp2_with fail
  refine (hm _).mono ?_
  rintro e w2 ⟨rfl, hb⟩
  go_wp2
  go_ret
  exact ⟨rfl, hb⟩

theorem bdN (w : World) (n : Nat) : Below w.heap.size w (w.drewN n) := ⟨rfl, rfl, rfl, Nat.le_refl _, fun _ _ => rfl⟩
theorem zero3 (w : World) : (zeroValue 3).run Try.prog w = .ok (.int .i64 0) w := by kernel_rfl
theorem keyLaw : Maps.Keyed Try.prog 9 := Maps.string_keyed Try.underlying9
/-- what a look-up tells, in whatever world -/
theorem look_any {w : World} {m n : Nat} {D : DataW Unit} (h : w.ownsMap Try.prog 9 (plainElem Try.prog 3) m n D) (t : ByteArray) (ht : t.size ≤ maxLen) : ∃ i : Int, D.atKey (.string t.data.toList) (.lit (.int .i64 0)) = .lit (.int .i64 i) ∧
    ∀ W, Below w.heap.size w W → (Instr.lookup 70 (.map (some m)) (.string t) true).run Try.prog W = .ok (.tuple #[.int .i64 i, .bool (Maps.has D (.string t.data.toList))]) W := by
  have hz : plainElem (H := Unit) Try.prog 3 (.int .i64 0) = some (.lit (.int .i64 0), []) := plainElem_int Try.underlying3 (by decide)
  have at_ : ∀ W, W.ownsMap Try.prog 9 (plainElem Try.prog 3) m n D → ∃ i : Int, D.atKey (.string t.data.toList) (.lit (.int .i64 0)) = .lit (.int .i64 i) ∧ (Instr.lookup 70 (.map (some m)) (.string t) true).run Try.prog W = .ok (.tuple #[.int .i64 i, .bool (Maps.has D (.string t.data.toList))]) W := fun W hW => by
    obtain ⟨v, ps, h1, h2⟩ := hW.look_ok (t := 70) keyLaw Try.underlying70 (zero3 W) hz (WideMaps.keyOf_string_mk Try.underlying9 ht)
    obtain ⟨c, rfl, h3, _⟩ := plainElem_int_inv Try.underlying3 h2
    simp only [Prod.mk.injEq] at h3
    exact ⟨c, h3.1, h1⟩
  obtain ⟨i, h1, h2⟩ := at_ w h
  refine ⟨i, h1, fun W hb => ?_⟩
  obtain ⟨i', h3, h4⟩ := at_ W (map_keep h (hb.block m h.lt))
  rw [h1] at h3
  injection h3 with h3
  injection h3 with _ h3
  rw [h3]
  exact h4
theorem tag_le (c : ByteArray) : (tagS c).size ≤ maxLen := by
  unfold tagS maxLen
  split
  · exact Nat.zero_le _
  · rw [ByteArray.size_extract]; omega

theorem gave_any (w : World) (q m : Nat) (v : Value) (D : DataW Unit) (R : List Row) (c : ByteArray) (hc : c.size ≤ 281474976710656) (h2 : w.heap[q]? = some (.cells #[v, .map (some m)] 72 (0, 0))) (h4 : w.ownsMap Try.prog 9 (plainElem Try.prog 3) m R.length D) (h5 : Tab D R) :
    Calls Try.prog 25 #[.pointer (some ⟨q, 0, none⟩), .string c] w fun e w' => e = .returned (.bool (gave R c)) ∧ Below w.heap.size w w' := by
  obtain ⟨i, hi, hl⟩ := look_any h4 (tagS c) (tag_le c)
  rw [h5.has c] at hl
  clear hi
  obtain ⟨t, ht⟩ : ∃ t, tagS c = t := ⟨_, rfl⟩
  have hm : Hid (∀ W, Below w.heap.size w W → Calls Try.prog 11 #[.string c] W fun e w' => e = .returned (.string t) ∧ Below w.heap.size w w') := fun W hb => (tag_any c W hc).mono (by
    rintro e w' ⟨rfl, hb'⟩
    exact ⟨by rw [ht], hb.trans (hb'.mono hb.size)⟩)
  rw [ht] at hl
  generalize gave R c = b at hl ⊢
  have HF : Hid (∀ W, Below w.heap.size w W → W.cell? ⟨q, 1, none⟩ = some (.map (some m)) ∧ (Instr.lookup 70 (.map (some m)) (.string t) true).run Try.prog W = .ok (.tuple #[.int .i64 i, .bool b]) W) := fun W hb => ⟨(hb.cell (p := ⟨q, 1, none⟩) (heap_lt h2)).trans ((cell_of_heap h2).trans rfl), hl W hb⟩
  clear h2 h4 h5 ht hl
  go_enter Try.func25, Try.ntmps25
  go_wp2_with fail
  go_region_held_law (fun W => W.cell? ⟨q, 1, none⟩ = some (.map (some m)) ∧ (Instr.lookup 70 (.map (some m)) (.string t) true).run Try.prog W = .ok (.tuple #[.int .i64 i, .bool b]) W) (first | exact HF.out _ (bdN _ _) | exact HF.out _ hb5 | go_keep) (first | (go_at_call 11; refine (hm.out _ (bdN _ _)).mono ?_; rintro e w5 ⟨rfl, hb5⟩))
  go_wp2
  go_ret
  exact ⟨rfl, hb5⟩

theorem infoR0 : (Try.prog.info? 65).map (fun i => (i.zero, i.size, i.bytes)) = some (some (.agg #[.int .i64 0, .string { data := #[] }, .string { data := #[] }, .string { data := #[] }]), 4, 56) := by kernel_rfl
theorem sizeR : (Try.prog.info? 65).map (·.size) = some 4 := by kernel_rfl
theorem info_R : ∃ i0, Try.prog.info? 65 = some i0 ∧ i0.zero = some (.agg #[.int .i64 0, .string { data := #[] }, .string { data := #[] }, .string { data := #[] }]) ∧ i0.size = 4 ∧ i0.bytes = 56 := by
  have h := infoR0
  cases hq : Try.prog.info? 65 with
  | none => rw [hq] at h; cases h
  | some i =>
    rw [hq] at h
    simp at h
    exact ⟨i, rfl, h.1, h.2.1, h.2.2⟩
theorem own_ne {w : World} {B n size e k : Nat} {v : Value} {xs : List Value} {o : Obj} (h : w.ownsRow B e size v n xs) (hk : w.heap[k]? = some o) (ho : ∀ cur, o ≠ .cells cur e (0, 0)) : v.ownBlock ≠ some k := fun hv => by
  rcases h.2 with ⟨q1, _⟩ | ⟨g1, cap1, cur1, q1, q2, q3, q4⟩
  · rw [q1] at hv; cases hv
  · rw [q1] at hv
    simp [Value.ownBlock] at hv
    subst hv
    rw [hk] at q3
    exact ho cur1 (Option.some.inj q3)
theorem only_below {S : List Nat} {a w w' : World} (h : Only S a w) (hb : Below w.heap.size w w') : Only S a w' := h.trans ⟨hb.os, hb.tape, hb.output, hb.size, fun k hk _ => hb.block k hk⟩
theorem only_grown {S : List Nat} {a w w' : World} {row : Option Nat} (h : Only S a w) (hg : w.grownBy w' row) (hr : ∀ k, row = some k → k ∈ S ∨ a.heap.size ≤ k) : Only S a w' :=
  ⟨hg.os.trans h.os, hg.tape.trans h.tape, hg.output.trans h.output, Nat.le_trans h.size hg.size, fun k hk hS => (hg.block k (Nat.lt_of_lt_of_le hk h.size) (fun e => by
    rcases hr k e.symm with h1 | h1
    · exact hS h1
    · omega)).trans (h.block k hk hS)⟩
theorem step_append_at {P : Program} {ops : Array Oper} {o : Oper} {a : Act} {w : World} {K : Act → World → Prop} {Q : Exit → Act → World → Prop} {E : Prop}
    (hg : o.guard = none) (s x : Operand) (t : TypeId) (hop : o.op = Op.call { callee := Callee.builtin Builtin.append, args := #[s, x], argTypes := #[t, t] })
    (base : Nat) (e : TypeId) (i : TypeInfo) (z : Value) (size bytes : Nat) (h1 : P.underlying t = some (.slice e)) (h2 : P.info? e = some i) (h3 : i.zero = some z) (h4 : i.size = size) (h5 : i.bytes = bytes) (h6 : z.cells.size = size) (h7 : 0 < size)
    (v : Value) (n : Nat) (xs : List Value) (hs : a.eval s = v) (hown : w.ownsRow base e size v n xs)
    (ad : Addr) (m c : Nat) (news : List Value) (hx : a.eval x = .slice (some ad) m c) (hn : news.length = m * size) (hc : ∀ j u, news[j]? = some u → w.cell? (ad.add j) = some u) (h1c : ∀ u ∈ news, u.oneCell' = true)
    (b1 : n + m ≤ maxLen) (b2 : (n + m) * bytes ≤ 140737488355328) (b3 : base ≤ w.heap.size)
    (hK : ∀ v' w', w'.ownsRow base e size v' (n + m) (xs ++ news) → w.grownBy w' v.ownBlock → (v'.ownBlock = v.ownBlock ∨ v'.ownBlock = some w.heap.size) → K (a.put o.dst v') w') :
    if Region.wanted o (yielded ops a.tmps) = true then Oper.wp P o a w K Q else E := by
  have hw : Region.wanted o (yielded ops a.tmps) = true := by simp [Region.wanted, hg]
  rw [if_pos hw]
  obtain ⟨v', w', hr, q2, q3, _, q5⟩ := run_append_own_at (P := P) w base t o.type e i z size bytes h1 h2 h3 h4 h5 h6 h7 v n xs hown ad m c news hn hc h1c b1 b2 b3
  unfold Oper.wp execOp
  simp only [hop, resolve, invoke, builtin, Sem.run_bind, Sem.run_pure, Result.andThen_ok, List.map_toArray, List.map_cons, List.map_nil, hs, hx, hr]
  exact hK v' w' q2 q3 q5
theorem own_len {w : World} {B n size : Nat} {v : Value} {e : TypeId} {xs : List Value} (h : w.ownsRow B e size v n xs) : ∃ a cap, v = .slice a n cap := by
  rcases h.2 with ⟨h1, h2⟩ | ⟨g, cap, cur, h1, _⟩
  · exact ⟨none, 0, by rw [h2]; exact h1⟩
  · exact ⟨_, cap, h1⟩

set_option maxRecDepth 20000 in
set_option maxHeartbeats 1000000 in
theorem note_any (w : World) (pb : Nat) (F : List Nat) (q m : Nat) (v : Value) (D : DataW Unit) (R : List Row) (r : Row) (hc : r.blob.size ≤ 281474976710656) (hn : R.length ≤ 4294967296) (hF : F = [q, m] ++ v.ownBlock.toList) (h1 : w.heap[pb]? = some (.cells #[.int .i64 40, .int .i64 1, .pointer (some ⟨q, 0, none⟩)] 63 (0, 0)))
    (h2 : w.heap[q]? = some (.cells #[v, .map (some m)] 72 (0, 0))) (h3 : w.ownsRow 0 65 4 v R.length (rowCells R)) (h4 : w.ownsMap Try.prog 9 (plainElem Try.prog 3) m R.length D) (h5 : Tab D R) (hg0 : gave R r.blob = false) :
    Calls Try.prog 27 #[.pointer (some ⟨q, 0, none⟩), .agg #[.int .i64 r.kind, .string r.name, .string r.blob, .string r.text]] w fun e w' => e = .returned (.tuple #[]) ∧ Only F w w' ∧ ∃ F', Idl w' pb F' (R ++ [r]) ∧ ∀ k, k ∈ F' → k ∈ F ∨ w.heap.size ≤ k := by
  obtain ⟨av, cv, rfl⟩ := own_len h3
  obtain ⟨t, ht⟩ : ∃ t, tagS r.blob = t := ⟨_, rfl⟩
  obtain ⟨kd, nm, bl, tx⟩ := r
  dsimp only at *
  obtain ⟨n, hn'⟩ : ∃ n, R.length = n := ⟨_, rfl⟩
  obtain ⟨W0, hW0⟩ : ∃ W, w.alloc (.cells #[.int .i64 kd, .string nm, .string bl, .string tx] 65) = W := ⟨_, rfl⟩
  have HW0 : Hid (w.alloc (.cells #[.int .i64 kd, .string nm, .string bl, .string tx] 65) = W0) := hW0
  have hb0 : Below w.heap.size w W0 := by rw [← hW0]; exact (Below.refl _ _).alloc (Nat.le_refl _) _
  have hs0 : w.heap.size < W0.heap.size := by rw [← hW0]; simp
  have hcl : W0.heap[w.heap.size]? = some (.cells #[.int .i64 kd, .string nm, .string bl, .string tx] 65 (0, 0)) := by rw [← hW0]; exact heap_new _ _
  have hm : Hid (∀ W, Below W0.heap.size W0 W → Calls Try.prog 11 #[.string bl] W fun e w' => e = .returned (.string t) ∧ Below W0.heap.size W0 w') := fun W hb => (tag_any bl W hc).mono (by
    rintro e w' ⟨rfl, hb'⟩
    exact ⟨by rw [ht], hb.trans (hb'.mono hb.size)⟩)
  have HF : Hid (∀ W, Below W0.heap.size W0 W → W.cell? ⟨q, 0, none⟩ = some (.slice av n cv) ∧ W.cell? ⟨q, 1, none⟩ = some (.map (some m)) ∧ W.cell? ⟨w.heap.size, 2, none⟩ = some (.string bl)) := fun W hb =>
    ⟨((hb0.trans (hb.mono hb0.size)).cell (p := ⟨q, 0, none⟩) (heap_lt h2)).trans ((cell_of_heap h2).trans (by rw [hn']; rfl)), ((hb0.trans (hb.mono hb0.size)).cell (p := ⟨q, 1, none⟩) (heap_lt h2)).trans ((cell_of_heap h2).trans rfl), (hb.cell (p := ⟨w.heap.size, 2, none⟩) hs0).trans ((cell_of_heap hcl).trans rfl)⟩
  have hqm : q ≠ m := fun e => by
    obtain ⟨es, clock, hb, _⟩ := h4
    rw [← e, h2] at hb
    cases hb
  have hlm : m < w.heap.size := h4.lt
  have HG : Hid (∀ W W', Below W0.heap.size W0 W → W.grownBy W' (some m) → W'.cell? ⟨q, 0, none⟩ = some (.slice av n cv) ∧ W'.cell? ⟨q, 1, none⟩ = some (.map (some m)) ∧ W'.cell? ⟨w.heap.size, 2, none⟩ = some (.string bl)) := fun W W' hb hg =>
    ⟨hg.cell (HF.out W hb).1 (by simpa using hqm), hg.cell (HF.out W hb).2.1 (by simpa using hqm), hg.cell (HF.out W hb).2.2 (by simp; omega)⟩
  have HM : Hid (∀ W, Below W0.heap.size W0 W → ∃ w', (Instr.mapUpdate 70 (.map (some m)) (.string t) (.int .i64 (n : Int))).run Try.prog W = .ok () w' ∧ w'.ownsMap Try.prog 9 (plainElem Try.prog 3) m (n + 1) (D.put (.string t.data.toList) (.lit (.int .i64 (n : Int)))) ∧ W.grownBy w' (some m)) := fun W hb => by
    have h4' := map_keep h4 ((hb0.trans (hb.mono hb0.size)).block m h4.lt)
    rw [hn'] at h4'
    exact h4'.update (t := 70) keyLaw Try.underlying70 (by unfold maxLen; omega) (WideMaps.keyOf_string_mk Try.underlying9 (by rw [← ht]; exact tag_le _)) (plainElem_int Try.underlying3 (WalkArith.wf_i64 (by omega)))
  go_enter Try.func27, Try.ntmps27
  go_wp2_with fail
  go_region_held_law (fun W => W.cell? ⟨q, 0, none⟩ = some (.slice av n cv) ∧ W.cell? ⟨q, 1, none⟩ = some (.map (some m)) ∧ W.cell? ⟨w.heap.size, 2, none⟩ = some (.string bl)) (first | exact HF.out _ (bdN _ _) | exact HF.out _ hb5 | exact hS6 | go_keep) (first | (go_at_call 11; refine (hm.out _ (bdN _ _)).mono ?_; rintro e w5 ⟨rfl, hb5⟩; obtain ⟨w6, hX1, hX2, hX3⟩ := HM.out w5 hb5; have hS6 := HG.out _ _ hb5 hX3))
  have hq5 : w5.heap[q]? = some (.cells #[.slice av n cv, .map (some m)] 72 (0, 0)) := ((hb0.trans (hb5.mono hb0.size)).block q (heap_lt h2)).trans (by rw [h2, hn'])
  have hl5 : w5.heap[w.heap.size]? = some (.cells #[.int .i64 kd, .string nm, .string bl, .string tx] 65 (0, 0)) := (hb5.block _ hs0).trans hcl
  have hq6 := (hX3.block q (heap_lt hq5) (by simpa using hqm)).trans hq5
  have hl6 := (hX3.block w.heap.size (heap_lt hl5) (by simp; omega)).trans hl5
  have h36 : w6.ownsRow 0 65 4 (.slice av n cv) n (rowCells R) := by
    rw [hn'] at h3
    refine owns_keep h3 (fun g hg => ?_)
    have hgl := (World.ownsRow.lt h3 g hg).2
    have hgm : g ≠ m := fun e => by
      obtain ⟨es, clock, hb, _⟩ := h4
      rcases h3.2 with ⟨q1, _⟩ | ⟨g1, cap1, cur1, q1, q2, q3, q4⟩
      · rw [q1] at hg; cases hg
      · rw [q1] at hg
        simp [Value.ownBlock] at hg
        subst hg
        rw [e, hb] at q3
        cases q3
    exact (hX3.block g (Nat.lt_of_lt_of_le hgl (Nat.le_trans hb0.size hb5.size)) (by simpa using hgm)).trans ((hb0.trans (hb5.mono hb0.size)).block g hgl)
  have x0 : w6.cell? ⟨q, 0, none⟩ = some (.slice av n cv) := (cell_of_heap hq6).trans rfl
  have y0 : w6.cell? ⟨w.heap.size, 0, none⟩ = some (.int .i64 kd) := (cell_of_heap hl6).trans rfl
  have y1 : w6.cell? ⟨w.heap.size, 1, none⟩ = some (.string nm) := (cell_of_heap hl6).trans rfl
  have y2 : w6.cell? ⟨w.heap.size, 2, none⟩ = some (.string bl) := (cell_of_heap hl6).trans rfl
  have y3 : w6.cell? ⟨w.heap.size, 3, none⟩ = some (.string tx) := (cell_of_heap hl6).trans rfl
  obtain ⟨i0, hi, hz0, hz1, hz2⟩ := info_R
  obtain ⟨W8, hW8⟩ : ∃ W, (w6.alloc (.cells #[.int .i64 kd, .string nm, .string bl, .string tx] 65)).drew = W := ⟨_, rfl⟩
  have HO : Hid (W8.ownsRow 0 65 4 (.slice av n cv) n (rowCells R)) := by rw [← hW8]; exact owns_keep h36 (fun g hg => Below.heap_alloc w6 _ g (World.ownsRow.lt h36 g hg).2)
  have HNW : Hid (∀ j u, ([.int .i64 kd, .string nm, .string bl, .string tx] : List Value)[j]? = some u → W8.cell? ((⟨w6.heap.size, 0, none⟩ : Addr).add j) = some u) := fun j u hj => by rw [← hW8]; exact cells_new w6 #[.int .i64 kd, .string nm, .string bl, .string tx] 65 j u (by simpa using hj)
  have hgq : (Value.slice av n cv).ownBlock ≠ some q := own_ne h36 hq6 (by intro cur e; cases e)
  have HQ : Hid (∀ w7, W8.grownBy w7 (Value.slice av n cv).ownBlock → w7.cell? ⟨q, 0, none⟩ = some (.slice av n cv) ∧ w7.frozen? ⟨q, 0, none⟩ = false) := fun w7 hg => by
    have h8 : W8.heap[q]? = some (.cells #[.slice av n cv, .map (some m)] 72 (0, 0)) := by rw [← hW8]; exact (Below.heap_alloc w6 _ q (heap_lt hq6)).trans hq6
    have h7 := (hg.block q (heap_lt h8) (fun e => hgq e.symm)).trans h8
    exact ⟨(cell_of_heap h7).trans rfl, frozen_of_heap h7⟩
  have HD : Hid (∀ (w7 : World) a7 c7, w7.ownsRow 0 65 4 (.slice a7 (n + 1) c7) (n + 1) (rowCells R ++ [.int .i64 kd, .string nm, .string bl, .string tx]) → W8.grownBy w7 (Value.slice av n cv).ownBlock → ((Value.slice a7 (n + 1) c7).ownBlock = (Value.slice av n cv).ownBlock ∨ (Value.slice a7 (n + 1) c7).ownBlock = some W8.heap.size) →
      Only F w (w7.setCell ⟨q, 0, none⟩ (.slice a7 (n + 1) c7)) ∧ ∃ F', Idl (w7.setCell ⟨q, 0, none⟩ (.slice a7 (n + 1) c7)) pb F' (R ++ [⟨kd, nm, bl, tx⟩]) ∧ ∀ k, k ∈ F' → k ∈ F ∨ w.heap.size ≤ k) := fun w7 a7 c7 ho hg hl => by
    have hF' : F = [q, m] ++ (Value.slice av n cv).ownBlock.toList := by rw [hF, hn']
    have h8 : Below w6.heap.size w6 W8 := by rw [← hW8]; exact ((Below.refl _ _).alloc (Nat.le_refl _) _).drew
    have q8 : W8.heap[q]? = some (.cells #[.slice av n cv, .map (some m)] 72 (0, 0)) := (h8.block q (heap_lt hq6)).trans hq6
    have q7 := (hg.block q (heap_lt q8) (fun e => hgq e.symm)).trans q8
    have q9 := heap_setCell_same w7 q 0 _ _ (.slice a7 (n + 1) c7) q7
    have o1 : Only F w w6 := only_grown (only_below (only_below (Only.refl F w) hb0) hb5) hX3 (fun k e => .inl (by rw [hF', Option.some.inj e]; simp))
    have o2 : Only F w w7 := only_grown (only_below o1 h8) hg (fun k e => .inl (by rw [hF', e]; simp))
    have o3 : Only F w (w7.setCell ⟨q, 0, none⟩ (.slice a7 (n + 1) c7)) := o2.setCell (by rw [hF']; simp) _
    have hmv : (Value.slice av n cv).ownBlock ≠ some m := by
      obtain ⟨es, clock, hb, _⟩ := hX2
      exact own_ne h36 hb (by intro cur e; cases e)
    have hpF : pb ∉ F := by
      rw [hF']
      have e1 : pb ≠ q := fun e => by rw [e, h2] at h1; cases h1
      have e2 : pb ≠ m := fun e => by
        obtain ⟨es, clock, hb, _⟩ := h4
        rw [e, hb] at h1
        cases h1
      have e3 := own_ne h3 h1 (by intro cur e; cases e)
      rw [hn'] at e3
      simp only [List.cons_append, List.nil_append, List.mem_cons, Option.mem_toList]
      rintro (e | e | e)
      · exact e1 e
      · exact e2 e
      · exact e3 e
    have hq' : (Value.slice a7 (n + 1) c7).ownBlock ≠ some q := fun e => by
      rcases hl with h | h
      · exact hgq (h.symm.trans e)
      · rw [e] at h
        have := Option.some.inj h
        have := heap_lt q8
        omega
    have hlm6 : m < w6.heap.size := hX2.lt
    refine ⟨o3, [q, m] ++ (Value.slice a7 (n + 1) c7).ownBlock.toList, ⟨q, m, _, D.put (.string t.data.toList) (.lit (.int .i64 (n : Int))), rfl, (o3.block pb (heap_lt h1) hpF).trans h1, q9, ?_, ?_, ?_⟩, fun k hk => ?_⟩
    · have hh := owns_keep (W' := w7.setCell ⟨q, 0, none⟩ (.slice a7 (n + 1) c7)) ho (fun g hg' => heap_setCell_other _ _ _ _ (fun e => hq' (by rw [hg', e])))
      rw [rowCells_append, List.length_append, hn']
      exact hh
    · rw [List.length_append, hn']
      exact map_keep hX2 ((heap_setCell_other _ _ _ _ (fun e => hqm e.symm)).trans ((hg.block m (Nat.lt_of_lt_of_le hlm6 h8.size) (fun e => hmv e.symm)).trans (h8.block m hlm6)))
    · have := h5.snoc ⟨kd, nm, bl, tx⟩ hg0
      dsimp only at this
      rw [ht, hn'] at this
      exact this
    · simp only [List.cons_append, List.nil_append, List.mem_cons, Option.mem_toList] at hk
      rcases hk with e | e | e
      · exact .inl (by rw [hF', e]; simp)
      · exact .inl (by rw [hF', e]; simp)
      · rcases hl with h | h
        · exact .inl (by rw [hF', ← h, e]; simp)
        · rw [h] at e
          refine .inr ?_
          rw [← Option.some.inj e]
          exact Nat.le_trans o1.size h8.size
  have x8 : W8.cell? ⟨q, 0, none⟩ = some (.slice av n cv) := by rw [← hW8]; exact (cell_of_heap ((Below.heap_alloc w6 _ q (heap_lt hq6)).trans hq6)).trans rfl
  go_wp2_with fail
  go_region_law (first | ((try rw [hW8]); refine step_append_at rfl _ _ 34 rfl 0 65 i0 _ 4 56 Try.underlying34 hi hz0 hz1 hz2 rfl (by decide) _ _ _ rfl HO.out _ _ _ _ rfl rfl HNW.out (by simp [Value.oneCell']) (by unfold maxLen; omega) (by omega) (Nat.zero_le _) ?_; intro v' w7 hown' hgrow hloc; obtain ⟨z1, z2⟩ := HQ.out _ hgrow; obtain ⟨a7, c7, rfl⟩ := own_len hown'))
  all_goals
    go_end0
    obtain ⟨g1, g2⟩ := HD.out _ _ _ hown' hgrow hloc
    exact ⟨rfl, g1, g2⟩

theorem ne_toList {a b : ByteArray} (h : ¬ a = b) : (a.toList == b.toList) = false := by
  rw [beq_eq_false_iff_ne]
  intro e
  apply h
  rw [toList_data, toList_data] at e
  exact ByteArray.ext (Array.toList_inj.1 e)
theorem put4 {W : World} {g : Nat} {t : TypeId} {x0 x1 x2 x3 y0 y1 y2 y3 : Value} (h : W.heap[g]? = some (.cells #[x0, x1, x2, x3] t (0, 0))) : ((((W.setCell ⟨g, 0, none⟩ y0).setCell ⟨g, 1, none⟩ y1).setCell ⟨g, 2, none⟩ y2).setCell ⟨g, 3, none⟩ y3).heap[g]? = some (.cells #[y0, y1, y2, y3] t (0, 0)) :=
  heap_setCell_same _ _ 3 _ _ y3 (heap_setCell_same _ _ 2 _ _ y2 (heap_setCell_same _ _ 1 _ _ y1 (heap_setCell_same _ _ 0 _ _ y0 h)))
theorem below4 {B : Nat} {w W : World} {g : Nat} {y0 y1 y2 y3 : Value} (h : Below B w W) (hg : B ≤ g) : Below B w ((((W.setCell ⟨g, 0, none⟩ y0).setCell ⟨g, 1, none⟩ y1).setCell ⟨g, 2, none⟩ y2).setCell ⟨g, 3, none⟩ y3) := (((h.setCell hg _).setCell hg _).setCell hg _).setCell hg _
def zeroRow : Row := ⟨0, { data := #[] }, { data := #[] }, { data := #[] }⟩
def rowV (r : Row) : Value := .agg #[.int .i64 r.kind, .string r.name, .string r.blob, .string r.text]
def lookR (R : List Row) (c : ByteArray) : Option Row := R.find? fun r => decide (r.blob = c)
theorem lookR_none {R : List Row} {c : ByteArray} (h : gave R c = false) : lookR R c = none := by
  unfold lookR
  rw [List.find?_eq_none]
  intro r hr he
  have h2 : r.blob = c := of_decide_eq_true he
  have : gave R c = true := List.any_eq_true.2 ⟨r, hr, by rw [h2]; exact decide_eq_true rfl⟩
  rw [h] at this
  cases this
theorem Tab.look {D : DataW Unit} {R : List Row} (h : Tab D R) {i : Nat} {r : Row} (hr : R[i]? = some r) {c : ByteArray} (hb : tagS r.blob = tagS c) : lookR R c = if r.blob = c then some r else none := by
  unfold lookR
  cases hf : R.find? (fun r => decide (r.blob = c)) with
  | none =>
    have := List.find?_eq_none.1 hf r (List.mem_of_getElem? hr)
    rw [if_neg (by simpa using this)]
  | some q =>
    have h1 := List.find?_some hf
    obtain ⟨j, hj⟩ := List.mem_iff_getElem?.1 (List.mem_of_find?_eq_some hf)
    have h2 : q.blob = c := of_decide_eq_true h1
    have := h.one hr hj (by rw [h2]; exact hb)
    subst this
    rw [hr] at hj
    obtain rfl := Option.some.inj hj
    rw [if_pos h2]
theorem own_row {w : World} {v : Value} {R : List Row} (h : w.ownsRow 0 65 4 v R.length (rowCells R)) {i : Nat} {r : Row} (hr : R[i]? = some r) : ∃ g cap, v = .slice (some ⟨g, 0, none⟩) R.length cap ∧ g < w.heap.size ∧
    w.cell? ⟨g, i * 4, none⟩ = some (.int .i64 r.kind) ∧ w.cell? ⟨g, i * 4 + 1, none⟩ = some (.string r.name) ∧ w.cell? ⟨g, i * 4 + 2, none⟩ = some (.string r.blob) ∧ w.cell? ⟨g, i * 4 + 3, none⟩ = some (.string r.text) := by
  have hi := (List.getElem?_eq_some_iff.1 hr).1
  rcases h.2 with ⟨h1, h2⟩ | ⟨g, cap, cur, h1, h2, h3, h4, h5, h6, h7⟩
  · omega
  · have at_ : ∀ j u, (rowCells R)[j]? = some u → w.cell? ⟨g, j, none⟩ = some u := fun j u hu => by
      have hj := (List.getElem?_eq_some_iff.1 hu).1
      rw [rowCells_length] at hj
      rw [← h7, List.getElem?_take, if_pos hj, Array.getElem?_toList] at hu
      rw [cell_of_heap h3]
      exact hu
    obtain ⟨a, b, c, d⟩ := rows_at R i r hr
    exact ⟨g, cap, h1, heap_lt h3, at_ _ _ a, at_ _ _ b, at_ _ _ c, at_ _ _ d⟩

set_option maxRecDepth 20000 in
set_option maxHeartbeats 1000000 in
theorem row_any (w : World) (q m : Nat) (v : Value) (D : DataW Unit) (R : List Row) (c : ByteArray) (hc : c.size ≤ 281474976710656) (_hn : R.length ≤ 4294967296) (h2 : w.heap[q]? = some (.cells #[v, .map (some m)] 72 (0, 0)))
    (h3 : w.ownsRow 0 65 4 v R.length (rowCells R)) (h4 : w.ownsMap Try.prog 9 (plainElem Try.prog 3) m R.length D) (h5 : Tab D R) :
    Calls Try.prog 32 #[.pointer (some ⟨q, 0, none⟩), .string c] w fun e w' => e = .returned (.tuple #[rowV ((lookR R c).getD zeroRow), .bool (lookR R c).isSome]) ∧ Below w.heap.size w w' := by
  obtain ⟨i, hi, hl⟩ := look_any h4 (tagS c) (tag_le c)
  rw [h5.has c] at hl
  obtain ⟨t, ht⟩ : ∃ t, tagS c = t := ⟨_, rfl⟩
  obtain ⟨W0, hW0⟩ : ∃ W, w.alloc (.cells #[.int .i64 0, .string { data := #[] }, .string { data := #[] }, .string { data := #[] }] 65) = W := ⟨_, rfl⟩
  have hb0 : Below w.heap.size w W0 := by rw [← hW0]; exact (Below.refl _ _).alloc (Nat.le_refl _) _
  have hs0 : w.heap.size < W0.heap.size := by rw [← hW0]; simp
  have hcl : W0.heap[w.heap.size]? = some (.cells #[.int .i64 0, .string { data := #[] }, .string { data := #[] }, .string { data := #[] }] 65 (0, 0)) := by rw [← hW0]; exact heap_new _ _
  have hm : Hid (∀ W, Below W0.heap.size W0 W → Calls Try.prog 11 #[.string c] W fun e w' => e = .returned (.string t) ∧ Below W0.heap.size W0 w') := fun W hb => (tag_any c W hc).mono (by
    rintro e w' ⟨rfl, hb'⟩
    exact ⟨by rw [ht], hb.trans (hb'.mono hb.size)⟩)
  rw [ht] at hl
  cases hgv : gave R c with
  | false =>
    rw [lookR_none hgv]
    rw [hgv] at hl
    have HF : Hid (∀ W, Below W0.heap.size W0 W → W.cell? ⟨q, 1, none⟩ = some (.map (some m)) ∧ (Instr.lookup 70 (.map (some m)) (.string t) true).run Try.prog W = .ok (.tuple #[.int .i64 i, .bool false]) W) := fun W hb => ⟨((hb0.trans (hb.mono hb0.size)).cell (p := ⟨q, 1, none⟩) (heap_lt h2)).trans ((cell_of_heap h2).trans rfl), hl W (hb0.trans (hb.mono hb0.size))⟩
    clear h2 h3 h4 h5 ht hl hgv hi
    go_enter Try.func32, Try.ntmps32
    go_wp2_with fail
    go_region_held_law (fun W => W.cell? ⟨q, 1, none⟩ = some (.map (some m)) ∧ (Instr.lookup 70 (.map (some m)) (.string t) true).run Try.prog W = .ok (.tuple #[.int .i64 i, .bool false]) W) (first | exact HF.out _ (bdN _ _) | exact HF.out _ hb5 | go_keep) (first | (go_at_call 11; refine (hm.out _ (bdN _ _)).mono ?_; rintro e w5 ⟨rfl, hb5⟩))
    have hl5 := (hb5.block _ hs0).trans hcl
    have y0 : w5.cell? ⟨w.heap.size, 0, none⟩ = some (.int .i64 0) := (cell_of_heap hl5).trans rfl
    have y1 : w5.cell? ⟨w.heap.size, 1, none⟩ = some (.string { data := #[] }) := (cell_of_heap hl5).trans rfl
    have y2 : w5.cell? ⟨w.heap.size, 2, none⟩ = some (.string { data := #[] }) := (cell_of_heap hl5).trans rfl
    have y3 : w5.cell? ⟨w.heap.size, 3, none⟩ = some (.string { data := #[] }) := (cell_of_heap hl5).trans rfl
    have f0 : w5.frozen? ⟨w.heap.size, 0, none⟩ = false := frozen_of_heap hl5
    have f1 : w5.frozen? ⟨w.heap.size, 1, none⟩ = false := frozen_of_heap hl5
    have f2 : w5.frozen? ⟨w.heap.size, 2, none⟩ = false := frozen_of_heap hl5
    have f3 : w5.frozen? ⟨w.heap.size, 3, none⟩ = false := frozen_of_heap hl5
    have HL5 : Hid _ := hl5
    have HB5 : Hid (Below w.heap.size w w5) := hb0.trans (hb5.mono hb0.size)
    clear hl5 hb5
    go_wp2
    refine bodyPost_ret (Kr.results_cell_tmp rfl _ _ w.heap.size 65 _ (0, 0) _ rfl (put4 HL5.out) Try.underlying65 rfl sizeR) rfl ?_
    exact ⟨rfl, below4 HB5.out (Nat.le_refl _)⟩
  | true =>
    obtain ⟨k, r, hr, hrt⟩ := gave_at hgv
    have hki : i = (k : Int) := by
      have := h5.at_ k r hr (.lit (.int .i64 0))
      rw [hrt, hi] at this
      injection this with this
      injection this
    subst hki
    rw [h5.look hr hrt]
    rw [hgv] at hl
    obtain ⟨g, cap, rfl, hgl, c0, c1, c2, c3⟩ := own_row h3 hr
    have hk := (List.getElem?_eq_some_iff.1 hr).1
    obtain ⟨n, hn'⟩ : ∃ n, R.length = n := ⟨_, rfl⟩
    rw [hn'] at h2 hk
    have HF : Hid (∀ W, Below W0.heap.size W0 W → W.cell? ⟨q, 1, none⟩ = some (.map (some m)) ∧ (Instr.lookup 70 (.map (some m)) (.string t) true).run Try.prog W = .ok (.tuple #[.int .i64 (k : Int), .bool true]) W) := fun W hb => ⟨((hb0.trans (hb.mono hb0.size)).cell (p := ⟨q, 1, none⟩) (heap_lt h2)).trans ((cell_of_heap h2).trans rfl), hl W (hb0.trans (hb.mono hb0.size))⟩
    have HC : Hid (∀ W, Below W0.heap.size W0 W → W.cell? ⟨q, 0, none⟩ = some (.slice (some ⟨g, 0, none⟩) n cap) ∧ W.cell? ⟨g, k * 4, none⟩ = some (.int .i64 r.kind) ∧ W.cell? ⟨g, k * 4 + 1, none⟩ = some (.string r.name) ∧ W.cell? ⟨g, k * 4 + 2, none⟩ = some (.string r.blob) ∧ W.cell? ⟨g, k * 4 + 3, none⟩ = some (.string r.text)) := fun W hb =>
      have hbw := hb0.trans (hb.mono hb0.size)
      ⟨(hbw.cell (p := ⟨q, 0, none⟩) (heap_lt h2)).trans ((cell_of_heap h2).trans rfl), (hbw.cell (p := ⟨g, k * 4, none⟩) hgl).trans c0, (hbw.cell (p := ⟨g, k * 4 + 1, none⟩) hgl).trans c1, (hbw.cell (p := ⟨g, k * 4 + 2, none⟩) hgl).trans c2, (hbw.cell (p := ⟨g, k * 4 + 3, none⟩) hgl).trans c3⟩
    have hkI : (k : Int) < (n : Int) := by omega
    obtain ⟨kd, nm, bl, tx⟩ := r
    dsimp only at *
    clear h2 h3 h4 h5 ht hl hgv hi c0 c1 c2 c3 hr hrt
    by_cases hbc : bl = c
    · rw [if_pos hbc]
      subst hbc
      go_enter Try.func32, Try.ntmps32
      go_wp2_with fail
      go_region_held_law (fun W => W.cell? ⟨q, 1, none⟩ = some (.map (some m)) ∧ (Instr.lookup 70 (.map (some m)) (.string t) true).run Try.prog W = .ok (.tuple #[.int .i64 (k : Int), .bool true]) W) (first | exact HF.out _ (bdN _ _) | exact HF.out _ hb5 | go_keep) (first | (go_at_call 11; refine (hm.out _ (bdN _ _)).mono ?_; rintro e w5 ⟨rfl, hb5⟩))
      obtain ⟨d0, d1, d2, d3, d4⟩ := HC.out _ hb5
      have hl5 := (hb5.block _ hs0).trans hcl
      have y0 : w5.cell? ⟨w.heap.size, 0, none⟩ = some (.int .i64 0) := (cell_of_heap hl5).trans rfl
      have y1 : w5.cell? ⟨w.heap.size, 1, none⟩ = some (.string { data := #[] }) := (cell_of_heap hl5).trans rfl
      have y2 : w5.cell? ⟨w.heap.size, 2, none⟩ = some (.string { data := #[] }) := (cell_of_heap hl5).trans rfl
      have y3 : w5.cell? ⟨w.heap.size, 3, none⟩ = some (.string { data := #[] }) := (cell_of_heap hl5).trans rfl
      have f0 : w5.frozen? ⟨w.heap.size, 0, none⟩ = false := frozen_of_heap hl5
      have f1 : w5.frozen? ⟨w.heap.size, 1, none⟩ = false := frozen_of_heap hl5
      have f2 : w5.frozen? ⟨w.heap.size, 2, none⟩ = false := frozen_of_heap hl5
      have f3 : w5.frozen? ⟨w.heap.size, 3, none⟩ = false := frozen_of_heap hl5
      have HL5 : Hid _ := hl5
      have HB5 : Hid (Below w.heap.size w w5) := hb0.trans (hb5.mono hb0.size)
      clear hl5 hb5
      go_wp2
      refine bodyPost_ret (Kr.results_cell_tmp rfl _ _ w.heap.size 65 _ (0, 0) _ rfl (put4 HL5.out) Try.underlying65 rfl sizeR) rfl ?_
      exact ⟨rfl, below4 HB5.out (Nat.le_refl _)⟩
    · rw [if_neg hbc]
      have hne := ne_toList hbc
      go_enter Try.func32, Try.ntmps32
      go_wp2_with fail
      go_region_held_law (fun W => W.cell? ⟨q, 1, none⟩ = some (.map (some m)) ∧ (Instr.lookup 70 (.map (some m)) (.string t) true).run Try.prog W = .ok (.tuple #[.int .i64 (k : Int), .bool true]) W) (first | exact HF.out _ (bdN _ _) | exact HF.out _ hb5 | go_keep) (first | (go_at_call 11; refine (hm.out _ (bdN _ _)).mono ?_; rintro e w5 ⟨rfl, hb5⟩))
      obtain ⟨d0, d1, d2, d3, d4⟩ := HC.out _ hb5
      have hl5 := (hb5.block _ hs0).trans hcl
      have y0 : w5.cell? ⟨w.heap.size, 0, none⟩ = some (.int .i64 0) := (cell_of_heap hl5).trans rfl
      have y1 : w5.cell? ⟨w.heap.size, 1, none⟩ = some (.string { data := #[] }) := (cell_of_heap hl5).trans rfl
      have y2 : w5.cell? ⟨w.heap.size, 2, none⟩ = some (.string { data := #[] }) := (cell_of_heap hl5).trans rfl
      have y3 : w5.cell? ⟨w.heap.size, 3, none⟩ = some (.string { data := #[] }) := (cell_of_heap hl5).trans rfl
      have f0 : w5.frozen? ⟨w.heap.size, 0, none⟩ = false := frozen_of_heap hl5
      have f1 : w5.frozen? ⟨w.heap.size, 1, none⟩ = false := frozen_of_heap hl5
      have f2 : w5.frozen? ⟨w.heap.size, 2, none⟩ = false := frozen_of_heap hl5
      have f3 : w5.frozen? ⟨w.heap.size, 3, none⟩ = false := frozen_of_heap hl5
      have HL5 : Hid _ := hl5
      have HB5 : Hid (Below w.heap.size w w5) := hb0.trans (hb5.mono hb0.size)
      clear hl5 hb5
      go_wp2
      refine bodyPost_ret (Kr.results_cell_tmp rfl _ _ w.heap.size 65 _ (0, 0) _ rfl (put4 HL5.out) Try.underlying65 rfl sizeR) rfl ?_
      exact ⟨rfl, below4 HB5.out (Nat.le_refl _)⟩

set_option maxRecDepth 20000 in
set_option maxHeartbeats 1000000 in
theorem clones_any (w : World) (v : Value) (R : List Row) (hn : R.length ≤ 4294967296) (h3 : w.ownsRow 0 65 4 v R.length (rowCells R)) :
    Calls Try.prog 29 #[v] w fun e w' => ∃ v', e = .returned v' ∧ w'.ownsRow w.heap.size 65 4 v' R.length (rowCells R) ∧ Below w.heap.size w w' := by
  have hq : ∀ (w : World) (a : Option Addr) (n c n' c' : Nat), (binOp .eql 34 (.slice a n c) (.slice none n' c')).run Try.prog w = .ok (.bool a.isNone) w := fun w a n c n' c' => Lib.run_eql_slice_nil w _ _ a n c n' c' Try.underlying34
  rcases h3.2 with ⟨h1, h2⟩ | ⟨g, cap, cur, h1, h2, h4, h5, h6, h7, h8⟩
  · subst h1
    have hR : R = [] := List.eq_nil_of_length_eq_zero h2
    subst hR
    clear h3
    go_enter Try.func29, Try.ntmps29
    go_wp2
    go_ret
    exact ⟨_, rfl, ⟨rfl, .inl ⟨rfl, rfl⟩⟩, Below.refl _ _⟩
  · subst h1
    obtain ⟨i0, hi, hz0, hz1, hz2⟩ := info_R
    obtain ⟨W1, hW1⟩ : ∃ W, w.alloc (.cells #[] 65) = W := ⟨_, rfl⟩
    have hb1 : Below w.heap.size w W1 := by rw [← hW1]; exact (Below.refl _ _).alloc (Nat.le_refl _) _
    have HO : Hid (W1.ownsRow w.heap.size 65 4 (.slice (some ⟨w.heap.size, 0, none⟩) 0 0) 0 []) := ⟨rfl, .inr ⟨w.heap.size, 0, #[], rfl, Nat.le_refl _, by rw [← hW1]; exact heap_new _ _, Nat.le_refl _, Nat.zero_le _, rfl, rfl⟩⟩
    have HC : Hid (∀ j u, (rowCells R)[j]? = some u → W1.cell? ((⟨g, 0, none⟩ : Addr).add j) = some u) := fun j u hu => by
      have hj := (List.getElem?_eq_some_iff.1 hu).1
      rw [rowCells_length] at hj
      rw [← h8, List.getElem?_take, if_pos hj, Array.getElem?_toList] at hu
      rw [Addr.add_lit, Nat.zero_add, hb1.cell (p := ⟨g, j, none⟩) (heap_lt h4), cell_of_heap h4]
      exact hu
    have HL : Hid ((rowCells R).length = R.length * 4 ∧ ∀ u ∈ rowCells R, u.oneCell' = true) := ⟨rowCells_length R, fun u hu => by
      simp only [rowCells, List.mem_flatMap, List.mem_cons, List.not_mem_nil, or_false] at hu
      obtain ⟨r, _, rfl | rfl | rfl | rfl⟩ := hu <;> rfl⟩
    have hz : 0 + R.length ≤ maxLen ∧ (0 + R.length) * 56 ≤ 140737488355328 ∧ w.heap.size ≤ W1.heap.size := ⟨by unfold maxLen; omega, by omega, hb1.size⟩
    generalize R.length = n at *
    clear h3 h2 h4 h5 h6 h7 h8
    go_enter Try.func29, Try.ntmps29
    go_wp2_with (first | (at_builtin; (try rw [hW1]); refine wpList_append_own _ rfl _ _ 34 rfl w.heap.size 65 i0 _ 4 56 Try.underlying34 hi hz0 hz1 hz2 rfl (by decide) _ _ _ rfl HO.out _ _ _ _ rfl HL.out.1 HC.out HL.out.2 hz.1 hz.2.1 hz.2.2 ?_; intro v' w2 hown hgrow _) | go_in)
    go_ret
    refine ⟨_, rfl, ?_, hb1.trans (grown_below hgrow hz.2.2 HO.out)⟩
    rw [Nat.zero_add, List.nil_append] at hown
    exact hown
end Go.Proofs.Ytaejapdbghbgeaa.Se
