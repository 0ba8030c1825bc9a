import Derived.Test.YtdgokfehgjkalaaWdF
namespace Go.Proofs.Ytdgokfehgjkalaa.Wd
open Go.RowKit Go.Lib Go.Deep

/-- what is kept where the own block, the plans and one row have turned -/
theorem keeps {w W : World} {q pl e sz n : Nat} {v : Value} {xs : List Value} {ca : Array Value} (hq : w.heap[q]? = some (.cells ca 76 (0, 0))) (hp : ∃ es cl, w.heap[pl]? = some (.map es cl)) (hv : w.ownsRow 0 e sz v n xs) (ho : Only ([q, pl] ++ v.ownBlock.toList) w W) :
    (∀ (k : Nat) (cur : Array Value) (e' : TypeId), w.heap[k]? = some (.cells cur e' (0, 0)) → e' ≠ 76 → e' ≠ e → W.heap[k]? = w.heap[k]?) ∧ ∀ (k : Nat) (es : Array MapEntry) (cl : Nat), w.heap[k]? = some (.map es cl) → k ≠ pl → W.heap[k]? = w.heap[k]? := by
  refine ⟨fun k cur e' hk h1 h2 => ho.block k (heap_lt hk) ?_, fun k es cl hk h1 => ho.block k (Array.getElem?_eq_some_iff.1 hk).1 ?_⟩
  · simp only [List.cons_append, List.nil_append, List.mem_cons, Option.mem_toList]
    rintro (rfl | rfl | h)
    · rw [hq] at hk; injection hk with hk; injection hk with _ hk _; exact h1 hk.symm
    · obtain ⟨es, cl, hp⟩ := hp; rw [hp] at hk; cases hk
    · obtain ⟨c, hc⟩ := owns_block hv h; rw [hc] at hk; injection hk with hk; injection hk with _ hk _; exact h2 hk.symm
  · simp only [List.cons_append, List.nil_append, List.mem_cons, Option.mem_toList]
    rintro (rfl | rfl | h)
    · rw [hq] at hk; cases hk
    · exact h1 rfl
    · obtain ⟨c, hc⟩ := owns_block hv h; rw [hc] at hk; cases hk
theorem row_keep {w W : World} {e e2 sz n : Nat} {v : Value} {xs : List Value} (hk : ∀ (k : Nat) (cur : Array Value) (e' : TypeId), w.heap[k]? = some (.cells cur e' (0, 0)) → e' ≠ 76 → e' ≠ e → W.heap[k]? = w.heap[k]?) (h : w.ownsRow 0 e2 sz v n xs) (h1 : e2 ≠ 76) (h2 : e2 ≠ e) : W.ownsRow 0 e2 sz v n xs := owns_keep h fun g hg => by
  obtain ⟨cur, hc⟩ := owns_block h hg
  exact hk g cur e2 hc h1 h2
theorem own_len {w : World} {B n size : Nat} {v : Value} {e : TypeId} {xs : List Value} (h : w.ownsRow B e size v n xs) : ∃ a cap, v = .slice a n cap := by
  rcases h.2 with ⟨h1, h2⟩ | ⟨g, cap, cur, h1, _⟩
  · exact ⟨none, 0, by rw [h2]; exact h1⟩
  · exact ⟨_, cap, h1⟩
theorem zeroPlan (w : World) : (zeroValue 112).run Try.prog w = .ok (.slice none 0 0) w := by kernel_rfl
theorem plan_look {w : World} {pl : Nat} (h : w.ownsMap Try.prog 3 noR pl 0 (.map [])) (k : Nat) (hk : k ≤ 9223372036854775807) : (Instr.lookup 74 (.map (some pl)) (.int .i64 (k : Int)) false).run Try.prog w = .ok (.slice none 0 0) w := by
  obtain ⟨v, ps, h1, h2⟩ := h.lookup (t := 74) keyLaw3 Try.underlying74 (zeroPlan w) (zd := .nil) (zp := []) rfl (Maps.keyOf_int_mk (a := (k : Int)) Try.underlying3 (WalkArith.wf_i64 (by omega)))
  rw [noR_inv h2] at h1
  exact h1
theorem plan_drop {w : World} {pl : Nat} (h : w.ownsMap Try.prog 3 noR pl 0 (.map [])) (k : Nat) (hk : k ≤ 9223372036854775807) (ty : TypeId) : ∃ w', (Builtin.delete_ #[74, 3] ty #[.map (some pl), .int .i64 (k : Int)]).run Try.prog w = .ok (.tuple #[]) w' ∧ w'.ownsMap Try.prog 3 noR pl 0 (.map []) ∧ w.grownBy w' (some pl) := by
  obtain ⟨w', h1, h2, h3⟩ := h.drop (t := 74) keyLaw3 Try.underlying74 (Maps.keyOf_int_mk (a := (k : Int)) Try.underlying3 (WalkArith.wf_i64 (by omega))) ty
  have hd : (DataW.map [] : DataW Unit).del (.int .i64 (k : Int)) = .map [] := Maps.del_of_not_has (D := .map []) rfl
  exact ⟨w', h1, by rw [hd] at h2; exact h2, h3.grown⟩
theorem row_put {w w1 W8 w7 : World} {q pl e sz n : Nat} {v v' : Value} {xs ys : List Value} {ca : Array Value} (i : Nat) (hq : w.heap[q]? = some (.cells ca 76 (0, 0))) (_hp : ∃ es cl, w.heap[pl]? = some (.map es cl)) (hv : w.ownsRow 0 e sz v n xs) (he : e ≠ 76)
    (h1 : Only [q, pl] w w1) (hq1 : w1.heap[q]? = some (.cells ca 76 (0, 0))) (h8 : Below w1.heap.size w1 W8) (hown : w7.ownsRow 0 e sz v' (n + 1) ys) (hg : W8.grownBy w7 v.ownBlock) (hl : v'.ownBlock = v.ownBlock ∨ v'.ownBlock = some W8.heap.size) :
    w7.heap[q]? = some (.cells ca 76 (0, 0)) ∧ Only ([q, pl] ++ v.ownBlock.toList) w (w7.setCell ⟨q, i, none⟩ v') ∧ (w7.setCell ⟨q, i, none⟩ v').heap[q]? = some (.cells (ca.setIfInBounds i v') 76 (0, 0)) ∧ (w7.setCell ⟨q, i, none⟩ v').ownsRow 0 e sz v' (n + 1) ys ∧ (∀ k, v'.ownBlock = some k → v.ownBlock = some k ∨ w.heap.size ≤ k) ∧
    ∀ k, k ≠ q → v.ownBlock ≠ some k → k < w1.heap.size → (w7.setCell ⟨q, i, none⟩ v').heap[k]? = w1.heap[k]? := by
  have hvq : v.ownBlock ≠ some q := fun e2 => by
    obtain ⟨c, hc⟩ := owns_block hv e2
    rw [hq] at hc
    injection hc with hc
    injection hc with _ hc _
    exact he hc.symm
  have hw1 : w.heap.size ≤ w1.heap.size := h1.size
  have h7 : w7.heap[q]? = some (.cells ca 76 (0, 0)) := (hg.block q (Nat.lt_of_lt_of_le (heap_lt hq1) h8.size) (fun e2 => hvq e2.symm)).trans ((h8.block q (heap_lt hq1)).trans hq1)
  have hk : ∀ k, k ≠ q → v.ownBlock ≠ some k → k < w1.heap.size → (w7.setCell ⟨q, i, none⟩ v').heap[k]? = w1.heap[k]? := fun k h2 h3 h4 => (heap_setCell_other _ _ _ _ h2).trans ((hg.block k (Nat.lt_of_lt_of_le h4 h8.size) (fun e2 => h3 e2.symm)).trans (h8.block k h4))
  refine ⟨h7, ⟨?_, ?_, ?_, ?_, fun k hk' hn => ?_⟩, put12 i _ h7, owns_keep hown (fun g hg' => heap_setCell_other _ _ _ _ (fun e2 => ?_)), fun k hk' => ?_, hk⟩
  · exact (hg.os.trans h8.os).trans h1.os
  · exact (hg.tape.trans h8.tape).trans h1.tape
  · exact (hg.output.trans h8.output).trans h1.output
  · rw [show (w7.setCell ⟨q, i, none⟩ v').heap.size = w7.heap.size by simp]; exact Nat.le_trans hw1 (Nat.le_trans h8.size hg.size)
  · simp only [List.cons_append, List.nil_append, List.mem_cons, Option.mem_toList, not_or] at hn
    exact (hk k hn.1 hn.2.2 (Nat.lt_of_lt_of_le hk' hw1)).trans (h1.block k hk' (by simp [hn.1, hn.2.1]))
  · subst e2
    rcases hl with h | h
    · exact hvq (h.symm.trans hg')
    · rw [hg'] at h
      have := Option.some.inj h
      have := heap_lt hq1
      have := h8.size
      omega
  · rcases hl with h | h
    · exact .inl (h.symm.trans hk')
    · rw [hk'] at h
      refine .inr ?_
      rw [Option.some.inj h]
      exact Nat.le_trans hw1 h8.size
theorem step_append_at {P : Program} {ops : Array Oper} {o : Oper} {a : Act} {w : World} {K : Act → World → Prop} {Q : Exit → Act → World → Prop} {E : Prop}
    (hg : o.guard = none) (s x : Operand) (t : TypeId) (hop : o.op = Op.call { callee := Callee.builtin Builtin.append, args := #[s, x], argTypes := #[t, t] })
    (base : Nat) (e : TypeId) (i : TypeInfo) (z : Value) (size bytes : Nat) (h1 : P.underlying t = some (.slice e)) (h2 : P.info? e = some i) (h3 : i.zero = some z) (h4 : i.size = size) (h5 : i.bytes = bytes) (h6 : z.cells.size = size) (h7 : 0 < size)
    (v : Value) (n : Nat) (xs : List Value) (hs : a.eval s = v) (hown : w.ownsRow base e size v n xs)
    (ad : Addr) (m c : Nat) (news : List Value) (hx : a.eval x = .slice (some ad) m c) (hn : news.length = m * size) (hc : ∀ j u, news[j]? = some u → w.cell? (ad.add j) = some u) (h1c : ∀ u ∈ news, u.oneCell' = true)
    (b1 : n + m ≤ maxLen) (b2 : (n + m) * bytes ≤ 140737488355328) (b3 : base ≤ w.heap.size)
    (hK : ∀ v' w', w'.ownsRow base e size v' (n + m) (xs ++ news) → w.grownBy w' v.ownBlock → (v'.ownBlock = v.ownBlock ∨ v'.ownBlock = some w.heap.size) → K (a.put o.dst v') w') :
    if Region.wanted o (yielded ops a.tmps) = true then Oper.wp P o a w K Q else E := by
  have hw : Region.wanted o (yielded ops a.tmps) = true := by simp [Region.wanted, hg]
  rw [if_pos hw]
  obtain ⟨v', w', hr, q2, q3, _, q5⟩ := run_append_own_at (P := P) w base t o.type e i z size bytes h1 h2 h3 h4 h5 h6 h7 v n xs hown ad m c news hn hc h1c b1 b2 b3
  unfold Oper.wp execOp
  simp only [hop, resolve, invoke, builtin, Sem.run_bind, Sem.run_pure, Result.andThen_ok, List.map_toArray, List.map_cons, List.map_nil, hs, hx, hr]
  exact hK v' w' q2 q3 q5
theorem infoPtr : (Try.prog.info? 67).map (fun i => (i.zero, i.size, i.bytes)) = some (some (.pointer none), 1, 8) := by kernel_rfl
theorem infoInt : (Try.prog.info? 3).map (fun i => (i.zero, i.size, i.bytes)) = some (some (.int .i64 0), 1, 8) := by kernel_rfl
theorem infoCall : (Try.prog.info? 90).map (fun i => (i.zero, i.size, i.bytes)) = some (some (.agg #[.int .i64 0, .string { data := #[] }, .string { data := #[] }, .int .i64 0, .string { data := #[] }, .slice none 0 0]), 6, 88) := by kernel_rfl
set_option maxRecDepth 10000 in
set_option maxHeartbeats 1000000 in
theorem begin_any (w : World) (q : Nat) (F : List Nat) (S : Wst) (hs : St w q F S) (hn : S.tr.length ≤ 1590000000000) (ha : S.ah.length ≤ 1590000000000) : Calls Try.prog 49 #[.pointer (some ⟨q, 0, none⟩)] w fun e w' => e = .returned (.tuple #[]) ∧ Turn F w w' q (begS S) := by
  obtain ⟨m, pl, la, tv, av, uv, D, al, nv, hF, hI⟩ := id hs
  obtain ⟨aa, ac, rfl⟩ := own_len hI.ha
  obtain ⟨ta, tc, ht⟩ := own_len hI.ht
  have hcs := hI.cells
  rw [ht] at hcs
  obtain ⟨c0, c1, -, -, -, -, -, c7, c8, -, c10, -⟩ := hcs
  have hl := plan_look hI.hp S.tr.length (by omega)
  obtain ⟨w1, hd1, hd2, hd3⟩ := plan_drop hI.hp S.tr.length (by omega) 0
  have hqp : q ≠ pl := fun e => by
    obtain ⟨es, cl, hk⟩ := map_block hI.hp
    rw [← e, hI.hq] at hk
    cases hk
  have ho1 : Only [q, pl] w w1 := ⟨hd3.os, hd3.tape, hd3.output, hd3.size, fun k hk hn => hd3.block k hk (fun e => hn (by simp [Option.some.inj e]))⟩
  have hq1 : w1.heap[q]? = some (.cells (stA m la S tv (.slice aa S.ah.length ac) uv pl) 76 (0, 0)) := (hd3.block q (heap_lt hI.hq) (by simpa using hqp)).trans hI.hq
  have x1 : w1.cell? ⟨q, 1, none⟩ = some (.pointer la) := (cell_of_heap hq1).trans rfl
  have x8 : w1.cell? ⟨q, 8, none⟩ = some (.slice aa S.ah.length ac) := (cell_of_heap hq1).trans rfl
  obtain ⟨i0, hi, hz0, hz1, hz2⟩ := info_parts infoPtr
  obtain ⟨W8, hW8⟩ : ∃ W, (w1.alloc (.cells #[.pointer la] 67)).drew = W := ⟨_, rfl⟩
  have hb8 : Below w1.heap.size w1 W8 := by rw [← hW8]; exact ((Below.refl _ _).alloc (Nat.le_refl _) _).drew
  have HO : Hid (W8.ownsRow 0 67 1 (.slice aa S.ah.length ac) S.ah.length (al.map Value.pointer)) := owns_keep hI.ha (fun g hg => by
    obtain ⟨c, hc⟩ := owns_block hI.ha hg
    have h1 : g ≠ pl := fun e => by
      obtain ⟨es, cl, hk⟩ := map_block hI.hp
      rw [← e, hc] at hk
      cases hk
    exact (hb8.block g (Nat.lt_of_lt_of_le (heap_lt hc) hd3.size)).trans (hd3.block g (heap_lt hc) (by simpa using h1)))
  have HNW : Hid (∀ j u, ([.pointer la] : List Value)[j]? = some u → W8.cell? ((⟨w1.heap.size, 0, none⟩ : Addr).add j) = some u) := fun j u hj => by rw [← hW8]; exact cells_new w1 #[.pointer la] 67 j u (by simpa using hj)
  have HP : Hid (∀ (v' : Value) (w7 : World), w7.ownsRow 0 67 1 v' (S.ah.length + 1) (al.map Value.pointer ++ [.pointer la]) → W8.grownBy w7 (Value.slice aa S.ah.length ac).ownBlock → (v'.ownBlock = (Value.slice aa S.ah.length ac).ownBlock ∨ v'.ownBlock = some W8.heap.size) →
      (w7.cell? ⟨q, 8, none⟩ = some (.slice aa S.ah.length ac) ∧ w7.frozen? ⟨q, 8, none⟩ = false) ∧ Turn F w (w7.setCell ⟨q, 8, none⟩ v') q (begS S)) := fun v' w7 hown hg hl => by
    obtain ⟨r1, r2, r3, r4, r5, r6⟩ := row_put 8 hI.hq (map_block hI.hp) hI.ha (by decide) ho1 hq1 hb8 hown hg hl
    refine ⟨⟨(cell_of_heap r1).trans rfl, frozen_of_heap r1⟩, ?_⟩
    obtain ⟨k1, k2⟩ := keeps hI.hq (map_block hI.hp) hI.ha r2
    have hch : ∀ {a : Option Addr} {f : Sto}, Chn w a f → Chn (w7.setCell ⟨q, 8, none⟩ v') a f := fun hc => hc.keep fun k cur hk => k1 k cur _ hk (by decide) (by decide)
    subst hF
    refine ⟨r2.mono (fun k hk => ?_), _, ⟨m, pl, la, tv, v', uv, D, al ++ [la], nv, rfl, ⟨?_, row_keep k1 hI.ht (by decide) (by decide), hI.hnl, fun i c v hc hv => row_keep k1 (hI.hnv i c v hc hv) (by decide) (by decide), ?_, ?_, fun i a g hia hig => ?_, row_keep k1 hI.hu (by decide) (by decide), ?_, hI.hD, ?_, hch hI.hc, hI.hle, hI.hmp⟩⟩, fun k hk => ?_⟩
    · simp only [List.cons_append, List.nil_append, List.mem_cons, Option.mem_toList] at hk
      rcases hk with rfl | rfl | h
      · exact mem_fp.2 (by simp)
      · exact mem_fp.2 (by simp)
      · exact mem_fp.2 (by simp [h])
    · rw [r3]; rfl
    · have : (begS S).ah.length = S.ah.length + 1 := by simp [begS]
      rw [this, List.map_append]
      exact r4
    · have : (begS S).ah.length = S.ah.length + 1 := by simp [begS]
      rw [this, List.length_append, hI.hal]; rfl
    · have hig' : (S.ah ++ [S.f])[i]? = some g := hig
      by_cases hi : i < S.ah.length
      · rw [List.getElem?_append_left hi] at hig'
        rw [List.getElem?_append_left (by rw [hI.hal]; exact hi)] at hia
        exact hch (hI.hch i a g hia hig')
      · have h1 := (List.getElem?_eq_some_iff.1 hig').1
        simp at h1
        obtain rfl : i = S.ah.length := by omega
        rw [List.getElem?_append_right (Nat.le_refl _)] at hig'
        rw [List.getElem?_append_right (by rw [hI.hal]; exact Nat.le_refl _), hI.hal] at hia
        simp at hia hig'
        rw [← hia, ← hig']
        exact hch hI.hc
    · obtain ⟨es, cl, hk⟩ := map_block hI.hm
      exact map_keep hI.hm (k2 m es cl hk hI.hmp)
    · refine map_keep hd2 (r6 pl (fun e => hqp e.symm) (fun e => ?_) hd2.lt)
      obtain ⟨c, hc⟩ := owns_block hI.ha e
      obtain ⟨es, cl, hk⟩ := map_block hI.hp
      rw [hc] at hk
      cases hk
    · rcases mem_fp.1 hk with h | h | h | h | h | h
      · exact .inl (mem_fp.2 (by simp [h]))
      · exact .inl (mem_fp.2 (by simp [h]))
      · exact .inl (mem_fp.2 (by simp [h]))
      · exact .inl (mem_fp.2 (by simp [h]))
      · rcases r5 k h with h | h
        · exact .inl (mem_fp.2 (.inr (.inr (.inr (.inr (.inl h))))))
        · exact .inr h
      · exact .inl (mem_fp.2 (by simp [h]))
  have y8 : W8.cell? ⟨q, 8, none⟩ = some (.slice aa S.ah.length ac) := (hb8.cell (p := ⟨q, 8, none⟩) (heap_lt hq1)).trans x8
  have y1 : W8.cell? ⟨q, 1, none⟩ = some (.pointer la) := (hb8.cell (p := ⟨q, 1, none⟩) (heap_lt hq1)).trans x1
  generalize S.tr.length = n at *
  generalize S.ah.length = na at *
  clear hI hF hs hd2 hd3 ho1 hq1 hb8 ht
  go_enter Try.func49, Try.ntmps49
  go_wp2_with fail
  refine wp_loop_rounds 1 ?_
  rw [rounds_succ]
  go_wp2_with fail
  go_region_law (first | ((try rw [hW8]); refine step_append_at rfl _ _ 72 rfl 0 67 i0 _ 1 8 Try.underlying72 hi hz0 hz1 hz2 rfl (by decide) _ _ _ rfl HO.out _ _ _ _ rfl rfl HNW.out (by simp [Value.oneCell']) (by unfold maxLen; omega) (by omega) (Nat.zero_le _) ?_; intro v' w7 hown' hgrow hloc; obtain ⟨⟨z1, z2⟩, zT⟩ := HP.out _ _ hown' hgrow hloc; have ZT : Hid _ := zT; clear zT; obtain ⟨a7, c7, rfl⟩ := own_len hown'))
  all_goals
    go_end0
    exact ⟨rfl, ZT.out⟩

end Go.Proofs.Ytdgokfehgjkalaa.Wd
