import Derived.Test.YthmjjpaengackaaPoJ
namespace Go.Proofs.Ythmjjpaengackaa.Po
open Go.RowKit Go.Lib Go.Deep

theorem dec_tail {Q : List Nat} {a : Nat} (hn : (a :: Q).Nodup) (j : Nat) : decide (j ∈ Q) = if j = a then false else decide (j ∈ a :: Q) := by
  by_cases e : j = a
  · subst e
    simp [(List.nodup_cons.1 hn).1]
  · simp [e]
set_option maxRecDepth 20000 in
theorem spop0_any (w : World) (q : Nat) (F : List Nat) (nn : Nat) (S : Ps) (hL : Lay w q F nn S) (hq : S.Q = []) :
    Calls Try.prog 31 #[.pointer (some ⟨q, 0, none⟩)] w fun e w' => e = .returned (.tuple #[.int .i64 0, .bool false]) ∧ w' = w := by
  obtain ⟨rv, mv, oa, na, room, h, rfl, hI⟩ := hL
  have hR := hI.rin
  rw [hq] at hR
  have hru := rpop0_any w q h _ mv room hR
  clear hI hR hq
  go_enter Try.func31, Try.ntmps31
  go_wp2_with (go_at_call 53; refine hru.mono ?_; rintro e w' ⟨rfl, rfl⟩)
  go_ret2
  exact ⟨rfl, rfl⟩
set_option maxRecDepth 20000 in
set_option maxHeartbeats 1000000 in
theorem spop_any (w : World) (q : Nat) (F : List Nat) (nn : Nat) (S : Ps) (a : Nat) (Q : List Nat) (o : Ob) (hL : Lay w q F nn S) (hq : S.Q = a :: Q) (hn : S.Q.Nodup) (hi : S.R[a]? = some o) :
    Calls Try.prog 31 #[.pointer (some ⟨q, 0, none⟩)] w fun e w' => e = .returned (.tuple #[.int .i64 (a : Int), .bool true]) ∧ Turn F w w' q nn (popS S) := by
  obtain ⟨rv, mv, oa, na, room, h, rfl, hI⟩ := hL
  obtain ⟨g, cap, rfl⟩ := hI.form hi
  obtain ⟨hgq, hgo, hgn, hgm⟩ := hI.qr (g := g) rfl
  have hR := hI.rin
  have hrg := hI.rg
  rw [hq] at hR hrg
  have hru := rpop_any w q h a _ mv room Q hR hrg hI.rl
  have hlt : (a : Int) < (S.R.length : Int) := by have := some_lt hi; omega
  have HX : Hid (∀ w1, Rto w w1 q (stA S (.slice (some ⟨g, 0, none⟩) S.R.length cap) oa na mv h) mv room ((h + 1) % room.length) Q mv → w1.cell? ⟨q, 1, none⟩ = some (.slice (some ⟨g, 0, none⟩) S.R.length cap) ∧ (∃ b, w1.cell? ⟨g, a * 5 + 4, none⟩ = some (.bool b)) ∧ w1.frozen? ⟨g, a * 5 + 4, none⟩ = false ∧ Turn (fp q (.slice (some ⟨g, 0, none⟩) S.R.length cap) mv oa na) w (w1.setCell ⟨g, a * 5 + 4, none⟩ (.bool false)) q nn (popS S)) := fun w1 hT => by
    have hr1 : w1.ownsRow 0 76 5 (.slice (some ⟨g, 0, none⟩) S.R.length cap) S.R.length (rwsC (rowsL S)) := owns_keep hI.hr fun k hk => hT.ho.block k (hI.hr.lt k hk).2 (fun hm => by
      simp [Value.ownBlock] at hk
      subst hk
      simp only [List.mem_cons, Option.mem_toList] at hm
      rcases hm with h1 | h1
      · exact hgq h1
      · exact hgm h1)
    have hfl := flag_laid hi false hr1
    have hg : (rowsL S)[a]? = some (o, decide (a ∈ S.Q)) := by rw [rowsL_get, hi]; rfl
    refine ⟨(cell_of_heap hT.hq).trans rfl, ⟨_, (hr1.cellAt (a * 5 + 4) (by have := some_lt hi; omega)).trans (flat_get rwC 5 rwC_len (rowsL S) a _ hg 4 (by omega))⟩, hr1.frozenAt _, ?_⟩
    have e3 : (popS S).Q = Q := by unfold popS; rw [hq]; rfl
    refine hI.to (mv' := mv) (room' := room) (h' := (h + 1) % room.length) (popS S) rfl rfl ?_ ?_ ?_ ?_ (fun k hk => .inl hk) ?_ hI.ml
    · rw [e3]
      exact (heap_setCell_other _ _ _ _ (fun e => hgq e.symm)).trans hT.hq
    · have hx := hfl.1
      have e4 : popS S = ⟨S.fl, S.R, Q⟩ := by unfold popS; rw [hq]; rfl
      rw [e4, rowsL_q S Q a false (fun j => by rw [hq]; exact dec_tail (hq ▸ hn) j) hi]
      exact hx
    · refine owns_keep hT.hm fun k hk => heap_setCell_other _ _ _ _ (fun e => ?_)
      have e : k = g := e
      rcases hT.hb k hk with h1 | h1
      · exact hgm (e ▸ h1)
      · have := (hI.hr.lt g rfl).2
        omega
    · refine only_grown (hT.ho.mono fun k hk => ?_) hfl.2 fun k hk => .inl ?_
      · simp only [List.mem_cons, List.mem_append, Option.mem_toList] at hk ⊢
        rcases hk with h1 | h1
        · exact .inl h1
        · exact .inr (.inr h1)
      · injection hk with hk
        subst hk
        simp [Value.ownBlock]
    · rw [e3]
      exact hrg.pop.2.2
  generalize hN : S.R.length = N at *
  generalize fp q (.slice (some ⟨g, 0, none⟩) N cap) mv oa na = F at *
  clear hI hR hrg hgo hgn hgm hq
  go_enter Try.func31, Try.ntmps31
  go_wp2_with fail
  refine hru.mono ?_
  rintro e w1 ⟨rfl, hT⟩
  obtain ⟨x1, ⟨b, x4⟩, xf, hTT⟩ := HX.out w1 hT
  have HT : Hid _ := hTT
  clear hT hTT HX hru
  go_wp2
  go_ret2
  exact ⟨rfl, HT.out⟩

/-! a row laid anew -/
set_option maxRecDepth 20000 in
set_option maxHeartbeats 1000000 in
theorem moveI_any (w : World) (m nn : Nat) (D : DataW Unit) (f : Int → Option Nat) (hm : w.ownsMap Try.prog 3 intR m nn D) (hT : Tab litI D f) (was next : Int) (i : Nat) (h1 : (Lit.int .i64 was).wf = true) (h2 : (Lit.int .i64 next).wf = true) (h3 : (Lit.int .i64 (i : Int)).wf = true) (hnn : nn < maxLen) :
    Calls Try.prog 67 #[.map (some m), .int .i64 was, .int .i64 next, .int .i64 (-1), .int .i64 (i : Int)] w fun e w' => e = .returned (.tuple #[]) ∧ ∃ D', w'.ownsMap Try.prog 3 intR m (nn + 1) D' ∧ Tab litI D' (fun k => if k = next ∧ next ≠ -1 then some i else if k = was then none else f k) ∧ w.grownBy w' (some m) := by
  obtain ⟨w1, hr1, hm1, hg1'⟩ := hm.drop (t := 69) keyI Try.underlying69 (keyI_mk h1) 0
  have hg1 := hg1'.grown
  have hT1 := hT.del litI_inj was
  obtain ⟨w2, hr2, hm2, hg2⟩ := World.ownsMap.update (w := w1) (t := 69) hm1 keyI Try.underlying69 hnn (keyI_mk h2) (plainElem_int Try.underlying3 h3)
  have hT2 := hT1.put litI_inj litI_key next i
  by_cases e : next = -1
  · have HE : Hid (∃ D', w1.ownsMap Try.prog 3 intR m (nn + 1) D' ∧ Tab litI D' (fun k => if k = next ∧ next ≠ -1 then some i else if k = was then none else f k) ∧ w.grownBy w1 (some m)) := by
      refine ⟨_, hm1.mono (Nat.le_succ _), ?_, hg1⟩
      have : (fun k => if k = next ∧ next ≠ -1 then some i else if k = was then none else f k) = fun k => if k = was then none else f k := by
        funext k
        rw [if_neg (fun x => x.2 e)]
      rw [this]
      exact hT1
    subst e
    clear hm hT hm1 hg1' hg1 hT1 hr2 hm2 hg2 hT2
    go_enter Try.func67, Try.ntmps67
    go_wp2
    go_end0
    exact ⟨rfl, HE.out⟩
  · have HE : Hid (∃ D', w2.ownsMap Try.prog 3 intR m (nn + 1) D' ∧ Tab litI D' (fun k => if k = next ∧ next ≠ -1 then some i else if k = was then none else f k) ∧ w.grownBy w2 (some m)) := by
      refine ⟨_, hm2, ?_, hg1.trans hg2⟩
      have : (fun k => if k = next ∧ next ≠ -1 then some i else if k = was then none else f k) = fun k => if k = next then some i else if k = was then none else f k := by
        funext k
        simp [e]
      rw [this]
      exact hT2
    have e1 : (next != -1) = true := bne_iff_ne.2 e
    clear hm hT hm1 hg1' hg1 hT1 hm2 hg2 hT2
    go_enter Try.func67, Try.ntmps67
    go_wp2
    go_end0
    exact ⟨rfl, HE.out⟩
set_option maxRecDepth 20000 in
set_option maxHeartbeats 1000000 in
theorem moveS_any (w : World) (m nn : Nat) (D : DataW Unit) (f : List UInt8 → Option Nat) (hm : w.ownsMap Try.prog 9 intR m nn D) (hT : Tab litS D f) (was next : ByteArray) (i : Nat) (h1 : was.size ≤ maxLen) (h2 : next.size ≤ maxLen) (h3 : (Lit.int .i64 (i : Int)).wf = true) (hnn : nn < maxLen) :
    Calls Try.prog 68 #[.map (some m), .string was, .string next, .string { data := #[] }, .int .i64 (i : Int)] w fun e w' => e = .returned (.tuple #[]) ∧ ∃ D', w'.ownsMap Try.prog 9 intR m (nn + 1) D' ∧ Tab litS D' (fun k => if k = kyB next ∧ kyB next ≠ [] then some i else if k = kyB was then none else f k) ∧ w.grownBy w' (some m) := by
  obtain ⟨w1, hr1, hm1, hg1'⟩ := hm.drop (t := 70) keyS Try.underlying70 (keyS_mk h1) 0
  have hg1 := hg1'.grown
  have hT1 := hT.del litS_inj (kyB was)
  obtain ⟨w2, hr2, hm2, hg2⟩ := World.ownsMap.update (w := w1) (t := 70) hm1 keyS Try.underlying70 hnn (keyS_mk h2) (plainElem_int Try.underlying3 h3)
  have hT2 := hT1.put litS_inj litS_key (kyB next) i
  by_cases e : kyB next = []
  · have HE : Hid (∃ D', w1.ownsMap Try.prog 9 intR m (nn + 1) D' ∧ Tab litS D' (fun k => if k = kyB next ∧ kyB next ≠ [] then some i else if k = kyB was then none else f k) ∧ w.grownBy w1 (some m)) := by
      refine ⟨_, hm1.mono (Nat.le_succ _), ?_, hg1⟩
      have : (fun k => if k = kyB next ∧ kyB next ≠ [] then some i else if k = kyB was then none else f k) = fun k => if k = kyB was then none else f k := by
        funext k
        rw [if_neg (fun x => x.2 e)]
      rw [this]
      exact hT1
    obtain rfl : next = { data := #[] } := ba_ext e
    clear hm hT hm1 hg1' hg1 hT1 hr2 hm2 hg2 hT2
    go_enter Try.func68, Try.ntmps68
    go_wp2
    go_end0
    exact ⟨rfl, HE.out⟩
  · have HE : Hid (∃ D', w2.ownsMap Try.prog 9 intR m (nn + 1) D' ∧ Tab litS D' (fun k => if k = kyB next ∧ kyB next ≠ [] then some i else if k = kyB was then none else f k) ∧ w.grownBy w2 (some m)) := by
      refine ⟨_, hm2, ?_, hg1.trans hg2⟩
      have : (fun k => if k = kyB next ∧ kyB next ≠ [] then some i else if k = kyB was then none else f k) = fun k => if k = kyB next then some i else if k = kyB was then none else f k := by
        funext k
        simp [e]
      rw [this]
      exact hT2
    have e1 : next.toList.isEmpty = false := by
      rw [toList_data]
      unfold kyB at e
      cases hl : next.data.toList with
      | nil => exact absurd hl e
      | cons a l => rfl
    clear hm hT hm1 hg1' hg1 hT1 hm2 hg2 hT2
    go_enter Try.func68, Try.ntmps68
    go_wp2
    go_end0
    exact ⟨rfl, HE.out⟩
end Go.Proofs.Ythmjjpaengackaa.Po
