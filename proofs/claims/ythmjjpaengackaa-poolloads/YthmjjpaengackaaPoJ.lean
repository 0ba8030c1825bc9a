import Derived.Test.YthmjjpaengackaaPoI
namespace Go.Proofs.Ythmjjpaengackaa.Po
open Go.RowKit Go.Lib Go.Deep

theorem rwC_len (r : Ob × Bool) : (rwC r).length = 5 := rfl
theorem Inn.row {w : World} {q g cap : Nat} {mv : Value} {oa na : Nat} {room : List Nat} {h nn : Nat} {S : Ps} (hI : Inn w q (.slice (some ⟨g, 0, none⟩) S.R.length cap) mv oa na room h nn S) {i : Nat} {o : Ob} (hi : S.R[i]? = some o) :
    w.cell? ⟨g, i * 5, none⟩ = some (.string o.nm) ∧ w.cell? ⟨g, i * 5 + 1, none⟩ = some (.string o.tg) ∧ w.cell? ⟨g, i * 5 + 2, none⟩ = some (.int .i64 o.bk) ∧ w.cell? ⟨g, i * 5 + 3, none⟩ = some (.int .i64 o.ow) ∧ w.cell? ⟨g, i * 5 + 4, none⟩ = some (.bool (decide (i ∈ S.Q))) := by
  have hl := some_lt hi
  have hg : (rowsL S)[i]? = some (o, decide (i ∈ S.Q)) := by rw [rowsL_get, hi]; rfl
  have hc := fun j (hj : j < 5) => (hI.hr.cellAt (i * 5 + j) (by omega)).trans (flat_get rwC 5 rwC_len (rowsL S) i _ hg j hj)
  exact ⟨hc 0 (by omega), hc 1 (by omega), hc 2 (by omega), hc 3 (by omega), hc 4 (by omega)⟩
theorem Inn.form {w : World} {q : Nat} {rv mv : Value} {oa na : Nat} {room : List Nat} {h nn : Nat} {S : Ps} (hI : Inn w q rv mv oa na room h nn S) {i : Nat} {o : Ob} (hi : S.R[i]? = some o) : ∃ g cap, rv = .slice (some ⟨g, 0, none⟩) S.R.length cap := owns_form2 hI.hr (by have := some_lt hi; omega)
/-- a state whose ring and flags have turned -/
theorem Inn.to {w w' : World} {q : Nat} {rv mv mv' : Value} {oa na : Nat} {room room' : List Nat} {h h' nn : Nat} {S : Ps} (hI : Inn w q rv mv oa na room h nn S) (S' : Ps) (e1 : S'.fl = S.fl) (e2 : S'.R = S.R)
    (hq : w'.heap[q]? = some (.cells (rngA (stA S rv oa na mv h) mv' h' S'.Q.length) 74 (0, 0))) (hr : w'.ownsRow 0 76 5 rv S.R.length (rwsC (rowsL S'))) (hm : w'.ownsRow 0 3 1 mv' room'.length (nsC room'))
    (ho : Only (q :: (rv.ownBlock.toList ++ mv.ownBlock.toList)) w w') (hb : ∀ k, mv'.ownBlock = some k → mv.ownBlock = some k ∨ w.heap.size ≤ k) (hrg : Rng room' h' S'.Q) (hml : room'.length ≤ 2 * S.R.length + 1) : Turn (fp q rv mv oa na) w w' q nn S' := by
  have hqo := hI.qo
  have hin : ∀ k, k ∈ q :: (rv.ownBlock.toList ++ mv.ownBlock.toList) → k = q ∨ rv.ownBlock = some k ∨ mv.ownBlock = some k := fun k hk => by
    simp only [List.mem_cons, List.mem_append, Option.mem_toList] at hk
    exact hk
  have hmap : ∀ k, (k = oa ∨ k = na) → w'.heap[k]? = w.heap[k]? := fun k hk => by
    refine ho.block k ?_ (fun hx => ?_)
    · rcases hk with rfl | rfl
      · exact hI.lt (mem_fp.2 (.inr (.inl rfl)))
      · exact hI.lt (mem_fp.2 (.inr (.inr (.inl rfl))))
    · rcases hin k hx with rfl | hx | hx
      · rcases hk with h1 | h1
        · exact hqo.1 h1.symm
        · exact hqo.2.1 h1.symm
      · rcases hk with rfl | rfl
        · exact (hI.qr hx).2.1 rfl
        · exact (hI.qr hx).2.2.1 rfl
      · rcases hk with rfl | rfl
        · exact (hI.qm hx).2.1 rfl
        · exact (hI.qm hx).2.2.1 rfl
  refine ⟨ho.mono fun k hk => ?_, _, ⟨rv, mv', oa, na, room', h', rfl, ?_, ?_, hm, ?_, ?_, hI.ne, hrg, ?_, ?_⟩, fun k hk => ?_⟩
  · rcases hin k hk with h1 | h1 | h1
    · exact mem_fp.2 (.inl h1)
    · exact mem_fp.2 (.inr (.inr (.inr (.inl h1))))
    · exact mem_fp.2 (.inr (.inr (.inr (.inr h1))))
  · rw [hq]
    unfold stA
    rw [e1]
    rfl
  · rw [e2]; exact hr
  · obtain ⟨D, f, h1, h2, h3⟩ := hI.ho
    rw [e2]
    exact ⟨D, f, map_keep h1 (hmap _ (.inl rfl)), h2, h3⟩
  · obtain ⟨D, f, h1, h2, h3⟩ := hI.hn
    rw [e2]
    exact ⟨D, f, map_keep h1 (hmap _ (.inr rfl)), h2, h3⟩
  · rw [e2]; exact hml
  · rw [e1, e2]; exact hI.lim
  · rcases mem_fp.1 hk with h1 | h1 | h1 | h1 | h1
    · exact .inl (mem_fp.2 (.inl h1))
    · exact .inl (mem_fp.2 (.inr (.inl h1)))
    · exact .inl (mem_fp.2 (.inr (.inr (.inl h1))))
    · exact .inl (mem_fp.2 (.inr (.inr (.inr (.inl h1)))))
    · rcases hb k h1 with h2 | h2
      · exact .inl (mem_fp.2 (.inr (.inr (.inr (.inr h2)))))
      · exact .inr h2
theorem Inn.rin {w : World} {q : Nat} {rv mv : Value} {oa na : Nat} {room : List Nat} {h nn : Nat} {S : Ps} (hI : Inn w q rv mv oa na room h nn S) : Rin w q (stA S rv oa na mv h) mv room h S.Q := ⟨hI.hq, rfl, rfl, rfl, rfl, hI.hm⟩
theorem Inn.rl {w : World} {q : Nat} {rv mv : Value} {oa na : Nat} {room : List Nat} {h nn : Nat} {S : Ps} (hI : Inn w q rv mv oa na room h nn S) : room.length ≤ 200000 := by have := hI.ml; have := hI.lim; omega
theorem dec_snoc (Q : List Nat) (i : Nat) (j : Nat) : decide (j ∈ Q ++ [i]) = if j = i then true else decide (j ∈ Q) := by
  by_cases e : j = i
  · simp [e]
  · simp [e]
/-- a flag laid -/
theorem flag_laid {g cap : Nat} {S : Ps} {i : Nat} {o : Ob} (hi : S.R[i]? = some o) (b : Bool) {W : World} (hW : W.ownsRow 0 76 5 (.slice (some ⟨g, 0, none⟩) S.R.length cap) S.R.length (rwsC (rowsL S))) :
    (W.setCell ⟨g, i * 5 + 4, none⟩ (.bool b)).ownsRow 0 76 5 (.slice (some ⟨g, 0, none⟩) S.R.length cap) S.R.length (rwsC ((rowsL S).set i (o, b))) ∧ W.grownBy (W.setCell ⟨g, i * 5 + 4, none⟩ (.bool b)) (some g) := by
  have hg : (rowsL S)[i]? = some (o, decide (i ∈ S.Q)) := by rw [rowsL_get, hi]; rfl
  have h1 := hW.stored (i * 5 + 4) (.bool b)
  have e := flat_set rwC 5 rwC_len (rowsL S) i _ (o, b) hg 4 (.bool b) (by omega) rfl
  unfold rwsC at h1
  rw [e] at h1
  exact h1
set_option maxRecDepth 20000 in
set_option maxHeartbeats 1000000 in
theorem spush_any (w : World) (q : Nat) (F : List Nat) (nn : Nat) (S : Ps) (i : Nat) (o : Ob) (hL : Lay w q F nn S) (hi : S.R[i]? = some o) (hql : S.Q.length ≤ S.R.length) :
    Calls Try.prog 30 #[.pointer (some ⟨q, 0, none⟩), .int .i64 (i : Int)] w fun e w' => e = .returned (.tuple #[]) ∧ Turn F w w' q nn (pushP S i) := by
  obtain ⟨rv, mv, oa, na, room, h, rfl, hI⟩ := hL
  obtain ⟨g, cap, rfl⟩ := hI.form hi
  obtain ⟨hgq, hgo, hgn, hgm⟩ := hI.qr (g := g) rfl
  have hfl := flag_laid hi true hI.hr
  have hR1 : Rin (w.setCell ⟨g, i * 5 + 4, none⟩ (.bool true)) q (stA S (.slice (some ⟨g, 0, none⟩) S.R.length cap) oa na mv h) mv room h S.Q := by
    have hx := hI.rin
    refine ⟨(heap_setCell_other _ _ _ _ (fun e => hgq e.symm)).trans hx.hq, hx.sz, hx.c4, hx.c5, hx.c6, owns_keep hx.hm fun k hk => heap_setCell_other _ _ _ _ (fun e => hgm ?_)⟩
    have e : k = g := e
    rw [← e]; exact hk
  have hru := rpush_any _ q h i _ mv room S.Q hR1 hI.rg hI.rl
  have HE : Hid (∀ w' mv' room' h', Rto (w.setCell ⟨g, i * 5 + 4, none⟩ (.bool true)) w' q (stA S (.slice (some ⟨g, 0, none⟩) S.R.length cap) oa na mv h) mv' room' h' (S.Q ++ [i]) mv → Rng room' h' (S.Q ++ [i]) → room'.length ≤ max room.length (2 * S.Q.length + 1) → Turn (fp q (.slice (some ⟨g, 0, none⟩) S.R.length cap) mv oa na) w w' q nn (pushP S i)) := fun w' mv' room' h' hT hr' hl' => by
    refine hI.to (pushP S i) rfl rfl hT.hq ?_ hT.hm ?_ (fun k hk => ?_) hr' (by have := hI.ml; omega)
    · have hx := hfl.1
      rw [← rowsL_q S (S.Q ++ [i]) i true (dec_snoc S.Q i) hi] at hx
      refine owns_keep hx fun k hk => hT.ho.block k ?_ (fun hm => ?_)
      · exact (hx.lt k hk).2
      · simp [Value.ownBlock] at hk
        subst hk
        simp only [List.mem_cons, Option.mem_toList] at hm
        rcases hm with h1 | h1
        · exact hgq h1
        · exact hgm h1
    · refine Only.trans (b := w.setCell ⟨g, i * 5 + 4, none⟩ (.bool true)) (only_grown (Only.refl _ _) hfl.2 fun k hk => .inl ?_) (hT.ho.mono fun k hk => ?_)
      · injection hk with hk
        subst hk
        simp [Value.ownBlock]
      · simp only [List.mem_cons, List.mem_append, Option.mem_toList] at hk ⊢
        rcases hk with h1 | h1
        · exact .inl h1
        · exact .inr (.inr h1)
    · rcases hT.hb k hk with h1 | h1
      · exact .inl h1
      · right
        have := hfl.2.size
        simp at h1
        omega
  obtain ⟨-, c1, -⟩ := hI.cells
  obtain ⟨-, -, -, -, r4⟩ := hI.row hi
  have f4 := hI.hr.frozenAt (i * 5 + 4)
  have hlt : (i : Int) < (S.R.length : Int) := by have := some_lt hi; omega
  generalize hN : S.R.length = N at *
  generalize fp q (.slice (some ⟨g, 0, none⟩) N cap) mv oa na = F at *
  clear hI hfl hR1 hgo hgn hgm
  go_enter Try.func30, Try.ntmps30
  go_wp2_with fail
  refine hru.mono ?_
  rintro e w' ⟨rfl, mv', room', h', hT, hr', hl'⟩
  have HT : Hid _ := HE.out w' mv' room' h' hT hr' hl'
  clear hT hr' hl'
  go_wp2
  go_end0
  exact ⟨rfl, HT.out⟩
end Go.Proofs.Ythmjjpaengackaa.Po
