import Derived.Test.YthmjjpaengackaaPhB
namespace Go.Proofs.Ythmjjpaengackaa.Po
open Go.RowKit Go.Lib Go.Deep

theorem zQ_back (Q : List Nat) : (zQ Q).map Int.toNat = Q := by
  unfold zQ
  rw [List.map_map]
  conv => rhs; rw [← List.map_id Q]
  apply List.map_congr_left
  intro a _
  simp
theorem sk_row {f : Nat} {R : List Ob} {k j : Nat} {x : Ob} (h : (SK f R k).R[j]? = some x) : (j < k ∧ R[j]? = some x) ∨ x = dOb := by
  unfold SK at h
  change (R.take k ++ List.replicate (R.length - k) dOb)[j]? = some x at h
  by_cases hj : j < (R.take k).length
  · rw [List.getElem?_append_left hj, List.getElem?_take] at h
    split at h
    · rename_i hlt
      exact .inl ⟨hlt, h⟩
    · cases h
  · rw [List.getElem?_append_right (by omega), List.getElem?_replicate] at h
    split at h
    · exact .inr (Option.some.inj h).symm
    · cases h
theorem good_rows {S : Ps} (hG : Good S) (k : Nat) (o : Ob) (h : S.R[k]? = some o) : mayS (SK S.fl S.R k) k o := by
  have hst := hG.st k o h
  refine ⟨?_, hst.1, ?_⟩
  · by_cases h1 : o.ow = -1
    · exact .inl h1
    · refine .inr ⟨⟨by omega, hst.2.2⟩, ?_⟩
      unfold heldL
      rw [List.any_eq_false]
      intro x hx e
      obtain ⟨j, hj⟩ := List.mem_iff_getElem?.1 hx
      have e := of_decide_eq_true e
      rcases sk_row hj with ⟨h2, h3⟩ | rfl
      · have := hG.ou j k x o h3 h e (by rw [e]; exact h1)
        omega
      · exact h1 e.symm
  · unfold otherL
    by_cases h1 : o.nm.size = 0
    · simp [h1]
    · rw [decide_eq_true h1, Bool.true_and, List.any_eq_false]
      intro j _ e
      rw [Bool.and_eq_true] at e
      obtain ⟨e1, e2⟩ := e
      cases hj : (SK S.fl S.R k).R[j]? with
      | none => rw [hj] at e2; cases e2
      | some x =>
        rw [hj] at e2
        have e2 := of_decide_eq_true e2
        rcases sk_row hj with ⟨h2, h3⟩ | rfl
        · have := hG.nu j k x o h3 h e2 (by rw [e2]; exact h1)
          omega
        · exact h1 (by rw [← e2]; rfl)
theorem good_queue {S : Ps} (hG : Good S) (k : Nat) (z : Int) (h : (zQ S.Q)[k]? = some z) : rowN (SQ S.fl S.R (zQ S.Q) k) z ∧ outL (SQ S.fl S.R (zQ S.Q) k) z = true := by
  obtain ⟨n, hn, rfl⟩ := zQ_get h
  obtain ⟨o, h1, h2⟩ := hG.qd n (List.mem_of_getElem? hn)
  have hl := some_lt h1
  refine ⟨⟨by omega, by show (n : Int) < (S.R.length : Int); omega⟩, out_iff.2 ⟨?_, ?_⟩⟩
  · unfold rowAt SQ
    rw [Int.toNat_natCast, h1]
    exact h2
  · rw [Int.toNat_natCast]
    show n ∉ ((zQ S.Q).take k).map Int.toNat
    rw [List.map_take, zQ_back]
    intro hm
    obtain ⟨i, hi⟩ := List.mem_iff_getElem?.1 hm
    rw [List.getElem?_take] at hi
    split at hi
    · rename_i hlt
      have := (List.getElem?_inj (some_lt hi) hG.qn).1 (hi.trans hn.symm)
      omega
    · cases hi
theorem fits_iff {S : Ps} (hG : Good S) : Fits S.fl S.R (zQ S.Q) ↔ S.Q.length + cntO S.R = S.R.length :=
  ⟨fun h => by have := h.all; rw [zQ_len] at this; exact this, fun h => ⟨good_rows hG, good_queue hG, by rw [zQ_len]; exact h⟩⟩
/-! how many are dummies -/
def dmL (R : List Ob) (k : Nat) : Nat := ((R.take k).filter fun o => decide (o.ow = -1)).length
theorem dm_succ {R : List Ob} {k : Nat} {o : Ob} (h : R[k]? = some o) : dmL R (k + 1) = dmL R k + if o.ow = -1 then 1 else 0 := by
  unfold dmL
  rw [List.take_add_one, h]
  simp only [Option.toList_some, List.filter_append, List.length_append]
  congr 1
  by_cases e : o.ow = -1
  · simp [e]
  · simp [e]
theorem dm_all (R : List Ob) : dmL R R.length + cntO R = R.length := by
  unfold dmL cntO
  rw [List.take_length]
  induction R with
  | nil => rfl
  | cons o R ih =>
    by_cases e : o.ow = -1
    · simp [e] at ih ⊢
      omega
    · simp [e] at ih ⊢
      omega
theorem cnt_le {S : Ps} (hG : Good S) : cntO S.R ≤ S.fl := by
  have h1 := own_nodup S.R hG.ou
  have h2 : (((S.R.filter fun o => decide (o.ow ≠ -1)).map Ob.ow).map Int.toNat).length ≤ S.fl := by
    refine nodup_len _ _ ?_ ?_
    · refine List.pairwise_map.2 (h1.imp_of_mem fun {a b} ha hb hne e => hne ?_)
      obtain ⟨o, ho, rfl⟩ := List.mem_map.1 ha
      obtain ⟨o', ho', rfl⟩ := List.mem_map.1 hb
      obtain ⟨p1, p2⟩ := List.mem_filter.1 ho
      obtain ⟨p3, p4⟩ := List.mem_filter.1 ho'
      obtain ⟨i, hi⟩ := List.mem_iff_getElem?.1 p1
      obtain ⟨j, hj⟩ := List.mem_iff_getElem?.1 p3
      have q1 := (hG.st i o hi).2
      have q2 := (hG.st j o' hj).2
      have r1 := of_decide_eq_true p2
      have r2 := of_decide_eq_true p4
      omega
    · intro x hx
      obtain ⟨a, ha, rfl⟩ := List.mem_map.1 hx
      obtain ⟨o, ho, rfl⟩ := List.mem_map.1 ha
      obtain ⟨p1, p2⟩ := List.mem_filter.1 ho
      obtain ⟨i, hi⟩ := List.mem_iff_getElem?.1 p1
      have q1 := (hG.st i o hi).2
      have r1 := of_decide_eq_true p2
      omega
  simp only [List.length_map] at h2
  exact h2
theorem see_row {w : World} {B sz n e : Nat} {v : Value} {xs : List Value} (h : w.ownsRow B e sz v n xs) (h1 : ∀ u ∈ xs, u.oneCell' = true) : See w sz v n xs := by
  refine ⟨h.1, h1, ?_⟩
  rcases h.2 with ⟨q1, q2⟩ | ⟨g, cap, cur, q1, q2, q3, q4, q5, q6, q7⟩
  · exact ⟨none, 0, by rw [q2]; exact q1, by omega, fun _ => rfl, fun h => by omega⟩
  · refine ⟨_, cap, q1, q4, fun e => (by cases e), fun _ => ⟨g, 0, rfl, heap_lt q3, fun j u hu => ?_⟩⟩
    rw [← q7, List.getElem?_take] at hu
    split at hu
    · rw [Array.getElem?_toList] at hu
      rw [Nat.zero_add, cell_of_heap q3]
      exact hu
    · cases hu
/-- what State answers, as data -/
theorem sd_state {w' : World} {S : Ps} {ov qv : Value} {B : Nat} (h1 : w'.ownsRow B 35 4 ov S.R.length (obsC S.R)) (h2 : w'.ownsRow B 3 1 qv S.Q.length (nsC S.Q)) : Sd w' (.agg #[ov, qv]) S.R (zQ S.Q) := by
  refine ⟨ov, qv, rfl, see_row h1 (obsC_one _), ?_⟩
  rw [zQ_len]
  have e : nsC S.Q = zsC (zQ S.Q) := nsC_zs _
  rw [← e]
  exact see_row h2 (nsC_one _)
end Go.Proofs.Ythmjjpaengackaa.Po
