import Derived.Test.YthmjjpaengackaaPoA
namespace Go.Proofs.Ythmjjpaengackaa.Po

def rowN (S : Ps) (i : Int) : Prop := 0 ≤ i ∧ i < (S.R.length : Int)
instance (S : Ps) (i : Int) : Decidable (rowN S i) := by unfold rowN; infer_instance
def fileN (S : Ps) (f : Int) : Prop := 0 ≤ f ∧ f < (S.fl : Int)
instance (S : Ps) (f : Int) : Decidable (fileN S f) := by unfold fileN; infer_instance
def zOb : Ob := ⟨e0, e0, 0, 0⟩
def dOb : Ob := ⟨e0, e0, 0, -1⟩
def rowAt (S : Ps) (i : Int) : Ob := (S.R[i.toNat]?).getD zOb
def outL (S : Ps) (i : Int) : Bool := decide ((rowAt S i).ow = -1) && !decide (i.toNat ∈ S.Q)
def putP (S : Ps) (i : Nat) (o : Ob) : Ps := { S with R := S.R.set i o }
def pushP (S : Ps) (i : Nat) : Ps := { S with Q := S.Q ++ [i] }
def atE (S : Ps) (i : Int) : Int := if rowN S i then 0 else 131
def popE (S : Ps) : Int := if S.Q = [] then 131 else 0
def popY (S : Ps) : Int := ((S.Q.head?).getD 0 : Nat)
def popS (S : Ps) : Ps := { S with Q := S.Q.tail }
def pushE (S : Ps) (i : Int) : Int := if rowN S i then (if outL S i = true then 0 else 132) else 131
def pushS (S : Ps) (i : Int) : Ps := if pushE S i = 0 then pushP S i.toNat else S
def owO (o : Ob) (f : Int) : Ob := ⟨o.nm, o.tg, o.bk, f⟩
def asgE (S : Ps) (i f : Int) : Int := if rowN S i then (if fileN S f then (if outL S i = true ∧ heldL S.R f = false then 0 else 132) else 1) else 131
def asgS (S : Ps) (i f : Int) : Ps := if asgE S i f = 0 then putP S i.toNat (owO (rowAt S i) f) else S
def relE (S : Ps) (i : Int) : Int := if rowN S i then (if (rowAt S i).ow = -1 then 132 else 0) else 131
def relS (S : Ps) (i : Int) : Ps := if relE S i = 0 then putP S i.toNat (owO (rowAt S i) (-1)) else S
def setE (S : Ps) (i : Int) (n t : ByteArray) (b : Int) : Int := if rowN S i then (if stored ⟨n, t, b, (rowAt S i).ow⟩ ∧ otherL S.R n i.toNat = false then 0 else 1) else 131
def setS (S : Ps) (i : Int) (n t : ByteArray) (b : Int) : Ps := if setE S i n t b = 0 then putP S i.toNat ⟨n, t, b, (rowAt S i).ow⟩ else S
def blankP (f s : Nat) : Ps := ⟨f, List.replicate (f + s) dOb, []⟩
def newP (f s : Nat) : Ps := ⟨f, List.replicate (f + s) dOb, List.range (f + s)⟩

theorem row_get {S : Ps} {i : Int} (h : rowN S i) : S.R[i.toNat]? = some (rowAt S i) := by
  unfold rowAt
  have : i.toNat < S.R.length := by unfold rowN at h; omega
  rw [List.getElem?_eq_getElem this]
  rfl
theorem set_get {R : List Ob} {i : Nat} {o : Ob} (hl : i < R.length) (j : Nat) : (R.set i o)[j]? = if i = j then some o else R[j]? := by
  rw [List.getElem?_set]
  by_cases e : i = j
  · rw [if_pos e, if_pos e, if_pos (e ▸ hl)]
  · rw [if_neg e, if_neg e]
theorem good_put {S : Ps} (h : Good S) {i : Nat} {was next : Ob} (hi : S.R[i]? = some was) (hst : stored next) (hlo : -1 ≤ next.ow) (hhi : next.ow < (S.fl : Int)) (ho : next.ow ≠ -1 → ∀ (j : Nat) o, j ≠ i → S.R[j]? = some o → o.ow ≠ next.ow)
    (hn : next.nm.size ≠ 0 → ∀ (j : Nat) o, j ≠ i → S.R[j]? = some o → o.nm ≠ next.nm) (hq : i ∈ S.Q → next.ow = -1) : Good (putP S i next) := by
  have hl := some_lt hi
  have hs := @set_get S.R i next hl
  refine ⟨fun j o hj => ?_, fun j k o o' hj hk e e1 => ?_, fun j k o o' hj hk e e1 => ?_, h.qn, fun j hj => ?_, ?_⟩
  · change (S.R.set i next)[j]? = some o at hj
    rw [hs j] at hj
    by_cases e : i = j
    · rw [if_pos e] at hj
      obtain rfl := Option.some.inj hj
      exact ⟨hst, hlo, hhi⟩
    · rw [if_neg e] at hj
      exact h.st j o hj
  · change (S.R.set i next)[j]? = some o at hj
    change (S.R.set i next)[k]? = some o' at hk
    rw [hs j] at hj
    rw [hs k] at hk
    by_cases a : i = j
    · rw [if_pos a] at hj
      obtain rfl := Option.some.inj hj
      by_cases b : i = k
      · omega
      · rw [if_neg b] at hk
        exact absurd e.symm (ho e1 k o' (fun x => b x.symm) hk)
    · rw [if_neg a] at hj
      by_cases b : i = k
      · rw [if_pos b] at hk
        obtain rfl := Option.some.inj hk
        exact absurd e (ho (e ▸ e1) j o (fun x => a x.symm) hj)
      · rw [if_neg b] at hk
        exact h.ou j k o o' hj hk e e1
  · change (S.R.set i next)[j]? = some o at hj
    change (S.R.set i next)[k]? = some o' at hk
    rw [hs j] at hj
    rw [hs k] at hk
    by_cases a : i = j
    · rw [if_pos a] at hj
      obtain rfl := Option.some.inj hj
      by_cases b : i = k
      · omega
      · rw [if_neg b] at hk
        exact absurd e.symm (hn e1 k o' (fun x => b x.symm) hk)
    · rw [if_neg a] at hj
      by_cases b : i = k
      · rw [if_pos b] at hk
        obtain rfl := Option.some.inj hk
        exact absurd e (hn (e ▸ e1) j o (fun x => a x.symm) hj)
      · rw [if_neg b] at hk
        exact h.nu j k o o' hj hk e e1
  · obtain ⟨o, h1, h2⟩ := h.qd j hj
    show ∃ o, (S.R.set i next)[j]? = some o ∧ o.ow = -1
    rw [hs j]
    by_cases e : i = j
    · rw [if_pos e]
      exact ⟨next, rfl, hq (e ▸ hj)⟩
    · rw [if_neg e]
      exact ⟨o, h1, h2⟩
  · have := h.fl
    show 1 ≤ S.fl ∧ S.fl < (S.R.set i next).length ∧ (S.R.set i next).length ≤ 65600
    rw [List.length_set]
    exact this
theorem good_push {S : Ps} (h : Good S) {i : Nat} {o : Ob} (hi : S.R[i]? = some o) (ho : o.ow = -1) (hq : i ∉ S.Q) : Good (pushP S i) := by
  refine ⟨h.st, h.ou, h.nu, ?_, fun j hj => ?_, h.fl⟩
  · show (S.Q ++ [i]).Nodup
    rw [List.nodup_append]
    exact ⟨h.qn, by simp, fun a ha b hb => by
      simp only [List.mem_singleton] at hb
      subst hb
      exact fun e => hq (e ▸ ha)⟩
  · rcases List.mem_append.1 hj with h1 | h1
    · exact h.qd j h1
    · simp only [List.mem_singleton] at h1
      subst h1
      exact ⟨o, hi, ho⟩
theorem good_pop {S : Ps} (h : Good S) : Good (popS S) := by
  refine ⟨h.st, h.ou, h.nu, ?_, fun j hj => h.qd j (List.mem_of_mem_tail hj), h.fl⟩
  have := h.qn
  cases hq : S.Q with
  | nil => show S.Q.tail.Nodup; rw [hq]; simp
  | cons a l => show S.Q.tail.Nodup; rw [hq] at this ⊢; exact (List.nodup_cons.1 this).2
theorem out_iff {S : Ps} {i : Int} : outL S i = true ↔ (rowAt S i).ow = -1 ∧ i.toNat ∉ S.Q := by
  unfold outL
  simp
theorem good_pushS {S : Ps} (h : Good S) (i : Int) : Good (pushS S i) := by
  unfold pushS pushE
  by_cases h1 : rowN S i
  · rw [if_pos h1]
    by_cases h2 : outL S i = true
    · rw [if_pos h2, if_pos rfl]
      exact good_push h (row_get h1) (out_iff.1 h2).1 (out_iff.1 h2).2
    · rw [if_neg h2, if_neg (by decide)]
      exact h
  · rw [if_neg h1, if_neg (by decide)]
    exact h
theorem held_no {R : List Ob} {f : Int} (h : heldL R f = false) (j : Nat) (o : Ob) (hj : R[j]? = some o) : o.ow ≠ f := fun e => by
  unfold heldL at h
  rw [List.any_eq_false] at h
  exact h o (List.mem_iff_getElem?.2 ⟨j, hj⟩) (by simp [e])
theorem other_no {R : List Ob} {n : ByteArray} {i : Nat} (h : otherL R n i = false) (hn : n.size ≠ 0) (j : Nat) (o : Ob) (hji : j ≠ i) (hj : R[j]? = some o) : o.nm ≠ n := fun e => by
  unfold otherL at h
  simp only [ne_eq, hn, not_false_eq_true, decide_true, Bool.true_and] at h
  rw [List.any_eq_false] at h
  refine h j (List.mem_range.2 (some_lt hj)) ?_
  rw [hj]
  simp [hji, e]
theorem good_ow {S : Ps} (h : Good S) {i : Int} (h1 : rowN S i) {f : Int} (hf : -1 ≤ f ∧ f < (S.fl : Int)) (hh : f ≠ -1 → ∀ (j : Nat) o, j ≠ i.toNat → S.R[j]? = some o → o.ow ≠ f) (hq : i.toNat ∈ S.Q → f = -1) : Good (putP S i.toNat (owO (rowAt S i) f)) :=
  good_put h (row_get h1) (h.st _ _ (row_get h1)).1 hf.1 hf.2 hh (fun hn j o hj ho e => hj (h.nu j i.toNat o _ ho (row_get h1) e (by rw [e]; exact hn))) hq
theorem good_asgS {S : Ps} (h : Good S) (i f : Int) : Good (asgS S i f) := by
  unfold asgS asgE
  by_cases h1 : rowN S i
  · rw [if_pos h1]
    by_cases h2 : fileN S f
    · rw [if_pos h2]
      by_cases h3 : outL S i = true ∧ heldL S.R f = false
      · rw [if_pos h3, if_pos rfl]
        exact good_ow h h1 ⟨by unfold fileN at h2; omega, h2.2⟩ (fun _ j o _ ho => held_no h3.2 j o ho) (fun hq => absurd hq (out_iff.1 h3.1).2)
      · rw [if_neg h3, if_neg (by decide)]
        exact h
    · rw [if_neg h2, if_neg (by decide)]
      exact h
  · rw [if_neg h1, if_neg (by decide)]
    exact h
theorem good_relS {S : Ps} (h : Good S) (i : Int) : Good (relS S i) := by
  unfold relS relE
  by_cases h1 : rowN S i
  · rw [if_pos h1]
    by_cases h2 : (rowAt S i).ow = -1
    · rw [if_pos h2, if_neg (by decide)]
      exact h
    · rw [if_neg h2, if_pos rfl]
      exact good_ow h h1 ⟨by omega, by omega⟩ (fun e => absurd rfl e) (fun _ => rfl)
  · rw [if_neg h1, if_neg (by decide)]
    exact h
theorem good_setS {S : Ps} (h : Good S) (i : Int) (n t : ByteArray) (b : Int) : Good (setS S i n t b) := by
  unfold setS setE
  by_cases h1 : rowN S i
  · rw [if_pos h1]
    by_cases h2 : stored ⟨n, t, b, (rowAt S i).ow⟩ ∧ otherL S.R n i.toNat = false
    · rw [if_pos h2, if_pos rfl]
      have hs := h.st _ _ (row_get h1)
      refine good_put h (row_get h1) h2.1 hs.2.1 hs.2.2 (fun e j o hj ho e2 => hj (h.ou j i.toNat o _ ho (row_get h1) e2 (by rw [e2]; exact e))) (fun hn j o hj ho => other_no h2.2 hn j o hj ho) (fun hq => ?_)
      obtain ⟨o, h3, h4⟩ := h.qd _ hq
      rw [row_get h1] at h3
      obtain rfl := Option.some.inj h3
      exact h4
    · rw [if_neg h2, if_neg (by decide)]
      exact h
  · rw [if_neg h1, if_neg (by decide)]
    exact h
theorem good_blank {f s : Nat} (hf : 1 ≤ f ∧ f ≤ 65536) (hs : 1 ≤ s ∧ s ≤ 64) (Q : List Nat) (hn : Q.Nodup) (hq : ∀ i, i ∈ Q → i < f + s) : Good ⟨f, List.replicate (f + s) dOb, Q⟩ := by
  have hr : ∀ (i : Nat) o, (List.replicate (f + s) dOb)[i]? = some o → o = dOb := fun i o ho => by
    rw [List.getElem?_replicate] at ho
    split at ho
    · exact (Option.some.inj ho).symm
    · cases ho
  refine ⟨fun i o ho => ?_, fun i j o o' hi hj e e1 => ?_, fun i j o o' hi hj e e1 => ?_, hn, fun i hi => ?_, ?_⟩
  · rw [hr i o ho]
    exact ⟨⟨.inl rfl, .inl rfl, by decide, by decide⟩, by decide, by show (-1 : Int) < (f : Int); omega⟩
  · rw [hr i o hi] at e1
    exact absurd rfl e1
  · rw [hr i o hi] at e1
    exact absurd rfl e1
  · refine ⟨dOb, ?_, rfl⟩
    show (List.replicate (f + s) dOb)[i]? = some dOb
    rw [List.getElem?_replicate, if_pos (hq i hi)]
  · show 1 ≤ f ∧ f < (List.replicate (f + s) dOb).length ∧ (List.replicate (f + s) dOb).length ≤ 65600
    rw [List.length_replicate]
    omega
theorem good_new {f s : Nat} (hf : 1 ≤ f ∧ f ≤ 65536) (hs : 1 ≤ s ∧ s ≤ 64) : Good (newP f s) := good_blank hf hs _ List.nodup_range (fun _ hi => List.mem_range.1 hi)

/-! a step of a script -/
structure Ops where
  kd : Int
  at_ : Int
  a : Int
  b : Int
  bk : Int
  nm : ByteArray
  tg : ByteArray
  ov : Value
  qv : Value
def doS (S : Ps) (o : Ops) : Ps :=
  if o.kd = 10 then popS S else if o.kd = 11 then pushS S o.a else if o.kd = 12 then asgS S o.a o.b else if o.kd = 13 then relS S o.a else if o.kd = 14 then setS S o.a o.nm o.tg o.bk else S
theorem good_doS {S : Ps} (h : Good S) (o : Ops) : Good (doS S o) := by
  unfold doS
  split
  · exact good_pop h
  split
  · exact good_pushS h _
  split
  · exact good_asgS h _ _
  split
  · exact good_relS h _
  split
  · exact good_setS h _ _ _ _
  exact h
theorem len_put (S : Ps) (i : Nat) (o : Ob) : (putP S i o).R.length = S.R.length := by unfold putP; simp
theorem len_doS (S : Ps) (o : Ops) : (doS S o).R.length = S.R.length ∧ (doS S o).fl = S.fl := by
  unfold doS
  split
  · exact ⟨rfl, rfl⟩
  split
  · unfold pushS; split <;> exact ⟨rfl, rfl⟩
  split
  · unfold asgS; split <;> exact ⟨by first | rw [len_put] | rfl, rfl⟩
  split
  · unfold relS; split <;> exact ⟨by first | rw [len_put] | rfl, rfl⟩
  split
  · unfold setS; split <;> exact ⟨by first | rw [len_put] | rfl, rfl⟩
  exact ⟨rfl, rfl⟩
end Go.Proofs.Ythmjjpaengackaa.Po
