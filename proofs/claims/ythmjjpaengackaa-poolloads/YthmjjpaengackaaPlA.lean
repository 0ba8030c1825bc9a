import Derived.Test.YthmjjpaengackaaPpA
import Derived.Maps.Range
import Derived.Sort.KeysCollected
namespace Go.Proofs.Ythmjjpaengackaa.Po
open Go.RowKit Go.Lib Go.Deep

/-! what a state must be that is taken up -/
def mayS (S : Ps) (i : Nat) (o : Ob) : Prop := (o.ow = -1 ∨ (fileN S o.ow ∧ heldL S.R o.ow = false)) ∧ stored o ∧ otherL S.R o.nm i = false
instance (S : Ps) (i : Nat) (o : Ob) : Decidable (mayS S i o) := by unfold mayS; infer_instance
def SK (f : Nat) (R : List Ob) (k : Nat) : Ps := ⟨f, R.take k ++ List.replicate (R.length - k) dOb, []⟩
def SQ (f : Nat) (R : List Ob) (Z : List Int) (k : Nat) : Ps := ⟨f, R, (Z.take k).map Int.toNat⟩
def cntO (R : List Ob) : Nat := (R.filter fun o => decide (o.ow ≠ -1)).length
structure Fits (f : Nat) (R : List Ob) (Z : List Int) : Prop where
  rows : ∀ (k : Nat) o, R[k]? = some o → mayS (SK f R k) k o
  queue : ∀ (k : Nat) z, Z[k]? = some z → rowN (SQ f R Z k) z ∧ outL (SQ f R Z k) z = true
  all : Z.length + cntO R = R.length
theorem sk_len {f : Nat} {R : List Ob} {k : Nat} (h : k ≤ R.length) : (SK f R k).R.length = R.length := by unfold SK; simp; omega
theorem sk_get {f : Nat} {R : List Ob} {k : Nat} (h : k < R.length) : (SK f R k).R[k]? = some dOb := by
  unfold SK
  show (R.take k ++ List.replicate (R.length - k) dOb)[k]? = _
  rw [List.getElem?_append_right (by simp; omega), List.length_take, show min k R.length = k by omega, Nat.sub_self, List.getElem?_replicate, if_pos (by omega)]
theorem sk_put {f : Nat} {R : List Ob} {k : Nat} {o : Ob} (h : R[k]? = some o) : putP (SK f R k) k o = SK f R (k + 1) := by
  have hl := some_lt h
  unfold putP SK
  simp only [Ps.mk.injEq, true_and, and_true]
  have e1 : R.take (k + 1) = R.take k ++ [o] := by rw [List.take_add_one, h]; rfl
  rw [List.set_append_right _ _ (by simp; omega), List.length_take, show min k R.length = k by omega, Nat.sub_self, show R.length - k = (R.length - (k + 1)) + 1 by omega, List.replicate_succ, List.set_cons_zero, e1, List.append_assoc]
  rfl
theorem sk_full (f : Nat) (R : List Ob) : SK f R R.length = ⟨f, R, []⟩ := by unfold SK; simp
theorem sk_zero (f s : Nat) (R : List Ob) (h : R.length = f + s) : SK f R 0 = blankP f s := by unfold SK blankP; simp [h]
theorem may_good {S : Ps} (hG : Good S) {i : Nat} {was o : Ob} (hi : S.R[i]? = some was) (hq : S.Q = []) (h : mayS S i o) : Good (putP S i o) := by
  obtain ⟨h1, h2, h3⟩ := h
  have hb : -1 ≤ o.ow ∧ o.ow < (S.fl : Int) := by
    have := hG.fl
    rcases h1 with h1 | ⟨⟨h4, h5⟩, _⟩
    · omega
    · omega
  refine good_put hG hi h2 hb.1 hb.2 (fun e j x _ hx => ?_) (fun e j x hj hx => other_no h3 e j x hj hx) (fun hm => by rw [hq] at hm; cases hm)
  rcases h1 with h1 | ⟨_, h4⟩
  · exact absurd h1 e
  · exact held_no h4 j x hx
theorem sk_good {f s : Nat} {R : List Ob} (hf : 1 ≤ f ∧ f ≤ 65536) (hs : 1 ≤ s ∧ s ≤ 64) (hl : R.length = f + s) : ∀ (k : Nat), k ≤ R.length → (∀ (j : Nat) o, j < k → R[j]? = some o → mayS (SK f R j) j o) → Good (SK f R k)
  | 0, _, _ => by
    rw [sk_zero f s R hl]
    exact good_blank hf hs [] List.nodup_nil (fun i hi => by cases hi)
  | k + 1, hk, h => by
    have ih := sk_good hf hs hl k (by omega) (fun j o hj ho => h j o (by omega) ho)
    obtain ⟨o, ho⟩ : ∃ o, R[k]? = some o := ⟨_, List.getElem?_eq_getElem (by omega)⟩
    rw [← sk_put ho]
    exact may_good ih (sk_get (by omega)) rfl (h k o (by omega) ho)
theorem sq_succ {f : Nat} {R : List Ob} {Z : List Int} {k : Nat} {z : Int} (h : Z[k]? = some z) : pushP (SQ f R Z k) z.toNat = SQ f R Z (k + 1) := by
  unfold pushP SQ
  simp only [Ps.mk.injEq, true_and]
  rw [List.take_add_one, h]
  simp
theorem sq_good {f : Nat} {R : List Ob} {Z : List Int} (hG : Good ⟨f, R, []⟩) : ∀ (k : Nat), k ≤ Z.length → (∀ (j : Nat) z, j < k → Z[j]? = some z → rowN (SQ f R Z j) z ∧ outL (SQ f R Z j) z = true) → Good (SQ f R Z k)
  | 0, _, _ => hG
  | k + 1, hk, h => by
    have ih := sq_good hG k (by omega) (fun j z hj hz => h j z (by omega) hz)
    obtain ⟨z, hz⟩ : ∃ z, Z[k]? = some z := ⟨_, List.getElem?_eq_getElem (by omega)⟩
    obtain ⟨h1, h2⟩ := h k z (by omega) hz
    rw [← sq_succ hz]
    exact good_push ih (row_get h1) (out_iff.1 h2).1 (out_iff.1 h2).2
/-! how many a table holds -/
theorem nodup_sub {α : Type} [DecidableEq α] : ∀ (a b : List α), a.Nodup → (∀ x, x ∈ a → x ∈ b) → a.length ≤ b.length
  | [], b, _, _ => Nat.zero_le _
  | x :: a, b, hn, h => by
    have hx := h x (by simp)
    have hn2 := List.nodup_cons.1 hn
    have ih := nodup_sub a (b.erase x) hn2.2 (fun y hy => (List.mem_erase_of_ne (fun (e : y = x) => hn2.1 (by rw [← e]; exact hy))).2 (h y (by simp [hy])))
    rw [List.length_erase_of_mem hx] at ih
    have := List.length_pos_of_mem hx
    simp only [List.length_cons]
    omega
def litInt : Lit → Int
  | .int _ a => a
  | _ => 0
theorem keyOf_int_inv {v : Value} {l : Lit} (h : keyOf Try.prog 3 v = some l) : ∃ a, l = .int .i64 a := by
  have e : keyOf Try.prog 3 v = mapKey Try.prog 3 v := by simp [keyOf, Try.underlying3]
  rw [e] at h
  cases v <;> simp [mapKey, Try.underlying3] at h
  exact ⟨_, h.2.symm⟩
theorem own_nodup : ∀ (R : List Ob), (∀ (i j : Nat) o o', R[i]? = some o → R[j]? = some o' → o.ow = o'.ow → o.ow ≠ -1 → i = j) → ((R.filter fun o => decide (o.ow ≠ -1)).map Ob.ow).Nodup
  | [], _ => List.nodup_nil
  | o :: R, h => by
    have ih := own_nodup R (fun i j a b ha hb e e1 => by
      have := h (i + 1) (j + 1) a b (by simpa using ha) (by simpa using hb) e e1
      omega)
    by_cases e : o.ow = -1
    · rw [List.filter_cons_of_neg (by simp [e])]
      exact ih
    · rw [List.filter_cons_of_pos (by simp [e]), List.map_cons, List.nodup_cons]
      refine ⟨fun hm => ?_, ih⟩
      obtain ⟨x, hx, he⟩ := List.mem_map.1 hm
      obtain ⟨j, hj⟩ := List.mem_iff_getElem?.1 (List.mem_filter.1 hx).1
      have := h 0 (j + 1) o x rfl (by simpa using hj) he.symm e
      omega
theorem size_own {w : World} {m nn : Nat} {D : DataW Unit} {f : Int → Option Nat} {R : List Ob} (h : w.ownsMap Try.prog 3 intR m nn D) (hT : Tab litI D f) (hI : Is Ob.ow (-1) R f) : Maps.size D = cntO R := by
  obtain ⟨es, hD, hpw, _⟩ := h.entries keyI
  obtain ⟨es', hD', hko⟩ := h.keysOf
  obtain rfl : es = es' := by rw [hD] at hD'; simpa using hD'
  subst hD
  have hk : ∀ p ∈ es, ∃ x, p.1 = litI x := fun p hp => by
    obtain ⟨v, hv⟩ := hko p hp
    exact keyOf_int_inv hv
  have hn1 : (es.map fun p => litInt p.1).Nodup := by
    refine List.pairwise_map.2 (hpw.imp_of_mem fun {p q} hp hq hne e => hne ?_)
    obtain ⟨a, ha⟩ := hk p hp
    obtain ⟨b, hb⟩ := hk q hq
    rw [ha, hb] at e ⊢
    simp only [litI, litInt] at e
    rw [e]
  have hmem : ∀ x, x ∈ (es.map fun p => litInt p.1) ↔ (f x).isSome = true := fun x => by
    rw [← hT.has x]
    show x ∈ (es.map fun p => litInt p.1) ↔ (es.any fun p => p.1.sameKey (litI x)) = true
    rw [List.mem_map, List.any_eq_true]
    constructor
    · rintro ⟨p, hp', rfl⟩
      obtain ⟨a, ha⟩ := hk p hp'
      exact ⟨p, hp', by rw [ha]; simp [Lit.sameKey, litI, litInt]⟩
    · rintro ⟨p, hp', hs⟩
      obtain ⟨a, ha⟩ := hk p hp'
      rw [ha] at hs
      exact ⟨p, hp', by rw [ha]; simpa [Lit.sameKey, litI, litInt] using hs⟩
  have hn2 := own_nodup R (fun i j o o' hi hj e e1 => by
    have a := (hI o.ow i).2 ⟨e1, o, hi, rfl⟩
    have b := (hI o.ow j).2 ⟨e1, o', hj, e.symm⟩
    rw [a] at b
    exact Option.some.inj b)
  have hm2 : ∀ x, x ∈ ((R.filter fun o => decide (o.ow ≠ -1)).map Ob.ow) ↔ (f x).isSome = true := fun x => by
    rw [List.mem_map]
    constructor
    · rintro ⟨o, ho, rfl⟩
      obtain ⟨h1, h2⟩ := List.mem_filter.1 ho
      obtain ⟨i, hi⟩ := List.mem_iff_getElem?.1 h1
      rw [(hI o.ow i).2 ⟨of_decide_eq_true h2, o, hi, rfl⟩]
      rfl
    · intro hs
      obtain ⟨i, hi⟩ := Option.isSome_iff_exists.1 hs
      obtain ⟨h1, o, h2, h3⟩ := (hI x i).1 hi
      exact ⟨o, List.mem_filter.2 ⟨List.mem_iff_getElem?.2 ⟨i, h2⟩, by simp [h3, h1]⟩, h3⟩
  have l1 := nodup_sub _ _ hn1 (fun x hx => (hm2 x).2 ((hmem x).1 hx))
  have l2 := nodup_sub _ _ hn2 (fun x hx => (hmem x).2 ((hm2 x).1 hx))
  unfold cntO
  show es.length = _
  simp only [List.length_map] at l1 l2
  omega
end Go.Proofs.Ythmjjpaengackaa.Po
