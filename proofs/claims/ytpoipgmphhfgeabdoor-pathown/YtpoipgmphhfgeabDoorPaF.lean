import Derived.Test.YtpoipgmphhfgeabDoorPaA
import Derived.Lib.SlicesS
namespace Go.Proofs.YtpoipgmphhfgeabDoor.Pa
open Go.RowKit Go.Lib

/-- a name by a table -/
def chg (F T : List ByteArray) (x : ByteArray) : ByteArray := if 0 ≤ idxOfS F x then T.getD (idxOfS F x).toNat ByteArray.empty else x
def mapE (s : ByteArray) (F T : List ByteArray) : Int := if parseE s = 0 then (if F.length = T.length then fault ((parseY s).map (chg F T)) else 1) else parseE s
def mapY (s : ByteArray) (F T : List ByteArray) : ByteArray := if parseE s = 0 ∧ F.length = T.length then textY ((parseY s).map (chg F T)) else str []
theorem idx_full {F : List ByteArray} {x : ByteArray} (k : Nat) (hk : F[k]? = some x) (hne : ∀ j y, j < k → F[j]? = some y → y ≠ x) : idxOfS F x = k := by
  have hkl := (List.getElem?_eq_some_iff.1 hk).1
  have h := idxOfS_hit F F.length k x hkl (Nat.le_refl _) (by rw [List.getD_eq_getElem?_getD, hk]; rfl) (fun j hj => by
    have e : F[j]? = some F[j] := List.getElem?_eq_getElem (by omega)
    rw [List.getD_eq_getElem?_getD, e]
    exact hne j _ hj e)
  rw [List.take_length] at h
  exact h
theorem idx_miss {F : List ByteArray} {x : ByteArray} (h : x ∉ F) : idxOfS F x = -1 := by
  have h2 := idxOfS_miss F F.length x (fun j hj => by
    have e : F[j]? = some F[j] := List.getElem?_eq_getElem hj
    rw [List.getD_eq_getElem?_getD, e]
    intro e2
    exact h (e2 ▸ List.getElem_mem hj))
  rw [List.take_length] at h2
  exact h2
theorem chg_miss {F T : List ByteArray} {x : ByteArray} (h : x ∉ F) : chg F T x = x := by
  unfold chg
  rw [idx_miss h, if_neg (by decide)]
theorem chg_hit {F T : List ByteArray} {x y : ByteArray} (k : Nat) (hk : F[k]? = some x) (hne : ∀ j y, j < k → F[j]? = some y → y ≠ x) (hy : T[k]? = some y) : chg F T x = y := by
  unfold chg
  rw [idx_full k hk hne, if_pos (by omega), Int.toNat_natCast, List.getD_eq_getElem?_getD, hy]
  rfl
/-- the place of a name in a table -/
theorem idx_place {F : List ByteArray} {x : ByteArray} (h : x ∈ F) : ∃ k : Nat, F[k]? = some x ∧ (∀ j y, j < k → F[j]? = some y → y ≠ x) ∧ idxOfS F x = k := by
  induction F with
  | nil => cases h
  | cons z F ih =>
    by_cases hz : z = x
    · subst hz
      exact ⟨0, rfl, fun j y hj => by omega, idx_full 0 rfl (fun j y hj => by omega)⟩
    · have hx : x ∈ F := by
        rcases List.mem_cons.1 h with rfl | h
        · exact absurd rfl hz
        · exact h
      obtain ⟨k, hk, hne, _⟩ := ih hx
      have hne2 : ∀ j y, j < k + 1 → (z :: F)[j]? = some y → y ≠ x := fun j y hj hy => by
        cases j with
        | zero => simp at hy; subst hy; exact hz
        | succ j => exact hne j y (by omega) (by simpa using hy)
      exact ⟨k + 1, by simpa using hk, hne2, idx_full (k + 1) (by simpa using hk) hne2⟩

/-- the table keeps names apart, those of l counted -/
structure Apart (F T L : List ByteArray) : Prop where
  len : F.length = T.length
  from_ : ∀ (i j : Nat) x, F[i]? = some x → F[j]? = some x → i = j
  to_ : ∀ (i j : Nat) x, T[i]? = some x → T[j]? = some x → i = j
  left : ∀ x, x ∈ T → x ∈ L → x ∈ F
theorem Apart.cases {F T L : List ByteArray} (h : Apart F T L) (x : ByteArray) (hx : x ∈ L) : (∃ i : Nat, F[i]? = some x ∧ ∃ y, T[i]? = some y ∧ chg F T x = y) ∨ (x ∉ F ∧ x ∉ T ∧ chg F T x = x) := by
  by_cases hf : x ∈ F
  · obtain ⟨k, hk, hne, _⟩ := idx_place hf
    have hkl := (List.getElem?_eq_some_iff.1 hk).1
    obtain ⟨y, hy⟩ : ∃ y, T[k]? = some y := ⟨_, List.getElem?_eq_getElem (by rw [← h.len]; exact hkl)⟩
    exact .inl ⟨k, hk, y, hy, chg_hit k hk hne hy⟩
  · exact .inr ⟨hf, fun ht => hf (h.left x ht hx), chg_miss hf⟩
/-- no two names become one -/
theorem apart_inj {F T A B : List ByteArray} (ha : Apart F T A) (hb : Apart F T B) {x y : ByteArray} (hx : x ∈ A) (hy : y ∈ B) (h : chg F T x = chg F T y) : x = y := by
  rcases ha.cases x hx with ⟨i, hi, u, hu, e⟩ | ⟨h1, h2, e⟩
  · rcases hb.cases y hy with ⟨j, hj, v, hv, e'⟩ | ⟨h1', h2', e'⟩
    · rw [e, e'] at h
      subst h
      obtain rfl := ha.to_ i j u hu hv
      rw [hi] at hj
      exact Option.some.inj hj
    · rw [e, e'] at h
      exact absurd (h ▸ List.mem_of_getElem? hu) h2'
  · rcases hb.cases y hy with ⟨j, hj, v, hv, e'⟩ | ⟨h1', h2', e'⟩
    · rw [e, e'] at h
      exact absurd (h ▸ List.mem_of_getElem? hv) h2
    · rw [e, e'] at h
      exact h
/-- a table that keeps names apart can be undone -/
theorem apart_back {F T A : List ByteArray} (ha : Apart F T A) {x : ByteArray} (hx : x ∈ A) : chg T F (chg F T x) = x := by
  rcases ha.cases x hx with ⟨i, hi, u, hu, e⟩ | ⟨h1, h2, e⟩
  · rw [e]
    refine chg_hit i hu (fun j y hj hy e2 => ?_) hi
    subst e2
    have := ha.to_ j i y hy hu
    omega
  · rw [e]
    exact chg_miss h2
theorem map_back {F T A : List ByteArray} (ha : Apart F T A) : (A.map (chg F T)).map (chg T F) = A := by
  have : ∀ B : List ByteArray, (∀ x ∈ B, x ∈ A) → (B.map (chg F T)).map (chg T F) = B := by
    intro B
    induction B with
    | nil => intro _; rfl
    | cons b B ih =>
      intro h
      rw [List.map_cons, List.map_cons, ih (fun x hx => h x (List.mem_cons_of_mem _ hx)), apart_back ha (h b (by simp))]
  exact this A (fun _ h => h)
theorem map_prefix {F T A B : List ByteArray} (ha : Apart F T A) (hb : Apart F T B) : A.map (chg F T) <+: B.map (chg F T) ↔ A <+: B := by
  have key : ∀ (A' B' : List ByteArray), (∀ x ∈ A', x ∈ A) → (∀ x ∈ B', x ∈ B) → (A'.map (chg F T) <+: B'.map (chg F T) ↔ A' <+: B') := by
    intro A'
    induction A' with
    | nil => intro B' _ _; simp
    | cons a A' ih =>
      intro B' h1 h2
      cases B' with
      | nil => simp
      | cons b B' =>
        rw [List.map_cons, List.map_cons, List.cons_prefix_cons, List.cons_prefix_cons, ih B' (fun x hx => h1 x (List.mem_cons_of_mem _ hx)) (fun x hx => h2 x (List.mem_cons_of_mem _ hx))]
        constructor
        · rintro ⟨e, h⟩; exact ⟨apart_inj ha hb (h1 a (by simp)) (h2 b (by simp)) e, h⟩
        · rintro ⟨rfl, h⟩; exact ⟨rfl, h⟩
  exact key A B (fun _ h => h) (fun _ h => h)
theorem map_eq {F T A B : List ByteArray} (ha : Apart F T A) (hb : Apart F T B) (h : A.map (chg F T) = B.map (chg F T)) : A = B := by
  have h1 := (map_prefix ha hb).1 (h ▸ List.prefix_refl _)
  have h2 := congrArg List.length h
  rw [List.length_map, List.length_map] at h2
  exact h1.eq_of_length h2
end Go.Proofs.YtpoipgmphhfgeabDoor.Pa
