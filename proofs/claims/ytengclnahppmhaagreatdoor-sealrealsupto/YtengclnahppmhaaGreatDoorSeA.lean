import Derived.Test.YtengclnahppmhaaGreatDoorBaseM
import Derived.Maps.OwnSet
namespace Go.Proofs.YtengclnahppmhaaGreatDoor.Se
open Go.RowKit Go.Lib Go.Deep

/-- a row of the ideal sealer's table -/
structure Row where
  kind : Int
  name : ByteArray
  blob : ByteArray
  text : ByteArray

/-- the last sixteen bytes -/
def tagS (s : ByteArray) : ByteArray := if s.size < 16 then { data := #[] } else s.extract (s.size - 16) s.size
/-- was this blob's tag given? -/
def gave (R : List Row) (c : ByteArray) : Bool := R.any fun (r : Row) => decide (tagS r.blob = tagS c)
def placeE (kind : Int) (name : ByteArray) : Int := if kind < 1 ∨ 3 < kind then 82 else if 64 < name.size then 1 else 0
def askE (kind : Int) (name text coins : ByteArray) : Int :=
  if placeE kind name ≠ 0 then placeE kind name else if 1048576 < text.size then 3 else if coins.size ≠ text.size + 40 then 77 else 0
def sealE (R : List Row) (kind : Int) (name text coins : ByteArray) : Int :=
  if askE kind name text coins ≠ 0 then askE kind name text coins else if gave R coins = true then 80 else 0
def sealY (R : List Row) (kind : Int) (name text coins : ByteArray) : ByteArray := if sealE R kind name text coins = 0 then coins else { data := #[] }
def sealR (R : List Row) (kind : Int) (name text coins : ByteArray) : List Row := if sealE R kind name text coins = 0 then R ++ [⟨kind, name, coins, text⟩] else R
def hit (kind : Int) (name blob : ByteArray) (r : Row) : Bool := decide (r.kind = kind ∧ r.name = name ∧ r.blob = blob)
def openE (R : List Row) (kind : Int) (name blob : ByteArray) : Int :=
  if placeE kind name ≠ 0 then placeE kind name else if (R.find? (hit kind name blob)).isSome = true then 0 else 81
def openY (R : List Row) (kind : Int) (name blob : ByteArray) : ByteArray :=
  if placeE kind name ≠ 0 then { data := #[] } else ((R.find? (hit kind name blob)).map Row.text).getD { data := #[] }
def coinsN (size : Int) : Int := if size < 0 ∨ 1048576 < size then 0 else size + 40
def freshB (R : List Row) (c : ByteArray) : Bool := decide (40 ≤ c.size ∧ c.size ≤ 1048616) && !gave R c

def rowCells (R : List Row) : List Value := R.flatMap fun r => [.int .i64 r.kind, .string r.name, .string r.blob, .string r.text]
theorem rowCells_length (R : List Row) : (rowCells R).length = R.length * 4 := by
  induction R with
  | nil => rfl
  | cons x R ih =>
    have e : rowCells (x :: R) = [.int .i64 x.kind, .string x.name, .string x.blob, .string x.text] ++ rowCells R := by simp [rowCells]
    rw [e, List.length_append, ih]
    simp
    omega
theorem rowCells_append (R Q : List Row) : rowCells (R ++ Q) = rowCells R ++ rowCells Q := by simp [rowCells]
theorem rows_at (R : List Row) (i : Nat) (r : Row) (h : R[i]? = some r) : (rowCells R)[i * 4]? = some (.int .i64 r.kind) ∧ (rowCells R)[i * 4 + 1]? = some (.string r.name) ∧ (rowCells R)[i * 4 + 2]? = some (.string r.blob) ∧ (rowCells R)[i * 4 + 3]? = some (.string r.text) := by
  induction R generalizing i with
  | nil => cases h
  | cons x R ih =>
    have e : rowCells (x :: R) = [.int .i64 x.kind, .string x.name, .string x.blob, .string x.text] ++ rowCells R := by simp [rowCells]
    cases i with
    | zero =>
      obtain rfl : x = r := Option.some.inj h
      rw [e]
      exact ⟨rfl, rfl, rfl, rfl⟩
    | succ i =>
      obtain ⟨a, b, c, d⟩ := ih i h
      have hl : ([.int .i64 x.kind, .string x.name, .string x.blob, .string x.text] : List Value).length = 4 := rfl
      rw [e, List.getElem?_append_right (by omega), List.getElem?_append_right (by omega), List.getElem?_append_right (by omega), List.getElem?_append_right (by omega), hl]
      exact ⟨by rw [← a]; congr 1; omega, by rw [← b]; congr 1; omega, by rw [← c]; congr 1; omega, by rw [← d]; congr 1; omega⟩

/-- what the map holds: of each tag the place of its row -/
structure Tab (D : DataW Unit) (R : List Row) : Prop where
  isMap : Maps.IsMap D
  has : ∀ c : ByteArray, Maps.has D (.string (tagS c).data.toList) = gave R c
  at_ : ∀ (i : Nat) (r : Row), R[i]? = some r → ∀ z, D.atKey (.string (tagS r.blob).data.toList) z = .lit (.int .i64 (i : Int))

theorem tab_nil : Tab (.map []) [] := ⟨Maps.isMap_empty, fun _ => rfl, fun i r h => by cases h⟩
theorem tag_inj {a b : ByteArray} (h : (Lit.string (tagS a).data.toList) = .string (tagS b).data.toList) : tagS a = tagS b := by
  injection h with h
  apply ByteArray.ext
  exact Array.toList_inj.1 h
theorem Tab.snoc {D : DataW Unit} {R : List Row} (h : Tab D R) (r : Row) (hg : gave R r.blob = false) : Tab (D.put (.string (tagS r.blob).data.toList) (.lit (.int .i64 (R.length : Int)))) (R ++ [r]) := by
  refine ⟨h.isMap.put _ _, fun c => ?_, fun i x hx z => ?_⟩
  · by_cases he : tagS r.blob = tagS c
    · rw [← he, Maps.has_put_same h.isMap (by simp [WideAt.IsKeyLit])]
      simp [gave, he]
    · rw [Maps.has_put_other (fun e => he (tag_inj e).symm), h.has c]
      simp [gave, he]
  · by_cases hi : i < R.length
    · rw [List.getElem?_append_left hi] at hx
      rw [Maps.atKey_put_other ?_]
      · exact h.at_ i x hx z
      · intro e
        have e2 := tag_inj e
        have : gave R r.blob = true := List.any_eq_true.2 ⟨x, List.mem_of_getElem? hx, decide_eq_true e2⟩
        rw [hg] at this
        cases this
    · have hl := (List.getElem?_eq_some_iff.1 hx).1
      simp at hl
      obtain rfl : i = R.length := by omega
      simp at hx
      subst hx
      exact Maps.atKey_put_same h.isMap (by simp [WideAt.IsKeyLit]) _ _
theorem gave_at {R : List Row} {c : ByteArray} (h : gave R c = true) : ∃ (i : Nat) (r : Row), R[i]? = some r ∧ tagS r.blob = tagS c := by
  obtain ⟨r, hr, he⟩ := List.any_eq_true.1 h
  obtain ⟨i, hi⟩ := List.mem_iff_getElem?.1 hr
  exact ⟨i, r, hi, of_decide_eq_true he⟩
theorem Tab.one {D : DataW Unit} {R : List Row} (h : Tab D R) {i j : Nat} {r q : Row} (hr : R[i]? = some r) (hq : R[j]? = some q) (he : tagS r.blob = tagS q.blob) : i = j := by
  have a := h.at_ i r hr (.lit (.int .i64 0))
  have b := h.at_ j q hq (.lit (.int .i64 0))
  rw [he, b] at a
  injection a with a
  injection a with _ a
  omega
theorem Tab.find {D : DataW Unit} {R : List Row} (h : Tab D R) {i : Nat} {r : Row} (hr : R[i]? = some r) {kind : Int} {name blob : ByteArray} (hb : tagS r.blob = tagS blob) : R.find? (hit kind name blob) = if hit kind name blob r = true then some r else none := by
  cases hf : R.find? (hit kind name blob) with
  | none =>
    have := List.find?_eq_none.1 hf r (List.mem_of_getElem? hr)
    rw [if_neg this]
  | some q =>
    have h1 := List.find?_some hf
    obtain ⟨j, hj⟩ := List.mem_iff_getElem?.1 (List.mem_of_find?_eq_some hf)
    have h2 : q.blob = blob := (of_decide_eq_true h1).2.2
    have := h.one hr hj (by rw [h2]; exact hb)
    subst this
    rw [hr] at hj
    obtain rfl := Option.some.inj hj
    rw [if_pos h1]
theorem find_none {R : List Row} {kind : Int} {name blob : ByteArray} (h : gave R blob = false) : R.find? (hit kind name blob) = none := by
  rw [List.find?_eq_none]
  intro r hr he
  have h2 : r.blob = blob := (of_decide_eq_true he).2.2
  have : gave R blob = true := List.any_eq_true.2 ⟨r, hr, by rw [h2]; exact decide_eq_true rfl⟩
  rw [h] at this
  cases this

end Go.Proofs.YtengclnahppmhaaGreatDoor.Se
