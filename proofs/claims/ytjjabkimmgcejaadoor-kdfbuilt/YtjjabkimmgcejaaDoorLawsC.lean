import Derived.Test.YtjjabkimmgcejaaDoorLawsB
import Derived.Deep.MidRow
namespace Go.Proofs.YtjjabkimmgcejaaDoor
open Go.RowKit Go.Lib

/-- cells laid over others, one behind the other -/
def setMany (cs : Array Value) (o : Nat) : List Value → Array Value
  | [] => cs
  | v :: vs => setMany (cs.setIfInBounds o v) (o + 1) vs

theorem heap_setCells (b : Nat) (t : TypeId) : ∀ (vs : List Value) (o : Nat) (cs : Array Value) (w : World), w.heap[b]? = some (.cells cs t (0, 0)) → (w.setCells b o vs).heap[b]? = some (.cells (setMany cs o vs) t (0, 0))
  | [], _, _, _, h => h
  | v :: vs, o, cs, w, h => by
    have h1 := heap_setCell_same w b o cs t v h
    exact heap_setCells b t vs (o + 1) _ _ h1

theorem heap_setCells_other (b k : Nat) (h : k ≠ b) : ∀ (vs : List Value) (o : Nat) (w : World), (w.setCells b o vs).heap[k]? = w.heap[k]?
  | [], _, _ => rfl
  | v :: vs, o, w => by
    have h1 := heap_setCells_other b k h vs (o + 1) (w.setCell ⟨b, o, none⟩ v)
    exact h1.trans (heap_setCell_other w ⟨b, o, none⟩ k v h)

theorem size_setCells (b : Nat) : ∀ (vs : List Value) (o : Nat) (w : World), (w.setCells b o vs).heap.size = w.heap.size ∧ (w.setCells b o vs).os = w.os ∧ (w.setCells b o vs).tape = w.tape ∧ (w.setCells b o vs).output = w.output
  | [], _, _ => ⟨rfl, rfl, rfl, rfl⟩
  | v :: vs, o, w => by
    obtain ⟨h1, h2, h3, h4⟩ := size_setCells b vs (o + 1) (w.setCell ⟨b, o, none⟩ v)
    exact ⟨h1.trans (by simp [World.setCell]), h2, h3, h4⟩

theorem Only.setCells {S : List Nat} {a w : World} (h : Only S a w) {b : Nat} (hb : b ∈ S) (o : Nat) (vs : List Value) : Only S a (w.setCells b o vs) := by
  obtain ⟨h1, h2, h3, h4⟩ := size_setCells b vs o w
  exact h.trans ⟨h2, h3, h4, by omega, fun k _ hk => heap_setCells_other b k (fun e => hk (e ▸ hb)) vs o w⟩

theorem Only.drew {S : List Nat} {a w : World} (h : Only S a w) : Only S a w.drew := ⟨h.os, h.tape, h.output, h.size, h.block⟩

theorem Below.setCells {B : Nat} {a w : World} (h : Below B a w) {b : Nat} (hb : B ≤ b) (o : Nat) (vs : List Value) : Below B a (w.setCells b o vs) := by
  obtain ⟨h1, h2, h3, h4⟩ := size_setCells b vs o w
  exact h.trans ⟨h2, h3, h4, by omega, fun k hk => heap_setCells_other b k (by omega) vs o w⟩

theorem setMany_mid (pre mid post : List Value) : ∀ (vs done : List Value), mid.length = vs.length → setMany (pre ++ done ++ mid ++ post).toArray (pre.length + done.length) vs = (pre ++ done ++ vs ++ post).toArray := by
  induction mid with
  | nil =>
    intro vs done h
    obtain rfl : vs = [] := List.eq_nil_of_length_eq_zero (by simpa using h.symm)
    rfl
  | cons x mid ih =>
    intro vs done h
    cases vs with
    | nil => simp at h
    | cons v vs =>
      have e : (pre ++ done ++ x :: mid ++ post).toArray.setIfInBounds (pre.length + done.length) v = (pre ++ (done ++ [v]) ++ mid ++ post).toArray := by
        have : (pre ++ done ++ x :: mid ++ post).set (pre.length + done.length) v = pre ++ (done ++ [v]) ++ mid ++ post := by
          rw [show pre ++ done ++ x :: mid ++ post = (pre ++ done) ++ (x :: (mid ++ post)) by simp, List.set_append_right _ _ (by simp)]
          simp
        simp only [List.setIfInBounds_toArray, this]
      show setMany _ _ vs = _
      rw [e]
      have := ih vs (done ++ [v]) (by simpa using h)
      simp only [List.length_append, List.length_cons, List.length_nil] at this
      rw [show pre.length + done.length + 1 = pre.length + (done.length + (0 + 1)) by omega, this]
      simp

/-- a part of a row laid anew -/
theorem setMany_part (pre mid post vs : List Value) (h : mid.length = vs.length) : setMany (pre ++ mid ++ post).toArray pre.length vs = (pre ++ vs ++ post).toArray := by
  have := setMany_mid pre mid post vs [] h
  simpa using this

theorem setMany_all (cs : Array Value) (vs : List Value) (h : cs.size = vs.length) : setMany cs 0 vs = vs.toArray := by
  have := setMany_part [] cs.toList [] vs (by simpa using h)
  simpa using this

theorem there_of_heap {w : World} {b o n : Nat} {cs : Array Value} {t : TypeId} (h : w.heap[b]? = some (.cells cs t (0, 0))) (hn : o + n ≤ cs.size) : w.there b o n := by
  intro j hj
  refine ⟨?_, frozen_of_heap h⟩
  rw [cell_of_heap h, Array.getElem?_eq_getElem (by omega)]
  rfl

theorem range_of_heap {w : World} {b : Nat} {pre mid post : List Value} {cs : Array Value} {t : TypeId} {fr : Nat × Nat} (h : w.heap[b]? = some (.cells cs t fr)) (hc : cs = (pre ++ mid ++ post).toArray) : w.rangeAt b pre.length mid := by
  intro j v hv
  subst hc
  have hj := (List.getElem?_eq_some_iff.1 hv).1
  rw [cell_of_heap h]
  simp only [List.getElem?_toArray, List.append_assoc]
  rw [List.getElem?_append_right (by omega), show pre.length + j - pre.length = j by omega, List.getElem?_append_left hj]
  exact hv

theorem put_none (a : Act) (v : Value) : a.put none v = a := rfl

end Go.Proofs.YtjjabkimmgcejaaDoor
