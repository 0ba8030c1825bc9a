import Derived.Test.YtbjiamaaocjbfaaGreatDoorKrP
namespace Go.Proofs.YtbjiamaaocjbfaaGreatDoor.Kr
open Go.RowKit Go.Lib

theorem printL_length (id : List UInt8) (ss : List Slot) : (printL id ss).length = (textL id ss).length + 69 := by
  unfold printL wholeL
  rw [List.length_append]
  simp [sumLine, unwords, kSum, hexL_length, shaL_length]
theorem printL_take (id : List UInt8) (ss : List Slot) : (printL id ss).take ((printL id ss).length - 69) = textL id ss := by
  rw [printL_length, Nat.add_sub_cancel]
  unfold printL wholeL
  exact List.take_left
theorem printL_drop (id : List UInt8) (ss : List Slot) : (printL id ss).drop ((printL id ss).length - 69) = sumLine (shaL (textL id ss)) ++ [10] := by
  rw [printL_length, Nat.add_sub_cancel]
  unfold printL wholeL
  exact List.drop_left
theorem sumLine_inj {a b : List UInt8} (h : sumLine a = sumLine b) : a = b := by
  have := (sumLine_one a).symm.trans ((congrArg (fun x => oneL x kSum) h).trans (sumLine_one b))
  exact Option.some.inj this
/-- a text that begins a ring's text is none -/
theorem told_less {id : List UInt8} {ss : List Slot} (hr : rightR id ss = true) (k : Nat) (hk : k < (printL id ss).length) : parseE ((printL id ss).take k) ≠ 0 := by
  intro h
  obtain ⟨h1, h2⟩ := print_parse h
  have f1 : Form ((printL id ss).take k) _ _ _ := ⟨h1, right_fits h2⟩
  have f2 : Form ((printL id ss).take k ++ (printL id ss).drop k) id ss (shaL (textL id ss)) := by
    rw [List.take_append_drop]
    exact ⟨rfl, right_fits hr⟩
  have := congrArg List.length (form_prefix f1 f2)
  rw [List.length_drop] at this
  simp at this
  omega
theorem told_more {id : List UInt8} {ss : List Slot} (hr : rightR id ss = true) (r : List UInt8) (hne : r ≠ []) : parseE (printL id ss ++ r) ≠ 0 := by
  intro h
  obtain ⟨h1, h2⟩ := print_parse h
  exact hne (form_prefix (a := printL id ss) (id := id) (ss := ss) (sum := shaL (textL id ss)) ⟨rfl, right_fits hr⟩ ⟨h1, right_fits h2⟩)
/-- one byte another: refused, or two texts with one sum -/
theorem told_byte {id : List UInt8} {ss : List Slot} (k : Nat) (y : UInt8) (hk : (printL id ss)[k]? ≠ some y) (hl : k < (printL id ss).length) (h : parseE ((printL id ss).set k y) = 0) :
    ((printL id ss).set k y).take ((printL id ss).length - 69) ≠ (printL id ss).take ((printL id ss).length - 69) ∧
    shaL (((printL id ss).set k y).take ((printL id ss).length - 69)) = shaL ((printL id ss).take ((printL id ss).length - 69)) := by
  obtain ⟨h1, h2⟩ := print_parse h
  obtain ⟨id', hid⟩ : ∃ x, parseI ((printL id ss).set k y) = x := ⟨_, rfl⟩
  obtain ⟨ss', hss⟩ : ∃ x, parseS ((printL id ss).set k y) = x := ⟨_, rfl⟩
  rw [hid, hss] at h1
  have hlen := congrArg List.length h1
  rw [List.length_set] at hlen
  have hne : (printL id ss).set k y ≠ printL id ss := by
    intro e
    have := congrArg (fun l => l[k]?) e
    simp only [List.getElem?_set_self hl] at this
    exact hk this.symm
  have t1 : ((printL id ss).set k y).take ((printL id ss).length - 69) = textL id' ss' := by
    rw [h1, hlen]
    exact printL_take id' ss'
  have d1 : ((printL id ss).set k y).drop ((printL id ss).length - 69) = sumLine (shaL (textL id' ss')) ++ [10] := by
    rw [h1, hlen]
    exact printL_drop id' ss'
  rw [t1, printL_take]
  have hneq : textL id' ss' ≠ textL id ss := by
    intro e
    apply hne
    have e2 := List.take_append_drop ((printL id ss).length - 69) ((printL id ss).set k y)
    rw [t1, d1, e] at e2
    exact e2.symm
  refine ⟨hneq, ?_⟩
  by_cases hkn : k < (printL id ss).length - 69
  · have e3 : ((printL id ss).set k y).drop ((printL id ss).length - 69) = (printL id ss).drop ((printL id ss).length - 69) := by
      rw [List.drop_set, if_pos hkn]
    rw [d1, printL_drop] at e3
    exact sumLine_inj (List.append_cancel_right e3)
  · exfalso
    apply hneq
    have e3 : ((printL id ss).set k y).take ((printL id ss).length - 69) = (printL id ss).take ((printL id ss).length - 69) := by
      rw [List.take_set, List.set_eq_of_length_le (by rw [List.length_take]; omega)]
    rw [t1, printL_take] at e3
    exact e3

theorem textL_ge {id : List UInt8} (hid : id.length = 16) (ss : List Slot) : 31 ≤ (textL id ss).length := by
  have h : (dec ss.length).length ≠ 0 := by
    by_cases h : ss.length < 10
    · rw [dec_lt _ h]; simp
    · rw [dec_ge _ (by omega)]; simp
  rw [textL_eq, ← text0_eq, List.length_append]
  simp [kHead, kId, kSlots, hexL_length]
  omega

end Go.Proofs.YtbjiamaaocjbfaaGreatDoor.Kr
