import Derived.Test.YtbjiamaaocjbfaaGreatDoorCaM
import Derived.Test.YtbjiamaaocjbfaaGreatDoorK7B
namespace Go.Proofs.YtbjiamaaocjbfaaGreatDoor.Kp
open Go.RowKit Go.Lib Go.Deep Kr

theorem parseC : ParseC KT := fun t w ht hw => parse_any t w (by rw [← size_eq]; exact ht) hw.k.t hw.k.i
theorem sumC : SumC KT := fun s b w hs hw hc hb => by
  have hj : joinL [s] = s.data.toList := by simp [joinL]
  have h := sum_some w hw.k.t hw.k.i b 0 1 1 [s] rfl (by omega) hb (fun i q hq => by
    have : i = 0 := by
      have := (List.getElem?_eq_some_iff.1 hq).1
      simp at this
      exact this
    subst this
    simp at hq
    subst hq
    exact hc) (by rw [hj, ← size_eq]; omega)
  rw [hj] at h
  exact h

end Go.Proofs.YtbjiamaaocjbfaaGreatDoor.Kp
