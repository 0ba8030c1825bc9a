import Derived.Test.YtbjiamaaocjbfaaDoorLwA
namespace Go.Proofs.YtbjiamaaocjbfaaDoor.Kl
open Go.RowKit Go.Lib Go.Deep Kr Kp

theorem parse_nil : parseE [] = 70 ∧ parseI [] = [] ∧ parseS [] = [] := parse_none fun id ss sum h => by
  have := (ringR_iff [] id ss sum).2 h
  rw [show ringR [] = none by rfl] at this
  cases this

set_option maxRecDepth 20000 in
set_option maxHeartbeats 1000000 in
theorem head_any (w : World) (hT : Tabs w) (h4 : 8 ≤ w.heap.size) :
    Calls Tryd.prog 9 #[] w fun e w' => e = .returned (.bool true) ∧ Below w.heap.size w w' := by
  have c0 := parse_any { data := #[] } w (by simp) hT h4
  rw [show ({ data := #[] } : ByteArray).data.toList = [] by rfl, parse_nil.1] at c0
  go_enter Tryd.func9, Tryd.ntmps9
  go_wp2_with fail
  refine c0.mono ?_
  clear c0
  rintro e w1 ⟨⟨a, n, c, rfl, _⟩, hb1⟩
  have HB : Hid _ := hb1
  clear hb1
  go_wp2_with (go_at_call 7; refine (lnum7 _ _).mono ?_; rintro e wn ⟨rfl, rfl⟩)
  go_ret
  exact ⟨rfl, HB.out.alloc HB.out.size _⟩

theorem printL_le {id : List UInt8} {ss : List Slot} (h : rightR id ss = true) : (printL id ss).length ≤ 5000 := by
  unfold printL wholeL
  have := textL_le h
  rw [List.length_append]
  simp [sumLine, unwords, kSum, hexL_length, shaL_length]
  omega

end Go.Proofs.YtbjiamaaocjbfaaDoor.Kl
