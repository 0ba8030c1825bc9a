import Derived.Test.YtjjabkimmgcejabDoorPasF
import Derived.Test.YtjjabkimmgcejabDoorPasB
import Derived.Test.YtjjabkimmgcejabDoorExtA
namespace Go.Proofs.YtjjabkimmgcejabDoor
open Go.RowKit Go.Lib

/-- PBKDF2's two answers -/
def pasE (rounds n : Int) : Int := if rounds < 1 ∨ 4096 < rounds then 30 else if n < 0 ∨ 1024 < n then 31 else 0
def pasS (key salt : ByteArray) (rounds n : Int) : ByteArray := if rounds < 1 ∨ 4096 < rounds then { data := #[] } else if n < 0 ∨ 1024 < n then { data := #[] } else str (pasL key.data.toList salt.data.toList (rounds.toNat - 1) n.toNat)

theorem kpas (key salt : ByteArray) (rounds n : Int) (hk : key.size ≤ 140737488351232) (hs : salt.size ≤ 140737488351232) (w : World) (ht : Tabs w) (h4 : 4 ≤ w.heap.size) :
    Calls Tryd.prog 5 #[.string key, .string salt, .int .i64 rounds, .int .i64 n] w fun e w' => e = .returned (.tuple #[.string (pasS key salt rounds n), .int .i64 (pasE rounds n)]) ∧ Below w.heap.size w w' := by
  by_cases h : rounds < 1 ∨ 4096 < rounds
  · rw [pasS, pasE, if_pos h, if_pos h]
    exact kpbkdf_rounds key salt rounds n h w
  · by_cases h' : n < 0 ∨ 1024 < n
    · rw [pasS, pasE, if_neg h, if_neg h, if_pos h', if_pos h']
      exact kpbkdf_long key salt rounds n (by omega) (by omega) h' w
    · rw [pasS, pasE, if_neg h, if_neg h, if_neg h', if_neg h']
      exact kpbkdf_any key salt rounds n hk hs (by omega) (by omega) (by omega) (by omega) w ht h4
theorem rpas (key salt : ByteArray) (rounds n : Int) (hk : key.size ≤ 140737488351232) (hs : salt.size ≤ 140737488351232) (w : World) (hr : RTabs w) (h4 : 4 ≤ w.heap.size) :
    Calls Tryd.prog 6 #[.string key, .string salt, .int .i64 rounds, .int .i64 n] w fun e w' => e = .returned (.tuple #[.string (pasS key salt rounds n), .int .i64 (pasE rounds n)]) ∧ Below w.heap.size w w' := by
  by_cases h : rounds < 1 ∨ 4096 < rounds
  · rw [pasS, pasE, if_pos h, if_pos h]
    exact rpbkdf_rounds key salt rounds n h w
  · by_cases h' : n < 0 ∨ 1024 < n
    · rw [pasS, pasE, if_neg h, if_neg h, if_pos h', if_pos h']
      exact rpbkdf_long key salt rounds n (by omega) (by omega) h' w
    · rw [pasS, pasE, if_neg h, if_neg h, if_neg h', if_neg h']
      exact rpbkdf_any key salt rounds n hk hs (by omega) (by omega) (by omega) (by omega) w hr h4

set_option maxRecDepth 20000 in
set_option maxHeartbeats 1000000 in
theorem kdfPasses_walk (pass salt : ByteArray) (rounds n : Int) (w : World) (b0 : pass.size ≤ 140737488351232) (b1 : salt.size ≤ 140737488351232) (ht : Tabs w) (hr : RTabs w) (h4 : 4 ≤ w.heap.size) :
    Calls Tryd.prog 3 #[.string pass, .string salt, .int .i64 rounds, .int .i64 n] w fun e w' => e = .returned (.bool true) ∧ Below w.heap.size w w' := by
  have k1 := kpas pass salt rounds n b0 b1
  have r1 := rpas pass salt rounds n b0 b1
  revert k1 r1
  generalize pasS pass salt rounds n = y
  generalize pasE rounds n = en
  intro k1 r1
  go_enter Tryd.func3, Tryd.ntmps3
  go_wp2_with fail
  refine (k1 w ht h4).mono ?_
  rintro e w1 ⟨rfl, hb1⟩
  have z1 := hb1.size
  go_wp2_with fail
  refine (r1 w1 (hr.below hb1 h4) (by omega)).mono ?_
  rintro e w2 ⟨rfl, hb2'⟩
  have hb2 := hb1.trans (hb2'.mono z1)
  clear hb1 hb2'
  go_wp2_with (go_at_call 7; refine (num3_any en _).mono ?_; rintro e w' ⟨rfl, rfl⟩)
  go_ret
  exact ⟨rfl, hb2⟩

end Go.Proofs.YtjjabkimmgcejabDoor
