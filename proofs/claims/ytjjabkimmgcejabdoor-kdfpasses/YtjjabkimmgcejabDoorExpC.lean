import Derived.Test.YtjjabkimmgcejabDoorExpA
import Derived.Test.YtjjabkimmgcejabDoorExpB
import Derived.Test.YtjjabkimmgcejabDoorExtA
namespace Go.Proofs.YtjjabkimmgcejabDoor
open Go.RowKit Go.Lib

theorem rextract_any (salt secret : ByteArray) (h1 : salt.size ≤ 140737488351232) (h2 : secret.size ≤ 140737488351232) (w : World) (hr : RTabs w) (h4 : 4 ≤ w.heap.size) :
    Calls Tryd.prog 9 #[.string salt, .string secret] w fun e w' => e = .returned (.string (str (hmacL salt.data.toList secret.data.toList))) ∧ Below w.heap.size w w' := by
  have hh := keyed_any salt secret (by omega) (by omega) w hr h4
  go_enter Tryd.func9, Tryd.ntmps9
  go_wp2_with (go_at_call 16; refine hh.mono ?_; rintro e w1 ⟨rfl, hb1⟩)
  go_ret
  exact ⟨rfl, hb1⟩

/-- what both Expands answer -/
def expS (key info : ByteArray) (n : Int) : ByteArray := if 0 ≤ n ∧ n ≤ 8160 then str (expL key.data.toList info.data.toList n.toNat) else { data := #[] }
def expE (n : Int) : Int := if 0 ≤ n ∧ n ≤ 8160 then 0 else 31
theorem kexp (key info : ByteArray) (n : Int) (hk : key.size ≤ 140737488351232) (hin : info.size ≤ 140737488351232) (w : World) (ht : Tabs w) (h4 : 4 ≤ w.heap.size) :
    Calls Tryd.prog 10 #[.string key, .string info, .int .i64 n] w fun e w' => e = .returned (.tuple #[.string (expS key info n), .int .i64 (expE n)]) ∧ Below w.heap.size w w' := by
  by_cases h : 0 ≤ n ∧ n ≤ 8160
  · unfold expS expE
    rw [if_pos h, if_pos h]
    exact kexpand_any key info n hk hin h.1 h.2 w ht h4
  · unfold expS expE
    rw [if_neg h, if_neg h]
    exact kexpand_bad key info n (by omega) w
theorem rexp (key info : ByteArray) (n : Int) (hk : key.size ≤ 140737488351232) (hin : info.size ≤ 140737488351232) (w : World) (hr : RTabs w) (h4 : 4 ≤ w.heap.size) :
    Calls Tryd.prog 11 #[.string key, .string info, .int .i64 n] w fun e w' => e = .returned (.tuple #[.string (expS key info n), .int .i64 (expE n)]) ∧ Below w.heap.size w w' := by
  by_cases h : 0 ≤ n ∧ n ≤ 8160
  · unfold expS expE
    rw [if_pos h, if_pos h]
    exact rexpand_any key info n hk hin h.1 h.2 w hr h4
  · unfold expS expE
    rw [if_neg h, if_neg h]
    exact rexpand_bad key info n (by omega) w

set_option maxRecDepth 20000 in
set_option maxHeartbeats 1000000 in
theorem kdfExpands_walk (salt secret info : ByteArray) (n : Int) (w : World) (b0 : salt.size ≤ 140737488351232) (b1 : secret.size ≤ 140737488351232) (b2 : info.size ≤ 140737488351232) (ht : Tabs w) (hr : RTabs w) (h4 : 4 ≤ w.heap.size) :
    Calls Tryd.prog 4 #[.string salt, .string secret, .string info, .int .i64 n] w fun e w' => e = .returned (.bool true) ∧ Below w.heap.size w w' := by
  have hke := kextract_any salt secret b0 b1
  have hre := rextract_any salt secret b0 b1
  have hp32 : (str (hmacL salt.data.toList secret.data.toList)).size ≤ 140737488351232 := by rw [str_size, hmacL_length]; omega
  revert hke hre hp32
  generalize str (hmacL salt.data.toList secret.data.toList) = p
  intro hke hre hp32
  have k1 := kexp p info n hp32 b2
  have r1 := rexp p info n hp32 b2
  have k2 := kexp secret info n b1 b2
  have r2 := rexp secret info n b1 b2
  revert k1 r1 k2 r2
  generalize expS p info n = y1
  generalize expS secret info n = y2
  generalize expE n = en
  intro k1 r1 k2 r2
  go_enter Tryd.func4, Tryd.ntmps4
  go_wp2_with fail
  refine (hke w ht h4).mono ?_
  rintro e w1 ⟨rfl, hb1⟩
  have z1 := hb1.size
  go_wp2_with fail
  refine (hre w1 (hr.below hb1 h4) (by omega)).mono ?_
  rintro e w2 ⟨rfl, hb2'⟩
  have hb2 := hb1.trans (hb2'.mono z1)
  clear hb1 hb2'
  have z2 := hb2.size
  go_wp2_with fail
  refine (k1 w2 (ht.below hb2 (by omega)) (by omega)).mono ?_
  rintro e w3 ⟨rfl, hb3'⟩
  have hb3 := hb2.trans (hb3'.mono z2)
  clear hb2 hb3'
  have z3 := hb3.size
  go_wp2_with fail
  refine (r1 w3 (hr.below hb3 h4) (by omega)).mono ?_
  rintro e w4 ⟨rfl, hb4'⟩
  have hb4 := hb3.trans (hb4'.mono z3)
  clear hb3 hb4'
  have z4 := hb4.size
  go_wp2_with (go_at_call 7; refine (num3_any en _).mono ?_; rintro e w' ⟨rfl, rfl⟩)
  refine (k2 w4 (ht.below hb4 (by omega)) (by omega)).mono ?_
  rintro e w5 ⟨rfl, hb5'⟩
  have hb5 := hb4.trans (hb5'.mono z4)
  clear hb4 hb5'
  have z5 := hb5.size
  go_wp2_with fail
  refine (r2 w5 (hr.below hb5 h4) (by omega)).mono ?_
  rintro e w6 ⟨rfl, hb6'⟩
  have hb6 := hb5.trans (hb6'.mono z5)
  clear hb5 hb6'
  go_wp2_with (go_at_call 7; refine (num3_any en _).mono ?_; rintro e w' ⟨rfl, rfl⟩)
  go_ret
  exact ⟨rfl, hb6⟩

end Go.Proofs.YtjjabkimmgcejabDoor
