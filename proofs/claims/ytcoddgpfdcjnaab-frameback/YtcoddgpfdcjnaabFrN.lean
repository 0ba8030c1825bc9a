import Derived.Test.YtcoddgpfdcjnaabFrM
namespace Go.Proofs.Ytcoddgpfdcjnaab.Fr
open Go.RowKit Go.Lib Go.Deep

set_option maxHeartbeats 1000000 in
theorem back_walk (kind other : Int) (b : ByteArray) (least : Int) (hb : b.size ≤ 140737488351232) (w1 : -9223372036854775808 ≤ kind ∧ kind ≤ 9223372036854775807) (w2 : -9223372036854775808 ≤ other ∧ other ≤ 9223372036854775807) (w3 : -9223372036854775808 ≤ least ∧ least ≤ 9223372036854775807) (w : World) :
    Calls Try.prog 5 #[.int .i64 kind, .int .i64 other, .string b, .int .i64 least] w fun e w' => e = .returned (.bool true) ∧ Below w.heap.size w w' := by
  obtain ⟨k, hk1, hk2, c1⟩ := clip_nat kind 1 255 (by omega) w1 (by omega)
  obtain ⟨o, _, ho2, c2⟩ := clip_nat other 0 256 (by omega) w2 (by omega)
  obtain ⟨l, _, hl, c3⟩ := clip_nat least 0 70000 (by omega) w3 (by omega)
  by_cases h0 : 1048571 < b.size
  · have h0' : (1048571 : Int) < (b.size : Int) := by omega
    have c4 := pack_any (k : Int) b 1048576 hb
    have e1 : packE (k : Int) b 1048576 = 90 := by unfold packE; rw [if_neg (by omega), if_neg (by omega), if_pos (by omega)]
    have e2 : packY (k : Int) b 1048576 = { data := #[] } := if_neg (by rw [e1]; decide)
    rw [e1, e2] at c4
    have hnum := num_any 90
    clear e1 e2
    go_enter Try.func5, Try.ntmps5
    go_wp2_with fail
    refine (c1 _).mono ?_
    rintro e w' ⟨rfl, rfl⟩
    go_wp2_with fail
    refine (c2 _).mono ?_
    rintro e w' ⟨rfl, rfl⟩
    go_wp2_with fail
    refine (c3 _).mono ?_
    rintro e w' ⟨rfl, rfl⟩
    go_wp2_with fail
    refine (c4 _).mono ?_
    rintro e w4 ⟨rfl, hb4⟩
    go_wp2_with fail
    refine (hnum _).mono ?_
    rintro e w5 ⟨rfl, rfl⟩
    go_wp2
    go_ret
    exact ⟨rfl, hb4⟩
  · have h0' : ¬ (1048571 : Int) < (b.size : Int) := by omega
    have c4 := size_at b.size l _ (by omega) (by omega) rfl
    have g1 := bk_ge (max (b.size + 5) l)
    have g3 := bk_le (max (b.size + 5) l) (by omega)
    generalize bk (max (b.size + 5) l) = z at *
    have c5 := pack_at k b z (by omega) (by omega) g3
    have hbl : b.data.toList.length = b.size := (size_eq b).symm
    have q1 : (str (frL k b.data.toList z)).size = z := by rw [str_size, frL_length k _ z (by omega)]
    have u1 := unp_pack k b.data.toList z ⟨hk1, hk2⟩ g3 (by omega) (k : Int)
    have u2 := unp_pack k b.data.toList z ⟨hk1, hk2⟩ g3 (by omega) (o : Int)
    rw [if_pos rfl, if_pos rfl, str_of] at u1
    have c6 := unpack_any (k : Int) (str (frL k b.data.toList z))
    have c7 := unpack_any (o : Int) (str (frL k b.data.toList z))
    rw [u1.1, u1.2] at c6
    rw [u2.1, u2.2] at c7
    clear u1 u2
    generalize str (frL k b.data.toList z) = s at *
    have g4 : b.size + 5 ≤ z := by omega
    have g5 : l ≤ z := by omega
    clear g1
    have hnum := num_any 0
    have hnum2 := num_any 92
    by_cases hok : o = k
    · subst hok
      rw [if_pos rfl, if_pos rfl] at c7
      go_enter Try.func5, Try.ntmps5
      go_wp2_with fail
      refine (c1 _).mono ?_
      rintro e w' ⟨rfl, rfl⟩
      go_wp2_with fail
      refine (c2 _).mono ?_
      rintro e w' ⟨rfl, rfl⟩
      go_wp2_with fail
      refine (c3 _).mono ?_
      rintro e w' ⟨rfl, rfl⟩
      go_wp2_with fail
      refine (c4 _).mono ?_
      rintro e w' ⟨rfl, rfl⟩
      go_wp2_with fail
      refine (c5 _).mono ?_
      rintro e w5 ⟨rfl, hb5⟩
      go_wp2_with fail
      refine (hnum _).mono ?_
      rintro e w6 ⟨rfl, rfl⟩
      go_wp2_with fail
      refine (hnum _).mono ?_
      rintro e w6 ⟨rfl, rfl⟩
      go_wp2_with fail
      refine (c6 _).mono ?_
      rintro e w7 ⟨rfl, hb7⟩
      have hb7' := hb5.trans (hb7.mono hb5.size)
      clear hb7 hb5
      go_wp2_with fail
      refine (hnum _).mono ?_
      rintro e w6 ⟨rfl, rfl⟩
      go_wp2_with fail
      refine (c7 _).mono ?_
      rintro e w8 ⟨rfl, hb8⟩
      have hb8' := hb7'.trans (hb8.mono hb7'.size)
      go_wp2
      go_ret
      exact ⟨rfl, hb8'⟩
    · rw [if_neg (by omega), if_neg (by omega)] at c7
      change ∀ w, Calls _ _ _ w (fun e w' => e = .returned (.tuple #[.string { data := #[] }, .int .i64 92]) ∧ _) at c7
      have hok' : ¬ (o : Int) = (k : Int) := by omega
      go_enter Try.func5, Try.ntmps5
      go_wp2_with fail
      refine (c1 _).mono ?_
      rintro e w' ⟨rfl, rfl⟩
      go_wp2_with fail
      refine (c2 _).mono ?_
      rintro e w' ⟨rfl, rfl⟩
      go_wp2_with fail
      refine (c3 _).mono ?_
      rintro e w' ⟨rfl, rfl⟩
      go_wp2_with fail
      refine (c4 _).mono ?_
      rintro e w' ⟨rfl, rfl⟩
      go_wp2_with fail
      refine (c5 _).mono ?_
      rintro e w5 ⟨rfl, hb5⟩
      go_wp2_with fail
      refine (hnum _).mono ?_
      rintro e w6 ⟨rfl, rfl⟩
      go_wp2_with fail
      refine (hnum _).mono ?_
      rintro e w6 ⟨rfl, rfl⟩
      go_wp2_with fail
      refine (c6 _).mono ?_
      rintro e w7 ⟨rfl, hb7⟩
      have hb7' := hb5.trans (hb7.mono hb5.size)
      clear hb7 hb5
      go_wp2_with fail
      refine (hnum _).mono ?_
      rintro e w6 ⟨rfl, rfl⟩
      go_wp2_with fail
      refine (c7 _).mono ?_
      rintro e w8 ⟨rfl, hb8⟩
      have hb8' := hb7'.trans (hb8.mono hb7'.size)
      go_wp2_with fail
      refine (hnum2 _).mono ?_
      rintro e w6 ⟨rfl, rfl⟩
      go_wp2
      go_ret
      exact ⟨rfl, hb8'⟩
end Go.Proofs.Ytcoddgpfdcjnaab.Fr
