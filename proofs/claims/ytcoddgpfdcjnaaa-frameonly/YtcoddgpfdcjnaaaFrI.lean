import Derived.Test.YtcoddgpfdcjnaaaFrG
namespace Go.Proofs.Ytcoddgpfdcjnaaa.Fr
open Go.RowKit Go.Lib Go.Deep

set_option maxHeartbeats 1000000 in
theorem only_walk (k : Int) (t : ByteArray) (ht : t.size ≤ 140737488351232) (w : World) : Calls Try.prog 7 #[.int .i64 k, .string t] w fun e w' => e = .returned (.bool true) ∧ Below w.heap.size w w' := by
  have c1 := pack_any 7 { data := #[120] } 8 (by decide)
  have e1 : packE 7 { data := #[120] } 8 = 0 := by decide
  have e2 : packY 7 { data := #[120] } 8 = str (frL 7 [120] 8) := if_pos e1
  have e3 := unp_pack 7 [120] 8 (by omega) (by omega) (by simp) 7
  have c2 := unpack_any 7 (str (frL 7 [120] 8))
  rw [e1, e2] at c1
  rw [e3.1, e3.2] at c2
  generalize str (frL 7 [120] 8) = p at c1 c2
  change ∀ w, Calls _ _ _ w (fun e w' => e = .returned (.tuple #[.string { data := #[120] }, .int .i64 0]) ∧ _) at c2
  have c3 := unpack_any k t
  have hn0 := num_any 0
  by_cases h : unpE k t = 0
  · obtain ⟨h1, h2⟩ := pack_unp k t h
    have hy := unpY_size k t
    have c4 := pack_any k (unpY k t) (t.size : Int) (Nat.le_trans hy ht)
    rw [h1, h2] at c4
    rw [h] at c3
    clear h1 h2 h hy
    generalize unpY k t = y at c3 c4
    go_enter Try.func7, Try.ntmps7
    go_wp2_with fail
    refine (c1 _).mono ?_
    rintro e w1 ⟨rfl, hb1⟩
    go_wp2_with fail
    refine (c2 _).mono ?_
    rintro e w2 ⟨rfl, hb2⟩
    have hb2' := hb1.trans (hb2.mono hb1.size)
    clear hb1 hb2
    go_wp2_with fail
    refine (hn0 _).mono ?_
    rintro e w3 ⟨rfl, rfl⟩
    go_wp2_with fail
    refine (hn0 _).mono ?_
    rintro e w3 ⟨rfl, rfl⟩
    go_wp2_with fail
    refine (c3 _).mono ?_
    rintro e w4 ⟨rfl, hb4⟩
    have hb4' := hb2'.trans (hb4.mono hb2'.size)
    clear hb4
    go_wp2_with fail
    refine (hn0 _).mono ?_
    rintro e w3 ⟨rfl, rfl⟩
    go_wp2_with fail
    refine (c4 _).mono ?_
    rintro e w5 ⟨rfl, hb5⟩
    have hb5' := hb4'.trans (hb5.mono hb4'.size)
    clear hb5
    go_wp2_with fail
    refine (hn0 _).mono ?_
    rintro e w3 ⟨rfl, rfl⟩
    go_wp2
    go_ret
    exact ⟨rfl, hb5'⟩
  · have hy : unpY k t = { data := #[] } := if_neg h
    rw [hy] at c3
    clear hy
    have hn1 := num_any (unpE k t)
    generalize unpE k t = E at c3 hn1 h
    go_enter Try.func7, Try.ntmps7
    go_wp2_with fail
    refine (c1 _).mono ?_
    rintro e w1 ⟨rfl, hb1⟩
    go_wp2_with fail
    refine (c2 _).mono ?_
    rintro e w2 ⟨rfl, hb2⟩
    have hb2' := hb1.trans (hb2.mono hb1.size)
    clear hb1 hb2
    go_wp2_with fail
    refine (hn0 _).mono ?_
    rintro e w3 ⟨rfl, rfl⟩
    go_wp2_with fail
    refine (hn0 _).mono ?_
    rintro e w3 ⟨rfl, rfl⟩
    go_wp2_with fail
    refine (c3 _).mono ?_
    rintro e w4 ⟨rfl, hb4⟩
    have hb4' := hb2'.trans (hb4.mono hb2'.size)
    clear hb4
    go_wp2_with fail
    refine (hn1 _).mono ?_
    rintro e w3 ⟨rfl, rfl⟩
    go_wp2
    go_ret
    exact ⟨rfl, hb4'⟩
end Go.Proofs.Ytcoddgpfdcjnaaa.Fr
