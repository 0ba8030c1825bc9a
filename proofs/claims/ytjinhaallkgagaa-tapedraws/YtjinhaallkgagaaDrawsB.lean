import Derived.Test.YtjinhaallkgagaaDrawsA
import Derived.LoopN
namespace Go.Proofs.Ytjinhaallkgagaa
open Go.RowKit Go.Lib Go.Deep

set_option maxHeartbeats 2000000 in
set_option maxRecDepth 20000 in
theorem draws_LL0 (s1 s2 : ByteArray) (ao : Option Addr) (cap : Nat) (w : World) (m1 : s1.size ≤ maxLen) (m2 : s2.size ≤ maxLen) (h1 : s1.size ≤ 67108864) (h2 : s2.size ≤ 67108864) :
    Calls Try.prog 7 #[.string s1, .string s2, .slice ao 0 cap] w fun e w' => e = .returned (.bool true) ∧ Below w.heap.size w w' := by
  have M1 := hidden m1
  have M2 := hidden m2
  have H1 := hidden h1
  have H2 := hidden h2
  clear m1 m2 h1 h2
  go_enter Try.func7, Try.ntmps7
  go_wp2_with (go_at_call 9; refine (num_any _ _).mono ?_; rintro e w' ⟨rfl, rfl⟩)
  refine (new_tape s1 _ H1.out).mono ?_
  rintro e w1 ⟨rfl, ht1, ho1, hz1⟩
  have HZ1 := hidden hz1
  clear hz1
  go_wp2_with (go_at_call 9; refine (num_any _ _).mono ?_; rintro e w' ⟨rfl, rfl⟩)
  refine (new_tape s2 _ H2.out).mono ?_
  rintro e w2 ⟨rfl, ht2, ho2, hz2⟩
  have HZ2 := hidden hz2
  clear hz2
  go_wp2_with (go_at_call 9; refine (num_any _ _).mono ?_; rintro e w' ⟨rfl, rfl⟩)
  refine (refNew_ok s1 _ H1.out).mono ?_
  rintro e w3 ⟨rfl, hw3⟩
  have HE3 := hidden hw3
  clear hw3
  go_wp2_with (go_at_call 9; refine (num_any _ _).mono ?_; rintro e w' ⟨rfl, rfl⟩)
  refine (refNew_ok s2 _ H2.out).mono ?_
  rintro e w4 ⟨rfl, hw4⟩
  have HE4 := hidden hw4
  clear hw4
  have HS : Both w w4 [w.heap.size + 2, w.heap.size + 1, w.heap.size, w2.heap.size] [w1.heap.size + 2, w1.heap.size + 1, w1.heap.size, w3.heap.size] (some ⟨w.heap.size + 2, 0, none⟩) (some ⟨w2.heap.size, 0, none⟩) (some ⟨w1.heap.size + 2, 0, none⟩) (some ⟨w3.heap.size, 0, none⟩) := by
    have z1 := HZ1.out
    have o1 := ho1
    have z2 := HZ2.out
    have o2 := ho2
    have e3 := HE3.out
    have z3 : w3.heap.size = w2.heap.size + 1 := by rw [e3]; simp
    have o3 : Only [] w2 w3 := by rw [e3]; exact (Only.refl _ _).alloc _
    have q3 : w3.heap[w2.heap.size]? = some (.cells #[.string s1, .int .i64 0] 51 (0, 0)) := by rw [e3]; exact heap_new _ _
    have e4 := HE4.out
    have z4 : w4.heap.size = w3.heap.size + 1 := by rw [e4]; simp
    have o4 : Only [] w3 w4 := by rw [e4]; exact (Only.refl _ _).alloc _
    have q4 : w4.heap[w3.heap.size]? = some (.cells #[.string s2, .int .i64 0] 51 (0, 0)) := by rw [e4]; exact heap_new _ _
    have oo := ((o1.trans o2).trans o3).trans o4
    refine ⟨.inr ⟨_, _, _, _, s1.data.toList, 0, rfl, rfl, rfl, ⟨ht1.only ((o2.trans o3).trans o4) (by omega) (by simp) (by simp) (by simp), ⟨s1, rfl, by rw [o4.block _ (by omega) (by simp)]; exact q3⟩, by omega, by omega⟩⟩, .inr ⟨_, _, _, _, s2.data.toList, 0, rfl, rfl, rfl, ⟨ht2.only (o3.trans o4) (by omega) (by simp) (by simp) (by simp), ⟨s2, rfl, q4⟩, by omega, by omega⟩⟩, oo.below (Nat.le_refl _) (by simp), ?_, ?_, ?_⟩
    · intro k hk hk'
      simp at hk hk'
      omega
    · intro k hk
      simp at hk
      omega
    · intro k hk
      simp at hk
      omega
  clear ht1 ho1 HZ1 ht2 ho2 HZ2 HE3 HE4 M1 M2 H1 H2
  go_wp2_with (go_at_call 9; refine (num_any _ _).mono ?_; rintro e w' ⟨rfl, rfl⟩)
  refine wp_loop_rounds 1 ?_
  rw [rounds_succ]
  have HB := HS
  clear HS
  obtain ⟨n1, C1, C2⟩ := pair_left HB.one
  obtain ⟨n2, C3, C4⟩ := pair_drawn HB.two
  have D1 := hidden C1
  have D2 := hidden C2
  have D3 := hidden C3
  have D4 := hidden C4
  have HBB := HB.below
  clear C1 C2 C3 C4 HB
  go_wp2_with (first | (go_at_call 10; refine (D1.out).mono ?_; rintro e w' ⟨rfl, rfl⟩) | (go_at_call 15; refine (D2.out).mono ?_; rintro e w' ⟨rfl, rfl⟩) | (go_at_call 11; refine (D3.out).mono ?_; rintro e w' ⟨rfl, rfl⟩) | (go_at_call 16; refine (D4.out).mono ?_; rintro e w' ⟨rfl, rfl⟩))
  go_ret
  exact ⟨rfl, HBB⟩

set_option maxHeartbeats 2000000 in
set_option maxRecDepth 20000 in
theorem draws_LN0 (s1 s2 : ByteArray) (ao : Option Addr) (cap : Nat) (w : World) (m1 : s1.size ≤ maxLen) (m2 : s2.size ≤ maxLen) (h1 : s1.size ≤ 67108864) (h2 : 67108864 < s2.size) :
    Calls Try.prog 7 #[.string s1, .string s2, .slice ao 0 cap] w fun e w' => e = .returned (.bool true) ∧ Below w.heap.size w w' := by
  have M1 := hidden m1
  have M2 := hidden m2
  have H1 := hidden h1
  have H2 := hidden h2
  clear m1 m2 h1 h2
  go_enter Try.func7, Try.ntmps7
  go_wp2_with (go_at_call 9; refine (num_any _ _).mono ?_; rintro e w' ⟨rfl, rfl⟩)
  refine (new_tape s1 _ H1.out).mono ?_
  rintro e w1 ⟨rfl, ht1, ho1, hz1⟩
  have HZ1 := hidden hz1
  clear hz1
  go_wp2_with (go_at_call 9; refine (num_any _ _).mono ?_; rintro e w' ⟨rfl, rfl⟩)
  refine (new_big s2 _ H2.out M2.out).mono ?_
  rintro e w2 ⟨rfl, hw2⟩
  have HE2 := hidden hw2
  clear hw2
  go_wp2_with (go_at_call 9; refine (num_any _ _).mono ?_; rintro e w' ⟨rfl, rfl⟩)
  refine (refNew_ok s1 _ H1.out).mono ?_
  rintro e w3 ⟨rfl, hw3⟩
  have HE3 := hidden hw3
  clear hw3
  go_wp2_with (go_at_call 9; refine (num_any _ _).mono ?_; rintro e w' ⟨rfl, rfl⟩)
  refine (refNew_big s2 _ H2.out M2.out).mono ?_
  rintro e w4 ⟨rfl, hw4⟩
  have HE4 := hidden hw4
  clear hw4
  have HS : Both w w4 [w.heap.size + 2, w.heap.size + 1, w.heap.size, w2.heap.size] [] (some ⟨w.heap.size + 2, 0, none⟩) (some ⟨w2.heap.size, 0, none⟩) none none := by
    have z1 := HZ1.out
    have o1 := ho1
    have e2 := HE2.out
    have z2 : w2.heap.size = w1.heap.size := by rw [e2]
    have o2 : Only [] w1 w2 := by rw [e2]; exact Only.refl _ _
    have e3 := HE3.out
    have z3 : w3.heap.size = w2.heap.size + 1 := by rw [e3]; simp
    have o3 : Only [] w2 w3 := by rw [e3]; exact (Only.refl _ _).alloc _
    have q3 : w3.heap[w2.heap.size]? = some (.cells #[.string s1, .int .i64 0] 51 (0, 0)) := by rw [e3]; exact heap_new _ _
    have e4 := HE4.out
    have z4 : w4.heap.size = w3.heap.size := by rw [e4]
    have o4 : Only [] w3 w4 := by rw [e4]; exact Only.refl _ _
    have oo := ((o1.trans o2).trans o3).trans o4
    refine ⟨.inr ⟨_, _, _, _, s1.data.toList, 0, rfl, rfl, rfl, ⟨ht1.only ((o2.trans o3).trans o4) (by omega) (by simp) (by simp) (by simp), ⟨s1, rfl, by rw [o4.block _ (by omega) (by simp)]; exact q3⟩, by omega, by omega⟩⟩, .inl ⟨rfl, rfl⟩, oo.below (Nat.le_refl _) (by simp), ?_, ?_, ?_⟩
    · simp
    · intro k hk
      simp at hk
      omega
    · simp
  clear ht1 ho1 HZ1 HE2 HE3 HE4 M1 M2 H1 H2
  go_wp2_with (go_at_call 9; refine (num_any _ _).mono ?_; rintro e w' ⟨rfl, rfl⟩)
  refine wp_loop_rounds 1 ?_
  rw [rounds_succ]
  have HB := HS
  clear HS
  obtain ⟨n1, C1, C2⟩ := pair_left HB.one
  obtain ⟨n2, C3, C4⟩ := pair_drawn HB.two
  have D1 := hidden C1
  have D2 := hidden C2
  have D3 := hidden C3
  have D4 := hidden C4
  have HBB := HB.below
  clear C1 C2 C3 C4 HB
  go_wp2_with (first | (go_at_call 10; refine (D1.out).mono ?_; rintro e w' ⟨rfl, rfl⟩) | (go_at_call 15; refine (D2.out).mono ?_; rintro e w' ⟨rfl, rfl⟩) | (go_at_call 11; refine (D3.out).mono ?_; rintro e w' ⟨rfl, rfl⟩) | (go_at_call 16; refine (D4.out).mono ?_; rintro e w' ⟨rfl, rfl⟩))
  go_ret
  exact ⟨rfl, HBB⟩

set_option maxHeartbeats 2000000 in
set_option maxRecDepth 20000 in
theorem draws_NL0 (s1 s2 : ByteArray) (ao : Option Addr) (cap : Nat) (w : World) (m1 : s1.size ≤ maxLen) (m2 : s2.size ≤ maxLen) (h1 : 67108864 < s1.size) (h2 : s2.size ≤ 67108864) :
    Calls Try.prog 7 #[.string s1, .string s2, .slice ao 0 cap] w fun e w' => e = .returned (.bool true) ∧ Below w.heap.size w w' := by
  have M1 := hidden m1
  have M2 := hidden m2
  have H1 := hidden h1
  have H2 := hidden h2
  clear m1 m2 h1 h2
  go_enter Try.func7, Try.ntmps7
  go_wp2_with (go_at_call 9; refine (num_any _ _).mono ?_; rintro e w' ⟨rfl, rfl⟩)
  refine (new_big s1 _ H1.out M1.out).mono ?_
  rintro e w1 ⟨rfl, hw1⟩
  have HE1 := hidden hw1
  clear hw1
  go_wp2_with (go_at_call 9; refine (num_any _ _).mono ?_; rintro e w' ⟨rfl, rfl⟩)
  refine (new_tape s2 _ H2.out).mono ?_
  rintro e w2 ⟨rfl, ht2, ho2, hz2⟩
  have HZ2 := hidden hz2
  clear hz2
  go_wp2_with (go_at_call 9; refine (num_any _ _).mono ?_; rintro e w' ⟨rfl, rfl⟩)
  refine (refNew_big s1 _ H1.out M1.out).mono ?_
  rintro e w3 ⟨rfl, hw3⟩
  have HE3 := hidden hw3
  clear hw3
  go_wp2_with (go_at_call 9; refine (num_any _ _).mono ?_; rintro e w' ⟨rfl, rfl⟩)
  refine (refNew_ok s2 _ H2.out).mono ?_
  rintro e w4 ⟨rfl, hw4⟩
  have HE4 := hidden hw4
  clear hw4
  have HS : Both w w4 [] [w1.heap.size + 2, w1.heap.size + 1, w1.heap.size, w3.heap.size] none none (some ⟨w1.heap.size + 2, 0, none⟩) (some ⟨w3.heap.size, 0, none⟩) := by
    have e1 := HE1.out
    have z1 : w1.heap.size = w.heap.size := by rw [e1]
    have o1 : Only [] w w1 := by rw [e1]; exact Only.refl _ _
    have z2 := HZ2.out
    have o2 := ho2
    have e3 := HE3.out
    have z3 : w3.heap.size = w2.heap.size := by rw [e3]
    have o3 : Only [] w2 w3 := by rw [e3]; exact Only.refl _ _
    have e4 := HE4.out
    have z4 : w4.heap.size = w3.heap.size + 1 := by rw [e4]; simp
    have o4 : Only [] w3 w4 := by rw [e4]; exact (Only.refl _ _).alloc _
    have q4 : w4.heap[w3.heap.size]? = some (.cells #[.string s2, .int .i64 0] 51 (0, 0)) := by rw [e4]; exact heap_new _ _
    have oo := ((o1.trans o2).trans o3).trans o4
    refine ⟨.inl ⟨rfl, rfl⟩, .inr ⟨_, _, _, _, s2.data.toList, 0, rfl, rfl, rfl, ⟨ht2.only (o3.trans o4) (by omega) (by simp) (by simp) (by simp), ⟨s2, rfl, q4⟩, by omega, by omega⟩⟩, oo.below (Nat.le_refl _) (by simp), ?_, ?_, ?_⟩
    · simp
    · simp
    · intro k hk
      simp at hk
      omega
  clear HE1 ht2 ho2 HZ2 HE3 HE4 M1 M2 H1 H2
  go_wp2_with (go_at_call 9; refine (num_any _ _).mono ?_; rintro e w' ⟨rfl, rfl⟩)
  refine wp_loop_rounds 1 ?_
  rw [rounds_succ]
  have HB := HS
  clear HS
  obtain ⟨n1, C1, C2⟩ := pair_left HB.one
  obtain ⟨n2, C3, C4⟩ := pair_drawn HB.two
  have D1 := hidden C1
  have D2 := hidden C2
  have D3 := hidden C3
  have D4 := hidden C4
  have HBB := HB.below
  clear C1 C2 C3 C4 HB
  go_wp2_with (first | (go_at_call 10; refine (D1.out).mono ?_; rintro e w' ⟨rfl, rfl⟩) | (go_at_call 15; refine (D2.out).mono ?_; rintro e w' ⟨rfl, rfl⟩) | (go_at_call 11; refine (D3.out).mono ?_; rintro e w' ⟨rfl, rfl⟩) | (go_at_call 16; refine (D4.out).mono ?_; rintro e w' ⟨rfl, rfl⟩))
  go_ret
  exact ⟨rfl, HBB⟩

set_option maxHeartbeats 2000000 in
set_option maxRecDepth 20000 in
theorem draws_NN0 (s1 s2 : ByteArray) (ao : Option Addr) (cap : Nat) (w : World) (m1 : s1.size ≤ maxLen) (m2 : s2.size ≤ maxLen) (h1 : 67108864 < s1.size) (h2 : 67108864 < s2.size) :
    Calls Try.prog 7 #[.string s1, .string s2, .slice ao 0 cap] w fun e w' => e = .returned (.bool true) ∧ Below w.heap.size w w' := by
  have M1 := hidden m1
  have M2 := hidden m2
  have H1 := hidden h1
  have H2 := hidden h2
  clear m1 m2 h1 h2
  go_enter Try.func7, Try.ntmps7
  go_wp2_with (go_at_call 9; refine (num_any _ _).mono ?_; rintro e w' ⟨rfl, rfl⟩)
  refine (new_big s1 _ H1.out M1.out).mono ?_
  rintro e w1 ⟨rfl, hw1⟩
  have HE1 := hidden hw1
  clear hw1
  go_wp2_with (go_at_call 9; refine (num_any _ _).mono ?_; rintro e w' ⟨rfl, rfl⟩)
  refine (new_big s2 _ H2.out M2.out).mono ?_
  rintro e w2 ⟨rfl, hw2⟩
  have HE2 := hidden hw2
  clear hw2
  go_wp2_with (go_at_call 9; refine (num_any _ _).mono ?_; rintro e w' ⟨rfl, rfl⟩)
  refine (refNew_big s1 _ H1.out M1.out).mono ?_
  rintro e w3 ⟨rfl, hw3⟩
  have HE3 := hidden hw3
  clear hw3
  go_wp2_with (go_at_call 9; refine (num_any _ _).mono ?_; rintro e w' ⟨rfl, rfl⟩)
  refine (refNew_big s2 _ H2.out M2.out).mono ?_
  rintro e w4 ⟨rfl, hw4⟩
  have HE4 := hidden hw4
  clear hw4
  have HS : Both w w4 [] [] none none none none := by
    have e1 := HE1.out
    have z1 : w1.heap.size = w.heap.size := by rw [e1]
    have o1 : Only [] w w1 := by rw [e1]; exact Only.refl _ _
    have e2 := HE2.out
    have z2 : w2.heap.size = w1.heap.size := by rw [e2]
    have o2 : Only [] w1 w2 := by rw [e2]; exact Only.refl _ _
    have e3 := HE3.out
    have z3 : w3.heap.size = w2.heap.size := by rw [e3]
    have o3 : Only [] w2 w3 := by rw [e3]; exact Only.refl _ _
    have e4 := HE4.out
    have z4 : w4.heap.size = w3.heap.size := by rw [e4]
    have o4 : Only [] w3 w4 := by rw [e4]; exact Only.refl _ _
    have oo := ((o1.trans o2).trans o3).trans o4
    refine ⟨.inl ⟨rfl, rfl⟩, .inl ⟨rfl, rfl⟩, oo.below (Nat.le_refl _) (by simp), ?_, ?_, ?_⟩
    · simp
    · simp
    · simp
  clear HE1 HE2 HE3 HE4 M1 M2 H1 H2
  go_wp2_with (go_at_call 9; refine (num_any _ _).mono ?_; rintro e w' ⟨rfl, rfl⟩)
  refine wp_loop_rounds 1 ?_
  rw [rounds_succ]
  have HB := HS
  clear HS
  obtain ⟨n1, C1, C2⟩ := pair_left HB.one
  obtain ⟨n2, C3, C4⟩ := pair_drawn HB.two
  have D1 := hidden C1
  have D2 := hidden C2
  have D3 := hidden C3
  have D4 := hidden C4
  have HBB := HB.below
  clear C1 C2 C3 C4 HB
  go_wp2_with (first | (go_at_call 10; refine (D1.out).mono ?_; rintro e w' ⟨rfl, rfl⟩) | (go_at_call 15; refine (D2.out).mono ?_; rintro e w' ⟨rfl, rfl⟩) | (go_at_call 11; refine (D3.out).mono ?_; rintro e w' ⟨rfl, rfl⟩) | (go_at_call 16; refine (D4.out).mono ?_; rintro e w' ⟨rfl, rfl⟩))
  go_ret
  exact ⟨rfl, HBB⟩

end Go.Proofs.Ytjinhaallkgagaa
