import Derived.Test.YtjinhaallkgagaaStepB
namespace Go.Proofs.Ytjinhaallkgagaa
open Go.RowKit Go.Lib Go.Deep

theorem pair_left {w : World} {S : List Nat} {x y : Option Addr} (h : Pair w S x y) : ∃ n : Int, (Calls Try.prog 10 #[.pointer x] w fun e w' => e = .returned (.int .i64 n) ∧ w' = w) ∧ (Calls Try.prog 15 #[.pointer y] w fun e w' => e = .returned (.int .i64 n) ∧ w' = w) := by
  rcases h with ⟨rfl, rfl⟩ | ⟨t, r, g, q, bs, d, rfl, rfl, rfl, h⟩
  · exact ⟨0, left_nil w, refLeft_nil w⟩
  · exact ⟨_, left_tape h.tape, both_left h⟩

theorem pair_drawn {w : World} {S : List Nat} {x y : Option Addr} (h : Pair w S x y) : ∃ n : Int, (Calls Try.prog 11 #[.pointer x] w fun e w' => e = .returned (.int .i64 n) ∧ w' = w) ∧ (Calls Try.prog 16 #[.pointer y] w fun e w' => e = .returned (.int .i64 n) ∧ w' = w) := by
  rcases h with ⟨rfl, rfl⟩ | ⟨t, r, g, q, bs, d, rfl, rfl, rfl, h⟩
  · exact ⟨0, drawn_nil w, refDrawn_nil w⟩
  · exact ⟨_, drawn_tape h.tape, both_drawn h⟩

structure Both (w wr : World) (S T : List Nat) (x y x' y' : Option Addr) : Prop where
  one : Pair wr S x y
  two : Pair wr T x' y'
  below : Below w.heap.size w wr
  apart : ∀ k ∈ S, k ∉ T
  own : ∀ k ∈ S, w.heap.size ≤ k
  own' : ∀ k ∈ T, w.heap.size ≤ k

theorem Both.first {w wr w' : World} {S T : List Nat} {x y x' y' : Option Addr} (h : Both w wr S T x y x' y') (hp : Pair w' S x y) (ho : Only S wr w') : Both w w' S T x y x' y' :=
  ⟨hp, h.two.only ho (fun k hk hs => h.apart k hs hk), h.below.trans (ho.below h.below.size h.own), h.apart, h.own, h.own'⟩

theorem Both.second {w wr w' : World} {S T : List Nat} {x y x' y' : Option Addr} (h : Both w wr S T x y x' y') (hp : Pair w' T x' y') (ho : Only T wr w') : Both w w' S T x y x' y' :=
  ⟨h.one.only ho h.apart, hp, h.below.trans (ho.below h.below.size h.own'), h.apart, h.own, h.own'⟩

set_option maxHeartbeats 2000000 in
set_option maxRecDepth 20000 in
theorem draws_LL (s1 s2 : ByteArray) (b off len cap : Nat) (K A N : Nat → Int) (w : World) (m1 : s1.size ≤ maxLen) (m2 : s2.size ≤ maxLen) (h1 : s1.size ≤ 67108864) (h2 : s2.size ≤ 67108864) (hl : len ≤ cap) (hm : cap ≤ maxLen) (hb : b < w.heap.size)
    (hcell : ∀ i, i < len → w.cell? ⟨b, off + i * 3, none⟩ = some (.int .i64 (K i)) ∧ w.cell? ⟨b, off + i * 3 + 1, none⟩ = some (.int .i64 (A i)) ∧ w.cell? ⟨b, off + i * 3 + 2, none⟩ = some (.int .i64 (N i))) :
    Calls Try.prog 7 #[.string s1, .string s2, .slice (some ⟨b, off, none⟩) len cap] w fun e w' => e = .returned (.bool true) ∧ Below w.heap.size w w' := by
  unfold maxLen at hm
  have HC : Hid (∀ i, i < len → w.cell? ⟨b, off + i * 3, none⟩ = some (.int .i64 (K i)) ∧ w.cell? ⟨b, off + i * 3 + 1, none⟩ = some (.int .i64 (A i)) ∧ w.cell? ⟨b, off + i * 3 + 2, none⟩ = some (.int .i64 (N i))) := hcell
  clear hcell
  have M1 := hidden m1
  have M2 := hidden m2
  have H1 := hidden h1
  have H2 := hidden h2
  clear m1 m2 h1 h2
  go_enter Try.func7, Try.ntmps7
  go_wp2_with (go_at_call 9; refine (num_any _ _).mono ?_; rintro e w' ⟨rfl, rfl⟩)
  refine (new_tape s1 _ H1.out).mono ?_
  rintro e w1 ⟨rfl, ht1, ho1, hz1⟩
  have HZ1 := hidden hz1
  clear hz1
  go_wp2_with (go_at_call 9; refine (num_any _ _).mono ?_; rintro e w' ⟨rfl, rfl⟩)
  refine (new_tape s2 _ H2.out).mono ?_
  rintro e w2 ⟨rfl, ht2, ho2, hz2⟩
  have HZ2 := hidden hz2
  clear hz2
  go_wp2_with (go_at_call 9; refine (num_any _ _).mono ?_; rintro e w' ⟨rfl, rfl⟩)
  refine (refNew_ok s1 _ H1.out).mono ?_
  rintro e w3 ⟨rfl, hw3⟩
  have HE3 := hidden hw3
  clear hw3
  go_wp2_with (go_at_call 9; refine (num_any _ _).mono ?_; rintro e w' ⟨rfl, rfl⟩)
  refine (refNew_ok s2 _ H2.out).mono ?_
  rintro e w4 ⟨rfl, hw4⟩
  have HE4 := hidden hw4
  clear hw4
  have HS : Both w w4 [w.heap.size + 2, w.heap.size + 1, w.heap.size, w2.heap.size] [w1.heap.size + 2, w1.heap.size + 1, w1.heap.size, w3.heap.size] (some ⟨w.heap.size + 2, 0, none⟩) (some ⟨w2.heap.size, 0, none⟩) (some ⟨w1.heap.size + 2, 0, none⟩) (some ⟨w3.heap.size, 0, none⟩) := by
    have z1 := HZ1.out
    have o1 := ho1
    have z2 := HZ2.out
    have o2 := ho2
    have e3 := HE3.out
    have z3 : w3.heap.size = w2.heap.size + 1 := by rw [e3]; simp
    have o3 : Only [] w2 w3 := by rw [e3]; exact (Only.refl _ _).alloc _
    have q3 : w3.heap[w2.heap.size]? = some (.cells #[.string s1, .int .i64 0] 51 (0, 0)) := by rw [e3]; exact heap_new _ _
    have e4 := HE4.out
    have z4 : w4.heap.size = w3.heap.size + 1 := by rw [e4]; simp
    have o4 : Only [] w3 w4 := by rw [e4]; exact (Only.refl _ _).alloc _
    have q4 : w4.heap[w3.heap.size]? = some (.cells #[.string s2, .int .i64 0] 51 (0, 0)) := by rw [e4]; exact heap_new _ _
    have oo := ((o1.trans o2).trans o3).trans o4
    refine ⟨.inr ⟨_, _, _, _, s1.data.toList, 0, rfl, rfl, rfl, ⟨ht1.only ((o2.trans o3).trans o4) (by omega) (by simp) (by simp) (by simp), ⟨s1, rfl, by rw [o4.block _ (by omega) (by simp)]; exact q3⟩, by omega, by omega⟩⟩, .inr ⟨_, _, _, _, s2.data.toList, 0, rfl, rfl, rfl, ⟨ht2.only (o3.trans o4) (by omega) (by simp) (by simp) (by simp), ⟨s2, rfl, q4⟩, by omega, by omega⟩⟩, oo.below (Nat.le_refl _) (by simp), ?_, ?_, ?_⟩
    · intro k hk hk'
      simp at hk hk'
      omega
    · intro k hk
      simp at hk
      omega
    · intro k hk
      simp at hk
      omega
  clear ht1 ho1 HZ1 ht2 ho2 HZ2 HE3 HE4 M1 M2 H1 H2
  go_wp2_with (go_at_call 9; refine (num_any _ _).mono ?_; rintro e w' ⟨rfl, rfl⟩)
  go_loopg [15] len (fun gk si wr => ∃ (k : Nat), k + gk = len ∧ si = .int .i64 k ∧ Both w wr [w.heap.size + 2, w.heap.size + 1, w.heap.size, w2.heap.size] [w1.heap.size + 2, w1.heap.size + 1, w1.heap.size, w3.heap.size] (some ⟨w.heap.size + 2, 0, none⟩) (some ⟨w2.heap.size, 0, none⟩) (some ⟨w1.heap.size + 2, 0, none⟩) (some ⟨w3.heap.size, 0, none⟩))
  case atStart => exact ⟨0, by omega, rfl, HS⟩
  case round =>
    clear HS
    obtain ⟨k, hk, rfl, HB⟩ := hrel
    have hk' : k ≤ len := by omega
    have HK : Hid (k + gk = len) := hk
    clear hk
    by_cases hlt : k < len
    · obtain ⟨g0, g1, g2⟩ := HC.out k hlt
      have f0 : wr.cell? ⟨b, off + k * 3, none⟩ = some (.int .i64 (K k)) := by rw [HB.below.cell (p := ⟨b, off + k * 3, none⟩) hb]; exact g0
      have f1 : wr.cell? ⟨b, off + k * 3 + 1, none⟩ = some (.int .i64 (A k)) := by rw [HB.below.cell (p := ⟨b, off + k * 3 + 1, none⟩) hb]; exact g1
      have f2 : wr.cell? ⟨b, off + k * 3 + 2, none⟩ = some (.int .i64 (N k)) := by rw [HB.below.cell (p := ⟨b, off + k * 3 + 2, none⟩) hb]; exact g2
      clear g0 g1 g2
      generalize K k = kk at f0
      generalize A k = aa at f1
      generalize N k = nn at f2
      by_cases hat : ((aa.tmod 2) == 0) = true
      · go_wp2_with (go_at_call 14; refine (step_any HB.one kk aa nn).mono ?_; rintro e w'' ⟨rfl, hp, ho⟩)
        go_roundg (gk - 1)
        case measure => have := HK.out; omega
        case rel => exact ⟨k + 1, by have := HK.out; omega, by go_num, HB.first hp ho⟩
      · have hat' : ((aa.tmod 2) == 0) = false := by simpa using hat
        clear hat
        go_wp2_with (go_at_call 14; refine (step_any HB.two kk aa nn).mono ?_; rintro e w'' ⟨rfl, hp, ho⟩)
        go_roundg (gk - 1)
        case measure => have := HK.out; omega
        case rel => exact ⟨k + 1, by have := HK.out; omega, by go_num, HB.second hp ho⟩
    · obtain ⟨n1, C1, C2⟩ := pair_left HB.one
      obtain ⟨n2, C3, C4⟩ := pair_drawn HB.two
      have D1 := hidden C1
      have D2 := hidden C2
      have D3 := hidden C3
      have D4 := hidden C4
      have HBB := HB.below
      clear C1 C2 C3 C4 HB
      go_wp2_with (first | (go_at_call 10; refine (D1.out).mono ?_; rintro e w' ⟨rfl, rfl⟩) | (go_at_call 15; refine (D2.out).mono ?_; rintro e w' ⟨rfl, rfl⟩) | (go_at_call 11; refine (D3.out).mono ?_; rintro e w' ⟨rfl, rfl⟩) | (go_at_call 16; refine (D4.out).mono ?_; rintro e w' ⟨rfl, rfl⟩))
      go_ret
      exact ⟨rfl, HBB⟩

set_option maxHeartbeats 2000000 in
set_option maxRecDepth 20000 in
theorem draws_LN (s1 s2 : ByteArray) (b off len cap : Nat) (K A N : Nat → Int) (w : World) (m1 : s1.size ≤ maxLen) (m2 : s2.size ≤ maxLen) (h1 : s1.size ≤ 67108864) (h2 : 67108864 < s2.size) (hl : len ≤ cap) (hm : cap ≤ maxLen) (hb : b < w.heap.size)
    (hcell : ∀ i, i < len → w.cell? ⟨b, off + i * 3, none⟩ = some (.int .i64 (K i)) ∧ w.cell? ⟨b, off + i * 3 + 1, none⟩ = some (.int .i64 (A i)) ∧ w.cell? ⟨b, off + i * 3 + 2, none⟩ = some (.int .i64 (N i))) :
    Calls Try.prog 7 #[.string s1, .string s2, .slice (some ⟨b, off, none⟩) len cap] w fun e w' => e = .returned (.bool true) ∧ Below w.heap.size w w' := by
  unfold maxLen at hm
  have HC : Hid (∀ i, i < len → w.cell? ⟨b, off + i * 3, none⟩ = some (.int .i64 (K i)) ∧ w.cell? ⟨b, off + i * 3 + 1, none⟩ = some (.int .i64 (A i)) ∧ w.cell? ⟨b, off + i * 3 + 2, none⟩ = some (.int .i64 (N i))) := hcell
  clear hcell
  have M1 := hidden m1
  have M2 := hidden m2
  have H1 := hidden h1
  have H2 := hidden h2
  clear m1 m2 h1 h2
  go_enter Try.func7, Try.ntmps7
  go_wp2_with (go_at_call 9; refine (num_any _ _).mono ?_; rintro e w' ⟨rfl, rfl⟩)
  refine (new_tape s1 _ H1.out).mono ?_
  rintro e w1 ⟨rfl, ht1, ho1, hz1⟩
  have HZ1 := hidden hz1
  clear hz1
  go_wp2_with (go_at_call 9; refine (num_any _ _).mono ?_; rintro e w' ⟨rfl, rfl⟩)
  refine (new_big s2 _ H2.out M2.out).mono ?_
  rintro e w2 ⟨rfl, hw2⟩
  have HE2 := hidden hw2
  clear hw2
  go_wp2_with (go_at_call 9; refine (num_any _ _).mono ?_; rintro e w' ⟨rfl, rfl⟩)
  refine (refNew_ok s1 _ H1.out).mono ?_
  rintro e w3 ⟨rfl, hw3⟩
  have HE3 := hidden hw3
  clear hw3
  go_wp2_with (go_at_call 9; refine (num_any _ _).mono ?_; rintro e w' ⟨rfl, rfl⟩)
  refine (refNew_big s2 _ H2.out M2.out).mono ?_
  rintro e w4 ⟨rfl, hw4⟩
  have HE4 := hidden hw4
  clear hw4
  have HS : Both w w4 [w.heap.size + 2, w.heap.size + 1, w.heap.size, w2.heap.size] [] (some ⟨w.heap.size + 2, 0, none⟩) (some ⟨w2.heap.size, 0, none⟩) none none := by
    have z1 := HZ1.out
    have o1 := ho1
    have e2 := HE2.out
    have z2 : w2.heap.size = w1.heap.size := by rw [e2]
    have o2 : Only [] w1 w2 := by rw [e2]; exact Only.refl _ _
    have e3 := HE3.out
    have z3 : w3.heap.size = w2.heap.size + 1 := by rw [e3]; simp
    have o3 : Only [] w2 w3 := by rw [e3]; exact (Only.refl _ _).alloc _
    have q3 : w3.heap[w2.heap.size]? = some (.cells #[.string s1, .int .i64 0] 51 (0, 0)) := by rw [e3]; exact heap_new _ _
    have e4 := HE4.out
    have z4 : w4.heap.size = w3.heap.size := by rw [e4]
    have o4 : Only [] w3 w4 := by rw [e4]; exact Only.refl _ _
    have oo := ((o1.trans o2).trans o3).trans o4
    refine ⟨.inr ⟨_, _, _, _, s1.data.toList, 0, rfl, rfl, rfl, ⟨ht1.only ((o2.trans o3).trans o4) (by omega) (by simp) (by simp) (by simp), ⟨s1, rfl, by rw [o4.block _ (by omega) (by simp)]; exact q3⟩, by omega, by omega⟩⟩, .inl ⟨rfl, rfl⟩, oo.below (Nat.le_refl _) (by simp), ?_, ?_, ?_⟩
    · simp
    · intro k hk
      simp at hk
      omega
    · simp
  clear ht1 ho1 HZ1 HE2 HE3 HE4 M1 M2 H1 H2
  go_wp2_with (go_at_call 9; refine (num_any _ _).mono ?_; rintro e w' ⟨rfl, rfl⟩)
  go_loopg [15] len (fun gk si wr => ∃ (k : Nat), k + gk = len ∧ si = .int .i64 k ∧ Both w wr [w.heap.size + 2, w.heap.size + 1, w.heap.size, w2.heap.size] [] (some ⟨w.heap.size + 2, 0, none⟩) (some ⟨w2.heap.size, 0, none⟩) none none)
  case atStart => exact ⟨0, by omega, rfl, HS⟩
  case round =>
    clear HS
    obtain ⟨k, hk, rfl, HB⟩ := hrel
    have hk' : k ≤ len := by omega
    have HK : Hid (k + gk = len) := hk
    clear hk
    by_cases hlt : k < len
    · obtain ⟨g0, g1, g2⟩ := HC.out k hlt
      have f0 : wr.cell? ⟨b, off + k * 3, none⟩ = some (.int .i64 (K k)) := by rw [HB.below.cell (p := ⟨b, off + k * 3, none⟩) hb]; exact g0
      have f1 : wr.cell? ⟨b, off + k * 3 + 1, none⟩ = some (.int .i64 (A k)) := by rw [HB.below.cell (p := ⟨b, off + k * 3 + 1, none⟩) hb]; exact g1
      have f2 : wr.cell? ⟨b, off + k * 3 + 2, none⟩ = some (.int .i64 (N k)) := by rw [HB.below.cell (p := ⟨b, off + k * 3 + 2, none⟩) hb]; exact g2
      clear g0 g1 g2
      generalize K k = kk at f0
      generalize A k = aa at f1
      generalize N k = nn at f2
      by_cases hat : ((aa.tmod 2) == 0) = true
      · go_wp2_with (go_at_call 14; refine (step_any HB.one kk aa nn).mono ?_; rintro e w'' ⟨rfl, hp, ho⟩)
        go_roundg (gk - 1)
        case measure => have := HK.out; omega
        case rel => exact ⟨k + 1, by have := HK.out; omega, by go_num, HB.first hp ho⟩
      · have hat' : ((aa.tmod 2) == 0) = false := by simpa using hat
        clear hat
        go_wp2_with (go_at_call 14; refine (step_any HB.two kk aa nn).mono ?_; rintro e w'' ⟨rfl, hp, ho⟩)
        go_roundg (gk - 1)
        case measure => have := HK.out; omega
        case rel => exact ⟨k + 1, by have := HK.out; omega, by go_num, HB.second hp ho⟩
    · obtain ⟨n1, C1, C2⟩ := pair_left HB.one
      obtain ⟨n2, C3, C4⟩ := pair_drawn HB.two
      have D1 := hidden C1
      have D2 := hidden C2
      have D3 := hidden C3
      have D4 := hidden C4
      have HBB := HB.below
      clear C1 C2 C3 C4 HB
      go_wp2_with (first | (go_at_call 10; refine (D1.out).mono ?_; rintro e w' ⟨rfl, rfl⟩) | (go_at_call 15; refine (D2.out).mono ?_; rintro e w' ⟨rfl, rfl⟩) | (go_at_call 11; refine (D3.out).mono ?_; rintro e w' ⟨rfl, rfl⟩) | (go_at_call 16; refine (D4.out).mono ?_; rintro e w' ⟨rfl, rfl⟩))
      go_ret
      exact ⟨rfl, HBB⟩

set_option maxHeartbeats 2000000 in
set_option maxRecDepth 20000 in
theorem draws_NL (s1 s2 : ByteArray) (b off len cap : Nat) (K A N : Nat → Int) (w : World) (m1 : s1.size ≤ maxLen) (m2 : s2.size ≤ maxLen) (h1 : 67108864 < s1.size) (h2 : s2.size ≤ 67108864) (hl : len ≤ cap) (hm : cap ≤ maxLen) (hb : b < w.heap.size)
    (hcell : ∀ i, i < len → w.cell? ⟨b, off + i * 3, none⟩ = some (.int .i64 (K i)) ∧ w.cell? ⟨b, off + i * 3 + 1, none⟩ = some (.int .i64 (A i)) ∧ w.cell? ⟨b, off + i * 3 + 2, none⟩ = some (.int .i64 (N i))) :
    Calls Try.prog 7 #[.string s1, .string s2, .slice (some ⟨b, off, none⟩) len cap] w fun e w' => e = .returned (.bool true) ∧ Below w.heap.size w w' := by
  unfold maxLen at hm
  have HC : Hid (∀ i, i < len → w.cell? ⟨b, off + i * 3, none⟩ = some (.int .i64 (K i)) ∧ w.cell? ⟨b, off + i * 3 + 1, none⟩ = some (.int .i64 (A i)) ∧ w.cell? ⟨b, off + i * 3 + 2, none⟩ = some (.int .i64 (N i))) := hcell
  clear hcell
  have M1 := hidden m1
  have M2 := hidden m2
  have H1 := hidden h1
  have H2 := hidden h2
  clear m1 m2 h1 h2
  go_enter Try.func7, Try.ntmps7
  go_wp2_with (go_at_call 9; refine (num_any _ _).mono ?_; rintro e w' ⟨rfl, rfl⟩)
  refine (new_big s1 _ H1.out M1.out).mono ?_
  rintro e w1 ⟨rfl, hw1⟩
  have HE1 := hidden hw1
  clear hw1
  go_wp2_with (go_at_call 9; refine (num_any _ _).mono ?_; rintro e w' ⟨rfl, rfl⟩)
  refine (new_tape s2 _ H2.out).mono ?_
  rintro e w2 ⟨rfl, ht2, ho2, hz2⟩
  have HZ2 := hidden hz2
  clear hz2
  go_wp2_with (go_at_call 9; refine (num_any _ _).mono ?_; rintro e w' ⟨rfl, rfl⟩)
  refine (refNew_big s1 _ H1.out M1.out).mono ?_
  rintro e w3 ⟨rfl, hw3⟩
  have HE3 := hidden hw3
  clear hw3
  go_wp2_with (go_at_call 9; refine (num_any _ _).mono ?_; rintro e w' ⟨rfl, rfl⟩)
  refine (refNew_ok s2 _ H2.out).mono ?_
  rintro e w4 ⟨rfl, hw4⟩
  have HE4 := hidden hw4
  clear hw4
  have HS : Both w w4 [] [w1.heap.size + 2, w1.heap.size + 1, w1.heap.size, w3.heap.size] none none (some ⟨w1.heap.size + 2, 0, none⟩) (some ⟨w3.heap.size, 0, none⟩) := by
    have e1 := HE1.out
    have z1 : w1.heap.size = w.heap.size := by rw [e1]
    have o1 : Only [] w w1 := by rw [e1]; exact Only.refl _ _
    have z2 := HZ2.out
    have o2 := ho2
    have e3 := HE3.out
    have z3 : w3.heap.size = w2.heap.size := by rw [e3]
    have o3 : Only [] w2 w3 := by rw [e3]; exact Only.refl _ _
    have e4 := HE4.out
    have z4 : w4.heap.size = w3.heap.size + 1 := by rw [e4]; simp
    have o4 : Only [] w3 w4 := by rw [e4]; exact (Only.refl _ _).alloc _
    have q4 : w4.heap[w3.heap.size]? = some (.cells #[.string s2, .int .i64 0] 51 (0, 0)) := by rw [e4]; exact heap_new _ _
    have oo := ((o1.trans o2).trans o3).trans o4
    refine ⟨.inl ⟨rfl, rfl⟩, .inr ⟨_, _, _, _, s2.data.toList, 0, rfl, rfl, rfl, ⟨ht2.only (o3.trans o4) (by omega) (by simp) (by simp) (by simp), ⟨s2, rfl, q4⟩, by omega, by omega⟩⟩, oo.below (Nat.le_refl _) (by simp), ?_, ?_, ?_⟩
    · simp
    · simp
    · intro k hk
      simp at hk
      omega
  clear HE1 ht2 ho2 HZ2 HE3 HE4 M1 M2 H1 H2
  go_wp2_with (go_at_call 9; refine (num_any _ _).mono ?_; rintro e w' ⟨rfl, rfl⟩)
  go_loopg [15] len (fun gk si wr => ∃ (k : Nat), k + gk = len ∧ si = .int .i64 k ∧ Both w wr [] [w1.heap.size + 2, w1.heap.size + 1, w1.heap.size, w3.heap.size] none none (some ⟨w1.heap.size + 2, 0, none⟩) (some ⟨w3.heap.size, 0, none⟩))
  case atStart => exact ⟨0, by omega, rfl, HS⟩
  case round =>
    clear HS
    obtain ⟨k, hk, rfl, HB⟩ := hrel
    have hk' : k ≤ len := by omega
    have HK : Hid (k + gk = len) := hk
    clear hk
    by_cases hlt : k < len
    · obtain ⟨g0, g1, g2⟩ := HC.out k hlt
      have f0 : wr.cell? ⟨b, off + k * 3, none⟩ = some (.int .i64 (K k)) := by rw [HB.below.cell (p := ⟨b, off + k * 3, none⟩) hb]; exact g0
      have f1 : wr.cell? ⟨b, off + k * 3 + 1, none⟩ = some (.int .i64 (A k)) := by rw [HB.below.cell (p := ⟨b, off + k * 3 + 1, none⟩) hb]; exact g1
      have f2 : wr.cell? ⟨b, off + k * 3 + 2, none⟩ = some (.int .i64 (N k)) := by rw [HB.below.cell (p := ⟨b, off + k * 3 + 2, none⟩) hb]; exact g2
      clear g0 g1 g2
      generalize K k = kk at f0
      generalize A k = aa at f1
      generalize N k = nn at f2
      by_cases hat : ((aa.tmod 2) == 0) = true
      · go_wp2_with (go_at_call 14; refine (step_any HB.one kk aa nn).mono ?_; rintro e w'' ⟨rfl, hp, ho⟩)
        go_roundg (gk - 1)
        case measure => have := HK.out; omega
        case rel => exact ⟨k + 1, by have := HK.out; omega, by go_num, HB.first hp ho⟩
      · have hat' : ((aa.tmod 2) == 0) = false := by simpa using hat
        clear hat
        go_wp2_with (go_at_call 14; refine (step_any HB.two kk aa nn).mono ?_; rintro e w'' ⟨rfl, hp, ho⟩)
        go_roundg (gk - 1)
        case measure => have := HK.out; omega
        case rel => exact ⟨k + 1, by have := HK.out; omega, by go_num, HB.second hp ho⟩
    · obtain ⟨n1, C1, C2⟩ := pair_left HB.one
      obtain ⟨n2, C3, C4⟩ := pair_drawn HB.two
      have D1 := hidden C1
      have D2 := hidden C2
      have D3 := hidden C3
      have D4 := hidden C4
      have HBB := HB.below
      clear C1 C2 C3 C4 HB
      go_wp2_with (first | (go_at_call 10; refine (D1.out).mono ?_; rintro e w' ⟨rfl, rfl⟩) | (go_at_call 15; refine (D2.out).mono ?_; rintro e w' ⟨rfl, rfl⟩) | (go_at_call 11; refine (D3.out).mono ?_; rintro e w' ⟨rfl, rfl⟩) | (go_at_call 16; refine (D4.out).mono ?_; rintro e w' ⟨rfl, rfl⟩))
      go_ret
      exact ⟨rfl, HBB⟩

set_option maxHeartbeats 2000000 in
set_option maxRecDepth 20000 in
theorem draws_NN (s1 s2 : ByteArray) (b off len cap : Nat) (K A N : Nat → Int) (w : World) (m1 : s1.size ≤ maxLen) (m2 : s2.size ≤ maxLen) (h1 : 67108864 < s1.size) (h2 : 67108864 < s2.size) (hl : len ≤ cap) (hm : cap ≤ maxLen) (hb : b < w.heap.size)
    (hcell : ∀ i, i < len → w.cell? ⟨b, off + i * 3, none⟩ = some (.int .i64 (K i)) ∧ w.cell? ⟨b, off + i * 3 + 1, none⟩ = some (.int .i64 (A i)) ∧ w.cell? ⟨b, off + i * 3 + 2, none⟩ = some (.int .i64 (N i))) :
    Calls Try.prog 7 #[.string s1, .string s2, .slice (some ⟨b, off, none⟩) len cap] w fun e w' => e = .returned (.bool true) ∧ Below w.heap.size w w' := by
  unfold maxLen at hm
  have HC : Hid (∀ i, i < len → w.cell? ⟨b, off + i * 3, none⟩ = some (.int .i64 (K i)) ∧ w.cell? ⟨b, off + i * 3 + 1, none⟩ = some (.int .i64 (A i)) ∧ w.cell? ⟨b, off + i * 3 + 2, none⟩ = some (.int .i64 (N i))) := hcell
  clear hcell
  have M1 := hidden m1
  have M2 := hidden m2
  have H1 := hidden h1
  have H2 := hidden h2
  clear m1 m2 h1 h2
  go_enter Try.func7, Try.ntmps7
  go_wp2_with (go_at_call 9; refine (num_any _ _).mono ?_; rintro e w' ⟨rfl, rfl⟩)
  refine (new_big s1 _ H1.out M1.out).mono ?_
  rintro e w1 ⟨rfl, hw1⟩
  have HE1 := hidden hw1
  clear hw1
  go_wp2_with (go_at_call 9; refine (num_any _ _).mono ?_; rintro e w' ⟨rfl, rfl⟩)
  refine (new_big s2 _ H2.out M2.out).mono ?_
  rintro e w2 ⟨rfl, hw2⟩
  have HE2 := hidden hw2
  clear hw2
  go_wp2_with (go_at_call 9; refine (num_any _ _).mono ?_; rintro e w' ⟨rfl, rfl⟩)
  refine (refNew_big s1 _ H1.out M1.out).mono ?_
  rintro e w3 ⟨rfl, hw3⟩
  have HE3 := hidden hw3
  clear hw3
  go_wp2_with (go_at_call 9; refine (num_any _ _).mono ?_; rintro e w' ⟨rfl, rfl⟩)
  refine (refNew_big s2 _ H2.out M2.out).mono ?_
  rintro e w4 ⟨rfl, hw4⟩
  have HE4 := hidden hw4
  clear hw4
  have HS : Both w w4 [] [] none none none none := by
    have e1 := HE1.out
    have z1 : w1.heap.size = w.heap.size := by rw [e1]
    have o1 : Only [] w w1 := by rw [e1]; exact Only.refl _ _
    have e2 := HE2.out
    have z2 : w2.heap.size = w1.heap.size := by rw [e2]
    have o2 : Only [] w1 w2 := by rw [e2]; exact Only.refl _ _
    have e3 := HE3.out
    have z3 : w3.heap.size = w2.heap.size := by rw [e3]
    have o3 : Only [] w2 w3 := by rw [e3]; exact Only.refl _ _
    have e4 := HE4.out
    have z4 : w4.heap.size = w3.heap.size := by rw [e4]
    have o4 : Only [] w3 w4 := by rw [e4]; exact Only.refl _ _
    have oo := ((o1.trans o2).trans o3).trans o4
    refine ⟨.inl ⟨rfl, rfl⟩, .inl ⟨rfl, rfl⟩, oo.below (Nat.le_refl _) (by simp), ?_, ?_, ?_⟩
    · simp
    · simp
    · simp
  clear HE1 HE2 HE3 HE4 M1 M2 H1 H2
  go_wp2_with (go_at_call 9; refine (num_any _ _).mono ?_; rintro e w' ⟨rfl, rfl⟩)
  go_loopg [15] len (fun gk si wr => ∃ (k : Nat), k + gk = len ∧ si = .int .i64 k ∧ Both w wr [] [] none none none none)
  case atStart => exact ⟨0, by omega, rfl, HS⟩
  case round =>
    clear HS
    obtain ⟨k, hk, rfl, HB⟩ := hrel
    have hk' : k ≤ len := by omega
    have HK : Hid (k + gk = len) := hk
    clear hk
    by_cases hlt : k < len
    · obtain ⟨g0, g1, g2⟩ := HC.out k hlt
      have f0 : wr.cell? ⟨b, off + k * 3, none⟩ = some (.int .i64 (K k)) := by rw [HB.below.cell (p := ⟨b, off + k * 3, none⟩) hb]; exact g0
      have f1 : wr.cell? ⟨b, off + k * 3 + 1, none⟩ = some (.int .i64 (A k)) := by rw [HB.below.cell (p := ⟨b, off + k * 3 + 1, none⟩) hb]; exact g1
      have f2 : wr.cell? ⟨b, off + k * 3 + 2, none⟩ = some (.int .i64 (N k)) := by rw [HB.below.cell (p := ⟨b, off + k * 3 + 2, none⟩) hb]; exact g2
      clear g0 g1 g2
      generalize K k = kk at f0
      generalize A k = aa at f1
      generalize N k = nn at f2
      by_cases hat : ((aa.tmod 2) == 0) = true
      · go_wp2_with (go_at_call 14; refine (step_any HB.one kk aa nn).mono ?_; rintro e w'' ⟨rfl, hp, ho⟩)
        go_roundg (gk - 1)
        case measure => have := HK.out; omega
        case rel => exact ⟨k + 1, by have := HK.out; omega, by go_num, HB.first hp ho⟩
      · have hat' : ((aa.tmod 2) == 0) = false := by simpa using hat
        clear hat
        go_wp2_with (go_at_call 14; refine (step_any HB.two kk aa nn).mono ?_; rintro e w'' ⟨rfl, hp, ho⟩)
        go_roundg (gk - 1)
        case measure => have := HK.out; omega
        case rel => exact ⟨k + 1, by have := HK.out; omega, by go_num, HB.second hp ho⟩
    · obtain ⟨n1, C1, C2⟩ := pair_left HB.one
      obtain ⟨n2, C3, C4⟩ := pair_drawn HB.two
      have D1 := hidden C1
      have D2 := hidden C2
      have D3 := hidden C3
      have D4 := hidden C4
      have HBB := HB.below
      clear C1 C2 C3 C4 HB
      go_wp2_with (first | (go_at_call 10; refine (D1.out).mono ?_; rintro e w' ⟨rfl, rfl⟩) | (go_at_call 15; refine (D2.out).mono ?_; rintro e w' ⟨rfl, rfl⟩) | (go_at_call 11; refine (D3.out).mono ?_; rintro e w' ⟨rfl, rfl⟩) | (go_at_call 16; refine (D4.out).mono ?_; rintro e w' ⟨rfl, rfl⟩))
      go_ret
      exact ⟨rfl, HBB⟩

end Go.Proofs.Ytjinhaallkgagaa
