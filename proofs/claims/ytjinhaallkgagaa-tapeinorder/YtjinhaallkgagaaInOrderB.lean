import Derived.Test.YtjinhaallkgagaaInOrderA
namespace Go.Proofs.Ytjinhaallkgagaa
open Go.RowKit Go.Lib Go.Deep

theorem slice_str (s : ByteArray) (a m : Nat) (h : a + m ≤ s.size) (w : World) :
    (Instr.slice 9 (.string s) (some (.int .i64 (a : Int))) (some (.int .i64 ((a : Int) + (m : Int)))) none).run Try.prog w = .ok (.string (s.extract a (a + m))) w := by
  rw [run_slice_string (P := Try.prog) (w := w) 9 s .i64 .i64 (a : Int) ((a : Int) + (m : Int)) Try.underlying9 (by omega) (by omega) (by omega)]
  rw [show ((a : Int) + (m : Int)).toNat = a + m from by omega, Int.toNat_natCast]

set_option maxHeartbeats 1000000 in
set_option maxRecDepth 20000 in
theorem inOrder_walk (a0 : ByteArray) (b off len cap : Nat) (zs : List Int) (w : World) (h : a0.size ≤ 67108864) (hl : len ≤ cap) (hm : cap ≤ maxLen) (hz : zs.length = cap)
    (hcell : ∀ i, i < zs.length → w.cell? ⟨b, off + i, none⟩ = some (.int .i64 (zs.getD i 0))) (hb : b < w.heap.size) :
    Calls Try.prog 4 #[.string a0, .slice (some ⟨b, off, none⟩) len cap] w fun e w' => e = .returned (.bool true) ∧ Below w.heap.size w w' := by
  unfold maxLen at hm
  have h1 : ¬ (67108864 : Int) < (a0.size : Int) := by omega
  have HC : Hid (∀ i, i < zs.length → w.cell? ⟨b, off + i, none⟩ = some (.int .i64 (zs.getD i 0))) := hcell
  clear hcell
  go_enter Try.func4, Try.ntmps4
  go_wp2_with (first | (go_at_call 8; refine (new_tape a0 _ h).mono ?_; rintro e w' ⟨rfl, ht, ho, hz'⟩) | (go_at_call 9; refine (num_any _ _).mono ?_; rintro e w' ⟨rfl, rfl⟩))
  have HS : InOrder a0 (w.heap.size + 2) (w.heap.size + 1) w.heap.size w w' false 0 := ⟨Nat.zero_le _, by simpa [restOf] using ht, ho.below (Nat.le_refl _) (by simp), by omega, by omega⟩
  clear ht ho hz'
  go_loopg [7, 8, 9] len (fun gk sa sd si wr => ∃ (k all : Nat) (dry : Bool), k + gk = len ∧ si = .int .i64 k ∧ sa = .int .i64 all ∧ sd = .bool dry ∧ InOrder a0 (w.heap.size + 2) (w.heap.size + 1) w.heap.size w wr dry all)
  case atStart => exact ⟨0, 0, false, by omega, rfl, rfl, rfl, HS⟩
  case round =>
    clear HS
    obtain ⟨k, all, dry, hk, rfl, rfl, rfl, HI⟩ := hrel
    have hk' : k ≤ len := by omega
    have HK : Hid (k + gk = len) := hk
    clear hk
    by_cases hlt : k < len
    · have HT := HI.2.1
      have hall := HI.1
      have hc : wr.cell? ⟨b, off + k, none⟩ = some (.int .i64 (zs.getD k 0)) := by rw [HI.2.2.1.cell (p := ⟨b, off + k, none⟩) hb]; exact HC.out k (by omega)
      generalize zs.getD k 0 = n at hc
      cases dry
      · by_cases hn : n < 0
        · go_wp2_with (first | (go_at_call 12; refine (draw_neg HT n hn).mono ?_; rintro e w'' ⟨rfl, rfl⟩) | (go_at_call 9; refine (num_any _ _).mono ?_; rintro e w'' ⟨rfl, rfl⟩) | (go_at_call 10; refine (left_wet HT hall).mono ?_; rintro e w'' ⟨rfl, rfl⟩) | (go_at_call 11; refine (drawn_tape HT).mono ?_; rintro e w'' ⟨rfl, rfl⟩))
          go_roundg (gk - 1)
          case measure => have := HK.out; omega
          case rel => exact ⟨k + 1, all, false, by have := HK.out; omega, by go_num, rfl, rfl, HI⟩
        · by_cases h0 : n = 0
          · subst h0
            go_wp2_with (first | (go_at_call 12; refine (draw_zero HT).mono ?_; clear HT; rintro e w'' ⟨rfl, HT, ho⟩) | (go_at_call 9; refine (num_any _ _).mono ?_; rintro e w'' ⟨rfl, rfl⟩) | (go_at_call 10; refine (left_wet HT hall).mono ?_; rintro e w'' ⟨rfl, rfl⟩) | (go_at_call 11; refine (drawn_tape HT).mono ?_; rintro e w'' ⟨rfl, rfl⟩))
            go_roundg (gk - 1)
            case measure => have := HK.out; omega
            case rel => exact ⟨k + 1, all, false, by have := HK.out; omega, by go_num, rfl, rfl, HI.next ho hall HT⟩
          · have hne : (n == 0) = false := by simpa using h0
            by_cases h2 : (a0.size : Int) - (all : Int) < n
            · go_wp2_with (first | (go_at_call 12; refine (draw_short HT hall n h2).mono ?_; clear HT; rintro e w'' ⟨rfl, HT, ho⟩) | (go_at_call 9; refine (num_any _ _).mono ?_; rintro e w'' ⟨rfl, rfl⟩) | (go_at_call 10; refine (left_dry HT).mono ?_; rintro e w'' ⟨rfl, rfl⟩) | (go_at_call 11; refine (drawn_tape HT).mono ?_; rintro e w'' ⟨rfl, rfl⟩))
              go_roundg (gk - 1)
              case measure => have := HK.out; omega
              case rel => exact ⟨k + 1, all, true, by have := HK.out; omega, by go_num, rfl, rfl, HI.next ho hall HT⟩
            · obtain ⟨m, rfl⟩ : ∃ m : Nat, n = (m : Int) := ⟨n.toNat, by omega⟩
              have hm2 : all + m ≤ a0.size := by omega
              have hsl := slice_str a0 all m hm2
              go_wp2_with (first | (go_at_call 12; refine (draw_ext HT m hm2).mono ?_; clear HT; rintro e w'' ⟨rfl, HT, ho⟩) | (go_at_call 9; refine (num_any _ _).mono ?_; rintro e w'' ⟨rfl, rfl⟩) | (go_at_call 10; refine (left_wet HT hm2).mono ?_; rintro e w'' ⟨rfl, rfl⟩) | (go_at_call 11; refine (drawn_tape HT).mono ?_; rintro e w'' ⟨rfl, rfl⟩))
              go_roundg (gk - 1)
              case measure => have := HK.out; omega
              case rel => exact ⟨k + 1, all + m, false, by have := HK.out; omega, by go_num, by go_num, rfl, HI.next ho hm2 HT⟩
      · by_cases hn : n < 0
        · go_wp2_with (first | (go_at_call 12; refine (draw_neg HT n hn).mono ?_; rintro e w'' ⟨rfl, rfl⟩) | (go_at_call 9; refine (num_any _ _).mono ?_; rintro e w'' ⟨rfl, rfl⟩) | (go_at_call 10; refine (left_dry HT).mono ?_; rintro e w'' ⟨rfl, rfl⟩) | (go_at_call 11; refine (drawn_tape HT).mono ?_; rintro e w'' ⟨rfl, rfl⟩))
          go_roundg (gk - 1)
          case measure => have := HK.out; omega
          case rel => exact ⟨k + 1, all, true, by have := HK.out; omega, by go_num, rfl, rfl, HI⟩
        · by_cases h0 : n = 0
          · subst h0
            go_wp2_with (first | (go_at_call 12; refine (draw_zero HT).mono ?_; clear HT; rintro e w'' ⟨rfl, HT, ho⟩) | (go_at_call 9; refine (num_any _ _).mono ?_; rintro e w'' ⟨rfl, rfl⟩) | (go_at_call 10; refine (left_dry HT).mono ?_; rintro e w'' ⟨rfl, rfl⟩) | (go_at_call 11; refine (drawn_tape HT).mono ?_; rintro e w'' ⟨rfl, rfl⟩))
            go_roundg (gk - 1)
            case measure => have := HK.out; omega
            case rel => exact ⟨k + 1, all, true, by have := HK.out; omega, by go_num, rfl, rfl, HI.next ho hall HT⟩
          · have hne : (n == 0) = false := by simpa using h0
            go_wp2_with (first | (go_at_call 12; refine (draw_none HT n (by omega)).mono ?_; clear HT; rintro e w'' ⟨rfl, HT, ho⟩) | (go_at_call 9; refine (num_any _ _).mono ?_; rintro e w'' ⟨rfl, rfl⟩) | (go_at_call 10; refine (left_dry HT).mono ?_; rintro e w'' ⟨rfl, rfl⟩) | (go_at_call 11; refine (drawn_tape HT).mono ?_; rintro e w'' ⟨rfl, rfl⟩))
            go_roundg (gk - 1)
            case measure => have := HK.out; omega
            case rel => exact ⟨k + 1, all, true, by have := HK.out; omega, by go_num, rfl, rfl, HI.next ho hall HT⟩
    · go_wp2
      go_ret
      exact ⟨rfl, HI.2.2.1⟩

end Go.Proofs.Ytjinhaallkgagaa
