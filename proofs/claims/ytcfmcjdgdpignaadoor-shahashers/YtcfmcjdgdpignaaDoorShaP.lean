import Derived.Test.YtcfmcjdgdpignaaDoorShaO
namespace Go.Proofs.YtcfmcjdgdpignaaDoor
open Go.RowKit Go.Lib Go.Deep

/-- bytes as one number, the highest first -/
def beNum (l : List UInt8) : Nat := l.foldl (fun n b => 256 * n + b.toNat) 0
theorem beNum_snoc (l : List UInt8) (b : UInt8) : beNum (l ++ [b]) = 256 * beNum l + b.toNat := by simp [beNum]
theorem beNum_lt (l : List UInt8) : beNum l < 256 ^ l.length := by
  suffices h : ∀ r : List UInt8, beNum r.reverse < 256 ^ r.length by simpa using h l.reverse
  intro r
  induction r with
  | nil => decide
  | cons b r ih =>
    rw [List.reverse_cons, beNum_snoc, List.length_cons, Nat.pow_succ]
    have := b.toNat_lt
    omega
theorem beNum_take (l : List UInt8) (k : Nat) (b : UInt8) (h : l[k]? = some b) : beNum (l.take (k + 1)) = 256 * beNum (l.take k) + b.toNat := by
  rw [take_succ_of l k b h, beNum_snoc]
theorem or_byte (n b : Nat) (hn : n < 72057594037927936) (hb : b < 256) : bits .or .u64 ((n : Int) * 256) (b : Int) = ((256 * n + b : Nat) : Int) := by
  rw [show (n : Int) * 256 = ((256 * n : Nat) : Int) by omega, u64_or_nat _ _ (by omega) (by omega), nat_join 8 _ _ (by omega) (by omega)]

set_option maxHeartbeats 1000000 in
theorem numberOf_any (s : ByteArray) (w : World) (hs : s.size ≤ 8) :
    Calls Tryd.prog 16 #[.string s] w fun e w' => e = .returned (.int .u64 (beNum s.data.toList : Int)) ∧ w = w' := by
  go_enter Tryd.func16, Tryd.ntmps16
  go_wp2
  go_loopg [3, 7] s.size (fun gk v i wr => ∃ k : Nat, k + gk = s.size ∧ i = .int .i64 k ∧ v = .int .u64 (beNum (s.data.toList.take k) : Int) ∧ w = wr)
  case atStart => exact ⟨0, by omega, rfl, rfl, rfl⟩
  case round =>
    obtain ⟨k, hk, rfl, rfl, rfl⟩ := hrel
    have HK : Hid (k + gk = s.size) := hk
    have hk' : k ≤ s.size := by omega
    clear hk
    by_cases hlt : k < s.size
    · obtain ⟨c, hc⟩ : ∃ c, s.data.toList[k]? = some c := ⟨_, List.getElem?_eq_getElem (by simpa using hlt)⟩
      have hix := fun W => index_at (P := Tryd.prog) W 9 s .i64 k c Tryd.underlying9 hc
      have hn := c.toNat_lt
      have hl : beNum (s.data.toList.take k) < 72057594037927936 := by
        have h1 := beNum_lt (s.data.toList.take k)
        have h2 : (s.data.toList.take k).length ≤ 7 := by rw [List.length_take]; omega
        have h3 : 256 ^ (s.data.toList.take k).length ≤ 256 ^ 7 := Nat.pow_le_pow_right (by omega) h2
        omega
      have HB : Hid (beNum (s.data.toList.take (k + 1)) = 256 * beNum (s.data.toList.take k) + c.toNat) := beNum_take _ _ _ hc
      have hor := or_byte (beNum (s.data.toList.take k)) c.toNat hl hn
      revert hl HB hor
      generalize beNum (s.data.toList.take k) = n
      intro hl HB hor
      go_wp2
      go_roundg (gk - 1)
      case measure => have := HK.out; omega
      case rel =>
        refine ⟨k + 1, by have := HK.out; omega, by go_num, ?_, rfl⟩
        rw [HB.out]
        first | rfl | (congr 1; omega)
    · have e : k = s.size := by omega
      have HT : Hid (s.data.toList.take k = s.data.toList) := List.take_of_length_le (by rw [← size_eq]; omega)
      go_wp2
      go_ret
      exact ⟨by simp [HT.out], rfl⟩

end Go.Proofs.YtcfmcjdgdpignaaDoor
