import Derived.Test.YtcfmcjdgdpignaaDoorShaM
namespace Go.Proofs.YtcfmcjdgdpignaaDoor
open Go.RowKit Go.Lib Go.Deep

theorem write_nil (data : ByteArray) (w : World) : Calls Tryd.prog 10 #[.pointer none, .string data] w fun e w' => e = .returned (.int .i64 2) ∧ w = w' := by
  go_enter Tryd.func10, Tryd.ntmps10
  go_wp2_with (go_at_call 18; refine (there_nil w).mono ?_; rintro e w' ⟨rfl, rfl⟩)
  go_ret
  exact ⟨rfl, rfl⟩
theorem hsum_nil (w : World) : Calls Tryd.prog 11 #[.pointer none] w fun e w' => e = .returned (.string { data := #[] }) ∧ w = w' := by
  go_enter Tryd.func11, Tryd.ntmps11
  go_wp2_with (go_at_call 18; refine (there_nil w).mono ?_; rintro e w' ⟨rfl, rfl⟩)
  go_ret
  exact ⟨rfl, rfl⟩
theorem count_nil (w : World) : Calls Tryd.prog 31 #[.pointer none] w fun e w' => e = .returned (.int .i64 0) ∧ w = w' := by
  go_enter Tryd.func31, Tryd.ntmps31
  go_wp2_with (go_at_call 18; refine (there_nil w).mono ?_; rintro e w' ⟨rfl, rfl⟩)
  go_ret
  exact ⟨rfl, rfl⟩

theorem count_any {w : World} {p : Nat} {s : W8} {r : List UInt8} {n : Nat} (hh : Hs w p s r n) :
    Calls Tryd.prog 31 #[.pointer (some ⟨p, 0, none⟩)] w fun e w' => e = .returned (.int .i64 (n : Int)) ∧ w = w' := by
  have hmade := hh.made
  have hcount := hh.count
  have hb := hh.big
  go_enter Tryd.func31, Tryd.ntmps31
  go_wp2_with (go_at_call 18; refine (there_yes hmade).mono ?_; rintro e w' ⟨rfl, rfl⟩)
  go_ret
  exact ⟨rfl, rfl⟩

theorem write_big {w : World} {p : Nat} {s : W8} {r : List UInt8} {n : Nat} (hh : Hs w p s r n) (data : ByteArray) (hn : n ≤ 1099511627776) (hd : data.size ≤ 9223372036854775807) (hb : 1099511627776 < n + data.size) :
    Calls Tryd.prog 10 #[.pointer (some ⟨p, 0, none⟩), .string data] w fun e w' => e = .returned (.int .i64 3) ∧ w = w' := by
  have hmade := hh.made
  have hcount := hh.count
  have h1 : (1099511627776 : Int) - (n : Int) < (data.size : Int) := by omega
  go_enter Tryd.func10, Tryd.ntmps10
  go_wp2_with (go_at_call 18; refine (there_yes hmade).mono ?_; rintro e w' ⟨rfl, rfl⟩)
  go_ret
  exact ⟨rfl, rfl⟩

theorem write_any {w : World} {p : Nat} {s : W8} {r : List UInt8} {n : Nat} (hh : Hs w p s r n) (ht : Tabs w) (data : ByteArray) (hb : n + data.size ≤ 1099511627776) :
    Calls Tryd.prog 10 #[.pointer (some ⟨p, 0, none⟩), .string data] w fun e w' => e = .returned (.int .i64 0) ∧
      Hs w' p (eat s (r ++ data.data.toList)).1 (eat s (r ++ data.data.toList)).2 (n + data.size) ∧ Only [p] w w' ∧ Tabs w' := by
  have hmade := hh.made
  have hcount := hh.count
  have h1 : ¬ (1099511627776 : Int) - (n : Int) < (data.size : Int) := by omega
  have htk := take_any p s r n data w hh ht (by omega)
  go_enter Tryd.func10, Tryd.ntmps10
  go_wp2_with (first | (go_at_call 18; refine (there_yes hmade).mono ?_; rintro e w' ⟨rfl, rfl⟩) | (go_at_call 21; refine htk.mono ?_; rintro e w2 ⟨rfl, r1, r2, r3⟩))
  go_ret
  exact ⟨rfl, r1, r2, r3⟩

end Go.Proofs.YtcfmcjdgdpignaaDoor
