import Derived.Test.YtjinhaallkgagaaApartA
namespace Go.Proofs.Ytjinhaallkgagaa
open Go.RowKit Go.Lib Go.Deep

theorem refNew_big (s : ByteArray) (w : World) (h : 67108864 < s.size) (hm : s.size ≤ maxLen) :
    Calls Try.prog 13 #[.string s] w fun e w' => e = .returned (.tuple #[.pointer none, .int .i64 3]) ∧ w' = w := by
  unfold maxLen at hm
  go_enter Try.func13, Try.ntmps13
  go_wp2
  go_ret2
  exact ⟨rfl, rfl⟩

theorem refNew_ok (s : ByteArray) (w : World) (h : s.size ≤ 67108864) :
    Calls Try.prog 13 #[.string s] w fun e w' => e = .returned (.tuple #[.pointer (some ⟨w.heap.size, 0, none⟩), .int .i64 0]) ∧ w' = w.alloc (.cells #[.string s, .int .i64 0] 51) := by
  go_enter Try.func13, Try.ntmps13
  go_wp2
  go_ret2
  exact ⟨rfl, rfl⟩

theorem refLeft_nil (w : World) : Calls Try.prog 15 #[.pointer none] w fun e w' => e = .returned (.int .i64 0) ∧ w' = w := by
  go_enter Try.func15, Try.ntmps15
  go_wp2
  go_ret
  exact ⟨rfl, rfl⟩

theorem refLeft_ok (q : Nat) (s : ByteArray) (w : World) (hc : w.cell? ⟨q, 0, none⟩ = some (.string s)) : Calls Try.prog 15 #[.pointer (some ⟨q, 0, none⟩)] w fun e w' => e = .returned (.int .i64 s.size) ∧ w' = w := by
  go_enter Try.func15, Try.ntmps15
  go_wp2
  go_ret
  exact ⟨rfl, rfl⟩

theorem refDrawn_nil (w : World) : Calls Try.prog 16 #[.pointer none] w fun e w' => e = .returned (.int .i64 0) ∧ w' = w := by
  go_enter Try.func16, Try.ntmps16
  go_wp2
  go_ret
  exact ⟨rfl, rfl⟩

theorem refDrawn_ok (q : Nat) (d : Int) (w : World) (hc : w.cell? ⟨q, 1, none⟩ = some (.int .i64 d)) : Calls Try.prog 16 #[.pointer (some ⟨q, 0, none⟩)] w fun e w' => e = .returned (.int .i64 d) ∧ w' = w := by
  go_enter Try.func16, Try.ntmps16
  go_wp2
  go_ret
  exact ⟨rfl, rfl⟩

theorem refDraw_nil (n : Int) (w : World) : Calls Try.prog 20 #[.pointer none, .int .i64 n] w fun e w' => e = .returned (.tuple #[.string ⟨#[]⟩, .int .i64 2]) ∧ w' = w := by
  go_enter Try.func20, Try.ntmps20
  go_wp2
  go_ret2
  exact ⟨rfl, rfl⟩

theorem refDraw_neg (q : Nat) (n : Int) (w : World) (hn : n < 0) : Calls Try.prog 20 #[.pointer (some ⟨q, 0, none⟩), .int .i64 n] w fun e w' => e = .returned (.tuple #[.string ⟨#[]⟩, .int .i64 1]) ∧ w' = w := by
  go_enter Try.func20, Try.ntmps20
  go_wp2
  go_ret2
  exact ⟨rfl, rfl⟩

theorem refDraw_dry (q : Nat) (n : Int) (s : ByteArray) (w : World) (hc : w.cell? ⟨q, 0, none⟩ = some (.string s)) (hf : w.frozen? ⟨q, 0, none⟩ = false) (hm : s.size ≤ 67108864) (hn : (s.size : Int) < n) :
    Calls Try.prog 20 #[.pointer (some ⟨q, 0, none⟩), .int .i64 n] w fun e w' => e = .returned (.tuple #[.string ⟨#[]⟩, .int .i64 10]) ∧ w' = w.setCell ⟨q, 0, none⟩ (.string ⟨#[]⟩) := by
  have h1 : ¬ n < 0 := by omega
  go_enter Try.func20, Try.ntmps20
  go_wp2
  go_ret2
  exact ⟨rfl, rfl⟩

theorem refDraw_take (q n d : Nat) (s : ByteArray) (w : World) (hc : w.cell? ⟨q, 0, none⟩ = some (.string s)) (hc1 : w.cell? ⟨q, 1, none⟩ = some (.int .i64 (d : Int))) (hf : w.frozen? ⟨q, 0, none⟩ = false) (hf1 : w.frozen? ⟨q, 1, none⟩ = false) (hm : d + s.size ≤ 67108864) (hn : n ≤ s.size) :
    Calls Try.prog 20 #[.pointer (some ⟨q, 0, none⟩), .int .i64 (n : Int)] w fun e w' => e = .returned (.tuple #[.string (s.extract 0 n), .int .i64 0]) ∧ w' = (w.setCell ⟨q, 0, none⟩ (.string (s.extract n s.size))).setCell ⟨q, 1, none⟩ (.int .i64 ((d : Int) + (n : Int))) := by
  have h1 : ¬ (n : Int) < 0 := by omega
  have h2 : ¬ (s.size : Int) < (n : Int) := by omega
  go_enter Try.func20, Try.ntmps20
  go_wp2
  go_ret2
  exact ⟨rfl, rfl⟩

end Go.Proofs.Ytjinhaallkgagaa
