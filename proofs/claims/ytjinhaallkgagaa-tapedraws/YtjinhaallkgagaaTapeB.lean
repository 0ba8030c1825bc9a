import Derived.Test.YtjinhaallkgagaaTapeA
namespace Go.Proofs.Ytjinhaallkgagaa
open Go.RowKit Go.Lib

theorem info5 : (Try.prog.info? 5).map (fun i => (i.zero, i.size, i.bytes)) = some (some (.int .u8 0), 1, 1) := by kernel_rfl
theorem size5 : (Try.prog.info? 5).map (·.size) = some 1 := by kernel_rfl
theorem zero5 (w : World) : (zeroValue 5).run Try.prog w = .ok (.int .u8 0) w := by kernel_rfl

theorem new_big (s : ByteArray) (w : World) (h : 67108864 < s.size) (hm : s.size ≤ maxLen) :
    Calls Try.prog 8 #[.string s] w fun e w' => e = .returned (.tuple #[.pointer none, .int .i64 3]) ∧ w' = w := by
  unfold maxLen at hm
  go_enter Try.func8, Try.ntmps8
  go_wp2
  go_ret2
  exact ⟨rfl, rfl⟩

theorem new_run (s : ByteArray) (w : World) (h : s.size ≤ 67108864) :
    Calls Try.prog 8 #[.string s] w fun e w' => e = .returned (.tuple #[.pointer (some ⟨w.heap.size + 2, 0, none⟩), .int .i64 0]) ∧
      w' = ((w.alloc (.cells (byteCells s.data.toList).toArray 5)).alloc (.cells #[.slice (some ⟨w.heap.size, 0, none⟩) s.size s.size, .int .i64 0] 45)).alloc (.cells #[.pointer (some ⟨w.heap.size + 1, 0, none⟩)] 47) := by
  have hmk := run_make_row' (P := Try.prog) 42 5 (.int .u8 0) 1 Try.underlying42 info5 rfl .i64 .i64 s.size (by omega) (by omega)
  have hcp := fun ty => run_copy_new_string (P := Try.prog) w 42 9 ty 5 (.int .u8 0) s Try.underlying42 size5
  go_enter Try.func8, Try.ntmps8
  go_wp2_with (simp only [hcp])
  go_ret2
  exact ⟨rfl, rfl⟩

theorem lose_run (r : Nat) (w w1 : World) (ao : Option Addr) (l c : Nat) (hc : w.cell? ⟨r, 0, none⟩ = some (.slice ao l c))
    (hcl : ∀ ty, (Builtin.clear_ #[42] ty #[.slice ao l c]).run Try.prog w = .ok (.tuple #[]) w1) (hc1 : w1.cell? ⟨r, 0, none⟩ = some (.slice ao l c)) (hf1 : w1.frozen? ⟨r, 0, none⟩ = false) :
    Calls Try.prog 18 #[.pointer (some ⟨r, 0, none⟩)] w fun e w' => e = .returned (.tuple #[]) ∧ w' = w1.setCell ⟨r, 0, none⟩ (.slice none 0 0) := by
  go_enter Try.func18, Try.ntmps18
  go_wp2_with (simp only [hcl])
  go_end0
  exact ⟨rfl, rfl⟩

theorem take_run (r n l d : Nat) (w w1 w2 w3 : World) (ao ao1 ao2 : Option Addr) (s : ByteArray) (hn : n ≤ l) (hl : d + l ≤ 67108864)
    (hc0 : w.cell? ⟨r, 0, none⟩ = some (.slice ao l l))
    (hcp : ∀ ty, (Builtin.copy_ #[42, 42] ty #[.slice (some ⟨w.heap.size, 0, none⟩) n n, .slice ao l l]).run Try.prog (w.alloc (.cells (madeCells #[.int .u8 0] n) 5)) = .ok (goInt n) w1)
    (hd0 : w1.cell? ⟨r, 0, none⟩ = some (.slice ao l l))
    (hs1 : ∀ w : World, (Instr.slice 42 (.slice ao l l) none (some (.int .i64 (n : Int))) none).run Try.prog w = .ok (.slice ao1 n l) w)
    (hcl : ∀ ty, (Builtin.clear_ #[42] ty #[.slice ao1 n l]).run Try.prog w1 = .ok (.tuple #[]) w2)
    (he0 : w2.cell? ⟨r, 0, none⟩ = some (.slice ao l l)) (hf0 : w2.frozen? ⟨r, 0, none⟩ = false)
    (hs2 : ∀ w : World, (Instr.slice 42 (.slice ao l l) (some (.int .i64 (n : Int))) none none).run Try.prog w = .ok (.slice ao2 (l - n) (l - n)) w)
    (he1 : w2.cell? ⟨r, 1, none⟩ = some (.int .i64 (d : Int))) (hf1 : w2.frozen? ⟨r, 1, none⟩ = false)
    (hw3 : (w2.setCell ⟨r, 0, none⟩ (.slice ao2 (l - n) (l - n))).setCell ⟨r, 1, none⟩ (.int .i64 ((d : Int) + (n : Int))) = w3)
    (hcv : (convert 42 9 (.slice (some ⟨w.heap.size, 0, none⟩) n n)).run Try.prog w3 = .ok (.string s) w3) :
    Calls Try.prog 19 #[.pointer (some ⟨r, 0, none⟩), .int .i64 (n : Int)] w fun e w' => e = .returned (.string s) ∧ w' = w3 := by
  have hmk := run_make_row' (P := Try.prog) 42 5 (.int .u8 0) 1 Try.underlying42 info5 rfl .i64 .i64 n (by omega) (by omega)
  have hca : ∀ o, (w.alloc o).cell? ⟨r, 0, none⟩ = some (.slice ao l l) := fun o => cell?_alloc_some o hc0
  go_enter Try.func19, Try.ntmps19
  go_wp2_with (first | simp only [hcp] | simp only [hcl])
  go_ret
  exact ⟨rfl, rfl⟩

end Go.Proofs.Ytjinhaallkgagaa
