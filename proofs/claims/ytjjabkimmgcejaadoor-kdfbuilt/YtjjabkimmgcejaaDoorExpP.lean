import Derived.Test.YtjjabkimmgcejaaDoorHmacA
import Derived.Lib.AppendStr
namespace Go.Proofs.YtjjabkimmgcejaaDoor
open Go.RowKit Go.Lib

/-- the pieces of Expand: the last one, and all -/
def expLast (key info : List UInt8) : Nat → List UInt8
  | 0 => []
  | k + 1 => hmacL key (expLast key info k ++ (info ++ [UInt8.ofNat (k + 1)]))
def expAll (key info : List UInt8) : Nat → List UInt8
  | 0 => []
  | k + 1 => expAll key info k ++ expLast key info (k + 1)
theorem expAll_length (key info : List UInt8) : ∀ k, (expAll key info k).length = 32 * k
  | 0 => rfl
  | k + 1 => by rw [expAll, List.length_append, expAll_length key info k, expLast, hmacL_length]; omega
theorem expLast_le (key info : List UInt8) : ∀ k, (expLast key info k).length ≤ 32
  | 0 => by simp [expLast]
  | k + 1 => by rw [expLast, hmacL_length]; omega
/-- Expand of n bytes -/
def expL (key info : List UInt8) (n : Nat) : List UInt8 := (expAll key info ((n + 31) / 32)).take n
theorem expL_length (key info : List UInt8) (n : Nat) : (expL key info n).length = n := by
  rw [expL, List.length_take, expAll_length]
  omega

theorem one_byte (k : Nat) (w : World) : (convert 42 9 (.slice (some ⟨w.heap.size, 0, none⟩) 1 1)).run Tryd.prog (w.alloc (.cells #[.int .u8 ((k : Int) % 256)] 5)) = .ok (.string (str [UInt8.ofNat k])) (w.alloc (.cells #[.int .u8 ((k : Int) % 256)] 5)) := by
  refine run_convert_bytes_back (P := Tryd.prog) _ 42 9 5 ⟨w.heap.size, 0, none⟩ 1 [UInt8.ofNat k] Tryd.underlying42 Tryd.underlying5 Tryd.underlying9 (fun j hj => ?_)
  have hj0 : j = 0 := by simp at hj; omega
  subst hj0
  have h := cells_new w #[.int .u8 ((k : Int) % 256)] 5 0 (.int .u8 ((k : Int) % 256)) rfl
  rw [h]
  congr 2

theorem lst_three (s t u : ByteArray) (w : World) : Lst (w.alloc (.cells #[.string s, .string t, .string u] 9)) (some ⟨w.heap.size, 0, none⟩) 3 [s, t, u] :=
  ⟨rfl, by omega, fun i x h => ⟨w.heap.size, 0, rfl, by simp, cells_strs w [s, t, u] i x h⟩⟩

theorem kexpand_bad (key info : ByteArray) (n : Int) (h : n < 0 ∨ 8160 < n) (w : World) :
    Calls Tryd.prog 19 #[.string key, .string info, .int .i64 n] w fun e w' => e = .returned (.tuple #[.string { data := #[] }, .int .i64 31]) ∧ Below w.heap.size w w' := by
  by_cases h1 : n < 0
  · go_enter Tryd.func19, Tryd.ntmps19
    go_wp2
    go_ret2
    exact ⟨rfl, Below.refl _ _⟩
  · have h2 : (8160 : Int) < n := by omega
    go_enter Tryd.func19, Tryd.ntmps19
    go_wp2
    go_ret2
    exact ⟨rfl, Below.refl _ _⟩

end Go.Proofs.YtjjabkimmgcejaaDoor
