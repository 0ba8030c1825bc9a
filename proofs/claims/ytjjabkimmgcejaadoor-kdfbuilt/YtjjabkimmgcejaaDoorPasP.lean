import Derived.Test.YtjjabkimmgcejaaDoorHmacA
namespace Go.Proofs.YtjjabkimmgcejaaDoor
open Go.RowKit Go.Lib

def xorL (a b : List UInt8) : List UInt8 := List.zipWith (fun x y => x ^^^ y) a b
theorem xorL_length (a b : List UInt8) : (xorL a b).length = min a.length b.length := by simp [xorL]
theorem xorL_take (a b : List UInt8) (k : Nat) (x y : UInt8) (hx : a[k]? = some x) (hy : b[k]? = some y) : (xorL a b).take (k + 1) = (xorL a b).take k ++ [x ^^^ y] := by
  have h : (xorL a b)[k]? = some (x ^^^ y) := by simp [xorL, List.getElem?_zipWith, hx, hy]
  rw [List.take_add_one, h]
  rfl

/-- one link after another -/
def pasU (key first : List UInt8) : Nat → List UInt8
  | 0 => hmacL key first
  | r + 1 => hmacL key (pasU key first r)
def pasF (key first : List UInt8) : Nat → List UInt8
  | 0 => pasU key first 0
  | r + 1 => xorL (pasF key first r) (pasU key first (r + 1))
theorem pasU_length (key first : List UInt8) : ∀ r, (pasU key first r).length = 32
  | 0 => hmacL_length _ _
  | _ + 1 => hmacL_length _ _
theorem pasF_length (key first : List UInt8) : ∀ r, (pasF key first r).length = 32
  | 0 => hmacL_length _ _
  | r + 1 => by rw [pasF, xorL_length, pasF_length key first r, pasU_length]; rfl
/-- the first k blocks, with R rounds behind each one's first -/
def pasAll (key salt : List UInt8) (R : Nat) : Nat → List UInt8
  | 0 => []
  | k + 1 => pasAll key salt R k ++ pasF key (salt ++ [0, 0, 0, UInt8.ofNat (k + 1)]) R
theorem pasAll_length (key salt : List UInt8) (R : Nat) : ∀ k, (pasAll key salt R k).length = 32 * k
  | 0 => rfl
  | k + 1 => by rw [pasAll, List.length_append, pasAll_length key salt R k, pasF_length]; omega
def pasL (key salt : List UInt8) (R n : Nat) : List UInt8 := (pasAll key salt R ((n + 31) / 32)).take n

theorem four_bytes (k : Nat) (w : World) : (convert 42 9 (.slice (some ⟨w.heap.size, 0, none⟩) 4 4)).run Tryd.prog (w.alloc (.cells #[.int .u8 0, .int .u8 0, .int .u8 0, .int .u8 ((k : Int) % 256)] 5)) = .ok (.string (str [0, 0, 0, UInt8.ofNat k])) (w.alloc (.cells #[.int .u8 0, .int .u8 0, .int .u8 0, .int .u8 ((k : Int) % 256)] 5)) := by
  refine run_convert_bytes_back (P := Tryd.prog) _ 42 9 5 ⟨w.heap.size, 0, none⟩ 4 [0, 0, 0, UInt8.ofNat k] Tryd.underlying42 Tryd.underlying5 Tryd.underlying9 (fun j hj => ?_)
  have hj4 : j = 0 ∨ j = 1 ∨ j = 2 ∨ j = 3 := by simp at hj; omega
  rcases hj4 with rfl | rfl | rfl | rfl
  · exact cells_new w _ 5 0 (.int .u8 0) rfl
  · exact cells_new w _ 5 1 (.int .u8 0) rfl
  · exact cells_new w _ 5 2 (.int .u8 0) rfl
  · have h := cells_new w #[.int .u8 0, .int .u8 0, .int .u8 0, .int .u8 ((k : Int) % 256)] 5 3 (.int .u8 ((k : Int) % 256)) rfl
    rw [h]
    congr 2

end Go.Proofs.YtjjabkimmgcejaaDoor
