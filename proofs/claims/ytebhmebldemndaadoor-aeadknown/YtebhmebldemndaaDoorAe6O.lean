import Derived.Test.YtebhmebldemndaaDoorAe6A
namespace Go.Proofs.YtebhmebldemndaaDoor.Ae
open Go.RowKit Go.Lib Go.Deep

/-- what the laws ask of the program's Open -/
def OpenC : Prop := ∀ (key nonce aad box : ByteArray) (w : World), key.size ≤ 140737488355328 → nonce.size ≤ 140737488355328 → aad.size ≤ 140737488355328 → box.size ≤ 140737488355328 → ATabs w →
    Calls Tryd.prog 13 #[.string key, .string nonce, .string aad, .string box] w fun e w' => e = .returned (.tuple #[.string (openY key nonce aad box), .int .i64 (openE key nonce aad box)]) ∧ Below w.heap.size w w'

end Go.Proofs.YtebhmebldemndaaDoor.Ae
