import Derived.Test.YtebhmebldemndaaDoorAe6A
namespace Go.Proofs.YtebhmebldemndaaDoor.Ae
open Go.RowKit Go.Lib Go.Deep

/-- what the laws ask of the program's Seal -/
def SealC : Prop := ∀ (key nonce aad plain : ByteArray) (w : World), key.size ≤ 140737488355328 → nonce.size ≤ 140737488355328 → aad.size ≤ 140737488355328 → plain.size ≤ 140737488355328 → ATabs w →
    Calls Tryd.prog 12 #[.string key, .string nonce, .string aad, .string plain] w fun e w' => e = .returned (.tuple #[.string (sealY key nonce aad plain), .int .i64 (sealE key nonce aad plain)]) ∧ Below w.heap.size w w'

end Go.Proofs.YtebhmebldemndaaDoor.Ae
