import Derived.Test.YtjcmpfnndjlpkabDoorChaT
import Derived.Test.YtjcmpfnndjlpkabDoorKnC
namespace Go.Proofs.YtjcmpfnndjlpkabDoor
open Go.RowKit Go.Lib Go.Deep

/-- Xor's answer hangs on the bytes alone, whatever it is -/
theorem xor_either (K N : List UInt8) (data : ByteArray) (c : Int) (hd : data.size ≤ 281474976710656) : ∃ (v : ByteArray) (e0 : Int), ∀ (k2 n2 : ByteArray), k2.data.toList = K → n2.data.toList = N → k2.size = 32 → n2.size = 12 → ∀ W, CTabs W → 3 ≤ W.heap.size →
    Calls Tryd.prog 10 #[.string k2, .int .i64 c, .string n2, .string data] W fun e w' => e = .returned (.tuple #[.string v, .int .i64 e0]) ∧ Below W.heap.size W w' := by
  by_cases hr : room c data.size
  · obtain ⟨c, rfl⟩ := Int.eq_ofNat_of_zero_le hr.1.1
    refine ⟨str (overL K c N data.data.toList), 0, fun k2 n2 hk hn hk2 hn2 W hT h3 => ?_⟩
    have h := xor_yes k2 n2 data c hk2 hn2 hd (by have := hr.1.2; omega) (by have := hr.2; omega) W hT h3
    rw [hk, hn] at h
    exact h
  · refine ⟨{ data := #[] }, 42, fun k2 n2 hk hn hk2 hn2 W hT h3 => ?_⟩
    exact (xor_far k2 n2 data c hk2 hn2 hd hr W).mono fun e w' ⟨h1, h2⟩ => ⟨h1, h2 ▸ Below.refl _ _⟩

/-- at most 65536 bytes of a text -/
theorem cut_any (data : ByteArray) : ∃ d : ByteArray, d.size ≤ 65536 ∧ (data.size ≤ 65536 → d = data) ∧ (65536 < data.size → ∀ W, (Instr.slice 9 (.string data) none (some (.int .i64 65536)) none).run Tryd.prog W = .ok (.string d) W) := by
  by_cases h : data.size ≤ 65536
  · exact ⟨data, h, fun _ => rfl, fun h2 => by omega⟩
  · refine ⟨data.extract 0 65536, by simp; omega, fun h2 => absurd h2 h, fun _ W => ?_⟩
    exact run_slice_string_h (P := Tryd.prog) W 9 data Tryd.underlying9 .i64 65536 (by omega) (by omega)

end Go.Proofs.YtjcmpfnndjlpkabDoor
