import Derived.Test.YtebhmebldemndaaDoorRf4D
import Derived.Test.YtebhmebldemndaaDoorChaM
namespace Go.Proofs.YtebhmebldemndaaDoor.Cha
open Go.RowKit Go.Lib Go.Deep

/-- the errors of sizes and counter -/
def wrongN (key : ByteArray) (c : Int) (nonce : ByteArray) (size : Nat) : Int := if key.size ≠ 32 then 40 else if nonce.size ≠ size then 41 else if c < 0 ∨ c ≥ 4294967296 then 42 else 0

set_option maxHeartbeats 1000000 in
theorem wrong_any (key nonce : ByteArray) (c : Int) (size : Nat) (_hk : key.size ≤ maxLen) (_hn : nonce.size ≤ maxLen) (w : World) :
    Calls Tryd.prog 56 #[.string key, .int .i64 c, .string nonce, .int .i64 (size : Int)] w fun e w' => e = .returned (.int .i64 (wrongN key c nonce size)) ∧ w = w' := by
  unfold maxLen at _hk _hn
  unfold wrongN
  by_cases h1 : key.size = 32
  · have h1b : ((key.size : Int) != 32) = false := by rw [h1]; rfl
    have h1c : ((key.size : Int) == 32) = true := by rw [h1]; rfl
    rw [if_neg (by simp [h1])]
    by_cases h2 : nonce.size = size
    · rw [if_neg (by simp [h2])]
      by_cases h3 : c < 0
      · rw [if_pos (Or.inl h3)]
        go_enter Tryd.func56, Tryd.ntmps56
        go_wp2
        go_ret
        exact ⟨rfl, rfl⟩
      · by_cases h4 : 4294967296 ≤ c
        · rw [if_pos (Or.inr h4)]
          go_enter Tryd.func56, Tryd.ntmps56
          go_wp2
          go_ret
          exact ⟨rfl, rfl⟩
        · rw [if_neg (fun h => h.elim h3 h4)]
          go_enter Tryd.func56, Tryd.ntmps56
          go_wp2
          go_ret
          exact ⟨rfl, rfl⟩
    · have h2b : ((nonce.size : Int) == (size : Int)) = false := by simp; omega
      have h2c : ¬ ((nonce.size : Int) = (size : Int)) := by omega
      rw [if_pos h2]
      go_enter Tryd.func56, Tryd.ntmps56
      go_wp2
      go_ret
      exact ⟨rfl, rfl⟩
  · have h1b : ((key.size : Int) == 32) = false := by simp; omega
    have h1c : ¬ ((key.size : Int) = 32) := by omega
    rw [if_pos h1]
    go_enter Tryd.func56, Tryd.ntmps56
    go_wp2
    go_ret
    exact ⟨rfl, rfl⟩

theorem wrong_ok {key nonce : ByteArray} {c : Int} {size : Nat} (h1 : key.size = 32) (h2 : nonce.size = size) (h3 : 0 ≤ c) (h4 : c < 4294967296) : wrongN key c nonce size = 0 := by
  unfold wrongN
  rw [if_neg (by simp [h1]), if_neg (by simp [h2]), if_neg (by omega)]
theorem wrong_fault {key nonce : ByteArray} {c : Int} {size : Nat} (h : ¬ (key.size = 32 ∧ nonce.size = size)) : wrongN key c nonce size = faultN key nonce size := by
  unfold wrongN faultN
  by_cases h1 : key.size = 32
  · have h2 : nonce.size ≠ size := fun h2 => h ⟨h1, h2⟩
    simp [h1, h2]
  · rw [if_pos h1, if_pos h1]
theorem wrong_far {key nonce : ByteArray} {c : Int} {size : Nat} (h1 : key.size = 32) (h2 : nonce.size = size) (h3 : ¬ (0 ≤ c ∧ c < 4294967296)) : wrongN key c nonce size = 42 := by
  unfold wrongN
  rw [if_neg (by simp [h1]), if_neg (by simp [h2]), if_pos (by omega)]

theorem size3 : (Tryd.prog.info? 3).map (·.size) = some 1 := by kernel_rfl
theorem ints_elem : Tryd.prog.elem 98 = 3 := by kernel_rfl
set_option maxRecDepth 20000 in
theorem slice_to (W : World) (g L cap hi : Nat) (hhi : hi ≤ cap) : (Instr.slice 98 (.slice (some ⟨g, 0, none⟩) L cap) none (some (.int .i64 (hi : Int))) none).run Tryd.prog W = .ok (.slice (some ⟨g, 0, none⟩) hi cap) W := by
  obtain ⟨i0, hi0, hs0⟩ : ∃ i0, Tryd.prog.info? 3 = some i0 ∧ i0.size = 1 := by
    have h := size3
    cases hq : Tryd.prog.info? 3 with
    | none => simp [hq] at h
    | some i => exact ⟨i, rfl, by simpa [hq] using h⟩
  rw [run_slice_h (P := Tryd.prog) (ht := Tryd.underlying98) (kh := .i64) (h := (hi : Int)) (h0 := by omega) (h2 := by omega)]
  simp [sizeOf, typeInfo, ints_elem, hi0, hs0, sliced, Result.andThen, Addr.add_lit]
set_option maxRecDepth 20000 in
theorem slice_from (W : World) (g L cap lo : Nat) (hlo : lo ≤ L) (_hL : L ≤ cap) (hne : lo < cap) : (Instr.slice 98 (.slice (some ⟨g, 0, none⟩) L cap) (some (.int .i64 (lo : Int))) none none).run Tryd.prog W = .ok (.slice (some ⟨g, lo, none⟩) (L - lo) (cap - lo)) W := by
  obtain ⟨i0, hi0, hs0⟩ : ∃ i0, Tryd.prog.info? 3 = some i0 ∧ i0.size = 1 := by
    have h := size3
    cases hq : Tryd.prog.info? 3 with
    | none => simp [hq] at h
    | some i => exact ⟨i, rfl, by simpa [hq] using h⟩
  rw [run_slice_l (P := Tryd.prog) (ht := Tryd.underlying98) (kl := .i64) (l := (lo : Int)) (h0 := by omega) (h1 := by omega)]
  have h1 : ¬ cap = lo := by omega
  simp [sizeOf, typeInfo, ints_elem, hi0, hs0, sliced, Result.andThen, Addr.add_lit, h1]

theorem pick_parts (m : List Nat) (h : m.length = 16) : m.take 4 ++ m.drop 12 = pick m := by
  match m, h with
  | [x0, x1, x2, x3, x4, x5, x6, x7, x8, x9, x10, x11, x12, x13, x14, x15], _ => rfl

end Go.Proofs.YtebhmebldemndaaDoor.Cha
