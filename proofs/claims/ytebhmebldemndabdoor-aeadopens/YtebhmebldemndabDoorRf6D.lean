import Derived.Test.YtebhmebldemndabDoorRf6C
namespace Go.Proofs.YtebhmebldemndabDoor.Ae
open Go.RowKit Go.Lib Go.Deep
open Cha (PTabs)

/-- the reference's Open, of anything -/
theorem ropen_any (key nonce aad box : ByteArray) (hk : key.size ≤ 9223372036854775807) (hn : nonce.size ≤ 9223372036854775807) (w : World) (hP : PTabs w) (h3 : 4 ≤ w.heap.size) :
    Calls Tryd.prog 5 #[.string key, .string nonce, .string aad, .string box] w fun e w' => e = .returned (.tuple #[.string (openY key nonce aad box), .int .i64 (openE key nonce aad box)]) ∧ Below w.heap.size w w' := by
  by_cases h : key.size = 32 ∧ (nonce.size = 12 ∨ nonce.size = 24)
  · by_cases hb : 1048576 < aad.size ∨ 1048592 < box.size
    · have e : openE key nonce aad box = 3 := by unfold openE; rw [askN_ok h.1 h.2, if_neg (by simp), if_pos hb]
      have y : openY key nonce aad box = { data := #[] } := by unfold openY; rw [e, if_neg (by decide)]
      rw [e, y]
      refine (ropen_big key nonce aad box h.1 h.2 hb w).mono ?_
      rintro e w' ⟨rfl, rfl⟩
      exact ⟨rfl, Below.refl _ _⟩
    · by_cases hs : box.size < 16
      · have e : openE key nonce aad box = 60 := by unfold openE; rw [askN_ok h.1 h.2, if_neg (by simp), if_neg hb, if_pos hs]
        have y : openY key nonce aad box = { data := #[] } := by unfold openY; rw [e, if_neg (by decide)]
        rw [e, y]
        refine (ropen_short key nonce aad box h.1 h.2 (by omega) hs w).mono ?_
        rintro e w' ⟨rfl, rfl⟩
        exact ⟨rfl, Below.refl _ _⟩
      · exact ropen_fit key nonce aad box h.1 h.2 (by omega) (by omega) (by omega) w hP h3
  · have h0 : askN key nonce ≠ 0 := fun e => h ((askN_iff _ _).1 e)
    have e : openE key nonce aad box = askN key nonce := by unfold openE; rw [if_pos h0]
    have y : openY key nonce aad box = { data := #[] } := by unfold openY; rw [e, if_neg h0]
    rw [e, y]
    refine (ropen_no key nonce aad box hk hn h w).mono ?_
    rintro e w' ⟨rfl, rfl⟩
    exact ⟨rfl, Below.refl _ _⟩

end Go.Proofs.YtebhmebldemndabDoor.Ae
