import Derived.Test.YtjcmpfnndjlpkabDoorRf4G
namespace Go.Proofs.YtjcmpfnndjlpkabDoor
open Go.RowKit Go.Lib Go.Deep

theorem blocks_walk (key nonce : ByteArray) (c : Int) (hk : key.size ≤ maxLen) (hn : nonce.size ≤ maxLen) (w : World) (hTP : CTabs w ∧ PTabs w) (h3 : 3 ≤ w.heap.size) :
    Calls Tryd.prog 4 #[.string key, .int .i64 c, .string nonce] w fun e w' => e = .returned (.bool true) ∧ Below w.heap.size w w' := by
  obtain ⟨hT, hP⟩ := hTP
  by_cases h : key.size = 32 ∧ nonce.size = 12
  · by_cases hc : 0 ≤ c ∧ c < 4294967296
    · obtain ⟨c, rfl⟩ := Int.eq_ofNat_of_zero_le hc.1
      have h1 := block_yes key nonce c h.1 h.2 (by omega) w hT h3
      have h2 := fun W hP h3 => rBlock_yes key nonce c h.1 h.2 (by omega) W hP h3
      revert h1 h2
      generalize str (blockL key.data.toList c nonce.data.toList) = y
      intro h1 h2
      clear hc
      go_enter Tryd.func4, Tryd.ntmps4
      go_wp2_with fail
      refine h1.mono ?_
      rintro e w1 ⟨rfl, hb1⟩
      have h2' := h2 w1 (hP.below hb1 h3) (by have := hb1.size; omega)
      go_wp2_with fail
      refine h2'.mono ?_
      rintro e w2 ⟨rfl, hb2⟩
      go_wp2_with (go_at_call 11; refine (num_any _ _).mono ?_; rintro e w3 ⟨rfl, rfl⟩)
      go_ret
      exact ⟨by simp, hb1.trans (hb2.mono hb1.size)⟩
    · have h1 := block_far key nonce c h.1 h.2 hc w
      have h2 := rBlock_no key nonce c hk hn (fun hh => hc hh.2.2) w
      rw [wrong_far h.1 h.2 hc] at h2
      clear hc
      go_enter Tryd.func4, Tryd.ntmps4
      go_wp2_with fail
      refine h1.mono ?_
      rintro e w1 ⟨rfl, rfl⟩
      go_wp2_with fail
      refine h2.mono ?_
      rintro e w2 ⟨rfl, rfl⟩
      go_wp2_with (go_at_call 11; refine (num_any _ _).mono ?_; rintro e w3 ⟨rfl, rfl⟩)
      go_ret
      exact ⟨by simp, Below.refl _ _⟩
  · have h1 := block_no key nonce c hk hn h w
    have h2 := rBlock_no key nonce c hk hn (fun hh => h ⟨hh.1, hh.2.1⟩) w
    rw [wrong_fault h] at h2
    revert h1 h2
    generalize faultN key nonce 12 = f
    intro h1 h2
    go_enter Tryd.func4, Tryd.ntmps4
    go_wp2_with fail
    refine h1.mono ?_
    rintro e w1 ⟨rfl, rfl⟩
    go_wp2_with fail
    refine h2.mono ?_
    rintro e w2 ⟨rfl, rfl⟩
    go_wp2_with (go_at_call 11; refine (num_any _ _).mono ?_; rintro e w3 ⟨rfl, rfl⟩)
    go_ret
    exact ⟨by simp, Below.refl _ _⟩

end Go.Proofs.YtjcmpfnndjlpkabDoor
