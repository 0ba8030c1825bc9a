import Derived.Test.YtjcmpfnndjlpkaaDoorRf4F
namespace Go.Proofs.YtjcmpfnndjlpkaaDoor
open Go.RowKit Go.Lib Go.Deep

theorem hashes_walk (key nonce : ByteArray) (hk : key.size ≤ maxLen) (hn : nonce.size ≤ maxLen) (w : World) (hTP : CTabs w ∧ PTabs w) (h3 : 3 ≤ w.heap.size) :
    Calls Tryd.prog 4 #[.string key, .string nonce] w fun e w' => e = .returned (.bool true) ∧ Below w.heap.size w w' := by
  obtain ⟨hT, hP⟩ := hTP
  by_cases h : key.size = 32 ∧ nonce.size = 16
  · have h1 := hch_yes key nonce h.1 h.2 w hT h3
    have h2 := fun W hP h3 => rhch_yes key nonce h.1 h.2 W hP h3
    revert h1 h2
    generalize str (hchL key.data.toList nonce.data.toList) = y
    intro h1 h2
    go_enter Tryd.func4, Tryd.ntmps4
    go_wp2_with fail
    refine h1.mono ?_
    rintro e w1 ⟨rfl, hb1⟩
    have h2' := h2 w1 (hP.below hb1 h3) (by have := hb1.size; omega)
    go_wp2_with fail
    refine h2'.mono ?_
    rintro e w2 ⟨rfl, hb2⟩
    go_wp2_with (go_at_call 11; refine (num_any _ _).mono ?_; rintro e w3 ⟨rfl, rfl⟩)
    go_ret
    exact ⟨by simp, hb1.trans (hb2.mono hb1.size)⟩
  · have h1 := hch_no key nonce hk hn h w
    have h2 := rhch_no key nonce hk hn h w
    revert h1 h2
    generalize faultN key nonce 16 = f
    intro h1 h2
    go_enter Tryd.func4, Tryd.ntmps4
    go_wp2_with fail
    refine h1.mono ?_
    rintro e w1 ⟨rfl, rfl⟩
    go_wp2_with fail
    refine h2.mono ?_
    rintro e w2 ⟨rfl, rfl⟩
    go_wp2_with (go_at_call 11; refine (num_any _ _).mono ?_; rintro e w3 ⟨rfl, rfl⟩)
    go_ret
    exact ⟨by simp, Below.refl _ _⟩

end Go.Proofs.YtjcmpfnndjlpkaaDoor
