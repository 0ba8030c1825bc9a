import Derived.Test.YtjcmpfnndjlpkabDoorRf4H
namespace Go.Proofs.YtjcmpfnndjlpkabDoor
open Go.RowKit Go.Lib Go.Deep

theorem xors_walk (key nonce data : ByteArray) (c : Int) (hk : key.size ≤ maxLen) (hn : nonce.size ≤ maxLen) (hdm : data.size ≤ 140737488351232) (w : World) (hTP : CTabs w ∧ PTabs w) (h3 : 3 ≤ w.heap.size) :
    Calls Tryd.prog 5 #[.string key, .int .i64 c, .string nonce, .string data] w fun e w' => e = .returned (.bool true) ∧ Below w.heap.size w w' := by
  obtain ⟨hT, hP⟩ := hTP
  have hd : data.size ≤ 281474976710656 := by omega
  have hsame : ∀ (v : ByteArray) (e0 : Int), (Calls Tryd.prog 10 #[.string key, .int .i64 c, .string nonce, .string data] w fun e w' => e = .returned (.tuple #[.string v, .int .i64 e0]) ∧ Below w.heap.size w w') →
      (∀ W, PTabs W → 3 ≤ W.heap.size → Calls Tryd.prog 15 #[.string key, .int .i64 c, .string nonce, .string data] W fun e w' => e = .returned (.tuple #[.string v, .int .i64 e0]) ∧ Below W.heap.size W w') →
      Calls Tryd.prog 5 #[.string key, .int .i64 c, .string nonce, .string data] w fun e w' => e = .returned (.bool true) ∧ Below w.heap.size w w' := by
    intro v e0 h1 h2
    clear hk hn hdm hd
    go_enter Tryd.func5, Tryd.ntmps5
    go_wp2_with fail
    refine h1.mono ?_
    rintro e w1 ⟨rfl, hb1⟩
    have h2' := h2 w1 (hP.below hb1 h3) (by have := hb1.size; omega)
    go_wp2_with fail
    refine h2'.mono ?_
    rintro e w2 ⟨rfl, hb2⟩
    go_wp2_with (go_at_call 11; refine (num_any _ _).mono ?_; rintro e w3 ⟨rfl, rfl⟩)
    go_ret
    exact ⟨by simp, hb1.trans (hb2.mono hb1.size)⟩
  by_cases h : key.size = 32 ∧ nonce.size = 12
  · by_cases hr : room c data.size
    · obtain ⟨c, rfl⟩ := Int.eq_ofNat_of_zero_le hr.1.1
      have hc : c < 4294967296 := by have := hr.1.2; omega
      have hro : c + (data.size + 63) / 64 ≤ 4294967296 := by have := hr.2; omega
      exact hsame _ _ (xor_yes key nonce data c h.1 h.2 hd hc hro w hT h3) (fun W hP h3 => rxor_yes key nonce data c h.1 h.2 hd hc hro W hP h3)
    · refine hsame _ _ ((xor_far key nonce data c h.1 h.2 hd hr w).mono fun e w' ⟨h1, h2⟩ => ⟨h1, h2 ▸ Below.refl _ _⟩) (fun W hP h3 => ?_)
      by_cases hc : 0 ≤ c ∧ c < 4294967296
      · obtain ⟨c, rfl⟩ := Int.eq_ofNat_of_zero_le hc.1
        exact (rxor_many key nonce data c h.1 h.2 hd (by omega) (fun h2 => hr ⟨hc, by omega⟩) W).mono fun e w' ⟨h1, h2⟩ => ⟨h1, h2 ▸ Below.refl _ _⟩
      · have h2 := rxor_no key nonce data c hk hn (fun hh => hc hh.2.2) W
        rw [wrong_far h.1 h.2 hc] at h2
        exact h2.mono fun e w' ⟨h1, h2⟩ => ⟨h1, h2 ▸ Below.refl _ _⟩
  · refine hsame _ _ ((xor_no key nonce data c hk hn h w).mono fun e w' ⟨h1, h2⟩ => ⟨h1, h2 ▸ Below.refl _ _⟩) (fun W hP h3 => ?_)
    have h2 := rxor_no key nonce data c hk hn (fun hh => h ⟨hh.1, hh.2.1⟩) W
    rw [wrong_fault h] at h2
    exact h2.mono fun e w' ⟨h1, h2⟩ => ⟨h1, h2 ▸ Below.refl _ _⟩

end Go.Proofs.YtjcmpfnndjlpkabDoor
