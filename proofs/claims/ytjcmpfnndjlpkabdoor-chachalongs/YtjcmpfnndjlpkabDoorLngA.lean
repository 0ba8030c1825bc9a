import Derived.Test.YtjcmpfnndjlpkabDoorRf4H
namespace Go.Proofs.YtjcmpfnndjlpkabDoor
open Go.RowKit Go.Lib Go.Deep

/-- the reference's 'XXor' is its 'Xor' of another key and nonce -/
theorem rxxor_of (key nonce data : ByteArray) (c : Int) (hk : key.size = 32) (hn : nonce.size = 24) (h0 : 0 ≤ c) (h1 : c < 4294967296) (w : World) (hP : PTabs w) (h3 : 3 ≤ w.heap.size) (v : Value) (e0 : Int)
    (hx : ∀ (k2 n2 : ByteArray), k2.data.toList = hchL key.data.toList (nonce.data.toList.take 16) → n2.data.toList = [0, 0, 0, 0] ++ nonce.data.toList.drop 16 → k2.size = 32 → n2.size = 12 → ∀ W, PTabs W → 3 ≤ W.heap.size →
      Calls Tryd.prog 15 #[.string k2, .int .i64 c, .string n2, .string data] W fun e w' => e = .returned (.tuple #[v, .int .i64 e0]) ∧ Below W.heap.size W w') :
    Calls Tryd.prog 16 #[.string key, .int .i64 c, .string nonce, .string data] w fun e w' => e = .returned (.tuple #[v, .int .i64 e0]) ∧ Below w.heap.size w w' := by
  have hwr := wrong_any key nonce c 24 (by unfold maxLen; omega) (by unfold maxLen; omega) w
  rw [wrong_ok hk hn h0 h1] at hwr
  obtain ⟨n1, n2, hs1, hs2, hz1, hz2, hd1, hd2⟩ := long_parts nonce hn
  have hnk := fun W hP h3 => rhch_yes key n1 hk hz1 W hP h3
  rw [hd1] at hnk
  have d2 : (({ data := #[0, 0, 0, 0] } : ByteArray) ++ n2).data.toList = [0, 0, 0, 0] ++ nonce.data.toList.drop 16 := by rw [ByteArray.data_append, Array.toList_append, hd2]
  have hx2 := fun W hP h3 => hx (str (hchL key.data.toList (nonce.data.toList.take 16))) (({ data := #[0, 0, 0, 0] } : ByteArray) ++ n2) (str_data _) d2 (by rw [str_size, hchL_length]) (by rw [size_eq, d2, List.length_append, List.length_drop, ← size_eq, hn]; rfl) W hP h3
  have a1 : (({ data := #[0, 0, 0, 0] } : ByteArray)).size + n2.size ≤ 9223372036854775807 := by rw [hz2]; decide
  clear hx d2 hd1 hd2 h0 h1
  revert hnk hx2
  generalize str (hchL key.data.toList (nonce.data.toList.take 16)) = y
  intro hnk hx2
  go_enter Tryd.func16, Tryd.ntmps16
  go_wp2_with fail
  refine hwr.mono ?_
  rintro e w1 ⟨rfl, rfl⟩
  have hn2 := hnk w hP h3
  go_wp2_with fail
  refine hn2.mono ?_
  rintro e w3 ⟨rfl, hb3⟩
  clear hn2 hnk
  have hx3 := hx2 w3 (hP.below hb3 h3) (by have := hb3.size; omega)
  go_wp2_with fail
  refine hx3.mono ?_
  rintro e w4 ⟨rfl, hb4⟩
  go_wp2
  go_ret2
  exact ⟨rfl, hb3.trans (hb4.mono hb3.size)⟩

theorem rxxor_no (key nonce data : ByteArray) (c : Int) (hk : key.size ≤ maxLen) (hn : nonce.size ≤ maxLen) (h : ¬ (key.size = 32 ∧ nonce.size = 24 ∧ 0 ≤ c ∧ c < 4294967296)) (w : World) :
    Calls Tryd.prog 16 #[.string key, .int .i64 c, .string nonce, .string data] w fun e w' => e = .returned (.tuple #[.string { data := #[] }, .int .i64 (wrongN key c nonce 24)]) ∧ w = w' := by
  have hwr := wrong_any key nonce c 24 hk hn w
  rcases wrong_not h with h40 | h40 | h40 <;>
  · rw [h40] at hwr ⊢
    clear h h40
    go_enter Tryd.func16, Tryd.ntmps16
    go_wp2_with fail
    refine hwr.mono ?_
    rintro e w1 ⟨rfl, rfl⟩
    go_wp2
    go_ret2
    exact ⟨rfl, rfl⟩

theorem longs_walk (key nonce data : ByteArray) (c : Int) (hk : key.size ≤ maxLen) (hn : nonce.size ≤ maxLen) (hdm : data.size ≤ 140737488351232) (w : World) (hTP : CTabs w ∧ PTabs w) (h3 : 3 ≤ w.heap.size) :
    Calls Tryd.prog 6 #[.string key, .int .i64 c, .string nonce, .string data] w fun e w' => e = .returned (.bool true) ∧ Below w.heap.size w w' := by
  obtain ⟨hT, hP⟩ := hTP
  have hd : data.size ≤ 281474976710656 := by omega
  have hsame : ∀ (v : ByteArray) (e0 : Int), (Calls Tryd.prog 12 #[.string key, .int .i64 c, .string nonce, .string data] w fun e w' => e = .returned (.tuple #[.string v, .int .i64 e0]) ∧ Below w.heap.size w w') →
      (∀ W, PTabs W → 3 ≤ W.heap.size → Calls Tryd.prog 16 #[.string key, .int .i64 c, .string nonce, .string data] W fun e w' => e = .returned (.tuple #[.string v, .int .i64 e0]) ∧ Below W.heap.size W w') →
      Calls Tryd.prog 6 #[.string key, .int .i64 c, .string nonce, .string data] w fun e w' => e = .returned (.bool true) ∧ Below w.heap.size w w' := by
    intro v e0 h1 h2
    clear hk hn hdm hd
    go_enter Tryd.func6, Tryd.ntmps6
    go_wp2_with fail
    refine h1.mono ?_
    rintro e w1 ⟨rfl, hb1⟩
    have h2' := h2 w1 (hP.below hb1 h3) (by have := hb1.size; omega)
    go_wp2_with fail
    refine h2'.mono ?_
    rintro e w2 ⟨rfl, hb2⟩
    go_wp2_with (go_at_call 11; refine (num_any _ _).mono ?_; rintro e w3 ⟨rfl, rfl⟩)
    go_ret
    exact ⟨by simp, hb1.trans (hb2.mono hb1.size)⟩
  by_cases h : key.size = 32 ∧ nonce.size = 24
  · by_cases hr : room c data.size
    · obtain ⟨c, rfl⟩ := Int.eq_ofNat_of_zero_le hr.1.1
      have hc : c < 4294967296 := by have := hr.1.2; omega
      have hro : c + (data.size + 63) / 64 ≤ 4294967296 := by have := hr.2; omega
      refine hsame (str (overL (hchL key.data.toList (nonce.data.toList.take 16)) c ([0, 0, 0, 0] ++ nonce.data.toList.drop 16) data.data.toList)) 0 (xxor_of key nonce data c h.1 h.2 w hT h3 _ 0 fun k2 n2 hk2 hn2 hk3 hn3 W hT h3 => ?_) (fun W hP h3 => rxxor_of key nonce data c h.1 h.2 hr.1.1 hr.1.2 W hP h3 _ 0 fun k2 n2 hk2 hn2 hk3 hn3 W hP h3 => ?_)
      · have hx := xor_yes k2 n2 data c hk3 hn3 hd hc hro W hT h3
        rwa [hk2, hn2] at hx
      · have hx := rxor_yes k2 n2 data c hk3 hn3 hd hc hro W hP h3
        rwa [hk2, hn2] at hx
    · refine hsame { data := #[] } 42 (xxor_of key nonce data c h.1 h.2 w hT h3 _ 42 fun k2 n2 hk2 hn2 hk3 hn3 W hT h3 => ?_) (fun W hP h3 => ?_)
      · exact (xor_far k2 n2 data c hk3 hn3 hd hr W).mono fun e w' ⟨h1, h2⟩ => ⟨h1, h2 ▸ Below.refl _ _⟩
      · by_cases hc : 0 ≤ c ∧ c < 4294967296
        · obtain ⟨c, rfl⟩ := Int.eq_ofNat_of_zero_le hc.1
          refine rxxor_of key nonce data c h.1 h.2 hc.1 hc.2 W hP h3 _ 42 fun k2 n2 hk2 hn2 hk3 hn3 W hP h3 => ?_
          exact (rxor_many k2 n2 data c hk3 hn3 hd (by omega) (fun h2 => hr ⟨hc, by omega⟩) W).mono fun e w' ⟨h1, h2⟩ => ⟨h1, h2 ▸ Below.refl _ _⟩
        · have h2 := rxxor_no key nonce data c hk hn (fun hh => hc hh.2.2) W
          rw [wrong_far h.1 h.2 hc] at h2
          exact h2.mono fun e w' ⟨h1, h2⟩ => ⟨h1, h2 ▸ Below.refl _ _⟩
  · refine hsame _ _ ((xxor_no key nonce data c hk hn h w).mono fun e w' ⟨h1, h2⟩ => ⟨h1, h2 ▸ Below.refl _ _⟩) (fun W hP h3 => ?_)
    have h2 := rxxor_no key nonce data c hk hn (fun hh => h ⟨hh.1, hh.2.1⟩) W
    rw [wrong_fault h] at h2
    exact h2.mono fun e w' ⟨h1, h2⟩ => ⟨h1, h2 ▸ Below.refl _ _⟩

end Go.Proofs.YtjcmpfnndjlpkabDoor
