import Derived.Test.YtpoipgmphhfgeabDoorPaD
import Derived.Test.YtpoipgmphhfgeabDoorShP
namespace Go.Proofs.YtpoipgmphhfgeabDoor.Pa
open Go.RowKit Go.Lib

theorem hp_head (l : List UInt8) : hasPrefix l [47] = decide (l.head? = some 47) := by
  unfold hasPrefix
  cases l with
  | nil => rfl
  | cons x t =>
    by_cases h : x = 47
    · subst h; rfl
    · simp [List.isPrefixOf, h, Ne.symm h]
theorem hs_last (l : List UInt8) : hasSuffix l [47] = decide (l.getLast? = some 47) := by
  unfold hasSuffix List.isSuffixOf
  rw [← List.head?_reverse]
  exact hp_head l.reverse
theorem hasP_any (s : ByteArray) (w : World) : Calls Tryd.prog 28 #[.string s, .string { data := #[47] }] w fun e w' => e = .returned (.bool (decide (s.data.toList.head? = some 47))) ∧ w' = w := by
  have h := Any.strings_HasPrefix hpreLays s { data := #[47] } w
  rw [show (({ data := #[47] } : ByteArray).data.toList) = [47] from rfl, hp_head] at h
  exact h
theorem hasS_any (s : ByteArray) (w : World) (hs : s.size ≤ 9223372036854775807) : Calls Tryd.prog 29 #[.string s, .string { data := #[47] }] w fun e w' => e = .returned (.bool (decide (s.data.toList.getLast? = some 47))) ∧ w' = w := by
  have h := Any.strings_HasSuffix hsufLays s { data := #[47] } w hs
  rw [show (({ data := #[47] } : ByteArray).data.toList) = [47] from rfl, hs_last] at h
  exact h

set_option maxRecDepth 20000 in
set_option maxHeartbeats 1000000 in
theorem rooted_any (s : ByteArray) (w : World) : Calls Tryd.prog 16 #[.string s] w fun e w' => e = .returned (.bool (rooted s.data.toList)) ∧ w' = w := by
  have hl : s.data.toList.length = s.size := (size_eq s).symm
  by_cases h1 : 1024 < s.size
  · have e : rooted s.data.toList = false := by simp [rooted, hl]; omega
    rw [e]
    have h1I : (1024 : Int) < (s.size : Int) := by omega
    go_enter Tryd.func16, Tryd.ntmps16
    go_wp2
    go_ret
    exact ⟨rfl, rfl⟩
  have h1I : ¬ (1024 : Int) < (s.size : Int) := by omega
  have hp := hasP_any s
  have hsf := fun w => hasS_any s w (by omega)
  by_cases h2 : s.data.toList.head? = some 47
  · rw [decide_eq_true h2] at hp
    by_cases h3 : s.data.toList = [47]
    · have e : rooted s.data.toList = true := rooted_mk (by omega) h2 (.inl h3)
      rw [e]
      have h3' : (s.toList == [47]) = true := by rw [toList_data, h3]; rfl
      clear h2 h3
      go_enter Tryd.func16, Tryd.ntmps16
      go_wp2_with (first | (go_at_call 28; refine (hp _).mono ?_; rintro e w1 ⟨rfl, rfl⟩))
      go_ret
      exact ⟨rfl, rfl⟩
    · have h3' : (s.toList == [47]) = false := by rw [toList_data]; exact beq_eq_false_iff_ne.2 h3
      by_cases h4 : s.data.toList.getLast? = some 47
      · have e : rooted s.data.toList = false := by simp [rooted, h3, h4]
        rw [e]
        rw [decide_eq_true h4] at hsf
        clear h2 h3 h4
        go_enter Tryd.func16, Tryd.ntmps16
        go_wp2_with (first | (go_at_call 28; refine (hp _).mono ?_; rintro e w1 ⟨rfl, rfl⟩) | (go_at_call 29; refine (hsf _).mono ?_; rintro e w1 ⟨rfl, rfl⟩))
        go_ret
        exact ⟨rfl, rfl⟩
      · have e : rooted s.data.toList = true := rooted_mk (by omega) h2 (.inr h4)
        rw [e]
        rw [decide_eq_false h4] at hsf
        clear h2 h3 h4
        go_enter Tryd.func16, Tryd.ntmps16
        go_wp2_with (first | (go_at_call 28; refine (hp _).mono ?_; rintro e w1 ⟨rfl, rfl⟩) | (go_at_call 29; refine (hsf _).mono ?_; rintro e w1 ⟨rfl, rfl⟩))
        go_ret
        exact ⟨rfl, rfl⟩
  · have e : rooted s.data.toList = false := by simp [rooted, h2]
    rw [e]
    rw [decide_eq_false h2] at hp
    clear h2
    go_enter Tryd.func16, Tryd.ntmps16
    go_wp2_with (first | (go_at_call 28; refine (hp _).mono ?_; rintro e w1 ⟨rfl, rfl⟩))
    go_ret
    exact ⟨rfl, rfl⟩

set_option maxRecDepth 20000 in
theorem clone_any (s : ByteArray) (hs : s.size ≤ 281474976710656) (w : World) : Calls Tryd.prog 20 #[.string s] w fun e w' => e = .returned (.string s) ∧ Below w.heap.size w w' := by
  have h := Any.stringslite_Clone cloneLays s w hs
  have h' : Calls Tryd.prog 32 #[.string s] w fun e w' => e = .returned (.string s) ∧ Below w.heap.size w w' := h
  clear h
  go_enter Tryd.func20, Tryd.ntmps20
  go_wp2_with (go_at_call 32; refine h'.mono ?_; rintro e w1 ⟨rfl, hb1⟩)
  go_ret
  exact ⟨rfl, hb1⟩
theorem make_cap (n : Nat) (hn : n ≤ 1000) (w : World) : (Instr.makeSlice 22 (.int .i64 0) (.int .i64 (n : Int))).run Tryd.prog w = .ok (.slice (some ⟨w.heap.size, 0, none⟩) 0 n) (w.alloc (.cells (madeCells #[.string { data := #[] }] n) 9)) := by
  obtain ⟨i0, hi, hz0, hz1, hz2⟩ := info_9
  have h := run_make (P := Tryd.prog) w 22 9 i0 (.string { data := #[] }) Tryd.underlying22 hi hz0 .i64 .i64 0 n (by omega) (by omega) (by rw [hz2]; omega) (by omega)
  simpa [hz1, Value.cells] using h
theorem made_own (n : Nat) (hn : n ≤ 1000) (w : World) : Own (w.alloc (.cells (madeCells #[.string { data := #[] }] n) 9)) w.heap.size (.slice (some ⟨w.heap.size, 0, none⟩) 0 n) [] :=
  World.ownsRow_made w _ n (Nat.le_refl _) (by unfold maxLen; omega) (by simp [madeCells])
set_option maxRecDepth 20000 in
set_option maxHeartbeats 1000000 in
theorem each_any (w : World) (v : Value) (L : List ByteArray) (h1 : See w v L) (hn : L.length ≤ 16) (hs : ∀ s ∈ L, s.size ≤ 32) : Calls Tryd.prog 19 #[v, .func (.func 20) #[] #[]] w fun e w' => (∃ u, e = .returned u ∧ Own w' w.heap.size u L) ∧ Below w.heap.size w w' := by
  have HA : Hid (∀ W, Below w.heap.size w W → See W v L) := fun W hb => h1.below hb
  obtain ⟨a1, k1, rfl, -⟩ := h1
  obtain ⟨n, hl⟩ : ∃ n, L.length = n := ⟨_, rfl⟩
  rw [hl] at HA hn ⊢
  have HL : Hid (L.length = n) := hl
  have HS : Hid (∀ s ∈ L, s.size ≤ 32) := hs
  have hmk := make_cap n (by omega)
  have HO := made_own n (by omega) w
  have HB0 : Hid (Below w.heap.size w (w.alloc (.cells (madeCells #[.string { data := #[] }] n) 9))) := (Below.refl _ _).alloc (Nat.le_refl _) _
  clear hl hs
  generalize madeCells #[.string { data := #[] }] n = cs at *
  go_enter Tryd.func19, Tryd.ntmps19
  go_wp2_with fail
  go_loopg [5, 13] n (fun gk ov iv wr => ∃ k : Nat, k + gk = n ∧ iv = .int .i64 (k : Int) ∧ Own wr w.heap.size ov (L.take k) ∧ Hid (Below w.heap.size w wr))
  case atStart => exact ⟨0, by omega, rfl, HO, HB0⟩
  case round =>
    obtain ⟨k, hk, rfl, hown, HW⟩ := hrel
    have HKG : Hid (k + gk = n) := hk
    have hkn : k ≤ n := by omega
    clear hk
    by_cases hlt : k < n
    · have hltI : (k : Int) < (n : Int) := by omega
      obtain ⟨x, hx⟩ : ∃ x, L[k]? = some x := ⟨_, List.getElem?_eq_getElem (by have := HL.out; omega)⟩
      obtain ⟨b, off, rfl, hc⟩ := (HA.out _ HW.out).cell hx
      have hcl := clone_any x (by have := HS.out x (List.mem_of_getElem? hx); omega) wr
      have HX : Hid (L.take (k + 1) = L.take k ++ [x]) := by show _ = _; rw [List.take_add_one, hx]; rfl
      have HKL : Hid ((L.take k).length = k) := by show _ = _; rw [List.length_take, HL.out]; omega
      clear hx
      have HO1 : Hid _ := hown
      clear hown
      go_wp2_with (first
        | (go_at_call 20; refine hcl.mono ?_; rintro e w1 ⟨rfl, hb1⟩)
        | (at_builtin; refine wpList_app rfl _ _ rfl w.heap.size _ _ (L.take k) [x] rfl (World.ownsRow.alloc (Own.below (B := w.heap.size) (L := L.take k) HO1.out hb1) _) rfl (see_new w1 _ [x] 1 1 rfl rfl (Nat.le_refl _)) (by rw [HKL.out]; simp; omega) (by have := hb1.size; have := HW.out.size; simp; omega) ?_; intro v2 w2 ho2 hb2))
      go_roundg (gk - 1)
      case measure => have := HKG.out; omega
      case rel => exact ⟨k + 1, by have := HKG.out; omega, by go_num, by rw [HX.out]; exact ho2, (HW.out.trans ((hb1.alloc hb1.size _).mono HW.out.size)).trans hb2⟩
    · obtain rfl : k = n := by omega
      have hltI : ¬ (k : Int) < (k : Int) := by omega
      rw [List.take_of_length_le (by rw [HL.out]; exact Nat.le_refl _)] at hown
      have HE : Hid _ := hown
      clear hown
      go_wp2
      go_ret
      exact ⟨⟨_, rfl, HE.out⟩, HW.out⟩
end Go.Proofs.YtpoipgmphhfgeabDoor.Pa
