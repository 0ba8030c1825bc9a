import Derived.Test.YtbdgbefjmfcgcaaDoorPaM
import Derived.Test.YtbdgbefjmfcgcaaDoorBaseM
import Derived.OwnWalk
import Derived.Laws.RangeAny
import Derived.Lib.OthersKept
namespace Go.Proofs.YtbdgbefjmfcgcaaDoor.Pa
open Go.RowKit Go.Lib

theorem getElem_data (s : ByteArray) (i : Nat) (h : i < s.size) (c : UInt8) (hc : s.data.toList[i]? = some c) : s[i]'h = c := by
  have h2 := (List.getElem?_eq_some_iff.1 hc).2
  rw [← h2]
  simp [ByteArray.getElem_eq_getElem_data]
theorem decode_at (s : ByteArray) (pos : Nat) (h : pos < s.size) (c : UInt8) (hc : s.data.toList[pos]? = some c) (hn : c.toNat < 128) : Utf8.decode s pos = (c.toNat, 1) := by
  have hce := getElem_data s pos h c hc
  have hd := decode_ascii s pos h (by rw [hce]; exact hn)
  rw [hce] at hd
  exact hd
theorem decode_up (s : ByteArray) (pos : Nat) (h : pos < s.size) (c : UInt8) (hc : s.data.toList[pos]? = some c) (hn : ¬ c.toNat < 128) : 128 ≤ (Utf8.decode s pos).1 := by
  have hce := getElem_data s pos h c hc
  exact (decode_high s pos h (by rw [hce]; omega)).1
theorem nb_iff (c : UInt8) : nb c = true ↔ 33 ≤ c.toNat ∧ c.toNat ≤ 126 ∧ c.toNat ≠ 47 := by
  simp only [nb, Bool.and_eq_true, decide_eq_true_eq]
  exact ⟨fun h => ⟨h.1.1, h.1.2, h.2⟩, fun h => ⟨⟨h.1, h.2.1⟩, h.2.2⟩⟩
theorem nm_iff {s : ByteArray} (h0 : s.toList ≠ []) (h1 : s.toList ≠ [46]) (h2 : s.toList ≠ [46, 46]) (h3 : s.size ≤ 32) : nm s = s.data.toList.all nb := by
  rw [toList_data] at h0 h1 h2
  have h4 : s.data.toList.length = s.size := (size_eq s).symm
  have h5 : 1 ≤ s.data.toList.length := by cases h : s.data.toList with | nil => exact absurd h h0 | cons a b => simp
  simp [nm, isN, h1, h2, h4, h3]
  omega

set_option maxRecDepth 20000 in
set_option maxHeartbeats 1000000 in
theorem isName_any (s : ByteArray) (w : World) : Calls Tryd.prog 71 #[.string s] w fun e w' => e = .returned (.bool (nm s)) ∧ Below w.heap.size w w' := by
  have hl : s.data.toList.length = s.size := (size_eq s).symm
  obtain ⟨R, hR⟩ : ∃ R, nm s = R := ⟨_, rfl⟩
  rw [hR]
  have HR : Hid (nm s = R) := hR
  clear hR
  by_cases h0 : s.toList = []
  · have hR0 : R = false := by
      rw [← HR.out]
      rw [toList_data] at h0
      simp [nm, isN, h0]
    subst hR0
    have he : s.toList.isEmpty = true := by rw [h0]; rfl
    clear h0
    go_enter Tryd.func71, Tryd.ntmps71
    go_wp2
    go_ret
    exact ⟨rfl, Below.refl _ _⟩
  have he0 : s.toList.isEmpty = false := by
    cases h : s.toList with
    | nil => exact absurd h h0
    | cons a b => rfl
  by_cases h1 : s.toList = [46]
  · have hR0 : R = false := by
      rw [← HR.out]
      rw [toList_data] at h1
      simp [nm, isN, h1]
    subst hR0
    have he : (s.toList == [46]) = true := by rw [h1]; rfl
    clear h0 h1
    go_enter Tryd.func71, Tryd.ntmps71
    go_wp2
    go_ret
    exact ⟨rfl, Below.refl _ _⟩
  have he1 : (s.toList == [46]) = false := beq_eq_false_iff_ne.2 h1
  by_cases h2 : s.toList = [46, 46]
  · have hR0 : R = false := by
      rw [← HR.out]
      rw [toList_data] at h2
      simp [nm, isN, h2]
    subst hR0
    have he : (s.toList == [46, 46]) = true := by rw [h2]; rfl
    clear h0 h1 h2
    go_enter Tryd.func71, Tryd.ntmps71
    go_wp2
    go_ret
    exact ⟨rfl, Below.refl _ _⟩
  have he2 : (s.toList == [46, 46]) = false := beq_eq_false_iff_ne.2 h2
  by_cases h3 : s.size ≤ 32
  · have h3I : ¬ (32 : Int) < (s.size : Int) := by omega
    have HN : Hid (s.data.toList.all nb = R) := (nm_iff h0 h1 h2 h3).symm.trans HR.out
    clear h0 h1 h2 HR
    obtain ⟨n, hn⟩ : ∃ n, s.size = n := ⟨_, rfl⟩
    rw [hn] at hl h3 h3I
    have HS : Hid (s.size = n) := hn
    go_enter Tryd.func71, Tryd.ntmps71
    go_wp2
    go_loopg [] n (fun gk wr => ∃ pos : Nat, pos + gk = n ∧ wr.heap[w.heap.size]? = some (.stringIter s pos) ∧ Below w.heap.size w wr ∧ Hid (∀ i x, i < pos → s.data.toList[i]? = some x → nb x = true))
    case atStart => exact ⟨0, by omega, World.iter_heap w s 0, (Below.refl _ _).alloc (Nat.le_refl _) _, fun i x h => by omega⟩
    case round =>
      obtain ⟨pos, hk, hit, hbw, HZ⟩ := hrel
      by_cases hp : pos < n
      · obtain ⟨c, hc⟩ : ∃ c, s.data.toList[pos]? = some c := ⟨_, List.getElem?_eq_getElem (by omega)⟩
        have hnx : ∀ ty, (Instr.next (.pointer (some ⟨w.heap.size, 0, none⟩)) true ty).run Tryd.prog wr = _ := fun ty => Lib.run_next_any_at wr w.heap.size s pos ty hit (by omega)
        by_cases hb : nb c = true
        · obtain ⟨b1, b2, b3⟩ := (nb_iff c).1 hb
          have hd := decode_at s pos (by omega) c hc (by omega)
          rw [hd] at hnx
          have hit2 := Lib.iterAt_heap wr w.heap.size s pos (pos + 1) hit
          have hbw2 := Lib.below_iterAt hbw (k := w.heap.size) (Nat.le_refl _) s (pos + 1)
          have HZ2 : Hid (∀ i x, i < pos + 1 → s.data.toList[i]? = some x → nb x = true) := fun i x hi hx => by
            by_cases h : i = pos
            · subst h; rw [hc] at hx; injection hx with hx; subst hx; exact hb
            · exact HZ.out i x (by omega) hx
          clear hd hc hit hbw hb
          generalize c.toNat = cn at *
          generalize wr.iterAt w.heap.size s (pos + 1) = W1 at *
          have c1 : ¬ (cn : Int) < 33 := by omega
          have c2 : ¬ (126 : Int) < (cn : Int) := by omega
          have c3 : ¬ (cn : Int) = 47 := by omega
          change ∀ ty, (Instr.next (.pointer (some ⟨w.heap.size, 0, none⟩)) true ty).run Tryd.prog wr = .ok (.tuple #[.bool true, .int .i64 pos, .int .i32 cn]) W1 at hnx
          go_wp2
          go_roundg (gk - 1)
          case measure => omega
          case rel => exact ⟨pos + 1, by omega, hit2, hbw2, HZ2⟩
        · obtain rfl : R = false := by
            rw [← HN.out]
            apply Bool.eq_false_iff.2
            intro h
            exact hb (List.all_eq_true.1 h c (List.mem_of_getElem? hc))
          have hr : (Utf8.decode s pos).1 < 33 ∨ 126 < (Utf8.decode s pos).1 ∨ (Utf8.decode s pos).1 = 47 := by
            by_cases h128 : c.toNat < 128
            · rw [decode_at s pos (by omega) c hc h128]
              have hh : ¬ (33 ≤ c.toNat ∧ c.toNat ≤ 126 ∧ c.toNat ≠ 47) := fun h => hb ((nb_iff c).2 h)
              show c.toNat < 33 ∨ 126 < c.toNat ∨ c.toNat = 47
              omega
            · have := decode_up s pos (by omega) c hc h128
              omega
          have hbw2 := Lib.below_iterAt hbw (k := w.heap.size) (Nat.le_refl _) s (pos + (Utf8.decode s pos).2)
          generalize wr.iterAt w.heap.size s (pos + (Utf8.decode s pos).2) = W1 at *
          generalize (Utf8.decode s pos).1 = r at *
          clear hc hb
          by_cases r1 : r < 33
          · have r1' : (r : Int) < 33 := by omega
            clear hr
            go_wp2
            go_ret
            exact ⟨rfl, hbw2⟩
          have r1' : ¬ (r : Int) < 33 := by omega
          by_cases r2 : 126 < r
          · have r2' : (126 : Int) < (r : Int) := by omega
            clear hr
            go_wp2
            go_ret
            exact ⟨rfl, hbw2⟩
          have r2' : ¬ (126 : Int) < (r : Int) := by omega
          have r3 : r = 47 := by omega
          have r3' : (r : Int) = 47 := by omega
          clear hr r3
          go_wp2
          go_ret
          exact ⟨rfl, hbw2⟩
      · have hnx : ∀ ty, (Instr.next (.pointer (some ⟨w.heap.size, 0, none⟩)) true ty).run Tryd.prog wr = _ := fun ty => Lib.run_next_end_at wr w.heap.size s pos ty hit (by omega)
        obtain rfl : R = true := by
          rw [← HN.out, List.all_eq_true]
          intro c hc
          obtain ⟨i, hi⟩ := List.mem_iff_getElem?.1 hc
          have h1 := (List.getElem?_eq_some_iff.1 hi).1
          exact HZ.out i c (by omega) hi
        go_wp2
        go_ret
        exact ⟨rfl, hbw⟩
  · obtain rfl : R = false := by
      rw [← HR.out]
      simp [nm, isN, hl]
      omega
    have h3I : (32 : Int) < (s.size : Int) := by omega
    clear h0 h1 h2
    go_enter Tryd.func71, Tryd.ntmps71
    go_wp2
    go_ret
    exact ⟨rfl, Below.refl _ _⟩

set_option maxRecDepth 20000 in
theorem name_any (s : ByteArray) (w : World) : Calls Tryd.prog 62 #[.string s] w fun e w' => e = .returned (.int .i64 (nameE s)) ∧ Below w.heap.size w w' := by
  have h := isName_any s w
  unfold nameE
  cases hb : nm s
  · rw [hb] at h
    go_enter Tryd.func62, Tryd.ntmps62
    go_wp2_with (go_at_call 71; refine h.mono ?_; rintro e w1 ⟨rfl, hb1⟩)
    go_ret
    exact ⟨rfl, hb1⟩
  · rw [hb] at h
    go_enter Tryd.func62, Tryd.ntmps62
    go_wp2_with (go_at_call 71; refine h.mono ?_; rintro e w1 ⟨rfl, hb1⟩)
    go_ret
    exact ⟨rfl, hb1⟩
end Go.Proofs.YtbdgbefjmfcgcaaDoor.Pa
