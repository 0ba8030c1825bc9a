import Derived.Test.YtengclnahppmhaaGreatDoorSeA
import Derived.Test.YtengclnahppmhaaGreatDoorClA
import Derived.Test.YtengclnahppmhaaGreatDoorBaseM
namespace Go.Proofs.YtengclnahppmhaaGreatDoor.Se
open Go.RowKit Go.Lib Go.Deep

theorem clone_any (s : ByteArray) (w : World) (hs : s.size ≤ 281474976710656) : Calls Tryz.prog 64 #[.string s] w fun e w' => e = .returned (.string s) ∧ Below w.heap.size w w' := by
  have h := fun W => Any.stringslite_Clone (ρ := cloneRen) cloneLays s W hs
  change ∀ W, Calls Tryz.prog 84 _ _ _ at h
  go_enter Tryz.func64, Tryz.ntmps64
  go_wp2_with (go_at_call 84; refine (h _).mono ?_; rintro e w' ⟨rfl, hb⟩)
  go_ret
  exact ⟨rfl, hb⟩

/-- the checks of the ideal sealer -/
def idV : Value := .agg #[.int .i64 40, .int .i64 1]

theorem made_any (w : World) : Calls Tryz.prog 46 #[idV] w fun e w' => e = .returned (.bool true) ∧ Below w.heap.size w w' := by
  unfold idV
  go_enter Tryz.func46, Tryz.ntmps46
  go_wp2
  go_ret
  exact ⟨rfl, (Below.refl _ _).alloc (Nat.le_refl _) _⟩

theorem asked_any (n : Int) (w : World) : Calls Tryz.prog 48 #[idV, .int .i64 n] w fun e w' => e = .returned (.int .i64 (coinsN n)) ∧ Below w.heap.size w w' := by
  unfold idV
  by_cases h1 : n < 0
  · have e : coinsN n = 0 := if_pos (.inl h1)
    rw [e]
    clear e
    go_enter Tryz.func48, Tryz.ntmps48
    go_wp2
    go_ret
    exact ⟨rfl, (Below.refl _ _).alloc (Nat.le_refl _) _⟩
  · by_cases h2 : 1048576 < n
    · have e : coinsN n = 0 := if_pos (.inr h2)
      rw [e]
      clear e
      go_enter Tryz.func48, Tryz.ntmps48
      go_wp2
      go_ret
      exact ⟨rfl, (Below.refl _ _).alloc (Nat.le_refl _) _⟩
    · have e : coinsN n = n + 40 := if_neg (by omega)
      have h0 : 0 ≤ n := by omega
      have h3 : n ≤ 1048576 := by omega
      rw [e, Int.add_comm n 40]
      clear e
      go_enter Tryz.func48, Tryz.ntmps48
      go_wp2
      go_ret
      exact ⟨rfl, (Below.refl _ _).alloc (Nat.le_refl _) _⟩

theorem serves_any (c : ByteArray) (w : World) : Calls Tryz.prog 83 #[idV, .string c] w fun e w' => e = .returned (.bool (decide (40 ≤ c.size ∧ c.size ≤ 1048616))) ∧ Below w.heap.size w w' := by
  have h0 := fun W => asked_any 0 W
  have h1 := fun W => asked_any 1048576 W
  rw [show coinsN 0 = 40 from rfl] at h0
  rw [show coinsN 1048576 = 1048616 from rfl] at h1
  unfold idV at *
  by_cases hA : 40 ≤ c.size
  · have hA' : (40 : Int) ≤ (c.size : Int) := by omega
    by_cases hB : c.size ≤ 1048616
    · have hB' : (c.size : Int) ≤ 1048616 := by omega
      rw [decide_eq_true ⟨hA, hB⟩]
      go_enter Tryz.func83, Tryz.ntmps83
      go_wp2_with fail
      refine (h0 _).mono ?_
      rintro e w2 ⟨rfl, hb1⟩
      clear h0
      have hc1 : w2.cell? ⟨w.heap.size, 0, none⟩ = some (.int .i64 40) := (hb1.cell (p := ⟨w.heap.size, 0, none⟩) (by simp)).trans (cells_new w #[.int .i64 40, .int .i64 1] 51 0 _ rfl)
      have hc2 : w2.cell? ⟨w.heap.size, 1, none⟩ = some (.int .i64 1) := (hb1.cell (p := ⟨w.heap.size, 1, none⟩) (by simp)).trans (cells_new w #[.int .i64 40, .int .i64 1] 51 1 _ rfl)
      have hb0 : Below w.heap.size w w2 := ((Below.refl _ _).alloc (Nat.le_refl _) _).trans (hb1.mono (by simp))
      clear hb1
      go_wp2_with fail
      refine (h1 _).mono ?_
      rintro e w3 ⟨rfl, hb2⟩
      go_wp2
      go_ret
      exact ⟨rfl, hb0.trans (hb2.mono hb0.size)⟩
    · have hB' : ¬ (c.size : Int) ≤ 1048616 := by omega
      rw [decide_eq_false (by omega)]
      go_enter Tryz.func83, Tryz.ntmps83
      go_wp2_with fail
      refine (h0 _).mono ?_
      rintro e w2 ⟨rfl, hb1⟩
      clear h0
      have hc1 : w2.cell? ⟨w.heap.size, 0, none⟩ = some (.int .i64 40) := (hb1.cell (p := ⟨w.heap.size, 0, none⟩) (by simp)).trans (cells_new w #[.int .i64 40, .int .i64 1] 51 0 _ rfl)
      have hc2 : w2.cell? ⟨w.heap.size, 1, none⟩ = some (.int .i64 1) := (hb1.cell (p := ⟨w.heap.size, 1, none⟩) (by simp)).trans (cells_new w #[.int .i64 40, .int .i64 1] 51 1 _ rfl)
      have hb0 : Below w.heap.size w w2 := ((Below.refl _ _).alloc (Nat.le_refl _) _).trans (hb1.mono (by simp))
      clear hb1
      go_wp2_with fail
      refine (h1 _).mono ?_
      rintro e w3 ⟨rfl, hb2⟩
      go_wp2
      go_ret
      exact ⟨by simp; omega, hb0.trans (hb2.mono hb0.size)⟩
  · have hA' : ¬ (40 : Int) ≤ (c.size : Int) := by omega
    rw [decide_eq_false (by omega)]
    go_enter Tryz.func83, Tryz.ntmps83
    go_wp2_with fail
    refine (h0 _).mono ?_
    rintro e w2 ⟨rfl, hb1⟩
    have hb0 : Below w.heap.size w w2 := ((Below.refl _ _).alloc (Nat.le_refl _) _).trans (hb1.mono (by simp))
    clear hb1
    go_wp2
    go_ret
    exact ⟨rfl, hb0⟩

theorem place_any (kind : Int) (name : ByteArray) (w : World) : Calls Tryz.prog 47 #[idV, .int .i64 kind, .string name] w fun e w' => e = .returned (.int .i64 (placeE kind name)) ∧ Below w.heap.size w w' := by
  unfold idV
  by_cases h1 : kind < 1
  · have e : placeE kind name = 82 := if_pos (.inl h1)
    rw [e]
    clear e
    go_enter Tryz.func47, Tryz.ntmps47
    go_wp2
    go_ret
    exact ⟨rfl, (Below.refl _ _).alloc (Nat.le_refl _) _⟩
  · by_cases h2 : 3 < kind
    · have e : placeE kind name = 82 := if_pos (.inr h2)
      rw [e]
      clear e
      go_enter Tryz.func47, Tryz.ntmps47
      go_wp2
      go_ret
      exact ⟨rfl, (Below.refl _ _).alloc (Nat.le_refl _) _⟩
    · by_cases h3 : 64 < name.size
      · have e : placeE kind name = 1 := by unfold placeE; rw [if_neg (by omega), if_pos h3]
        have h3' : (64 : Int) < (name.size : Int) := by omega
        rw [e]
        clear e
        go_enter Tryz.func47, Tryz.ntmps47
        go_wp2
        go_ret
        exact ⟨rfl, (Below.refl _ _).alloc (Nat.le_refl _) _⟩
      · have e : placeE kind name = 0 := by unfold placeE; rw [if_neg (by omega), if_neg h3]
        have h3' : ¬ (64 : Int) < (name.size : Int) := by omega
        rw [e]
        clear e
        go_enter Tryz.func47, Tryz.ntmps47
        go_wp2
        go_ret
        exact ⟨rfl, (Below.refl _ _).alloc (Nat.le_refl _) _⟩

theorem tag_any (s : ByteArray) (w : World) (hs : s.size ≤ 281474976710656) : Calls Tryz.prog 36 #[.string s] w fun e w' => e = .returned (.string (tagS s)) ∧ Below w.heap.size w w' := by
  by_cases h : s.size < 16
  · have h' : (s.size : Int) < 16 := by omega
    have e : tagS s = { data := #[] } := if_pos h
    rw [e]
    clear e
    go_enter Tryz.func36, Tryz.ntmps36
    go_wp2
    go_ret
    exact ⟨rfl, Below.refl _ _⟩
  · have h' : ¬ (s.size : Int) < 16 := by omega
    have hw : IntKind.i64.wrap ((s.size : Int) - 16) = ((s.size - 16 : Nat) : Int) := by
      rw [IntKind.wrap_i64]
      omega
    have e : tagS s = s.extract (s.size - 16) s.size := if_neg h
    have hc := fun W => clone_any (s.extract (s.size - 16) s.size) W (by rw [ByteArray.size_extract]; omega)
    rw [e]
    clear e
    go_enter Tryz.func36, Tryz.ntmps36
    go_wp2_with fail
    refine (hc _).mono ?_
    rintro e w2 ⟨rfl, hb⟩
    go_wp2
    go_ret
    exact ⟨rfl, hb⟩

theorem sealFault_any (kind : Int) (name text coins : ByteArray) (w : World) : Calls Tryz.prog 22 #[idV, .int .i64 kind, .string name, .string text, .string coins] w fun e w' => e = .returned (.int .i64 (askE kind name text coins)) ∧ Below w.heap.size w w' := by
  have h0 := fun W => place_any kind name W
  have h1 := fun W => asked_any (text.size : Int) W
  obtain ⟨R, hR⟩ : ∃ R, askE kind name text coins = R := ⟨_, rfl⟩
  have HR : Hid (askE kind name text coins = R) := hR
  obtain ⟨pe, hpe⟩ : ∃ pe, placeE kind name = pe := ⟨_, rfl⟩
  rw [hpe] at h0
  have HP : Hid (placeE kind name = pe) := hpe
  rw [hR]
  clear hR hpe
  unfold idV at *
  have htl : Hid (∀ w2 : World, Below (w.alloc (.cells #[.int .i64 40, .int .i64 1] 51)).heap.size (w.alloc (.cells #[.int .i64 40, .int .i64 1] 51)) w2 → w2.cell? ⟨w.heap.size, 0, none⟩ = some (.int .i64 40) ∧ w2.cell? ⟨w.heap.size, 1, none⟩ = some (.int .i64 1) ∧ Below w.heap.size w w2) := fun w2 hb1 =>
    ⟨(hb1.cell (p := ⟨w.heap.size, 0, none⟩) (by simp)).trans (cells_new w #[.int .i64 40, .int .i64 1] 51 0 _ rfl), (hb1.cell (p := ⟨w.heap.size, 1, none⟩) (by simp)).trans (cells_new w #[.int .i64 40, .int .i64 1] 51 1 _ rfl), ((Below.refl _ _).alloc (Nat.le_refl _) _).trans (hb1.mono (by simp))⟩
  by_cases hp : pe = 0
  · subst hp
    by_cases ht : 1048576 < text.size
    · have ht' : (1048576 : Int) < (text.size : Int) := by omega
      obtain rfl : 3 = R := by rw [← HR.out]; unfold askE; rw [if_neg (by rw [HP.out]; simp), if_pos ht]
      clear HR HP
      go_enter Tryz.func22, Tryz.ntmps22
      go_wp2_with fail
      refine (h0 _).mono ?_
      rintro e w2 ⟨rfl, hb1⟩
      obtain ⟨hc1, hc2, hb0⟩ := htl.out w2 hb1
      clear h0 hb1
      go_wp2
      go_ret
      exact ⟨rfl, hb0⟩
    · have ht' : ¬ (1048576 : Int) < (text.size : Int) := by omega
      have hcn : coinsN (text.size : Int) = ((text.size + 40 : Nat) : Int) := by unfold coinsN; rw [if_neg (by omega)]; omega
      rw [hcn] at h1
      by_cases hq : coins.size = text.size + 40
      · obtain rfl : 0 = R := by rw [← HR.out]; unfold askE; rw [if_neg (by rw [HP.out]; simp), if_neg ht, if_neg (by omega)]
        rw [← hq] at h1
        clear HR HP hcn hq
        go_enter Tryz.func22, Tryz.ntmps22
        go_wp2_with fail
        refine (h0 _).mono ?_
        rintro e w2 ⟨rfl, hb1⟩
        obtain ⟨hc1, hc2, hb0⟩ := htl.out w2 hb1
        clear h0 hb1
        go_wp2_with fail
        refine (h1 _).mono ?_
        rintro e w3 ⟨rfl, hb2⟩
        go_wp2
        go_ret
        exact ⟨rfl, hb0.trans (hb2.mono hb0.size)⟩
      · obtain rfl : 77 = R := by rw [← HR.out]; unfold askE; rw [if_neg (by rw [HP.out]; simp), if_neg ht, if_pos hq]
        have hq' : ((coins.size : Int) != ((text.size + 40 : Nat) : Int)) = true := by simp; omega
        have hq2 : ¬ (coins.size : Int) = ((text.size + 40 : Nat) : Int) := by omega
        generalize ((text.size + 40 : Nat) : Int) = cn at h1 hq' hq2
        clear HR HP hcn hq
        go_enter Tryz.func22, Tryz.ntmps22
        go_wp2_with fail
        refine (h0 _).mono ?_
        rintro e w2 ⟨rfl, hb1⟩
        obtain ⟨hc1, hc2, hb0⟩ := htl.out w2 hb1
        clear h0 hb1
        go_wp2_with fail
        refine (h1 _).mono ?_
        rintro e w3 ⟨rfl, hb2⟩
        go_wp2
        go_ret
        exact ⟨rfl, hb0.trans (hb2.mono hb0.size)⟩
  · have hp' : (pe != 0) = true := by simpa using hp
    obtain rfl : pe = R := by rw [← HR.out]; unfold askE; rw [HP.out, if_pos hp]
    clear HR HP
    go_enter Tryz.func22, Tryz.ntmps22
    go_wp2_with fail
    refine (h0 _).mono ?_
    rintro e w2 ⟨rfl, hb1⟩
    obtain ⟨hc1, hc2, hb0⟩ := htl.out w2 hb1
    clear h0 hb1
    go_wp2
    go_ret
    exact ⟨rfl, hb0⟩

end Go.Proofs.YtengclnahppmhaaGreatDoor.Se
