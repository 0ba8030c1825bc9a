import Derived.Test.YtengclnahppmhaaGreatDoorSeB
namespace Go.Proofs.YtengclnahppmhaaGreatDoor.Rs
open Go.RowKit Go.Lib Go.Deep
open Se (placeE tagS)

theorem bdN (w : World) (n : Nat) : Below w.heap.size w (w.drewN n) := ⟨rfl, rfl, rfl, Nat.le_refl _, fun _ _ => rfl⟩
theorem carry {P : Program} {f : Nat} {args : Array Value} {w : World} {x : Value} (h : ∀ W, Calls P f args W fun e w' => e = .returned x ∧ Below W.heap.size W w') : Hid (∀ W, Below w.heap.size w W → Calls P f args W fun e w' => e = .returned x ∧ Below w.heap.size w w') := fun W hb => (h W).mono (by
  rintro e w' ⟨rfl, hb'⟩
  exact ⟨rfl, hb.trans (hb'.mono hb.size)⟩)
/-- the checks of the real sealer -/
def rcN (size : Int) : Int := if size < 0 ∨ 1048576 < size then 0 else 24
def raskE (kind : Int) (name text coins : ByteArray) : Int :=
  if placeE kind name ≠ 0 then placeE kind name else if 1048576 < text.size then 3 else if coins.size ≠ 24 then 77 else 0
def rlV : Value := .agg #[.int .i64 24, .int .i64 0]

theorem made_any (w : World) : Calls Tryz.prog 46 #[rlV] w fun e w' => e = .returned (.bool true) ∧ Below w.heap.size w w' := by
  unfold rlV
  go_enter Tryz.func46, Tryz.ntmps46
  go_wp2
  go_ret
  exact ⟨rfl, (Below.refl _ _).alloc (Nat.le_refl _) _⟩

theorem asked_any (n : Int) (w : World) : Calls Tryz.prog 48 #[rlV, .int .i64 n] w fun e w' => e = .returned (.int .i64 (rcN n)) ∧ Below w.heap.size w w' := by
  unfold rlV
  by_cases h1 : n < 0
  · have e : rcN n = 0 := if_pos (.inl h1)
    rw [e]
    clear e
    go_enter Tryz.func48, Tryz.ntmps48
    go_wp2
    go_ret
    exact ⟨rfl, (Below.refl _ _).alloc (Nat.le_refl _) _⟩
  · by_cases h2 : 1048576 < n
    · have e : rcN n = 0 := if_pos (.inr h2)
      rw [e]
      clear e
      go_enter Tryz.func48, Tryz.ntmps48
      go_wp2
      go_ret
      exact ⟨rfl, (Below.refl _ _).alloc (Nat.le_refl _) _⟩
    · have e : rcN n = 24 := if_neg (by omega)
      have h0 : 0 ≤ n := by omega
      have h3 : n ≤ 1048576 := by omega
      rw [e]
      clear e
      go_enter Tryz.func48, Tryz.ntmps48
      go_wp2
      go_ret
      exact ⟨rfl, (Below.refl _ _).alloc (Nat.le_refl _) _⟩

theorem serves_any (c : ByteArray) (w : World) : Calls Tryz.prog 83 #[rlV, .string c] w fun e w' => e = .returned (.bool (decide (24 ≤ c.size ∧ c.size ≤ 24))) ∧ Below w.heap.size w w' := by
  have h0 := fun W => asked_any 0 W
  have h1 := fun W => asked_any 1048576 W
  rw [show rcN 0 = 24 from rfl] at h0
  rw [show rcN 1048576 = 24 from rfl] at h1
  unfold rlV at *
  by_cases hA : 24 ≤ c.size
  · have hA' : (24 : Int) ≤ (c.size : Int) := by omega
    by_cases hB : c.size ≤ 24
    · have hB' : (c.size : Int) ≤ 24 := by omega
      rw [decide_eq_true ⟨hA, hB⟩]
      go_enter Tryz.func83, Tryz.ntmps83
      go_wp2_with fail
      refine (h0 _).mono ?_
      rintro e w2 ⟨rfl, hb1⟩
      clear h0
      have hc1 : w2.cell? ⟨w.heap.size, 0, none⟩ = some (.int .i64 24) := (hb1.cell (p := ⟨w.heap.size, 0, none⟩) (by simp)).trans (cells_new w #[.int .i64 24, .int .i64 0] 51 0 _ rfl)
      have hc2 : w2.cell? ⟨w.heap.size, 1, none⟩ = some (.int .i64 0) := (hb1.cell (p := ⟨w.heap.size, 1, none⟩) (by simp)).trans (cells_new w #[.int .i64 24, .int .i64 0] 51 1 _ rfl)
      have hb0 : Below w.heap.size w w2 := ((Below.refl _ _).alloc (Nat.le_refl _) _).trans (hb1.mono (by simp))
      clear hb1
      go_wp2_with fail
      refine (h1 _).mono ?_
      rintro e w3 ⟨rfl, hb2⟩
      go_wp2
      go_ret
      exact ⟨rfl, hb0.trans (hb2.mono hb0.size)⟩
    · have hB' : ¬ (c.size : Int) ≤ 24 := by omega
      rw [decide_eq_false (by omega)]
      go_enter Tryz.func83, Tryz.ntmps83
      go_wp2_with fail
      refine (h0 _).mono ?_
      rintro e w2 ⟨rfl, hb1⟩
      clear h0
      have hc1 : w2.cell? ⟨w.heap.size, 0, none⟩ = some (.int .i64 24) := (hb1.cell (p := ⟨w.heap.size, 0, none⟩) (by simp)).trans (cells_new w #[.int .i64 24, .int .i64 0] 51 0 _ rfl)
      have hc2 : w2.cell? ⟨w.heap.size, 1, none⟩ = some (.int .i64 0) := (hb1.cell (p := ⟨w.heap.size, 1, none⟩) (by simp)).trans (cells_new w #[.int .i64 24, .int .i64 0] 51 1 _ rfl)
      have hb0 : Below w.heap.size w w2 := ((Below.refl _ _).alloc (Nat.le_refl _) _).trans (hb1.mono (by simp))
      clear hb1
      go_wp2_with fail
      refine (h1 _).mono ?_
      rintro e w3 ⟨rfl, hb2⟩
      go_wp2
      go_ret
      exact ⟨by simp; omega, hb0.trans (hb2.mono hb0.size)⟩
  · have hA' : ¬ (24 : Int) ≤ (c.size : Int) := by omega
    rw [decide_eq_false (by omega)]
    go_enter Tryz.func83, Tryz.ntmps83
    go_wp2_with fail
    refine (h0 _).mono ?_
    rintro e w2 ⟨rfl, hb1⟩
    have hb0 : Below w.heap.size w w2 := ((Below.refl _ _).alloc (Nat.le_refl _) _).trans (hb1.mono (by simp))
    clear hb1
    go_wp2
    go_ret
    exact ⟨rfl, hb0⟩

theorem place_any (kind : Int) (name : ByteArray) (w : World) : Calls Tryz.prog 47 #[rlV, .int .i64 kind, .string name] w fun e w' => e = .returned (.int .i64 (placeE kind name)) ∧ Below w.heap.size w w' := by
  unfold rlV
  by_cases h1 : kind < 1
  · have e : placeE kind name = 82 := if_pos (.inl h1)
    rw [e]
    clear e
    go_enter Tryz.func47, Tryz.ntmps47
    go_wp2
    go_ret
    exact ⟨rfl, (Below.refl _ _).alloc (Nat.le_refl _) _⟩
  · by_cases h2 : 3 < kind
    · have e : placeE kind name = 82 := if_pos (.inr h2)
      rw [e]
      clear e
      go_enter Tryz.func47, Tryz.ntmps47
      go_wp2
      go_ret
      exact ⟨rfl, (Below.refl _ _).alloc (Nat.le_refl _) _⟩
    · by_cases h3 : 64 < name.size
      · have e : placeE kind name = 1 := by unfold placeE; rw [if_neg (by omega), if_pos h3]
        have h3' : (64 : Int) < (name.size : Int) := by omega
        rw [e]
        clear e
        go_enter Tryz.func47, Tryz.ntmps47
        go_wp2
        go_ret
        exact ⟨rfl, (Below.refl _ _).alloc (Nat.le_refl _) _⟩
      · have e : placeE kind name = 0 := by unfold placeE; rw [if_neg (by omega), if_neg h3]
        have h3' : ¬ (64 : Int) < (name.size : Int) := by omega
        rw [e]
        clear e
        go_enter Tryz.func47, Tryz.ntmps47
        go_wp2
        go_ret
        exact ⟨rfl, (Below.refl _ _).alloc (Nat.le_refl _) _⟩

theorem sealFault_any (kind : Int) (name text coins : ByteArray) (w : World) : Calls Tryz.prog 22 #[rlV, .int .i64 kind, .string name, .string text, .string coins] w fun e w' => e = .returned (.int .i64 (raskE kind name text coins)) ∧ Below w.heap.size w w' := by
  have h0 := fun W => place_any kind name W
  have h1 := fun W => asked_any (text.size : Int) W
  obtain ⟨R, hR⟩ : ∃ R, raskE kind name text coins = R := ⟨_, rfl⟩
  have HR : Hid (raskE kind name text coins = R) := hR
  obtain ⟨pe, hpe⟩ : ∃ pe, placeE kind name = pe := ⟨_, rfl⟩
  rw [hpe] at h0
  have HP : Hid (placeE kind name = pe) := hpe
  rw [hR]
  clear hR hpe
  unfold rlV at *
  have htl : Hid (∀ w2 : World, Below (w.alloc (.cells #[.int .i64 24, .int .i64 0] 51)).heap.size (w.alloc (.cells #[.int .i64 24, .int .i64 0] 51)) w2 → w2.cell? ⟨w.heap.size, 0, none⟩ = some (.int .i64 24) ∧ w2.cell? ⟨w.heap.size, 1, none⟩ = some (.int .i64 0) ∧ Below w.heap.size w w2) := fun w2 hb1 =>
    ⟨(hb1.cell (p := ⟨w.heap.size, 0, none⟩) (by simp)).trans (cells_new w #[.int .i64 24, .int .i64 0] 51 0 _ rfl), (hb1.cell (p := ⟨w.heap.size, 1, none⟩) (by simp)).trans (cells_new w #[.int .i64 24, .int .i64 0] 51 1 _ rfl), ((Below.refl _ _).alloc (Nat.le_refl _) _).trans (hb1.mono (by simp))⟩
  by_cases hp : pe = 0
  · subst hp
    by_cases ht : 1048576 < text.size
    · have ht' : (1048576 : Int) < (text.size : Int) := by omega
      obtain rfl : 3 = R := by rw [← HR.out]; unfold raskE; rw [if_neg (by rw [HP.out]; simp), if_pos ht]
      clear HR HP
      go_enter Tryz.func22, Tryz.ntmps22
      go_wp2_with fail
      refine (h0 _).mono ?_
      rintro e w2 ⟨rfl, hb1⟩
      obtain ⟨hc1, hc2, hb0⟩ := htl.out w2 hb1
      clear h0 hb1
      go_wp2
      go_ret
      exact ⟨rfl, hb0⟩
    · have ht' : ¬ (1048576 : Int) < (text.size : Int) := by omega
      have hcn : rcN (text.size : Int) = ((24 : Nat) : Int) := by unfold rcN; rw [if_neg (by omega)]; rfl
      rw [hcn] at h1
      by_cases hq : coins.size = 24
      · obtain rfl : 0 = R := by rw [← HR.out]; unfold raskE; rw [if_neg (by rw [HP.out]; simp), if_neg ht, if_neg (by omega)]
        rw [← hq] at h1
        clear HR HP hcn hq
        go_enter Tryz.func22, Tryz.ntmps22
        go_wp2_with fail
        refine (h0 _).mono ?_
        rintro e w2 ⟨rfl, hb1⟩
        obtain ⟨hc1, hc2, hb0⟩ := htl.out w2 hb1
        clear h0 hb1
        go_wp2_with fail
        refine (h1 _).mono ?_
        rintro e w3 ⟨rfl, hb2⟩
        go_wp2
        go_ret
        exact ⟨rfl, hb0.trans (hb2.mono hb0.size)⟩
      · obtain rfl : 77 = R := by rw [← HR.out]; unfold raskE; rw [if_neg (by rw [HP.out]; simp), if_neg ht, if_pos hq]
        have hq' : ((coins.size : Int) != ((24 : Nat) : Int)) = true := by simp; omega
        have hq2 : ¬ (coins.size : Int) = ((24 : Nat) : Int) := by omega
        generalize ((24 : Nat) : Int) = cn at h1 hq' hq2
        clear HR HP hcn hq
        go_enter Tryz.func22, Tryz.ntmps22
        go_wp2_with fail
        refine (h0 _).mono ?_
        rintro e w2 ⟨rfl, hb1⟩
        obtain ⟨hc1, hc2, hb0⟩ := htl.out w2 hb1
        clear h0 hb1
        go_wp2_with fail
        refine (h1 _).mono ?_
        rintro e w3 ⟨rfl, hb2⟩
        go_wp2
        go_ret
        exact ⟨rfl, hb0.trans (hb2.mono hb0.size)⟩
  · have hp' : (pe != 0) = true := by simpa using hp
    obtain rfl : pe = R := by rw [← HR.out]; unfold raskE; rw [HP.out, if_pos hp]
    clear HR HP
    go_enter Tryz.func22, Tryz.ntmps22
    go_wp2_with fail
    refine (h0 _).mono ?_
    rintro e w2 ⟨rfl, hb1⟩
    obtain ⟨hc1, hc2, hb0⟩ := htl.out w2 hb1
    clear h0 hb1
    go_wp2
    go_ret
    exact ⟨rfl, hb0⟩


end Go.Proofs.YtengclnahppmhaaGreatDoor.Rs
