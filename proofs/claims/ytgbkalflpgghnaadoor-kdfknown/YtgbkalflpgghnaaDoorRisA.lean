import Derived.Test.YtgbkalflpgghnaaDoorHmacA
namespace Go.Proofs.YtgbkalflpgghnaaDoor
open Go.RowKit Go.Lib Go.Deep

theorem knum_any (n : Int) (w : World) : Calls Tryd.prog 10 #[.int .i64 n] w fun e w' => e = .returned (.int .i64 n) ∧ w = w' := by
  go_enter Tryd.func10, Tryd.ntmps10
  go_wp2
  go_ret
  exact ⟨rfl, rfl⟩
theorem kextr_any (salt secret : ByteArray) (h1 : salt.size ≤ 1048576) (h2 : secret.size ≤ 1048576) (w : World) (ht : Tabs w) (h4 : 2 ≤ w.heap.size) :
    Calls Tryd.prog 7 #[.string salt, .string secret] w fun e w' => e = .returned (.string (str (hmacL salt.data.toList secret.data.toList))) ∧ Below w.heap.size w w' := by
  have hh := hmac_one salt secret (by omega) (by omega) w ht h4
  go_enter Tryd.func7, Tryd.ntmps7
  go_wp2_with (go_at_call 5; refine hh.mono ?_; rintro e w1 ⟨rfl, hb1⟩)
  go_ret
  exact ⟨rfl, hb1⟩

/-- n bytes from c on -/
def riseL (c n : Nat) : List UInt8 := (List.range n).map fun i => UInt8.ofNat (c + i)
theorem riseL_length (c n : Nat) : (riseL c n).length = n := by simp [riseL]
theorem riseL_succ (c n : Nat) : riseL c (n + 1) = riseL c n ++ [UInt8.ofNat (c + n)] := by simp [riseL, List.range_succ]

set_option maxRecDepth 20000 in
set_option maxHeartbeats 1000000 in
theorem krising_any (c n : Nat) (hn : n ≤ 255) (w : World) :
    Calls Tryd.prog 8 #[.int .u8 (c : Int), .int .i64 (n : Int)] w fun e w' => e = .returned (.string (str (riseL c n))) ∧ Below w.heap.size w w' := by
  obtain ⟨i0, hi, hz0, hz1, hz2⟩ := info_parts info5
  have HS : Hid (∀ k : Nat, k ≤ 255 → Lib.byteCells (riseL c (k + 1)) = Lib.byteCells (riseL c k) ++ [.int .u8 (((c : Int) + (k : Int)) % 256)]) := fun k hk => by
    rw [riseL_succ, byteCells_append]
    congr 1
  have HC : Hid (∀ k v W, World.ownsRow W w.heap.size 5 1 v k (Lib.byteCells (riseL c k)) → (convert 32 9 v).run Tryd.prog W = .ok (.string (str (riseL c k))) W) := fun k v W h =>
    convert_own (P := Tryd.prog) W 32 9 5 w.heap.size _ _ Tryd.underlying32 Tryd.underlying5 Tryd.underlying9 (by rw [riseL_length]; exact h)
  have H0 : Hid (Lib.byteCells (riseL c 0) = []) := rfl
  go_enter Tryd.func8, Tryd.ntmps8
  go_wp2
  go_loopg [5, 6] n (fun gk v i wr => ∃ k : Nat, k + gk = n ∧ i = .int .i64 k ∧ wr.ownsRow w.heap.size 5 1 v k (Lib.byteCells (riseL c k)) ∧ Below w.heap.size w wr)
  case atStart => exact ⟨0, by omega, rfl, World.ownsRow_nil _ _ _ _, Below.refl _ _⟩
  case round =>
    obtain ⟨k, hk, rfl, hown, hbel⟩ := hrel
    have HK : Hid (k + gk = n) := hk
    have hk' : k ≤ n := by omega
    clear hk
    by_cases hlt : k < n
    · have hml : k + 1 ≤ maxLen := by unfold maxLen; omega
      have hone : ∀ u ∈ [Value.int .u8 (((c : Int) + (k : Int)) % 256)], u.oneCell' = true := by simp [Value.oneCell']
      go_wp2_with (at_builtin; refine wpList_append_own _ rfl _ _ 32 rfl w.heap.size 5 i0 (.int .u8 0) 1 1 Tryd.underlying32 hi hz0 hz1 hz2 rfl (by decide) _ _ _ rfl (hown.alloc _) ⟨wr.heap.size, 0, none⟩ 1 1 [.int .u8 (((c : Int) + (k : Int)) % 256)] rfl rfl (by intro i u h; exact cells_new wr #[.int .u8 (((c : Int) + (k : Int)) % 256)] 5 i u (by simpa using h)) hone hml (by omega) (by have := hbel.size; simp; omega) ?_; intro v' w' hown' hgrow' _)
      have R : w'.ownsRow w.heap.size 5 1 v' (k + 1) (Lib.byteCells (riseL c (k + 1))) := by rw [HS.out k (by omega)]; exact hown'
      have hb' : Below w.heap.size w w' := by
        have h1 := hbel.alloc hbel.size (.cells #[.int .u8 (((c : Int) + (k : Int)) % 256)] 5)
        exact h1.trans (grown_below hgrow' h1.size (hown.alloc _))
      clear hown' hgrow' hown
      go_wp2
      go_roundg (gk - 1)
      case measure => have := HK.out; omega
      case rel => exact ⟨k + 1, by have := HK.out; omega, by go_num, R, hb'⟩
    · obtain rfl : k = n := by omega
      have hcv := HC.out k _ wr hown
      clear hown
      go_wp2
      go_ret
      exact ⟨rfl, hbel⟩

set_option maxRecDepth 20000 in
set_option maxHeartbeats 1000000 in
theorem many_any (c : UInt8) (n : Nat) (hn : n ≤ 1048576) (w : World) :
    Calls Tryd.prog 6 #[.int .u8 (c.toNat : Int), .int .i64 (n : Int)] w fun e w' => e = .returned (.string (str (List.replicate n c))) ∧ Below w.heap.size w w' := by
  obtain ⟨i0, hi, hz0, hz1, hz2⟩ := info_parts info5
  have hone : ∀ u ∈ [Value.int .u8 (c.toNat : Int)], u.oneCell' = true := byteCells_one [c]
  have HS : Hid (∀ k, Lib.byteCells (List.replicate (k + 1) c) = Lib.byteCells (List.replicate k c) ++ [.int .u8 (c.toNat : Int)]) := fun k => by
    rw [List.replicate_succ', byteCells_append]
    rfl
  have HC : Hid (∀ k v W, World.ownsRow W w.heap.size 5 1 v k (Lib.byteCells (List.replicate k c)) → (convert 32 9 v).run Tryd.prog W = .ok (.string (str (List.replicate k c))) W) := fun k v W h =>
    convert_own (P := Tryd.prog) W 32 9 5 w.heap.size _ _ Tryd.underlying32 Tryd.underlying5 Tryd.underlying9 (by rw [List.length_replicate]; exact h)
  have H0 : Hid (Lib.byteCells (List.replicate 0 c) = []) := rfl
  revert hone HS
  generalize (c.toNat : Int) = x
  intro hone HS
  go_enter Tryd.func6, Tryd.ntmps6
  go_wp2
  go_loopg [5, 6] n (fun gk v i wr => ∃ k : Nat, k + gk = n ∧ i = .int .i64 k ∧ wr.ownsRow w.heap.size 5 1 v k (Lib.byteCells (List.replicate k c)) ∧ Below w.heap.size w wr)
  case atStart => exact ⟨0, by omega, rfl, World.ownsRow_nil _ _ _ _, Below.refl _ _⟩
  case round =>
    obtain ⟨k, hk, rfl, hown, hbel⟩ := hrel
    have HK : Hid (k + gk = n) := hk
    have hk' : k ≤ n := by omega
    clear hk
    by_cases hlt : k < n
    · have hml : k + 1 ≤ maxLen := by unfold maxLen; omega
      go_wp2_with (at_builtin; refine wpList_append_own _ rfl _ _ 32 rfl w.heap.size 5 i0 (.int .u8 0) 1 1 Tryd.underlying32 hi hz0 hz1 hz2 rfl (by decide) _ _ _ rfl (hown.alloc _) ⟨wr.heap.size, 0, none⟩ 1 1 [.int .u8 x] rfl rfl (by intro i u h; exact cells_new wr #[.int .u8 x] 5 i u (by simpa using h)) hone hml (by omega) (by have := hbel.size; simp; omega) ?_; intro v' w' hown' hgrow' _)
      have R : w'.ownsRow w.heap.size 5 1 v' (k + 1) (Lib.byteCells (List.replicate (k + 1) c)) := by rw [HS.out]; exact hown'
      have hb' : Below w.heap.size w w' := by
        have h1 := hbel.alloc hbel.size (.cells #[.int .u8 x] 5)
        exact h1.trans (grown_below hgrow' h1.size (hown.alloc _))
      clear hown' hgrow' hown
      go_wp2
      go_roundg (gk - 1)
      case measure => have := HK.out; omega
      case rel => exact ⟨k + 1, by have := HK.out; omega, by go_num, R, hb'⟩
    · obtain rfl : k = n := by omega
      have hcv := HC.out k _ wr hown
      clear hown
      go_wp2
      go_ret
      exact ⟨rfl, hbel⟩

end Go.Proofs.YtgbkalflpgghnaaDoor
