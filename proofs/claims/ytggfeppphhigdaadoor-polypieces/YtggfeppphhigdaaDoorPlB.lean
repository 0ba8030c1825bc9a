import Derived.Test.YtggfeppphhigdaaDoorPlA
namespace Go.Proofs.YtggfeppphhigdaaDoor
open Go.RowKit Go.Lib Go.Deep

theorem made_rows (n : Nat) : (madeCells #[Value.int .u8 0] (n * 1)).toList = Lib.byteCells (List.replicate n 0) := by
  apply List.ext_getElem
  · simp [size_madeCells, Lib.byteCells]
  · intro i h1 h2
    simp [madeCells, Lib.byteCells, Nat.mod_one]

set_option maxRecDepth 20000 in
theorem zeros_any (n : Nat) (hn : n ≤ 1000) (w : World) :
    Calls Tryd.prog 16 #[.int .i64 (n : Int)] w fun e w' => e = .returned (.string (str (List.replicate n 0))) ∧ Below w.heap.size w w' := by
  obtain ⟨i0, hi, hz0, hz1, hz2⟩ := info_parts info5
  have h1 : (0 : Int) ≤ (n : Int) := by omega
  have hmx : n ≤ maxLen := by unfold maxLen; omega
  go_enter Tryd.func16, Tryd.ntmps16
  go_wp2_with (at_make; refine wpList_make_full _ rfl _ _ 34 rfl w.heap.size 5 i0 (.int .u8 0) 1 Tryd.underlying34 hi hz0 hz1 .i64 .i64 _ _ n rfl rfl rfl rfl (by rw [hz2]; omega) hmx (Nat.le_refl _) ?_; intro w5 hown5 hg5; have hown6 : w5.ownsRow w.heap.size 5 1 (.slice (some ⟨w.heap.size, 0, none⟩) n n) n (Lib.byteCells (List.replicate n 0)) := made_rows n ▸ hown5; have hcv := convert_own (P := Tryd.prog) w5 34 9 5 w.heap.size _ (List.replicate n 0) Tryd.underlying34 Tryd.underlying5 Tryd.underlying9 (by rw [List.length_replicate]; exact hown6))
  have hb5 : Below w.heap.size w w5 := Below.grown (Below.refl _ _) hg5 (Nat.le_refl _) (by simp)
  go_ret
  exact ⟨rfl, hb5⟩

theorem below_drewN (w : World) (n : Nat) : Below w.heap.size w (w.drewN n) := ⟨rfl, rfl, rfl, Nat.le_refl _, fun _ _ => rfl⟩

/-- two numbers added up, byte by byte -/
def sumN (a b : List UInt8) (k : Nat) : Nat := numL (a.take k) + numL (b.take k)
theorem sumN_succ (a b : List UInt8) (k : Nat) (ha : k < a.length) (hb : k < b.length) : sumN a b (k + 1) = sumN a b k + 256 ^ k * ((a.getD k 0).toNat + (b.getD k 0).toNat) := by
  have h : ∀ l : List UInt8, k < l.length → numL (l.take (k + 1)) = numL (l.take k) + 256 ^ k * (l.getD k 0).toNat := by
    intro l hl
    have := numL_take_succ l 0 k (by omega)
    simpa using this
  unfold sumN
  rw [h a ha, h b hb, Nat.mul_add]
  omega

set_option maxRecDepth 20000 in
set_option maxHeartbeats 1000000 in
theorem plusL_any (a b : ByteArray) (ha : a.size = 16) (hb : b.size = 16) (w : World) :
    Calls Tryd.prog 17 #[.string a, .string b] w fun e w' => e = .returned (.string (str (bytL 16 (numL a.data.toList + numL b.data.toList)))) ∧ Below w.heap.size w w' := by
  obtain ⟨i0, hi, hz0, hz1, hz2⟩ := info_parts info5
  have hal : a.data.toList.length = 16 := by rw [← size_eq]; exact ha
  have hbl : b.data.toList.length = 16 := by rw [← size_eq]; exact hb
  have HF : Hid (numL a.data.toList + numL b.data.toList = sumN a.data.toList b.data.toList 16) := by
    show _ = _
    unfold sumN
    rw [List.take_of_length_le (by omega), List.take_of_length_le (by omega)]
  go_enter Tryd.func17, Tryd.ntmps17
  go_wp2
  go_loopg [5, 6, 7] 16 (fun gk v c i wr => ∃ k : Nat, k + gk = 16 ∧ i = .int .i64 k ∧ c = .int .i64 ((sumN a.data.toList b.data.toList k / 256 ^ k : Nat) : Int) ∧ sumN a.data.toList b.data.toList k / 256 ^ k ≤ 1 ∧ wr.ownsRow w.heap.size 5 1 v k (Lib.byteCells (bytL k (sumN a.data.toList b.data.toList k))) ∧ Below w.heap.size w wr)
  case atStart => exact ⟨0, by omega, rfl, by simp [sumN, numL, vl], by simp [sumN, numL, vl], World.ownsRow_nil _ _ _ _, Below.refl _ _⟩
  case round =>
    obtain ⟨k, hk, rfl, rfl, hc1, hown, hbel⟩ := hrel
    have HK : Hid (k + gk = 16) := hk
    have hk' : k ≤ 16 := by omega
    clear hk
    by_cases hlt : k < 16
    · have hltI : (k : Int) < 16 := by omega
      have hml : k + 1 ≤ maxLen := by unfold maxLen; omega
      obtain ⟨x, hx⟩ : ∃ x, a.data.toList[k]? = some x := ⟨_, List.getElem?_eq_getElem (by omega)⟩
      obtain ⟨y, hy⟩ : ∃ y, b.data.toList[k]? = some y := ⟨_, List.getElem?_eq_getElem (by omega)⟩
      have hsc := sumN_succ a.data.toList b.data.toList k (by omega) (by omega)
      rw [List.getD_eq_getElem?_getD, List.getD_eq_getElem?_getD, hx, hy] at hsc
      change _ = _ + 256 ^ k * (x.toNat + y.toNat) at hsc
      have hD := carry_digit 256 k (sumN a.data.toList b.data.toList k) (x.toNat + y.toNat) (by omega)
      have hO := carry_over 256 k (sumN a.data.toList b.data.toList k) (x.toNat + y.toNat) (by omega)
      rw [← hsc] at hD hO
      have hx8 := x.toNat_lt
      have hy8 := y.toNat_lt
      have hix := fun W => rindex_at (P := Tryd.prog) W 9 a .i64 (k : Int) k x Tryd.underlying9 rfl hx
      have hiy := fun W => rindex_at (P := Tryd.prog) W 9 b .i64 (k : Int) k y Tryd.underlying9 rfl hy
      have HS : Hid (Lib.byteCells (bytL (k + 1) (sumN a.data.toList b.data.toList (k + 1))) = Lib.byteCells (bytL k (sumN a.data.toList b.data.toList k)) ++ [.int .u8 (((sumN a.data.toList b.data.toList k / 256 ^ k + (x.toNat + y.toNat)) % 256 : Nat) : Int)]) := by
        show _ = _
        unfold bytL
        rw [hD, List.map_append, byteCells_append]
        congr 1
        simp only [Lib.byteCells, List.map_cons, List.map_nil]
        rw [ofNat_toNat _ (Nat.mod_lt _ (by omega))]
      have HO : Hid (sumN a.data.toList b.data.toList (k + 1) / 256 ^ (k + 1) = (sumN a.data.toList b.data.toList k / 256 ^ k + (x.toNat + y.toNat)) / 256) := hO
      clear hD hO hsc hx hy
      revert HS HO hc1 hown hix hiy hx8 hy8
      generalize Lib.byteCells (bytL k (sumN a.data.toList b.data.toList k)) = cs
      generalize sumN a.data.toList b.data.toList k / 256 ^ k = c
      generalize x.toNat = xn
      generalize y.toNat = yn
      intro hc1 hown hx8 hy8 hix hiy HS HO
      have hone : ∀ u ∈ [Value.int .u8 (((c + (xn + yn)) % 256 : Nat) : Int)], u.oneCell' = true := by intro u hu; simp only [List.mem_singleton] at hu; subst hu; rfl
      have e1 : ((xn : Int) + (yn : Int) + (c : Int)) % 256 = (((c + (xn + yn)) % 256 : Nat) : Int) := by omega
      have e2 : ((xn : Int) + (yn : Int) + (c : Int)) / 256 = (((c + (xn + yn)) / 256 : Nat) : Int) := by omega
      have e3 : (c + (xn + yn)) / 256 ≤ 1 := by omega
      have e4 : (c + (xn + yn)) % 256 < 256 := Nat.mod_lt _ (by omega)
      revert e1 e2 e3 e4 HS HO hone
      generalize (c + (xn + yn)) % 256 = d
      generalize (c + (xn + yn)) / 256 = o
      intro HS HO hone e1 e2 e3 e4
      go_wp2_with fail
      go_quiet (fail)
      refine with_world (R := fun W => Exit.then _ _ _ _ W) (Q := fun W => W.ownsRow w.heap.size 5 1 u5 k cs ∧ Below w.heap.size w W) _ ⟨hown, hbel.trans ((below_drewN wr nq).mono hbel.size)⟩ ?_
      clear hown hbel hix hiy
      rintro w1 ⟨hown, hbel⟩
      go_wp2_with (at_builtin; refine wpList_append_own _ rfl _ _ 34 rfl w.heap.size 5 i0 (.int .u8 0) 1 1 Tryd.underlying34 hi hz0 hz1 hz2 rfl (by decide) _ _ _ rfl (hown.alloc _) ⟨w1.heap.size, 0, none⟩ 1 1 [.int .u8 (d : Int)] rfl rfl (by intro j u h; exact cells_new w1 #[.int .u8 (d : Int)] 5 j u (by simpa using h)) hone hml (by omega) (by have := hbel.size; simp; omega) ?_; intro v' w' hown' hgrow' _)
      have R : w'.ownsRow w.heap.size 5 1 v' (k + 1) (Lib.byteCells (bytL (k + 1) (sumN a.data.toList b.data.toList (k + 1)))) := by rw [HS.out]; exact hown'
      have hb' : Below w.heap.size w w' := by
        have h1 := hbel.alloc hbel.size (.cells #[.int .u8 (d : Int)] 5)
        exact h1.trans (grown_below hgrow' h1.size (hown.alloc _))
      clear hown' hgrow' hown
      go_wp2
      go_roundg (gk - 1)
      case measure => have := HK.out; omega
      case rel => exact ⟨k + 1, by have := HK.out; omega, by go_num, by rw [HO.out, e2], by rw [HO.out]; exact e3, R, hb'⟩
    · obtain rfl : k = 16 := by omega
      have hcv := convert_own (P := Tryd.prog) wr 34 9 5 w.heap.size _ (bytL 16 (sumN a.data.toList b.data.toList 16)) Tryd.underlying34 Tryd.underlying5 Tryd.underlying9 (by rw [bytL_length]; exact hown)
      clear hown
      go_wp2
      go_ret
      rw [HF.out]
      exact ⟨rfl, hbel⟩

end Go.Proofs.YtggfeppphhigdaaDoor
