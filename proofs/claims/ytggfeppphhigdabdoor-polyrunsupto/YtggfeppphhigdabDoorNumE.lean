import Derived.Test.YtggfeppphhigdabDoorNumD
namespace Go.Proofs.YtggfeppphhigdabDoor
open Go.RowKit Go.Lib Go.Deep

theorem zeros17 : ns .u8 (dg 256 17 0) = #[.int .u8 0, .int .u8 0, .int .u8 0, .int .u8 0, .int .u8 0, .int .u8 0, .int .u8 0, .int .u8 0, .int .u8 0, .int .u8 0, .int .u8 0, .int .u8 0, .int .u8 0, .int .u8 0, .int .u8 0, .int .u8 0, .int .u8 0] := rfl
theorem shl_limb (x k : Nat) (hx : x < 67108864) (hk : k < 5) : IntKind.u64.wrap ((x : Int) * 2 ^ (2 * k)) = ((x * 4 ^ k : Nat) : Int) := by
  have h : k = 0 ∨ k = 1 ∨ k = 2 ∨ k = 3 ∨ k = 4 := by omega
  rw [IntKind.wrap_u64]
  rcases h with rfl | rfl | rfl | rfl | rfl <;> simp only [Nat.mul_zero, Nat.reduceMul, Nat.reducePow, Int.reducePow, Nat.pow_zero] <;> omega
theorem shr_byte (u m : Nat) : (u : Int) / 2 ^ (8 * m) = ((u / 256 ^ m : Nat) : Int) := by
  rw [Int.natCast_ediv, Int.natCast_pow, Int.pow_mul]
  rfl

/-- what text holds -/
structure Tx (w wr : World) (v U : Nat) : Prop where
  src : Nb .u64 54 wr w.heap.size (lim v)
  own : Nb .u8 50 wr (w.heap.size + 1) (dg 256 17 U)
  bel : Below w.heap.size w wr

set_option maxRecDepth 20000 in
set_option maxHeartbeats 1000000 in
theorem text_any (v : Nat) (hv : v < 1361129467683753853853498429727072845824) (w : World) :
    Calls Tryd.prog 27 #[.agg (ns .u64 (lim v))] w fun e w' => e = .returned (.string (str (bytL 16 v))) ∧ Below w.heap.size w w' := by
  have HS0 : Hid (Tx w ((w.alloc (.cells (ns .u64 (lim v)) 54)).alloc (.cells (ns .u8 (dg 256 17 0)) 50)) v (txt v 0 0)) := by
    have e : txt v 0 0 = 0 := by simp [txt, Nat.mod_one]
    rw [e]
    exact ⟨(Nb.new _ _ _ _).alloc _, Nb.newN _ _ _ _ _ (by simp), ((Below.refl _ _).alloc (Nat.le_refl _) _).alloc (by simp) _⟩
  rw [zeros17] at HS0
  go_enter Tryd.func27, Tryd.ntmps27
  go_wp2
  go_loopg [6] 5 (fun gk i wr => ∃ k : Nat, k + gk = 5 ∧ i = .int .i64 k ∧ Tx w wr v (txt v k 0))
  case atStart => exact ⟨0, by omega, rfl, HS0.out⟩
  case round =>
    clear HS0
    obtain ⟨k, hkk, rfl, HS⟩ := hrel
    have HK : Hid (k + gk = 5) := hkk
    have hk' : k ≤ 5 := by omega
    clear hkk
    by_cases hlt : k < 5
    · have hltI : (k : Int) < 5 := by omega
      go_wp2
      go_loopg [9] 5 (fun gj j wx => ∃ m : Nat, m + gj = 5 ∧ j = .int .i64 m ∧ Tx w wx v (txt v k m))
      case atStart => exact ⟨0, by omega, rfl, HS⟩
      case round =>
        clear HS
        obtain ⟨m, hmm, rfl, HS⟩ := hrel
        have HM : Hid (m + gk = 5) := hmm
        have hm' : m ≤ 5 := by omega
        clear hmm
        by_cases hml : m < 5
        · have hmlI : (m : Int) < 5 := by omega
          have hix : 3 * (k : Int) + (m : Int) < 17 := by omega
          have c0 := HS.src.cell k (by rw [lim_length]; exact hlt)
          have hx := lim_at v k
          rw [show (lim v).getD k 0 = v / 67108864 ^ k % 67108864 from dg_getD _ _ _ _ hlt] at c0 hx
          have c1 := HS.own.cell (3 * k + m) (by rw [dg_length]; omega)
          rw [dg_getD _ _ _ _ (show 3 * k + m < 17 by omega)] at c1
          have f1 := HS.own.frozen (3 * k + m)
          have hset := txt_set v k m hlt hml
          have HR : Hid (Tx w (wr.setCell ⟨w.heap.size + 1, 3 * k + m, none⟩ (.int .u8 ((txt v k m / 256 ^ (3 * k + m) % 256 ||| ((v / 67108864 ^ k % 67108864 * 4 ^ k) / 256 ^ m % 256) : Nat) : Int))).drew v (txt v k (m + 1))) := by
            refine ⟨(HS.src.beside (by simp) _).drew, ?_, (HS.bel.setCell (by simp) _).drew⟩
            rw [← hset]
            exact (HS.own.put (3 * k + m) _).drew
          have hby : txt v k m / 256 ^ (3 * k + m) % 256 < 256 := Nat.mod_lt _ (by omega)
          clear hset HS
          revert c0 hx c1 HR hby
          generalize txt v k m / 256 ^ (3 * k + m) % 256 = z
          generalize v / 67108864 ^ k % 67108864 = x
          intro c0 hx c1 HR hby
          have hshl := shl_limb x k hx hlt
          have hX : x * 4 ^ k < 18446744073709551616 := by
            have h1 : 4 ^ k ≤ 4 ^ 4 := Nat.pow_le_pow_right (by omega) (by omega)
            have h2 := Nat.mul_le_mul (show x ≤ 67108864 by omega) h1
            simp only [Nat.reducePow, Nat.reduceMul] at h2
            omega
          revert hshl hX HR
          generalize x * 4 ^ k = X
          intro HR hshl hX
          have hshr := shr_byte X m
          revert hshr HR
          generalize X / 256 ^ m = q
          intro HR hshr
          have hcv : (q : Int) % 256 = ((q % 256 : Nat) : Int) := by omega
          have hcw : IntKind.u8.wrap (q : Int) = ((q % 256 : Nat) : Int) := by rw [IntKind.wrap_u8]; omega
          have hq : q % 256 < 256 := Nat.mod_lt _ (by omega)
          have hor := u8_or_nat z (q % 256) hby hq
          revert hor HR hcv hcw hq
          generalize z ||| q % 256 = o
          generalize q % 256 = r
          intro HR hcv hcw hq hor
          go_wp2
          go_region
          refine with_world (R := fun W => Exit.inBlock _ _ _ _ W) (Q := fun W => Tx w W v (txt v k (m + 1))) _ HR.out ?_
          clear HR c0 c1 f1 hor hcv hcw hshl hshr
          intro w9 HP
          go_wp2
          go_roundg (gk - 1)
          case measure => have := HM.out; omega
          case rel => exact ⟨m + 1, by have := HM.out; omega, by go_num, HP⟩
        · obtain rfl : m = 5 := by omega
          rw [txt_next v k hlt] at HS
          go_wp2
          go_roundg (5 - (k + 1))
          case measure => have := HK.out; omega
          case rel => exact ⟨k + 1, by omega, by go_num, HS⟩
    · obtain rfl : k = 5 := by omega
      have e : txt v 5 0 = v := by
        unfold txt
        rw [Nat.pow_zero, Nat.mod_one, Nat.mul_zero, Nat.add_zero]
        exact Nat.mod_eq_of_lt hv
      rw [e] at HS
      have hcv := run_convert_bytes_back (P := Tryd.prog) wr 48 9 5 ⟨w.heap.size + 1, 0, none⟩ 17 (bytL 16 v) Tryd.underlying48 Tryd.underlying5 Tryd.underlying9 (fun j hj => by
        rw [bytL_length] at hj
        rw [Addr.add_lit, Nat.zero_add, HS.own.cell j (by rw [dg_length]; omega), dg_getD _ _ _ _ (by omega)]
        have h1 : ((bytL 16 v)[j]'(by rw [bytL_length]; exact hj)).toNat = v / 256 ^ j % 256 := by
          have h2 := congrArg (fun l => l.getD j 0) (bytL_nat 16 v)
          simp only [dg_getD _ _ _ _ hj] at h2
          rw [← h2]
          simp [List.getD_eq_getElem?_getD, bytL_length, hj]
        rw [h1])
      rw [bytL_length] at hcv
      have hbel := HS.bel
      clear HS HK e hv
      go_wp2
      go_ret
      exact ⟨rfl, hbel⟩

end Go.Proofs.YtggfeppphhigdabDoor
