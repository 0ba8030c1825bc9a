import Derived.Test.YtggfeppphhigdabDoorNumC
namespace Go.Proofs.YtggfeppphhigdabDoor
open Go.RowKit Go.Lib Go.Deep

/-- bytes as numbers -/
def nat8 (l : List UInt8) : List Nat := l.map UInt8.toNat
theorem nat8_length (l : List UInt8) : (nat8 l).length = l.length := by simp [nat8]
theorem nat8_getD (l : List UInt8) (i : Nat) : (nat8 l).getD i 0 = (l.getD i 0).toNat := by
  simp only [nat8, List.getD_eq_getElem?_getD, List.getElem?_map]
  cases l[i]? <;> rfl
theorem nat8_append (l r : List UInt8) : nat8 (l ++ r) = nat8 l ++ nat8 r := by simp [nat8]
theorem nat8_cells (l : List UInt8) : nsL .u8 (nat8 l) = byteCells l := by
  simp only [nsL, nat8, List.map_map]
  rfl

theorem shl_byte (y m : Nat) (hy : y < 256) (hm : m < 5) : IntKind.u64.wrap ((y : Int) * 2 ^ (8 * m)) = ((256 ^ m * y : Nat) : Int) := by
  have h : m = 0 ∨ m = 1 ∨ m = 2 ∨ m = 3 ∨ m = 4 := by omega
  rw [IntKind.wrap_u64]
  rcases h with rfl | rfl | rfl | rfl | rfl <;> simp only [Nat.mul_zero, Nat.reduceMul, Nat.reducePow, Int.reducePow, Nat.pow_zero] <;> omega
theorem or_byte (u y m : Nat) (hu : u < 256 ^ m) (hy : y < 256) (hm : m < 5) : bits .or .u64 (u : Int) ((256 ^ m * y : Nat) : Int) = ((u + 256 ^ m * y : Nat) : Int) := by
  have e : 256 ^ m = 2 ^ (8 * m) := by rw [Nat.pow_mul]
  have h1 : 256 ^ m ≤ 256 ^ 4 := Nat.pow_le_pow_right (by omega) (by omega)
  have h2 : 256 ^ m * y ≤ 256 ^ 4 * 255 := Nat.mul_le_mul h1 (by omega)
  simp only [Nat.reducePow, Nat.reduceMul] at h1 h2
  rw [u64_or_nat u (256 ^ m * y) (by omega) (by omega), or_digit u (256 ^ m * y) (8 * m) (by rw [← e]; exact hu) (by rw [← e]; exact Nat.mul_mod_right _ _)]
theorem shr_limb (u k : Nat) : (u : Int) / 2 ^ (2 * k) = ((u / 4 ^ k : Nat) : Int) := by
  rw [Int.natCast_ediv, Int.natCast_pow, Int.pow_mul]
  rfl

/-- what number holds -/
structure Nm (w wr : World) (b : List UInt8) (done : List Nat) : Prop where
  src : Nb .u8 50 wr w.heap.size (nat8 b)
  res : Nb .u64 54 wr (w.heap.size + 1) (List.replicate 5 0)
  own : Nb .u64 54 wr (w.heap.size + 2) (fill 5 done)
  bel : Below w.heap.size w wr

set_option maxRecDepth 20000 in
set_option maxHeartbeats 1000000 in
theorem number_any (b : List UInt8) (hb : b.length = 17) (w : World) :
    Calls Tryd.prog 19 #[.agg (ns .u8 (nat8 b))] w fun e w' => e = .returned (.agg (ns .u64 (lim (numL b)))) ∧ Below w.heap.size w w' := by
  have HS0 : Hid (Nm w (((w.alloc (.cells (ns .u8 (nat8 b)) 50)).alloc (.cells (ns .u64 (List.replicate 5 0)) 54)).alloc (.cells (ns .u64 (List.replicate 5 0)) 54)) b []) :=
    ⟨((Nb.new _ _ _ _).alloc _).alloc _, (Nb.newN _ _ _ _ _ (by simp)).alloc _, Nb.newN _ _ _ _ _ (by simp), (((Below.refl _ _).alloc (Nat.le_refl _) _).alloc (by simp) _).alloc (by simp; omega) _⟩
  rw [zeros5] at HS0
  have hnl : (nat8 b).length = 17 := by rw [nat8_length, hb]
  unfold lim
  go_enter Tryd.func19, Tryd.ntmps19
  go_wp2
  go_loopg [7] 5 (fun gk i wr => ∃ k : Nat, k + gk = 5 ∧ i = .int .i64 k ∧ Nm w wr b (dg 67108864 k (numL b)))
  case atStart => exact ⟨0, by omega, rfl, HS0.out⟩
  case round =>
    clear HS0
    obtain ⟨k, hkk, rfl, HS⟩ := hrel
    have HK : Hid (k + gk = 5) := hkk
    have hk' : k ≤ 5 := by omega
    clear hkk
    by_cases hlt : k < 5
    · have hltI : (k : Int) < 5 := by omega
      go_wp2
      go_loopg [5, 10] 5 (fun gj bits j wx => ∃ m : Nat, m + gj = 5 ∧ j = .int .i64 m ∧ bits = .int .u64 ((numL ((b.drop (3 * k)).take m) : Nat) : Int) ∧ wx = wr)
      case atStart => exact ⟨0, by omega, rfl, by simp [numL, vl], rfl⟩
      case round =>
        obtain ⟨m, hmm, rfl, rfl, rfl⟩ := hrel
        have HM : Hid (m + gk = 5) := hmm
        have hm' : m ≤ 5 := by omega
        clear hmm
        by_cases hml : m < 5
        · have hmlI : (m : Int) < 5 := by omega
          have hix : 3 * (k : Int) + (m : Int) < 17 := by omega
          have c0 := HS.src.cell (3 * k + m) (by omega)
          have hst := numL_take_succ b (3 * k) m (by omega)
          have hbd := numL_lt ((b.drop (3 * k)).take m)
          rw [List.length_take, List.length_drop, Nat.min_eq_left (by omega)] at hbd
          rw [nat8_getD] at c0
          have hy := (b.getD (3 * k + m) 0).toNat_lt
          revert c0 hst hbd hy
          generalize (b.getD (3 * k + m) 0).toNat = y
          generalize numL ((b.drop (3 * k)).take m) = u
          intro c0 hst hbd hy
          have hu : u < 4294967296 := by
            have h1 : 256 ^ m ≤ 256 ^ 4 := Nat.pow_le_pow_right (by omega) (by omega)
            simp only [Nat.reducePow] at h1
            omega
          have hshl := shl_byte y m hy hml
          have hor := or_byte u y m hbd hy hml
          rw [← hst] at hor
          have HST : Hid (numL ((b.drop (3 * k)).take (m + 1)) = numL ((b.drop (3 * k)).take (m + 1))) := rfl
          clear hst
          revert hor
          generalize hN : numL ((b.drop (3 * k)).take (m + 1)) = u'
          generalize 256 ^ m * y = ys at *
          intro hor
          have HN : Hid (numL ((b.drop (3 * k)).take (m + 1)) = u') := hN
          clear hN HST hbd
          go_wp2
          go_roundg (gk - 1)
          case measure => have := HM.out; omega
          case rel => exact ⟨m + 1, by have := HM.out; omega, by go_num, by rw [HN.out], rfl⟩
        · obtain rfl : m = 5 := by omega
          have hl := limb_eq b hb k hlt
          have hsn := dg_snoc 67108864 k (numL b)
          rw [← hl] at hsn
          have hu := numL_lt ((b.drop (3 * k)).take 5)
          rw [List.length_take, List.length_drop, Nat.min_eq_left (by omega)] at hu
          have hlen : (dg 67108864 k (numL b)).length = k := dg_length _ _ _
          have c1 := HS.own.cell k (by rw [fill_length _ _ (by omega)]; exact hlt)
          have f1 := HS.own.frozen k
          have HR : Hid (Nm w (wr.setCell ⟨w.heap.size + 2, k, none⟩ (.int .u64 ((numL ((b.drop (3 * k)).take 5) / 4 ^ k % 67108864 : Nat) : Int))) b (dg 67108864 (k + 1) (numL b))) := by
            refine ⟨HS.src.beside (by simp) _, HS.res.beside (by simp) _, ?_, HS.bel.setCell (by simp) _⟩
            have h := HS.own.put k (numL ((b.drop (3 * k)).take 5) / 4 ^ k % 67108864)
            rw [fill_set 5 k _ _ hlen hlt, ← hsn] at h
            exact h
          clear hl hsn hlen HS
          revert c1 hu HR
          generalize (fill 5 (dg 67108864 k (numL b))).getD k 0 = z
          generalize numL ((b.drop (3 * k)).take 5) = u
          intro hu c1 HR
          simp only [Nat.reducePow] at hu
          have hshr := shr_limb u k
          have hq : u / 4 ^ k < 1099511627776 := Nat.lt_of_le_of_lt (Nat.div_le_self _ _) hu
          revert hshr hq HR
          generalize u / 4 ^ k = q
          intro HR hshr hq
          have hand : bits .and .u64 (q : Int) 67108863 = ((q % 67108864 : Nat) : Int) := by
            have := u64_and_nat q 67108863 (by omega) (by omega)
            rw [nat_mask26] at this
            exact this
          revert hand HR
          generalize q % 67108864 = d
          intro HR hand
          go_wp2
          go_roundg (5 - (k + 1))
          case measure => have := HK.out; omega
          case rel => exact ⟨k + 1, by omega, by go_num, HR.out⟩
    · obtain rfl : k = 5 := by omega
      have hlen : (dg 67108864 5 (numL b)).length = 5 := dg_length _ _ _
      have hres := HS.own
      rw [fill_full 5 _ hlen] at hres
      have HT := HS.res.store (dg 67108864 5 (numL b)) hlen
      have hth := HS.res.there (ns .u64 (dg 67108864 5 (numL b))).size (by rw [ns_size, hlen]; rfl)
      have hbel' : Below w.heap.size w (wr.setCells (w.heap.size + 1) 0 (ns .u64 (dg 67108864 5 (numL b))).toList) := Below.setCells HS.bel (by simp) _ _
      have hsz := ns5 _ hlen
      have hone := ns_one .u64 (dg 67108864 5 (numL b))
      unfold Nb at HT hres
      clear HS HK
      revert hres HT hth hbel' hsz hone
      generalize hC : ns .u64 (dg 67108864 5 (numL b)) = C
      intro hres HT hth hbel' hsz hone
      have HE : Hid (ns .u64 (dg 67108864 5 (numL b)) = C) := hC
      clear hC
      go_wp2_with (first | (refine wpList_load_row rfl 54 (.tmp 3) rfl (w.heap.size + 2) rfl 54 _ (0, 0) _ hres Tryd.underlying54 rfl hsz ?_) | (refine wpList_store_mid rfl 54 (.tmp 2) (.tmp 34) rfl (w.heap.size + 1) 0 _ rfl rfl hth hsz hone ?_))
      refine bodyPost_ret (results_cell_row rfl _ _ (w.heap.size + 1) 54 _ (0, 0) _ rfl HT Tryd.underlying54 rfl hsz) rfl ?_
      rw [HE.out]
      exact ⟨rfl, hbel'⟩

end Go.Proofs.YtggfeppphhigdabDoor
