import Derived.Test.YtggfeppphhigdabDoorNumF
namespace Go.Proofs.YtggfeppphhigdabDoor
open Go.RowKit Go.Lib Go.Deep

/-- what times holds -/
structure Tm (w wr : World) (a b S : List Nat) : Prop where
  one : Nb .u64 54 wr w.heap.size a
  two : Nb .u64 54 wr (w.heap.size + 1) b
  res : Nb .u64 54 wr (w.heap.size + 2) (List.replicate 5 0)
  own : Nb .u64 70 wr (w.heap.size + 3) S
  bel : Below w.heap.size w wr
theorem Tm.put {w wr : World} {a b S : List Nat} (h : Tm w wr a b S) (i x : Nat) : Tm w (wr.setCell ⟨w.heap.size + 3, i, none⟩ (.int .u64 (x : Int))).drew a b (S.set i x) :=
  ⟨(h.one.beside (by simp) _).drew, (h.two.beside (by simp) _).drew, (h.res.beside (by simp) _).drew, (h.own.put i x).drew, (h.bel.setCell (by simp) _).drew⟩

/-- so many rows, and of the next one so many -/
structure Ti (w wr : World) (a b : List Nat) (k m : Nat) : Prop where
  ex : ∃ S : List Nat, Tm w wr a b S ∧ S.length = 10 ∧ vl 67108864 S = vl 67108864 (a.take k) * vl 67108864 b + 67108864 ^ k * (a.getD k 0 * vl 67108864 (b.take m)) ∧ (∀ i, S.getD i 0 ≤ (k + 1) * 9007199254740992) ∧ (∀ i, k + m ≤ i → S.getD i 0 ≤ k * 9007199254740992)
theorem Ti.next {w wr : World} {a b : List Nat} {k : Nat} (h : Ti w wr a b k 5) (hb : b.length = 5) (hk : k < a.length) : Ti w wr a b (k + 1) 0 := by
  obtain ⟨S, h1, h2, h3, h4, h5⟩ := h.ex
  refine ⟨S, h1, h2, ?_, fun i => Nat.le_trans (h4 i) (Nat.mul_le_mul_right _ (by omega)), fun i _ => h4 i⟩
  rw [h3, List.take_of_length_le (show b.length ≤ 5 by omega), vl_take_succ _ _ _ hk, Nat.add_mul, Nat.mul_assoc]
  simp [vl]
theorem Ti.more {w w' : World} {a b S : List Nat} {k m : Nat} (hb : m < b.length) (h2 : S.length = 10) (hkm : k + m < 10)
    (h3 : vl 67108864 S = vl 67108864 (a.take k) * vl 67108864 b + 67108864 ^ k * (a.getD k 0 * vl 67108864 (b.take m))) (h4 : ∀ i, S.getD i 0 ≤ (k + 1) * 9007199254740992) (h5 : ∀ i, k + m ≤ i → S.getD i 0 ≤ k * 9007199254740992)
    (hp : a.getD k 0 * b.getD m 0 ≤ 9007199254740992) (h1 : Tm w w' a b (S.set (k + m) (S.getD (k + m) 0 + a.getD k 0 * b.getD m 0))) : Ti w w' a b k (m + 1) := by
  have hs := h5 (k + m) (Nat.le_refl _)
  refine ⟨_, h1, by rw [List.length_set, h2], ?_, ?_, ?_⟩
  · rw [vl_set _ _ _ _ (by omega), h3, vl_take_succ _ _ _ hb, Nat.mul_add, Nat.mul_add, Nat.add_assoc, Nat.pow_add]
    congr 2
    rw [Nat.mul_assoc]
    congr 1
    rw [← Nat.mul_assoc, ← Nat.mul_assoc, Nat.mul_comm (67108864 ^ m)]
  · intro i
    rw [List.getD_eq_getElem?_getD, List.getElem?_set]
    have := h4 i
    rw [List.getD_eq_getElem?_getD] at this
    split
    · split
      · show S.getD (k + m) 0 + a.getD k 0 * b.getD m 0 ≤ _
        rw [Nat.add_mul]
        omega
      · exact Nat.zero_le _
    · exact this
  · intro i hi
    rw [List.getD_eq_getElem?_getD, List.getElem?_set, if_neg (by omega), ← List.getD_eq_getElem?_getD]
    exact h5 i (by omega)

/-- the limbs of the product, so many -/
def prodL (S : List Nat) (k : Nat) : List Nat := (List.range k).map fun i => S.getD i 0 + 5 * S.getD (i + 5) 0
theorem prodL_length (S : List Nat) (k : Nat) : (prodL S k).length = k := by simp [prodL]
theorem prodL_succ (S : List Nat) (k : Nat) : prodL S (k + 1) = prodL S k ++ [S.getD k 0 + 5 * S.getD (k + 5) 0] := by simp [prodL, List.range_succ]
theorem prodL_at (S : List Nat) (M : Nat) (h : ∀ i, S.getD i 0 ≤ M) (i : Nat) : (prodL S 5).getD i 0 ≤ 6 * M := by
  rw [List.getD_eq_getElem?_getD, prodL, List.getElem?_map]
  by_cases hi : i < 5
  · rw [List.getElem?_range hi]
    have h1 := h i
    have h2 := h (i + 5)
    show S.getD i 0 + 5 * S.getD (i + 5) 0 ≤ _
    omega
  · rw [List.getElem?_eq_none (by simp; omega)]
    exact Nat.zero_le _

structure Tp (w wr : World) (g : Nat) (S : List Nat) (k : Nat) : Prop where
  gt : w.heap.size + 3 < g
  res : Nb .u64 54 wr (w.heap.size + 2) (List.replicate 5 0)
  own : Nb .u64 70 wr (w.heap.size + 3) S
  prod : Nb .u64 54 wr g (fill 5 (prodL S k))
  bel : Below w.heap.size w wr

/-- what comes of a product -/
theorem prod_fold (S a b : List Nat) (h : S.length = 10) (hv : vl 67108864 S = vl 67108864 a * vl 67108864 b) (hM : ∀ i, S.getD i 0 ≤ 54043195528445952) :
    ∃ X, fols (prodL S 5) 3 = lim X ∧ X < 1361129467683753853853498429727072845824 ∧ X % Pp = vl 67108864 a * vl 67108864 b % Pp := by
  have h1 := vl5_lt (prodL S 5) (prodL_length S 5) 1152921504606846976 (fun i => by have := prodL_at S _ hM i; omega)
  have h2 : vl 67108864 (prodL S 5) < 23384026197294446691258957323460528314494920687616 := by
    have h1' := vl5_lt (prodL S 5) (prodL_length S 5) 330000000000000000 (fun i => by have := prodL_at S _ hM i; omega)
    omega
  refine ⟨_, fols_three _ h2, fd_fd_lt _ h2, ?_⟩
  rw [fd_mod, fd_mod, ← hv, ← fold10 S h, ← zip5 S h, Nat.add_mul_mod_self_left]
  rfl

set_option maxRecDepth 20000 in
set_option maxHeartbeats 1000000 in
theorem times_any (a b : List Nat) (ha : a.length = 5) (hb : b.length = 5) (hA : ∀ i, a.getD i 0 < 134217728) (hB : ∀ i, b.getD i 0 < 67108864) (w : World) :
    Calls Tryd.prog 32 #[.agg (ns .u64 a), .agg (ns .u64 b)] w fun e w' => (∃ X, e = .returned (.agg (ns .u64 (lim X))) ∧ X < 1361129467683753853853498429727072845824 ∧ X % Pp = vl 67108864 a * vl 67108864 b % Pp) ∧ Below w.heap.size w w' := by
  have HS0 : Hid (Ti w ((((w.alloc (.cells (ns .u64 a) 54)).alloc (.cells (ns .u64 b) 54)).alloc (.cells (ns .u64 (List.replicate 5 0)) 54)).alloc (.cells (ns .u64 (List.replicate 10 0)) 70)) a b 0 0) :=
    ⟨_, ⟨(((Nb.new _ _ _ _).alloc _).alloc _).alloc _, ((Nb.newN _ _ _ _ _ (by simp)).alloc _).alloc _, (Nb.newN _ _ _ _ _ (by simp)).alloc _, Nb.newN _ _ _ _ _ (by simp), ((((Below.refl _ _).alloc (Nat.le_refl _) _).alloc (by simp) _).alloc (by simp; omega) _).alloc (by simp; omega) _⟩, rfl, by rw [vl_replicate]; simp [vl],
      fun i => by rw [List.getD_eq_getElem?_getD, List.getElem?_replicate]; split <;> exact Nat.zero_le _, fun i _ => by rw [List.getD_eq_getElem?_getD, List.getElem?_replicate]; split <;> exact Nat.zero_le _⟩
  rw [zeros5, zeros10] at HS0
  have HA : Hid ((∀ i, a.getD i 0 < 134217728) ∧ (∀ i, b.getD i 0 < 67108864)) := ⟨hA, hB⟩
  clear hA hB
  go_enter Tryd.func32, Tryd.ntmps32
  go_wp2
  go_loopg [10] 5 (fun gk i wr => ∃ k : Nat, k + gk = 5 ∧ i = .int .i64 k ∧ Ti w wr a b k 0)
  case atStart => exact ⟨0, by omega, rfl, HS0.out⟩
  case round =>
    clear HS0
    obtain ⟨k, hkk, rfl, HS⟩ := hrel
    have HK : Hid (k + gk = 5) := hkk
    have hk' : k ≤ 5 := by omega
    clear hkk
    by_cases hlt : k < 5
    · have hltI : (k : Int) < 5 := by omega
      go_wp2
      go_loopg [13] 5 (fun gj j wx => ∃ m : Nat, m + gj = 5 ∧ j = .int .i64 m ∧ Ti w wx a b k m)
      case atStart => exact ⟨0, by omega, rfl, HS⟩
      case round =>
        clear HS
        obtain ⟨m, hmm, rfl, HS⟩ := hrel
        have HM : Hid (m + gk = 5) := hmm
        have hm' : m ≤ 5 := by omega
        clear hmm
        by_cases hml : m < 5
        · have hmlI : (m : Int) < 5 := by omega
          have hix : (k : Int) + (m : Int) < 10 := by omega
          obtain ⟨S, h1, h2, h3, h4, h5⟩ := HS.ex
          have hx := HA.out.1 k
          have hy := HA.out.2 m
          have c0 := h1.one.cell k (by omega)
          have c1 := h1.two.cell m (by omega)
          have c2 := h1.own.cell (k + m) (by omega)
          have f2 := h1.own.frozen (k + m)
          have hs := h5 (k + m) (Nat.le_refl _)
          have hp : a.getD k 0 * b.getD m 0 ≤ 9007199254740992 := by
            have := Nat.mul_le_mul (show a.getD k 0 ≤ 134217728 by omega) (show b.getD m 0 ≤ 67108864 by omega)
            simpa using this
          have HR : Hid (∀ W : World, W = (wr.setCell ⟨w.heap.size + 3, k + m, none⟩ (.int .u64 ((S.getD (k + m) 0 + a.getD k 0 * b.getD m 0 : Nat) : Int))).drew → Ti w W a b k (m + 1)) := fun W hW => by
            subst hW
            exact Ti.more (by omega) h2 (by omega) h3 h4 h5 hp (h1.put _ _)
          have hs5 : S.getD (k + m) 0 ≤ 45035996273704960 := Nat.le_trans hs (by have := Nat.mul_le_mul_right 9007199254740992 (show k ≤ 5 by omega); simpa using this)
          clear h1 h2 h3 h4 h5 HS hs
          revert hx hy c0 c1 c2 hp HR hs5
          generalize S.getD (k + m) 0 = s
          generalize a.getD k 0 = x
          generalize b.getD m 0 = y
          intro hx hy c0 c1 c2 hp HR hs5
          have hw1 : IntKind.u64.wrap ((x : Int) * (y : Int)) = ((x * y : Nat) : Int) := by rw [IntKind.wrap_u64, ← Int.natCast_mul]; omega
          have hw2 : ((x : Int) * (y : Int)) % 18446744073709551616 = ((x * y : Nat) : Int) := by rw [← Int.natCast_mul]; omega
          revert hw1 hw2 HR hp
          generalize x * y = p
          intro hp HR hw1 hw2
          have HR' := HR.out _ (by rw [Int.natCast_add])
          clear HR
          go_wp2
          go_region
          refine with_world (R := fun W => Exit.inBlock _ _ _ _ W) (Q := fun W => Ti w W a b k (m + 1)) _ HR' ?_
          clear HR' c0 c1 c2 f2 hw1 hw2
          intro w9 HP
          go_wp2
          go_roundg (gk - 1)
          case measure => have := HM.out; omega
          case rel => exact ⟨m + 1, by have := HM.out; omega, by go_num, HP⟩
        · obtain rfl : m = 5 := by omega
          have HS' := HS.next hb (by omega)
          clear HS
          go_wp2
          go_roundg (5 - (k + 1))
          case measure => have := HK.out; omega
          case rel => exact ⟨k + 1, by omega, by go_num, HS'⟩
    · obtain rfl : k = 5 := by omega
      obtain ⟨S, h1, h2, h3, h4, h5⟩ := HS.ex
      rw [List.take_of_length_le (by omega), show vl 67108864 (b.take 0) = 0 from rfl, Nat.mul_zero, Nat.mul_zero, Nat.add_zero] at h3
      have h4' : ∀ i, S.getD i 0 ≤ 54043195528445952 := h4
      obtain ⟨X, hX, hXl, hXm⟩ := prod_fold S a b h2 h3 h4'
      have HF : Hid (∀ W, Calls Tryd.prog 33 #[.agg (ns .u64 (prodL S 5))] W fun e w' => e = .returned (.agg (ns .u64 (fols (prodL S 5) 3))) ∧ Below W.heap.size W w') := fun W => folded_any _ (prodL_length S 5) (fun i => by have := prodL_at S _ h4' i; omega) W
      have HX : Hid (X < 1361129467683753853853498429727072845824 ∧ X % Pp = vl 67108864 a * vl 67108864 b % Pp) := ⟨hXl, hXm⟩
      rw [hX] at HF
      have H4 : Hid (∀ i, S.getD i 0 ≤ 54043195528445952) := h4'
      have hall := lim_length X
      revert HF
      generalize hL : lim X = L at hall
      intro HF
      have HL : Hid (lim X = L) := hL
      have HT0 : Hid (Tp w (wr.alloc (.cells (ns .u64 (List.replicate 5 0)) 54)) wr.heap.size S 0) := ⟨h1.own.lt, h1.res.alloc _, h1.own.alloc _, Nb.new _ _ _ _, h1.bel.alloc h1.bel.size _⟩
      rw [zeros5] at HT0
      clear hX hXl hXm h1 h3 h4 h5 h4' HS hL HA HK
      go_wp2
      refine with_world (R := fun W => Code.wp _ _ _ _ W) (Q := fun W => Tp w W wr.heap.size S 0) _ HT0.out ?_
      clear HT0
      generalize wr.heap.size = g
      intro w5 HT0
      go_loopg [32] 5 (fun gj j wx => ∃ m : Nat, m + gj = 5 ∧ j = .int .i64 m ∧ Tp w wx g S m)
      case atStart => exact ⟨0, by omega, rfl, HT0⟩
      case round =>
        clear HT0
        obtain ⟨m, hmm, rfl, HS⟩ := hrel
        have HM : Hid (m + gk = 5) := hmm
        have hm' : m ≤ 5 := by omega
        clear hmm
        by_cases hml : m < 5
        · have hmlI : (m : Int) < 5 := by omega
          have hml2 : (m : Int) < 10 := by omega
          have hml3 : (m : Int) + 5 < 10 := by omega
          have c0 := HS.own.cell m (by omega)
          have c1 := HS.own.cell (m + 5) (by omega)
          have f2 := HS.prod.frozen m
          have c2 := HS.prod.cell m (by rw [fill_length _ _ (by rw [prodL_length]; omega)]; exact hml)
          have hx := H4.out m
          have hy := H4.out (m + 5)
          have hgt := HS.gt
          have HR : Hid (Tp w (wr.setCell ⟨g, m, none⟩ (.int .u64 ((S.getD m 0 + 5 * S.getD (m + 5) 0 : Nat) : Int))).drew g S (m + 1)) := by
            refine ⟨HS.gt, (HS.res.beside (by show g ≠ _; omega) _).drew, (HS.own.beside (by show g ≠ _; omega) _).drew, ?_, (HS.bel.setCell (by show w.heap.size ≤ g; omega) _).drew⟩
            have h := HS.prod.put m (S.getD m 0 + 5 * S.getD (m + 5) 0)
            rw [fill_set 5 m _ _ (prodL_length S m) hml, ← prodL_succ] at h
            exact h.drew
          rw [show ((S.getD m 0 + 5 * S.getD (m + 5) 0 : Nat) : Int) = (S.getD m 0 : Int) + 5 * (S.getD (m + 5) 0 : Int) by omega] at HR
          clear HS hgt
          revert c0 c1 c2 hx hy HR
          generalize (fill 5 (prodL S m)).getD m 0 = z
          generalize S.getD m 0 = x
          generalize S.getD (m + 5) 0 = y
          intro c0 c1 c2 hx hy HR
          go_wp2
          go_region
          refine with_world (R := fun W => Exit.inBlock _ _ _ _ W) (Q := fun W => Tp w W g S (m + 1)) _ HR.out ?_
          clear HR c0 c1 c2 f2
          intro w9 HP
          go_wp2
          go_roundg (gk - 1)
          case measure => have := HM.out; omega
          case rel => exact ⟨m + 1, by have := HM.out; omega, by go_num, HP⟩
        · obtain rfl : m = 5 := by omega
          have hres := HS.prod
          rw [fill_full 5 _ (prodL_length S 5)] at hres
          have hsz := ns5 _ (prodL_length S 5)
          have HFw := HF.out wr
          have HW : Hid (∀ W, Below wr.heap.size wr W → W.there (w.heap.size + 2) 0 (ns .u64 L).size ∧ Nb .u64 54 (W.setCells (w.heap.size + 2) 0 (ns .u64 L).toList) (w.heap.size + 2) L ∧ Below w.heap.size w (W.setCells (w.heap.size + 2) 0 (ns .u64 L).toList)) := fun W hW => by
            have h2 := HS.res.below hW HS.res.lt
            exact ⟨h2.there _ (by rw [ns_size, hall]; rfl), h2.store _ (by rw [hall]; rfl), Below.setCells (HS.bel.trans (hW.mono HS.bel.size)) (by simp) _ _⟩
          have hsz1 := ns5 L hall
          have hone1 := ns_one .u64 L
          unfold Nb at hres
          clear HS HF HM H4
          revert hres hsz HFw
          generalize ns .u64 (prodL S 5) = C
          intro hres hsz HFw
          go_wp2_with (first | (refine wpList_load_row rfl 54 (.tmp 8) rfl g rfl 54 _ (0, 0) _ hres Tryd.underlying54 rfl hsz ?_) | (go_at_call 33; refine HFw.mono ?_; rintro e w6 ⟨rfl, hb6⟩) | (refine wpList_store_mid rfl 54 (.tmp 4) (.tmp 48) rfl (w.heap.size + 2) 0 _ rfl rfl (HW.out w6 hb6).1 hsz1 hone1 ?_))
          have hT := (HW.out w6 hb6).2.1
          unfold Nb at hT
          refine bodyPost_ret (results_cell_row rfl _ _ (w.heap.size + 2) 54 _ (0, 0) _ rfl hT Tryd.underlying54 rfl hsz1) rfl ?_
          exact ⟨⟨X, by rw [HL.out], HX.out.1, HX.out.2⟩, (HW.out w6 hb6).2.2⟩

end Go.Proofs.YtggfeppphhigdabDoor
