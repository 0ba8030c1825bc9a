import Derived.Test.YtggfeppphhigdabDoorNumC
import Derived.Deep.Cut
namespace Go.Proofs.YtggfeppphhigdabDoor
open Go.RowKit Go.Lib Go.Deep

/-- what folded holds -/
structure Fo (w wr : World) (n : List Nat) : Prop where
  own : Nb .u64 54 wr w.heap.size n
  res : Nb .u64 54 wr (w.heap.size + 1) (List.replicate 5 0)
  bel : Below w.heap.size w wr

/-- how a product is brought to rest: the limbs after so many turns -/
def fols (n : List Nat) : Nat → List Nat
  | 0 => n
  | k + 1 => (lim (vl 67108864 (fols n k))).set 0 ((lim (vl 67108864 (fols n k))).getD 0 0 + 5 * (vl 67108864 (fols n k) / 1361129467683753853853498429727072845824))
theorem fols_length (n : List Nat) (h : n.length = 5) (k : Nat) : (fols n k).length = 5 := by
  cases k with
  | zero => exact h
  | succ k => rw [fols, List.length_set, lim_length]
theorem fols_vl (n : List Nat) (k : Nat) : vl 67108864 (fols n (k + 1)) = fd (vl 67108864 (fols n k)) := by
  rw [fols, vl_set _ _ _ _ (by rw [lim_length]; omega), Nat.pow_zero, Nat.one_mul, show vl 67108864 (lim (vl 67108864 (fols n k))) = vl 67108864 (fols n k) % 67108864 ^ 5 from vl_dg _ _ _]
  rfl
theorem fols_three (n : List Nat) (h : vl 67108864 n < 23384026197294446691258957323460528314494920687616) : fols n 3 = lim (fd (fd (vl 67108864 n))) := by
  have e2 : vl 67108864 (fols n 2) = fd (fd (vl 67108864 n)) := by rw [fols_vl, fols_vl]; rfl
  have hl := fd_fd_lt _ h
  rw [fols, e2]
  generalize fd (fd (vl 67108864 n)) = u at *
  rw [Nat.div_eq_of_lt hl, Nat.mul_zero, Nat.add_zero, List.getD_eq_getElem?_getD, List.getElem?_eq_getElem (by rw [lim_length]; omega)]
  simp
theorem fols_lt (n : List Nat) (_h : n.length = 5) (hM : ∀ i, n.getD i 0 < 1152921504606846976) (k : Nat) : ∀ i, (fols n k).getD i 0 < 1152921504606846976 := by
  have hv : ∀ l : List Nat, l.length = 5 → (∀ i, l.getD i 0 < 1152921504606846976) → 5 * (vl 67108864 l / 1361129467683753853853498429727072845824) < 1000000000000 := by
    intro l hl hi
    have := vl5_lt l hl 1152921504606846976 hi
    omega
  induction k with
  | zero => exact hM
  | succ k ih =>
    intro i
    have h1 := hv _ (fols_length n _h k) ih
    rw [fols]
    generalize 5 * (vl 67108864 (fols n k) / 1361129467683753853853498429727072845824) = q at *
    have h2 := lim_at (vl 67108864 (fols n k))
    generalize lim (vl 67108864 (fols n k)) = l at *
    rw [List.getD_eq_getElem?_getD, List.getElem?_set]
    have h20 := h2 0
    have h2i := h2 i
    rw [List.getD_eq_getElem?_getD] at h2i
    split
    · split
      · show l.getD 0 0 + q < _
        omega
      · show 0 < _
        omega
    · omega

set_option maxRecDepth 20000 in
set_option maxHeartbeats 1000000 in
theorem folded_any (n : List Nat) (hn : n.length = 5) (hM : ∀ i, n.getD i 0 < 1152921504606846976) (w : World) :
    Calls Tryd.prog 33 #[.agg (ns .u64 n)] w fun e w' => e = .returned (.agg (ns .u64 (fols n 3))) ∧ Below w.heap.size w w' := by
  have HS0 : Hid (Fo w ((w.alloc (.cells (ns .u64 n) 54)).alloc (.cells (ns .u64 (List.replicate 5 0)) 54)) (fols n 0)) :=
    ⟨(Nb.new _ _ _ _).alloc _, Nb.newN _ _ _ _ _ (by simp), ((Below.refl _ _).alloc (Nat.le_refl _) _).alloc (by simp) _⟩
  rw [zeros5] at HS0
  have HF : Hid (∀ k, (fols n k).length = 5 ∧ ∀ i, (fols n k).getD i 0 < 1152921504606846976) := fun k => ⟨fols_length n hn k, fols_lt n hn hM k⟩
  clear hM
  go_enter Tryd.func33, Tryd.ntmps33
  go_wp2
  go_loopg [4] 3 (fun gk i wr => ∃ k : Nat, k + gk = 3 ∧ i = .int .i64 k ∧ Fo w wr (fols n k))
  case atStart => exact ⟨0, by omega, rfl, HS0.out⟩
  case round =>
    clear HS0
    obtain ⟨k, hkk, rfl, HS⟩ := hrel
    have HK : Hid (k + gk = 3) := hkk
    have hk' : k ≤ 3 := by omega
    clear hkk
    obtain ⟨hl5, hlM⟩ := HF.out k
    by_cases hlt : k < 3
    · have hltI : (k : Int) < 3 := by omega
      have HN : Hid (fols n (k + 1) = (lim (vl 67108864 (fols n k))).set 0 ((lim (vl 67108864 (fols n k))).getD 0 0 + 5 * (vl 67108864 (fols n k) / 1361129467683753853853498429727072845824))) := rfl
      have hov : vl 67108864 (fols n k) / 1361129467683753853853498429727072845824 < 1000000000000 := by have := vl5_lt _ hl5 1152921504606846976 hlM; omega
      have hown := HS.own
      have hsz := ns5 _ hl5
      have HSP := spread_any (fols n k) hl5 hlM wr
      revert HSP hown hsz HN hov HS hlM hl5
      generalize fols n k = l
      intro HS hl5 hlM HN hov hown hsz HSP
      revert HSP HN hov
      generalize hV : vl 67108864 l = V
      generalize V / 1361129467683753853853498429727072845824 = o
      intro HN hov HSP
      clear hV hlM
      unfold Nb at hown
      have hLl := lim_length V
      have hL0 := lim_at V 0
      revert HSP HN hLl hL0
      generalize lim V = L
      intro HN HSP hLl hL0
      have hsz1 := ns5 L hLl
      have hone1 := ns_one .u64 L
      have HW : Hid (∀ W, Below wr.heap.size wr W → (W.there w.heap.size 0 (ns .u64 L).size) ∧ Fo w (W.setCells w.heap.size 0 (ns .u64 L).toList) L) := fun W hW => by
        have h1 := HS.own.below hW HS.own.lt
        have h2 := HS.res.below hW HS.res.lt
        refine ⟨h1.there _ (by rw [ns_size, hLl, hl5]), h1.store _ (by rw [hLl, hl5]), h2.aside (by simp) _ _, Below.setCells (HS.bel.trans (hW.mono HS.bel.size)) (Nat.le_refl _) _ _⟩
      clear HS
      go_upto_region 5 with (first | (refine wpList_load_row rfl 54 (.tmp 1) rfl w.heap.size rfl 54 _ (0, 0) _ hown Tryd.underlying54 rfl hsz ?_) | (go_at_call 26; refine HSP.mono ?_; rintro e w1 ⟨rfl, hb1⟩) | (refine wpList_store_mid rfl 54 (.tmp 1) (.tmp 9) rfl w.heap.size 0 _ rfl rfl (HW.out w1 hb1).1 hsz1 hone1 ?_))
      refine with_world (R := fun W => Code.wp _ _ _ _ W) (Q := fun W => Fo w W L) _ (HW.out w1 hb1).2 ?_
      clear HW hown hsz HSP hb1 hsz1 hone1 hl5
      intro w2 HS
      have c0 := HS.own.cell 0 (by omega)
      have f0 := HS.own.frozen 0
      have hx := hL0
      have HR : Hid (Fo w (w2.setCell ⟨w.heap.size, 0, none⟩ (.int .u64 ((L.getD 0 0 : Int) + 5 * (o : Int)))) (fols n (k + 1))) := by
        rw [HN.out]
        have e : ((L.getD 0 0 : Nat) : Int) + 5 * (o : Int) = ((L.getD 0 0 + 5 * o : Nat) : Int) := by omega
        rw [e]
        exact ⟨HS.own.put 0 _, HS.res.beside (by simp) _, HS.bel.setCell (Nat.le_refl _) _⟩
      clear HS HN
      revert c0 hx HR
      generalize L.getD 0 0 = x
      intro c0 hx HR
      go_wp2
      go_roundg (gk - 1)
      case measure => have := HK.out; omega
      case rel => exact ⟨k + 1, by have := HK.out; omega, by go_num, HR.out⟩
    · obtain rfl : k = 3 := by omega
      have hres := HS.own
      have HT := HS.res.store (fols n 3) hl5
      have hth := HS.res.there (ns .u64 (fols n 3)).size (by rw [ns_size, hl5]; rfl)
      have hbel' : Below w.heap.size w (wr.setCells (w.heap.size + 1) 0 (ns .u64 (fols n 3)).toList) := Below.setCells HS.bel (by simp) _ _
      have hsz := ns5 _ hl5
      have hone := ns_one .u64 (fols n 3)
      unfold Nb at HT hres
      clear HS HK hl5 hlM HF
      revert hres HT hth hbel' hsz hone
      generalize hC : ns .u64 (fols n 3) = C
      intro hres HT hth hbel' hsz hone
      have HE : Hid (ns .u64 (fols n 3) = C) := hC
      clear hC
      go_wp2_with (first | (refine wpList_load_row rfl 54 (.tmp 1) rfl w.heap.size rfl 54 _ (0, 0) _ hres Tryd.underlying54 rfl hsz ?_) | (refine wpList_store_mid rfl 54 (.tmp 2) (.tmp 18) rfl (w.heap.size + 1) 0 _ rfl rfl hth hsz hone ?_))
      refine bodyPost_ret (results_cell_row rfl _ _ (w.heap.size + 1) 54 _ (0, 0) _ rfl HT Tryd.underlying54 rfl hsz) rfl ?_
      rw [HE.out]
      exact ⟨rfl, hbel'⟩

end Go.Proofs.YtggfeppphhigdabDoor
