import Derived.Test.YtengclnahppmhaaGreatDoorPolM
import Derived.Deep.RegionHeld
import Derived.Deep.Cut
import Derived.Test.YtengclnahppmhaaGreatDoorBaseM
namespace Go.Proofs.YtengclnahppmhaaGreatDoor.Pol
open Go.RowKit Go.Lib

/-- a number of the document's: 24 digits to the base 65536 -/
def d24 (v : Nat) : List Nat := dg 65536 24 v
theorem d24_length (v : Nat) : (d24 v).length = 24 := dg_length _ _ _
theorem d24_at (v i : Nat) : (d24 v).getD i 0 < 65536 := by
  rw [List.getD_eq_getElem?_getD]
  cases hi : (d24 v)[i]? with
  | none => simp
  | some x => exact dg_lt _ _ _ (by omega) x (List.mem_of_getElem? hi)
theorem vl_d24 (v : Nat) (h : v < 65536 ^ 24) : vl 65536 (d24 v) = v := vl_dg_lt _ _ _ h
theorem d24_zero : d24 0 = List.replicate 24 0 := dg_zero _ _

/-- a byte more, even or odd -/
theorem num_digit (U k y : Nat) (hU : U < 256 ^ k) (hk : k < 48) (hy : y < 256) :
    (d24 U).set (k / 2) (U / 65536 ^ (k / 2) % 65536 + (if k % 2 = 0 then y else 256 * y)) = d24 (U + 256 ^ k * y) ∧ U / 65536 ^ (k / 2) % 65536 < 256 := by
  have e2 : (65536 : Nat) ^ (k / 2) = 256 ^ (2 * (k / 2)) := by rw [show (65536 : Nat) = 256 ^ 2 from rfl, ← Nat.pow_mul]
  have hp : 0 < 65536 ^ (k / 2) := Nat.pow_pos (by omega)
  have h24 : U < 65536 ^ 24 := by
    refine Nat.lt_of_lt_of_le hU ?_
    rw [show (65536 : Nat) ^ 24 = 256 ^ 48 from rfl]
    exact Nat.pow_le_pow_right (by omega) (by omega)
  by_cases hev : k % 2 = 0
  · have ek : k = 2 * (k / 2) := by omega
    have hq : U / 65536 ^ (k / 2) = 0 := by
      apply Nat.div_eq_of_lt
      rw [e2, ← ek]
      exact hU
    rw [if_pos hev]
    have h := dg_set 65536 24 U (k / 2) y (by omega) (by rw [hq]; omega)
    rw [Nat.mod_eq_of_lt h24, e2, ← ek] at h
    refine ⟨?_, by rw [hq]; omega⟩
    rw [e2, ← ek]
    exact h
  · have ek : k = 2 * (k / 2) + 1 := by omega
    have e3 : (256 : Nat) ^ k = 65536 ^ (k / 2) * 256 := by rw [e2, ← Nat.pow_succ]; congr 1
    have hq : U / 65536 ^ (k / 2) < 256 := by
      rw [Nat.div_lt_iff_lt_mul hp, Nat.mul_comm, ← e3]
      exact hU
    rw [if_neg hev]
    have hq2 : U / 65536 ^ (k / 2) % 65536 < 256 := Nat.lt_of_le_of_lt (Nat.mod_le _ _) hq
    have h := dg_set 65536 24 U (k / 2) (256 * y) (by omega) (by revert hq2; generalize U / 65536 ^ (k / 2) % 65536 = q; omega)
    rw [Nat.mod_eq_of_lt h24] at h
    refine ⟨?_, hq2⟩
    rw [e3, Nat.mul_assoc]
    exact h

/-- 2^130 and what stands above it -/
theorem parted_low (v : Nat) : (d24 v).take 8 ++ [(d24 v).getD 8 0 % 4] ++ List.replicate 15 0 = d24 (v % 1361129467683753853853498429727072845824) := by
  have e : ∀ u, d24 u = dg 65536 8 u ++ dg 65536 16 (u / 65536 ^ 8) := by
    intro u
    have : ∀ m n w, dg 65536 (m + n) w = dg 65536 m w ++ dg 65536 n (w / 65536 ^ m) := by
      intro m n
      induction m with
      | zero => intro w; simp [dg]
      | succ m ih =>
        intro w
        rw [show m + 1 + n = (m + n) + 1 by omega, dg, dg, ih, List.cons_append, Nat.div_div_eq_div_mul, Nat.pow_succ, Nat.mul_comm (65536 ^ m)]
    exact this 8 16 u
  have h1 : (d24 v).take 8 = dg 65536 8 v := dg_take _ _ _ _ (by omega)
  have h2 : (d24 v).getD 8 0 = v / 65536 ^ 8 % 65536 := dg_getD _ _ _ _ (by omega)
  rw [h1, h2, e (v % _)]
  have h3 : dg 65536 8 (v % 1361129467683753853853498429727072845824) = dg 65536 8 v := by
    rw [← dg_mod 65536 8 v (by omega), ← dg_mod 65536 8 (v % _) (by omega)]
    congr 1
    simp only [Nat.reducePow]
    omega
  have h4 : v % 1361129467683753853853498429727072845824 / 65536 ^ 8 = v / 65536 ^ 8 % 65536 % 4 := by
    simp only [Nat.reducePow]
    omega
  rw [h3, h4, List.append_assoc]
  congr 1
  generalize v / 65536 ^ 8 % 65536 = x
  rw [show (16 : Nat) = 15 + 1 from rfl, dg]
  have h5 : x % 4 % 65536 = x % 4 := by omega
  have h6 : x % 4 / 65536 = 0 := by omega
  rw [h5, h6, dg_zero]
  rfl
/-- a digit of what stands above -/
theorem parted_high (v i : Nat) (hi : i < 16) : (d24 v).getD (i + 8) 0 / 4 + (if i + 9 < 24 then (d24 v).getD (i + 9) 0 % 4 else 0) * 16384 = v % 65536 ^ 24 / 1361129467683753853853498429727072845824 / 65536 ^ i % 65536 := by
  have h1 : (d24 v).getD (i + 8) 0 = v % 65536 ^ 24 / 65536 ^ (i + 8) % 65536 := by
    have := dg_getD 65536 24 (i + 8) (v % 65536 ^ 24) (by omega)
    rw [dg_mod _ _ _ (by omega)] at this
    exact this
  have h2 : (if i + 9 < 24 then (d24 v).getD (i + 9) 0 % 4 else 0) = v % 65536 ^ 24 / 65536 ^ (i + 9) % 4 := by
    by_cases h : i + 9 < 24
    · rw [if_pos h]
      have := dg_getD 65536 24 (i + 9) (v % 65536 ^ 24) (by omega)
      rw [dg_mod _ _ _ (by omega)] at this
      show (dg 65536 24 v).getD (i + 9) 0 % 4 = _
      rw [this]
      omega
    · rw [if_neg h, show i + 9 = 24 by omega, Nat.div_eq_of_lt (Nat.mod_lt _ (Nat.pow_pos (by omega)))]
  rw [h1, h2, Nat.div_div_eq_div_mul, show 1361129467683753853853498429727072845824 = 65536 ^ 8 * 4 from rfl]
  generalize v % 65536 ^ 24 = u
  have e1 : u / 65536 ^ (i + 9) = u / 65536 ^ (i + 8) / 65536 := by rw [Nat.div_div_eq_div_mul, ← Nat.pow_succ]
  have e2 : u / (65536 ^ 8 * 4 * 65536 ^ i) = u / 65536 ^ (i + 8) / 4 := by rw [Nat.div_div_eq_div_mul, show 65536 ^ 8 * 4 * 65536 ^ i = 65536 ^ (i + 8) * 4 by rw [Nat.pow_add, Nat.mul_comm (65536 ^ i), Nat.mul_assoc, Nat.mul_comm 4, ← Nat.mul_assoc]]
  rw [e1, e2]
  generalize u / 65536 ^ (i + 8) = q
  omega
theorem dg_high (u k : Nat) (_h : u < 65536 ^ 16) (hk : k ≤ 16) : dg 65536 k u ++ List.replicate (24 - k) 0 = if k = 16 then d24 u else dg 65536 k u ++ List.replicate (24 - k) 0 := by
  by_cases h16 : k = 16
  · subst h16
    rw [if_pos rfl]
    have hx := dg_vl 65536 (dg 65536 16 u ++ List.replicate 8 0) (by
      intro x hx
      rcases List.mem_append.1 hx with h | h
      · exact dg_lt _ _ _ (by omega) x h
      · rw [(List.mem_replicate.1 h).2]; omega)
    rw [List.length_append, dg_length, List.length_replicate, vl_append, vl_replicate, vl_dg_lt _ _ _ _h, Nat.mul_zero, Nat.add_zero] at hx
    exact hx.symm
  · rw [if_neg h16]

theorem modulo_end (v : Nat) (h : v < 1361129467683753853853498429727072845824) : (if (v + 5) / 1361129467683753853853498429727072845824 = 0 then v else (v + 5) % 1361129467683753853853498429727072845824) = v % Pp := by
  unfold Pp
  by_cases h5 : 1361129467683753853853498429727072845819 ≤ v
  · rw [if_neg (by omega)]
    omega
  · rw [if_pos (by omega)]
    omega

theorem and15 (x : UInt8) : (x &&& 15).toNat = x.toNat % 16 := by rw [UInt8.toNat_and]; exact Nat.and_two_pow_sub_one_eq_mod x.toNat 4
theorem and255 (x : UInt8) : x &&& 255 = x := by
  apply UInt8.toNat_inj.1
  rw [UInt8.toNat_and]
  have := Nat.and_two_pow_sub_one_eq_mod x.toNat 8
  have h := x.toNat_lt
  simp only [Nat.reducePow, Nat.reduceSub] at this
  exact this.trans (by omega)
theorem and252 (x : UInt8) : (x &&& 252).toNat = x.toNat / 4 * 4 := by
  have : ∀ n : Fin 256, (UInt8.ofNat n.val &&& 252).toNat = n.val / 4 * 4 := by decide +kernel
  have h := this ⟨x.toNat, x.toNat_lt⟩
  simpa using h

end Go.Proofs.YtengclnahppmhaaGreatDoor.Pol

namespace Go.Proofs.YtengclnahppmhaaGreatDoor.Pol
open Go.RowKit Go.Lib Go.Deep

theorem size43 : (Tryz.prog.info? 129).map (·.size) = some 24 := by kernel_rfl
theorem ns24 (l : List Nat) (h : l.length = 24) : (Tryz.prog.info? 129).map (·.size) = some (ns .i64 l).size := by rw [ns_size, h]; exact size43
theorem zeros24 : ns .i64 (List.replicate 24 0) = #[.int .i64 0, .int .i64 0, .int .i64 0, .int .i64 0, .int .i64 0, .int .i64 0, .int .i64 0, .int .i64 0, .int .i64 0, .int .i64 0, .int .i64 0, .int .i64 0, .int .i64 0, .int .i64 0, .int .i64 0, .int .i64 0, .int .i64 0, .int .i64 0, .int .i64 0, .int .i64 0, .int .i64 0, .int .i64 0, .int .i64 0, .int .i64 0] := rfl

/-- a digit of what is carried on -/
theorem carry_at (b : Nat) (hb : 0 < b) (l : List Nat) (k : Nat) (hk : k < l.length) : (dg b l.length (vl b l)).getD k 0 = (vl b (l.take k) / b ^ k + l.getD k 0) % b := by
  have e : vl b l = vl b (l.take k) + b ^ k * (l.getD k 0 + b * vl b (l.drop (k + 1))) := by
    conv => lhs; rw [← List.take_append_drop (k + 1) l, vl_append, vl_take_succ _ _ _ hk, List.length_take, Nat.min_eq_left (by omega), Nat.pow_succ]
    rw [Nat.mul_add, Nat.mul_assoc]
    omega
  rw [dg_getD _ _ _ _ hk, e, Nat.add_mul_div_left _ _ (Nat.pow_pos hb), ← Nat.add_assoc, Nat.add_mul_mod_self_left]

/-- what carried and its like hold -/
structure Cv (w wr : World) (m : List Nat) : Prop where
  own : Nb .i64 129 wr w.heap.size m
  res : Nb .i64 129 wr (w.heap.size + 1) (List.replicate 24 0)
  bel : Below w.heap.size w wr
theorem Cv.start (w : World) (n : List Nat) : Cv w ((w.alloc (.cells (ns .i64 n) 129)).alloc (.cells (ns .i64 (List.replicate 24 0)) 129)) n :=
  ⟨(Nb.new _ _ _ _).alloc _, Nb.newN _ _ _ _ _ (by simp), ((Below.refl _ _).alloc (Nat.le_refl _) _).alloc (by simp) _⟩
theorem Cv.put {w wr : World} {m : List Nat} (h : Cv w wr m) (i x : Nat) : Cv w (wr.setCell ⟨w.heap.size, i, none⟩ (.int .i64 (x : Int))) (m.set i x) :=
  ⟨h.own.put i x, h.res.beside (by simp) _, h.bel.setCell (Nat.le_refl _) _⟩

set_option maxRecDepth 20000 in
set_option maxHeartbeats 1000000 in
theorem carried_any (n : List Nat) (hn : n.length = 24) (hM : ∀ i, n.getD i 0 ≤ 2199023255552) (w : World) :
    Calls Tryz.prog 113 #[.agg (ns .i64 n)] w fun e w' => e = .returned (.agg (ns .i64 (d24 (vl 65536 n)))) ∧ Below w.heap.size w w' := by
  have HS0 : Hid _ := Cv.start w n
  rw [zeros24] at HS0
  have HM : Hid (∀ i, n.getD i 0 ≤ 2199023255552) := hM
  have HC : Hid (∀ k, k < 24 → (d24 (vl 65536 n)).getD k 0 = (vl 65536 (n.take k) / 65536 ^ k + n.getD k 0) % 65536) := fun k hk => by
    have h := carry_at 65536 (by omega) n k (by omega)
    rw [hn] at h
    exact h
  have hzl := d24_length (vl 65536 n)
  clear hM
  revert HC hzl
  generalize d24 (vl 65536 n) = Z
  intro HC hzl
  go_enter Tryz.func113, Tryz.ntmps113
  go_wp2
  go_loopg [3, 4] 24 (fun gk c i wr => ∃ k : Nat, k + gk = 24 ∧ i = .int .i64 k ∧ c = .int .i64 ((vl 65536 (n.take k) / 65536 ^ k : Nat) : Int) ∧ vl 65536 (n.take k) / 65536 ^ k ≤ 2199023255552 ∧ Cv w wr (Z.take k ++ n.drop k))
  case atStart => exact ⟨0, by omega, rfl, by simp [vl], by simp [vl], HS0.out⟩
  case round =>
    clear HS0
    obtain ⟨k, hkk, rfl, rfl, hc, HS⟩ := hrel
    have HK : Hid (k + gk = 24) := hkk
    have hk' : k ≤ 24 := by omega
    clear hkk
    by_cases hlt : k < 24
    · have hltI : (k : Int) < 24 := by omega
      have hx := HM.out k
      have hz := HC.out k hlt
      have HO : Hid (vl 65536 (n.take (k + 1)) / 65536 ^ (k + 1) = (vl 65536 (n.take k) / 65536 ^ k + n.getD k 0) / 65536) := by
        show _ = _
        rw [vl_take_succ _ _ _ (by omega), carry_over _ _ _ _ (by omega)]
      have c0 := HS.own.cell k (by rw [List.length_append, List.length_take, List.length_drop]; omega)
      rw [mix_get Z n k (by omega)] at c0
      have f0 := HS.own.frozen k
      have HR : Hid (Cv w (wr.setCell ⟨w.heap.size, k, none⟩ (.int .i64 (((vl 65536 (n.take k) / 65536 ^ k + n.getD k 0) % 65536 : Nat) : Int))) (Z.take (k + 1) ++ n.drop (k + 1))) := by
        rw [← hz]
        have h := HS.put k (Z.getD k 0)
        rw [mix_set Z n k (by omega) (by omega)] at h
        exact h
      clear hz HS
      revert hc hx c0 HR HO
      generalize vl 65536 (n.take k) / 65536 ^ k = c
      generalize n.getD k 0 = x
      intro hc hx HO c0 HR
      have e1 : ((x : Int) + (c : Int)) % 65536 = (((c + x) % 65536 : Nat) : Int) := by omega
      have e2 : ((x : Int) + (c : Int)) / 65536 = (((c + x) / 65536 : Nat) : Int) := by omega
      have e3 : (c + x) / 65536 ≤ 2199023255552 := by omega
      revert e1 e2 e3 HO HR
      generalize (c + x) % 65536 = d
      generalize (c + x) / 65536 = o
      intro HO HR e1 e2 e3
      go_wp2
      go_roundg (gk - 1)
      case measure => have := HK.out; omega
      case rel => exact ⟨k + 1, by have := HK.out; omega, by go_num, by rw [HO.out, e2], by rw [HO.out]; exact e3, HR.out⟩
    · obtain rfl : k = 24 := by omega
      rw [List.take_of_length_le (by omega), List.drop_eq_nil_of_le (by omega), List.append_nil] at HS
      have hres := HS.own
      have HT := HS.res.store Z hzl
      have hth := HS.res.there (ns .i64 Z).size (by rw [ns_size, hzl]; rfl)
      have hbel' : Below w.heap.size w (wr.setCells (w.heap.size + 1) 0 (ns .i64 Z).toList) := Below.setCells HS.bel (by simp) _ _
      have hsz := ns24 Z hzl
      have hone := ns_one .i64 Z
      unfold Nb at HT hres
      clear HS HK HM HC hc
      go_wp2_with (first | (refine wpList_load_row rfl 129 (.tmp 1) rfl w.heap.size rfl 129 _ (0, 0) _ hres Tryz.underlying129 rfl hsz ?_) | (refine wpList_store_mid rfl 129 (.tmp 2) (.tmp 21) rfl (w.heap.size + 1) 0 _ rfl rfl hth hsz hone ?_))
      refine bodyPost_ret (results_cell_row rfl _ _ (w.heap.size + 1) 129 _ (0, 0) _ rfl HT Tryz.underlying129 rfl hsz) rfl ?_
      exact ⟨rfl, hbel'⟩

set_option maxRecDepth 20000 in
set_option maxHeartbeats 1000000 in
theorem five_any (n : List Nat) (hn : n.length = 24) (hM : ∀ i, n.getD i 0 ≤ 65536) (w : World) :
    Calls Tryz.prog 112 #[.agg (ns .i64 n)] w fun e w' => e = .returned (.agg (ns .i64 (d24 (5 * vl 65536 n)))) ∧ Below w.heap.size w w' := by
  have HS0 : Hid _ := Cv.start w n
  rw [zeros24] at HS0
  have HM : Hid (∀ i, n.getD i 0 ≤ 65536) := hM
  have hzl : (n.map (5 * ·)).length = 24 := by rw [List.length_map, hn]
  have HZ : Hid (∀ k, k < 24 → (n.map (5 * ·)).getD k 0 = 5 * n.getD k 0) := fun k hk => by
    simp [List.getD_eq_getElem?_getD, hn, hk]
  have HCA : Hid (∀ W, Calls Tryz.prog 113 #[.agg (ns .i64 (n.map (5 * ·)))] W fun e w' => e = .returned (.agg (ns .i64 (d24 (5 * vl 65536 n)))) ∧ Below W.heap.size W w') := fun W => by
    have h := carried_any (n.map (5 * ·)) hzl (fun i => by
      by_cases hi : i < 24
      · rw [HZ.out i hi]
        have := hM i
        omega
      · rw [List.getD_eq_getElem?_getD, List.getElem?_eq_none (by rw [hzl]; omega)]
        exact Nat.zero_le _) W
    rw [vl_map_mul] at h
    exact h
  have hL := d24_length (5 * vl 65536 n)
  clear hM
  revert HZ HCA hzl hL
  generalize d24 (5 * vl 65536 n) = L
  generalize n.map (5 * ·) = Z
  intro hzl HZ HCA hL
  go_enter Tryz.func112, Tryz.ntmps112
  go_wp2
  go_loopg [3] 24 (fun gk i wr => ∃ k : Nat, k + gk = 24 ∧ i = .int .i64 k ∧ Cv w wr (Z.take k ++ n.drop k))
  case atStart => exact ⟨0, by omega, rfl, HS0.out⟩
  case round =>
    clear HS0
    obtain ⟨k, hkk, rfl, HS⟩ := hrel
    have HK : Hid (k + gk = 24) := hkk
    have hk' : k ≤ 24 := by omega
    clear hkk
    by_cases hlt : k < 24
    · have hltI : (k : Int) < 24 := by omega
      have hx := HM.out k
      have hz := HZ.out k hlt
      have c0 := HS.own.cell k (by rw [List.length_append, List.length_take, List.length_drop]; omega)
      rw [mix_get Z n k (by omega)] at c0
      have f0 := HS.own.frozen k
      have HR : Hid (Cv w (wr.setCell ⟨w.heap.size, k, none⟩ (.int .i64 ((n.getD k 0 : Int) * 5))) (Z.take (k + 1) ++ n.drop (k + 1))) := by
        rw [show (n.getD k 0 : Int) * 5 = ((5 * n.getD k 0 : Nat) : Int) by omega, ← hz]
        have h := HS.put k (Z.getD k 0)
        rw [mix_set Z n k (by omega) (by omega)] at h
        exact h
      clear hz HS
      revert hx c0 HR
      generalize n.getD k 0 = x
      intro hx c0 HR
      go_wp2
      go_roundg (gk - 1)
      case measure => have := HK.out; omega
      case rel => exact ⟨k + 1, by have := HK.out; omega, by go_num, HR.out⟩
    · obtain rfl : k = 24 := by omega
      rw [List.take_of_length_le (by omega), List.drop_eq_nil_of_le (by omega), List.append_nil] at HS
      have hres := HS.own
      have hsz := ns24 Z hzl
      have hsz1 := ns24 L hL
      have hone1 := ns_one .i64 L
      have HW : Hid (∀ W, Below wr.heap.size wr W → W.there (w.heap.size + 1) 0 (ns .i64 L).size ∧ Nb .i64 129 (W.setCells (w.heap.size + 1) 0 (ns .i64 L).toList) (w.heap.size + 1) L ∧ Below w.heap.size w (W.setCells (w.heap.size + 1) 0 (ns .i64 L).toList)) := fun W hW => by
        have h2 := HS.res.below hW HS.res.lt
        exact ⟨h2.there _ (by rw [ns_size, hL]; rfl), h2.store _ (by rw [hL]; rfl), Below.setCells (HS.bel.trans (hW.mono HS.bel.size)) (by simp) _ _⟩
      have hca := HCA.out wr
      unfold Nb at hres
      clear HS HK HM HZ HCA
      go_wp2_with (first | (refine wpList_load_row rfl 129 (.tmp 1) rfl w.heap.size rfl 129 _ (0, 0) _ hres Tryz.underlying129 rfl hsz ?_) | (go_at_call 113; refine hca.mono ?_; rintro e w6 ⟨rfl, hb6⟩) | (refine wpList_store_mid rfl 129 (.tmp 2) (.tmp 15) rfl (w.heap.size + 1) 0 _ rfl rfl (HW.out w6 hb6).1 hsz1 hone1 ?_))
      have hT := (HW.out w6 hb6).2.1
      unfold Nb at hT
      refine bodyPost_ret (results_cell_row rfl _ _ (w.heap.size + 1) 129 _ (0, 0) _ rfl hT Tryz.underlying129 rfl hsz1) rfl ?_
      exact ⟨rfl, (HW.out w6 hb6).2.2⟩

/-- what add holds -/
structure Ad (w wr : World) (b m : List Nat) : Prop where
  own : Nb .i64 129 wr w.heap.size m
  two : Nb .i64 129 wr (w.heap.size + 1) b
  res : Nb .i64 129 wr (w.heap.size + 2) (List.replicate 24 0)
  bel : Below w.heap.size w wr

set_option maxRecDepth 20000 in
set_option maxHeartbeats 1000000 in
theorem add_any (a b : List Nat) (ha : a.length = 24) (hb : b.length = 24) (hA : ∀ i, a.getD i 0 ≤ 65536) (hB : ∀ i, b.getD i 0 ≤ 65536) (w : World) :
    Calls Tryz.prog 97 #[.agg (ns .i64 a), .agg (ns .i64 b)] w fun e w' => e = .returned (.agg (ns .i64 (d24 (vl 65536 a + vl 65536 b)))) ∧ Below w.heap.size w w' := by
  have HS0 : Hid (Ad w (((w.alloc (.cells (ns .i64 a) 129)).alloc (.cells (ns .i64 b) 129)).alloc (.cells (ns .i64 (List.replicate 24 0)) 129)) b a) :=
    ⟨((Nb.new _ _ _ _).alloc _).alloc _, (Nb.newN _ _ _ _ _ (by simp)).alloc _, Nb.newN _ _ _ _ _ (by simp), (((Below.refl _ _).alloc (Nat.le_refl _) _).alloc (by simp) _).alloc (by simp; omega) _⟩
  rw [zeros24] at HS0
  have hzl : (List.zipWith (· + ·) a b).length = 24 := by rw [List.length_zipWith, ha, hb]; rfl
  have HZ : Hid (∀ k, k < 24 → (List.zipWith (· + ·) a b).getD k 0 = a.getD k 0 + b.getD k 0) := fun k hk => zip_getD a b k (by omega) (by omega)
  have HA : Hid ((∀ i, a.getD i 0 ≤ 65536) ∧ (∀ i, b.getD i 0 ≤ 65536)) := ⟨hA, hB⟩
  have HCA : Hid (∀ W, Calls Tryz.prog 113 #[.agg (ns .i64 (List.zipWith (· + ·) a b))] W fun e w' => e = .returned (.agg (ns .i64 (d24 (vl 65536 a + vl 65536 b)))) ∧ Below W.heap.size W w') := fun W => by
    have h := carried_any (List.zipWith (· + ·) a b) hzl (fun i => by
      have := zip_lt a b 65537 (by omega) (fun i => by have := hA i; omega) (fun i => by have := hB i; omega) i
      omega) W
    rw [vl_zip_add _ _ _ (by omega)] at h
    exact h
  have hL := d24_length (vl 65536 a + vl 65536 b)
  clear hA hB
  revert HZ HCA hzl hL
  generalize d24 (vl 65536 a + vl 65536 b) = L
  generalize List.zipWith (· + ·) a b = Z
  intro hzl HZ HCA hL
  go_enter Tryz.func97, Tryz.ntmps97
  go_wp2
  go_loopg [5] 24 (fun gk i wr => ∃ k : Nat, k + gk = 24 ∧ i = .int .i64 k ∧ Ad w wr b (Z.take k ++ a.drop k))
  case atStart => exact ⟨0, by omega, rfl, HS0.out⟩
  case round =>
    clear HS0
    obtain ⟨k, hkk, rfl, HS⟩ := hrel
    have HK : Hid (k + gk = 24) := hkk
    have hk' : k ≤ 24 := by omega
    clear hkk
    by_cases hlt : k < 24
    · have hltI : (k : Int) < 24 := by omega
      have hx := HA.out.1 k
      have hy := HA.out.2 k
      have hz := HZ.out k hlt
      have c0 := HS.own.cell k (by rw [List.length_append, List.length_take, List.length_drop]; omega)
      rw [mix_get Z a k (by omega)] at c0
      have c1 := HS.two.cell k (by omega)
      have f0 := HS.own.frozen k
      have HR : Hid (Ad w (wr.setCell ⟨w.heap.size, k, none⟩ (.int .i64 ((a.getD k 0 : Int) + (b.getD k 0 : Int)))).drew b (Z.take (k + 1) ++ a.drop (k + 1))) := by
        rw [← Int.natCast_add, ← hz]
        refine ⟨?_, (HS.two.beside (by simp) _).drew, (HS.res.beside (by simp) _).drew, (HS.bel.setCell (Nat.le_refl _) _).drew⟩
        rw [← mix_set Z a k (by omega) (by omega)]
        exact (HS.own.put k _).drew
      clear hz HS
      revert hx hy c0 c1 HR
      generalize a.getD k 0 = x
      generalize b.getD k 0 = y
      intro hx hy c0 c1 HR
      go_wp2
      go_region
      refine with_world (R := fun W => Exit.inBlock _ _ _ _ W) (Q := fun W => Ad w W b (Z.take (k + 1) ++ a.drop (k + 1))) _ HR.out ?_
      clear HR c0 c1 f0
      intro w9 HP
      go_wp2
      go_roundg (gk - 1)
      case measure => have := HK.out; omega
      case rel => exact ⟨k + 1, by have := HK.out; omega, by go_num, HP⟩
    · obtain rfl : k = 24 := by omega
      rw [List.take_of_length_le (by omega), List.drop_eq_nil_of_le (by omega), List.append_nil] at HS
      have hres := HS.own
      have hsz := ns24 Z hzl
      have hsz1 := ns24 L hL
      have hone1 := ns_one .i64 L
      have HW : Hid (∀ W, Below wr.heap.size wr W → W.there (w.heap.size + 2) 0 (ns .i64 L).size ∧ Nb .i64 129 (W.setCells (w.heap.size + 2) 0 (ns .i64 L).toList) (w.heap.size + 2) L ∧ Below w.heap.size w (W.setCells (w.heap.size + 2) 0 (ns .i64 L).toList)) := fun W hW => by
        have h2 := HS.res.below hW HS.res.lt
        exact ⟨h2.there _ (by rw [ns_size, hL]; rfl), h2.store _ (by rw [hL]; rfl), Below.setCells (HS.bel.trans (hW.mono HS.bel.size)) (by simp) _ _⟩
      have hca := HCA.out wr
      unfold Nb at hres
      clear HS HK HA HZ HCA
      go_wp2_with (first | (refine wpList_load_row rfl 129 (.tmp 2) rfl w.heap.size rfl 129 _ (0, 0) _ hres Tryz.underlying129 rfl hsz ?_) | (go_at_call 113; refine hca.mono ?_; rintro e w6 ⟨rfl, hb6⟩) | (refine wpList_store_mid rfl 129 (.tmp 4) (.tmp 20) rfl (w.heap.size + 2) 0 _ rfl rfl (HW.out w6 hb6).1 hsz1 hone1 ?_))
      have hT := (HW.out w6 hb6).2.1
      unfold Nb at hT
      refine bodyPost_ret (results_cell_row rfl _ _ (w.heap.size + 2) 129 _ (0, 0) _ rfl hT Tryz.underlying129 rfl hsz1) rfl ?_
      exact ⟨rfl, (HW.out w6 hb6).2.2⟩

end Go.Proofs.YtengclnahppmhaaGreatDoor.Pol

namespace Go.Proofs.YtengclnahppmhaaGreatDoor.Pol
open Go.RowKit Go.Lib Go.Deep

theorem Nb.rng {kd : IntKind} {t : TypeId} {w : World} {g : Nat} {l : List Nat} (h : Nb kd t w g l) : w.rangeAt g 0 (nsL kd l) := range_of_heap (pre := []) (mid := nsL kd l) (post := []) h (by simp [ns])

theorem vl_zero_iff (b : Nat) (hb : 0 < b) (l : List Nat) : vl b l = 0 ↔ ∀ i, l.getD i 0 = 0 := by
  induction l with
  | nil => simp [vl]
  | cons x r ih =>
    rw [vl]
    constructor
    · intro h i
      have hx : x = 0 := by omega
      have hr : vl b r = 0 := by
        have : b * vl b r = 0 := by omega
        rcases Nat.mul_eq_zero.1 this with h | h
        · omega
        · exact h
      cases i with
      | zero => exact hx
      | succ i => rw [List.getD_cons_succ]; exact ih.1 hr i
    · intro h
      have h0 := h 0
      have hr := ih.2 (fun i => by have := h (i + 1); rwa [List.getD_cons_succ] at this)
      rw [hr]
      simpa using h0

set_option maxRecDepth 20000 in
set_option maxHeartbeats 1000000 in
theorem zero_any (v : Nat) (hv : v < 65536 ^ 24) (w : World) :
    Calls Tryz.prog 111 #[.agg (ns .i64 (d24 v))] w fun e w' => e = .returned (.bool (decide (v = 0))) ∧ Below w.heap.size w w' := by
  have hiff := vl_zero_iff 65536 (by omega) (d24 v)
  rw [vl_d24 v hv] at hiff
  have HI : Hid (v = 0 ↔ ∀ i, (d24 v).getD i 0 = 0) := hiff
  have hl := d24_length v
  have HL : Hid (∀ i, (d24 v).getD i 0 < 65536) := d24_at v
  clear hiff hv
  revert HI hl HL
  generalize d24 v = n
  intro HI hl HL
  have HS0 : Hid (Nb .i64 129 (w.alloc (.cells (ns .i64 n) 129)) w.heap.size n ∧ Below w.heap.size w (w.alloc (.cells (ns .i64 n) 129))) := ⟨Nb.new _ _ _ _, (Below.refl _ _).alloc (Nat.le_refl _) _⟩
  go_enter Tryz.func111, Tryz.ntmps111
  go_wp2
  go_loopg [3] 24 (fun gk i wr => ∃ k : Nat, k + gk = 24 ∧ i = .int .i64 k ∧ (∀ j, j < k → n.getD j 0 = 0) ∧ Nb .i64 129 wr w.heap.size n ∧ Below w.heap.size w wr)
  case atStart => exact ⟨0, by omega, rfl, fun j hj => by omega, HS0.out.1, HS0.out.2⟩
  case round =>
    clear HS0
    obtain ⟨k, hkk, rfl, hz, hn, hb⟩ := hrel
    have HK : Hid (k + gk = 24) := hkk
    have HZ : Hid (∀ j, j < k → n.getD j 0 = 0) := hz
    have hk' : k ≤ 24 := by omega
    clear hkk hz
    by_cases hlt : k < 24
    · have hltI : (k : Int) < 24 := by omega
      have c0 := hn.cell k (by omega)
      have HX : Hid (n.getD k 0 = n.getD k 0) := rfl
      have hx := HL.out k
      revert c0 hx
      generalize hxx : n.getD k 0 = x
      intro c0 hx
      have HXX : Hid (n.getD k 0 = x) := hxx
      clear hxx HX
      by_cases hx0 : x = 0
      · subst hx0
        go_wp2
        go_roundg (gk - 1)
        case measure => have := HK.out; omega
        case rel => exact ⟨k + 1, by have := HK.out; omega, by go_num, fun j hj => by
          by_cases hjk : j = k
          · rw [hjk]; exact HXX.out
          · exact HZ.out j (by omega), hn, hb⟩
      · have hxI : ¬ (x : Int) = 0 := by omega
        have HV : Hid (decide (v = 0) = false) := by
          show _ = _
          apply decide_eq_false
          intro h
          have := HI.out.1 h k
          rw [HXX.out] at this
          exact hx0 this
        go_wp2
        go_ret
        rw [HV.out]
        exact ⟨rfl, hb⟩
    · obtain rfl : k = 24 := by omega
      have HV : Hid (decide (v = 0) = true) := by
        show _ = _
        apply decide_eq_true
        apply HI.out.2
        intro i
        by_cases hi : i < 24
        · exact HZ.out i hi
        · rw [List.getD_eq_getElem?_getD, List.getElem?_eq_none (by omega)]
          rfl
      go_wp2
      go_ret
      rw [HV.out]
      exact ⟨rfl, hb⟩

/-- what parted holds -/
structure Pt (w wr : World) (n lo hi : List Nat) : Prop where
  own : Nb .i64 129 wr w.heap.size n
  r1 : Nb .i64 129 wr (w.heap.size + 1) (List.replicate 24 0)
  r2 : Nb .i64 129 wr (w.heap.size + 2) (List.replicate 24 0)
  low : Nb .i64 129 wr (w.heap.size + 3) lo
  high : Nb .i64 129 wr (w.heap.size + 4) hi
  bel : Below w.heap.size w wr
theorem Pt.putL {w wr : World} {n lo hi : List Nat} (h : Pt w wr n lo hi) (i x : Nat) : Pt w (wr.setCell ⟨w.heap.size + 3, i, none⟩ (.int .i64 (x : Int))) n (lo.set i x) hi :=
  ⟨h.own.beside (by simp) _, h.r1.beside (by simp) _, h.r2.beside (by simp) _, h.low.put i x, h.high.beside (by simp) _, h.bel.setCell (by simp) _⟩
theorem Pt.putH {w wr : World} {n lo hi : List Nat} (h : Pt w wr n lo hi) (i x : Nat) : Pt w (wr.setCell ⟨w.heap.size + 4, i, none⟩ (.int .i64 (x : Int))) n lo (hi.set i x) :=
  ⟨h.own.beside (by simp) _, h.r1.beside (by simp) _, h.r2.beside (by simp) _, h.low.beside (by simp) _, h.high.put i x, h.bel.setCell (by simp) _⟩

/-- the results, one by one -/
structure Pr (w wr : World) (lo hi a b : List Nat) : Prop where
  r1 : Nb .i64 129 wr (w.heap.size + 1) a
  r2 : Nb .i64 129 wr (w.heap.size + 2) b
  low : Nb .i64 129 wr (w.heap.size + 3) lo
  high : Nb .i64 129 wr (w.heap.size + 4) hi
  bel : Below w.heap.size w wr
theorem Pr.storeA {w wr : World} {lo hi a b : List Nat} (h : Pr w wr lo hi a b) (l : List Nat) (hl : l.length = 24) (ha : a.length = 24 := by rfl) : Pr w (wr.setCells (w.heap.size + 1) 0 (ns .i64 l).toList) lo hi l b :=
  ⟨h.r1.store l (by rw [hl, ha]), h.r2.aside (by simp) _ _, h.low.aside (by simp) _ _, h.high.aside (by simp) _ _, Below.setCells h.bel (by simp) _ _⟩
theorem Pr.storeB {w wr : World} {lo hi a b : List Nat} (h : Pr w wr lo hi a b) (l : List Nat) (hl : l.length = 24) (hb : b.length = 24 := by rfl) : Pr w (wr.setCells (w.heap.size + 2) 0 (ns .i64 l).toList) lo hi a l :=
  ⟨h.r1.aside (by simp) _ _, h.r2.store l (by rw [hl, hb]), h.low.aside (by simp) _ _, h.high.aside (by simp) _ _, Below.setCells h.bel (by simp) _ _⟩
theorem Pt.drew {w wr : World} {n lo hi : List Nat} (h : Pt w wr n lo hi) : Pr w wr.drew lo hi (List.replicate 24 0) (List.replicate 24 0) := ⟨h.r1, h.r2, h.low, h.high, h.bel.drew⟩

theorem results_cell2 {P : Program} {fn : Func} {p q : Tmp} {ty : TypeId} (h : fn.results = #[.cell p ty, .cell q ty]) (tmps : Array Value) (w : World) (g k : Nat) (t : TypeId) (cs ds : Array Value) (d : TypeDesc)
    (hp : tmps.getD p undef = .pointer (some ⟨g, 0, none⟩)) (hq : tmps.getD q undef = .pointer (some ⟨k, 0, none⟩)) (hg : w.heap[g]? = some (.cells cs t (0, 0))) (hk : w.heap[k]? = some (.cells ds t (0, 0))) (hu : P.underlying ty = some d) (hd : (match d with | .struct _ | .array _ _ => true | _ => false) = true)
    (hi : (P.info? ty).map (·.size) = some cs.size) (hj : (P.info? ty).map (·.size) = some ds.size) :
    (results fn tmps).run P w = .ok (.tuple #[.agg cs, .agg ds]) w := by
  have hp' : tmps[p]?.getD undef = .pointer (some ⟨g, 0, none⟩) := by simpa using hp
  have hq' : tmps[q]?.getD undef = .pointer (some ⟨k, 0, none⟩) := by simpa using hq
  simp [results, h, hp', hq', asAddr, run_loadVar_row w g t ty cs (0, 0) d hg hu hd hi, run_loadVar_row w k t ty ds (0, 0) d hk hu hd hj]

set_option maxRecDepth 20000 in
set_option maxHeartbeats 1000000 in
theorem parted_any (v : Nat) (hv : v < 65536 ^ 24) (w : World) :
    Calls Tryz.prog 110 #[.agg (ns .i64 (d24 v))] w fun e w' => e = .returned (.tuple #[.agg (ns .i64 (d24 (v % 1361129467683753853853498429727072845824))), .agg (ns .i64 (d24 (v / 1361129467683753853853498429727072845824)))]) ∧ Below w.heap.size w w' := by
  have HLO : Hid (d24 (v % 1361129467683753853853498429727072845824) = (fill 24 ((d24 v).take 8)).set 8 ((d24 v).getD 8 0 % 4)) := by
    show _ = _
    rw [← parted_low v]
    have h := fill_set 24 8 ((d24 v).take 8) ((d24 v).getD 8 0 % 4) (by rw [List.length_take, d24_length]; rfl) (by omega)
    rw [h]
    simp [fill, d24_length]
  have HHI : Hid (d24 (v / 1361129467683753853853498429727072845824) = fill 24 (dg 65536 16 (v / 1361129467683753853853498429727072845824))) := by
    show _ = _
    have h := dg_high (v / 1361129467683753853853498429727072845824) 16 (by simp only [Nat.reducePow] at hv ⊢; omega) (by omega)
    rw [if_pos rfl] at h
    rw [← h, fill, dg_length]
  have HST : Hid (∀ i, i < 16 → dg 65536 (i + 1) (v / 1361129467683753853853498429727072845824) = dg 65536 i (v / 1361129467683753853853498429727072845824) ++ [(d24 v).getD (i + 8) 0 / 4 + (if i + 9 < 24 then (d24 v).getD (i + 9) 0 % 4 else 0) * 16384]) := fun i hi => by
    rw [parted_high v i hi, dg_snoc, Nat.mod_eq_of_lt hv]
  have HL : Hid (∀ i, (d24 v).getD i 0 < 65536) := d24_at v
  have hl := d24_length v
  have hlo := d24_length (v % 1361129467683753853853498429727072845824)
  have hhi := d24_length (v / 1361129467683753853853498429727072845824)
  have HS0 : Hid (Pt w (((((w.alloc (.cells (ns .i64 (d24 v)) 129)).alloc (.cells (ns .i64 (List.replicate 24 0)) 129)).alloc (.cells (ns .i64 (List.replicate 24 0)) 129)).alloc (.cells (ns .i64 (List.replicate 24 0)) 129)).alloc (.cells (ns .i64 (List.replicate 24 0)) 129)) (d24 v) (fill 24 ((d24 v).take 0)) (fill 24 (dg 65536 0 (v / 1361129467683753853853498429727072845824)))) :=
    ⟨((((Nb.new _ _ _ _).alloc _).alloc _).alloc _).alloc _, (((Nb.newN _ _ _ _ _ (by simp)).alloc _).alloc _).alloc _, ((Nb.newN _ _ _ _ _ (by simp)).alloc _).alloc _, (Nb.newN _ _ _ _ _ (by simp)).alloc _, Nb.newN _ _ _ _ _ (by simp),
      (((((Below.refl _ _).alloc (Nat.le_refl _) _).alloc (by simp) _).alloc (by simp; omega) _).alloc (by simp; omega) _).alloc (by simp; omega) _⟩
  rw [zeros24] at HS0
  clear hv
  revert HLO HHI HST HL hl hlo hhi HS0
  generalize d24 (v % 1361129467683753853853498429727072845824) = LO
  generalize d24 (v / 1361129467683753853853498429727072845824) = HI
  generalize v / 1361129467683753853853498429727072845824 = q
  generalize d24 v = n
  intro HLO HHI HST HL hl hlo hhi HS0
  go_enter Tryz.func110, Tryz.ntmps110
  go_wp2
  go_loopg [6] 8 (fun gk i wr => ∃ k : Nat, k + gk = 8 ∧ i = .int .i64 k ∧ Pt w wr n (fill 24 (n.take k)) (fill 24 (dg 65536 0 q)))
  case atStart => exact ⟨0, by omega, rfl, HS0.out⟩
  case round =>
    clear HS0
    obtain ⟨k, hkk, rfl, HS⟩ := hrel
    have HK : Hid (k + gk = 8) := hkk
    have hk' : k ≤ 8 := by omega
    clear hkk
    have htl : (n.take k).length = k := by rw [List.length_take]; omega
    by_cases hlt : k < 8
    · have hltI : (k : Int) < 8 := by omega
      have hltI2 : (k : Int) < 24 := by omega
      have c0 := HS.own.cell k (by omega)
      have c1 := HS.low.cell k (by rw [fill_length _ _ (by omega)]; omega)
      have f1 := HS.low.frozen k
      have HR : Hid (Pt w (wr.setCell ⟨w.heap.size + 3, k, none⟩ (.int .i64 ((n.getD k 0 : Nat) : Int))) n (fill 24 (n.take (k + 1))) (fill 24 (dg 65536 0 q))) := by
        have h := HS.putL k (n.getD k 0)
        rw [fill_set 24 k _ _ htl (by omega)] at h
        have e : n.take (k + 1) = n.take k ++ [n.getD k 0] := by
          rw [List.take_add_one, List.getD_eq_getElem?_getD, List.getElem?_eq_getElem (by omega)]
          rfl
        rw [e]
        exact h
      clear HS
      revert c0 c1 HR
      generalize (fill 24 (n.take k)).getD k 0 = z
      generalize n.getD k 0 = x
      intro c0 c1 HR
      go_wp2
      go_roundg (gk - 1)
      case measure => have := HK.out; omega
      case rel => exact ⟨k + 1, by have := HK.out; omega, by go_num, HR.out⟩
    · obtain rfl : k = 8 := by omega
      have c0 := HS.own.cell 8 (by omega)
      have c1 := HS.low.cell 8 (by rw [fill_length _ _ (by omega)]; omega)
      have f1 := HS.low.frozen 8
      have hx := HL.out 8
      have HR : Hid (Pt w (wr.setCell ⟨w.heap.size + 3, 8, none⟩ (.int .i64 ((n.getD 8 0 % 4 : Nat) : Int))) n LO (fill 24 (dg 65536 0 q))) := by
        rw [HLO.out]
        exact HS.putL 8 (n.getD 8 0 % 4)
      have e4 : ((n.getD 8 0 : Nat) : Int) % 4 = ((n.getD 8 0 % 4 : Nat) : Int) := by omega
      clear HS HK HLO hlt hk' htl
      revert c0 c1 HR hx e4
      generalize (fill 24 (n.take 8)).getD 8 0 = z
      generalize n.getD 8 0 % 4 = y
      generalize n.getD 8 0 = x
      intro c0 c1 hx HR e4
      go_upto_region 8 with fail
      refine with_world (R := fun W => Code.wp _ _ _ _ W) (Q := fun W => Pt w W n LO (fill 24 (dg 65536 0 q))) _ HR.out ?_
      clear HR c0 c1 f1 e4 hx
      intro w2 HS2
      go_wp2
      go_loopg [7] 16 (fun gj i wx => ∃ m : Nat, m + gj = 16 ∧ i = .int .i64 (8 + (m : Int)) ∧ Pt w wx n LO (fill 24 (dg 65536 m q)))
      case atStart => exact ⟨0, by omega, rfl, HS2⟩
      case round =>
        clear HS2
        obtain ⟨m, hmm, rfl, HS⟩ := hrel
        have HM : Hid (m + gk = 16) := hmm
        have hm' : m ≤ 16 := by omega
        clear hmm
        have hdl : (dg 65536 m q).length = m := dg_length _ _ _
        by_cases hml : m < 16
        · have hmI : 8 + (m : Int) < 24 := by omega
          have hst := HST.out m hml
          have hx := HL.out (m + 8)
          have c0 : wr.cell? ⟨w.heap.size, 8 + m, none⟩ = some (.int .i64 ((n.getD (m + 8) 0 : Nat) : Int)) := by rw [Nat.add_comm 8 m]; exact HS.own.cell (m + 8) (by omega)
          have c2 := HS.high.cell m (by rw [fill_length _ _ (by omega)]; omega)
          have f2 := HS.high.frozen m
          by_cases h9 : m + 9 < 24
          · have h9I : 8 + (m : Int) + 1 < 24 := by omega
            have c1 : wr.cell? ⟨w.heap.size, 8 + m + 1, none⟩ = some (.int .i64 ((n.getD (m + 9) 0 : Nat) : Int)) := by rw [show 8 + m + 1 = m + 9 by omega]; exact HS.own.cell (m + 9) (by omega)
            have hy := HL.out (m + 9)
            rw [if_pos h9] at hst
            have HR : Hid (Pt w (wr.setCell ⟨w.heap.size + 4, m, none⟩ (.int .i64 ((n.getD (m + 8) 0 : Int) / 4 + (n.getD (m + 9) 0 : Int) % 4 * 16384))) n LO (fill 24 (dg 65536 (m + 1) q))) := by
              rw [hst, ← fill_set 24 m _ _ hdl (by omega)]
              have h := HS.putH m (n.getD (m + 8) 0 / 4 + n.getD (m + 9) 0 % 4 * 16384)
              rw [show ((n.getD (m + 8) 0 / 4 + n.getD (m + 9) 0 % 4 * 16384 : Nat) : Int) = (n.getD (m + 8) 0 : Int) / 4 + (n.getD (m + 9) 0 : Int) % 4 * 16384 by omega] at h
              exact h
            clear HS hst
            revert hx c0 c2 c1 hy HR
            generalize (fill 24 (dg 65536 m q)).getD m 0 = z
            generalize n.getD (m + 8) 0 = x
            generalize n.getD (m + 9) 0 = y
            intro hx c0 c2 c1 hy HR
            go_wp2
            go_roundg (gk - 1)
            case measure => have := HM.out; omega
            case rel => exact ⟨m + 1, by have := HM.out; omega, by go_num, HR.out⟩
          · have h9I : ¬ 8 + (m : Int) + 1 < 24 := by omega
            rw [if_neg h9, Nat.zero_mul, Nat.add_zero] at hst
            have HR : Hid (Pt w (wr.setCell ⟨w.heap.size + 4, m, none⟩ (.int .i64 ((n.getD (m + 8) 0 : Int) / 4))) n LO (fill 24 (dg 65536 (m + 1) q))) := by
              rw [hst, ← fill_set 24 m _ _ hdl (by omega)]
              have h := HS.putH m (n.getD (m + 8) 0 / 4)
              rw [show ((n.getD (m + 8) 0 / 4 : Nat) : Int) = (n.getD (m + 8) 0 : Int) / 4 by omega] at h
              exact h
            clear HS hst
            revert hx c0 c2 HR
            generalize (fill 24 (dg 65536 m q)).getD m 0 = z
            generalize n.getD (m + 8) 0 = x
            intro hx c0 c2 HR
            go_wp2
            go_roundg (gk - 1)
            case measure => have := HM.out; omega
            case rel => exact ⟨m + 1, by have := HM.out; omega, by go_num, HR.out⟩
        · obtain rfl : m = 16 := by omega
          rw [← HHI.out] at HS
          have hszL := ns24 LO hlo
          have hszH := ns24 HI hhi
          have hzL : (Tryz.prog.info? 129).map (·.size) = some (nsL .i64 LO).length := by rw [nsL_length, hlo]; exact size43
          have hzH : (Tryz.prog.info? 129).map (·.size) = some (nsL .i64 HI).length := by rw [nsL_length, hhi]; exact size43
          clear HM HST HHI HL
          go_upto_region 15 with fail
          refine wp_region_held_drew (S := fun W => W.rangeAt (w.heap.size + 3) 0 (nsL .i64 LO) ∧ W.rangeAt (w.heap.size + 4) 0 (nsL .i64 HI)) (by kernel_rfl) ⟨HS.drew.low.rng, HS.drew.high.rng⟩ ?_
          intro hS
          have HV := HS.drew
          clear HS
          revert HV hS
          generalize wr.drew = V
          intro hS HV
          refine wpAnyH_take (i := 0) (oi := { dst := some 44, op := .load 129 (.tmp 4), type := _, pos := _, after := _, guard := none }) (v := .agg (nsL .i64 LO).toArray) rfl (by kernel_rfl) (by kernel_rfl) (by kernel_rfl) (fun _ _ _ h => h) (yieldsIf_load_mid (by rfl) 129 (.tmp 4) rfl (w.heap.size + 3) 0 (by simp [Act.eval]) (nsL .i64 LO) _ (fun x hx => hx.1) Tryz.underlying129 rfl hzL) hS ?_
          (try simp only [Act.put, List.setIfInBounds_toArray, List.set_cons_zero, List.set_cons_succ])
          refine wpAnyH_take (i := 1) (oi := { dst := some 45, op := .load 129 (.tmp 5), type := _, pos := _, after := _, guard := none }) (v := .agg (nsL .i64 HI).toArray) rfl (by kernel_rfl) (by kernel_rfl) (by kernel_rfl) (fun _ _ _ h => h) (yieldsIf_load_mid (by rfl) 129 (.tmp 5) rfl (w.heap.size + 4) 0 (by simp [Act.eval]) (nsL .i64 HI) _ (fun x hx => hx.2) Tryz.underlying129 rfl hzH) hS ?_
          (try simp only [Act.put, List.setIfInBounds_toArray, List.set_cons_zero, List.set_cons_succ])
          refine wpAnyH_ready (rs := [2]) (by kernel_rfl) (by simp) ?_
          refine AllReadyH.cons (o := { dst := none, op := .store 129 (.tmp 2) (.tmp 44), type := _, pos := _, after := _, guard := none }) rfl (fun K hK => ?_) AllReadyH.nil
          refine step_store_mid rfl 129 (.tmp 2) (.tmp 44) rfl (w.heap.size + 1) 0 (ns .i64 LO) (by simp [Act.eval]) (by simp [Act.eval, ns]) (HV.r1.there _ (by rw [ns_size, hlo]; rfl)) hszL (ns_one .i64 LO) ?_
          have H1 := HV.storeA LO hlo
          refine hK.out _ _ ⟨H1.low.rng, H1.high.rng⟩ (fun _ => ?_)
          clear hK K hS
          (try simp only [Act.put])
          have hS1 : (V.setCells (w.heap.size + 1) 0 (ns .i64 LO).toList).rangeAt (w.heap.size + 3) 0 (nsL .i64 LO) ∧ (V.setCells (w.heap.size + 1) 0 (ns .i64 LO).toList).rangeAt (w.heap.size + 4) 0 (nsL .i64 HI) := ⟨H1.low.rng, H1.high.rng⟩
          refine wpAnyH_ready (rs := [3]) (by kernel_rfl) (by simp) ?_
          refine AllReadyH.cons (o := { dst := none, op := .store 129 (.tmp 3) (.tmp 45), type := _, pos := _, after := _, guard := none }) rfl (fun K hK => ?_) AllReadyH.nil
          refine step_store_mid rfl 129 (.tmp 3) (.tmp 45) rfl (w.heap.size + 2) 0 (ns .i64 HI) (by simp [Act.eval]) (by simp [Act.eval, ns]) (H1.r2.there _ (by rw [ns_size, hhi]; rfl)) hszH (ns_one .i64 HI) ?_
          have H2 := H1.storeB HI hhi
          refine hK.out _ _ ⟨H2.low.rng, H2.high.rng⟩ (fun _ => ?_)
          clear hK K hS1
          (try simp only [Act.put])
          refine wpAnyH_done (by kernel_rfl) ?_ _
          have k1 := H2.r1
          have k2 := H2.r2
          have hbf := H2.bel
          unfold Nb at k1 k2
          clear H2 H1 HV
          go_wp2
          refine bodyPost_ret (results_cell2 rfl _ _ (w.heap.size + 1) (w.heap.size + 2) 129 _ _ _ rfl rfl k1 k2 Tryz.underlying129 rfl hszL hszH) rfl ?_
          exact ⟨rfl, hbf⟩

end Go.Proofs.YtengclnahppmhaaGreatDoor.Pol

namespace Go.Proofs.YtengclnahppmhaaGreatDoor.Pol
open Go.RowKit Go.Lib Go.Deep

/-- what modulo holds -/
structure Mo (w wr : World) (g h : Nat) (n lo hi : List Nat) : Prop where
  own : Nb .i64 129 wr w.heap.size n
  nl : n.length = 24
  res : Nb .i64 129 wr (w.heap.size + 1) (List.replicate 24 0)
  low : Nb .i64 129 wr g lo
  high : Nb .i64 129 wr h hi
  gg : w.heap.size + 1 < g
  gh : w.heap.size + 1 < h
  ne : g ≠ h
  bel : Below w.heap.size w wr
theorem Mo.below {w wr W : World} {g h : Nat} {n lo hi : List Nat} (H : Mo w wr g h n lo hi) (hb : Below wr.heap.size wr W) : Mo w W g h n lo hi :=
  ⟨H.own.below hb H.own.lt, H.nl, H.res.below hb H.res.lt, H.low.below hb H.low.lt, H.high.below hb H.high.lt, H.gg, H.gh, H.ne, H.bel.trans (hb.mono H.bel.size)⟩
theorem Mo.drew {w wr : World} {g h : Nat} {n lo hi : List Nat} (H : Mo w wr g h n lo hi) : Mo w wr.drew g h n lo hi := ⟨H.own, H.nl, H.res, H.low, H.high, H.gg, H.gh, H.ne, H.bel.drew⟩
theorem Mo.there {w wr : World} {g h : Nat} {n lo hi : List Nat} (H : Mo w wr g h n lo hi) (l : List Nat) (hl : l.length = 24) : wr.there w.heap.size 0 (ns .i64 l).size := H.own.there _ (by rw [ns_size, hl, H.nl])
theorem Mo.storeN {w wr : World} {g h : Nat} {n lo hi : List Nat} (H : Mo w wr g h n lo hi) (l : List Nat) (hl : l.length = 24) : Mo w (wr.setCells w.heap.size 0 (ns .i64 l).toList) g h l lo hi :=
  ⟨H.own.store l (by rw [hl, H.nl]), hl, H.res.aside (by simp) _ _, H.low.aside (by have := H.gg; omega) _ _, H.high.aside (by have := H.gh; omega) _ _, H.gg, H.gh, H.ne, Below.setCells H.bel (Nat.le_refl _) _ _⟩
theorem Mo.storeL {w wr : World} {g h : Nat} {n lo hi : List Nat} (H : Mo w wr g h n lo hi) (l : List Nat) (hl : l.length = 24) (hlo : lo.length = 24) : wr.there g 0 (ns .i64 l).size ∧ Mo w (wr.setCells g 0 (ns .i64 l).toList) g h n l hi :=
  ⟨H.low.there _ (by rw [ns_size, hl, hlo]), H.own.aside (by have := H.gg; omega) _ _, H.nl, H.res.aside (by have := H.gg; omega) _ _, H.low.store l (by rw [hl, hlo]), H.high.aside (Ne.symm H.ne) _ _, H.gg, H.gh, H.ne, Below.setCells H.bel (by have := H.gg; omega) _ _⟩
theorem Mo.storeH {w wr : World} {g h : Nat} {n lo hi : List Nat} (H : Mo w wr g h n lo hi) (l : List Nat) (hl : l.length = 24) (hhi : hi.length = 24) : wr.there h 0 (ns .i64 l).size ∧ Mo w (wr.setCells h 0 (ns .i64 l).toList) g h n lo l :=
  ⟨H.high.there _ (by rw [ns_size, hl, hhi]), H.own.aside (by have := H.gh; omega) _ _, H.nl, H.res.aside (by have := H.gh; omega) _ _, H.low.aside H.ne _ _, H.high.store l (by rw [hl, hhi]), H.gg, H.gh, H.ne, Below.setCells H.bel (by have := H.gh; omega) _ _⟩

/-- a number and the result's place -/
structure Le24 (w wr : World) (L : List Nat) : Prop where
  own : Nb .i64 129 wr w.heap.size L
  res : Nb .i64 129 wr (w.heap.size + 1) (List.replicate 24 0)
  bel : Below w.heap.size w wr
theorem Le24.below {w wr W : World} {L : List Nat} (h : Le24 w wr L) (hb : Below wr.heap.size wr W) : Le24 w W L := ⟨h.own.below hb h.own.lt, h.res.below hb h.res.lt, h.bel.trans (hb.mono h.bel.size)⟩

theorem d24_le (v i : Nat) : (d24 v).getD i 0 ≤ 65536 := by have := d24_at v i; omega

set_option maxRecDepth 20000 in
set_option maxHeartbeats 2000000 in
theorem modulo_any (v0 : Nat) (hv0 : v0 < 65536 ^ 18) (w : World) :
    Calls Tryz.prog 95 #[.agg (ns .i64 (d24 v0))] w fun e w' => e = .returned (.agg (ns .i64 (d24 (v0 % Pp)))) ∧ Below w.heap.size w w' := by
  have hp18 : (65536 : Nat) ^ 18 ≤ 65536 ^ 24 := Nat.pow_le_pow_right (by omega) (by omega)
  have HPA : Hid (∀ v, v < 65536 ^ 18 → ∀ W, Calls Tryz.prog 110 #[.agg (ns .i64 (d24 v))] W fun e w' => e = .returned (.tuple #[.agg (ns .i64 (d24 (v % 1361129467683753853853498429727072845824))), .agg (ns .i64 (d24 (v / 1361129467683753853853498429727072845824)))]) ∧ Below W.heap.size W w') := fun v hv W => parted_any v (Nat.lt_of_lt_of_le hv hp18) W
  have HZE : Hid (∀ v, v < 65536 ^ 18 → ∀ W, Calls Tryz.prog 111 #[.agg (ns .i64 (d24 v))] W fun e w' => e = .returned (.bool (decide (v = 0))) ∧ Below W.heap.size W w') := fun v hv W => zero_any v (Nat.lt_of_lt_of_le hv hp18) W
  have HFI : Hid (∀ v, v < 65536 ^ 18 → ∀ W, Calls Tryz.prog 112 #[.agg (ns .i64 (d24 v))] W fun e w' => e = .returned (.agg (ns .i64 (d24 (5 * v)))) ∧ Below W.heap.size W w') := fun v hv W => by
    have h := five_any (d24 v) (d24_length v) (d24_le v) W
    rw [vl_d24 v (Nat.lt_of_lt_of_le hv hp18)] at h
    exact h
  have HAD : Hid (∀ a b, a < 65536 ^ 20 → b < 65536 ^ 20 → ∀ W, Calls Tryz.prog 97 #[.agg (ns .i64 (d24 a)), .agg (ns .i64 (d24 b))] W fun e w' => e = .returned (.agg (ns .i64 (d24 (a + b)))) ∧ Below W.heap.size W w') := fun a b ha hb W => by
    have hp : (65536 : Nat) ^ 20 ≤ 65536 ^ 24 := Nat.pow_le_pow_right (by omega) (by omega)
    have h := add_any (d24 a) (d24 b) (d24_length a) (d24_length b) (d24_le a) (d24_le b) W
    rw [vl_d24 a (by omega), vl_d24 b (by omega)] at h
    exact h
  simp only [Nat.reducePow] at hv0 HPA HZE HFI HAD
  clear hp18
  have HLN : Hid (∀ v, (d24 v).length = 24) := d24_length
  have hpa := HPA.out v0 hv0
  have hl1 := d24_length v0
  have hl2 := d24_length (v0 % 1361129467683753853853498429727072845824)
  have hl3 := d24_length (v0 / 1361129467683753853853498429727072845824)
  have HS0 : Hid (Le24 w ((w.alloc (.cells (ns .i64 (d24 v0)) 129)).alloc (.cells (ns .i64 (List.replicate 24 0)) 129)) (d24 v0)) :=
    ⟨(Nb.new _ _ _ _).alloc _, Nb.newN _ _ _ _ _ (by simp), ((Below.refl _ _).alloc (Nat.le_refl _) _).alloc (by simp) _⟩
  rw [zeros24] at HS0
  have HD : Hid (d24 (v0 % 1361129467683753853853498429727072845824) = d24 (v0 % 1361129467683753853853498429727072845824) ∧ d24 (v0 / 1361129467683753853853498429727072845824) = d24 (v0 / 1361129467683753853853498429727072845824)) := ⟨rfl, rfl⟩
  revert hpa hl1 hl2 hl3 HS0
  generalize hLO : d24 (v0 % 1361129467683753853853498429727072845824) = LO
  generalize hHI : d24 (v0 / 1361129467683753853853498429727072845824) = HI
  generalize d24 v0 = N0
  intro hpa hl1 hl2 hl3 HS0
  clear HD
  have HD : Hid (d24 (v0 % 1361129467683753853853498429727072845824) = LO ∧ d24 (v0 / 1361129467683753853853498429727072845824) = HI) := ⟨hLO, hHI⟩
  clear hLO hHI
  have hsz0 := ns24 N0 hl1
  have hszL := ns24 LO hl2
  have hszH := ns24 HI hl3
  have honL := ns_one .i64 LO
  have honH := ns_one .i64 HI
  have hsl : (ns .i64 LO).size = 24 := by rw [ns_size, hl2]
  have hsh : (ns .i64 HI).size = 24 := by rw [ns_size, hl3]
  go_enter Tryz.func95, Tryz.ntmps95
  go_upto_region 1 with fail
  refine with_world (R := fun W => Code.wp _ _ _ _ W) (Q := fun W => Le24 w W N0) _ HS0.out ?_
  clear HS0
  intro w1 H1
  have hpa1 := hpa w1
  go_wp2_with (refine wpList_load_row rfl 129 (.tmp 1) rfl w.heap.size rfl 129 _ (0, 0) _ H1.own Tryz.underlying129 rfl hsz0 ?_)
  refine hpa1.mono ?_
  rintro e w2 ⟨rfl, hb2⟩
  have H2 := H1.below hb2
  clear H1 hb2 hpa1 hpa
  have HM0 : Hid (∀ z : Array Value, z.size = 24 → ((w2.alloc (.cells z 129)).alloc (.cells z 129)).there w2.heap.size 0 (ns .i64 LO).size ∧ (((w2.alloc (.cells z 129)).alloc (.cells z 129)).setCells w2.heap.size 0 (ns .i64 LO).toList).there (w2.heap.size + 1) 0 (ns .i64 HI).size
      ∧ Mo w ((((w2.alloc (.cells z 129)).alloc (.cells z 129)).setCells w2.heap.size 0 (ns .i64 LO).toList).setCells (w2.heap.size + 1) 0 (ns .i64 HI).toList) w2.heap.size (w2.heap.size + 1) N0 LO HI) := fun z hz => by
    have hlt := H2.res.lt
    have g1 : ((w2.alloc (.cells z 129)).alloc (.cells z 129)).heap[w2.heap.size]? = some (.cells z 129 (0, 0)) := (Below.heap_alloc _ _ _ (by simp)).trans (heap_new _ _)
    have g2 : ((w2.alloc (.cells z 129)).alloc (.cells z 129)).heap[w2.heap.size + 1]? = some (.cells z 129 (0, 0)) := by
      have h := heap_new (w2.alloc (.cells z 129)) (.cells z 129)
      simpa using h
    have g3 := heap_setCells w2.heap.size 129 (ns .i64 LO).toList 0 z _ g1
    rw [setMany_all _ _ (by rw [Array.length_toList, hsl, hz]), Array.toArray_toList] at g3
    have g4 := (heap_setCells_other w2.heap.size (w2.heap.size + 1) (by omega) (ns .i64 LO).toList 0 ((w2.alloc (.cells z 129)).alloc (.cells z 129))).trans g2
    have g5 := heap_setCells (w2.heap.size + 1) 129 (ns .i64 HI).toList 0 z _ g4
    rw [setMany_all _ _ (by rw [Array.length_toList, hsh, hz]), Array.toArray_toList] at g5
    refine ⟨there_of_heap g1 (by rw [hsl, hz]; decide), there_of_heap g4 (by rw [hsh, hz]; decide), ?_⟩
    refine ⟨(((H2.own.alloc _).alloc _).aside (by have := H2.own.lt; omega) _ _).aside (by have := H2.own.lt; omega) _ _, hl1, (((H2.res.alloc _).alloc _).aside (by omega) _ _).aside (by omega) _ _, ?_, g5, by omega, by omega, by omega, ?_⟩
    · exact (heap_setCells_other (w2.heap.size + 1) w2.heap.size (by omega) (ns .i64 HI).toList 0 _).trans g3
    · have hz2 := H2.bel.size
      exact Below.setCells (Below.setCells ((H2.bel.alloc hz2 _).alloc (by simp; omega) _) hz2 _ _) (by omega) _ _
  go_wp2_with (first | (refine wpList_store_mid rfl 129 (.tmp 3) (.tmp 11) rfl w2.heap.size 0 _ rfl rfl (HM0.out _ rfl).1 hszL honL ?_) | (refine wpList_store_mid rfl 129 (.tmp 4) (.tmp 12) rfl (w2.heap.size + 1) 0 _ rfl rfl (HM0.out _ rfl).2.1 hszH honH ?_))
  refine with_world (R := fun W => Code.wp _ _ _ _ W) (Q := fun W => Mo w W w2.heap.size (w2.heap.size + 1) N0 LO HI) _ (HM0.out _ rfl).2.2 ?_
  clear HM0 H2 hsl hsh honL honH hszL hszH hsz0
  generalize w2.heap.size + 1 = h
  generalize w2.heap.size = g
  intro w3 HM0
  (try simp only [put_none])
  go_loopg [] v0 (fun gk wr => ∃ n : List Nat, gk % Pp = v0 % Pp ∧ gk ≤ v0 ∧ Mo w wr g h n (d24 (gk % 1361129467683753853853498429727072845824)) (d24 (gk / 1361129467683753853853498429727072845824)))
  case atStart => exact ⟨N0, rfl, Nat.le_refl _, by rw [HD.out.1, HD.out.2]; exact HM0⟩
  case round =>
    clear HM0 HD hl1 hl2 hl3
    obtain ⟨n, hmod, hle, HS⟩ := hrel
    have hvl : gk < 497323236409786642155382248146820840100456150797347717440463976893159497012533375533056 := by omega
    have hql : gk / 1361129467683753853853498429727072845824 < 497323236409786642155382248146820840100456150797347717440463976893159497012533375533056 := by omega
    have hze := HZE.out _ hql wr
    have hlH := d24_length (gk / 1361129467683753853853498429727072845824)
    have hlL := d24_length (gk % 1361129467683753853853498429727072845824)
    by_cases hq : gk / 1361129467683753853853498429727072845824 = 0
    · have hgl : gk < 1361129467683753853853498429727072845824 := by omega
      rw [decide_eq_true hq] at hze
      have hr : gk % 1361129467683753853853498429727072845824 = gk := Nat.mod_eq_of_lt hgl
      rw [hr] at HS hlL
      have had := HAD.out gk 5 (by omega) (by omega)
      have hpt := HPA.out (gk + 5) (by omega)
      have hz2 := HZE.out ((gk + 5) / 1361129467683753853853498429727072845824) (by omega)
      have hend := modulo_end gk hgl
      rw [hmod] at hend
      have HEND : Hid (d24 (v0 % Pp) = d24 (if (gk + 5) / 1361129467683753853853498429727072845824 = 0 then gk else (gk + 5) % 1361129467683753853853498429727072845824)) := by show _ = _; rw [hend]
      have hlA := d24_length ((gk + 5) % 1361129467683753853853498429727072845824)
      have hlB := d24_length ((gk + 5) / 1361129467683753853853498429727072845824)
      have hlS := d24_length (gk + 5)
      have hK5 : (#[.int .i64 5, .int .i64 0, .int .i64 0, .int .i64 0, .int .i64 0, .int .i64 0, .int .i64 0, .int .i64 0, .int .i64 0, .int .i64 0, .int .i64 0, .int .i64 0, .int .i64 0, .int .i64 0, .int .i64 0, .int .i64 0, .int .i64 0, .int .i64 0, .int .i64 0, .int .i64 0, .int .i64 0, .int .i64 0, .int .i64 0, .int .i64 0] : Array Value) = ns .i64 (d24 5) := by kernel_rfl
      have hl5 := d24_length 5
      clear hend hmod hle hql hvl hgl hr HPA HZE HFI HAD
      generalize hQ : (gk + 5) / 1361129467683753853853498429727072845824 = Q at *
      clear hQ
      generalize hLA : d24 ((gk + 5) % 1361129467683753853853498429727072845824) = LA at *
      generalize hLB : d24 Q = LB at *
      generalize d24 (gk + 5) = LS at *
      generalize d24 5 = L5 at *
      generalize hHI : d24 (gk / 1361129467683753853853498429727072845824) = HI at *
      generalize hLO : d24 gk = LO at *
      have HLA : Hid (d24 ((gk + 5) % 1361129467683753853853498429727072845824) = LA ∧ d24 gk = LO) := ⟨hLA, hLO⟩
      clear hLA hLB hHI hLO
      have hszH := ns24 HI hlH
      have hszL := ns24 LO hlL
      have hsz5 := ns24 L5 hl5
      have hszA := ns24 LA hlA
      have hszB := ns24 LB hlB
      have hoA := ns_one .i64 LA
      have hoB := ns_one .i64 LB
      have hoL := ns_one .i64 LO
      have hsA : (ns .i64 LA).size = 24 := by rw [ns_size, hlA]
      have hsB : (ns .i64 LB).size = 24 := by rw [ns_size, hlB]
      have hhg := HS.high
      unfold Nb at hhg
      go_wp2_with (refine wpList_load_row rfl 129 (.tmp 4) rfl h rfl 129 _ (0, 0) _ hhg Tryz.underlying129 rfl hszH ?_)
      refine hze.mono ?_
      rintro e w4 ⟨rfl, hb4⟩
      have H4 := HS.below hb4
      clear HS hb4 hhg hze
      have HK : Hid (∀ z, z = ns .i64 L5 → Nb .i64 129 (w4.alloc (.cells z 129)) w4.heap.size L5 ∧ Mo w (w4.alloc (.cells z 129)) g h n LO HI) := fun z hz => by
        subst hz
        exact ⟨Nb.new _ _ _ _, ⟨H4.own.alloc _, H4.nl, H4.res.alloc _, H4.low.alloc _, H4.high.alloc _, H4.gg, H4.gh, H4.ne, H4.bel.alloc H4.bel.size _⟩⟩
      go_upto_region 7 with fail
      refine with_world (R := fun W => Code.wp _ _ _ _ W) (Q := fun W => Nb .i64 129 W w4.heap.size L5 ∧ Mo w W g h n LO HI) _ (HK.out _ rfl) ?_
      clear HK H4 hK5
      generalize w4.heap.size = g5
      rintro w5 ⟨hn5, H5⟩
      have hlw := H5.low
      unfold Nb at hlw hn5
      have had5 := had w5
      go_wp2_with (first | (refine wpList_load_row rfl 129 (.tmp 3) rfl g rfl 129 _ (0, 0) _ hlw Tryz.underlying129 rfl hszL ?_) | (refine wpList_load_row rfl 129 (.tmp 5) rfl g5 rfl 129 _ (0, 0) _ hn5 Tryz.underlying129 rfl hsz5 ?_))
      refine had5.mono ?_
      rintro e w6 ⟨rfl, hb6⟩
      have H6 := H5.below hb6
      clear H5 hb6 hn5 hlw had5 had
      have hpt6 := hpt w6
      go_wp2_with fail
      refine hpt6.mono ?_
      rintro e w7 ⟨rfl, hb7⟩
      have H7 := H6.below hb7
      clear H6 hb7 hpt6 hpt
      have HW : Hid (∀ z : Array Value, z.size = 24 → ((w7.alloc (.cells z 129)).alloc (.cells z 129)).there w7.heap.size 0 (ns .i64 LA).size ∧ (((w7.alloc (.cells z 129)).alloc (.cells z 129)).setCells w7.heap.size 0 (ns .i64 LA).toList).there (w7.heap.size + 1) 0 (ns .i64 LB).size
          ∧ Nb .i64 129 ((((w7.alloc (.cells z 129)).alloc (.cells z 129)).setCells w7.heap.size 0 (ns .i64 LA).toList).setCells (w7.heap.size + 1) 0 (ns .i64 LB).toList) w7.heap.size LA
          ∧ Nb .i64 129 ((((w7.alloc (.cells z 129)).alloc (.cells z 129)).setCells w7.heap.size 0 (ns .i64 LA).toList).setCells (w7.heap.size + 1) 0 (ns .i64 LB).toList) (w7.heap.size + 1) LB
          ∧ Mo w ((((w7.alloc (.cells z 129)).alloc (.cells z 129)).setCells w7.heap.size 0 (ns .i64 LA).toList).setCells (w7.heap.size + 1) 0 (ns .i64 LB).toList) g h n LO HI) := fun z hz => by
        have g1 : ((w7.alloc (.cells z 129)).alloc (.cells z 129)).heap[w7.heap.size]? = some (.cells z 129 (0, 0)) := (Below.heap_alloc _ _ _ (by simp)).trans (heap_new _ _)
        have g2 : ((w7.alloc (.cells z 129)).alloc (.cells z 129)).heap[w7.heap.size + 1]? = some (.cells z 129 (0, 0)) := by
          have h := heap_new (w7.alloc (.cells z 129)) (.cells z 129)
          simpa using h
        have g3 := heap_setCells w7.heap.size 129 (ns .i64 LA).toList 0 z _ g1
        rw [setMany_all _ _ (by rw [Array.length_toList, hsA, hz]), Array.toArray_toList] at g3
        have g4 := (heap_setCells_other w7.heap.size (w7.heap.size + 1) (by omega) (ns .i64 LA).toList 0 ((w7.alloc (.cells z 129)).alloc (.cells z 129))).trans g2
        have g5' := heap_setCells (w7.heap.size + 1) 129 (ns .i64 LB).toList 0 z _ g4
        rw [setMany_all _ _ (by rw [Array.length_toList, hsB, hz]), Array.toArray_toList] at g5'
        refine ⟨there_of_heap g1 (by rw [hsA, hz]; decide), there_of_heap g4 (by rw [hsB, hz]; decide), (heap_setCells_other (w7.heap.size + 1) w7.heap.size (by omega) (ns .i64 LB).toList 0 _).trans g3, g5', ?_⟩
        have k1 := H7.own.lt
        have k2 := H7.res.lt
        have k3 := H7.low.lt
        have k4 := H7.high.lt
        have hz2 := H7.bel.size
        exact ⟨(((H7.own.alloc _).alloc _).aside (by omega) _ _).aside (by omega) _ _, H7.nl, (((H7.res.alloc _).alloc _).aside (by omega) _ _).aside (by omega) _ _, (((H7.low.alloc _).alloc _).aside (by omega) _ _).aside (by omega) _ _, (((H7.high.alloc _).alloc _).aside (by omega) _ _).aside (by omega) _ _, H7.gg, H7.gh, H7.ne,
          Below.setCells (Below.setCells ((H7.bel.alloc hz2 _).alloc (by simp; omega) _) hz2 _ _) (by omega) _ _⟩
      go_upto_region 8 with (first | (refine wpList_store_mid rfl 129 (.tmp 6) (.tmp 31) rfl w7.heap.size 0 _ rfl rfl (HW.out _ rfl).1 hszA hoA ?_) | (refine wpList_store_mid rfl 129 (.tmp 7) (.tmp 32) rfl (w7.heap.size + 1) 0 _ rfl rfl (HW.out _ rfl).2.1 hszB hoB ?_))
      refine with_world (R := fun W => Code.wp _ _ _ _ W) (Q := fun W => Nb .i64 129 W w7.heap.size LA ∧ Nb .i64 129 W (w7.heap.size + 1) LB ∧ Mo w W g h n LO HI) _ (HW.out _ rfl).2.2 ?_
      clear HW H7
      generalize w7.heap.size + 1 = g7
      generalize w7.heap.size = g6
      rintro w8 ⟨hnA, hnB, H8⟩
      (try simp only [put_none])
      have hz8 := hz2 w8
      have hnB' := hnB
      unfold Nb at hnB
      go_wp2_with (refine wpList_load_row rfl 129 (.tmp 7) rfl g7 rfl 129 _ (0, 0) _ hnB Tryz.underlying129 rfl hszB ?_)
      refine hz8.mono ?_
      rintro e w9 ⟨rfl, hb9⟩
      have H9 := H8.below hb9
      have hnA9 := hnA.below hb9 hnA.lt
      clear H8 hb9 hnA hnB hnB' hz8 hz2
      by_cases hQ0 : Q = 0
      · rw [decide_eq_true hQ0]
        rw [if_pos hQ0] at HEND
        have hlw := H9.low
        have HT := H9.res.store LO (by rw [hlL]; rfl)
        have hth := H9.res.there (ns .i64 LO).size (by rw [ns_size, hlL]; rfl)
        have hbf : Below w.heap.size w (w9.setCells (w.heap.size + 1) 0 (ns .i64 LO).toList) := Below.setCells H9.bel (by simp) _ _
        unfold Nb at hlw HT
        go_wp2_with (first | (refine wpList_load_row rfl 129 (.tmp 3) rfl g rfl 129 _ (0, 0) _ hlw Tryz.underlying129 rfl hszL ?_) | (refine wpList_store_mid rfl 129 (.tmp 2) (.tmp 37) rfl (w.heap.size + 1) 0 _ rfl rfl hth hszL hoL ?_))
        refine bodyPost_ret (results_cell_row rfl _ _ (w.heap.size + 1) 129 _ (0, 0) _ rfl HT Tryz.underlying129 rfl hszL) rfl ?_
        rw [HEND.out, HLA.out.2]
        exact ⟨rfl, hbf⟩
      · rw [decide_eq_false hQ0]
        rw [if_neg hQ0] at HEND
        have HT := H9.res.store LA (by rw [hlA]; rfl)
        have hth := H9.res.there (ns .i64 LA).size (by rw [ns_size, hlA]; rfl)
        have hbf : Below w.heap.size w (w9.setCells (w.heap.size + 1) 0 (ns .i64 LA).toList) := Below.setCells H9.bel (by simp) _ _
        unfold Nb at hnA9 HT
        go_wp2_with (first | (refine wpList_load_row rfl 129 (.tmp 6) rfl g6 rfl 129 _ (0, 0) _ hnA9 Tryz.underlying129 rfl hszA ?_) | (refine wpList_store_mid rfl 129 (.tmp 2) (.tmp 36) rfl (w.heap.size + 1) 0 _ rfl rfl hth hszA hoA ?_))
        refine bodyPost_ret (results_cell_row rfl _ _ (w.heap.size + 1) 129 _ (0, 0) _ rfl HT Tryz.underlying129 rfl hszA) rfl ?_
        rw [HEND.out, HLA.out.1]
        exact ⟨rfl, hbf⟩
    · have hge : 1361129467683753853853498429727072845824 ≤ gk := by omega
      rw [decide_eq_false hq] at hze
      have hless := fd_less gk hge
      have HFL : Hid (fd gk < gk ∧ fd gk % Pp = v0 % Pp ∧ fd gk ≤ v0) := ⟨hless, (fd_mod gk).trans hmod, by omega⟩
      have hfd : gk % 1361129467683753853853498429727072845824 + 5 * (gk / 1361129467683753853853498429727072845824) = fd gk := rfl
      have hfi := HFI.out _ hql
      have had := HAD.out (gk % 1361129467683753853853498429727072845824) (5 * (gk / 1361129467683753853853498429727072845824)) (by omega) (by omega)
      rw [hfd] at had
      have hpt := HPA.out (fd gk) (by omega)
      have hnw := d24_length (fd gk)
      have hlA := d24_length (fd gk % 1361129467683753853853498429727072845824)
      have hlB := d24_length (fd gk / 1361129467683753853853498429727072845824)
      clear hless hfd hmod hle hql hvl HPA HZE
      clear HFI HAD
      generalize hLA : d24 (fd gk % 1361129467683753853853498429727072845824) = LA at *
      generalize hLB : d24 (fd gk / 1361129467683753853853498429727072845824) = LB at *
      have HLA : Hid (d24 (fd gk % 1361129467683753853853498429727072845824) = LA ∧ d24 (fd gk / 1361129467683753853853498429727072845824) = LB) := ⟨hLA, hLB⟩
      clear hLA hLB
      generalize d24 (fd gk) = NW at *
      generalize d24 (5 * (gk / 1361129467683753853853498429727072845824)) = F5 at *
      generalize d24 (gk / 1361129467683753853853498429727072845824) = HI at *
      generalize d24 (gk % 1361129467683753853853498429727072845824) = LO at *
      have HFI : Hid _ := hfi
      have HAD : Hid _ := had
      clear hfi had
      have hszH := ns24 HI hlH
      have hszN := ns24 NW hnw
      have hszA := ns24 LA hlA
      have hszB := ns24 LB hlB
      have hoA := ns_one .i64 LA
      have hoB := ns_one .i64 LB
      have hzL : (Tryz.prog.info? 129).map (·.size) = some (nsL .i64 LO).length := by rw [nsL_length, hlL]; exact size43
      have hzH : (Tryz.prog.info? 129).map (·.size) = some (nsL .i64 HI).length := by rw [nsL_length, hlH]; exact size43
      have hhg := HS.high
      unfold Nb at hhg
      go_wp2_with (refine wpList_load_row rfl 129 (.tmp 4) rfl h rfl 129 _ (0, 0) _ hhg Tryz.underlying129 rfl hszH ?_)
      refine hze.mono ?_
      rintro e w4 ⟨rfl, hb4⟩
      have H4 := HS.below hb4
      clear HS hb4 hhg hze
      go_upto_region 3 with fail
      refine wp_region_held_drew (S := fun W => W.rangeAt g 0 (nsL .i64 LO) ∧ W.rangeAt h 0 (nsL .i64 HI)) (by kernel_rfl) ⟨H4.drew.low.rng, H4.drew.high.rng⟩ ?_
      intro hS
      have HV := H4.drew
      clear H4
      revert HV hS
      generalize w4.drew = V
      intro hS HV
      refine wpAnyH_take (i := 0) (oi := { dst := some 16, op := .load 129 (.tmp 3), type := _, pos := _, after := _, guard := none }) (v := .agg (nsL .i64 LO).toArray) rfl (by kernel_rfl) (by kernel_rfl) (by kernel_rfl) (fun _ _ _ h => h) (yieldsIf_load_mid (by rfl) 129 (.tmp 3) rfl g 0 (by simp [Act.eval]) (nsL .i64 LO) _ (fun x hx => hx.1) Tryz.underlying129 rfl hzL) hS ?_
      (try simp only [Act.put, List.setIfInBounds_toArray, List.set_cons_zero, List.set_cons_succ])
      refine wpAnyH_take (i := 1) (oi := { dst := some 17, op := .load 129 (.tmp 4), type := _, pos := _, after := _, guard := none }) (v := .agg (nsL .i64 HI).toArray) rfl (by kernel_rfl) (by kernel_rfl) (by kernel_rfl) (fun _ _ _ h => h) (yieldsIf_load_mid (by rfl) 129 (.tmp 4) rfl h 0 (by simp [Act.eval]) (nsL .i64 HI) _ (fun x hx => hx.2) Tryz.underlying129 rfl hzH) hS ?_
      (try simp only [Act.put, List.setIfInBounds_toArray, List.set_cons_zero, List.set_cons_succ])
      refine wpAnyH_ready (rs := [2]) (by kernel_rfl) (by simp) ?_
      refine AllReadyH.cons (o := { dst := some 18, op := .call { callee := .value (.func 112), args := #[.tmp 17], argTypes := #[129] }, type := _, pos := _, after := _, guard := none }) rfl (fun K hK => ?_) AllReadyH.nil
      go_simp
      refine (HFI.out V).mono ?_
      rintro e W2 ⟨rfl, hbc⟩
      have HV2 := HV.below hbc
      have hS2 : W2.rangeAt g 0 (nsL .i64 LO) ∧ W2.rangeAt h 0 (nsL .i64 HI) := ⟨HV2.low.rng, HV2.high.rng⟩
      refine hK.out _ _ hS2 (fun _ => ?_)
      clear hK K
      (try simp only [Act.put, List.setIfInBounds_toArray, List.set_cons_zero, List.set_cons_succ])
      revert HV2 hS2
      clear HV hbc hS
      generalize W2 = V
      intro HV hS
      refine wpAnyH_ready (rs := [3]) (by kernel_rfl) (by simp) ?_
      refine AllReadyH.cons (o := { dst := some 19, op := .call { callee := .value (.func 97), args := #[.tmp 16, .tmp 18], argTypes := #[129, 129] }, type := _, pos := _, after := _, guard := none }) rfl (fun K hK => ?_) AllReadyH.nil
      go_simp
      refine (HAD.out V).mono ?_
      rintro e W2 ⟨rfl, hbc⟩
      have HV2 := HV.below hbc
      have hS2 : W2.rangeAt g 0 (nsL .i64 LO) ∧ W2.rangeAt h 0 (nsL .i64 HI) := ⟨HV2.low.rng, HV2.high.rng⟩
      refine hK.out _ _ hS2 (fun _ => ?_)
      clear hK K
      (try simp only [Act.put, List.setIfInBounds_toArray, List.set_cons_zero, List.set_cons_succ])
      revert HV2 hS2
      clear HV hbc hS
      generalize W2 = V
      intro HV hS
      refine wpAnyH_ready (rs := [4]) (by kernel_rfl) (by simp) ?_
      refine AllReadyH.cons (o := { dst := none, op := .store 129 (.tmp 1) (.tmp 19), type := _, pos := _, after := _, guard := none }) rfl (fun K hK => ?_) AllReadyH.nil
      refine step_store_mid rfl 129 (.tmp 1) (.tmp 19) rfl w.heap.size 0 (ns .i64 NW) (by simp [Act.eval]) (by simp [Act.eval, ns]) (HV.there NW hnw) (ns24 NW hnw) (ns_one .i64 NW) ?_
      have H2 := HV.storeN NW hnw
      refine hK.out _ _ ⟨H2.low.rng, H2.high.rng⟩ (fun _ => ?_)
      clear hK K hS
      (try simp only [Act.put])
      refine wpAnyH_done (by kernel_rfl) ?_ _
      revert H2
      generalize V.setCells w.heap.size 0 (ns .i64 NW).toList = w5
      intro H5
      have hpt5 := hpt w5
      have hnn := H5.own
      unfold Nb at hnn
      go_wp2_with (refine wpList_load_row rfl 129 (.tmp 1) rfl w.heap.size rfl 129 _ (0, 0) _ hnn Tryz.underlying129 rfl hszN ?_)
      refine hpt5.mono ?_
      rintro e w6 ⟨rfl, hb6⟩
      have H6 := H5.below hb6
      clear H5 hb6 hnn hpt5 hpt
      obtain ⟨t1, H7⟩ := H6.storeL LA hlA hlL
      obtain ⟨t2, H8⟩ := H7.storeH LB hlB hlH
      clear H6 H7
      go_wp2_with (first | (refine wpList_store_mid rfl 129 (.tmp 3) (.tmp 23) rfl g 0 _ rfl rfl t1 hszA hoA ?_) | (refine wpList_store_mid rfl 129 (.tmp 4) (.tmp 24) rfl h 0 _ rfl rfl t2 hszB hoB ?_))
      (try simp only [put_none])
      go_roundg (fd gk)
      case measure => exact HFL.out.1
      case rel => exact ⟨NW, HFL.out.2.1, HFL.out.2.2, by rw [HLA.out.1, HLA.out.2]; exact H8⟩

end Go.Proofs.YtengclnahppmhaaGreatDoor.Pol

namespace Go.Proofs.YtengclnahppmhaaGreatDoor.Pol
open Go.RowKit Go.Lib Go.Deep

/-- what times holds, ahead of a row -/
structure Rt (w wr : World) (a b n : List Nat) : Prop where
  one : Nb .i64 129 wr w.heap.size a
  two : Nb .i64 129 wr (w.heap.size + 1) b
  res : Nb .i64 129 wr (w.heap.size + 2) (List.replicate 24 0)
  own : Nb .i64 129 wr (w.heap.size + 3) n
  bel : Below w.heap.size w wr
/-- with a row -/
structure Ro (w wr : World) (g : Nat) (a b n rw' : List Nat) : Prop where
  tt : Rt w wr a b n
  row : Nb .i64 129 wr g rw'
  gt : w.heap.size + 3 < g
theorem Ro.own {w wr : World} {g : Nat} {a b n r : List Nat} (h : Ro w wr g a b n r) : Nb .i64 129 wr (w.heap.size + 3) n := h.tt.own
theorem Ro.below {w wr W : World} {g : Nat} {a b n r : List Nat} (h : Ro w wr g a b n r) (hb : Below wr.heap.size wr W) : Ro w W g a b n r :=
  ⟨⟨h.tt.one.below hb h.tt.one.lt, h.tt.two.below hb h.tt.two.lt, h.tt.res.below hb h.tt.res.lt, h.tt.own.below hb h.tt.own.lt, h.tt.bel.trans (hb.mono h.tt.bel.size)⟩, h.row.below hb h.row.lt, h.gt⟩
theorem Ro.drew {w wr : World} {g : Nat} {a b n r : List Nat} (h : Ro w wr g a b n r) : Ro w wr.drew g a b n r := ⟨⟨h.tt.one, h.tt.two, h.tt.res, h.tt.own, h.tt.bel.drew⟩, h.row, h.gt⟩
theorem Ro.put {w wr : World} {g : Nat} {a b n r : List Nat} (h : Ro w wr g a b n r) (i x : Nat) : Ro w (wr.setCell ⟨g, i, none⟩ (.int .i64 (x : Int))).drew g a b n (r.set i x) := by
  have hg := h.gt
  exact ⟨⟨(h.tt.one.beside (by show g ≠ _; omega) _).drew, (h.tt.two.beside (by show g ≠ _; omega) _).drew, (h.tt.res.beside (by show g ≠ _; omega) _).drew, (h.tt.own.beside (by show g ≠ _; omega) _).drew, (h.tt.bel.setCell (by show w.heap.size ≤ g; omega) _).drew⟩, (h.row.put i x).drew, hg⟩
theorem Ro.storeN {w wr : World} {g : Nat} {a b n r : List Nat} (h : Ro w wr g a b n r) (l : List Nat) (hl : l.length = 24) (hn : n.length = 24) : Ro w (wr.setCells (w.heap.size + 3) 0 (ns .i64 l).toList) g a b l r :=
  ⟨⟨h.tt.one.aside (by simp) _ _, h.tt.two.aside (by simp) _ _, h.tt.res.aside (by simp) _ _, h.tt.own.store l (by rw [hl, hn]), Below.setCells h.tt.bel (by simp) _ _⟩, h.row.aside (by have := h.gt; omega) _ _, h.gt⟩
theorem Rt.row {w wr : World} {a b n : List Nat} (h : Rt w wr a b n) : Ro w (wr.alloc (.cells (ns .i64 (List.replicate 24 0)) 129)) wr.heap.size a b n (List.replicate 24 0) :=
  ⟨⟨h.one.alloc _, h.two.alloc _, h.res.alloc _, h.own.alloc _, h.bel.alloc h.bel.size _⟩, Nb.new _ _ _ _, h.own.lt⟩

/-- so many digits of a row -/
structure Rr (w wr : World) (g : Nat) (a b n : List Nat) (k m : Nat) : Prop where
  ex : ∃ r : List Nat, Ro w wr g a b n r ∧ r.length = 24 ∧ (∀ i, r.getD i 0 ≤ 4294967296) ∧ (∀ i, k + m ≤ i → r.getD i 0 = 0) ∧ vl 65536 r = 65536 ^ k * (a.getD k 0 * vl 65536 (b.take m))
theorem Rr.more {w w' : World} {g : Nat} {a b n r : List Nat} {k m : Nat} (hb : m < b.length) (hk : k + m < 24) (hl : r.length = 24) (h2 : ∀ i, r.getD i 0 ≤ 4294967296) (h3 : ∀ i, k + m ≤ i → r.getD i 0 = 0) (h4 : vl 65536 r = 65536 ^ k * (a.getD k 0 * vl 65536 (b.take m)))
    (hp : a.getD k 0 * b.getD m 0 ≤ 4294967296) (h1 : Ro w w' g a b n (r.set (k + m) (a.getD k 0 * b.getD m 0))) : Rr w w' g a b n k (m + 1) := by
  refine ⟨_, h1, by rw [List.length_set, hl], ?_, ?_, ?_⟩
  · intro i
    rw [List.getD_eq_getElem?_getD, List.getElem?_set]
    have := h2 i
    rw [List.getD_eq_getElem?_getD] at this
    split
    · split
      · exact hp
      · exact Nat.zero_le _
    · exact this
  · intro i hi
    rw [List.getD_eq_getElem?_getD, List.getElem?_set, if_neg (by omega), ← List.getD_eq_getElem?_getD]
    exact h3 i (by omega)
  · have e := vl_set 65536 r (k + m) (a.getD k 0 * b.getD m 0) (by omega)
    rw [h3 (k + m) (Nat.le_refl _), Nat.zero_add] at e
    rw [e, h4, vl_take_succ _ _ _ hb, Nat.mul_add, Nat.mul_add, Nat.pow_add]
    congr 1
    rw [Nat.mul_assoc]
    congr 1
    rw [← Nat.mul_assoc, ← Nat.mul_assoc, Nat.mul_comm (65536 ^ m)]

set_option maxRecDepth 20000 in
set_option maxHeartbeats 2000000 in
theorem rtimes_any (A B : Nat) (hA : A < 65536 ^ 9) (hB : B < 65536 ^ 9) (w : World) :
    Calls Tryz.prog 96 #[.agg (ns .i64 (d24 A)), .agg (ns .i64 (d24 B))] w fun e w' => e = .returned (.agg (ns .i64 (d24 (A * B)))) ∧ Below w.heap.size w w' := by
  have HA : Hid (∀ i, (d24 A).getD i 0 < 65536) := d24_at A
  have HB : Hid (∀ i, (d24 B).getD i 0 < 65536) := d24_at B
  have hla := d24_length A
  have hlb := d24_length B
  have ta : vl 65536 ((d24 A).take 9) = A := by
    rw [show (d24 A).take 9 = dg 65536 9 A from dg_take _ _ _ _ (by omega)]
    exact vl_dg_lt _ _ _ hA
  have tb : vl 65536 ((d24 B).take 9) = B := by
    rw [show (d24 B).take 9 = dg 65536 9 B from dg_take _ _ _ _ (by omega)]
    exact vl_dg_lt _ _ _ hB
  have HV : Hid (∀ k, k ≤ 9 → vl 65536 ((d24 A).take k) * B < 65536 ^ 18) := fun k hk => by
    have h1 : vl 65536 ((d24 A).take k) < 65536 ^ k := by
      have := vl_lt 65536 ((d24 A).take k) (fun x hx => dg_lt _ _ _ (by omega) x (List.mem_of_mem_take hx))
      rwa [List.length_take, hla, Nat.min_eq_left (by omega)] at this
    have h2 : (65536 : Nat) ^ k ≤ 65536 ^ 9 := Nat.pow_le_pow_right (by omega) hk
    refine Nat.lt_of_le_of_lt (Nat.mul_le_mul_right B (show vl 65536 ((d24 A).take k) ≤ 65536 ^ 9 by omega)) ?_
    rw [show (65536 : Nat) ^ 18 = 65536 ^ 9 * 65536 ^ 9 by rw [← Nat.pow_add]]
    exact Nat.mul_lt_mul_of_pos_left hB (Nat.pow_pos (by omega))
  have hp : (65536 : Nat) ^ 18 ≤ 65536 ^ 24 := Nat.pow_le_pow_right (by omega) (by omega)
  have HAD : Hid (∀ u v, u < 65536 ^ 18 → v < 65536 ^ 24 → ∀ W, Calls Tryz.prog 97 #[.agg (ns .i64 (d24 u)), .agg (ns .i64 (d24 v))] W fun e w' => e = .returned (.agg (ns .i64 (d24 (u + v)))) ∧ Below W.heap.size W w') := fun u v hu hv W => by
    have h := add_any (d24 u) (d24 v) (d24_length u) (d24_length v) (d24_le u) (d24_le v) W
    rw [vl_d24 u (by omega), vl_d24 v hv] at h
    exact h
  have HAB : Hid (A * B = vl 65536 ((d24 A).take 9) * B) := by show _ = _; rw [ta]
  have HTB : Hid (vl 65536 ((d24 B).take 9) = B) := tb
  have HS0 : Hid (Rt w ((((w.alloc (.cells (ns .i64 (d24 A)) 129)).alloc (.cells (ns .i64 (d24 B)) 129)).alloc (.cells (ns .i64 (List.replicate 24 0)) 129)).alloc (.cells (ns .i64 (List.replicate 24 0)) 129)) (d24 A) (d24 B) (d24 (vl 65536 ((d24 A).take 0) * B))) := by
    refine ⟨(((Nb.new _ _ _ _).alloc _).alloc _).alloc _, ((Nb.newN _ _ _ _ _ (by simp)).alloc _).alloc _, (Nb.newN _ _ _ _ _ (by simp)).alloc _, ?_, ((((Below.refl _ _).alloc (Nat.le_refl _) _).alloc (by simp) _).alloc (by simp; omega) _).alloc (by simp; omega) _⟩
    rw [show vl 65536 ((d24 A).take 0) * B = 0 by simp [vl], d24_zero]
    exact Nb.newN _ _ _ _ _ (by simp)
  rw [zeros24] at HS0
  simp only [Nat.reducePow] at HV HAD
  clear ta tb hA hB hp
  revert HA HB hla hlb HV HAB HTB HS0
  generalize d24 A = a
  generalize d24 B = b
  intro HA HB hla hlb HV HAB HTB HS0
  go_enter Tryz.func96, Tryz.ntmps96
  go_wp2
  go_loopg [6] 9 (fun gk i wr => ∃ k : Nat, k + gk = 9 ∧ i = .int .i64 k ∧ Rt w wr a b (d24 (vl 65536 (a.take k) * B)))
  case atStart => exact ⟨0, by omega, rfl, HS0.out⟩
  case round =>
    clear HS0
    obtain ⟨k, hkk, rfl, HS⟩ := hrel
    have HK : Hid (k + gk = 9) := hkk
    have hk' : k ≤ 9 := by omega
    clear hkk
    have hvk := HV.out k hk'
    have hn1 := d24_length (vl 65536 (a.take k) * B)
    by_cases hlt : k < 9
    · have hltI : (k : Int) < 9 := by omega
      have hvs := vl_take_succ 65536 a k (by omega)
      have HN2 : Hid (vl 65536 (a.take (k + 1)) * B = vl 65536 (a.take k) * B + 65536 ^ k * (a.getD k 0 * B)) := by
        show _ = _
        rw [hvs, Nat.add_mul, Nat.mul_assoc]
      have hv2 := HV.out (k + 1) (by omega)
      have hadd : ∀ W, Calls Tryz.prog 97 #[.agg (ns .i64 (d24 (vl 65536 (a.take k) * B))), .agg (ns .i64 (d24 (65536 ^ k * (a.getD k 0 * B))))] W fun e w' => e = .returned (.agg (ns .i64 (d24 (vl 65536 (a.take (k + 1)) * B)))) ∧ Below W.heap.size W w' := fun W => by
        rw [HN2.out]
        exact HAD.out _ _ hvk (by rw [HN2.out] at hv2; omega) W
      have hn2 := d24_length (vl 65536 (a.take (k + 1)) * B)
      clear hvs hvk hv2 HN2
      generalize d24 (vl 65536 (a.take k) * B) = N1 at *
      generalize hN2 : d24 (vl 65536 (a.take (k + 1)) * B) = N2 at *
      have HN2 : Hid (d24 (vl 65536 (a.take (k + 1)) * B) = N2) := hN2
      clear hN2
      have HR0 : Hid (Rr w (wr.alloc (.cells (ns .i64 (List.replicate 24 0)) 129)) wr.heap.size a b N1 k 0) :=
        ⟨_, HS.row, rfl, fun i => by rw [List.getD_eq_getElem?_getD, List.getElem?_replicate]; split <;> exact Nat.zero_le _, fun i _ => by rw [List.getD_eq_getElem?_getD, List.getElem?_replicate]; split <;> rfl, by rw [vl_replicate]; simp [vl]⟩
      rw [zeros24] at HR0
      clear HS
      go_wp2
      refine with_world (R := fun W => Code.wp _ _ _ _ W) (Q := fun W => Rr w W wr.heap.size a b N1 k 0) _ HR0.out ?_
      clear HR0
      generalize wr.heap.size = g
      intro w4 HR0
      go_loopg [8] 9 (fun gj j wx => ∃ m : Nat, m + gj = 9 ∧ j = .int .i64 m ∧ Rr w wx g a b N1 k m)
      case atStart => exact ⟨0, by omega, rfl, HR0⟩
      case round =>
        clear HR0
        obtain ⟨m, hmm, rfl, HS⟩ := hrel
        have HM : Hid (m + gk = 9) := hmm
        have hm' : m ≤ 9 := by omega
        clear hmm
        obtain ⟨r, h1, h2, h3, h4, h5⟩ := HS.ex
        by_cases hml : m < 9
        · have hmlI : (m : Int) < 9 := by omega
          have hix1 : (k : Int) < 24 := by omega
          have hix2 : (m : Int) < 24 := by omega
          have hix : (k : Int) + (m : Int) < 24 := by omega
          have hx := HA.out k
          have hy := HB.out m
          have c0 := h1.tt.one.cell k (by omega)
          have c1 := h1.tt.two.cell m (by omega)
          have c2 := h1.row.cell (k + m) (by omega)
          have f2 := h1.row.frozen (k + m)
          have hp : a.getD k 0 * b.getD m 0 ≤ 4294967296 := by
            have := Nat.mul_le_mul (show a.getD k 0 ≤ 65536 by omega) (show b.getD m 0 ≤ 65536 by omega)
            simpa using this
          have HR : Hid (Rr w (wr.setCell ⟨g, k + m, none⟩ (.int .i64 ((a.getD k 0 * b.getD m 0 : Nat) : Int))).drew g a b N1 k (m + 1)) := Rr.more (by omega) (by omega) h2 h3 h4 h5 hp (h1.put _ _)
          clear h1 h2 h3 h4 h5 HS
          revert hx hy c0 c1 c2 hp HR
          generalize r.getD (k + m) 0 = s
          generalize a.getD k 0 = x
          generalize b.getD m 0 = y
          intro hx hy c0 c1 c2 hp HR
          have hw1 : IntKind.i64.wrap ((x : Int) * (y : Int)) = ((x * y : Nat) : Int) := by rw [IntKind.wrap_i64, ← Int.natCast_mul]; omega
          have hw2 : wrap64 ((x : Int) * (y : Int)) = ((x * y : Nat) : Int) := by rw [← Int.natCast_mul]; unfold wrap64; omega
          revert hw1 hw2 HR hp
          generalize x * y = p
          intro hp HR hw1 hw2
          go_wp2
          go_region
          refine with_world (R := fun W => Exit.inBlock _ _ _ _ W) (Q := fun W => Rr w W g a b N1 k (m + 1)) _ HR.out ?_
          clear HR c0 c1 c2 f2 hw1 hw2
          intro w9 HP
          go_wp2
          go_roundg (gk - 1)
          case measure => have := HM.out; omega
          case rel => exact ⟨m + 1, by have := HM.out; omega, by go_num, HP⟩
        · obtain rfl : m = 9 := by omega
          rw [HTB.out] at h5
          have hca : ∀ W, Calls Tryz.prog 113 #[.agg (ns .i64 r)] W fun e w' => e = .returned (.agg (ns .i64 (d24 (65536 ^ k * (a.getD k 0 * B))))) ∧ Below W.heap.size W w' := fun W => by
            have h := carried_any r h2 (fun i => by have := h3 i; omega) W
            rw [h5] at h
            exact h
          have HCA : Hid _ := hca
          have HAD : Hid _ := hadd
          clear hca hadd h3 h4 h5 HS
          generalize d24 (65536 ^ k * (a.getD k 0 * B)) = RC at *
          have hzR : (Tryz.prog.info? 129).map (·.size) = some (nsL .i64 r).length := by rw [nsL_length, h2]; exact size43
          have hzN : (Tryz.prog.info? 129).map (·.size) = some (nsL .i64 N1).length := by rw [nsL_length, hn1]; exact size43
          generalize r = RW at *
          clear HM HA HB HV HAB HTB
          go_upto_region 10 with fail
          refine wp_region_held_drew (S := fun W => W.rangeAt g 0 (nsL .i64 RW)) (by kernel_rfl) h1.drew.row.rng ?_
          intro hS
          have HV := h1.drew
          clear h1
          revert HV hS
          generalize wr.drew = V
          intro hS HV
          refine wpAnyH_take (i := 1) (oi := { dst := some 29, op := .load 129 (.tmp 7), type := _, pos := _, after := _, guard := none }) (v := .agg (nsL .i64 RW).toArray) rfl (by kernel_rfl) (by kernel_rfl) (by kernel_rfl) (fun _ _ _ h => h) (yieldsIf_load_mid (by rfl) 129 (.tmp 7) rfl g 0 (by simp [Act.eval]) (nsL .i64 RW) _ (fun x hx => hx) Tryz.underlying129 rfl hzR) hS ?_
          (try simp only [Act.put, List.setIfInBounds_toArray, List.set_cons_zero, List.set_cons_succ])
          refine wpAnyH_ready (rs := [0, 2]) (by kernel_rfl) (by simp) ?_
          refine AllReadyH.cons (o := { dst := some 28, op := .load 129 (.tmp 5), type := _, pos := _, after := _, guard := none }) rfl (fun K hK => ?_) (AllReadyH.cons (o := { dst := some 30, op := .call { callee := .value (.func 113), args := #[.tmp 29], argTypes := #[129] }, type := _, pos := _, after := _, guard := none }) rfl (fun K hK => ?_) AllReadyH.nil)
          · refine step_load_mid rfl 129 (.tmp 5) rfl (w.heap.size + 3) 0 (by simp [Act.eval]) (nsL .i64 N1) _ HV.own.rng Tryz.underlying129 rfl hzN ?_
            refine hK.out _ _ hS (fun _ => ?_)
            clear hK K
            (try simp only [Act.put, List.setIfInBounds_toArray, List.set_cons_zero, List.set_cons_succ])
            refine wpAnyH_ready (rs := [2]) (by kernel_rfl) (by simp) ?_
            refine AllReadyH.cons (o := { dst := some 30, op := .call { callee := .value (.func 113), args := #[.tmp 29], argTypes := #[129] }, type := _, pos := _, after := _, guard := none }) rfl (fun K hK => ?_) AllReadyH.nil
            go_simp
            refine (HCA.out V).mono ?_
            rintro e W2 ⟨rfl, hbc⟩
            have HV2 := HV.below hbc
            have hS2 := HV2.row.rng
            refine hK.out _ _ hS2 (fun _ => ?_)
            clear hK K
            (try simp only [Act.put, List.setIfInBounds_toArray, List.set_cons_zero, List.set_cons_succ])
            revert HV2 hS2
            clear HV hbc hS
            generalize W2 = V
            intro HV hS
            refine wpAnyH_ready (rs := [3]) (by kernel_rfl) (by simp) ?_
            refine AllReadyH.cons (o := { dst := some 31, op := .call { callee := .value (.func 97), args := #[.tmp 28, .tmp 30], argTypes := #[129, 129] }, type := _, pos := _, after := _, guard := none }) rfl (fun K hK => ?_) AllReadyH.nil
            go_simp
            refine (HAD.out V).mono ?_
            rintro e W2 ⟨rfl, hbc⟩
            have HV2 := HV.below hbc
            have hS2 := HV2.row.rng
            refine hK.out _ _ hS2 (fun _ => ?_)
            clear hK K
            (try simp only [Act.put, List.setIfInBounds_toArray, List.set_cons_zero, List.set_cons_succ])
            revert HV2 hS2
            clear HV hbc hS
            generalize W2 = V
            intro HV hS
            refine wpAnyH_ready (rs := [4]) (by kernel_rfl) (by simp) ?_
            refine AllReadyH.cons (o := { dst := none, op := .store 129 (.tmp 5) (.tmp 31), type := _, pos := _, after := _, guard := none }) rfl (fun K hK => ?_) AllReadyH.nil
            refine step_store_mid rfl 129 (.tmp 5) (.tmp 31) rfl (w.heap.size + 3) 0 (ns .i64 N2) (by simp [Act.eval]) (by simp [Act.eval, ns]) (HV.own.there _ (by rw [ns_size, hn2, hn1])) (ns24 N2 hn2) (ns_one .i64 N2) ?_
            have H2 := HV.storeN N2 hn2 hn1
            refine hK.out _ _ H2.row.rng (fun _ => ?_)
            clear hK K hS
            (try simp only [Act.put])
            refine wpAnyH_done (by kernel_rfl) ?_ _
            revert H2
            generalize V.setCells (w.heap.size + 3) 0 (ns .i64 N2).toList = w5
            intro H2
            have H3 := H2.tt
            clear H2
            go_wp2
            go_roundg (9 - (k + 1))
            case measure => have := HK.out; omega
            case rel => exact ⟨k + 1, by omega, by go_num, by rw [HN2.out]; exact H3⟩
          · go_simp
            refine (HCA.out V).mono ?_
            rintro e W2 ⟨rfl, hbc⟩
            have HV2 := HV.below hbc
            have hS2 := HV2.row.rng
            refine hK.out _ _ hS2 (fun _ => ?_)
            clear hK K
            (try simp only [Act.put, List.setIfInBounds_toArray, List.set_cons_zero, List.set_cons_succ])
            revert HV2 hS2
            clear HV hbc hS
            generalize W2 = V
            intro HV hS
            refine wpAnyH_ready (rs := [0]) (by kernel_rfl) (by simp) ?_
            refine AllReadyH.cons (o := { dst := some 28, op := .load 129 (.tmp 5), type := _, pos := _, after := _, guard := none }) rfl (fun K hK => ?_) AllReadyH.nil
            refine step_load_mid rfl 129 (.tmp 5) rfl (w.heap.size + 3) 0 (by simp [Act.eval]) (nsL .i64 N1) _ HV.own.rng Tryz.underlying129 rfl hzN ?_
            refine hK.out _ _ hS (fun _ => ?_)
            clear hK K
            (try simp only [Act.put, List.setIfInBounds_toArray, List.set_cons_zero, List.set_cons_succ])
            refine wpAnyH_ready (rs := [3]) (by kernel_rfl) (by simp) ?_
            refine AllReadyH.cons (o := { dst := some 31, op := .call { callee := .value (.func 97), args := #[.tmp 28, .tmp 30], argTypes := #[129, 129] }, type := _, pos := _, after := _, guard := none }) rfl (fun K hK => ?_) AllReadyH.nil
            go_simp
            refine (HAD.out V).mono ?_
            rintro e W2 ⟨rfl, hbc⟩
            have HV2 := HV.below hbc
            have hS2 := HV2.row.rng
            refine hK.out _ _ hS2 (fun _ => ?_)
            clear hK K
            (try simp only [Act.put, List.setIfInBounds_toArray, List.set_cons_zero, List.set_cons_succ])
            revert HV2 hS2
            clear HV hbc hS
            generalize W2 = V
            intro HV hS
            refine wpAnyH_ready (rs := [4]) (by kernel_rfl) (by simp) ?_
            refine AllReadyH.cons (o := { dst := none, op := .store 129 (.tmp 5) (.tmp 31), type := _, pos := _, after := _, guard := none }) rfl (fun K hK => ?_) AllReadyH.nil
            refine step_store_mid rfl 129 (.tmp 5) (.tmp 31) rfl (w.heap.size + 3) 0 (ns .i64 N2) (by simp [Act.eval]) (by simp [Act.eval, ns]) (HV.own.there _ (by rw [ns_size, hn2, hn1])) (ns24 N2 hn2) (ns_one .i64 N2) ?_
            have H2 := HV.storeN N2 hn2 hn1
            refine hK.out _ _ H2.row.rng (fun _ => ?_)
            clear hK K hS
            (try simp only [Act.put])
            refine wpAnyH_done (by kernel_rfl) ?_ _
            revert H2
            generalize V.setCells (w.heap.size + 3) 0 (ns .i64 N2).toList = w5
            intro H2
            have H3 := H2.tt
            clear H2
            go_wp2
            go_roundg (9 - (k + 1))
            case measure => have := HK.out; omega
            case rel => exact ⟨k + 1, by omega, by go_num, by rw [HN2.out]; exact H3⟩
    · obtain rfl : k = 9 := by omega
      rw [← HAB.out] at HS hn1
      generalize hN : d24 (A * B) = N1 at *
      have HN : Hid (d24 (A * B) = N1) := hN
      clear hN
      have hres := HS.own
      have HT := HS.res.store N1 (by rw [hn1]; rfl)
      have hth := HS.res.there (ns .i64 N1).size (by rw [ns_size, hn1]; rfl)
      have hbel' : Below w.heap.size w (wr.setCells (w.heap.size + 2) 0 (ns .i64 N1).toList) := Below.setCells HS.bel (by simp) _ _
      have hsz := ns24 N1 hn1
      have hone := ns_one .i64 N1
      unfold Nb at HT hres
      clear HS HK HA HB HV HTB HAB
      go_wp2_with (first | (refine wpList_load_row rfl 129 (.tmp 5) rfl (w.heap.size + 3) rfl 129 _ (0, 0) _ hres Tryz.underlying129 rfl hsz ?_) | (refine wpList_store_mid rfl 129 (.tmp 4) (.tmp 32) rfl (w.heap.size + 2) 0 _ rfl rfl hth hsz hone ?_))
      refine bodyPost_ret (results_cell_row rfl _ _ (w.heap.size + 2) 129 _ (0, 0) _ rfl HT Tryz.underlying129 rfl hsz) rfl ?_
      rw [HN.out]
      exact ⟨rfl, hbel'⟩

end Go.Proofs.YtengclnahppmhaaGreatDoor.Pol

namespace Go.Proofs.YtengclnahppmhaaGreatDoor.Pol
open Go.RowKit Go.Lib Go.Deep

theorem rindex_at {P : Program} (w : World) (t : TypeId) (s : ByteArray) (k : IntKind) (z : Int) (i : Nat) (c : UInt8) (h : P.underlying t = some .string) (hz : z = (i : Int)) (hc : s.data.toList[i]? = some c) :
    (Instr.index t (.string s) (.int k z)).run P w = .ok (.int .u8 (c.toNat : Int)) w := by
  subst hz
  exact index_at w t s k i c h hc

/-- what number holds -/
structure Rn (w wr : World) (n : List Nat) : Prop where
  res : Nb .i64 129 wr w.heap.size (List.replicate 24 0)
  own : Nb .i64 129 wr (w.heap.size + 1) n
  bel : Below w.heap.size w wr
theorem Rn.put {w wr : World} {n : List Nat} (h : Rn w wr n) (i x : Nat) : Rn w (wr.setCell ⟨w.heap.size + 1, i, none⟩ (.int .i64 (x : Int))) (n.set i x) := ⟨h.res.beside (by simp) _, h.own.put i x, h.bel.setCell (by simp) _⟩
theorem Rn.drew {w wr : World} {n : List Nat} (h : Rn w wr n) : Rn w wr.drew n := ⟨h.res, h.own, h.bel.drew⟩
/-- one byte more -/
theorem Rn.step {w wr : World} {U k y : Nat} (h : Rn w wr (d24 U)) (hU : U < 256 ^ k) (hk : k < 48) (hy : y < 256) :
    ∃ x : Nat, x < 256 ∧ wr.cell? ⟨w.heap.size + 1, k / 2, none⟩ = some (.int .i64 (x : Int)) ∧ wr.frozen? ⟨w.heap.size + 1, k / 2, none⟩ = false ∧ Rn w (wr.setCell ⟨w.heap.size + 1, k / 2, none⟩ (.int .i64 ((x + (if k % 2 = 0 then y else 256 * y) : Nat) : Int))) (d24 (U + 256 ^ k * y)) := by
  obtain ⟨h1, h2⟩ := num_digit U k y hU hk hy
  refine ⟨U / 65536 ^ (k / 2) % 65536, h2, ?_, h.own.frozen _, ?_⟩
  · rw [h.own.cell (k / 2) (by rw [d24_length]; omega), show (d24 U).getD (k / 2) 0 = U / 65536 ^ (k / 2) % 65536 from dg_getD _ _ _ _ (by omega)]
  · rw [← h1]
    exact h.put _ _

set_option maxRecDepth 20000 in
set_option maxHeartbeats 1000000 in
theorem rnumber_any (s : ByteArray) (beh : Nat) (hs : s.size ≤ 32) (hbe : beh < 256) (w : World) :
    Calls Tryz.prog 93 #[.string s, .int .i64 (beh : Int)] w fun e w' => e = .returned (.agg (ns .i64 (d24 (numL s.data.toList + 256 ^ s.size * beh)))) ∧ Below w.heap.size w w' := by
  have hsl : s.data.toList.length = s.size := (size_eq s).symm
  have HS0 : Hid (Rn w ((w.alloc (.cells (ns .i64 (List.replicate 24 0)) 129)).alloc (.cells (ns .i64 (List.replicate 24 0)) 129)) (d24 (numL (s.data.toList.take 0)))) := by
    rw [show numL (s.data.toList.take 0) = 0 from rfl, d24_zero]
    exact ⟨(Nb.new _ _ _ _).alloc _, Nb.newN _ _ _ _ _ (by simp), ((Below.refl _ _).alloc (Nat.le_refl _) _).alloc (by simp) _⟩
  rw [zeros24] at HS0
  go_enter Tryz.func93, Tryz.ntmps93
  go_wp2
  go_loopg [6] s.size (fun gk i wr => ∃ k : Nat, k + gk = s.size ∧ i = .int .i64 k ∧ Rn w wr (d24 (numL (s.data.toList.take k))))
  case atStart => exact ⟨0, by omega, rfl, HS0.out⟩
  case round =>
    clear HS0
    obtain ⟨k, hkk, rfl, HS⟩ := hrel
    have HK : Hid (k + gk = s.size) := hkk
    have hk' : k ≤ s.size := by omega
    clear hkk
    have hU := numL_lt (s.data.toList.take k)
    rw [List.length_take, hsl, Nat.min_eq_left hk'] at hU
    by_cases hlt : k < s.size
    · have hltI : (k : Int) < (s.size : Int) := by omega
      have hk48 : (k : Int) / 2 < 24 := by omega
      obtain ⟨c, hc⟩ : ∃ c, s.data.toList[k]? = some c := ⟨_, List.getElem?_eq_getElem (by omega)⟩
      have hc8 := c.toNat_lt
      have hN : numL (s.data.toList.take (k + 1)) = numL (s.data.toList.take k) + 256 ^ k * c.toNat := by
        have h := numL_take_succ s.data.toList 0 k (by omega)
        rw [List.drop_zero, Nat.zero_add, List.getD_eq_getElem?_getD, hc] at h
        exact h
      obtain ⟨x, hx, c0, f0, HR0⟩ := HS.step (y := c.toNat) hU (by omega) hc8
      rw [← hN] at HR0
      have hix := fun W => rindex_at (P := Tryz.prog) W 9 s .i64 (k : Int) k c Tryz.underlying9 rfl hc
      clear HS hU hN hc
      revert hix hc8 HR0
      generalize c.toNat = y
      intro hc8 HR0 hix
      by_cases hev : k % 2 = 0
      · have hevI : (k : Int) % 2 = 0 := by omega
        rw [if_pos hev, Int.natCast_add] at HR0
        have HR : Hid _ := HR0.drew
        clear HR0
        go_wp2
        go_region
        refine with_world (R := fun W => Exit.inBlock _ _ _ _ W) (Q := fun W => Rn w W (d24 (numL (s.data.toList.take (k + 1))))) _ HR.out ?_
        clear HR c0 f0 hix
        intro w9 HP
        go_wp2
        go_roundg (gk - 1)
        case measure => have := HK.out; omega
        case rel => exact ⟨k + 1, by have := HK.out; omega, by go_num, HP⟩
      · have hevI : ¬ (k : Int) % 2 = 0 := by omega
        rw [if_neg hev, Int.natCast_add, Int.natCast_mul] at HR0
        have HR : Hid _ := HR0.drew
        clear HR0
        go_wp2
        go_region
        refine with_world (R := fun W => Exit.inBlock _ _ _ _ W) (Q := fun W => Rn w W (d24 (numL (s.data.toList.take (k + 1))))) _ HR.out ?_
        clear HR c0 f0 hix
        intro w9 HP
        go_wp2
        go_roundg (gk - 1)
        case measure => have := HK.out; omega
        case rel => exact ⟨k + 1, by have := HK.out; omega, by go_num, HP⟩
    · obtain rfl : k = s.size := by omega
      rw [List.take_of_length_le (by omega)] at HS hU
      obtain ⟨x, hx, c0, f0, HR0⟩ := HS.step (y := beh) hU (by omega) hbe
      have hk48 : (s.size : Int) / 2 < 24 := by omega
      have hln := d24_length (numL s.data.toList + 256 ^ s.size * beh)
      generalize hNN : d24 (numL s.data.toList + 256 ^ s.size * beh) = NN at *
      have HNN : Hid (d24 (numL s.data.toList + 256 ^ s.size * beh) = NN) := hNN
      clear hNN HS hU
      have hsz := ns24 NN hln
      have hone := ns_one .i64 NN
      have HFIN : Hid (∀ W, Rn w W NN → W.heap[w.heap.size + 1]? = some (.cells (ns .i64 NN) 129 (0, 0)) ∧ W.there w.heap.size 0 (ns .i64 NN).size ∧ (W.setCells w.heap.size 0 (ns .i64 NN).toList).heap[w.heap.size]? = some (.cells (ns .i64 NN) 129 (0, 0)) ∧ Below w.heap.size w (W.setCells w.heap.size 0 (ns .i64 NN).toList)) := fun W h =>
        ⟨h.own, h.res.there _ (by rw [ns_size, hln]; rfl), h.res.store NN (by rw [hln]; rfl), Below.setCells h.bel (Nat.le_refl _) _ _⟩
      by_cases hev : s.size % 2 = 0
      · have hevI : (s.size : Int) % 2 = 0 := by omega
        rw [if_pos hev, Int.natCast_add] at HR0
        go_upto_region 12 with fail
        refine with_world (R := fun W => Code.wp _ _ _ _ W) (Q := fun W => Rn w W NN) _ HR0 ?_
        clear HR0 c0 f0
        intro w2 H2
        obtain ⟨k1, k2, k3, k4⟩ := HFIN.out w2 H2
        clear H2
        go_wp2_with (first | (refine wpList_load_row rfl 129 (.tmp 5) rfl (w.heap.size + 1) rfl 129 _ (0, 0) _ k1 Tryz.underlying129 rfl hsz ?_) | (refine wpList_store_mid rfl 129 (.tmp 4) (.tmp 66) rfl w.heap.size 0 _ rfl rfl k2 hsz hone ?_))
        refine bodyPost_ret (results_cell_row rfl _ _ w.heap.size 129 _ (0, 0) _ rfl k3 Tryz.underlying129 rfl hsz) rfl ?_
        rw [HNN.out]
        exact ⟨rfl, k4⟩
      · have hevI : ¬ (s.size : Int) % 2 = 0 := by omega
        rw [if_neg hev, Int.natCast_add, Int.natCast_mul] at HR0
        go_upto_region 12 with fail
        refine with_world (R := fun W => Code.wp _ _ _ _ W) (Q := fun W => Rn w W NN) _ HR0 ?_
        clear HR0 c0 f0
        intro w2 H2
        obtain ⟨k1, k2, k3, k4⟩ := HFIN.out w2 H2
        clear H2
        go_wp2_with (first | (refine wpList_load_row rfl 129 (.tmp 5) rfl (w.heap.size + 1) rfl 129 _ (0, 0) _ k1 Tryz.underlying129 rfl hsz ?_) | (refine wpList_store_mid rfl 129 (.tmp 4) (.tmp 66) rfl w.heap.size 0 _ rfl rfl k2 hsz hone ?_))
        refine bodyPost_ret (results_cell_row rfl _ _ w.heap.size 129 _ (0, 0) _ rfl k3 Tryz.underlying129 rfl hsz) rfl ?_
        rw [HNN.out]
        exact ⟨rfl, k4⟩

end Go.Proofs.YtengclnahppmhaaGreatDoor.Pol

namespace Go.Proofs.YtengclnahppmhaaGreatDoor.Pol
open Go.RowKit Go.Lib Go.Deep

theorem clamp_at (key : List UInt8) (k : Nat) (hk : k < 16) (c : UInt8) (hc : key[k]? = some c) : (clampL key).take (k + 1) = (clampL key).take k ++ [c &&& keptL.getD k 0] := by
  rw [List.take_add_one]
  congr 1
  have h2 : k < keptL.length := hk
  simp [clampL, List.getElem?_zipWith, hk, hc, List.getD_eq_getElem?_getD, h2]
theorem byteCells_one (l : List UInt8) : ∀ v ∈ Lib.byteCells l, v.oneCell' = true := by
  intro v hv
  obtain ⟨n, _, rfl⟩ := List.mem_map.1 hv
  rfl
theorem kept_three (k : Nat) (hk : k < 16) (h : k % 4 = 3) : keptL.getD k 0 = 15 := by
  have : k = 3 ∨ k = 7 ∨ k = 11 ∨ k = 15 := by omega
  rcases this with rfl | rfl | rfl | rfl <;> rfl
theorem kept_four (k : Nat) (hk : k < 16) (h : k % 4 = 0) (h0 : 0 < k) : keptL.getD k 0 = 252 := by
  have : k = 4 ∨ k = 8 ∨ k = 12 := by omega
  rcases this with rfl | rfl | rfl <;> rfl
theorem kept_else (k : Nat) (hk : k < 16) (h : k % 4 ≠ 3) (h0 : ¬ (k % 4 = 0 ∧ 0 < k)) : keptL.getD k 0 = 255 := by
  have : k = 0 ∨ k = 1 ∨ k = 2 ∨ k = 5 ∨ k = 6 ∨ k = 9 ∨ k = 10 ∨ k = 13 ∨ k = 14 := by omega
  rcases this with rfl | rfl | rfl | rfl | rfl | rfl | rfl | rfl | rfl <;> rfl

set_option maxRecDepth 20000 in
set_option maxHeartbeats 1000000 in
theorem clamped_any (key : ByteArray) (hs : key.size = 32) (w : World) :
    Calls Tryz.prog 94 #[.string key] w fun e w' => e = .returned (.string (str (clampL key.data.toList))) ∧ Below w.heap.size w w' := by
  obtain ⟨i0, hi, hz0, hz1, hz2⟩ := info_parts info5
  have hkl : key.data.toList.length = 32 := by rw [← size_eq]; exact hs
  have HCL := clampL_length key.data.toList (by omega)
  go_enter Tryz.func94, Tryz.ntmps94
  go_wp2
  go_loopg [3, 4] 16 (fun gk v i wr => ∃ k : Nat, k + gk = 16 ∧ i = .int .i64 k ∧ wr.ownsRow w.heap.size 5 1 v k (Lib.byteCells ((clampL key.data.toList).take k)) ∧ Below w.heap.size w wr)
  case atStart => exact ⟨0, by omega, rfl, World.ownsRow_nil _ _ _ _, Below.refl _ _⟩
  case round =>
    obtain ⟨k, hk, rfl, hown, hbel⟩ := hrel
    have HK : Hid (k + gk = 16) := hk
    have hk' : k ≤ 16 := by omega
    clear hk
    by_cases hlt : k < 16
    · have hltI : (k : Int) < 16 := by omega
      have hml : k + 1 ≤ maxLen := by unfold maxLen; omega
      obtain ⟨c, hc⟩ : ∃ c, key.data.toList[k]? = some c := ⟨_, List.getElem?_eq_getElem (by omega)⟩
      have hca := clamp_at key.data.toList k hlt c hc
      have hix := fun W => rindex_at (P := Tryz.prog) W 9 key .i64 (k : Int) k c Tryz.underlying9 rfl hc
      have hc8 := c.toNat_lt
      by_cases h3 : k % 4 = 3
      · have h3I : (k : Int) % 4 = 3 := by omega
        rw [kept_three k hlt h3] at hca
        have e := and15 c
        have HS : Hid (Lib.byteCells ((clampL key.data.toList).take (k + 1)) = Lib.byteCells ((clampL key.data.toList).take k) ++ [.int .u8 ((c.toNat : Int) % 16)]) := by
          show _ = _
          rw [hca, byteCells_append]
          simp [Lib.byteCells, e]
        clear hca hc e
        obtain ⟨cs, hcs⟩ : ∃ cs, Lib.byteCells ((clampL key.data.toList).take k) = cs := ⟨_, rfl⟩
        rw [hcs] at HS hown
        clear hcs
        revert HS hix hc8
        generalize c.toNat = x
        intro hix hc8 HS
        have hone : ∀ u ∈ [Value.int .u8 ((x : Int) % 16)], u.oneCell' = true := by intro u hu; simp only [List.mem_singleton] at hu; subst hu; rfl
        go_wp2_with (at_builtin; refine wpList_append_own _ rfl _ _ 96 rfl w.heap.size 5 i0 (.int .u8 0) 1 1 Tryz.underlying96 hi hz0 hz1 hz2 rfl (by decide) _ _ _ rfl (hown.alloc _) ⟨wr.heap.size, 0, none⟩ 1 1 [.int .u8 ((x : Int) % 16)] rfl rfl (by intro j u h; exact cells_new wr #[.int .u8 ((x : Int) % 16)] 5 j u (by simpa using h)) hone hml (by omega) (by have := hbel.size; simp; omega) ?_; intro v' w' hown' hgrow' _)
        have R : w'.ownsRow w.heap.size 5 1 v' (k + 1) (Lib.byteCells ((clampL key.data.toList).take (k + 1))) := by rw [HS.out]; exact hown'
        have hb' : Below w.heap.size w w' := by
          have h1 := hbel.alloc hbel.size (.cells #[.int .u8 ((x : Int) % 16)] 5)
          exact h1.trans (grown_below hgrow' h1.size (hown.alloc _))
        clear hown' hgrow' hown hix
        go_wp2
        go_roundg (gk - 1)
        case measure => have := HK.out; omega
        case rel => exact ⟨k + 1, by have := HK.out; omega, by go_num, R, hb'⟩
      · have h3I : ¬ (k : Int) % 4 = 3 := by omega
        by_cases h4 : k % 4 = 0 ∧ 0 < k
        · have h4I : (k : Int) % 4 = 0 := by omega
          have h5I : (0 : Int) < (k : Int) := by omega
          rw [kept_four k hlt h4.1 h4.2] at hca
          have e := and252 c
          have HS : Hid (Lib.byteCells ((clampL key.data.toList).take (k + 1)) = Lib.byteCells ((clampL key.data.toList).take k) ++ [.int .u8 ((c.toNat : Int) / 4 * 4)]) := by
            show _ = _
            rw [hca, byteCells_append]
            simp [Lib.byteCells, e]
          clear hca hc e
          obtain ⟨cs, hcs⟩ : ∃ cs, Lib.byteCells ((clampL key.data.toList).take k) = cs := ⟨_, rfl⟩
          rw [hcs] at HS hown
          clear hcs
          revert HS hix hc8
          generalize c.toNat = x
          intro hix hc8 HS
          have hone : ∀ u ∈ [Value.int .u8 ((x : Int) / 4 * 4)], u.oneCell' = true := by intro u hu; simp only [List.mem_singleton] at hu; subst hu; rfl
          go_wp2_with (at_builtin; refine wpList_append_own _ rfl _ _ 96 rfl w.heap.size 5 i0 (.int .u8 0) 1 1 Tryz.underlying96 hi hz0 hz1 hz2 rfl (by decide) _ _ _ rfl (hown.alloc _) ⟨wr.heap.size, 0, none⟩ 1 1 [.int .u8 ((x : Int) / 4 * 4)] rfl rfl (by intro j u h; exact cells_new wr #[.int .u8 ((x : Int) / 4 * 4)] 5 j u (by simpa using h)) hone hml (by omega) (by have := hbel.size; simp; omega) ?_; intro v' w' hown' hgrow' _)
          have R : w'.ownsRow w.heap.size 5 1 v' (k + 1) (Lib.byteCells ((clampL key.data.toList).take (k + 1))) := by rw [HS.out]; exact hown'
          have hb' : Below w.heap.size w w' := by
            have h1 := hbel.alloc hbel.size (.cells #[.int .u8 ((x : Int) / 4 * 4)] 5)
            exact h1.trans (grown_below hgrow' h1.size (hown.alloc _))
          clear hown' hgrow' hown hix
          go_wp2
          go_roundg (gk - 1)
          case measure => have := HK.out; omega
          case rel => exact ⟨k + 1, by have := HK.out; omega, by go_num, R, hb'⟩
        · rw [kept_else k hlt h3 h4, and255 c] at hca
          have HS : Hid (Lib.byteCells ((clampL key.data.toList).take (k + 1)) = Lib.byteCells ((clampL key.data.toList).take k) ++ [.int .u8 (c.toNat : Int)]) := by
            show _ = _
            rw [hca, byteCells_append]
            rfl
          clear hca hc
          obtain ⟨cs, hcs⟩ : ∃ cs, Lib.byteCells ((clampL key.data.toList).take k) = cs := ⟨_, rfl⟩
          rw [hcs] at HS hown
          clear hcs
          revert HS hix hc8
          generalize c.toNat = x
          intro hix hc8 HS
          have hone : ∀ u ∈ [Value.int .u8 (x : Int)], u.oneCell' = true := by intro u hu; simp only [List.mem_singleton] at hu; subst hu; rfl
          by_cases h4' : k % 4 = 0
          · have h4I : (k : Int) % 4 = 0 := by omega
            have h5I : ¬ (0 : Int) < (k : Int) := by omega
            go_wp2_with (at_builtin; refine wpList_append_own _ rfl _ _ 96 rfl w.heap.size 5 i0 (.int .u8 0) 1 1 Tryz.underlying96 hi hz0 hz1 hz2 rfl (by decide) _ _ _ rfl (hown.alloc _) ⟨wr.heap.size, 0, none⟩ 1 1 [.int .u8 (x : Int)] rfl rfl (by intro j u h; exact cells_new wr #[.int .u8 (x : Int)] 5 j u (by simpa using h)) hone hml (by omega) (by have := hbel.size; simp; omega) ?_; intro v' w' hown' hgrow' _)
            have R : w'.ownsRow w.heap.size 5 1 v' (k + 1) (Lib.byteCells ((clampL key.data.toList).take (k + 1))) := by rw [HS.out]; exact hown'
            have hb' : Below w.heap.size w w' := by
              have h1 := hbel.alloc hbel.size (.cells #[.int .u8 (x : Int)] 5)
              exact h1.trans (grown_below hgrow' h1.size (hown.alloc _))
            clear hown' hgrow' hown hix
            go_wp2
            go_roundg (gk - 1)
            case measure => have := HK.out; omega
            case rel => exact ⟨k + 1, by have := HK.out; omega, by go_num, R, hb'⟩
          · have h4I : ¬ (k : Int) % 4 = 0 := by omega
            go_wp2_with (at_builtin; refine wpList_append_own _ rfl _ _ 96 rfl w.heap.size 5 i0 (.int .u8 0) 1 1 Tryz.underlying96 hi hz0 hz1 hz2 rfl (by decide) _ _ _ rfl (hown.alloc _) ⟨wr.heap.size, 0, none⟩ 1 1 [.int .u8 (x : Int)] rfl rfl (by intro j u h; exact cells_new wr #[.int .u8 (x : Int)] 5 j u (by simpa using h)) hone hml (by omega) (by have := hbel.size; simp; omega) ?_; intro v' w' hown' hgrow' _)
            have R : w'.ownsRow w.heap.size 5 1 v' (k + 1) (Lib.byteCells ((clampL key.data.toList).take (k + 1))) := by rw [HS.out]; exact hown'
            have hb' : Below w.heap.size w w' := by
              have h1 := hbel.alloc hbel.size (.cells #[.int .u8 (x : Int)] 5)
              exact h1.trans (grown_below hgrow' h1.size (hown.alloc _))
            clear hown' hgrow' hown hix
            go_wp2
            go_roundg (gk - 1)
            case measure => have := HK.out; omega
            case rel => exact ⟨k + 1, by have := HK.out; omega, by go_num, R, hb'⟩
    · obtain rfl : k = 16 := by omega
      rw [List.take_of_length_le (by rw [HCL]; omega)] at hown
      have hcv := convert_own (P := Tryz.prog) wr 96 9 5 w.heap.size _ (clampL key.data.toList) Tryz.underlying96 Tryz.underlying5 Tryz.underlying9 (by rw [HCL]; exact hown)
      clear hown
      go_wp2
      go_ret
      exact ⟨rfl, hbel⟩

end Go.Proofs.YtengclnahppmhaaGreatDoor.Pol

namespace Go.Proofs.YtengclnahppmhaaGreatDoor.Pol
open Go.RowKit Go.Lib Go.Deep

/-- what Tag holds: r, the sum so far -/
structure Tg (w wr : World) (g h : Nat) (lr la : List Nat) : Prop where
  rr : Nb .i64 129 wr g lr
  acc : Nb .i64 129 wr h la
  ne : g ≠ h
  gg : w.heap.size ≤ g
  gh : w.heap.size ≤ h
  bel : Below w.heap.size w wr
theorem Tg.below {w wr W : World} {g h : Nat} {lr la : List Nat} (H : Tg w wr g h lr la) (hb : Below wr.heap.size wr W) : Tg w W g h lr la := ⟨H.rr.below hb H.rr.lt, H.acc.below hb H.acc.lt, H.ne, H.gg, H.gh, H.bel.trans (hb.mono H.bel.size)⟩
theorem Tg.drew {w wr : World} {g h : Nat} {lr la : List Nat} (H : Tg w wr g h lr la) : Tg w wr.drew g h lr la := ⟨H.rr, H.acc, H.ne, H.gg, H.gh, H.bel.drew⟩
theorem Tg.store {w wr : World} {g h : Nat} {lr la : List Nat} (H : Tg w wr g h lr la) (l : List Nat) (hl : l.length = 24) (ha : la.length = 24) : Tg w (wr.setCells h 0 (ns .i64 l).toList) g h lr l := ⟨H.rr.aside H.ne _ _, H.acc.store l (by rw [hl, ha]), H.ne, H.gg, H.gh, Below.setCells H.bel H.gh _ _⟩

theorem rnum_block (x : List UInt8) (h : x.length ≤ 16) : numL (x ++ [1]) < 1361129467683753853853498429727072845824 := by
  have h2 : numL (x ++ [1]) = numL x + 256 ^ x.length * 1 := by rw [numL_append]; rfl
  have h3 := numL_lt x
  have h4 : 256 ^ x.length ≤ 256 ^ 16 := Nat.pow_le_pow_right (by omega) h
  simp only [Nat.reducePow] at h4
  omega

theorem rtag_no (key text : ByteArray) (hk : key.size ≠ 32) (w : World) : Calls Tryz.prog 75 #[.string key, .string text] w fun e w' => e = .returned (.tuple #[.string (str []), .int .i64 40]) ∧ w = w' := by
  have hkI : ¬ (key.size : Int) = 32 := by omega
  go_enter Tryz.func75, Tryz.ntmps75
  go_wp2
  go_ret2
  exact ⟨rfl, rfl⟩

theorem bytes_digit (V m : Nat) (hm : m < 24) : Lib.byteCells (bytL (2 * (m + 1)) V) = (Lib.byteCells (bytL (2 * m) V) ++ [.int .u8 (((d24 V).getD m 0 : Int) % 256)]) ++ [.int .u8 (((d24 V).getD m 0 : Int) / 256)] := by
  have e0 : (d24 V).getD m 0 = V / 65536 ^ m % 65536 := dg_getD _ _ _ _ hm
  have e1 : (65536 : Nat) ^ m = 256 ^ (2 * m) := by rw [show (65536 : Nat) = 256 ^ 2 from rfl, ← Nat.pow_mul]
  have e2 : V / 256 ^ (2 * m + 1) = V / 256 ^ (2 * m) / 256 := by rw [Nat.pow_succ, Nat.div_div_eq_div_mul]
  unfold bytL
  rw [show 2 * (m + 1) = 2 * m + 1 + 1 by omega, dg_snoc, dg_snoc, List.map_append, List.map_append, byteCells_append, byteCells_append, e2, e0, e1]
  generalize V / 256 ^ (2 * m) = q
  congr 1
  · congr 1
    simp only [Lib.byteCells, List.map_cons, List.map_nil]
    rw [ofNat_toNat _ (Nat.mod_lt _ (by omega))]
    congr 2
    omega
  · simp only [Lib.byteCells, List.map_cons, List.map_nil]
    rw [ofNat_toNat _ (Nat.mod_lt _ (by omega))]
    congr 2
    omega

set_option maxRecDepth 20000 in
set_option maxHeartbeats 4000000 in
theorem rtag_yes (key text : ByteArray) (hk : key.size = 32) (h63 : text.size ≤ 9223372036854775000) (w : World) :
    Calls Tryz.prog 75 #[.string key, .string text] w fun e w' => e = .returned (.tuple #[.string (str (tagL key.data.toList text.data.toList)), .int .i64 0]) ∧ Below w.heap.size w w' := by
  obtain ⟨i0, hi, hz0, hz1, hz2⟩ := info_parts info5
  have hkI : (key.size : Int) = 32 := by omega
  have hkl : key.data.toList.length = 32 := by rw [← size_eq]; exact hk
  have hlen : text.data.toList.length = text.size := (size_eq text).symm
  have hcl := clamped_any key hk w
  have hcz : (str (clampL key.data.toList)).size = 16 := by rw [str_size, clampL_length _ (by omega)]
  have hn1 : ∀ W, Calls Tryz.prog 93 #[.string (str (clampL key.data.toList)), .int .i64 0] W fun e w' => e = .returned (.agg (ns .i64 (d24 (rOf key.data.toList)))) ∧ Below W.heap.size W w' := fun W => by
    have h := rnumber_any (str (clampL key.data.toList)) 0 (by omega) (by omega) W
    rw [str_data, Nat.mul_zero, Nat.add_zero] at h
    exact h
  have hs2 : ∀ W : World, (Instr.slice 9 (.string key) (some (.int .i64 16)) none none).run Tryz.prog W = .ok (.string (str (key.data.toList.drop 16))) W := fun W => by
    have h := run_slice_string_l (P := Tryz.prog) W 9 key Tryz.underlying9 .i64 16 (by omega) (by omega)
    rw [← str_of (key.extract _ _)] at h
    have e : (key.extract 16 key.size).data.toList = key.data.toList.drop 16 := by
      have h0 : (key.extract 16 key.size).data = key.data.extract 16 key.size := by simp
      rw [h0, Array.toList_extract]
      simp only [List.extract]
      rw [List.take_of_length_le]
      rw [List.length_drop, hkl, hk]
      exact Nat.le_refl _
    rw [show Int.toNat 16 = 16 from rfl, e] at h
    exact h
  have HNS : Hid (∀ W, Calls Tryz.prog 93 #[.string (str (key.data.toList.drop 16)), .int .i64 0] W fun e w' => e = .returned (.agg (ns .i64 (d24 (sOf key.data.toList)))) ∧ Below W.heap.size W w') := fun W => by
    have h := rnumber_any (str (key.data.toList.drop 16)) 0 (by rw [str_size, List.length_drop]; omega) (by omega) W
    rw [str_data, Nat.mul_zero, Nat.add_zero] at h
    exact h
  have hr := rOf_lt key.data.toList (by omega)
  have hs := sOf_lt key.data.toList hkl
  have HTG : Hid (tagL key.data.toList text.data.toList = bytL 16 (accN (rOf key.data.toList) text.data.toList ((text.size + 15) / 16) + sOf key.data.toList)) := by
    show _ = _
    rw [tagL, tagN, hlen]
  clear hcz hkl
  revert hcl hn1 hs2 HNS hr hs HTG
  generalize str (clampL key.data.toList) = yc
  generalize str (key.data.toList.drop 16) = ys
  generalize rOf key.data.toList = r
  generalize sOf key.data.toList = s
  intro hcl hn1 hs2 HNS hr hs HTG
  have HADD : Hid (∀ u v, u < 1361129467683753853853498429727072845824 → v < 1361129467683753853853498429727072845824 → ∀ W, Calls Tryz.prog 97 #[.agg (ns .i64 (d24 u)), .agg (ns .i64 (d24 v))] W fun e w' => e = .returned (.agg (ns .i64 (d24 (u + v)))) ∧ Below W.heap.size W w') := fun u v hu hv W => by
    have h := add_any (d24 u) (d24 v) (d24_length u) (d24_length v) (d24_le u) (d24_le v) W
    rw [vl_d24 u (by simp only [Nat.reducePow]; omega), vl_d24 v (by simp only [Nat.reducePow]; omega)] at h
    exact h
  have HTMS : Hid (∀ u, u < 2722258935367507707706996859454145691648 → ∀ W, Calls Tryz.prog 96 #[.agg (ns .i64 (d24 u)), .agg (ns .i64 (d24 r))] W fun e w' => e = .returned (.agg (ns .i64 (d24 (u * r)))) ∧ Below W.heap.size W w') := fun u hu W => rtimes_any u r (by simp only [Nat.reducePow]; omega) (by simp only [Nat.reducePow]; omega) W
  have HMOD : Hid (∀ u, u < 2722258935367507707706996859454145691648 → ∀ W, Calls Tryz.prog 95 #[.agg (ns .i64 (d24 (u * r)))] W fun e w' => e = .returned (.agg (ns .i64 (d24 (u * r % Pp)))) ∧ Below W.heap.size W w') := fun u hu W => modulo_any (u * r) (by
    have h1 : u * r < 2722258935367507707706996859454145691648 * 340282366920938463463374607431768211456 := Nat.mul_lt_mul'' hu hr
    refine Nat.lt_of_lt_of_le h1 ?_
    simp only [Nat.reducePow, Nat.reduceMul]
    omega) W
  have hlr := d24_length r
  have hszR := ns24 _ hlr
  have honR := ns_one .i64 (d24 r)
  have hsR : (ns .i64 (d24 r)).size = 24 := by rw [ns_size, hlr]
  have hzR : (Tryz.prog.info? 129).map (·.size) = some (nsL .i64 (d24 r)).length := by rw [nsL_length, hlr]; exact size43
  have ha0 : ns .i64 (d24 (accN r text.data.toList 0)) = ns .i64 (List.replicate 24 0) := by rw [accN, d24_zero]
  have HLR : Hid (d24 r = d24 r) := rfl
  revert hn1 hlr hszR honR hsR hzR HTMS
  generalize d24 r = LR
  intro hn1 HTMS hlr hszR honR hsR hzR
  clear HLR
  go_enter Tryz.func75, Tryz.ntmps75
  go_wp2_with fail
  refine hcl.mono ?_
  rintro e w1 ⟨rfl, hb1⟩
  clear hcl
  go_wp2_with fail
  refine (hn1 w1).mono ?_
  rintro e w2 ⟨rfl, hb2'⟩
  have hb2 := hb1.trans (hb2'.mono hb1.size)
  clear hn1 hb2' hb1
  have HT1 : Hid (∀ z : Array Value, z.size = 24 → (w2.alloc (.cells z 129)).there w2.heap.size 0 (ns .i64 LR).size ∧ Nb .i64 129 ((w2.alloc (.cells z 129)).setCells w2.heap.size 0 (ns .i64 LR).toList) w2.heap.size LR ∧ Below w.heap.size w ((w2.alloc (.cells z 129)).setCells w2.heap.size 0 (ns .i64 LR).toList)) := fun z hz => by
    have g3 := heap_setCells w2.heap.size 129 (ns .i64 LR).toList 0 z _ (heap_new w2 (.cells z 129))
    rw [setMany_all _ _ (by rw [Array.length_toList, hsR, hz]), Array.toArray_toList] at g3
    exact ⟨there_of_heap (heap_new _ _) (by rw [hsR, hz]; decide), g3, Below.setCells (hb2.alloc hb2.size _) hb2.size 0 (ns .i64 LR).toList⟩
  go_upto_region 4 with (refine wpList_store_mid rfl 129 (.tmp 6) (.tmp 17) rfl w2.heap.size 0 _ rfl rfl (HT1.out _ rfl).1 hszR honR ?_)
  (try simp only [put_none])
  refine with_world (R := fun W => Code.wp _ _ _ _ W) (Q := fun W => Nb .i64 129 W w2.heap.size LR ∧ Below w.heap.size w W) _ (HT1.out _ rfl).2 ?_
  have hgz := hb2.size
  clear HT1 hb2 hszR honR hsR
  revert hgz
  generalize w2.heap.size = g
  intro hgz
  rintro w3 ⟨hn3, hb3⟩
  have HT0 : Hid (Tg w (w3.alloc (.cells (ns .i64 (d24 (accN r text.data.toList 0))) 129)) g w3.heap.size LR (d24 (accN r text.data.toList 0))) := ⟨hn3.alloc _, Nb.new _ _ _ _, by have := hn3.lt; omega, hgz, hb3.size, hb3.alloc hb3.size _⟩
  rw [ha0, zeros24] at HT0
  clear hn3 hb3 hgz ha0
  go_wp2
  refine with_world (R := fun W => Code.wp _ _ _ _ W) (Q := fun W => Tg w W g w3.heap.size LR (d24 (accN r text.data.toList 0))) _ HT0.out ?_
  clear HT0
  generalize w3.heap.size = h
  intro w4 HT0
  go_loopg [8] ((text.size + 15) / 16) (fun gk a wr => ∃ k : Nat, k + gk = (text.size + 15) / 16 ∧ a = .int .i64 (16 * (k : Int)) ∧ Tg w wr g h LR (d24 (accN r text.data.toList k)))
  case atStart => exact ⟨0, by omega, rfl, HT0⟩
  case round =>
    clear HT0
    obtain ⟨k, hkk, rfl, HS⟩ := hrel
    have HK : Hid (k + gk = (text.size + 15) / 16) := hkk
    have hk' : k ≤ (text.size + 15) / 16 := by omega
    clear hkk
    have hacl := accN_lt r text.data.toList k
    unfold Pp at hacl
    by_cases hlt : 16 * k < text.size
    · have hltI : 16 * (k : Int) < (text.size : Int) := by omega
      obtain ⟨en, hen⟩ : ∃ en, min (16 * k + 16) text.size = en := ⟨_, rfl⟩
      have hblk : (text.data.toList.drop (16 * k)).take 16 = (text.data.toList.drop (16 * k)).take (en - 16 * k) := by
        by_cases h : 16 * k + 16 ≤ text.size
        · rw [show en - 16 * k = 16 by omega]
        · rw [List.take_of_length_le (by rw [List.length_drop, hlen]; omega), List.take_of_length_le (by rw [List.length_drop, hlen]; omega)]
      have hbll : ((text.data.toList.drop (16 * k)).take 16).length = en - 16 * k := by rw [List.length_take, List.length_drop, hlen]; omega
      have hsl : ∀ W : World, (Instr.slice 9 (.string text) (some (.int .i64 (16 * (k : Int)))) (some (.int .i64 (en : Int))) none).run Tryz.prog W = .ok (.string (str ((text.data.toList.drop (16 * k)).take 16))) W := fun W => by
        rw [run_slice_string (P := Tryz.prog) W 9 text .i64 .i64 (16 * (k : Int)) (en : Int) Tryz.underlying9 (by omega) (by omega) (by omega)]
        congr 2
        rw [← str_of (text.extract _ _)]
        congr 1
        rw [show (16 * (k : Int)).toNat = 16 * k by omega, show ((en : Int)).toNat = en by omega, hblk]
        have h0 : (text.extract (16 * k) en).data = text.data.extract (16 * k) en := by simp
        rw [h0, Array.toList_extract]
      have hnb := rnum_block ((text.data.toList.drop (16 * k)).take 16) (by omega)
      have HNU0 : ∀ W, Calls Tryz.prog 93 #[.string (str ((text.data.toList.drop (16 * k)).take 16)), .int .i64 1] W fun e w' => e = .returned (.agg (ns .i64 (d24 (numL ((text.data.toList.drop (16 * k)).take 16 ++ [1]))))) ∧ Below W.heap.size W w' := fun W => by
        have h := rnumber_any (str ((text.data.toList.drop (16 * k)).take 16)) 1 (by rw [str_size]; omega) (by omega) W
        rw [str_data, str_size] at h
        rw [numL_append, show numL [1] = 1 from rfl]
        exact h
      have had0 := HADD.out _ _ (show accN r text.data.toList k < 1361129467683753853853498429727072845824 by omega) hnb
      have htm0 := HTMS.out (accN r text.data.toList k + numL ((text.data.toList.drop (16 * k)).take 16 ++ [1])) (by omega)
      have hmo0 := HMOD.out (accN r text.data.toList k + numL ((text.data.toList.drop (16 * k)).take 16 ++ [1])) (by omega)
      rw [show (accN r text.data.toList k + numL ((text.data.toList.drop (16 * k)).take 16 ++ [1])) * r % Pp = accN r text.data.toList (k + 1) from rfl] at hmo0
      have hlA := d24_length (accN r text.data.toList k)
      have hlB := d24_length (accN r text.data.toList (k + 1))
      clear hblk hbll hnb hacl HADD HTMS HMOD HNS
      generalize hLB : d24 (accN r text.data.toList (k + 1)) = LB at *
      have HLB : Hid (d24 (accN r text.data.toList (k + 1)) = LB) := hLB
      clear hLB
      generalize d24 ((accN r text.data.toList k + numL ((text.data.toList.drop (16 * k)).take 16 ++ [1])) * r) = LT at *
      generalize d24 (accN r text.data.toList k + numL ((text.data.toList.drop (16 * k)).take 16 ++ [1])) = LS at *
      generalize d24 (numL ((text.data.toList.drop (16 * k)).take 16 ++ [1])) = LN at *
      generalize d24 (accN r text.data.toList k) = LA at *
      generalize str ((text.data.toList.drop (16 * k)).take 16) = yb at *
      have HNU : Hid _ := HNU0
      have HAD : Hid _ := had0
      have HTI : Hid _ := htm0
      have HMO : Hid _ := hmo0
      clear HNU0 had0 htm0 hmo0
      have hzA : (Tryz.prog.info? 129).map (·.size) = some (nsL .i64 LA).length := by rw [nsL_length, hlA]; exact size43
      by_cases hgt : text.size < 16 * k + 16
      · have hgtI : (text.size : Int) < 16 * (k : Int) + 16 := by omega
        obtain rfl : en = text.size := by omega
        go_upto_region 11 with fail
        refine wp_region_held_drew (S := fun W => W.rangeAt g 0 (nsL .i64 LR)) (by kernel_rfl) HS.drew.rr.rng ?_
        intro hS
        have HV := HS.drew
        clear HS
        revert HV hS
        generalize wr.drew = V
        intro hS HV
        refine wpAnyH_take (i := 1) (oi := { dst := some 33, op := .move (.tmp 1), type := _, pos := _, after := _, guard := none }) (v := .string text) rfl (by kernel_rfl) (by kernel_rfl) (by kernel_rfl) (fun _ _ _ h => h) (Or.inl ⟨by rfl, by intro x _; go_simp⟩) hS ?_
        (try simp only [Act.put, List.setIfInBounds_toArray, List.set_cons_zero, List.set_cons_succ])
        refine wpAnyH_take (i := 2) (oi := { dst := some 34, op := .move (.tmp 8), type := _, pos := _, after := _, guard := none }) (v := .int .i64 (16 * (k : Int))) rfl (by kernel_rfl) (by kernel_rfl) (by kernel_rfl) (fun _ _ _ h => h) (Or.inl ⟨by rfl, by intro x _; go_simp⟩) hS ?_
        (try simp only [Act.put, List.setIfInBounds_toArray, List.set_cons_zero, List.set_cons_succ])
        refine wpAnyH_take (i := 3) (oi := { dst := some 35, op := .move (.tmp 9), type := _, pos := _, after := _, guard := none }) (v := .int .i64 (text.size : Int)) rfl (by kernel_rfl) (by kernel_rfl) (by kernel_rfl) (fun _ _ _ h => h) (Or.inl ⟨by rfl, by intro x _; go_simp⟩) hS ?_
        (try simp only [Act.put, List.setIfInBounds_toArray, List.set_cons_zero, List.set_cons_succ])
        refine wpAnyH_take (i := 4) (oi := { dst := some 36, op := .slice 9 (.tmp 33) (some (.tmp 34)) (some (.tmp 35)) none, type := _, pos := _, after := _, guard := none }) (v := .string yb) rfl (by kernel_rfl) (by kernel_rfl) (by kernel_rfl) (fun _ _ _ h => h) (Or.inl ⟨by rfl, by intro x _; go_simp⟩) hS ?_
        (try simp only [Act.put, List.setIfInBounds_toArray, List.set_cons_zero, List.set_cons_succ])
        refine wpAnyH_take (i := 7) (oi := { dst := some 39, op := .load 129 (.tmp 6), type := _, pos := _, after := _, guard := none }) (v := .agg (nsL .i64 LR).toArray) rfl (by kernel_rfl) (by kernel_rfl) (by kernel_rfl) (fun _ _ _ h => h) (yieldsIf_load_mid (by rfl) 129 (.tmp 6) rfl g 0 (by simp [Act.eval]) (nsL .i64 LR) _ (fun x hx => hx) Tryz.underlying129 rfl hzR) hS ?_
        (try simp only [Act.put, List.setIfInBounds_toArray, List.set_cons_zero, List.set_cons_succ])
        refine wpAnyH_ready (rs := [0, 5]) (by kernel_rfl) (by simp) ?_
        refine AllReadyH.cons (o := { dst := some 32, op := .load 129 (.tmp 7), type := _, pos := _, after := _, guard := none }) rfl (fun K hK => ?_) (AllReadyH.cons (o := { dst := some 37, op := .call { callee := .value (.func 93), args := #[.tmp 36, .const (.int .i64 1)], argTypes := #[9, 3] }, type := _, pos := _, after := _, guard := none }) rfl (fun K hK => ?_) AllReadyH.nil)
        · refine step_load_mid rfl 129 (.tmp 7) rfl h 0 (by simp [Act.eval]) (nsL .i64 LA) _ HV.acc.rng Tryz.underlying129 rfl hzA ?_
          refine hK.out _ _ hS (fun _ => ?_)
          clear hK K
          (try simp only [Act.put, List.setIfInBounds_toArray, List.set_cons_zero, List.set_cons_succ])
          refine wpAnyH_ready (rs := [5]) (by kernel_rfl) (by simp) ?_
          refine AllReadyH.cons (o := { dst := some 37, op := .call { callee := .value (.func 93), args := #[.tmp 36, .const (.int .i64 1)], argTypes := #[9, 3] }, type := _, pos := _, after := _, guard := none }) rfl (fun K hK => ?_) AllReadyH.nil
          go_simp
          refine (HNU.out V).mono ?_
          rintro e W2 ⟨rfl, hbc⟩
          have HV2 := HV.below hbc
          have hS2 := HV2.rr.rng
          refine hK.out _ _ hS2 (fun _ => ?_)
          clear hK K
          (try simp only [Act.put, List.setIfInBounds_toArray, List.set_cons_zero, List.set_cons_succ])
          revert HV2 hS2
          clear HV hbc hS
          generalize W2 = V
          intro HV hS
          refine wpAnyH_ready (rs := [6]) (by kernel_rfl) (by simp) ?_
          refine AllReadyH.cons (o := { dst := some 38, op := .call { callee := .value (.func 97), args := #[.tmp 32, .tmp 37], argTypes := #[129, 129] }, type := _, pos := _, after := _, guard := none }) rfl (fun K hK => ?_) AllReadyH.nil
          go_simp
          refine (HAD.out V).mono ?_
          rintro e W2 ⟨rfl, hbc⟩
          have HV2 := HV.below hbc
          have hS2 := HV2.rr.rng
          refine hK.out _ _ hS2 (fun _ => ?_)
          clear hK K
          (try simp only [Act.put, List.setIfInBounds_toArray, List.set_cons_zero, List.set_cons_succ])
          revert HV2 hS2
          clear HV hbc hS
          generalize W2 = V
          intro HV hS
          refine wpAnyH_ready (rs := [8]) (by kernel_rfl) (by simp) ?_
          refine AllReadyH.cons (o := { dst := some 40, op := .call { callee := .value (.func 96), args := #[.tmp 38, .tmp 39], argTypes := #[129, 129] }, type := _, pos := _, after := _, guard := none }) rfl (fun K hK => ?_) AllReadyH.nil
          go_simp
          refine (HTI.out V).mono ?_
          rintro e W2 ⟨rfl, hbc⟩
          have HV2 := HV.below hbc
          have hS2 := HV2.rr.rng
          refine hK.out _ _ hS2 (fun _ => ?_)
          clear hK K
          (try simp only [Act.put, List.setIfInBounds_toArray, List.set_cons_zero, List.set_cons_succ])
          revert HV2 hS2
          clear HV hbc hS
          generalize W2 = V
          intro HV hS
          refine wpAnyH_ready (rs := [9]) (by kernel_rfl) (by simp) ?_
          refine AllReadyH.cons (o := { dst := some 41, op := .call { callee := .value (.func 95), args := #[.tmp 40], argTypes := #[129] }, type := _, pos := _, after := _, guard := none }) rfl (fun K hK => ?_) AllReadyH.nil
          go_simp
          refine (HMO.out V).mono ?_
          rintro e W2 ⟨rfl, hbc⟩
          have HV2 := HV.below hbc
          have hS2 := HV2.rr.rng
          refine hK.out _ _ hS2 (fun _ => ?_)
          clear hK K
          (try simp only [Act.put, List.setIfInBounds_toArray, List.set_cons_zero, List.set_cons_succ])
          revert HV2 hS2
          clear HV hbc hS
          generalize W2 = V
          intro HV hS
          refine wpAnyH_ready (rs := [10]) (by kernel_rfl) (by simp) ?_
          refine AllReadyH.cons (o := { dst := none, op := .store 129 (.tmp 7) (.tmp 41), type := _, pos := _, after := _, guard := none }) rfl (fun K hK => ?_) AllReadyH.nil
          refine step_store_mid rfl 129 (.tmp 7) (.tmp 41) rfl h 0 (ns .i64 LB) (by simp [Act.eval]) (by simp [Act.eval, ns]) (HV.acc.there _ (by rw [ns_size, hlB, hlA])) (ns24 LB hlB) (ns_one .i64 LB) ?_
          have H2 := HV.store LB hlB hlA
          refine hK.out _ _ H2.rr.rng (fun _ => ?_)
          clear hK K hS
          (try simp only [Act.put])
          refine wpAnyH_done (by kernel_rfl) ?_ _
          revert H2
          generalize V.setCells h 0 (ns .i64 LB).toList = w5
          intro H2
          go_wp2
          go_roundg (gk - 1)
          case measure => have := HK.out; omega
          case rel => exact ⟨k + 1, by have := HK.out; omega, by go_num, by rw [HLB.out]; exact H2⟩
        · go_simp
          refine (HNU.out V).mono ?_
          rintro e W2 ⟨rfl, hbc⟩
          have HV2 := HV.below hbc
          have hS2 := HV2.rr.rng
          refine hK.out _ _ hS2 (fun _ => ?_)
          clear hK K
          (try simp only [Act.put, List.setIfInBounds_toArray, List.set_cons_zero, List.set_cons_succ])
          revert HV2 hS2
          clear HV hbc hS
          generalize W2 = V
          intro HV hS
          refine wpAnyH_ready (rs := [0]) (by kernel_rfl) (by simp) ?_
          refine AllReadyH.cons (o := { dst := some 32, op := .load 129 (.tmp 7), type := _, pos := _, after := _, guard := none }) rfl (fun K hK => ?_) AllReadyH.nil
          refine step_load_mid rfl 129 (.tmp 7) rfl h 0 (by simp [Act.eval]) (nsL .i64 LA) _ HV.acc.rng Tryz.underlying129 rfl hzA ?_
          refine hK.out _ _ hS (fun _ => ?_)
          clear hK K
          (try simp only [Act.put, List.setIfInBounds_toArray, List.set_cons_zero, List.set_cons_succ])
          refine wpAnyH_ready (rs := [6]) (by kernel_rfl) (by simp) ?_
          refine AllReadyH.cons (o := { dst := some 38, op := .call { callee := .value (.func 97), args := #[.tmp 32, .tmp 37], argTypes := #[129, 129] }, type := _, pos := _, after := _, guard := none }) rfl (fun K hK => ?_) AllReadyH.nil
          go_simp
          refine (HAD.out V).mono ?_
          rintro e W2 ⟨rfl, hbc⟩
          have HV2 := HV.below hbc
          have hS2 := HV2.rr.rng
          refine hK.out _ _ hS2 (fun _ => ?_)
          clear hK K
          (try simp only [Act.put, List.setIfInBounds_toArray, List.set_cons_zero, List.set_cons_succ])
          revert HV2 hS2
          clear HV hbc hS
          generalize W2 = V
          intro HV hS
          refine wpAnyH_ready (rs := [8]) (by kernel_rfl) (by simp) ?_
          refine AllReadyH.cons (o := { dst := some 40, op := .call { callee := .value (.func 96), args := #[.tmp 38, .tmp 39], argTypes := #[129, 129] }, type := _, pos := _, after := _, guard := none }) rfl (fun K hK => ?_) AllReadyH.nil
          go_simp
          refine (HTI.out V).mono ?_
          rintro e W2 ⟨rfl, hbc⟩
          have HV2 := HV.below hbc
          have hS2 := HV2.rr.rng
          refine hK.out _ _ hS2 (fun _ => ?_)
          clear hK K
          (try simp only [Act.put, List.setIfInBounds_toArray, List.set_cons_zero, List.set_cons_succ])
          revert HV2 hS2
          clear HV hbc hS
          generalize W2 = V
          intro HV hS
          refine wpAnyH_ready (rs := [9]) (by kernel_rfl) (by simp) ?_
          refine AllReadyH.cons (o := { dst := some 41, op := .call { callee := .value (.func 95), args := #[.tmp 40], argTypes := #[129] }, type := _, pos := _, after := _, guard := none }) rfl (fun K hK => ?_) AllReadyH.nil
          go_simp
          refine (HMO.out V).mono ?_
          rintro e W2 ⟨rfl, hbc⟩
          have HV2 := HV.below hbc
          have hS2 := HV2.rr.rng
          refine hK.out _ _ hS2 (fun _ => ?_)
          clear hK K
          (try simp only [Act.put, List.setIfInBounds_toArray, List.set_cons_zero, List.set_cons_succ])
          revert HV2 hS2
          clear HV hbc hS
          generalize W2 = V
          intro HV hS
          refine wpAnyH_ready (rs := [10]) (by kernel_rfl) (by simp) ?_
          refine AllReadyH.cons (o := { dst := none, op := .store 129 (.tmp 7) (.tmp 41), type := _, pos := _, after := _, guard := none }) rfl (fun K hK => ?_) AllReadyH.nil
          refine step_store_mid rfl 129 (.tmp 7) (.tmp 41) rfl h 0 (ns .i64 LB) (by simp [Act.eval]) (by simp [Act.eval, ns]) (HV.acc.there _ (by rw [ns_size, hlB, hlA])) (ns24 LB hlB) (ns_one .i64 LB) ?_
          have H2 := HV.store LB hlB hlA
          refine hK.out _ _ H2.rr.rng (fun _ => ?_)
          clear hK K hS
          (try simp only [Act.put])
          refine wpAnyH_done (by kernel_rfl) ?_ _
          revert H2
          generalize V.setCells h 0 (ns .i64 LB).toList = w5
          intro H2
          go_wp2
          go_roundg (gk - 1)
          case measure => have := HK.out; omega
          case rel => exact ⟨k + 1, by have := HK.out; omega, by go_num, by rw [HLB.out]; exact H2⟩
      · have hgtI : ¬ (text.size : Int) < 16 * (k : Int) + 16 := by omega
        obtain rfl : en = 16 * k + 16 := by omega
        rw [show ((16 * k + 16 : Nat) : Int) = 16 * (k : Int) + 16 by omega] at hsl
        go_upto_region 11 with fail
        refine wp_region_held_drew (S := fun W => W.rangeAt g 0 (nsL .i64 LR)) (by kernel_rfl) HS.drew.rr.rng ?_
        intro hS
        have HV := HS.drew
        clear HS
        revert HV hS
        generalize wr.drew = V
        intro hS HV
        refine wpAnyH_take (i := 1) (oi := { dst := some 33, op := .move (.tmp 1), type := _, pos := _, after := _, guard := none }) (v := .string text) rfl (by kernel_rfl) (by kernel_rfl) (by kernel_rfl) (fun _ _ _ h => h) (Or.inl ⟨by rfl, by intro x _; go_simp⟩) hS ?_
        (try simp only [Act.put, List.setIfInBounds_toArray, List.set_cons_zero, List.set_cons_succ])
        refine wpAnyH_take (i := 2) (oi := { dst := some 34, op := .move (.tmp 8), type := _, pos := _, after := _, guard := none }) (v := .int .i64 (16 * (k : Int))) rfl (by kernel_rfl) (by kernel_rfl) (by kernel_rfl) (fun _ _ _ h => h) (Or.inl ⟨by rfl, by intro x _; go_simp⟩) hS ?_
        (try simp only [Act.put, List.setIfInBounds_toArray, List.set_cons_zero, List.set_cons_succ])
        refine wpAnyH_take (i := 3) (oi := { dst := some 35, op := .move (.tmp 9), type := _, pos := _, after := _, guard := none }) (v := .int .i64 (16 * (k : Int) + 16)) rfl (by kernel_rfl) (by kernel_rfl) (by kernel_rfl) (fun _ _ _ h => h) (Or.inl ⟨by rfl, by intro x _; go_simp⟩) hS ?_
        (try simp only [Act.put, List.setIfInBounds_toArray, List.set_cons_zero, List.set_cons_succ])
        refine wpAnyH_take (i := 4) (oi := { dst := some 36, op := .slice 9 (.tmp 33) (some (.tmp 34)) (some (.tmp 35)) none, type := _, pos := _, after := _, guard := none }) (v := .string yb) rfl (by kernel_rfl) (by kernel_rfl) (by kernel_rfl) (fun _ _ _ h => h) (Or.inl ⟨by rfl, by intro x _; go_simp⟩) hS ?_
        (try simp only [Act.put, List.setIfInBounds_toArray, List.set_cons_zero, List.set_cons_succ])
        refine wpAnyH_take (i := 7) (oi := { dst := some 39, op := .load 129 (.tmp 6), type := _, pos := _, after := _, guard := none }) (v := .agg (nsL .i64 LR).toArray) rfl (by kernel_rfl) (by kernel_rfl) (by kernel_rfl) (fun _ _ _ h => h) (yieldsIf_load_mid (by rfl) 129 (.tmp 6) rfl g 0 (by simp [Act.eval]) (nsL .i64 LR) _ (fun x hx => hx) Tryz.underlying129 rfl hzR) hS ?_
        (try simp only [Act.put, List.setIfInBounds_toArray, List.set_cons_zero, List.set_cons_succ])
        refine wpAnyH_ready (rs := [0, 5]) (by kernel_rfl) (by simp) ?_
        refine AllReadyH.cons (o := { dst := some 32, op := .load 129 (.tmp 7), type := _, pos := _, after := _, guard := none }) rfl (fun K hK => ?_) (AllReadyH.cons (o := { dst := some 37, op := .call { callee := .value (.func 93), args := #[.tmp 36, .const (.int .i64 1)], argTypes := #[9, 3] }, type := _, pos := _, after := _, guard := none }) rfl (fun K hK => ?_) AllReadyH.nil)
        · refine step_load_mid rfl 129 (.tmp 7) rfl h 0 (by simp [Act.eval]) (nsL .i64 LA) _ HV.acc.rng Tryz.underlying129 rfl hzA ?_
          refine hK.out _ _ hS (fun _ => ?_)
          clear hK K
          (try simp only [Act.put, List.setIfInBounds_toArray, List.set_cons_zero, List.set_cons_succ])
          refine wpAnyH_ready (rs := [5]) (by kernel_rfl) (by simp) ?_
          refine AllReadyH.cons (o := { dst := some 37, op := .call { callee := .value (.func 93), args := #[.tmp 36, .const (.int .i64 1)], argTypes := #[9, 3] }, type := _, pos := _, after := _, guard := none }) rfl (fun K hK => ?_) AllReadyH.nil
          go_simp
          refine (HNU.out V).mono ?_
          rintro e W2 ⟨rfl, hbc⟩
          have HV2 := HV.below hbc
          have hS2 := HV2.rr.rng
          refine hK.out _ _ hS2 (fun _ => ?_)
          clear hK K
          (try simp only [Act.put, List.setIfInBounds_toArray, List.set_cons_zero, List.set_cons_succ])
          revert HV2 hS2
          clear HV hbc hS
          generalize W2 = V
          intro HV hS
          refine wpAnyH_ready (rs := [6]) (by kernel_rfl) (by simp) ?_
          refine AllReadyH.cons (o := { dst := some 38, op := .call { callee := .value (.func 97), args := #[.tmp 32, .tmp 37], argTypes := #[129, 129] }, type := _, pos := _, after := _, guard := none }) rfl (fun K hK => ?_) AllReadyH.nil
          go_simp
          refine (HAD.out V).mono ?_
          rintro e W2 ⟨rfl, hbc⟩
          have HV2 := HV.below hbc
          have hS2 := HV2.rr.rng
          refine hK.out _ _ hS2 (fun _ => ?_)
          clear hK K
          (try simp only [Act.put, List.setIfInBounds_toArray, List.set_cons_zero, List.set_cons_succ])
          revert HV2 hS2
          clear HV hbc hS
          generalize W2 = V
          intro HV hS
          refine wpAnyH_ready (rs := [8]) (by kernel_rfl) (by simp) ?_
          refine AllReadyH.cons (o := { dst := some 40, op := .call { callee := .value (.func 96), args := #[.tmp 38, .tmp 39], argTypes := #[129, 129] }, type := _, pos := _, after := _, guard := none }) rfl (fun K hK => ?_) AllReadyH.nil
          go_simp
          refine (HTI.out V).mono ?_
          rintro e W2 ⟨rfl, hbc⟩
          have HV2 := HV.below hbc
          have hS2 := HV2.rr.rng
          refine hK.out _ _ hS2 (fun _ => ?_)
          clear hK K
          (try simp only [Act.put, List.setIfInBounds_toArray, List.set_cons_zero, List.set_cons_succ])
          revert HV2 hS2
          clear HV hbc hS
          generalize W2 = V
          intro HV hS
          refine wpAnyH_ready (rs := [9]) (by kernel_rfl) (by simp) ?_
          refine AllReadyH.cons (o := { dst := some 41, op := .call { callee := .value (.func 95), args := #[.tmp 40], argTypes := #[129] }, type := _, pos := _, after := _, guard := none }) rfl (fun K hK => ?_) AllReadyH.nil
          go_simp
          refine (HMO.out V).mono ?_
          rintro e W2 ⟨rfl, hbc⟩
          have HV2 := HV.below hbc
          have hS2 := HV2.rr.rng
          refine hK.out _ _ hS2 (fun _ => ?_)
          clear hK K
          (try simp only [Act.put, List.setIfInBounds_toArray, List.set_cons_zero, List.set_cons_succ])
          revert HV2 hS2
          clear HV hbc hS
          generalize W2 = V
          intro HV hS
          refine wpAnyH_ready (rs := [10]) (by kernel_rfl) (by simp) ?_
          refine AllReadyH.cons (o := { dst := none, op := .store 129 (.tmp 7) (.tmp 41), type := _, pos := _, after := _, guard := none }) rfl (fun K hK => ?_) AllReadyH.nil
          refine step_store_mid rfl 129 (.tmp 7) (.tmp 41) rfl h 0 (ns .i64 LB) (by simp [Act.eval]) (by simp [Act.eval, ns]) (HV.acc.there _ (by rw [ns_size, hlB, hlA])) (ns24 LB hlB) (ns_one .i64 LB) ?_
          have H2 := HV.store LB hlB hlA
          refine hK.out _ _ H2.rr.rng (fun _ => ?_)
          clear hK K hS
          (try simp only [Act.put])
          refine wpAnyH_done (by kernel_rfl) ?_ _
          revert H2
          generalize V.setCells h 0 (ns .i64 LB).toList = w5
          intro H2
          go_wp2
          go_roundg (gk - 1)
          case measure => have := HK.out; omega
          case rel => exact ⟨k + 1, by have := HK.out; omega, by go_num, by rw [HLB.out]; exact H2⟩
        · go_simp
          refine (HNU.out V).mono ?_
          rintro e W2 ⟨rfl, hbc⟩
          have HV2 := HV.below hbc
          have hS2 := HV2.rr.rng
          refine hK.out _ _ hS2 (fun _ => ?_)
          clear hK K
          (try simp only [Act.put, List.setIfInBounds_toArray, List.set_cons_zero, List.set_cons_succ])
          revert HV2 hS2
          clear HV hbc hS
          generalize W2 = V
          intro HV hS
          refine wpAnyH_ready (rs := [0]) (by kernel_rfl) (by simp) ?_
          refine AllReadyH.cons (o := { dst := some 32, op := .load 129 (.tmp 7), type := _, pos := _, after := _, guard := none }) rfl (fun K hK => ?_) AllReadyH.nil
          refine step_load_mid rfl 129 (.tmp 7) rfl h 0 (by simp [Act.eval]) (nsL .i64 LA) _ HV.acc.rng Tryz.underlying129 rfl hzA ?_
          refine hK.out _ _ hS (fun _ => ?_)
          clear hK K
          (try simp only [Act.put, List.setIfInBounds_toArray, List.set_cons_zero, List.set_cons_succ])
          refine wpAnyH_ready (rs := [6]) (by kernel_rfl) (by simp) ?_
          refine AllReadyH.cons (o := { dst := some 38, op := .call { callee := .value (.func 97), args := #[.tmp 32, .tmp 37], argTypes := #[129, 129] }, type := _, pos := _, after := _, guard := none }) rfl (fun K hK => ?_) AllReadyH.nil
          go_simp
          refine (HAD.out V).mono ?_
          rintro e W2 ⟨rfl, hbc⟩
          have HV2 := HV.below hbc
          have hS2 := HV2.rr.rng
          refine hK.out _ _ hS2 (fun _ => ?_)
          clear hK K
          (try simp only [Act.put, List.setIfInBounds_toArray, List.set_cons_zero, List.set_cons_succ])
          revert HV2 hS2
          clear HV hbc hS
          generalize W2 = V
          intro HV hS
          refine wpAnyH_ready (rs := [8]) (by kernel_rfl) (by simp) ?_
          refine AllReadyH.cons (o := { dst := some 40, op := .call { callee := .value (.func 96), args := #[.tmp 38, .tmp 39], argTypes := #[129, 129] }, type := _, pos := _, after := _, guard := none }) rfl (fun K hK => ?_) AllReadyH.nil
          go_simp
          refine (HTI.out V).mono ?_
          rintro e W2 ⟨rfl, hbc⟩
          have HV2 := HV.below hbc
          have hS2 := HV2.rr.rng
          refine hK.out _ _ hS2 (fun _ => ?_)
          clear hK K
          (try simp only [Act.put, List.setIfInBounds_toArray, List.set_cons_zero, List.set_cons_succ])
          revert HV2 hS2
          clear HV hbc hS
          generalize W2 = V
          intro HV hS
          refine wpAnyH_ready (rs := [9]) (by kernel_rfl) (by simp) ?_
          refine AllReadyH.cons (o := { dst := some 41, op := .call { callee := .value (.func 95), args := #[.tmp 40], argTypes := #[129] }, type := _, pos := _, after := _, guard := none }) rfl (fun K hK => ?_) AllReadyH.nil
          go_simp
          refine (HMO.out V).mono ?_
          rintro e W2 ⟨rfl, hbc⟩
          have HV2 := HV.below hbc
          have hS2 := HV2.rr.rng
          refine hK.out _ _ hS2 (fun _ => ?_)
          clear hK K
          (try simp only [Act.put, List.setIfInBounds_toArray, List.set_cons_zero, List.set_cons_succ])
          revert HV2 hS2
          clear HV hbc hS
          generalize W2 = V
          intro HV hS
          refine wpAnyH_ready (rs := [10]) (by kernel_rfl) (by simp) ?_
          refine AllReadyH.cons (o := { dst := none, op := .store 129 (.tmp 7) (.tmp 41), type := _, pos := _, after := _, guard := none }) rfl (fun K hK => ?_) AllReadyH.nil
          refine step_store_mid rfl 129 (.tmp 7) (.tmp 41) rfl h 0 (ns .i64 LB) (by simp [Act.eval]) (by simp [Act.eval, ns]) (HV.acc.there _ (by rw [ns_size, hlB, hlA])) (ns24 LB hlB) (ns_one .i64 LB) ?_
          have H2 := HV.store LB hlB hlA
          refine hK.out _ _ H2.rr.rng (fun _ => ?_)
          clear hK K hS
          (try simp only [Act.put])
          refine wpAnyH_done (by kernel_rfl) ?_ _
          revert H2
          generalize V.setCells h 0 (ns .i64 LB).toList = w5
          intro H2
          go_wp2
          go_roundg (gk - 1)
          case measure => have := HK.out; omega
          case rel => exact ⟨k + 1, by have := HK.out; omega, by go_num, by rw [HLB.out]; exact H2⟩
    · have hltI : ¬ 16 * (k : Int) < (text.size : Int) := by omega
      obtain rfl : k = (text.size + 15) / 16 := by omega
      have had0 := HADD.out _ _ (show accN r text.data.toList ((text.size + 15) / 16) < 1361129467683753853853498429727072845824 by omega) (show s < 1361129467683753853853498429727072845824 by omega)
      have hlA := d24_length (accN r text.data.toList ((text.size + 15) / 16))
      have hlB := d24_length (accN r text.data.toList ((text.size + 15) / 16) + s)
      have HVS : Hid (∀ m, m < 8 → Lib.byteCells (bytL (2 * (m + 1)) (accN r text.data.toList ((text.size + 15) / 16) + s)) = (Lib.byteCells (bytL (2 * m) (accN r text.data.toList ((text.size + 15) / 16) + s)) ++ [.int .u8 (((d24 (accN r text.data.toList ((text.size + 15) / 16) + s)).getD m 0 : Int) % 256)]) ++ [.int .u8 (((d24 (accN r text.data.toList ((text.size + 15) / 16) + s)).getD m 0 : Int) / 256)]) := fun m hm => bytes_digit _ m (by omega)
      have HVX : Hid (∀ m, (d24 (accN r text.data.toList ((text.size + 15) / 16) + s)).getD m 0 < 65536) := d24_at _
      clear HADD HTMS HMOD hacl
      generalize hLB : d24 (accN r text.data.toList ((text.size + 15) / 16) + s) = LB at *
      clear hLB
      generalize hVV : accN r text.data.toList ((text.size + 15) / 16) + s = VV at *
      clear hVV
      generalize d24 (accN r text.data.toList ((text.size + 15) / 16)) = LA at *
      generalize d24 s = LN at *
      have HAD : Hid _ := had0
      clear had0
      have hzA : (Tryz.prog.info? 129).map (·.size) = some (nsL .i64 LA).length := by rw [nsL_length, hlA]; exact size43
      go_upto_region 12 with fail
      refine wp_region_held_drew (S := fun W => W.rangeAt g 0 (nsL .i64 LR)) (by kernel_rfl) HS.drew.rr.rng ?_
      intro hS
      have HV := HS.drew
      clear HS
      revert HV hS
      generalize wr.drew = V
      intro hS HV
      refine wpAnyH_take (i := 1) (oi := { dst := some 43, op := .move (.tmp 0), type := _, pos := _, after := _, guard := none }) (v := .string key) rfl (by kernel_rfl) (by kernel_rfl) (by kernel_rfl) (fun _ _ _ h => h) (Or.inl ⟨by rfl, by intro x _; go_simp⟩) hS ?_
      (try simp only [Act.put, List.setIfInBounds_toArray, List.set_cons_zero, List.set_cons_succ])
      refine wpAnyH_take (i := 2) (oi := { dst := some 44, op := .slice 9 (.tmp 43) (some (.const (.int .i64 16))) none none, type := _, pos := _, after := _, guard := none }) (v := .string ys) rfl (by kernel_rfl) (by kernel_rfl) (by kernel_rfl) (fun _ _ _ h => h) (Or.inl ⟨by rfl, by intro x _; go_simp⟩) hS ?_
      (try simp only [Act.put, List.setIfInBounds_toArray, List.set_cons_zero, List.set_cons_succ])
      refine wpAnyH_ready (rs := [0, 3]) (by kernel_rfl) (by simp) ?_
      refine AllReadyH.cons (o := { dst := some 42, op := .load 129 (.tmp 7), type := _, pos := _, after := _, guard := none }) rfl (fun K hK => ?_) (AllReadyH.cons (o := { dst := some 45, op := .call { callee := .value (.func 93), args := #[.tmp 44, .const (.int .i64 0)], argTypes := #[9, 3] }, type := _, pos := _, after := _, guard := none }) rfl (fun K hK => ?_) AllReadyH.nil)
      · refine step_load_mid rfl 129 (.tmp 7) rfl h 0 (by simp [Act.eval]) (nsL .i64 LA) _ HV.acc.rng Tryz.underlying129 rfl hzA ?_
        refine hK.out _ _ hS (fun _ => ?_)
        clear hK K
        (try simp only [Act.put, List.setIfInBounds_toArray, List.set_cons_zero, List.set_cons_succ])
        refine wpAnyH_ready (rs := [3]) (by kernel_rfl) (by simp) ?_
        refine AllReadyH.cons (o := { dst := some 45, op := .call { callee := .value (.func 93), args := #[.tmp 44, .const (.int .i64 0)], argTypes := #[9, 3] }, type := _, pos := _, after := _, guard := none }) rfl (fun K hK => ?_) AllReadyH.nil
        go_simp
        refine (HNS.out V).mono ?_
        rintro e W2 ⟨rfl, hbc⟩
        have HV2 := HV.below hbc
        have hS2 := HV2.rr.rng
        refine hK.out _ _ hS2 (fun _ => ?_)
        clear hK K
        (try simp only [Act.put, List.setIfInBounds_toArray, List.set_cons_zero, List.set_cons_succ])
        revert HV2 hS2
        clear HV hbc hS
        generalize W2 = V
        intro HV hS
        refine wpAnyH_ready (rs := [4]) (by kernel_rfl) (by simp) ?_
        refine AllReadyH.cons (o := { dst := some 46, op := .call { callee := .value (.func 97), args := #[.tmp 42, .tmp 45], argTypes := #[129, 129] }, type := _, pos := _, after := _, guard := none }) rfl (fun K hK => ?_) AllReadyH.nil
        go_simp
        refine (HAD.out V).mono ?_
        rintro e W2 ⟨rfl, hbc⟩
        have HV2 := HV.below hbc
        have hS2 := HV2.rr.rng
        refine hK.out _ _ hS2 (fun _ => ?_)
        clear hK K
        (try simp only [Act.put, List.setIfInBounds_toArray, List.set_cons_zero, List.set_cons_succ])
        revert HV2 hS2
        clear HV hbc hS
        generalize W2 = V
        intro HV hS
        refine wpAnyH_ready (rs := [5]) (by kernel_rfl) (by simp) ?_
        refine AllReadyH.cons (o := { dst := none, op := .store 129 (.tmp 7) (.tmp 46), type := _, pos := _, after := _, guard := none }) rfl (fun K hK => ?_) AllReadyH.nil
        refine step_store_mid rfl 129 (.tmp 7) (.tmp 46) rfl h 0 (ns .i64 LB) (by simp [Act.eval]) (by simp [Act.eval, ns]) (HV.acc.there _ (by rw [ns_size, hlB, hlA])) (ns24 LB hlB) (ns_one .i64 LB) ?_
        have H2 := HV.store LB hlB hlA
        refine hK.out _ _ H2.rr.rng (fun _ => ?_)
        clear hK K hS
        (try simp only [Act.put])
        refine wpAnyH_done (by kernel_rfl) ?_ _
        revert H2
        generalize V.setCells h 0 (ns .i64 LB).toList = w5
        intro H2
        go_wp2
        go_loopg [10, 11] 8 (fun gj v i wx => ∃ m : Nat, m + gj = 8 ∧ i = .int .i64 m ∧ wx.ownsRow w5.heap.size 5 1 v (2 * m) (Lib.byteCells (bytL (2 * m) VV)) ∧ Below w5.heap.size w5 wx)
        case atStart => exact ⟨0, by omega, rfl, World.ownsRow_nil _ _ _ _, Below.refl _ _⟩
        case round =>
          obtain ⟨m, hmm, rfl, hown, hbel⟩ := hrel
          have HM : Hid (m + gk = 8) := hmm
          have hm' : m ≤ 8 := by omega
          clear hmm
          by_cases hml : m < 8
          · have hmlI : (m : Int) < 8 := by omega
            have hmlI2 : (m : Int) < 24 := by omega
            have HC : Hid (∀ W : World, Below w5.heap.size w5 W → W.cell? ⟨h, m, none⟩ = some (.int .i64 ((LB.getD m 0 : Nat) : Int))) := fun W hb => (hb.cell (p := ⟨h, m, none⟩) H2.acc.lt).trans (H2.acc.cell m (by omega))
            have hx := HVX.out m
            have HS : Hid _ := HVS.out m hml
            revert HC hx HS
            generalize LB.getD m 0 = x
            intro HC hx HS
            obtain ⟨cs, hcs⟩ : ∃ cs, Lib.byteCells (bytL (2 * m) VV) = cs := ⟨_, rfl⟩
            rw [hcs] at HS hown
            clear hcs
            have hone1 : ∀ u ∈ [Value.int .u8 ((x : Int) % 256)], u.oneCell' = true := by intro u hu; simp only [List.mem_singleton] at hu; subst hu; rfl
            have hone2 : ∀ u ∈ [Value.int .u8 ((x : Int) / 256)], u.oneCell' = true := by intro u hu; simp only [List.mem_singleton] at hu; subst hu; rfl
            have hml1 : 2 * m + 1 ≤ maxLen := by unfold maxLen; omega
            have hml2 : 2 * m + 1 + 1 ≤ maxLen := by unfold maxLen; omega
            have c0 := HC.out wr hbel
            go_upto_region 18 with (at_builtin; refine wpList_append_own _ rfl _ _ 96 rfl w5.heap.size 5 i0 (.int .u8 0) 1 1 Tryz.underlying96 hi hz0 hz1 hz2 rfl (by decide) _ _ _ rfl (hown.alloc _) ⟨wr.heap.size, 0, none⟩ 1 1 [.int .u8 ((x : Int) % 256)] rfl rfl (by intro j u h; exact cells_new wr #[.int .u8 ((x : Int) % 256)] 5 j u (by simpa using h)) hone1 hml1 (by omega) (by have := hbel.size; simp; omega) ?_; intro v1 w6 hown1 hgrow1 _)
            have hb6 : Below w5.heap.size w5 w6 := by
              have h1 := hbel.alloc hbel.size (.cells #[.int .u8 ((x : Int) % 256)] 5)
              exact h1.trans (grown_below hgrow1 h1.size (hown.alloc _))
            clear c0 hgrow1 hown hbel
            have c0 := HC.out w6 hb6
            go_wp2_with (at_builtin; refine wpList_append_own _ rfl _ _ 96 rfl w5.heap.size 5 i0 (.int .u8 0) 1 1 Tryz.underlying96 hi hz0 hz1 hz2 rfl (by decide) _ _ _ rfl (hown1.alloc _) ⟨w6.heap.size, 0, none⟩ 1 1 [.int .u8 ((x : Int) / 256)] rfl rfl (by intro j u h; exact cells_new w6 #[.int .u8 ((x : Int) / 256)] 5 j u (by simpa using h)) hone2 hml2 (by omega) (by have := hb6.size; simp; omega) ?_; intro v2 w7 hown2 hgrow2 _)
            have hb7 : Below w5.heap.size w5 w7 := by
              have h1 := hb6.alloc hb6.size (.cells #[.int .u8 ((x : Int) / 256)] 5)
              exact h1.trans (grown_below hgrow2 h1.size (hown1.alloc _))
            have R : w7.ownsRow w5.heap.size 5 1 v2 (2 * (m + 1)) (Lib.byteCells (bytL (2 * (m + 1)) VV)) := by rw [HS.out, show 2 * (m + 1) = 2 * m + 1 + 1 by omega]; exact hown2
            clear hown1 hown2 hgrow2 hb6 c0 HC
            go_wp2
            go_roundg (gk - 1)
            case measure => have := HM.out; omega
            case rel => exact ⟨m + 1, by have := HM.out; omega, by go_num, R, hb7⟩
          · obtain rfl : m = 8 := by omega
            have hcv := convert_own (P := Tryz.prog) wr 96 9 5 w5.heap.size _ (bytL 16 VV) Tryz.underlying96 Tryz.underlying5 Tryz.underlying9 (by rw [bytL_length]; exact hown)
            have hbf := H2.bel.trans (hbel.mono H2.bel.size)
            clear hown hbel H2 HM
            go_wp2
            go_ret2
            rw [HTG.out]
            exact ⟨rfl, hbf⟩
      · go_simp
        refine (HNS.out V).mono ?_
        rintro e W2 ⟨rfl, hbc⟩
        have HV2 := HV.below hbc
        have hS2 := HV2.rr.rng
        refine hK.out _ _ hS2 (fun _ => ?_)
        clear hK K
        (try simp only [Act.put, List.setIfInBounds_toArray, List.set_cons_zero, List.set_cons_succ])
        revert HV2 hS2
        clear HV hbc hS
        generalize W2 = V
        intro HV hS
        refine wpAnyH_ready (rs := [0]) (by kernel_rfl) (by simp) ?_
        refine AllReadyH.cons (o := { dst := some 42, op := .load 129 (.tmp 7), type := _, pos := _, after := _, guard := none }) rfl (fun K hK => ?_) AllReadyH.nil
        refine step_load_mid rfl 129 (.tmp 7) rfl h 0 (by simp [Act.eval]) (nsL .i64 LA) _ HV.acc.rng Tryz.underlying129 rfl hzA ?_
        refine hK.out _ _ hS (fun _ => ?_)
        clear hK K
        (try simp only [Act.put, List.setIfInBounds_toArray, List.set_cons_zero, List.set_cons_succ])
        refine wpAnyH_ready (rs := [4]) (by kernel_rfl) (by simp) ?_
        refine AllReadyH.cons (o := { dst := some 46, op := .call { callee := .value (.func 97), args := #[.tmp 42, .tmp 45], argTypes := #[129, 129] }, type := _, pos := _, after := _, guard := none }) rfl (fun K hK => ?_) AllReadyH.nil
        go_simp
        refine (HAD.out V).mono ?_
        rintro e W2 ⟨rfl, hbc⟩
        have HV2 := HV.below hbc
        have hS2 := HV2.rr.rng
        refine hK.out _ _ hS2 (fun _ => ?_)
        clear hK K
        (try simp only [Act.put, List.setIfInBounds_toArray, List.set_cons_zero, List.set_cons_succ])
        revert HV2 hS2
        clear HV hbc hS
        generalize W2 = V
        intro HV hS
        refine wpAnyH_ready (rs := [5]) (by kernel_rfl) (by simp) ?_
        refine AllReadyH.cons (o := { dst := none, op := .store 129 (.tmp 7) (.tmp 46), type := _, pos := _, after := _, guard := none }) rfl (fun K hK => ?_) AllReadyH.nil
        refine step_store_mid rfl 129 (.tmp 7) (.tmp 46) rfl h 0 (ns .i64 LB) (by simp [Act.eval]) (by simp [Act.eval, ns]) (HV.acc.there _ (by rw [ns_size, hlB, hlA])) (ns24 LB hlB) (ns_one .i64 LB) ?_
        have H2 := HV.store LB hlB hlA
        refine hK.out _ _ H2.rr.rng (fun _ => ?_)
        clear hK K hS
        (try simp only [Act.put])
        refine wpAnyH_done (by kernel_rfl) ?_ _
        revert H2
        generalize V.setCells h 0 (ns .i64 LB).toList = w5
        intro H2
        go_wp2
        go_loopg [10, 11] 8 (fun gj v i wx => ∃ m : Nat, m + gj = 8 ∧ i = .int .i64 m ∧ wx.ownsRow w5.heap.size 5 1 v (2 * m) (Lib.byteCells (bytL (2 * m) VV)) ∧ Below w5.heap.size w5 wx)
        case atStart => exact ⟨0, by omega, rfl, World.ownsRow_nil _ _ _ _, Below.refl _ _⟩
        case round =>
          obtain ⟨m, hmm, rfl, hown, hbel⟩ := hrel
          have HM : Hid (m + gk = 8) := hmm
          have hm' : m ≤ 8 := by omega
          clear hmm
          by_cases hml : m < 8
          · have hmlI : (m : Int) < 8 := by omega
            have hmlI2 : (m : Int) < 24 := by omega
            have HC : Hid (∀ W : World, Below w5.heap.size w5 W → W.cell? ⟨h, m, none⟩ = some (.int .i64 ((LB.getD m 0 : Nat) : Int))) := fun W hb => (hb.cell (p := ⟨h, m, none⟩) H2.acc.lt).trans (H2.acc.cell m (by omega))
            have hx := HVX.out m
            have HS : Hid _ := HVS.out m hml
            revert HC hx HS
            generalize LB.getD m 0 = x
            intro HC hx HS
            obtain ⟨cs, hcs⟩ : ∃ cs, Lib.byteCells (bytL (2 * m) VV) = cs := ⟨_, rfl⟩
            rw [hcs] at HS hown
            clear hcs
            have hone1 : ∀ u ∈ [Value.int .u8 ((x : Int) % 256)], u.oneCell' = true := by intro u hu; simp only [List.mem_singleton] at hu; subst hu; rfl
            have hone2 : ∀ u ∈ [Value.int .u8 ((x : Int) / 256)], u.oneCell' = true := by intro u hu; simp only [List.mem_singleton] at hu; subst hu; rfl
            have hml1 : 2 * m + 1 ≤ maxLen := by unfold maxLen; omega
            have hml2 : 2 * m + 1 + 1 ≤ maxLen := by unfold maxLen; omega
            have c0 := HC.out wr hbel
            go_upto_region 18 with (at_builtin; refine wpList_append_own _ rfl _ _ 96 rfl w5.heap.size 5 i0 (.int .u8 0) 1 1 Tryz.underlying96 hi hz0 hz1 hz2 rfl (by decide) _ _ _ rfl (hown.alloc _) ⟨wr.heap.size, 0, none⟩ 1 1 [.int .u8 ((x : Int) % 256)] rfl rfl (by intro j u h; exact cells_new wr #[.int .u8 ((x : Int) % 256)] 5 j u (by simpa using h)) hone1 hml1 (by omega) (by have := hbel.size; simp; omega) ?_; intro v1 w6 hown1 hgrow1 _)
            have hb6 : Below w5.heap.size w5 w6 := by
              have h1 := hbel.alloc hbel.size (.cells #[.int .u8 ((x : Int) % 256)] 5)
              exact h1.trans (grown_below hgrow1 h1.size (hown.alloc _))
            clear c0 hgrow1 hown hbel
            have c0 := HC.out w6 hb6
            go_wp2_with (at_builtin; refine wpList_append_own _ rfl _ _ 96 rfl w5.heap.size 5 i0 (.int .u8 0) 1 1 Tryz.underlying96 hi hz0 hz1 hz2 rfl (by decide) _ _ _ rfl (hown1.alloc _) ⟨w6.heap.size, 0, none⟩ 1 1 [.int .u8 ((x : Int) / 256)] rfl rfl (by intro j u h; exact cells_new w6 #[.int .u8 ((x : Int) / 256)] 5 j u (by simpa using h)) hone2 hml2 (by omega) (by have := hb6.size; simp; omega) ?_; intro v2 w7 hown2 hgrow2 _)
            have hb7 : Below w5.heap.size w5 w7 := by
              have h1 := hb6.alloc hb6.size (.cells #[.int .u8 ((x : Int) / 256)] 5)
              exact h1.trans (grown_below hgrow2 h1.size (hown1.alloc _))
            have R : w7.ownsRow w5.heap.size 5 1 v2 (2 * (m + 1)) (Lib.byteCells (bytL (2 * (m + 1)) VV)) := by rw [HS.out, show 2 * (m + 1) = 2 * m + 1 + 1 by omega]; exact hown2
            clear hown1 hown2 hgrow2 hb6 c0 HC
            go_wp2
            go_roundg (gk - 1)
            case measure => have := HM.out; omega
            case rel => exact ⟨m + 1, by have := HM.out; omega, by go_num, R, hb7⟩
          · obtain rfl : m = 8 := by omega
            have hcv := convert_own (P := Tryz.prog) wr 96 9 5 w5.heap.size _ (bytL 16 VV) Tryz.underlying96 Tryz.underlying5 Tryz.underlying9 (by rw [bytL_length]; exact hown)
            have hbf := H2.bel.trans (hbel.mono H2.bel.size)
            clear hown hbel H2 HM
            go_wp2
            go_ret2
            rw [HTG.out]
            exact ⟨rfl, hbf⟩

end Go.Proofs.YtengclnahppmhaaGreatDoor.Pol
