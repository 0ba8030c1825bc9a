import Derived.Test.YtggfeppphhigdabDoorPolR
import Derived.Test.YtggfeppphhigdabDoorNumH
namespace Go.Proofs.YtggfeppphhigdabDoor
open Go.RowKit Go.Lib Go.Deep

theorem size43 : (Tryd.prog.info? 43).map (·.size) = some 24 := by kernel_rfl
theorem ns24 (l : List Nat) (h : l.length = 24) : (Tryd.prog.info? 43).map (·.size) = some (ns .i64 l).size := by rw [ns_size, h]; exact size43
theorem zeros24 : ns .i64 (List.replicate 24 0) = #[.int .i64 0, .int .i64 0, .int .i64 0, .int .i64 0, .int .i64 0, .int .i64 0, .int .i64 0, .int .i64 0, .int .i64 0, .int .i64 0, .int .i64 0, .int .i64 0, .int .i64 0, .int .i64 0, .int .i64 0, .int .i64 0, .int .i64 0, .int .i64 0, .int .i64 0, .int .i64 0, .int .i64 0, .int .i64 0, .int .i64 0, .int .i64 0] := rfl

/-- a digit of what is carried on -/
theorem carry_at (b : Nat) (hb : 0 < b) (l : List Nat) (k : Nat) (hk : k < l.length) : (dg b l.length (vl b l)).getD k 0 = (vl b (l.take k) / b ^ k + l.getD k 0) % b := by
  have e : vl b l = vl b (l.take k) + b ^ k * (l.getD k 0 + b * vl b (l.drop (k + 1))) := by
    conv => lhs; rw [← List.take_append_drop (k + 1) l, vl_append, vl_take_succ _ _ _ hk, List.length_take, Nat.min_eq_left (by omega), Nat.pow_succ]
    rw [Nat.mul_add, Nat.mul_assoc]
    omega
  rw [dg_getD _ _ _ _ hk, e, Nat.add_mul_div_left _ _ (Nat.pow_pos hb), ← Nat.add_assoc, Nat.add_mul_mod_self_left]

/-- what carried and its like hold -/
structure Cv (w wr : World) (m : List Nat) : Prop where
  own : Nb .i64 43 wr w.heap.size m
  res : Nb .i64 43 wr (w.heap.size + 1) (List.replicate 24 0)
  bel : Below w.heap.size w wr
theorem Cv.start (w : World) (n : List Nat) : Cv w ((w.alloc (.cells (ns .i64 n) 43)).alloc (.cells (ns .i64 (List.replicate 24 0)) 43)) n :=
  ⟨(Nb.new _ _ _ _).alloc _, Nb.newN _ _ _ _ _ (by simp), ((Below.refl _ _).alloc (Nat.le_refl _) _).alloc (by simp) _⟩
theorem Cv.put {w wr : World} {m : List Nat} (h : Cv w wr m) (i x : Nat) : Cv w (wr.setCell ⟨w.heap.size, i, none⟩ (.int .i64 (x : Int))) (m.set i x) :=
  ⟨h.own.put i x, h.res.beside (by simp) _, h.bel.setCell (Nat.le_refl _) _⟩

set_option maxRecDepth 20000 in
set_option maxHeartbeats 1000000 in
theorem carried_any (n : List Nat) (hn : n.length = 24) (hM : ∀ i, n.getD i 0 ≤ 2199023255552) (w : World) :
    Calls Tryd.prog 31 #[.agg (ns .i64 n)] w fun e w' => e = .returned (.agg (ns .i64 (d24 (vl 65536 n)))) ∧ Below w.heap.size w w' := by
  have HS0 : Hid _ := Cv.start w n
  rw [zeros24] at HS0
  have HM : Hid (∀ i, n.getD i 0 ≤ 2199023255552) := hM
  have HC : Hid (∀ k, k < 24 → (d24 (vl 65536 n)).getD k 0 = (vl 65536 (n.take k) / 65536 ^ k + n.getD k 0) % 65536) := fun k hk => by
    have h := carry_at 65536 (by omega) n k (by omega)
    rw [hn] at h
    exact h
  have hzl := d24_length (vl 65536 n)
  clear hM
  revert HC hzl
  generalize d24 (vl 65536 n) = Z
  intro HC hzl
  go_enter Tryd.func31, Tryd.ntmps31
  go_wp2
  go_loopg [3, 4] 24 (fun gk c i wr => ∃ k : Nat, k + gk = 24 ∧ i = .int .i64 k ∧ c = .int .i64 ((vl 65536 (n.take k) / 65536 ^ k : Nat) : Int) ∧ vl 65536 (n.take k) / 65536 ^ k ≤ 2199023255552 ∧ Cv w wr (Z.take k ++ n.drop k))
  case atStart => exact ⟨0, by omega, rfl, by simp [vl], by simp [vl], HS0.out⟩
  case round =>
    clear HS0
    obtain ⟨k, hkk, rfl, rfl, hc, HS⟩ := hrel
    have HK : Hid (k + gk = 24) := hkk
    have hk' : k ≤ 24 := by omega
    clear hkk
    by_cases hlt : k < 24
    · have hltI : (k : Int) < 24 := by omega
      have hx := HM.out k
      have hz := HC.out k hlt
      have HO : Hid (vl 65536 (n.take (k + 1)) / 65536 ^ (k + 1) = (vl 65536 (n.take k) / 65536 ^ k + n.getD k 0) / 65536) := by
        show _ = _
        rw [vl_take_succ _ _ _ (by omega), carry_over _ _ _ _ (by omega)]
      have c0 := HS.own.cell k (by rw [List.length_append, List.length_take, List.length_drop]; omega)
      rw [mix_get Z n k (by omega)] at c0
      have f0 := HS.own.frozen k
      have HR : Hid (Cv w (wr.setCell ⟨w.heap.size, k, none⟩ (.int .i64 (((vl 65536 (n.take k) / 65536 ^ k + n.getD k 0) % 65536 : Nat) : Int))) (Z.take (k + 1) ++ n.drop (k + 1))) := by
        rw [← hz]
        have h := HS.put k (Z.getD k 0)
        rw [mix_set Z n k (by omega) (by omega)] at h
        exact h
      clear hz HS
      revert hc hx c0 HR HO
      generalize vl 65536 (n.take k) / 65536 ^ k = c
      generalize n.getD k 0 = x
      intro hc hx HO c0 HR
      have e1 : ((x : Int) + (c : Int)) % 65536 = (((c + x) % 65536 : Nat) : Int) := by omega
      have e2 : ((x : Int) + (c : Int)) / 65536 = (((c + x) / 65536 : Nat) : Int) := by omega
      have e3 : (c + x) / 65536 ≤ 2199023255552 := by omega
      revert e1 e2 e3 HO HR
      generalize (c + x) % 65536 = d
      generalize (c + x) / 65536 = o
      intro HO HR e1 e2 e3
      go_wp2
      go_roundg (gk - 1)
      case measure => have := HK.out; omega
      case rel => exact ⟨k + 1, by have := HK.out; omega, by go_num, by rw [HO.out, e2], by rw [HO.out]; exact e3, HR.out⟩
    · obtain rfl : k = 24 := by omega
      rw [List.take_of_length_le (by omega), List.drop_eq_nil_of_le (by omega), List.append_nil] at HS
      have hres := HS.own
      have HT := HS.res.store Z hzl
      have hth := HS.res.there (ns .i64 Z).size (by rw [ns_size, hzl]; rfl)
      have hbel' : Below w.heap.size w (wr.setCells (w.heap.size + 1) 0 (ns .i64 Z).toList) := Below.setCells HS.bel (by simp) _ _
      have hsz := ns24 Z hzl
      have hone := ns_one .i64 Z
      unfold Nb at HT hres
      clear HS HK HM HC hc
      go_wp2_with (first | (refine wpList_load_row rfl 43 (.tmp 1) rfl w.heap.size rfl 43 _ (0, 0) _ hres Tryd.underlying43 rfl hsz ?_) | (refine wpList_store_mid rfl 43 (.tmp 2) (.tmp 21) rfl (w.heap.size + 1) 0 _ rfl rfl hth hsz hone ?_))
      refine bodyPost_ret (results_cell_row rfl _ _ (w.heap.size + 1) 43 _ (0, 0) _ rfl HT Tryd.underlying43 rfl hsz) rfl ?_
      exact ⟨rfl, hbel'⟩

set_option maxRecDepth 20000 in
set_option maxHeartbeats 1000000 in
theorem five_any (n : List Nat) (hn : n.length = 24) (hM : ∀ i, n.getD i 0 ≤ 65536) (w : World) :
    Calls Tryd.prog 30 #[.agg (ns .i64 n)] w fun e w' => e = .returned (.agg (ns .i64 (d24 (5 * vl 65536 n)))) ∧ Below w.heap.size w w' := by
  have HS0 : Hid _ := Cv.start w n
  rw [zeros24] at HS0
  have HM : Hid (∀ i, n.getD i 0 ≤ 65536) := hM
  have hzl : (n.map (5 * ·)).length = 24 := by rw [List.length_map, hn]
  have HZ : Hid (∀ k, k < 24 → (n.map (5 * ·)).getD k 0 = 5 * n.getD k 0) := fun k hk => by
    simp [List.getD_eq_getElem?_getD, hn, hk]
  have HCA : Hid (∀ W, Calls Tryd.prog 31 #[.agg (ns .i64 (n.map (5 * ·)))] W fun e w' => e = .returned (.agg (ns .i64 (d24 (5 * vl 65536 n)))) ∧ Below W.heap.size W w') := fun W => by
    have h := carried_any (n.map (5 * ·)) hzl (fun i => by
      by_cases hi : i < 24
      · rw [HZ.out i hi]
        have := hM i
        omega
      · rw [List.getD_eq_getElem?_getD, List.getElem?_eq_none (by rw [hzl]; omega)]
        exact Nat.zero_le _) W
    rw [vl_map_mul] at h
    exact h
  have hL := d24_length (5 * vl 65536 n)
  clear hM
  revert HZ HCA hzl hL
  generalize d24 (5 * vl 65536 n) = L
  generalize n.map (5 * ·) = Z
  intro hzl HZ HCA hL
  go_enter Tryd.func30, Tryd.ntmps30
  go_wp2
  go_loopg [3] 24 (fun gk i wr => ∃ k : Nat, k + gk = 24 ∧ i = .int .i64 k ∧ Cv w wr (Z.take k ++ n.drop k))
  case atStart => exact ⟨0, by omega, rfl, HS0.out⟩
  case round =>
    clear HS0
    obtain ⟨k, hkk, rfl, HS⟩ := hrel
    have HK : Hid (k + gk = 24) := hkk
    have hk' : k ≤ 24 := by omega
    clear hkk
    by_cases hlt : k < 24
    · have hltI : (k : Int) < 24 := by omega
      have hx := HM.out k
      have hz := HZ.out k hlt
      have c0 := HS.own.cell k (by rw [List.length_append, List.length_take, List.length_drop]; omega)
      rw [mix_get Z n k (by omega)] at c0
      have f0 := HS.own.frozen k
      have HR : Hid (Cv w (wr.setCell ⟨w.heap.size, k, none⟩ (.int .i64 ((n.getD k 0 : Int) * 5))) (Z.take (k + 1) ++ n.drop (k + 1))) := by
        rw [show (n.getD k 0 : Int) * 5 = ((5 * n.getD k 0 : Nat) : Int) by omega, ← hz]
        have h := HS.put k (Z.getD k 0)
        rw [mix_set Z n k (by omega) (by omega)] at h
        exact h
      clear hz HS
      revert hx c0 HR
      generalize n.getD k 0 = x
      intro hx c0 HR
      go_wp2
      go_roundg (gk - 1)
      case measure => have := HK.out; omega
      case rel => exact ⟨k + 1, by have := HK.out; omega, by go_num, HR.out⟩
    · obtain rfl : k = 24 := by omega
      rw [List.take_of_length_le (by omega), List.drop_eq_nil_of_le (by omega), List.append_nil] at HS
      have hres := HS.own
      have hsz := ns24 Z hzl
      have hsz1 := ns24 L hL
      have hone1 := ns_one .i64 L
      have HW : Hid (∀ W, Below wr.heap.size wr W → W.there (w.heap.size + 1) 0 (ns .i64 L).size ∧ Nb .i64 43 (W.setCells (w.heap.size + 1) 0 (ns .i64 L).toList) (w.heap.size + 1) L ∧ Below w.heap.size w (W.setCells (w.heap.size + 1) 0 (ns .i64 L).toList)) := fun W hW => by
        have h2 := HS.res.below hW HS.res.lt
        exact ⟨h2.there _ (by rw [ns_size, hL]; rfl), h2.store _ (by rw [hL]; rfl), Below.setCells (HS.bel.trans (hW.mono HS.bel.size)) (by simp) _ _⟩
      have hca := HCA.out wr
      unfold Nb at hres
      clear HS HK HM HZ HCA
      go_wp2_with (first | (refine wpList_load_row rfl 43 (.tmp 1) rfl w.heap.size rfl 43 _ (0, 0) _ hres Tryd.underlying43 rfl hsz ?_) | (go_at_call 31; refine hca.mono ?_; rintro e w6 ⟨rfl, hb6⟩) | (refine wpList_store_mid rfl 43 (.tmp 2) (.tmp 15) rfl (w.heap.size + 1) 0 _ rfl rfl (HW.out w6 hb6).1 hsz1 hone1 ?_))
      have hT := (HW.out w6 hb6).2.1
      unfold Nb at hT
      refine bodyPost_ret (results_cell_row rfl _ _ (w.heap.size + 1) 43 _ (0, 0) _ rfl hT Tryd.underlying43 rfl hsz1) rfl ?_
      exact ⟨rfl, (HW.out w6 hb6).2.2⟩

/-- what add holds -/
structure Ad (w wr : World) (b m : List Nat) : Prop where
  own : Nb .i64 43 wr w.heap.size m
  two : Nb .i64 43 wr (w.heap.size + 1) b
  res : Nb .i64 43 wr (w.heap.size + 2) (List.replicate 24 0)
  bel : Below w.heap.size w wr

set_option maxRecDepth 20000 in
set_option maxHeartbeats 1000000 in
theorem add_any (a b : List Nat) (ha : a.length = 24) (hb : b.length = 24) (hA : ∀ i, a.getD i 0 ≤ 65536) (hB : ∀ i, b.getD i 0 ≤ 65536) (w : World) :
    Calls Tryd.prog 18 #[.agg (ns .i64 a), .agg (ns .i64 b)] w fun e w' => e = .returned (.agg (ns .i64 (d24 (vl 65536 a + vl 65536 b)))) ∧ Below w.heap.size w w' := by
  have HS0 : Hid (Ad w (((w.alloc (.cells (ns .i64 a) 43)).alloc (.cells (ns .i64 b) 43)).alloc (.cells (ns .i64 (List.replicate 24 0)) 43)) b a) :=
    ⟨((Nb.new _ _ _ _).alloc _).alloc _, (Nb.newN _ _ _ _ _ (by simp)).alloc _, Nb.newN _ _ _ _ _ (by simp), (((Below.refl _ _).alloc (Nat.le_refl _) _).alloc (by simp) _).alloc (by simp; omega) _⟩
  rw [zeros24] at HS0
  have hzl : (List.zipWith (· + ·) a b).length = 24 := by rw [List.length_zipWith, ha, hb]; rfl
  have HZ : Hid (∀ k, k < 24 → (List.zipWith (· + ·) a b).getD k 0 = a.getD k 0 + b.getD k 0) := fun k hk => zip_getD a b k (by omega) (by omega)
  have HA : Hid ((∀ i, a.getD i 0 ≤ 65536) ∧ (∀ i, b.getD i 0 ≤ 65536)) := ⟨hA, hB⟩
  have HCA : Hid (∀ W, Calls Tryd.prog 31 #[.agg (ns .i64 (List.zipWith (· + ·) a b))] W fun e w' => e = .returned (.agg (ns .i64 (d24 (vl 65536 a + vl 65536 b)))) ∧ Below W.heap.size W w') := fun W => by
    have h := carried_any (List.zipWith (· + ·) a b) hzl (fun i => by
      have := zip_lt a b 65537 (by omega) (fun i => by have := hA i; omega) (fun i => by have := hB i; omega) i
      omega) W
    rw [vl_zip_add _ _ _ (by omega)] at h
    exact h
  have hL := d24_length (vl 65536 a + vl 65536 b)
  clear hA hB
  revert HZ HCA hzl hL
  generalize d24 (vl 65536 a + vl 65536 b) = L
  generalize List.zipWith (· + ·) a b = Z
  intro hzl HZ HCA hL
  go_enter Tryd.func18, Tryd.ntmps18
  go_wp2
  go_loopg [5] 24 (fun gk i wr => ∃ k : Nat, k + gk = 24 ∧ i = .int .i64 k ∧ Ad w wr b (Z.take k ++ a.drop k))
  case atStart => exact ⟨0, by omega, rfl, HS0.out⟩
  case round =>
    clear HS0
    obtain ⟨k, hkk, rfl, HS⟩ := hrel
    have HK : Hid (k + gk = 24) := hkk
    have hk' : k ≤ 24 := by omega
    clear hkk
    by_cases hlt : k < 24
    · have hltI : (k : Int) < 24 := by omega
      have hx := HA.out.1 k
      have hy := HA.out.2 k
      have hz := HZ.out k hlt
      have c0 := HS.own.cell k (by rw [List.length_append, List.length_take, List.length_drop]; omega)
      rw [mix_get Z a k (by omega)] at c0
      have c1 := HS.two.cell k (by omega)
      have f0 := HS.own.frozen k
      have HR : Hid (Ad w (wr.setCell ⟨w.heap.size, k, none⟩ (.int .i64 ((a.getD k 0 : Int) + (b.getD k 0 : Int)))).drew b (Z.take (k + 1) ++ a.drop (k + 1))) := by
        rw [← Int.natCast_add, ← hz]
        refine ⟨?_, (HS.two.beside (by simp) _).drew, (HS.res.beside (by simp) _).drew, (HS.bel.setCell (Nat.le_refl _) _).drew⟩
        rw [← mix_set Z a k (by omega) (by omega)]
        exact (HS.own.put k _).drew
      clear hz HS
      revert hx hy c0 c1 HR
      generalize a.getD k 0 = x
      generalize b.getD k 0 = y
      intro hx hy c0 c1 HR
      go_wp2
      go_region
      refine with_world (R := fun W => Exit.inBlock _ _ _ _ W) (Q := fun W => Ad w W b (Z.take (k + 1) ++ a.drop (k + 1))) _ HR.out ?_
      clear HR c0 c1 f0
      intro w9 HP
      go_wp2
      go_roundg (gk - 1)
      case measure => have := HK.out; omega
      case rel => exact ⟨k + 1, by have := HK.out; omega, by go_num, HP⟩
    · obtain rfl : k = 24 := by omega
      rw [List.take_of_length_le (by omega), List.drop_eq_nil_of_le (by omega), List.append_nil] at HS
      have hres := HS.own
      have hsz := ns24 Z hzl
      have hsz1 := ns24 L hL
      have hone1 := ns_one .i64 L
      have HW : Hid (∀ W, Below wr.heap.size wr W → W.there (w.heap.size + 2) 0 (ns .i64 L).size ∧ Nb .i64 43 (W.setCells (w.heap.size + 2) 0 (ns .i64 L).toList) (w.heap.size + 2) L ∧ Below w.heap.size w (W.setCells (w.heap.size + 2) 0 (ns .i64 L).toList)) := fun W hW => by
        have h2 := HS.res.below hW HS.res.lt
        exact ⟨h2.there _ (by rw [ns_size, hL]; rfl), h2.store _ (by rw [hL]; rfl), Below.setCells (HS.bel.trans (hW.mono HS.bel.size)) (by simp) _ _⟩
      have hca := HCA.out wr
      unfold Nb at hres
      clear HS HK HA HZ HCA
      go_wp2_with (first | (refine wpList_load_row rfl 43 (.tmp 2) rfl w.heap.size rfl 43 _ (0, 0) _ hres Tryd.underlying43 rfl hsz ?_) | (go_at_call 31; refine hca.mono ?_; rintro e w6 ⟨rfl, hb6⟩) | (refine wpList_store_mid rfl 43 (.tmp 4) (.tmp 20) rfl (w.heap.size + 2) 0 _ rfl rfl (HW.out w6 hb6).1 hsz1 hone1 ?_))
      have hT := (HW.out w6 hb6).2.1
      unfold Nb at hT
      refine bodyPost_ret (results_cell_row rfl _ _ (w.heap.size + 2) 43 _ (0, 0) _ rfl hT Tryd.underlying43 rfl hsz1) rfl ?_
      exact ⟨rfl, (HW.out w6 hb6).2.2⟩

end Go.Proofs.YtggfeppphhigdabDoor
