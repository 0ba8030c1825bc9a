import Derived.Test.YtggfeppphhigdabDoorR5F
namespace Go.Proofs.YtggfeppphhigdabDoor
open Go.RowKit Go.Lib Go.Deep

/-- what Tag holds: r, the sum so far -/
structure Tg (w wr : World) (g h : Nat) (lr la : List Nat) : Prop where
  rr : Nb .i64 43 wr g lr
  acc : Nb .i64 43 wr h la
  ne : g ≠ h
  gg : w.heap.size ≤ g
  gh : w.heap.size ≤ h
  bel : Below w.heap.size w wr
theorem Tg.below {w wr W : World} {g h : Nat} {lr la : List Nat} (H : Tg w wr g h lr la) (hb : Below wr.heap.size wr W) : Tg w W g h lr la := ⟨H.rr.below hb H.rr.lt, H.acc.below hb H.acc.lt, H.ne, H.gg, H.gh, H.bel.trans (hb.mono H.bel.size)⟩
theorem Tg.drew {w wr : World} {g h : Nat} {lr la : List Nat} (H : Tg w wr g h lr la) : Tg w wr.drew g h lr la := ⟨H.rr, H.acc, H.ne, H.gg, H.gh, H.bel.drew⟩
theorem Tg.store {w wr : World} {g h : Nat} {lr la : List Nat} (H : Tg w wr g h lr la) (l : List Nat) (hl : l.length = 24) (ha : la.length = 24) : Tg w (wr.setCells h 0 (ns .i64 l).toList) g h lr l := ⟨H.rr.aside H.ne _ _, H.acc.store l (by rw [hl, ha]), H.ne, H.gg, H.gh, Below.setCells H.bel H.gh _ _⟩

theorem rnum_block (x : List UInt8) (h : x.length ≤ 16) : numL (x ++ [1]) < 1361129467683753853853498429727072845824 := by
  have h2 : numL (x ++ [1]) = numL x + 256 ^ x.length * 1 := by rw [numL_append]; rfl
  have h3 := numL_lt x
  have h4 : 256 ^ x.length ≤ 256 ^ 16 := Nat.pow_le_pow_right (by omega) h
  simp only [Nat.reducePow] at h4
  omega

theorem rtag_no (key text : ByteArray) (hk : key.size ≠ 32) (w : World) : Calls Tryd.prog 6 #[.string key, .string text] w fun e w' => e = .returned (.tuple #[.string (str []), .int .i64 40]) ∧ w = w' := by
  have hkI : ¬ (key.size : Int) = 32 := by omega
  go_enter Tryd.func6, Tryd.ntmps6
  go_wp2
  go_ret2
  exact ⟨rfl, rfl⟩

theorem bytes_digit (V m : Nat) (hm : m < 24) : Lib.byteCells (bytL (2 * (m + 1)) V) = (Lib.byteCells (bytL (2 * m) V) ++ [.int .u8 (((d24 V).getD m 0 : Int) % 256)]) ++ [.int .u8 (((d24 V).getD m 0 : Int) / 256)] := by
  have e0 : (d24 V).getD m 0 = V / 65536 ^ m % 65536 := dg_getD _ _ _ _ hm
  have e1 : (65536 : Nat) ^ m = 256 ^ (2 * m) := by rw [show (65536 : Nat) = 256 ^ 2 from rfl, ← Nat.pow_mul]
  have e2 : V / 256 ^ (2 * m + 1) = V / 256 ^ (2 * m) / 256 := by rw [Nat.pow_succ, Nat.div_div_eq_div_mul]
  unfold bytL
  rw [show 2 * (m + 1) = 2 * m + 1 + 1 by omega, dg_snoc, dg_snoc, List.map_append, List.map_append, byteCells_append, byteCells_append, e2, e0, e1]
  generalize V / 256 ^ (2 * m) = q
  congr 1
  · congr 1
    simp only [Lib.byteCells, List.map_cons, List.map_nil]
    rw [ofNat_toNat _ (Nat.mod_lt _ (by omega))]
    congr 2
    omega
  · simp only [Lib.byteCells, List.map_cons, List.map_nil]
    rw [ofNat_toNat _ (Nat.mod_lt _ (by omega))]
    congr 2
    omega

set_option maxRecDepth 20000 in
set_option maxHeartbeats 4000000 in
theorem rtag_yes (key text : ByteArray) (hk : key.size = 32) (h63 : text.size ≤ 9223372036854775000) (w : World) :
    Calls Tryd.prog 6 #[.string key, .string text] w fun e w' => e = .returned (.tuple #[.string (str (tagL key.data.toList text.data.toList)), .int .i64 0]) ∧ Below w.heap.size w w' := by
  obtain ⟨i0, hi, hz0, hz1, hz2⟩ := info_parts info5
  have hkI : (key.size : Int) = 32 := by omega
  have hkl : key.data.toList.length = 32 := by rw [← size_eq]; exact hk
  have hlen : text.data.toList.length = text.size := (size_eq text).symm
  have hcl := clamped_any key hk w
  have hcz : (str (clampL key.data.toList)).size = 16 := by rw [str_size, clampL_length _ (by omega)]
  have hn1 : ∀ W, Calls Tryd.prog 14 #[.string (str (clampL key.data.toList)), .int .i64 0] W fun e w' => e = .returned (.agg (ns .i64 (d24 (rOf key.data.toList)))) ∧ Below W.heap.size W w' := fun W => by
    have h := rnumber_any (str (clampL key.data.toList)) 0 (by omega) (by omega) W
    rw [str_data, Nat.mul_zero, Nat.add_zero] at h
    exact h
  have hs2 : ∀ W : World, (Instr.slice 9 (.string key) (some (.int .i64 16)) none none).run Tryd.prog W = .ok (.string (str (key.data.toList.drop 16))) W := fun W => by
    have h := run_slice_string_l (P := Tryd.prog) W 9 key Tryd.underlying9 .i64 16 (by omega) (by omega)
    rw [← str_of (key.extract _ _)] at h
    have e : (key.extract 16 key.size).data.toList = key.data.toList.drop 16 := by
      have h0 : (key.extract 16 key.size).data = key.data.extract 16 key.size := by simp
      rw [h0, Array.toList_extract]
      simp only [List.extract]
      rw [List.take_of_length_le]
      rw [List.length_drop, hkl, hk]
      exact Nat.le_refl _
    rw [show Int.toNat 16 = 16 from rfl, e] at h
    exact h
  have HNS : Hid (∀ W, Calls Tryd.prog 14 #[.string (str (key.data.toList.drop 16)), .int .i64 0] W fun e w' => e = .returned (.agg (ns .i64 (d24 (sOf key.data.toList)))) ∧ Below W.heap.size W w') := fun W => by
    have h := rnumber_any (str (key.data.toList.drop 16)) 0 (by rw [str_size, List.length_drop]; omega) (by omega) W
    rw [str_data, Nat.mul_zero, Nat.add_zero] at h
    exact h
  have hr := rOf_lt key.data.toList (by omega)
  have hs := sOf_lt key.data.toList hkl
  have HTG : Hid (tagL key.data.toList text.data.toList = bytL 16 (accN (rOf key.data.toList) text.data.toList ((text.size + 15) / 16) + sOf key.data.toList)) := by
    show _ = _
    rw [tagL, tagN, hlen]
  clear hcz hkl
  revert hcl hn1 hs2 HNS hr hs HTG
  generalize str (clampL key.data.toList) = yc
  generalize str (key.data.toList.drop 16) = ys
  generalize rOf key.data.toList = r
  generalize sOf key.data.toList = s
  intro hcl hn1 hs2 HNS hr hs HTG
  have HADD : Hid (∀ u v, u < 1361129467683753853853498429727072845824 → v < 1361129467683753853853498429727072845824 → ∀ W, Calls Tryd.prog 18 #[.agg (ns .i64 (d24 u)), .agg (ns .i64 (d24 v))] W fun e w' => e = .returned (.agg (ns .i64 (d24 (u + v)))) ∧ Below W.heap.size W w') := fun u v hu hv W => by
    have h := add_any (d24 u) (d24 v) (d24_length u) (d24_length v) (d24_le u) (d24_le v) W
    rw [vl_d24 u (by simp only [Nat.reducePow]; omega), vl_d24 v (by simp only [Nat.reducePow]; omega)] at h
    exact h
  have HTMS : Hid (∀ u, u < 2722258935367507707706996859454145691648 → ∀ W, Calls Tryd.prog 17 #[.agg (ns .i64 (d24 u)), .agg (ns .i64 (d24 r))] W fun e w' => e = .returned (.agg (ns .i64 (d24 (u * r)))) ∧ Below W.heap.size W w') := fun u hu W => rtimes_any u r (by simp only [Nat.reducePow]; omega) (by simp only [Nat.reducePow]; omega) W
  have HMOD : Hid (∀ u, u < 2722258935367507707706996859454145691648 → ∀ W, Calls Tryd.prog 16 #[.agg (ns .i64 (d24 (u * r)))] W fun e w' => e = .returned (.agg (ns .i64 (d24 (u * r % Pp)))) ∧ Below W.heap.size W w') := fun u hu W => modulo_any (u * r) (by
    have h1 : u * r < 2722258935367507707706996859454145691648 * 340282366920938463463374607431768211456 := Nat.mul_lt_mul'' hu hr
    refine Nat.lt_of_lt_of_le h1 ?_
    simp only [Nat.reducePow, Nat.reduceMul]
    omega) W
  have hlr := d24_length r
  have hszR := ns24 _ hlr
  have honR := ns_one .i64 (d24 r)
  have hsR : (ns .i64 (d24 r)).size = 24 := by rw [ns_size, hlr]
  have hzR : (Tryd.prog.info? 43).map (·.size) = some (nsL .i64 (d24 r)).length := by rw [nsL_length, hlr]; exact size43
  have ha0 : ns .i64 (d24 (accN r text.data.toList 0)) = ns .i64 (List.replicate 24 0) := by rw [accN, d24_zero]
  have HLR : Hid (d24 r = d24 r) := rfl
  revert hn1 hlr hszR honR hsR hzR HTMS
  generalize d24 r = LR
  intro hn1 HTMS hlr hszR honR hsR hzR
  clear HLR
  go_enter Tryd.func6, Tryd.ntmps6
  go_wp2_with fail
  refine hcl.mono ?_
  rintro e w1 ⟨rfl, hb1⟩
  clear hcl
  go_wp2_with fail
  refine (hn1 w1).mono ?_
  rintro e w2 ⟨rfl, hb2'⟩
  have hb2 := hb1.trans (hb2'.mono hb1.size)
  clear hn1 hb2' hb1
  have HT1 : Hid (∀ z : Array Value, z.size = 24 → (w2.alloc (.cells z 43)).there w2.heap.size 0 (ns .i64 LR).size ∧ Nb .i64 43 ((w2.alloc (.cells z 43)).setCells w2.heap.size 0 (ns .i64 LR).toList) w2.heap.size LR ∧ Below w.heap.size w ((w2.alloc (.cells z 43)).setCells w2.heap.size 0 (ns .i64 LR).toList)) := fun z hz => by
    have g3 := heap_setCells w2.heap.size 43 (ns .i64 LR).toList 0 z _ (heap_new w2 (.cells z 43))
    rw [setMany_all _ _ (by rw [Array.length_toList, hsR, hz]), Array.toArray_toList] at g3
    exact ⟨there_of_heap (heap_new _ _) (by rw [hsR, hz]; decide), g3, Below.setCells (hb2.alloc hb2.size _) hb2.size 0 (ns .i64 LR).toList⟩
  go_upto_region 4 with (refine wpList_store_mid rfl 43 (.tmp 6) (.tmp 17) rfl w2.heap.size 0 _ rfl rfl (HT1.out _ rfl).1 hszR honR ?_)
  (try simp only [put_none])
  refine with_world (R := fun W => Code.wp _ _ _ _ W) (Q := fun W => Nb .i64 43 W w2.heap.size LR ∧ Below w.heap.size w W) _ (HT1.out _ rfl).2 ?_
  have hgz := hb2.size
  clear HT1 hb2 hszR honR hsR
  revert hgz
  generalize w2.heap.size = g
  intro hgz
  rintro w3 ⟨hn3, hb3⟩
  have HT0 : Hid (Tg w (w3.alloc (.cells (ns .i64 (d24 (accN r text.data.toList 0))) 43)) g w3.heap.size LR (d24 (accN r text.data.toList 0))) := ⟨hn3.alloc _, Nb.new _ _ _ _, by have := hn3.lt; omega, hgz, hb3.size, hb3.alloc hb3.size _⟩
  rw [ha0, zeros24] at HT0
  clear hn3 hb3 hgz ha0
  go_wp2
  refine with_world (R := fun W => Code.wp _ _ _ _ W) (Q := fun W => Tg w W g w3.heap.size LR (d24 (accN r text.data.toList 0))) _ HT0.out ?_
  clear HT0
  generalize w3.heap.size = h
  intro w4 HT0
  go_loopg [8] ((text.size + 15) / 16) (fun gk a wr => ∃ k : Nat, k + gk = (text.size + 15) / 16 ∧ a = .int .i64 (16 * (k : Int)) ∧ Tg w wr g h LR (d24 (accN r text.data.toList k)))
  case atStart => exact ⟨0, by omega, rfl, HT0⟩
  case round =>
    clear HT0
    obtain ⟨k, hkk, rfl, HS⟩ := hrel
    have HK : Hid (k + gk = (text.size + 15) / 16) := hkk
    have hk' : k ≤ (text.size + 15) / 16 := by omega
    clear hkk
    have hacl := accN_lt r text.data.toList k
    unfold Pp at hacl
    by_cases hlt : 16 * k < text.size
    · have hltI : 16 * (k : Int) < (text.size : Int) := by omega
      obtain ⟨en, hen⟩ : ∃ en, min (16 * k + 16) text.size = en := ⟨_, rfl⟩
      have hblk : (text.data.toList.drop (16 * k)).take 16 = (text.data.toList.drop (16 * k)).take (en - 16 * k) := by
        by_cases h : 16 * k + 16 ≤ text.size
        · rw [show en - 16 * k = 16 by omega]
        · rw [List.take_of_length_le (by rw [List.length_drop, hlen]; omega), List.take_of_length_le (by rw [List.length_drop, hlen]; omega)]
      have hbll : ((text.data.toList.drop (16 * k)).take 16).length = en - 16 * k := by rw [List.length_take, List.length_drop, hlen]; omega
      have hsl : ∀ W : World, (Instr.slice 9 (.string text) (some (.int .i64 (16 * (k : Int)))) (some (.int .i64 (en : Int))) none).run Tryd.prog W = .ok (.string (str ((text.data.toList.drop (16 * k)).take 16))) W := fun W => by
        rw [run_slice_string (P := Tryd.prog) W 9 text .i64 .i64 (16 * (k : Int)) (en : Int) Tryd.underlying9 (by omega) (by omega) (by omega)]
        congr 2
        rw [← str_of (text.extract _ _)]
        congr 1
        rw [show (16 * (k : Int)).toNat = 16 * k by omega, show ((en : Int)).toNat = en by omega, hblk]
        have h0 : (text.extract (16 * k) en).data = text.data.extract (16 * k) en := by simp
        rw [h0, Array.toList_extract]
      have hnb := rnum_block ((text.data.toList.drop (16 * k)).take 16) (by omega)
      have HNU0 : ∀ W, Calls Tryd.prog 14 #[.string (str ((text.data.toList.drop (16 * k)).take 16)), .int .i64 1] W fun e w' => e = .returned (.agg (ns .i64 (d24 (numL ((text.data.toList.drop (16 * k)).take 16 ++ [1]))))) ∧ Below W.heap.size W w' := fun W => by
        have h := rnumber_any (str ((text.data.toList.drop (16 * k)).take 16)) 1 (by rw [str_size]; omega) (by omega) W
        rw [str_data, str_size] at h
        rw [numL_append, show numL [1] = 1 from rfl]
        exact h
      have had0 := HADD.out _ _ (show accN r text.data.toList k < 1361129467683753853853498429727072845824 by omega) hnb
      have htm0 := HTMS.out (accN r text.data.toList k + numL ((text.data.toList.drop (16 * k)).take 16 ++ [1])) (by omega)
      have hmo0 := HMOD.out (accN r text.data.toList k + numL ((text.data.toList.drop (16 * k)).take 16 ++ [1])) (by omega)
      rw [show (accN r text.data.toList k + numL ((text.data.toList.drop (16 * k)).take 16 ++ [1])) * r % Pp = accN r text.data.toList (k + 1) from rfl] at hmo0
      have hlA := d24_length (accN r text.data.toList k)
      have hlB := d24_length (accN r text.data.toList (k + 1))
      clear hblk hbll hnb hacl HADD HTMS HMOD HNS
      generalize hLB : d24 (accN r text.data.toList (k + 1)) = LB at *
      have HLB : Hid (d24 (accN r text.data.toList (k + 1)) = LB) := hLB
      clear hLB
      generalize d24 ((accN r text.data.toList k + numL ((text.data.toList.drop (16 * k)).take 16 ++ [1])) * r) = LT at *
      generalize d24 (accN r text.data.toList k + numL ((text.data.toList.drop (16 * k)).take 16 ++ [1])) = LS at *
      generalize d24 (numL ((text.data.toList.drop (16 * k)).take 16 ++ [1])) = LN at *
      generalize d24 (accN r text.data.toList k) = LA at *
      generalize str ((text.data.toList.drop (16 * k)).take 16) = yb at *
      have HNU : Hid _ := HNU0
      have HAD : Hid _ := had0
      have HTI : Hid _ := htm0
      have HMO : Hid _ := hmo0
      clear HNU0 had0 htm0 hmo0
      have hzA : (Tryd.prog.info? 43).map (·.size) = some (nsL .i64 LA).length := by rw [nsL_length, hlA]; exact size43
      by_cases hgt : text.size < 16 * k + 16
      · have hgtI : (text.size : Int) < 16 * (k : Int) + 16 := by omega
        obtain rfl : en = text.size := by omega
        go_upto_region 11 with fail
        refine wp_region_held_drew (S := fun W => W.rangeAt g 0 (nsL .i64 LR)) (by kernel_rfl) HS.drew.rr.rng ?_
        intro hS
        have HV := HS.drew
        clear HS
        revert HV hS
        generalize wr.drew = V
        intro hS HV
        refine wpAnyH_take (i := 1) (oi := { dst := some 33, op := .move (.tmp 1), type := _, pos := _, after := _, guard := none }) (v := .string text) rfl (by kernel_rfl) (by kernel_rfl) (by kernel_rfl) (fun _ _ _ h => h) (Or.inl ⟨by rfl, by intro x _; go_simp⟩) hS ?_
        (try simp only [Act.put, List.setIfInBounds_toArray, List.set_cons_zero, List.set_cons_succ])
        refine wpAnyH_take (i := 2) (oi := { dst := some 34, op := .move (.tmp 8), type := _, pos := _, after := _, guard := none }) (v := .int .i64 (16 * (k : Int))) rfl (by kernel_rfl) (by kernel_rfl) (by kernel_rfl) (fun _ _ _ h => h) (Or.inl ⟨by rfl, by intro x _; go_simp⟩) hS ?_
        (try simp only [Act.put, List.setIfInBounds_toArray, List.set_cons_zero, List.set_cons_succ])
        refine wpAnyH_take (i := 3) (oi := { dst := some 35, op := .move (.tmp 9), type := _, pos := _, after := _, guard := none }) (v := .int .i64 (text.size : Int)) rfl (by kernel_rfl) (by kernel_rfl) (by kernel_rfl) (fun _ _ _ h => h) (Or.inl ⟨by rfl, by intro x _; go_simp⟩) hS ?_
        (try simp only [Act.put, List.setIfInBounds_toArray, List.set_cons_zero, List.set_cons_succ])
        refine wpAnyH_take (i := 4) (oi := { dst := some 36, op := .slice 9 (.tmp 33) (some (.tmp 34)) (some (.tmp 35)) none, type := _, pos := _, after := _, guard := none }) (v := .string yb) rfl (by kernel_rfl) (by kernel_rfl) (by kernel_rfl) (fun _ _ _ h => h) (Or.inl ⟨by rfl, by intro x _; go_simp⟩) hS ?_
        (try simp only [Act.put, List.setIfInBounds_toArray, List.set_cons_zero, List.set_cons_succ])
        refine wpAnyH_take (i := 7) (oi := { dst := some 39, op := .load 43 (.tmp 6), type := _, pos := _, after := _, guard := none }) (v := .agg (nsL .i64 LR).toArray) rfl (by kernel_rfl) (by kernel_rfl) (by kernel_rfl) (fun _ _ _ h => h) (yieldsIf_load_mid (by rfl) 43 (.tmp 6) rfl g 0 (by simp [Act.eval]) (nsL .i64 LR) _ (fun x hx => hx) Tryd.underlying43 rfl hzR) hS ?_
        (try simp only [Act.put, List.setIfInBounds_toArray, List.set_cons_zero, List.set_cons_succ])
        refine wpAnyH_ready (rs := [0, 5]) (by kernel_rfl) (by simp) ?_
        refine AllReadyH.cons (o := { dst := some 32, op := .load 43 (.tmp 7), type := _, pos := _, after := _, guard := none }) rfl (fun K hK => ?_) (AllReadyH.cons (o := { dst := some 37, op := .call { callee := .value (.func 14), args := #[.tmp 36, .const (.int .i64 1)], argTypes := #[9, 3] }, type := _, pos := _, after := _, guard := none }) rfl (fun K hK => ?_) AllReadyH.nil)
        · refine step_load_mid rfl 43 (.tmp 7) rfl h 0 (by simp [Act.eval]) (nsL .i64 LA) _ HV.acc.rng Tryd.underlying43 rfl hzA ?_
          refine hK.out _ _ hS (fun _ => ?_)
          clear hK K
          (try simp only [Act.put, List.setIfInBounds_toArray, List.set_cons_zero, List.set_cons_succ])
          refine wpAnyH_ready (rs := [5]) (by kernel_rfl) (by simp) ?_
          refine AllReadyH.cons (o := { dst := some 37, op := .call { callee := .value (.func 14), args := #[.tmp 36, .const (.int .i64 1)], argTypes := #[9, 3] }, type := _, pos := _, after := _, guard := none }) rfl (fun K hK => ?_) AllReadyH.nil
          go_simp
          refine (HNU.out V).mono ?_
          rintro e W2 ⟨rfl, hbc⟩
          have HV2 := HV.below hbc
          have hS2 := HV2.rr.rng
          refine hK.out _ _ hS2 (fun _ => ?_)
          clear hK K
          (try simp only [Act.put, List.setIfInBounds_toArray, List.set_cons_zero, List.set_cons_succ])
          revert HV2 hS2
          clear HV hbc hS
          generalize W2 = V
          intro HV hS
          refine wpAnyH_ready (rs := [6]) (by kernel_rfl) (by simp) ?_
          refine AllReadyH.cons (o := { dst := some 38, op := .call { callee := .value (.func 18), args := #[.tmp 32, .tmp 37], argTypes := #[43, 43] }, type := _, pos := _, after := _, guard := none }) rfl (fun K hK => ?_) AllReadyH.nil
          go_simp
          refine (HAD.out V).mono ?_
          rintro e W2 ⟨rfl, hbc⟩
          have HV2 := HV.below hbc
          have hS2 := HV2.rr.rng
          refine hK.out _ _ hS2 (fun _ => ?_)
          clear hK K
          (try simp only [Act.put, List.setIfInBounds_toArray, List.set_cons_zero, List.set_cons_succ])
          revert HV2 hS2
          clear HV hbc hS
          generalize W2 = V
          intro HV hS
          refine wpAnyH_ready (rs := [8]) (by kernel_rfl) (by simp) ?_
          refine AllReadyH.cons (o := { dst := some 40, op := .call { callee := .value (.func 17), args := #[.tmp 38, .tmp 39], argTypes := #[43, 43] }, type := _, pos := _, after := _, guard := none }) rfl (fun K hK => ?_) AllReadyH.nil
          go_simp
          refine (HTI.out V).mono ?_
          rintro e W2 ⟨rfl, hbc⟩
          have HV2 := HV.below hbc
          have hS2 := HV2.rr.rng
          refine hK.out _ _ hS2 (fun _ => ?_)
          clear hK K
          (try simp only [Act.put, List.setIfInBounds_toArray, List.set_cons_zero, List.set_cons_succ])
          revert HV2 hS2
          clear HV hbc hS
          generalize W2 = V
          intro HV hS
          refine wpAnyH_ready (rs := [9]) (by kernel_rfl) (by simp) ?_
          refine AllReadyH.cons (o := { dst := some 41, op := .call { callee := .value (.func 16), args := #[.tmp 40], argTypes := #[43] }, type := _, pos := _, after := _, guard := none }) rfl (fun K hK => ?_) AllReadyH.nil
          go_simp
          refine (HMO.out V).mono ?_
          rintro e W2 ⟨rfl, hbc⟩
          have HV2 := HV.below hbc
          have hS2 := HV2.rr.rng
          refine hK.out _ _ hS2 (fun _ => ?_)
          clear hK K
          (try simp only [Act.put, List.setIfInBounds_toArray, List.set_cons_zero, List.set_cons_succ])
          revert HV2 hS2
          clear HV hbc hS
          generalize W2 = V
          intro HV hS
          refine wpAnyH_ready (rs := [10]) (by kernel_rfl) (by simp) ?_
          refine AllReadyH.cons (o := { dst := none, op := .store 43 (.tmp 7) (.tmp 41), type := _, pos := _, after := _, guard := none }) rfl (fun K hK => ?_) AllReadyH.nil
          refine step_store_mid rfl 43 (.tmp 7) (.tmp 41) rfl h 0 (ns .i64 LB) (by simp [Act.eval]) (by simp [Act.eval, ns]) (HV.acc.there _ (by rw [ns_size, hlB, hlA])) (ns24 LB hlB) (ns_one .i64 LB) ?_
          have H2 := HV.store LB hlB hlA
          refine hK.out _ _ H2.rr.rng (fun _ => ?_)
          clear hK K hS
          (try simp only [Act.put])
          refine wpAnyH_done (by kernel_rfl) ?_ _
          revert H2
          generalize V.setCells h 0 (ns .i64 LB).toList = w5
          intro H2
          go_wp2
          go_roundg (gk - 1)
          case measure => have := HK.out; omega
          case rel => exact ⟨k + 1, by have := HK.out; omega, by go_num, by rw [HLB.out]; exact H2⟩
        · go_simp
          refine (HNU.out V).mono ?_
          rintro e W2 ⟨rfl, hbc⟩
          have HV2 := HV.below hbc
          have hS2 := HV2.rr.rng
          refine hK.out _ _ hS2 (fun _ => ?_)
          clear hK K
          (try simp only [Act.put, List.setIfInBounds_toArray, List.set_cons_zero, List.set_cons_succ])
          revert HV2 hS2
          clear HV hbc hS
          generalize W2 = V
          intro HV hS
          refine wpAnyH_ready (rs := [0]) (by kernel_rfl) (by simp) ?_
          refine AllReadyH.cons (o := { dst := some 32, op := .load 43 (.tmp 7), type := _, pos := _, after := _, guard := none }) rfl (fun K hK => ?_) AllReadyH.nil
          refine step_load_mid rfl 43 (.tmp 7) rfl h 0 (by simp [Act.eval]) (nsL .i64 LA) _ HV.acc.rng Tryd.underlying43 rfl hzA ?_
          refine hK.out _ _ hS (fun _ => ?_)
          clear hK K
          (try simp only [Act.put, List.setIfInBounds_toArray, List.set_cons_zero, List.set_cons_succ])
          refine wpAnyH_ready (rs := [6]) (by kernel_rfl) (by simp) ?_
          refine AllReadyH.cons (o := { dst := some 38, op := .call { callee := .value (.func 18), args := #[.tmp 32, .tmp 37], argTypes := #[43, 43] }, type := _, pos := _, after := _, guard := none }) rfl (fun K hK => ?_) AllReadyH.nil
          go_simp
          refine (HAD.out V).mono ?_
          rintro e W2 ⟨rfl, hbc⟩
          have HV2 := HV.below hbc
          have hS2 := HV2.rr.rng
          refine hK.out _ _ hS2 (fun _ => ?_)
          clear hK K
          (try simp only [Act.put, List.setIfInBounds_toArray, List.set_cons_zero, List.set_cons_succ])
          revert HV2 hS2
          clear HV hbc hS
          generalize W2 = V
          intro HV hS
          refine wpAnyH_ready (rs := [8]) (by kernel_rfl) (by simp) ?_
          refine AllReadyH.cons (o := { dst := some 40, op := .call { callee := .value (.func 17), args := #[.tmp 38, .tmp 39], argTypes := #[43, 43] }, type := _, pos := _, after := _, guard := none }) rfl (fun K hK => ?_) AllReadyH.nil
          go_simp
          refine (HTI.out V).mono ?_
          rintro e W2 ⟨rfl, hbc⟩
          have HV2 := HV.below hbc
          have hS2 := HV2.rr.rng
          refine hK.out _ _ hS2 (fun _ => ?_)
          clear hK K
          (try simp only [Act.put, List.setIfInBounds_toArray, List.set_cons_zero, List.set_cons_succ])
          revert HV2 hS2
          clear HV hbc hS
          generalize W2 = V
          intro HV hS
          refine wpAnyH_ready (rs := [9]) (by kernel_rfl) (by simp) ?_
          refine AllReadyH.cons (o := { dst := some 41, op := .call { callee := .value (.func 16), args := #[.tmp 40], argTypes := #[43] }, type := _, pos := _, after := _, guard := none }) rfl (fun K hK => ?_) AllReadyH.nil
          go_simp
          refine (HMO.out V).mono ?_
          rintro e W2 ⟨rfl, hbc⟩
          have HV2 := HV.below hbc
          have hS2 := HV2.rr.rng
          refine hK.out _ _ hS2 (fun _ => ?_)
          clear hK K
          (try simp only [Act.put, List.setIfInBounds_toArray, List.set_cons_zero, List.set_cons_succ])
          revert HV2 hS2
          clear HV hbc hS
          generalize W2 = V
          intro HV hS
          refine wpAnyH_ready (rs := [10]) (by kernel_rfl) (by simp) ?_
          refine AllReadyH.cons (o := { dst := none, op := .store 43 (.tmp 7) (.tmp 41), type := _, pos := _, after := _, guard := none }) rfl (fun K hK => ?_) AllReadyH.nil
          refine step_store_mid rfl 43 (.tmp 7) (.tmp 41) rfl h 0 (ns .i64 LB) (by simp [Act.eval]) (by simp [Act.eval, ns]) (HV.acc.there _ (by rw [ns_size, hlB, hlA])) (ns24 LB hlB) (ns_one .i64 LB) ?_
          have H2 := HV.store LB hlB hlA
          refine hK.out _ _ H2.rr.rng (fun _ => ?_)
          clear hK K hS
          (try simp only [Act.put])
          refine wpAnyH_done (by kernel_rfl) ?_ _
          revert H2
          generalize V.setCells h 0 (ns .i64 LB).toList = w5
          intro H2
          go_wp2
          go_roundg (gk - 1)
          case measure => have := HK.out; omega
          case rel => exact ⟨k + 1, by have := HK.out; omega, by go_num, by rw [HLB.out]; exact H2⟩
      · have hgtI : ¬ (text.size : Int) < 16 * (k : Int) + 16 := by omega
        obtain rfl : en = 16 * k + 16 := by omega
        rw [show ((16 * k + 16 : Nat) : Int) = 16 * (k : Int) + 16 by omega] at hsl
        go_upto_region 11 with fail
        refine wp_region_held_drew (S := fun W => W.rangeAt g 0 (nsL .i64 LR)) (by kernel_rfl) HS.drew.rr.rng ?_
        intro hS
        have HV := HS.drew
        clear HS
        revert HV hS
        generalize wr.drew = V
        intro hS HV
        refine wpAnyH_take (i := 1) (oi := { dst := some 33, op := .move (.tmp 1), type := _, pos := _, after := _, guard := none }) (v := .string text) rfl (by kernel_rfl) (by kernel_rfl) (by kernel_rfl) (fun _ _ _ h => h) (Or.inl ⟨by rfl, by intro x _; go_simp⟩) hS ?_
        (try simp only [Act.put, List.setIfInBounds_toArray, List.set_cons_zero, List.set_cons_succ])
        refine wpAnyH_take (i := 2) (oi := { dst := some 34, op := .move (.tmp 8), type := _, pos := _, after := _, guard := none }) (v := .int .i64 (16 * (k : Int))) rfl (by kernel_rfl) (by kernel_rfl) (by kernel_rfl) (fun _ _ _ h => h) (Or.inl ⟨by rfl, by intro x _; go_simp⟩) hS ?_
        (try simp only [Act.put, List.setIfInBounds_toArray, List.set_cons_zero, List.set_cons_succ])
        refine wpAnyH_take (i := 3) (oi := { dst := some 35, op := .move (.tmp 9), type := _, pos := _, after := _, guard := none }) (v := .int .i64 (16 * (k : Int) + 16)) rfl (by kernel_rfl) (by kernel_rfl) (by kernel_rfl) (fun _ _ _ h => h) (Or.inl ⟨by rfl, by intro x _; go_simp⟩) hS ?_
        (try simp only [Act.put, List.setIfInBounds_toArray, List.set_cons_zero, List.set_cons_succ])
        refine wpAnyH_take (i := 4) (oi := { dst := some 36, op := .slice 9 (.tmp 33) (some (.tmp 34)) (some (.tmp 35)) none, type := _, pos := _, after := _, guard := none }) (v := .string yb) rfl (by kernel_rfl) (by kernel_rfl) (by kernel_rfl) (fun _ _ _ h => h) (Or.inl ⟨by rfl, by intro x _; go_simp⟩) hS ?_
        (try simp only [Act.put, List.setIfInBounds_toArray, List.set_cons_zero, List.set_cons_succ])
        refine wpAnyH_take (i := 7) (oi := { dst := some 39, op := .load 43 (.tmp 6), type := _, pos := _, after := _, guard := none }) (v := .agg (nsL .i64 LR).toArray) rfl (by kernel_rfl) (by kernel_rfl) (by kernel_rfl) (fun _ _ _ h => h) (yieldsIf_load_mid (by rfl) 43 (.tmp 6) rfl g 0 (by simp [Act.eval]) (nsL .i64 LR) _ (fun x hx => hx) Tryd.underlying43 rfl hzR) hS ?_
        (try simp only [Act.put, List.setIfInBounds_toArray, List.set_cons_zero, List.set_cons_succ])
        refine wpAnyH_ready (rs := [0, 5]) (by kernel_rfl) (by simp) ?_
        refine AllReadyH.cons (o := { dst := some 32, op := .load 43 (.tmp 7), type := _, pos := _, after := _, guard := none }) rfl (fun K hK => ?_) (AllReadyH.cons (o := { dst := some 37, op := .call { callee := .value (.func 14), args := #[.tmp 36, .const (.int .i64 1)], argTypes := #[9, 3] }, type := _, pos := _, after := _, guard := none }) rfl (fun K hK => ?_) AllReadyH.nil)
        · refine step_load_mid rfl 43 (.tmp 7) rfl h 0 (by simp [Act.eval]) (nsL .i64 LA) _ HV.acc.rng Tryd.underlying43 rfl hzA ?_
          refine hK.out _ _ hS (fun _ => ?_)
          clear hK K
          (try simp only [Act.put, List.setIfInBounds_toArray, List.set_cons_zero, List.set_cons_succ])
          refine wpAnyH_ready (rs := [5]) (by kernel_rfl) (by simp) ?_
          refine AllReadyH.cons (o := { dst := some 37, op := .call { callee := .value (.func 14), args := #[.tmp 36, .const (.int .i64 1)], argTypes := #[9, 3] }, type := _, pos := _, after := _, guard := none }) rfl (fun K hK => ?_) AllReadyH.nil
          go_simp
          refine (HNU.out V).mono ?_
          rintro e W2 ⟨rfl, hbc⟩
          have HV2 := HV.below hbc
          have hS2 := HV2.rr.rng
          refine hK.out _ _ hS2 (fun _ => ?_)
          clear hK K
          (try simp only [Act.put, List.setIfInBounds_toArray, List.set_cons_zero, List.set_cons_succ])
          revert HV2 hS2
          clear HV hbc hS
          generalize W2 = V
          intro HV hS
          refine wpAnyH_ready (rs := [6]) (by kernel_rfl) (by simp) ?_
          refine AllReadyH.cons (o := { dst := some 38, op := .call { callee := .value (.func 18), args := #[.tmp 32, .tmp 37], argTypes := #[43, 43] }, type := _, pos := _, after := _, guard := none }) rfl (fun K hK => ?_) AllReadyH.nil
          go_simp
          refine (HAD.out V).mono ?_
          rintro e W2 ⟨rfl, hbc⟩
          have HV2 := HV.below hbc
          have hS2 := HV2.rr.rng
          refine hK.out _ _ hS2 (fun _ => ?_)
          clear hK K
          (try simp only [Act.put, List.setIfInBounds_toArray, List.set_cons_zero, List.set_cons_succ])
          revert HV2 hS2
          clear HV hbc hS
          generalize W2 = V
          intro HV hS
          refine wpAnyH_ready (rs := [8]) (by kernel_rfl) (by simp) ?_
          refine AllReadyH.cons (o := { dst := some 40, op := .call { callee := .value (.func 17), args := #[.tmp 38, .tmp 39], argTypes := #[43, 43] }, type := _, pos := _, after := _, guard := none }) rfl (fun K hK => ?_) AllReadyH.nil
          go_simp
          refine (HTI.out V).mono ?_
          rintro e W2 ⟨rfl, hbc⟩
          have HV2 := HV.below hbc
          have hS2 := HV2.rr.rng
          refine hK.out _ _ hS2 (fun _ => ?_)
          clear hK K
          (try simp only [Act.put, List.setIfInBounds_toArray, List.set_cons_zero, List.set_cons_succ])
          revert HV2 hS2
          clear HV hbc hS
          generalize W2 = V
          intro HV hS
          refine wpAnyH_ready (rs := [9]) (by kernel_rfl) (by simp) ?_
          refine AllReadyH.cons (o := { dst := some 41, op := .call { callee := .value (.func 16), args := #[.tmp 40], argTypes := #[43] }, type := _, pos := _, after := _, guard := none }) rfl (fun K hK => ?_) AllReadyH.nil
          go_simp
          refine (HMO.out V).mono ?_
          rintro e W2 ⟨rfl, hbc⟩
          have HV2 := HV.below hbc
          have hS2 := HV2.rr.rng
          refine hK.out _ _ hS2 (fun _ => ?_)
          clear hK K
          (try simp only [Act.put, List.setIfInBounds_toArray, List.set_cons_zero, List.set_cons_succ])
          revert HV2 hS2
          clear HV hbc hS
          generalize W2 = V
          intro HV hS
          refine wpAnyH_ready (rs := [10]) (by kernel_rfl) (by simp) ?_
          refine AllReadyH.cons (o := { dst := none, op := .store 43 (.tmp 7) (.tmp 41), type := _, pos := _, after := _, guard := none }) rfl (fun K hK => ?_) AllReadyH.nil
          refine step_store_mid rfl 43 (.tmp 7) (.tmp 41) rfl h 0 (ns .i64 LB) (by simp [Act.eval]) (by simp [Act.eval, ns]) (HV.acc.there _ (by rw [ns_size, hlB, hlA])) (ns24 LB hlB) (ns_one .i64 LB) ?_
          have H2 := HV.store LB hlB hlA
          refine hK.out _ _ H2.rr.rng (fun _ => ?_)
          clear hK K hS
          (try simp only [Act.put])
          refine wpAnyH_done (by kernel_rfl) ?_ _
          revert H2
          generalize V.setCells h 0 (ns .i64 LB).toList = w5
          intro H2
          go_wp2
          go_roundg (gk - 1)
          case measure => have := HK.out; omega
          case rel => exact ⟨k + 1, by have := HK.out; omega, by go_num, by rw [HLB.out]; exact H2⟩
        · go_simp
          refine (HNU.out V).mono ?_
          rintro e W2 ⟨rfl, hbc⟩
          have HV2 := HV.below hbc
          have hS2 := HV2.rr.rng
          refine hK.out _ _ hS2 (fun _ => ?_)
          clear hK K
          (try simp only [Act.put, List.setIfInBounds_toArray, List.set_cons_zero, List.set_cons_succ])
          revert HV2 hS2
          clear HV hbc hS
          generalize W2 = V
          intro HV hS
          refine wpAnyH_ready (rs := [0]) (by kernel_rfl) (by simp) ?_
          refine AllReadyH.cons (o := { dst := some 32, op := .load 43 (.tmp 7), type := _, pos := _, after := _, guard := none }) rfl (fun K hK => ?_) AllReadyH.nil
          refine step_load_mid rfl 43 (.tmp 7) rfl h 0 (by simp [Act.eval]) (nsL .i64 LA) _ HV.acc.rng Tryd.underlying43 rfl hzA ?_
          refine hK.out _ _ hS (fun _ => ?_)
          clear hK K
          (try simp only [Act.put, List.setIfInBounds_toArray, List.set_cons_zero, List.set_cons_succ])
          refine wpAnyH_ready (rs := [6]) (by kernel_rfl) (by simp) ?_
          refine AllReadyH.cons (o := { dst := some 38, op := .call { callee := .value (.func 18), args := #[.tmp 32, .tmp 37], argTypes := #[43, 43] }, type := _, pos := _, after := _, guard := none }) rfl (fun K hK => ?_) AllReadyH.nil
          go_simp
          refine (HAD.out V).mono ?_
          rintro e W2 ⟨rfl, hbc⟩
          have HV2 := HV.below hbc
          have hS2 := HV2.rr.rng
          refine hK.out _ _ hS2 (fun _ => ?_)
          clear hK K
          (try simp only [Act.put, List.setIfInBounds_toArray, List.set_cons_zero, List.set_cons_succ])
          revert HV2 hS2
          clear HV hbc hS
          generalize W2 = V
          intro HV hS
          refine wpAnyH_ready (rs := [8]) (by kernel_rfl) (by simp) ?_
          refine AllReadyH.cons (o := { dst := some 40, op := .call { callee := .value (.func 17), args := #[.tmp 38, .tmp 39], argTypes := #[43, 43] }, type := _, pos := _, after := _, guard := none }) rfl (fun K hK => ?_) AllReadyH.nil
          go_simp
          refine (HTI.out V).mono ?_
          rintro e W2 ⟨rfl, hbc⟩
          have HV2 := HV.below hbc
          have hS2 := HV2.rr.rng
          refine hK.out _ _ hS2 (fun _ => ?_)
          clear hK K
          (try simp only [Act.put, List.setIfInBounds_toArray, List.set_cons_zero, List.set_cons_succ])
          revert HV2 hS2
          clear HV hbc hS
          generalize W2 = V
          intro HV hS
          refine wpAnyH_ready (rs := [9]) (by kernel_rfl) (by simp) ?_
          refine AllReadyH.cons (o := { dst := some 41, op := .call { callee := .value (.func 16), args := #[.tmp 40], argTypes := #[43] }, type := _, pos := _, after := _, guard := none }) rfl (fun K hK => ?_) AllReadyH.nil
          go_simp
          refine (HMO.out V).mono ?_
          rintro e W2 ⟨rfl, hbc⟩
          have HV2 := HV.below hbc
          have hS2 := HV2.rr.rng
          refine hK.out _ _ hS2 (fun _ => ?_)
          clear hK K
          (try simp only [Act.put, List.setIfInBounds_toArray, List.set_cons_zero, List.set_cons_succ])
          revert HV2 hS2
          clear HV hbc hS
          generalize W2 = V
          intro HV hS
          refine wpAnyH_ready (rs := [10]) (by kernel_rfl) (by simp) ?_
          refine AllReadyH.cons (o := { dst := none, op := .store 43 (.tmp 7) (.tmp 41), type := _, pos := _, after := _, guard := none }) rfl (fun K hK => ?_) AllReadyH.nil
          refine step_store_mid rfl 43 (.tmp 7) (.tmp 41) rfl h 0 (ns .i64 LB) (by simp [Act.eval]) (by simp [Act.eval, ns]) (HV.acc.there _ (by rw [ns_size, hlB, hlA])) (ns24 LB hlB) (ns_one .i64 LB) ?_
          have H2 := HV.store LB hlB hlA
          refine hK.out _ _ H2.rr.rng (fun _ => ?_)
          clear hK K hS
          (try simp only [Act.put])
          refine wpAnyH_done (by kernel_rfl) ?_ _
          revert H2
          generalize V.setCells h 0 (ns .i64 LB).toList = w5
          intro H2
          go_wp2
          go_roundg (gk - 1)
          case measure => have := HK.out; omega
          case rel => exact ⟨k + 1, by have := HK.out; omega, by go_num, by rw [HLB.out]; exact H2⟩
    · have hltI : ¬ 16 * (k : Int) < (text.size : Int) := by omega
      obtain rfl : k = (text.size + 15) / 16 := by omega
      have had0 := HADD.out _ _ (show accN r text.data.toList ((text.size + 15) / 16) < 1361129467683753853853498429727072845824 by omega) (show s < 1361129467683753853853498429727072845824 by omega)
      have hlA := d24_length (accN r text.data.toList ((text.size + 15) / 16))
      have hlB := d24_length (accN r text.data.toList ((text.size + 15) / 16) + s)
      have HVS : Hid (∀ m, m < 8 → Lib.byteCells (bytL (2 * (m + 1)) (accN r text.data.toList ((text.size + 15) / 16) + s)) = (Lib.byteCells (bytL (2 * m) (accN r text.data.toList ((text.size + 15) / 16) + s)) ++ [.int .u8 (((d24 (accN r text.data.toList ((text.size + 15) / 16) + s)).getD m 0 : Int) % 256)]) ++ [.int .u8 (((d24 (accN r text.data.toList ((text.size + 15) / 16) + s)).getD m 0 : Int) / 256)]) := fun m hm => bytes_digit _ m (by omega)
      have HVX : Hid (∀ m, (d24 (accN r text.data.toList ((text.size + 15) / 16) + s)).getD m 0 < 65536) := d24_at _
      clear HADD HTMS HMOD hacl
      generalize hLB : d24 (accN r text.data.toList ((text.size + 15) / 16) + s) = LB at *
      clear hLB
      generalize hVV : accN r text.data.toList ((text.size + 15) / 16) + s = VV at *
      clear hVV
      generalize d24 (accN r text.data.toList ((text.size + 15) / 16)) = LA at *
      generalize d24 s = LN at *
      have HAD : Hid _ := had0
      clear had0
      have hzA : (Tryd.prog.info? 43).map (·.size) = some (nsL .i64 LA).length := by rw [nsL_length, hlA]; exact size43
      go_upto_region 12 with fail
      refine wp_region_held_drew (S := fun W => W.rangeAt g 0 (nsL .i64 LR)) (by kernel_rfl) HS.drew.rr.rng ?_
      intro hS
      have HV := HS.drew
      clear HS
      revert HV hS
      generalize wr.drew = V
      intro hS HV
      refine wpAnyH_take (i := 1) (oi := { dst := some 43, op := .move (.tmp 0), type := _, pos := _, after := _, guard := none }) (v := .string key) rfl (by kernel_rfl) (by kernel_rfl) (by kernel_rfl) (fun _ _ _ h => h) (Or.inl ⟨by rfl, by intro x _; go_simp⟩) hS ?_
      (try simp only [Act.put, List.setIfInBounds_toArray, List.set_cons_zero, List.set_cons_succ])
      refine wpAnyH_take (i := 2) (oi := { dst := some 44, op := .slice 9 (.tmp 43) (some (.const (.int .i64 16))) none none, type := _, pos := _, after := _, guard := none }) (v := .string ys) rfl (by kernel_rfl) (by kernel_rfl) (by kernel_rfl) (fun _ _ _ h => h) (Or.inl ⟨by rfl, by intro x _; go_simp⟩) hS ?_
      (try simp only [Act.put, List.setIfInBounds_toArray, List.set_cons_zero, List.set_cons_succ])
      refine wpAnyH_ready (rs := [0, 3]) (by kernel_rfl) (by simp) ?_
      refine AllReadyH.cons (o := { dst := some 42, op := .load 43 (.tmp 7), type := _, pos := _, after := _, guard := none }) rfl (fun K hK => ?_) (AllReadyH.cons (o := { dst := some 45, op := .call { callee := .value (.func 14), args := #[.tmp 44, .const (.int .i64 0)], argTypes := #[9, 3] }, type := _, pos := _, after := _, guard := none }) rfl (fun K hK => ?_) AllReadyH.nil)
      · refine step_load_mid rfl 43 (.tmp 7) rfl h 0 (by simp [Act.eval]) (nsL .i64 LA) _ HV.acc.rng Tryd.underlying43 rfl hzA ?_
        refine hK.out _ _ hS (fun _ => ?_)
        clear hK K
        (try simp only [Act.put, List.setIfInBounds_toArray, List.set_cons_zero, List.set_cons_succ])
        refine wpAnyH_ready (rs := [3]) (by kernel_rfl) (by simp) ?_
        refine AllReadyH.cons (o := { dst := some 45, op := .call { callee := .value (.func 14), args := #[.tmp 44, .const (.int .i64 0)], argTypes := #[9, 3] }, type := _, pos := _, after := _, guard := none }) rfl (fun K hK => ?_) AllReadyH.nil
        go_simp
        refine (HNS.out V).mono ?_
        rintro e W2 ⟨rfl, hbc⟩
        have HV2 := HV.below hbc
        have hS2 := HV2.rr.rng
        refine hK.out _ _ hS2 (fun _ => ?_)
        clear hK K
        (try simp only [Act.put, List.setIfInBounds_toArray, List.set_cons_zero, List.set_cons_succ])
        revert HV2 hS2
        clear HV hbc hS
        generalize W2 = V
        intro HV hS
        refine wpAnyH_ready (rs := [4]) (by kernel_rfl) (by simp) ?_
        refine AllReadyH.cons (o := { dst := some 46, op := .call { callee := .value (.func 18), args := #[.tmp 42, .tmp 45], argTypes := #[43, 43] }, type := _, pos := _, after := _, guard := none }) rfl (fun K hK => ?_) AllReadyH.nil
        go_simp
        refine (HAD.out V).mono ?_
        rintro e W2 ⟨rfl, hbc⟩
        have HV2 := HV.below hbc
        have hS2 := HV2.rr.rng
        refine hK.out _ _ hS2 (fun _ => ?_)
        clear hK K
        (try simp only [Act.put, List.setIfInBounds_toArray, List.set_cons_zero, List.set_cons_succ])
        revert HV2 hS2
        clear HV hbc hS
        generalize W2 = V
        intro HV hS
        refine wpAnyH_ready (rs := [5]) (by kernel_rfl) (by simp) ?_
        refine AllReadyH.cons (o := { dst := none, op := .store 43 (.tmp 7) (.tmp 46), type := _, pos := _, after := _, guard := none }) rfl (fun K hK => ?_) AllReadyH.nil
        refine step_store_mid rfl 43 (.tmp 7) (.tmp 46) rfl h 0 (ns .i64 LB) (by simp [Act.eval]) (by simp [Act.eval, ns]) (HV.acc.there _ (by rw [ns_size, hlB, hlA])) (ns24 LB hlB) (ns_one .i64 LB) ?_
        have H2 := HV.store LB hlB hlA
        refine hK.out _ _ H2.rr.rng (fun _ => ?_)
        clear hK K hS
        (try simp only [Act.put])
        refine wpAnyH_done (by kernel_rfl) ?_ _
        revert H2
        generalize V.setCells h 0 (ns .i64 LB).toList = w5
        intro H2
        go_wp2
        go_loopg [10, 11] 8 (fun gj v i wx => ∃ m : Nat, m + gj = 8 ∧ i = .int .i64 m ∧ wx.ownsRow w5.heap.size 5 1 v (2 * m) (Lib.byteCells (bytL (2 * m) VV)) ∧ Below w5.heap.size w5 wx)
        case atStart => exact ⟨0, by omega, rfl, World.ownsRow_nil _ _ _ _, Below.refl _ _⟩
        case round =>
          obtain ⟨m, hmm, rfl, hown, hbel⟩ := hrel
          have HM : Hid (m + gk = 8) := hmm
          have hm' : m ≤ 8 := by omega
          clear hmm
          by_cases hml : m < 8
          · have hmlI : (m : Int) < 8 := by omega
            have hmlI2 : (m : Int) < 24 := by omega
            have HC : Hid (∀ W : World, Below w5.heap.size w5 W → W.cell? ⟨h, m, none⟩ = some (.int .i64 ((LB.getD m 0 : Nat) : Int))) := fun W hb => (hb.cell (p := ⟨h, m, none⟩) H2.acc.lt).trans (H2.acc.cell m (by omega))
            have hx := HVX.out m
            have HS : Hid _ := HVS.out m hml
            revert HC hx HS
            generalize LB.getD m 0 = x
            intro HC hx HS
            obtain ⟨cs, hcs⟩ : ∃ cs, Lib.byteCells (bytL (2 * m) VV) = cs := ⟨_, rfl⟩
            rw [hcs] at HS hown
            clear hcs
            have hone1 : ∀ u ∈ [Value.int .u8 ((x : Int) % 256)], u.oneCell' = true := by intro u hu; simp only [List.mem_singleton] at hu; subst hu; rfl
            have hone2 : ∀ u ∈ [Value.int .u8 ((x : Int) / 256)], u.oneCell' = true := by intro u hu; simp only [List.mem_singleton] at hu; subst hu; rfl
            have hml1 : 2 * m + 1 ≤ maxLen := by unfold maxLen; omega
            have hml2 : 2 * m + 1 + 1 ≤ maxLen := by unfold maxLen; omega
            have c0 := HC.out wr hbel
            go_upto_region 18 with (at_builtin; refine wpList_append_own _ rfl _ _ 48 rfl w5.heap.size 5 i0 (.int .u8 0) 1 1 Tryd.underlying48 hi hz0 hz1 hz2 rfl (by decide) _ _ _ rfl (hown.alloc _) ⟨wr.heap.size, 0, none⟩ 1 1 [.int .u8 ((x : Int) % 256)] rfl rfl (by intro j u h; exact cells_new wr #[.int .u8 ((x : Int) % 256)] 5 j u (by simpa using h)) hone1 hml1 (by omega) (by have := hbel.size; simp; omega) ?_; intro v1 w6 hown1 hgrow1 _)
            have hb6 : Below w5.heap.size w5 w6 := by
              have h1 := hbel.alloc hbel.size (.cells #[.int .u8 ((x : Int) % 256)] 5)
              exact h1.trans (grown_below hgrow1 h1.size (hown.alloc _))
            clear c0 hgrow1 hown hbel
            have c0 := HC.out w6 hb6
            go_wp2_with (at_builtin; refine wpList_append_own _ rfl _ _ 48 rfl w5.heap.size 5 i0 (.int .u8 0) 1 1 Tryd.underlying48 hi hz0 hz1 hz2 rfl (by decide) _ _ _ rfl (hown1.alloc _) ⟨w6.heap.size, 0, none⟩ 1 1 [.int .u8 ((x : Int) / 256)] rfl rfl (by intro j u h; exact cells_new w6 #[.int .u8 ((x : Int) / 256)] 5 j u (by simpa using h)) hone2 hml2 (by omega) (by have := hb6.size; simp; omega) ?_; intro v2 w7 hown2 hgrow2 _)
            have hb7 : Below w5.heap.size w5 w7 := by
              have h1 := hb6.alloc hb6.size (.cells #[.int .u8 ((x : Int) / 256)] 5)
              exact h1.trans (grown_below hgrow2 h1.size (hown1.alloc _))
            have R : w7.ownsRow w5.heap.size 5 1 v2 (2 * (m + 1)) (Lib.byteCells (bytL (2 * (m + 1)) VV)) := by rw [HS.out, show 2 * (m + 1) = 2 * m + 1 + 1 by omega]; exact hown2
            clear hown1 hown2 hgrow2 hb6 c0 HC
            go_wp2
            go_roundg (gk - 1)
            case measure => have := HM.out; omega
            case rel => exact ⟨m + 1, by have := HM.out; omega, by go_num, R, hb7⟩
          · obtain rfl : m = 8 := by omega
            have hcv := convert_own (P := Tryd.prog) wr 48 9 5 w5.heap.size _ (bytL 16 VV) Tryd.underlying48 Tryd.underlying5 Tryd.underlying9 (by rw [bytL_length]; exact hown)
            have hbf := H2.bel.trans (hbel.mono H2.bel.size)
            clear hown hbel H2 HM
            go_wp2
            go_ret2
            rw [HTG.out]
            exact ⟨rfl, hbf⟩
      · go_simp
        refine (HNS.out V).mono ?_
        rintro e W2 ⟨rfl, hbc⟩
        have HV2 := HV.below hbc
        have hS2 := HV2.rr.rng
        refine hK.out _ _ hS2 (fun _ => ?_)
        clear hK K
        (try simp only [Act.put, List.setIfInBounds_toArray, List.set_cons_zero, List.set_cons_succ])
        revert HV2 hS2
        clear HV hbc hS
        generalize W2 = V
        intro HV hS
        refine wpAnyH_ready (rs := [0]) (by kernel_rfl) (by simp) ?_
        refine AllReadyH.cons (o := { dst := some 42, op := .load 43 (.tmp 7), type := _, pos := _, after := _, guard := none }) rfl (fun K hK => ?_) AllReadyH.nil
        refine step_load_mid rfl 43 (.tmp 7) rfl h 0 (by simp [Act.eval]) (nsL .i64 LA) _ HV.acc.rng Tryd.underlying43 rfl hzA ?_
        refine hK.out _ _ hS (fun _ => ?_)
        clear hK K
        (try simp only [Act.put, List.setIfInBounds_toArray, List.set_cons_zero, List.set_cons_succ])
        refine wpAnyH_ready (rs := [4]) (by kernel_rfl) (by simp) ?_
        refine AllReadyH.cons (o := { dst := some 46, op := .call { callee := .value (.func 18), args := #[.tmp 42, .tmp 45], argTypes := #[43, 43] }, type := _, pos := _, after := _, guard := none }) rfl (fun K hK => ?_) AllReadyH.nil
        go_simp
        refine (HAD.out V).mono ?_
        rintro e W2 ⟨rfl, hbc⟩
        have HV2 := HV.below hbc
        have hS2 := HV2.rr.rng
        refine hK.out _ _ hS2 (fun _ => ?_)
        clear hK K
        (try simp only [Act.put, List.setIfInBounds_toArray, List.set_cons_zero, List.set_cons_succ])
        revert HV2 hS2
        clear HV hbc hS
        generalize W2 = V
        intro HV hS
        refine wpAnyH_ready (rs := [5]) (by kernel_rfl) (by simp) ?_
        refine AllReadyH.cons (o := { dst := none, op := .store 43 (.tmp 7) (.tmp 46), type := _, pos := _, after := _, guard := none }) rfl (fun K hK => ?_) AllReadyH.nil
        refine step_store_mid rfl 43 (.tmp 7) (.tmp 46) rfl h 0 (ns .i64 LB) (by simp [Act.eval]) (by simp [Act.eval, ns]) (HV.acc.there _ (by rw [ns_size, hlB, hlA])) (ns24 LB hlB) (ns_one .i64 LB) ?_
        have H2 := HV.store LB hlB hlA
        refine hK.out _ _ H2.rr.rng (fun _ => ?_)
        clear hK K hS
        (try simp only [Act.put])
        refine wpAnyH_done (by kernel_rfl) ?_ _
        revert H2
        generalize V.setCells h 0 (ns .i64 LB).toList = w5
        intro H2
        go_wp2
        go_loopg [10, 11] 8 (fun gj v i wx => ∃ m : Nat, m + gj = 8 ∧ i = .int .i64 m ∧ wx.ownsRow w5.heap.size 5 1 v (2 * m) (Lib.byteCells (bytL (2 * m) VV)) ∧ Below w5.heap.size w5 wx)
        case atStart => exact ⟨0, by omega, rfl, World.ownsRow_nil _ _ _ _, Below.refl _ _⟩
        case round =>
          obtain ⟨m, hmm, rfl, hown, hbel⟩ := hrel
          have HM : Hid (m + gk = 8) := hmm
          have hm' : m ≤ 8 := by omega
          clear hmm
          by_cases hml : m < 8
          · have hmlI : (m : Int) < 8 := by omega
            have hmlI2 : (m : Int) < 24 := by omega
            have HC : Hid (∀ W : World, Below w5.heap.size w5 W → W.cell? ⟨h, m, none⟩ = some (.int .i64 ((LB.getD m 0 : Nat) : Int))) := fun W hb => (hb.cell (p := ⟨h, m, none⟩) H2.acc.lt).trans (H2.acc.cell m (by omega))
            have hx := HVX.out m
            have HS : Hid _ := HVS.out m hml
            revert HC hx HS
            generalize LB.getD m 0 = x
            intro HC hx HS
            obtain ⟨cs, hcs⟩ : ∃ cs, Lib.byteCells (bytL (2 * m) VV) = cs := ⟨_, rfl⟩
            rw [hcs] at HS hown
            clear hcs
            have hone1 : ∀ u ∈ [Value.int .u8 ((x : Int) % 256)], u.oneCell' = true := by intro u hu; simp only [List.mem_singleton] at hu; subst hu; rfl
            have hone2 : ∀ u ∈ [Value.int .u8 ((x : Int) / 256)], u.oneCell' = true := by intro u hu; simp only [List.mem_singleton] at hu; subst hu; rfl
            have hml1 : 2 * m + 1 ≤ maxLen := by unfold maxLen; omega
            have hml2 : 2 * m + 1 + 1 ≤ maxLen := by unfold maxLen; omega
            have c0 := HC.out wr hbel
            go_upto_region 18 with (at_builtin; refine wpList_append_own _ rfl _ _ 48 rfl w5.heap.size 5 i0 (.int .u8 0) 1 1 Tryd.underlying48 hi hz0 hz1 hz2 rfl (by decide) _ _ _ rfl (hown.alloc _) ⟨wr.heap.size, 0, none⟩ 1 1 [.int .u8 ((x : Int) % 256)] rfl rfl (by intro j u h; exact cells_new wr #[.int .u8 ((x : Int) % 256)] 5 j u (by simpa using h)) hone1 hml1 (by omega) (by have := hbel.size; simp; omega) ?_; intro v1 w6 hown1 hgrow1 _)
            have hb6 : Below w5.heap.size w5 w6 := by
              have h1 := hbel.alloc hbel.size (.cells #[.int .u8 ((x : Int) % 256)] 5)
              exact h1.trans (grown_below hgrow1 h1.size (hown.alloc _))
            clear c0 hgrow1 hown hbel
            have c0 := HC.out w6 hb6
            go_wp2_with (at_builtin; refine wpList_append_own _ rfl _ _ 48 rfl w5.heap.size 5 i0 (.int .u8 0) 1 1 Tryd.underlying48 hi hz0 hz1 hz2 rfl (by decide) _ _ _ rfl (hown1.alloc _) ⟨w6.heap.size, 0, none⟩ 1 1 [.int .u8 ((x : Int) / 256)] rfl rfl (by intro j u h; exact cells_new w6 #[.int .u8 ((x : Int) / 256)] 5 j u (by simpa using h)) hone2 hml2 (by omega) (by have := hb6.size; simp; omega) ?_; intro v2 w7 hown2 hgrow2 _)
            have hb7 : Below w5.heap.size w5 w7 := by
              have h1 := hb6.alloc hb6.size (.cells #[.int .u8 ((x : Int) / 256)] 5)
              exact h1.trans (grown_below hgrow2 h1.size (hown1.alloc _))
            have R : w7.ownsRow w5.heap.size 5 1 v2 (2 * (m + 1)) (Lib.byteCells (bytL (2 * (m + 1)) VV)) := by rw [HS.out, show 2 * (m + 1) = 2 * m + 1 + 1 by omega]; exact hown2
            clear hown1 hown2 hgrow2 hb6 c0 HC
            go_wp2
            go_roundg (gk - 1)
            case measure => have := HM.out; omega
            case rel => exact ⟨m + 1, by have := HM.out; omega, by go_num, R, hb7⟩
          · obtain rfl : m = 8 := by omega
            have hcv := convert_own (P := Tryd.prog) wr 48 9 5 w5.heap.size _ (bytL 16 VV) Tryd.underlying48 Tryd.underlying5 Tryd.underlying9 (by rw [bytL_length]; exact hown)
            have hbf := H2.bel.trans (hbel.mono H2.bel.size)
            clear hown hbel H2 HM
            go_wp2
            go_ret2
            rw [HTG.out]
            exact ⟨rfl, hbf⟩

end Go.Proofs.YtggfeppphhigdabDoor
