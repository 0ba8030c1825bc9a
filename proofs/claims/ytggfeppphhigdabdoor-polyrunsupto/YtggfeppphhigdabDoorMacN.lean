import Derived.Test.YtggfeppphhigdabDoorMacS
namespace Go.Proofs.YtggfeppphhigdabDoor
open Go.RowKit Go.Lib Go.Deep

theorem index_agg {P : Program} (w : World) (t e : TypeId) (n : Nat) (cs : Array Value) (k kd : IntKind) (i : Nat) (v : Value) (h : P.underlying t = some (.array n e)) (he : P.underlying e = some (.int kd)) (hs : (P.info? e).map (·.size) = some 1)
    (hi : i < n) (hv : cs[i]? = some v) : (Instr.index t (.agg cs) (.int k (i : Int))).run P w = .ok v w := by
  have hagg : (isAgg e).run P w = .ok false w := by
    unfold isAgg
    rw [Sem.run_bind, run_underlying he w]
    rfl
  cases hq : P.info? e with
  | none => simp [hq] at hs
  | some q =>
    have hz : q.size = 1 := by simpa [hq] using hs
    simp [Instr.index, asIntOf, run_underlying h, hi, sizeOf, typeInfo, hq, hz, part, hagg, hv]

theorem Nb.range {kd : IntKind} {t : TypeId} {w : World} {g : Nat} {l : List Nat} (h : Nb kd t w g l) : w.rangeAt g 0 (nsL kd l) := range_of_heap (pre := []) (mid := nsL kd l) (post := []) h (by simp [ns])

/-- the program's table -/
structure KTab (w : World) : Prop where
  kt : w.rangeAt 0 0 (nsL .u8 (nat8 keptL))
theorem KTab.below {w w' : World} {B : Nat} (h : KTab w) (hb : Below B w w') (hB : 0 < B) : KTab w' := ⟨fun j v hv => by
  rw [hb.cell (p := ⟨0, 0 + j, none⟩) hB]
  exact h.kt j v hv⟩

theorem built_mac (R S : List Nat) (hR : R.length = 5) (hS : S.length = 5) : Tryd.prog.built 57 [(0, .bool true), (1, .agg (ns .u64 R)), (2, .agg (ns .u64 S))] = some (mcells R S (List.replicate 5 0) (List.replicate 17 0) 0).toArray := by
  obtain ⟨a, b, c, d, e, rfl⟩ : ∃ a b c d e, R = [a, b, c, d, e] := by
    match R, hR with
    | [a, b, c, d, e], _ => exact ⟨_, _, _, _, _, rfl⟩
  obtain ⟨f, g, h, i, j, rfl⟩ : ∃ a b c d e, S = [a, b, c, d, e] := by
    match S, hS with
    | [a, b, c, d, e], _ => exact ⟨_, _, _, _, _, rfl⟩
  kernel_rfl

theorem clamp_getD (key : List UInt8) (k : Nat) (hk : k < 16) (hl : 16 ≤ key.length) : (clampL key).getD k 0 = key.getD k 0 &&& keptL.getD k 0 := by
  have h1 : k < key.length := by omega
  have h2 : k < keptL.length := hk
  simp [clampL, List.getD_eq_getElem?_getD, List.getElem?_zipWith, hk, h1, h2]

/-- what New holds -/
structure Nw (w wr : World) (a d : List Nat) : Prop where
  one : Nb .u8 50 wr w.heap.size a
  two : Nb .u8 50 wr (w.heap.size + 1) d
  bel : Below w.heap.size w wr

theorem new_no (key : ByteArray) (hk : key.size ≠ 32) (w : World) :
    Calls Tryd.prog 8 #[.string key] w fun e w' => e = .returned (.tuple #[.pointer none, .int .i64 40]) ∧ w = w' := by
  have hkI : ¬ (key.size : Int) = 32 := by omega
  go_enter Tryd.func8, Tryd.ntmps8
  go_wp2
  go_ret2
  exact ⟨rfl, rfl⟩

theorem copy_lists (l : List UInt8) (h : l.length = 16) : (ns .u8 (dg 256 17 0)).toList.take 0 ++ byteCells (l.take 16) ++ (ns .u8 (dg 256 17 0)).toList.drop (0 + 16) = nsL .u8 (nat8 (l ++ [0])) := by
  rw [List.take_zero, List.nil_append, List.take_of_length_le (l := l) (by omega), nat8_append, nsL_append, nat8_cells]
  rfl

set_option maxRecDepth 20000 in
set_option maxHeartbeats 2000000 in
theorem new_yes (key : ByteArray) (hk : key.size = 32) (w : World) (hT : KTab w) (h1 : 0 < w.heap.size) :
    Calls Tryd.prog 8 #[.string key] w fun e w' => (∃ p, e = .returned (.tuple #[.pointer (some ⟨p, 0, none⟩), .int .i64 0]) ∧ w.heap.size ≤ p ∧ Mac w' p (rOf key.data.toList) (sOf key.data.toList) []) ∧ Below w.heap.size w w' := by
  have hkl : key.data.toList.length = 32 := by rw [← size_eq]; exact hk
  have hcl := clampL_length key.data.toList (by omega)
  have HN1 : Hid (∀ W, Calls Tryd.prog 19 #[.agg (ns .u8 (nat8 (clampL key.data.toList ++ [0])))] W fun e w' => e = .returned (.agg (ns .u64 (lim (rOf key.data.toList)))) ∧ Below W.heap.size W w') := fun W => by
    have h := number_any (clampL key.data.toList ++ [0]) (by rw [List.length_append, hcl]; rfl) W
    rw [show numL (clampL key.data.toList ++ [0]) = rOf key.data.toList from numL_pad _ 1] at h
    exact h
  have HN2 : Hid (∀ W, Calls Tryd.prog 19 #[.agg (ns .u8 (nat8 (key.data.toList.drop 16 ++ [0])))] W fun e w' => e = .returned (.agg (ns .u64 (lim (sOf key.data.toList)))) ∧ Below W.heap.size W w') := fun W => by
    have h := number_any (key.data.toList.drop 16 ++ [0]) (by rw [List.length_append, List.length_drop, hkl]; rfl) W
    rw [show numL (key.data.toList.drop 16 ++ [0]) = sOf key.data.toList from numL_pad _ 1] at h
    exact h
  have hbl := built_mac (lim (rOf key.data.toList)) (lim (sOf key.data.toList)) (lim_length _) (lim_length _)
  have HMC : Hid (∀ W : World, Mac (W.alloc (.cells (mcells (lim (rOf key.data.toList)) (lim (sOf key.data.toList)) (List.replicate 5 0) (List.replicate 17 0) 0).toArray 57)) W.heap.size (rOf key.data.toList) (sOf key.data.toList) []) := fun W => by
    refine ⟨0, by omega, rfl, ?_⟩
    rw [show lim 0 = List.replicate 5 0 from dg_zero _ _]
    exact ⟨heap_new _ _, lim_length _, lim_length _, rfl, rfl⟩
  have hlZ : (nat8 (clampL key.data.toList ++ [0])).length = 17 := by rw [nat8_length, List.length_append, hcl]; rfl
  have hlD : (nat8 (key.data.toList.drop 16 ++ [0])).length = 17 := by rw [nat8_length, List.length_append, List.length_drop, hkl]; rfl
  have hla : (nat8 (key.data.toList.take 16 ++ [0])).length = 17 := by rw [nat8_length, List.length_append, List.length_take, hkl]; rfl
  have HZ : Hid (∀ k, k < 16 → (nat8 (clampL key.data.toList ++ [0])).getD k 0 = (nat8 (key.data.toList.take 16 ++ [0])).getD k 0 &&& (nat8 keptL).getD k 0) := fun k hk' => by
    rw [nat8_getD, nat8_getD, nat8_getD]
    have e1 : (clampL key.data.toList ++ [0]).getD k 0 = (clampL key.data.toList).getD k 0 := by rw [List.getD_eq_getElem?_getD, List.getElem?_append_left (by omega), ← List.getD_eq_getElem?_getD]
    have e2 : (key.data.toList.take 16 ++ [0]).getD k 0 = key.data.toList.getD k 0 := by rw [List.getD_eq_getElem?_getD, List.getElem?_append_left (by rw [List.length_take]; omega), List.getElem?_take, if_pos hk', ← List.getD_eq_getElem?_getD]
    rw [e1, e2, clamp_getD _ _ hk' (by omega), UInt8.toNat_and]
  have HE : Hid ((nat8 (clampL key.data.toList ++ [0])).drop 16 = (nat8 (key.data.toList.take 16 ++ [0])).drop 16) := by
    show _ = _
    have h1 : (nat8 (clampL key.data.toList)).length = 16 := by rw [nat8_length, hcl]
    have h2 : (nat8 (key.data.toList.take 16)).length = 16 := by rw [nat8_length, List.length_take, hkl]; rfl
    rw [nat8_append, nat8_append, List.drop_left' h1, List.drop_left' h2]
  have HB : Hid (∀ k, (nat8 (key.data.toList.take 16 ++ [0])).getD k 0 < 256 ∧ (nat8 keptL).getD k 0 < 256) := fun k => by
    rw [nat8_getD, nat8_getD]
    exact ⟨UInt8.toNat_lt _, UInt8.toNat_lt _⟩
  have hs1 : ∀ W : World, (Instr.slice 9 (.string key) none (some (.int .i64 16)) none).run Tryd.prog W = .ok (.string (key.extract 0 16)) W := fun W => run_slice_string_h (P := Tryd.prog) W 9 key Tryd.underlying9 .i64 16 (by omega) (by omega)
  have hs2 : ∀ W : World, (Instr.slice 9 (.string key) (some (.int .i64 16)) none none).run Tryd.prog W = .ok (.string (key.extract 16 key.size)) W := fun W => run_slice_string_l (P := Tryd.prog) W 9 key Tryd.underlying9 .i64 16 (by omega) (by omega)
  obtain ⟨x1, x2⟩ := slice_rest (x := key) (m := 16) (by omega)
  have x3 : (key.extract 0 16).data.toList = key.data.toList.take 16 := by simp [List.extract]
  have x4 : (key.extract 0 16).size = 16 := by simp; omega
  have hcs1 := copy_lists (key.data.toList.take 16) (by rw [List.length_take, hkl]; rfl)
  have hcs2 := copy_lists (key.data.toList.drop 16) (by rw [List.length_drop, hkl])
  rw [← x3] at hcs1
  rw [← x1] at hcs2
  rw [x3] at hcs1
  rw [x1] at hcs2
  have HS0 : Hid (Nw w ((w.alloc (.cells (ns .u8 (dg 256 17 0)) 50)).alloc (.cells (ns .u8 (dg 256 17 0)) 50)) (dg 256 17 0) (dg 256 17 0)) :=
    ⟨(Nb.new _ _ _ _).alloc _, Nb.newN _ _ _ _ _ (by simp), ((Below.refl _ _).alloc (Nat.le_refl _) _).alloc (by simp) _⟩
  rw [zeros17] at HS0
  have hl0 : (dg 256 17 0).length = 17 := rfl
  have hfit : (ns .u8 (dg 256 17 0)).size = 17 := rfl
  have hI43 : Hid (∀ k : Nat, k < 16 → ∀ W, (Instr.index 51 (.agg (nsL .u8 (nat8 keptL)).toArray) (.int .i64 (k : Int))).run Tryd.prog W = .ok (.int .u8 (((nat8 keptL).getD k 0 : Nat) : Int)) W) := fun k hk W =>
    index_agg W 51 5 16 _ .i64 .u8 k _ Tryd.underlying51 Tryd.underlying5 size5 hk (ns_at .u8 (nat8 keptL) k hk)
  have hl16 : (Tryd.prog.info? 51).map (·.size) = some (nsL .u8 (nat8 keptL)).length := by kernel_rfl
  have hkI : (key.size : Int) = 32 := by omega
  go_enter Tryd.func8, Tryd.ntmps8
  go_upto_region 4 with fail
  refine with_world (R := fun W => Code.wp _ _ _ _ W) (Q := fun W => Nw w W (dg 256 17 0) (dg 256 17 0)) _ HS0.out ?_
  clear HS0
  intro w1 H1
  have y1 : Nat.min (key.extract 0 16).size 17 = 16 := by rw [x4]; rfl
  have y2 : Nat.min (key.extract 16 key.size).size 17 = 16 := by rw [x2, hk]; rfl
  have z1 : (key.extract 0 16).data.toList.take 16 = (key.data.toList.take 16).take 16 := by rw [x3]
  have z2 : (key.extract 16 key.size).data.toList.take 16 = (key.data.toList.drop 16).take 16 := by rw [x1]
  rw [← z1] at hcs1
  rw [← z2] at hcs2
  clear x1 x2 x3 x4 z1 z2 hkl hcl
  revert HN1 HN2 hbl HMC hlZ hlD hla HZ HE HB hs1 hs2 hcs1 hcs2 y1 y2 hfit hl0
  generalize nat8 (clampL key.data.toList ++ [0]) = Z
  generalize nat8 (key.data.toList.drop 16 ++ [0]) = D
  generalize nat8 (key.data.toList.take 16 ++ [0]) = A
  generalize key.extract 0 16 = k1
  generalize key.extract 16 key.size = k2
  generalize lim (rOf key.data.toList) = LR
  generalize lim (sOf key.data.toList) = LS
  generalize (mcells LR LS (List.replicate 5 0) (List.replicate 17 0) 0).toArray = C
  intro HN1 HN2 hbl HMC hlZ hlD hla HZ HE HB hs1 hs2 hcs1 hcs2 hl0 hfit y1 y2
  have hg1 := H1.one.drew
  have HR1 : Hid (Nw w (w1.drew.setRow w.heap.size (nsL .u8 A).toArray) A (dg 256 17 0)) := ⟨setRow_heap _ _ _ _ _ _ hg1, H1.two.drew.kept (setRow_other _ _ _ _ (by simp)), H1.bel.drew.trans ⟨rfl, rfl, rfl, by simp, fun j hj => setRow_other _ _ _ _ (by omega)⟩⟩
  unfold Nb at hg1
  clear H1
  go_region_law (refine step_copy_string rfl (.tmp 11) (.tmp 13) 48 9 rfl 5 Tryd.underlying48 size5 w.heap.size 0 17 17 16 k1 (by simp [Act.eval, Act.put]) (by simp [Act.eval, Act.put]) (ns .u8 (dg 256 17 0)) 50 hg1 y1 (by rw [hfit]; omega) (nsL .u8 A) hcs1 ?_)
  refine with_world (R := fun W => Exit.then _ _ _ _ W) (Q := fun W => Nw w W A (dg 256 17 0)) _ HR1.out ?_
  clear HR1 hg1 hcs1 y1 hs1
  intro w2 H2
  have hg2 := H2.two.drew
  have HR2 : Hid (Nw w (w2.drew.setRow (w.heap.size + 1) (nsL .u8 D).toArray) A D) := ⟨H2.one.drew.kept (setRow_other _ _ _ _ (by simp)), setRow_heap _ _ _ _ _ _ hg2, H2.bel.drew.trans ⟨rfl, rfl, rfl, by simp, fun j hj => setRow_other _ _ _ _ (by omega)⟩⟩
  unfold Nb at hg2
  clear H2
  go_upto_region 5 with fail
  go_region_law (refine step_copy_string rfl (.tmp 15) (.tmp 17) 48 9 rfl 5 Tryd.underlying48 size5 (w.heap.size + 1) 0 17 17 16 k2 (by simp [Act.eval, Act.put]) (by simp [Act.eval, Act.put]) (ns .u8 (dg 256 17 0)) 50 hg2 y2 (by rw [hfit]; omega) (nsL .u8 D) hcs2 ?_)
  refine with_world (R := fun W => Exit.then _ _ _ _ W) (Q := fun W => Nw w W A D) _ HR2.out ?_
  clear HR2 hg2 hcs2 y2 hs2
  intro w3 H3
  have hkt := (hT.below H3.bel h1).kt
  revert hkt hI43 hl16 HZ HB
  generalize nat8 keptL = KL
  intro hI43 hl16 HZ HB hkt
  go_wp2_with (refine wpList_load_mid rfl 51 (.global 0) rfl 0 0 rfl _ _ hkt Tryd.underlying51 rfl hl16 ?_)
  clear hkt
  go_loopg [20] 16 (fun gk i wr => ∃ k : Nat, k + gk = 16 ∧ i = .int .i64 k ∧ Nw w wr (Z.take k ++ A.drop k) D)
  case atStart => exact ⟨0, by omega, rfl, H3⟩
  case round =>
    clear H3
    obtain ⟨k, hkk, rfl, HS⟩ := hrel
    have HK : Hid (k + gk = 16) := hkk
    have hk' : k ≤ 16 := by omega
    clear hkk
    by_cases hlt : k < 16
    · have hltI : (k : Int) < 16 := by omega
      have hltI2 : (k : Int) < 17 := by omega
      have hix := hI43.out k hlt
      obtain ⟨hx, hy⟩ := HB.out k
      have hz := HZ.out k hlt
      have c0 := HS.one.cell k (by rw [List.length_append, List.length_take, List.length_drop]; omega)
      rw [mix_get Z A k (by omega)] at c0
      have f0 := HS.one.frozen k
      have HR : Hid (Nw w (wr.setCell ⟨w.heap.size, k, none⟩ (.int .u8 ((A.getD k 0 &&& KL.getD k 0 : Nat) : Int))) (Z.take (k + 1) ++ A.drop (k + 1)) D) := by
        rw [← hz]
        refine ⟨?_, HS.two.beside (by simp) _, HS.bel.setCell (Nat.le_refl _) _⟩
        rw [← mix_set Z A k (by omega) (by omega)]
        exact HS.one.put k _
      have hand := u8_and_nat _ _ hx hy
      clear hz HS
      revert hix hx hy c0 HR hand
      generalize A.getD k 0 &&& KL.getD k 0 = o
      generalize A.getD k 0 = x
      generalize KL.getD k 0 = y
      intro hix hx hy c0 HR hand
      go_wp2
      go_roundg (gk - 1)
      case measure => have := HK.out; omega
      case rel => exact ⟨k + 1, by have := HK.out; omega, by go_num, HR.out⟩
    · obtain rfl : k = 16 := by omega
      rw [← HE.out, List.take_append_drop] at HS
      have hzZ : (Tryd.prog.info? 50).map (·.size) = some (nsL .u8 Z).length := by rw [nsL_length, hlZ]; exact size42
      have hzD : (Tryd.prog.info? 50).map (·.size) = some (nsL .u8 D).length := by rw [nsL_length, hlD]; exact size42
      clear HK HZ HB HE hI43 hl16
      go_upto_region 11 with fail
      refine wp_region_held_drew (S := fun W => Nb .u8 50 W w.heap.size Z ∧ Nb .u8 50 W (w.heap.size + 1) D) (by kernel_rfl) ⟨HS.one.drew, HS.two.drew⟩ ?_
      intro hS
      have hbV := HS.bel.drew
      clear HS
      revert hS hbV
      generalize wr.drew = V
      intro hS hbV
      refine wpAnyH_take (i := 0) (oi := { dst := some 31, op := .load 50 (.tmp 4), type := _, pos := _, after := _, guard := none }) (v := .agg (nsL .u8 Z).toArray) rfl (by kernel_rfl) (by kernel_rfl) (by kernel_rfl) (fun _ _ _ h => h) (yieldsIf_load_mid (by rfl) 50 (.tmp 4) rfl w.heap.size 0 (by simp [Act.eval]) (nsL .u8 Z) _ (fun x hx => hx.1.range) Tryd.underlying50 rfl hzZ) hS ?_
      (try simp only [Act.put, List.setIfInBounds_toArray, List.set_cons_zero, List.set_cons_succ])
      refine wpAnyH_take (i := 2) (oi := { dst := some 33, op := .load 50 (.tmp 5), type := _, pos := _, after := _, guard := none }) (v := .agg (nsL .u8 D).toArray) rfl (by kernel_rfl) (by kernel_rfl) (by kernel_rfl) (fun _ _ _ h => h) (yieldsIf_load_mid (by rfl) 50 (.tmp 5) rfl (w.heap.size + 1) 0 (by simp [Act.eval]) (nsL .u8 D) _ (fun x hx => hx.2.range) Tryd.underlying50 rfl hzD) hS ?_
      (try simp only [Act.put, List.setIfInBounds_toArray, List.set_cons_zero, List.set_cons_succ])
      refine wpAnyH_ready (rs := [1]) (by kernel_rfl) (by simp) ?_
      refine AllReadyH.cons (o := { dst := some 32, op := .call { callee := .value (.func 19), args := #[.tmp 31], argTypes := #[50] }, type := _, pos := _, after := _, guard := none }) rfl (fun K hK => ?_) AllReadyH.nil
      go_simp
      refine (HN1.out V).mono ?_
      rintro e W2 ⟨rfl, hbc⟩
      have hS2 : Nb .u8 50 W2 w.heap.size Z ∧ Nb .u8 50 W2 (w.heap.size + 1) D := ⟨hS.1.below hbc hS.1.lt, hS.2.below hbc hS.2.lt⟩
      have hb2 := hbV.trans (hbc.mono hbV.size)
      refine hK.out _ _ hS2 (fun _ => ?_)
      clear hK K
      (try simp only [Act.put, List.setIfInBounds_toArray, List.set_cons_zero, List.set_cons_succ])
      revert hS2 hb2
      clear hbV hbc hS
      generalize W2 = V
      intro hS hbV
      refine wpAnyH_ready (rs := [3]) (by kernel_rfl) (by simp) ?_
      refine AllReadyH.cons (o := { dst := some 34, op := .call { callee := .value (.func 19), args := #[.tmp 33], argTypes := #[50] }, type := _, pos := _, after := _, guard := none }) rfl (fun K hK => ?_) AllReadyH.nil
      go_simp
      refine (HN2.out V).mono ?_
      rintro e W2 ⟨rfl, hbc⟩
      have hS2 : Nb .u8 50 W2 w.heap.size Z ∧ Nb .u8 50 W2 (w.heap.size + 1) D := ⟨hS.1.below hbc hS.1.lt, hS.2.below hbc hS.2.lt⟩
      have hb2 := hbV.trans (hbc.mono hbV.size)
      refine hK.out _ _ hS2 (fun _ => ?_)
      clear hK K
      (try simp only [Act.put, List.setIfInBounds_toArray, List.set_cons_zero, List.set_cons_succ])
      revert hS2 hb2
      clear hbV hbc hS
      generalize W2 = V
      intro hS hbV
      refine wpAnyH_take (i := 4) (oi := { dst := some 35, op := .build 57 #[(0, .const (.bool true)), (1, .tmp 32), (2, .tmp 34)], type := _, pos := _, after := _, guard := none }) (v := .agg C) rfl (by kernel_rfl) (by kernel_rfl) (by kernel_rfl) (fun _ _ _ h => h) (Or.inl ⟨by rfl, by intro x _; exact exec_buildM _ _ rfl _ (by simp [Act.eval]) _ hbl⟩) hS ?_
      (try simp only [Act.put, List.setIfInBounds_toArray, List.set_cons_zero, List.set_cons_succ])
      refine wpAnyH_ready (rs := [5]) (by kernel_rfl) (by simp) ?_
      refine AllReadyH.cons (o := { dst := some 36, op := .box 57 (.tmp 35), type := _, pos := _, after := _, guard := none }) rfl (fun K hK => ?_) AllReadyH.nil
      go_simp
      have hS2 : Nb .u8 50 (V.alloc (.cells C 57)) w.heap.size Z ∧ Nb .u8 50 (V.alloc (.cells C 57)) (w.heap.size + 1) D := ⟨hS.1.alloc _, hS.2.alloc _⟩
      have hb2 := hbV.alloc hbV.size (.cells C 57)
      have hM := HMC.out V
      have hpg := hbV.size
      refine hK.out _ _ hS2 (fun _ => ?_)
      clear hK K
      (try simp only [Act.put, List.setIfInBounds_toArray, List.set_cons_zero, List.set_cons_succ])
      revert hM hS2 hb2 hpg
      generalize V.alloc (.cells C 57) = V2
      generalize V.heap.size = pg
      intro hS hbV hM hpg
      refine wpAnyH_take (i := 6) (oi := { dst := some 2, op := .assign (.tmp 36), type := _, pos := _, after := _, guard := none }) (v := .pointer (some ⟨pg, 0, none⟩)) rfl (by kernel_rfl) (by kernel_rfl) (by kernel_rfl) (fun _ _ _ h => h) (Or.inl ⟨by rfl, by intro x _; go_simp⟩) hS ?_
      (try simp only [Act.put, List.setIfInBounds_toArray, List.set_cons_zero, List.set_cons_succ])
      refine wpAnyH_take (i := 7) (oi := { dst := some 3, op := .assign (.const (.int .i64 0)), type := _, pos := _, after := _, guard := none }) (v := .int .i64 0) rfl (by kernel_rfl) (by kernel_rfl) (by kernel_rfl) (fun _ _ _ h => h) (Or.inl ⟨by rfl, by intro x _; go_simp⟩) hS ?_
      (try simp only [Act.put, List.setIfInBounds_toArray, List.set_cons_zero, List.set_cons_succ])
      refine wpAnyH_done (by kernel_rfl) ?_ _
      go_wp2
      go_ret2
      exact ⟨⟨pg, rfl, hpg, hM⟩, hbV⟩
end Go.Proofs.YtggfeppphhigdabDoor
