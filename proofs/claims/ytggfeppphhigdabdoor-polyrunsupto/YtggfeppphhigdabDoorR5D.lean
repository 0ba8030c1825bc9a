import Derived.Test.YtggfeppphhigdabDoorR5C
namespace Go.Proofs.YtggfeppphhigdabDoor
open Go.RowKit Go.Lib Go.Deep

/-- what times holds, ahead of a row -/
structure Rt (w wr : World) (a b n : List Nat) : Prop where
  one : Nb .i64 43 wr w.heap.size a
  two : Nb .i64 43 wr (w.heap.size + 1) b
  res : Nb .i64 43 wr (w.heap.size + 2) (List.replicate 24 0)
  own : Nb .i64 43 wr (w.heap.size + 3) n
  bel : Below w.heap.size w wr
/-- with a row -/
structure Ro (w wr : World) (g : Nat) (a b n rw' : List Nat) : Prop where
  tt : Rt w wr a b n
  row : Nb .i64 43 wr g rw'
  gt : w.heap.size + 3 < g
theorem Ro.own {w wr : World} {g : Nat} {a b n r : List Nat} (h : Ro w wr g a b n r) : Nb .i64 43 wr (w.heap.size + 3) n := h.tt.own
theorem Ro.below {w wr W : World} {g : Nat} {a b n r : List Nat} (h : Ro w wr g a b n r) (hb : Below wr.heap.size wr W) : Ro w W g a b n r :=
  ⟨⟨h.tt.one.below hb h.tt.one.lt, h.tt.two.below hb h.tt.two.lt, h.tt.res.below hb h.tt.res.lt, h.tt.own.below hb h.tt.own.lt, h.tt.bel.trans (hb.mono h.tt.bel.size)⟩, h.row.below hb h.row.lt, h.gt⟩
theorem Ro.drew {w wr : World} {g : Nat} {a b n r : List Nat} (h : Ro w wr g a b n r) : Ro w wr.drew g a b n r := ⟨⟨h.tt.one, h.tt.two, h.tt.res, h.tt.own, h.tt.bel.drew⟩, h.row, h.gt⟩
theorem Ro.put {w wr : World} {g : Nat} {a b n r : List Nat} (h : Ro w wr g a b n r) (i x : Nat) : Ro w (wr.setCell ⟨g, i, none⟩ (.int .i64 (x : Int))).drew g a b n (r.set i x) := by
  have hg := h.gt
  exact ⟨⟨(h.tt.one.beside (by show g ≠ _; omega) _).drew, (h.tt.two.beside (by show g ≠ _; omega) _).drew, (h.tt.res.beside (by show g ≠ _; omega) _).drew, (h.tt.own.beside (by show g ≠ _; omega) _).drew, (h.tt.bel.setCell (by show w.heap.size ≤ g; omega) _).drew⟩, (h.row.put i x).drew, hg⟩
theorem Ro.storeN {w wr : World} {g : Nat} {a b n r : List Nat} (h : Ro w wr g a b n r) (l : List Nat) (hl : l.length = 24) (hn : n.length = 24) : Ro w (wr.setCells (w.heap.size + 3) 0 (ns .i64 l).toList) g a b l r :=
  ⟨⟨h.tt.one.aside (by simp) _ _, h.tt.two.aside (by simp) _ _, h.tt.res.aside (by simp) _ _, h.tt.own.store l (by rw [hl, hn]), Below.setCells h.tt.bel (by simp) _ _⟩, h.row.aside (by have := h.gt; omega) _ _, h.gt⟩
theorem Rt.row {w wr : World} {a b n : List Nat} (h : Rt w wr a b n) : Ro w (wr.alloc (.cells (ns .i64 (List.replicate 24 0)) 43)) wr.heap.size a b n (List.replicate 24 0) :=
  ⟨⟨h.one.alloc _, h.two.alloc _, h.res.alloc _, h.own.alloc _, h.bel.alloc h.bel.size _⟩, Nb.new _ _ _ _, h.own.lt⟩

/-- so many digits of a row -/
structure Rr (w wr : World) (g : Nat) (a b n : List Nat) (k m : Nat) : Prop where
  ex : ∃ r : List Nat, Ro w wr g a b n r ∧ r.length = 24 ∧ (∀ i, r.getD i 0 ≤ 4294967296) ∧ (∀ i, k + m ≤ i → r.getD i 0 = 0) ∧ vl 65536 r = 65536 ^ k * (a.getD k 0 * vl 65536 (b.take m))
theorem Rr.more {w w' : World} {g : Nat} {a b n r : List Nat} {k m : Nat} (hb : m < b.length) (hk : k + m < 24) (hl : r.length = 24) (h2 : ∀ i, r.getD i 0 ≤ 4294967296) (h3 : ∀ i, k + m ≤ i → r.getD i 0 = 0) (h4 : vl 65536 r = 65536 ^ k * (a.getD k 0 * vl 65536 (b.take m)))
    (hp : a.getD k 0 * b.getD m 0 ≤ 4294967296) (h1 : Ro w w' g a b n (r.set (k + m) (a.getD k 0 * b.getD m 0))) : Rr w w' g a b n k (m + 1) := by
  refine ⟨_, h1, by rw [List.length_set, hl], ?_, ?_, ?_⟩
  · intro i
    rw [List.getD_eq_getElem?_getD, List.getElem?_set]
    have := h2 i
    rw [List.getD_eq_getElem?_getD] at this
    split
    · split
      · exact hp
      · exact Nat.zero_le _
    · exact this
  · intro i hi
    rw [List.getD_eq_getElem?_getD, List.getElem?_set, if_neg (by omega), ← List.getD_eq_getElem?_getD]
    exact h3 i (by omega)
  · have e := vl_set 65536 r (k + m) (a.getD k 0 * b.getD m 0) (by omega)
    rw [h3 (k + m) (Nat.le_refl _), Nat.zero_add] at e
    rw [e, h4, vl_take_succ _ _ _ hb, Nat.mul_add, Nat.mul_add, Nat.pow_add]
    congr 1
    rw [Nat.mul_assoc]
    congr 1
    rw [← Nat.mul_assoc, ← Nat.mul_assoc, Nat.mul_comm (65536 ^ m)]

set_option maxRecDepth 20000 in
set_option maxHeartbeats 2000000 in
theorem rtimes_any (A B : Nat) (hA : A < 65536 ^ 9) (hB : B < 65536 ^ 9) (w : World) :
    Calls Tryd.prog 17 #[.agg (ns .i64 (d24 A)), .agg (ns .i64 (d24 B))] w fun e w' => e = .returned (.agg (ns .i64 (d24 (A * B)))) ∧ Below w.heap.size w w' := by
  have HA : Hid (∀ i, (d24 A).getD i 0 < 65536) := d24_at A
  have HB : Hid (∀ i, (d24 B).getD i 0 < 65536) := d24_at B
  have hla := d24_length A
  have hlb := d24_length B
  have ta : vl 65536 ((d24 A).take 9) = A := by
    rw [show (d24 A).take 9 = dg 65536 9 A from dg_take _ _ _ _ (by omega)]
    exact vl_dg_lt _ _ _ hA
  have tb : vl 65536 ((d24 B).take 9) = B := by
    rw [show (d24 B).take 9 = dg 65536 9 B from dg_take _ _ _ _ (by omega)]
    exact vl_dg_lt _ _ _ hB
  have HV : Hid (∀ k, k ≤ 9 → vl 65536 ((d24 A).take k) * B < 65536 ^ 18) := fun k hk => by
    have h1 : vl 65536 ((d24 A).take k) < 65536 ^ k := by
      have := vl_lt 65536 ((d24 A).take k) (fun x hx => dg_lt _ _ _ (by omega) x (List.mem_of_mem_take hx))
      rwa [List.length_take, hla, Nat.min_eq_left (by omega)] at this
    have h2 : (65536 : Nat) ^ k ≤ 65536 ^ 9 := Nat.pow_le_pow_right (by omega) hk
    refine Nat.lt_of_le_of_lt (Nat.mul_le_mul_right B (show vl 65536 ((d24 A).take k) ≤ 65536 ^ 9 by omega)) ?_
    rw [show (65536 : Nat) ^ 18 = 65536 ^ 9 * 65536 ^ 9 by rw [← Nat.pow_add]]
    exact Nat.mul_lt_mul_of_pos_left hB (Nat.pow_pos (by omega))
  have hp : (65536 : Nat) ^ 18 ≤ 65536 ^ 24 := Nat.pow_le_pow_right (by omega) (by omega)
  have HAD : Hid (∀ u v, u < 65536 ^ 18 → v < 65536 ^ 24 → ∀ W, Calls Tryd.prog 18 #[.agg (ns .i64 (d24 u)), .agg (ns .i64 (d24 v))] W fun e w' => e = .returned (.agg (ns .i64 (d24 (u + v)))) ∧ Below W.heap.size W w') := fun u v hu hv W => by
    have h := add_any (d24 u) (d24 v) (d24_length u) (d24_length v) (d24_le u) (d24_le v) W
    rw [vl_d24 u (by omega), vl_d24 v hv] at h
    exact h
  have HAB : Hid (A * B = vl 65536 ((d24 A).take 9) * B) := by show _ = _; rw [ta]
  have HTB : Hid (vl 65536 ((d24 B).take 9) = B) := tb
  have HS0 : Hid (Rt w ((((w.alloc (.cells (ns .i64 (d24 A)) 43)).alloc (.cells (ns .i64 (d24 B)) 43)).alloc (.cells (ns .i64 (List.replicate 24 0)) 43)).alloc (.cells (ns .i64 (List.replicate 24 0)) 43)) (d24 A) (d24 B) (d24 (vl 65536 ((d24 A).take 0) * B))) := by
    refine ⟨(((Nb.new _ _ _ _).alloc _).alloc _).alloc _, ((Nb.newN _ _ _ _ _ (by simp)).alloc _).alloc _, (Nb.newN _ _ _ _ _ (by simp)).alloc _, ?_, ((((Below.refl _ _).alloc (Nat.le_refl _) _).alloc (by simp) _).alloc (by simp; omega) _).alloc (by simp; omega) _⟩
    rw [show vl 65536 ((d24 A).take 0) * B = 0 by simp [vl], d24_zero]
    exact Nb.newN _ _ _ _ _ (by simp)
  rw [zeros24] at HS0
  simp only [Nat.reducePow] at HV HAD
  clear ta tb hA hB hp
  revert HA HB hla hlb HV HAB HTB HS0
  generalize d24 A = a
  generalize d24 B = b
  intro HA HB hla hlb HV HAB HTB HS0
  go_enter Tryd.func17, Tryd.ntmps17
  go_wp2
  go_loopg [6] 9 (fun gk i wr => ∃ k : Nat, k + gk = 9 ∧ i = .int .i64 k ∧ Rt w wr a b (d24 (vl 65536 (a.take k) * B)))
  case atStart => exact ⟨0, by omega, rfl, HS0.out⟩
  case round =>
    clear HS0
    obtain ⟨k, hkk, rfl, HS⟩ := hrel
    have HK : Hid (k + gk = 9) := hkk
    have hk' : k ≤ 9 := by omega
    clear hkk
    have hvk := HV.out k hk'
    have hn1 := d24_length (vl 65536 (a.take k) * B)
    by_cases hlt : k < 9
    · have hltI : (k : Int) < 9 := by omega
      have hvs := vl_take_succ 65536 a k (by omega)
      have HN2 : Hid (vl 65536 (a.take (k + 1)) * B = vl 65536 (a.take k) * B + 65536 ^ k * (a.getD k 0 * B)) := by
        show _ = _
        rw [hvs, Nat.add_mul, Nat.mul_assoc]
      have hv2 := HV.out (k + 1) (by omega)
      have hadd : ∀ W, Calls Tryd.prog 18 #[.agg (ns .i64 (d24 (vl 65536 (a.take k) * B))), .agg (ns .i64 (d24 (65536 ^ k * (a.getD k 0 * B))))] W fun e w' => e = .returned (.agg (ns .i64 (d24 (vl 65536 (a.take (k + 1)) * B)))) ∧ Below W.heap.size W w' := fun W => by
        rw [HN2.out]
        exact HAD.out _ _ hvk (by rw [HN2.out] at hv2; omega) W
      have hn2 := d24_length (vl 65536 (a.take (k + 1)) * B)
      clear hvs hvk hv2 HN2
      generalize d24 (vl 65536 (a.take k) * B) = N1 at *
      generalize hN2 : d24 (vl 65536 (a.take (k + 1)) * B) = N2 at *
      have HN2 : Hid (d24 (vl 65536 (a.take (k + 1)) * B) = N2) := hN2
      clear hN2
      have HR0 : Hid (Rr w (wr.alloc (.cells (ns .i64 (List.replicate 24 0)) 43)) wr.heap.size a b N1 k 0) :=
        ⟨_, HS.row, rfl, fun i => by rw [List.getD_eq_getElem?_getD, List.getElem?_replicate]; split <;> exact Nat.zero_le _, fun i _ => by rw [List.getD_eq_getElem?_getD, List.getElem?_replicate]; split <;> rfl, by rw [vl_replicate]; simp [vl]⟩
      rw [zeros24] at HR0
      clear HS
      go_wp2
      refine with_world (R := fun W => Code.wp _ _ _ _ W) (Q := fun W => Rr w W wr.heap.size a b N1 k 0) _ HR0.out ?_
      clear HR0
      generalize wr.heap.size = g
      intro w4 HR0
      go_loopg [8] 9 (fun gj j wx => ∃ m : Nat, m + gj = 9 ∧ j = .int .i64 m ∧ Rr w wx g a b N1 k m)
      case atStart => exact ⟨0, by omega, rfl, HR0⟩
      case round =>
        clear HR0
        obtain ⟨m, hmm, rfl, HS⟩ := hrel
        have HM : Hid (m + gk = 9) := hmm
        have hm' : m ≤ 9 := by omega
        clear hmm
        obtain ⟨r, h1, h2, h3, h4, h5⟩ := HS.ex
        by_cases hml : m < 9
        · have hmlI : (m : Int) < 9 := by omega
          have hix1 : (k : Int) < 24 := by omega
          have hix2 : (m : Int) < 24 := by omega
          have hix : (k : Int) + (m : Int) < 24 := by omega
          have hx := HA.out k
          have hy := HB.out m
          have c0 := h1.tt.one.cell k (by omega)
          have c1 := h1.tt.two.cell m (by omega)
          have c2 := h1.row.cell (k + m) (by omega)
          have f2 := h1.row.frozen (k + m)
          have hp : a.getD k 0 * b.getD m 0 ≤ 4294967296 := by
            have := Nat.mul_le_mul (show a.getD k 0 ≤ 65536 by omega) (show b.getD m 0 ≤ 65536 by omega)
            simpa using this
          have HR : Hid (Rr w (wr.setCell ⟨g, k + m, none⟩ (.int .i64 ((a.getD k 0 * b.getD m 0 : Nat) : Int))).drew g a b N1 k (m + 1)) := Rr.more (by omega) (by omega) h2 h3 h4 h5 hp (h1.put _ _)
          clear h1 h2 h3 h4 h5 HS
          revert hx hy c0 c1 c2 hp HR
          generalize r.getD (k + m) 0 = s
          generalize a.getD k 0 = x
          generalize b.getD m 0 = y
          intro hx hy c0 c1 c2 hp HR
          have hw1 : IntKind.i64.wrap ((x : Int) * (y : Int)) = ((x * y : Nat) : Int) := by rw [IntKind.wrap_i64, ← Int.natCast_mul]; omega
          have hw2 : wrap64 ((x : Int) * (y : Int)) = ((x * y : Nat) : Int) := by rw [← Int.natCast_mul]; unfold wrap64; omega
          revert hw1 hw2 HR hp
          generalize x * y = p
          intro hp HR hw1 hw2
          go_wp2
          go_region
          refine with_world (R := fun W => Exit.inBlock _ _ _ _ W) (Q := fun W => Rr w W g a b N1 k (m + 1)) _ HR.out ?_
          clear HR c0 c1 c2 f2 hw1 hw2
          intro w9 HP
          go_wp2
          go_roundg (gk - 1)
          case measure => have := HM.out; omega
          case rel => exact ⟨m + 1, by have := HM.out; omega, by go_num, HP⟩
        · obtain rfl : m = 9 := by omega
          rw [HTB.out] at h5
          have hca : ∀ W, Calls Tryd.prog 31 #[.agg (ns .i64 r)] W fun e w' => e = .returned (.agg (ns .i64 (d24 (65536 ^ k * (a.getD k 0 * B))))) ∧ Below W.heap.size W w' := fun W => by
            have h := carried_any r h2 (fun i => by have := h3 i; omega) W
            rw [h5] at h
            exact h
          have HCA : Hid _ := hca
          have HAD : Hid _ := hadd
          clear hca hadd h3 h4 h5 HS
          generalize d24 (65536 ^ k * (a.getD k 0 * B)) = RC at *
          have hzR : (Tryd.prog.info? 43).map (·.size) = some (nsL .i64 r).length := by rw [nsL_length, h2]; exact size43
          have hzN : (Tryd.prog.info? 43).map (·.size) = some (nsL .i64 N1).length := by rw [nsL_length, hn1]; exact size43
          generalize r = RW at *
          clear HM HA HB HV HAB HTB
          go_upto_region 10 with fail
          refine wp_region_held_drew (S := fun W => W.rangeAt g 0 (nsL .i64 RW)) (by kernel_rfl) h1.drew.row.rng ?_
          intro hS
          have HV := h1.drew
          clear h1
          revert HV hS
          generalize wr.drew = V
          intro hS HV
          refine wpAnyH_take (i := 1) (oi := { dst := some 29, op := .load 43 (.tmp 7), type := _, pos := _, after := _, guard := none }) (v := .agg (nsL .i64 RW).toArray) rfl (by kernel_rfl) (by kernel_rfl) (by kernel_rfl) (fun _ _ _ h => h) (yieldsIf_load_mid (by rfl) 43 (.tmp 7) rfl g 0 (by simp [Act.eval]) (nsL .i64 RW) _ (fun x hx => hx) Tryd.underlying43 rfl hzR) hS ?_
          (try simp only [Act.put, List.setIfInBounds_toArray, List.set_cons_zero, List.set_cons_succ])
          refine wpAnyH_ready (rs := [0, 2]) (by kernel_rfl) (by simp) ?_
          refine AllReadyH.cons (o := { dst := some 28, op := .load 43 (.tmp 5), type := _, pos := _, after := _, guard := none }) rfl (fun K hK => ?_) (AllReadyH.cons (o := { dst := some 30, op := .call { callee := .value (.func 31), args := #[.tmp 29], argTypes := #[43] }, type := _, pos := _, after := _, guard := none }) rfl (fun K hK => ?_) AllReadyH.nil)
          · refine step_load_mid rfl 43 (.tmp 5) rfl (w.heap.size + 3) 0 (by simp [Act.eval]) (nsL .i64 N1) _ HV.own.rng Tryd.underlying43 rfl hzN ?_
            refine hK.out _ _ hS (fun _ => ?_)
            clear hK K
            (try simp only [Act.put, List.setIfInBounds_toArray, List.set_cons_zero, List.set_cons_succ])
            refine wpAnyH_ready (rs := [2]) (by kernel_rfl) (by simp) ?_
            refine AllReadyH.cons (o := { dst := some 30, op := .call { callee := .value (.func 31), args := #[.tmp 29], argTypes := #[43] }, type := _, pos := _, after := _, guard := none }) rfl (fun K hK => ?_) AllReadyH.nil
            go_simp
            refine (HCA.out V).mono ?_
            rintro e W2 ⟨rfl, hbc⟩
            have HV2 := HV.below hbc
            have hS2 := HV2.row.rng
            refine hK.out _ _ hS2 (fun _ => ?_)
            clear hK K
            (try simp only [Act.put, List.setIfInBounds_toArray, List.set_cons_zero, List.set_cons_succ])
            revert HV2 hS2
            clear HV hbc hS
            generalize W2 = V
            intro HV hS
            refine wpAnyH_ready (rs := [3]) (by kernel_rfl) (by simp) ?_
            refine AllReadyH.cons (o := { dst := some 31, op := .call { callee := .value (.func 18), args := #[.tmp 28, .tmp 30], argTypes := #[43, 43] }, type := _, pos := _, after := _, guard := none }) rfl (fun K hK => ?_) AllReadyH.nil
            go_simp
            refine (HAD.out V).mono ?_
            rintro e W2 ⟨rfl, hbc⟩
            have HV2 := HV.below hbc
            have hS2 := HV2.row.rng
            refine hK.out _ _ hS2 (fun _ => ?_)
            clear hK K
            (try simp only [Act.put, List.setIfInBounds_toArray, List.set_cons_zero, List.set_cons_succ])
            revert HV2 hS2
            clear HV hbc hS
            generalize W2 = V
            intro HV hS
            refine wpAnyH_ready (rs := [4]) (by kernel_rfl) (by simp) ?_
            refine AllReadyH.cons (o := { dst := none, op := .store 43 (.tmp 5) (.tmp 31), type := _, pos := _, after := _, guard := none }) rfl (fun K hK => ?_) AllReadyH.nil
            refine step_store_mid rfl 43 (.tmp 5) (.tmp 31) rfl (w.heap.size + 3) 0 (ns .i64 N2) (by simp [Act.eval]) (by simp [Act.eval, ns]) (HV.own.there _ (by rw [ns_size, hn2, hn1])) (ns24 N2 hn2) (ns_one .i64 N2) ?_
            have H2 := HV.storeN N2 hn2 hn1
            refine hK.out _ _ H2.row.rng (fun _ => ?_)
            clear hK K hS
            (try simp only [Act.put])
            refine wpAnyH_done (by kernel_rfl) ?_ _
            revert H2
            generalize V.setCells (w.heap.size + 3) 0 (ns .i64 N2).toList = w5
            intro H2
            have H3 := H2.tt
            clear H2
            go_wp2
            go_roundg (9 - (k + 1))
            case measure => have := HK.out; omega
            case rel => exact ⟨k + 1, by omega, by go_num, by rw [HN2.out]; exact H3⟩
          · go_simp
            refine (HCA.out V).mono ?_
            rintro e W2 ⟨rfl, hbc⟩
            have HV2 := HV.below hbc
            have hS2 := HV2.row.rng
            refine hK.out _ _ hS2 (fun _ => ?_)
            clear hK K
            (try simp only [Act.put, List.setIfInBounds_toArray, List.set_cons_zero, List.set_cons_succ])
            revert HV2 hS2
            clear HV hbc hS
            generalize W2 = V
            intro HV hS
            refine wpAnyH_ready (rs := [0]) (by kernel_rfl) (by simp) ?_
            refine AllReadyH.cons (o := { dst := some 28, op := .load 43 (.tmp 5), type := _, pos := _, after := _, guard := none }) rfl (fun K hK => ?_) AllReadyH.nil
            refine step_load_mid rfl 43 (.tmp 5) rfl (w.heap.size + 3) 0 (by simp [Act.eval]) (nsL .i64 N1) _ HV.own.rng Tryd.underlying43 rfl hzN ?_
            refine hK.out _ _ hS (fun _ => ?_)
            clear hK K
            (try simp only [Act.put, List.setIfInBounds_toArray, List.set_cons_zero, List.set_cons_succ])
            refine wpAnyH_ready (rs := [3]) (by kernel_rfl) (by simp) ?_
            refine AllReadyH.cons (o := { dst := some 31, op := .call { callee := .value (.func 18), args := #[.tmp 28, .tmp 30], argTypes := #[43, 43] }, type := _, pos := _, after := _, guard := none }) rfl (fun K hK => ?_) AllReadyH.nil
            go_simp
            refine (HAD.out V).mono ?_
            rintro e W2 ⟨rfl, hbc⟩
            have HV2 := HV.below hbc
            have hS2 := HV2.row.rng
            refine hK.out _ _ hS2 (fun _ => ?_)
            clear hK K
            (try simp only [Act.put, List.setIfInBounds_toArray, List.set_cons_zero, List.set_cons_succ])
            revert HV2 hS2
            clear HV hbc hS
            generalize W2 = V
            intro HV hS
            refine wpAnyH_ready (rs := [4]) (by kernel_rfl) (by simp) ?_
            refine AllReadyH.cons (o := { dst := none, op := .store 43 (.tmp 5) (.tmp 31), type := _, pos := _, after := _, guard := none }) rfl (fun K hK => ?_) AllReadyH.nil
            refine step_store_mid rfl 43 (.tmp 5) (.tmp 31) rfl (w.heap.size + 3) 0 (ns .i64 N2) (by simp [Act.eval]) (by simp [Act.eval, ns]) (HV.own.there _ (by rw [ns_size, hn2, hn1])) (ns24 N2 hn2) (ns_one .i64 N2) ?_
            have H2 := HV.storeN N2 hn2 hn1
            refine hK.out _ _ H2.row.rng (fun _ => ?_)
            clear hK K hS
            (try simp only [Act.put])
            refine wpAnyH_done (by kernel_rfl) ?_ _
            revert H2
            generalize V.setCells (w.heap.size + 3) 0 (ns .i64 N2).toList = w5
            intro H2
            have H3 := H2.tt
            clear H2
            go_wp2
            go_roundg (9 - (k + 1))
            case measure => have := HK.out; omega
            case rel => exact ⟨k + 1, by omega, by go_num, by rw [HN2.out]; exact H3⟩
    · obtain rfl : k = 9 := by omega
      rw [← HAB.out] at HS hn1
      generalize hN : d24 (A * B) = N1 at *
      have HN : Hid (d24 (A * B) = N1) := hN
      clear hN
      have hres := HS.own
      have HT := HS.res.store N1 (by rw [hn1]; rfl)
      have hth := HS.res.there (ns .i64 N1).size (by rw [ns_size, hn1]; rfl)
      have hbel' : Below w.heap.size w (wr.setCells (w.heap.size + 2) 0 (ns .i64 N1).toList) := Below.setCells HS.bel (by simp) _ _
      have hsz := ns24 N1 hn1
      have hone := ns_one .i64 N1
      unfold Nb at HT hres
      clear HS HK HA HB HV HTB HAB
      go_wp2_with (first | (refine wpList_load_row rfl 43 (.tmp 5) rfl (w.heap.size + 3) rfl 43 _ (0, 0) _ hres Tryd.underlying43 rfl hsz ?_) | (refine wpList_store_mid rfl 43 (.tmp 4) (.tmp 32) rfl (w.heap.size + 2) 0 _ rfl rfl hth hsz hone ?_))
      refine bodyPost_ret (results_cell_row rfl _ _ (w.heap.size + 2) 43 _ (0, 0) _ rfl HT Tryd.underlying43 rfl hsz) rfl ?_
      rw [HN.out]
      exact ⟨rfl, hbel'⟩

end Go.Proofs.YtggfeppphhigdabDoor
