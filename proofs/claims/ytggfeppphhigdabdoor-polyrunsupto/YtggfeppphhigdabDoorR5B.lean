import Derived.Test.YtggfeppphhigdabDoorR5A
import Derived.Deep.RegionHeld
import Derived.Deep.Cut
namespace Go.Proofs.YtggfeppphhigdabDoor
open Go.RowKit Go.Lib Go.Deep

theorem Nb.rng {kd : IntKind} {t : TypeId} {w : World} {g : Nat} {l : List Nat} (h : Nb kd t w g l) : w.rangeAt g 0 (nsL kd l) := range_of_heap (pre := []) (mid := nsL kd l) (post := []) h (by simp [ns])

theorem vl_zero_iff (b : Nat) (hb : 0 < b) (l : List Nat) : vl b l = 0 ↔ ∀ i, l.getD i 0 = 0 := by
  induction l with
  | nil => simp [vl]
  | cons x r ih =>
    rw [vl]
    constructor
    · intro h i
      have hx : x = 0 := by omega
      have hr : vl b r = 0 := by
        have : b * vl b r = 0 := by omega
        rcases Nat.mul_eq_zero.1 this with h | h
        · omega
        · exact h
      cases i with
      | zero => exact hx
      | succ i => rw [List.getD_cons_succ]; exact ih.1 hr i
    · intro h
      have h0 := h 0
      have hr := ih.2 (fun i => by have := h (i + 1); rwa [List.getD_cons_succ] at this)
      rw [hr]
      simpa using h0

set_option maxRecDepth 20000 in
set_option maxHeartbeats 1000000 in
theorem zero_any (v : Nat) (hv : v < 65536 ^ 24) (w : World) :
    Calls Tryd.prog 29 #[.agg (ns .i64 (d24 v))] w fun e w' => e = .returned (.bool (decide (v = 0))) ∧ Below w.heap.size w w' := by
  have hiff := vl_zero_iff 65536 (by omega) (d24 v)
  rw [vl_d24 v hv] at hiff
  have HI : Hid (v = 0 ↔ ∀ i, (d24 v).getD i 0 = 0) := hiff
  have hl := d24_length v
  have HL : Hid (∀ i, (d24 v).getD i 0 < 65536) := d24_at v
  clear hiff hv
  revert HI hl HL
  generalize d24 v = n
  intro HI hl HL
  have HS0 : Hid (Nb .i64 43 (w.alloc (.cells (ns .i64 n) 43)) w.heap.size n ∧ Below w.heap.size w (w.alloc (.cells (ns .i64 n) 43))) := ⟨Nb.new _ _ _ _, (Below.refl _ _).alloc (Nat.le_refl _) _⟩
  go_enter Tryd.func29, Tryd.ntmps29
  go_wp2
  go_loopg [3] 24 (fun gk i wr => ∃ k : Nat, k + gk = 24 ∧ i = .int .i64 k ∧ (∀ j, j < k → n.getD j 0 = 0) ∧ Nb .i64 43 wr w.heap.size n ∧ Below w.heap.size w wr)
  case atStart => exact ⟨0, by omega, rfl, fun j hj => by omega, HS0.out.1, HS0.out.2⟩
  case round =>
    clear HS0
    obtain ⟨k, hkk, rfl, hz, hn, hb⟩ := hrel
    have HK : Hid (k + gk = 24) := hkk
    have HZ : Hid (∀ j, j < k → n.getD j 0 = 0) := hz
    have hk' : k ≤ 24 := by omega
    clear hkk hz
    by_cases hlt : k < 24
    · have hltI : (k : Int) < 24 := by omega
      have c0 := hn.cell k (by omega)
      have HX : Hid (n.getD k 0 = n.getD k 0) := rfl
      have hx := HL.out k
      revert c0 hx
      generalize hxx : n.getD k 0 = x
      intro c0 hx
      have HXX : Hid (n.getD k 0 = x) := hxx
      clear hxx HX
      by_cases hx0 : x = 0
      · subst hx0
        go_wp2
        go_roundg (gk - 1)
        case measure => have := HK.out; omega
        case rel => exact ⟨k + 1, by have := HK.out; omega, by go_num, fun j hj => by
          by_cases hjk : j = k
          · rw [hjk]; exact HXX.out
          · exact HZ.out j (by omega), hn, hb⟩
      · have hxI : ¬ (x : Int) = 0 := by omega
        have HV : Hid (decide (v = 0) = false) := by
          show _ = _
          apply decide_eq_false
          intro h
          have := HI.out.1 h k
          rw [HXX.out] at this
          exact hx0 this
        go_wp2
        go_ret
        rw [HV.out]
        exact ⟨rfl, hb⟩
    · obtain rfl : k = 24 := by omega
      have HV : Hid (decide (v = 0) = true) := by
        show _ = _
        apply decide_eq_true
        apply HI.out.2
        intro i
        by_cases hi : i < 24
        · exact HZ.out i hi
        · rw [List.getD_eq_getElem?_getD, List.getElem?_eq_none (by omega)]
          rfl
      go_wp2
      go_ret
      rw [HV.out]
      exact ⟨rfl, hb⟩

/-- what parted holds -/
structure Pt (w wr : World) (n lo hi : List Nat) : Prop where
  own : Nb .i64 43 wr w.heap.size n
  r1 : Nb .i64 43 wr (w.heap.size + 1) (List.replicate 24 0)
  r2 : Nb .i64 43 wr (w.heap.size + 2) (List.replicate 24 0)
  low : Nb .i64 43 wr (w.heap.size + 3) lo
  high : Nb .i64 43 wr (w.heap.size + 4) hi
  bel : Below w.heap.size w wr
theorem Pt.putL {w wr : World} {n lo hi : List Nat} (h : Pt w wr n lo hi) (i x : Nat) : Pt w (wr.setCell ⟨w.heap.size + 3, i, none⟩ (.int .i64 (x : Int))) n (lo.set i x) hi :=
  ⟨h.own.beside (by simp) _, h.r1.beside (by simp) _, h.r2.beside (by simp) _, h.low.put i x, h.high.beside (by simp) _, h.bel.setCell (by simp) _⟩
theorem Pt.putH {w wr : World} {n lo hi : List Nat} (h : Pt w wr n lo hi) (i x : Nat) : Pt w (wr.setCell ⟨w.heap.size + 4, i, none⟩ (.int .i64 (x : Int))) n lo (hi.set i x) :=
  ⟨h.own.beside (by simp) _, h.r1.beside (by simp) _, h.r2.beside (by simp) _, h.low.beside (by simp) _, h.high.put i x, h.bel.setCell (by simp) _⟩

/-- the results, one by one -/
structure Pr (w wr : World) (lo hi a b : List Nat) : Prop where
  r1 : Nb .i64 43 wr (w.heap.size + 1) a
  r2 : Nb .i64 43 wr (w.heap.size + 2) b
  low : Nb .i64 43 wr (w.heap.size + 3) lo
  high : Nb .i64 43 wr (w.heap.size + 4) hi
  bel : Below w.heap.size w wr
theorem Pr.storeA {w wr : World} {lo hi a b : List Nat} (h : Pr w wr lo hi a b) (l : List Nat) (hl : l.length = 24) (ha : a.length = 24 := by rfl) : Pr w (wr.setCells (w.heap.size + 1) 0 (ns .i64 l).toList) lo hi l b :=
  ⟨h.r1.store l (by rw [hl, ha]), h.r2.aside (by simp) _ _, h.low.aside (by simp) _ _, h.high.aside (by simp) _ _, Below.setCells h.bel (by simp) _ _⟩
theorem Pr.storeB {w wr : World} {lo hi a b : List Nat} (h : Pr w wr lo hi a b) (l : List Nat) (hl : l.length = 24) (hb : b.length = 24 := by rfl) : Pr w (wr.setCells (w.heap.size + 2) 0 (ns .i64 l).toList) lo hi a l :=
  ⟨h.r1.aside (by simp) _ _, h.r2.store l (by rw [hl, hb]), h.low.aside (by simp) _ _, h.high.aside (by simp) _ _, Below.setCells h.bel (by simp) _ _⟩
theorem Pt.drew {w wr : World} {n lo hi : List Nat} (h : Pt w wr n lo hi) : Pr w wr.drew lo hi (List.replicate 24 0) (List.replicate 24 0) := ⟨h.r1, h.r2, h.low, h.high, h.bel.drew⟩

theorem results_cell2 {P : Program} {fn : Func} {p q : Tmp} {ty : TypeId} (h : fn.results = #[.cell p ty, .cell q ty]) (tmps : Array Value) (w : World) (g k : Nat) (t : TypeId) (cs ds : Array Value) (d : TypeDesc)
    (hp : tmps.getD p undef = .pointer (some ⟨g, 0, none⟩)) (hq : tmps.getD q undef = .pointer (some ⟨k, 0, none⟩)) (hg : w.heap[g]? = some (.cells cs t (0, 0))) (hk : w.heap[k]? = some (.cells ds t (0, 0))) (hu : P.underlying ty = some d) (hd : (match d with | .struct _ | .array _ _ => true | _ => false) = true)
    (hi : (P.info? ty).map (·.size) = some cs.size) (hj : (P.info? ty).map (·.size) = some ds.size) :
    (results fn tmps).run P w = .ok (.tuple #[.agg cs, .agg ds]) w := by
  have hp' : tmps[p]?.getD undef = .pointer (some ⟨g, 0, none⟩) := by simpa using hp
  have hq' : tmps[q]?.getD undef = .pointer (some ⟨k, 0, none⟩) := by simpa using hq
  simp [results, h, hp', hq', asAddr, run_loadVar_row w g t ty cs (0, 0) d hg hu hd hi, run_loadVar_row w k t ty ds (0, 0) d hk hu hd hj]

set_option maxRecDepth 20000 in
set_option maxHeartbeats 1000000 in
theorem parted_any (v : Nat) (hv : v < 65536 ^ 24) (w : World) :
    Calls Tryd.prog 28 #[.agg (ns .i64 (d24 v))] w fun e w' => e = .returned (.tuple #[.agg (ns .i64 (d24 (v % 1361129467683753853853498429727072845824))), .agg (ns .i64 (d24 (v / 1361129467683753853853498429727072845824)))]) ∧ Below w.heap.size w w' := by
  have HLO : Hid (d24 (v % 1361129467683753853853498429727072845824) = (fill 24 ((d24 v).take 8)).set 8 ((d24 v).getD 8 0 % 4)) := by
    show _ = _
    rw [← parted_low v]
    have h := fill_set 24 8 ((d24 v).take 8) ((d24 v).getD 8 0 % 4) (by rw [List.length_take, d24_length]; rfl) (by omega)
    rw [h]
    simp [fill, d24_length]
  have HHI : Hid (d24 (v / 1361129467683753853853498429727072845824) = fill 24 (dg 65536 16 (v / 1361129467683753853853498429727072845824))) := by
    show _ = _
    have h := dg_high (v / 1361129467683753853853498429727072845824) 16 (by simp only [Nat.reducePow] at hv ⊢; omega) (by omega)
    rw [if_pos rfl] at h
    rw [← h, fill, dg_length]
  have HST : Hid (∀ i, i < 16 → dg 65536 (i + 1) (v / 1361129467683753853853498429727072845824) = dg 65536 i (v / 1361129467683753853853498429727072845824) ++ [(d24 v).getD (i + 8) 0 / 4 + (if i + 9 < 24 then (d24 v).getD (i + 9) 0 % 4 else 0) * 16384]) := fun i hi => by
    rw [parted_high v i hi, dg_snoc, Nat.mod_eq_of_lt hv]
  have HL : Hid (∀ i, (d24 v).getD i 0 < 65536) := d24_at v
  have hl := d24_length v
  have hlo := d24_length (v % 1361129467683753853853498429727072845824)
  have hhi := d24_length (v / 1361129467683753853853498429727072845824)
  have HS0 : Hid (Pt w (((((w.alloc (.cells (ns .i64 (d24 v)) 43)).alloc (.cells (ns .i64 (List.replicate 24 0)) 43)).alloc (.cells (ns .i64 (List.replicate 24 0)) 43)).alloc (.cells (ns .i64 (List.replicate 24 0)) 43)).alloc (.cells (ns .i64 (List.replicate 24 0)) 43)) (d24 v) (fill 24 ((d24 v).take 0)) (fill 24 (dg 65536 0 (v / 1361129467683753853853498429727072845824)))) :=
    ⟨((((Nb.new _ _ _ _).alloc _).alloc _).alloc _).alloc _, (((Nb.newN _ _ _ _ _ (by simp)).alloc _).alloc _).alloc _, ((Nb.newN _ _ _ _ _ (by simp)).alloc _).alloc _, (Nb.newN _ _ _ _ _ (by simp)).alloc _, Nb.newN _ _ _ _ _ (by simp),
      (((((Below.refl _ _).alloc (Nat.le_refl _) _).alloc (by simp) _).alloc (by simp; omega) _).alloc (by simp; omega) _).alloc (by simp; omega) _⟩
  rw [zeros24] at HS0
  clear hv
  revert HLO HHI HST HL hl hlo hhi HS0
  generalize d24 (v % 1361129467683753853853498429727072845824) = LO
  generalize d24 (v / 1361129467683753853853498429727072845824) = HI
  generalize v / 1361129467683753853853498429727072845824 = q
  generalize d24 v = n
  intro HLO HHI HST HL hl hlo hhi HS0
  go_enter Tryd.func28, Tryd.ntmps28
  go_wp2
  go_loopg [6] 8 (fun gk i wr => ∃ k : Nat, k + gk = 8 ∧ i = .int .i64 k ∧ Pt w wr n (fill 24 (n.take k)) (fill 24 (dg 65536 0 q)))
  case atStart => exact ⟨0, by omega, rfl, HS0.out⟩
  case round =>
    clear HS0
    obtain ⟨k, hkk, rfl, HS⟩ := hrel
    have HK : Hid (k + gk = 8) := hkk
    have hk' : k ≤ 8 := by omega
    clear hkk
    have htl : (n.take k).length = k := by rw [List.length_take]; omega
    by_cases hlt : k < 8
    · have hltI : (k : Int) < 8 := by omega
      have hltI2 : (k : Int) < 24 := by omega
      have c0 := HS.own.cell k (by omega)
      have c1 := HS.low.cell k (by rw [fill_length _ _ (by omega)]; omega)
      have f1 := HS.low.frozen k
      have HR : Hid (Pt w (wr.setCell ⟨w.heap.size + 3, k, none⟩ (.int .i64 ((n.getD k 0 : Nat) : Int))) n (fill 24 (n.take (k + 1))) (fill 24 (dg 65536 0 q))) := by
        have h := HS.putL k (n.getD k 0)
        rw [fill_set 24 k _ _ htl (by omega)] at h
        have e : n.take (k + 1) = n.take k ++ [n.getD k 0] := by
          rw [List.take_add_one, List.getD_eq_getElem?_getD, List.getElem?_eq_getElem (by omega)]
          rfl
        rw [e]
        exact h
      clear HS
      revert c0 c1 HR
      generalize (fill 24 (n.take k)).getD k 0 = z
      generalize n.getD k 0 = x
      intro c0 c1 HR
      go_wp2
      go_roundg (gk - 1)
      case measure => have := HK.out; omega
      case rel => exact ⟨k + 1, by have := HK.out; omega, by go_num, HR.out⟩
    · obtain rfl : k = 8 := by omega
      have c0 := HS.own.cell 8 (by omega)
      have c1 := HS.low.cell 8 (by rw [fill_length _ _ (by omega)]; omega)
      have f1 := HS.low.frozen 8
      have hx := HL.out 8
      have HR : Hid (Pt w (wr.setCell ⟨w.heap.size + 3, 8, none⟩ (.int .i64 ((n.getD 8 0 % 4 : Nat) : Int))) n LO (fill 24 (dg 65536 0 q))) := by
        rw [HLO.out]
        exact HS.putL 8 (n.getD 8 0 % 4)
      have e4 : ((n.getD 8 0 : Nat) : Int) % 4 = ((n.getD 8 0 % 4 : Nat) : Int) := by omega
      clear HS HK HLO hlt hk' htl
      revert c0 c1 HR hx e4
      generalize (fill 24 (n.take 8)).getD 8 0 = z
      generalize n.getD 8 0 % 4 = y
      generalize n.getD 8 0 = x
      intro c0 c1 hx HR e4
      go_upto_region 8 with fail
      refine with_world (R := fun W => Code.wp _ _ _ _ W) (Q := fun W => Pt w W n LO (fill 24 (dg 65536 0 q))) _ HR.out ?_
      clear HR c0 c1 f1 e4 hx
      intro w2 HS2
      go_wp2
      go_loopg [7] 16 (fun gj i wx => ∃ m : Nat, m + gj = 16 ∧ i = .int .i64 (8 + (m : Int)) ∧ Pt w wx n LO (fill 24 (dg 65536 m q)))
      case atStart => exact ⟨0, by omega, rfl, HS2⟩
      case round =>
        clear HS2
        obtain ⟨m, hmm, rfl, HS⟩ := hrel
        have HM : Hid (m + gk = 16) := hmm
        have hm' : m ≤ 16 := by omega
        clear hmm
        have hdl : (dg 65536 m q).length = m := dg_length _ _ _
        by_cases hml : m < 16
        · have hmI : 8 + (m : Int) < 24 := by omega
          have hst := HST.out m hml
          have hx := HL.out (m + 8)
          have c0 : wr.cell? ⟨w.heap.size, 8 + m, none⟩ = some (.int .i64 ((n.getD (m + 8) 0 : Nat) : Int)) := by rw [Nat.add_comm 8 m]; exact HS.own.cell (m + 8) (by omega)
          have c2 := HS.high.cell m (by rw [fill_length _ _ (by omega)]; omega)
          have f2 := HS.high.frozen m
          by_cases h9 : m + 9 < 24
          · have h9I : 8 + (m : Int) + 1 < 24 := by omega
            have c1 : wr.cell? ⟨w.heap.size, 8 + m + 1, none⟩ = some (.int .i64 ((n.getD (m + 9) 0 : Nat) : Int)) := by rw [show 8 + m + 1 = m + 9 by omega]; exact HS.own.cell (m + 9) (by omega)
            have hy := HL.out (m + 9)
            rw [if_pos h9] at hst
            have HR : Hid (Pt w (wr.setCell ⟨w.heap.size + 4, m, none⟩ (.int .i64 ((n.getD (m + 8) 0 : Int) / 4 + (n.getD (m + 9) 0 : Int) % 4 * 16384))) n LO (fill 24 (dg 65536 (m + 1) q))) := by
              rw [hst, ← fill_set 24 m _ _ hdl (by omega)]
              have h := HS.putH m (n.getD (m + 8) 0 / 4 + n.getD (m + 9) 0 % 4 * 16384)
              rw [show ((n.getD (m + 8) 0 / 4 + n.getD (m + 9) 0 % 4 * 16384 : Nat) : Int) = (n.getD (m + 8) 0 : Int) / 4 + (n.getD (m + 9) 0 : Int) % 4 * 16384 by omega] at h
              exact h
            clear HS hst
            revert hx c0 c2 c1 hy HR
            generalize (fill 24 (dg 65536 m q)).getD m 0 = z
            generalize n.getD (m + 8) 0 = x
            generalize n.getD (m + 9) 0 = y
            intro hx c0 c2 c1 hy HR
            go_wp2
            go_roundg (gk - 1)
            case measure => have := HM.out; omega
            case rel => exact ⟨m + 1, by have := HM.out; omega, by go_num, HR.out⟩
          · have h9I : ¬ 8 + (m : Int) + 1 < 24 := by omega
            rw [if_neg h9, Nat.zero_mul, Nat.add_zero] at hst
            have HR : Hid (Pt w (wr.setCell ⟨w.heap.size + 4, m, none⟩ (.int .i64 ((n.getD (m + 8) 0 : Int) / 4))) n LO (fill 24 (dg 65536 (m + 1) q))) := by
              rw [hst, ← fill_set 24 m _ _ hdl (by omega)]
              have h := HS.putH m (n.getD (m + 8) 0 / 4)
              rw [show ((n.getD (m + 8) 0 / 4 : Nat) : Int) = (n.getD (m + 8) 0 : Int) / 4 by omega] at h
              exact h
            clear HS hst
            revert hx c0 c2 HR
            generalize (fill 24 (dg 65536 m q)).getD m 0 = z
            generalize n.getD (m + 8) 0 = x
            intro hx c0 c2 HR
            go_wp2
            go_roundg (gk - 1)
            case measure => have := HM.out; omega
            case rel => exact ⟨m + 1, by have := HM.out; omega, by go_num, HR.out⟩
        · obtain rfl : m = 16 := by omega
          rw [← HHI.out] at HS
          have hszL := ns24 LO hlo
          have hszH := ns24 HI hhi
          have hzL : (Tryd.prog.info? 43).map (·.size) = some (nsL .i64 LO).length := by rw [nsL_length, hlo]; exact size43
          have hzH : (Tryd.prog.info? 43).map (·.size) = some (nsL .i64 HI).length := by rw [nsL_length, hhi]; exact size43
          clear HM HST HHI HL
          go_upto_region 15 with fail
          refine wp_region_held_drew (S := fun W => W.rangeAt (w.heap.size + 3) 0 (nsL .i64 LO) ∧ W.rangeAt (w.heap.size + 4) 0 (nsL .i64 HI)) (by kernel_rfl) ⟨HS.drew.low.rng, HS.drew.high.rng⟩ ?_
          intro hS
          have HV := HS.drew
          clear HS
          revert HV hS
          generalize wr.drew = V
          intro hS HV
          refine wpAnyH_take (i := 0) (oi := { dst := some 44, op := .load 43 (.tmp 4), type := _, pos := _, after := _, guard := none }) (v := .agg (nsL .i64 LO).toArray) rfl (by kernel_rfl) (by kernel_rfl) (by kernel_rfl) (fun _ _ _ h => h) (yieldsIf_load_mid (by rfl) 43 (.tmp 4) rfl (w.heap.size + 3) 0 (by simp [Act.eval]) (nsL .i64 LO) _ (fun x hx => hx.1) Tryd.underlying43 rfl hzL) hS ?_
          (try simp only [Act.put, List.setIfInBounds_toArray, List.set_cons_zero, List.set_cons_succ])
          refine wpAnyH_take (i := 1) (oi := { dst := some 45, op := .load 43 (.tmp 5), type := _, pos := _, after := _, guard := none }) (v := .agg (nsL .i64 HI).toArray) rfl (by kernel_rfl) (by kernel_rfl) (by kernel_rfl) (fun _ _ _ h => h) (yieldsIf_load_mid (by rfl) 43 (.tmp 5) rfl (w.heap.size + 4) 0 (by simp [Act.eval]) (nsL .i64 HI) _ (fun x hx => hx.2) Tryd.underlying43 rfl hzH) hS ?_
          (try simp only [Act.put, List.setIfInBounds_toArray, List.set_cons_zero, List.set_cons_succ])
          refine wpAnyH_ready (rs := [2]) (by kernel_rfl) (by simp) ?_
          refine AllReadyH.cons (o := { dst := none, op := .store 43 (.tmp 2) (.tmp 44), type := _, pos := _, after := _, guard := none }) rfl (fun K hK => ?_) AllReadyH.nil
          refine step_store_mid rfl 43 (.tmp 2) (.tmp 44) rfl (w.heap.size + 1) 0 (ns .i64 LO) (by simp [Act.eval]) (by simp [Act.eval, ns]) (HV.r1.there _ (by rw [ns_size, hlo]; rfl)) hszL (ns_one .i64 LO) ?_
          have H1 := HV.storeA LO hlo
          refine hK.out _ _ ⟨H1.low.rng, H1.high.rng⟩ (fun _ => ?_)
          clear hK K hS
          (try simp only [Act.put])
          have hS1 : (V.setCells (w.heap.size + 1) 0 (ns .i64 LO).toList).rangeAt (w.heap.size + 3) 0 (nsL .i64 LO) ∧ (V.setCells (w.heap.size + 1) 0 (ns .i64 LO).toList).rangeAt (w.heap.size + 4) 0 (nsL .i64 HI) := ⟨H1.low.rng, H1.high.rng⟩
          refine wpAnyH_ready (rs := [3]) (by kernel_rfl) (by simp) ?_
          refine AllReadyH.cons (o := { dst := none, op := .store 43 (.tmp 3) (.tmp 45), type := _, pos := _, after := _, guard := none }) rfl (fun K hK => ?_) AllReadyH.nil
          refine step_store_mid rfl 43 (.tmp 3) (.tmp 45) rfl (w.heap.size + 2) 0 (ns .i64 HI) (by simp [Act.eval]) (by simp [Act.eval, ns]) (H1.r2.there _ (by rw [ns_size, hhi]; rfl)) hszH (ns_one .i64 HI) ?_
          have H2 := H1.storeB HI hhi
          refine hK.out _ _ ⟨H2.low.rng, H2.high.rng⟩ (fun _ => ?_)
          clear hK K hS1
          (try simp only [Act.put])
          refine wpAnyH_done (by kernel_rfl) ?_ _
          have k1 := H2.r1
          have k2 := H2.r2
          have hbf := H2.bel
          unfold Nb at k1 k2
          clear H2 H1 HV
          go_wp2
          refine bodyPost_ret (results_cell2 rfl _ _ (w.heap.size + 1) (w.heap.size + 2) 43 _ _ _ rfl rfl k1 k2 Tryd.underlying43 rfl hszL hszH) rfl ?_
          exact ⟨rfl, hbf⟩

end Go.Proofs.YtggfeppphhigdabDoor
