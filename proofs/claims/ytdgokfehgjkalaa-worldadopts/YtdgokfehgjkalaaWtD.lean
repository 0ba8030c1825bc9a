import Derived.Test.YtdgokfehgjkalaaWtC
namespace Go.Proofs.Ytdgokfehgjkalaa.Wd
open Go.RowKit Go.Lib Go.Deep

theorem trCells_length : ∀ (tr : List Cal) (nv : List Value), nv.length = tr.length → (trCells tr nv).length = tr.length * 6
  | [], [], _ => rfl
  | c :: tr, v :: nv, h => by
    have ih := trCells_length tr nv (by simpa using h)
    have e : trCells (c :: tr) (v :: nv) = calCells (c, v) ++ trCells tr nv := by simp [trCells]
    rw [e, List.length_append, ih]
    simp [calCells]
    omega
theorem trCells_at : ∀ (tr : List Cal) (nv : List Value) (i : Nat) (c : Cal) (v : Value), tr[i]? = some c → nv[i]? = some v → ∀ j, j < 6 → (trCells tr nv)[i * 6 + j]? = (calCells (c, v))[j]?
  | [], _, _, _, _, h, _, _, _ => by cases h
  | _ :: _, [], _, _, _, _, h, _, _ => by cases h
  | c :: tr, v :: nv, 0, c', v', h, h', j, hj => by
    obtain rfl : c = c' := Option.some.inj h
    obtain rfl : v = v' := Option.some.inj h'
    have e : trCells (c :: tr) (v :: nv) = calCells (c, v) ++ trCells tr nv := by simp [trCells]
    rw [e, Nat.zero_mul, Nat.zero_add, List.getElem?_append_left (by simpa [calCells] using hj)]
  | c :: tr, v :: nv, i + 1, c', v', h, h', j, hj => by
    have ih := trCells_at tr nv i c' v' h h' j hj
    have e : trCells (c :: tr) (v :: nv) = calCells (c, v) ++ trCells tr nv := by simp [trCells]
    have hl : (calCells (c, v)).length = 6 := rfl
    rw [e, List.getElem?_append_right (by omega), hl, ← ih]
    congr 1
    omega
theorem trCells_set : ∀ (tr : List Cal) (nv : List Value) (i : Nat) (v' : Value), nv.length = tr.length → i < tr.length → (trCells tr nv).set (i * 6 + 5) v' = trCells tr (nv.set i v')
  | [], _, _, _, _, h => by cases h
  | _ :: _, [], _, _, h, _ => by cases h
  | c :: tr, v :: nv, 0, v', _, _ => by
    have e : ∀ u, trCells (c :: tr) (u :: nv) = calCells (c, u) ++ trCells tr nv := fun u => by simp [trCells]
    rw [List.set_cons_zero, e, e]
    simp [calCells]
  | c :: tr, v :: nv, i + 1, v', h, h' => by
    have ih := trCells_set tr nv i v' (by simpa using h) (by simpa using h')
    have e : ∀ nv', trCells (c :: tr) (v :: nv') = calCells (c, v) ++ trCells tr nv' := fun u => by simp [trCells]
    have hl : (calCells (c, v)).length = 6 := rfl
    rw [List.set_cons_succ, e, e, List.set_append_right _ _ (by omega), hl, ← ih]
    congr 2
    omega
/-- a cell of an own row turned -/
theorem owns_set {w : World} {B e n sz : Nat} {g c j : Nat} {xs : List Value} (v' : Value) (h : w.ownsRow B e sz (.slice (some ⟨g, 0, none⟩) n c) n xs) (_hj : j < n * sz) : (w.setCell ⟨g, j, none⟩ v').ownsRow B e sz (.slice (some ⟨g, 0, none⟩) n c) n (xs.set j v') := by
  refine ⟨by rw [List.length_set]; exact h.1, ?_⟩
  rcases h.2 with ⟨h1, h2⟩ | ⟨g1, cap, cur, h1, h2, h3, h4, h5, h6, h7⟩
  · cases h1
  · injection h1 with e1 _ e2
    injection e1 with e1
    injection e1 with e1 _ _
    subst e1 e2
    refine .inr ⟨_, _, cur.setIfInBounds j v', rfl, h2, heap_setCell_same _ _ j _ _ v' h3, h4, by simpa using h5, by simpa using h6, ?_⟩
    rw [← h7, Array.toList_setIfInBounds, List.take_set]
set_option maxRecDepth 20000 in
set_option maxHeartbeats 1000000 in
theorem cloneC_any (w : World) (v : Value) (n : Nat) (xs : List Value) (hn : n ≤ 1590000000000) (h3 : w.ownsRow 0 90 6 v n xs) (h1c : ∀ u ∈ xs, u.oneCell' = true) :
    Calls Try.prog 46 #[v] w fun e w' => ∃ a c, e = .returned (.slice a n c) ∧ w'.ownsRow w.heap.size 90 6 (.slice a n c) n xs ∧ Below w.heap.size w w' := by
  have hq : ∀ (w : World) (a : Option Addr) (n c n' c' : Nat), (binOp .eql 47 (.slice a n c) (.slice none n' c')).run Try.prog w = .ok (.bool a.isNone) w := fun w a n c n' c' => Lib.run_eql_slice_nil w _ _ a n c n' c' Try.underlying47
  have hxl := h3.1
  rcases h3.2 with ⟨h1, h2⟩ | ⟨g, cap, cur, h1, h2, h4, h5, h6, h7, h8⟩
  · subst h1
    subst h2
    have hR : xs = [] := List.eq_nil_of_length_eq_zero (by omega)
    subst hR
    clear h3
    go_enter Try.func46, Try.ntmps46
    go_wp2
    go_ret
    exact ⟨_, _, rfl, ⟨rfl, .inl ⟨rfl, rfl⟩⟩, Below.refl _ _⟩
  · subst h1
    obtain ⟨i0, hi, hz0, hz1, hz2⟩ := info_parts infoCall
    obtain ⟨W1, hW1⟩ : ∃ W, w.alloc (.cells #[] 90) = W := ⟨_, rfl⟩
    have hb1 : Below w.heap.size w W1 := by rw [← hW1]; exact (Below.refl _ _).alloc (Nat.le_refl _) _
    have HO : Hid (W1.ownsRow w.heap.size 90 6 (.slice (some ⟨w.heap.size, 0, none⟩) 0 0) 0 []) := ⟨rfl, .inr ⟨w.heap.size, 0, #[], rfl, Nat.le_refl _, by rw [← hW1]; exact heap_new _ _, Nat.le_refl _, Nat.zero_le _, rfl, rfl⟩⟩
    have HC : Hid (∀ j u, xs[j]? = some u → W1.cell? ((⟨g, 0, none⟩ : Addr).add j) = some u) := fun j u hu => by
      have hj := (List.getElem?_eq_some_iff.1 hu).1
      rw [← h8, List.getElem?_take, if_pos (by omega), Array.getElem?_toList] at hu
      rw [Addr.add_lit, Nat.zero_add, hb1.cell (p := ⟨g, j, none⟩) (heap_lt h4), cell_of_heap h4]
      exact hu
    have HL : Hid (xs.length = n * 6 ∧ ∀ u ∈ xs, u.oneCell' = true) := ⟨hxl, h1c⟩
    have hz : 0 + n ≤ maxLen ∧ (0 + n) * 88 ≤ 140737488355328 ∧ w.heap.size ≤ W1.heap.size := ⟨by unfold maxLen; omega, by omega, hb1.size⟩
    clear h3 h2 h4 h5 h6 h7 h8 hxl h1c
    go_enter Try.func46, Try.ntmps46
    go_wp2_with (first | (at_builtin; (try rw [hW1]); refine wpList_append_own _ rfl _ _ 47 rfl w.heap.size 90 i0 _ 6 88 Try.underlying47 hi hz0 hz1 hz2 rfl (by decide) _ _ _ rfl HO.out _ _ _ _ rfl HL.out.1 HC.out HL.out.2 hz.1 hz.2.1 hz.2.2 ?_; intro v' w2 hown hgrow _) | go_in)
    rw [Nat.zero_add, List.nil_append] at hown
    obtain ⟨a, c, rfl⟩ := own_len hown
    go_ret
    exact ⟨a, c, rfl, hown, hb1.trans (grown_below hgrow hz.2.2 HO.out)⟩
/-- how long the lists of names in a trace are -/
def NmB (S : Wst) (N : Nat) : Prop := ∀ c ∈ S.tr, c.names.length ≤ N
theorem cells_one {tr : List Cal} {nv : List Value} (hl : nv.length = tr.length) (h : ∀ (i : Nat) (c : Cal) (v : Value), tr[i]? = some c → nv[i]? = some v → ∃ a n c, v = .slice a n c) : ∀ u ∈ trCells tr nv, u.oneCell' = true := fun u hu => by
  obtain ⟨j, hj⟩ := List.mem_iff_getElem?.1 hu
  have hjl := (List.getElem?_eq_some_iff.1 hj).1
  rw [trCells_length tr nv hl] at hjl
  obtain ⟨c, hc⟩ : ∃ c, tr[j / 6]? = some c := ⟨_, List.getElem?_eq_getElem (by omega)⟩
  obtain ⟨v, hv⟩ : ∃ v, nv[j / 6]? = some v := ⟨_, List.getElem?_eq_getElem (by omega)⟩
  have := trCells_at tr nv (j / 6) c v hc hv (j % 6) (by omega)
  rw [show j / 6 * 6 + j % 6 = j by omega, hj] at this
  obtain ⟨a, n, cc, rfl⟩ := h _ c v hc hv
  have hm := List.mem_of_getElem? this.symm
  simp only [calCells, List.mem_cons, List.not_mem_nil, or_false] at hm
  rcases hm with rfl | rfl | rfl | rfl | rfl | rfl <;> rfl
theorem see_calls {w : World} {B n : Nat} {v : Value} {tr : List Cal} {nv : List Value} (h : w.ownsRow B 90 6 v n (trCells tr nv)) (hl : tr.length = n) (hnl : nv.length = n) (hs : ∀ (i : Nat) (c : Cal) (v : Value), tr[i]? = some c → nv[i]? = some v → ∃ a n c, v = .slice a n c) : SeeC w v n tr := by
  obtain ⟨a, c, rfl⟩ := own_len h
  refine ⟨hl, a, c, rfl, fun i x hx => ?_⟩
  have hil := (List.getElem?_eq_some_iff.1 hx).1
  obtain ⟨u, hu⟩ : ∃ u, nv[i]? = some u := ⟨_, List.getElem?_eq_getElem (by omega)⟩
  obtain ⟨na, nn, nc, rfl⟩ := hs i x u hx hu
  have at_ := trCells_at tr nv i x _ hx hu
  rcases h.2 with ⟨h1, h2⟩ | ⟨g, cap, cur, h1, h2, h3, h4, h5, h6, h7⟩
  · omega
  · injection h1 with h1 _ _
    have rd : ∀ j, j < 6 → ∀ y, (calCells (x, .slice na nn nc))[j]? = some y → w.cell? ⟨g, 0 + i * 6 + j, none⟩ = some y := fun j hj y hy => by
      have := at_ j hj
      rw [hy, ← h7, List.getElem?_take, if_pos (by omega), Array.getElem?_toList] at this
      rw [Nat.zero_add, cell_of_heap h3]
      exact this
    exact ⟨g, 0, na, nn, nc, h1, heap_lt h3, rd 0 (by omega) _ rfl, rd 1 (by omega) _ rfl, rd 2 (by omega) _ rfl, rd 3 (by omega) _ rfl, rd 4 (by omega) _ rfl, rd 5 (by omega) _ rfl⟩
set_option maxRecDepth 10000 in
set_option maxHeartbeats 1000000 in
theorem trace_any (w : World) (pb q : Nat) (F : List Nat) (S : Wst) (N : Nat) (h : Top w pb q) (hs : St w q F S) (hn : S.tr.length ≤ 1590000000000) (hN : NmB S N) (hN2 : N ≤ 8796093022207) : Calls Try.prog 21 #[.pointer (some ⟨pb, 0, none⟩)] w fun e w' => ∃ a c, e = .returned (.slice a S.tr.length c) ∧ SeeC w' (.slice a S.tr.length c) S.tr.length S.tr ∧ Below w.heap.size w w' := by
  have hm := made_any w pb q h
  have c0 := h.cell
  obtain ⟨m, pl, la, tv, av, uv, D, al, nv, hF, hI⟩ := id hs
  obtain ⟨ta, tc, rfl⟩ := own_len hI.ht
  have c7 := hI.cells.2.2.2.2.2.2.2.1
  have hsl : ∀ (i : Nat) (c : Cal) (v : Value), S.tr[i]? = some c → nv[i]? = some v → ∃ a n c, v = .slice a n c := fun i c v hc hv => by
    obtain ⟨a, c', e⟩ := own_len (hI.hnv i c v hc hv)
    exact ⟨_, _, _, e⟩
  have hcl := cloneC_any w _ S.tr.length (trCells S.tr nv) hn hI.ht (cells_one hI.hnl hsl)
  have HNV : Hid (∀ W, Below w.heap.size w W → ∀ (i : Nat) (c : Cal) (v : Value), S.tr[i]? = some c → nv[i]? = some v → W.ownsRow 0 9 1 v c.names.length (c.names.map encStr)) := fun W hb i c v hc hv => owns_keep (hI.hnv i c v hc hv) fun g hg => by
    obtain ⟨cu, hcu⟩ := owns_block (hI.hnv i c v hc hv) hg
    exact hb.block g (heap_lt hcu)
  have HNL : Hid (nv.length = S.tr.length) := hI.hnl
  have HNB : Hid (∀ (i : Nat) (c : Cal), S.tr[i]? = some c → c.names.length ≤ 8796093022207) := fun i c hc => Nat.le_trans (hN c (List.mem_of_getElem? hc)) hN2
  obtain ⟨tr, htr⟩ : ∃ tr, S.tr = tr := ⟨_, rfl⟩
  rw [htr] at hcl HNV HNL HNB c7 hn ⊢
  obtain ⟨n, hn'⟩ : ∃ n, tr.length = n := ⟨_, rfl⟩
  have HLN : Hid (tr.length = n) := hn'
  rw [hn'] at hcl HNL c7 hn ⊢
  clear hI hF hs hN htr hn' hsl h
  go_enter Try.func21, Try.ntmps21
  go_wp2_with fail
  refine hm.mono ?_
  rintro e w' ⟨rfl, rfl⟩
  go_wp2_with fail
  refine hcl.mono ?_
  rintro e w2 ⟨a2, c2, rfl, ho2, hb2⟩
  have HO2 : Hid (w2.ownsRow w'.heap.size 90 6 (.slice a2 n c2) n (trCells tr nv)) := ho2
  have HB2 : Hid (Below w'.heap.size w' w2) := hb2
  clear ho2 hb2 hcl hm c7 c0
  go_wp2_with fail
  go_loopg [18] n (fun gk iv wr => ∃ (k : Nat) (nk : List Value), k + gk = n ∧ iv = .int .i64 (k : Int) ∧ Hid (nk.length = n) ∧ Hid (wr.ownsRow w'.heap.size 90 6 (.slice a2 n c2) n (trCells tr nk)) ∧ Hid (∀ (i : Nat) (c : Cal) (v : Value), tr[i]? = some c → nk[i]? = some v → wr.ownsRow 0 9 1 v c.names.length (c.names.map encStr)) ∧ Hid (Below w'.heap.size w' wr))
  case atStart => exact ⟨0, nv, by omega, rfl, HNL.out, HO2.out, HNV.out _ HB2.out, HB2.out⟩
  case round =>
    obtain ⟨k, nk, hk, rfl, HKL, HKO, HKR, HW⟩ := hrel
    have HKG : Hid (k + gk = n) := hk
    have hkn : k ≤ n := by omega
    clear hk HO2 HB2
    by_cases hlt : k < n
    · have hltI : (k : Int) < (n : Int) := by omega
      obtain ⟨x, hx⟩ : ∃ x, tr[k]? = some x := ⟨_, List.getElem?_eq_getElem (by have := HLN.out; omega)⟩
      obtain ⟨v, hv⟩ : ∃ v, nk[k]? = some v := ⟨_, List.getElem?_eq_getElem (by have := HKL.out; omega)⟩
      have hrw := HKR.out k x v hx hv
      have hcn := cloneS_any wr v x.names (HNB.out k x hx) hrw
      obtain ⟨va, vc, rfl⟩ := own_len hrw
      have hat := trCells_at tr nk k x _ hx hv 5 (by omega)
      obtain ⟨g2, cap2, cur2, ea, hg2, hb2, hc5, hf5⟩ : ∃ g cap cur, Value.slice a2 n c2 = .slice (some ⟨g, 0, none⟩) n cap ∧ w'.heap.size ≤ g ∧ wr.heap[g]? = some (.cells cur 90 (0, 0)) ∧ wr.cell? ⟨g, k * 6 + 5, none⟩ = some (.slice va x.names.length vc) ∧ wr.frozen? ⟨g, k * 6 + 5, none⟩ = false := by
        rcases HKO.out.2 with ⟨h1, h2⟩ | ⟨g, cap, cur, h1, h2, h3, h4, h5, h6, h7⟩
        · omega
        · refine ⟨g, cap, cur, h1, h2, h3, ?_, frozen_of_heap h3⟩
          rw [cell_of_heap h3]
          rw [← h7, List.getElem?_take, if_pos (by omega), Array.getElem?_toList] at hat
          exact hat
      injection ea with ea _ ea'
      subst ea ea'
      have HFin : Hid (∀ w3 v' , Below wr.heap.size wr w3 → w3.ownsRow wr.heap.size 9 1 v' x.names.length (x.names.map encStr) → (w3.cell? ⟨g2, k * 6 + 5, none⟩ = some (.slice va x.names.length vc) ∧ w3.frozen? ⟨g2, k * 6 + 5, none⟩ = false) ∧ (nk.set k v').length = n ∧ (w3.setCell ⟨g2, k * 6 + 5, none⟩ v').ownsRow w'.heap.size 90 6 (.slice (some ⟨g2, 0, none⟩) n c2) n (trCells tr (nk.set k v')) ∧ (∀ (i : Nat) (c : Cal) (v : Value), tr[i]? = some c → (nk.set k v')[i]? = some v → (w3.setCell ⟨g2, k * 6 + 5, none⟩ v').ownsRow 0 9 1 v c.names.length (c.names.map encStr)) ∧ Below w'.heap.size w' (w3.setCell ⟨g2, k * 6 + 5, none⟩ v')) := fun w3 v' hb ho => by
        have h3 : w3.heap[g2]? = some (.cells cur2 90 (0, 0)) := (hb.block g2 (heap_lt hb2)).trans hb2
        have hks : ∀ {v : Value} {m : Nat} {ys : List Value} {B : Nat}, w3.ownsRow B 9 1 v m ys → (w3.setCell ⟨g2, k * 6 + 5, none⟩ v').ownsRow 0 9 1 v m ys := fun {v m ys B} hr => own_base (owns_keep hr fun g hg => heap_setCell_other _ _ _ _ (fun e => by
          obtain ⟨cu, hcu⟩ := owns_block hr hg
          rw [e, h3] at hcu
          injection hcu with hcu
          injection hcu with _ hcu _
          cases hcu)) (Nat.zero_le _)
        have hro : w3.ownsRow w'.heap.size 90 6 (.slice (some ⟨g2, 0, none⟩) n c2) n (trCells tr nk) := owns_keep HKO.out fun g hg => hb.block g (World.ownsRow.lt HKO.out g hg).2
        refine ⟨⟨(hb.cell (p := ⟨g2, _, none⟩) (heap_lt hb2)).trans hc5, frozen_of_heap h3⟩, by rw [List.length_set]; exact HKL.out, ?_, fun i c u hc hu => ?_, (HW.out.trans (hb.mono HW.out.size)).setCell (p := ⟨g2, _, none⟩) hg2 _⟩
        · rw [← trCells_set tr nk k v' (by rw [HKL.out, HLN.out]) (by rw [HLN.out]; exact hlt)]
          exact owns_set v' hro (by omega)
        · by_cases hik : i = k
          · subst hik
            rw [hx] at hc
            obtain rfl := Option.some.inj hc
            rw [List.getElem?_set_self (by rw [HKL.out]; exact hlt)] at hu
            obtain rfl := Option.some.inj hu
            exact hks ho
          · rw [List.getElem?_set_ne (fun e => hik e.symm)] at hu
            exact hks (owns_keep (HKR.out i c u hc hu) fun g hg => hb.block g (World.ownsRow.lt (HKR.out i c u hc hu) g hg).2)
      obtain ⟨nx, hnx⟩ : ∃ nx, x.names.length = nx := ⟨_, rfl⟩
      rw [hnx] at hcn hc5 HFin
      obtain ⟨ys, hys⟩ : ∃ ys, x.names.map encStr = ys := ⟨_, rfl⟩
      rw [hys] at hcn HFin
      clear hx hv hrw hat hb2 hnx hys
      go_wp2_with fail
      refine hcn.mono ?_
      rintro e w3 ⟨a3, c3, rfl, ho3, hb3⟩
      obtain ⟨⟨z1, z2⟩, z3⟩ := HFin.out w3 _ hb3 ho3
      have HZ : Hid _ := z3
      clear z3 ho3 hb3 hc5 hf5
      go_wp2
      go_roundg (gk - 1)
      case measure => have := HKG.out; omega
      case rel => exact ⟨k + 1, nk.set k (.slice a3 nx c3), by have := HKG.out; omega, by go_num, HZ.out.1, HZ.out.2.1, HZ.out.2.2.1, HZ.out.2.2.2⟩
    · obtain rfl : k = n := by omega
      have hltI : ¬ (k : Int) < (k : Int) := by omega
      go_wp2
      go_ret
      refine ⟨_, _, rfl, see_calls HKO.out HLN.out HKL.out (fun i c v hc hv => ?_), HW.out⟩
      obtain ⟨a, c', e⟩ := own_len (HKR.out i c v hc hv)
      exact ⟨_, _, _, e⟩
theorem nm_end {S T : Wst} {N : Nat} {c : Cal} (h : NmB S N) (h1 : T.tr = S.tr) (hc : c.names.length ≤ N) : NmB (endS T c) N := by
  unfold NmB endS
  rw [(useS_tr _).1]
  intro x hx
  have hx : x ∈ T.tr ++ [c] := hx
  rw [h1] at hx
  rcases List.mem_append.1 hx with hx | hx
  · exact h x hx
  · simp at hx
    subst hx
    exact hc
theorem nm_use {S : Wst} {N : Nat} (h : NmB S N) : NmB (useS S) N := by
  unfold NmB at *
  rw [(useS_tr _).1]
  exact h
theorem nm_do {S : Wst} {N : Nat} (h : NmB S N) (hk : (keysL S.f).length ≤ N) (o : Ops) : NmB (doS S o) N := by
  unfold doS
  split
  · unfold getS; split
    · exact nm_end h rfl (Nat.zero_le _)
    · exact h
  split
  · unfold putS; split
    · exact nm_end h rfl (Nat.zero_le _)
    · exact h
  split
  · unfold delS; split
    · exact nm_end h rfl (Nat.zero_le _)
    · exact h
  split
  · unfold listS; split
    · exact h
    · exact nm_end h rfl hk
  split
  · unfold loadS; split
    · exact h
    · exact nm_use h
  split
  · unfold pendS; split
    · exact h
    · split
      · exact nm_use (S := { S with pen := o.name }) h
      · exact h
  split
  · unfold commitS; split
    · exact h
    · refine nm_use (S := comS S) ?_
      unfold comS; split
      · exact h
      · exact h
  split
  · unfold forgetS; split
    · exact h
    · exact nm_use (S := { S with pen := { data := #[] } }) h
  split
  · unfold stopS; split
    · exact h
    · exact nm_use (S := { S with stp := true }) h
  split
  · unfold armSS; split
    · exact h
    · exact h
  split
  · exact h
  · exact h

end Go.Proofs.Ytdgokfehgjkalaa.Wd
