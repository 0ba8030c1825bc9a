import Derived.Test.YtbjiamaaocjbfaaDoorPrM
import Derived.Test.YtbjiamaaocjbfaaDoorKrP
namespace Go.Proofs.YtbjiamaaocjbfaaDoor.Kp
open Go.RowKit Go.Lib Go.Deep Kr

theorem textK (id : List UInt8) (ss : List Slot) (k : Nat) (s : Slot) (h : ss[k]? = some s) : glue 10 ([kHead, idLine id, slotsLine ss.length] ++ (ss.take k).map slotLine) ++ (slotLine s ++ [10]) = glue 10 ([kHead, idLine id, slotsLine ss.length] ++ (ss.take (k + 1)).map slotLine) := by
  rw [List.take_add_one, h]
  simp [glue]

theorem head_str : ({ data := #[99, 97, 115, 107, 101, 116, 32, 114, 105, 110, 103, 32, 49, 10] } : ByteArray) = str (kHead ++ [10]) := rfl
theorem textK_le {id : List UInt8} {ss : List Slot} (k : Nat) : (glue 10 ([kHead, idLine id, slotsLine ss.length] ++ (ss.take k).map slotLine)).length ≤ (textL id ss).length := by
  have e : textL id ss = glue 10 ([kHead, idLine id, slotsLine ss.length] ++ (ss.take k).map slotLine) ++ glue 10 ((ss.drop k).map slotLine) := by
    rw [← glue_append, List.append_assoc, ← List.map_append, List.take_append_drop]
    rfl
  rw [e, List.length_append]
  omega
theorem slotLine_le {s : Slot} (h : s.salt.length = 16 ∧ 1 ≤ s.rounds ∧ s.rounds ≤ 4096 ∧ s.wrapped.length = 72) : (slotLine s ++ [10]).length ≤ 5000 := by
  have := (dec_len4 s.rounds.toNat (by omega)).2
  simp [slotLine, unwords, kSlot, hexL_length, h.1, h.2.2.2]
  omega

set_option maxRecDepth 20000 in
set_option maxHeartbeats 2000000 in
theorem print_any (id : List UInt8) (v : Value) (ss : List Slot) (w : World) (hS : SeeS w v ss) (hid : id.length ≤ 140737488355328) (hn : ss.length ≤ 9223372036854775807) (ht : Tabs w) (hI : ITab w) (h4 : 8 ≤ w.heap.size) :
    Calls Tryd.prog 5 #[.agg #[.string (str id), v]] w fun e w' => e = .returned (.tuple #[.string (str (printY id ss)), .int .i64 (printE id ss)]) ∧ Below w.heap.size w w' := by
  have c0 := fun W (hb : Below w.heap.size w W) => isRing_any id v ss W (hS.below hb) (by omega) (by omega)
  obtain ⟨a, b, off, cap, rfl, h2, h3⟩ := hS.ex
  clear hS
  have H3 : Hid (∀ j u, (ringCells ss)[j]? = some u → w.cell? ⟨b, off + j, none⟩ = some u) := h3
  clear h3
  have hbA : Below w.heap.size w (w.alloc (.cells #[.string (str id), .slice a ss.length cap] 24)) := (Below.refl _ _).alloc (Nat.le_refl _) _
  have c1 := c0 _ hbA
  clear c0
  have HA : Hid ((w.alloc (.cells #[.string (str id), .slice a ss.length cap] 24)).heap[w.heap.size]? = some (.cells #[.string (str id), .slice a ss.length cap] 24 (0, 0))) := heap_new _ _
  have HBA : Hid _ := hbA
  clear hbA
  have x0 : (w.alloc (.cells #[.string (str id), .slice a ss.length cap] 24)).cell? ⟨w.heap.size, 0, none⟩ = some (.string (str id)) := (cell_of_heap HA.out).trans rfl
  have x1 : (w.alloc (.cells #[.string (str id), .slice a ss.length cap] 24)).cell? ⟨w.heap.size, 1, none⟩ = some (.slice a ss.length cap) := (cell_of_heap HA.out).trans rfl
  cases hri : rightR id ss with
  | false =>
    have e1 : printY id ss = [] := by unfold printY; rw [hri, if_neg (by decide)]
    have e2 : printE id ss = 72 := by unfold printE; rw [hri, if_neg (by decide)]
    rw [hri] at c1
    rw [e1, e2]
    clear e1 e2
    go_enter Tryd.func5, Tryd.ntmps5
    go_wp2_with fail
    refine c1.mono ?_
    rintro e w1 ⟨rfl, hb1⟩
    have HB1 : Hid _ := HBA.out.trans (hb1.mono HBA.out.size)
    clear hb1 x0 x1
    go_wp2
    go_ret2
    exact ⟨rfl, HB1.out⟩
  | true =>
    obtain ⟨l16, n1, n8, hss⟩ := right_parts hri
    have e1 : printY id ss = printL id ss := by unfold printY; rw [hri, if_pos rfl]
    have e2 : printE id ss = 0 := by unfold printE; rw [hri, if_pos rfl]
    rw [hri] at c1
    rw [e1, e2]
    have htl := textL_le hri
    have HSS : Hid _ := hss
    clear e1 e2 hri hss
    obtain ⟨rfl, hbw⟩ := h2 (by omega)
    obtain ⟨n, hnn⟩ : ∃ n, ss.length = n := ⟨_, rfl⟩
    have HN : Hid (ss.length = n) := hnn
    rw [hnn] at n1 n8 hn c1 HA HBA x0 x1 ⊢
    clear hnn h2
    have hxi := fun W => hex_any (str id) W (by rw [str_size]; omega)
    rw [kHex_str] at hxi
    have HXI : Hid _ := hxi
    have HIT : Hid (∀ m W, m ≤ 9999 → Below w.heap.size w W → Calls Tryd.prog 15 #[.int .i64 ((m : Nat) : Int)] W fun e w' => e = .returned (.string (str (dec m))) ∧ Below W.heap.size W w') := fun m W hm hb => itoa_any m (by omega) W (hI.below hb (by omega))
    clear hxi
    go_enter Tryd.func5, Tryd.ntmps5
    go_wp2_with fail
    refine c1.mono ?_
    clear c1 x0 x1
    rintro e w1 ⟨rfl, hb1⟩
    have hr1 := (hb1.block _ (heap_lt HA.out)).trans HA.out
    have hB1 : Below w.heap.size w w1 := HBA.out.trans (hb1.mono HBA.out.size)
    have HP1 : Hid (Pr w (w1.alloc (.cells #[.pointer none, .slice none 0 0] 42)) w1.heap.size (str id) (.slice (some ⟨b, off, none⟩) n cap) []) :=
      ⟨hB1.alloc hB1.size _, (Below.heap_alloc _ _ _ (heap_lt hr1)).trans hr1, Bd.new w1, heap_lt hr1, by simp⟩
    clear hb1 hr1 hB1
    go_wp2_with fail
    rw [head_str]
    refine (HP1.out.writes (kHead ++ [10]) (by simp [kHead])).mono ?_
    rintro e w2 ⟨rfl, hP2, _⟩
    clear HP1
    rw [List.nil_append] at hP2
    have HP2 : Hid (Pr w w2 w1.heap.size (str id) (.slice (some ⟨b, off, none⟩) n cap) (kHead ++ [10])) := hP2
    have x0 : w2.cell? ⟨w.heap.size, 0, none⟩ = some (.string (str id)) := (cell_of_heap hP2.rng).trans rfl
    clear hP2
    generalize (str (kHead ++ [10])).size = z2
    go_wp2_with fail
    refine (HXI.out _).mono ?_
    rintro e w3 ⟨rfl, hb3⟩
    have HP3 : Hid _ := HP2.out.over hb3
    clear HP2 hb3 x0 HXI
    have z3 : (str (hexL id)).size = 32 := by rw [str_size, hexL_length]; omega
    go_wp2_with fail
    clear z3
    rw [idLine_str]
    refine (HP3.out.writes (idLine id ++ [10]) (by simp [kHead, idLine, unwords, kId, hexL_length]; omega)).mono ?_
    rintro e w4 ⟨rfl, hP4, _⟩
    have HP4 : Hid _ := hP4
    have x1 : w4.cell? ⟨w.heap.size, 1, none⟩ = some (.slice (some ⟨b, off, none⟩) n cap) := (cell_of_heap hP4.rng).trans rfl
    clear hP4 HP3
    generalize (str (idLine id ++ [10])).size = z4
    go_wp2_with fail
    refine (HIT.out n _ (by omega) HP4.out.bel).mono ?_
    rintro e w5 ⟨rfl, hb5⟩
    have HP5 : Hid _ := HP4.out.over hb5
    clear HP4 hb5 x1
    have z5 : (str (dec n)).size ≤ 4 := by rw [str_size]; exact (dec_len4 n (by omega)).2
    go_wp2_with fail
    clear z5
    rw [slotsLine_str]
    refine (HP5.out.writes (slotsLine n ++ [10]) (by have := (dec_len4 n (by omega)).2; simp [kHead, idLine, slotsLine, unwords, kId, kSlots, hexL_length]; omega)).mono ?_
    rintro e w6 ⟨rfl, hP6, _⟩
    have HP6 : Hid (Pr w w6 w1.heap.size (str id) (.slice (some ⟨b, off, none⟩) n cap) (glue 10 ([kHead, idLine id, slotsLine ss.length] ++ (ss.take 0).map slotLine))) := by
      have e : glue 10 ([kHead, idLine id, slotsLine ss.length] ++ (ss.take 0).map slotLine) = kHead ++ [10] ++ (idLine id ++ [10]) ++ (slotsLine n ++ [10]) := by rw [HN.out]; simp [glue]
      rw [e]
      exact hP6
    have x1 : w6.cell? ⟨w.heap.size, 1, none⟩ = some (.slice (some ⟨b, off, none⟩) n cap) := (cell_of_heap hP6.rng).trans rfl
    clear hP6 HP5
    generalize (str (slotsLine n ++ [10])).size = z6
    go_wp2_with fail
    go_loopg [6, 27] n (fun gk _ i wr => ∃ k : Nat, k + gk = n ∧ i = .int .i64 (k : Int) ∧ Hid (Pr w wr w1.heap.size (str id) (.slice (some ⟨b, off, none⟩) n cap) (glue 10 ([kHead, idLine id, slotsLine ss.length] ++ (ss.take k).map slotLine))))
    case atStart => exact ⟨0, by omega, rfl, HP6⟩
    case round =>
      clear HP6 x1
      obtain ⟨k, hk, rfl, HP⟩ := hrel
      have HK : Hid (k + gk = n) := hk
      have hk' : k ≤ n := by omega
      clear hk
      by_cases hlt : k < n
      · have hltI : (k : Int) < (n : Int) := by omega
        obtain ⟨s, hs⟩ : ∃ s, ss[k]? = some s := ⟨_, List.getElem?_eq_getElem (by have := HN.out; omega)⟩
        obtain ⟨a0, a1, a2⟩ := ring_at ss k s hs
        have hbel := HP.out.bel
        have c0 := (hbel.cell (p := ⟨b, off + k * 3, none⟩) hbw).trans (H3.out _ _ a0)
        have c1 := (hbel.cell (p := ⟨b, off + (k * 3 + 1), none⟩) hbw).trans (H3.out _ _ a1)
        have c2 := (hbel.cell (p := ⟨b, off + (k * 3 + 2), none⟩) hbw).trans (H3.out _ _ a2)
        rw [← Nat.add_assoc] at c1 c2
        have hso := HSS.out s (List.mem_of_getElem? hs)
        have HT : Hid _ := textK id ss k s hs
        have HLe : Hid ((glue 10 ([kHead, idLine id, slotsLine ss.length] ++ (ss.take k).map slotLine)).length + (slotLine s ++ [10]).length ≤ 140737488355328) := by
          show _ ≤ _
          have h1 := textK_le (id := id) (ss := ss) k
          have h2 := slotLine_le hso
          omega
        obtain ⟨m, hm⟩ : ∃ m : Nat, s.rounds = (m : Int) := ⟨s.rounds.toNat, by omega⟩
        have hSL := slotLine_str s
        rw [hm, Int.toNat_natCast] at hSL
        have HSL : Hid _ := hSL
        rw [hm] at c1
        have hmm : m ≤ 9999 := by omega
        have zs : (str (hexL s.salt)).size = 32 := by rw [str_size, hexL_length]; omega
        have zw : (str (hexL s.wrapped)).size = 144 := by rw [str_size, hexL_length]; omega
        have zd : (str (dec m)).size ≤ 4 := by rw [str_size]; exact (dec_len4 m hmm).2
        have hx1 := fun W => hex_any (str s.salt) W (by rw [str_size]; omega)
        have hx2 := fun W => hex_any (str s.wrapped) W (by rw [str_size]; omega)
        rw [kHex_str] at hx1 hx2
        have HX1 : Hid _ := hx1
        have HX2 : Hid _ := hx2
        have hne : wr.heap.size ≠ w1.heap.size := by
          have h1 := HP.out.bd
          have h2 := HP.out.le
          rcases h1 with h1 | h1
          · have := h1.lt; omega
          · have := h1.lt; omega
        clear a0 a1 a2 hbel hs hso hSL hx1 hx2 hm
        have HPd : Hid (∀ j, Pr w (((wr.alloc (.cells #[.string (str s.salt), .int .i64 (m : Int), .string (str s.wrapped)] 26))).drewN j) w1.heap.size (str id) (.slice (some ⟨b, off, none⟩) n cap) (glue 10 ([kHead, idLine id, slotsLine ss.length] ++ (ss.take k).map slotLine))) := fun j => HP.out.over ((Below.refl _ _).alloc (Nat.le_refl _) _ |>.trans ⟨rfl, rfl, rfl, Nat.le_refl _, fun _ _ => rfl⟩)
        have HQ : Hid (∀ j, ((wr.alloc (.cells #[.string (str s.salt), .int .i64 (m : Int), .string (str s.wrapped)] 26)).drewN j).heap[wr.heap.size]? = some (.cells #[.string (str s.salt), .int .i64 (m : Int), .string (str s.wrapped)] 26 (0, 0))) := fun j => heap_new _ _
        have HC : Hid (∀ W : World, W.heap[wr.heap.size]? = some (.cells #[.string (str s.salt), .int .i64 (m : Int), .string (str s.wrapped)] 26 (0, 0)) → W.cell? ⟨wr.heap.size, 0, none⟩ = some (.string (str s.salt)) ∧ W.cell? ⟨wr.heap.size, 1, none⟩ = some (.int .i64 (m : Int)) ∧ W.cell? ⟨wr.heap.size, 2, none⟩ = some (.string (str s.wrapped))) := fun W h => ⟨(cell_of_heap h).trans rfl, (cell_of_heap h).trans rfl, (cell_of_heap h).trans rfl⟩
        clear HP
        generalize str (hexL s.salt) = y1 at HSL HX1 zs
        generalize str (hexL s.wrapped) = y2 at HSL HX2 zw
        have HITm : Hid (∀ W, Below w.heap.size w W → Calls Tryd.prog 15 #[.int .i64 (m : Int)] W fun e w' => e = .returned (.string (str (dec m))) ∧ Below W.heap.size W w') := fun W hb => HIT.out m W hmm hb
        generalize str (dec m) = yd at HSL HITm zd
        generalize str s.salt = xa at c0 HX1 HPd HQ HC
        generalize str s.wrapped = xc at c2 HX2 HPd HQ HC
        go_wp2_with fail
        --REGION
        refine wp_region_held_drew (S := fun W => W.heap[wr.heap.size]? = some (.cells #[.string xa, .int .i64 (m : Int), .string xc] 26 (0, 0))) (by kernel_rfl) (HQ.out 1) ?_
        have hPV : Hid _ := HPd.out 1
        revert hPV
        show Hid (Pr w (World.drew _) _ _ _ _) → _
        clear HPd HQ HC c0 c1 c2
        generalize World.drew _ = V
        intro hPV hS
        refine wpAnyH_take (i := 0) (oi := { dst := some 31, op := .fieldAddr 26 (.tmp 6) 1, type := _, pos := _, after := _, guard := none }) (v := .pointer (some ⟨wr.heap.size, 1, none⟩)) rfl (by kernel_rfl) (by kernel_rfl) (by kernel_rfl) (fun _ _ _ h => h) (Or.inl ⟨by rfl, by intro x _; go_simp⟩) hS ?_
        (try simp only [Act.put, List.setIfInBounds_toArray, List.set_cons_zero, List.set_cons_succ])
        refine wpAnyH_take (i := 1) (oi := { dst := some 32, op := .load 3 (.tmp 31), type := _, pos := _, after := _, guard := none }) (v := .int .i64 (m : Int)) rfl (by kernel_rfl) (by kernel_rfl) (by kernel_rfl) (fun _ _ _ h => h) (Or.inl ⟨by rfl, by intro x hx; have h1 : x.cell? ⟨wr.heap.size, 1, none⟩ = some (.int .i64 (m : Int)) := (cell_of_heap hx).trans rfl; go_simp⟩) hS ?_
        (try simp only [Act.put, List.setIfInBounds_toArray, List.set_cons_zero, List.set_cons_succ])
        refine wpAnyH_take (i := 5) (oi := { dst := some 36, op := .fieldAddr 26 (.tmp 6) 0, type := _, pos := _, after := _, guard := none }) (v := .pointer (some ⟨wr.heap.size, 0, none⟩)) rfl (by kernel_rfl) (by kernel_rfl) (by kernel_rfl) (fun _ _ _ h => h) (Or.inl ⟨by rfl, by intro x _; go_simp⟩) hS ?_
        (try simp only [Act.put, List.setIfInBounds_toArray, List.set_cons_zero, List.set_cons_succ])
        refine wpAnyH_take (i := 6) (oi := { dst := some 37, op := .load 9 (.tmp 36), type := _, pos := _, after := _, guard := none }) (v := .string xa) rfl (by kernel_rfl) (by kernel_rfl) (by kernel_rfl) (fun _ _ _ h => h) (Or.inl ⟨by rfl, by intro x hx; have h1 : x.cell? ⟨wr.heap.size, 0, none⟩ = some (.string xa) := (cell_of_heap hx).trans rfl; go_simp⟩) hS ?_
        (try simp only [Act.put, List.setIfInBounds_toArray, List.set_cons_zero, List.set_cons_succ])
        refine wpAnyH_take (i := 10) (oi := { dst := some 41, op := .fieldAddr 26 (.tmp 6) 2, type := _, pos := _, after := _, guard := none }) (v := .pointer (some ⟨wr.heap.size, 2, none⟩)) rfl (by kernel_rfl) (by kernel_rfl) (by kernel_rfl) (fun _ _ _ h => h) (Or.inl ⟨by rfl, by intro x _; go_simp⟩) hS ?_
        (try simp only [Act.put, List.setIfInBounds_toArray, List.set_cons_zero, List.set_cons_succ])
        refine wpAnyH_take (i := 11) (oi := { dst := some 42, op := .load 9 (.tmp 41), type := _, pos := _, after := _, guard := none }) (v := .string xc) rfl (by kernel_rfl) (by kernel_rfl) (by kernel_rfl) (fun _ _ _ h => h) (Or.inl ⟨by rfl, by intro x hx; have h1 : x.cell? ⟨wr.heap.size, 2, none⟩ = some (.string xc) := (cell_of_heap hx).trans rfl; go_simp⟩) hS ?_
        (try simp only [Act.put, List.setIfInBounds_toArray, List.set_cons_zero, List.set_cons_succ])
        refine wpAnyH_ready (rs := [2]) (by kernel_rfl) (by simp) ?_
        refine AllReadyH.cons (o := { dst := some 33, op := .call { callee := .value (.func 15), args := #[.tmp 32], argTypes := #[3] }, type := _, pos := _, after := _, guard := none }) rfl (fun K hK => ?_) AllReadyH.nil
        go_simp
        refine (HITm.out V hPV.out.bel).mono ?_
        rintro e W2 ⟨rfl, hbc⟩
        have hS2 := (hbc.block _ (heap_lt hS)).trans hS
        have hP2 : Hid _ := hPV.out.over hbc
        refine hK.out _ _ hS2 (fun _ => ?_)
        clear hK K
        (try simp only [Act.put, List.setIfInBounds_toArray, List.set_cons_zero, List.set_cons_succ])
        revert hS2 hP2
        clear hS hbc hPV
        generalize W2 = V
        intro hS hPV
        refine wpAnyH_take (i := 3) (oi := { dst := some 34, op := .binOp .add 9 (.const (.string { data := #[115, 108, 111, 116, 32] })) (.tmp 33) 9, type := _, pos := _, after := _, guard := none }) (v := .string (({ data := #[115, 108, 111, 116, 32] } : ByteArray) ++ yd)) rfl (by kernel_rfl) (by kernel_rfl) (by kernel_rfl) (fun _ _ _ h => h) (Or.inl ⟨by rfl, by intro x _; go_simp; omega⟩) hS ?_
        (try simp only [Act.put, List.setIfInBounds_toArray, List.set_cons_zero, List.set_cons_succ])
        refine wpAnyH_take (i := 4) (oi := { dst := some 35, op := .binOp .add 9 (.tmp 34) (.const (.string { data := #[32] })) 9, type := _, pos := _, after := _, guard := none }) (v := .string (({ data := #[115, 108, 111, 116, 32] } : ByteArray) ++ yd ++ { data := #[32] })) rfl (by kernel_rfl) (by kernel_rfl) (by kernel_rfl) (fun _ _ _ h => h) (Or.inl ⟨by rfl, by intro x _; go_simp; omega⟩) hS ?_
        (try simp only [Act.put, List.setIfInBounds_toArray, List.set_cons_zero, List.set_cons_succ])
        refine wpAnyH_ready (rs := [7]) (by kernel_rfl) (by simp) ?_
        refine AllReadyH.cons (o := { dst := some 38, op := .call { callee := .value (.func 14), args := #[.tmp 37], argTypes := #[9] }, type := _, pos := _, after := _, guard := none }) rfl (fun K hK => ?_) AllReadyH.nil
        go_simp
        refine (HX1.out V).mono ?_
        rintro e W2 ⟨rfl, hbc⟩
        have hS2 := (hbc.block _ (heap_lt hS)).trans hS
        have hP2 : Hid _ := hPV.out.over hbc
        refine hK.out _ _ hS2 (fun _ => ?_)
        clear hK K
        (try simp only [Act.put, List.setIfInBounds_toArray, List.set_cons_zero, List.set_cons_succ])
        revert hS2 hP2
        clear hS hbc hPV
        generalize W2 = V
        intro hS hPV
        refine wpAnyH_take (i := 8) (oi := { dst := some 39, op := .binOp .add 9 (.tmp 35) (.tmp 38) 9, type := _, pos := _, after := _, guard := none }) (v := .string (({ data := #[115, 108, 111, 116, 32] } : ByteArray) ++ yd ++ { data := #[32] } ++ y1)) rfl (by kernel_rfl) (by kernel_rfl) (by kernel_rfl) (fun _ _ _ h => h) (Or.inl ⟨by rfl, by intro x _; go_simp; omega⟩) hS ?_
        (try simp only [Act.put, List.setIfInBounds_toArray, List.set_cons_zero, List.set_cons_succ])
        refine wpAnyH_take (i := 9) (oi := { dst := some 40, op := .binOp .add 9 (.tmp 39) (.const (.string { data := #[32] })) 9, type := _, pos := _, after := _, guard := none }) (v := .string (({ data := #[115, 108, 111, 116, 32] } : ByteArray) ++ yd ++ { data := #[32] } ++ y1 ++ { data := #[32] })) rfl (by kernel_rfl) (by kernel_rfl) (by kernel_rfl) (fun _ _ _ h => h) (Or.inl ⟨by rfl, by intro x _; go_simp; omega⟩) hS ?_
        (try simp only [Act.put, List.setIfInBounds_toArray, List.set_cons_zero, List.set_cons_succ])
        refine wpAnyH_ready (rs := [12]) (by kernel_rfl) (by simp) ?_
        refine AllReadyH.cons (o := { dst := some 43, op := .call { callee := .value (.func 14), args := #[.tmp 42], argTypes := #[9] }, type := _, pos := _, after := _, guard := none }) rfl (fun K hK => ?_) AllReadyH.nil
        go_simp
        refine (HX2.out V).mono ?_
        rintro e W2 ⟨rfl, hbc⟩
        have hS2 := (hbc.block _ (heap_lt hS)).trans hS
        have hP2 : Hid _ := hPV.out.over hbc
        refine hK.out _ _ hS2 (fun _ => ?_)
        clear hK K
        (try simp only [Act.put, List.setIfInBounds_toArray, List.set_cons_zero, List.set_cons_succ])
        revert hS2 hP2
        clear hS hbc hPV
        generalize W2 = V
        intro hS hPV
        refine wpAnyH_take (i := 13) (oi := { dst := some 44, op := .binOp .add 9 (.tmp 40) (.tmp 43) 9, type := _, pos := _, after := _, guard := none }) (v := .string (({ data := #[115, 108, 111, 116, 32] } : ByteArray) ++ yd ++ { data := #[32] } ++ y1 ++ { data := #[32] } ++ y2)) rfl (by kernel_rfl) (by kernel_rfl) (by kernel_rfl) (fun _ _ _ h => h) (Or.inl ⟨by rfl, by intro x _; go_simp; omega⟩) hS ?_
        (try simp only [Act.put, List.setIfInBounds_toArray, List.set_cons_zero, List.set_cons_succ])
        refine wpAnyH_take (i := 14) (oi := { dst := some 45, op := .binOp .add 9 (.tmp 44) (.const (.string { data := #[10] })) 9, type := _, pos := _, after := _, guard := none }) (v := .string (({ data := #[115, 108, 111, 116, 32] } : ByteArray) ++ yd ++ { data := #[32] } ++ y1 ++ { data := #[32] } ++ y2 ++ { data := #[10] })) rfl (by kernel_rfl) (by kernel_rfl) (by kernel_rfl) (fun _ _ _ h => h) (Or.inl ⟨by rfl, by intro x _; go_simp; omega⟩) hS ?_
        (try simp only [Act.put, List.setIfInBounds_toArray, List.set_cons_zero, List.set_cons_succ])
        refine wpAnyH_ready (rs := [15]) (by kernel_rfl) (by simp) ?_
        refine AllReadyH.cons (o := { dst := some 46, op := .call { callee := .value (.func 13), args := #[.tmp 4, .tmp 45], argTypes := #[42, 9] }, type := _, pos := _, after := _, guard := none }) rfl (fun K hK => ?_) AllReadyH.nil
        go_simp
        rw [HSL.out]
        refine (hPV.out.writes (slotLine s ++ [10]) HLe.out).mono ?_
        rintro e W2 ⟨rfl, hP8, hk8⟩
        have hS2 := hk8 _ _ _ _ hne (by decide) hS
        have hP2 : Hid _ := hP8
        refine hK.out _ _ hS2 (fun _ => ?_)
        clear hK K
        (try simp only [Act.put, List.setIfInBounds_toArray, List.set_cons_zero, List.set_cons_succ])
        revert hS2 hP2
        clear hS hk8 hP8 hPV
        generalize W2 = V
        intro hS hPV
        generalize (str (slotLine s ++ [10])).size = z8
        refine wpAnyH_done (by kernel_rfl) ?_ _
        go_wp2
        go_roundg (gk - 1)
        case measure => have := HK.out; omega
        case rel => exact ⟨k + 1, by have := HK.out; omega, by go_num, by rw [HT.out] at hPV; exact hPV⟩
      · obtain rfl : k = n := by omega
        have hltI : ¬ ((k : Int) < (k : Int)) := by omega
        have HPT : Hid (Pr w wr w1.heap.size (str id) (.slice (some ⟨b, off, none⟩) k cap) (textL id ss)) := by
          have h1 := HP.out
          rw [List.take_of_length_le (by have := HN.out; omega)] at h1
          exact h1
        clear HP
        have hW := whole_str (textL id ss) (shaL (textL id ss))
        have HW : Hid (str (textL id ss) ++ { data := #[115, 117, 109, 32] } ++ str (hexL (shaL (textL id ss))) ++ { data := #[10] } = str (printL id ss)) := hW
        have hts : (str (textL id ss)).size ≤ 4096 := by rw [str_size]; exact htl
        have hzh : (str (hexL (shaL (textL id ss)))).size = 64 := by rw [str_size, hexL_length, shaL_length]
        have hsu : Hid (∀ W, Below w.heap.size w W → Calls Tryd.prog 17 #[.slice (some ⟨W.heap.size, 0, none⟩) 1 1] (W.alloc (.cells #[.string (str (textL id ss))] 9)) fun e w' => e = .returned (.string (str (shaL (textL id ss)))) ∧ Below W.heap.size W w') := fun W hb => by
          have h1 := sum_one (str (textL id ss)) W (ht.below hb (by omega)) (by have := hb.size; omega) (by omega)
          rw [str_data] at h1
          exact h1
        have hxh := fun W => hex_any (str (shaL (textL id ss))) W (by rw [str_size, shaL_length]; omega)
        rw [kHex_str] at hxh
        have HXH : Hid _ := hxh
        have hst := HPT.out.string
        have HSTR : Hid (∀ W, Pr w W w1.heap.size (str id) (.slice (some ⟨b, off, none⟩) k cap) (textL id ss) → Calls Tryd.prog 16 #[.pointer (some ⟨w1.heap.size, 0, none⟩)] W fun e w' => e = .returned (.string (str (textL id ss))) ∧ Pr w w' w1.heap.size (str id) (.slice (some ⟨b, off, none⟩) k cap) (textL id ss)) := fun W h => h.string
        clear hxh hW
        generalize str (hexL (shaL (textL id ss))) = yh at HW hzh HXH
        generalize str (shaL (textL id ss)) = yq at hsu HXH
        generalize str (textL id ss) = yt at HW hts hsu hst HSTR
        go_wp2_with fail
        refine hst.mono ?_
        clear hst HPT
        rintro e w7 ⟨rfl, hP7⟩
        have HP7 : Hid _ := hP7
        clear hP7
        go_wp2_with fail
        refine (HSTR.out _ HP7.out).mono ?_
        rintro e w8 ⟨rfl, hP8⟩
        have HP8 : Hid _ := hP8
        clear hP8 HP7 HSTR
        go_wp2_with fail
        refine (hsu.out _ HP8.out.bel).mono ?_
        rintro e w9 ⟨rfl, hb9⟩
        have HB9 : Hid _ := HP8.out.bel.trans (hb9.mono HP8.out.bel.size)
        clear HP8 hb9 hsu
        go_wp2_with fail
        refine (HXH.out _).mono ?_
        rintro e w10 ⟨rfl, hb10⟩
        have HB10 : Hid _ := HB9.out.trans (hb10.mono HB9.out.size)
        clear HB9 hb10 HXH
        go_wp2
        go_ret2
        exact ⟨by rw [← HW.out]; rfl, HB10.out⟩

end Go.Proofs.YtbjiamaaocjbfaaDoor.Kp
