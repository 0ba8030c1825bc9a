import Derived.Test.YtbjiamaaocjbfaaDoorR7E
import Derived.Test.YtbjiamaaocjbfaaDoorItB
import Derived.Test.YtbjiamaaocjbfaaDoorKrP
namespace Go.Proofs.YtbjiamaaocjbfaaDoor.Kr
open Go.RowKit Go.Lib Go.Deep

theorem sum_size {Y yd y1 y2 : ByteArray} {k : Nat} (hY : Y.size ≤ 5000000 + 9000000 * k) (hD : yd.size ≤ 4) (h1 : y1.size ≤ 4194304) (h2 : y2.size ≤ 4194304) :
    (Y ++ { data := #[115, 108, 111, 116, 32] } ++ yd ++ { data := #[32] } ++ y1 ++ { data := #[32] } ++ y2 ++ { data := #[10] }).size ≤ 5000000 + 9000000 * (k + 1) := by
  simp only [ByteArray.size_append]
  rw [show ({ data := #[115, 108, 111, 116, 32] } : ByteArray).size = 5 from rfl, show ({ data := #[32] } : ByteArray).size = 1 from rfl, show ({ data := #[10] } : ByteArray).size = 1 from rfl]
  omega

set_option maxRecDepth 20000 in
set_option maxHeartbeats 1000000 in
theorem rtext_any (id : List UInt8) (v : Value) (ss : List Slot) (w : World) (hS : SeeS w v ss) (hF : Fits ss) (hid : id.length ≤ 2097152) (hsz : ∀ s ∈ ss, s.salt.length ≤ 2097152 ∧ s.wrapped.length ≤ 2097152) (hI : ITab w) (h4 : 8 ≤ w.heap.size) :
    Calls Tryd.prog 19 #[.agg #[.string (str id), v]] w fun e w' => e = .returned (.string (str (textL id ss))) ∧ Below w.heap.size w w' := by
  obtain ⟨a, b, off, cap, rfl, h2, h3⟩ := hS.ex
  clear hS
  have H3 : Hid (∀ j u, (ringCells ss)[j]? = some u → w.cell? ⟨b, off + j, none⟩ = some u) := h3
  clear h3
  have HF : Hid (Fits ss) := hF
  have HZ : Hid (∀ s ∈ ss, s.salt.length ≤ 2097152 ∧ s.wrapped.length ≤ 2097152) := hsz
  have hn9 := hF.n
  clear hF hsz
  obtain ⟨n, hnn⟩ : ∃ n, ss.length = n := ⟨_, rfl⟩
  rw [hnn] at hn9 h2 ⊢
  have HL : Hid (ss.length = n) := hnn
  have HIT : Hid (∀ W, Below w.heap.size w W → ITab W) := fun W hb => hI.below hb (by omega)
  have hb0 : Below w.heap.size w (w.alloc (.cells #[.string (str id), .slice a n cap] 24)) := (Below.refl _ _).alloc (Nat.le_refl _) _
  have hA0 : (w.alloc (.cells #[.string (str id), .slice a n cap] 24)).heap[w.heap.size]? = some (.cells #[.string (str id), .slice a n cap] 24 (0, 0)) := heap_new _ _
  have hhx := fun W => refHex_any (str id) W (by rw [str_size]; omega)
  have hit := fun W (k : ITab W) => itoa_any n (by omega) W k
  have HT0 : Hid (({ data := #[99, 97, 115, 107, 101, 116, 32, 114, 105, 110, 103, 32, 49, 10, 105, 100, 32] } : ByteArray) ++ hexS (str id) ++ { data := #[10, 115, 108, 111, 116, 115, 32] } ++ str (dec n) ++ { data := #[10] } = str (text0 id n)) := by
    show _ = _
    have e := text0_eq id n
    unfold hexS
    rw [str_data, ← e]
    rw [show ({ data := #[99, 97, 115, 107, 101, 116, 32, 114, 105, 110, 103, 32, 49, 10, 105, 100, 32] } : ByteArray) = str (kHead ++ [10] ++ kId ++ [32]) from rfl, show ({ data := #[10, 115, 108, 111, 116, 115, 32] } : ByteArray) = str ([10] ++ kSlots ++ [32]) from rfl, show ({ data := #[10] } : ByteArray) = str [10] from rfl, strs_append, strs_append, strs_append, strs_append]
  have hH : (hexS (str id)).size ≤ 4194304 := by unfold hexS; rw [str_size, hexL_length, str_data]; omega
  have hD : (str (dec n)).size ≤ 4 := by rw [str_size]; exact (dec_len4 n hn9).2
  have hT0 : (str (text0 id n)).size ≤ 5000000 := by rw [str_size]; have := text0_length id n hn9; omega
  generalize str id = yi at *
  generalize hexS yi = yh at *
  generalize str (dec n) = yd at *
  go_enter Tryd.func19, Tryd.ntmps19
  go_wp2_with fail
  have HKS : Hid (∀ V W : World, (V.heap[w.heap.size]? = some (.cells #[.string yi, .slice a n cap] 24 (0, 0)) ∧ Below w.heap.size w V) → Below V.heap.size V W → (W.heap[w.heap.size]? = some (.cells #[.string yi, .slice a n cap] 24 (0, 0)) ∧ Below w.heap.size w W)) := fun V W k hb => ⟨(hb.block _ (heap_lt k.1)).trans k.1, k.2.trans (hb.mono k.2.size)⟩
  have s1 : 17 + yh.size ≤ 9223372036854775807 := by omega
  have s2 : 17 + yh.size + 7 ≤ 9223372036854775807 := by omega
  have s3 : 17 + yh.size + 7 + yd.size ≤ 9223372036854775807 := by omega
  have s4 : 17 + yh.size + 7 + yd.size + 1 ≤ 9223372036854775807 := by omega
  refine wp_region_held_drew (S := fun W => W.heap[w.heap.size]? = some (.cells #[.string yi, .slice a n cap] 24 (0, 0)) ∧ Below w.heap.size w W) (by kernel_rfl) ⟨hA0, hb0.drew⟩ ?_
  clear hA0 hb0
  generalize World.drew _ = V
  intro hS
  refine wpAnyH_take (i := 0) (oi := { dst := some 6, op := .fieldAddr 24 (.tmp 1) 0, type := _, pos := _, after := _, guard := none }) (v := .pointer (some ⟨w.heap.size, 0, none⟩)) rfl (by kernel_rfl) (by kernel_rfl) (by kernel_rfl) (fun _ _ _ h => h) (Or.inl ⟨by rfl, by intro x _; go_simp⟩) hS ?_
  (try simp only [Act.put, List.setIfInBounds_toArray, List.set_cons_zero, List.set_cons_succ])
  refine wpAnyH_take (i := 1) (oi := { dst := some 7, op := .load 9 (.tmp 6), type := _, pos := _, after := _, guard := none }) (v := .string yi) rfl (by kernel_rfl) (by kernel_rfl) (by kernel_rfl) (fun _ _ _ h => h) (Or.inl ⟨by rfl, by intro x hx; have h1 : x.cell? ⟨w.heap.size, 0, none⟩ = some (.string yi) := (cell_of_heap hx.1).trans rfl; go_simp⟩) hS ?_
  (try simp only [Act.put, List.setIfInBounds_toArray, List.set_cons_zero, List.set_cons_succ])
  refine wpAnyH_take (i := 5) (oi := { dst := some 11, op := .fieldAddr 24 (.tmp 1) 1, type := _, pos := _, after := _, guard := none }) (v := .pointer (some ⟨w.heap.size, 1, none⟩)) rfl (by kernel_rfl) (by kernel_rfl) (by kernel_rfl) (fun _ _ _ h => h) (Or.inl ⟨by rfl, by intro x _; go_simp⟩) hS ?_
  (try simp only [Act.put, List.setIfInBounds_toArray, List.set_cons_zero, List.set_cons_succ])
  refine wpAnyH_take (i := 6) (oi := { dst := some 12, op := .load 22 (.tmp 11), type := _, pos := _, after := _, guard := none }) (v := .slice a n cap) rfl (by kernel_rfl) (by kernel_rfl) (by kernel_rfl) (fun _ _ _ h => h) (Or.inl ⟨by rfl, by intro x hx; have h1 : x.cell? ⟨w.heap.size, 1, none⟩ = some (.slice a n cap) := (cell_of_heap hx.1).trans rfl; go_simp⟩) hS ?_
  (try simp only [Act.put, List.setIfInBounds_toArray, List.set_cons_zero, List.set_cons_succ])
  refine wpAnyH_take (i := 7) (oi := { dst := some 13, op := .call { callee := .builtin .len, args := #[.tmp 12], argTypes := #[22] }, type := _, pos := _, after := _, guard := none }) (v := .int .i64 (n : Int)) rfl (by kernel_rfl) (by kernel_rfl) (by kernel_rfl) (fun _ _ _ h => h) (Or.inl ⟨by rfl, by intro x _; go_simp⟩) hS ?_
  (try simp only [Act.put, List.setIfInBounds_toArray, List.set_cons_zero, List.set_cons_succ])
  refine wpAnyH_ready (rs := [2]) (by kernel_rfl) (by simp) ?_
  refine AllReadyH.cons (o := { dst := some 8, op := .call { callee := .value (.func 20), args := #[.tmp 7], argTypes := #[9] }, type := _, pos := _, after := _, guard := none }) rfl (fun K hK => ?_) AllReadyH.nil
  go_simp
  refine (hhx V).mono ?_
  rintro e W2 ⟨rfl, hbc⟩
  have hS2 := HKS.out V W2 hS hbc
  refine hK.out _ _ hS2 (fun _ => ?_)
  clear hK K
  (try simp only [Act.put, List.setIfInBounds_toArray, List.set_cons_zero, List.set_cons_succ])
  revert hS2
  clear hS hbc
  generalize W2 = V
  intro hS
  refine wpAnyH_take (i := 3) (oi := { dst := some 9, op := .binOp .add 9 (.const (.string { data := #[99, 97, 115, 107, 101, 116, 32, 114, 105, 110, 103, 32, 49, 10, 105, 100, 32] })) (.tmp 8) 9, type := _, pos := _, after := _, guard := none }) (v := .string (({ data := #[99, 97, 115, 107, 101, 116, 32, 114, 105, 110, 103, 32, 49, 10, 105, 100, 32] } : ByteArray) ++ yh)) rfl (by kernel_rfl) (by kernel_rfl) (by kernel_rfl) (fun _ _ _ h => h) (Or.inl ⟨by rfl, by intro x _; go_simp⟩) hS ?_
  (try simp only [Act.put, List.setIfInBounds_toArray, List.set_cons_zero, List.set_cons_succ])
  refine wpAnyH_take (i := 4) (oi := { dst := some 10, op := .binOp .add 9 (.tmp 9) (.const (.string { data := #[10, 115, 108, 111, 116, 115, 32] })) 9, type := _, pos := _, after := _, guard := none }) (v := .string (({ data := #[99, 97, 115, 107, 101, 116, 32, 114, 105, 110, 103, 32, 49, 10, 105, 100, 32] } : ByteArray) ++ yh ++ { data := #[10, 115, 108, 111, 116, 115, 32] })) rfl (by kernel_rfl) (by kernel_rfl) (by kernel_rfl) (fun _ _ _ h => h) (Or.inl ⟨by rfl, by intro x _; go_simp⟩) hS ?_
  (try simp only [Act.put, List.setIfInBounds_toArray, List.set_cons_zero, List.set_cons_succ])
  refine wpAnyH_ready (rs := [8]) (by kernel_rfl) (by simp) ?_
  refine AllReadyH.cons (o := { dst := some 14, op := .call { callee := .value (.func 15), args := #[.tmp 13], argTypes := #[3] }, type := _, pos := _, after := _, guard := none }) rfl (fun K hK => ?_) AllReadyH.nil
  go_simp
  refine (hit V (HIT.out V hS.2)).mono ?_
  rintro e W2 ⟨rfl, hbc⟩
  have hS2 := HKS.out V W2 hS hbc
  refine hK.out _ _ hS2 (fun _ => ?_)
  clear hK K
  (try simp only [Act.put, List.setIfInBounds_toArray, List.set_cons_zero, List.set_cons_succ])
  revert hS2
  clear hS hbc
  generalize W2 = V
  intro hS
  refine wpAnyH_take (i := 9) (oi := { dst := some 15, op := .binOp .add 9 (.tmp 10) (.tmp 14) 9, type := _, pos := _, after := _, guard := none }) (v := .string (({ data := #[99, 97, 115, 107, 101, 116, 32, 114, 105, 110, 103, 32, 49, 10, 105, 100, 32] } : ByteArray) ++ yh ++ { data := #[10, 115, 108, 111, 116, 115, 32] } ++ yd)) rfl (by kernel_rfl) (by kernel_rfl) (by kernel_rfl) (fun _ _ _ h => h) (Or.inl ⟨by rfl, by intro x _; go_simp⟩) hS ?_
  (try simp only [Act.put, List.setIfInBounds_toArray, List.set_cons_zero, List.set_cons_succ])
  refine wpAnyH_take (i := 10) (oi := { dst := some 16, op := .binOp .add 9 (.tmp 15) (.const (.string { data := #[10] })) 9, type := _, pos := _, after := _, guard := none }) (v := .string (({ data := #[99, 97, 115, 107, 101, 116, 32, 114, 105, 110, 103, 32, 49, 10, 105, 100, 32] } : ByteArray) ++ yh ++ { data := #[10, 115, 108, 111, 116, 115, 32] } ++ yd ++ { data := #[10] })) rfl (by kernel_rfl) (by kernel_rfl) (by kernel_rfl) (fun _ _ _ h => h) (Or.inl ⟨by rfl, by intro x _; go_simp⟩) hS ?_
  (try simp only [Act.put, List.setIfInBounds_toArray, List.set_cons_zero, List.set_cons_succ])
  refine wpAnyH_take (i := 11) (oi := { dst := some 3, op := .assign (.tmp 16), type := _, pos := _, after := _, guard := none }) (v := .string (({ data := #[99, 97, 115, 107, 101, 116, 32, 114, 105, 110, 103, 32, 49, 10, 105, 100, 32] } : ByteArray) ++ yh ++ { data := #[10, 115, 108, 111, 116, 115, 32] } ++ yd ++ { data := #[10] })) rfl (by kernel_rfl) (by kernel_rfl) (by kernel_rfl) (fun _ _ _ h => h) (Or.inl ⟨by rfl, by intro x _; go_simp⟩) hS ?_
  (try simp only [Act.put, List.setIfInBounds_toArray, List.set_cons_zero, List.set_cons_succ])
  refine wpAnyH_done (by kernel_rfl) ?_ _
  rw [HT0.out]
  clear HT0 s1 s2 s3 s4 hhx hit hH hD HKS
  have HT : Hid ((str (text0 id n)).size ≤ 5000000) := hT0
  clear hT0
  have HV : Hid (V.heap[w.heap.size]? = some (.cells #[.string yi, .slice a n cap] 24 (0, 0)) ∧ Below w.heap.size w V) := hS
  clear hS
  go_wp2
  go_loopg [3, 4] n (fun gk tv i wr => ∃ (k : Nat) (Y : ByteArray), k + gk = n ∧ i = .int .i64 (k : Int) ∧ tv = .string Y ∧ Hid (Y = str (text0 id n ++ glue 10 ((ss.take k).map slotLine))) ∧ Y.size ≤ 5000000 + 9000000 * k ∧ Hid (wr.heap[w.heap.size]? = some (.cells #[.string yi, .slice a n cap] 24 (0, 0))) ∧ Below w.heap.size w wr)
  case atStart => exact ⟨0, _, by omega, rfl, rfl, by show _ = _; simp [glue], by have := HT.out; omega, HV.out.1, HV.out.2⟩
  case round =>
    clear HV HT
    obtain ⟨k, Y, hk, rfl, rfl, HY, hY, HA, hbel⟩ := hrel
    have HK : Hid (k + gk = n) := hk
    have hk' : k ≤ n := by omega
    clear hk
    have r1 : wr.cell? ⟨w.heap.size, 1, none⟩ = some (.slice a n cap) := (cell_of_heap HA.out).trans rfl
    by_cases hlt : k < n
    · have hltI : (k : Int) < (n : Int) := by omega
      obtain ⟨rfl, hbw⟩ := h2 (by omega)
      obtain ⟨s, hs⟩ : ∃ s, ss[k]? = some s := ⟨_, List.getElem?_eq_getElem (by have := HL.out; omega)⟩
      obtain ⟨a0, a1, a2⟩ := ring_at ss k s hs
      have c0 := (hbel.cell (p := ⟨b, off + k * 3, none⟩) hbw).trans (H3.out _ _ a0)
      have c1 := (hbel.cell (p := ⟨b, off + (k * 3 + 1), none⟩) hbw).trans (H3.out _ _ a1)
      have c2 := (hbel.cell (p := ⟨b, off + (k * 3 + 2), none⟩) hbw).trans (H3.out _ _ a2)
      rw [← Nat.add_assoc] at c1 c2
      clear a0 a1 a2
      have hrd := HF.out.r s (List.mem_of_getElem? hs)
      obtain ⟨z1, z2⟩ := HZ.out s (List.mem_of_getElem? hs)
      have hhx1 := fun W => refHex_any (str s.salt) W (by rw [str_size]; omega)
      have hhx2 := fun W => refHex_any (str s.wrapped) W (by rw [str_size]; omega)
      have hit := fun W (q : ITab W) => itoa_any s.rounds.toNat (by omega) W q
      rw [Int.toNat_of_nonneg hrd.1] at hit
      have hH1 : (hexS (str s.salt)).size ≤ 4194304 := by unfold hexS; rw [str_size, hexL_length, str_data]; omega
      have hH2 : (hexS (str s.wrapped)).size ≤ 4194304 := by unfold hexS; rw [str_size, hexL_length, str_data]; omega
      have hD : (str (dec s.rounds.toNat)).size ≤ 4 := by rw [str_size]; exact (dec_len4 s.rounds.toNat (by omega)).2
      have HY2 : Hid (Y ++ { data := #[115, 108, 111, 116, 32] } ++ str (dec s.rounds.toNat) ++ { data := #[32] } ++ hexS (str s.salt) ++ { data := #[32] } ++ hexS (str s.wrapped) ++ { data := #[10] } = str (text0 id n ++ glue 10 ((ss.take (k + 1)).map slotLine))) := by
        show _ = _
        have e := slot_eq s
        rw [glue_take ss k s hs, ← e, HY.out]
        unfold hexS
        rw [str_data, str_data, show ({ data := #[115, 108, 111, 116, 32] } : ByteArray) = str (kSlot ++ [32]) from rfl, show ({ data := #[32] } : ByteArray) = str [32] from rfl, show ({ data := #[10] } : ByteArray) = str [10] from rfl]
        simp only [strs_append, List.append_assoc]
      have hb7 : Below w.heap.size w (wr.alloc (.cells #[.string (str s.salt), .int .i64 s.rounds, .string (str s.wrapped)] 26)) := hbel.alloc hbel.size _
      have hA7 : (wr.alloc (.cells #[.string (str s.salt), .int .i64 s.rounds, .string (str s.wrapped)] 26)).heap[w.heap.size]? = some (.cells #[.string yi, .slice (some ⟨b, off, none⟩) n cap] 24 (0, 0)) := (Below.heap_alloc _ _ _ (heap_lt HA.out)).trans HA.out
      have hN7 : (wr.alloc (.cells #[.string (str s.salt), .int .i64 s.rounds, .string (str s.wrapped)] 26)).heap[wr.heap.size]? = some (.cells #[.string (str s.salt), .int .i64 s.rounds, .string (str s.wrapped)] 26 (0, 0)) := heap_new _ _
      clear hs z1 z2 HY hbel
      generalize str (dec s.rounds.toNat) = yd at hit hD HY2
      generalize hexS (str s.salt) = y1 at hhx1 hH1 HY2
      generalize hexS (str s.wrapped) = y2 at hhx2 hH2 HY2
      generalize str s.salt = xa at *
      generalize str s.wrapped = xc at *
      generalize s.rounds = xb at *
      go_wp2_with fail
      have HKS : Hid (∀ V W : World, (V.heap[w.heap.size]? = some (.cells #[.string yi, .slice (some ⟨b, off, none⟩) n cap] 24 (0, 0)) ∧ V.heap[wr.heap.size]? = some (.cells #[.string xa, .int .i64 xb, .string xc] 26 (0, 0)) ∧ Below w.heap.size w V) → Below V.heap.size V W → (W.heap[w.heap.size]? = some (.cells #[.string yi, .slice (some ⟨b, off, none⟩) n cap] 24 (0, 0)) ∧ W.heap[wr.heap.size]? = some (.cells #[.string xa, .int .i64 xb, .string xc] 26 (0, 0)) ∧ Below w.heap.size w W)) := fun V W k hb => ⟨(hb.block _ (heap_lt k.1)).trans k.1, (hb.block _ (heap_lt k.2.1)).trans k.2.1, k.2.2.trans (hb.mono k.2.2.size)⟩
      have t0 : Y.size + 5 ≤ 9223372036854775807 := by omega
      have t1 : Y.size + 5 + yd.size ≤ 9223372036854775807 := by omega
      have t2 : Y.size + 5 + yd.size + 1 ≤ 9223372036854775807 := by omega
      have t3 : Y.size + 5 + yd.size + 1 + y1.size ≤ 9223372036854775807 := by omega
      have t4 : Y.size + 5 + yd.size + 1 + y1.size + 1 ≤ 9223372036854775807 := by omega
      have t5 : Y.size + 5 + yd.size + 1 + y1.size + 1 + y2.size ≤ 9223372036854775807 := by omega
      have t6 : Y.size + 5 + yd.size + 1 + y1.size + 1 + y2.size + 1 ≤ 9223372036854775807 := by omega
      refine wp_region_held_drew (S := fun W => W.heap[w.heap.size]? = some (.cells #[.string yi, .slice (some ⟨b, off, none⟩) n cap] 24 (0, 0)) ∧ W.heap[wr.heap.size]? = some (.cells #[.string xa, .int .i64 xb, .string xc] 26 (0, 0)) ∧ Below w.heap.size w W) (by kernel_rfl) ⟨hA7, hN7, hb7.drew⟩ ?_
      clear hA7 hN7 hb7 c0 c1 c2 r1 HA
      revert HKS
      generalize World.drew _ = V
      generalize wr.heap.size = g
      intro HKS hS
      refine wpAnyH_take (i := 0) (oi := { dst := some 29, op := .move (.tmp 3), type := _, pos := _, after := _, guard := none }) (v := .string Y) rfl (by kernel_rfl) (by kernel_rfl) (by kernel_rfl) (fun _ _ _ h => h) (Or.inl ⟨by rfl, by intro x _; go_simp⟩) hS ?_
      (try simp only [Act.put, List.setIfInBounds_toArray, List.set_cons_zero, List.set_cons_succ])
      refine wpAnyH_take (i := 1) (oi := { dst := some 30, op := .binOp .add 9 (.tmp 29) (.const (.string { data := #[115, 108, 111, 116, 32] })) 9, type := _, pos := _, after := _, guard := none }) (v := .string (Y ++ { data := #[115, 108, 111, 116, 32] })) rfl (by kernel_rfl) (by kernel_rfl) (by kernel_rfl) (fun _ _ _ h => h) (Or.inl ⟨by rfl, by intro x _; go_simp⟩) hS ?_
      (try simp only [Act.put, List.setIfInBounds_toArray, List.set_cons_zero, List.set_cons_succ])
      refine wpAnyH_take (i := 2) (oi := { dst := some 31, op := .fieldAddr 26 (.tmp 5) 1, type := _, pos := _, after := _, guard := none }) (v := .pointer (some ⟨g, 1, none⟩)) rfl (by kernel_rfl) (by kernel_rfl) (by kernel_rfl) (fun _ _ _ h => h) (Or.inl ⟨by rfl, by intro x _; go_simp⟩) hS ?_
      (try simp only [Act.put, List.setIfInBounds_toArray, List.set_cons_zero, List.set_cons_succ])
      refine wpAnyH_take (i := 3) (oi := { dst := some 32, op := .load 3 (.tmp 31), type := _, pos := _, after := _, guard := none }) (v := .int .i64 xb) rfl (by kernel_rfl) (by kernel_rfl) (by kernel_rfl) (fun _ _ _ h => h) (Or.inl ⟨by rfl, by intro x hx; have h1 : x.cell? ⟨g, 1, none⟩ = some (.int .i64 xb) := (cell_of_heap hx.2.1).trans rfl; go_simp⟩) hS ?_
      (try simp only [Act.put, List.setIfInBounds_toArray, List.set_cons_zero, List.set_cons_succ])
      refine wpAnyH_take (i := 7) (oi := { dst := some 36, op := .fieldAddr 26 (.tmp 5) 0, type := _, pos := _, after := _, guard := none }) (v := .pointer (some ⟨g, 0, none⟩)) rfl (by kernel_rfl) (by kernel_rfl) (by kernel_rfl) (fun _ _ _ h => h) (Or.inl ⟨by rfl, by intro x _; go_simp⟩) hS ?_
      (try simp only [Act.put, List.setIfInBounds_toArray, List.set_cons_zero, List.set_cons_succ])
      refine wpAnyH_take (i := 8) (oi := { dst := some 37, op := .load 9 (.tmp 36), type := _, pos := _, after := _, guard := none }) (v := .string xa) rfl (by kernel_rfl) (by kernel_rfl) (by kernel_rfl) (fun _ _ _ h => h) (Or.inl ⟨by rfl, by intro x hx; have h1 : x.cell? ⟨g, 0, none⟩ = some (.string xa) := (cell_of_heap hx.2.1).trans rfl; go_simp⟩) hS ?_
      (try simp only [Act.put, List.setIfInBounds_toArray, List.set_cons_zero, List.set_cons_succ])
      refine wpAnyH_take (i := 12) (oi := { dst := some 41, op := .fieldAddr 26 (.tmp 5) 2, type := _, pos := _, after := _, guard := none }) (v := .pointer (some ⟨g, 2, none⟩)) rfl (by kernel_rfl) (by kernel_rfl) (by kernel_rfl) (fun _ _ _ h => h) (Or.inl ⟨by rfl, by intro x _; go_simp⟩) hS ?_
      (try simp only [Act.put, List.setIfInBounds_toArray, List.set_cons_zero, List.set_cons_succ])
      refine wpAnyH_take (i := 13) (oi := { dst := some 42, op := .load 9 (.tmp 41), type := _, pos := _, after := _, guard := none }) (v := .string xc) rfl (by kernel_rfl) (by kernel_rfl) (by kernel_rfl) (fun _ _ _ h => h) (Or.inl ⟨by rfl, by intro x hx; have h1 : x.cell? ⟨g, 2, none⟩ = some (.string xc) := (cell_of_heap hx.2.1).trans rfl; go_simp⟩) hS ?_
      (try simp only [Act.put, List.setIfInBounds_toArray, List.set_cons_zero, List.set_cons_succ])
      refine wpAnyH_ready (rs := [4]) (by kernel_rfl) (by simp) ?_
      refine AllReadyH.cons (o := { dst := some 33, op := .call { callee := .value (.func 15), args := #[.tmp 32], argTypes := #[3] }, type := _, pos := _, after := _, guard := none }) rfl (fun K hK => ?_) AllReadyH.nil
      go_simp
      refine (hit V (HIT.out V hS.2.2)).mono ?_
      rintro e W2 ⟨rfl, hbc⟩
      have hS2 := HKS.out V W2 hS hbc
      refine hK.out _ _ hS2 (fun _ => ?_)
      clear hK K
      (try simp only [Act.put, List.setIfInBounds_toArray, List.set_cons_zero, List.set_cons_succ])
      revert hS2
      clear hS hbc
      generalize W2 = V
      intro hS
      refine wpAnyH_take (i := 5) (oi := { dst := some 34, op := .binOp .add 9 (.tmp 30) (.tmp 33) 9, type := _, pos := _, after := _, guard := none }) (v := .string (Y ++ { data := #[115, 108, 111, 116, 32] } ++ yd)) rfl (by kernel_rfl) (by kernel_rfl) (by kernel_rfl) (fun _ _ _ h => h) (Or.inl ⟨by rfl, by intro x _; go_simp⟩) hS ?_
      (try simp only [Act.put, List.setIfInBounds_toArray, List.set_cons_zero, List.set_cons_succ])
      refine wpAnyH_take (i := 6) (oi := { dst := some 35, op := .binOp .add 9 (.tmp 34) (.const (.string { data := #[32] })) 9, type := _, pos := _, after := _, guard := none }) (v := .string (Y ++ { data := #[115, 108, 111, 116, 32] } ++ yd ++ { data := #[32] })) rfl (by kernel_rfl) (by kernel_rfl) (by kernel_rfl) (fun _ _ _ h => h) (Or.inl ⟨by rfl, by intro x _; go_simp⟩) hS ?_
      (try simp only [Act.put, List.setIfInBounds_toArray, List.set_cons_zero, List.set_cons_succ])
      refine wpAnyH_ready (rs := [9]) (by kernel_rfl) (by simp) ?_
      refine AllReadyH.cons (o := { dst := some 38, op := .call { callee := .value (.func 20), args := #[.tmp 37], argTypes := #[9] }, type := _, pos := _, after := _, guard := none }) rfl (fun K hK => ?_) AllReadyH.nil
      go_simp
      refine (hhx1 V).mono ?_
      rintro e W2 ⟨rfl, hbc⟩
      have hS2 := HKS.out V W2 hS hbc
      refine hK.out _ _ hS2 (fun _ => ?_)
      clear hK K
      (try simp only [Act.put, List.setIfInBounds_toArray, List.set_cons_zero, List.set_cons_succ])
      revert hS2
      clear hS hbc
      generalize W2 = V
      intro hS
      refine wpAnyH_take (i := 10) (oi := { dst := some 39, op := .binOp .add 9 (.tmp 35) (.tmp 38) 9, type := _, pos := _, after := _, guard := none }) (v := .string (Y ++ { data := #[115, 108, 111, 116, 32] } ++ yd ++ { data := #[32] } ++ y1)) rfl (by kernel_rfl) (by kernel_rfl) (by kernel_rfl) (fun _ _ _ h => h) (Or.inl ⟨by rfl, by intro x _; go_simp⟩) hS ?_
      (try simp only [Act.put, List.setIfInBounds_toArray, List.set_cons_zero, List.set_cons_succ])
      refine wpAnyH_take (i := 11) (oi := { dst := some 40, op := .binOp .add 9 (.tmp 39) (.const (.string { data := #[32] })) 9, type := _, pos := _, after := _, guard := none }) (v := .string (Y ++ { data := #[115, 108, 111, 116, 32] } ++ yd ++ { data := #[32] } ++ y1 ++ { data := #[32] })) rfl (by kernel_rfl) (by kernel_rfl) (by kernel_rfl) (fun _ _ _ h => h) (Or.inl ⟨by rfl, by intro x _; go_simp⟩) hS ?_
      (try simp only [Act.put, List.setIfInBounds_toArray, List.set_cons_zero, List.set_cons_succ])
      refine wpAnyH_ready (rs := [14]) (by kernel_rfl) (by simp) ?_
      refine AllReadyH.cons (o := { dst := some 43, op := .call { callee := .value (.func 20), args := #[.tmp 42], argTypes := #[9] }, type := _, pos := _, after := _, guard := none }) rfl (fun K hK => ?_) AllReadyH.nil
      go_simp
      refine (hhx2 V).mono ?_
      rintro e W2 ⟨rfl, hbc⟩
      have hS2 := HKS.out V W2 hS hbc
      refine hK.out _ _ hS2 (fun _ => ?_)
      clear hK K
      (try simp only [Act.put, List.setIfInBounds_toArray, List.set_cons_zero, List.set_cons_succ])
      revert hS2
      clear hS hbc
      generalize W2 = V
      intro hS
      refine wpAnyH_take (i := 15) (oi := { dst := some 44, op := .binOp .add 9 (.tmp 40) (.tmp 43) 9, type := _, pos := _, after := _, guard := none }) (v := .string (Y ++ { data := #[115, 108, 111, 116, 32] } ++ yd ++ { data := #[32] } ++ y1 ++ { data := #[32] } ++ y2)) rfl (by kernel_rfl) (by kernel_rfl) (by kernel_rfl) (fun _ _ _ h => h) (Or.inl ⟨by rfl, by intro x _; go_simp⟩) hS ?_
      (try simp only [Act.put, List.setIfInBounds_toArray, List.set_cons_zero, List.set_cons_succ])
      refine wpAnyH_take (i := 16) (oi := { dst := some 45, op := .binOp .add 9 (.tmp 44) (.const (.string { data := #[10] })) 9, type := _, pos := _, after := _, guard := none }) (v := .string (Y ++ { data := #[115, 108, 111, 116, 32] } ++ yd ++ { data := #[32] } ++ y1 ++ { data := #[32] } ++ y2 ++ { data := #[10] })) rfl (by kernel_rfl) (by kernel_rfl) (by kernel_rfl) (fun _ _ _ h => h) (Or.inl ⟨by rfl, by intro x _; go_simp⟩) hS ?_
      (try simp only [Act.put, List.setIfInBounds_toArray, List.set_cons_zero, List.set_cons_succ])
      refine wpAnyH_take (i := 17) (oi := { dst := some 3, op := .assign (.tmp 45), type := _, pos := _, after := _, guard := none }) (v := .string (Y ++ { data := #[115, 108, 111, 116, 32] } ++ yd ++ { data := #[32] } ++ y1 ++ { data := #[32] } ++ y2 ++ { data := #[10] })) rfl (by kernel_rfl) (by kernel_rfl) (by kernel_rfl) (fun _ _ _ h => h) (Or.inl ⟨by rfl, by intro x _; go_simp⟩) hS ?_
      (try simp only [Act.put, List.setIfInBounds_toArray, List.set_cons_zero, List.set_cons_succ])
      refine wpAnyH_done (by kernel_rfl) ?_ _
      rw [HY2.out]
      have HS3 : Hid (V.heap[w.heap.size]? = some (.cells #[.string yi, .slice (some ⟨b, off, none⟩) n cap] 24 (0, 0)) ∧ Below w.heap.size w V) := ⟨hS.1, hS.2.2⟩
      have hsz2 : (str (text0 id n ++ glue 10 ((ss.take (k + 1)).map slotLine))).size ≤ 5000000 + 9000000 * (k + 1) := by rw [← HY2.out]; exact sum_size hY hD hH1 hH2
      have HQ : Hid ((str (text0 id n ++ glue 10 ((ss.take (k + 1)).map slotLine))).size ≤ 5000000 + 9000000 * (k + 1)) := hsz2
      clear hS HY2 hsz2
      go_wp2
      go_roundg (gk - 1)
      case measure => have := HK.out; omega
      case rel => exact ⟨k + 1, _, by have := HK.out; omega, by go_num, rfl, rfl, HQ.out, HS3.out.1, HS3.out.2⟩
    · obtain rfl : k = n := by omega
      have hltI : ¬ (k : Int) < (k : Int) := by omega
      have HE : Hid (Y = str (textL id ss)) := by
        show _ = _
        rw [HY.out, textL_eq, HL.out, List.take_of_length_le (by have := HL.out; omega)]
      clear HY
      go_wp2
      go_ret
      exact ⟨by rw [← HE.out]; rfl, hbel⟩

end Go.Proofs.YtbjiamaaocjbfaaDoor.Kr
