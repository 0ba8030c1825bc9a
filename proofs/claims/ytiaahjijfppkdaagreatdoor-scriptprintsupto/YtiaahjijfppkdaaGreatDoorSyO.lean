import Derived.Test.YtiaahjijfppkdaaGreatDoorYpM
import Derived.Test.YtiaahjijfppkdaaGreatDoorYkM
namespace Go.Proofs.YtiaahjijfppkdaaGreatDoor.Sc
open Go.RowKit Go.Lib Go.Deep

set_option maxRecDepth 20000 in
set_option maxHeartbeats 4000000 in
theorem rPrint_bad (p : PlR) (hok : p.Ok) (hid : p.ideal = true) (hm : p.master.size ≠ 0) (V : List ActV) (hV : VOk V) (hn : V.length = p.nacts) (hln : lnsT V ≤ 4194304) (w : World) (hs : SeeV w p.acts V) (ht : ITab w) :
    Calls Tryz.prog 18 #[.agg p.cells] w fun e w' => e = .returned (printV p V) ∧ Below w.heap.size w w' := by
  obtain ⟨W, hW⟩ : ∃ W, w.alloc (.cells p.cells 26) = W := ⟨_, rfl⟩
  have hbW : Below w.heap.size w W := by rw [← hW]; exact (Below.refl _ _).alloc (Nat.le_refl _) _
  have h1 : W.heap[w.heap.size]? = some (.cells p.cells 26 (0, 0)) := by rw [← hW]; exact heap_alloc_new _ _
  have HP : Hid (∀ U, Below W.heap.size W U → PlAt U w.heap.size p) := fun U hU => (plAt_of h1).below hU (heap_lt h1)
  have HB : Hid (Below w.heap.size w W) := hbW
  have HT : Hid (ITab W) := ht.below hbW ht.lt
  have HVV : Hid (VOk V ∧ V.length = p.nacts ∧ lnsT V ≤ 4194304) := ⟨hV, hn, hln⟩
  have HSV : Hid (SeeV w p.acts V ∧ ITab w) := ⟨hs, ht⟩
  have HOK : Hid p.Ok := hok
  obtain ⟨R, hR⟩ : ∃ R, printV p V = R := ⟨_, rfl⟩
  have HR : Hid (printV p V = R) := hR
  rw [hR]
  clear hR hV hn hln hs ht
  unfold PlR.cells at hW ⊢
  obtain ⟨c0, c1, c2, c3, c4, c5, c6, c7, c8, c9⟩ := (HP.out W (Below.refl _ _)).ten
  obtain ⟨W1, hW1⟩ : ∃ W1, W.alloc (.cells #[.int .i64 p.s, .int .i64 p.f, .int .i64 p.d, .int .i64 p.m, .int .i64 p.l, .int .i64 p.p] 24) = W1 := ⟨_, rfl⟩
  have h2 : W1.heap[W.heap.size]? = some (.cells #[.int .i64 p.s, .int .i64 p.f, .int .i64 p.d, .int .i64 p.m, .int .i64 p.l, .int .i64 p.p] 24 (0, 0)) := by rw [← hW1]; exact heap_alloc_new _ _
  have hB1 : Below W.heap.size W W1 := by rw [← hW1]; exact (Below.refl _ _).alloc (Nat.le_refl _) _
  have HB1 : Hid (Below W.heap.size W W1) := hB1
  have HC : Hid (∀ U, Below W1.heap.size W1 U → U.cell? ⟨W.heap.size, 0, none⟩ = some (.int .i64 p.s) ∧ U.cell? ⟨W.heap.size, 1, none⟩ = some (.int .i64 p.f) ∧ U.cell? ⟨W.heap.size, 2, none⟩ = some (.int .i64 p.d) ∧ U.cell? ⟨W.heap.size, 3, none⟩ = some (.int .i64 p.m) ∧ U.cell? ⟨W.heap.size, 4, none⟩ = some (.int .i64 p.l) ∧ U.cell? ⟨W.heap.size, 5, none⟩ = some (.int .i64 p.p)) := fun U hU => by
    have h := (hU.block _ (heap_lt h2)).trans h2
    refine ⟨?_, ?_, ?_, ?_, ?_, ?_⟩ <;> (rw [Lib.cell_of_heap h]; rfl)
  have HN : Hid (∀ (n : Int) (U : World), I64 n → Below W1.heap.size W1 U → Calls Tryz.prog 42 #[.int .i64 n] U fun e w' => e = .returned (.string (str (itoa n))) ∧ Below U.heap.size U w') := fun n U hn hU => rNumber_any n hn U ((HT.out.below hB1 (Nat.lt_of_lt_of_le HT.out.lt (Nat.le_refl _))).below (hU.mono hB1.size) (Nat.lt_of_lt_of_le HT.out.lt (Nat.le_refl _)))
  obtain ⟨n0, hn0⟩ : ∃ x, str (itoa p.s) = x := ⟨_, rfl⟩
  have z0 : n0.size ≤ 20 := by rw [← hn0, str_size]; exact itoa_len p.s hok.s.1 hok.s.2
  obtain ⟨n1, hn1⟩ : ∃ x, str (itoa p.f) = x := ⟨_, rfl⟩
  have z1 : n1.size ≤ 20 := by rw [← hn1, str_size]; exact itoa_len p.f hok.f.1 hok.f.2
  obtain ⟨n2, hn2⟩ : ∃ x, str (itoa p.d) = x := ⟨_, rfl⟩
  have z2 : n2.size ≤ 20 := by rw [← hn2, str_size]; exact itoa_len p.d hok.d.1 hok.d.2
  obtain ⟨n3, hn3⟩ : ∃ x, str (itoa p.m) = x := ⟨_, rfl⟩
  have z3 : n3.size ≤ 20 := by rw [← hn3, str_size]; exact itoa_len p.m hok.m.1 hok.m.2
  obtain ⟨n4, hn4⟩ : ∃ x, str (itoa p.l) = x := ⟨_, rfl⟩
  have z4 : n4.size ≤ 20 := by rw [← hn4, str_size]; exact itoa_len p.l hok.l.1 hok.l.2
  obtain ⟨n5, hn5⟩ : ∃ x, str (itoa p.p) = x := ⟨_, rfl⟩
  have z5 : n5.size ≤ 20 := by rw [← hn5, str_size]; exact itoa_len p.p hok.p.1 hok.p.2
  have hbd := bd1 W1
  have hc0 := HN.out p.s W1.drew hok.s hbd
  rw [hn0] at hc0
  have hT0 : ({ data := #[99, 111, 110, 102, 105, 103, 32] } : ByteArray).size = 7 := rfl
  have e32 : ({ data := #[32] } : ByteArray).size = 1 := rfl
  have e10 : ({ data := #[10] } : ByteArray).size = 1 := rfl
  have q0a : ¬ 9223372036854775807 < 7 + n0.size := by omega
  obtain ⟨a0, ha0⟩ : ∃ x, ({ data := #[99, 111, 110, 102, 105, 103, 32] } : ByteArray) ++ n0 = x := ⟨_, rfl⟩
  have s0a : a0.size ≤ 27 := by rw [← ha0, ByteArray.size_append]; omega
  have q0b : ¬ 9223372036854775807 < a0.size + 1 := by omega
  obtain ⟨b0, hb0_⟩ : ∃ x, a0 ++ ({ data := #[32] } : ByteArray) = x := ⟨_, rfl⟩
  have s0b : b0.size ≤ 28 := by rw [← hb0_, ByteArray.size_append]; omega
  have q1a : ¬ 9223372036854775807 < b0.size + n1.size := by omega
  obtain ⟨a1, ha1⟩ : ∃ x, b0 ++ n1 = x := ⟨_, rfl⟩
  have s1a : a1.size ≤ 48 := by rw [← ha1, ByteArray.size_append]; omega
  have q1b : ¬ 9223372036854775807 < a1.size + 1 := by omega
  obtain ⟨b1, hb1_⟩ : ∃ x, a1 ++ ({ data := #[32] } : ByteArray) = x := ⟨_, rfl⟩
  have s1b : b1.size ≤ 49 := by rw [← hb1_, ByteArray.size_append]; omega
  have q2a : ¬ 9223372036854775807 < b1.size + n2.size := by omega
  obtain ⟨a2, ha2⟩ : ∃ x, b1 ++ n2 = x := ⟨_, rfl⟩
  have s2a : a2.size ≤ 69 := by rw [← ha2, ByteArray.size_append]; omega
  have q2b : ¬ 9223372036854775807 < a2.size + 1 := by omega
  obtain ⟨b2, hb2_⟩ : ∃ x, a2 ++ ({ data := #[32] } : ByteArray) = x := ⟨_, rfl⟩
  have s2b : b2.size ≤ 70 := by rw [← hb2_, ByteArray.size_append]; omega
  have q3a : ¬ 9223372036854775807 < b2.size + n3.size := by omega
  obtain ⟨a3, ha3⟩ : ∃ x, b2 ++ n3 = x := ⟨_, rfl⟩
  have s3a : a3.size ≤ 90 := by rw [← ha3, ByteArray.size_append]; omega
  have q3b : ¬ 9223372036854775807 < a3.size + 1 := by omega
  obtain ⟨b3, hb3_⟩ : ∃ x, a3 ++ ({ data := #[32] } : ByteArray) = x := ⟨_, rfl⟩
  have s3b : b3.size ≤ 91 := by rw [← hb3_, ByteArray.size_append]; omega
  have q4a : ¬ 9223372036854775807 < b3.size + n4.size := by omega
  obtain ⟨a4, ha4⟩ : ∃ x, b3 ++ n4 = x := ⟨_, rfl⟩
  have s4a : a4.size ≤ 111 := by rw [← ha4, ByteArray.size_append]; omega
  have q4b : ¬ 9223372036854775807 < a4.size + 1 := by omega
  obtain ⟨b4, hb4_⟩ : ∃ x, a4 ++ ({ data := #[32] } : ByteArray) = x := ⟨_, rfl⟩
  have s4b : b4.size ≤ 112 := by rw [← hb4_, ByteArray.size_append]; omega
  have q5a : ¬ 9223372036854775807 < b4.size + n5.size := by omega
  obtain ⟨a5, ha5⟩ : ∃ x, b4 ++ n5 = x := ⟨_, rfl⟩
  have s5a : a5.size ≤ 132 := by rw [← ha5, ByteArray.size_append]; omega
  have q5b : ¬ 9223372036854775807 < a5.size + 1 := by omega
  obtain ⟨y, hy⟩ : ∃ x, a5 ++ ({ data := #[10] } : ByteArray) = x := ⟨_, rfl⟩
  have s5b : y.size ≤ 133 := by rw [← hy, ByteArray.size_append]; omega
  have hyd : y.data.toList = cfgL p ++ [10] := by
    rw [← hy, ← ha5, ← hb4_, ← ha4, ← hb3_, ← ha3, ← hb2_, ← ha2, ← hb1_, ← ha1, ← hb0_, ← ha0, ← hn0, ← hn1, ← hn2, ← hn3, ← hn4, ← hn5]
    simp [str, cfgL, nmL, ByteArray.data_append]
  have hys : y.size ≤ 200 := by
    rw [size_eq, hyd, List.length_append]
    have := cfgL_len p hok
    simp only [List.length_cons, List.length_nil]
    omega
  have HYD : Hid (y.data.toList = cfgL p ++ [10]) := hyd
  have HYS : Hid (y.size ≤ 200) := hys
  obtain ⟨V', X, hX⟩ : ∃ (V' : World → Value) (X : World → World), ∀ U, (convert 9 51 (.string y)).run Tryz.prog U = .ok (V' U) (X U) ∧ RowF (X U) U.heap.size 5 (V' U) (byteCells y.data.toList) ∧ Below U.heap.size U (X U) := by
    have h := fun U => bytes_any y (by unfold maxLen; omega) U
    obtain ⟨V, h⟩ := Classical.skolem.1 h
    obtain ⟨X, h⟩ := Classical.skolem.1 h
    exact ⟨V, X, h⟩
  have hconv := fun U => (hX U).1
  have HX : Hid (∀ U, RowF (X U) U.heap.size 5 (V' U) (byteCells (cfgL p ++ [10])) ∧ Below U.heap.size U (X U)) := fun U => by rw [← hyd]; exact (hX U).2
  clear hX
  rw [hid] at c6 hW ⊢
  clear h2 hyd hys hok hbW hB1 h1
  go_enter Tryz.func18, Tryz.ntmps18
  go_wp2_with fail
  try rw [hW1]
  go_region_held_law (fun U => U.cell? ⟨W.heap.size, 0, none⟩ = some (.int .i64 p.s) ∧ U.cell? ⟨W.heap.size, 1, none⟩ = some (.int .i64 p.f) ∧ U.cell? ⟨W.heap.size, 2, none⟩ = some (.int .i64 p.d) ∧ U.cell? ⟨W.heap.size, 3, none⟩ = some (.int .i64 p.m) ∧ U.cell? ⟨W.heap.size, 4, none⟩ = some (.int .i64 p.l) ∧ U.cell? ⟨W.heap.size, 5, none⟩ = some (.int .i64 p.p)) (first | exact HC.out _ hbd | exact HC.out _ hb0x | exact HC.out _ hb1x | exact HC.out _ hb2x | exact HC.out _ hb3x | exact HC.out _ hb4x | exact HC.out _ hb5x | exact HC.out _ (hb5x.trans ((HX.out _).2.mono hb5x.size)) | go_keep) (first | (go_at_call 42; refine hc0.mono ?_; rintro e u0 ⟨rfl, hb0⟩; clear hc0; have hb0x := hbd.trans (hb0.mono hbd.size); have hc1 := HN.out p.f u0 HOK.out.f hb0x; rw [hn1] at hc1) | (go_at_call 42; refine hc1.mono ?_; rintro e u1 ⟨rfl, hb1⟩; clear hc1; have hb1x := hb0x.trans (hb1.mono hb0x.size); have hc2 := HN.out p.d u1 HOK.out.d hb1x; rw [hn2] at hc2) | (go_at_call 42; refine hc2.mono ?_; rintro e u2 ⟨rfl, hb2⟩; clear hc2; have hb2x := hb1x.trans (hb2.mono hb1x.size); have hc3 := HN.out p.m u2 HOK.out.m hb2x; rw [hn3] at hc3) | (go_at_call 42; refine hc3.mono ?_; rintro e u3 ⟨rfl, hb3⟩; clear hc3; have hb3x := hb2x.trans (hb3.mono hb2x.size); have hc4 := HN.out p.l u3 HOK.out.l hb3x; rw [hn4] at hc4) | (go_at_call 42; refine hc4.mono ?_; rintro e u4 ⟨rfl, hb4⟩; clear hc4; have hb4x := hb3x.trans (hb4.mono hb3x.size); have hc5 := HN.out p.p u4 HOK.out.p hb4x; rw [hn5] at hc5) | (go_at_call 42; refine hc5.mono ?_; rintro e u5 ⟨rfl, hb5⟩; clear hc5; have hb5x := hb4x.trans (hb5.mono hb4x.size)))
  all_goals
    obtain ⟨hRb, hBb⟩ := HX.out u5
    have hbx := hb5x.trans (hBb.mono hb5x.size)
    have hRb := RowF.lower hRb hb5x.size
    clear hconv hBb q0a q0b s0a s0b q1a q1b s1a s1b q2a q2b s2a s2b q3a q3b s3a s3b q4a q4b s4a s4b q5a q5b s5a s5b ha0 hb0_ ha1 hb1_ ha2 hb2_ ha3 hb3_ ha4 hb4_ ha5 hy z0 hn0 z1 hn1 z2 hn2 z3 hn3 z4 hn4 z5 hn5 hb0 hb1 hb2 hb3 hb4 hb5 hb0x hb1x hb2x hb3x hb4x hbd hb5x hT0 e32 e10 HX HN HC hW1 hW c0 c1 c2 c3 c4 c5 c6 c7 c8 c9
    obtain ⟨U, hU⟩ : ∃ U, X u5 = U := ⟨_, rfl⟩
    obtain ⟨vb, hvb⟩ : ∃ v, V' u5 = v := ⟨_, rfl⟩
    rw [hU] at hRb hbx ⊢
    rw [hvb] at hRb ⊢
    clear hU hvb
    obtain ⟨c0, c1, c2, c3, c4, c5, c6, c7, c8, c9⟩ := (HP.out U (HB1.out.trans (hbx.mono HB1.out.size))).ten
    clear c0 c1 c2 c3 c4 c5 c8 c9
    rw [hid] at c6
    have hme : p.master.toList.isEmpty = false := by
      rw [Bool.eq_false_iff]
      intro h
      apply hm
      rw [List.isEmpty_iff] at h
      have := ByteArray.toList_eq p.master
      rw [h] at this
      rw [size_eq, ← this]
      rfl
    have HF : Hid (R = .tuple #[.string { data := #[] }, .int .i64 225]) := by
      show _ = _
      rw [← HR.out]
      unfold printV
      rw [if_pos ⟨hid, hm⟩]
    have HBX : Hid (Below w.heap.size w U) := (HB.out.trans (HB1.out.mono HB.out.size)).trans (hbx.mono (Nat.le_trans HB.out.size HB1.out.size))
    clear hbx
    go_wp2
    go_ret2
    rw [HF.out]
    exact ⟨rfl, HBX.out⟩
end Go.Proofs.YtiaahjijfppkdaaGreatDoor.Sc
