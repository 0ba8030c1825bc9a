import Derived.Test.YtiaahjijfppkdaaGreatDoorYpM
import Derived.Test.YtiaahjijfppkdaaGreatDoorYkM
namespace Go.Proofs.YtiaahjijfppkdaaGreatDoor.Sc
open Go.RowKit Go.Lib Go.Deep

set_option maxRecDepth 20000 in
set_option maxHeartbeats 4000000 in
theorem rPrint_ideal (p : PlR) (hok : p.Ok) (hid : p.ideal = true) (hm : p.master.size = 0) (V : List ActV) (hV : VOk V) (hn : V.length = p.nacts) (hln : lnsT V ≤ 4194304) (w : World) (hs : SeeV w p.acts V) (ht : ITab w) :
    Calls Tryz.prog 18 #[.agg p.cells] w fun e w' => e = .returned (printV p V) ∧ Below w.heap.size w w' := by
  obtain ⟨W, hW⟩ : ∃ W, w.alloc (.cells p.cells 26) = W := ⟨_, rfl⟩
  have hbW : Below w.heap.size w W := by rw [← hW]; exact (Below.refl _ _).alloc (Nat.le_refl _) _
  have h1 : W.heap[w.heap.size]? = some (.cells p.cells 26 (0, 0)) := by rw [← hW]; exact heap_alloc_new _ _
  have HP : Hid (∀ U, Below W.heap.size W U → PlAt U w.heap.size p) := fun U hU => (plAt_of h1).below hU (heap_lt h1)
  have HB : Hid (Below w.heap.size w W) := hbW
  have HT : Hid (ITab W) := ht.below hbW ht.lt
  have HVV : Hid (VOk V ∧ V.length = p.nacts ∧ lnsT V ≤ 4194304) := ⟨hV, hn, hln⟩
  have HSV : Hid (SeeV w p.acts V ∧ ITab w) := ⟨hs, ht⟩
  have HOK : Hid p.Ok := hok
  obtain ⟨R, hR⟩ : ∃ R, printV p V = R := ⟨_, rfl⟩
  have HR : Hid (printV p V = R) := hR
  rw [hR]
  clear hR hV hn hln hs ht
  unfold PlR.cells at hW ⊢
  obtain ⟨c0, c1, c2, c3, c4, c5, c6, c7, c8, c9⟩ := (HP.out W (Below.refl _ _)).ten
  obtain ⟨W1, hW1⟩ : ∃ W1, W.alloc (.cells #[.int .i64 p.s, .int .i64 p.f, .int .i64 p.d, .int .i64 p.m, .int .i64 p.l, .int .i64 p.p] 24) = W1 := ⟨_, rfl⟩
  have h2 : W1.heap[W.heap.size]? = some (.cells #[.int .i64 p.s, .int .i64 p.f, .int .i64 p.d, .int .i64 p.m, .int .i64 p.l, .int .i64 p.p] 24 (0, 0)) := by rw [← hW1]; exact heap_alloc_new _ _
  have hB1 : Below W.heap.size W W1 := by rw [← hW1]; exact (Below.refl _ _).alloc (Nat.le_refl _) _
  have HB1 : Hid (Below W.heap.size W W1) := hB1
  have HC : Hid (∀ U, Below W1.heap.size W1 U → U.cell? ⟨W.heap.size, 0, none⟩ = some (.int .i64 p.s) ∧ U.cell? ⟨W.heap.size, 1, none⟩ = some (.int .i64 p.f) ∧ U.cell? ⟨W.heap.size, 2, none⟩ = some (.int .i64 p.d) ∧ U.cell? ⟨W.heap.size, 3, none⟩ = some (.int .i64 p.m) ∧ U.cell? ⟨W.heap.size, 4, none⟩ = some (.int .i64 p.l) ∧ U.cell? ⟨W.heap.size, 5, none⟩ = some (.int .i64 p.p)) := fun U hU => by
    have h := (hU.block _ (heap_lt h2)).trans h2
    refine ⟨?_, ?_, ?_, ?_, ?_, ?_⟩ <;> (rw [Lib.cell_of_heap h]; rfl)
  have HN : Hid (∀ (n : Int) (U : World), I64 n → Below W1.heap.size W1 U → Calls Tryz.prog 42 #[.int .i64 n] U fun e w' => e = .returned (.string (str (itoa n))) ∧ Below U.heap.size U w') := fun n U hn hU => rNumber_any n hn U ((HT.out.below hB1 (Nat.lt_of_lt_of_le HT.out.lt (Nat.le_refl _))).below (hU.mono hB1.size) (Nat.lt_of_lt_of_le HT.out.lt (Nat.le_refl _)))
  obtain ⟨n0, hn0⟩ : ∃ x, str (itoa p.s) = x := ⟨_, rfl⟩
  have z0 : n0.size ≤ 20 := by rw [← hn0, str_size]; exact itoa_len p.s hok.s.1 hok.s.2
  obtain ⟨n1, hn1⟩ : ∃ x, str (itoa p.f) = x := ⟨_, rfl⟩
  have z1 : n1.size ≤ 20 := by rw [← hn1, str_size]; exact itoa_len p.f hok.f.1 hok.f.2
  obtain ⟨n2, hn2⟩ : ∃ x, str (itoa p.d) = x := ⟨_, rfl⟩
  have z2 : n2.size ≤ 20 := by rw [← hn2, str_size]; exact itoa_len p.d hok.d.1 hok.d.2
  obtain ⟨n3, hn3⟩ : ∃ x, str (itoa p.m) = x := ⟨_, rfl⟩
  have z3 : n3.size ≤ 20 := by rw [← hn3, str_size]; exact itoa_len p.m hok.m.1 hok.m.2
  obtain ⟨n4, hn4⟩ : ∃ x, str (itoa p.l) = x := ⟨_, rfl⟩
  have z4 : n4.size ≤ 20 := by rw [← hn4, str_size]; exact itoa_len p.l hok.l.1 hok.l.2
  obtain ⟨n5, hn5⟩ : ∃ x, str (itoa p.p) = x := ⟨_, rfl⟩
  have z5 : n5.size ≤ 20 := by rw [← hn5, str_size]; exact itoa_len p.p hok.p.1 hok.p.2
  have hbd := bd1 W1
  have hc0 := HN.out p.s W1.drew hok.s hbd
  rw [hn0] at hc0
  have hT0 : ({ data := #[99, 111, 110, 102, 105, 103, 32] } : ByteArray).size = 7 := rfl
  have e32 : ({ data := #[32] } : ByteArray).size = 1 := rfl
  have e10 : ({ data := #[10] } : ByteArray).size = 1 := rfl
  have q0a : ¬ 9223372036854775807 < 7 + n0.size := by omega
  obtain ⟨a0, ha0⟩ : ∃ x, ({ data := #[99, 111, 110, 102, 105, 103, 32] } : ByteArray) ++ n0 = x := ⟨_, rfl⟩
  have s0a : a0.size ≤ 27 := by rw [← ha0, ByteArray.size_append]; omega
  have q0b : ¬ 9223372036854775807 < a0.size + 1 := by omega
  obtain ⟨b0, hb0_⟩ : ∃ x, a0 ++ ({ data := #[32] } : ByteArray) = x := ⟨_, rfl⟩
  have s0b : b0.size ≤ 28 := by rw [← hb0_, ByteArray.size_append]; omega
  have q1a : ¬ 9223372036854775807 < b0.size + n1.size := by omega
  obtain ⟨a1, ha1⟩ : ∃ x, b0 ++ n1 = x := ⟨_, rfl⟩
  have s1a : a1.size ≤ 48 := by rw [← ha1, ByteArray.size_append]; omega
  have q1b : ¬ 9223372036854775807 < a1.size + 1 := by omega
  obtain ⟨b1, hb1_⟩ : ∃ x, a1 ++ ({ data := #[32] } : ByteArray) = x := ⟨_, rfl⟩
  have s1b : b1.size ≤ 49 := by rw [← hb1_, ByteArray.size_append]; omega
  have q2a : ¬ 9223372036854775807 < b1.size + n2.size := by omega
  obtain ⟨a2, ha2⟩ : ∃ x, b1 ++ n2 = x := ⟨_, rfl⟩
  have s2a : a2.size ≤ 69 := by rw [← ha2, ByteArray.size_append]; omega
  have q2b : ¬ 9223372036854775807 < a2.size + 1 := by omega
  obtain ⟨b2, hb2_⟩ : ∃ x, a2 ++ ({ data := #[32] } : ByteArray) = x := ⟨_, rfl⟩
  have s2b : b2.size ≤ 70 := by rw [← hb2_, ByteArray.size_append]; omega
  have q3a : ¬ 9223372036854775807 < b2.size + n3.size := by omega
  obtain ⟨a3, ha3⟩ : ∃ x, b2 ++ n3 = x := ⟨_, rfl⟩
  have s3a : a3.size ≤ 90 := by rw [← ha3, ByteArray.size_append]; omega
  have q3b : ¬ 9223372036854775807 < a3.size + 1 := by omega
  obtain ⟨b3, hb3_⟩ : ∃ x, a3 ++ ({ data := #[32] } : ByteArray) = x := ⟨_, rfl⟩
  have s3b : b3.size ≤ 91 := by rw [← hb3_, ByteArray.size_append]; omega
  have q4a : ¬ 9223372036854775807 < b3.size + n4.size := by omega
  obtain ⟨a4, ha4⟩ : ∃ x, b3 ++ n4 = x := ⟨_, rfl⟩
  have s4a : a4.size ≤ 111 := by rw [← ha4, ByteArray.size_append]; omega
  have q4b : ¬ 9223372036854775807 < a4.size + 1 := by omega
  obtain ⟨b4, hb4_⟩ : ∃ x, a4 ++ ({ data := #[32] } : ByteArray) = x := ⟨_, rfl⟩
  have s4b : b4.size ≤ 112 := by rw [← hb4_, ByteArray.size_append]; omega
  have q5a : ¬ 9223372036854775807 < b4.size + n5.size := by omega
  obtain ⟨a5, ha5⟩ : ∃ x, b4 ++ n5 = x := ⟨_, rfl⟩
  have s5a : a5.size ≤ 132 := by rw [← ha5, ByteArray.size_append]; omega
  have q5b : ¬ 9223372036854775807 < a5.size + 1 := by omega
  obtain ⟨y, hy⟩ : ∃ x, a5 ++ ({ data := #[10] } : ByteArray) = x := ⟨_, rfl⟩
  have s5b : y.size ≤ 133 := by rw [← hy, ByteArray.size_append]; omega
  have hyd : y.data.toList = cfgL p ++ [10] := by
    rw [← hy, ← ha5, ← hb4_, ← ha4, ← hb3_, ← ha3, ← hb2_, ← ha2, ← hb1_, ← ha1, ← hb0_, ← ha0, ← hn0, ← hn1, ← hn2, ← hn3, ← hn4, ← hn5]
    simp [str, cfgL, nmL, ByteArray.data_append]
  have hys : y.size ≤ 200 := by
    rw [size_eq, hyd, List.length_append]
    have := cfgL_len p hok
    simp only [List.length_cons, List.length_nil]
    omega
  have HYD : Hid (y.data.toList = cfgL p ++ [10]) := hyd
  have HYS : Hid (y.size ≤ 200) := hys
  obtain ⟨V', X, hX⟩ : ∃ (V' : World → Value) (X : World → World), ∀ U, (convert 9 51 (.string y)).run Tryz.prog U = .ok (V' U) (X U) ∧ RowF (X U) U.heap.size 5 (V' U) (byteCells y.data.toList) ∧ Below U.heap.size U (X U) := by
    have h := fun U => bytes_any y (by unfold maxLen; omega) U
    obtain ⟨V, h⟩ := Classical.skolem.1 h
    obtain ⟨X, h⟩ := Classical.skolem.1 h
    exact ⟨V, X, h⟩
  have hconv := fun U => (hX U).1
  have HX : Hid (∀ U, RowF (X U) U.heap.size 5 (V' U) (byteCells (cfgL p ++ [10])) ∧ Below U.heap.size U (X U)) := fun U => by rw [← hyd]; exact (hX U).2
  clear hX
  have hme : p.master = ({ data := #[] } : ByteArray) := by
    have h := size_eq p.master
    rw [hm] at h
    apply ByteArray.ext
    apply Array.toList_inj.1
    exact List.length_eq_zero_iff.1 h.symm
  rw [hid] at c6 hW ⊢
  rw [hme] at c7 hW ⊢
  clear h2 hyd hys hok hbW hB1 h1
  go_enter Tryz.func18, Tryz.ntmps18
  go_wp2_with fail
  try rw [hW1]
  go_region_held_law (fun U => U.cell? ⟨W.heap.size, 0, none⟩ = some (.int .i64 p.s) ∧ U.cell? ⟨W.heap.size, 1, none⟩ = some (.int .i64 p.f) ∧ U.cell? ⟨W.heap.size, 2, none⟩ = some (.int .i64 p.d) ∧ U.cell? ⟨W.heap.size, 3, none⟩ = some (.int .i64 p.m) ∧ U.cell? ⟨W.heap.size, 4, none⟩ = some (.int .i64 p.l) ∧ U.cell? ⟨W.heap.size, 5, none⟩ = some (.int .i64 p.p)) (first | exact HC.out _ hbd | exact HC.out _ hb0x | exact HC.out _ hb1x | exact HC.out _ hb2x | exact HC.out _ hb3x | exact HC.out _ hb4x | exact HC.out _ hb5x | exact HC.out _ (hb5x.trans ((HX.out _).2.mono hb5x.size)) | go_keep) (first | (go_at_call 42; refine hc0.mono ?_; rintro e u0 ⟨rfl, hb0⟩; clear hc0; have hb0x := hbd.trans (hb0.mono hbd.size); have hc1 := HN.out p.f u0 HOK.out.f hb0x; rw [hn1] at hc1) | (go_at_call 42; refine hc1.mono ?_; rintro e u1 ⟨rfl, hb1⟩; clear hc1; have hb1x := hb0x.trans (hb1.mono hb0x.size); have hc2 := HN.out p.d u1 HOK.out.d hb1x; rw [hn2] at hc2) | (go_at_call 42; refine hc2.mono ?_; rintro e u2 ⟨rfl, hb2⟩; clear hc2; have hb2x := hb1x.trans (hb2.mono hb1x.size); have hc3 := HN.out p.m u2 HOK.out.m hb2x; rw [hn3] at hc3) | (go_at_call 42; refine hc3.mono ?_; rintro e u3 ⟨rfl, hb3⟩; clear hc3; have hb3x := hb2x.trans (hb3.mono hb2x.size); have hc4 := HN.out p.l u3 HOK.out.l hb3x; rw [hn4] at hc4) | (go_at_call 42; refine hc4.mono ?_; rintro e u4 ⟨rfl, hb4⟩; clear hc4; have hb4x := hb3x.trans (hb4.mono hb3x.size); have hc5 := HN.out p.p u4 HOK.out.p hb4x; rw [hn5] at hc5) | (go_at_call 42; refine hc5.mono ?_; rintro e u5 ⟨rfl, hb5⟩; clear hc5; have hb5x := hb4x.trans (hb5.mono hb4x.size)))
  all_goals
    obtain ⟨hRb, hBb⟩ := HX.out u5
    have hbx := hb5x.trans (hBb.mono hb5x.size)
    have hRb := RowF.lower hRb hb5x.size
    clear hconv hBb q0a q0b s0a s0b q1a q1b s1a s1b q2a q2b s2a s2b q3a q3b s3a s3b q4a q4b s4a s4b q5a q5b s5a s5b ha0 hb0_ ha1 hb1_ ha2 hb2_ ha3 hb3_ ha4 hb4_ ha5 hy z0 hn0 z1 hn1 z2 hn2 z3 hn3 z4 hn4 z5 hn5 hb0 hb1 hb2 hb3 hb4 hb5 hb0x hb1x hb2x hb3x hb4x hbd hb5x hT0 e32 e10 HX HN HC hW1 hW c0 c1 c2 c3 c4 c5 c6 c7 c8 c9
    obtain ⟨U, hU⟩ : ∃ U, X u5 = U := ⟨_, rfl⟩
    obtain ⟨vb, hvb⟩ : ∃ v, V' u5 = v := ⟨_, rfl⟩
    rw [hU] at hRb hbx ⊢
    rw [hvb] at hRb ⊢
    clear hU hvb
    obtain ⟨i0, hi0, hz0, hz1, hz2⟩ := info_parts info5
    obtain ⟨c0, c1, c2, c3, c4, c5, c6, c7, c8, c9⟩ := (HP.out U (HB1.out.trans (hbx.mono HB1.out.size))).ten
    clear c0 c1 c2 c3 c4 c5 c8 c9
    rw [hid] at c6
    rw [hme] at c7
    have hsx : sealX p = (false, [115, 101, 97, 108] ++ 32 :: [105, 100, 101, 97, 108]) := by
      unfold sealX
      rw [hid]
      rfl
    have HNI : Hid (¬ (p.ideal = true ∧ p.master.size ≠ 0)) := by
      show ¬ _
      rintro ⟨-, h⟩
      exact h hm
    have HSN : Hid (¬ ((sealX p).1 = true ∨ 262144 < (sealX p).2.length)) := by
      show ¬ _
      rw [hsx]
      decide
    have hS1d : ({ data := #[115, 101, 97, 108, 32, 105, 100, 101, 97, 108, 10] } : ByteArray).data.toList = (sealX p).2 ++ [10] := by
      rw [hsx]
      rfl
    have hS1z : ({ data := #[115, 101, 97, 108, 32, 105, 100, 101, 97, 108, 10] } : ByteArray).size ≤ 262145 := by decide
    have hR1 := hRb
    have hbx1 := hbx
    clear hRb hbx hsx
    have hl1 : (byteCells (cfgL p ++ [10])).length = (cfgL p ++ [10]).length := byteCells_len _
    have hl2 := cfgL_len p HOK.out
    rw [List.length_append] at hl1
    simp only [List.length_cons, List.length_nil] at hl1
    have hml : (byteCells (cfgL p ++ [10])).length + ({ data := #[115, 101, 97, 108, 32, 105, 100, 101, 97, 108, 10] } : ByteArray).size ≤ maxLen := by unfold maxLen; omega
    have hBs := hbx1.size
    have HS1D : Hid (({ data := #[115, 101, 97, 108, 32, 105, 100, 101, 97, 108, 10] } : ByteArray).data.toList = (sealX p).2 ++ [10]) := hS1d
    clear hS1d
    go_wp2_with (at_builtin; refine wpList_append_rowF_string rfl _ _ 51 9 rfl W1.heap.size 5 i0 Tryz.underlying51 Tryz.underlying9 hi0 hz0 hz1 hz2 _ _ rfl hR1 ({ data := #[115, 101, 97, 108, 32, 105, 100, 101, 97, 108, 10] } : ByteArray) rfl hml (by omega) hBs ?_)
    intro v2 w2 hown2 hb2 _
    have hS1d := HS1D.out
    obtain ⟨H, hH⟩ : ∃ H, cfgL p ++ [10] ++ (sealX p).2 ++ [10] = H := ⟨_, rfl⟩
    have HH : Hid (cfgL p ++ [10] ++ (sealX p).2 ++ [10] = H) := hH
    have hR2 : RowF w2 W1.heap.size 5 v2 (byteCells H) := by
      rw [← hH, List.append_assoc (cfgL p ++ [10]), ← hS1d, byteCells_append, show byteCells [115, 101, 97, 108, 32, 105, 100, 101, 97, 108, 10] = strCells ({ data := #[115, 101, 97, 108, 32, 105, 100, 101, 97, 108, 10] } : ByteArray) from rfl]
      exact hown2
    have hHl : H.length ≤ 262278 := by
      rw [← hH, List.append_assoc (cfgL p ++ [10]), ← hS1d, List.length_append, List.length_append]
      simp only [List.length_cons, List.length_nil]
      omega
    have hbx2 := hbx1.trans hb2
    clear hown2 hb2 hH hS1d hR1 hbx1 hl1 hl2 hml hBs 
    have htz := HOK.out.tape
    have hrn : rowsN p ≤ 16384 := by unfold rowsN; omega
    have HRW : Hid (∀ k : Nat, k < rowsN p ↔ 64 * k < p.tape.size) := by
      show ∀ k, _
      intro k
      unfold rowsN
      omega
    obtain ⟨rn, hrnE⟩ : ∃ rn, rowsN p = rn := ⟨_, rfl⟩
    rw [hrnE] at HRW hrn
    have HRN : Hid (rowsN p = rn) := hrnE
    have hst0 : RowF w2 W1.heap.size 5 v2 (byteCells (H ++ tapeL p.tape.data.toList (List.range 0))) := by
      simpa [tapeL] using hR2
    have HBX2 : Hid (Below W1.heap.size W1 w2) := hbx2
    clear hrnE hR2 hbx2
    go_wp2_with fail
    go_loopg [5, 7, 8] rn (fun gk v n i wr => ∃ k q nn : Nat, k + gk = rn ∧ 64 * k = q ∧ 3 + k = nn ∧ n = .int .i64 (nn : Int) ∧ i = .int .i64 (q : Int) ∧ RowF wr W1.heap.size 5 v (byteCells (H ++ tapeL p.tape.data.toList (List.range k))) ∧ Hid (Below W1.heap.size W1 wr))
    case atStart => exact ⟨0, 0, 3, by omega, rfl, rfl, rfl, rfl, hst0, HBX2.out⟩
    case round =>
      clear hst0 HBX2
      obtain ⟨k, q, nn, hk, hq, hnn, rfl, rfl, hown, HI⟩ := hrel
      have HK : Hid (k + gk = rn ∧ 64 * k = q ∧ 3 + k = nn) := ⟨hk, hq, hnn⟩
      have c8 : wr.cell? ⟨w.heap.size, 8, none⟩ = some (.string p.tape) := (HP.out wr (HB1.out.trans (HI.out.mono HB1.out.size))).ten.2.2.2.2.2.2.2.2.1
      by_cases hlt : k < rn
      · have h64 := (HRW.out k).1 hlt
        rw [hq] at h64
        have h64I : (q : Int) < (p.tape.size : Int) := by omega
        obtain ⟨e, he⟩ : ∃ e, q + 64 = e := ⟨_, rfl⟩
        have hw1 : IntKind.i64.wrap ((q : Int) + 64) = (e : Int) := by rw [IntKind.wrap_i64]; omega
        have hw2 : IntKind.i64.wrap ((nn : Int) + 1) = ((nn + 1 : Nat) : Int) := by rw [IntKind.wrap_i64]; omega
        obtain ⟨en, hen⟩ : ∃ en, min e p.tape.size = en := ⟨_, rfl⟩
        obtain ⟨pc, hsl, hpz, hpd⟩ : ∃ pc : ByteArray, (∀ W, (Instr.slice 9 (.string p.tape) (some (.int .i64 (q : Int))) (some (.int .i64 (en : Int))) none).run Tryz.prog W = .ok (.string pc) W) ∧ pc.size ≤ 64 ∧ pc.data.toList = pieceL p.tape.data.toList k := by
          refine ⟨p.tape.extract q en, fun W => ?_, by rw [ByteArray.size_extract]; omega, ?_⟩
          · exact run_slice_string (P := Tryz.prog) (w := W) 9 p.tape .i64 .i64 (q : Int) (en : Int) Tryz.underlying9 (by omega) (by omega) (by omega)
          · rw [extract_data]
            unfold pieceL
            rw [hq]
            by_cases h : e ≤ p.tape.size
            · rw [show en - q = 64 by omega]
            · rw [List.take_of_length_le (by rw [List.length_drop, ← size_eq]; omega), List.take_of_length_le (by rw [List.length_drop, ← size_eq]; omega)]
        have hx := rHex_any pc (by omega)
        have hst := tapeL_snoc p.tape.data.toList (List.range k) k
        rw [← List.range_succ] at hst
        by_cases hov : p.tape.size < e
        · obtain rfl : p.tape.size = en := by omega
          have hovI : (p.tape.size : Int) < (e : Int) := by omega
          have HE : Hid (q + 64 = e) := he
          clear hk hq hnn he hen
          obtain ⟨hs, hhs⟩ : ∃ x, str (hexL pc.data.toList) = x := ⟨_, rfl⟩
          have hxw := hx wr
          rw [hhs] at hxw
          have hhz : hs.size = 2 * pc.size := by rw [← hhs, str_size, hexL_len, ← size_eq]
          have z1 : ¬ 9223372036854775807 < 5 + hs.size := by omega
          obtain ⟨t1, ht1⟩ : ∃ t1, ({ data := #[116, 97, 112, 101, 32] } : ByteArray) ++ hs = t1 := ⟨_, rfl⟩
          have ht1z : t1.size = 5 + hs.size := by rw [← ht1, ByteArray.size_append]; rfl
          have z2 : ¬ 9223372036854775807 < t1.size + 1 := by omega
          obtain ⟨t2, ht2⟩ : ∃ t2, t1 ++ ({ data := #[10] } : ByteArray) = t2 := ⟨_, rfl⟩
          have ht2z : t2.size = t1.size + 1 := by rw [← ht2, ByteArray.size_append]; rfl
          have ht2d : t2.data.toList = [116, 97, 112, 101, 32] ++ hexL (pieceL p.tape.data.toList k) ++ [10] := by
            rw [← ht2, ← ht1, ← hhs, hpd]
            simp [str, ByteArray.data_append]
          have hlb : (byteCells (H ++ tapeL p.tape.data.toList (List.range k))).length = (H ++ tapeL p.tape.data.toList (List.range k)).length := byteCells_len _
          have hlt2 := tapeL_len p.tape.data.toList (List.range k)
          rw [List.length_append] at hlb
          rw [List.length_range] at hlt2
          have hml : (byteCells (H ++ tapeL p.tape.data.toList (List.range k))).length + t2.size ≤ maxLen := by unfold maxLen; omega
          have HST : Hid (tapeL p.tape.data.toList (List.range (k + 1)) = tapeL p.tape.data.toList (List.range k) ++ t2.data.toList) := by
            show _ = _
            rw [ht2d]
            exact hst
          clear hhs hx hst ht2d hpd
          go_wp2_with fail
          refine hxw.mono ?_
          rintro e1 w3 ⟨rfl, hb3⟩
          have hown3 := RowF.below hown hb3
          have HB3 : Hid (Below W1.heap.size W1 w3) := HI.out.trans (hb3.mono HI.out.size)
          have hBs := HB3.out.size
          clear hxw hown hb3 hsl
          go_wp2_with (at_builtin; refine wpList_append_rowF_string rfl _ _ 51 9 rfl W1.heap.size 5 i0 Tryz.underlying51 Tryz.underlying9 hi0 hz0 hz1 hz2 _ _ rfl hown3 t2 rfl hml (by omega) hBs ?_)
          intro v6 w6 hown6 hb6 _
          have HR6 : Hid (RowF w6 W1.heap.size 5 v6 (byteCells (H ++ tapeL p.tape.data.toList (List.range (k + 1))))) := by
            show RowF _ _ _ _ _
            rw [HST.out, ← List.append_assoc, byteCells_append, ← strCells_bytes]
            exact hown6
          have HB6 : Hid (Below W1.heap.size W1 w6) := HB3.out.trans hb6
          clear hown6 hb6 hown3 hml hlb hlt2 HST HB3
          go_wp2
          go_roundg (gk - 1)
          case measure => have := HK.out; omega
          case rel => exact ⟨k + 1, e, nn + 1, by have := HK.out; omega, by have := HK.out; have := HE.out; omega, by have := HK.out; omega, by go_num, rfl, HR6.out, HB6.out⟩
        · obtain rfl : e = en := by omega
          have hovI : ¬ (p.tape.size : Int) < (e : Int) := by omega
          have HE : Hid (q + 64 = e) := he
          clear hk hq hnn he hen
          obtain ⟨hs, hhs⟩ : ∃ x, str (hexL pc.data.toList) = x := ⟨_, rfl⟩
          have hxw := hx wr
          rw [hhs] at hxw
          have hhz : hs.size = 2 * pc.size := by rw [← hhs, str_size, hexL_len, ← size_eq]
          have z1 : ¬ 9223372036854775807 < 5 + hs.size := by omega
          obtain ⟨t1, ht1⟩ : ∃ t1, ({ data := #[116, 97, 112, 101, 32] } : ByteArray) ++ hs = t1 := ⟨_, rfl⟩
          have ht1z : t1.size = 5 + hs.size := by rw [← ht1, ByteArray.size_append]; rfl
          have z2 : ¬ 9223372036854775807 < t1.size + 1 := by omega
          obtain ⟨t2, ht2⟩ : ∃ t2, t1 ++ ({ data := #[10] } : ByteArray) = t2 := ⟨_, rfl⟩
          have ht2z : t2.size = t1.size + 1 := by rw [← ht2, ByteArray.size_append]; rfl
          have ht2d : t2.data.toList = [116, 97, 112, 101, 32] ++ hexL (pieceL p.tape.data.toList k) ++ [10] := by
            rw [← ht2, ← ht1, ← hhs, hpd]
            simp [str, ByteArray.data_append]
          have hlb : (byteCells (H ++ tapeL p.tape.data.toList (List.range k))).length = (H ++ tapeL p.tape.data.toList (List.range k)).length := byteCells_len _
          have hlt2 := tapeL_len p.tape.data.toList (List.range k)
          rw [List.length_append] at hlb
          rw [List.length_range] at hlt2
          have hml : (byteCells (H ++ tapeL p.tape.data.toList (List.range k))).length + t2.size ≤ maxLen := by unfold maxLen; omega
          have HST : Hid (tapeL p.tape.data.toList (List.range (k + 1)) = tapeL p.tape.data.toList (List.range k) ++ t2.data.toList) := by
            show _ = _
            rw [ht2d]
            exact hst
          clear hhs hx hst ht2d hpd
          go_wp2_with fail
          refine hxw.mono ?_
          rintro e1 w3 ⟨rfl, hb3⟩
          have hown3 := RowF.below hown hb3
          have HB3 : Hid (Below W1.heap.size W1 w3) := HI.out.trans (hb3.mono HI.out.size)
          have hBs := HB3.out.size
          clear hxw hown hb3 hsl
          go_wp2_with (at_builtin; refine wpList_append_rowF_string rfl _ _ 51 9 rfl W1.heap.size 5 i0 Tryz.underlying51 Tryz.underlying9 hi0 hz0 hz1 hz2 _ _ rfl hown3 t2 rfl hml (by omega) hBs ?_)
          intro v6 w6 hown6 hb6 _
          have HR6 : Hid (RowF w6 W1.heap.size 5 v6 (byteCells (H ++ tapeL p.tape.data.toList (List.range (k + 1))))) := by
            show RowF _ _ _ _ _
            rw [HST.out, ← List.append_assoc, byteCells_append, ← strCells_bytes]
            exact hown6
          have HB6 : Hid (Below W1.heap.size W1 w6) := HB3.out.trans hb6
          clear hown6 hb6 hown3 hml hlb hlt2 HST HB3
          go_wp2
          go_roundg (gk - 1)
          case measure => have := HK.out; omega
          case rel => exact ⟨k + 1, e, nn + 1, by have := HK.out; omega, by have := HK.out; have := HE.out; omega, by have := HK.out; omega, by go_num, rfl, HR6.out, HB6.out⟩
      · obtain rfl : k = rn := by omega
        have h64I : ¬ (q : Int) < (p.tape.size : Int) := by
          have h := (HRW.out k).2
          omega
        have hlb : (byteCells (H ++ tapeL p.tape.data.toList (List.range k))).length = (H ++ tapeL p.tape.data.toList (List.range k)).length := byteCells_len _
        have hlt2 := tapeL_len p.tape.data.toList (List.range k)
        rw [List.length_append] at hlb
        rw [List.length_range] at hlt2
        have e5 : ({ data := #[97, 99, 116, 115, 10] } : ByteArray).size = 5 := rfl
        have hml : (byteCells (H ++ tapeL p.tape.data.toList (List.range k))).length + ({ data := #[97, 99, 116, 115, 10] } : ByteArray).size ≤ maxLen := by unfold maxLen; omega
        have hBs := HI.out.size
        have HQ : Hid (RowF wr W1.heap.size 5 _ _) := hown
        clear hk hq
        go_wp2_with (at_builtin; refine wpList_append_rowF_string rfl _ _ 51 9 rfl W1.heap.size 5 i0 Tryz.underlying51 Tryz.underlying9 hi0 hz0 hz1 hz2 _ _ rfl hown ({ data := #[97, 99, 116, 115, 10] } : ByteArray) rfl hml (by omega) hBs ?_)
        intro v7 w7 hown7 hb7 _
        obtain ⟨G, hG⟩ : ∃ G, headL p = G := ⟨_, rfl⟩
        have HG : Hid (headL p = G) := hG
        have hGe : H ++ tapeL p.tape.data.toList (List.range k) ++ [97, 99, 116, 115, 10] = G := by
          rw [← hG, ← HH.out]
          unfold headL
          rw [HRN.out]
          simp
        have hR7 : RowF w7 W1.heap.size 5 v7 (byteCells (G ++ actsT (V.take 0))) := by
          rw [show actsT (V.take 0) = [] by simp [actsT], List.append_nil, ← hGe, byteCells_append, show byteCells [97, 99, 116, 115, 10] = strCells ({ data := #[97, 99, 116, 115, 10] } : ByteArray) from rfl]
          exact hown7
        have hGl : G.length ≤ 3000000 := by
          rw [← hGe, List.length_append, List.length_append]
          simp only [List.length_cons, List.length_nil]
          omega
        have HI7 : Hid (Below W1.heap.size W1 w7 ∧ ∀ (i : Nat) x, i < 0 → V[i]? = some x → (prA x).2 = 0) := ⟨HI.out.trans hb7, fun i x h => absurd h (by omega)⟩
        have c9 : w7.cell? ⟨w.heap.size, 9, none⟩ = some (.slice p.acts p.nacts p.cacts) := (HP.out w7 (HB1.out.trans (HI7.out.1.mono HB1.out.size))).ten.2.2.2.2.2.2.2.2.2
        have HL0 : Hid (3 + k + lnsT (V.take 0) = nn) := by
          show _ = _
          rw [← hnn]
          rfl
        clear HQ hown hown7 hb7 hG hGe c8 hml hlb hlt2 hnn HI HK
        go_wp2_with fail
        go_loopg [5, 7, 10] p.nacts (fun gk v n i wr => ∃ j nn : Nat, j + gk = p.nacts ∧ Hid (3 + k + lnsT (V.take j) = nn) ∧ n = .int .i64 (nn : Int) ∧ i = .int .i64 (j : Int) ∧ RowF wr W1.heap.size 5 v (byteCells (G ++ actsT (V.take j))) ∧ Hid (Below W1.heap.size W1 wr ∧ ∀ (i : Nat) x, i < j → V[i]? = some x → (prA x).2 = 0))
        case atStart => exact ⟨0, nn, by omega, HL0, rfl, rfl, hR7, HI7⟩
        case round =>
          clear hR7 HI7 c9 HL0
          obtain ⟨j, n1, hj, HL, rfl, rfl, hown, HI⟩ := hrel
          have HJ : Hid (j + gk = p.nacts) := hj
          have hnab : p.nacts ≤ 1048576 := by rw [← HVV.out.2.1]; exact HVV.out.1.len
          have HBW : Hid (Below w.heap.size w wr) := (HB.out.trans (HB1.out.mono HB.out.size)).trans (HI.out.1.mono (Nat.le_trans HB.out.size HB1.out.size))
          have c9 : wr.cell? ⟨w.heap.size, 9, none⟩ = some (.slice p.acts p.nacts p.cacts) := (HP.out wr (HB1.out.trans (HI.out.1.mono HB1.out.size))).ten.2.2.2.2.2.2.2.2.2
          have hHL : (actsT (V.take j)).length ≤ 262145 * 4194304 := by
            have h1 := actsT_len (V.take j) (fun x hx => HVV.out.1.each x (List.mem_of_mem_take hx)) (fun x hx => by
              obtain ⟨i, hi⟩ := List.mem_iff_getElem?.1 hx
              have hij : i < j := by
                have := (List.getElem?_eq_some_iff.1 hi).1
                rw [List.length_take] at this
                omega
              rw [List.getElem?_take_of_lt hij] at hi
              exact HI.out.2 i x hij hi)
            have h2 := lnsT_mono V j
            have h3 := HVV.out.2.2
            have := Nat.mul_le_mul_left 262145 (show lnsT (V.take j) ≤ 4194304 by omega)
            omega
          have hnb : n1 ≤ 4300000 := by
            have h1 := HL.out
            have h2 := lnsT_mono V j
            have h3 := HVV.out.2.2
            omega
          have hlb : (byteCells (G ++ actsT (V.take j))).length = (G ++ actsT (V.take j)).length := byteCells_len _
          rw [List.length_append] at hlb
          by_cases hlt : j < p.nacts
          · have hltI : (j : Int) < (p.nacts : Int) := by omega
            obtain ⟨x, hx⟩ : ∃ x, V[j]? = some x := ⟨_, List.getElem?_eq_getElem (by rw [HVV.out.2.1]; exact hlt)⟩
            obtain ⟨hxok, hxo, hxn, hxl⟩ := HVV.out.1.each x (List.mem_of_getElem? hx)
            obtain ⟨b, off, hpa, hbl, hnine, hops⟩ := HSV.out.1.at hx
            rw [hpa] at c9
            have HPA : Hid (p.acts = some ⟨b, off, none⟩) := hpa
            have hP := prA_pa x ⟨hxok, hxo, hxn, hxl⟩
            have hr := hP.ref x.1 hxok ⟨x.1.ops, x.1.cops, rfl⟩ wr (hops.below HBW.out) (HSV.out.2.below HBW.out HSV.out.2.lt)
            obtain ⟨k0, k1, k2, k3, k4, k5, k6, k7, k8⟩ := hnine.below HBW.out hbl
            have hst := actsT_take V j x hx
            have hsl := lnsT_take V j x hx
            have hlA : lnsA x = if x.1.kind = 3 then x.1.nops + 2 else 1 := by
              unfold lnsA
              rw [hxn]
            have hxb : x.1.nops ≤ 1048576 := by omega
            have hsz := hP.size
            have hsm := Nat.mul_le_mul_left 262145 (show lnsA x ≤ 1048578 by rw [hlA]; split <;> omega)
            obtain ⟨s, hs⟩ : ∃ s, (prA x).1 = s := ⟨_, rfl⟩
            obtain ⟨cd, hcd⟩ : ∃ cd, (prA x).2 = cd := ⟨_, rfl⟩
            have HCD : Hid ((prA x).2 = cd) := hcd
            rw [hs] at hr hst hsz
            rw [hcd] at hr hsz
            unfold ActR.val ActR.cells at hr
            have HX : Hid (V[j]? = some x) := hx
            have HNI2 : Hid (NineAt w b (off + j * 9) x.1 ∧ b < w.heap.size) := ⟨hnine, hbl⟩
            clear hx hxok hxo hxn hxl hpa hnine hops hbl hP hs hcd hj
            go_wp2_with fail
            refine hr.mono ?_
            rintro e w3 ⟨rfl, hb3⟩
            have hown3 := RowF.below hown hb3
            have HB3 : Hid (Below W1.heap.size W1 w3) := HI.out.1.trans (hb3.mono HI.out.1.size)
            have HBW3 : Hid (Below w.heap.size w w3) := HBW.out.trans (hb3.mono HBW.out.size)
            clear hr k0 k1 k2 k3 k4 k5 k6 k7 k8 c9 hb3 hown
            by_cases hz : cd = 0
            · subst hz
              have hsz := hsz rfl
              have z1 : ¬ 9223372036854775807 < s.size + 1 := by omega
              obtain ⟨t, ht⟩ : ∃ t, s ++ ({ data := #[10] } : ByteArray) = t := ⟨_, rfl⟩
              have htz : t.size = s.size + 1 := by rw [← ht, ByteArray.size_append]; rfl
              have htd : t.data.toList = s.data.toList ++ [10] := by
                rw [← ht]
                simp [ByteArray.data_append]
              have hml : (byteCells (G ++ actsT (V.take j))).length + t.size ≤ maxLen := by unfold maxLen; omega
              have hBs := HB3.out.size
              obtain ⟨n2, hn2⟩ : ∃ n2, n1 + 1 = n2 := ⟨_, rfl⟩
              have hw2 : IntKind.i64.wrap ((n1 : Int) + 1) = (n2 : Int) := by rw [IntKind.wrap_i64]; omega
              have HST : Hid (actsT (V.take (j + 1)) = actsT (V.take j) ++ t.data.toList) := by
                show _ = _
                rw [htd]
                exact hst
              clear hst htd
              go_wp2_with (at_builtin; refine wpList_append_rowF_string rfl _ _ 51 9 rfl W1.heap.size 5 i0 Tryz.underlying51 Tryz.underlying9 hi0 hz0 hz1 hz2 _ _ rfl hown3 t rfl hml (by omega) hBs ?_)
              intro v6 w6 hown6 hb6 _
              have HR6 : Hid (RowF w6 W1.heap.size 5 v6 (byteCells (G ++ actsT (V.take (j + 1))))) := by
                show RowF _ _ _ _ _
                rw [HST.out, ← List.append_assoc, byteCells_append, ← strCells_bytes]
                exact hown6
              have HB6 : Hid (Below W1.heap.size W1 w6 ∧ ∀ (i : Nat) x, i < j + 1 → V[i]? = some x → (prA x).2 = 0) := by
                refine ⟨HB3.out.trans hb6, fun i y hi hy => ?_⟩
                by_cases e : i = j
                · subst e
                  rw [HX.out] at hy
                  rw [← Option.some.inj hy]
                  exact HCD.out
                · exact HI.out.2 i y (by omega) hy
              have hbw6 : Below w.heap.size w w6 := HBW3.out.trans (hb6.mono (Nat.le_trans HB.out.size HB1.out.size))
              have c9 : w6.cell? ⟨w.heap.size, 9, none⟩ = some (.slice p.acts p.nacts p.cacts) := (HP.out w6 (HB1.out.trans (HB6.out.1.mono HB1.out.size))).ten.2.2.2.2.2.2.2.2.2
              rw [HPA.out] at c9
              obtain ⟨k0, k1, -⟩ := HNI2.out.1.below hbw6 HNI2.out.2
              clear hown6 hb6 hown3 hml hlb HST HB3 HBW3 hbw6 HI hsz hsm hBs ht htz
              by_cases h3 : x.1.kind = 3
              · have h3b : (x.1.kind == (3 : Int)) = true := by rw [h3]; rfl
                rw [if_pos h3] at hlA
                obtain ⟨n3, hn3⟩ : ∃ n3, n2 + x.1.nops = n3 := ⟨_, rfl⟩
                have hw3 : IntKind.i64.wrap ((n2 : Int) + (x.1.nops : Int)) = (n3 : Int) := by rw [IntKind.wrap_i64]; omega
                have hw4 : IntKind.i64.wrap ((n3 : Int) + 1) = ((n3 + 1 : Nat) : Int) := by rw [IntKind.wrap_i64]; omega
                have HL2 : Hid (3 + k + lnsT (V.take (j + 1)) = n3 + 1) := by
                  have h1 : 3 + k + lnsT (V.take j) = n1 := HL.out
                  show _ = _
                  rw [hsl, hlA]
                  omega
                clear hsl hlA hn2 hn3
                go_wp2
                go_roundg (gk - 1)
                case measure => have := HJ.out; omega
                case rel => exact ⟨j + 1, n3 + 1, by have := HJ.out; omega, HL2, by go_num, by go_num, HR6.out, HB6⟩
              · have h3b : (x.1.kind == (3 : Int)) = false := by simpa using h3
                rw [if_neg h3] at hlA
                have HL2 : Hid (3 + k + lnsT (V.take (j + 1)) = n2) := by
                  have h1 : 3 + k + lnsT (V.take j) = n1 := HL.out
                  show _ = _
                  rw [hsl, hlA]
                  omega
                clear hsl hlA hn2
                go_wp2
                go_roundg (gk - 1)
                case measure => have := HJ.out; omega
                case rel => exact ⟨j + 1, n2, by have := HJ.out; omega, HL2, by go_num, by go_num, HR6.out, HB6⟩
            · have HF : Hid (R = .tuple #[.string { data := #[] }, .int .i64 cd]) := by
                show _ = _
                have hf : firA V = cd := by rw [firA_hit V j x HX.out HI.out.2 (by rw [HCD.out]; exact hz), HCD.out]
                rw [← HR.out]
                unfold printV
                rw [if_neg HNI.out, if_neg HSN.out, if_pos (by rw [hf]; exact hz), hf]
              clear hown3 hst hsl hsz hsm hlb
              go_wp2
              go_ret2
              rw [HF.out]
              exact ⟨rfl, HBW3.out⟩
          · obtain rfl : j = p.nacts := by omega
            have hltI : ¬ (p.nacts : Int) < (p.nacts : Int) := by omega
            have htk : V.take p.nacts = V := List.take_of_length_le (by rw [HVV.out.2.1]; exact Nat.le_refl _)
            rw [htk] at hown HL
            have HF0 : Hid (firA V = 0) := firA_all V fun i x hx => HI.out.2 i x (by have := (List.getElem?_eq_some_iff.1 hx).1; rw [HVV.out.2.1] at this; exact this) hx
            by_cases hq : 20000 < n1
            · have hqI : (20000 : Int) < (n1 : Int) := by omega
              have HF : Hid (R = .tuple #[.string { data := #[] }, .int .i64 226]) := by
                show _ = _
                rw [← HR.out]
                unfold printV
                rw [if_neg HNI.out, if_neg HSN.out, if_neg (fun h => h HF0.out), HRN.out, HL.out, if_pos hq]
              clear hown hlb
              go_wp2
              go_ret2
              rw [HF.out]
              exact ⟨rfl, HBW.out⟩
            · have hqI : ¬ (20000 : Int) < (n1 : Int) := by omega
              have hcv := convert_rowF (P := Tryz.prog) wr 51 9 5 W1.heap.size _ (G ++ actsT V) Tryz.underlying51 Tryz.underlying5 Tryz.underlying9 hown
              have HF : Hid (R = .tuple #[.string (⟨(G ++ actsT V).toArray⟩ : ByteArray), .int .i64 0]) := by
                show _ = _
                rw [← HR.out]
                unfold printV
                rw [if_neg HNI.out, if_neg HSN.out, if_neg (fun h => h HF0.out), HRN.out, HL.out, if_neg hq, HG.out]
                rfl
              clear hlb hown
              go_wp2
              go_ret2
              rw [HF.out]
              exact ⟨rfl, HBW.out⟩

end Go.Proofs.YtiaahjijfppkdaaGreatDoor.Sc
