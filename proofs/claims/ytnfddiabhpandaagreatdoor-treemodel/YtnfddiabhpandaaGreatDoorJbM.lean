import Derived.Test.YtnfddiabhpandaaGreatDoorIvM
namespace Go.Proofs.YtnfddiabhpandaaGreatDoor.Tr
open Go.RowKit Go.Lib Go.Deep

set_option maxRecDepth 20000 in
set_option maxHeartbeats 2000000 in
theorem does1_any (w : World) (B b f d m : Nat) (L : List En) (h : Mdl w B b f d m L) (hB : B ≤ w.heap.size) {T : Ts} {dp : Nat → Nat} (hI : Inv T dp) (hM : Mo T L) (P : List ByteArray) (hP : Vd P) (ot od : ByteArray) (oa on : Int) (ha : askE ⟨1, tx P, ot, oa, on, od⟩ = 0) (hfb : f ≤ 65536 ∧ d ≤ 65536) (hLb : L.length ≤ 90000) (hd : T.dr = d + 1) :
    Calls Tryz.prog 25 #[.pointer (some ⟨b, 0, none⟩), .agg #[.int .i64 1, .string (tx P), .string ot, .int .i64 oa, .int .i64 on, .string od]] w (Done (mkdT T P) w B b f d m) := by
  obtain ⟨W, hW, hb, k0, k1⟩ := op_new w #[.int .i64 1, .string (tx P), .string ot, .int .i64 oa, .int .i64 on, .string od]
  have hWs : W.heap.size = w.heap.size + 2 := by rw [← hW]; simp
  obtain ⟨V, hV, hbV, kV⟩ := one_new W #[.int .i64 0, .string { data := #[] }, .int .i64 0, .slice none 0 0, .int .i64 0, .int .i64 0] 33
  rw [hWs] at kV
  have hbV' : Below w.heap.size w V := hb.trans (hbV.mono hb.size)
  obtain ⟨v0, v1, v2, v3, v4, v5⟩ := cells6 kV
  have fzV : ∀ j, V.frozen? ⟨w.heap.size + 2, j, none⟩ = false := fun j => frozen_of_heap kV
  have j0 := (hbV.block _ (heap_lt k0)).trans k0
  have j1 := (hbV.block _ (heap_lt k1)).trans k1
  obtain ⟨x0, x1, x2, x3, x4, x5⟩ := cells6 j0
  have HWR : Hid (∀ X : World, Calls Tryz.prog 46 #[.agg #[.int .i64 1, .string (tx P), .string ot, .int .i64 oa, .int .i64 on, .string od]] X fun e w' => e = .returned (.int .i64 0) ∧ Below X.heap.size X w') := fun X => by have := wrong_any X ⟨1, tx P, ot, oa, on, od⟩; rw [ha] at this; exact this
  have HX : Hid (∀ w1, Below (put6 V (w.heap.size + 2) (.int .i64 0) (.string { data := #[] }) (.int .i64 0) (.slice none 0 0) (.int .i64 0) (.int .i64 0)).heap.size (put6 V (w.heap.size + 2) (.int .i64 0) (.string { data := #[] }) (.int .i64 0) (.slice none 0 0) (.int .i64 0) (.int .i64 0)) w1 → w1.heap[w.heap.size]? = some (.cells #[.int .i64 1, .string (tx P), .string ot, .int .i64 oa, .int .i64 on, .string od] 39 (0, 0)) ∧ Mdl w1 B b f d m L ∧ Mfr B w w1 b ∧ ∀ w2, Mfr B w1 w2 b → w2.heap[w.heap.size + 1]? = some (.cells #[.int .i64 0, .string { data := #[] }, .int .i64 0, .slice none 0 0, .int .i64 0, .int .i64 0] 33 (0, 0)) ∧ w2.heap[w.heap.size + 2]? = some (.cells #[.int .i64 0, .string { data := #[] }, .int .i64 0, .slice none 0 0, .int .i64 0, .int .i64 0] 33 (0, 0))) := fun w1 hb1 => by
    obtain ⟨u1, u2, u3⟩ := put6_all (h.below hbV') (mfr_below (b := b) hbV') (show w.heap.size ≤ w.heap.size + 2 by omega) kV (.int .i64 0) (.string { data := #[] }) (.int .i64 0) (.slice none 0 0) (.int .i64 0) (.int .i64 0)
    have hne : ∀ (g : Nat), g < w.heap.size + 2 → ∀ (X : World) (j : Nat) (y : Value), (X.setCell ⟨w.heap.size + 2, j, none⟩ y).heap[g]? = X.heap[g]? := fun g hg X j y => heap_setCell_other _ _ _ _ (by show g ≠ w.heap.size + 2; omega)
    have hk : (put6 V (w.heap.size + 2) (.int .i64 0) (.string { data := #[] }) (.int .i64 0) (.slice none 0 0) (.int .i64 0) (.int .i64 0)).heap[w.heap.size + 1]? = some (.cells #[.int .i64 0, .string { data := #[] }, .int .i64 0, .slice none 0 0, .int .i64 0, .int .i64 0] 33 (0, 0)) := by
      simp only [put6, hne _ (show w.heap.size + 1 < w.heap.size + 2 by omega)]
      exact j1
    have hk0 : (put6 V (w.heap.size + 2) (.int .i64 0) (.string { data := #[] }) (.int .i64 0) (.slice none 0 0) (.int .i64 0) (.int .i64 0)).heap[w.heap.size]? = some (.cells #[.int .i64 1, .string (tx P), .string ot, .int .i64 oa, .int .i64 on, .string od] 39 (0, 0)) := by
      simp only [put6, hne _ (show w.heap.size < w.heap.size + 2 by omega)]
      exact j0
    have hk1 := (hb1.block _ (heap_lt hk)).trans hk
    have hu1 := (hb1.block _ (heap_lt u1)).trans u1
    exact ⟨(hb1.block _ (heap_lt hk0)).trans hk0, u2.below hb1, u3.trans (mfr_below hb1), fun w2 hf => ⟨room_keep h hf (show w.heap.size ≤ w.heap.size + 1 by omega) hk1, room_keep h hf (show w.heap.size ≤ w.heap.size + 2 by omega) hu1⟩⟩
  have HBS : Hid (∀ w1, Mfr B w w1 b → B ≤ w1.heap.size) := fun w1 hf => Nat.le_trans hB hf.size
  have HCALL : Hid (∀ w1, Mdl w1 B b f d m L → B ≤ w1.heap.size → Calls Tryz.prog 47 #[.pointer (some ⟨b, 0, none⟩), .int .i64 1, .string (tx P)] w1 (Coded (mkdT T P) w1 B b f d m)) := fun w1 h1 h2 => make1_do w1 B b f d m L h1 h2 hI hM P hP hfb hLb hd
  have HA : Hid ((mkdT T P).1 = Rs.no (mkdT T P).1.code) := by show _ = _; unfold mkdT; split <;> (try split) <;> rfl
  clear k0 k1 hb hbV hbV' j0 j1 kV h hI hM hB
  obtain ⟨A, hA⟩ : ∃ A, mkdT T P = A := ⟨_, rfl⟩
  rw [hA] at HCALL HA ⊢
  clear hA
  have HN : Hid (A.1.n = 0 ∧ A.1.names = [] ∧ A.1.kind = 0 ∧ A.1.size = 0) := by show _ ∧ _ ∧ _ ∧ _; rw [HA.out]; exact ⟨rfl, rfl, rfl, rfl⟩
  go_enter Tryz.func25, Tryz.ntmps25
  go_wp2_with fail
  refine (HWR.out _).mono ?_
  rintro e w1 ⟨rfl, hb1⟩
  obtain ⟨q0, hm1, hf1, hq2⟩ := HX.out w1 hb1
  have HF1 : Hid _ := hf1
  have HQ2 : Hid _ := hq2
  have hcall := HCALL.out w1 hm1 (HBS.out w1 hf1)
  clear hb1 v0 v1 v2 v3 v4 v5 x0 x1 x2 x3 x4 x5 fzV hV hW hWs hm1 hf1 hq2
  obtain ⟨x0, x1, x2, x3, x4, x5⟩ := cells6 q0
  clear q0
  go_wp2_with fail
  refine hcall.mono ?_
  rintro e w2 ⟨rfl, L', hm2, hmo, hf2⟩
  obtain ⟨p1, p2⟩ := HQ2.out w2 hf2
  have q3 : (w2.setCell ⟨w.heap.size + 2, 0, none⟩ (.int .i64 A.1.code)).heap[w.heap.size + 1]? = _ := (heap_setCell_other _ _ _ _ (by show w.heap.size + 1 ≠ w.heap.size + 2; omega)).trans p1
  obtain ⟨u1, u2, u3⟩ := put6_all (V := w2.setCell ⟨w.heap.size + 2, 0, none⟩ (.int .i64 A.1.code)) (mdl_fresh hm2 p2) (mfr_fresh (HF1.out.trans hf2) (by omega)) (show w.heap.size ≤ w.heap.size + 1 by omega) q3 (.int .i64 A.1.code) (.string { data := #[] }) (.int .i64 0) (.slice none 0 0) (.int .i64 0) (.int .i64 0)
  have HU1 : Hid (Unit → _) := fun _ => u1
  have HU2 : Hid _ := u2
  have HU3 : Hid _ := u3
  have HMO : Hid _ := hmo
  obtain ⟨s0, s1, s2, s3, s4, s5⟩ := cells6 p1
  obtain ⟨t0, t1, t2, t3, t4, t5⟩ := cells6 p2
  have fz1 : ∀ j, w2.frozen? ⟨w.heap.size + 1, j, none⟩ = false := fun j => frozen_of_heap p1
  have fz2 : ∀ j, w2.frozen? ⟨w.heap.size + 2, j, none⟩ = false := fun j => frozen_of_heap p2
  clear u1 u2 u3 p1 p2 q3 hm2 hf2 hmo x0 x1 x2 x3 x4 x5
  go_wp2
  refine bodyPost_ret (results_cell1 rfl _ _ (w.heap.size + 1) 33 _ (0, 0) _ rfl (HU1.out ()) Tryz.underlying33 rfl sizeRes) rfl ?_
  obtain ⟨n1, n2, n3, n4⟩ := HN.out
  refine ⟨.slice none 0 0, ?_, ?_, L', HU2.out, HMO.out, HU3.out⟩
  · rw [n1, n3, n4]
  · rw [n2]; exact own_nil _ _

end Go.Proofs.YtnfddiabhpandaaGreatDoor.Tr

namespace Go.Proofs.YtnfddiabhpandaaGreatDoor.Tr
open Go.RowKit Go.Lib Go.Deep

set_option maxRecDepth 20000 in
set_option maxHeartbeats 2000000 in
theorem does2_any (w : World) (B b f d m : Nat) (L : List En) (h : Mdl w B b f d m L) (hB : B ≤ w.heap.size) {T : Ts} {dp : Nat → Nat} (hI : Inv T dp) (hM : Mo T L) (P : List ByteArray) (hP : Vd P) (ot od : ByteArray) (oa on : Int) (ha : askE ⟨2, tx P, ot, oa, on, od⟩ = 0) (hfb : f ≤ 65536 ∧ d ≤ 65536) (hLb : L.length ≤ 90000) (hd : T.fr = f) :
    Calls Tryz.prog 25 #[.pointer (some ⟨b, 0, none⟩), .agg #[.int .i64 2, .string (tx P), .string ot, .int .i64 oa, .int .i64 on, .string od]] w (Done (creT T P) w B b f d m) := by
  obtain ⟨W, hW, hb, k0, k1⟩ := op_new w #[.int .i64 2, .string (tx P), .string ot, .int .i64 oa, .int .i64 on, .string od]
  have hWs : W.heap.size = w.heap.size + 2 := by rw [← hW]; simp
  obtain ⟨V, hV, hbV, kV⟩ := one_new W #[.int .i64 0, .string { data := #[] }, .int .i64 0, .slice none 0 0, .int .i64 0, .int .i64 0] 33
  rw [hWs] at kV
  have hbV' : Below w.heap.size w V := hb.trans (hbV.mono hb.size)
  obtain ⟨v0, v1, v2, v3, v4, v5⟩ := cells6 kV
  have fzV : ∀ j, V.frozen? ⟨w.heap.size + 2, j, none⟩ = false := fun j => frozen_of_heap kV
  have j0 := (hbV.block _ (heap_lt k0)).trans k0
  have j1 := (hbV.block _ (heap_lt k1)).trans k1
  obtain ⟨x0, x1, x2, x3, x4, x5⟩ := cells6 j0
  have HWR : Hid (∀ X : World, Calls Tryz.prog 46 #[.agg #[.int .i64 2, .string (tx P), .string ot, .int .i64 oa, .int .i64 on, .string od]] X fun e w' => e = .returned (.int .i64 0) ∧ Below X.heap.size X w') := fun X => by have := wrong_any X ⟨2, tx P, ot, oa, on, od⟩; rw [ha] at this; exact this
  have HX : Hid (∀ w1, Below (put6 V (w.heap.size + 2) (.int .i64 0) (.string { data := #[] }) (.int .i64 0) (.slice none 0 0) (.int .i64 0) (.int .i64 0)).heap.size (put6 V (w.heap.size + 2) (.int .i64 0) (.string { data := #[] }) (.int .i64 0) (.slice none 0 0) (.int .i64 0) (.int .i64 0)) w1 → w1.heap[w.heap.size]? = some (.cells #[.int .i64 2, .string (tx P), .string ot, .int .i64 oa, .int .i64 on, .string od] 39 (0, 0)) ∧ Mdl w1 B b f d m L ∧ Mfr B w w1 b ∧ ∀ w2, Mfr B w1 w2 b → w2.heap[w.heap.size + 1]? = some (.cells #[.int .i64 0, .string { data := #[] }, .int .i64 0, .slice none 0 0, .int .i64 0, .int .i64 0] 33 (0, 0)) ∧ w2.heap[w.heap.size + 2]? = some (.cells #[.int .i64 0, .string { data := #[] }, .int .i64 0, .slice none 0 0, .int .i64 0, .int .i64 0] 33 (0, 0))) := fun w1 hb1 => by
    obtain ⟨u1, u2, u3⟩ := put6_all (h.below hbV') (mfr_below (b := b) hbV') (show w.heap.size ≤ w.heap.size + 2 by omega) kV (.int .i64 0) (.string { data := #[] }) (.int .i64 0) (.slice none 0 0) (.int .i64 0) (.int .i64 0)
    have hne : ∀ (g : Nat), g < w.heap.size + 2 → ∀ (X : World) (j : Nat) (y : Value), (X.setCell ⟨w.heap.size + 2, j, none⟩ y).heap[g]? = X.heap[g]? := fun g hg X j y => heap_setCell_other _ _ _ _ (by show g ≠ w.heap.size + 2; omega)
    have hk : (put6 V (w.heap.size + 2) (.int .i64 0) (.string { data := #[] }) (.int .i64 0) (.slice none 0 0) (.int .i64 0) (.int .i64 0)).heap[w.heap.size + 1]? = some (.cells #[.int .i64 0, .string { data := #[] }, .int .i64 0, .slice none 0 0, .int .i64 0, .int .i64 0] 33 (0, 0)) := by
      simp only [put6, hne _ (show w.heap.size + 1 < w.heap.size + 2 by omega)]
      exact j1
    have hk0 : (put6 V (w.heap.size + 2) (.int .i64 0) (.string { data := #[] }) (.int .i64 0) (.slice none 0 0) (.int .i64 0) (.int .i64 0)).heap[w.heap.size]? = some (.cells #[.int .i64 2, .string (tx P), .string ot, .int .i64 oa, .int .i64 on, .string od] 39 (0, 0)) := by
      simp only [put6, hne _ (show w.heap.size < w.heap.size + 2 by omega)]
      exact j0
    have hk1 := (hb1.block _ (heap_lt hk)).trans hk
    have hu1 := (hb1.block _ (heap_lt u1)).trans u1
    exact ⟨(hb1.block _ (heap_lt hk0)).trans hk0, u2.below hb1, u3.trans (mfr_below hb1), fun w2 hf => ⟨room_keep h hf (show w.heap.size ≤ w.heap.size + 1 by omega) hk1, room_keep h hf (show w.heap.size ≤ w.heap.size + 2 by omega) hu1⟩⟩
  have HBS : Hid (∀ w1, Mfr B w w1 b → B ≤ w1.heap.size) := fun w1 hf => Nat.le_trans hB hf.size
  have HCALL : Hid (∀ w1, Mdl w1 B b f d m L → B ≤ w1.heap.size → Calls Tryz.prog 47 #[.pointer (some ⟨b, 0, none⟩), .int .i64 2, .string (tx P)] w1 (Coded (creT T P) w1 B b f d m)) := fun w1 h1 h2 => make2_do w1 B b f d m L h1 h2 hI hM P hP hfb hLb hd
  have HA : Hid ((creT T P).1 = Rs.no (creT T P).1.code) := by show _ = _; unfold creT; split <;> (try split) <;> rfl
  clear k0 k1 hb hbV hbV' j0 j1 kV h hI hM hB
  obtain ⟨A, hA⟩ : ∃ A, creT T P = A := ⟨_, rfl⟩
  rw [hA] at HCALL HA ⊢
  clear hA
  have HN : Hid (A.1.n = 0 ∧ A.1.names = [] ∧ A.1.kind = 0 ∧ A.1.size = 0) := by show _ ∧ _ ∧ _ ∧ _; rw [HA.out]; exact ⟨rfl, rfl, rfl, rfl⟩
  go_enter Tryz.func25, Tryz.ntmps25
  go_wp2_with fail
  refine (HWR.out _).mono ?_
  rintro e w1 ⟨rfl, hb1⟩
  obtain ⟨q0, hm1, hf1, hq2⟩ := HX.out w1 hb1
  have HF1 : Hid _ := hf1
  have HQ2 : Hid _ := hq2
  have hcall := HCALL.out w1 hm1 (HBS.out w1 hf1)
  clear hb1 v0 v1 v2 v3 v4 v5 x0 x1 x2 x3 x4 x5 fzV hV hW hWs hm1 hf1 hq2
  obtain ⟨x0, x1, x2, x3, x4, x5⟩ := cells6 q0
  clear q0
  go_wp2_with fail
  refine hcall.mono ?_
  rintro e w2 ⟨rfl, L', hm2, hmo, hf2⟩
  obtain ⟨p1, p2⟩ := HQ2.out w2 hf2
  have q3 : (w2.setCell ⟨w.heap.size + 2, 0, none⟩ (.int .i64 A.1.code)).heap[w.heap.size + 1]? = _ := (heap_setCell_other _ _ _ _ (by show w.heap.size + 1 ≠ w.heap.size + 2; omega)).trans p1
  obtain ⟨u1, u2, u3⟩ := put6_all (V := w2.setCell ⟨w.heap.size + 2, 0, none⟩ (.int .i64 A.1.code)) (mdl_fresh hm2 p2) (mfr_fresh (HF1.out.trans hf2) (by omega)) (show w.heap.size ≤ w.heap.size + 1 by omega) q3 (.int .i64 A.1.code) (.string { data := #[] }) (.int .i64 0) (.slice none 0 0) (.int .i64 0) (.int .i64 0)
  have HU1 : Hid (Unit → _) := fun _ => u1
  have HU2 : Hid _ := u2
  have HU3 : Hid _ := u3
  have HMO : Hid _ := hmo
  obtain ⟨s0, s1, s2, s3, s4, s5⟩ := cells6 p1
  obtain ⟨t0, t1, t2, t3, t4, t5⟩ := cells6 p2
  have fz1 : ∀ j, w2.frozen? ⟨w.heap.size + 1, j, none⟩ = false := fun j => frozen_of_heap p1
  have fz2 : ∀ j, w2.frozen? ⟨w.heap.size + 2, j, none⟩ = false := fun j => frozen_of_heap p2
  clear u1 u2 u3 p1 p2 q3 hm2 hf2 hmo x0 x1 x2 x3 x4 x5
  go_wp2
  refine bodyPost_ret (results_cell1 rfl _ _ (w.heap.size + 1) 33 _ (0, 0) _ rfl (HU1.out ()) Tryz.underlying33 rfl sizeRes) rfl ?_
  obtain ⟨n1, n2, n3, n4⟩ := HN.out
  refine ⟨.slice none 0 0, ?_, ?_, L', HU2.out, HMO.out, HU3.out⟩
  · rw [n1, n3, n4]
  · rw [n2]; exact own_nil _ _

end Go.Proofs.YtnfddiabhpandaaGreatDoor.Tr

namespace Go.Proofs.YtnfddiabhpandaaGreatDoor.Tr
open Go.RowKit Go.Lib Go.Deep

set_option maxRecDepth 20000 in
set_option maxHeartbeats 2000000 in
theorem does6_any (w : World) (B b f d m : Nat) (L : List En) (h : Mdl w B b f d m L) (hB : B ≤ w.heap.size) {T : Ts} {dp : Nat → Nat} (hI : Inv T dp) (hM : Mo T L) (P : List ByteArray) (hP : Vd P) (ot od : ByteArray) (oa on : Int) (ha : askE ⟨6, tx P, ot, oa, on, od⟩ = 0) (Q : List ByteArray) (hQ : Vd Q) (hq : ot = tx Q) :
    Calls Tryz.prog 25 #[.pointer (some ⟨b, 0, none⟩), .agg #[.int .i64 6, .string (tx P), .string ot, .int .i64 oa, .int .i64 on, .string od]] w (Done (renT T P Q) w B b f d m) := by
  subst hq
  obtain ⟨W, hW, hb, k0, k1⟩ := op_new w #[.int .i64 6, .string (tx P), .string (tx Q), .int .i64 oa, .int .i64 on, .string od]
  have hWs : W.heap.size = w.heap.size + 2 := by rw [← hW]; simp
  obtain ⟨V, hV, hbV, kV⟩ := one_new W #[.int .i64 0, .string { data := #[] }, .int .i64 0, .slice none 0 0, .int .i64 0, .int .i64 0] 33
  rw [hWs] at kV
  have hbV' : Below w.heap.size w V := hb.trans (hbV.mono hb.size)
  obtain ⟨v0, v1, v2, v3, v4, v5⟩ := cells6 kV
  have fzV : ∀ j, V.frozen? ⟨w.heap.size + 2, j, none⟩ = false := fun j => frozen_of_heap kV
  have j0 := (hbV.block _ (heap_lt k0)).trans k0
  have j1 := (hbV.block _ (heap_lt k1)).trans k1
  obtain ⟨x0, x1, x2, x3, x4, x5⟩ := cells6 j0
  have HWR : Hid (∀ X : World, Calls Tryz.prog 46 #[.agg #[.int .i64 6, .string (tx P), .string (tx Q), .int .i64 oa, .int .i64 on, .string od]] X fun e w' => e = .returned (.int .i64 0) ∧ Below X.heap.size X w') := fun X => by have := wrong_any X ⟨6, tx P, tx Q, oa, on, od⟩; rw [ha] at this; exact this
  have HX : Hid (∀ w1, Below (put6 V (w.heap.size + 2) (.int .i64 0) (.string { data := #[] }) (.int .i64 0) (.slice none 0 0) (.int .i64 0) (.int .i64 0)).heap.size (put6 V (w.heap.size + 2) (.int .i64 0) (.string { data := #[] }) (.int .i64 0) (.slice none 0 0) (.int .i64 0) (.int .i64 0)) w1 → w1.heap[w.heap.size]? = some (.cells #[.int .i64 6, .string (tx P), .string (tx Q), .int .i64 oa, .int .i64 on, .string od] 39 (0, 0)) ∧ Mdl w1 B b f d m L ∧ Mfr B w w1 b ∧ ∀ w2, Mfr B w1 w2 b → w2.heap[w.heap.size + 1]? = some (.cells #[.int .i64 0, .string { data := #[] }, .int .i64 0, .slice none 0 0, .int .i64 0, .int .i64 0] 33 (0, 0)) ∧ w2.heap[w.heap.size + 2]? = some (.cells #[.int .i64 0, .string { data := #[] }, .int .i64 0, .slice none 0 0, .int .i64 0, .int .i64 0] 33 (0, 0))) := fun w1 hb1 => by
    obtain ⟨u1, u2, u3⟩ := put6_all (h.below hbV') (mfr_below (b := b) hbV') (show w.heap.size ≤ w.heap.size + 2 by omega) kV (.int .i64 0) (.string { data := #[] }) (.int .i64 0) (.slice none 0 0) (.int .i64 0) (.int .i64 0)
    have hne : ∀ (g : Nat), g < w.heap.size + 2 → ∀ (X : World) (j : Nat) (y : Value), (X.setCell ⟨w.heap.size + 2, j, none⟩ y).heap[g]? = X.heap[g]? := fun g hg X j y => heap_setCell_other _ _ _ _ (by show g ≠ w.heap.size + 2; omega)
    have hk : (put6 V (w.heap.size + 2) (.int .i64 0) (.string { data := #[] }) (.int .i64 0) (.slice none 0 0) (.int .i64 0) (.int .i64 0)).heap[w.heap.size + 1]? = some (.cells #[.int .i64 0, .string { data := #[] }, .int .i64 0, .slice none 0 0, .int .i64 0, .int .i64 0] 33 (0, 0)) := by
      simp only [put6, hne _ (show w.heap.size + 1 < w.heap.size + 2 by omega)]
      exact j1
    have hk0 : (put6 V (w.heap.size + 2) (.int .i64 0) (.string { data := #[] }) (.int .i64 0) (.slice none 0 0) (.int .i64 0) (.int .i64 0)).heap[w.heap.size]? = some (.cells #[.int .i64 6, .string (tx P), .string (tx Q), .int .i64 oa, .int .i64 on, .string od] 39 (0, 0)) := by
      simp only [put6, hne _ (show w.heap.size < w.heap.size + 2 by omega)]
      exact j0
    have hk1 := (hb1.block _ (heap_lt hk)).trans hk
    have hu1 := (hb1.block _ (heap_lt u1)).trans u1
    exact ⟨(hb1.block _ (heap_lt hk0)).trans hk0, u2.below hb1, u3.trans (mfr_below hb1), fun w2 hf => ⟨room_keep h hf (show w.heap.size ≤ w.heap.size + 1 by omega) hk1, room_keep h hf (show w.heap.size ≤ w.heap.size + 2 by omega) hu1⟩⟩
  have HBS : Hid (∀ w1, Mfr B w w1 b → B ≤ w1.heap.size) := fun w1 hf => Nat.le_trans hB hf.size
  have HCALL : Hid (∀ w1, Mdl w1 B b f d m L → B ≤ w1.heap.size → Calls Tryz.prog 48 #[.pointer (some ⟨b, 0, none⟩), .string (tx P), .string (tx Q)] w1 (Coded (renT T P Q) w1 B b f d m)) := fun w1 h1 h2 => move_do w1 B b f d m L h1 h2 hI hM P Q hP hQ
  have HA : Hid ((renT T P Q).1 = Rs.no (renT T P Q).1.code) := by show _ = _; unfold renT; split <;> (try split) <;> (try split) <;> (try split) <;> rfl
  clear k0 k1 hb hbV hbV' j0 j1 kV h hI hM hB
  obtain ⟨A, hA⟩ : ∃ A, renT T P Q = A := ⟨_, rfl⟩
  rw [hA] at HCALL HA ⊢
  clear hA
  have HN : Hid (A.1.n = 0 ∧ A.1.names = [] ∧ A.1.kind = 0 ∧ A.1.size = 0) := by show _ ∧ _ ∧ _ ∧ _; rw [HA.out]; exact ⟨rfl, rfl, rfl, rfl⟩
  go_enter Tryz.func25, Tryz.ntmps25
  go_wp2_with fail
  refine (HWR.out _).mono ?_
  rintro e w1 ⟨rfl, hb1⟩
  obtain ⟨q0, hm1, hf1, hq2⟩ := HX.out w1 hb1
  have HF1 : Hid _ := hf1
  have HQ2 : Hid _ := hq2
  have hcall := HCALL.out w1 hm1 (HBS.out w1 hf1)
  clear hb1 v0 v1 v2 v3 v4 v5 x0 x1 x2 x3 x4 x5 fzV hV hW hWs hm1 hf1 hq2
  obtain ⟨x0, x1, x2, x3, x4, x5⟩ := cells6 q0
  clear q0
  go_wp2_with fail
  refine hcall.mono ?_
  rintro e w2 ⟨rfl, L', hm2, hmo, hf2⟩
  obtain ⟨p1, p2⟩ := HQ2.out w2 hf2
  have q3 : (w2.setCell ⟨w.heap.size + 2, 0, none⟩ (.int .i64 A.1.code)).heap[w.heap.size + 1]? = _ := (heap_setCell_other _ _ _ _ (by show w.heap.size + 1 ≠ w.heap.size + 2; omega)).trans p1
  obtain ⟨u1, u2, u3⟩ := put6_all (V := w2.setCell ⟨w.heap.size + 2, 0, none⟩ (.int .i64 A.1.code)) (mdl_fresh hm2 p2) (mfr_fresh (HF1.out.trans hf2) (by omega)) (show w.heap.size ≤ w.heap.size + 1 by omega) q3 (.int .i64 A.1.code) (.string { data := #[] }) (.int .i64 0) (.slice none 0 0) (.int .i64 0) (.int .i64 0)
  have HU1 : Hid (Unit → _) := fun _ => u1
  have HU2 : Hid _ := u2
  have HU3 : Hid _ := u3
  have HMO : Hid _ := hmo
  obtain ⟨s0, s1, s2, s3, s4, s5⟩ := cells6 p1
  obtain ⟨t0, t1, t2, t3, t4, t5⟩ := cells6 p2
  have fz1 : ∀ j, w2.frozen? ⟨w.heap.size + 1, j, none⟩ = false := fun j => frozen_of_heap p1
  have fz2 : ∀ j, w2.frozen? ⟨w.heap.size + 2, j, none⟩ = false := fun j => frozen_of_heap p2
  clear u1 u2 u3 p1 p2 q3 hm2 hf2 hmo x0 x1 x2 x3 x4 x5
  go_wp2
  refine bodyPost_ret (results_cell1 rfl _ _ (w.heap.size + 1) 33 _ (0, 0) _ rfl (HU1.out ()) Tryz.underlying33 rfl sizeRes) rfl ?_
  obtain ⟨n1, n2, n3, n4⟩ := HN.out
  refine ⟨.slice none 0 0, ?_, ?_, L', HU2.out, HMO.out, HU3.out⟩
  · rw [n1, n3, n4]
  · rw [n2]; exact own_nil _ _

end Go.Proofs.YtnfddiabhpandaaGreatDoor.Tr

namespace Go.Proofs.YtnfddiabhpandaaGreatDoor.Tr
open Go.RowKit Go.Lib Go.Deep

set_option maxRecDepth 20000 in
set_option maxHeartbeats 2000000 in
theorem does3_any (w : World) (B b f d m : Nat) (L : List En) (h : Mdl w B b f d m L) (hB : B ≤ w.heap.size) {T : Ts} {dp : Nat → Nat} (hI : Inv T dp) (hM : Mo T L) (P : List ByteArray) (hP : Vd P) (ot od : ByteArray) (oa on : Int) (ha : askE ⟨3, tx P, ot, oa, on, od⟩ = 0) (hs : ∀ x, szF T x ≤ 100000) (ha0 : 0 ≤ oa) (hn0 : 0 ≤ on) :
    Calls Tryz.prog 25 #[.pointer (some ⟨b, 0, none⟩), .agg #[.int .i64 3, .string (tx P), .string ot, .int .i64 oa, .int .i64 on, .string od]] w (Done (reaT T P ⟨3, tx P, ot, oa, on, od⟩) w B b f d m) := by
  obtain ⟨W, hW, hb, k0, k1⟩ := op_new w #[.int .i64 3, .string (tx P), .string ot, .int .i64 oa, .int .i64 on, .string od]
  have hWs : W.heap.size = w.heap.size + 2 := by rw [← hW]; simp
  obtain ⟨V, hV, hbV, kV⟩ := one_new W #[.int .i64 0, .string { data := #[] }, .int .i64 0, .slice none 0 0, .int .i64 0, .int .i64 0] 33
  rw [hWs] at kV
  have hbV' : Below w.heap.size w V := hb.trans (hbV.mono hb.size)
  obtain ⟨v0, v1, v2, v3, v4, v5⟩ := cells6 kV
  have fzV : ∀ j, V.frozen? ⟨w.heap.size + 2, j, none⟩ = false := fun j => frozen_of_heap kV
  have j0 := (hbV.block _ (heap_lt k0)).trans k0
  have j1 := (hbV.block _ (heap_lt k1)).trans k1
  obtain ⟨x0, x1, x2, x3, x4, x5⟩ := cells6 j0
  have HWR : Hid (∀ X : World, Calls Tryz.prog 46 #[.agg #[.int .i64 3, .string (tx P), .string ot, .int .i64 oa, .int .i64 on, .string od]] X fun e w' => e = .returned (.int .i64 0) ∧ Below X.heap.size X w') := fun X => by have := wrong_any X ⟨3, tx P, ot, oa, on, od⟩; rw [ha] at this; exact this
  have HX : Hid (∀ w1, Below (put6 V (w.heap.size + 2) (.int .i64 0) (.string { data := #[] }) (.int .i64 0) (.slice none 0 0) (.int .i64 0) (.int .i64 0)).heap.size (put6 V (w.heap.size + 2) (.int .i64 0) (.string { data := #[] }) (.int .i64 0) (.slice none 0 0) (.int .i64 0) (.int .i64 0)) w1 → w1.heap[w.heap.size]? = some (.cells #[.int .i64 3, .string (tx P), .string ot, .int .i64 oa, .int .i64 on, .string od] 39 (0, 0)) ∧ Mdl w1 B b f d m L ∧ Mfr B w w1 b ∧ ∀ w2, Mfr B w1 w2 b → w2.heap[w.heap.size + 1]? = some (.cells #[.int .i64 0, .string { data := #[] }, .int .i64 0, .slice none 0 0, .int .i64 0, .int .i64 0] 33 (0, 0)) ∧ w2.heap[w.heap.size + 2]? = some (.cells #[.int .i64 0, .string { data := #[] }, .int .i64 0, .slice none 0 0, .int .i64 0, .int .i64 0] 33 (0, 0))) := fun w1 hb1 => by
    obtain ⟨u1, u2, u3⟩ := put6_all (h.below hbV') (mfr_below (b := b) hbV') (show w.heap.size ≤ w.heap.size + 2 by omega) kV (.int .i64 0) (.string { data := #[] }) (.int .i64 0) (.slice none 0 0) (.int .i64 0) (.int .i64 0)
    have hne : ∀ (g : Nat), g < w.heap.size + 2 → ∀ (X : World) (j : Nat) (y : Value), (X.setCell ⟨w.heap.size + 2, j, none⟩ y).heap[g]? = X.heap[g]? := fun g hg X j y => heap_setCell_other _ _ _ _ (by show g ≠ w.heap.size + 2; omega)
    have hk : (put6 V (w.heap.size + 2) (.int .i64 0) (.string { data := #[] }) (.int .i64 0) (.slice none 0 0) (.int .i64 0) (.int .i64 0)).heap[w.heap.size + 1]? = some (.cells #[.int .i64 0, .string { data := #[] }, .int .i64 0, .slice none 0 0, .int .i64 0, .int .i64 0] 33 (0, 0)) := by
      simp only [put6, hne _ (show w.heap.size + 1 < w.heap.size + 2 by omega)]
      exact j1
    have hk0 : (put6 V (w.heap.size + 2) (.int .i64 0) (.string { data := #[] }) (.int .i64 0) (.slice none 0 0) (.int .i64 0) (.int .i64 0)).heap[w.heap.size]? = some (.cells #[.int .i64 3, .string (tx P), .string ot, .int .i64 oa, .int .i64 on, .string od] 39 (0, 0)) := by
      simp only [put6, hne _ (show w.heap.size < w.heap.size + 2 by omega)]
      exact j0
    have hk1 := (hb1.block _ (heap_lt hk)).trans hk
    have hu1 := (hb1.block _ (heap_lt u1)).trans u1
    exact ⟨(hb1.block _ (heap_lt hk0)).trans hk0, u2.below hb1, u3.trans (mfr_below hb1), fun w2 hf => ⟨room_keep h hf (show w.heap.size ≤ w.heap.size + 1 by omega) hk1, room_keep h hf (show w.heap.size ≤ w.heap.size + 2 by omega) hu1⟩⟩
  have HBS : Hid (∀ w1, Mfr B w w1 b → B ≤ w1.heap.size) := fun w1 hf => Nat.le_trans hB hf.size
  have HCALL : Hid (∀ w1, Mdl w1 B b f d m L → B ≤ w1.heap.size → Calls Tryz.prog 50 #[.pointer (some ⟨b, 0, none⟩), .agg #[.int .i64 3, .string (tx P), .string ot, .int .i64 oa, .int .i64 on, .string od]] w1 (Touched (reaT T P ⟨3, tx P, ot, oa, on, od⟩) w1 B b f d m)) := fun w1 h1 h2 => touch3_do w1 B b f d m L h1 h2 hI hM P hP ⟨3, tx P, ot, oa, on, od⟩ hs ha0 hn0
  have HN : Hid ((reaT T P ⟨3, tx P, ot, oa, on, od⟩).1.names = [] ∧ (reaT T P ⟨3, tx P, ot, oa, on, od⟩).1.kind = 0 ∧ (reaT T P ⟨3, tx P, ot, oa, on, od⟩).1.size = 0) := by show _ ∧ _ ∧ _; unfold reaT; split <;> (try split) <;> exact ⟨rfl, rfl, rfl⟩
  clear k0 k1 hb hbV hbV' j0 j1 kV h hI hM hB
  obtain ⟨A, hA⟩ : ∃ A, reaT T P ⟨3, tx P, ot, oa, on, od⟩ = A := ⟨_, rfl⟩
  rw [hA] at HCALL HN ⊢
  clear hA
  go_enter Tryz.func25, Tryz.ntmps25
  go_wp2_with fail
  refine (HWR.out _).mono ?_
  rintro e w1 ⟨rfl, hb1⟩
  obtain ⟨q0, hm1, hf1, hq2⟩ := HX.out w1 hb1
  have HF1 : Hid _ := hf1
  have HQ2 : Hid _ := hq2
  have hcall := HCALL.out w1 hm1 (HBS.out w1 hf1)
  clear hb1 v0 v1 v2 v3 v4 v5 x0 x1 x2 x3 x4 x5 fzV hV hW hWs hm1 hf1 hq2
  obtain ⟨x0, x1, x2, x3, x4, x5⟩ := cells6 q0
  clear q0
  go_wp2_with fail
  refine hcall.mono ?_
  rintro e w2 ⟨rfl, L', hm2, hmo, hf2⟩
  obtain ⟨p1, p2⟩ := HQ2.out w2 hf2
  obtain ⟨a1, a2, a3⟩ := put6_all (w := w) hm2 (HF1.out.trans hf2) (show w.heap.size ≤ w.heap.size + 2 by omega) p2 (.int .i64 0) (.string { data := #[] }) (.int .i64 A.1.n) (.slice none 0 0) (.int .i64 0) (.int .i64 0)
  have q4 : (put6 w2 (w.heap.size + 2) (.int .i64 0) (.string { data := #[] }) (.int .i64 A.1.n) (.slice none 0 0) (.int .i64 0) (.int .i64 0)).heap[w.heap.size + 1]? = some (.cells #[.int .i64 0, .string { data := #[] }, .int .i64 0, .slice none 0 0, .int .i64 0, .int .i64 0] 33 (0, 0)) := by
    have ne2 : ∀ (X : World) (j : Nat) (y : Value), (X.setCell ⟨w.heap.size + 2, j, none⟩ y).heap[w.heap.size + 1]? = X.heap[w.heap.size + 1]? := fun X j y => heap_setCell_other _ _ _ _ (by show w.heap.size + 1 ≠ w.heap.size + 2; omega)
    simp only [put6, ne2]
    exact p1
  have q3 : ((put6 w2 (w.heap.size + 2) (.int .i64 0) (.string { data := #[] }) (.int .i64 A.1.n) (.slice none 0 0) (.int .i64 0) (.int .i64 0)).setCell ⟨w.heap.size + 2, 0, none⟩ (.int .i64 A.1.code)).heap[w.heap.size + 1]? = _ := (heap_setCell_other _ _ _ _ (by show w.heap.size + 1 ≠ w.heap.size + 2; omega)).trans q4
  obtain ⟨u1, u2, u3⟩ := put6_all (V := (put6 w2 (w.heap.size + 2) (.int .i64 0) (.string { data := #[] }) (.int .i64 A.1.n) (.slice none 0 0) (.int .i64 0) (.int .i64 0)).setCell ⟨w.heap.size + 2, 0, none⟩ (.int .i64 A.1.code)) (mdl_fresh a2 a1) (mfr_fresh a3 (by omega)) (show w.heap.size ≤ w.heap.size + 1 by omega) q3 (.int .i64 A.1.code) (.string { data := #[] }) (.int .i64 A.1.n) (.slice none 0 0) (.int .i64 0) (.int .i64 0)
  have HU1 : Hid (Unit → _) := fun _ => u1
  have HU2 : Hid (Mdl _ _ _ _ _ _ _) := u2
  have HU3 : Hid (Mfr B _ _ _) := u3
  have HMO : Hid _ := hmo
  obtain ⟨s0, s1, s2, s3, s4, s5⟩ := cells6 p1
  obtain ⟨t0, t1, t2, t3, t4, t5⟩ := cells6 p2
  have fz1 : ∀ j, w2.frozen? ⟨w.heap.size + 1, j, none⟩ = false := fun j => frozen_of_heap p1
  have fz2 : ∀ j, w2.frozen? ⟨w.heap.size + 2, j, none⟩ = false := fun j => frozen_of_heap p2
  clear u1 u2 u3 p1 p2 q3 q4 a1 a2 a3 hm2 hf2 hmo x0 x1 x2 x3 x4 x5
  go_wp2
  refine bodyPost_ret (results_cell1 rfl _ _ (w.heap.size + 1) 33 _ (0, 0) _ rfl (HU1.out ()) Tryz.underlying33 rfl sizeRes) rfl ?_
  obtain ⟨n2, n3, n4⟩ := HN.out
  refine ⟨.slice none 0 0, ?_, ?_, L', HU2.out, HMO.out, HU3.out⟩
  · rw [n3, n4]
  · rw [n2]; exact own_nil _ _

end Go.Proofs.YtnfddiabhpandaaGreatDoor.Tr

namespace Go.Proofs.YtnfddiabhpandaaGreatDoor.Tr
open Go.RowKit Go.Lib Go.Deep

set_option maxRecDepth 20000 in
set_option maxHeartbeats 2000000 in
theorem does4_any (w : World) (B b f d m : Nat) (L : List En) (h : Mdl w B b f d m L) (hB : B ≤ w.heap.size) {T : Ts} {dp : Nat → Nat} (hI : Inv T dp) (hM : Mo T L) (P : List ByteArray) (hP : Vd P) (ot od : ByteArray) (oa on : Int) (ha : askE ⟨4, tx P, ot, oa, on, od⟩ = 0) (hs : ∀ x, szF T x ≤ 100000) (hmb : m ≤ 100000) (hm : T.most = m) (ha0 : 0 ≤ oa) :
    Calls Tryz.prog 25 #[.pointer (some ⟨b, 0, none⟩), .agg #[.int .i64 4, .string (tx P), .string ot, .int .i64 oa, .int .i64 on, .string od]] w (Done (wriT T P ⟨4, tx P, ot, oa, on, od⟩) w B b f d m) := by
  obtain ⟨W, hW, hb, k0, k1⟩ := op_new w #[.int .i64 4, .string (tx P), .string ot, .int .i64 oa, .int .i64 on, .string od]
  have hWs : W.heap.size = w.heap.size + 2 := by rw [← hW]; simp
  obtain ⟨V, hV, hbV, kV⟩ := one_new W #[.int .i64 0, .string { data := #[] }, .int .i64 0, .slice none 0 0, .int .i64 0, .int .i64 0] 33
  rw [hWs] at kV
  have hbV' : Below w.heap.size w V := hb.trans (hbV.mono hb.size)
  obtain ⟨v0, v1, v2, v3, v4, v5⟩ := cells6 kV
  have fzV : ∀ j, V.frozen? ⟨w.heap.size + 2, j, none⟩ = false := fun j => frozen_of_heap kV
  have j0 := (hbV.block _ (heap_lt k0)).trans k0
  have j1 := (hbV.block _ (heap_lt k1)).trans k1
  obtain ⟨x0, x1, x2, x3, x4, x5⟩ := cells6 j0
  have HWR : Hid (∀ X : World, Calls Tryz.prog 46 #[.agg #[.int .i64 4, .string (tx P), .string ot, .int .i64 oa, .int .i64 on, .string od]] X fun e w' => e = .returned (.int .i64 0) ∧ Below X.heap.size X w') := fun X => by have := wrong_any X ⟨4, tx P, ot, oa, on, od⟩; rw [ha] at this; exact this
  have HX : Hid (∀ w1, Below (put6 V (w.heap.size + 2) (.int .i64 0) (.string { data := #[] }) (.int .i64 0) (.slice none 0 0) (.int .i64 0) (.int .i64 0)).heap.size (put6 V (w.heap.size + 2) (.int .i64 0) (.string { data := #[] }) (.int .i64 0) (.slice none 0 0) (.int .i64 0) (.int .i64 0)) w1 → w1.heap[w.heap.size]? = some (.cells #[.int .i64 4, .string (tx P), .string ot, .int .i64 oa, .int .i64 on, .string od] 39 (0, 0)) ∧ Mdl w1 B b f d m L ∧ Mfr B w w1 b ∧ ∀ w2, Mfr B w1 w2 b → w2.heap[w.heap.size + 1]? = some (.cells #[.int .i64 0, .string { data := #[] }, .int .i64 0, .slice none 0 0, .int .i64 0, .int .i64 0] 33 (0, 0)) ∧ w2.heap[w.heap.size + 2]? = some (.cells #[.int .i64 0, .string { data := #[] }, .int .i64 0, .slice none 0 0, .int .i64 0, .int .i64 0] 33 (0, 0))) := fun w1 hb1 => by
    obtain ⟨u1, u2, u3⟩ := put6_all (h.below hbV') (mfr_below (b := b) hbV') (show w.heap.size ≤ w.heap.size + 2 by omega) kV (.int .i64 0) (.string { data := #[] }) (.int .i64 0) (.slice none 0 0) (.int .i64 0) (.int .i64 0)
    have hne : ∀ (g : Nat), g < w.heap.size + 2 → ∀ (X : World) (j : Nat) (y : Value), (X.setCell ⟨w.heap.size + 2, j, none⟩ y).heap[g]? = X.heap[g]? := fun g hg X j y => heap_setCell_other _ _ _ _ (by show g ≠ w.heap.size + 2; omega)
    have hk : (put6 V (w.heap.size + 2) (.int .i64 0) (.string { data := #[] }) (.int .i64 0) (.slice none 0 0) (.int .i64 0) (.int .i64 0)).heap[w.heap.size + 1]? = some (.cells #[.int .i64 0, .string { data := #[] }, .int .i64 0, .slice none 0 0, .int .i64 0, .int .i64 0] 33 (0, 0)) := by
      simp only [put6, hne _ (show w.heap.size + 1 < w.heap.size + 2 by omega)]
      exact j1
    have hk0 : (put6 V (w.heap.size + 2) (.int .i64 0) (.string { data := #[] }) (.int .i64 0) (.slice none 0 0) (.int .i64 0) (.int .i64 0)).heap[w.heap.size]? = some (.cells #[.int .i64 4, .string (tx P), .string ot, .int .i64 oa, .int .i64 on, .string od] 39 (0, 0)) := by
      simp only [put6, hne _ (show w.heap.size < w.heap.size + 2 by omega)]
      exact j0
    have hk1 := (hb1.block _ (heap_lt hk)).trans hk
    have hu1 := (hb1.block _ (heap_lt u1)).trans u1
    exact ⟨(hb1.block _ (heap_lt hk0)).trans hk0, u2.below hb1, u3.trans (mfr_below hb1), fun w2 hf => ⟨room_keep h hf (show w.heap.size ≤ w.heap.size + 1 by omega) hk1, room_keep h hf (show w.heap.size ≤ w.heap.size + 2 by omega) hu1⟩⟩
  have HBS : Hid (∀ w1, Mfr B w w1 b → B ≤ w1.heap.size) := fun w1 hf => Nat.le_trans hB hf.size
  have HCALL : Hid (∀ w1, Mdl w1 B b f d m L → B ≤ w1.heap.size → Calls Tryz.prog 50 #[.pointer (some ⟨b, 0, none⟩), .agg #[.int .i64 4, .string (tx P), .string ot, .int .i64 oa, .int .i64 on, .string od]] w1 (Touched (wriT T P ⟨4, tx P, ot, oa, on, od⟩) w1 B b f d m)) := fun w1 h1 h2 => touch4_do w1 B b f d m L h1 h2 hI hM P hP ⟨4, tx P, ot, oa, on, od⟩ hs hmb hm ha0
  have HN : Hid ((wriT T P ⟨4, tx P, ot, oa, on, od⟩).1.names = [] ∧ (wriT T P ⟨4, tx P, ot, oa, on, od⟩).1.kind = 0 ∧ (wriT T P ⟨4, tx P, ot, oa, on, od⟩).1.size = 0) := by show _ ∧ _ ∧ _; unfold wriT; split <;> (try split) <;> exact ⟨rfl, rfl, rfl⟩
  clear k0 k1 hb hbV hbV' j0 j1 kV h hI hM hB
  obtain ⟨A, hA⟩ : ∃ A, wriT T P ⟨4, tx P, ot, oa, on, od⟩ = A := ⟨_, rfl⟩
  rw [hA] at HCALL HN ⊢
  clear hA
  go_enter Tryz.func25, Tryz.ntmps25
  go_wp2_with fail
  refine (HWR.out _).mono ?_
  rintro e w1 ⟨rfl, hb1⟩
  obtain ⟨q0, hm1, hf1, hq2⟩ := HX.out w1 hb1
  have HF1 : Hid _ := hf1
  have HQ2 : Hid _ := hq2
  have hcall := HCALL.out w1 hm1 (HBS.out w1 hf1)
  clear hb1 v0 v1 v2 v3 v4 v5 x0 x1 x2 x3 x4 x5 fzV hV hW hWs hm1 hf1 hq2
  obtain ⟨x0, x1, x2, x3, x4, x5⟩ := cells6 q0
  clear q0
  go_wp2_with fail
  refine hcall.mono ?_
  rintro e w2 ⟨rfl, L', hm2, hmo, hf2⟩
  obtain ⟨p1, p2⟩ := HQ2.out w2 hf2
  obtain ⟨a1, a2, a3⟩ := put6_all (w := w) hm2 (HF1.out.trans hf2) (show w.heap.size ≤ w.heap.size + 2 by omega) p2 (.int .i64 0) (.string { data := #[] }) (.int .i64 A.1.n) (.slice none 0 0) (.int .i64 0) (.int .i64 0)
  have q4 : (put6 w2 (w.heap.size + 2) (.int .i64 0) (.string { data := #[] }) (.int .i64 A.1.n) (.slice none 0 0) (.int .i64 0) (.int .i64 0)).heap[w.heap.size + 1]? = some (.cells #[.int .i64 0, .string { data := #[] }, .int .i64 0, .slice none 0 0, .int .i64 0, .int .i64 0] 33 (0, 0)) := by
    have ne2 : ∀ (X : World) (j : Nat) (y : Value), (X.setCell ⟨w.heap.size + 2, j, none⟩ y).heap[w.heap.size + 1]? = X.heap[w.heap.size + 1]? := fun X j y => heap_setCell_other _ _ _ _ (by show w.heap.size + 1 ≠ w.heap.size + 2; omega)
    simp only [put6, ne2]
    exact p1
  have q3 : ((put6 w2 (w.heap.size + 2) (.int .i64 0) (.string { data := #[] }) (.int .i64 A.1.n) (.slice none 0 0) (.int .i64 0) (.int .i64 0)).setCell ⟨w.heap.size + 2, 0, none⟩ (.int .i64 A.1.code)).heap[w.heap.size + 1]? = _ := (heap_setCell_other _ _ _ _ (by show w.heap.size + 1 ≠ w.heap.size + 2; omega)).trans q4
  obtain ⟨u1, u2, u3⟩ := put6_all (V := (put6 w2 (w.heap.size + 2) (.int .i64 0) (.string { data := #[] }) (.int .i64 A.1.n) (.slice none 0 0) (.int .i64 0) (.int .i64 0)).setCell ⟨w.heap.size + 2, 0, none⟩ (.int .i64 A.1.code)) (mdl_fresh a2 a1) (mfr_fresh a3 (by omega)) (show w.heap.size ≤ w.heap.size + 1 by omega) q3 (.int .i64 A.1.code) (.string { data := #[] }) (.int .i64 A.1.n) (.slice none 0 0) (.int .i64 0) (.int .i64 0)
  have HU1 : Hid (Unit → _) := fun _ => u1
  have HU2 : Hid (Mdl _ _ _ _ _ _ _) := u2
  have HU3 : Hid (Mfr B _ _ _) := u3
  have HMO : Hid _ := hmo
  obtain ⟨s0, s1, s2, s3, s4, s5⟩ := cells6 p1
  obtain ⟨t0, t1, t2, t3, t4, t5⟩ := cells6 p2
  have fz1 : ∀ j, w2.frozen? ⟨w.heap.size + 1, j, none⟩ = false := fun j => frozen_of_heap p1
  have fz2 : ∀ j, w2.frozen? ⟨w.heap.size + 2, j, none⟩ = false := fun j => frozen_of_heap p2
  clear u1 u2 u3 p1 p2 q3 q4 a1 a2 a3 hm2 hf2 hmo x0 x1 x2 x3 x4 x5
  go_wp2
  refine bodyPost_ret (results_cell1 rfl _ _ (w.heap.size + 1) 33 _ (0, 0) _ rfl (HU1.out ()) Tryz.underlying33 rfl sizeRes) rfl ?_
  obtain ⟨n2, n3, n4⟩ := HN.out
  refine ⟨.slice none 0 0, ?_, ?_, L', HU2.out, HMO.out, HU3.out⟩
  · rw [n3, n4]
  · rw [n2]; exact own_nil _ _

end Go.Proofs.YtnfddiabhpandaaGreatDoor.Tr
