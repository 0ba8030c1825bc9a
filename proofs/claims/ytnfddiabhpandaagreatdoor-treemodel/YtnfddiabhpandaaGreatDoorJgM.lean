import Derived.Test.YtnfddiabhpandaaGreatDoorIvM
import Derived.Test.YtnfddiabhpandaaGreatDoorJbM
namespace Go.Proofs.YtnfddiabhpandaaGreatDoor.Tr
open Go.RowKit Go.Lib Go.Deep

set_option maxRecDepth 20000 in
set_option maxHeartbeats 2000000 in
theorem does5_any (w : World) (B b f d m : Nat) (L : List En) (h : Mdl w B b f d m L) (hB : B ≤ w.heap.size) {T : Ts} {dp : Nat → Nat} (hI : Inv T dp) (hM : Mo T L) (P : List ByteArray) (hP : Vd P) (ot od : ByteArray) (oa on : Int) (ha : askE ⟨5, tx P, ot, oa, on, od⟩ = 0) (hm : T.most = m) (hn0 : 0 ≤ on) :
    Calls Tryz.prog 25 #[.pointer (some ⟨b, 0, none⟩), .agg #[.int .i64 5, .string (tx P), .string ot, .int .i64 oa, .int .i64 on, .string od]] w (Done (cutT T P ⟨5, tx P, ot, oa, on, od⟩) w B b f d m) := by
  obtain ⟨W, hW, hb, k0, k1⟩ := op_new w #[.int .i64 5, .string (tx P), .string ot, .int .i64 oa, .int .i64 on, .string od]
  have hWs : W.heap.size = w.heap.size + 2 := by rw [← hW]; simp
  obtain ⟨V, hV, hbV, kV⟩ := one_new W #[.int .i64 0, .string { data := #[] }, .int .i64 0, .slice none 0 0, .int .i64 0, .int .i64 0] 33
  rw [hWs] at kV
  have hbV' : Below w.heap.size w V := hb.trans (hbV.mono hb.size)
  obtain ⟨v0, v1, v2, v3, v4, v5⟩ := cells6 kV
  have fzV : ∀ j, V.frozen? ⟨w.heap.size + 2, j, none⟩ = false := fun j => frozen_of_heap kV
  have j0 := (hbV.block _ (heap_lt k0)).trans k0
  have j1 := (hbV.block _ (heap_lt k1)).trans k1
  obtain ⟨x0, x1, x2, x3, x4, x5⟩ := cells6 j0
  have HWR : Hid (∀ X : World, Calls Tryz.prog 46 #[.agg #[.int .i64 5, .string (tx P), .string ot, .int .i64 oa, .int .i64 on, .string od]] X fun e w' => e = .returned (.int .i64 0) ∧ Below X.heap.size X w') := fun X => by have := wrong_any X ⟨5, tx P, ot, oa, on, od⟩; rw [ha] at this; exact this
  have HX : Hid (∀ w1, Below (put6 V (w.heap.size + 2) (.int .i64 0) (.string { data := #[] }) (.int .i64 0) (.slice none 0 0) (.int .i64 0) (.int .i64 0)).heap.size (put6 V (w.heap.size + 2) (.int .i64 0) (.string { data := #[] }) (.int .i64 0) (.slice none 0 0) (.int .i64 0) (.int .i64 0)) w1 → w1.heap[w.heap.size]? = some (.cells #[.int .i64 5, .string (tx P), .string ot, .int .i64 oa, .int .i64 on, .string od] 39 (0, 0)) ∧ Mdl w1 B b f d m L ∧ Mfr B w w1 b ∧ ∀ w2, Mfr B w1 w2 b → w2.heap[w.heap.size + 1]? = some (.cells #[.int .i64 0, .string { data := #[] }, .int .i64 0, .slice none 0 0, .int .i64 0, .int .i64 0] 33 (0, 0)) ∧ w2.heap[w.heap.size + 2]? = some (.cells #[.int .i64 0, .string { data := #[] }, .int .i64 0, .slice none 0 0, .int .i64 0, .int .i64 0] 33 (0, 0))) := fun w1 hb1 => by
    obtain ⟨u1, u2, u3⟩ := put6_all (h.below hbV') (mfr_below (b := b) hbV') (show w.heap.size ≤ w.heap.size + 2 by omega) kV (.int .i64 0) (.string { data := #[] }) (.int .i64 0) (.slice none 0 0) (.int .i64 0) (.int .i64 0)
    have hne : ∀ (g : Nat), g < w.heap.size + 2 → ∀ (X : World) (j : Nat) (y : Value), (X.setCell ⟨w.heap.size + 2, j, none⟩ y).heap[g]? = X.heap[g]? := fun g hg X j y => heap_setCell_other _ _ _ _ (by show g ≠ w.heap.size + 2; omega)
    have hk : (put6 V (w.heap.size + 2) (.int .i64 0) (.string { data := #[] }) (.int .i64 0) (.slice none 0 0) (.int .i64 0) (.int .i64 0)).heap[w.heap.size + 1]? = some (.cells #[.int .i64 0, .string { data := #[] }, .int .i64 0, .slice none 0 0, .int .i64 0, .int .i64 0] 33 (0, 0)) := by
      simp only [put6, hne _ (show w.heap.size + 1 < w.heap.size + 2 by omega)]
      exact j1
    have hk0 : (put6 V (w.heap.size + 2) (.int .i64 0) (.string { data := #[] }) (.int .i64 0) (.slice none 0 0) (.int .i64 0) (.int .i64 0)).heap[w.heap.size]? = some (.cells #[.int .i64 5, .string (tx P), .string ot, .int .i64 oa, .int .i64 on, .string od] 39 (0, 0)) := by
      simp only [put6, hne _ (show w.heap.size < w.heap.size + 2 by omega)]
      exact j0
    have hk1 := (hb1.block _ (heap_lt hk)).trans hk
    have hu1 := (hb1.block _ (heap_lt u1)).trans u1
    exact ⟨(hb1.block _ (heap_lt hk0)).trans hk0, u2.below hb1, u3.trans (mfr_below hb1), fun w2 hf => ⟨room_keep h hf (show w.heap.size ≤ w.heap.size + 1 by omega) hk1, room_keep h hf (show w.heap.size ≤ w.heap.size + 2 by omega) hu1⟩⟩
  have HBS : Hid (∀ w1, Mfr B w w1 b → B ≤ w1.heap.size) := fun w1 hf => Nat.le_trans hB hf.size
  have HCALL : Hid (∀ w1, Mdl w1 B b f d m L → B ≤ w1.heap.size → Calls Tryz.prog 50 #[.pointer (some ⟨b, 0, none⟩), .agg #[.int .i64 5, .string (tx P), .string ot, .int .i64 oa, .int .i64 on, .string od]] w1 (Touched (cutT T P ⟨5, tx P, ot, oa, on, od⟩) w1 B b f d m)) := fun w1 h1 h2 => touch5_do w1 B b f d m L h1 h2 hI hM P hP ⟨5, tx P, ot, oa, on, od⟩ hm hn0
  have HN : Hid ((cutT T P ⟨5, tx P, ot, oa, on, od⟩).1.names = [] ∧ (cutT T P ⟨5, tx P, ot, oa, on, od⟩).1.kind = 0 ∧ (cutT T P ⟨5, tx P, ot, oa, on, od⟩).1.size = 0) := by show _ ∧ _ ∧ _; unfold cutT; split <;> (try split) <;> exact ⟨rfl, rfl, rfl⟩
  clear k0 k1 hb hbV hbV' j0 j1 kV h hI hM hB
  obtain ⟨A, hA⟩ : ∃ A, cutT T P ⟨5, tx P, ot, oa, on, od⟩ = A := ⟨_, rfl⟩
  rw [hA] at HCALL HN ⊢
  clear hA
  go_enter Tryz.func25, Tryz.ntmps25
  go_wp2_with fail
  refine (HWR.out _).mono ?_
  rintro e w1 ⟨rfl, hb1⟩
  obtain ⟨q0, hm1, hf1, hq2⟩ := HX.out w1 hb1
  have HF1 : Hid _ := hf1
  have HQ2 : Hid _ := hq2
  have hcall := HCALL.out w1 hm1 (HBS.out w1 hf1)
  clear hb1 v0 v1 v2 v3 v4 v5 x0 x1 x2 x3 x4 x5 fzV hV hW hWs hm1 hf1 hq2
  obtain ⟨x0, x1, x2, x3, x4, x5⟩ := cells6 q0
  clear q0
  go_wp2_with fail
  refine hcall.mono ?_
  rintro e w2 ⟨rfl, L', hm2, hmo, hf2⟩
  obtain ⟨p1, p2⟩ := HQ2.out w2 hf2
  obtain ⟨a1, a2, a3⟩ := put6_all (w := w) hm2 (HF1.out.trans hf2) (show w.heap.size ≤ w.heap.size + 2 by omega) p2 (.int .i64 0) (.string { data := #[] }) (.int .i64 A.1.n) (.slice none 0 0) (.int .i64 0) (.int .i64 0)
  have q4 : (put6 w2 (w.heap.size + 2) (.int .i64 0) (.string { data := #[] }) (.int .i64 A.1.n) (.slice none 0 0) (.int .i64 0) (.int .i64 0)).heap[w.heap.size + 1]? = some (.cells #[.int .i64 0, .string { data := #[] }, .int .i64 0, .slice none 0 0, .int .i64 0, .int .i64 0] 33 (0, 0)) := by
    have ne2 : ∀ (X : World) (j : Nat) (y : Value), (X.setCell ⟨w.heap.size + 2, j, none⟩ y).heap[w.heap.size + 1]? = X.heap[w.heap.size + 1]? := fun X j y => heap_setCell_other _ _ _ _ (by show w.heap.size + 1 ≠ w.heap.size + 2; omega)
    simp only [put6, ne2]
    exact p1
  have q3 : ((put6 w2 (w.heap.size + 2) (.int .i64 0) (.string { data := #[] }) (.int .i64 A.1.n) (.slice none 0 0) (.int .i64 0) (.int .i64 0)).setCell ⟨w.heap.size + 2, 0, none⟩ (.int .i64 A.1.code)).heap[w.heap.size + 1]? = _ := (heap_setCell_other _ _ _ _ (by show w.heap.size + 1 ≠ w.heap.size + 2; omega)).trans q4
  obtain ⟨u1, u2, u3⟩ := put6_all (V := (put6 w2 (w.heap.size + 2) (.int .i64 0) (.string { data := #[] }) (.int .i64 A.1.n) (.slice none 0 0) (.int .i64 0) (.int .i64 0)).setCell ⟨w.heap.size + 2, 0, none⟩ (.int .i64 A.1.code)) (mdl_fresh a2 a1) (mfr_fresh a3 (by omega)) (show w.heap.size ≤ w.heap.size + 1 by omega) q3 (.int .i64 A.1.code) (.string { data := #[] }) (.int .i64 A.1.n) (.slice none 0 0) (.int .i64 0) (.int .i64 0)
  have HU1 : Hid (Unit → _) := fun _ => u1
  have HU2 : Hid (Mdl _ _ _ _ _ _ _) := u2
  have HU3 : Hid (Mfr B _ _ _) := u3
  have HMO : Hid _ := hmo
  obtain ⟨s0, s1, s2, s3, s4, s5⟩ := cells6 p1
  obtain ⟨t0, t1, t2, t3, t4, t5⟩ := cells6 p2
  have fz1 : ∀ j, w2.frozen? ⟨w.heap.size + 1, j, none⟩ = false := fun j => frozen_of_heap p1
  have fz2 : ∀ j, w2.frozen? ⟨w.heap.size + 2, j, none⟩ = false := fun j => frozen_of_heap p2
  clear u1 u2 u3 p1 p2 q3 q4 a1 a2 a3 hm2 hf2 hmo x0 x1 x2 x3 x4 x5
  go_wp2
  refine bodyPost_ret (results_cell1 rfl _ _ (w.heap.size + 1) 33 _ (0, 0) _ rfl (HU1.out ()) Tryz.underlying33 rfl sizeRes) rfl ?_
  obtain ⟨n2, n3, n4⟩ := HN.out
  refine ⟨.slice none 0 0, ?_, ?_, L', HU2.out, HMO.out, HU3.out⟩
  · rw [n3, n4]
  · rw [n2]; exact own_nil _ _

end Go.Proofs.YtnfddiabhpandaaGreatDoor.Tr

namespace Go.Proofs.YtnfddiabhpandaaGreatDoor.Tr
open Go.RowKit Go.Lib Go.Deep

set_option maxRecDepth 20000 in
set_option maxHeartbeats 2000000 in
theorem does7_any (w : World) (B b f d m : Nat) (L : List En) (h : Mdl w B b f d m L) (hB : B ≤ w.heap.size) {T : Ts} {dp : Nat → Nat} (hI : Inv T dp) (hM : Mo T L) (P : List ByteArray) (hP : Vd P) (ot od : ByteArray) (oa on : Int) (ha : askE ⟨7, tx P, ot, oa, on, od⟩ = 0) :
    Calls Tryz.prog 25 #[.pointer (some ⟨b, 0, none⟩), .agg #[.int .i64 7, .string (tx P), .string ot, .int .i64 oa, .int .i64 on, .string od]] w (Done (remT T P) w B b f d m) := by
  obtain ⟨W, hW, hb, k0, k1⟩ := op_new w #[.int .i64 7, .string (tx P), .string ot, .int .i64 oa, .int .i64 on, .string od]
  have hWs : W.heap.size = w.heap.size + 2 := by rw [← hW]; simp
  obtain ⟨V, hV, hbV, kV⟩ := one_new W #[.int .i64 0, .string { data := #[] }, .int .i64 0, .slice none 0 0, .int .i64 0, .int .i64 0] 33
  rw [hWs] at kV
  have hbV' : Below w.heap.size w V := hb.trans (hbV.mono hb.size)
  obtain ⟨v0, v1, v2, v3, v4, v5⟩ := cells6 kV
  have fzV : ∀ j, V.frozen? ⟨w.heap.size + 2, j, none⟩ = false := fun j => frozen_of_heap kV
  have j0 := (hbV.block _ (heap_lt k0)).trans k0
  have j1 := (hbV.block _ (heap_lt k1)).trans k1
  obtain ⟨x0, x1, x2, x3, x4, x5⟩ := cells6 j0
  have HWR : Hid (∀ X : World, Calls Tryz.prog 46 #[.agg #[.int .i64 7, .string (tx P), .string ot, .int .i64 oa, .int .i64 on, .string od]] X fun e w' => e = .returned (.int .i64 0) ∧ Below X.heap.size X w') := fun X => by have := wrong_any X ⟨7, tx P, ot, oa, on, od⟩; rw [ha] at this; exact this
  have HX : Hid (∀ w1, Below (put6 V (w.heap.size + 2) (.int .i64 0) (.string { data := #[] }) (.int .i64 0) (.slice none 0 0) (.int .i64 0) (.int .i64 0)).heap.size (put6 V (w.heap.size + 2) (.int .i64 0) (.string { data := #[] }) (.int .i64 0) (.slice none 0 0) (.int .i64 0) (.int .i64 0)) w1 → w1.heap[w.heap.size]? = some (.cells #[.int .i64 7, .string (tx P), .string ot, .int .i64 oa, .int .i64 on, .string od] 39 (0, 0)) ∧ Mdl w1 B b f d m L ∧ Mfr B w w1 b ∧ ∀ w2, Mfr B w1 w2 b → w2.heap[w.heap.size + 1]? = some (.cells #[.int .i64 0, .string { data := #[] }, .int .i64 0, .slice none 0 0, .int .i64 0, .int .i64 0] 33 (0, 0)) ∧ w2.heap[w.heap.size + 2]? = some (.cells #[.int .i64 0, .string { data := #[] }, .int .i64 0, .slice none 0 0, .int .i64 0, .int .i64 0] 33 (0, 0))) := fun w1 hb1 => by
    obtain ⟨u1, u2, u3⟩ := put6_all (h.below hbV') (mfr_below (b := b) hbV') (show w.heap.size ≤ w.heap.size + 2 by omega) kV (.int .i64 0) (.string { data := #[] }) (.int .i64 0) (.slice none 0 0) (.int .i64 0) (.int .i64 0)
    have hne : ∀ (g : Nat), g < w.heap.size + 2 → ∀ (X : World) (j : Nat) (y : Value), (X.setCell ⟨w.heap.size + 2, j, none⟩ y).heap[g]? = X.heap[g]? := fun g hg X j y => heap_setCell_other _ _ _ _ (by show g ≠ w.heap.size + 2; omega)
    have hk : (put6 V (w.heap.size + 2) (.int .i64 0) (.string { data := #[] }) (.int .i64 0) (.slice none 0 0) (.int .i64 0) (.int .i64 0)).heap[w.heap.size + 1]? = some (.cells #[.int .i64 0, .string { data := #[] }, .int .i64 0, .slice none 0 0, .int .i64 0, .int .i64 0] 33 (0, 0)) := by
      simp only [put6, hne _ (show w.heap.size + 1 < w.heap.size + 2 by omega)]
      exact j1
    have hk0 : (put6 V (w.heap.size + 2) (.int .i64 0) (.string { data := #[] }) (.int .i64 0) (.slice none 0 0) (.int .i64 0) (.int .i64 0)).heap[w.heap.size]? = some (.cells #[.int .i64 7, .string (tx P), .string ot, .int .i64 oa, .int .i64 on, .string od] 39 (0, 0)) := by
      simp only [put6, hne _ (show w.heap.size < w.heap.size + 2 by omega)]
      exact j0
    have hk1 := (hb1.block _ (heap_lt hk)).trans hk
    have hu1 := (hb1.block _ (heap_lt u1)).trans u1
    exact ⟨(hb1.block _ (heap_lt hk0)).trans hk0, u2.below hb1, u3.trans (mfr_below hb1), fun w2 hf => ⟨room_keep h hf (show w.heap.size ≤ w.heap.size + 1 by omega) hk1, room_keep h hf (show w.heap.size ≤ w.heap.size + 2 by omega) hu1⟩⟩
  have HBS : Hid (∀ w1, Mfr B w w1 b → B ≤ w1.heap.size) := fun w1 hf => Nat.le_trans hB hf.size
  have HCALL : Hid (∀ w1, Mdl w1 B b f d m L → B ≤ w1.heap.size → Calls Tryz.prog 50 #[.pointer (some ⟨b, 0, none⟩), .agg #[.int .i64 7, .string (tx P), .string ot, .int .i64 oa, .int .i64 on, .string od]] w1 (Touched (remT T P) w1 B b f d m)) := fun w1 h1 h2 => touch7_do w1 B b f d m L h1 h2 hI hM P hP ⟨7, tx P, ot, oa, on, od⟩
  have HN : Hid ((remT T P).1.names = [] ∧ (remT T P).1.kind = 0 ∧ (remT T P).1.size = 0) := by show _ ∧ _ ∧ _; unfold remT; split <;> (try split) <;> exact ⟨rfl, rfl, rfl⟩
  clear k0 k1 hb hbV hbV' j0 j1 kV h hI hM hB
  obtain ⟨A, hA⟩ : ∃ A, remT T P = A := ⟨_, rfl⟩
  rw [hA] at HCALL HN ⊢
  clear hA
  go_enter Tryz.func25, Tryz.ntmps25
  go_wp2_with fail
  refine (HWR.out _).mono ?_
  rintro e w1 ⟨rfl, hb1⟩
  obtain ⟨q0, hm1, hf1, hq2⟩ := HX.out w1 hb1
  have HF1 : Hid _ := hf1
  have HQ2 : Hid _ := hq2
  have hcall := HCALL.out w1 hm1 (HBS.out w1 hf1)
  clear hb1 v0 v1 v2 v3 v4 v5 x0 x1 x2 x3 x4 x5 fzV hV hW hWs hm1 hf1 hq2
  obtain ⟨x0, x1, x2, x3, x4, x5⟩ := cells6 q0
  clear q0
  go_wp2_with fail
  refine hcall.mono ?_
  rintro e w2 ⟨rfl, L', hm2, hmo, hf2⟩
  obtain ⟨p1, p2⟩ := HQ2.out w2 hf2
  obtain ⟨a1, a2, a3⟩ := put6_all (w := w) hm2 (HF1.out.trans hf2) (show w.heap.size ≤ w.heap.size + 2 by omega) p2 (.int .i64 0) (.string { data := #[] }) (.int .i64 A.1.n) (.slice none 0 0) (.int .i64 0) (.int .i64 0)
  have q4 : (put6 w2 (w.heap.size + 2) (.int .i64 0) (.string { data := #[] }) (.int .i64 A.1.n) (.slice none 0 0) (.int .i64 0) (.int .i64 0)).heap[w.heap.size + 1]? = some (.cells #[.int .i64 0, .string { data := #[] }, .int .i64 0, .slice none 0 0, .int .i64 0, .int .i64 0] 33 (0, 0)) := by
    have ne2 : ∀ (X : World) (j : Nat) (y : Value), (X.setCell ⟨w.heap.size + 2, j, none⟩ y).heap[w.heap.size + 1]? = X.heap[w.heap.size + 1]? := fun X j y => heap_setCell_other _ _ _ _ (by show w.heap.size + 1 ≠ w.heap.size + 2; omega)
    simp only [put6, ne2]
    exact p1
  have q3 : ((put6 w2 (w.heap.size + 2) (.int .i64 0) (.string { data := #[] }) (.int .i64 A.1.n) (.slice none 0 0) (.int .i64 0) (.int .i64 0)).setCell ⟨w.heap.size + 2, 0, none⟩ (.int .i64 A.1.code)).heap[w.heap.size + 1]? = _ := (heap_setCell_other _ _ _ _ (by show w.heap.size + 1 ≠ w.heap.size + 2; omega)).trans q4
  obtain ⟨u1, u2, u3⟩ := put6_all (V := (put6 w2 (w.heap.size + 2) (.int .i64 0) (.string { data := #[] }) (.int .i64 A.1.n) (.slice none 0 0) (.int .i64 0) (.int .i64 0)).setCell ⟨w.heap.size + 2, 0, none⟩ (.int .i64 A.1.code)) (mdl_fresh a2 a1) (mfr_fresh a3 (by omega)) (show w.heap.size ≤ w.heap.size + 1 by omega) q3 (.int .i64 A.1.code) (.string { data := #[] }) (.int .i64 A.1.n) (.slice none 0 0) (.int .i64 0) (.int .i64 0)
  have HU1 : Hid (Unit → _) := fun _ => u1
  have HU2 : Hid (Mdl _ _ _ _ _ _ _) := u2
  have HU3 : Hid (Mfr B _ _ _) := u3
  have HMO : Hid _ := hmo
  obtain ⟨s0, s1, s2, s3, s4, s5⟩ := cells6 p1
  obtain ⟨t0, t1, t2, t3, t4, t5⟩ := cells6 p2
  have fz1 : ∀ j, w2.frozen? ⟨w.heap.size + 1, j, none⟩ = false := fun j => frozen_of_heap p1
  have fz2 : ∀ j, w2.frozen? ⟨w.heap.size + 2, j, none⟩ = false := fun j => frozen_of_heap p2
  clear u1 u2 u3 p1 p2 q3 q4 a1 a2 a3 hm2 hf2 hmo x0 x1 x2 x3 x4 x5
  go_wp2
  refine bodyPost_ret (results_cell1 rfl _ _ (w.heap.size + 1) 33 _ (0, 0) _ rfl (HU1.out ()) Tryz.underlying33 rfl sizeRes) rfl ?_
  obtain ⟨n2, n3, n4⟩ := HN.out
  refine ⟨.slice none 0 0, ?_, ?_, L', HU2.out, HMO.out, HU3.out⟩
  · rw [n3, n4]
  · rw [n2]; exact own_nil _ _

end Go.Proofs.YtnfddiabhpandaaGreatDoor.Tr

namespace Go.Proofs.YtnfddiabhpandaaGreatDoor.Tr
open Go.RowKit Go.Lib Go.Deep

set_option maxRecDepth 20000 in
set_option maxHeartbeats 2000000 in
theorem does8_any (w : World) (B b f d m : Nat) (L : List En) (h : Mdl w B b f d m L) (hB : B ≤ w.heap.size) {T : Ts} {dp : Nat → Nat} (hI : Inv T dp) (hM : Mo T L) (P : List ByteArray) (hP : Vd P) (ot od : ByteArray) (oa on : Int) (ha : askE ⟨8, tx P, ot, oa, on, od⟩ = 0) :
    Calls Tryz.prog 25 #[.pointer (some ⟨b, 0, none⟩), .agg #[.int .i64 8, .string (tx P), .string ot, .int .i64 oa, .int .i64 on, .string od]] w (Done (rmdT T P) w B b f d m) := by
  obtain ⟨W, hW, hb, k0, k1⟩ := op_new w #[.int .i64 8, .string (tx P), .string ot, .int .i64 oa, .int .i64 on, .string od]
  have hWs : W.heap.size = w.heap.size + 2 := by rw [← hW]; simp
  obtain ⟨V, hV, hbV, kV⟩ := one_new W #[.int .i64 0, .string { data := #[] }, .int .i64 0, .slice none 0 0, .int .i64 0, .int .i64 0] 33
  rw [hWs] at kV
  have hbV' : Below w.heap.size w V := hb.trans (hbV.mono hb.size)
  obtain ⟨v0, v1, v2, v3, v4, v5⟩ := cells6 kV
  have fzV : ∀ j, V.frozen? ⟨w.heap.size + 2, j, none⟩ = false := fun j => frozen_of_heap kV
  have j0 := (hbV.block _ (heap_lt k0)).trans k0
  have j1 := (hbV.block _ (heap_lt k1)).trans k1
  obtain ⟨x0, x1, x2, x3, x4, x5⟩ := cells6 j0
  have HWR : Hid (∀ X : World, Calls Tryz.prog 46 #[.agg #[.int .i64 8, .string (tx P), .string ot, .int .i64 oa, .int .i64 on, .string od]] X fun e w' => e = .returned (.int .i64 0) ∧ Below X.heap.size X w') := fun X => by have := wrong_any X ⟨8, tx P, ot, oa, on, od⟩; rw [ha] at this; exact this
  have HX : Hid (∀ w1, Below (put6 V (w.heap.size + 2) (.int .i64 0) (.string { data := #[] }) (.int .i64 0) (.slice none 0 0) (.int .i64 0) (.int .i64 0)).heap.size (put6 V (w.heap.size + 2) (.int .i64 0) (.string { data := #[] }) (.int .i64 0) (.slice none 0 0) (.int .i64 0) (.int .i64 0)) w1 → w1.heap[w.heap.size]? = some (.cells #[.int .i64 8, .string (tx P), .string ot, .int .i64 oa, .int .i64 on, .string od] 39 (0, 0)) ∧ Mdl w1 B b f d m L ∧ Mfr B w w1 b ∧ ∀ w2, Mfr B w1 w2 b → w2.heap[w.heap.size + 1]? = some (.cells #[.int .i64 0, .string { data := #[] }, .int .i64 0, .slice none 0 0, .int .i64 0, .int .i64 0] 33 (0, 0)) ∧ w2.heap[w.heap.size + 2]? = some (.cells #[.int .i64 0, .string { data := #[] }, .int .i64 0, .slice none 0 0, .int .i64 0, .int .i64 0] 33 (0, 0))) := fun w1 hb1 => by
    obtain ⟨u1, u2, u3⟩ := put6_all (h.below hbV') (mfr_below (b := b) hbV') (show w.heap.size ≤ w.heap.size + 2 by omega) kV (.int .i64 0) (.string { data := #[] }) (.int .i64 0) (.slice none 0 0) (.int .i64 0) (.int .i64 0)
    have hne : ∀ (g : Nat), g < w.heap.size + 2 → ∀ (X : World) (j : Nat) (y : Value), (X.setCell ⟨w.heap.size + 2, j, none⟩ y).heap[g]? = X.heap[g]? := fun g hg X j y => heap_setCell_other _ _ _ _ (by show g ≠ w.heap.size + 2; omega)
    have hk : (put6 V (w.heap.size + 2) (.int .i64 0) (.string { data := #[] }) (.int .i64 0) (.slice none 0 0) (.int .i64 0) (.int .i64 0)).heap[w.heap.size + 1]? = some (.cells #[.int .i64 0, .string { data := #[] }, .int .i64 0, .slice none 0 0, .int .i64 0, .int .i64 0] 33 (0, 0)) := by
      simp only [put6, hne _ (show w.heap.size + 1 < w.heap.size + 2 by omega)]
      exact j1
    have hk0 : (put6 V (w.heap.size + 2) (.int .i64 0) (.string { data := #[] }) (.int .i64 0) (.slice none 0 0) (.int .i64 0) (.int .i64 0)).heap[w.heap.size]? = some (.cells #[.int .i64 8, .string (tx P), .string ot, .int .i64 oa, .int .i64 on, .string od] 39 (0, 0)) := by
      simp only [put6, hne _ (show w.heap.size < w.heap.size + 2 by omega)]
      exact j0
    have hk1 := (hb1.block _ (heap_lt hk)).trans hk
    have hu1 := (hb1.block _ (heap_lt u1)).trans u1
    exact ⟨(hb1.block _ (heap_lt hk0)).trans hk0, u2.below hb1, u3.trans (mfr_below hb1), fun w2 hf => ⟨room_keep h hf (show w.heap.size ≤ w.heap.size + 1 by omega) hk1, room_keep h hf (show w.heap.size ≤ w.heap.size + 2 by omega) hu1⟩⟩
  have HBS : Hid (∀ w1, Mfr B w w1 b → B ≤ w1.heap.size) := fun w1 hf => Nat.le_trans hB hf.size
  have HCALL : Hid (∀ w1, Mdl w1 B b f d m L → B ≤ w1.heap.size → Calls Tryz.prog 49 #[.pointer (some ⟨b, 0, none⟩), .agg #[.int .i64 8, .string (tx P), .string ot, .int .i64 oa, .int .i64 on, .string od]] w1 (Looked (rmdT T P) w1 B b f d m)) := fun w1 h1 h2 => look8_do w1 B b f d m L h1 h2 hI hM P hP ⟨8, tx P, ot, oa, on, od⟩
  have HN : Hid ((rmdT T P).1.n = 0) := by show _ = _; unfold rmdT; split <;> (try split) <;> (try split) <;> rfl
  clear k0 k1 hb hbV hbV' j0 j1 kV h hI hM hB
  obtain ⟨A, hA⟩ : ∃ A, rmdT T P = A := ⟨_, rfl⟩
  rw [hA] at HCALL HN ⊢
  clear hA
  go_enter Tryz.func25, Tryz.ntmps25
  go_wp2_with fail
  refine (HWR.out _).mono ?_
  rintro e w1 ⟨rfl, hb1⟩
  obtain ⟨q0, hm1, hf1, hq2⟩ := HX.out w1 hb1
  have HF1 : Hid _ := hf1
  have HQ2 : Hid _ := hq2
  have hcall := HCALL.out w1 hm1 (HBS.out w1 hf1)
  clear hb1 v0 v1 v2 v3 v4 v5 x0 x1 x2 x3 x4 x5 fzV hV hW hWs hm1 hf1 hq2
  obtain ⟨x0, x1, x2, x3, x4, x5⟩ := cells6 q0
  clear q0
  go_wp2_with fail
  refine hcall.mono ?_
  rintro e w2 ⟨u, rfl, ho2, L', hm2, hmo, hf2⟩
  obtain ⟨ua, uc, rfl⟩ := owns_form3 (show w2.ownsRow _ _ _ _ _ _ from ho2)
  obtain ⟨nn, hnn⟩ : ∃ nn, A.1.names.length = nn := ⟨_, rfl⟩
  rw [hnn]
  rw [hnn] at ho2
  clear hnn
  have HO2 : Hid (∀ X : World, (∀ g, w1.heap.size ≤ g → X.heap[g]? = w2.heap[g]?) → Pa.Own X w.heap.size (.slice ua nn uc) A.1.names) := fun X hX => owns_base (owns_keep ho2 fun g hg => hX g (ho2.lt g hg).1) HF1.out.size
  have HW1 : Hid (w.heap.size + 2 < w1.heap.size) := heap_lt (HQ2.out w1 (mfr_below (Below.refl _ _))).2
  clear ho2
  obtain ⟨p1, p2⟩ := HQ2.out w2 hf2
  obtain ⟨a1, a2, a3⟩ := put6_all (w := w) hm2 (HF1.out.trans hf2) (show w.heap.size ≤ w.heap.size + 2 by omega) p2 (.int .i64 0) (.string { data := #[] }) (.int .i64 0) (.slice ua nn uc) (.int .i64 A.1.kind) (.int .i64 A.1.size)
  have q4 : (put6 w2 (w.heap.size + 2) (.int .i64 0) (.string { data := #[] }) (.int .i64 0) (.slice ua nn uc) (.int .i64 A.1.kind) (.int .i64 A.1.size)).heap[w.heap.size + 1]? = some (.cells #[.int .i64 0, .string { data := #[] }, .int .i64 0, .slice none 0 0, .int .i64 0, .int .i64 0] 33 (0, 0)) := by
    have ne2 : ∀ (X : World) (j : Nat) (y : Value), (X.setCell ⟨w.heap.size + 2, j, none⟩ y).heap[w.heap.size + 1]? = X.heap[w.heap.size + 1]? := fun X j y => heap_setCell_other _ _ _ _ (by show w.heap.size + 1 ≠ w.heap.size + 2; omega)
    simp only [put6, ne2]
    exact p1
  have q3 : ((put6 w2 (w.heap.size + 2) (.int .i64 0) (.string { data := #[] }) (.int .i64 0) (.slice ua nn uc) (.int .i64 A.1.kind) (.int .i64 A.1.size)).setCell ⟨w.heap.size + 2, 0, none⟩ (.int .i64 A.1.code)).heap[w.heap.size + 1]? = _ := (heap_setCell_other _ _ _ _ (by show w.heap.size + 1 ≠ w.heap.size + 2; omega)).trans q4
  obtain ⟨u1, u2, u3⟩ := put6_all (V := (put6 w2 (w.heap.size + 2) (.int .i64 0) (.string { data := #[] }) (.int .i64 0) (.slice ua nn uc) (.int .i64 A.1.kind) (.int .i64 A.1.size)).setCell ⟨w.heap.size + 2, 0, none⟩ (.int .i64 A.1.code)) (mdl_fresh a2 a1) (mfr_fresh a3 (by omega)) (show w.heap.size ≤ w.heap.size + 1 by omega) q3 (.int .i64 A.1.code) (.string { data := #[] }) (.int .i64 0) (.slice ua nn uc) (.int .i64 A.1.kind) (.int .i64 A.1.size)
  have HU1 : Hid (Unit → _) := fun _ => u1
  have HU2 : Hid (Mdl _ _ _ _ _ _ _) := u2
  have HU3 : Hid (Mfr B _ _ _) := u3
  have HMO : Hid _ := hmo
  obtain ⟨s0, s1, s2, s3, s4, s5⟩ := cells6 p1
  obtain ⟨t0, t1, t2, t3, t4, t5⟩ := cells6 p2
  have fz1 : ∀ j, w2.frozen? ⟨w.heap.size + 1, j, none⟩ = false := fun j => frozen_of_heap p1
  have fz2 : ∀ j, w2.frozen? ⟨w.heap.size + 2, j, none⟩ = false := fun j => frozen_of_heap p2
  clear u1 u2 u3 p1 p2 q3 q4 a1 a2 a3 hm2 hf2 hmo x0 x1 x2 x3 x4 x5
  go_wp2
  refine bodyPost_ret (results_cell1 rfl _ _ (w.heap.size + 1) 33 _ (0, 0) _ rfl (HU1.out ()) Tryz.underlying33 rfl sizeRes) rfl ?_
  refine ⟨.slice ua nn uc, ?_, HO2.out _ (fun g hg => ?_), L', HU2.out, HMO.out, HU3.out⟩
  · rw [HN.out]
  · have hlt := HW1.out
    have ne1 : ∀ (X : World) (j : Nat) (y : Value), (X.setCell ⟨w.heap.size + 1, j, none⟩ y).heap[g]? = X.heap[g]? := fun X j y => heap_setCell_other _ _ _ _ (by show g ≠ w.heap.size + 1; omega)
    have ne2 : ∀ (X : World) (j : Nat) (y : Value), (X.setCell ⟨w.heap.size + 2, j, none⟩ y).heap[g]? = X.heap[g]? := fun X j y => heap_setCell_other _ _ _ _ (by show g ≠ w.heap.size + 2; omega)
    simp only [ne1, ne2]

end Go.Proofs.YtnfddiabhpandaaGreatDoor.Tr

namespace Go.Proofs.YtnfddiabhpandaaGreatDoor.Tr
open Go.RowKit Go.Lib Go.Deep

set_option maxRecDepth 20000 in
set_option maxHeartbeats 2000000 in
theorem does9_any (w : World) (B b f d m : Nat) (L : List En) (h : Mdl w B b f d m L) (hB : B ≤ w.heap.size) {T : Ts} {dp : Nat → Nat} (hI : Inv T dp) (hM : Mo T L) (P : List ByteArray) (hP : Vd P) (ot od : ByteArray) (oa on : Int) (ha : askE ⟨9, tx P, ot, oa, on, od⟩ = 0) :
    Calls Tryz.prog 25 #[.pointer (some ⟨b, 0, none⟩), .agg #[.int .i64 9, .string (tx P), .string ot, .int .i64 oa, .int .i64 on, .string od]] w (Done (lisT T P) w B b f d m) := by
  obtain ⟨W, hW, hb, k0, k1⟩ := op_new w #[.int .i64 9, .string (tx P), .string ot, .int .i64 oa, .int .i64 on, .string od]
  have hWs : W.heap.size = w.heap.size + 2 := by rw [← hW]; simp
  obtain ⟨V, hV, hbV, kV⟩ := one_new W #[.int .i64 0, .string { data := #[] }, .int .i64 0, .slice none 0 0, .int .i64 0, .int .i64 0] 33
  rw [hWs] at kV
  have hbV' : Below w.heap.size w V := hb.trans (hbV.mono hb.size)
  obtain ⟨v0, v1, v2, v3, v4, v5⟩ := cells6 kV
  have fzV : ∀ j, V.frozen? ⟨w.heap.size + 2, j, none⟩ = false := fun j => frozen_of_heap kV
  have j0 := (hbV.block _ (heap_lt k0)).trans k0
  have j1 := (hbV.block _ (heap_lt k1)).trans k1
  obtain ⟨x0, x1, x2, x3, x4, x5⟩ := cells6 j0
  have HWR : Hid (∀ X : World, Calls Tryz.prog 46 #[.agg #[.int .i64 9, .string (tx P), .string ot, .int .i64 oa, .int .i64 on, .string od]] X fun e w' => e = .returned (.int .i64 0) ∧ Below X.heap.size X w') := fun X => by have := wrong_any X ⟨9, tx P, ot, oa, on, od⟩; rw [ha] at this; exact this
  have HX : Hid (∀ w1, Below (put6 V (w.heap.size + 2) (.int .i64 0) (.string { data := #[] }) (.int .i64 0) (.slice none 0 0) (.int .i64 0) (.int .i64 0)).heap.size (put6 V (w.heap.size + 2) (.int .i64 0) (.string { data := #[] }) (.int .i64 0) (.slice none 0 0) (.int .i64 0) (.int .i64 0)) w1 → w1.heap[w.heap.size]? = some (.cells #[.int .i64 9, .string (tx P), .string ot, .int .i64 oa, .int .i64 on, .string od] 39 (0, 0)) ∧ Mdl w1 B b f d m L ∧ Mfr B w w1 b ∧ ∀ w2, Mfr B w1 w2 b → w2.heap[w.heap.size + 1]? = some (.cells #[.int .i64 0, .string { data := #[] }, .int .i64 0, .slice none 0 0, .int .i64 0, .int .i64 0] 33 (0, 0)) ∧ w2.heap[w.heap.size + 2]? = some (.cells #[.int .i64 0, .string { data := #[] }, .int .i64 0, .slice none 0 0, .int .i64 0, .int .i64 0] 33 (0, 0))) := fun w1 hb1 => by
    obtain ⟨u1, u2, u3⟩ := put6_all (h.below hbV') (mfr_below (b := b) hbV') (show w.heap.size ≤ w.heap.size + 2 by omega) kV (.int .i64 0) (.string { data := #[] }) (.int .i64 0) (.slice none 0 0) (.int .i64 0) (.int .i64 0)
    have hne : ∀ (g : Nat), g < w.heap.size + 2 → ∀ (X : World) (j : Nat) (y : Value), (X.setCell ⟨w.heap.size + 2, j, none⟩ y).heap[g]? = X.heap[g]? := fun g hg X j y => heap_setCell_other _ _ _ _ (by show g ≠ w.heap.size + 2; omega)
    have hk : (put6 V (w.heap.size + 2) (.int .i64 0) (.string { data := #[] }) (.int .i64 0) (.slice none 0 0) (.int .i64 0) (.int .i64 0)).heap[w.heap.size + 1]? = some (.cells #[.int .i64 0, .string { data := #[] }, .int .i64 0, .slice none 0 0, .int .i64 0, .int .i64 0] 33 (0, 0)) := by
      simp only [put6, hne _ (show w.heap.size + 1 < w.heap.size + 2 by omega)]
      exact j1
    have hk0 : (put6 V (w.heap.size + 2) (.int .i64 0) (.string { data := #[] }) (.int .i64 0) (.slice none 0 0) (.int .i64 0) (.int .i64 0)).heap[w.heap.size]? = some (.cells #[.int .i64 9, .string (tx P), .string ot, .int .i64 oa, .int .i64 on, .string od] 39 (0, 0)) := by
      simp only [put6, hne _ (show w.heap.size < w.heap.size + 2 by omega)]
      exact j0
    have hk1 := (hb1.block _ (heap_lt hk)).trans hk
    have hu1 := (hb1.block _ (heap_lt u1)).trans u1
    exact ⟨(hb1.block _ (heap_lt hk0)).trans hk0, u2.below hb1, u3.trans (mfr_below hb1), fun w2 hf => ⟨room_keep h hf (show w.heap.size ≤ w.heap.size + 1 by omega) hk1, room_keep h hf (show w.heap.size ≤ w.heap.size + 2 by omega) hu1⟩⟩
  have HBS : Hid (∀ w1, Mfr B w w1 b → B ≤ w1.heap.size) := fun w1 hf => Nat.le_trans hB hf.size
  have HCALL : Hid (∀ w1, Mdl w1 B b f d m L → B ≤ w1.heap.size → Calls Tryz.prog 49 #[.pointer (some ⟨b, 0, none⟩), .agg #[.int .i64 9, .string (tx P), .string ot, .int .i64 oa, .int .i64 on, .string od]] w1 (Looked (lisT T P) w1 B b f d m)) := fun w1 h1 h2 => look9_do w1 B b f d m L h1 h2 hI hM P hP ⟨9, tx P, ot, oa, on, od⟩
  have HN : Hid ((lisT T P).1.n = 0) := by show _ = _; unfold lisT; split <;> (try split) <;> (try split) <;> rfl
  clear k0 k1 hb hbV hbV' j0 j1 kV h hI hM hB
  obtain ⟨A, hA⟩ : ∃ A, lisT T P = A := ⟨_, rfl⟩
  rw [hA] at HCALL HN ⊢
  clear hA
  go_enter Tryz.func25, Tryz.ntmps25
  go_wp2_with fail
  refine (HWR.out _).mono ?_
  rintro e w1 ⟨rfl, hb1⟩
  obtain ⟨q0, hm1, hf1, hq2⟩ := HX.out w1 hb1
  have HF1 : Hid _ := hf1
  have HQ2 : Hid _ := hq2
  have hcall := HCALL.out w1 hm1 (HBS.out w1 hf1)
  clear hb1 v0 v1 v2 v3 v4 v5 x0 x1 x2 x3 x4 x5 fzV hV hW hWs hm1 hf1 hq2
  obtain ⟨x0, x1, x2, x3, x4, x5⟩ := cells6 q0
  clear q0
  go_wp2_with fail
  refine hcall.mono ?_
  rintro e w2 ⟨u, rfl, ho2, L', hm2, hmo, hf2⟩
  obtain ⟨ua, uc, rfl⟩ := owns_form3 (show w2.ownsRow _ _ _ _ _ _ from ho2)
  obtain ⟨nn, hnn⟩ : ∃ nn, A.1.names.length = nn := ⟨_, rfl⟩
  rw [hnn]
  rw [hnn] at ho2
  clear hnn
  have HO2 : Hid (∀ X : World, (∀ g, w1.heap.size ≤ g → X.heap[g]? = w2.heap[g]?) → Pa.Own X w.heap.size (.slice ua nn uc) A.1.names) := fun X hX => owns_base (owns_keep ho2 fun g hg => hX g (ho2.lt g hg).1) HF1.out.size
  have HW1 : Hid (w.heap.size + 2 < w1.heap.size) := heap_lt (HQ2.out w1 (mfr_below (Below.refl _ _))).2
  clear ho2
  obtain ⟨p1, p2⟩ := HQ2.out w2 hf2
  obtain ⟨a1, a2, a3⟩ := put6_all (w := w) hm2 (HF1.out.trans hf2) (show w.heap.size ≤ w.heap.size + 2 by omega) p2 (.int .i64 0) (.string { data := #[] }) (.int .i64 0) (.slice ua nn uc) (.int .i64 A.1.kind) (.int .i64 A.1.size)
  have q4 : (put6 w2 (w.heap.size + 2) (.int .i64 0) (.string { data := #[] }) (.int .i64 0) (.slice ua nn uc) (.int .i64 A.1.kind) (.int .i64 A.1.size)).heap[w.heap.size + 1]? = some (.cells #[.int .i64 0, .string { data := #[] }, .int .i64 0, .slice none 0 0, .int .i64 0, .int .i64 0] 33 (0, 0)) := by
    have ne2 : ∀ (X : World) (j : Nat) (y : Value), (X.setCell ⟨w.heap.size + 2, j, none⟩ y).heap[w.heap.size + 1]? = X.heap[w.heap.size + 1]? := fun X j y => heap_setCell_other _ _ _ _ (by show w.heap.size + 1 ≠ w.heap.size + 2; omega)
    simp only [put6, ne2]
    exact p1
  have q3 : ((put6 w2 (w.heap.size + 2) (.int .i64 0) (.string { data := #[] }) (.int .i64 0) (.slice ua nn uc) (.int .i64 A.1.kind) (.int .i64 A.1.size)).setCell ⟨w.heap.size + 2, 0, none⟩ (.int .i64 A.1.code)).heap[w.heap.size + 1]? = _ := (heap_setCell_other _ _ _ _ (by show w.heap.size + 1 ≠ w.heap.size + 2; omega)).trans q4
  obtain ⟨u1, u2, u3⟩ := put6_all (V := (put6 w2 (w.heap.size + 2) (.int .i64 0) (.string { data := #[] }) (.int .i64 0) (.slice ua nn uc) (.int .i64 A.1.kind) (.int .i64 A.1.size)).setCell ⟨w.heap.size + 2, 0, none⟩ (.int .i64 A.1.code)) (mdl_fresh a2 a1) (mfr_fresh a3 (by omega)) (show w.heap.size ≤ w.heap.size + 1 by omega) q3 (.int .i64 A.1.code) (.string { data := #[] }) (.int .i64 0) (.slice ua nn uc) (.int .i64 A.1.kind) (.int .i64 A.1.size)
  have HU1 : Hid (Unit → _) := fun _ => u1
  have HU2 : Hid (Mdl _ _ _ _ _ _ _) := u2
  have HU3 : Hid (Mfr B _ _ _) := u3
  have HMO : Hid _ := hmo
  obtain ⟨s0, s1, s2, s3, s4, s5⟩ := cells6 p1
  obtain ⟨t0, t1, t2, t3, t4, t5⟩ := cells6 p2
  have fz1 : ∀ j, w2.frozen? ⟨w.heap.size + 1, j, none⟩ = false := fun j => frozen_of_heap p1
  have fz2 : ∀ j, w2.frozen? ⟨w.heap.size + 2, j, none⟩ = false := fun j => frozen_of_heap p2
  clear u1 u2 u3 p1 p2 q3 q4 a1 a2 a3 hm2 hf2 hmo x0 x1 x2 x3 x4 x5
  go_wp2
  refine bodyPost_ret (results_cell1 rfl _ _ (w.heap.size + 1) 33 _ (0, 0) _ rfl (HU1.out ()) Tryz.underlying33 rfl sizeRes) rfl ?_
  refine ⟨.slice ua nn uc, ?_, HO2.out _ (fun g hg => ?_), L', HU2.out, HMO.out, HU3.out⟩
  · rw [HN.out]
  · have hlt := HW1.out
    have ne1 : ∀ (X : World) (j : Nat) (y : Value), (X.setCell ⟨w.heap.size + 1, j, none⟩ y).heap[g]? = X.heap[g]? := fun X j y => heap_setCell_other _ _ _ _ (by show g ≠ w.heap.size + 1; omega)
    have ne2 : ∀ (X : World) (j : Nat) (y : Value), (X.setCell ⟨w.heap.size + 2, j, none⟩ y).heap[g]? = X.heap[g]? := fun X j y => heap_setCell_other _ _ _ _ (by show g ≠ w.heap.size + 2; omega)
    simp only [ne1, ne2]

end Go.Proofs.YtnfddiabhpandaaGreatDoor.Tr

namespace Go.Proofs.YtnfddiabhpandaaGreatDoor.Tr
open Go.RowKit Go.Lib Go.Deep

set_option maxRecDepth 20000 in
set_option maxHeartbeats 2000000 in
theorem does10_any (w : World) (B b f d m : Nat) (L : List En) (h : Mdl w B b f d m L) (hB : B ≤ w.heap.size) {T : Ts} {dp : Nat → Nat} (hI : Inv T dp) (hM : Mo T L) (P : List ByteArray) (hP : Vd P) (ot od : ByteArray) (oa on : Int) (ha : askE ⟨10, tx P, ot, oa, on, od⟩ = 0) :
    Calls Tryz.prog 25 #[.pointer (some ⟨b, 0, none⟩), .agg #[.int .i64 10, .string (tx P), .string ot, .int .i64 oa, .int .i64 on, .string od]] w (Done (staT T P) w B b f d m) := by
  obtain ⟨W, hW, hb, k0, k1⟩ := op_new w #[.int .i64 10, .string (tx P), .string ot, .int .i64 oa, .int .i64 on, .string od]
  have hWs : W.heap.size = w.heap.size + 2 := by rw [← hW]; simp
  obtain ⟨V, hV, hbV, kV⟩ := one_new W #[.int .i64 0, .string { data := #[] }, .int .i64 0, .slice none 0 0, .int .i64 0, .int .i64 0] 33
  rw [hWs] at kV
  have hbV' : Below w.heap.size w V := hb.trans (hbV.mono hb.size)
  obtain ⟨v0, v1, v2, v3, v4, v5⟩ := cells6 kV
  have fzV : ∀ j, V.frozen? ⟨w.heap.size + 2, j, none⟩ = false := fun j => frozen_of_heap kV
  have j0 := (hbV.block _ (heap_lt k0)).trans k0
  have j1 := (hbV.block _ (heap_lt k1)).trans k1
  obtain ⟨x0, x1, x2, x3, x4, x5⟩ := cells6 j0
  have HWR : Hid (∀ X : World, Calls Tryz.prog 46 #[.agg #[.int .i64 10, .string (tx P), .string ot, .int .i64 oa, .int .i64 on, .string od]] X fun e w' => e = .returned (.int .i64 0) ∧ Below X.heap.size X w') := fun X => by have := wrong_any X ⟨10, tx P, ot, oa, on, od⟩; rw [ha] at this; exact this
  have HX : Hid (∀ w1, Below (put6 V (w.heap.size + 2) (.int .i64 0) (.string { data := #[] }) (.int .i64 0) (.slice none 0 0) (.int .i64 0) (.int .i64 0)).heap.size (put6 V (w.heap.size + 2) (.int .i64 0) (.string { data := #[] }) (.int .i64 0) (.slice none 0 0) (.int .i64 0) (.int .i64 0)) w1 → w1.heap[w.heap.size]? = some (.cells #[.int .i64 10, .string (tx P), .string ot, .int .i64 oa, .int .i64 on, .string od] 39 (0, 0)) ∧ Mdl w1 B b f d m L ∧ Mfr B w w1 b ∧ ∀ w2, Mfr B w1 w2 b → w2.heap[w.heap.size + 1]? = some (.cells #[.int .i64 0, .string { data := #[] }, .int .i64 0, .slice none 0 0, .int .i64 0, .int .i64 0] 33 (0, 0)) ∧ w2.heap[w.heap.size + 2]? = some (.cells #[.int .i64 0, .string { data := #[] }, .int .i64 0, .slice none 0 0, .int .i64 0, .int .i64 0] 33 (0, 0))) := fun w1 hb1 => by
    obtain ⟨u1, u2, u3⟩ := put6_all (h.below hbV') (mfr_below (b := b) hbV') (show w.heap.size ≤ w.heap.size + 2 by omega) kV (.int .i64 0) (.string { data := #[] }) (.int .i64 0) (.slice none 0 0) (.int .i64 0) (.int .i64 0)
    have hne : ∀ (g : Nat), g < w.heap.size + 2 → ∀ (X : World) (j : Nat) (y : Value), (X.setCell ⟨w.heap.size + 2, j, none⟩ y).heap[g]? = X.heap[g]? := fun g hg X j y => heap_setCell_other _ _ _ _ (by show g ≠ w.heap.size + 2; omega)
    have hk : (put6 V (w.heap.size + 2) (.int .i64 0) (.string { data := #[] }) (.int .i64 0) (.slice none 0 0) (.int .i64 0) (.int .i64 0)).heap[w.heap.size + 1]? = some (.cells #[.int .i64 0, .string { data := #[] }, .int .i64 0, .slice none 0 0, .int .i64 0, .int .i64 0] 33 (0, 0)) := by
      simp only [put6, hne _ (show w.heap.size + 1 < w.heap.size + 2 by omega)]
      exact j1
    have hk0 : (put6 V (w.heap.size + 2) (.int .i64 0) (.string { data := #[] }) (.int .i64 0) (.slice none 0 0) (.int .i64 0) (.int .i64 0)).heap[w.heap.size]? = some (.cells #[.int .i64 10, .string (tx P), .string ot, .int .i64 oa, .int .i64 on, .string od] 39 (0, 0)) := by
      simp only [put6, hne _ (show w.heap.size < w.heap.size + 2 by omega)]
      exact j0
    have hk1 := (hb1.block _ (heap_lt hk)).trans hk
    have hu1 := (hb1.block _ (heap_lt u1)).trans u1
    exact ⟨(hb1.block _ (heap_lt hk0)).trans hk0, u2.below hb1, u3.trans (mfr_below hb1), fun w2 hf => ⟨room_keep h hf (show w.heap.size ≤ w.heap.size + 1 by omega) hk1, room_keep h hf (show w.heap.size ≤ w.heap.size + 2 by omega) hu1⟩⟩
  have HBS : Hid (∀ w1, Mfr B w w1 b → B ≤ w1.heap.size) := fun w1 hf => Nat.le_trans hB hf.size
  have HCALL : Hid (∀ w1, Mdl w1 B b f d m L → B ≤ w1.heap.size → Calls Tryz.prog 49 #[.pointer (some ⟨b, 0, none⟩), .agg #[.int .i64 10, .string (tx P), .string ot, .int .i64 oa, .int .i64 on, .string od]] w1 (Looked (staT T P) w1 B b f d m)) := fun w1 h1 h2 => look10_do w1 B b f d m L h1 h2 hI hM P hP ⟨10, tx P, ot, oa, on, od⟩
  have HN : Hid ((staT T P).1.n = 0) := by show _ = _; unfold staT; split <;> (try split) <;> (try split) <;> rfl
  clear k0 k1 hb hbV hbV' j0 j1 kV h hI hM hB
  obtain ⟨A, hA⟩ : ∃ A, staT T P = A := ⟨_, rfl⟩
  rw [hA] at HCALL HN ⊢
  clear hA
  go_enter Tryz.func25, Tryz.ntmps25
  go_wp2_with fail
  refine (HWR.out _).mono ?_
  rintro e w1 ⟨rfl, hb1⟩
  obtain ⟨q0, hm1, hf1, hq2⟩ := HX.out w1 hb1
  have HF1 : Hid _ := hf1
  have HQ2 : Hid _ := hq2
  have hcall := HCALL.out w1 hm1 (HBS.out w1 hf1)
  clear hb1 v0 v1 v2 v3 v4 v5 x0 x1 x2 x3 x4 x5 fzV hV hW hWs hm1 hf1 hq2
  obtain ⟨x0, x1, x2, x3, x4, x5⟩ := cells6 q0
  clear q0
  go_wp2_with fail
  refine hcall.mono ?_
  rintro e w2 ⟨u, rfl, ho2, L', hm2, hmo, hf2⟩
  obtain ⟨ua, uc, rfl⟩ := owns_form3 (show w2.ownsRow _ _ _ _ _ _ from ho2)
  obtain ⟨nn, hnn⟩ : ∃ nn, A.1.names.length = nn := ⟨_, rfl⟩
  rw [hnn]
  rw [hnn] at ho2
  clear hnn
  have HO2 : Hid (∀ X : World, (∀ g, w1.heap.size ≤ g → X.heap[g]? = w2.heap[g]?) → Pa.Own X w.heap.size (.slice ua nn uc) A.1.names) := fun X hX => owns_base (owns_keep ho2 fun g hg => hX g (ho2.lt g hg).1) HF1.out.size
  have HW1 : Hid (w.heap.size + 2 < w1.heap.size) := heap_lt (HQ2.out w1 (mfr_below (Below.refl _ _))).2
  clear ho2
  obtain ⟨p1, p2⟩ := HQ2.out w2 hf2
  obtain ⟨a1, a2, a3⟩ := put6_all (w := w) hm2 (HF1.out.trans hf2) (show w.heap.size ≤ w.heap.size + 2 by omega) p2 (.int .i64 0) (.string { data := #[] }) (.int .i64 0) (.slice ua nn uc) (.int .i64 A.1.kind) (.int .i64 A.1.size)
  have q4 : (put6 w2 (w.heap.size + 2) (.int .i64 0) (.string { data := #[] }) (.int .i64 0) (.slice ua nn uc) (.int .i64 A.1.kind) (.int .i64 A.1.size)).heap[w.heap.size + 1]? = some (.cells #[.int .i64 0, .string { data := #[] }, .int .i64 0, .slice none 0 0, .int .i64 0, .int .i64 0] 33 (0, 0)) := by
    have ne2 : ∀ (X : World) (j : Nat) (y : Value), (X.setCell ⟨w.heap.size + 2, j, none⟩ y).heap[w.heap.size + 1]? = X.heap[w.heap.size + 1]? := fun X j y => heap_setCell_other _ _ _ _ (by show w.heap.size + 1 ≠ w.heap.size + 2; omega)
    simp only [put6, ne2]
    exact p1
  have q3 : ((put6 w2 (w.heap.size + 2) (.int .i64 0) (.string { data := #[] }) (.int .i64 0) (.slice ua nn uc) (.int .i64 A.1.kind) (.int .i64 A.1.size)).setCell ⟨w.heap.size + 2, 0, none⟩ (.int .i64 A.1.code)).heap[w.heap.size + 1]? = _ := (heap_setCell_other _ _ _ _ (by show w.heap.size + 1 ≠ w.heap.size + 2; omega)).trans q4
  obtain ⟨u1, u2, u3⟩ := put6_all (V := (put6 w2 (w.heap.size + 2) (.int .i64 0) (.string { data := #[] }) (.int .i64 0) (.slice ua nn uc) (.int .i64 A.1.kind) (.int .i64 A.1.size)).setCell ⟨w.heap.size + 2, 0, none⟩ (.int .i64 A.1.code)) (mdl_fresh a2 a1) (mfr_fresh a3 (by omega)) (show w.heap.size ≤ w.heap.size + 1 by omega) q3 (.int .i64 A.1.code) (.string { data := #[] }) (.int .i64 0) (.slice ua nn uc) (.int .i64 A.1.kind) (.int .i64 A.1.size)
  have HU1 : Hid (Unit → _) := fun _ => u1
  have HU2 : Hid (Mdl _ _ _ _ _ _ _) := u2
  have HU3 : Hid (Mfr B _ _ _) := u3
  have HMO : Hid _ := hmo
  obtain ⟨s0, s1, s2, s3, s4, s5⟩ := cells6 p1
  obtain ⟨t0, t1, t2, t3, t4, t5⟩ := cells6 p2
  have fz1 : ∀ j, w2.frozen? ⟨w.heap.size + 1, j, none⟩ = false := fun j => frozen_of_heap p1
  have fz2 : ∀ j, w2.frozen? ⟨w.heap.size + 2, j, none⟩ = false := fun j => frozen_of_heap p2
  clear u1 u2 u3 p1 p2 q3 q4 a1 a2 a3 hm2 hf2 hmo x0 x1 x2 x3 x4 x5
  go_wp2
  refine bodyPost_ret (results_cell1 rfl _ _ (w.heap.size + 1) 33 _ (0, 0) _ rfl (HU1.out ()) Tryz.underlying33 rfl sizeRes) rfl ?_
  refine ⟨.slice ua nn uc, ?_, HO2.out _ (fun g hg => ?_), L', HU2.out, HMO.out, HU3.out⟩
  · rw [HN.out]
  · have hlt := HW1.out
    have ne1 : ∀ (X : World) (j : Nat) (y : Value), (X.setCell ⟨w.heap.size + 1, j, none⟩ y).heap[g]? = X.heap[g]? := fun X j y => heap_setCell_other _ _ _ _ (by show g ≠ w.heap.size + 1; omega)
    have ne2 : ∀ (X : World) (j : Nat) (y : Value), (X.setCell ⟨w.heap.size + 2, j, none⟩ y).heap[g]? = X.heap[g]? := fun X j y => heap_setCell_other _ _ _ _ (by show g ≠ w.heap.size + 2; omega)
    simp only [ne1, ne2]

end Go.Proofs.YtnfddiabhpandaaGreatDoor.Tr

namespace Go.Proofs.YtnfddiabhpandaaGreatDoor.Tr
open Go.RowKit Go.Lib Go.Deep

theorem szF_le {T : Ts} {dp : Nat → Nat} (hI : Inv T dp) (x : Nat) : szF T x ≤ T.most := by
  unfold szF
  split
  · next r hr => exact hI.hS x r.1 r.2.1 r.2.2 hr
  · exact Nat.zero_le _
theorem does_any (w : World) (B b f d m : Nat) (L : List En) (h : Mdl w B b f d m L) (hB : B ≤ w.heap.size) {T : Ts} {dp : Nat → Nat} (hI : Inv T dp) (hM : Mo T L) (o : Op) (hfb : f ≤ 65536 ∧ d ≤ 65536) (hLb : L.length ≤ 90000) (hd : T.dr = d + 1) (hf : T.fr = f) (hm : T.most = m) (hmb : m ≤ 100000) :
    Calls Tryz.prog 25 #[.pointer (some ⟨b, 0, none⟩), .agg #[.int .i64 o.kind, .string o.path, .string o.to_, .int .i64 o.at_, .int .i64 o.n, .string o.data]] w (Done (doT T o) w B b f d m) := by
  by_cases ha : askE o = 0
  · have hs : ∀ x, szF T x ≤ 100000 := fun x => by have := szF_le hI x; omega
    have hk : ¬ (o.kind < 1 ∨ 10 < o.kind) := fun e => by unfold askE at ha; rw [if_pos e] at ha; exact absurd ha (by decide)
    have hp : Pa.parseE o.path = 0 := Classical.byContradiction fun e => by unfold askE at ha; rw [if_neg hk, if_pos e] at ha; exact e ha
    have hq : o.kind = 6 → Pa.parseE o.to_ = 0 := fun h6 => Classical.byContradiction fun e => by unfold askE at ha; rw [if_neg hk, if_neg (fun x => x hp), if_pos ⟨h6, e⟩] at ha; exact e ha
    have hn : ¬ (((o.kind = 3 ∨ o.kind = 4) ∧ o.at_ < 0) ∨ ((o.kind = 3 ∨ o.kind = 5) ∧ o.n < 0)) := fun e => by unfold askE at ha; rw [if_neg hk, if_neg (fun x => x hp), if_neg (fun x => x.2 (hq x.1)), if_pos e] at ha; exact absurd ha (by decide)
    obtain ⟨hv, ht⟩ := Pa.parse_text hp
    obtain ⟨k, p, t, a, n, dt⟩ := o
    simp only at hk hp hq hn hv ht ⊢
    obtain ⟨P, hP⟩ : ∃ P, Pa.parseY p = P := ⟨_, rfl⟩
    rw [hP] at hv ht
    have hV : Vd P := hv
    have hdo : ∀ A : Ans, (if k = 1 then mkdT T P else if k = 2 then creT T P else if k = 3 then reaT T P ⟨k, p, t, a, n, dt⟩ else if k = 4 then wriT T P ⟨k, p, t, a, n, dt⟩ else if k = 5 then cutT T P ⟨k, p, t, a, n, dt⟩ else if k = 6 then renT T P (Pa.parseY t) else if k = 7 then remT T P else if k = 8 then rmdT T P else if k = 9 then lisT T P else staT T P) = A → doT T ⟨k, p, t, a, n, dt⟩ = A := fun A hA => by
      unfold doT
      rw [if_neg (fun e => e ha)]
      simp only [hP]
      exact hA
    have ht' : tx P = p := ht
    subst ht'
    have hc : k = 1 ∨ k = 2 ∨ k = 3 ∨ k = 4 ∨ k = 5 ∨ k = 6 ∨ k = 7 ∨ k = 8 ∨ k = 9 ∨ k = 10 := by omega
    rcases hc with rfl | rfl | rfl | rfl | rfl | rfl | rfl | rfl | rfl | rfl
    · rw [hdo _ rfl]; exact does1_any w B b f d m L h hB hI hM P hV t dt a n ha hfb hLb hd
    · rw [hdo _ rfl]; exact does2_any w B b f d m L h hB hI hM P hV t dt a n ha hfb hLb hf
    · rw [hdo _ rfl]; exact does3_any w B b f d m L h hB hI hM P hV t dt a n ha hs (by omega) (by omega)
    · rw [hdo _ rfl]; exact does4_any w B b f d m L h hB hI hM P hV t dt a n ha hs hmb hm (by omega)
    · rw [hdo _ rfl]; exact does5_any w B b f d m L h hB hI hM P hV t dt a n ha hm (by omega)
    · obtain ⟨hv2, ht2⟩ := Pa.parse_text (hq rfl)
      rw [hdo _ rfl]; exact does6_any w B b f d m L h hB hI hM P hV t dt a n ha (Pa.parseY t) hv2 ht2.symm
    · rw [hdo _ rfl]; exact does7_any w B b f d m L h hB hI hM P hV t dt a n ha
    · rw [hdo _ rfl]; exact does8_any w B b f d m L h hB hI hM P hV t dt a n ha
    · rw [hdo _ rfl]; exact does9_any w B b f d m L h hB hI hM P hV t dt a n ha
    · rw [hdo _ rfl]; exact does10_any w B b f d m L h hB hI hM P hV t dt a n ha
  · refine (doesE_any w B b f d m L h o ha).mono ?_
    rintro e w' ⟨rfl, h1, h2⟩
    unfold doT
    rw [if_pos ha]
    exact ⟨_, rfl, own_nil _ _, L, h1.out, hM, h2.out⟩

end Go.Proofs.YtnfddiabhpandaaGreatDoor.Tr
