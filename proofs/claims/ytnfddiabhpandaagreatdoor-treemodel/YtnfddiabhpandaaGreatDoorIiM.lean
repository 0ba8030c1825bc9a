import Derived.Test.YtnfddiabhpandaaGreatDoorIcM
namespace Go.Proofs.YtnfddiabhpandaaGreatDoor.Tr
open Go.RowKit Go.Lib Go.Deep

set_option maxRecDepth 20000 in
set_option maxHeartbeats 2000000 in
theorem touch4a_any (w : World) (B b f d m : Nat) (L : List En) (h : Mdl w B b f d m L) (_hB : B ≤ w.heap.size) {T : Ts} {dp : Nat → Nat} (hI : Inv T dp) (hM : Mo T L) (P : List ByteArray) (hP : Vd P) (oa on : Int) (ot od : ByteArray) (h0 : (fndF T P).2 = 0) (q : Nat) (hq : oa = (q : Int)) (_hbd : szF T (fndF T P).1.no ≤ 100000) (_hmb : m ≤ 100000) (hbig : (m : Int) < (q : Int)) :
    Calls Tryz.prog 50 #[.pointer (some ⟨b, 0, none⟩), .agg #[.int .i64 4, .string (tx P), .string ot, .int .i64 oa, .int .i64 on, .string od]] w fun e w' => e = .returned (.tuple #[.agg #[.int .i64 0, .string { data := #[] }, .int .i64 0, .slice none 0 0, .int .i64 0, .int .i64 0], .int .i64 3]) ∧ Hid (Mdl w' B b f d m L) ∧ Hid (Mfr B w w' b) := by
  obtain ⟨W, hW, hb, k0, k1⟩ := op_new w #[.int .i64 4, .string (tx P), .string ot, .int .i64 oa, .int .i64 on, .string od]
  have hMW := h.below hb
  obtain ⟨hPn, hA, hen⟩ := file_en hI hM hP h0
  have HEN : Hid _ := hen
  have hway := way_any W B b f d m L hMW hI hM P hP
  rw [hA] at hway
  have hat := at_any W B b f d m L hMW P hP
  have hrn := root_ne hP hPn
  obtain ⟨a, c, hrd⟩ := hMW.rd
  have HR : Hid (Rd W b f d m L.length a c L) := hrd
  have c3 := hrd.c3
  have c2 := hrd.c2
  have hnb := h.nb
  have HMW : Hid (Mdl W B b f d m L) := hMW
  have HFW : Hid (Mfr B w W b) := mfr_below hb
  have HK1 : Hid (Unit → _) := fun _ => k1
  obtain ⟨x0, x1, x2, x3, x4, x5⟩ := cells6 k0
  obtain ⟨z0, z1, z2, z3, z4, z5⟩ := cells6 k1
  have fz : ∀ j, W.frozen? ⟨w.heap.size + 1, j, none⟩ = false := fun j => frozen_of_heap k1
  subst hq
  have HK0 : Hid (Unit → _) := fun _ => k0
  have HND : Hid ((L.map (·.p)).Nodup) := hM.nd
  have HVD : Hid (∀ e ∈ L, Vd e.p) := h.vd
  have HRM : Hid (∀ V, Mfr B W V b → Unit → V.heap[w.heap.size + 1]? = some (.cells #[.int .i64 0, .string { data := #[] }, .int .i64 0, .slice none 0 0, .int .i64 0, .int .i64 0] 33 (0, 0))) := fun V hf _ => room_keep h hf (Nat.le_succ _) k1
  obtain ⟨n, hn⟩ : ∃ n, L.length = n := ⟨_, rfl⟩
  have HN : Hid (L.length = n) := hn
  rw [hn] at HR hnb c3
  obtain ⟨s, hs⟩ : ∃ s, szF T (fndF T P).1.no = s := ⟨_, rfl⟩
  have HS : Hid (szF T (fndF T P).1.no = s) := hs
  rw [hs] at _hbd
  clear hs hn k0 k1 hrd hen
  clear h hI hM hP h0 hMW hb hPn hA
  generalize tx P = t at *
  go_enter Tryz.func50, Tryz.ntmps50
  go_wp2_with fail
  refine hway.mono ?_
  rintro e w1 ⟨rfl, hw1⟩
  subst w1
  go_wp2_with fail
  refine hat.mono ?_
  rintro e w1 ⟨⟨r, rfl, har⟩, hw1⟩
  subst w1
  obtain ⟨i, e, rfl, hi, hp, hk2, hsz⟩ := HEN.out r har
  have hin := (List.getElem?_eq_some_iff.1 hi).1
  rw [HN.out] at hin
  have hinI : (i : Int) < (n : Int) := by omega
  have hi0 : ¬ (i : Int) < 0 := by omega
  obtain ⟨g, rfl, y0, y1, y2⟩ := HR.out.at_ i e hi
  rw [hk2] at y1
  rw [hsz, HS.out] at y2
  clear HEN hk2 hsz har
  go_wp2_with fail
  go_quiet (fail)
  refine with_world (R := fun W => Exit.then _ _ _ _ W) (Q := fun V => Hid (Below W.heap.size W V)) _ (bdN _ _) ?_
  intro V HV
  have kV := (HV.out.block _ (heap_lt (HK1.out ()))).trans (HK1.out ())
  have kO := (HV.out.block _ (heap_lt (HK0.out ()))).trans (HK0.out ())
  have HKV : Hid (Unit → _) := fun _ => kV
  have HMV : Hid (Mdl V B b f d m L) := HMW.out.below HV.out
  have HFV : Hid (Mfr B w V b) := HFW.out.trans (mfr_below HV.out)
  obtain ⟨v0, v1, v2, v3, v4, v5⟩ := cells6 kV
  obtain ⟨o0, o1, o2, o3, o4, o5⟩ := cells6 kO
  have fzV : ∀ j, V.frozen? ⟨w.heap.size + 1, j, none⟩ = false := fun j => frozen_of_heap kV
  have c3V := bel_cell HV.out c3
  have c2V := bel_cell HV.out c2
  have y2V := bel_cell HV.out y2
  clear kV kO
  obtain ⟨u1, u2, u3⟩ := put6_all (V := V) HMV.out HFV.out (Nat.le_succ _) (HKV.out ()) (.int .i64 0) (.string { data := #[] }) (.int .i64 0) (.slice none 0 0) (.int .i64 0) (.int .i64 0)
  have HU1 : Hid (Unit → _) := fun _ => u1
  have HU2 : Hid _ := u2
  have HU3 : Hid _ := u3
  clear u1 u2 u3
  clear hi hp
  go_wp2
  refine bodyPost_ret (results_cellt rfl _ _ (w.heap.size + 1) 33 _ (0, 0) _ rfl (HU1.out ()) Tryz.underlying33 rfl sizeRes) rfl ?_
  exact ⟨rfl, HU2, HU3⟩

end Go.Proofs.YtnfddiabhpandaaGreatDoor.Tr

namespace Go.Proofs.YtnfddiabhpandaaGreatDoor.Tr
open Go.RowKit Go.Lib Go.Deep

set_option maxRecDepth 20000 in
set_option maxHeartbeats 2000000 in
theorem touch4b_any (w : World) (B b f d m : Nat) (L : List En) (h : Mdl w B b f d m L) (_hB : B ≤ w.heap.size) {T : Ts} {dp : Nat → Nat} (hI : Inv T dp) (hM : Mo T L) (P : List ByteArray) (hP : Vd P) (oa on : Int) (ot od : ByteArray) (h0 : (fndF T P).2 = 0) (q : Nat) (hq : oa = (q : Int)) (_hbd : szF T (fndF T P).1.no ≤ 100000) (hmb : m ≤ 100000) (hqm : ¬ (m : Int) < (q : Int)) (hbig : (m : Int) - (q : Int) < (od.size : Int)) :
    Calls Tryz.prog 50 #[.pointer (some ⟨b, 0, none⟩), .agg #[.int .i64 4, .string (tx P), .string ot, .int .i64 oa, .int .i64 on, .string od]] w fun e w' => e = .returned (.tuple #[.agg #[.int .i64 0, .string { data := #[] }, .int .i64 0, .slice none 0 0, .int .i64 0, .int .i64 0], .int .i64 3]) ∧ Hid (Mdl w' B b f d m L) ∧ Hid (Mfr B w w' b) := by
  obtain ⟨W, hW, hb, k0, k1⟩ := op_new w #[.int .i64 4, .string (tx P), .string ot, .int .i64 oa, .int .i64 on, .string od]
  have hMW := h.below hb
  obtain ⟨hPn, hA, hen⟩ := file_en hI hM hP h0
  have HEN : Hid _ := hen
  have hway := way_any W B b f d m L hMW hI hM P hP
  rw [hA] at hway
  have hat := at_any W B b f d m L hMW P hP
  have hrn := root_ne hP hPn
  obtain ⟨a, c, hrd⟩ := hMW.rd
  have HR : Hid (Rd W b f d m L.length a c L) := hrd
  have c3 := hrd.c3
  have c2 := hrd.c2
  have hnb := h.nb
  have HMW : Hid (Mdl W B b f d m L) := hMW
  have HFW : Hid (Mfr B w W b) := mfr_below hb
  have HK1 : Hid (Unit → _) := fun _ => k1
  obtain ⟨x0, x1, x2, x3, x4, x5⟩ := cells6 k0
  obtain ⟨z0, z1, z2, z3, z4, z5⟩ := cells6 k1
  have fz : ∀ j, W.frozen? ⟨w.heap.size + 1, j, none⟩ = false := fun j => frozen_of_heap k1
  subst hq
  have HK0 : Hid (Unit → _) := fun _ => k0
  have HND : Hid ((L.map (·.p)).Nodup) := hM.nd
  have HVD : Hid (∀ e ∈ L, Vd e.p) := h.vd
  have HRM : Hid (∀ V, Mfr B W V b → Unit → V.heap[w.heap.size + 1]? = some (.cells #[.int .i64 0, .string { data := #[] }, .int .i64 0, .slice none 0 0, .int .i64 0, .int .i64 0] 33 (0, 0))) := fun V hf _ => room_keep h hf (Nat.le_succ _) k1
  obtain ⟨n, hn⟩ : ∃ n, L.length = n := ⟨_, rfl⟩
  have HN : Hid (L.length = n) := hn
  rw [hn] at HR hnb c3
  obtain ⟨s, hs⟩ : ∃ s, szF T (fndF T P).1.no = s := ⟨_, rfl⟩
  have HS : Hid (szF T (fndF T P).1.no = s) := hs
  rw [hs] at _hbd
  clear hs hn k0 k1 hrd hen
  have hqn : ¬ m < q := by omega
  have q2 : IntKind.i64.wrap ((m : Int) - (q : Int)) = (m : Int) - (q : Int) := by rw [IntKind.wrap_i64]; omega
  clear h hI hM hP h0 hMW hb hPn hA
  generalize tx P = t at *
  go_enter Tryz.func50, Tryz.ntmps50
  go_wp2_with fail
  refine hway.mono ?_
  rintro e w1 ⟨rfl, hw1⟩
  subst w1
  go_wp2_with fail
  refine hat.mono ?_
  rintro e w1 ⟨⟨r, rfl, har⟩, hw1⟩
  subst w1
  obtain ⟨i, e, rfl, hi, hp, hk2, hsz⟩ := HEN.out r har
  have hin := (List.getElem?_eq_some_iff.1 hi).1
  rw [HN.out] at hin
  have hinI : (i : Int) < (n : Int) := by omega
  have hi0 : ¬ (i : Int) < 0 := by omega
  obtain ⟨g, rfl, y0, y1, y2⟩ := HR.out.at_ i e hi
  rw [hk2] at y1
  rw [hsz, HS.out] at y2
  clear HEN hk2 hsz har
  go_wp2_with fail
  go_quiet (fail)
  refine with_world (R := fun W => Exit.then _ _ _ _ W) (Q := fun V => Hid (Below W.heap.size W V)) _ (bdN _ _) ?_
  intro V HV
  have kV := (HV.out.block _ (heap_lt (HK1.out ()))).trans (HK1.out ())
  have kO := (HV.out.block _ (heap_lt (HK0.out ()))).trans (HK0.out ())
  have HKV : Hid (Unit → _) := fun _ => kV
  have HMV : Hid (Mdl V B b f d m L) := HMW.out.below HV.out
  have HFV : Hid (Mfr B w V b) := HFW.out.trans (mfr_below HV.out)
  obtain ⟨v0, v1, v2, v3, v4, v5⟩ := cells6 kV
  obtain ⟨o0, o1, o2, o3, o4, o5⟩ := cells6 kO
  have fzV : ∀ j, V.frozen? ⟨w.heap.size + 1, j, none⟩ = false := fun j => frozen_of_heap kV
  have c3V := bel_cell HV.out c3
  have c2V := bel_cell HV.out c2
  have y2V := bel_cell HV.out y2
  clear kV kO
  obtain ⟨u1, u2, u3⟩ := put6_all (V := V) HMV.out HFV.out (Nat.le_succ _) (HKV.out ()) (.int .i64 0) (.string { data := #[] }) (.int .i64 0) (.slice none 0 0) (.int .i64 0) (.int .i64 0)
  have HU1 : Hid (Unit → _) := fun _ => u1
  have HU2 : Hid _ := u2
  have HU3 : Hid _ := u3
  clear u1 u2 u3
  clear hi hp
  go_wp2
  refine bodyPost_ret (results_cellt rfl _ _ (w.heap.size + 1) 33 _ (0, 0) _ rfl (HU1.out ()) Tryz.underlying33 rfl sizeRes) rfl ?_
  exact ⟨rfl, HU2, HU3⟩

end Go.Proofs.YtnfddiabhpandaaGreatDoor.Tr

namespace Go.Proofs.YtnfddiabhpandaaGreatDoor.Tr
open Go.RowKit Go.Lib Go.Deep

set_option maxRecDepth 20000 in
set_option maxHeartbeats 2000000 in
theorem touch4c_any (w : World) (B b f d m : Nat) (L : List En) (h : Mdl w B b f d m L) (_hB : B ≤ w.heap.size) {T : Ts} {dp : Nat → Nat} (hI : Inv T dp) (hM : Mo T L) (P : List ByteArray) (hP : Vd P) (oa on : Int) (ot od : ByteArray) (h0 : (fndF T P).2 = 0) (q : Nat) (hq : oa = (q : Int)) (_hbd : szF T (fndF T P).1.no ≤ 100000) (hmb : m ≤ 100000) (hqm : ¬ (m : Int) < (q : Int)) (hbig : ¬ (m : Int) - (q : Int) < (od.size : Int)) (hz : ¬ (0 : Int) < (od.size : Int)) :
    Calls Tryz.prog 50 #[.pointer (some ⟨b, 0, none⟩), .agg #[.int .i64 4, .string (tx P), .string ot, .int .i64 oa, .int .i64 on, .string od]] w fun e w' => e = .returned (.tuple #[.agg #[.int .i64 0, .string { data := #[] }, .int .i64 (od.size : Int), .slice none 0 0, .int .i64 0, .int .i64 0], .int .i64 0]) ∧ Hid (Mdl w' B b f d m L) ∧ Hid (Mfr B w w' b) := by
  obtain ⟨W, hW, hb, k0, k1⟩ := op_new w #[.int .i64 4, .string (tx P), .string ot, .int .i64 oa, .int .i64 on, .string od]
  have hMW := h.below hb
  obtain ⟨hPn, hA, hen⟩ := file_en hI hM hP h0
  have HEN : Hid _ := hen
  have hway := way_any W B b f d m L hMW hI hM P hP
  rw [hA] at hway
  have hat := at_any W B b f d m L hMW P hP
  have hrn := root_ne hP hPn
  obtain ⟨a, c, hrd⟩ := hMW.rd
  have HR : Hid (Rd W b f d m L.length a c L) := hrd
  have c3 := hrd.c3
  have c2 := hrd.c2
  have hnb := h.nb
  have HMW : Hid (Mdl W B b f d m L) := hMW
  have HFW : Hid (Mfr B w W b) := mfr_below hb
  have HK1 : Hid (Unit → _) := fun _ => k1
  obtain ⟨x0, x1, x2, x3, x4, x5⟩ := cells6 k0
  obtain ⟨z0, z1, z2, z3, z4, z5⟩ := cells6 k1
  have fz : ∀ j, W.frozen? ⟨w.heap.size + 1, j, none⟩ = false := fun j => frozen_of_heap k1
  subst hq
  have HK0 : Hid (Unit → _) := fun _ => k0
  have HND : Hid ((L.map (·.p)).Nodup) := hM.nd
  have HVD : Hid (∀ e ∈ L, Vd e.p) := h.vd
  have HRM : Hid (∀ V, Mfr B W V b → Unit → V.heap[w.heap.size + 1]? = some (.cells #[.int .i64 0, .string { data := #[] }, .int .i64 0, .slice none 0 0, .int .i64 0, .int .i64 0] 33 (0, 0))) := fun V hf _ => room_keep h hf (Nat.le_succ _) k1
  obtain ⟨n, hn⟩ : ∃ n, L.length = n := ⟨_, rfl⟩
  have HN : Hid (L.length = n) := hn
  rw [hn] at HR hnb c3
  obtain ⟨s, hs⟩ : ∃ s, szF T (fndF T P).1.no = s := ⟨_, rfl⟩
  have HS : Hid (szF T (fndF T P).1.no = s) := hs
  rw [hs] at _hbd
  clear hs hn k0 k1 hrd hen
  have hqn : ¬ m < q := by omega
  have q2 : IntKind.i64.wrap ((m : Int) - (q : Int)) = (m : Int) - (q : Int) := by rw [IntKind.wrap_i64]; omega
  clear h hI hM hP h0 hMW hb hPn hA
  generalize tx P = t at *
  go_enter Tryz.func50, Tryz.ntmps50
  go_wp2_with fail
  refine hway.mono ?_
  rintro e w1 ⟨rfl, hw1⟩
  subst w1
  go_wp2_with fail
  refine hat.mono ?_
  rintro e w1 ⟨⟨r, rfl, har⟩, hw1⟩
  subst w1
  obtain ⟨i, e, rfl, hi, hp, hk2, hsz⟩ := HEN.out r har
  have hin := (List.getElem?_eq_some_iff.1 hi).1
  rw [HN.out] at hin
  have hinI : (i : Int) < (n : Int) := by omega
  have hi0 : ¬ (i : Int) < 0 := by omega
  obtain ⟨g, rfl, y0, y1, y2⟩ := HR.out.at_ i e hi
  rw [hk2] at y1
  rw [hsz, HS.out] at y2
  clear HEN hk2 hsz har
  go_wp2_with fail
  go_quiet (fail)
  refine with_world (R := fun W => Exit.then _ _ _ _ W) (Q := fun V => Hid (Below W.heap.size W V)) _ (bdN _ _) ?_
  intro V HV
  have kV := (HV.out.block _ (heap_lt (HK1.out ()))).trans (HK1.out ())
  have kO := (HV.out.block _ (heap_lt (HK0.out ()))).trans (HK0.out ())
  have HKV : Hid (Unit → _) := fun _ => kV
  have HMV : Hid (Mdl V B b f d m L) := HMW.out.below HV.out
  have HFV : Hid (Mfr B w V b) := HFW.out.trans (mfr_below HV.out)
  obtain ⟨v0, v1, v2, v3, v4, v5⟩ := cells6 kV
  obtain ⟨o0, o1, o2, o3, o4, o5⟩ := cells6 kO
  have fzV : ∀ j, V.frozen? ⟨w.heap.size + 1, j, none⟩ = false := fun j => frozen_of_heap kV
  have c3V := bel_cell HV.out c3
  have c2V := bel_cell HV.out c2
  have y2V := bel_cell HV.out y2
  clear kV kO
  obtain ⟨u1, u2, u3⟩ := put6_all (V := V) HMV.out HFV.out (Nat.le_succ _) (HKV.out ()) (.int .i64 0) (.string { data := #[] }) (.int .i64 (od.size : Int)) (.slice none 0 0) (.int .i64 0) (.int .i64 0)
  have HU1 : Hid (Unit → _) := fun _ => u1
  have HU2 : Hid _ := u2
  have HU3 : Hid _ := u3
  clear u1 u2 u3
  clear hi hp
  go_wp2
  refine bodyPost_ret (results_cellt rfl _ _ (w.heap.size + 1) 33 _ (0, 0) _ rfl (HU1.out ()) Tryz.underlying33 rfl sizeRes) rfl ?_
  exact ⟨rfl, HU2, HU3⟩

end Go.Proofs.YtnfddiabhpandaaGreatDoor.Tr

namespace Go.Proofs.YtnfddiabhpandaaGreatDoor.Tr
open Go.RowKit Go.Lib Go.Deep

set_option maxRecDepth 20000 in
set_option maxHeartbeats 2000000 in
theorem touch4d_any (w : World) (B b f d m : Nat) (L : List En) (h : Mdl w B b f d m L) (_hB : B ≤ w.heap.size) {T : Ts} {dp : Nat → Nat} (hI : Inv T dp) (hM : Mo T L) (P : List ByteArray) (hP : Vd P) (oa on : Int) (ot od : ByteArray) (h0 : (fndF T P).2 = 0) (q : Nat) (hq : oa = (q : Int)) (_hbd : szF T (fndF T P).1.no ≤ 100000) (hmb : m ≤ 100000) (hqm : ¬ (m : Int) < (q : Int)) (hbig : ¬ (m : Int) - (q : Int) < (od.size : Int)) (hz : (0 : Int) < (od.size : Int)) (hcs : ¬ (szF T (fndF T P).1.no : Int) < ((q + od.size : Nat) : Int)) :
    Calls Tryz.prog 50 #[.pointer (some ⟨b, 0, none⟩), .agg #[.int .i64 4, .string (tx P), .string ot, .int .i64 oa, .int .i64 on, .string od]] w fun e w' => e = .returned (.tuple #[.agg #[.int .i64 0, .string { data := #[] }, .int .i64 (od.size : Int), .slice none 0 0, .int .i64 0, .int .i64 0], .int .i64 0]) ∧ Hid (Mdl w' B b f d m L) ∧ Hid (Mfr B w w' b) := by
  obtain ⟨W, hW, hb, k0, k1⟩ := op_new w #[.int .i64 4, .string (tx P), .string ot, .int .i64 oa, .int .i64 on, .string od]
  have hMW := h.below hb
  obtain ⟨hPn, hA, hen⟩ := file_en hI hM hP h0
  have HEN : Hid _ := hen
  have hway := way_any W B b f d m L hMW hI hM P hP
  rw [hA] at hway
  have hat := at_any W B b f d m L hMW P hP
  have hrn := root_ne hP hPn
  obtain ⟨a, c, hrd⟩ := hMW.rd
  have HR : Hid (Rd W b f d m L.length a c L) := hrd
  have c3 := hrd.c3
  have c2 := hrd.c2
  have hnb := h.nb
  have HMW : Hid (Mdl W B b f d m L) := hMW
  have HFW : Hid (Mfr B w W b) := mfr_below hb
  have HK1 : Hid (Unit → _) := fun _ => k1
  obtain ⟨x0, x1, x2, x3, x4, x5⟩ := cells6 k0
  obtain ⟨z0, z1, z2, z3, z4, z5⟩ := cells6 k1
  have fz : ∀ j, W.frozen? ⟨w.heap.size + 1, j, none⟩ = false := fun j => frozen_of_heap k1
  subst hq
  have HK0 : Hid (Unit → _) := fun _ => k0
  have HND : Hid ((L.map (·.p)).Nodup) := hM.nd
  have HVD : Hid (∀ e ∈ L, Vd e.p) := h.vd
  have HRM : Hid (∀ V, Mfr B W V b → Unit → V.heap[w.heap.size + 1]? = some (.cells #[.int .i64 0, .string { data := #[] }, .int .i64 0, .slice none 0 0, .int .i64 0, .int .i64 0] 33 (0, 0))) := fun V hf _ => room_keep h hf (Nat.le_succ _) k1
  obtain ⟨n, hn⟩ : ∃ n, L.length = n := ⟨_, rfl⟩
  have HN : Hid (L.length = n) := hn
  rw [hn] at HR hnb c3
  obtain ⟨s, hs⟩ : ∃ s, szF T (fndF T P).1.no = s := ⟨_, rfl⟩
  have HS : Hid (szF T (fndF T P).1.no = s) := hs
  rw [hs] at _hbd
  rw [hs] at hcs
  clear hs hn k0 k1 hrd hen
  have hqn : ¬ m < q := by omega
  have q2 : IntKind.i64.wrap ((m : Int) - (q : Int)) = (m : Int) - (q : Int) := by rw [IntKind.wrap_i64]; omega
  have q3 : IntKind.i64.wrap ((q : Int) + (od.size : Int)) = ((q + od.size : Nat) : Int) := by rw [IntKind.wrap_i64]; omega
  clear h hI hM hP h0 hMW hb hPn hA
  generalize tx P = t at *
  go_enter Tryz.func50, Tryz.ntmps50
  go_wp2_with fail
  refine hway.mono ?_
  rintro e w1 ⟨rfl, hw1⟩
  subst w1
  go_wp2_with fail
  refine hat.mono ?_
  rintro e w1 ⟨⟨r, rfl, har⟩, hw1⟩
  subst w1
  obtain ⟨i, e, rfl, hi, hp, hk2, hsz⟩ := HEN.out r har
  have hin := (List.getElem?_eq_some_iff.1 hi).1
  rw [HN.out] at hin
  have hinI : (i : Int) < (n : Int) := by omega
  have hi0 : ¬ (i : Int) < 0 := by omega
  obtain ⟨g, rfl, y0, y1, y2⟩ := HR.out.at_ i e hi
  rw [hk2] at y1
  rw [hsz, HS.out] at y2
  clear HEN hk2 hsz har
  go_wp2_with fail
  go_quiet (fail)
  refine with_world (R := fun W => Exit.then _ _ _ _ W) (Q := fun V => Hid (Below W.heap.size W V)) _ (bdN _ _) ?_
  intro V HV
  have kV := (HV.out.block _ (heap_lt (HK1.out ()))).trans (HK1.out ())
  have kO := (HV.out.block _ (heap_lt (HK0.out ()))).trans (HK0.out ())
  have HKV : Hid (Unit → _) := fun _ => kV
  have HMV : Hid (Mdl V B b f d m L) := HMW.out.below HV.out
  have HFV : Hid (Mfr B w V b) := HFW.out.trans (mfr_below HV.out)
  obtain ⟨v0, v1, v2, v3, v4, v5⟩ := cells6 kV
  obtain ⟨o0, o1, o2, o3, o4, o5⟩ := cells6 kO
  have fzV : ∀ j, V.frozen? ⟨w.heap.size + 1, j, none⟩ = false := fun j => frozen_of_heap kV
  have c3V := bel_cell HV.out c3
  have c2V := bel_cell HV.out c2
  have y2V := bel_cell HV.out y2
  clear kV kO
  obtain ⟨u1, u2, u3⟩ := put6_all (V := V) HMV.out HFV.out (Nat.le_succ _) (HKV.out ()) (.int .i64 0) (.string { data := #[] }) (.int .i64 (od.size : Int)) (.slice none 0 0) (.int .i64 0) (.int .i64 0)
  have HU1 : Hid (Unit → _) := fun _ => u1
  have HU2 : Hid _ := u2
  have HU3 : Hid _ := u3
  clear u1 u2 u3
  clear hi hp
  go_wp2
  refine bodyPost_ret (results_cellt rfl _ _ (w.heap.size + 1) 33 _ (0, 0) _ rfl (HU1.out ()) Tryz.underlying33 rfl sizeRes) rfl ?_
  exact ⟨rfl, HU2, HU3⟩

end Go.Proofs.YtnfddiabhpandaaGreatDoor.Tr

namespace Go.Proofs.YtnfddiabhpandaaGreatDoor.Tr
open Go.RowKit Go.Lib Go.Deep

set_option maxRecDepth 20000 in
set_option maxHeartbeats 2000000 in
theorem touch4e_any (w : World) (B b f d m : Nat) (L : List En) (h : Mdl w B b f d m L) (_hB : B ≤ w.heap.size) {T : Ts} {dp : Nat → Nat} (hI : Inv T dp) (hM : Mo T L) (P : List ByteArray) (hP : Vd P) (oa on : Int) (ot od : ByteArray) (h0 : (fndF T P).2 = 0) (q : Nat) (hq : oa = (q : Int)) (hbd : szF T (fndF T P).1.no ≤ 100000) (hmb : m ≤ 100000) (hqm : ¬ (m : Int) < (q : Int)) (hbig : ¬ (m : Int) - (q : Int) < (od.size : Int)) (hz : (0 : Int) < (od.size : Int)) (hcs : (szF T (fndF T P).1.no : Int) < ((q + od.size : Nat) : Int)) :
    Calls Tryz.prog 50 #[.pointer (some ⟨b, 0, none⟩), .agg #[.int .i64 4, .string (tx P), .string ot, .int .i64 oa, .int .i64 on, .string od]] w fun e w' => e = .returned (.tuple #[.agg #[.int .i64 0, .string { data := #[] }, .int .i64 (od.size : Int), .slice none 0 0, .int .i64 0, .int .i64 0], .int .i64 0]) ∧ Hid (Mdl w' B b f d m (szL P (q + od.size) L)) ∧ Hid (Mfr B w w' b) := by
  obtain ⟨W, hW, hb, k0, k1⟩ := op_new w #[.int .i64 4, .string (tx P), .string ot, .int .i64 oa, .int .i64 on, .string od]
  have hMW := h.below hb
  obtain ⟨hPn, hA, hen⟩ := file_en hI hM hP h0
  have HEN : Hid _ := hen
  have hway := way_any W B b f d m L hMW hI hM P hP
  rw [hA] at hway
  have hat := at_any W B b f d m L hMW P hP
  have hrn := root_ne hP hPn
  obtain ⟨a, c, hrd⟩ := hMW.rd
  have HR : Hid (Rd W b f d m L.length a c L) := hrd
  have c3 := hrd.c3
  have c2 := hrd.c2
  have hnb := h.nb
  have HMW : Hid (Mdl W B b f d m L) := hMW
  have HFW : Hid (Mfr B w W b) := mfr_below hb
  have HK1 : Hid (Unit → _) := fun _ => k1
  obtain ⟨x0, x1, x2, x3, x4, x5⟩ := cells6 k0
  obtain ⟨z0, z1, z2, z3, z4, z5⟩ := cells6 k1
  have fz : ∀ j, W.frozen? ⟨w.heap.size + 1, j, none⟩ = false := fun j => frozen_of_heap k1
  subst hq
  have HK0 : Hid (Unit → _) := fun _ => k0
  have HND : Hid ((L.map (·.p)).Nodup) := hM.nd
  have HVD : Hid (∀ e ∈ L, Vd e.p) := h.vd
  have HRM : Hid (∀ V, Mfr B W V b → Unit → V.heap[w.heap.size + 1]? = some (.cells #[.int .i64 0, .string { data := #[] }, .int .i64 0, .slice none 0 0, .int .i64 0, .int .i64 0] 33 (0, 0))) := fun V hf _ => room_keep h hf (Nat.le_succ _) k1
  obtain ⟨n, hn⟩ : ∃ n, L.length = n := ⟨_, rfl⟩
  have HN : Hid (L.length = n) := hn
  rw [hn] at HR hnb c3
  obtain ⟨s, hs⟩ : ∃ s, szF T (fndF T P).1.no = s := ⟨_, rfl⟩
  have HS : Hid (szF T (fndF T P).1.no = s) := hs
  rw [hs] at hbd
  rw [hs] at hcs
  clear hs hn k0 k1 hrd hen
  have hqn : ¬ m < q := by omega
  have q2 : IntKind.i64.wrap ((m : Int) - (q : Int)) = (m : Int) - (q : Int) := by rw [IntKind.wrap_i64]; omega
  have q3 : IntKind.i64.wrap ((q : Int) + (od.size : Int)) = ((q + od.size : Nat) : Int) := by rw [IntKind.wrap_i64]; omega
  obtain ⟨z, hze⟩ : ∃ z, q + od.size = z := ⟨_, rfl⟩
  rw [hze] at q3 hcs ⊢
  clear hze
  clear h hI hM hP h0 hMW hb hPn hA
  generalize tx P = t at *
  go_enter Tryz.func50, Tryz.ntmps50
  go_wp2_with fail
  refine hway.mono ?_
  rintro e w1 ⟨rfl, hw1⟩
  subst w1
  go_wp2_with fail
  refine hat.mono ?_
  rintro e w1 ⟨⟨r, rfl, har⟩, hw1⟩
  subst w1
  obtain ⟨i, e, rfl, hi, hp, hk2, hsz⟩ := HEN.out r har
  have hin := (List.getElem?_eq_some_iff.1 hi).1
  rw [HN.out] at hin
  have hinI : (i : Int) < (n : Int) := by omega
  have hi0 : ¬ (i : Int) < 0 := by omega
  obtain ⟨g, rfl, y0, y1, y2⟩ := HR.out.at_ i e hi
  rw [hk2] at y1
  rw [hsz, HS.out] at y2
  clear HEN hk2 hsz har
  go_wp2_with fail
  go_quiet (fail)
  refine with_world (R := fun W => Exit.then _ _ _ _ W) (Q := fun V => Hid (Below W.heap.size W V)) _ (bdN _ _) ?_
  intro V HV
  have kV := (HV.out.block _ (heap_lt (HK1.out ()))).trans (HK1.out ())
  have kO := (HV.out.block _ (heap_lt (HK0.out ()))).trans (HK0.out ())
  have HKV : Hid (Unit → _) := fun _ => kV
  have HMV : Hid (Mdl V B b f d m L) := HMW.out.below HV.out
  have HFV : Hid (Mfr B w V b) := HFW.out.trans (mfr_below HV.out)
  obtain ⟨v0, v1, v2, v3, v4, v5⟩ := cells6 kV
  obtain ⟨o0, o1, o2, o3, o4, o5⟩ := cells6 kO
  have fzV : ∀ j, V.frozen? ⟨w.heap.size + 1, j, none⟩ = false := fun j => frozen_of_heap kV
  have c3V := bel_cell HV.out c3
  have c2V := bel_cell HV.out c2
  have y2V := bel_cell HV.out y2
  clear kV kO
  obtain ⟨m1, m2, m3⟩ := mdl_cell (w := V.drew) (v := .int .i64 (z : Int)) (j := 2) (HMV.out.below (Below.refl _ _).drew) (by rw [HN.out]; exact c3V) hi (by omega) (show (enC e).set 2 _ = enC { e with sz := z } from rfl) (HVD.out e (List.mem_of_getElem? hi))
  rw [szL_set P z L i e HND.out hi hp] at m1
  have HM1 : Hid (Unit → _) := fun _ => m1
  have HM2 : Hid (Unit → _) := fun _ => m2
  have c3' : V.drew.cell? ⟨b, 3, none⟩ = _ := c3V
  have o3' : V.drew.cell? ⟨w.heap.size, 3, none⟩ = _ := o3
  have o4' : V.drew.cell? ⟨w.heap.size, 4, none⟩ = _ := o4
  have y2' : V.drew.cell? ⟨g, i * 3 + 2, none⟩ = _ := y2V
  have fz' : V.drew.frozen? ⟨g, i * 3 + 2, none⟩ = false := m3
  clear m1 m2 m3 hi hp
  go_wp2_with fail
  go_region
  all_goals
    refine with_world (R := fun W => Exit.then _ _ _ _ W) (Q := fun V2 => Hid (Mdl V2 B b f d m (szL P z L)) ∧ Hid (Mfr B W V2 b)) _ ⟨HM1.out (), (mfr_below (HV.out.drew)).trans (HM2.out ())⟩ ?_
    rintro V2 ⟨HMX, HFX⟩
    have kV := HRM.out V2 HFX.out ()
    obtain ⟨p0, p1, p2, p3, p4, p5⟩ := cells6 kV
    have fzX : ∀ j, V2.frozen? ⟨w.heap.size + 1, j, none⟩ = false := fun j => frozen_of_heap kV
    obtain ⟨u1, u2, u3⟩ := put6_all (V := V2) HMX.out (HFW.out.trans HFX.out) (Nat.le_succ _) kV (.int .i64 0) (.string { data := #[] }) (.int .i64 (od.size : Int)) (.slice none 0 0) (.int .i64 0) (.int .i64 0)
    have HU1 : Hid (Unit → _) := fun _ => u1
    have HU2 : Hid _ := u2
    have HU3 : Hid _ := u3
    clear u1 u2 u3 kV
    go_wp2
    refine bodyPost_ret (results_cellt rfl _ _ (w.heap.size + 1) 33 _ (0, 0) _ rfl (HU1.out ()) Tryz.underlying33 rfl sizeRes) rfl ?_
    exact ⟨rfl, HU2, HU3⟩

end Go.Proofs.YtnfddiabhpandaaGreatDoor.Tr
