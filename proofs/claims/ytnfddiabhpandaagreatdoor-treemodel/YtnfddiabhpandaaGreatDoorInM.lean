import Derived.Test.YtnfddiabhpandaaGreatDoorIcM
import Derived.Test.YtnfddiabhpandaaGreatDoorHfM
namespace Go.Proofs.YtnfddiabhpandaaGreatDoor.Tr
open Go.RowKit Go.Lib Go.Deep

set_option maxRecDepth 20000 in
set_option maxHeartbeats 2000000 in
theorem look8E_any (w : World) (B b f d m : Nat) (L : List En) (h : Mdl w B b f d m L) (_hB : B ≤ w.heap.size) {T : Ts} {dp : Nat → Nat} (hI : Inv T dp) (hM : Mo T L) (P : List ByteArray) (hP : Vd P) (oa on : Int) (ot od : ByteArray) (he : ¬ (fndA T P).2 = 0) :
    Calls Tryz.prog 49 #[.pointer (some ⟨b, 0, none⟩), .agg #[.int .i64 8, .string (tx P), .string ot, .int .i64 oa, .int .i64 on, .string od]] w fun e w' => e = .returned (.tuple #[.agg #[.int .i64 0, .string { data := #[] }, .int .i64 0, .slice none 0 0, .int .i64 0, .int .i64 0], .int .i64 (fndA T P).2]) ∧ Hid (Mdl w' B b f d m L) ∧ Hid (Mfr B w w' b) := by
  obtain ⟨W, hW, hb, k0, k1⟩ := op_new w #[.int .i64 8, .string (tx P), .string ot, .int .i64 oa, .int .i64 on, .string od]
  have hMW := h.below hb
  have hway := way_any W B b f d m L hMW hI hM P hP
  have hkind := kind_any W B b f d m L hMW hI hM P hP
  have HMW : Hid (Mdl W B b f d m L) := hMW
  have HFW : Hid (Mfr B w W b) := mfr_below hb
  have HK1 : Hid (Unit → _) := fun _ => k1
  have HK0 : Hid (Unit → _) := fun _ => k0
  obtain ⟨x0, x1, x2, x3, x4, x5⟩ := cells6 k0
  obtain ⟨z0, z1, z2, z3, z4, z5⟩ := cells6 k1
  have fz : ∀ j, W.frozen? ⟨w.heap.size + 1, j, none⟩ = false := fun j => frozen_of_heap k1
  have hPn : P ≠ [] := fun e => by subst e; exact he rfl
  have hrn := root_ne hP hPn
  have heb : ((fndA T P).2 == 0) = false := by simpa using he
  obtain ⟨u1, u2, u3⟩ := put6_all (V := W) HMW.out HFW.out (Nat.le_succ _) (HK1.out ()) (.int .i64 0) (.string { data := #[] }) (.int .i64 0) (.slice none 0 0) (.int .i64 0) (.int .i64 0)
  have HU1 : Hid (Unit → _) := fun _ => u1
  have HU2 : Hid _ := u2
  have HU3 : Hid _ := u3
  clear u1 u2 u3
  clear h hI hM hP hMW hb k0 k1
  clear hPn
  generalize tx P = t at *
  generalize (fndA T P).2 = E at *
  generalize kdT T P = kp at *
  go_enter Tryz.func49, Tryz.ntmps49
  go_wp2_with fail
  refine hway.mono ?_
  rintro e w1 ⟨rfl, hw1⟩
  subst w1
  go_wp2_with fail
  refine hkind.mono ?_
  rintro e w1 ⟨rfl, hw1⟩
  subst w1
  go_wp2
  refine bodyPost_ret (results_cellt rfl _ _ (w.heap.size + 1) 33 _ (0, 0) _ rfl (HU1.out ()) Tryz.underlying33 rfl sizeRes) rfl ?_
  exact ⟨rfl, HU2, HU3⟩
set_option maxRecDepth 20000 in
set_option maxHeartbeats 2000000 in
theorem look9E_any (w : World) (B b f d m : Nat) (L : List En) (h : Mdl w B b f d m L) (_hB : B ≤ w.heap.size) {T : Ts} {dp : Nat → Nat} (hI : Inv T dp) (hM : Mo T L) (P : List ByteArray) (hP : Vd P) (oa on : Int) (ot od : ByteArray) (he : ¬ (fndA T P).2 = 0) :
    Calls Tryz.prog 49 #[.pointer (some ⟨b, 0, none⟩), .agg #[.int .i64 9, .string (tx P), .string ot, .int .i64 oa, .int .i64 on, .string od]] w fun e w' => e = .returned (.tuple #[.agg #[.int .i64 0, .string { data := #[] }, .int .i64 0, .slice none 0 0, .int .i64 0, .int .i64 0], .int .i64 (fndA T P).2]) ∧ Hid (Mdl w' B b f d m L) ∧ Hid (Mfr B w w' b) := by
  obtain ⟨W, hW, hb, k0, k1⟩ := op_new w #[.int .i64 9, .string (tx P), .string ot, .int .i64 oa, .int .i64 on, .string od]
  have hMW := h.below hb
  have hway := way_any W B b f d m L hMW hI hM P hP
  have hkind := kind_any W B b f d m L hMW hI hM P hP
  have HMW : Hid (Mdl W B b f d m L) := hMW
  have HFW : Hid (Mfr B w W b) := mfr_below hb
  have HK1 : Hid (Unit → _) := fun _ => k1
  have HK0 : Hid (Unit → _) := fun _ => k0
  obtain ⟨x0, x1, x2, x3, x4, x5⟩ := cells6 k0
  obtain ⟨z0, z1, z2, z3, z4, z5⟩ := cells6 k1
  have fz : ∀ j, W.frozen? ⟨w.heap.size + 1, j, none⟩ = false := fun j => frozen_of_heap k1
  have hPn : P ≠ [] := fun e => by subst e; exact he rfl
  have hrn := root_ne hP hPn
  have heb : ((fndA T P).2 == 0) = false := by simpa using he
  obtain ⟨u1, u2, u3⟩ := put6_all (V := W) HMW.out HFW.out (Nat.le_succ _) (HK1.out ()) (.int .i64 0) (.string { data := #[] }) (.int .i64 0) (.slice none 0 0) (.int .i64 0) (.int .i64 0)
  have HU1 : Hid (Unit → _) := fun _ => u1
  have HU2 : Hid _ := u2
  have HU3 : Hid _ := u3
  clear u1 u2 u3
  clear h hI hM hP hMW hb k0 k1
  clear hPn
  generalize tx P = t at *
  generalize (fndA T P).2 = E at *
  generalize kdT T P = kp at *
  go_enter Tryz.func49, Tryz.ntmps49
  go_wp2_with fail
  refine hway.mono ?_
  rintro e w1 ⟨rfl, hw1⟩
  subst w1
  go_wp2_with fail
  refine hkind.mono ?_
  rintro e w1 ⟨rfl, hw1⟩
  subst w1
  go_wp2
  refine bodyPost_ret (results_cellt rfl _ _ (w.heap.size + 1) 33 _ (0, 0) _ rfl (HU1.out ()) Tryz.underlying33 rfl sizeRes) rfl ?_
  exact ⟨rfl, HU2, HU3⟩
set_option maxRecDepth 20000 in
set_option maxHeartbeats 2000000 in
theorem look10E_any (w : World) (B b f d m : Nat) (L : List En) (h : Mdl w B b f d m L) (_hB : B ≤ w.heap.size) {T : Ts} {dp : Nat → Nat} (hI : Inv T dp) (hM : Mo T L) (P : List ByteArray) (hP : Vd P) (oa on : Int) (ot od : ByteArray) (he : ¬ (fndA T P).2 = 0) :
    Calls Tryz.prog 49 #[.pointer (some ⟨b, 0, none⟩), .agg #[.int .i64 10, .string (tx P), .string ot, .int .i64 oa, .int .i64 on, .string od]] w fun e w' => e = .returned (.tuple #[.agg #[.int .i64 0, .string { data := #[] }, .int .i64 0, .slice none 0 0, .int .i64 0, .int .i64 0], .int .i64 (fndA T P).2]) ∧ Hid (Mdl w' B b f d m L) ∧ Hid (Mfr B w w' b) := by
  obtain ⟨W, hW, hb, k0, k1⟩ := op_new w #[.int .i64 10, .string (tx P), .string ot, .int .i64 oa, .int .i64 on, .string od]
  have hMW := h.below hb
  have hway := way_any W B b f d m L hMW hI hM P hP
  have hkind := kind_any W B b f d m L hMW hI hM P hP
  have HMW : Hid (Mdl W B b f d m L) := hMW
  have HFW : Hid (Mfr B w W b) := mfr_below hb
  have HK1 : Hid (Unit → _) := fun _ => k1
  have HK0 : Hid (Unit → _) := fun _ => k0
  obtain ⟨x0, x1, x2, x3, x4, x5⟩ := cells6 k0
  obtain ⟨z0, z1, z2, z3, z4, z5⟩ := cells6 k1
  have fz : ∀ j, W.frozen? ⟨w.heap.size + 1, j, none⟩ = false := fun j => frozen_of_heap k1
  have hPn : P ≠ [] := fun e => by subst e; exact he rfl
  have hrn := root_ne hP hPn
  have heb : ((fndA T P).2 == 0) = false := by simpa using he
  obtain ⟨u1, u2, u3⟩ := put6_all (V := W) HMW.out HFW.out (Nat.le_succ _) (HK1.out ()) (.int .i64 0) (.string { data := #[] }) (.int .i64 0) (.slice none 0 0) (.int .i64 0) (.int .i64 0)
  have HU1 : Hid (Unit → _) := fun _ => u1
  have HU2 : Hid _ := u2
  have HU3 : Hid _ := u3
  clear u1 u2 u3
  clear h hI hM hP hMW hb k0 k1
  clear hPn
  generalize tx P = t at *
  generalize (fndA T P).2 = E at *
  generalize kdT T P = kp at *
  go_enter Tryz.func49, Tryz.ntmps49
  go_wp2_with fail
  refine hway.mono ?_
  rintro e w1 ⟨rfl, hw1⟩
  subst w1
  go_wp2_with fail
  refine hkind.mono ?_
  rintro e w1 ⟨rfl, hw1⟩
  subst w1
  go_wp2
  refine bodyPost_ret (results_cellt rfl _ _ (w.heap.size + 1) 33 _ (0, 0) _ rfl (HU1.out ()) Tryz.underlying33 rfl sizeRes) rfl ?_
  exact ⟨rfl, HU2, HU3⟩

end Go.Proofs.YtnfddiabhpandaaGreatDoor.Tr

namespace Go.Proofs.YtnfddiabhpandaaGreatDoor.Tr
open Go.RowKit Go.Lib Go.Deep

set_option maxRecDepth 20000 in
set_option maxHeartbeats 2000000 in
theorem look8N_any (w : World) (B b f d m : Nat) (L : List En) (h : Mdl w B b f d m L) (_hB : B ≤ w.heap.size) {T : Ts} {dp : Nat → Nat} (hI : Inv T dp) (hM : Mo T L) (P : List ByteArray) (hP : Vd P) (oa on : Int) (ot od : ByteArray) (he : (fndA T P).2 = 0) (hk : kdT T P = 0) (hPn : P ≠ []) :
    Calls Tryz.prog 49 #[.pointer (some ⟨b, 0, none⟩), .agg #[.int .i64 8, .string (tx P), .string ot, .int .i64 oa, .int .i64 on, .string od]] w fun e w' => e = .returned (.tuple #[.agg #[.int .i64 0, .string { data := #[] }, .int .i64 0, .slice none 0 0, .int .i64 0, .int .i64 0], .int .i64 120]) ∧ Hid (Mdl w' B b f d m L) ∧ Hid (Mfr B w w' b) := by
  obtain ⟨W, hW, hb, k0, k1⟩ := op_new w #[.int .i64 8, .string (tx P), .string ot, .int .i64 oa, .int .i64 on, .string od]
  have hMW := h.below hb
  have hway := way_any W B b f d m L hMW hI hM P hP
  have hkind := kind_any W B b f d m L hMW hI hM P hP
  have HMW : Hid (Mdl W B b f d m L) := hMW
  have HFW : Hid (Mfr B w W b) := mfr_below hb
  have HK1 : Hid (Unit → _) := fun _ => k1
  have HK0 : Hid (Unit → _) := fun _ => k0
  obtain ⟨x0, x1, x2, x3, x4, x5⟩ := cells6 k0
  obtain ⟨z0, z1, z2, z3, z4, z5⟩ := cells6 k1
  have fz : ∀ j, W.frozen? ⟨w.heap.size + 1, j, none⟩ = false := fun j => frozen_of_heap k1
  rw [he] at hway
  rw [hk] at hkind
  have hrn := root_ne hP hPn
  obtain ⟨u1, u2, u3⟩ := put6_all (V := W) HMW.out HFW.out (Nat.le_succ _) (HK1.out ()) (.int .i64 0) (.string { data := #[] }) (.int .i64 0) (.slice none 0 0) (.int .i64 0) (.int .i64 0)
  have HU1 : Hid (Unit → _) := fun _ => u1
  have HU2 : Hid _ := u2
  have HU3 : Hid _ := u3
  clear u1 u2 u3
  clear h hI hM hP hMW hb k0 k1
  clear he hk hPn
  generalize tx P = t at *
  go_enter Tryz.func49, Tryz.ntmps49
  go_wp2_with fail
  refine hway.mono ?_
  rintro e w1 ⟨rfl, hw1⟩
  subst w1
  go_wp2_with fail
  refine hkind.mono ?_
  rintro e w1 ⟨rfl, hw1⟩
  subst w1
  go_wp2
  refine bodyPost_ret (results_cellt rfl _ _ (w.heap.size + 1) 33 _ (0, 0) _ rfl (HU1.out ()) Tryz.underlying33 rfl sizeRes) rfl ?_
  exact ⟨rfl, HU2, HU3⟩
set_option maxRecDepth 20000 in
set_option maxHeartbeats 2000000 in
theorem look9N_any (w : World) (B b f d m : Nat) (L : List En) (h : Mdl w B b f d m L) (_hB : B ≤ w.heap.size) {T : Ts} {dp : Nat → Nat} (hI : Inv T dp) (hM : Mo T L) (P : List ByteArray) (hP : Vd P) (oa on : Int) (ot od : ByteArray) (he : (fndA T P).2 = 0) (hk : kdT T P = 0) :
    Calls Tryz.prog 49 #[.pointer (some ⟨b, 0, none⟩), .agg #[.int .i64 9, .string (tx P), .string ot, .int .i64 oa, .int .i64 on, .string od]] w fun e w' => e = .returned (.tuple #[.agg #[.int .i64 0, .string { data := #[] }, .int .i64 0, .slice none 0 0, .int .i64 0, .int .i64 0], .int .i64 120]) ∧ Hid (Mdl w' B b f d m L) ∧ Hid (Mfr B w w' b) := by
  obtain ⟨W, hW, hb, k0, k1⟩ := op_new w #[.int .i64 9, .string (tx P), .string ot, .int .i64 oa, .int .i64 on, .string od]
  have hMW := h.below hb
  have hway := way_any W B b f d m L hMW hI hM P hP
  have hkind := kind_any W B b f d m L hMW hI hM P hP
  have HMW : Hid (Mdl W B b f d m L) := hMW
  have HFW : Hid (Mfr B w W b) := mfr_below hb
  have HK1 : Hid (Unit → _) := fun _ => k1
  have HK0 : Hid (Unit → _) := fun _ => k0
  obtain ⟨x0, x1, x2, x3, x4, x5⟩ := cells6 k0
  obtain ⟨z0, z1, z2, z3, z4, z5⟩ := cells6 k1
  have fz : ∀ j, W.frozen? ⟨w.heap.size + 1, j, none⟩ = false := fun j => frozen_of_heap k1
  rw [he] at hway
  rw [hk] at hkind
  obtain ⟨u1, u2, u3⟩ := put6_all (V := W) HMW.out HFW.out (Nat.le_succ _) (HK1.out ()) (.int .i64 0) (.string { data := #[] }) (.int .i64 0) (.slice none 0 0) (.int .i64 0) (.int .i64 0)
  have HU1 : Hid (Unit → _) := fun _ => u1
  have HU2 : Hid _ := u2
  have HU3 : Hid _ := u3
  clear u1 u2 u3
  clear h hI hM hP hMW hb k0 k1
  clear he hk
  generalize tx P = t at *
  go_enter Tryz.func49, Tryz.ntmps49
  go_wp2_with fail
  refine hway.mono ?_
  rintro e w1 ⟨rfl, hw1⟩
  subst w1
  go_wp2_with fail
  refine hkind.mono ?_
  rintro e w1 ⟨rfl, hw1⟩
  subst w1
  go_wp2
  refine bodyPost_ret (results_cellt rfl _ _ (w.heap.size + 1) 33 _ (0, 0) _ rfl (HU1.out ()) Tryz.underlying33 rfl sizeRes) rfl ?_
  exact ⟨rfl, HU2, HU3⟩
set_option maxRecDepth 20000 in
set_option maxHeartbeats 2000000 in
theorem look10N_any (w : World) (B b f d m : Nat) (L : List En) (h : Mdl w B b f d m L) (_hB : B ≤ w.heap.size) {T : Ts} {dp : Nat → Nat} (hI : Inv T dp) (hM : Mo T L) (P : List ByteArray) (hP : Vd P) (oa on : Int) (ot od : ByteArray) (he : (fndA T P).2 = 0) (hk : kdT T P = 0) :
    Calls Tryz.prog 49 #[.pointer (some ⟨b, 0, none⟩), .agg #[.int .i64 10, .string (tx P), .string ot, .int .i64 oa, .int .i64 on, .string od]] w fun e w' => e = .returned (.tuple #[.agg #[.int .i64 0, .string { data := #[] }, .int .i64 0, .slice none 0 0, .int .i64 0, .int .i64 0], .int .i64 120]) ∧ Hid (Mdl w' B b f d m L) ∧ Hid (Mfr B w w' b) := by
  obtain ⟨W, hW, hb, k0, k1⟩ := op_new w #[.int .i64 10, .string (tx P), .string ot, .int .i64 oa, .int .i64 on, .string od]
  have hMW := h.below hb
  have hway := way_any W B b f d m L hMW hI hM P hP
  have hkind := kind_any W B b f d m L hMW hI hM P hP
  have HMW : Hid (Mdl W B b f d m L) := hMW
  have HFW : Hid (Mfr B w W b) := mfr_below hb
  have HK1 : Hid (Unit → _) := fun _ => k1
  have HK0 : Hid (Unit → _) := fun _ => k0
  obtain ⟨x0, x1, x2, x3, x4, x5⟩ := cells6 k0
  obtain ⟨z0, z1, z2, z3, z4, z5⟩ := cells6 k1
  have fz : ∀ j, W.frozen? ⟨w.heap.size + 1, j, none⟩ = false := fun j => frozen_of_heap k1
  rw [he] at hway
  rw [hk] at hkind
  obtain ⟨u1, u2, u3⟩ := put6_all (V := W) HMW.out HFW.out (Nat.le_succ _) (HK1.out ()) (.int .i64 0) (.string { data := #[] }) (.int .i64 0) (.slice none 0 0) (.int .i64 0) (.int .i64 0)
  have HU1 : Hid (Unit → _) := fun _ => u1
  have HU2 : Hid _ := u2
  have HU3 : Hid _ := u3
  clear u1 u2 u3
  clear h hI hM hP hMW hb k0 k1
  clear he hk
  generalize tx P = t at *
  go_enter Tryz.func49, Tryz.ntmps49
  go_wp2_with fail
  refine hway.mono ?_
  rintro e w1 ⟨rfl, hw1⟩
  subst w1
  go_wp2_with fail
  refine hkind.mono ?_
  rintro e w1 ⟨rfl, hw1⟩
  subst w1
  go_wp2
  refine bodyPost_ret (results_cellt rfl _ _ (w.heap.size + 1) 33 _ (0, 0) _ rfl (HU1.out ()) Tryz.underlying33 rfl sizeRes) rfl ?_
  exact ⟨rfl, HU2, HU3⟩

end Go.Proofs.YtnfddiabhpandaaGreatDoor.Tr

namespace Go.Proofs.YtnfddiabhpandaaGreatDoor.Tr
open Go.RowKit Go.Lib Go.Deep

set_option maxRecDepth 20000 in
set_option maxHeartbeats 2000000 in
theorem look8F_any (w : World) (B b f d m : Nat) (L : List En) (h : Mdl w B b f d m L) (_hB : B ≤ w.heap.size) {T : Ts} {dp : Nat → Nat} (hI : Inv T dp) (hM : Mo T L) (P : List ByteArray) (hP : Vd P) (oa on : Int) (ot od : ByteArray) (he : (fndA T P).2 = 0) (hk : kdT T P = 2) (hPn : P ≠ []) :
    Calls Tryz.prog 49 #[.pointer (some ⟨b, 0, none⟩), .agg #[.int .i64 8, .string (tx P), .string ot, .int .i64 oa, .int .i64 on, .string od]] w fun e w' => e = .returned (.tuple #[.agg #[.int .i64 0, .string { data := #[] }, .int .i64 0, .slice none 0 0, .int .i64 0, .int .i64 0], .int .i64 122]) ∧ Hid (Mdl w' B b f d m L) ∧ Hid (Mfr B w w' b) := by
  obtain ⟨W, hW, hb, k0, k1⟩ := op_new w #[.int .i64 8, .string (tx P), .string ot, .int .i64 oa, .int .i64 on, .string od]
  have hMW := h.below hb
  have hway := way_any W B b f d m L hMW hI hM P hP
  have hkind := kind_any W B b f d m L hMW hI hM P hP
  have HMW : Hid (Mdl W B b f d m L) := hMW
  have HFW : Hid (Mfr B w W b) := mfr_below hb
  have HK1 : Hid (Unit → _) := fun _ => k1
  have HK0 : Hid (Unit → _) := fun _ => k0
  obtain ⟨x0, x1, x2, x3, x4, x5⟩ := cells6 k0
  obtain ⟨z0, z1, z2, z3, z4, z5⟩ := cells6 k1
  have fz : ∀ j, W.frozen? ⟨w.heap.size + 1, j, none⟩ = false := fun j => frozen_of_heap k1
  rw [he] at hway
  rw [hk] at hkind
  have hrn := root_ne hP hPn
  obtain ⟨u1, u2, u3⟩ := put6_all (V := W) HMW.out HFW.out (Nat.le_succ _) (HK1.out ()) (.int .i64 0) (.string { data := #[] }) (.int .i64 0) (.slice none 0 0) (.int .i64 0) (.int .i64 0)
  have HU1 : Hid (Unit → _) := fun _ => u1
  have HU2 : Hid _ := u2
  have HU3 : Hid _ := u3
  clear u1 u2 u3
  clear h hI hM hP hMW hb k0 k1
  clear he hk hPn
  generalize tx P = t at *
  go_enter Tryz.func49, Tryz.ntmps49
  go_wp2_with fail
  refine hway.mono ?_
  rintro e w1 ⟨rfl, hw1⟩
  subst w1
  go_wp2_with fail
  refine hkind.mono ?_
  rintro e w1 ⟨rfl, hw1⟩
  subst w1
  go_wp2
  refine bodyPost_ret (results_cellt rfl _ _ (w.heap.size + 1) 33 _ (0, 0) _ rfl (HU1.out ()) Tryz.underlying33 rfl sizeRes) rfl ?_
  exact ⟨rfl, HU2, HU3⟩
set_option maxRecDepth 20000 in
set_option maxHeartbeats 2000000 in
theorem look9F_any (w : World) (B b f d m : Nat) (L : List En) (h : Mdl w B b f d m L) (_hB : B ≤ w.heap.size) {T : Ts} {dp : Nat → Nat} (hI : Inv T dp) (hM : Mo T L) (P : List ByteArray) (hP : Vd P) (oa on : Int) (ot od : ByteArray) (he : (fndA T P).2 = 0) (hk : kdT T P = 2) :
    Calls Tryz.prog 49 #[.pointer (some ⟨b, 0, none⟩), .agg #[.int .i64 9, .string (tx P), .string ot, .int .i64 oa, .int .i64 on, .string od]] w fun e w' => e = .returned (.tuple #[.agg #[.int .i64 0, .string { data := #[] }, .int .i64 0, .slice none 0 0, .int .i64 0, .int .i64 0], .int .i64 122]) ∧ Hid (Mdl w' B b f d m L) ∧ Hid (Mfr B w w' b) := by
  obtain ⟨W, hW, hb, k0, k1⟩ := op_new w #[.int .i64 9, .string (tx P), .string ot, .int .i64 oa, .int .i64 on, .string od]
  have hMW := h.below hb
  have hway := way_any W B b f d m L hMW hI hM P hP
  have hkind := kind_any W B b f d m L hMW hI hM P hP
  have HMW : Hid (Mdl W B b f d m L) := hMW
  have HFW : Hid (Mfr B w W b) := mfr_below hb
  have HK1 : Hid (Unit → _) := fun _ => k1
  have HK0 : Hid (Unit → _) := fun _ => k0
  obtain ⟨x0, x1, x2, x3, x4, x5⟩ := cells6 k0
  obtain ⟨z0, z1, z2, z3, z4, z5⟩ := cells6 k1
  have fz : ∀ j, W.frozen? ⟨w.heap.size + 1, j, none⟩ = false := fun j => frozen_of_heap k1
  rw [he] at hway
  rw [hk] at hkind
  obtain ⟨u1, u2, u3⟩ := put6_all (V := W) HMW.out HFW.out (Nat.le_succ _) (HK1.out ()) (.int .i64 0) (.string { data := #[] }) (.int .i64 0) (.slice none 0 0) (.int .i64 0) (.int .i64 0)
  have HU1 : Hid (Unit → _) := fun _ => u1
  have HU2 : Hid _ := u2
  have HU3 : Hid _ := u3
  clear u1 u2 u3
  clear h hI hM hP hMW hb k0 k1
  clear he hk
  generalize tx P = t at *
  go_enter Tryz.func49, Tryz.ntmps49
  go_wp2_with fail
  refine hway.mono ?_
  rintro e w1 ⟨rfl, hw1⟩
  subst w1
  go_wp2_with fail
  refine hkind.mono ?_
  rintro e w1 ⟨rfl, hw1⟩
  subst w1
  go_wp2
  refine bodyPost_ret (results_cellt rfl _ _ (w.heap.size + 1) 33 _ (0, 0) _ rfl (HU1.out ()) Tryz.underlying33 rfl sizeRes) rfl ?_
  exact ⟨rfl, HU2, HU3⟩
set_option maxRecDepth 20000 in
set_option maxHeartbeats 2000000 in
theorem look10D_any (w : World) (B b f d m : Nat) (L : List En) (h : Mdl w B b f d m L) (_hB : B ≤ w.heap.size) {T : Ts} {dp : Nat → Nat} (hI : Inv T dp) (hM : Mo T L) (P : List ByteArray) (hP : Vd P) (oa on : Int) (ot od : ByteArray) (he : (fndA T P).2 = 0) (hk : kdT T P = 1) :
    Calls Tryz.prog 49 #[.pointer (some ⟨b, 0, none⟩), .agg #[.int .i64 10, .string (tx P), .string ot, .int .i64 oa, .int .i64 on, .string od]] w fun e w' => e = .returned (.tuple #[.agg #[.int .i64 0, .string { data := #[] }, .int .i64 0, .slice none 0 0, .int .i64 1, .int .i64 0], .int .i64 0]) ∧ Hid (Mdl w' B b f d m L) ∧ Hid (Mfr B w w' b) := by
  obtain ⟨W, hW, hb, k0, k1⟩ := op_new w #[.int .i64 10, .string (tx P), .string ot, .int .i64 oa, .int .i64 on, .string od]
  have hMW := h.below hb
  have hway := way_any W B b f d m L hMW hI hM P hP
  have hkind := kind_any W B b f d m L hMW hI hM P hP
  have HMW : Hid (Mdl W B b f d m L) := hMW
  have HFW : Hid (Mfr B w W b) := mfr_below hb
  have HK1 : Hid (Unit → _) := fun _ => k1
  have HK0 : Hid (Unit → _) := fun _ => k0
  obtain ⟨x0, x1, x2, x3, x4, x5⟩ := cells6 k0
  obtain ⟨z0, z1, z2, z3, z4, z5⟩ := cells6 k1
  have fz : ∀ j, W.frozen? ⟨w.heap.size + 1, j, none⟩ = false := fun j => frozen_of_heap k1
  rw [he] at hway
  rw [hk] at hkind
  obtain ⟨u1, u2, u3⟩ := put6_all (V := W) HMW.out HFW.out (Nat.le_succ _) (HK1.out ()) (.int .i64 0) (.string { data := #[] }) (.int .i64 0) (.slice none 0 0) (.int .i64 1) (.int .i64 0)
  have HU1 : Hid (Unit → _) := fun _ => u1
  have HU2 : Hid _ := u2
  have HU3 : Hid _ := u3
  clear u1 u2 u3
  clear h hI hM hP hMW hb k0 k1
  clear he hk
  generalize tx P = t at *
  go_enter Tryz.func49, Tryz.ntmps49
  go_wp2_with fail
  refine hway.mono ?_
  rintro e w1 ⟨rfl, hw1⟩
  subst w1
  go_wp2_with fail
  refine hkind.mono ?_
  rintro e w1 ⟨rfl, hw1⟩
  subst w1
  go_wp2
  refine bodyPost_ret (results_cellt rfl _ _ (w.heap.size + 1) 33 _ (0, 0) _ rfl (HU1.out ()) Tryz.underlying33 rfl sizeRes) rfl ?_
  exact ⟨rfl, HU2, HU3⟩

end Go.Proofs.YtnfddiabhpandaaGreatDoor.Tr

namespace Go.Proofs.YtnfddiabhpandaaGreatDoor.Tr
open Go.RowKit Go.Lib Go.Deep

set_option maxRecDepth 20000 in
set_option maxHeartbeats 2000000 in
theorem look8R_any (w : World) (B b f d m : Nat) (L : List En) (h : Mdl w B b f d m L) (_hB : B ≤ w.heap.size) {T : Ts} {dp : Nat → Nat} (hI : Inv T dp) (hM : Mo T L) (P : List ByteArray) (hP : Vd P) (oa on : Int) (ot od : ByteArray) (hr : P = []) :
    Calls Tryz.prog 49 #[.pointer (some ⟨b, 0, none⟩), .agg #[.int .i64 8, .string (tx P), .string ot, .int .i64 oa, .int .i64 on, .string od]] w fun e w' => e = .returned (.tuple #[.agg #[.int .i64 0, .string { data := #[] }, .int .i64 0, .slice none 0 0, .int .i64 0, .int .i64 0], .int .i64 1]) ∧ Hid (Mdl w' B b f d m L) ∧ Hid (Mfr B w w' b) := by
  obtain ⟨W, hW, hb, k0, k1⟩ := op_new w #[.int .i64 8, .string (tx P), .string ot, .int .i64 oa, .int .i64 on, .string od]
  have hMW := h.below hb
  have hway := way_any W B b f d m L hMW hI hM P hP
  have hkind := kind_any W B b f d m L hMW hI hM P hP
  have HMW : Hid (Mdl W B b f d m L) := hMW
  have HFW : Hid (Mfr B w W b) := mfr_below hb
  have HK1 : Hid (Unit → _) := fun _ => k1
  have HK0 : Hid (Unit → _) := fun _ => k0
  obtain ⟨x0, x1, x2, x3, x4, x5⟩ := cells6 k0
  obtain ⟨z0, z1, z2, z3, z4, z5⟩ := cells6 k1
  have fz : ∀ j, W.frozen? ⟨w.heap.size + 1, j, none⟩ = false := fun j => frozen_of_heap k1
  have ht : tx P = { data := #[47] } := (tx_nil hP).2 hr
  obtain ⟨u1, u2, u3⟩ := put6_all (V := W) HMW.out HFW.out (Nat.le_succ _) (HK1.out ()) (.int .i64 0) (.string { data := #[] }) (.int .i64 0) (.slice none 0 0) (.int .i64 0) (.int .i64 0)
  have HU1 : Hid (Unit → _) := fun _ => u1
  have HU2 : Hid _ := u2
  have HU3 : Hid _ := u3
  clear u1 u2 u3
  clear h hI hM hP hMW hb k0 k1
  rw [ht] at hway hkind x1 hW ⊢
  clear ht hr
  generalize (fndA T P).2 = E at *
  generalize kdT T P = kp at *
  go_enter Tryz.func49, Tryz.ntmps49
  go_wp2_with fail
  refine hway.mono ?_
  rintro e w1 ⟨rfl, hw1⟩
  subst w1
  go_wp2_with fail
  refine hkind.mono ?_
  rintro e w1 ⟨rfl, hw1⟩
  subst w1
  go_wp2
  refine bodyPost_ret (results_cellt rfl _ _ (w.heap.size + 1) 33 _ (0, 0) _ rfl (HU1.out ()) Tryz.underlying33 rfl sizeRes) rfl ?_
  exact ⟨rfl, HU2, HU3⟩
set_option maxRecDepth 20000 in
set_option maxHeartbeats 2000000 in
theorem look8X_any (w : World) (B b f d m : Nat) (L : List En) (h : Mdl w B b f d m L) (_hB : B ≤ w.heap.size) {T : Ts} {dp : Nat → Nat} (hI : Inv T dp) (hM : Mo T L) (P : List ByteArray) (hP : Vd P) (oa on : Int) (ot od : ByteArray) (he : (fndA T P).2 = 0) (hk : kdT T P = 1) (hPn : P ≠ []) (hx : ¬ ∀ e ∈ L, ¬ Blw e.p P) :
    Calls Tryz.prog 49 #[.pointer (some ⟨b, 0, none⟩), .agg #[.int .i64 8, .string (tx P), .string ot, .int .i64 oa, .int .i64 on, .string od]] w fun e w' => e = .returned (.tuple #[.agg #[.int .i64 0, .string { data := #[] }, .int .i64 0, .slice none 0 0, .int .i64 0, .int .i64 0], .int .i64 124]) ∧ Hid (Mdl w' B b f d m L) ∧ Hid (Mfr B w w' b) := by
  obtain ⟨W, hW, hb, k0, k1⟩ := op_new w #[.int .i64 8, .string (tx P), .string ot, .int .i64 oa, .int .i64 on, .string od]
  have hMW := h.below hb
  have hway := way_any W B b f d m L hMW hI hM P hP
  have hkind := kind_any W B b f d m L hMW hI hM P hP
  have HMW : Hid (Mdl W B b f d m L) := hMW
  have HFW : Hid (Mfr B w W b) := mfr_below hb
  have HK1 : Hid (Unit → _) := fun _ => k1
  have HK0 : Hid (Unit → _) := fun _ => k0
  obtain ⟨x0, x1, x2, x3, x4, x5⟩ := cells6 k0
  obtain ⟨z0, z1, z2, z3, z4, z5⟩ := cells6 k1
  have fz : ∀ j, W.frozen? ⟨w.heap.size + 1, j, none⟩ = false := fun j => frozen_of_heap k1
  rw [he] at hway
  rw [hk] at hkind
  have hrn := root_ne hP hPn
  have hem := empty_any W B b f d m L hMW P hP false ⟨fun e => (by cases e), fun e => absurd e hx⟩
  obtain ⟨u1, u2, u3⟩ := put6_all (V := W) HMW.out HFW.out (Nat.le_succ _) (HK1.out ()) (.int .i64 0) (.string { data := #[] }) (.int .i64 0) (.slice none 0 0) (.int .i64 0) (.int .i64 0)
  have HU1 : Hid (Unit → _) := fun _ => u1
  have HU2 : Hid _ := u2
  have HU3 : Hid _ := u3
  clear u1 u2 u3
  clear h hI hM hP hMW hb k0 k1
  clear he hk hPn hx
  generalize tx P = t at *
  go_enter Tryz.func49, Tryz.ntmps49
  go_wp2_with fail
  refine hway.mono ?_
  rintro e w1 ⟨rfl, hw1⟩
  subst w1
  go_wp2_with fail
  refine hkind.mono ?_
  rintro e w1 ⟨rfl, hw1⟩
  subst w1
  go_wp2_with fail
  refine hem.mono ?_
  rintro e w1 ⟨rfl, hw1⟩
  subst w1
  go_wp2
  refine bodyPost_ret (results_cellt rfl _ _ (w.heap.size + 1) 33 _ (0, 0) _ rfl (HU1.out ()) Tryz.underlying33 rfl sizeRes) rfl ?_
  exact ⟨rfl, HU2, HU3⟩
set_option maxRecDepth 20000 in
set_option maxHeartbeats 2000000 in
theorem look8G_any (w : World) (B b f d m : Nat) (L : List En) (h : Mdl w B b f d m L) (hB : B ≤ w.heap.size) {T : Ts} {dp : Nat → Nat} (hI : Inv T dp) (hM : Mo T L) (P : List ByteArray) (hP : Vd P) (oa on : Int) (ot od : ByteArray) (he : (fndA T P).2 = 0) (hk : kdT T P = 1) (hPn : P ≠ []) (hx : ∀ e ∈ L, ¬ Blw e.p P) :
    Calls Tryz.prog 49 #[.pointer (some ⟨b, 0, none⟩), .agg #[.int .i64 8, .string (tx P), .string ot, .int .i64 oa, .int .i64 on, .string od]] w fun e w' => e = .returned (.tuple #[.agg #[.int .i64 0, .string { data := #[] }, .int .i64 0, .slice none 0 0, .int .i64 0, .int .i64 0], .int .i64 0]) ∧ Hid (Mdl w' B b f d m (wo P L)) ∧ Hid (Mfr B w w' b) := by
  obtain ⟨W, hW, hb, k0, k1⟩ := op_new w #[.int .i64 8, .string (tx P), .string ot, .int .i64 oa, .int .i64 on, .string od]
  have hMW := h.below hb
  have hway := way_any W B b f d m L hMW hI hM P hP
  have hkind := kind_any W B b f d m L hMW hI hM P hP
  have HMW : Hid (Mdl W B b f d m L) := hMW
  have HFW : Hid (Mfr B w W b) := mfr_below hb
  have HK1 : Hid (Unit → _) := fun _ => k1
  have HK0 : Hid (Unit → _) := fun _ => k0
  obtain ⟨x0, x1, x2, x3, x4, x5⟩ := cells6 k0
  obtain ⟨z0, z1, z2, z3, z4, z5⟩ := cells6 k1
  have fz : ∀ j, W.frozen? ⟨w.heap.size + 1, j, none⟩ = false := fun j => frozen_of_heap k1
  rw [he] at hway
  rw [hk] at hkind
  have hrn := root_ne hP hPn
  have hem := empty_any W B b f d m L hMW P hP true ⟨fun _ => hx, fun _ => rfl⟩
  have hgone := gone_any W B b f d m L hMW (Nat.le_trans hB hb.size) P hP
  have HNX : Hid (∀ V, Mfr B W V b → Unit → V.heap[w.heap.size + 1]? = some (.cells #[.int .i64 0, .string { data := #[] }, .int .i64 0, .slice none 0 0, .int .i64 0, .int .i64 0] 33 (0, 0))) := fun V hf _ => room_keep h hf (Nat.le_succ _) k1
  clear h hI hM hP hMW hb k0 k1
  clear he hk hPn hx
  generalize tx P = t at *
  go_enter Tryz.func49, Tryz.ntmps49
  go_wp2_with fail
  refine hway.mono ?_
  rintro e w1 ⟨rfl, hw1⟩
  subst w1
  go_wp2_with fail
  refine hkind.mono ?_
  rintro e w1 ⟨rfl, hw1⟩
  subst w1
  go_wp2_with fail
  refine hem.mono ?_
  rintro e w1 ⟨rfl, hw1⟩
  subst w1
  go_wp2_with fail
  refine hgone.mono ?_
  rintro x w2 ⟨rfl, HD2, HF2⟩
  obtain ⟨u1, u2, u3⟩ := put6_all (V := w2) HD2.out (HFW.out.trans HF2.out) (Nat.le_succ _) (HNX.out w2 HF2.out ()) (.int .i64 0) (.string { data := #[] }) (.int .i64 0) (.slice none 0 0) (.int .i64 0) (.int .i64 0)
  have HU1 : Hid (Unit → _) := fun _ => u1
  have HU2 : Hid _ := u2
  have HU3 : Hid _ := u3
  clear u1 u2 u3
  have k2 := HNX.out w2 HF2.out ()
  obtain ⟨v0, v1, v2, v3, v4, v5⟩ := cells6 k2
  have fz2 : ∀ j, w2.frozen? ⟨w.heap.size + 1, j, none⟩ = false := fun j => frozen_of_heap k2
  clear k2 hgone hway hkind hem
  go_wp2
  refine bodyPost_ret (results_cellt rfl _ _ (w.heap.size + 1) 33 _ (0, 0) _ rfl (HU1.out ()) Tryz.underlying33 rfl sizeRes) rfl ?_
  exact ⟨rfl, HU2, HU3⟩

end Go.Proofs.YtnfddiabhpandaaGreatDoor.Tr

namespace Go.Proofs.YtnfddiabhpandaaGreatDoor.Tr
open Go.RowKit Go.Lib Go.Deep

set_option maxRecDepth 20000 in
set_option maxHeartbeats 2000000 in
theorem look9L_any (w : World) (B b f d m : Nat) (L : List En) (h : Mdl w B b f d m L) {T : Ts} {dp : Nat → Nat} (hI : Inv T dp) (hM : Mo T L) (P : List ByteArray) (hP : Vd P) (oa on : Int) (ot od : ByteArray) (he : (fndA T P).2 = 0) (hk : kdT T P = 1) :
    Calls Tryz.prog 49 #[.pointer (some ⟨b, 0, none⟩), .agg #[.int .i64 9, .string (tx P), .string ot, .int .i64 oa, .int .i64 on, .string od]] w fun e w' => ∃ u, e = .returned (.tuple #[.agg #[.int .i64 0, .string { data := #[] }, .int .i64 0, u, .int .i64 0, .int .i64 0], .int .i64 0]) ∧ Hid (Pa.Own w' (w.heap.size + 2) u (nmsL P L)) ∧ Hid (Mdl w' B b f d m L) ∧ Hid (Mfr B w w' b) := by
  obtain ⟨W, hW, hb, k0, k1⟩ := op_new w #[.int .i64 9, .string (tx P), .string ot, .int .i64 oa, .int .i64 on, .string od]
  have hMW := h.below hb
  have hway := way_any W B b f d m L hMW hI hM P hP
  have hkind := kind_any W B b f d m L hMW hI hM P hP
  have HMW : Hid (Mdl W B b f d m L) := hMW
  have HFW : Hid (Mfr B w W b) := mfr_below hb
  have HK1 : Hid (Unit → _) := fun _ => k1
  have HK0 : Hid (Unit → _) := fun _ => k0
  obtain ⟨x0, x1, x2, x3, x4, x5⟩ := cells6 k0
  obtain ⟨z0, z1, z2, z3, z4, z5⟩ := cells6 k1
  have fz : ∀ j, W.frozen? ⟨w.heap.size + 1, j, none⟩ = false := fun j => frozen_of_heap k1
  rw [he] at hway
  rw [hk] at hkind
  have hnm := names_any W B b f d m L hMW P hP
  have hWs : W.heap.size = w.heap.size + 2 := by rw [← hW]; simp
  have HWS : Hid (W.heap.size = w.heap.size + 2) := hWs
  have HGB : Hid (∀ V, Below W.heap.size W V → Unit → V.heap[w.heap.size + 1]? = some (.cells #[.int .i64 0, .string { data := #[] }, .int .i64 0, .slice none 0 0, .int .i64 0, .int .i64 0] 33 (0, 0))) := fun V hb _ => (hb.block _ (heap_lt k1)).trans k1
  clear h hI hM hP hMW hb k0 k1
  clear he hk hWs
  generalize tx P = t at *
  go_enter Tryz.func49, Tryz.ntmps49
  go_wp2_with fail
  refine hway.mono ?_
  rintro e w1 ⟨rfl, hw1⟩
  subst w1
  go_wp2_with fail
  refine hkind.mono ?_
  rintro e w1 ⟨rfl, hw1⟩
  subst w1
  go_wp2_with fail
  refine hnm.mono ?_
  rintro e w2 ⟨u, rfl, HO, hb2⟩
  have HB2 : Hid _ := hb2
  obtain ⟨ua, uc, rfl⟩ := owns_form3 (show w2.ownsRow _ _ _ _ _ _ from HO.out)
  obtain ⟨nn, hnn⟩ : ∃ nn, (nmsL P L).length = nn := ⟨_, rfl⟩
  rw [hnn] at HO
  obtain ⟨u1, u2, u3⟩ := put6_all (V := w2) (HMW.out.below HB2.out) (HFW.out.trans (mfr_below HB2.out)) (Nat.le_succ _) (HGB.out w2 HB2.out ()) (.int .i64 0) (.string { data := #[] }) (.int .i64 0) (.slice ua nn uc) (.int .i64 0) (.int .i64 0)
  have HU1 : Hid (Unit → _) := fun _ => u1
  have HU2 : Hid _ := u2
  have HU3 : Hid _ := u3
  clear u1 u2 u3
  have HOX : Hid (∀ V : World, (∀ g, w.heap.size + 2 ≤ g → V.heap[g]? = w2.heap[g]?) → Pa.Own V (w.heap.size + 2) (.slice ua nn uc) (nmsL P L)) := fun V hV => by
    have h2 := HO.out
    rw [HWS.out] at h2
    exact owns_keep h2 fun g hg => hV g (h2.lt g hg).1
  have k2 := HGB.out w2 HB2.out ()
  obtain ⟨v0, v1, v2, v3, v4, v5⟩ := cells6 k2
  have fz2 : ∀ j, w2.frozen? ⟨w.heap.size + 1, j, none⟩ = false := fun j => frozen_of_heap k2
  clear k2 hway hkind hnm hb2
  rw [hnn]
  clear hnn
  go_wp2
  refine bodyPost_ret (results_cellt rfl _ _ (w.heap.size + 1) 33 _ (0, 0) _ rfl (HU1.out ()) Tryz.underlying33 rfl sizeRes) rfl ?_
  refine ⟨_, rfl, HOX.out _ (fun g hg => ?_), HU2, HU3⟩
  have hne : ∀ (V : World) (j : Nat) (y : Value), (V.setCell ⟨w.heap.size + 1, j, none⟩ y).heap[g]? = V.heap[g]? := fun V j y => heap_setCell_other _ _ _ _ (by show g ≠ w.heap.size + 1; omega)
  simp only [hne]

end Go.Proofs.YtnfddiabhpandaaGreatDoor.Tr

namespace Go.Proofs.YtnfddiabhpandaaGreatDoor.Tr
open Go.RowKit Go.Lib Go.Deep

theorem at_one {L : List En} (hn : (L.map (·.p)).Nodup) {i : Nat} {e : En} (hi : L[i]? = some e) {r : Int} (h : AtR L e.p r) : r = (i : Int) := by
  rcases h with ⟨_, h⟩ | ⟨j, e', rfl, h2, h3⟩
  · exact absurd rfl (h e (List.mem_of_getElem? hi))
  · have a1 : (L.map (·.p))[i]? = some e.p := by rw [List.getElem?_map, hi]; rfl
    have a2 : (L.map (·.p))[j]? = some e.p := by rw [List.getElem?_map, h2]; exact congrArg some h3
    have hl : i < (L.map (·.p)).length := by rw [List.length_map]; exact (List.getElem?_eq_some_iff.1 hi).1
    rw [(List.getElem?_inj hl hn).1 (a1.trans a2.symm)]

end Go.Proofs.YtnfddiabhpandaaGreatDoor.Tr

namespace Go.Proofs.YtnfddiabhpandaaGreatDoor.Tr
open Go.RowKit Go.Lib Go.Deep

theorem setRow_here {V : World} {g : Nat} {A : Array Value} {t : TypeId} (h : V.heap[g]? = some (.cells A t (0, 0))) (C : Array Value) : (V.setRow g C).heap[g]? = some (.cells C t (0, 0)) := by
  unfold World.setRow
  simp only [Array.getElem?_modify, h, if_true]
  rfl
theorem cell_setRow {V : World} {g k j : Nat} {C : Array Value} (h : k ≠ g) : (V.setRow g C).cell? ⟨k, j, none⟩ = V.cell? ⟨k, j, none⟩ := by
  simp only [World.cell?, setRow_other _ _ _ _ h]
theorem row_all {w V : World} {B b f d m g : Nat} {L : List En} {A : Array Value} (hm : Mdl V B b f d m L) (hf : Mfr B w V b) (hg : w.heap.size ≤ g) (h : V.heap[g]? = some (.cells A 33 (0, 0))) (C : Array Value) :
    (V.setRow g C).heap[g]? = some (.cells C 33 (0, 0)) ∧ Mdl (V.setRow g C) B b f d m L ∧ Mfr B w (V.setRow g C) b := by
  have hne : ∀ (k : Nat) (X : Array Value) (t : TypeId), V.heap[k]? = some (.cells X t (0, 0)) → t ≠ 33 → k ≠ g := fun k X t hk ht e => by
    rw [e, h] at hk
    injection hk with hk
    injection hk with _ hk _
    exact ht hk.symm
  refine ⟨setRow_here h C, ?_, ⟨hf.os, hf.tape, hf.output, by rw [size_setRow]; exact hf.size, fun k o hk hb ho => (setRow_other _ _ _ _ (by have := heap_lt hk; omega)).trans (hf.block k o hk hb ho)⟩⟩
  obtain ⟨a, k, h1, h2⟩ := hm.row
  refine ⟨⟨a, k, (setRow_other _ _ _ _ (hne _ _ _ h1 (by decide))).trans h1, owns_keep h2 fun x hx => setRow_other _ _ _ _ ?_⟩, hm.vd, hm.nb⟩
  obtain ⟨cur, hc⟩ := owns_block h2 hx
  exact hne _ _ _ hc (by decide)

set_option maxRecDepth 20000 in
set_option maxHeartbeats 3000000 in
theorem look10F_any (w : World) (B b f d m : Nat) (L : List En) (h : Mdl w B b f d m L) (_hB : B ≤ w.heap.size) {T : Ts} {dp : Nat → Nat} (hI : Inv T dp) (hM : Mo T L) (P : List ByteArray) (hP : Vd P) (oa on : Int) (ot od : ByteArray) (he : (fndA T P).2 = 0) (hk : kdT T P = 2) :
    Calls Tryz.prog 49 #[.pointer (some ⟨b, 0, none⟩), .agg #[.int .i64 10, .string (tx P), .string ot, .int .i64 oa, .int .i64 on, .string od]] w fun e w' => e = .returned (.tuple #[.agg #[.int .i64 0, .string { data := #[] }, .int .i64 0, .slice none 0 0, .int .i64 2, .int .i64 (szF T (fndA T P).1.no : Int)], .int .i64 0]) ∧ Hid (Mdl w' B b f d m L) ∧ Hid (Mfr B w w' b) := by
  obtain ⟨W, hW, hb, k0, k1⟩ := op_new w #[.int .i64 10, .string (tx P), .string ot, .int .i64 oa, .int .i64 on, .string od]
  have hMW := h.below hb
  have hway := way_any W B b f d m L hMW hI hM P hP
  have hkind := kind_any W B b f d m L hMW hI hM P hP
  have HMW : Hid (Mdl W B b f d m L) := hMW
  have HFW : Hid (Mfr B w W b) := mfr_below hb
  have HK1 : Hid (Unit → _) := fun _ => k1
  have HK0 : Hid (Unit → _) := fun _ => k0
  obtain ⟨x0, x1, x2, x3, x4, x5⟩ := cells6 k0
  obtain ⟨z0, z1, z2, z3, z4, z5⟩ := cells6 k1
  have fz : ∀ j, W.frozen? ⟨w.heap.size + 1, j, none⟩ = false := fun j => frozen_of_heap k1
  rw [he] at hway
  rw [hk] at hkind
  have hPn : P ≠ [] := fun e => by subst e; exact absurd (show (1 : Nat) = 2 from hk) (by decide)
  have hmem := (kd_mem hI hM hP.nm hPn (by omega)).1
  obtain ⟨i, hi⟩ := List.mem_iff_getElem?.1 hmem
  have hsz : szE T (kdT T P, (fndA T P).1.no) = szF T (fndA T P).1.no := by unfold szE; rw [if_pos hk]
  rw [hsz] at hi
  obtain ⟨s, hs⟩ : ∃ s, szF T (fndA T P).1.no = s := ⟨_, rfl⟩
  rw [hs] at hi ⊢
  have HAT : Hid (∀ V, Below W.heap.size W V → Calls Tryz.prog 85 #[.pointer (some ⟨b, 0, none⟩), .string (tx P)] V fun e w' => e = .returned (.int .i64 (i : Int)) ∧ w' = V) := fun V hV => (at_any V B b f d m L (hMW.below hV) P hP).mono fun e w' ⟨⟨r, h1, h2⟩, h3⟩ => ⟨by rw [h1, at_one hM.nd hi h2], h3⟩
  have HAT0 := HAT.out W (Below.refl _ _)
  have HAT1 := HAT.out W.drew (Below.refl _ _).drew
  obtain ⟨a, c, hrd⟩ := hMW.rd
  have c3 := hrd.c3
  have hin := (List.getElem?_eq_some_iff.1 hi).1
  obtain ⟨g, rfl, y0, y1, y2⟩ := hrd.at_ i _ hi
  have hgne : g ≠ w.heap.size + 1 := by
    obtain ⟨a', k', r1, r2⟩ := hMW.row
    have c4 : W.cell? ⟨b, 3, none⟩ = some (.slice a' L.length k') := (cell_of_heap r1).trans rfl
    rw [hrd.c3] at c4
    injection c4 with c4
    injection c4 with e1 _ e2
    subst e1
    obtain ⟨cur, hc⟩ := owns_block r2 (k := g) rfl
    intro e
    rw [e, k1] at hc
    injection hc with hc
    injection hc with _ hc _
    exact absurd hc (by decide)
  have hbne : b ≠ w.heap.size + 1 := by
    obtain ⟨a', k', r1, r2⟩ := h.row
    have := heap_lt r1
    omega
  simp only at y2
  have hnb := h.nb
  obtain ⟨n, hn⟩ : ∃ n, L.length = n := ⟨_, rfl⟩
  rw [hn] at hnb c3 hin
  have hinI : (i : Int) < (n : Int) := by omega
  have hi0 : ¬ (i : Int) < 0 := by omega
  have c3' : W.drew.cell? ⟨b, 3, none⟩ = _ := c3
  have y2' : W.drew.cell? ⟨g, i * 3 + 2, none⟩ = _ := y2
  have x1' : W.drew.cell? ⟨w.heap.size, 1, none⟩ = _ := x1
  have z0' : W.drew.cell? ⟨w.heap.size + 1, 0, none⟩ = _ := z0
  have z1' : W.drew.cell? ⟨w.heap.size + 1, 1, none⟩ = _ := z1
  have z2' : W.drew.cell? ⟨w.heap.size + 1, 2, none⟩ = _ := z2
  have z3' : W.drew.cell? ⟨w.heap.size + 1, 3, none⟩ = _ := z3
  have z4' : W.drew.cell? ⟨w.heap.size + 1, 4, none⟩ = _ := z4
  have z5' : W.drew.cell? ⟨w.heap.size + 1, 5, none⟩ = _ := z5
  have fz' : ∀ j, W.drew.frozen? ⟨w.heap.size + 1, j, none⟩ = false := fz
  obtain ⟨u1, u2, u3⟩ := row_all (V := W.drew) (HMW.out.below (Below.refl _ _).drew) (HFW.out.trans (mfr_below (Below.refl _ _).drew)) (Nat.le_succ _) (HK1.out ()) #[.int .i64 0, .string { data := #[] }, .int .i64 0, .slice none 0 0, .int .i64 2, .int .i64 (s : Int)]
  have HU1 : Hid (Unit → _) := fun _ => u1
  have HU2 : Hid _ := u2
  have HU3 : Hid _ := u3
  have HSS : Hid ((W.drew.setRow (w.heap.size + 1) #[.int .i64 0, .string { data := #[] }, .int .i64 0, .slice none 0 0, .int .i64 2, .int .i64 (s : Int)]).cell? ⟨b, 3, none⟩ = some (.slice (some ⟨g, 0, none⟩) n c) ∧ (W.drew.setRow (w.heap.size + 1) #[.int .i64 0, .string { data := #[] }, .int .i64 0, .slice none 0 0, .int .i64 2, .int .i64 (s : Int)]).cell? ⟨w.heap.size, 1, none⟩ = some (.string (tx P)) ∧ (W.drew.setRow (w.heap.size + 1) #[.int .i64 0, .string { data := #[] }, .int .i64 0, .slice none 0 0, .int .i64 2, .int .i64 (s : Int)]).cell? ⟨g, i * 3 + 2, none⟩ = some (.int .i64 (s : Int))) := by
    refine ⟨(cell_setRow hbne).trans c3', (cell_setRow (by omega)).trans x1', (cell_setRow hgne).trans y2'⟩
  clear u1 u2 u3 hbne hgne
  clear h hI hM hP hMW hb k0 k1
  clear he hk hn hs hsz hmem hi hrd hPn y0 y1
  generalize tx P = t at *
  go_enter Tryz.func49, Tryz.ntmps49
  go_wp2_with fail
  refine hway.mono ?_
  rintro e w1 ⟨rfl, hw1⟩
  subst w1
  go_wp2_with fail
  refine hkind.mono ?_
  rintro e w1 ⟨rfl, hw1⟩
  subst w1
  go_wp2_with fail
  -- REGION
  refine wp_region_held_drew (S := fun X => X.cell? ⟨b, 3, none⟩ = some (.slice (some ⟨g, 0, none⟩) n c) ∧ X.cell? ⟨w.heap.size, 1, none⟩ = some (.string t) ∧ X.cell? ⟨g, i * 3 + 2, none⟩ = some (.int .i64 (s : Int))) (by kernel_rfl) ⟨c3', x1', y2'⟩ ?_
  intro hS
  refine wpAnyH_take (i := 0) (oi := { dst := some 48, op := .move (.tmp 0), type := _, pos := _, after := _, guard := none }) (v := .pointer (some ⟨b, 0, none⟩)) rfl (by kernel_rfl) (by kernel_rfl) (by kernel_rfl) (fun _ _ _ h => h) (Or.inl ⟨by rfl, by intro x _; go_simp⟩) hS ?_
  (try simp only [Act.put, List.setIfInBounds_toArray, List.set_cons_zero, List.set_cons_succ])
  refine wpAnyH_take (i := 1) (oi := { dst := some 49, op := .nilCheck (.tmp 48), type := _, pos := _, after := _, guard := none }) (v := .pointer (some ⟨b, 0, none⟩)) rfl (by kernel_rfl) (by kernel_rfl) (by kernel_rfl) (fun _ _ _ h => h) (Or.inl ⟨by rfl, by intro x _; go_simp⟩) hS ?_
  (try simp only [Act.put, List.setIfInBounds_toArray, List.set_cons_zero, List.set_cons_succ])
  refine wpAnyH_take (i := 2) (oi := { dst := some 50, op := .fieldAddr 62 (.tmp 49) 3, type := _, pos := _, after := _, guard := none }) (v := .pointer (some ⟨b, 3, none⟩)) rfl (by kernel_rfl) (by kernel_rfl) (by kernel_rfl) (fun _ _ _ h => h) (Or.inl ⟨by rfl, by intro x _; go_simp⟩) hS ?_
  (try simp only [Act.put, List.setIfInBounds_toArray, List.set_cons_zero, List.set_cons_succ])
  refine wpAnyH_take (i := 3) (oi := { dst := some 51, op := .load 60 (.tmp 50), type := _, pos := _, after := _, guard := none }) (v := .slice (some ⟨g, 0, none⟩) n c) rfl (by kernel_rfl) (by kernel_rfl) (by kernel_rfl) (fun _ _ _ h => h) (Or.inl ⟨by rfl, by intro x hx; have h1 := hx.1; go_simp⟩) hS ?_
  (try simp only [Act.put, List.setIfInBounds_toArray, List.set_cons_zero, List.set_cons_succ])
  refine wpAnyH_take (i := 4) (oi := { dst := some 52, op := .move (.tmp 0), type := _, pos := _, after := _, guard := none }) (v := .pointer (some ⟨b, 0, none⟩)) rfl (by kernel_rfl) (by kernel_rfl) (by kernel_rfl) (fun _ _ _ h => h) (Or.inl ⟨by rfl, by intro x _; go_simp⟩) hS ?_
  (try simp only [Act.put, List.setIfInBounds_toArray, List.set_cons_zero, List.set_cons_succ])
  refine wpAnyH_take (i := 5) (oi := { dst := some 53, op := .fieldAddr 39 (.tmp 3) 1, type := _, pos := _, after := _, guard := none }) (v := .pointer (some ⟨w.heap.size, 1, none⟩)) rfl (by kernel_rfl) (by kernel_rfl) (by kernel_rfl) (fun _ _ _ h => h) (Or.inl ⟨by rfl, by intro x _; go_simp⟩) hS ?_
  (try simp only [Act.put, List.setIfInBounds_toArray, List.set_cons_zero, List.set_cons_succ])
  refine wpAnyH_take (i := 6) (oi := { dst := some 54, op := .load 9 (.tmp 53), type := _, pos := _, after := _, guard := none }) (v := .string t) rfl (by kernel_rfl) (by kernel_rfl) (by kernel_rfl) (fun _ _ _ h => h) (Or.inl ⟨by rfl, by intro x hx; have h1 := hx.2.1; go_simp⟩) hS ?_
  (try simp only [Act.put, List.setIfInBounds_toArray, List.set_cons_zero, List.set_cons_succ])
  refine wpAnyH_ready (rs := [7]) (by kernel_rfl) (by simp) ?_
  refine AllReadyH.cons (o := { dst := some 55, op := .call { callee := .value (.func 85), args := #[.tmp 52, .tmp 54], argTypes := #[59, 9] }, type := _, pos := _, after := _, guard := none }) rfl (fun K hK => ?_) AllReadyH.nil
  go_simp
  refine HAT1.mono ?_
  rintro e w6 ⟨rfl, hw6⟩
  subst w6
  refine hK.out _ _ hS (fun _ => ?_)
  clear hK K
  (try simp only [Act.put, List.setIfInBounds_toArray, List.set_cons_zero, List.set_cons_succ])
  refine wpAnyH_take (i := 8) (oi := { dst := some 56, op := .indexAddr 60 (.tmp 51) (.tmp 55), type := _, pos := _, after := _, guard := none }) (v := .pointer (some ⟨g, i * 3, none⟩)) rfl (by kernel_rfl) (by kernel_rfl) (by kernel_rfl) (fun _ _ _ h => h) (Or.inl ⟨by rfl, by intro x _; go_simp⟩) hS ?_
  (try simp only [Act.put, List.setIfInBounds_toArray, List.set_cons_zero, List.set_cons_succ])
  refine wpAnyH_take (i := 9) (oi := { dst := some 57, op := .fieldAddr 66 (.tmp 56) 2, type := _, pos := _, after := _, guard := none }) (v := .pointer (some ⟨g, i * 3 + 2, none⟩)) rfl (by kernel_rfl) (by kernel_rfl) (by kernel_rfl) (fun _ _ _ h => h) (Or.inl ⟨by rfl, by intro x _; go_simp⟩) hS ?_
  (try simp only [Act.put, List.setIfInBounds_toArray, List.set_cons_zero, List.set_cons_succ])
  refine wpAnyH_take (i := 10) (oi := { dst := some 58, op := .load 3 (.tmp 57), type := _, pos := _, after := _, guard := none }) (v := .int .i64 (s : Int)) rfl (by kernel_rfl) (by kernel_rfl) (by kernel_rfl) (fun _ _ _ h => h) (Or.inl ⟨by rfl, by intro x hx; have h1 := hx.2.2; go_simp⟩) hS ?_
  (try simp only [Act.put, List.setIfInBounds_toArray, List.set_cons_zero, List.set_cons_succ])
  refine wpAnyH_take (i := 11) (oi := { dst := some 59, op := .build 33 #[(4, .const (.int .i64 2)), (5, .tmp 58)], type := _, pos := _, after := _, guard := none }) (v := .agg #[.int .i64 0, .string { data := #[] }, .int .i64 0, .slice none 0 0, .int .i64 2, .int .i64 (s : Int)]) rfl (by kernel_rfl) (by kernel_rfl) (by kernel_rfl) (fun _ _ _ h => h) (Or.inl ⟨by rfl, by intro x _; go_simp⟩) hS ?_
  (try simp only [Act.put, List.setIfInBounds_toArray, List.set_cons_zero, List.set_cons_succ])
  refine wpAnyH_ready (rs := [12]) (by kernel_rfl) (by simp) ?_
  refine AllReadyH.cons (o := { dst := none, op := .store 33 (.tmp 4) (.tmp 59), type := _, pos := _, after := _, guard := none }) rfl (fun K hK => ?_) AllReadyH.nil
  refine step_store_row rfl 33 (.tmp 4) (.tmp 59) rfl (w.heap.size + 1) #[.int .i64 0, .string { data := #[] }, .int .i64 0, .slice none 0 0, .int .i64 2, .int .i64 (s : Int)] (by simp [Act.eval]) (by simp [Act.eval]) 33 _ (HK1.out ()) sizeRes rfl (by simp [Value.oneCell']) ?_
  refine hK.out _ _ HSS.out (fun _ => ?_)
  clear hK K hS
  (try simp only [Act.put])
  have hS := HSS.out
  refine wpAnyH_take (i := 13) (oi := { dst := some 5, op := .assign (.const (.int .i64 0)), type := _, pos := _, after := _, guard := none }) (v := .int .i64 0) rfl (by kernel_rfl) (by kernel_rfl) (by kernel_rfl) (fun _ _ _ h => h) (Or.inl ⟨by rfl, by intro x _; go_simp⟩) hS ?_
  (try simp only [Act.put, List.setIfInBounds_toArray, List.set_cons_zero, List.set_cons_succ])
  refine wpAnyH_done (by kernel_rfl) ?_ _
  clear hS
  go_wp2_with fail
  refine bodyPost_ret (results_cellt rfl _ _ (w.heap.size + 1) 33 _ (0, 0) _ rfl (HU1.out ()) Tryz.underlying33 rfl sizeRes) rfl ?_
  exact ⟨rfl, HU2, HU3⟩

end Go.Proofs.YtnfddiabhpandaaGreatDoor.Tr
