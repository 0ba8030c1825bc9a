import Derived.Test.YtnfddiabhpandaaGreatDoorHmM
namespace Go.Proofs.YtnfddiabhpandaaGreatDoor.Tr
open Go.RowKit Go.Lib Go.Deep

set_option maxRecDepth 20000 in
set_option maxHeartbeats 2000000 in
theorem touchE1 (w : World) (B b f d m : Nat) (L : List En) (h : Mdl w B b f d m L) {T : Ts} {dp : Nat → Nat} (hI : Inv T dp) (hM : Mo T L) (P : List ByteArray) (hP : Vd P) (ok oa on : Int) (ot od : ByteArray) (hnil : P = []) (herr : (fndF T P).2 ≠ 0) :
    Calls Tryz.prog 50 #[.pointer (some ⟨b, 0, none⟩), .agg #[.int .i64 ok, .string (tx P), .string ot, .int .i64 oa, .int .i64 on, .string od]] w fun e w' => e = .returned (.tuple #[.agg #[.int .i64 0, .string { data := #[] }, .int .i64 0, .slice none 0 0, .int .i64 0, .int .i64 0], .int .i64 (fndF T P).2]) ∧ Hid (Mdl w' B b f d m L) ∧ Hid (Mfr B w w' b) := by
  obtain ⟨W, hW, hb, k0, k1⟩ := op_new w #[.int .i64 ok, .string (tx P), .string ot, .int .i64 oa, .int .i64 on, .string od]
  have hMW := h.below hb
  have hway := way_any W B b f d m L hMW hI hM P hP
  have hat := at_any W B b f d m L hMW P hP
  obtain ⟨a, c, hrd⟩ := hMW.rd
  have HR : Hid (Rd W b f d m L.length a c L) := hrd
  have c3 := hrd.c3
  have hnb := h.nb
  obtain ⟨u1, u2, u3⟩ := put6_all hMW (mfr_below (b := b) hb) (Nat.le_succ _) k1 (.int .i64 0) (.string { data := #[] }) (.int .i64 0) (.slice none 0 0) (.int .i64 0) (.int .i64 0)
  have HU1 : Hid (Unit → _) := fun _ => u1
  have HU2 : Hid _ := u2
  have HU3 : Hid _ := u3
  obtain ⟨x0, x1, x2, x3, x4, x5⟩ := cells6 k0
  obtain ⟨z0, z1, z2, z3, z4, z5⟩ := cells6 k1
  have fz : ∀ j, W.frozen? ⟨w.heap.size + 1, j, none⟩ = false := fun j => frozen_of_heap k1
  obtain ⟨E, hE⟩ : ∃ E, (fndF T P).2 = E := ⟨_, rfl⟩
  have HE : Hid ((fndF T P).2 = E) := hE
  rw [hE] at herr ⊢
  obtain ⟨n, hn⟩ : ∃ n, L.length = n := ⟨_, rfl⟩
  rw [hn] at HR hnb c3
  clear hE hn k0 k1 u1 u2 u3 hrd hMW h hb
  have ht : tx P = { data := #[47] } := (tx_nil hP).2 hnil
  obtain rfl : E = 123 := by rw [← HE.out]; subst hnil; rfl
  rw [ht] at hway hat x1 hW ⊢
  clear ht hnil HE
  generalize (fndA T P).2 = F at *
  go_enter Tryz.func50, Tryz.ntmps50
  go_wp2_with fail
  refine hway.mono ?_
  rintro e w1 ⟨rfl, hw1⟩
  subst w1
  go_wp2_with fail
  refine hat.mono ?_
  rintro e w1 ⟨⟨r, rfl, har⟩, hw1⟩
  subst w1
  clear har
  go_wp2
  refine bodyPost_ret (results_cellt rfl _ _ (w.heap.size + 1) 33 _ (0, 0) _ rfl (HU1.out ()) Tryz.underlying33 rfl sizeRes) rfl ?_
  exact ⟨rfl, HU2, HU3⟩

end Go.Proofs.YtnfddiabhpandaaGreatDoor.Tr

namespace Go.Proofs.YtnfddiabhpandaaGreatDoor.Tr
open Go.RowKit Go.Lib Go.Deep

set_option maxRecDepth 20000 in
set_option maxHeartbeats 2000000 in
theorem touchE2 (w : World) (B b f d m : Nat) (L : List En) (h : Mdl w B b f d m L) {T : Ts} {dp : Nat → Nat} (hI : Inv T dp) (hM : Mo T L) (P : List ByteArray) (hP : Vd P) (ok oa on : Int) (ot od : ByteArray) (hnil : P ≠ []) (he : (fndA T P).2 = 0) (herr : (fndF T P).2 ≠ 0) :
    Calls Tryz.prog 50 #[.pointer (some ⟨b, 0, none⟩), .agg #[.int .i64 ok, .string (tx P), .string ot, .int .i64 oa, .int .i64 on, .string od]] w fun e w' => e = .returned (.tuple #[.agg #[.int .i64 0, .string { data := #[] }, .int .i64 0, .slice none 0 0, .int .i64 0, .int .i64 0], .int .i64 (fndF T P).2]) ∧ Hid (Mdl w' B b f d m L) ∧ Hid (Mfr B w w' b) := by
  obtain ⟨W, hW, hb, k0, k1⟩ := op_new w #[.int .i64 ok, .string (tx P), .string ot, .int .i64 oa, .int .i64 on, .string od]
  have hMW := h.below hb
  have hway := way_any W B b f d m L hMW hI hM P hP
  have hat := at_any W B b f d m L hMW P hP
  obtain ⟨a, c, hrd⟩ := hMW.rd
  have HR : Hid (Rd W b f d m L.length a c L) := hrd
  have c3 := hrd.c3
  have hnb := h.nb
  obtain ⟨u1, u2, u3⟩ := put6_all hMW (mfr_below (b := b) hb) (Nat.le_succ _) k1 (.int .i64 0) (.string { data := #[] }) (.int .i64 0) (.slice none 0 0) (.int .i64 0) (.int .i64 0)
  have HU1 : Hid (Unit → _) := fun _ => u1
  have HU2 : Hid _ := u2
  have HU3 : Hid _ := u3
  obtain ⟨x0, x1, x2, x3, x4, x5⟩ := cells6 k0
  obtain ⟨z0, z1, z2, z3, z4, z5⟩ := cells6 k1
  have fz : ∀ j, W.frozen? ⟨w.heap.size + 1, j, none⟩ = false := fun j => frozen_of_heap k1
  obtain ⟨E, hE⟩ : ∃ E, (fndF T P).2 = E := ⟨_, rfl⟩
  have HE : Hid ((fndF T P).2 = E) := hE
  rw [hE] at herr ⊢
  obtain ⟨n, hn⟩ : ∃ n, L.length = n := ⟨_, rfl⟩
  rw [hn] at HR hnb c3
  clear hE hn k0 k1 u1 u2 u3 hrd hMW h hb
  have hrn := root_ne hP hnil
  rw [he] at hway
  have HK : Hid (∀ e ∈ L, e.p = P → (fndA T P).1.kd = e.kd) := fun e hem hp => by
    have h1 := (mem_kd hM hem).1
    rw [hp] at h1
    unfold kdT at h1
    rw [if_pos he] at h1
    exact h1
  have HK0 : Hid ((∀ e ∈ L, e.p ≠ P) → E = 120) := fun h0 => by
    have hk0 : (fndA T P).1.kd = 0 := Classical.byContradiction fun hk => h0 _ (kd_mem hI hM hP.nm hnil (by unfold kdT; rw [if_pos he]; exact hk)).1 rfl
    rw [← HE.out]
    have hs : fndS T P = (Sp.zero, 120) := by unfold fndS; rw [if_pos ⟨he, hk0⟩]
    unfold fndF
    rw [hs]
    rfl
  have HK1 : Hid ((fndA T P).1.kd = 1 → E = 123) := fun hk => by
    rw [← HE.out]
    have hs : fndS T P = fndA T P := by unfold fndS; rw [if_neg (by rintro ⟨_, e⟩; omega)]
    unfold fndF
    rw [hs, if_pos ⟨he, hk⟩]
  have HK2 : Hid ((fndA T P).1.kd = 2 → False) := fun hk => by
    have hs : fndS T P = fndA T P := by unfold fndS; rw [if_neg (by rintro ⟨_, e⟩; omega)]
    apply herr
    rw [← HE.out]
    unfold fndF
    rw [hs, if_neg (by rintro ⟨_, e⟩; omega)]
    exact he
  have HKK : Hid (∀ e ∈ L, e.kd = 1 ∨ e.kd = 2) := fun e hem => by
    obtain ⟨no, h1, _⟩ := (hM.mem e).1 hem
    exact (is_ok hI h1).2.2
  clear hnil he herr hP hI hM
  generalize tx P = t at *
  go_enter Tryz.func50, Tryz.ntmps50
  go_wp2_with fail
  refine hway.mono ?_
  rintro e w1 ⟨rfl, hw1⟩
  subst w1
  go_wp2_with fail
  refine hat.mono ?_
  rintro e w1 ⟨⟨r, rfl, har⟩, hw1⟩
  subst w1
  rcases har with ⟨rfl, h0⟩ | ⟨i, e, rfl, hi, hp⟩
  · obtain rfl : E = 120 := HK0.out h0
    clear h0 HE HK0 HK1 HK2
    go_wp2
    refine bodyPost_ret (results_cellt rfl _ _ (w.heap.size + 1) 33 _ (0, 0) _ rfl (HU1.out ()) Tryz.underlying33 rfl sizeRes) rfl ?_
    exact ⟨rfl, HU2, HU3⟩
  · have hem := List.mem_of_getElem? hi
    have hin := (List.getElem?_eq_some_iff.1 hi).1
    rw [HR.out.hn] at hin
    have hinI : (i : Int) < (n : Int) := by omega
    have hi0 : ¬ (i : Int) < 0 := by omega
    obtain ⟨g, rfl, y0, y1, y2⟩ := HR.out.at_ i e hi
    have hk := HK.out e hem hp
    rcases HKK.out e hem with hk1 | hk2
    · obtain rfl : E = 123 := HK1.out (hk.trans hk1)
      rw [hk1] at y1
      clear HE HK0 HK1 HK2 hi hp hk hk1 hem
      go_wp2
      refine bodyPost_ret (results_cellt rfl _ _ (w.heap.size + 1) 33 _ (0, 0) _ rfl (HU1.out ()) Tryz.underlying33 rfl sizeRes) rfl ?_
      exact ⟨rfl, HU2, HU3⟩
    · exact (HK2.out (hk.trans hk2)).elim

end Go.Proofs.YtnfddiabhpandaaGreatDoor.Tr

namespace Go.Proofs.YtnfddiabhpandaaGreatDoor.Tr
open Go.RowKit Go.Lib Go.Deep

set_option maxRecDepth 20000 in
set_option maxHeartbeats 2000000 in
theorem touchE3 (w : World) (B b f d m : Nat) (L : List En) (h : Mdl w B b f d m L) {T : Ts} {dp : Nat → Nat} (hI : Inv T dp) (hM : Mo T L) (P : List ByteArray) (hP : Vd P) (ok oa on : Int) (ot od : ByteArray) (hnil : P ≠ []) (he : ¬ (fndA T P).2 = 0) (herr : (fndF T P).2 ≠ 0) :
    Calls Tryz.prog 50 #[.pointer (some ⟨b, 0, none⟩), .agg #[.int .i64 ok, .string (tx P), .string ot, .int .i64 oa, .int .i64 on, .string od]] w fun e w' => e = .returned (.tuple #[.agg #[.int .i64 0, .string { data := #[] }, .int .i64 0, .slice none 0 0, .int .i64 0, .int .i64 0], .int .i64 (fndF T P).2]) ∧ Hid (Mdl w' B b f d m L) ∧ Hid (Mfr B w w' b) := by
  obtain ⟨W, hW, hb, k0, k1⟩ := op_new w #[.int .i64 ok, .string (tx P), .string ot, .int .i64 oa, .int .i64 on, .string od]
  have hMW := h.below hb
  have hway := way_any W B b f d m L hMW hI hM P hP
  have hat := at_any W B b f d m L hMW P hP
  obtain ⟨a, c, hrd⟩ := hMW.rd
  have HR : Hid (Rd W b f d m L.length a c L) := hrd
  have c3 := hrd.c3
  have hnb := h.nb
  obtain ⟨u1, u2, u3⟩ := put6_all hMW (mfr_below (b := b) hb) (Nat.le_succ _) k1 (.int .i64 0) (.string { data := #[] }) (.int .i64 0) (.slice none 0 0) (.int .i64 0) (.int .i64 0)
  have HU1 : Hid (Unit → _) := fun _ => u1
  have HU2 : Hid _ := u2
  have HU3 : Hid _ := u3
  obtain ⟨x0, x1, x2, x3, x4, x5⟩ := cells6 k0
  obtain ⟨z0, z1, z2, z3, z4, z5⟩ := cells6 k1
  have fz : ∀ j, W.frozen? ⟨w.heap.size + 1, j, none⟩ = false := fun j => frozen_of_heap k1
  obtain ⟨E, hE⟩ : ∃ E, (fndF T P).2 = E := ⟨_, rfl⟩
  have HE : Hid ((fndF T P).2 = E) := hE
  rw [hE] at herr ⊢
  obtain ⟨n, hn⟩ : ∃ n, L.length = n := ⟨_, rfl⟩
  rw [hn] at HR hnb c3
  clear hE hn k0 k1 u1 u2 u3 hrd hMW h hb
  have hrn := root_ne hP hnil
  obtain rfl : E = (fndA T P).2 := by
    rw [← HE.out]
    have hs : fndS T P = fndA T P := by unfold fndS; rw [if_neg (fun e => he e.1)]
    unfold fndF
    rw [hs, if_neg (fun e => he e.1)]
  have heb : ((fndA T P).2 == 0) = false := by simpa using he
  clear HE herr hnil hP hI hM
  generalize tx P = t at *
  generalize (fndA T P).2 = F at *
  go_enter Tryz.func50, Tryz.ntmps50
  go_wp2_with fail
  refine hway.mono ?_
  rintro e w1 ⟨rfl, hw1⟩
  subst w1
  go_wp2_with fail
  refine hat.mono ?_
  rintro e w1 ⟨⟨r, rfl, har⟩, hw1⟩
  subst w1
  clear har
  go_wp2
  refine bodyPost_ret (results_cellt rfl _ _ (w.heap.size + 1) 33 _ (0, 0) _ rfl (HU1.out ()) Tryz.underlying33 rfl sizeRes) rfl ?_
  exact ⟨rfl, HU2, HU3⟩

end Go.Proofs.YtnfddiabhpandaaGreatDoor.Tr

namespace Go.Proofs.YtnfddiabhpandaaGreatDoor.Tr
open Go.RowKit Go.Lib Go.Deep

set_option maxRecDepth 20000 in
set_option maxHeartbeats 400000 in
theorem touchE_any (w : World) (B b f d m : Nat) (L : List En) (h : Mdl w B b f d m L) {T : Ts} {dp : Nat → Nat} (hI : Inv T dp) (hM : Mo T L) (P : List ByteArray) (hP : Vd P) (ok oa on : Int) (ot od : ByteArray) (herr : (fndF T P).2 ≠ 0) :
    Calls Tryz.prog 50 #[.pointer (some ⟨b, 0, none⟩), .agg #[.int .i64 ok, .string (tx P), .string ot, .int .i64 oa, .int .i64 on, .string od]] w fun e w' => e = .returned (.tuple #[.agg #[.int .i64 0, .string { data := #[] }, .int .i64 0, .slice none 0 0, .int .i64 0, .int .i64 0], .int .i64 (fndF T P).2]) ∧ Hid (Mdl w' B b f d m L) ∧ Hid (Mfr B w w' b) := by
  by_cases hnil : P = []
  · exact touchE1 w B b f d m L h hI hM P hP ok oa on ot od hnil herr
  by_cases he : (fndA T P).2 = 0
  · exact touchE2 w B b f d m L h hI hM P hP ok oa on ot od hnil he herr
  · exact touchE3 w B b f d m L h hI hM P hP ok oa on ot od hnil he herr

end Go.Proofs.YtnfddiabhpandaaGreatDoor.Tr
