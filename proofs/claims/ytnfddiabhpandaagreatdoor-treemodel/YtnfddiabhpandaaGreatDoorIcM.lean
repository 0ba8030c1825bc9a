import Derived.Test.YtnfddiabhpandaaGreatDoorHoM
import Derived.Test.YtnfddiabhpandaaGreatDoorHtM
namespace Go.Proofs.YtnfddiabhpandaaGreatDoor.Tr
open Go.RowKit Go.Lib Go.Deep

/-- the entry of a file -/
theorem file_en {T : Ts} {dp : Nat → Nat} (hI : Inv T dp) {L : List En} (hM : Mo T L) {P : List ByteArray} (hP : Vd P) (h0 : (fndF T P).2 = 0) : P ≠ [] ∧ (fndA T P).2 = 0 ∧ (∀ r, AtR L P r → ∃ (i : Nat) (e : En), r = (i : Int) ∧ L[i]? = some e ∧ e.p = P ∧ e.kd = 2 ∧ e.sz = szF T (fndF T P).1.no) := by
  obtain ⟨e1, e2, e3, e4⟩ := file_is hI hP.nm h0
  have hA : (fndA T P).2 = 0 := by rw [← e1]; exact h0
  have hk : kdT T P = 2 := by unfold kdT; rw [if_pos hA, e3]
  refine ⟨e2, hA, fun r hr => ?_⟩
  rcases hr with ⟨_, hno⟩ | ⟨i, e, h1, h2, h3⟩
  · exact absurd rfl (hno _ (kd_mem hI hM hP.nm e2 (by omega)).1)
  · have hem := List.mem_of_getElem? h2
    obtain ⟨m1, m2, m3⟩ := mem_kd hM hem
    rw [h3] at m1 m3
    refine ⟨i, e, h1, h2, h3, m1.symm.trans hk, ?_⟩
    rw [m3, e1, ← m1, hk]
    unfold szE
    rw [if_pos rfl]
/-- the result's room lies elsewhere -/
theorem room_keep {w W V : World} {B b f d m g : Nat} {L : List En} {A : Array Value} (h : Mdl w B b f d m L) (hf : Mfr B W V b) (hg : w.heap.size ≤ g) (hk : W.heap[g]? = some (.cells A 33 (0, 0))) : V.heap[g]? = some (.cells A 33 (0, 0)) := by
  obtain ⟨a, k, h1, _⟩ := h.row
  have := heap_lt h1
  refine hf.block g _ hk (by omega) (.inl fun c fr e => ?_)
  injection e with _ e _
  exact absurd e (by decide)

end Go.Proofs.YtnfddiabhpandaaGreatDoor.Tr

namespace Go.Proofs.YtnfddiabhpandaaGreatDoor.Tr
open Go.RowKit Go.Lib Go.Deep

set_option maxRecDepth 20000 in
set_option maxHeartbeats 2000000 in
theorem touch3_any (w : World) (B b f d m : Nat) (L : List En) (h : Mdl w B b f d m L) (_hB : B ≤ w.heap.size) {T : Ts} {dp : Nat → Nat} (hI : Inv T dp) (hM : Mo T L) (P : List ByteArray) (hP : Vd P) (oa on : Int) (ot od : ByteArray) (h0 : (fndF T P).2 = 0) (hbd : szF T (fndF T P).1.no ≤ 100000) (ha0 : 0 ≤ oa) (hn0 : 0 ≤ on) :
    Calls Tryz.prog 50 #[.pointer (some ⟨b, 0, none⟩), .agg #[.int .i64 3, .string (tx P), .string ot, .int .i64 oa, .int .i64 on, .string od]] w fun e w' => e = .returned (.tuple #[.agg #[.int .i64 0, .string { data := #[] }, .int .i64 (min on (max ((szF T (fndF T P).1.no : Int) - oa) 0)), .slice none 0 0, .int .i64 0, .int .i64 0], .int .i64 0]) ∧ Hid (Mdl w' B b f d m L) ∧ Hid (Mfr B w w' b) := by
  obtain ⟨W, hW, hb, k0, k1⟩ := op_new w #[.int .i64 3, .string (tx P), .string ot, .int .i64 oa, .int .i64 on, .string od]
  have hMW := h.below hb
  obtain ⟨hPn, hA, hen⟩ := file_en hI hM hP h0
  have HEN : Hid _ := hen
  have hway := way_any W B b f d m L hMW hI hM P hP
  rw [hA] at hway
  have hat := at_any W B b f d m L hMW P hP
  have hrn := root_ne hP hPn
  obtain ⟨a, c, hrd⟩ := hMW.rd
  have HR : Hid (Rd W b f d m L.length a c L) := hrd
  have c3 := hrd.c3
  have c2 := hrd.c2
  have hnb := h.nb
  have HMW : Hid (Mdl W B b f d m L) := hMW
  have HFW : Hid (Mfr B w W b) := mfr_below hb
  have HK1 : Hid (Unit → _) := fun _ => k1
  obtain ⟨x0, x1, x2, x3, x4, x5⟩ := cells6 k0
  obtain ⟨z0, z1, z2, z3, z4, z5⟩ := cells6 k1
  have fz : ∀ j, W.frozen? ⟨w.heap.size + 1, j, none⟩ = false := fun j => frozen_of_heap k1
  obtain ⟨n, hn⟩ : ∃ n, L.length = n := ⟨_, rfl⟩
  have HN : Hid (L.length = n) := hn
  rw [hn] at HR hnb c3
  obtain ⟨s, hs⟩ : ∃ s, szF T (fndF T P).1.no = s := ⟨_, rfl⟩
  have HS : Hid (szF T (fndF T P).1.no = s) := hs
  rw [hs] at hbd
  clear hs hn k0 k1 hrd hen
  rw [HS.out]
  obtain ⟨Z, hZ⟩ : ∃ Z : Int, min on (max ((s : Int) - oa) 0) = Z := ⟨_, rfl⟩
  rw [hZ]
  obtain ⟨u1, u2, u3⟩ := put6_all (V := W) HMW.out HFW.out (Nat.le_succ _) (HK1.out ()) (.int .i64 0) (.string { data := #[] }) (.int .i64 Z) (.slice none 0 0) (.int .i64 0) (.int .i64 0)
  have HU1 : Hid (Unit → _) := fun _ => u1
  have HU2 : Hid _ := u2
  have HU3 : Hid _ := u3
  clear u1 u2 u3
  have hZ2 : Hid (min on (max ((s : Int) - oa) 0) = Z) := hZ
  have q1 : oa < (s : Int) → IntKind.i64.wrap ((s : Int) - oa) = (s : Int) - oa := fun h => by rw [IntKind.wrap_i64]; omega
  have Q1 : Hid _ := q1
  clear hZ h hI hM hP h0 hMW hb hPn hA q1
  generalize tx P = t at *
  by_cases hlt : oa < (s : Int)
  · have q1 := Q1.out hlt
    by_cases hlt2 : on < (s : Int) - oa
    · obtain rfl : Z = on := by rw [← hZ2.out]; omega
      clear hZ2
      go_enter Tryz.func50, Tryz.ntmps50
      go_wp2_with fail
      refine hway.mono ?_
      rintro e w1 ⟨rfl, hw1⟩
      subst w1
      go_wp2_with fail
      refine hat.mono ?_
      rintro e w1 ⟨⟨r, rfl, har⟩, hw1⟩
      subst w1
      obtain ⟨i, e, rfl, hi, hp, hk2, hsz⟩ := HEN.out r har
      have hin := (List.getElem?_eq_some_iff.1 hi).1
      rw [HN.out] at hin
      have hinI : (i : Int) < (n : Int) := by omega
      have hi0 : ¬ (i : Int) < 0 := by omega
      obtain ⟨g, rfl, y0, y1, y2⟩ := HR.out.at_ i e hi
      rw [hk2] at y1
      rw [hsz, HS.out] at y2
      clear HEN hi hp hk2 hsz har
      go_wp2
      refine bodyPost_ret (results_cellt rfl _ _ (w.heap.size + 1) 33 _ (0, 0) _ rfl (HU1.out ()) Tryz.underlying33 rfl sizeRes) rfl ?_
      exact ⟨rfl, HU2, HU3⟩
    · obtain rfl : Z = (s : Int) - oa := by rw [← hZ2.out]; omega
      clear hZ2
      go_enter Tryz.func50, Tryz.ntmps50
      go_wp2_with fail
      refine hway.mono ?_
      rintro e w1 ⟨rfl, hw1⟩
      subst w1
      go_wp2_with fail
      refine hat.mono ?_
      rintro e w1 ⟨⟨r, rfl, har⟩, hw1⟩
      subst w1
      obtain ⟨i, e, rfl, hi, hp, hk2, hsz⟩ := HEN.out r har
      have hin := (List.getElem?_eq_some_iff.1 hi).1
      rw [HN.out] at hin
      have hinI : (i : Int) < (n : Int) := by omega
      have hi0 : ¬ (i : Int) < 0 := by omega
      obtain ⟨g, rfl, y0, y1, y2⟩ := HR.out.at_ i e hi
      rw [hk2] at y1
      rw [hsz, HS.out] at y2
      clear HEN hi hp hk2 hsz har
      go_wp2
      refine bodyPost_ret (results_cellt rfl _ _ (w.heap.size + 1) 33 _ (0, 0) _ rfl (HU1.out ()) Tryz.underlying33 rfl sizeRes) rfl ?_
      exact ⟨rfl, HU2, HU3⟩
  · obtain rfl : Z = 0 := by rw [← hZ2.out]; omega
    have hlt2 : ¬ on < 0 := by omega
    clear hZ2
    go_enter Tryz.func50, Tryz.ntmps50
    go_wp2_with fail
    refine hway.mono ?_
    rintro e w1 ⟨rfl, hw1⟩
    subst w1
    go_wp2_with fail
    refine hat.mono ?_
    rintro e w1 ⟨⟨r, rfl, har⟩, hw1⟩
    subst w1
    obtain ⟨i, e, rfl, hi, hp, hk2, hsz⟩ := HEN.out r har
    have hin := (List.getElem?_eq_some_iff.1 hi).1
    rw [HN.out] at hin
    have hinI : (i : Int) < (n : Int) := by omega
    have hi0 : ¬ (i : Int) < 0 := by omega
    obtain ⟨g, rfl, y0, y1, y2⟩ := HR.out.at_ i e hi
    rw [hk2] at y1
    rw [hsz, HS.out] at y2
    clear HEN hi hp hk2 hsz har
    go_wp2
    refine bodyPost_ret (results_cellt rfl _ _ (w.heap.size + 1) 33 _ (0, 0) _ rfl (HU1.out ()) Tryz.underlying33 rfl sizeRes) rfl ?_
    exact ⟨rfl, HU2, HU3⟩

end Go.Proofs.YtnfddiabhpandaaGreatDoor.Tr

namespace Go.Proofs.YtnfddiabhpandaaGreatDoor.Tr
open Go.RowKit Go.Lib Go.Deep

set_option maxRecDepth 20000 in
set_option maxHeartbeats 2000000 in
theorem touch7_any (w : World) (B b f d m : Nat) (L : List En) (h : Mdl w B b f d m L) (hB : B ≤ w.heap.size) {T : Ts} {dp : Nat → Nat} (hI : Inv T dp) (hM : Mo T L) (P : List ByteArray) (hP : Vd P) (oa on : Int) (ot od : ByteArray) (h0 : (fndF T P).2 = 0) :
    Calls Tryz.prog 50 #[.pointer (some ⟨b, 0, none⟩), .agg #[.int .i64 7, .string (tx P), .string ot, .int .i64 oa, .int .i64 on, .string od]] w fun e w' => e = .returned (.tuple #[.agg #[.int .i64 0, .string { data := #[] }, .int .i64 0, .slice none 0 0, .int .i64 0, .int .i64 0], .int .i64 0]) ∧ Hid (Mdl w' B b f d m (wo P L)) ∧ Hid (Mfr B w w' b) := by
  obtain ⟨W, hW, hb, k0, k1⟩ := op_new w #[.int .i64 7, .string (tx P), .string ot, .int .i64 oa, .int .i64 on, .string od]
  have hMW := h.below hb
  obtain ⟨hPn, hA, hen⟩ := file_en hI hM hP h0
  have HEN : Hid _ := hen
  have hway := way_any W B b f d m L hMW hI hM P hP
  rw [hA] at hway
  have hat := at_any W B b f d m L hMW P hP
  have hrn := root_ne hP hPn
  obtain ⟨a, c, hrd⟩ := hMW.rd
  have HR : Hid (Rd W b f d m L.length a c L) := hrd
  have c3 := hrd.c3
  have c2 := hrd.c2
  have hnb := h.nb
  have HMW : Hid (Mdl W B b f d m L) := hMW
  have HFW : Hid (Mfr B w W b) := mfr_below hb
  have HK1 : Hid (Unit → _) := fun _ => k1
  obtain ⟨x0, x1, x2, x3, x4, x5⟩ := cells6 k0
  obtain ⟨z0, z1, z2, z3, z4, z5⟩ := cells6 k1
  have fz : ∀ j, W.frozen? ⟨w.heap.size + 1, j, none⟩ = false := fun j => frozen_of_heap k1
  have hgone := gone_any W B b f d m L hMW (Nat.le_trans hB hb.size) P hP
  have HNX : Hid (∀ V, Mdl V B b f d m (wo P L) → Mfr B W V b → Unit → V.heap[w.heap.size + 1]? = some (.cells #[.int .i64 0, .string { data := #[] }, .int .i64 0, .slice none 0 0, .int .i64 0, .int .i64 0] 33 (0, 0))) := fun V _ hf _ => room_keep h hf (Nat.le_succ _) k1
  obtain ⟨n, hn⟩ : ∃ n, L.length = n := ⟨_, rfl⟩
  have HN : Hid (L.length = n) := hn
  rw [hn] at HR hnb c3
  obtain ⟨s, hs⟩ : ∃ s, szF T (fndF T P).1.no = s := ⟨_, rfl⟩
  have HS : Hid (szF T (fndF T P).1.no = s) := hs
  clear hs hn k0 k1 hrd hen h hI hM hP h0 hMW hb hPn hA
  generalize tx P = t at *
  go_enter Tryz.func50, Tryz.ntmps50
  go_wp2_with fail
  refine hway.mono ?_
  rintro e w1 ⟨rfl, hw1⟩
  subst w1
  go_wp2_with fail
  refine hat.mono ?_
  rintro e w1 ⟨⟨r, rfl, har⟩, hw1⟩
  subst w1
  obtain ⟨i, e, rfl, hi, hp, hk2, hsz⟩ := HEN.out r har
  have hin := (List.getElem?_eq_some_iff.1 hi).1
  rw [HN.out] at hin
  have hinI : (i : Int) < (n : Int) := by omega
  have hi0 : ¬ (i : Int) < 0 := by omega
  obtain ⟨g, rfl, y0, y1, y2⟩ := HR.out.at_ i e hi
  rw [hk2] at y1
  rw [hsz, HS.out] at y2
  clear HEN hi hp hk2 hsz har
  go_wp2_with fail
  refine hgone.mono ?_
  rintro x w2 ⟨rfl, HD2, HF2⟩
  obtain ⟨u1, u2, u3⟩ := put6_all (V := w2) HD2.out (HFW.out.trans HF2.out) (Nat.le_succ _) (HNX.out w2 HD2.out HF2.out ()) (.int .i64 0) (.string { data := #[] }) (.int .i64 0) (.slice none 0 0) (.int .i64 0) (.int .i64 0)
  have HU1 : Hid (Unit → _) := fun _ => u1
  have HU2 : Hid _ := u2
  have HU3 : Hid _ := u3
  clear u1 u2 u3
  have k2 := HNX.out w2 HD2.out HF2.out ()
  obtain ⟨v0, v1, v2, v3, v4, v5⟩ := cells6 k2
  have fz2 : ∀ j, w2.frozen? ⟨w.heap.size + 1, j, none⟩ = false := fun j => frozen_of_heap k2
  clear k2 hgone hway hat
  go_wp2
  refine bodyPost_ret (results_cellt rfl _ _ (w.heap.size + 1) 33 _ (0, 0) _ rfl (HU1.out ()) Tryz.underlying33 rfl sizeRes) rfl ?_
  exact ⟨rfl, HU2, HU3⟩

end Go.Proofs.YtnfddiabhpandaaGreatDoor.Tr

namespace Go.Proofs.YtnfddiabhpandaaGreatDoor.Tr
open Go.RowKit Go.Lib Go.Deep

theorem bdN (w : World) (n : Nat) : Below w.heap.size w (w.drewN n) := ⟨rfl, rfl, rfl, Nat.le_refl _, fun _ _ => rfl⟩
theorem bel_cell {w w' : World} (hb : Below w.heap.size w w') {a : Addr} {v : Value} (hc : w.cell? a = some v) : w'.cell? a = some v := (hb.cell (World.block_lt_of_cell? w a hc)).trans hc
open Classical in
noncomputable def szL (P : List ByteArray) (s : Nat) (L : List En) : List En := L.map fun e => if e.p = P then { e with sz := s } else e
open Classical in
theorem szL_set (P : List ByteArray) (s : Nat) : ∀ (L : List En) (i : Nat) (e : En), (L.map (·.p)).Nodup → L[i]? = some e → e.p = P → L.set i { e with sz := s } = szL P s L
  | [], _, _, _, h, _ => by cases h
  | a :: l, 0, e, hn, h, hp => by
    simp only [List.getElem?_cons_zero, Option.some.injEq] at h
    subst h
    rw [List.map_cons, List.nodup_cons] at hn
    unfold szL
    rw [List.set_cons_zero, List.map_cons, if_pos hp]
    congr 1
    refine (List.map_id _).symm.trans (List.map_congr_left fun x hx => ?_)
    rw [if_neg fun e => hn.1 (List.mem_map.2 ⟨x, hx, e.trans hp.symm⟩)]
    rfl
  | a :: l, i + 1, e, hn, h, hp => by
    rw [List.getElem?_cons_succ] at h
    rw [List.map_cons, List.nodup_cons] at hn
    have := szL_set P s l i e hn.2 h hp
    unfold szL at this ⊢
    rw [List.set_cons_succ, List.map_cons, this, if_neg fun e2 => hn.1 (List.mem_map.2 ⟨e, List.mem_of_getElem? h, hp.trans e2.symm⟩)]
theorem szL_same (P : List ByteArray) (s : Nat) (L : List En) {i : Nat} {e : En} (hn : (L.map (·.p)).Nodup) (hi : L[i]? = some e) (hp : e.p = P) (hs : e.sz = s) : szL P s L = L := by
  rw [← szL_set P s L i e hn hi hp]
  have : ({ e with sz := s } : En) = e := by cases e; simp only at hs; rw [hs]
  rw [this, set_self hi]

end Go.Proofs.YtnfddiabhpandaaGreatDoor.Tr

namespace Go.Proofs.YtnfddiabhpandaaGreatDoor.Tr
open Go.RowKit Go.Lib Go.Deep

set_option maxRecDepth 20000 in
set_option maxHeartbeats 2000000 in
theorem touch5a_any (w : World) (B b f d m : Nat) (L : List En) (h : Mdl w B b f d m L) (_hB : B ≤ w.heap.size) {T : Ts} {dp : Nat → Nat} (hI : Inv T dp) (hM : Mo T L) (P : List ByteArray) (hP : Vd P) (oa on : Int) (ot od : ByteArray) (h0 : (fndF T P).2 = 0) (hbig : (m : Int) < on) :
    Calls Tryz.prog 50 #[.pointer (some ⟨b, 0, none⟩), .agg #[.int .i64 5, .string (tx P), .string ot, .int .i64 oa, .int .i64 on, .string od]] w fun e w' => e = .returned (.tuple #[.agg #[.int .i64 0, .string { data := #[] }, .int .i64 0, .slice none 0 0, .int .i64 0, .int .i64 0], .int .i64 3]) ∧ Hid (Mdl w' B b f d m L) ∧ Hid (Mfr B w w' b) := by
  obtain ⟨W, hW, hb, k0, k1⟩ := op_new w #[.int .i64 5, .string (tx P), .string ot, .int .i64 oa, .int .i64 on, .string od]
  have hMW := h.below hb
  obtain ⟨hPn, hA, hen⟩ := file_en hI hM hP h0
  have HEN : Hid _ := hen
  have hway := way_any W B b f d m L hMW hI hM P hP
  rw [hA] at hway
  have hat := at_any W B b f d m L hMW P hP
  have hrn := root_ne hP hPn
  obtain ⟨a, c, hrd⟩ := hMW.rd
  have HR : Hid (Rd W b f d m L.length a c L) := hrd
  have c3 := hrd.c3
  have c2 := hrd.c2
  have hnb := h.nb
  have HMW : Hid (Mdl W B b f d m L) := hMW
  have HFW : Hid (Mfr B w W b) := mfr_below hb
  have HK1 : Hid (Unit → _) := fun _ => k1
  obtain ⟨x0, x1, x2, x3, x4, x5⟩ := cells6 k0
  obtain ⟨z0, z1, z2, z3, z4, z5⟩ := cells6 k1
  have fz : ∀ j, W.frozen? ⟨w.heap.size + 1, j, none⟩ = false := fun j => frozen_of_heap k1
  have HK0 : Hid (Unit → _) := fun _ => k0
  have HND : Hid ((L.map (·.p)).Nodup) := hM.nd
  have HVD : Hid (∀ e ∈ L, Vd e.p) := h.vd
  have HRM : Hid (∀ V, Mfr B W V b → Unit → V.heap[w.heap.size + 1]? = some (.cells #[.int .i64 0, .string { data := #[] }, .int .i64 0, .slice none 0 0, .int .i64 0, .int .i64 0] 33 (0, 0))) := fun V hf _ => room_keep h hf (Nat.le_succ _) k1
  obtain ⟨n, hn⟩ : ∃ n, L.length = n := ⟨_, rfl⟩
  have HN : Hid (L.length = n) := hn
  rw [hn] at HR hnb c3
  obtain ⟨s, hs⟩ : ∃ s, szF T (fndF T P).1.no = s := ⟨_, rfl⟩
  have HS : Hid (szF T (fndF T P).1.no = s) := hs
  clear hs hn k0 k1 hrd hen
  clear h hI hM hP h0 hMW hb hPn hA
  generalize tx P = t at *
  go_enter Tryz.func50, Tryz.ntmps50
  go_wp2_with fail
  refine hway.mono ?_
  rintro e w1 ⟨rfl, hw1⟩
  subst w1
  go_wp2_with fail
  refine hat.mono ?_
  rintro e w1 ⟨⟨r, rfl, har⟩, hw1⟩
  subst w1
  obtain ⟨i, e, rfl, hi, hp, hk2, hsz⟩ := HEN.out r har
  have hin := (List.getElem?_eq_some_iff.1 hi).1
  rw [HN.out] at hin
  have hinI : (i : Int) < (n : Int) := by omega
  have hi0 : ¬ (i : Int) < 0 := by omega
  obtain ⟨g, rfl, y0, y1, y2⟩ := HR.out.at_ i e hi
  rw [hk2] at y1
  rw [hsz, HS.out] at y2
  clear HEN hk2 hsz har
  go_wp2_with fail
  go_quiet (fail)
  refine with_world (R := fun W => Exit.then _ _ _ _ W) (Q := fun V => Hid (Below W.heap.size W V)) _ (bdN _ _) ?_
  intro V HV
  have kV := (HV.out.block _ (heap_lt (HK1.out ()))).trans (HK1.out ())
  have kO := (HV.out.block _ (heap_lt (HK0.out ()))).trans (HK0.out ())
  have HKV : Hid (Unit → _) := fun _ => kV
  have HMV : Hid (Mdl V B b f d m L) := HMW.out.below HV.out
  have HFV : Hid (Mfr B w V b) := HFW.out.trans (mfr_below HV.out)
  obtain ⟨v0, v1, v2, v3, v4, v5⟩ := cells6 kV
  obtain ⟨o0, o1, o2, o3, o4, o5⟩ := cells6 kO
  have fzV : ∀ j, V.frozen? ⟨w.heap.size + 1, j, none⟩ = false := fun j => frozen_of_heap kV
  have c3V := bel_cell HV.out c3
  have c2V := bel_cell HV.out c2
  have y2V := bel_cell HV.out y2
  clear kV kO
  obtain ⟨u1, u2, u3⟩ := put6_all (V := V) HMV.out HFV.out (Nat.le_succ _) (HKV.out ()) (.int .i64 0) (.string { data := #[] }) (.int .i64 0) (.slice none 0 0) (.int .i64 0) (.int .i64 0)
  have HU1 : Hid (Unit → _) := fun _ => u1
  have HU2 : Hid _ := u2
  have HU3 : Hid _ := u3
  clear u1 u2 u3
  clear hi hp
  go_wp2
  refine bodyPost_ret (results_cellt rfl _ _ (w.heap.size + 1) 33 _ (0, 0) _ rfl (HU1.out ()) Tryz.underlying33 rfl sizeRes) rfl ?_
  exact ⟨rfl, HU2, HU3⟩

end Go.Proofs.YtnfddiabhpandaaGreatDoor.Tr

namespace Go.Proofs.YtnfddiabhpandaaGreatDoor.Tr
open Go.RowKit Go.Lib Go.Deep

set_option maxRecDepth 20000 in
set_option maxHeartbeats 2000000 in
theorem touch5b_any (w : World) (B b f d m : Nat) (L : List En) (h : Mdl w B b f d m L) (_hB : B ≤ w.heap.size) {T : Ts} {dp : Nat → Nat} (hI : Inv T dp) (hM : Mo T L) (P : List ByteArray) (hP : Vd P) (oa on : Int) (ot od : ByteArray) (h0 : (fndF T P).2 = 0) (q : Nat) (hq : on = (q : Int)) (hbig : ¬ (m : Int) < on) :
    Calls Tryz.prog 50 #[.pointer (some ⟨b, 0, none⟩), .agg #[.int .i64 5, .string (tx P), .string ot, .int .i64 oa, .int .i64 on, .string od]] w fun e w' => e = .returned (.tuple #[.agg #[.int .i64 0, .string { data := #[] }, .int .i64 0, .slice none 0 0, .int .i64 0, .int .i64 0], .int .i64 0]) ∧ Hid (Mdl w' B b f d m (szL P q L)) ∧ Hid (Mfr B w w' b) := by
  obtain ⟨W, hW, hb, k0, k1⟩ := op_new w #[.int .i64 5, .string (tx P), .string ot, .int .i64 oa, .int .i64 on, .string od]
  have hMW := h.below hb
  obtain ⟨hPn, hA, hen⟩ := file_en hI hM hP h0
  have HEN : Hid _ := hen
  have hway := way_any W B b f d m L hMW hI hM P hP
  rw [hA] at hway
  have hat := at_any W B b f d m L hMW P hP
  have hrn := root_ne hP hPn
  obtain ⟨a, c, hrd⟩ := hMW.rd
  have HR : Hid (Rd W b f d m L.length a c L) := hrd
  have c3 := hrd.c3
  have c2 := hrd.c2
  have hnb := h.nb
  have HMW : Hid (Mdl W B b f d m L) := hMW
  have HFW : Hid (Mfr B w W b) := mfr_below hb
  have HK1 : Hid (Unit → _) := fun _ => k1
  obtain ⟨x0, x1, x2, x3, x4, x5⟩ := cells6 k0
  obtain ⟨z0, z1, z2, z3, z4, z5⟩ := cells6 k1
  have fz : ∀ j, W.frozen? ⟨w.heap.size + 1, j, none⟩ = false := fun j => frozen_of_heap k1
  subst hq
  have HK0 : Hid (Unit → _) := fun _ => k0
  have HND : Hid ((L.map (·.p)).Nodup) := hM.nd
  have HVD : Hid (∀ e ∈ L, Vd e.p) := h.vd
  have HRM : Hid (∀ V, Mfr B W V b → Unit → V.heap[w.heap.size + 1]? = some (.cells #[.int .i64 0, .string { data := #[] }, .int .i64 0, .slice none 0 0, .int .i64 0, .int .i64 0] 33 (0, 0))) := fun V hf _ => room_keep h hf (Nat.le_succ _) k1
  obtain ⟨n, hn⟩ : ∃ n, L.length = n := ⟨_, rfl⟩
  have HN : Hid (L.length = n) := hn
  rw [hn] at HR hnb c3
  obtain ⟨s, hs⟩ : ∃ s, szF T (fndF T P).1.no = s := ⟨_, rfl⟩
  have HS : Hid (szF T (fndF T P).1.no = s) := hs
  clear hs hn k0 k1 hrd hen
  clear h hI hM hP h0 hMW hb hPn hA
  generalize tx P = t at *
  go_enter Tryz.func50, Tryz.ntmps50
  go_wp2_with fail
  refine hway.mono ?_
  rintro e w1 ⟨rfl, hw1⟩
  subst w1
  go_wp2_with fail
  refine hat.mono ?_
  rintro e w1 ⟨⟨r, rfl, har⟩, hw1⟩
  subst w1
  obtain ⟨i, e, rfl, hi, hp, hk2, hsz⟩ := HEN.out r har
  have hin := (List.getElem?_eq_some_iff.1 hi).1
  rw [HN.out] at hin
  have hinI : (i : Int) < (n : Int) := by omega
  have hi0 : ¬ (i : Int) < 0 := by omega
  obtain ⟨g, rfl, y0, y1, y2⟩ := HR.out.at_ i e hi
  rw [hk2] at y1
  rw [hsz, HS.out] at y2
  clear HEN hk2 hsz har
  go_wp2_with fail
  go_quiet (fail)
  refine with_world (R := fun W => Exit.then _ _ _ _ W) (Q := fun V => Hid (Below W.heap.size W V)) _ (bdN _ _) ?_
  intro V HV
  have kV := (HV.out.block _ (heap_lt (HK1.out ()))).trans (HK1.out ())
  have kO := (HV.out.block _ (heap_lt (HK0.out ()))).trans (HK0.out ())
  have HKV : Hid (Unit → _) := fun _ => kV
  have HMV : Hid (Mdl V B b f d m L) := HMW.out.below HV.out
  have HFV : Hid (Mfr B w V b) := HFW.out.trans (mfr_below HV.out)
  obtain ⟨v0, v1, v2, v3, v4, v5⟩ := cells6 kV
  obtain ⟨o0, o1, o2, o3, o4, o5⟩ := cells6 kO
  have fzV : ∀ j, V.frozen? ⟨w.heap.size + 1, j, none⟩ = false := fun j => frozen_of_heap kV
  have c3V := bel_cell HV.out c3
  have c2V := bel_cell HV.out c2
  have y2V := bel_cell HV.out y2
  clear kV kO
  obtain ⟨m1, m2, m3⟩ := mdl_cell (w := V.drew) (v := .int .i64 (q : Int)) (j := 2) (HMV.out.below (Below.refl _ _).drew) (by rw [HN.out]; exact c3V) hi (by omega) (show (enC e).set 2 _ = enC { e with sz := q } from rfl) (HVD.out e (List.mem_of_getElem? hi))
  rw [szL_set P q L i e HND.out hi hp] at m1
  have HM1 : Hid (Unit → _) := fun _ => m1
  have HM2 : Hid (Unit → _) := fun _ => m2
  have c3' : V.drew.cell? ⟨b, 3, none⟩ = _ := c3V
  have o3' : V.drew.cell? ⟨w.heap.size, 3, none⟩ = _ := o3
  have o4' : V.drew.cell? ⟨w.heap.size, 4, none⟩ = _ := o4
  have y2' : V.drew.cell? ⟨g, i * 3 + 2, none⟩ = _ := y2V
  have fz' : V.drew.frozen? ⟨g, i * 3 + 2, none⟩ = false := m3
  clear m1 m2 m3 hi hp
  go_wp2_with fail
  go_region
  all_goals
    refine with_world (R := fun W => Exit.then _ _ _ _ W) (Q := fun V2 => Hid (Mdl V2 B b f d m (szL P q L)) ∧ Hid (Mfr B W V2 b)) _ ⟨HM1.out (), (mfr_below (HV.out.drew)).trans (HM2.out ())⟩ ?_
    rintro V2 ⟨HMX, HFX⟩
    have kV := HRM.out V2 HFX.out ()
    obtain ⟨p0, p1, p2, p3, p4, p5⟩ := cells6 kV
    have fzX : ∀ j, V2.frozen? ⟨w.heap.size + 1, j, none⟩ = false := fun j => frozen_of_heap kV
    obtain ⟨u1, u2, u3⟩ := put6_all (V := V2) HMX.out (HFW.out.trans HFX.out) (Nat.le_succ _) kV (.int .i64 0) (.string { data := #[] }) (.int .i64 0) (.slice none 0 0) (.int .i64 0) (.int .i64 0)
    have HU1 : Hid (Unit → _) := fun _ => u1
    have HU2 : Hid _ := u2
    have HU3 : Hid _ := u3
    clear u1 u2 u3 kV
    go_wp2
    refine bodyPost_ret (results_cellt rfl _ _ (w.heap.size + 1) 33 _ (0, 0) _ rfl (HU1.out ()) Tryz.underlying33 rfl sizeRes) rfl ?_
    exact ⟨rfl, HU2, HU3⟩

end Go.Proofs.YtnfddiabhpandaaGreatDoor.Tr
