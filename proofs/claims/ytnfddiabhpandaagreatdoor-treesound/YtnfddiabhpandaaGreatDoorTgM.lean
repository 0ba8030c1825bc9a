import Derived.Test.YtnfddiabhpandaaGreatDoorTrH
import Derived.Test.YtnfddiabhpandaaGreatDoorFiM
import Derived.Test.YtnfddiabhpandaaGreatDoorPbX
namespace Go.Proofs.YtnfddiabhpandaaGreatDoor.Tr
open Go.RowKit Go.Lib Go.Deep

/-- where what is renamed goes -/
noncomputable def tarS (T : Ts) (P Q : List ByteArray) (a : Sp) : Sp := if tarE T P Q a = 0 then (fndA T Q).1 else Sp.zero
open Classical in
set_option maxRecDepth 20000 in
set_option maxHeartbeats 4000000 in
theorem targetF_any (w : World) (q : Nat) (F : List Nat) (nn : Nat) (T : Ts) (dp : Nat → Nat) (hL : Lay w q F nn T) (hv : Inv T dp) (P Q : List ByteArray) (sa ta : Option Addr) (n sc tn tc : Nat) (_hs : Pa.See w (.slice sa n sc) P) (ht : Pa.See w (.slice ta tn tc) Q) (_hp : P.length ≤ 16) (hnm : Q.all Pa.nm = true) (hl : Q.length ≤ 16) (ok oa on : Int) (op ot od : ByteArray) (par no : Nat) (nm : ByteArray) :
    Calls Tryz.prog 144 #[.pointer (some ⟨q, 0, none⟩), .agg #[.int .i64 ok, .string op, .string ot, .int .i64 oa, .int .i64 on, .string od, .slice sa n sc, .slice ta tn tc], .agg #[.int .i64 (par : Int), .string nm, .int .i64 2, .int .i64 (no : Int)]] w fun e w' => e = .returned (.tuple #[spV (tarS T P Q ⟨par, nm, 2, no⟩), .int .i64 (tarE T P Q ⟨par, nm, 2, no⟩)]) ∧ Below w.heap.size w w' := by
  obtain ⟨W, hW, hb, kp, k0, k1⟩ := three_new w #[.int .i64 ok, .string op, .string ot, .int .i64 oa, .int .i64 on, .string od, .slice sa n sc, .slice ta tn tc] #[.int .i64 (par : Int), .string nm, .int .i64 2, .int .i64 (no : Int)] #[.int .i64 0, .string { data := #[] }, .int .i64 0, .int .i64 0] 84 191 191
  obtain ⟨p0, p1, p2, p3, p4, p5, p6, p7⟩ := cells8 kp
  have f2 : W.cell? ⟨w.heap.size + 1, 2, none⟩ = some (.int .i64 2) := (cell_of_heap k0).trans rfl
  have f3 : W.cell? ⟨w.heap.size + 1, 3, none⟩ = some (.int .i64 (no : Int)) := (cell_of_heap k0).trans rfl
  have HNQ : Hid (tn = Q.length) := by
    obtain ⟨a, c, e, _⟩ := ht
    injection e
  have HFD : Hid (∀ W', Below w.heap.size w W' → Calls Tryz.prog 161 #[.pointer (some ⟨q, 0, none⟩), .slice ta tn tc] W' fun e w' => e = .returned (.tuple #[spV (fndA T Q).1, .int .i64 (fndA T Q).2]) ∧ Below W'.heap.size W' w') := fun W' hb' => find_any W' q F nn T dp (hL.below hb') hv _ Q (ht.below hb') hnm hl
  have HKD : Hid ((fndA T Q).2 = 0 → (fndA T Q).1.kd = 0 ∨ (fndA T Q).1.kd = 1 ∨ (fndA T Q).1.kd = 2) := fun h => by
    by_cases hQ0 : Q = []
    · rw [hQ0]; exact .inr (.inl rfl)
    · exact ((fndA_spot hv hnm h).1 hQ0).1.kd hv
  have HTE : Hid (tarE T P Q ⟨par, nm, 2, no⟩ = if (2 : Nat) = 1 ∧ P <+: Q then 126 else if (fndA T Q).2 ≠ 0 then (fndA T Q).2 else if (fndA T Q).1.kd = 1 then 121 else if (fndA T Q).1.kd = 2 ∧ (2 : Nat) = 1 then 122 else if (2 : Nat) = 1 ∧ ∃ j, Rch T no j ∧ 16 < Q.length + j then 112 else 0) := rfl
  have HTS : Hid (tarS T P Q ⟨par, nm, 2, no⟩ = if tarE T P Q ⟨par, nm, 2, no⟩ = 0 then (fndA T Q).1 else Sp.zero) := rfl
  have HBW : Hid (Below w.heap.size w W) := hb
  have HZW : Hid _ := k1
  have HPW : Hid _ := kp
  have HFW : Hid _ := k0
  generalize tarS T P Q ⟨par, nm, 2, no⟩ = ts at *
  generalize tarE T P Q ⟨par, nm, 2, no⟩ = te at *
  generalize fndA T Q = r at *
  obtain ⟨⟨par2, nm2, kd2, no2⟩, e2⟩ := r
  clear hL hv _hs ht hb kp k0 k1
  unfold spV spA at HFD
  go_enter Tryz.func144, Tryz.ntmps144
  go_wp2_with fail
  refine (HFD.out W HBW.out).mono ?_
  rintro e w3 ⟨rfl, hb3⟩
  obtain ⟨W4, hW4, hb4, k4⟩ := one_new w3 #[.int .i64 (par2 : Int), .string nm2, .int .i64 (kd2 : Int), .int .i64 (no2 : Int)] 191
  have hb34 : Below W.heap.size W W4 := hb3.trans (hb4.mono hb3.size)
  have HBW4 : Hid (Below w.heap.size w W4) := HBW.out.trans (hb34.mono HBW.out.size)
  have HZW4 : Hid _ := (hb34.block _ (heap_lt HZW.out)).trans HZW.out
  have HPW4 : Hid _ := (hb34.block _ (heap_lt HPW.out)).trans HPW.out
  have HFW4 : Hid _ := (hb34.block _ (heap_lt HFW.out)).trans HFW.out
  have g0 : W4.cell? ⟨w3.heap.size, 0, none⟩ = some (.int .i64 (par2 : Int)) := (cell_of_heap k4).trans rfl
  have g1 : W4.cell? ⟨w3.heap.size, 1, none⟩ = some (.string nm2) := (cell_of_heap k4).trans rfl
  have g2 : W4.cell? ⟨w3.heap.size, 2, none⟩ = some (.int .i64 (kd2 : Int)) := (cell_of_heap k4).trans rfl
  have g3 : W4.cell? ⟨w3.heap.size, 3, none⟩ = some (.int .i64 (no2 : Int)) := (cell_of_heap k4).trans rfl
  have q7 : W4.cell? ⟨w.heap.size, 7, none⟩ = some (.slice ta tn tc) := (cell_of_heap HPW4.out).trans rfl
  have q3 : W4.cell? ⟨w.heap.size + 1, 3, none⟩ = some (.int .i64 (no : Int)) := (cell_of_heap HFW4.out).trans rfl
  clear hb3 hb4 k4 hb34
  by_cases he : e2 = 0
  · subst he
    by_cases hk1 : kd2 = 1
    · have HE : Hid (te = 121) := HTE.out.trans (by rw [if_neg (by simp)]; rw [if_neg (by simp), if_pos hk1])
      subst hk1
      have hW4b : w3.alloc (.cells #[.int .i64 (par2 : Int), .string nm2, .int .i64 1, .int .i64 (no2 : Int)] 191) = W4 := hW4
      have g2b : W4.cell? ⟨w3.heap.size, 2, none⟩ = some (.int .i64 1) := g2
      clear hW4 g2
      have z0 : W4.cell? ⟨w.heap.size + 1 + 1, 0, none⟩ = some (.int .i64 0) := (cell_of_heap HZW4.out).trans rfl
      have z1 : W4.cell? ⟨w.heap.size + 1 + 1, 1, none⟩ = some (.string { data := #[] }) := (cell_of_heap HZW4.out).trans rfl
      have z2 : W4.cell? ⟨w.heap.size + 1 + 1, 2, none⟩ = some (.int .i64 0) := (cell_of_heap HZW4.out).trans rfl
      have z3 : W4.cell? ⟨w.heap.size + 1 + 1, 3, none⟩ = some (.int .i64 0) := (cell_of_heap HZW4.out).trans rfl
      have fzz : ∀ j, W4.frozen? ⟨w.heap.size + 1 + 1, j, none⟩ = false := fun j => frozen_of_heap HZW4.out
      go_wp2_with fail
      refine bodyPost_ret (results_cellt rfl _ _ (w.heap.size + 1 + 1) 191 _ (0, 0) _ rfl (put4A HZW4.out) Tryz.underlying191 rfl sizeSp) rfl ?_
      have hts := HTS.out
      rw [HE.out, if_neg (by decide)] at hts
      rw [hts, HE.out]
      exact ⟨rfl, (((HBW4.out.setCell (by simp; omega) _).setCell (by simp; omega) _).setCell (by simp; omega) _).setCell (by simp; omega) _⟩
    · have hk1I : ¬ (kd2 : Int) = 1 := by omega
      by_cases hk2 : kd2 = 2
      · have hW4b : w3.alloc (.cells #[.int .i64 (par2 : Int), .string nm2, .int .i64 2, .int .i64 (no2 : Int)] 191) = W4 := by rw [← hW4, hk2]; rfl
        have g2b : W4.cell? ⟨w3.heap.size, 2, none⟩ = some (.int .i64 2) := by rw [g2, hk2]; rfl
        have HE : Hid (te = 0) := HTE.out.trans (by simp [hk2])
        subst hk2
        clear hW4 g2 hk1 hk1I
        go_wp2_with fail
        go_quiet (fail)
        refine with_world (R := fun W => Exit.then _ _ _ _ W) (Q := fun W5 => Hid (Below w.heap.size w W5) ∧ Hid (W5.heap[w.heap.size + 1 + 1]? = some (.cells #[.int .i64 0, .string { data := #[] }, .int .i64 0, .int .i64 0] 191 (0, 0))) ∧ W5.cell? ⟨w3.heap.size, 0, none⟩ = some (.int .i64 (par2 : Int)) ∧ W5.cell? ⟨w3.heap.size, 1, none⟩ = some (.string nm2) ∧ W5.cell? ⟨w3.heap.size, 2, none⟩ = some (.int .i64 2) ∧ W5.cell? ⟨w3.heap.size, 3, none⟩ = some (.int .i64 (no2 : Int))) _ ⟨bdr HBW4.out _, HZW4.out, g0, g1, g2b, g3⟩ ?_
        rintro W5 ⟨HBW5, HZW5, g05, g15, g25, g35⟩
        have z0 : W5.cell? ⟨w.heap.size + 1 + 1, 0, none⟩ = some (.int .i64 0) := (cell_of_heap HZW5.out).trans rfl
        have z1 : W5.cell? ⟨w.heap.size + 1 + 1, 1, none⟩ = some (.string { data := #[] }) := (cell_of_heap HZW5.out).trans rfl
        have z2 : W5.cell? ⟨w.heap.size + 1 + 1, 2, none⟩ = some (.int .i64 0) := (cell_of_heap HZW5.out).trans rfl
        have z3 : W5.cell? ⟨w.heap.size + 1 + 1, 3, none⟩ = some (.int .i64 0) := (cell_of_heap HZW5.out).trans rfl
        have fzz : ∀ j, W5.frozen? ⟨w.heap.size + 1 + 1, j, none⟩ = false := fun j => frozen_of_heap HZW5.out
        go_wp2_with fail
        refine bodyPost_ret (results_cellt rfl _ _ (w.heap.size + 1 + 1) 191 _ (0, 0) _ rfl (put4A HZW5.out) Tryz.underlying191 rfl sizeSp) rfl ?_
        have hts := HTS.out
        rw [HE.out, if_pos rfl] at hts
        rw [hts, HE.out]
        exact ⟨rfl, (((HBW5.out.setCell (by simp; omega) _).setCell (by simp; omega) _).setCell (by simp; omega) _).setCell (by simp; omega) _⟩
      · have hk0 : kd2 = 0 := by
          rcases HKD.out rfl with h | h | h
          · exact h
          · exact absurd h hk1
          · exact absurd h hk2
        have hk2I : ¬ (kd2 : Int) = 2 := by omega
        clear hk1 hk2 HKD
        have HE : Hid (te = 0) := HTE.out.trans (by simp [hk0])
        clear hk0
        go_wp2_with fail
        go_quiet (fail)
        refine with_world (R := fun W => Exit.then _ _ _ _ W) (Q := fun W5 => Hid (Below w.heap.size w W5) ∧ Hid (W5.heap[w.heap.size + 1 + 1]? = some (.cells #[.int .i64 0, .string { data := #[] }, .int .i64 0, .int .i64 0] 191 (0, 0))) ∧ W5.cell? ⟨w3.heap.size, 0, none⟩ = some (.int .i64 (par2 : Int)) ∧ W5.cell? ⟨w3.heap.size, 1, none⟩ = some (.string nm2) ∧ W5.cell? ⟨w3.heap.size, 2, none⟩ = some (.int .i64 (kd2 : Int)) ∧ W5.cell? ⟨w3.heap.size, 3, none⟩ = some (.int .i64 (no2 : Int))) _ ⟨bdr HBW4.out _, HZW4.out, g0, g1, g2, g3⟩ ?_
        rintro W5 ⟨HBW5, HZW5, g05, g15, g25, g35⟩
        have z0 : W5.cell? ⟨w.heap.size + 1 + 1, 0, none⟩ = some (.int .i64 0) := (cell_of_heap HZW5.out).trans rfl
        have z1 : W5.cell? ⟨w.heap.size + 1 + 1, 1, none⟩ = some (.string { data := #[] }) := (cell_of_heap HZW5.out).trans rfl
        have z2 : W5.cell? ⟨w.heap.size + 1 + 1, 2, none⟩ = some (.int .i64 0) := (cell_of_heap HZW5.out).trans rfl
        have z3 : W5.cell? ⟨w.heap.size + 1 + 1, 3, none⟩ = some (.int .i64 0) := (cell_of_heap HZW5.out).trans rfl
        have fzz : ∀ j, W5.frozen? ⟨w.heap.size + 1 + 1, j, none⟩ = false := fun j => frozen_of_heap HZW5.out
        go_wp2_with fail
        refine bodyPost_ret (results_cellt rfl _ _ (w.heap.size + 1 + 1) 191 _ (0, 0) _ rfl (put4A HZW5.out) Tryz.underlying191 rfl sizeSp) rfl ?_
        have hts := HTS.out
        rw [HE.out, if_pos rfl] at hts
        rw [hts, HE.out]
        exact ⟨rfl, (((HBW5.out.setCell (by simp; omega) _).setCell (by simp; omega) _).setCell (by simp; omega) _).setCell (by simp; omega) _⟩
  · have HE : Hid (te = e2) := HTE.out.trans (by rw [if_neg (by simp)]; rw [if_pos he])
    have z0 : W4.cell? ⟨w.heap.size + 1 + 1, 0, none⟩ = some (.int .i64 0) := (cell_of_heap HZW4.out).trans rfl
    have z1 : W4.cell? ⟨w.heap.size + 1 + 1, 1, none⟩ = some (.string { data := #[] }) := (cell_of_heap HZW4.out).trans rfl
    have z2 : W4.cell? ⟨w.heap.size + 1 + 1, 2, none⟩ = some (.int .i64 0) := (cell_of_heap HZW4.out).trans rfl
    have z3 : W4.cell? ⟨w.heap.size + 1 + 1, 3, none⟩ = some (.int .i64 0) := (cell_of_heap HZW4.out).trans rfl
    have fzz : ∀ j, W4.frozen? ⟨w.heap.size + 1 + 1, j, none⟩ = false := fun j => frozen_of_heap HZW4.out
    go_wp2_with fail
    refine bodyPost_ret (results_cellt rfl _ _ (w.heap.size + 1 + 1) 191 _ (0, 0) _ rfl (put4A HZW4.out) Tryz.underlying191 rfl sizeSp) rfl ?_
    have hts := HTS.out
    rw [HE.out, if_neg he] at hts
    rw [hts, HE.out]
    exact ⟨rfl, (((HBW4.out.setCell (by simp; omega) _).setCell (by simp; omega) _).setCell (by simp; omega) _).setCell (by simp; omega) _⟩

end Go.Proofs.YtnfddiabhpandaaGreatDoor.Tr

namespace Go.Proofs.YtnfddiabhpandaaGreatDoor.Tr
open Go.RowKit Go.Lib Go.Deep

open Classical in
set_option maxRecDepth 20000 in
set_option maxHeartbeats 4000000 in
theorem targetD_any (w : World) (q : Nat) (F : List Nat) (nn : Nat) (T : Ts) (dp : Nat → Nat) (hL : Lay w q F nn T) (hv : Inv T dp) (P Q : List ByteArray) (sa ta : Option Addr) (n sc tn tc : Nat) (hs : Pa.See w (.slice sa n sc) P) (ht : Pa.See w (.slice ta tn tc) Q) (hp : P.length ≤ 16) (hnm : Q.all Pa.nm = true) (hl : Q.length ≤ 16) (ok oa on : Int) (op ot od : ByteArray) (par no : Nat) (nm : ByteArray) (d : Nat × ByteArray) (hd : T.D[no]? = some (some d)) :
    Calls Tryz.prog 144 #[.pointer (some ⟨q, 0, none⟩), .agg #[.int .i64 ok, .string op, .string ot, .int .i64 oa, .int .i64 on, .string od, .slice sa n sc, .slice ta tn tc], .agg #[.int .i64 (par : Int), .string nm, .int .i64 1, .int .i64 (no : Int)]] w fun e w' => e = .returned (.tuple #[spV (tarS T P Q ⟨par, nm, 1, no⟩), .int .i64 (tarE T P Q ⟨par, nm, 1, no⟩)]) ∧ Below w.heap.size w w' := by
  obtain ⟨W, hW, hb, kp, k0, k1⟩ := three_new w #[.int .i64 ok, .string op, .string ot, .int .i64 oa, .int .i64 on, .string od, .slice sa n sc, .slice ta tn tc] #[.int .i64 (par : Int), .string nm, .int .i64 1, .int .i64 (no : Int)] #[.int .i64 0, .string { data := #[] }, .int .i64 0, .int .i64 0] 84 191 191
  obtain ⟨p0, p1, p2, p3, p4, p5, p6, p7⟩ := cells8 kp
  have f2 : W.cell? ⟨w.heap.size + 1, 2, none⟩ = some (.int .i64 1) := (cell_of_heap k0).trans rfl
  have f3 : W.cell? ⟨w.heap.size + 1, 3, none⟩ = some (.int .i64 (no : Int)) := (cell_of_heap k0).trans rfl
  have HNQ : Hid (tn = Q.length) := by
    obtain ⟨a, c, e, _⟩ := ht
    injection e
  have HFD : Hid (∀ W', Below w.heap.size w W' → Calls Tryz.prog 161 #[.pointer (some ⟨q, 0, none⟩), .slice ta tn tc] W' fun e w' => e = .returned (.tuple #[spV (fndA T Q).1, .int .i64 (fndA T Q).2]) ∧ Below W'.heap.size W' w') := fun W' hb' => find_any W' q F nn T dp (hL.below hb') hv _ Q (ht.below hb') hnm hl
  have hins := Pa.inside_any W _ _ P Q (hs.below hb) (ht.below hb) (by omega)
  have HHG : Hid (∀ W', Below w.heap.size w W' → Calls Tryz.prog 163 #[.pointer (some ⟨q, 0, none⟩), .int .i64 (no : Int)] W' fun e w' => ∃ h : Nat, e = .returned (.int .i64 (h : Int)) ∧ Hid (IsH T no h) ∧ h ≤ 16 ∧ Below W'.heap.size W' w') := fun W' hb' => height_any T dp hv q F nn _ no d hd rfl W' (hL.below hb')
  have HKD : Hid ((fndA T Q).2 = 0 → (fndA T Q).1.kd = 0 ∨ (fndA T Q).1.kd = 1 ∨ (fndA T Q).1.kd = 2) := fun h => by
    by_cases hQ0 : Q = []
    · rw [hQ0]; exact .inr (.inl rfl)
    · exact ((fndA_spot hv hnm h).1 hQ0).1.kd hv
  have HTE : Hid (tarE T P Q ⟨par, nm, 1, no⟩ = if (1 : Nat) = 1 ∧ P <+: Q then 126 else if (fndA T Q).2 ≠ 0 then (fndA T Q).2 else if (fndA T Q).1.kd = 1 then 121 else if (fndA T Q).1.kd = 2 ∧ (1 : Nat) = 1 then 122 else if (1 : Nat) = 1 ∧ ∃ j, Rch T no j ∧ 16 < Q.length + j then 112 else 0) := rfl
  have HTS : Hid (tarS T P Q ⟨par, nm, 1, no⟩ = if tarE T P Q ⟨par, nm, 1, no⟩ = 0 then (fndA T Q).1 else Sp.zero) := rfl
  have HBW : Hid (Below w.heap.size w W) := hb
  have HZW : Hid _ := k1
  have HPW : Hid _ := kp
  have HFW : Hid _ := k0
  generalize tarS T P Q ⟨par, nm, 1, no⟩ = ts at *
  generalize tarE T P Q ⟨par, nm, 1, no⟩ = te at *
  generalize fndA T Q = r at *
  obtain ⟨⟨par2, nm2, kd2, no2⟩, e2⟩ := r
  clear hL hv hs ht hb kp k0 k1
  unfold spV spA at HFD
  by_cases hpre : P <+: Q
  · have hdec : decide (P <+: Q) = true := by simp [hpre]
    rw [hdec] at hins
    have HE : Hid (te = 126) := HTE.out.trans (if_pos ⟨rfl, hpre⟩)
    clear hpre hdec hd
    go_enter Tryz.func144, Tryz.ntmps144
    go_wp2_with fail
    refine hins.mono ?_
    rintro e w2 ⟨rfl, hb2⟩
    have HBw2 : Hid (Below w.heap.size w w2) := HBW.out.trans (hb2.mono HBW.out.size)
    have HZw2 : Hid _ := (hb2.block _ (heap_lt HZW.out)).trans HZW.out
    have HPw2 : Hid _ := (hb2.block _ (heap_lt HPW.out)).trans HPW.out
    have HFw2 : Hid _ := (hb2.block _ (heap_lt HFW.out)).trans HFW.out
    have p7w2 : w2.cell? ⟨w.heap.size, 7, none⟩ = some (.slice ta tn tc) := (cell_of_heap HPw2.out).trans rfl
    clear hb2
    have z0 : w2.cell? ⟨w.heap.size + 1 + 1, 0, none⟩ = some (.int .i64 0) := (cell_of_heap HZw2.out).trans rfl
    have z1 : w2.cell? ⟨w.heap.size + 1 + 1, 1, none⟩ = some (.string { data := #[] }) := (cell_of_heap HZw2.out).trans rfl
    have z2 : w2.cell? ⟨w.heap.size + 1 + 1, 2, none⟩ = some (.int .i64 0) := (cell_of_heap HZw2.out).trans rfl
    have z3 : w2.cell? ⟨w.heap.size + 1 + 1, 3, none⟩ = some (.int .i64 0) := (cell_of_heap HZw2.out).trans rfl
    have fzz : ∀ j, w2.frozen? ⟨w.heap.size + 1 + 1, j, none⟩ = false := fun j => frozen_of_heap HZw2.out
    go_wp2_with fail
    refine bodyPost_ret (results_cellt rfl _ _ (w.heap.size + 1 + 1) 191 _ (0, 0) _ rfl (put4A HZw2.out) Tryz.underlying191 rfl sizeSp) rfl ?_
    have hts := HTS.out
    rw [HE.out, if_neg (by decide)] at hts
    rw [hts, HE.out]
    exact ⟨rfl, (((HBw2.out.setCell (by simp; omega) _).setCell (by simp; omega) _).setCell (by simp; omega) _).setCell (by simp; omega) _⟩
  · have hdec : decide (P <+: Q) = false := by simp [hpre]
    rw [hdec] at hins
    have HPRE : Hid (¬ P <+: Q) := hpre
    clear hpre hdec hd
    go_enter Tryz.func144, Tryz.ntmps144
    go_wp2_with fail
    refine hins.mono ?_
    rintro e w2 ⟨rfl, hb2⟩
    have HBw2 : Hid (Below w.heap.size w w2) := HBW.out.trans (hb2.mono HBW.out.size)
    have HZw2 : Hid _ := (hb2.block _ (heap_lt HZW.out)).trans HZW.out
    have HPw2 : Hid _ := (hb2.block _ (heap_lt HPW.out)).trans HPW.out
    have HFw2 : Hid _ := (hb2.block _ (heap_lt HFW.out)).trans HFW.out
    have p7w2 : w2.cell? ⟨w.heap.size, 7, none⟩ = some (.slice ta tn tc) := (cell_of_heap HPw2.out).trans rfl
    clear hb2
    go_wp2_with fail
    refine (HFD.out w2 HBw2.out).mono ?_
    rintro e w3 ⟨rfl, hb3⟩
    obtain ⟨W4, hW4, hb4, k4⟩ := one_new w3 #[.int .i64 (par2 : Int), .string nm2, .int .i64 (kd2 : Int), .int .i64 (no2 : Int)] 191
    have hb34 : Below w2.heap.size w2 W4 := hb3.trans (hb4.mono hb3.size)
    have HBW4 : Hid (Below w.heap.size w W4) := HBw2.out.trans (hb34.mono HBw2.out.size)
    have HZW4 : Hid _ := (hb34.block _ (heap_lt HZw2.out)).trans HZw2.out
    have HPW4 : Hid _ := (hb34.block _ (heap_lt HPw2.out)).trans HPw2.out
    have HFW4 : Hid _ := (hb34.block _ (heap_lt HFw2.out)).trans HFw2.out
    have g0 : W4.cell? ⟨w3.heap.size, 0, none⟩ = some (.int .i64 (par2 : Int)) := (cell_of_heap k4).trans rfl
    have g1 : W4.cell? ⟨w3.heap.size, 1, none⟩ = some (.string nm2) := (cell_of_heap k4).trans rfl
    have g2 : W4.cell? ⟨w3.heap.size, 2, none⟩ = some (.int .i64 (kd2 : Int)) := (cell_of_heap k4).trans rfl
    have g3 : W4.cell? ⟨w3.heap.size, 3, none⟩ = some (.int .i64 (no2 : Int)) := (cell_of_heap k4).trans rfl
    have q7 : W4.cell? ⟨w.heap.size, 7, none⟩ = some (.slice ta tn tc) := (cell_of_heap HPW4.out).trans rfl
    have q3 : W4.cell? ⟨w.heap.size + 1, 3, none⟩ = some (.int .i64 (no : Int)) := (cell_of_heap HFW4.out).trans rfl
    have HK4 : Hid _ := k4
    clear hb3 hb4 k4 hb34
    by_cases he : e2 = 0
    · subst he
      by_cases hk1 : kd2 = 1
      · have HE : Hid (te = 121) := HTE.out.trans (by rw [if_neg (fun h => HPRE.out h.2)]; rw [if_neg (by simp), if_pos hk1])
        subst hk1
        have hW4b : w3.alloc (.cells #[.int .i64 (par2 : Int), .string nm2, .int .i64 1, .int .i64 (no2 : Int)] 191) = W4 := hW4
        have g2b : W4.cell? ⟨w3.heap.size, 2, none⟩ = some (.int .i64 1) := g2
        clear hW4 g2
        have z0 : W4.cell? ⟨w.heap.size + 1 + 1, 0, none⟩ = some (.int .i64 0) := (cell_of_heap HZW4.out).trans rfl
        have z1 : W4.cell? ⟨w.heap.size + 1 + 1, 1, none⟩ = some (.string { data := #[] }) := (cell_of_heap HZW4.out).trans rfl
        have z2 : W4.cell? ⟨w.heap.size + 1 + 1, 2, none⟩ = some (.int .i64 0) := (cell_of_heap HZW4.out).trans rfl
        have z3 : W4.cell? ⟨w.heap.size + 1 + 1, 3, none⟩ = some (.int .i64 0) := (cell_of_heap HZW4.out).trans rfl
        have fzz : ∀ j, W4.frozen? ⟨w.heap.size + 1 + 1, j, none⟩ = false := fun j => frozen_of_heap HZW4.out
        go_wp2_with fail
        refine bodyPost_ret (results_cellt rfl _ _ (w.heap.size + 1 + 1) 191 _ (0, 0) _ rfl (put4A HZW4.out) Tryz.underlying191 rfl sizeSp) rfl ?_
        have hts := HTS.out
        rw [HE.out, if_neg (by decide)] at hts
        rw [hts, HE.out]
        exact ⟨rfl, (((HBW4.out.setCell (by simp; omega) _).setCell (by simp; omega) _).setCell (by simp; omega) _).setCell (by simp; omega) _⟩
      · have hk1I : ¬ (kd2 : Int) = 1 := by omega
        by_cases hk2 : kd2 = 2
        · have hW4b : w3.alloc (.cells #[.int .i64 (par2 : Int), .string nm2, .int .i64 2, .int .i64 (no2 : Int)] 191) = W4 := by rw [← hW4, hk2]; rfl
          have g2b : W4.cell? ⟨w3.heap.size, 2, none⟩ = some (.int .i64 2) := by rw [g2, hk2]; rfl
          have HE : Hid (te = 122) := HTE.out.trans (by rw [if_neg (fun h => HPRE.out h.2), if_neg (by simp), if_neg hk1, if_pos ⟨hk2, by first | rfl | trivial⟩])
          subst hk2
          clear hW4 g2 hk1 hk1I
          have z0 : W4.cell? ⟨w.heap.size + 1 + 1, 0, none⟩ = some (.int .i64 0) := (cell_of_heap HZW4.out).trans rfl
          have z1 : W4.cell? ⟨w.heap.size + 1 + 1, 1, none⟩ = some (.string { data := #[] }) := (cell_of_heap HZW4.out).trans rfl
          have z2 : W4.cell? ⟨w.heap.size + 1 + 1, 2, none⟩ = some (.int .i64 0) := (cell_of_heap HZW4.out).trans rfl
          have z3 : W4.cell? ⟨w.heap.size + 1 + 1, 3, none⟩ = some (.int .i64 0) := (cell_of_heap HZW4.out).trans rfl
          have fzz : ∀ j, W4.frozen? ⟨w.heap.size + 1 + 1, j, none⟩ = false := fun j => frozen_of_heap HZW4.out
          go_wp2_with fail
          refine bodyPost_ret (results_cellt rfl _ _ (w.heap.size + 1 + 1) 191 _ (0, 0) _ rfl (put4A HZW4.out) Tryz.underlying191 rfl sizeSp) rfl ?_
          have hts := HTS.out
          rw [HE.out, if_neg (by decide)] at hts
          rw [hts, HE.out]
          exact ⟨rfl, (((HBW4.out.setCell (by simp; omega) _).setCell (by simp; omega) _).setCell (by simp; omega) _).setCell (by simp; omega) _⟩
        · have hk0 : kd2 = 0 := by
            rcases HKD.out rfl with h | h | h
            · exact h
            · exact absurd h hk1
            · exact absurd h hk2
          have hk2I : ¬ (kd2 : Int) = 2 := by omega
          have HN1 : Hid (¬ kd2 = 1) := hk1
          have HN2 : Hid (¬ kd2 = 2) := hk2
          clear hk1 hk2 HKD hk0
          have HS0 : Hid (∀ V, Below W4.heap.size W4 V → V.cell? ⟨w.heap.size, 7, none⟩ = some (.slice ta tn tc) ∧ V.cell? ⟨w.heap.size + 1, 3, none⟩ = some (.int .i64 (no : Int))) := fun V hb => ⟨(cell_of_heap ((hb.block _ (heap_lt HPW4.out)).trans HPW4.out)).trans rfl, (cell_of_heap ((hb.block _ (heap_lt HFW4.out)).trans HFW4.out)).trans rfl⟩
          by_cases hbg : ∃ j, Rch T no j ∧ 16 < Q.length + j
          · have HE : Hid (te = 112) := HTE.out.trans (by rw [if_neg (fun h => HPRE.out h.2), if_neg (by simp), if_neg HN1.out, if_neg (fun h => HN2.out h.1), if_pos ⟨by first | rfl | trivial, hbg⟩])
            have HHC : Hid (∀ W', Below w.heap.size w W' → Calls Tryz.prog 163 #[.pointer (some ⟨q, 0, none⟩), .int .i64 (no : Int)] W' fun e w' => ∃ h k : Nat, e = .returned (.int .i64 (h : Int)) ∧ IntKind.i64.wrap ((tn : Int) + (h : Int)) = (k : Int) ∧ (16 : Int) < (k : Int) ∧ Below W'.heap.size W' w') := fun W' hb => (HHG.out W' hb).mono fun e w' ⟨h, e1, hI, hle, hb'⟩ => by
              have hq := HNQ.out
              refine ⟨h, tn + h, e1, by rw [IntKind.wrap_i64]; omega, ?_, hb'⟩
              obtain ⟨j, hj, hj2⟩ := hbg
              have := hI.out.2 j hj
              omega
            clear hbg HHG
            go_wp2_with fail
            refine wp_region_held_drew (S := fun V => V.cell? ⟨w.heap.size, 7, none⟩ = some (.slice ta tn tc) ∧ V.cell? ⟨w.heap.size + 1, 3, none⟩ = some (.int .i64 (no : Int))) (by kernel_rfl) (HS0.out _ (Below.refl _ _).drew) ?_
            intro hS
            refine wpAnyH_take (i := 0) (oi := { dst := some 52, op := .move (.tmp 8), type := _, pos := _, after := _, guard := none }) (v := .bool true) rfl (by kernel_rfl) (by kernel_rfl) (by kernel_rfl) (fun _ _ _ h => h) (Or.inl ⟨by rfl, by intro x _; go_simp⟩) hS ?_
            (try simp only [Act.put, List.setIfInBounds_toArray, List.set_cons_zero, List.set_cons_succ])
            refine wpAnyH_take (i := 1) (oi := { dst := some 53, op := .move (.tmp 52), type := _, pos := _, after := _, guard := none }) (v := .bool true) rfl (by kernel_rfl) (by kernel_rfl) (by kernel_rfl) (fun _ _ _ h => h) (Or.inl ⟨by rfl, by intro x _; go_simp⟩) hS ?_
            (try simp only [Act.put, List.setIfInBounds_toArray, List.set_cons_zero, List.set_cons_succ])
            refine wpAnyH_take (i := 2) (oi := { dst := some 54, op := .fieldAddr 84 (.tmp 4) 2, type := _, pos := _, after := _, guard := some (1, true) }) (v := .pointer (some ⟨w.heap.size, 7, none⟩)) rfl (by kernel_rfl) (by kernel_rfl) (by kernel_rfl) (fun _ _ _ h => h) (Or.inl ⟨by rfl, by intro x _; go_simp⟩) hS ?_
            (try simp only [Act.put, List.setIfInBounds_toArray, List.set_cons_zero, List.set_cons_succ])
            refine wpAnyH_take (i := 3) (oi := { dst := some 55, op := .load 31 (.tmp 54), type := _, pos := _, after := _, guard := some (1, true) }) (v := .slice ta tn tc) rfl (by kernel_rfl) (by kernel_rfl) (by kernel_rfl) (fun _ _ _ h => h) (Or.inl ⟨by rfl, by intro x hx; have h1 := hx.1; go_simp⟩) hS ?_
            (try simp only [Act.put, List.setIfInBounds_toArray, List.set_cons_zero, List.set_cons_succ])
            refine wpAnyH_take (i := 4) (oi := { dst := some 56, op := .call { callee := .builtin .len, args := #[.tmp 55], argTypes := #[31] }, type := _, pos := _, after := _, guard := some (1, true) }) (v := .int .i64 (tn : Int)) rfl (by kernel_rfl) (by kernel_rfl) (by kernel_rfl) (fun _ _ _ h => h) (Or.inl ⟨by rfl, by intro x _; go_simp⟩) hS ?_
            (try simp only [Act.put, List.setIfInBounds_toArray, List.set_cons_zero, List.set_cons_succ])
            refine wpAnyH_take (i := 5) (oi := { dst := some 57, op := .move (.tmp 0), type := _, pos := _, after := _, guard := some (1, true) }) (v := .pointer (some ⟨q, 0, none⟩)) rfl (by kernel_rfl) (by kernel_rfl) (by kernel_rfl) (fun _ _ _ h => h) (Or.inl ⟨by rfl, by intro x _; go_simp⟩) hS ?_
            (try simp only [Act.put, List.setIfInBounds_toArray, List.set_cons_zero, List.set_cons_succ])
            refine wpAnyH_take (i := 6) (oi := { dst := some 58, op := .fieldAddr 191 (.tmp 5) 1, type := _, pos := _, after := _, guard := some (1, true) }) (v := .pointer (some ⟨(w.heap.size + 1), 2, none⟩)) rfl (by kernel_rfl) (by kernel_rfl) (by kernel_rfl) (fun _ _ _ h => h) (Or.inl ⟨by rfl, by intro x _; go_simp⟩) hS ?_
            (try simp only [Act.put, List.setIfInBounds_toArray, List.set_cons_zero, List.set_cons_succ])
            refine wpAnyH_take (i := 7) (oi := { dst := some 59, op := .fieldAddr 149 (.tmp 58) 1, type := _, pos := _, after := _, guard := some (1, true) }) (v := .pointer (some ⟨(w.heap.size + 1), 3, none⟩)) rfl (by kernel_rfl) (by kernel_rfl) (by kernel_rfl) (fun _ _ _ h => h) (Or.inl ⟨by rfl, by intro x _; go_simp⟩) hS ?_
            (try simp only [Act.put, List.setIfInBounds_toArray, List.set_cons_zero, List.set_cons_succ])
            refine wpAnyH_take (i := 8) (oi := { dst := some 60, op := .load 3 (.tmp 59), type := _, pos := _, after := _, guard := some (1, true) }) (v := .int .i64 (no : Int)) rfl (by kernel_rfl) (by kernel_rfl) (by kernel_rfl) (fun _ _ _ h => h) (Or.inl ⟨by rfl, by intro x hx; have h1 := hx.2; go_simp⟩) hS ?_
            (try simp only [Act.put, List.setIfInBounds_toArray, List.set_cons_zero, List.set_cons_succ])
            refine wpAnyH_ready (rs := [9]) (by kernel_rfl) (by simp) ?_
            refine AllReadyH.cons (o := { dst := some 61, op := .call { callee := .value (.func 163), args := #[.tmp 57, .tmp 60], argTypes := #[76, 3] }, type := _, pos := _, after := _, guard := some (1, true) }) rfl (fun K hK => ?_) AllReadyH.nil
            go_simp
            refine (HHC.out _ HBW4.out.drew).mono ?_
            rintro e w6 ⟨h, k, rfl, hwk, hk16, hb6⟩
            have hb46 : Below W4.heap.size W4 w6 := ((Below.refl W4.heap.size W4).drew).trans hb6
            have HBw6 : Hid (Below w.heap.size w w6) := HBW4.out.trans (hb46.mono HBW4.out.size)
            have HZw6 : Hid (w6.heap[w.heap.size + 1 + 1]? = some (.cells #[.int .i64 0, .string { data := #[] }, .int .i64 0, .int .i64 0] 191 (0, 0))) := (hb46.block _ (heap_lt HZW4.out)).trans HZW4.out
            have HK46 : Hid (w6.heap[w3.heap.size]? = some (.cells #[.int .i64 (par2 : Int), .string nm2, .int .i64 (kd2 : Int), .int .i64 (no2 : Int)] 191 (0, 0))) := (hb46.block _ (heap_lt HK4.out)).trans HK4.out
            replace hS := HS0.out _ hb46
            clear hb6 hb46
            refine hK.out _ _ hS (fun _ => ?_)
            clear hK K
            (try simp only [Act.put, List.setIfInBounds_toArray, List.set_cons_zero, List.set_cons_succ])
            refine wpAnyH_take (i := 10) (oi := { dst := some 62, op := .binOp .add 3 (.tmp 56) (.tmp 61) 3, type := _, pos := _, after := _, guard := some (1, true) }) (v := .int .i64 (k : Int)) rfl (by kernel_rfl) (by kernel_rfl) (by kernel_rfl) (fun _ _ _ h => h) (Or.inl ⟨by rfl, by intro x _; go_simp⟩) hS ?_
            (try simp only [Act.put, List.setIfInBounds_toArray, List.set_cons_zero, List.set_cons_succ])
            refine wpAnyH_take (i := 11) (oi := { dst := some 63, op := .binOp .gtr 3 (.tmp 62) (.const (.int .i64 16)) 3, type := _, pos := _, after := _, guard := some (1, true) }) (v := .bool true) rfl (by kernel_rfl) (by kernel_rfl) (by kernel_rfl) (fun _ _ _ h => h) (Or.inl ⟨by rfl, by intro x _; go_simp⟩) hS ?_
            (try simp only [Act.put, List.setIfInBounds_toArray, List.set_cons_zero, List.set_cons_succ])
            refine wpAnyH_take (i := 12) (oi := { dst := some 64, op := .pick (.tmp 53) (.tmp 63) (.const (.bool false)), type := _, pos := _, after := _, guard := none }) (v := .bool true) rfl (by kernel_rfl) (by kernel_rfl) (by kernel_rfl) (fun _ _ _ h => h) (Or.inl ⟨by rfl, by intro x _; go_simp⟩) hS ?_
            (try simp only [Act.put, List.setIfInBounds_toArray, List.set_cons_zero, List.set_cons_succ])
            refine wpAnyH_take (i := 13) (oi := { dst := some 51, op := .assign (.tmp 64), type := _, pos := _, after := _, guard := none }) (v := .bool true) rfl (by kernel_rfl) (by kernel_rfl) (by kernel_rfl) (fun _ _ _ h => h) (Or.inl ⟨by rfl, by intro x _; go_simp⟩) hS ?_
            (try simp only [Act.put, List.setIfInBounds_toArray, List.set_cons_zero, List.set_cons_succ])
            refine wpAnyH_done (by kernel_rfl) ?_ _
            have g06 : w6.cell? ⟨w3.heap.size, 0, none⟩ = some (.int .i64 (par2 : Int)) := (cell_of_heap HK46.out).trans rfl
            have g16 : w6.cell? ⟨w3.heap.size, 1, none⟩ = some (.string nm2) := (cell_of_heap HK46.out).trans rfl
            have g26 : w6.cell? ⟨w3.heap.size, 2, none⟩ = some (.int .i64 (kd2 : Int)) := (cell_of_heap HK46.out).trans rfl
            have g36 : w6.cell? ⟨w3.heap.size, 3, none⟩ = some (.int .i64 (no2 : Int)) := (cell_of_heap HK46.out).trans rfl
            have z0 : w6.cell? ⟨w.heap.size + 1 + 1, 0, none⟩ = some (.int .i64 0) := (cell_of_heap HZw6.out).trans rfl
            have z1 : w6.cell? ⟨w.heap.size + 1 + 1, 1, none⟩ = some (.string { data := #[] }) := (cell_of_heap HZw6.out).trans rfl
            have z2 : w6.cell? ⟨w.heap.size + 1 + 1, 2, none⟩ = some (.int .i64 0) := (cell_of_heap HZw6.out).trans rfl
            have z3 : w6.cell? ⟨w.heap.size + 1 + 1, 3, none⟩ = some (.int .i64 0) := (cell_of_heap HZw6.out).trans rfl
            have fzz : ∀ j, w6.frozen? ⟨w.heap.size + 1 + 1, j, none⟩ = false := fun j => frozen_of_heap HZw6.out
            go_wp2_with fail
            refine bodyPost_ret (results_cellt rfl _ _ (w.heap.size + 1 + 1) 191 _ (0, 0) _ rfl (put4A HZw6.out) Tryz.underlying191 rfl sizeSp) rfl ?_
            have hts := HTS.out
            rw [HE.out, if_neg (by decide)] at hts
            rw [hts, HE.out]
            exact ⟨rfl, (((HBw6.out.setCell (by simp; omega) _).setCell (by simp; omega) _).setCell (by simp; omega) _).setCell (by simp; omega) _⟩
          · have HE : Hid (te = 0) := HTE.out.trans (by rw [if_neg (fun h => HPRE.out h.2), if_neg (by simp), if_neg HN1.out, if_neg (fun h => HN2.out h.1), if_neg (fun h => hbg h.2)])
            have HHC : Hid (∀ W', Below w.heap.size w W' → Calls Tryz.prog 163 #[.pointer (some ⟨q, 0, none⟩), .int .i64 (no : Int)] W' fun e w' => ∃ h k : Nat, e = .returned (.int .i64 (h : Int)) ∧ IntKind.i64.wrap ((tn : Int) + (h : Int)) = (k : Int) ∧ ¬ (16 : Int) < (k : Int) ∧ Below W'.heap.size W' w') := fun W' hb => (HHG.out W' hb).mono fun e w' ⟨h, e1, hI, hle, hb'⟩ => by
              have hq := HNQ.out
              refine ⟨h, tn + h, e1, by rw [IntKind.wrap_i64]; omega, ?_, hb'⟩
              rcases hI.out.1 with h0 | h0
              · omega
              · exact fun hc => hbg ⟨h, h0, by omega⟩
            clear hbg HHG
            go_wp2_with fail
            refine wp_region_held_drew (S := fun V => V.cell? ⟨w.heap.size, 7, none⟩ = some (.slice ta tn tc) ∧ V.cell? ⟨w.heap.size + 1, 3, none⟩ = some (.int .i64 (no : Int))) (by kernel_rfl) (HS0.out _ (Below.refl _ _).drew) ?_
            intro hS
            refine wpAnyH_take (i := 0) (oi := { dst := some 52, op := .move (.tmp 8), type := _, pos := _, after := _, guard := none }) (v := .bool true) rfl (by kernel_rfl) (by kernel_rfl) (by kernel_rfl) (fun _ _ _ h => h) (Or.inl ⟨by rfl, by intro x _; go_simp⟩) hS ?_
            (try simp only [Act.put, List.setIfInBounds_toArray, List.set_cons_zero, List.set_cons_succ])
            refine wpAnyH_take (i := 1) (oi := { dst := some 53, op := .move (.tmp 52), type := _, pos := _, after := _, guard := none }) (v := .bool true) rfl (by kernel_rfl) (by kernel_rfl) (by kernel_rfl) (fun _ _ _ h => h) (Or.inl ⟨by rfl, by intro x _; go_simp⟩) hS ?_
            (try simp only [Act.put, List.setIfInBounds_toArray, List.set_cons_zero, List.set_cons_succ])
            refine wpAnyH_take (i := 2) (oi := { dst := some 54, op := .fieldAddr 84 (.tmp 4) 2, type := _, pos := _, after := _, guard := some (1, true) }) (v := .pointer (some ⟨w.heap.size, 7, none⟩)) rfl (by kernel_rfl) (by kernel_rfl) (by kernel_rfl) (fun _ _ _ h => h) (Or.inl ⟨by rfl, by intro x _; go_simp⟩) hS ?_
            (try simp only [Act.put, List.setIfInBounds_toArray, List.set_cons_zero, List.set_cons_succ])
            refine wpAnyH_take (i := 3) (oi := { dst := some 55, op := .load 31 (.tmp 54), type := _, pos := _, after := _, guard := some (1, true) }) (v := .slice ta tn tc) rfl (by kernel_rfl) (by kernel_rfl) (by kernel_rfl) (fun _ _ _ h => h) (Or.inl ⟨by rfl, by intro x hx; have h1 := hx.1; go_simp⟩) hS ?_
            (try simp only [Act.put, List.setIfInBounds_toArray, List.set_cons_zero, List.set_cons_succ])
            refine wpAnyH_take (i := 4) (oi := { dst := some 56, op := .call { callee := .builtin .len, args := #[.tmp 55], argTypes := #[31] }, type := _, pos := _, after := _, guard := some (1, true) }) (v := .int .i64 (tn : Int)) rfl (by kernel_rfl) (by kernel_rfl) (by kernel_rfl) (fun _ _ _ h => h) (Or.inl ⟨by rfl, by intro x _; go_simp⟩) hS ?_
            (try simp only [Act.put, List.setIfInBounds_toArray, List.set_cons_zero, List.set_cons_succ])
            refine wpAnyH_take (i := 5) (oi := { dst := some 57, op := .move (.tmp 0), type := _, pos := _, after := _, guard := some (1, true) }) (v := .pointer (some ⟨q, 0, none⟩)) rfl (by kernel_rfl) (by kernel_rfl) (by kernel_rfl) (fun _ _ _ h => h) (Or.inl ⟨by rfl, by intro x _; go_simp⟩) hS ?_
            (try simp only [Act.put, List.setIfInBounds_toArray, List.set_cons_zero, List.set_cons_succ])
            refine wpAnyH_take (i := 6) (oi := { dst := some 58, op := .fieldAddr 191 (.tmp 5) 1, type := _, pos := _, after := _, guard := some (1, true) }) (v := .pointer (some ⟨(w.heap.size + 1), 2, none⟩)) rfl (by kernel_rfl) (by kernel_rfl) (by kernel_rfl) (fun _ _ _ h => h) (Or.inl ⟨by rfl, by intro x _; go_simp⟩) hS ?_
            (try simp only [Act.put, List.setIfInBounds_toArray, List.set_cons_zero, List.set_cons_succ])
            refine wpAnyH_take (i := 7) (oi := { dst := some 59, op := .fieldAddr 149 (.tmp 58) 1, type := _, pos := _, after := _, guard := some (1, true) }) (v := .pointer (some ⟨(w.heap.size + 1), 3, none⟩)) rfl (by kernel_rfl) (by kernel_rfl) (by kernel_rfl) (fun _ _ _ h => h) (Or.inl ⟨by rfl, by intro x _; go_simp⟩) hS ?_
            (try simp only [Act.put, List.setIfInBounds_toArray, List.set_cons_zero, List.set_cons_succ])
            refine wpAnyH_take (i := 8) (oi := { dst := some 60, op := .load 3 (.tmp 59), type := _, pos := _, after := _, guard := some (1, true) }) (v := .int .i64 (no : Int)) rfl (by kernel_rfl) (by kernel_rfl) (by kernel_rfl) (fun _ _ _ h => h) (Or.inl ⟨by rfl, by intro x hx; have h1 := hx.2; go_simp⟩) hS ?_
            (try simp only [Act.put, List.setIfInBounds_toArray, List.set_cons_zero, List.set_cons_succ])
            refine wpAnyH_ready (rs := [9]) (by kernel_rfl) (by simp) ?_
            refine AllReadyH.cons (o := { dst := some 61, op := .call { callee := .value (.func 163), args := #[.tmp 57, .tmp 60], argTypes := #[76, 3] }, type := _, pos := _, after := _, guard := some (1, true) }) rfl (fun K hK => ?_) AllReadyH.nil
            go_simp
            refine (HHC.out _ HBW4.out.drew).mono ?_
            rintro e w6 ⟨h, k, rfl, hwk, hk16, hb6⟩
            have hb46 : Below W4.heap.size W4 w6 := ((Below.refl W4.heap.size W4).drew).trans hb6
            have HBw6 : Hid (Below w.heap.size w w6) := HBW4.out.trans (hb46.mono HBW4.out.size)
            have HZw6 : Hid (w6.heap[w.heap.size + 1 + 1]? = some (.cells #[.int .i64 0, .string { data := #[] }, .int .i64 0, .int .i64 0] 191 (0, 0))) := (hb46.block _ (heap_lt HZW4.out)).trans HZW4.out
            have HK46 : Hid (w6.heap[w3.heap.size]? = some (.cells #[.int .i64 (par2 : Int), .string nm2, .int .i64 (kd2 : Int), .int .i64 (no2 : Int)] 191 (0, 0))) := (hb46.block _ (heap_lt HK4.out)).trans HK4.out
            replace hS := HS0.out _ hb46
            clear hb6 hb46
            refine hK.out _ _ hS (fun _ => ?_)
            clear hK K
            (try simp only [Act.put, List.setIfInBounds_toArray, List.set_cons_zero, List.set_cons_succ])
            refine wpAnyH_take (i := 10) (oi := { dst := some 62, op := .binOp .add 3 (.tmp 56) (.tmp 61) 3, type := _, pos := _, after := _, guard := some (1, true) }) (v := .int .i64 (k : Int)) rfl (by kernel_rfl) (by kernel_rfl) (by kernel_rfl) (fun _ _ _ h => h) (Or.inl ⟨by rfl, by intro x _; go_simp⟩) hS ?_
            (try simp only [Act.put, List.setIfInBounds_toArray, List.set_cons_zero, List.set_cons_succ])
            refine wpAnyH_take (i := 11) (oi := { dst := some 63, op := .binOp .gtr 3 (.tmp 62) (.const (.int .i64 16)) 3, type := _, pos := _, after := _, guard := some (1, true) }) (v := .bool false) rfl (by kernel_rfl) (by kernel_rfl) (by kernel_rfl) (fun _ _ _ h => h) (Or.inl ⟨by rfl, by intro x _; go_simp⟩) hS ?_
            (try simp only [Act.put, List.setIfInBounds_toArray, List.set_cons_zero, List.set_cons_succ])
            refine wpAnyH_take (i := 12) (oi := { dst := some 64, op := .pick (.tmp 53) (.tmp 63) (.const (.bool false)), type := _, pos := _, after := _, guard := none }) (v := .bool false) rfl (by kernel_rfl) (by kernel_rfl) (by kernel_rfl) (fun _ _ _ h => h) (Or.inl ⟨by rfl, by intro x _; go_simp⟩) hS ?_
            (try simp only [Act.put, List.setIfInBounds_toArray, List.set_cons_zero, List.set_cons_succ])
            refine wpAnyH_take (i := 13) (oi := { dst := some 51, op := .assign (.tmp 64), type := _, pos := _, after := _, guard := none }) (v := .bool false) rfl (by kernel_rfl) (by kernel_rfl) (by kernel_rfl) (fun _ _ _ h => h) (Or.inl ⟨by rfl, by intro x _; go_simp⟩) hS ?_
            (try simp only [Act.put, List.setIfInBounds_toArray, List.set_cons_zero, List.set_cons_succ])
            refine wpAnyH_done (by kernel_rfl) ?_ _
            have g06 : w6.cell? ⟨w3.heap.size, 0, none⟩ = some (.int .i64 (par2 : Int)) := (cell_of_heap HK46.out).trans rfl
            have g16 : w6.cell? ⟨w3.heap.size, 1, none⟩ = some (.string nm2) := (cell_of_heap HK46.out).trans rfl
            have g26 : w6.cell? ⟨w3.heap.size, 2, none⟩ = some (.int .i64 (kd2 : Int)) := (cell_of_heap HK46.out).trans rfl
            have g36 : w6.cell? ⟨w3.heap.size, 3, none⟩ = some (.int .i64 (no2 : Int)) := (cell_of_heap HK46.out).trans rfl
            have z0 : w6.cell? ⟨w.heap.size + 1 + 1, 0, none⟩ = some (.int .i64 0) := (cell_of_heap HZw6.out).trans rfl
            have z1 : w6.cell? ⟨w.heap.size + 1 + 1, 1, none⟩ = some (.string { data := #[] }) := (cell_of_heap HZw6.out).trans rfl
            have z2 : w6.cell? ⟨w.heap.size + 1 + 1, 2, none⟩ = some (.int .i64 0) := (cell_of_heap HZw6.out).trans rfl
            have z3 : w6.cell? ⟨w.heap.size + 1 + 1, 3, none⟩ = some (.int .i64 0) := (cell_of_heap HZw6.out).trans rfl
            have fzz : ∀ j, w6.frozen? ⟨w.heap.size + 1 + 1, j, none⟩ = false := fun j => frozen_of_heap HZw6.out
            go_wp2_with fail
            refine bodyPost_ret (results_cellt rfl _ _ (w.heap.size + 1 + 1) 191 _ (0, 0) _ rfl (put4A HZw6.out) Tryz.underlying191 rfl sizeSp) rfl ?_
            have hts := HTS.out
            rw [HE.out, if_pos rfl] at hts
            rw [hts, HE.out]
            exact ⟨rfl, (((HBw6.out.setCell (by simp; omega) _).setCell (by simp; omega) _).setCell (by simp; omega) _).setCell (by simp; omega) _⟩
    · have HE : Hid (te = e2) := HTE.out.trans (by rw [if_neg (fun h => HPRE.out h.2)]; rw [if_pos he])
      have z0 : W4.cell? ⟨w.heap.size + 1 + 1, 0, none⟩ = some (.int .i64 0) := (cell_of_heap HZW4.out).trans rfl
      have z1 : W4.cell? ⟨w.heap.size + 1 + 1, 1, none⟩ = some (.string { data := #[] }) := (cell_of_heap HZW4.out).trans rfl
      have z2 : W4.cell? ⟨w.heap.size + 1 + 1, 2, none⟩ = some (.int .i64 0) := (cell_of_heap HZW4.out).trans rfl
      have z3 : W4.cell? ⟨w.heap.size + 1 + 1, 3, none⟩ = some (.int .i64 0) := (cell_of_heap HZW4.out).trans rfl
      have fzz : ∀ j, W4.frozen? ⟨w.heap.size + 1 + 1, j, none⟩ = false := fun j => frozen_of_heap HZW4.out
      go_wp2_with fail
      refine bodyPost_ret (results_cellt rfl _ _ (w.heap.size + 1 + 1) 191 _ (0, 0) _ rfl (put4A HZW4.out) Tryz.underlying191 rfl sizeSp) rfl ?_
      have hts := HTS.out
      rw [HE.out, if_neg he] at hts
      rw [hts, HE.out]
      exact ⟨rfl, (((HBW4.out.setCell (by simp; omega) _).setCell (by simp; omega) _).setCell (by simp; omega) _).setCell (by simp; omega) _⟩

end Go.Proofs.YtnfddiabhpandaaGreatDoor.Tr
