import Derived.Test.YtnfddiabhpandaaGreatDoorHlM
namespace Go.Proofs.YtnfddiabhpandaaGreatDoor.Tr
open Go.RowKit Go.Lib Go.Deep

/-- the code of what is made -/
def mkC (T : Ts) (P : List ByteArray) (room : Bool) : Int := if (fndN T P).2 ≠ 0 then (fndN T P).2 else if room = true then 0 else 125
theorem cells_three (W : World) (x y z : Value) (ty : TypeId) : ∀ (j : Nat) u, [x, y, z][j]? = some u → (W.alloc (.cells #[x, y, z] ty)).cell? ((⟨W.heap.size, 0, none⟩ : Addr).add j) = some u := fun j u h => by
  have e : (⟨W.heap.size, 0, none⟩ : Addr).add j = ⟨W.heap.size, j, none⟩ := by simp [Addr.add]; omega
  rw [e, cell_of_heap (heap_new W _)]
  simpa using h
theorem mfr_grow {w w' : World} {B n b : Nat} {v : Value} {xs : List Value} (ho : w.ownsRow B 66 3 v n xs) (hg : w.grownBy w' v.ownBlock) : Mfr B w w' b :=
  ⟨hg.os, hg.tape, hg.output, hg.size, fun k o hk _ ht => (hg.block k (heap_lt hk) (fun e => by
    obtain ⟨cur, hc⟩ := owns_block ho e.symm
    rcases ht with ht | ht
    · rw [hk] at hc
      injection hc with hc
      exact ht _ _ hc
    · have := (ho.lt k e.symm).1
      omega)).trans hk⟩
theorem keep_model {w V w' : World} {B n b : Nat} {v : Value} {xs : List Value} {A : Array Value} (hb : w.heap[b]? = some (.cells A 62 (0, 0))) (ho : V.ownsRow B 66 3 v n xs) (hg : V.grownBy w' v.ownBlock) (hV : Below w.heap.size w V) : w'.heap[b]? = some (.cells A 62 (0, 0)) := by
  have h1 := (hV.block _ (heap_lt hb)).trans hb
  refine (hg.block b (heap_lt h1) (fun e => ?_)).trans h1
  obtain ⟨cur, hc⟩ := owns_block ho e.symm
  rw [h1] at hc
  injection hc with hc
  injection hc with _ hc _
  exact absurd hc (by decide)
set_option maxRecDepth 20000 in
set_option maxHeartbeats 2000000 in
theorem make1_any (w : World) (B b f d m : Nat) (L : List En) (h : Mdl w B b f d m L) (hB : B ≤ w.heap.size) {T : Ts} {dp : Nat → Nat} (hI : Inv T dp) (hM : Mo T L) (P : List ByteArray) (hP : Vd P) (_hfb : f ≤ 65536 ∧ d ≤ 65536) (hLb : L.length ≤ 90000) :
    Calls Tryz.prog 47 #[.pointer (some ⟨b, 0, none⟩), .int .i64 1, .string (tx P)] w fun e w' => e = .returned (.int .i64 (mkC T P (decide (L.countP (isK 1) < d)))) ∧ Hid (Mdl w' B b f d m (if mkC T P (decide (L.countP (isK 1) < d)) = 0 then L ++ [⟨P, 1, 0⟩] else L)) ∧ Hid (Mfr B w w' b) := by
  have hway := way_any w B b f d m L h hI hM P hP
  have hkind := kind_any w B b f d m L h hI hM P hP
  have hcnt := count_any w B b f d m L h 1 (by omega)
  have hcl : L.countP (isK 1) ≤ 100000 := Nat.le_trans List.countP_le_length h.nb
  have HD : Hid (Mdl w B b f d m L) := h
  have HV : Hid (Vd P) := hP
  obtain ⟨a, c, h1, h2⟩ := h.row
  have HROW : Hid (w.ownsRow B 66 3 (.slice a L.length c) L.length (ensC L)) := h2
  have HBK : Hid (w.heap[b]? = some (.cells #[.int .i64 (f : Int), .int .i64 (d : Int), .int .i64 (m : Int), .slice a L.length c] 62 (0, 0))) := h1
  have c0 : w.cell? ⟨b, 0, none⟩ = some (.int .i64 (f : Int)) := (cell_of_heap h1).trans rfl
  have c1 : w.cell? ⟨b, 1, none⟩ = some (.int .i64 (d : Int)) := (cell_of_heap h1).trans rfl
  have c3 : w.cell? ⟨b, 3, none⟩ = some (.slice a L.length c) := (cell_of_heap h1).trans rfl
  have fz : w.frozen? ⟨b, 3, none⟩ = false := frozen_of_heap h1
  have HL : Hid (L.length ≤ 90000) := hLb
  obtain ⟨Z, hZ⟩ : ∃ Z, mkC T P (decide (L.countP (isK 1) < d)) = Z := ⟨_, rfl⟩
  have HZ : Hid (mkC T P (decide (L.countP (isK 1) < d)) = Z) := hZ
  rw [hZ]
  obtain ⟨i0, hi, hz0, hz1, hz2⟩ := info_parts infoE
  clear h h1 h2 hZ
  by_cases hn : P = []
  · have ht : tx P = { data := #[47] } := (tx_nil hP).2 hn
    obtain rfl : Z = 121 := by rw [← HZ.out]; subst hn; rfl
    have HEND : Hid (Mdl w B b f d m (if (121 : Int) = 0 then L ++ [⟨P, 1, 0⟩] else L)) := by rw [if_neg (by decide)]; exact HD
    rw [ht] at hway ⊢
    clear hkind hcnt hn ht hi hz0 hz1 hz2
    generalize (fndA T P).2 = E at *
    go_enter Tryz.func47, Tryz.ntmps47
    go_wp2_with fail
    refine hway.mono ?_
    rintro e w1 ⟨rfl, rfl⟩
    go_wp2
    go_ret
    exact ⟨rfl, HEND, mfr_below (Below.refl _ _)⟩
  have hrn := root_ne hP hn
  by_cases he : (fndA T P).2 = 0
  · have hkk : kdT T P = (fndA T P).1.kd := by unfold kdT; rw [if_pos he]
    by_cases hk : kdT T P = 0
    · have hN : fndN T P = fndA T P := by unfold fndN; rw [if_neg (fun e => e.2 (by rw [← hkk]; exact hk))]
      have hm0 : mkC T P (decide (L.countP (isK 1) < d)) = if decide (L.countP (isK 1) < d) = true then 0 else 125 := by
        unfold mkC
        rw [hN, if_neg (fun e => e he)]
      rw [hm0] at HZ
      rw [he] at hway
      rw [hk] at hkind
      by_cases hc : L.countP (isK 1) < d
      · obtain rfl : Z = 0 := by rw [← HZ.out, if_pos (decide_eq_true hc)]
        have hcI : ¬ ((d : Int) ≤ (L.countP (isK 1) : Int)) := by omega
        have hrow := HROW.out
        have HTX : Hid (enC ⟨P, 1, 0⟩ = [.string (tx P), .int .i64 1, .int .i64 0]) := rfl
        have HFIN : Hid (∀ (t : ByteArray) (X w' : World) (v' : Value) (o : Obj), t = tx P → X = w.alloc o → w'.ownsRow B 66 3 v' (L.length + 1) (ensC L ++ [.string t, .int .i64 1, .int .i64 0]) → X.grownBy w' (Value.slice a L.length c).ownBlock → ∃ a' c', v' = .slice a' (L.length + 1) c' ∧ w'.cell? ⟨b, 3, none⟩ = some (.slice a L.length c) ∧ w'.frozen? ⟨b, 3, none⟩ = false ∧ Hid (Mdl (w'.setCell ⟨b, 3, none⟩ (.slice a' (L.length + 1) c')) B b f d m (L ++ [⟨P, 1, 0⟩]) ∧ Mfr B w (w'.setCell ⟨b, 3, none⟩ (.slice a' (L.length + 1) c')) b)) := fun t X w' v' o et eX ho hg => by
          subst et eX
          have hbA : Below w.heap.size w (w.alloc o) := (Below.refl _ _).alloc (Nat.le_refl _) _
          have hmf := mfr_grow (b := b) (HROW.out.alloc o) hg
          have hbk2 : w'.heap[b]? = _ := keep_model HBK.out (HROW.out.alloc o) hg hbA
          obtain ⟨a', c', rfl⟩ := owns_form3 ho
          refine ⟨a', c', rfl, (cell_of_heap hbk2).trans rfl, frozen_of_heap hbk2, ?_, ?_⟩
          · refine mdl_set hbk2 (L := L ++ [⟨P, 1, 0⟩]) (by rw [ensC_app]; exact ho) (by simp) (fun e he => ?_) (by have := HL.out; simp; omega)
            rcases List.mem_append.1 he with he | he
            · exact HD.out.vd e he
            · rw [List.mem_singleton.1 he]; exact HV.out
          · exact ((mfr_below hbA).trans hmf).trans (mfr_set _ _ _ _)
        clear hc hm0 hkk hN HZ hk he hn
        obtain ⟨t, hte⟩ : ∃ t, tx P = t := ⟨_, rfl⟩
        have HTE : Hid (t = tx P) := hte.symm
        have HLE : Hid (L.length ≤ 90000) := HL
        have hle := HLE.out
        rw [hte] at hway hkind hrn ⊢
        clear hte
        generalize L.countP (isK 1) = cn at *
        go_enter Tryz.func47, Tryz.ntmps47
        go_wp2_with fail
        refine hway.mono ?_
        rintro e w1 ⟨rfl, hw1⟩
        subst w1
        go_wp2_with fail
        refine hkind.mono ?_
        rintro e w1 ⟨rfl, hw1⟩
        subst w1
        go_wp2_with fail
        refine hcnt.mono ?_
        rintro e w1 ⟨rfl, hw1⟩
        subst w1
        go_wp2_with (at_builtin; refine wpList_append_own _ rfl _ _ 60 rfl B 66 i0 _ 3 32 Tryz.underlying60 hi hz0 hz1 hz2 rfl (by decide) _ _ _ rfl (hrow.alloc _) ⟨w.heap.size, 0, none⟩ 1 1 [.string t, .int .i64 1, .int .i64 0] rfl rfl (by intro j u hj; exact cells_three w _ _ _ _ j u hj) (by intro u hu; simp at hu; rcases hu with rfl | rfl | rfl <;> rfl) (by unfold maxLen; omega) (by omega) (by simp; omega) ?_; intro v' w' hown' hgrow' _; obtain ⟨a', c', rfl, cc3, ff3, HE⟩ := HFIN.out t _ w' v' _ HTE.out rfl hown' hgrow')
        go_ret
        exact ⟨rfl, HE.out.1, HE.out.2⟩
      · obtain rfl : Z = 125 := by rw [← HZ.out, if_neg (fun e => hc (of_decide_eq_true e))]
        have hcI : ((d : Int) ≤ (L.countP (isK 1) : Int)) := by omega
        have HEND : Hid (Mdl w B b f d m (if (125 : Int) = 0 then L ++ [⟨P, 1, 0⟩] else L)) := by rw [if_neg (by decide)]; exact HD
        clear hc hm0 hkk hN HZ hk he hn hi hz0 hz1 hz2
        generalize tx P = t at *
        generalize L.countP (isK 1) = cn at *
        go_enter Tryz.func47, Tryz.ntmps47
        go_wp2_with fail
        refine hway.mono ?_
        rintro e w1 ⟨rfl, hw1⟩
        subst w1
        go_wp2_with fail
        refine hkind.mono ?_
        rintro e w1 ⟨rfl, hw1⟩
        subst w1
        go_wp2_with fail
        refine hcnt.mono ?_
        rintro e w1 ⟨rfl, hw1⟩
        subst w1
        go_wp2
        go_ret
        exact ⟨rfl, HEND, mfr_below (Below.refl _ _)⟩
    · obtain rfl : Z = 121 := by
        rw [← HZ.out]
        have hN : fndN T P = (Sp.zero, 121) := by unfold fndN; rw [if_pos ⟨he, fun e => hk (by rw [hkk]; exact e)⟩]
        unfold mkC
        rw [hN]
        rfl
      have hkb : ((kdT T P : Int) == 0) = false := by simp; omega
      have HEND : Hid (Mdl w B b f d m (if (121 : Int) = 0 then L ++ [⟨P, 1, 0⟩] else L)) := by rw [if_neg (by decide)]; exact HD
      rw [he] at hway
      clear hcnt hi hz0 hz1 hz2 hkk HZ hk he hn
      generalize tx P = t at *
      generalize kdT T P = kz at *
      go_enter Tryz.func47, Tryz.ntmps47
      go_wp2_with fail
      refine hway.mono ?_
      rintro e w1 ⟨rfl, hw1⟩
      subst w1
      go_wp2_with fail
      refine hkind.mono ?_
      rintro e w1 ⟨rfl, hw1⟩
      subst w1
      go_wp2
      go_ret
      exact ⟨rfl, HEND, mfr_below (Below.refl _ _)⟩
  · have hN : (fndN T P).2 = (fndA T P).2 := by unfold fndN; rw [if_neg (fun e => he e.1)]
    obtain rfl : Z = (fndA T P).2 := by rw [← HZ.out]; unfold mkC; rw [hN, if_pos he]
    have heb : ((fndA T P).2 == 0) = false := by simpa using he
    clear hkind hcnt hi hz0 hz1 hz2 HZ hn hN
    generalize tx P = t at *
    generalize (fndA T P).2 = E at *
    go_enter Tryz.func47, Tryz.ntmps47
    go_wp2_with fail
    refine hway.mono ?_
    rintro e w1 ⟨rfl, hw1⟩
    subst w1
    go_wp2
    go_ret
    exact ⟨rfl, HD, mfr_below (Below.refl _ _)⟩
set_option maxRecDepth 20000 in
set_option maxHeartbeats 2000000 in
theorem make2_any (w : World) (B b f d m : Nat) (L : List En) (h : Mdl w B b f d m L) (hB : B ≤ w.heap.size) {T : Ts} {dp : Nat → Nat} (hI : Inv T dp) (hM : Mo T L) (P : List ByteArray) (hP : Vd P) (_hfb : f ≤ 65536 ∧ d ≤ 65536) (hLb : L.length ≤ 90000) :
    Calls Tryz.prog 47 #[.pointer (some ⟨b, 0, none⟩), .int .i64 2, .string (tx P)] w fun e w' => e = .returned (.int .i64 (mkC T P (decide (L.countP (isK 2) < f)))) ∧ Hid (Mdl w' B b f d m (if mkC T P (decide (L.countP (isK 2) < f)) = 0 then L ++ [⟨P, 2, 0⟩] else L)) ∧ Hid (Mfr B w w' b) := by
  have hway := way_any w B b f d m L h hI hM P hP
  have hkind := kind_any w B b f d m L h hI hM P hP
  have hcnt := count_any w B b f d m L h 2 (by omega)
  have hcl : L.countP (isK 2) ≤ 100000 := Nat.le_trans List.countP_le_length h.nb
  have HD : Hid (Mdl w B b f d m L) := h
  have HV : Hid (Vd P) := hP
  obtain ⟨a, c, h1, h2⟩ := h.row
  have HROW : Hid (w.ownsRow B 66 3 (.slice a L.length c) L.length (ensC L)) := h2
  have HBK : Hid (w.heap[b]? = some (.cells #[.int .i64 (f : Int), .int .i64 (d : Int), .int .i64 (m : Int), .slice a L.length c] 62 (0, 0))) := h1
  have c0 : w.cell? ⟨b, 0, none⟩ = some (.int .i64 (f : Int)) := (cell_of_heap h1).trans rfl
  have c1 : w.cell? ⟨b, 1, none⟩ = some (.int .i64 (d : Int)) := (cell_of_heap h1).trans rfl
  have c3 : w.cell? ⟨b, 3, none⟩ = some (.slice a L.length c) := (cell_of_heap h1).trans rfl
  have fz : w.frozen? ⟨b, 3, none⟩ = false := frozen_of_heap h1
  have HL : Hid (L.length ≤ 90000) := hLb
  obtain ⟨Z, hZ⟩ : ∃ Z, mkC T P (decide (L.countP (isK 2) < f)) = Z := ⟨_, rfl⟩
  have HZ : Hid (mkC T P (decide (L.countP (isK 2) < f)) = Z) := hZ
  rw [hZ]
  obtain ⟨i0, hi, hz0, hz1, hz2⟩ := info_parts infoE
  clear h h1 h2 hZ
  by_cases hn : P = []
  · have ht : tx P = { data := #[47] } := (tx_nil hP).2 hn
    obtain rfl : Z = 121 := by rw [← HZ.out]; subst hn; rfl
    have HEND : Hid (Mdl w B b f d m (if (121 : Int) = 0 then L ++ [⟨P, 2, 0⟩] else L)) := by rw [if_neg (by decide)]; exact HD
    rw [ht] at hway ⊢
    clear hkind hcnt hn ht hi hz0 hz1 hz2
    generalize (fndA T P).2 = E at *
    go_enter Tryz.func47, Tryz.ntmps47
    go_wp2_with fail
    refine hway.mono ?_
    rintro e w1 ⟨rfl, rfl⟩
    go_wp2
    go_ret
    exact ⟨rfl, HEND, mfr_below (Below.refl _ _)⟩
  have hrn := root_ne hP hn
  by_cases he : (fndA T P).2 = 0
  · have hkk : kdT T P = (fndA T P).1.kd := by unfold kdT; rw [if_pos he]
    by_cases hk : kdT T P = 0
    · have hN : fndN T P = fndA T P := by unfold fndN; rw [if_neg (fun e => e.2 (by rw [← hkk]; exact hk))]
      have hm0 : mkC T P (decide (L.countP (isK 2) < f)) = if decide (L.countP (isK 2) < f) = true then 0 else 125 := by
        unfold mkC
        rw [hN, if_neg (fun e => e he)]
      rw [hm0] at HZ
      rw [he] at hway
      rw [hk] at hkind
      by_cases hc : L.countP (isK 2) < f
      · obtain rfl : Z = 0 := by rw [← HZ.out, if_pos (decide_eq_true hc)]
        have hcI : ¬ ((f : Int) ≤ (L.countP (isK 2) : Int)) := by omega
        have hrow := HROW.out
        have HTX : Hid (enC ⟨P, 2, 0⟩ = [.string (tx P), .int .i64 2, .int .i64 0]) := rfl
        have HFIN : Hid (∀ (t : ByteArray) (X w' : World) (v' : Value) (o : Obj), t = tx P → X = w.alloc o → w'.ownsRow B 66 3 v' (L.length + 1) (ensC L ++ [.string t, .int .i64 2, .int .i64 0]) → X.grownBy w' (Value.slice a L.length c).ownBlock → ∃ a' c', v' = .slice a' (L.length + 1) c' ∧ w'.cell? ⟨b, 3, none⟩ = some (.slice a L.length c) ∧ w'.frozen? ⟨b, 3, none⟩ = false ∧ Hid (Mdl (w'.setCell ⟨b, 3, none⟩ (.slice a' (L.length + 1) c')) B b f d m (L ++ [⟨P, 2, 0⟩]) ∧ Mfr B w (w'.setCell ⟨b, 3, none⟩ (.slice a' (L.length + 1) c')) b)) := fun t X w' v' o et eX ho hg => by
          subst et eX
          have hbA : Below w.heap.size w (w.alloc o) := (Below.refl _ _).alloc (Nat.le_refl _) _
          have hmf := mfr_grow (b := b) (HROW.out.alloc o) hg
          have hbk2 : w'.heap[b]? = _ := keep_model HBK.out (HROW.out.alloc o) hg hbA
          obtain ⟨a', c', rfl⟩ := owns_form3 ho
          refine ⟨a', c', rfl, (cell_of_heap hbk2).trans rfl, frozen_of_heap hbk2, ?_, ?_⟩
          · refine mdl_set hbk2 (L := L ++ [⟨P, 2, 0⟩]) (by rw [ensC_app]; exact ho) (by simp) (fun e he => ?_) (by have := HL.out; simp; omega)
            rcases List.mem_append.1 he with he | he
            · exact HD.out.vd e he
            · rw [List.mem_singleton.1 he]; exact HV.out
          · exact ((mfr_below hbA).trans hmf).trans (mfr_set _ _ _ _)
        clear hc hm0 hkk hN HZ hk he hn
        obtain ⟨t, hte⟩ : ∃ t, tx P = t := ⟨_, rfl⟩
        have HTE : Hid (t = tx P) := hte.symm
        have HLE : Hid (L.length ≤ 90000) := HL
        have hle := HLE.out
        rw [hte] at hway hkind hrn ⊢
        clear hte
        generalize L.countP (isK 2) = cn at *
        go_enter Tryz.func47, Tryz.ntmps47
        go_wp2_with fail
        refine hway.mono ?_
        rintro e w1 ⟨rfl, hw1⟩
        subst w1
        go_wp2_with fail
        refine hkind.mono ?_
        rintro e w1 ⟨rfl, hw1⟩
        subst w1
        go_wp2_with fail
        refine hcnt.mono ?_
        rintro e w1 ⟨rfl, hw1⟩
        subst w1
        go_wp2_with (at_builtin; refine wpList_append_own _ rfl _ _ 60 rfl B 66 i0 _ 3 32 Tryz.underlying60 hi hz0 hz1 hz2 rfl (by decide) _ _ _ rfl (hrow.alloc _) ⟨w.heap.size, 0, none⟩ 1 1 [.string t, .int .i64 2, .int .i64 0] rfl rfl (by intro j u hj; exact cells_three w _ _ _ _ j u hj) (by intro u hu; simp at hu; rcases hu with rfl | rfl | rfl <;> rfl) (by unfold maxLen; omega) (by omega) (by simp; omega) ?_; intro v' w' hown' hgrow' _; obtain ⟨a', c', rfl, cc3, ff3, HE⟩ := HFIN.out t _ w' v' _ HTE.out rfl hown' hgrow')
        go_ret
        exact ⟨rfl, HE.out.1, HE.out.2⟩
      · obtain rfl : Z = 125 := by rw [← HZ.out, if_neg (fun e => hc (of_decide_eq_true e))]
        have hcI : ((f : Int) ≤ (L.countP (isK 2) : Int)) := by omega
        have HEND : Hid (Mdl w B b f d m (if (125 : Int) = 0 then L ++ [⟨P, 2, 0⟩] else L)) := by rw [if_neg (by decide)]; exact HD
        clear hc hm0 hkk hN HZ hk he hn hi hz0 hz1 hz2
        generalize tx P = t at *
        generalize L.countP (isK 2) = cn at *
        go_enter Tryz.func47, Tryz.ntmps47
        go_wp2_with fail
        refine hway.mono ?_
        rintro e w1 ⟨rfl, hw1⟩
        subst w1
        go_wp2_with fail
        refine hkind.mono ?_
        rintro e w1 ⟨rfl, hw1⟩
        subst w1
        go_wp2_with fail
        refine hcnt.mono ?_
        rintro e w1 ⟨rfl, hw1⟩
        subst w1
        go_wp2
        go_ret
        exact ⟨rfl, HEND, mfr_below (Below.refl _ _)⟩
    · obtain rfl : Z = 121 := by
        rw [← HZ.out]
        have hN : fndN T P = (Sp.zero, 121) := by unfold fndN; rw [if_pos ⟨he, fun e => hk (by rw [hkk]; exact e)⟩]
        unfold mkC
        rw [hN]
        rfl
      have hkb : ((kdT T P : Int) == 0) = false := by simp; omega
      have HEND : Hid (Mdl w B b f d m (if (121 : Int) = 0 then L ++ [⟨P, 2, 0⟩] else L)) := by rw [if_neg (by decide)]; exact HD
      rw [he] at hway
      clear hcnt hi hz0 hz1 hz2 hkk HZ hk he hn
      generalize tx P = t at *
      generalize kdT T P = kz at *
      go_enter Tryz.func47, Tryz.ntmps47
      go_wp2_with fail
      refine hway.mono ?_
      rintro e w1 ⟨rfl, hw1⟩
      subst w1
      go_wp2_with fail
      refine hkind.mono ?_
      rintro e w1 ⟨rfl, hw1⟩
      subst w1
      go_wp2
      go_ret
      exact ⟨rfl, HEND, mfr_below (Below.refl _ _)⟩
  · have hN : (fndN T P).2 = (fndA T P).2 := by unfold fndN; rw [if_neg (fun e => he e.1)]
    obtain rfl : Z = (fndA T P).2 := by rw [← HZ.out]; unfold mkC; rw [hN, if_pos he]
    have heb : ((fndA T P).2 == 0) = false := by simpa using he
    clear hkind hcnt hi hz0 hz1 hz2 HZ hn hN
    generalize tx P = t at *
    generalize (fndA T P).2 = E at *
    go_enter Tryz.func47, Tryz.ntmps47
    go_wp2_with fail
    refine hway.mono ?_
    rintro e w1 ⟨rfl, hw1⟩
    subst w1
    go_wp2
    go_ret
    exact ⟨rfl, HD, mfr_below (Below.refl _ _)⟩

end Go.Proofs.YtnfddiabhpandaaGreatDoor.Tr

namespace Go.Proofs.YtnfddiabhpandaaGreatDoor.Tr
open Go.RowKit Go.Lib Go.Deep

theorem mfr_fresh {w V : World} {B b g j : Nat} {v : Value} (h : Mfr B w V b) (hg : w.heap.size ≤ g) : Mfr B w (V.setCell ⟨g, j, none⟩ v) b :=
  ⟨h.os, h.tape, h.output, by simpa using h.size, fun k o hk hb ho => (heap_setCell_other _ _ _ _ (by show k ≠ g; have := heap_lt hk; omega)).trans (h.block k o hk hb ho)⟩
theorem mdl_fresh {V : World} {B b f d m g j : Nat} {L : List En} {v : Value} {c : Array Value} (h : Mdl V B b f d m L) (hg : V.heap[g]? = some (.cells c 33 (0, 0))) : Mdl (V.setCell ⟨g, j, none⟩ v) B b f d m L := by
  obtain ⟨a, k, h1, h2⟩ := h.row
  refine ⟨⟨a, k, (heap_setCell_other _ _ _ _ fun e => ?_).trans h1, owns_keep h2 fun x hx => heap_setCell_other _ _ _ _ fun e => ?_⟩, h.vd, h.nb⟩
  · have e : b = g := e
    rw [e, hg] at h1
    injection h1 with h1
    injection h1 with _ h1 _
    exact absurd h1 (by decide)
  · have e : x = g := e
    obtain ⟨cur, hc⟩ := owns_block h2 hx
    rw [e, hg] at hc
    injection hc with hc
    injection hc with _ hc _
    exact absurd hc (by decide)
/-- the six cells of a result -/
abbrev put6 (V : World) (g : Nat) (y0 y1 y2 y3 y4 y5 : Value) : World := (((((V.setCell ⟨g, 0, none⟩ y0).setCell ⟨g, 1, none⟩ y1).setCell ⟨g, 2, none⟩ y2).setCell ⟨g, 3, none⟩ y3).setCell ⟨g, 4, none⟩ y4).setCell ⟨g, 5, none⟩ y5
theorem put6_all {w V : World} {B b f d m g : Nat} {L : List En} {x0 x1 x2 x3 x4 x5 : Value} (hm : Mdl V B b f d m L) (hf : Mfr B w V b) (hg : w.heap.size ≤ g) (h : V.heap[g]? = some (.cells #[x0, x1, x2, x3, x4, x5] 33 (0, 0))) (y0 y1 y2 y3 y4 y5 : Value) :
    (put6 V g y0 y1 y2 y3 y4 y5).heap[g]? = some (.cells #[y0, y1, y2, y3, y4, y5] 33 (0, 0)) ∧ Mdl (put6 V g y0 y1 y2 y3 y4 y5) B b f d m L ∧ Mfr B w (put6 V g y0 y1 y2 y3 y4 y5) b := by
  have s0 := heap_setCell_same _ _ 0 _ _ y0 h
  have s1 := heap_setCell_same _ _ 1 _ _ y1 s0
  have s2 := heap_setCell_same _ _ 2 _ _ y2 s1
  have s3 := heap_setCell_same _ _ 3 _ _ y3 s2
  have s4 := heap_setCell_same _ _ 4 _ _ y4 s3
  refine ⟨put6A h, ?_, mfr_fresh (mfr_fresh (mfr_fresh (mfr_fresh (mfr_fresh (mfr_fresh hf hg) hg) hg) hg) hg) hg⟩
  exact mdl_fresh (mdl_fresh (mdl_fresh (mdl_fresh (mdl_fresh (mdl_fresh hm h) s0) s1) s2) s3) s4
/-- the boxed operation and the result's room -/
theorem op_new (w : World) (A : Array Value) : ∃ W, (w.alloc (.cells A 39)).alloc (.cells #[.int .i64 0, .string { data := #[] }, .int .i64 0, .slice none 0 0, .int .i64 0, .int .i64 0] 33) = W ∧ Below w.heap.size w W ∧ W.heap[w.heap.size]? = some (.cells A 39 (0, 0)) ∧ W.heap[w.heap.size + 1]? = some (.cells #[.int .i64 0, .string { data := #[] }, .int .i64 0, .slice none 0 0, .int .i64 0, .int .i64 0] 33 (0, 0)) := two_new w _ _ _ _

end Go.Proofs.YtnfddiabhpandaaGreatDoor.Tr
