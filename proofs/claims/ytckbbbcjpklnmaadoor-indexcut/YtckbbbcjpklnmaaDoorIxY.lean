import Derived.Test.YtckbbbcjpklnmaaDoorIxX
namespace Go.Proofs.YtckbbbcjpklnmaaDoor.Ix
open Go.RowKit Go.Lib Go.Deep

theorem flat_take_len {α : Type} (f : α → List UInt8) (A : List α) (i : Nat) : ((A.take i).flatMap f).length ≤ (A.flatMap f).length := by
  conv => rhs; rw [← List.take_append_drop i A, List.flatMap_append, List.length_append]
  omega
theorem flat_take_succ {α : Type} (f : α → List UInt8) {A : List α} {i : Nat} {x : α} (h : A[i]? = some x) : (A.take (i + 1)).flatMap f = (A.take i).flatMap f ++ f x := by
  rw [List.take_add_one, h, List.flatMap_append]
  simp
set_option maxRecDepth 20000 in
set_option maxHeartbeats 1000000 in
theorem wrows_ref (A : List Rf) (hA : ∀ x ∈ A, x.nm.size ≤ 1000 ∧ x.tg.size ≤ 1000) (B p : Nat) (v : Value) (L : List UInt8) (hL : L.length + (A.flatMap refL).length ≤ 1099511000000) (w : World) (av : Option Addr) (n c : Nat) (hS : See w 2 (.slice av n c) n (rfsC A)) (hn : A.length = n) (hn2 : n ≤ 1099511000000) (hfar : ∀ b off, av = some ⟨b, off, none⟩ → Far w B p b) (hW : Wr w B p v L) (hBw : B ≤ w.heap.size) :
    Calls Tryd.prog 66 #[.pointer (some ⟨p, 0, none⟩), .slice av n c, .func (.func 67) #[] #[]] w fun e w' => e = .returned (.tuple #[]) ∧ Wt w w' B p (L ++ A.flatMap refL) := by
  go_enter Tryd.func66, Tryd.ntmps66
  go_wp2_with fail
  go_loopg [10] n (fun gk iv wr => ∃ i : Nat, i + gk = n ∧ iv = .int .i64 (i : Int) ∧ Hid (Wt w wr B p (L ++ (A.take i).flatMap refL)))
  case atStart => exact ⟨0, by omega, rfl, ⟨Fr.refl _ _ _, v, by rw [List.take_zero, List.flatMap_nil, List.append_nil]; exact hW⟩⟩
  case round =>
    obtain ⟨i, hik, rfl, hT⟩ := hrel
    by_cases hlt : i < n
    · have hltI : (i : Int) < (n : Int) := by omega
      obtain ⟨hf, v1, hW1⟩ := hT.out
      obtain ⟨x, hx⟩ : ∃ x, A[i]? = some x := ⟨_, List.getElem?_eq_getElem (by omega)⟩
      have hP := hA x (List.mem_of_getElem? hx)
      have hS1 := hS.far (B := B) (p := p) (fun a' n' c' b off e1 e2 => by injection e1 with e1 _ _; subst e1; exact hfar b off e2) hf
      have hB1 : B ≤ wr.heap.size := Nat.le_trans hBw hf.size
      have hl1 : (L ++ (A.take i).flatMap refL).length ≤ 1099511000000 := by
        have := flat_take_len refL A i
        rw [List.length_append]
        omega
      obtain ⟨b, off, rfl, hbl, hc⟩ := hS1.row rfC_len (by decide) hx
      obtain ⟨nm, tg⟩ := x
      simp only at hP
      have c0 : wr.cell? ⟨b, off + i * 2, none⟩ = some (.string nm) := hc 0 _ rfl
      have c1 : wr.cell? ⟨b, off + i * 2 + 1, none⟩ = some (.string tg) := hc 1 _ rfl
      obtain ⟨V, hV, hW2, hF2, hfar2, hC2, hz2⟩ := hW1.box #[.string nm, .string tg] 48 (by decide)
      have d0 : V.cell? ⟨wr.heap.size, 0, none⟩ = some (.string nm) := (cell_of_heap hC2).trans rfl
      have d1 : V.cell? ⟨wr.heap.size, 1, none⟩ = some (.string tg) := (cell_of_heap hC2).trans rfl
      have K := ref_any nm tg hP.1 hP.2 B p v1 _ hl1 V hW2 (Nat.le_trans hB1 hz2)
      have HE : Hid (∀ w', Wt V w' B p ((L ++ (A.take i).flatMap refL) ++ refL ⟨nm, tg⟩) → Wt w w' B p (L ++ (A.take (i + 1)).flatMap refL)) := fun w' h => by
        refine Wt.ahead (hf.trans hF2) ?_
        rw [flat_take_succ refL hx, ← List.append_assoc]
        exact h
      clear hW1 hW2 hf hF2 hfar2 hC2 hz2 hc hS1 hT hx hP
      go_wp2_with fail
      refine K.mono ?_
      rintro e w2 ⟨rfl, hT2⟩
      have HT : Hid _ := HE.out w2 hT2
      clear hT2 HE K
      go_wp2
      go_roundg (gk - 1)
      case measure => omega
      case rel => exact ⟨i + 1, by omega, rfl, HT⟩
    · obtain rfl : i = n := by omega
      have hltI : ¬ (i : Int) < (i : Int) := by omega
      have HT : Hid (Wt w wr B p (L ++ A.flatMap refL)) := by
        have := hT.out
        rw [List.take_of_length_le (by omega)] at this
        exact this
      go_wp2
      go_end0
      exact ⟨rfl, HT.out⟩
set_option maxRecDepth 20000 in
set_option maxHeartbeats 1000000 in
theorem wrows_dir (A : List Nd) (hA : ∀ x ∈ A, x.nm.size ≤ 32 ∧ (0 ≤ x.pa ∧ x.pa ≤ 4294967296)) (B p : Nat) (v : Value) (L : List UInt8) (hL : L.length + (A.flatMap dirL).length ≤ 1099511000000) (w : World) (av : Option Addr) (n c : Nat) (hS : See w 5 (.slice av n c) n (ndsC A)) (hn : A.length = n) (hn2 : n ≤ 1099511000000) (hfar : ∀ b off, av = some ⟨b, off, none⟩ → Far w B p b) (hW : Wr w B p v L) (hBw : B ≤ w.heap.size) :
    Calls Tryd.prog 74 #[.pointer (some ⟨p, 0, none⟩), .slice av n c, .func (.func 75) #[] #[]] w fun e w' => e = .returned (.tuple #[]) ∧ Wt w w' B p (L ++ A.flatMap dirL) := by
  go_enter Tryd.func74, Tryd.ntmps74
  go_wp2_with fail
  go_loopg [10] n (fun gk iv wr => ∃ i : Nat, i + gk = n ∧ iv = .int .i64 (i : Int) ∧ Hid (Wt w wr B p (L ++ (A.take i).flatMap dirL)))
  case atStart => exact ⟨0, by omega, rfl, ⟨Fr.refl _ _ _, v, by rw [List.take_zero, List.flatMap_nil, List.append_nil]; exact hW⟩⟩
  case round =>
    obtain ⟨i, hik, rfl, hT⟩ := hrel
    by_cases hlt : i < n
    · have hltI : (i : Int) < (n : Int) := by omega
      obtain ⟨hf, v1, hW1⟩ := hT.out
      obtain ⟨x, hx⟩ : ∃ x, A[i]? = some x := ⟨_, List.getElem?_eq_getElem (by omega)⟩
      have hP := hA x (List.mem_of_getElem? hx)
      have hS1 := hS.far (B := B) (p := p) (fun a' n' c' b off e1 e2 => by injection e1 with e1 _ _; subst e1; exact hfar b off e2) hf
      have hB1 : B ≤ wr.heap.size := Nat.le_trans hBw hf.size
      have hl1 : (L ++ (A.take i).flatMap dirL).length ≤ 1099511000000 := by
        have := flat_take_len dirL A i
        rw [List.length_append]
        omega
      obtain ⟨b, off, rfl, hbl, hc⟩ := hS1.row ndC_len (by decide) hx
      obtain ⟨kd, nu, pa, nm, sz⟩ := x
      simp only at hP
      have c0 : wr.cell? ⟨b, off + i * 5, none⟩ = some (.int .i64 kd) := hc 0 _ rfl
      have c1 : wr.cell? ⟨b, off + i * 5 + 1, none⟩ = some (.int .i64 nu) := hc 1 _ rfl
      have c2 : wr.cell? ⟨b, off + i * 5 + 2, none⟩ = some (.int .i64 pa) := hc 2 _ rfl
      have c3 : wr.cell? ⟨b, off + i * 5 + 3, none⟩ = some (.string nm) := hc 3 _ rfl
      have c4 : wr.cell? ⟨b, off + i * 5 + 4, none⟩ = some (.int .i64 sz) := hc 4 _ rfl
      obtain ⟨V, hV, hW2, hF2, hfar2, hC2, hz2⟩ := hW1.box #[.int .i64 kd, .int .i64 nu, .int .i64 pa, .string nm, .int .i64 sz] 91 (by decide)
      have d0 : V.cell? ⟨wr.heap.size, 0, none⟩ = some (.int .i64 kd) := (cell_of_heap hC2).trans rfl
      have d1 : V.cell? ⟨wr.heap.size, 1, none⟩ = some (.int .i64 nu) := (cell_of_heap hC2).trans rfl
      have d2 : V.cell? ⟨wr.heap.size, 2, none⟩ = some (.int .i64 pa) := (cell_of_heap hC2).trans rfl
      have d3 : V.cell? ⟨wr.heap.size, 3, none⟩ = some (.string nm) := (cell_of_heap hC2).trans rfl
      have d4 : V.cell? ⟨wr.heap.size, 4, none⟩ = some (.int .i64 sz) := (cell_of_heap hC2).trans rfl
      have K := dir_any ⟨kd, nu, pa, nm, sz⟩ hP.1 hP.2 B p v1 _ hl1 V hW2 (Nat.le_trans hB1 hz2)
      have HE : Hid (∀ w', Wt V w' B p ((L ++ (A.take i).flatMap dirL) ++ dirL ⟨kd, nu, pa, nm, sz⟩) → Wt w w' B p (L ++ (A.take (i + 1)).flatMap dirL)) := fun w' h => by
        refine Wt.ahead (hf.trans hF2) ?_
        rw [flat_take_succ dirL hx, ← List.append_assoc]
        exact h
      clear hW1 hW2 hf hF2 hfar2 hC2 hz2 hc hS1 hT hx hP
      go_wp2_with fail
      refine K.mono ?_
      rintro e w2 ⟨rfl, hT2⟩
      have HT : Hid _ := HE.out w2 hT2
      clear hT2 HE K
      go_wp2
      go_roundg (gk - 1)
      case measure => omega
      case rel => exact ⟨i + 1, by omega, rfl, HT⟩
    · obtain rfl : i = n := by omega
      have hltI : ¬ (i : Int) < (i : Int) := by omega
      have HT : Hid (Wt w wr B p (L ++ A.flatMap dirL)) := by
        have := hT.out
        rw [List.take_of_length_le (by omega)] at this
        exact this
      go_wp2
      go_end0
      exact ⟨rfl, HT.out⟩
set_option maxRecDepth 20000 in
set_option maxHeartbeats 1000000 in
theorem wrows_file (A : List Nd) (hA : ∀ x ∈ A, x.nm.size ≤ 32 ∧ (0 ≤ x.pa ∧ x.pa ≤ 4294967296) ∧ (0 ≤ x.sz ∧ x.sz ≤ 4294967296)) (B p : Nat) (v : Value) (L : List UInt8) (hL : L.length + (A.flatMap filL).length ≤ 1099511000000) (w : World) (av : Option Addr) (n c : Nat) (hS : See w 5 (.slice av n c) n (ndsC A)) (hn : A.length = n) (hn2 : n ≤ 1099511000000) (hfar : ∀ b off, av = some ⟨b, off, none⟩ → Far w B p b) (hW : Wr w B p v L) (hBw : B ≤ w.heap.size) :
    Calls Tryd.prog 74 #[.pointer (some ⟨p, 0, none⟩), .slice av n c, .func (.func 76) #[] #[]] w fun e w' => e = .returned (.tuple #[]) ∧ Wt w w' B p (L ++ A.flatMap filL) := by
  go_enter Tryd.func74, Tryd.ntmps74
  go_wp2_with fail
  go_loopg [10] n (fun gk iv wr => ∃ i : Nat, i + gk = n ∧ iv = .int .i64 (i : Int) ∧ Hid (Wt w wr B p (L ++ (A.take i).flatMap filL)))
  case atStart => exact ⟨0, by omega, rfl, ⟨Fr.refl _ _ _, v, by rw [List.take_zero, List.flatMap_nil, List.append_nil]; exact hW⟩⟩
  case round =>
    obtain ⟨i, hik, rfl, hT⟩ := hrel
    by_cases hlt : i < n
    · have hltI : (i : Int) < (n : Int) := by omega
      obtain ⟨hf, v1, hW1⟩ := hT.out
      obtain ⟨x, hx⟩ : ∃ x, A[i]? = some x := ⟨_, List.getElem?_eq_getElem (by omega)⟩
      have hP := hA x (List.mem_of_getElem? hx)
      have hS1 := hS.far (B := B) (p := p) (fun a' n' c' b off e1 e2 => by injection e1 with e1 _ _; subst e1; exact hfar b off e2) hf
      have hB1 : B ≤ wr.heap.size := Nat.le_trans hBw hf.size
      have hl1 : (L ++ (A.take i).flatMap filL).length ≤ 1099511000000 := by
        have := flat_take_len filL A i
        rw [List.length_append]
        omega
      obtain ⟨b, off, rfl, hbl, hc⟩ := hS1.row ndC_len (by decide) hx
      obtain ⟨kd, nu, pa, nm, sz⟩ := x
      simp only at hP
      have c0 : wr.cell? ⟨b, off + i * 5, none⟩ = some (.int .i64 kd) := hc 0 _ rfl
      have c1 : wr.cell? ⟨b, off + i * 5 + 1, none⟩ = some (.int .i64 nu) := hc 1 _ rfl
      have c2 : wr.cell? ⟨b, off + i * 5 + 2, none⟩ = some (.int .i64 pa) := hc 2 _ rfl
      have c3 : wr.cell? ⟨b, off + i * 5 + 3, none⟩ = some (.string nm) := hc 3 _ rfl
      have c4 : wr.cell? ⟨b, off + i * 5 + 4, none⟩ = some (.int .i64 sz) := hc 4 _ rfl
      obtain ⟨V, hV, hW2, hF2, hfar2, hC2, hz2⟩ := hW1.box #[.int .i64 kd, .int .i64 nu, .int .i64 pa, .string nm, .int .i64 sz] 91 (by decide)
      have d0 : V.cell? ⟨wr.heap.size, 0, none⟩ = some (.int .i64 kd) := (cell_of_heap hC2).trans rfl
      have d1 : V.cell? ⟨wr.heap.size, 1, none⟩ = some (.int .i64 nu) := (cell_of_heap hC2).trans rfl
      have d2 : V.cell? ⟨wr.heap.size, 2, none⟩ = some (.int .i64 pa) := (cell_of_heap hC2).trans rfl
      have d3 : V.cell? ⟨wr.heap.size, 3, none⟩ = some (.string nm) := (cell_of_heap hC2).trans rfl
      have d4 : V.cell? ⟨wr.heap.size, 4, none⟩ = some (.int .i64 sz) := (cell_of_heap hC2).trans rfl
      have K := file_any ⟨kd, nu, pa, nm, sz⟩ hP.1 hP.2.1 hP.2.2 B p v1 _ hl1 V hW2 (Nat.le_trans hB1 hz2)
      have HE : Hid (∀ w', Wt V w' B p ((L ++ (A.take i).flatMap filL) ++ filL ⟨kd, nu, pa, nm, sz⟩) → Wt w w' B p (L ++ (A.take (i + 1)).flatMap filL)) := fun w' h => by
        refine Wt.ahead (hf.trans hF2) ?_
        rw [flat_take_succ filL hx, ← List.append_assoc]
        exact h
      clear hW1 hW2 hf hF2 hfar2 hC2 hz2 hc hS1 hT hx hP
      go_wp2_with fail
      refine K.mono ?_
      rintro e w2 ⟨rfl, hT2⟩
      have HT : Hid _ := HE.out w2 hT2
      clear hT2 HE K
      go_wp2
      go_roundg (gk - 1)
      case measure => omega
      case rel => exact ⟨i + 1, by omega, rfl, HT⟩
    · obtain rfl : i = n := by omega
      have hltI : ¬ (i : Int) < (i : Int) := by omega
      have HT : Hid (Wt w wr B p (L ++ A.flatMap filL)) := by
        have := hT.out
        rw [List.take_of_length_le (by omega)] at this
        exact this
      go_wp2
      go_end0
      exact ⟨rfl, HT.out⟩
set_option maxRecDepth 20000 in
set_option maxHeartbeats 1000000 in
theorem wrows_obj (A : List Ob) (hA : ∀ x ∈ A, x.nm.size ≤ 1000 ∧ x.tg.size ≤ 1000 ∧ (0 ≤ x.bk ∧ x.bk ≤ 4294967296) ∧ (-1 ≤ x.ow ∧ x.ow ≤ 4294960000)) (B p : Nat) (v : Value) (L : List UInt8) (hL : L.length + (A.flatMap objL).length ≤ 1099511000000) (w : World) (av : Option Addr) (n c : Nat) (hS : See w 4 (.slice av n c) n (obsC A)) (hn : A.length = n) (hn2 : n ≤ 1099511000000) (hfar : ∀ b off, av = some ⟨b, off, none⟩ → Far w B p b) (hW : Wr w B p v L) (hBw : B ≤ w.heap.size) :
    Calls Tryd.prog 77 #[.pointer (some ⟨p, 0, none⟩), .slice av n c, .func (.func 78) #[] #[]] w fun e w' => e = .returned (.tuple #[]) ∧ Wt w w' B p (L ++ A.flatMap objL) := by
  go_enter Tryd.func77, Tryd.ntmps77
  go_wp2_with fail
  go_loopg [10] n (fun gk iv wr => ∃ i : Nat, i + gk = n ∧ iv = .int .i64 (i : Int) ∧ Hid (Wt w wr B p (L ++ (A.take i).flatMap objL)))
  case atStart => exact ⟨0, by omega, rfl, ⟨Fr.refl _ _ _, v, by rw [List.take_zero, List.flatMap_nil, List.append_nil]; exact hW⟩⟩
  case round =>
    obtain ⟨i, hik, rfl, hT⟩ := hrel
    by_cases hlt : i < n
    · have hltI : (i : Int) < (n : Int) := by omega
      obtain ⟨hf, v1, hW1⟩ := hT.out
      obtain ⟨x, hx⟩ : ∃ x, A[i]? = some x := ⟨_, List.getElem?_eq_getElem (by omega)⟩
      have hP := hA x (List.mem_of_getElem? hx)
      have hS1 := hS.far (B := B) (p := p) (fun a' n' c' b off e1 e2 => by injection e1 with e1 _ _; subst e1; exact hfar b off e2) hf
      have hB1 : B ≤ wr.heap.size := Nat.le_trans hBw hf.size
      have hl1 : (L ++ (A.take i).flatMap objL).length ≤ 1099511000000 := by
        have := flat_take_len objL A i
        rw [List.length_append]
        omega
      obtain ⟨b, off, rfl, hbl, hc⟩ := hS1.row obC_len (by decide) hx
      obtain ⟨nm, tg, bk, ow⟩ := x
      simp only at hP
      have c0 : wr.cell? ⟨b, off + i * 4, none⟩ = some (.string nm) := hc 0 _ rfl
      have c1 : wr.cell? ⟨b, off + i * 4 + 1, none⟩ = some (.string tg) := hc 1 _ rfl
      have c2 : wr.cell? ⟨b, off + i * 4 + 2, none⟩ = some (.int .i64 bk) := hc 2 _ rfl
      have c3 : wr.cell? ⟨b, off + i * 4 + 3, none⟩ = some (.int .i64 ow) := hc 3 _ rfl
      obtain ⟨V, hV, hW2, hF2, hfar2, hC2, hz2⟩ := hW1.box #[.string nm, .string tg, .int .i64 bk, .int .i64 ow] 93 (by decide)
      have d0 : V.cell? ⟨wr.heap.size, 0, none⟩ = some (.string nm) := (cell_of_heap hC2).trans rfl
      have d1 : V.cell? ⟨wr.heap.size, 1, none⟩ = some (.string tg) := (cell_of_heap hC2).trans rfl
      have d2 : V.cell? ⟨wr.heap.size, 2, none⟩ = some (.int .i64 bk) := (cell_of_heap hC2).trans rfl
      have d3 : V.cell? ⟨wr.heap.size, 3, none⟩ = some (.int .i64 ow) := (cell_of_heap hC2).trans rfl
      have K := obj_any ⟨nm, tg, bk, ow⟩ hP.1 hP.2.1 hP.2.2.1 hP.2.2.2 B p v1 _ hl1 V hW2 (Nat.le_trans hB1 hz2)
      have HE : Hid (∀ w', Wt V w' B p ((L ++ (A.take i).flatMap objL) ++ objL ⟨nm, tg, bk, ow⟩) → Wt w w' B p (L ++ (A.take (i + 1)).flatMap objL)) := fun w' h => by
        refine Wt.ahead (hf.trans hF2) ?_
        rw [flat_take_succ objL hx, ← List.append_assoc]
        exact h
      clear hW1 hW2 hf hF2 hfar2 hC2 hz2 hc hS1 hT hx hP
      go_wp2_with fail
      refine K.mono ?_
      rintro e w2 ⟨rfl, hT2⟩
      have HT : Hid _ := HE.out w2 hT2
      clear hT2 HE K
      go_wp2
      go_roundg (gk - 1)
      case measure => omega
      case rel => exact ⟨i + 1, by omega, rfl, HT⟩
    · obtain rfl : i = n := by omega
      have hltI : ¬ (i : Int) < (i : Int) := by omega
      have HT : Hid (Wt w wr B p (L ++ A.flatMap objL)) := by
        have := hT.out
        rw [List.take_of_length_le (by omega)] at this
        exact this
      go_wp2
      go_end0
      exact ⟨rfl, HT.out⟩
set_option maxRecDepth 20000 in
set_option maxHeartbeats 1000000 in
theorem wrows_int (A : List Int) (hA : ∀ x ∈ A, 0 ≤ x ∧ x ≤ 4294960000) (B p : Nat) (v : Value) (L : List UInt8) (hL : L.length + (A.flatMap queL).length ≤ 1099511000000) (w : World) (av : Option Addr) (n c : Nat) (hS : See w 1 (.slice av n c) n (zsC A)) (hn : A.length = n) (hn2 : n ≤ 1099511000000) (hfar : ∀ b off, av = some ⟨b, off, none⟩ → Far w B p b) (hW : Wr w B p v L) (hBw : B ≤ w.heap.size) :
    Calls Tryd.prog 79 #[.pointer (some ⟨p, 0, none⟩), .slice av n c, .func (.func 81) #[] #[]] w fun e w' => e = .returned (.tuple #[]) ∧ Wt w w' B p (L ++ A.flatMap queL) := by
  go_enter Tryd.func79, Tryd.ntmps79
  go_wp2_with fail
  go_loopg [10] n (fun gk iv wr => ∃ i : Nat, i + gk = n ∧ iv = .int .i64 (i : Int) ∧ Hid (Wt w wr B p (L ++ (A.take i).flatMap queL)))
  case atStart => exact ⟨0, by omega, rfl, ⟨Fr.refl _ _ _, v, by rw [List.take_zero, List.flatMap_nil, List.append_nil]; exact hW⟩⟩
  case round =>
    obtain ⟨i, hik, rfl, hT⟩ := hrel
    by_cases hlt : i < n
    · have hltI : (i : Int) < (n : Int) := by omega
      obtain ⟨hf, v1, hW1⟩ := hT.out
      obtain ⟨x, hx⟩ : ∃ x, A[i]? = some x := ⟨_, List.getElem?_eq_getElem (by omega)⟩
      have hP := hA x (List.mem_of_getElem? hx)
      have hS1 := hS.far (B := B) (p := p) (fun a' n' c' b off e1 e2 => by injection e1 with e1 _ _; subst e1; exact hfar b off e2) hf
      have hB1 : B ≤ wr.heap.size := Nat.le_trans hBw hf.size
      have hl1 : (L ++ (A.take i).flatMap queL).length ≤ 1099511000000 := by
        have := flat_take_len queL A i
        rw [List.length_append]
        omega
      obtain ⟨b, off, rfl, hbl, c0⟩ := hS1.z hx
      have K := queued_any x hP B p v1 _ hl1 wr hW1 hB1
      have HE : Hid (∀ w', Wt wr w' B p ((L ++ (A.take i).flatMap queL) ++ queL x) → Wt w w' B p (L ++ (A.take (i + 1)).flatMap queL)) := fun w' h => by
        refine Wt.ahead hf ?_
        rw [flat_take_succ queL hx, ← List.append_assoc]
        exact h
      clear hW1 hf hS1 hT hx hP
      go_wp2_with fail
      refine K.mono ?_
      rintro e w2 ⟨rfl, hT2⟩
      have HT : Hid _ := HE.out w2 hT2
      clear hT2 HE K
      go_wp2
      go_roundg (gk - 1)
      case measure => omega
      case rel => exact ⟨i + 1, by omega, rfl, HT⟩
    · obtain rfl : i = n := by omega
      have hltI : ¬ (i : Int) < (i : Int) := by omega
      have HT : Hid (Wt w wr B p (L ++ A.flatMap queL)) := by
        have := hT.out
        rw [List.take_of_length_le (by omega)] at this
        exact this
      go_wp2
      go_end0
      exact ⟨rfl, HT.out⟩
end Go.Proofs.YtckbbbcjpklnmaaDoor.Ix
