import Derived.Test.YthmjjpaengackaaRlB
namespace Go.Proofs.Ythmjjpaengackaa.Po
open Go.RowKit Go.Lib Go.Deep

/-! copies of lists, the law's and the document's -/
theorem obsC_snoc (l : List Ob) (o : Ob) : obsC (l ++ [o]) = obsC l ++ obC o := by unfold obsC; simp
theorem zsC_snoc (l : List Int) (z : Int) : zsC (l ++ [z]) = zsC l ++ [.int .i64 z] := by unfold zsC; simp
theorem zsC_len (l : List Int) : (zsC l).length = l.length := by unfold zsC; simp
/-- one element, built for an append -/
theorem see_one {wr : World} {A : Array Value} {t : TypeId} {sz : Nat} (h : A.toList.length = sz) (h1 : ∀ u ∈ A.toList, u.oneCell' = true) : See (wr.alloc (.cells A t)) sz (.slice (some ⟨wr.heap.size, 0, none⟩) 1 1) 1 A.toList := by
  refine ⟨by omega, h1, _, 1, rfl, Nat.le_refl _, fun e => (by cases e), fun _ => ⟨_, _, rfl, heap_lt (heap_new wr _), fun j u hu => ?_⟩⟩
  rw [Nat.zero_add, cell_of_heap (heap_new wr _)]
  rw [Array.getElem?_toList] at hu
  exact hu
theorem obC_one (o : Ob) : ∀ u ∈ obC o, u.oneCell' = true := fun u hu => obsC_one [o] u (by unfold obsC; simpa using hu)
set_option maxRecDepth 20000 in
set_option maxHeartbeats 1000000 in
theorem twinRows_any (w : World) (v : Value) (n : Nat) (A : List Ob) (ha : See w 4 v n (obsC A)) (hn : n ≤ 2900000000000) : Calls Try.prog 44 #[v] w fun e w' => ∃ a c, e = .returned (.slice a n c) ∧ w'.ownsRow w.heap.size 35 4 (.slice a n c) n (obsC A) ∧ Below w.heap.size w w' := by
  have hl := ha.len
  have HA : Hid (See w 4 v n (obsC A)) := ha
  obtain ⟨a1, c1, rfl⟩ := ha.form
  have HL : Hid (A.length = n) := hl
  clear hl ha
  go_enter Try.func44, Try.ntmps44
  go_wp2_with fail
  go_loopg [3, 4] n (fun gk bv iv wr => ∃ (k : Nat) (ba : Option Addr) (bc : Nat), k + gk = n ∧ iv = .int .i64 (k : Int) ∧ bv = .slice ba k bc ∧ Hid (wr.ownsRow w.heap.size 35 4 (.slice ba k bc) k (obsC (A.take k))) ∧ Hid (Below w.heap.size w wr))
  case atStart => exact ⟨0, none, 0, by omega, rfl, rfl, ⟨by simp [obsC], .inl ⟨rfl, rfl⟩⟩, Below.refl _ _⟩
  case round =>
    obtain ⟨k, ba, bc, hk, rfl, rfl, HB, HW⟩ := hrel
    have HKG : Hid (k + gk = n) := hk
    have hkn : k ≤ n := by omega
    clear hk
    by_cases hlt : k < n
    · have hltI : (k : Int) < (n : Int) := by omega
      obtain ⟨x, hx⟩ : ∃ x, A[k]? = some x := ⟨_, List.getElem?_eq_getElem (by have := HL.out; omega)⟩
      obtain ⟨g1, o1, rfl, r0, r1, r2, r3⟩ := (HA.out.below HW.out).ob hx HL.out
      have HX : Hid (A[k]? = some x) := hx
      obtain ⟨W8, hW8, f3, -⟩ := one_new wr #[.string x.nm, .string x.tg, .int .i64 x.bk, .int .i64 x.ow] 35
      have f2 : See (wr.alloc (.cells #[.string x.nm, .string x.tg, .int .i64 x.bk, .int .i64 x.ow] 35)) 4 (.slice (some ⟨wr.heap.size, 0, none⟩) 1 1) 1 (obC x) := see_one rfl (obC_one x)
      have f1 := HB.out.alloc (.cells #[.string x.nm, .string x.tg, .int .i64 x.bk, .int .i64 x.ow] 35)
      rw [hW8] at f1 f2
      have HO8 : Hid (W8.ownsRow w.heap.size 35 4 (.slice ba k bc) k (obsC (A.take k))) := f1
      have HNW : Hid (See W8 4 (.slice (some ⟨wr.heap.size, 0, none⟩) 1 1) 1 (obC x)) := f2
      have hz : k + 1 ≤ maxLen ∧ (k + 1) * 48 ≤ 140737488355328 ∧ w.heap.size ≤ W8.heap.size := ⟨by unfold maxLen; omega, by omega, Nat.le_trans HW.out.size f3.size⟩
      have HBW : Hid (Below w.heap.size w W8) := HW.out.trans (f3.mono HW.out.size)
      clear hx f1 f2 f3
      obtain ⟨n1, t1, b1, w1⟩ := x
      dsimp only at *
      go_wp2_with (first | (at_builtin; (try rw [hW8]); refine wpList_app rfl _ _ 27 35 rfl _ 4 48 Try.underlying27 infoOb rfl (by decide) w.heap.size _ _ k 1 _ _ rfl HO8.out rfl HNW.out hz.1 hz.2.1 hz.2.2 ?_; intro v' w3 hown3 hgrow3; obtain ⟨a3, c3, rfl⟩ := owns_form hown3; have HO3 : Hid _ := hown3; have HG3 : Hid _ := hgrow3; clear hown3 hgrow3) | go_in)
      go_roundg (gk - 1)
      case measure => have := HKG.out; omega
      case rel =>
        refine ⟨k + 1, a3, c3, by have := HKG.out; omega, by go_num, rfl, ?_, HBW.out.trans (grown_base HG3.out hz.2.2 HO8.out)⟩
        have e : A.take (k + 1) = A.take k ++ [⟨n1, t1, b1, w1⟩] := by rw [List.take_add_one, HX.out]; rfl
        rw [e, obsC_snoc]
        exact HO3.out
    · obtain rfl : k = n := by omega
      have hltI : ¬ (k : Int) < (k : Int) := by omega
      go_wp2
      go_ret
      refine ⟨_, _, rfl, ?_, HW.out⟩
      have := HB.out
      rw [← HL.out, List.take_length, HL.out] at this
      exact this
set_option maxRecDepth 20000 in
set_option maxHeartbeats 1000000 in
theorem twinInts_any (w : World) (v : Value) (n : Nat) (A : List Int) (ha : See w 1 v n (zsC A)) (hn : n ≤ 17000000000000) : Calls Try.prog 45 #[v] w fun e w' => ∃ a c, e = .returned (.slice a n c) ∧ w'.ownsRow w.heap.size 3 1 (.slice a n c) n (zsC A) ∧ Below w.heap.size w w' := by
  have hl := ha.lenz
  have HA : Hid (See w 1 v n (zsC A)) := ha
  obtain ⟨a1, c1, rfl⟩ := ha.form
  have HL : Hid (A.length = n) := hl
  clear hl ha
  go_enter Try.func45, Try.ntmps45
  go_wp2_with fail
  go_loopg [3, 4] n (fun gk bv iv wr => ∃ (k : Nat) (ba : Option Addr) (bc : Nat), k + gk = n ∧ iv = .int .i64 (k : Int) ∧ bv = .slice ba k bc ∧ Hid (wr.ownsRow w.heap.size 3 1 (.slice ba k bc) k (zsC (A.take k))) ∧ Hid (Below w.heap.size w wr))
  case atStart => exact ⟨0, none, 0, by omega, rfl, rfl, ⟨by simp [zsC], .inl ⟨rfl, rfl⟩⟩, Below.refl _ _⟩
  case round =>
    obtain ⟨k, ba, bc, hk, rfl, rfl, HB, HW⟩ := hrel
    have HKG : Hid (k + gk = n) := hk
    have hkn : k ≤ n := by omega
    clear hk
    by_cases hlt : k < n
    · have hltI : (k : Int) < (n : Int) := by omega
      obtain ⟨x, hx⟩ : ∃ x, A[k]? = some x := ⟨_, List.getElem?_eq_getElem (by have := HL.out; omega)⟩
      obtain ⟨g1, o1, rfl, r0⟩ := (HA.out.below HW.out).z hx HL.out
      have HX : Hid (A[k]? = some x) := hx
      obtain ⟨W8, hW8, f3, -⟩ := one_new wr #[.int .i64 x] 3
      have f2 : See (wr.alloc (.cells #[.int .i64 x] 3)) 1 (.slice (some ⟨wr.heap.size, 0, none⟩) 1 1) 1 [.int .i64 x] := see_one rfl (zsC_one [x])
      have f1 := HB.out.alloc (.cells #[.int .i64 x] 3)
      rw [hW8] at f1 f2
      have HO8 : Hid (W8.ownsRow w.heap.size 3 1 (.slice ba k bc) k (zsC (A.take k))) := f1
      have HNW : Hid (See W8 1 (.slice (some ⟨wr.heap.size, 0, none⟩) 1 1) 1 [.int .i64 x]) := f2
      have hz : k + 1 ≤ maxLen ∧ (k + 1) * 8 ≤ 140737488355328 ∧ w.heap.size ≤ W8.heap.size := ⟨by unfold maxLen; omega, by omega, Nat.le_trans HW.out.size f3.size⟩
      have HBW : Hid (Below w.heap.size w W8) := HW.out.trans (f3.mono HW.out.size)
      clear hx f1 f2 f3
      go_wp2_with (first | (at_builtin; (try rw [hW8]); refine wpList_app rfl _ _ 23 3 rfl _ 1 8 Try.underlying23 info3 rfl (by decide) w.heap.size _ _ k 1 _ _ rfl HO8.out rfl HNW.out hz.1 hz.2.1 hz.2.2 ?_; intro v' w3 hown3 hgrow3; obtain ⟨a3, c3, rfl⟩ := owns_form hown3; have HO3 : Hid _ := hown3; have HG3 : Hid _ := hgrow3; clear hown3 hgrow3) | go_in)
      go_roundg (gk - 1)
      case measure => have := HKG.out; omega
      case rel =>
        refine ⟨k + 1, a3, c3, by have := HKG.out; omega, by go_num, rfl, ?_, HBW.out.trans (grown_base HG3.out hz.2.2 HO8.out)⟩
        have e : A.take (k + 1) = A.take k ++ [x] := by rw [List.take_add_one, HX.out]; rfl
        rw [e, zsC_snoc]
        exact HO3.out
    · obtain rfl : k = n := by omega
      have hltI : ¬ (k : Int) < (k : Int) := by omega
      go_wp2
      go_ret
      refine ⟨_, _, rfl, ?_, HW.out⟩
      have := HB.out
      rw [← HL.out, List.take_length, HL.out] at this
      exact this
set_option maxRecDepth 20000 in
set_option maxHeartbeats 1000000 in
theorem rowsR_any (w : World) (v : Value) (n : Nat) (xs : List Value) (ha : See w 4 v n xs) (hn : n ≤ 2900000000000) : Calls Try.prog 64 #[v] w fun e w' => ∃ v', e = .returned v' ∧ w'.ownsRow w.heap.size 35 4 v' n xs ∧ Below w.heap.size w w' := by
  have ho : w.ownsRow w.heap.size 35 4 (.slice none 0 0) 0 [] := World.ownsRow_nil _ _ _ _
  go_enter Try.func64, Try.ntmps64
  go_wp2_with (at_builtin; refine wpList_app rfl _ _ 27 35 rfl _ 4 48 Try.underlying27 infoOb rfl (by decide) w.heap.size _ _ 0 n [] xs rfl ho rfl ha (by unfold maxLen; omega) (by omega) (Nat.le_refl _) ?_; intro v' w' hown' hg'; have HO : Hid _ := hown'; have HG : Hid _ := hg'; clear hown' hg')
  go_ret
  refine ⟨_, rfl, ?_, grown_base HG.out (Nat.le_refl _) ho⟩
  have := HO.out
  rw [Nat.zero_add] at this
  exact this
set_option maxRecDepth 20000 in
set_option maxHeartbeats 1000000 in
theorem numbersR_any (w : World) (v : Value) (n : Nat) (xs : List Value) (ha : See w 1 v n xs) (hn : n ≤ 17000000000000) : Calls Try.prog 65 #[v] w fun e w' => ∃ v', e = .returned v' ∧ w'.ownsRow w.heap.size 3 1 v' n xs ∧ Below w.heap.size w w' := by
  have ho : w.ownsRow w.heap.size 3 1 (.slice none 0 0) 0 [] := World.ownsRow_nil _ _ _ _
  go_enter Try.func65, Try.ntmps65
  go_wp2_with (at_builtin; refine wpList_app rfl _ _ 23 3 rfl _ 1 8 Try.underlying23 info3 rfl (by decide) w.heap.size _ _ 0 n [] xs rfl ho rfl ha (by unfold maxLen; omega) (by omega) (Nat.le_refl _) ?_; intro v' w' hown' hg'; have HO : Hid _ := hown'; have HG : Hid _ := hg'; clear hown' hg')
  go_ret
  refine ⟨_, rfl, ?_, grown_base HG.out (Nat.le_refl _) ho⟩
  have := HO.out
  rw [Nat.zero_add] at this
  exact this
end Go.Proofs.Ythmjjpaengackaa.Po
