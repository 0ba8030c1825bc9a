import Derived.Test.YtcochbcaillldaaGreatDoorSqS
import Derived.Test.YtcochbcaillldaaGreatDoorSqO
import Derived.Test.YtcochbcaillldaaGreatDoorSqB
namespace Go.Proofs.YtcochbcaillldaaGreatDoor.Sc
open Go.RowKit Go.Lib Go.Deep
open Go.Proofs.YtcochbcaillldaaGreatDoor.Sq (See wpList_app see_own see_one owns_form owns_form2 one_new grown_base)

theorem infoOp : (Tryz.prog.info? 54).map (fun i => (i.zero, i.size, i.bytes)) = some (some (.agg #[.int .i64 0, .string { data := #[] }, .string { data := #[] }, .int .i64 0, .int .i64 0, .string { data := #[] }]), 6, 72) := by kernel_rfl
def opsC (L : List OpR) : List Value := L.flatMap fun o => o.cells.toList
def markO : OpR := ⟨77, { data := #[109, 97, 114, 107] }, nil_, 0, 0, nil_⟩
def twinL (L : List OpR) : List OpR := L ++ List.replicate 8 markO
theorem opsC_snoc (L : List OpR) (o : OpR) : opsC (L ++ [o]) = opsC L ++ o.cells.toList := by unfold opsC; simp
theorem opsC_one (L : List OpR) : ∀ u ∈ opsC L, u.oneCell' = true := by
  intro u hu
  unfold opsC at hu
  obtain ⟨o, _, ho⟩ := List.mem_flatMap.1 hu
  simp [OpR.cells] at ho
  rcases ho with rfl | rfl | rfl | rfl | rfl | rfl <;> rfl
theorem cells_one (o : OpR) : ∀ u ∈ o.cells.toList, u.oneCell' = true := fun u hu => opsC_one [o] u (by unfold opsC; simpa using hu)
set_option maxRecDepth 20000 in
set_option maxHeartbeats 1000000 in
theorem twinOps_any (a : Option Addr) (c : Nat) (L : List OpR) (hll : L.length ≤ 1048576) (w : World) (hs : SeeO w a L) : Calls Tryz.prog 23 #[.slice a L.length c] w fun e w' => ∃ g c', e = .returned (.slice (some ⟨g, 0, none⟩) (L.length + 8) c') ∧ w'.ownsRow w.heap.size 54 6 (.slice (some ⟨g, 0, none⟩) (L.length + 8) c') (L.length + 8) (opsC (twinL L)) ∧ Below w.heap.size w w' := by
  have HS : Hid (SeeO w a L) := hs
  obtain ⟨n, hn⟩ : ∃ n, L.length = n := ⟨_, rfl⟩
  have HN : Hid (L.length = n) := hn
  rw [hn] at hll ⊢
  clear hn hs
  go_enter Tryz.func23, Tryz.ntmps23
  go_wp2_with fail
  go_loopg [3, 4] n (fun gk bv iv wr => ∃ (k : Nat) (ba : Option Addr) (bc : Nat), k + gk = n ∧ iv = .int .i64 (k : Int) ∧ bv = .slice ba k bc ∧ Hid (wr.ownsRow w.heap.size 54 6 (.slice ba k bc) k (opsC (L.take k))) ∧ Hid (Below w.heap.size w wr))
  case atStart => exact ⟨0, none, 0, by omega, rfl, rfl, ⟨by simp [opsC], .inl ⟨rfl, rfl⟩⟩, Below.refl _ _⟩
  case round =>
    obtain ⟨k, ba, bc, hk, rfl, rfl, HB, HW⟩ := hrel
    have HKG : Hid (k + gk = n) := hk
    have hkn : k ≤ n := by omega
    clear hk
    by_cases hlt : k < n
    · have hltI : (k : Int) < (n : Int) := by omega
      obtain ⟨x, hx⟩ : ∃ x, L[k]? = some x := ⟨_, List.getElem?_eq_getElem (by have := HN.out; omega)⟩
      obtain ⟨g1, o1, rfl, hbl, hcells⟩ := HS.out (by intro e; rw [e] at hx; cases hx)
      obtain ⟨r0, r1, r2, r3, r4, r5⟩ := (hcells k x hx).below HW.out hbl
      have HX : Hid (L[k]? = some x) := hx
      obtain ⟨W8, hW8, f3, -⟩ := one_new wr #[.int .i64 x.kind, .string x.path, .string x.to, .int .i64 x.at_, .int .i64 x.n, .string x.data] 54
      have f2 : See (wr.alloc (.cells #[.int .i64 x.kind, .string x.path, .string x.to, .int .i64 x.at_, .int .i64 x.n, .string x.data] 54)) 6 (.slice (some ⟨wr.heap.size, 0, none⟩) 1 1) 1 x.cells.toList := see_one rfl (cells_one _)
      have f1 := HB.out.alloc (.cells #[.int .i64 x.kind, .string x.path, .string x.to, .int .i64 x.at_, .int .i64 x.n, .string x.data] 54)
      rw [hW8] at f1 f2
      have HO8 : Hid (W8.ownsRow w.heap.size 54 6 (.slice ba k bc) k (opsC (L.take k))) := f1
      have HNW : Hid (See W8 6 (.slice (some ⟨wr.heap.size, 0, none⟩) 1 1) 1 x.cells.toList) := f2
      have hz : k + 1 ≤ maxLen ∧ (k + 1) * 72 ≤ 140737488355328 ∧ w.heap.size ≤ W8.heap.size := ⟨by unfold maxLen; omega, by omega, Nat.le_trans HW.out.size f3.size⟩
      have HBW : Hid (Below w.heap.size w W8) := HW.out.trans (f3.mono HW.out.size)
      clear f1 f2 f3
      clear hx hcells
      go_wp2_with (first | (at_builtin; (try rw [hW8]); refine wpList_app rfl _ _ 32 54 rfl _ 6 72 Tryz.underlying32 infoOp rfl (by decide) w.heap.size _ _ k 1 _ _ rfl HO8.out rfl HNW.out hz.1 hz.2.1 hz.2.2 ?_; intro v' w3 hown3 hgrow3; obtain ⟨a3, c3, rfl⟩ := owns_form hown3; have HO3 : Hid _ := hown3; have HG3 : Hid _ := hgrow3; clear hown3 hgrow3) | go_in)
      go_roundg (gk - 1)
      case measure => have := HKG.out; omega
      case rel =>
        refine ⟨k + 1, a3, c3, by have := HKG.out; omega, by go_num, rfl, ?_, HBW.out.trans (grown_base HG3.out hz.2.2 HO8.out)⟩
        have e : L.take (k + 1) = L.take k ++ [x] := by rw [List.take_add_one, HX.out]; rfl
        rw [e, opsC_snoc]
        exact HO3.out
    · obtain rfl : k = n := by omega
      have hltI : ¬ (k : Int) < (k : Int) := by omega
      have HB2 : Hid (wr.ownsRow w.heap.size 54 6 (.slice ba k bc) k (opsC L)) := by
        have h := HB.out
        rw [List.take_of_length_le (by have := HN.out; omega)] at h
        exact h
      have HW2 : Hid (Below w.heap.size w wr) := HW.out
      clear HB HW HKG
      generalize wr = wq at HB2 HW2 ⊢
      go_wp2_with fail
      go_loopg [3, 5] 8 (fun gk bv iv wr => ∃ (m q : Nat) (ba : Option Addr) (bc : Nat), m + gk = 8 ∧ q = k + m ∧ iv = .int .i64 (m : Int) ∧ bv = .slice ba q bc ∧ Hid (wr.ownsRow w.heap.size 54 6 (.slice ba q bc) q (opsC (L ++ List.replicate m markO))) ∧ Hid (Below w.heap.size w wr))
      case atStart => exact ⟨0, k, ba, bc, by omega, by omega, rfl, rfl, by have h := HB2.out; rw [List.replicate_zero, List.append_nil]; exact h, HW2.out⟩
      case round =>
        clear HB2 HW2
        obtain ⟨m, q, ba, bc, hm, hq, rfl, rfl, HB, HW⟩ := hrel
        have HMG : Hid (m + gk = 8) := hm
        have HQ : Hid (q = k + m) := hq
        have hm8 : m ≤ 8 := by omega
        have hqb : q ≤ 1048584 := by omega
        clear hm hq
        by_cases hlm : m < 8
        · have hlmI : (m : Int) < 8 := by omega
          obtain ⟨W8, hW8, f3, -⟩ := one_new wr #[.int .i64 77, .string { data := #[109, 97, 114, 107] }, .string { data := #[] }, .int .i64 0, .int .i64 0, .string { data := #[] }] 54
          have f2 : See (wr.alloc (.cells #[.int .i64 77, .string { data := #[109, 97, 114, 107] }, .string { data := #[] }, .int .i64 0, .int .i64 0, .string { data := #[] }] 54)) 6 (.slice (some ⟨wr.heap.size, 0, none⟩) 1 1) 1 markO.cells.toList := see_one rfl (cells_one markO)
          have f1 := HB.out.alloc (.cells #[.int .i64 77, .string { data := #[109, 97, 114, 107] }, .string { data := #[] }, .int .i64 0, .int .i64 0, .string { data := #[] }] 54)
          rw [hW8] at f1 f2
          have HO8 : Hid (W8.ownsRow w.heap.size 54 6 (.slice ba q bc) q (opsC (L ++ List.replicate m markO))) := f1
          have HNW : Hid (See W8 6 (.slice (some ⟨wr.heap.size, 0, none⟩) 1 1) 1 markO.cells.toList) := f2
          have hz : q + 1 ≤ maxLen ∧ (q + 1) * 72 ≤ 140737488355328 ∧ w.heap.size ≤ W8.heap.size := ⟨by unfold maxLen; omega, by omega, Nat.le_trans HW.out.size f3.size⟩
          have HBW : Hid (Below w.heap.size w W8) := HW.out.trans (f3.mono HW.out.size)
          clear f1 f2 f3
          go_wp2_with (first | (at_builtin; (try rw [hW8]); refine wpList_app rfl _ _ 32 54 rfl _ 6 72 Tryz.underlying32 infoOp rfl (by decide) w.heap.size _ _ q 1 _ _ rfl HO8.out rfl HNW.out hz.1 hz.2.1 hz.2.2 ?_; intro v' w3 hown3 hgrow3; obtain ⟨a3, c3, rfl⟩ := owns_form hown3; have HO3 : Hid _ := hown3; have HG3 : Hid _ := hgrow3; clear hown3 hgrow3) | go_in)
          go_roundg (gk - 1)
          case measure => have := HMG.out; omega
          case rel =>
            refine ⟨m + 1, q + 1, a3, c3, by have := HMG.out; omega, by have := HQ.out; omega, by go_num, rfl, ?_, HBW.out.trans (grown_base HG3.out hz.2.2 HO8.out)⟩
            rw [show L ++ List.replicate (m + 1) markO = (L ++ List.replicate m markO) ++ [markO] by rw [List.replicate_succ', List.append_assoc], opsC_snoc]
            exact HO3.out
        · obtain rfl : m = 8 := by omega
          have hlmI : ¬ ((8 : Nat) : Int) < 8 := by decide
          have HQ8 : Hid (q = k + 8) := HQ.out
          go_wp2
          go_ret
          have h := HB.out
          have hq := HQ8.out
          subst hq
          obtain ⟨g, c', hgc⟩ := owns_form2 h (by omega)
          injection hgc with e1 _ e3
          subst e1 e3
          exact ⟨g, bc, rfl, h, HW.out⟩
end Go.Proofs.YtcochbcaillldaaGreatDoor.Sc
