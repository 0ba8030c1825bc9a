import Derived.Test.YtbjiamaaocjbfaaGreatDoorKrQ
import Derived.Test.YtbjiamaaocjbfaaGreatDoorRdM4
import Derived.Test.YtbjiamaaocjbfaaGreatDoorKdM2
import Derived.Test.YtbjiamaaocjbfaaGreatDoorSlZ
namespace Go.Proofs.YtbjiamaaocjbfaaGreatDoor.Kp
open Go.RowKit Go.Lib Go.Deep Kr

theorem isPass_any (p : ByteArray) (w : World) :
    Calls Tryz.prog 38 #[.string p] w fun e w' => e = .returned (.bool (passK p.data.toList)) ∧ w' = w := by
  have hl : p.data.toList.length = p.size := (size_eq p).symm
  by_cases h1 : 1 ≤ p.size
  · have j1 : (1 : Int) ≤ (p.size : Int) := by omega
    by_cases h2 : p.size ≤ 256
    · have j2 : (p.size : Int) ≤ 256 := by omega
      have e : passK p.data.toList = true := decide_eq_true (by omega)
      rw [e]
      clear e hl
      go_enter Tryz.func38, Tryz.ntmps38
      go_wp2
      go_ret
      exact ⟨rfl, rfl⟩
    · have j2 : ¬ (p.size : Int) ≤ 256 := by omega
      have e : passK p.data.toList = false := decide_eq_false (by omega)
      rw [e]
      clear e hl
      go_enter Tryz.func38, Tryz.ntmps38
      go_wp2
      go_ret
      exact ⟨rfl, rfl⟩
  · have j1 : ¬ (1 : Int) ≤ (p.size : Int) := by omega
    have e : passK p.data.toList = false := decide_eq_false (by omega)
    rw [e]
    clear e hl
    go_enter Tryz.func38, Tryz.ntmps38
    go_wp2
    go_ret
    exact ⟨rfl, rfl⟩

theorem kfour_bytes (n : Nat) (hn : n < 65536) (w : World) : (convert 29 9 (.slice (some ⟨w.heap.size, 0, none⟩) 4 4)).run Tryz.prog (w.alloc (.cells #[.int .u8 0, .int .u8 0, .int .u8 ((n : Int) / 256), .int .u8 ((n : Int) % 256)] 5)) = .ok (.string (str (Kr.be4 n))) (w.alloc (.cells #[.int .u8 0, .int .u8 0, .int .u8 ((n : Int) / 256), .int .u8 ((n : Int) % 256)] 5)) := by
  refine run_convert_bytes_back (P := Tryz.prog) _ 29 9 5 ⟨w.heap.size, 0, none⟩ 4 (Kr.be4 n) Tryz.underlying29 Tryz.underlying5 Tryz.underlying9 (fun j hj => ?_)
  have hj4 : j = 0 ∨ j = 1 ∨ j = 2 ∨ j = 3 := by simp [Kr.be4] at hj; omega
  have e0 : n / 16777216 = 0 := by omega
  have e1 : n / 65536 = 0 := by omega
  rcases hj4 with rfl | rfl | rfl | rfl
  · have h := cells_new w #[.int .u8 0, .int .u8 0, .int .u8 ((n : Int) / 256), .int .u8 ((n : Int) % 256)] 5 0 (.int .u8 0) rfl
    rw [h]
    simp [Kr.be4, e0]
  · have h := cells_new w #[.int .u8 0, .int .u8 0, .int .u8 ((n : Int) / 256), .int .u8 ((n : Int) % 256)] 5 1 (.int .u8 0) rfl
    rw [h]
    simp [Kr.be4, e1]
  · have h := cells_new w #[.int .u8 0, .int .u8 0, .int .u8 ((n : Int) / 256), .int .u8 ((n : Int) % 256)] 5 2 (.int .u8 ((n : Int) / 256)) rfl
    rw [h]
    simp [Kr.be4]
    omega
  · have h := cells_new w #[.int .u8 0, .int .u8 0, .int .u8 ((n : Int) / 256), .int .u8 ((n : Int) % 256)] 5 3 (.int .u8 ((n : Int) % 256)) rfl
    rw [h]
    congr 2

set_option maxRecDepth 20000 in
set_option maxHeartbeats 1000000 in
theorem kfour_any (n : Nat) (hn : n < 65536) (w : World) :
    Calls Tryz.prog 65 #[.int .u32 (n : Int)] w fun e w' => e = .returned (.string (str (Kr.be4 n))) ∧ Below w.heap.size w w' := by
  have d1 : (n : Int) / 16777216 = 0 := by omega
  have d2 : (n : Int) / 65536 = 0 := by omega
  have hob := kfour_bytes n hn w
  generalize str (Kr.be4 n) = y at hob ⊢
  go_enter Tryz.func65, Tryz.ntmps65
  go_wp2
  go_ret
  exact ⟨rfl, (Below.refl _ _).alloc (Nat.le_refl _) _⟩

theorem cat_run (W : World) (x y : List UInt8) (h : x.length + y.length ≤ 9223372036854775807) : (Op.stringOp .add (str x) (str y)).run Tryz.prog W = .ok (.string (str (x ++ y))) W := by
  rw [run_string_add_sum (P := Tryz.prog) (w := W) (str x) (str y) (by rw [str_size, str_size]; exact h), strs_append]

set_option maxRecDepth 20000 in
set_option maxHeartbeats 1000000 in
theorem slotAad_any (id : List UInt8) (s : Slot) (w : World) (hi : id.length ≤ 140737488355328) (hs : s.salt.length ≤ 140737488355328) (hr : 1 ≤ s.rounds ∧ s.rounds ≤ 4096) :
    Calls Tryz.prog 42 #[.string (str id), slotV s] w fun e w' => e = .returned (.string (str (aadK id s))) ∧ Below w.heap.size w w' := by
  unfold slotV
  obtain ⟨n, hn⟩ : ∃ n : Nat, s.rounds = (n : Int) := ⟨s.rounds.toNat, by omega⟩
  have e : aadK id s = kRing ++ id ++ s.salt ++ Kr.be4 n := by unfold aadK; rw [hn, Int.toNat_natCast]
  rw [e, hn]
  have hf := fun W => kfour_any n (by omega) W
  have a1 := fun W => cat_run W kRing id (by simp [kRing]; omega)
  have a2 := fun W => cat_run W (kRing ++ id) s.salt (by simp [kRing]; omega)
  have a3 := fun W => cat_run W (kRing ++ id ++ s.salt) (Kr.be4 n) (by simp [kRing, Kr.be4]; omega)
  rw [show str kRing = { data := #[99, 97, 115, 107, 101, 116, 32, 114, 105, 110, 103] } from rfl] at a1
  have hcv : ∀ W : World, (convert 3 94 (.int .i64 (n : Int))).run Tryz.prog W = .ok (.int .u32 (n : Int)) W := fun W => by
    simp [go_sem, IntKind.wrap_u32]
    omega
  have hA : (w.alloc (.cells #[.string (str s.salt), .int .i64 (n : Int), .string (str s.wrapped)] 38)).heap[w.heap.size]? = some (.cells #[.string (str s.salt), .int .i64 (n : Int), .string (str s.wrapped)] 38 (0, 0)) := heap_new _ _
  have KW : Hid (∀ j, ((w.alloc (.cells #[.string (str s.salt), .int .i64 (n : Int), .string (str s.wrapped)] 38)).drewN j).cell? ⟨w.heap.size, 0, none⟩ = some (.string (str s.salt)) ∧ ((w.alloc (.cells #[.string (str s.salt), .int .i64 (n : Int), .string (str s.wrapped)] 38)).drewN j).cell? ⟨w.heap.size, 1, none⟩ = some (.int .i64 (n : Int))) := fun j => ⟨(cell_of_heap hA).trans rfl, (cell_of_heap hA).trans rfl⟩
  have HB : Hid (∀ j w5, Below ((w.alloc (.cells #[.string (str s.salt), .int .i64 (n : Int), .string (str s.wrapped)] 38)).drewN j).heap.size ((w.alloc (.cells #[.string (str s.salt), .int .i64 (n : Int), .string (str s.wrapped)] 38)).drewN j) w5 → Below w.heap.size w w5 ∧ w5.cell? ⟨w.heap.size, 0, none⟩ = some (.string (str s.salt)) ∧ w5.cell? ⟨w.heap.size, 1, none⟩ = some (.int .i64 (n : Int))) := fun j w5 hb => by
    have h5 := (hb.block _ (heap_lt hA)).trans hA
    refine ⟨((Below.refl w.heap.size w).alloc (Nat.le_refl _) _).trans ⟨hb.os, hb.tape, hb.output, hb.size, fun k hk => hb.block k ?_⟩, (cell_of_heap h5).trans rfl, (cell_of_heap h5).trans rfl⟩
    show k < (w.alloc _).heap.size
    simp
    omega
  clear hA e
  generalize str (kRing ++ id ++ s.salt ++ Kr.be4 n) = u3 at a3 ⊢
  generalize str (kRing ++ id ++ s.salt) = u2 at a2 a3
  generalize str (kRing ++ id) = u1 at a1 a2
  generalize str (Kr.be4 n) = y4 at hf a3
  generalize str s.salt = xa at *
  generalize str s.wrapped = xc at *
  generalize str id = yi at *
  go_enter Tryz.func42, Tryz.ntmps42
  go_wp2_with fail
  go_region_held_law (fun W => W.cell? ⟨w.heap.size, 0, none⟩ = some (.string xa) ∧ W.cell? ⟨w.heap.size, 1, none⟩ = some (.int .i64 (n : Int))) (first | exact KW.out _ | exact h5.2 | go_keep) (first | (go_at_call 65; refine (hf _).mono ?_; rintro e w5 ⟨rfl, hb5⟩; have h5 := HB.out _ _ hb5))
  all_goals
    go_wp2
    go_ret
    exact ⟨rfl, h5.1⟩

end Go.Proofs.YtbjiamaaocjbfaaGreatDoor.Kp

namespace Go.Proofs.YtbjiamaaocjbfaaGreatDoor.Kp
open Go.RowKit Go.Lib Go.Deep Kr

/-- why no slot may be made -/
def faultK (rounds : Int) (coins : List UInt8) (wanted : Nat) (ps : List ByteArray) : Int :=
  if (ps.all fun p => passK p.data.toList) = false then 1 else if roundsK rounds = false then 30 else if coins.length ≠ wanted then 77 else 0

set_option maxRecDepth 20000 in
set_option maxHeartbeats 1000000 in
theorem slotFault_any (rounds : Int) (coins : ByteArray) (wanted : Nat) (_hwt : wanted ≤ 1000) (ps : List ByteArray) (n : Nat) (hn : ps.length = n) (hn8 : n ≤ 8) (b cap : Nat) (w : World) (hc : ∀ (i : Nat) s, ps[i]? = some s → w.cell? ⟨b, i, none⟩ = some (.string s)) :
    Calls Tryz.prog 21 #[.int .i64 rounds, .string coins, .int .i64 (wanted : Int), .slice (some ⟨b, 0, none⟩) n cap] w fun e w' => e = .returned (.int .i64 (faultK rounds coins.data.toList wanted ps)) ∧ w' = w := by
  have HC : Hid (∀ (i : Nat) s, ps[i]? = some s → w.cell? ⟨b, i, none⟩ = some (.string s)) := hc
  have HN : Hid (ps.length = n) := hn
  have hl : coins.data.toList.length = coins.size := (size_eq coins).symm
  obtain ⟨R, hR⟩ : ∃ R, faultK rounds coins.data.toList wanted ps = R := ⟨_, rfl⟩
  have HR : Hid (faultK rounds coins.data.toList wanted ps = R) := hR
  rw [hR]
  clear hR hc hn
  go_enter Tryz.func21, Tryz.ntmps21
  go_wp2_with fail
  go_loopg [10, 13] n (fun gk _ i wr => ∃ k : Nat, k + gk = n ∧ i = .int .i64 (k : Int) ∧ Hid ((ps.take k).all (fun p => passK p.data.toList) = true) ∧ wr = w)
  case atStart => exact ⟨0, by omega, rfl, by show _ = _; simp, rfl⟩
  case round =>
    obtain ⟨k, hk, rfl, HV, rfl⟩ := hrel
    have HK : Hid (k + gk = n) := hk
    have hk' : k ≤ n := by omega
    clear hk
    by_cases hlt : k < n
    · have hltI : (k : Int) < (n : Int) := by omega
      obtain ⟨p, hp⟩ : ∃ p, ps[k]? = some p := ⟨_, List.getElem?_eq_getElem (by have := HN.out; omega)⟩
      have c0 := HC.out k p hp
      have hip := fun W => isPass_any p W
      cases hpk : passK p.data.toList with
      | false =>
        have hR1 : R = 1 := by
          rw [← HR.out]
          unfold faultK
          rw [if_pos]
          apply Bool.eq_false_iff.2
          intro e
          have := List.all_eq_true.1 e p (List.mem_of_getElem? hp)
          rw [hpk] at this
          cases this
        subst hR1
        rw [hpk] at hip
        clear hp hpk HR
        go_wp2_with (go_at_call 38; refine (hip _).mono ?_; rintro e w' ⟨rfl, rfl⟩)
        go_ret
        exact ⟨rfl, rfl⟩
      | true =>
        have HV2 : Hid ((ps.take (k + 1)).all (fun p => passK p.data.toList) = true) := by
          show _ = _
          rw [List.take_add_one, hp, List.all_append, HV.out]
          simp [hpk]
        rw [hpk] at hip
        clear hp hpk HV
        go_wp2_with (go_at_call 38; refine (hip _).mono ?_; rintro e w' ⟨rfl, rfl⟩)
        go_roundg (gk - 1)
        case measure => have := HK.out; omega
        case rel => exact ⟨k + 1, by have := HK.out; omega, by go_num, HV2, rfl⟩
    · obtain rfl : k = n := by omega
      have hltI : ¬ (k : Int) < (k : Int) := by omega
      have hall : (ps.all fun p => passK p.data.toList) = true := by
        have h := HV.out
        rw [List.take_of_length_le (by have := HN.out; omega)] at h
        exact h
      have hR2 : R = if roundsK rounds = false then 30 else if coins.data.toList.length ≠ wanted then 77 else 0 := by
        rw [← HR.out]
        unfold faultK
        rw [if_neg (by rw [hall]; decide)]
      have har := fun W => areRounds_any rounds W
      rw [show decide (1 ≤ rounds ∧ rounds ≤ 4096) = roundsK rounds from rfl] at har
      clear HR hall HV
      cases hrk : roundsK rounds with
      | false =>
        obtain rfl : R = 30 := by rw [hR2, if_pos hrk]
        rw [hrk] at har
        clear hR2 hrk
        go_wp2_with (go_at_call 39; refine (har _).mono ?_; rintro e w' ⟨rfl, rfl⟩)
        go_ret
        exact ⟨rfl, rfl⟩
      | true =>
        rw [hrk, if_neg (by decide), hl] at hR2
        rw [hrk] at har
        clear hrk
        by_cases hw : coins.size = wanted
        · have hwI : (coins.size : Int) = (wanted : Int) := by omega
          obtain rfl : R = 0 := by rw [hR2, if_neg (by omega)]
          clear hR2
          go_wp2_with (go_at_call 39; refine (har _).mono ?_; rintro e w' ⟨rfl, rfl⟩)
          go_ret
          exact ⟨rfl, rfl⟩
        · have hwI : ¬ (coins.size : Int) = (wanted : Int) := by omega
          obtain rfl : R = 77 := by rw [hR2, if_pos (by omega)]
          clear hR2
          go_wp2_with (go_at_call 39; refine (har _).mono ?_; rintro e w' ⟨rfl, rfl⟩)
          go_ret
          exact ⟨rfl, rfl⟩

theorem sum_two (a s : ByteArray) (w : World) (ht : Tabs w) (h4 : 9 ≤ w.heap.size) (hs : a.size + s.size < 576460752303423488) :
    Calls Tryz.prog 13 #[.slice (some ⟨w.heap.size, 0, none⟩) 2 2] (w.alloc (.cells #[.string a, .string s] 9)) fun e w' => e = .returned (.string (str (shaL (a.data.toList ++ s.data.toList)))) ∧ Below w.heap.size w w' := by
  have hb : Below w.heap.size w (w.alloc (.cells #[.string a, .string s] 9)) := (Below.refl _ _).alloc (Nat.le_refl _) _
  have hj : joinL [a, s] = a.data.toList ++ s.data.toList := by simp [joinL]
  have h := sum_some _ (ht.below hb (by omega)) (by simp; omega) w.heap.size 0 2 2 [a, s] rfl (by omega) (by simp) (cells_strs w [a, s]) (by rw [hj, List.length_append, ← size_eq, ← size_eq]; exact hs)
  rw [hj] at h
  refine h.mono ?_
  rintro e w' ⟨rfl, hb'⟩
  exact ⟨rfl, hb.trans (hb'.mono (by simp))⟩

end Go.Proofs.YtbjiamaaocjbfaaGreatDoor.Kp

namespace Go.Proofs.YtbjiamaaocjbfaaGreatDoor.Kp
open Go.RowKit Go.Lib Go.Deep Kr

/-- what the calls ask of the tables -/
structure KTab (w : World) : Prop where
  t : Tabs w
  a : Ae.ATabs w
  i : 9 ≤ w.heap.size
theorem KTab.below {w w' : World} (h : KTab w) (hb : Below w.heap.size w w') : KTab w' := ⟨h.t.below hb (by have := h.i; omega), h.a.below hb, Nat.le_trans h.i hb.size⟩

set_option maxRecDepth 20000 in
set_option maxHeartbeats 2000000 in
theorem slotKey_any (p : List UInt8) (s : Slot) (w : World) (hp : p.length ≤ 140737488351000) (hs : s.salt.length ≤ 140737488351000) (hr : 1 ≤ s.rounds ∧ s.rounds ≤ 4096) (hT : KTab w) :
    Calls Tryz.prog 40 #[.string (str p), slotV s] w fun e w' => e = .returned (.tuple #[.string (str (keyK p s)), .int .i64 0]) ∧ Below w.heap.size w w' := by
  unfold slotV
  have hA : (w.alloc (.cells #[.string (str s.salt), .int .i64 s.rounds, .string (str s.wrapped)] 38)).heap[w.heap.size]? = some (.cells #[.string (str s.salt), .int .i64 s.rounds, .string (str s.wrapped)] 38 (0, 0)) := heap_new _ _
  have hb0 : Below w.heap.size w (w.alloc (.cells #[.string (str s.salt), .int .i64 s.rounds, .string (str s.wrapped)] 38)) := (Below.refl _ _).alloc (Nat.le_refl _) _
  have c1 : ∀ j, Calls Tryz.prog 13 #[.slice (some ⟨w.heap.size + 1, 0, none⟩) 2 2] (((w.alloc (.cells #[.string (str s.salt), .int .i64 s.rounds, .string (str s.wrapped)] 38)).drewN j).alloc (.cells #[.string { data := #[99, 97, 115, 107, 101, 116, 32, 112, 97, 115, 115, 112, 104, 114, 97, 115, 101] }, .string (str p)] 9)) fun e w' => e = .returned (.string (str (shaL (kPhrase ++ p)))) ∧ Below (w.heap.size + 1) ((w.alloc (.cells #[.string (str s.salt), .int .i64 s.rounds, .string (str s.wrapped)] 38)).drewN j) w' := fun j => by
    have hbj : Below w.heap.size w ((w.alloc (.cells #[.string (str s.salt), .int .i64 s.rounds, .string (str s.wrapped)] 38)).drewN j) := hb0.trans ⟨rfl, rfl, rfl, Nat.le_refl _, fun _ _ => rfl⟩
    have h := sum_two { data := #[99, 97, 115, 107, 101, 116, 32, 112, 97, 115, 115, 112, 104, 114, 97, 115, 101] } (str p) ((w.alloc (.cells #[.string (str s.salt), .int .i64 s.rounds, .string (str s.wrapped)] 38)).drewN j) (hT.below hbj).t (hT.below hbj).i (by rw [str_size]; show 17 + p.length < _; omega)
    rw [str_data, show (({ data := #[99, 97, 115, 107, 101, 116, 32, 112, 97, 115, 115, 112, 104, 114, 97, 115, 101] } : ByteArray)).data.toList = kPhrase from rfl, show ((w.alloc (.cells #[.string (str s.salt), .int .i64 s.rounds, .string (str s.wrapped)] 38)).drewN j).heap.size = w.heap.size + 1 by show (w.alloc _).heap.size = _; simp] at h
    exact h
  have HB : Hid (∀ j w5, Below (w.heap.size + 1) ((w.alloc (.cells #[.string (str s.salt), .int .i64 s.rounds, .string (str s.wrapped)] 38)).drewN j) w5 → Below w.heap.size w w5 ∧ w5.cell? ⟨w.heap.size, 0, none⟩ = some (.string (str s.salt)) ∧ w5.cell? ⟨w.heap.size, 1, none⟩ = some (.int .i64 s.rounds)) := fun j w5 hb => by
    have h5 : w5.heap[w.heap.size]? = _ := (hb.block _ (by omega)).trans hA
    refine ⟨hb0.trans ⟨hb.os, hb.tape, hb.output, hb.size, fun k hk => hb.block k (by omega)⟩, (cell_of_heap h5).trans rfl, (cell_of_heap h5).trans rfl⟩
  have c2 : Hid (∀ W, Below w.heap.size w W → Calls Tryz.prog 61 #[.string (str (shaL (kPhrase ++ p))), .string (str s.salt), .int .i64 s.rounds, .int .i64 32] W fun e w' => e = .returned (.tuple #[.string (str (keyK p s)), .int .i64 0]) ∧ Below W.heap.size W w') := fun W hb => by
    have h := kpbkdf_any (str (shaL (kPhrase ++ p))) (str s.salt) s.rounds 32 (by rw [str_size, shaL_length]; omega) (by rw [str_size]; omega) hr.1 hr.2 (by omega) (by omega) W (hT.below hb).t (hT.below hb).i
    rw [str_data, str_data] at h
    exact h
  have KW : Hid (∀ j, ((w.alloc (.cells #[.string (str s.salt), .int .i64 s.rounds, .string (str s.wrapped)] 38)).drewN j).cell? ⟨w.heap.size, 0, none⟩ = some (.string (str s.salt)) ∧ ((w.alloc (.cells #[.string (str s.salt), .int .i64 s.rounds, .string (str s.wrapped)] 38)).drewN j).cell? ⟨w.heap.size, 1, none⟩ = some (.int .i64 s.rounds)) := fun j => ⟨(cell_of_heap hA).trans rfl, (cell_of_heap hA).trans rfl⟩
  have C1 : Hid _ := c1
  clear hA hb0 c1
  have HK : Hid (∀ W W', Below w.heap.size w W → Below W.heap.size W W' → (W.cell? ⟨w.heap.size, 0, none⟩ = some (.string (str s.salt)) ∧ W.cell? ⟨w.heap.size, 1, none⟩ = some (.int .i64 s.rounds)) → Below w.heap.size w W' ∧ W'.cell? ⟨w.heap.size, 0, none⟩ = some (.string (str s.salt)) ∧ W'.cell? ⟨w.heap.size, 1, none⟩ = some (.int .i64 s.rounds)) := fun W W' h1 h2 h3 => by
    have hl := block_lt_of_cell h3.1
    exact ⟨h1.trans (h2.mono h1.size), (h2.cell (p := ⟨w.heap.size, 0, none⟩) hl).trans h3.1, (h2.cell (p := ⟨w.heap.size, 1, none⟩) hl).trans h3.2⟩
  generalize str (keyK p s) = yk at c2 ⊢
  generalize str (shaL (kPhrase ++ p)) = yq at C1 c2
  generalize str s.salt = xa at *
  generalize str s.wrapped = xc at *
  generalize str p = yp at *
  generalize s.rounds = rn at *
  go_enter Tryz.func40, Tryz.ntmps40
  go_wp2_with fail
  go_region_held_law (fun W => W.cell? ⟨w.heap.size, 0, none⟩ = some (.string xa) ∧ W.cell? ⟨w.heap.size, 1, none⟩ = some (.int .i64 rn)) (first | exact KW.out _ | exact h5.2 | exact h6.2 | go_keep)
    (first | (go_at_call 13; refine (C1.out _).mono ?_; rintro e w5 ⟨rfl, hb5⟩; have h5 := HB.out _ _ hb5) | (go_at_call 61; refine (c2.out _ h5.1).mono ?_; rintro e w6 ⟨rfl, hb6⟩; have h6 := HK.out _ _ h5.1 hb6 h5.2))
  all_goals
    go_wp2
    go_ret2
    exact ⟨rfl, h6.1⟩

end Go.Proofs.YtbjiamaaocjbfaaGreatDoor.Kp
