import Derived.Test.YtengclnahppmhaaGreatDoorRsM
import Derived.Test.YtengclnahppmhaaGreatDoorExM
import Derived.Test.YtengclnahppmhaaGreatDoorRf6M
namespace Go.Proofs.YtengclnahppmhaaGreatDoor.Rr
open Go.RowKit Go.Lib Go.Deep
open Se (placeE tagS)
open Rs (bdN carry rcN raskE kS bnd rsealY ropenE ropenY ky ky_size bnd_size place_0 rask_0 aseal_0 kS_size saltL salt_eq)

/-- the document's sealer lies there -/
structure Rq (w : World) (rb : Nat) (M : ByteArray) : Prop where
  row : w.heap[rb]? = some (.cells #[.int .i64 1, .string M, .slice none 0 0] 59 (0, 0))
  sz : M.size = 32
  rt : RTabs w
  pt : Cha.PTabs w
  hs : 8 ≤ w.heap.size
theorem Rq.below {w w' : World} {rb : Nat} {M : ByteArray} (h : Rq w rb M) (hb : Below w.heap.size w w') : Rq w' rb M :=
  ⟨(hb.block _ (heap_lt h.row)).trans h.row, h.sz, h.rt.below hb (by have := h.hs; omega), h.pt.below hb (by have := h.hs; omega), by have := h.hs; have := hb.size; omega⟩
theorem Rq.cells {w : World} {rb : Nat} {M : ByteArray} (h : Rq w rb M) : Hid (∀ W, Below w.heap.size w W → Rq W rb M ∧ W.cell? ⟨rb, 0, none⟩ = some (.int .i64 1) ∧ W.cell? ⟨rb, 1, none⟩ = some (.string M) ∧ W.cell? ⟨rb, 2, none⟩ = some (.slice none 0 0)) := fun W hb => by
  have h2 := h.below hb
  exact ⟨h2, (cell_of_heap h2.row).trans rfl, (cell_of_heap h2.row).trans rfl, (cell_of_heap h2.row).trans rfl⟩

theorem rtag_any (s : ByteArray) (hs : s.size ≤ 281474976710656) (w : World) : Calls Tryz.prog 37 #[.string s] w fun e w' => e = .returned (.string (tagS s)) ∧ w' = w := by
  by_cases h : s.size < 16
  · have h' : (s.size : Int) < 16 := by omega
    have e : tagS s = { data := #[] } := if_pos h
    rw [e]
    clear e
    go_enter Tryz.func37, Tryz.ntmps37
    go_wp2
    go_ret
    exact ⟨rfl, rfl⟩
  · have h' : ¬ (s.size : Int) < 16 := by omega
    have hw : IntKind.i64.wrap ((s.size : Int) - 16) = ((s.size - 16 : Nat) : Int) := by
      rw [IntKind.wrap_i64]
      omega
    have e : tagS s = s.extract (s.size - 16) s.size := if_neg h
    rw [e]
    clear e
    go_enter Tryz.func37, Tryz.ntmps37
    go_wp2
    go_ret
    exact ⟨rfl, rfl⟩

theorem rplace_any (kind : Int) (name : ByteArray) (w : World) : Calls Tryz.prog 25 #[.int .i64 kind, .string name] w fun e w' => e = .returned (.int .i64 (placeE kind name)) ∧ w' = w := by
  by_cases h1 : kind < 1
  · have e : placeE kind name = 82 := if_pos (.inl h1)
    rw [e]
    clear e
    go_enter Tryz.func25, Tryz.ntmps25
    go_wp2
    go_ret
    exact ⟨rfl, rfl⟩
  · by_cases h2 : 3 < kind
    · have e : placeE kind name = 82 := if_pos (.inr h2)
      rw [e]
      clear e
      go_enter Tryz.func25, Tryz.ntmps25
      go_wp2
      go_ret
      exact ⟨rfl, rfl⟩
    · by_cases h3 : 64 < name.size
      · have e : placeE kind name = 1 := by unfold placeE; rw [if_neg (by omega), if_pos h3]
        have h3' : (64 : Int) < (name.size : Int) := by omega
        rw [e]
        clear e
        go_enter Tryz.func25, Tryz.ntmps25
        go_wp2
        go_ret
        exact ⟨rfl, rfl⟩
      · have e : placeE kind name = 0 := by unfold placeE; rw [if_neg (by omega), if_neg h3]
        have h3' : ¬ (64 : Int) < (name.size : Int) := by omega
        rw [e]
        clear e
        go_enter Tryz.func25, Tryz.ntmps25
        go_wp2
        go_ret
        exact ⟨rfl, rfl⟩

theorem rnew_any (M : ByteArray) (hM : M.size = 32) (w : World) (hR : RTabs w) (hP : Cha.PTabs w) (h4 : 8 ≤ w.heap.size) : Calls Tryz.prog 11 #[.string M] w fun e w' => ∃ rb, e = .returned (.tuple #[.pointer (some ⟨rb, 0, none⟩), .int .i64 0]) ∧ w.heap.size ≤ rb ∧ Rq w' rb M ∧ Below w.heap.size w w' := by
  have hM' : (M.size : Int) = 32 := by omega
  have hb : Below w.heap.size w (w.alloc (.cells #[.int .i64 1, .string M, .slice none 0 0] 59)) := (Below.refl _ _).alloc (Nat.le_refl _) _
  have HQ : Hid (Rq (w.alloc (.cells #[.int .i64 1, .string M, .slice none 0 0] 59)) w.heap.size M ∧ Below w.heap.size w (w.alloc (.cells #[.int .i64 1, .string M, .slice none 0 0] 59))) := ⟨⟨heap_new _ _, hM, hR.below hb (by omega), hP.below hb (by omega), by have := hb.size; omega⟩, hb⟩
  clear hR hP hb
  go_enter Tryz.func11, Tryz.ntmps11
  go_wp2
  go_ret2
  exact ⟨_, rfl, Nat.le_refl _, HQ.out.1, HQ.out.2⟩
theorem rnew_no (M : ByteArray) (hM : M.size ≠ 32) (w : World) : Calls Tryz.prog 11 #[.string M] w fun e w' => e = .returned (.tuple #[.pointer none, .int .i64 40]) ∧ w' = w := by
  have hM' : ¬ (M.size : Int) = 32 := by omega
  go_enter Tryz.func11, Tryz.ntmps11
  go_wp2
  go_ret2
  exact ⟨rfl, rfl⟩

theorem rcoins_any (w : World) (rb : Nat) (M : ByteArray) (n : Int) (h : Rq w rb M) : Calls Tryz.prog 26 #[.pointer (some ⟨rb, 0, none⟩), .int .i64 n] w fun e w' => e = .returned (.int .i64 (rcN n)) ∧ w' = w := by
  obtain ⟨_, c0, c1, c2⟩ := h.cells.out w (Below.refl _ _)
  clear h
  by_cases h1 : n < 0
  · have e : rcN n = 0 := if_pos (.inl h1)
    rw [e]
    clear e
    go_enter Tryz.func26, Tryz.ntmps26
    go_wp2
    go_ret
    exact ⟨rfl, rfl⟩
  · by_cases h2 : 1048576 < n
    · have e : rcN n = 0 := if_pos (.inr h2)
      rw [e]
      clear e
      go_enter Tryz.func26, Tryz.ntmps26
      go_wp2
      go_ret
      exact ⟨rfl, rfl⟩
    · have e : rcN n = 24 := if_neg (by omega)
      rw [e]
      clear e
      go_enter Tryz.func26, Tryz.ntmps26
      go_wp2
      go_ret
      exact ⟨rfl, rfl⟩
theorem rfresh_any (w : World) (rb : Nat) (M : ByteArray) (c : ByteArray) (h : Rq w rb M) : Calls Tryz.prog 27 #[.pointer (some ⟨rb, 0, none⟩), .string c] w fun e w' => e = .returned (.bool (decide (24 ≤ c.size ∧ c.size ≤ 24))) ∧ w' = w := by
  obtain ⟨_, c0, c1, c2⟩ := h.cells.out w (Below.refl _ _)
  clear h
  by_cases h1 : c.size = 24
  · have h1' : (c.size : Int) = 24 := by omega
    rw [decide_eq_true (by omega)]
    go_enter Tryz.func27, Tryz.ntmps27
    go_wp2
    go_ret
    exact ⟨by simp, rfl⟩
  · have h1' : ¬ (c.size : Int) = 24 := by omega
    rw [decide_eq_false (by omega)]
    go_enter Tryz.func27, Tryz.ntmps27
    go_wp2
    go_ret
    exact ⟨by simp; exact h1', rfl⟩

theorem raad_any (k : Nat) (hk : k < 256) (name : ByteArray) (hn : name.size ≤ 64) (w : World) : Calls Tryz.prog 30 #[.int .i64 (k : Int), .string name] w fun e w' => e = .returned (.string (bnd (k : Int) name)) ∧ Below w.heap.size w w' := by
  have h1 := one_byte k
  rw [show (k : Int) % 256 = (k : Int) by omega] at h1
  have hc : ∀ W, (Op.stringOp .add (str [UInt8.ofNat k]) name).run Tryz.prog W = .ok (.string (bnd (k : Int) name)) W := fun W => by
    rw [run_string_add_sum (P := Tryz.prog) (w := W) _ _ (by rw [str_size]; simp; omega)]
    rfl
  go_enter Tryz.func30, Tryz.ntmps30
  go_wp2
  go_ret
  exact ⟨rfl, (Below.refl _ _).alloc (Nat.le_refl _) _⟩

set_option maxRecDepth 20000 in
set_option maxHeartbeats 1000000 in
theorem rkey_any (w : World) (rb : Nat) (M : ByteArray) (k : Nat) (hk : k < 256) (h : Rq w rb M) : Calls Tryz.prog 29 #[.pointer (some ⟨rb, 0, none⟩), .int .i64 (k : Int)] w fun e w' => e = .returned (.string (ky M k)) ∧ Below w.heap.size w w' := by
  have h1 := one_byte k
  rw [show (k : Int) % 256 = (k : Int) by omega] at h1
  have HX : Hid (∀ W, Below w.heap.size w W → Calls Tryz.prog 54 #[.string { data := #[99, 97, 115, 107, 101, 116] }, .string M] W fun e w' => e = .returned (.string (str (hmacL saltL M.data.toList))) ∧ Below w.heap.size w w') := fun W hb => by
    have h := rextract_any { data := #[99, 97, 115, 107, 101, 116] } M (by decide) (by have := h.sz; omega) W (h.below hb).rt (h.below hb).hs
    rw [salt_eq] at h
    refine h.mono ?_
    rintro e w' ⟨rfl, hb'⟩
    exact ⟨rfl, hb.trans (hb'.mono hb.size)⟩
  obtain ⟨pr, hpr⟩ : ∃ pr, str (hmacL saltL M.data.toList) = pr := ⟨_, rfl⟩
  have HE : Hid (∀ W, Below w.heap.size w W → Calls Tryz.prog 53 #[.string pr, .string (str [UInt8.ofNat k]), .int .i64 32] W fun e w' => e = .returned (.tuple #[.string (ky M k), .int .i64 0]) ∧ Below w.heap.size w w') := fun W hb => by
    have h := rexpand_any pr (str [UInt8.ofNat k]) 32 (by rw [← hpr, str_size, hmacL_length]; omega) (by rw [str_size]; simp) (by omega) (by omega) W (h.below hb).rt (h.below hb).hs
    rw [str_data, ← hpr, str_data, hpr, show (32 : Int).toNat = 32 from rfl] at h
    change Calls _ _ _ _ (fun e w' => e = .returned (.tuple #[.string (ky M k), .int .i64 0]) ∧ _) at h
    refine h.mono ?_
    rintro e w' ⟨rfl, hb'⟩
    exact ⟨rfl, hb.trans (hb'.mono hb.size)⟩
  rw [hpr] at HX
  have HCX : Hid (∀ W, Below w.heap.size w W → W.cell? ⟨rb, 1, none⟩ = some (.string M)) := fun W hb => (h.cells.out W hb).2.2.1
  have c1 := HCX.out w (Below.refl _ _)
  have KA : Hid (∀ j, Calls Tryz.prog 54 #[.string { data := #[99, 97, 115, 107, 101, 116] }, .string M] ((w.drewN j).alloc (.cells #[.int .u8 (k : Int)] 5)) fun e w' => e = .returned (.string pr) ∧ Below w.heap.size w w' ∧ (convert 96 9 (.slice (some ⟨w.heap.size, 0, none⟩) 1 1)).run Tryz.prog w' = .ok (.string (str [UInt8.ofNat k])) w') := fun j => by
    have hb : Below w.heap.size w ((w.drewN j).alloc (.cells #[.int .u8 (k : Int)] 5)) := (bdN w j).alloc (Nat.le_refl _) _
    have h := rextract_any { data := #[99, 97, 115, 107, 101, 116] } M (by decide) (by have := h.sz; omega) _ (h.below hb).rt (h.below hb).hs
    rw [salt_eq, hpr] at h
    refine h.mono ?_
    rintro e w' ⟨rfl, hb'⟩
    refine ⟨rfl, hb.trans (hb'.mono hb.size), ?_⟩
    refine run_convert_bytes_back (P := Tryz.prog) _ 96 9 5 ⟨w.heap.size, 0, none⟩ 1 [UInt8.ofNat k] Tryz.underlying96 Tryz.underlying5 Tryz.underlying9 (fun i hi => ?_)
    obtain rfl : i = 0 := by simp at hi; omega
    have hrow : w'.heap[w.heap.size]? = some (.cells #[.int .u8 (k : Int)] 5 (0, 0)) := (hb'.block _ (heap_lt (heap_new (w.drewN j) _))).trans (heap_new (w.drewN j) _)
    rw [Addr.add_lit, cell_of_heap hrow]
    simp
    omega
  have KB : Hid (∀ j, Calls Tryz.prog 54 #[.string { data := #[99, 97, 115, 107, 101, 116] }, .string M] (w.drewN j) fun e w' => e = .returned (.string pr) ∧ Below w.heap.size w w') := fun j => HX.out _ (bdN w j)
  have hcva := h1 w
  have hcvb : (convert 96 9 (.slice (some ⟨w.heap.size, 0, none⟩) 1 1)).run Tryz.prog (w.alloc (.cells #[.int .u8 (k : Int)] 5)).drew = .ok (.string (str [UInt8.ofNat k])) (w.alloc (.cells #[.int .u8 (k : Int)] 5)).drew := h1 w.drew
  have H1 : Hid _ := h1
  have hku : IntKind.u8.wrap (k : Int) = (k : Int) := by rw [IntKind.wrap_u8]; omega
  clear h hpr HX h1
  go_enter Tryz.func29, Tryz.ntmps29
  go_wp2_with fail
  go_region_held_law (fun W => W.cell? ⟨rb, 1, none⟩ = some (.string M)) (first | exact HCX.out _ (bdN _ 1) | exact HCX.out _ ((bdN _ 1).alloc (Nat.le_refl _) _) | exact HCX.out _ hb4 | exact HCX.out _ (hb4.alloc hb4.size _) | exact HCX.out _ hb6 | go_keep)
    (first | (go_at_call 54; refine (KA.out 1).mono ?_; rintro e w4 ⟨rfl, hb4, hcv4⟩) | (go_at_call 54; refine (KB.out 1).mono ?_; rintro e w4 ⟨rfl, hb4⟩; have hcv5 := H1.out w4) | (go_at_call 53; refine (HE.out _ hb4).mono ?_; rintro e w6 ⟨rfl, hb6⟩) | (go_at_call 53; refine (HE.out _ (hb4.alloc hb4.size _)).mono ?_; rintro e w6 ⟨rfl, hb6⟩))
  all_goals
    go_wp2
    go_ret
    exact ⟨rfl, hb6⟩
end Go.Proofs.YtengclnahppmhaaGreatDoor.Rr

namespace Go.Proofs.YtengclnahppmhaaGreatDoor.Rr
open Go.RowKit Go.Lib Go.Deep

/-- no sealer -/
theorem pthere_nil (w : World) : Calls Tryz.prog 77 #[.pointer none] w fun e w' => e = .returned (.bool false) ∧ w' = w := by
  go_enter Tryz.func77, Tryz.ntmps77
  go_wp2
  go_ret
  exact ⟨rfl, rfl⟩

theorem pcoins_nil (n : Int) (w : World) : Calls Tryz.prog 62 #[.pointer none, .int .i64 n] w fun e w' => e = .returned (.int .i64 0) ∧ w' = w := by
  have h := pthere_nil
  go_enter Tryz.func62, Tryz.ntmps62
  go_wp2_with fail
  refine (h _).mono ?_
  rintro e w' ⟨rfl, rfl⟩
  go_wp2
  go_ret
  exact ⟨rfl, rfl⟩

theorem pfresh_nil (c : ByteArray) (w : World) : Calls Tryz.prog 63 #[.pointer none, .string c] w fun e w' => e = .returned (.bool false) ∧ w' = w := by
  have h := pthere_nil
  go_enter Tryz.func63, Tryz.ntmps63
  go_wp2_with fail
  refine (h _).mono ?_
  rintro e w' ⟨rfl, rfl⟩
  go_wp2
  go_ret
  exact ⟨rfl, rfl⟩

theorem pseal_nil (k : Int) (n t c : ByteArray) (w : World) : Calls Tryz.prog 56 #[.pointer none, .int .i64 k, .string n, .string t, .string c] w fun e w' => e = .returned (.tuple #[.string { data := #[] }, .int .i64 2]) ∧ w' = w := by
  have h := pthere_nil
  go_enter Tryz.func56, Tryz.ntmps56
  go_wp2_with fail
  refine (h _).mono ?_
  rintro e w' ⟨rfl, rfl⟩
  go_wp2
  go_ret2
  exact ⟨rfl, rfl⟩

theorem popen_nil (k : Int) (n c : ByteArray) (w : World) : Calls Tryz.prog 58 #[.pointer none, .int .i64 k, .string n, .string c] w fun e w' => e = .returned (.tuple #[.string { data := #[] }, .int .i64 2]) ∧ w' = w := by
  have h := pthere_nil
  go_enter Tryz.func58, Tryz.ntmps58
  go_wp2_with fail
  refine (h _).mono ?_
  rintro e w' ⟨rfl, rfl⟩
  go_wp2
  go_ret2
  exact ⟨rfl, rfl⟩

theorem rcoins_nil (n : Int) (w : World) : Calls Tryz.prog 26 #[.pointer none, .int .i64 n] w fun e w' => e = .returned (.int .i64 0) ∧ w' = w := by
  go_enter Tryz.func26, Tryz.ntmps26
  go_wp2
  go_ret
  exact ⟨rfl, rfl⟩

theorem rfresh_nil (c : ByteArray) (w : World) : Calls Tryz.prog 27 #[.pointer none, .string c] w fun e w' => e = .returned (.bool false) ∧ w' = w := by
  go_enter Tryz.func27, Tryz.ntmps27
  go_wp2
  go_ret
  exact ⟨rfl, rfl⟩

theorem rseal_nil (k : Int) (n t c : ByteArray) (w : World) : Calls Tryz.prog 14 #[.pointer none, .int .i64 k, .string n, .string t, .string c] w fun e w' => e = .returned (.tuple #[.string { data := #[] }, .int .i64 2]) ∧ w' = w := by
  go_enter Tryz.func14, Tryz.ntmps14
  go_wp2
  go_ret2
  exact ⟨rfl, rfl⟩

theorem ropen_nil (k : Int) (n c : ByteArray) (w : World) : Calls Tryz.prog 34 #[.pointer none, .int .i64 k, .string n, .string c] w fun e w' => e = .returned (.tuple #[.string { data := #[] }, .int .i64 2]) ∧ w' = w := by
  go_enter Tryz.func34, Tryz.ntmps34
  go_wp2
  go_ret2
  exact ⟨rfl, rfl⟩

end Go.Proofs.YtengclnahppmhaaGreatDoor.Rr

namespace Go.Proofs.YtengclnahppmhaaGreatDoor.Rr
open Go.RowKit Go.Lib Go.Deep
open Se (placeE tagS)
open Rs (bdN carry rcN raskE kS bnd rsealY ropenE ropenY ky ky_size bnd_size place_0 rask_0 aseal_0 kS_size)

theorem kS_ky (M : ByteArray) {k : Nat} (h : 1 ≤ k ∧ k ≤ 3) : kS [ky M 1, ky M 2, ky M 3] (k : Int) = ky M k := by
  obtain rfl | rfl | rfl : k = 1 ∨ k = 2 ∨ k = 3 := by omega
  all_goals rfl

set_option maxHeartbeats 1000000 in
theorem rseal_any (w : World) (rb : Nat) (M : ByteArray) (kind : Int) (name text coins : ByteArray) (hn : name.size ≤ 140737488355328) (ht : text.size ≤ 140737488355328) (_hc : coins.size ≤ 140737488355328) (h : Rq w rb M) :
    Calls Tryz.prog 14 #[.pointer (some ⟨rb, 0, none⟩), .int .i64 kind, .string name, .string text, .string coins] w fun e w' => e = .returned (.tuple #[.string (rsealY [ky M 1, ky M 2, ky M 3] kind name text coins), .int .i64 (raskE kind name text coins)]) ∧ Below w.heap.size w w' := by
  have hp := rplace_any kind name
  have hco := fun W hb => rcoins_any W rb M (text.size : Int) (h.below hb)
  have hfr := fun W hb => rfresh_any W rb M coins (h.below hb)
  obtain ⟨R, hR⟩ : ∃ R, raskE kind name text coins = R := ⟨_, rfl⟩
  have HR : Hid (raskE kind name text coins = R) := hR
  by_cases he : placeE kind name = 0
  · obtain ⟨g1, g2, g3⟩ := place_0 he
    rw [he] at hp
    by_cases ht2 : 1048576 < text.size
    · have ht' : (1048576 : Int) < (text.size : Int) := by omega
      have e0 : raskE kind name text coins = 3 := by unfold raskE; rw [if_neg (by simp [he]), if_pos ht2]
      have e1 : rsealY [ky M 1, ky M 2, ky M 3] kind name text coins = { data := #[] } := if_neg (by rw [e0]; decide)
      rw [e1, e0]
      clear e0 e1 h hR HR he
      go_enter Tryz.func14, Tryz.ntmps14
      go_wp2_with fail
      refine (hp _).mono ?_
      rintro e w' ⟨rfl, rfl⟩
      go_wp2
      go_ret2
      exact ⟨rfl, Below.refl _ _⟩
    · have ht' : ¬ (1048576 : Int) < (text.size : Int) := by omega
      have hcn : rcN (text.size : Int) = 24 := by unfold rcN; rw [if_neg (by omega)]
      rw [hcn] at hco
      by_cases hc2 : coins.size = 24
      · have hc' : (coins.size : Int) = 24 := by omega
        rw [decide_eq_true (by omega)] at hfr
        have e0 : raskE kind name text coins = 0 := by unfold raskE; rw [if_neg (by simp [he]), if_neg ht2, if_neg (by omega)]
        obtain ⟨k, rfl⟩ : ∃ k : Nat, kind = (k : Int) := ⟨kind.toNat, by omega⟩
        have hkz := ky_size M k
        have hbz := bnd_size (k : Int) name
        obtain ⟨z1, z2⟩ := aseal_0 (key := ky M k) (nonce := coins) (aad := bnd (k : Int) name) (plain := text) hkz hc2 (by omega) (by omega)
        have e1 : rsealY [ky M 1, ky M 2, ky M 3] (k : Int) name text coins = coins ++ Ae.sealY (ky M k) coins (bnd (k : Int) name) text := by unfold rsealY; rw [if_pos e0, kS_ky M (by omega)]
        have hzz : (Ae.sealY (ky M k) coins (bnd (k : Int) name) text).size = text.size + 16 := by rw [size_eq, z2, Ae.sealL_length, ← size_eq]
        have HK : Hid (∀ W, Below w.heap.size w W → Calls Tryz.prog 29 #[.pointer (some ⟨rb, 0, none⟩), .int .i64 (k : Int)] W fun e w' => e = .returned (.string (ky M k)) ∧ Below w.heap.size w w') := fun W hb => by
          refine (rkey_any W rb M k (by omega) (h.below hb)).mono ?_
          rintro e w' ⟨rfl, hb'⟩
          exact ⟨rfl, hb.trans (hb'.mono hb.size)⟩
        have HS : Hid (∀ W, Below w.heap.size w W → Calls Tryz.prog 28 #[.string (ky M k), .string coins, .string (bnd (k : Int) name), .string text] W fun e w' => e = .returned (.tuple #[.string (Ae.sealY (ky M k) coins (bnd (k : Int) name) text), .int .i64 0]) ∧ Below w.heap.size w w') := fun W hb => by
          have h2 := Ae.rseal_any (ky M k) coins (bnd (k : Int) name) text (by omega) (by omega) W (h.below hb).pt (h.below hb).hs
          rw [z1] at h2
          refine h2.mono ?_
          rintro e w' ⟨rfl, hb'⟩
          exact ⟨rfl, hb.trans (hb'.mono hb.size)⟩
        have hbd := carry (w := w) (fun W => raad_any k (by omega) name g3 W)
        have HCS := h.cells
        rw [e1, e0]
        generalize Ae.sealY (ky M k) coins (bnd (k : Int) name) text = bx at *
        generalize bnd (k : Int) name = bd at *
        generalize ky M k = kk at *
        have hcat : ∀ W, (Op.stringOp .add coins bx).run Tryz.prog W = .ok (.string (coins ++ bx)) W := fun W => run_string_add_sum (P := Tryz.prog) (w := W) _ _ (by omega)
        obtain ⟨_, c0, c1, c2⟩ := HCS.out w (Below.refl _ _)
        clear z1 z2 e1 e0 he h hkz hbz hR HR
        go_enter Tryz.func14, Tryz.ntmps14
        go_wp2_with fail
        refine (hp _).mono ?_
        rintro e w' ⟨rfl, rfl⟩
        go_wp2_with fail
        refine (hco _ (Below.refl _ _)).mono ?_
        rintro e w2 ⟨rfl, rfl⟩
        go_wp2_with fail
        refine (hfr _ (Below.refl _ _)).mono ?_
        rintro e w2 ⟨rfl, rfl⟩
        go_wp2_with fail
        refine (HK.out _ (Below.refl _ _)).mono ?_
        rintro e w4 ⟨rfl, hb4⟩
        go_wp2_with fail
        refine (hbd.out _ hb4).mono ?_
        rintro e w5 ⟨rfl, hb5⟩
        go_wp2_with fail
        refine (HS.out _ hb5).mono ?_
        rintro e w6 ⟨rfl, hb6⟩
        go_wp2
        go_ret2
        exact ⟨rfl, hb6⟩
      · have hc' : ¬ (coins.size : Int) = 24 := by omega
        have e0 : raskE kind name text coins = 77 := by unfold raskE; rw [if_neg (by simp [he]), if_neg ht2, if_pos hc2]
        have e1 : rsealY [ky M 1, ky M 2, ky M 3] kind name text coins = { data := #[] } := if_neg (by rw [e0]; decide)
        rw [e1, e0]
        clear e0 e1 h hR HR he
        go_enter Tryz.func14, Tryz.ntmps14
        go_wp2_with fail
        refine (hp _).mono ?_
        rintro e w' ⟨rfl, rfl⟩
        go_wp2_with fail
        refine (hco _ (Below.refl _ _)).mono ?_
        rintro e w2 ⟨rfl, rfl⟩
        go_wp2
        go_ret2
        exact ⟨rfl, Below.refl _ _⟩
  · have e0 : raskE kind name text coins = placeE kind name := by unfold raskE; rw [if_pos he]
    have e1 : rsealY [ky M 1, ky M 2, ky M 3] kind name text coins = { data := #[] } := if_neg (by rw [e0]; exact he)
    rw [e1, e0]
    clear e0 e1 h hR HR
    generalize placeE kind name = E at *
    have hE : (E != 0) = true := by simpa using he
    go_enter Tryz.func14, Tryz.ntmps14
    go_wp2_with fail
    refine (hp _).mono ?_
    rintro e w' ⟨rfl, rfl⟩
    go_wp2
    go_ret2
    exact ⟨rfl, Below.refl _ _⟩

set_option maxHeartbeats 1000000 in
theorem ropen_any (w : World) (rb : Nat) (M : ByteArray) (kind : Int) (name blob : ByteArray) (hz : blob.size ≤ 140737488355328) (h : Rq w rb M) :
    Calls Tryz.prog 34 #[.pointer (some ⟨rb, 0, none⟩), .int .i64 kind, .string name, .string blob] w fun e w' => e = .returned (.tuple #[.string (ropenY [ky M 1, ky M 2, ky M 3] kind name blob), .int .i64 (ropenE [ky M 1, ky M 2, ky M 3] kind name blob)]) ∧ Below w.heap.size w w' := by
  have hp := rplace_any kind name
  obtain ⟨_, c0, c1, c2⟩ := h.cells.out w (Below.refl _ _)
  by_cases he : placeE kind name = 0
  · obtain ⟨g1, g2, g3⟩ := place_0 he
    by_cases hs : blob.size < 40 ∨ 1048616 < blob.size
    · have e1 : ropenE [ky M 1, ky M 2, ky M 3] kind name blob = 81 := by unfold ropenE; rw [if_neg (by simp [he]), if_pos hs]
      have e2 : ropenY [ky M 1, ky M 2, ky M 3] kind name blob = { data := #[] } := if_neg (by rw [e1]; decide)
      rw [e1, e2]
      rw [he] at hp
      clear e1 e2 h he
      by_cases hs1 : blob.size < 40
      · have hs1' : (blob.size : Int) < 40 := by omega
        go_enter Tryz.func34, Tryz.ntmps34
        go_wp2_with fail
        refine (hp _).mono ?_
        rintro e w' ⟨rfl, rfl⟩
        go_wp2
        go_ret2
        exact ⟨rfl, Below.refl _ _⟩
      · have hs1' : ¬ (blob.size : Int) < 40 := by omega
        have hs2' : (1048616 : Int) < (blob.size : Int) := by omega
        go_enter Tryz.func34, Tryz.ntmps34
        go_wp2_with fail
        refine (hp _).mono ?_
        rintro e w' ⟨rfl, rfl⟩
        go_wp2
        go_ret2
        exact ⟨rfl, Below.refl _ _⟩
    · have hs1' : ¬ (blob.size : Int) < 40 := by omega
      have hs2' : ¬ (1048616 : Int) < (blob.size : Int) := by omega
      have hs3 : (24 : Int) ≤ (blob.size : Int) := by omega
      have hbz := bnd_size kind name
      obtain ⟨k, rfl⟩ : ∃ k : Nat, kind = (k : Int) := ⟨kind.toNat, by omega⟩
      have HK : Hid (∀ W, Below w.heap.size w W → Calls Tryz.prog 29 #[.pointer (some ⟨rb, 0, none⟩), .int .i64 (k : Int)] W fun e w' => e = .returned (.string (ky M k)) ∧ Below w.heap.size w w') := fun W hb => by
        refine (rkey_any W rb M k (by omega) (h.below hb)).mono ?_
        rintro e w' ⟨rfl, hb'⟩
        exact ⟨rfl, hb.trans (hb'.mono hb.size)⟩
      have HS : Hid (∀ W, Below w.heap.size w W → Calls Tryz.prog 59 #[.string (ky M k), .string (blob.extract 0 24), .string (bnd (k : Int) name), .string (blob.extract 24 blob.size)] W fun e w' => e = .returned (.tuple #[.string (Ae.openY (ky M k) (blob.extract 0 24) (bnd (k : Int) name) (blob.extract 24 blob.size)), .int .i64 (Ae.openE (ky M k) (blob.extract 0 24) (bnd (k : Int) name) (blob.extract 24 blob.size))]) ∧ Below w.heap.size w w') := fun W hb => by
        have h2 := Ae.ropen_any (ky M k) (blob.extract 0 24) (bnd (k : Int) name) (blob.extract 24 blob.size) (by rw [ky_size]; omega) (by rw [ByteArray.size_extract]; omega) W (h.below hb).pt (h.below hb).hs
        refine h2.mono ?_
        rintro e w' ⟨rfl, hb'⟩
        exact ⟨rfl, hb.trans (hb'.mono hb.size)⟩
      have e1 : ropenE [ky M 1, ky M 2, ky M 3] (k : Int) name blob = if Ae.openE (ky M k) (blob.extract 0 24) (bnd (k : Int) name) (blob.extract 24 blob.size) = 0 then 0 else 81 := by unfold ropenE; rw [if_neg (by simp [he]), if_neg hs, kS_ky M (by omega)]
      have e2 : ropenY [ky M 1, ky M 2, ky M 3] (k : Int) name blob = if ropenE [ky M 1, ky M 2, ky M 3] (k : Int) name blob = 0 then Ae.openY (ky M k) (blob.extract 0 24) (bnd (k : Int) name) (blob.extract 24 blob.size) else { data := #[] } := by unfold ropenY; rw [kS_ky M (by omega)]
      have hbd := carry (w := w) (fun W => raad_any k (by omega) name g3 W)
      rw [e2, e1]
      rw [he] at hp
      generalize Ae.openE (ky M k) (blob.extract 0 24) (bnd (k : Int) name) (blob.extract 24 blob.size) = oe at *
      generalize Ae.openY (ky M k) (blob.extract 0 24) (bnd (k : Int) name) (blob.extract 24 blob.size) = oy at *
      generalize bnd (k : Int) name = bd at *
      generalize ky M k = kk at *
      clear e1 e2 he h hbz
      have HB3N : Hid (∀ j, Below w.heap.size w (w.drewN j)) := fun j => bdN w j
      by_cases ho : oe = 0
      · subst ho
        rw [if_pos rfl, if_pos rfl]
        go_enter Tryz.func34, Tryz.ntmps34
        go_wp2_with fail
        refine (hp _).mono ?_
        rintro e w' ⟨rfl, rfl⟩
        go_wp2_with fail
        go_region_held_law (fun _ => True) (first | exact trivial | go_keep) (first | (go_at_call 29; refine (HK.out _ (HB3N.out 1)).mono ?_; rintro e w4 ⟨rfl, hb4⟩) | (go_at_call 30; refine (hbd.out _ hb4).mono ?_; rintro e w5 ⟨rfl, hb5⟩) | (go_at_call 59; refine (HS.out _ hb5).mono ?_; rintro e w6 ⟨rfl, hb6⟩))
        all_goals
          go_wp2
          go_ret2
          exact ⟨rfl, hb6⟩
      · rw [if_neg ho, if_neg (by decide)]
        have ho' : (oe != 0) = true := by simpa using ho
        go_enter Tryz.func34, Tryz.ntmps34
        go_wp2_with fail
        refine (hp _).mono ?_
        rintro e w' ⟨rfl, rfl⟩
        go_wp2_with fail
        go_region_held_law (fun _ => True) (first | exact trivial | go_keep) (first | (go_at_call 29; refine (HK.out _ (HB3N.out 1)).mono ?_; rintro e w4 ⟨rfl, hb4⟩) | (go_at_call 30; refine (hbd.out _ hb4).mono ?_; rintro e w5 ⟨rfl, hb5⟩) | (go_at_call 59; refine (HS.out _ hb5).mono ?_; rintro e w6 ⟨rfl, hb6⟩))
        all_goals
          go_wp2
          go_ret2
          exact ⟨rfl, hb6⟩
  · have e1 : ropenE [ky M 1, ky M 2, ky M 3] kind name blob = placeE kind name := by unfold ropenE; rw [if_pos he]
    have e2 : ropenY [ky M 1, ky M 2, ky M 3] kind name blob = { data := #[] } := if_neg (by rw [e1]; exact he)
    rw [e2, e1]
    clear e1 e2 h
    generalize placeE kind name = E at *
    have hE : (E != 0) = true := by simpa using he
    go_enter Tryz.func34, Tryz.ntmps34
    go_wp2_with fail
    refine (hp _).mono ?_
    rintro e w' ⟨rfl, rfl⟩
    go_wp2
    go_ret2
    exact ⟨rfl, Below.refl _ _⟩
end Go.Proofs.YtengclnahppmhaaGreatDoor.Rr
