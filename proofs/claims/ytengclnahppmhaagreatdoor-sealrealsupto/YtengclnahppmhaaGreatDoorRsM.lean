import Derived.Test.YtengclnahppmhaaGreatDoorRsA
import Derived.Deep.RegionHeldLaw
import Derived.Test.YtengclnahppmhaaGreatDoorSlZ
import Derived.Test.YtengclnahppmhaaGreatDoorAeZ
import Derived.Test.YtengclnahppmhaaGreatDoorKdM1
namespace Go.Proofs.YtengclnahppmhaaGreatDoor.Rs
open Go.RowKit Go.Lib Go.Deep
open Se (placeE tagS)

/-- the key of a kind, and what a box is bound to -/
def kS (K : List ByteArray) (kind : Int) : ByteArray := K.getD (kind - 1).toNat { data := #[] }
def bnd (kind : Int) (name : ByteArray) : ByteArray := str [UInt8.ofNat kind.toNat] ++ name
def rsealY (K : List ByteArray) (kind : Int) (name text coins : ByteArray) : ByteArray := if raskE kind name text coins = 0 then coins ++ Ae.sealY (kS K kind) coins (bnd kind name) text else { data := #[] }
def ropenE (K : List ByteArray) (kind : Int) (name blob : ByteArray) : Int :=
  if placeE kind name ≠ 0 then placeE kind name else if blob.size < 40 ∨ 1048616 < blob.size then 81
  else if Ae.openE (kS K kind) (blob.extract 0 24) (bnd kind name) (blob.extract 24 blob.size) = 0 then 0 else 81
def ropenY (K : List ByteArray) (kind : Int) (name blob : ByteArray) : ByteArray :=
  if ropenE K kind name blob = 0 then Ae.openY (kS K kind) (blob.extract 0 24) (bnd kind name) (blob.extract 24 blob.size) else { data := #[] }

/-- a real sealer lies there -/
structure Rl (w : World) (pb : Nat) (K0 K1 K2 : ByteArray) : Prop where
  row : w.heap[pb]? = some (.cells #[.int .i64 24, .int .i64 0, .string K0, .string K1, .string K2] 68 (0, 0))
  s0 : K0.size = 32
  s1 : K1.size = 32
  s2 : K2.size = 32
  tab : Ae.ATabs w
theorem Rl.below {w w' : World} {pb : Nat} {K0 K1 K2 : ByteArray} (h : Rl w pb K0 K1 K2) (hb : Below w.heap.size w w') : Rl w' pb K0 K1 K2 :=
  ⟨(hb.block _ (heap_lt h.row)).trans h.row, h.s0, h.s1, h.s2, h.tab.below hb⟩
theorem Rl.cells {w : World} {pb : Nat} {K0 K1 K2 : ByteArray} (h : Rl w pb K0 K1 K2) : Hid (∀ W, Below w.heap.size w W → Rl W pb K0 K1 K2 ∧ W.cell? ⟨pb, 0, none⟩ = some (.int .i64 24) ∧ W.cell? ⟨pb, 1, none⟩ = some (.int .i64 0) ∧ W.cell? ⟨pb, 2, none⟩ = some (.string K0) ∧ W.cell? ⟨pb, 3, none⟩ = some (.string K1) ∧ W.cell? ⟨pb, 4, none⟩ = some (.string K2)) := fun W hb => by
  have h2 := h.below hb
  exact ⟨h2, (cell_of_heap h2.row).trans rfl, (cell_of_heap h2.row).trans rfl, (cell_of_heap h2.row).trans rfl, (cell_of_heap h2.row).trans rfl, (cell_of_heap h2.row).trans rfl⟩

theorem there_any (w : World) (pb : Nat) (K0 K1 K2 : ByteArray) (h : Rl w pb K0 K1 K2) : Calls Tryz.prog 77 #[.pointer (some ⟨pb, 0, none⟩)] w fun e w' => e = .returned (.bool true) ∧ Below w.heap.size w w' := by
  have hm := fun W => made_any W
  unfold rlV at hm
  obtain ⟨_, c0, c1, _⟩ := h.cells.out w (Below.refl _ _)
  clear h
  go_enter Tryz.func77, Tryz.ntmps77
  go_wp2_with fail
  refine (hm _).mono ?_
  rintro e w2 ⟨rfl, hb⟩
  go_wp2
  go_ret
  exact ⟨rfl, hb⟩

theorem coins_any (w : World) (pb : Nat) (K0 K1 K2 : ByteArray) (n : Int) (h : Rl w pb K0 K1 K2) : Calls Tryz.prog 62 #[.pointer (some ⟨pb, 0, none⟩), .int .i64 n] w fun e w' => e = .returned (.int .i64 (rcN n)) ∧ Below w.heap.size w w' := by
  have ht := there_any w pb K0 K1 K2 h
  have ha := carry (w := w) (fun W => asked_any n W)
  unfold rlV at ha
  have HC := h.cells
  clear h
  go_enter Tryz.func62, Tryz.ntmps62
  go_wp2_with fail
  refine ht.mono ?_
  rintro e w2 ⟨rfl, hb⟩
  obtain ⟨_, c0, c1, _⟩ := HC.out _ hb
  go_wp2_with fail
  refine (ha.out _ hb).mono ?_
  rintro e w3 ⟨rfl, hb3⟩
  go_wp2
  go_ret
  exact ⟨rfl, hb3⟩

theorem fresh_any (w : World) (pb : Nat) (K0 K1 K2 : ByteArray) (c : ByteArray) (h : Rl w pb K0 K1 K2) : Calls Tryz.prog 63 #[.pointer (some ⟨pb, 0, none⟩), .string c] w fun e w' => e = .returned (.bool (decide (24 ≤ c.size ∧ c.size ≤ 24))) ∧ Below w.heap.size w w' := by
  have ht := there_any w pb K0 K1 K2 h
  have ha := carry (w := w) (fun W => serves_any c W)
  unfold rlV at ha
  generalize decide (24 ≤ c.size ∧ c.size ≤ 24) = R at *
  have HC := h.cells
  clear h
  go_enter Tryz.func63, Tryz.ntmps63
  go_wp2_with fail
  refine ht.mono ?_
  rintro e w2 ⟨rfl, hb⟩
  obtain ⟨_, c0, c1, _⟩ := HC.out _ hb
  go_wp2_with fail
  refine (ha.out _ hb).mono ?_
  rintro e w3 ⟨rfl, hb3⟩
  go_wp2
  go_ret
  exact ⟨rfl, hb3⟩

theorem kindByte_any (k : Nat) (hk : k < 256) (w : World) : Calls Tryz.prog 20 #[.int .i64 (k : Int)] w fun e w' => e = .returned (.string (str [UInt8.ofNat k])) ∧ Below w.heap.size w w' := by
  have h1 := one_byte k
  rw [show (k : Int) % 256 = (k : Int) by omega] at h1
  go_enter Tryz.func20, Tryz.ntmps20
  go_wp2
  go_ret
  exact ⟨rfl, (Below.refl _ _).alloc (Nat.le_refl _) _⟩
theorem bound_any (k : Nat) (hk : k < 256) (name : ByteArray) (hn : name.size ≤ 64) (w : World) : Calls Tryz.prog 80 #[.int .i64 (k : Int), .string name] w fun e w' => e = .returned (.string (bnd (k : Int) name)) ∧ Below w.heap.size w w' := by
  have h1 := kindByte_any k hk
  have hc : ∀ W, (Op.stringOp .add (str [UInt8.ofNat k]) name).run Tryz.prog W = .ok (.string (bnd (k : Int) name)) W := fun W => by
    rw [run_string_add_sum (P := Tryz.prog) (w := W) _ _ (by rw [str_size]; simp; omega)]
    rfl
  go_enter Tryz.func80, Tryz.ntmps80
  go_wp2_with fail
  refine (h1 _).mono ?_
  rintro e w2 ⟨rfl, hb⟩
  go_wp2
  go_ret
  exact ⟨rfl, hb⟩
theorem key_any (w : World) (pb : Nat) (K0 K1 K2 : ByteArray) (kind : Int) (hk : 1 ≤ kind ∧ kind ≤ 3) (h : Rl w pb K0 K1 K2) : Calls Tryz.prog 79 #[.pointer (some ⟨pb, 0, none⟩), .int .i64 kind] w fun e w' => e = .returned (.string (kS [K0, K1, K2] kind)) ∧ w' = w := by
  obtain ⟨_, c0, c1, c2, c3, c4⟩ := h.cells.out w (Below.refl _ _)
  clear h
  obtain rfl | rfl | rfl : kind = 1 ∨ kind = 2 ∨ kind = 3 := by omega
  all_goals
    go_enter Tryz.func79, Tryz.ntmps79
    go_wp2
    go_ret
    exact ⟨rfl, rfl⟩
end Go.Proofs.YtengclnahppmhaaGreatDoor.Rs

namespace Go.Proofs.YtengclnahppmhaaGreatDoor.Rs
open Go.RowKit Go.Lib Go.Deep
open Se (placeE tagS)

theorem kS_size {K0 K1 K2 : ByteArray} (h0 : K0.size = 32) (h1 : K1.size = 32) (h2 : K2.size = 32) {kind : Int} (hk : 1 ≤ kind ∧ kind ≤ 3) : (kS [K0, K1, K2] kind).size = 32 := by
  obtain rfl | rfl | rfl : kind = 1 ∨ kind = 2 ∨ kind = 3 := by omega
  · exact h0
  · exact h1
  · exact h2
theorem bnd_size (kind : Int) (name : ByteArray) : (bnd kind name).size = name.size + 1 := by
  unfold bnd
  rw [ByteArray.size_append, str_size]
  simp
  omega
theorem place_0 {kind : Int} {name : ByteArray} (h : placeE kind name = 0) : 1 ≤ kind ∧ kind ≤ 3 ∧ name.size ≤ 64 := by
  unfold placeE at h
  split at h
  · omega
  · split at h <;> omega
theorem rask_0 {kind : Int} {name text coins : ByteArray} (h : raskE kind name text coins = 0) : 1 ≤ kind ∧ kind ≤ 3 ∧ name.size ≤ 64 ∧ text.size ≤ 1048576 ∧ coins.size = 24 := by
  unfold raskE at h
  split at h
  · rename_i h1; exact absurd h h1
  · rename_i h1
    have h2 := place_0 (Classical.byContradiction fun h3 => h1 h3)
    split at h
    · omega
    · split at h
      · omega
      · exact ⟨h2.1, h2.2.1, h2.2.2, by omega, by omega⟩
theorem aseal_0 {key nonce aad plain : ByteArray} (h1 : key.size = 32) (h2 : nonce.size = 24) (h3 : aad.size ≤ 1048576) (h4 : plain.size ≤ 1048576) : Ae.sealE key nonce aad plain = 0 ∧ (Ae.sealY key nonce aad plain).data.toList = Ae.sealL key.data.toList nonce.data.toList aad.data.toList plain.data.toList := by
  have h := Ae.sealE_yes h1 (.inr h2) h3 h4
  exact ⟨h.1, by rw [h.2, str_data]⟩

set_option maxHeartbeats 1000000 in
theorem seal_any (w : World) (pb : Nat) (K0 K1 K2 : ByteArray) (kind : Int) (name text coins : ByteArray) (hn : name.size ≤ 140737488355328) (ht : text.size ≤ 140737488355328) (hc : coins.size ≤ 140737488355328) (h : Rl w pb K0 K1 K2) :
    Calls Tryz.prog 56 #[.pointer (some ⟨pb, 0, none⟩), .int .i64 kind, .string name, .string text, .string coins] w fun e w' => e = .returned (.tuple #[.string (rsealY [K0, K1, K2] kind name text coins), .int .i64 (raskE kind name text coins)]) ∧ Below w.heap.size w w' := by
  have ht := there_any w pb K0 K1 K2 h
  have ha := carry (w := w) (fun W => sealFault_any kind name text coins W)
  unfold rlV at ha
  have HC := h.cells
  by_cases he : raskE kind name text coins = 0
  · obtain ⟨g1, g2, g3, g4, g5⟩ := rask_0 he
    have hkz := kS_size h.s0 h.s1 h.s2 ⟨g1, g2⟩
    have hbz := bnd_size kind name
    obtain ⟨z1, z2⟩ := aseal_0 (key := kS [K0, K1, K2] kind) (nonce := coins) (aad := bnd kind name) (plain := text) hkz g5 (by omega) g4
    have HK : Hid (∀ W, Below w.heap.size w W → Calls Tryz.prog 79 #[.pointer (some ⟨pb, 0, none⟩), .int .i64 kind] W fun e w' => e = .returned (.string (kS [K0, K1, K2] kind)) ∧ w' = W) := fun W hb => key_any W pb K0 K1 K2 kind ⟨g1, g2⟩ (h.below hb)
    have HS : Hid (∀ W, Below w.heap.size w W → Calls Tryz.prog 78 #[.string (kS [K0, K1, K2] kind), .string coins, .string (bnd kind name), .string text] W fun e w' => e = .returned (.tuple #[.string (Ae.sealY (kS [K0, K1, K2] kind) coins (bnd kind name) text), .int .i64 0]) ∧ Below w.heap.size w w') := fun W hb => by
      have h2 := Ae.sealC (kS [K0, K1, K2] kind) coins (bnd kind name) text W (by omega) (by omega) (by omega) (by omega) (h.below hb).tab
      rw [z1] at h2
      refine h2.mono ?_
      rintro e w' ⟨rfl, hb'⟩
      exact ⟨rfl, hb.trans (hb'.mono hb.size)⟩
    obtain ⟨k, rfl⟩ : ∃ k : Nat, kind = (k : Int) := ⟨kind.toNat, by omega⟩
    have hbd := carry (w := w) (fun W => bound_any k (by omega) name g3 W)
    have e1 : rsealY [K0, K1, K2] (k : Int) name text coins = coins ++ Ae.sealY (kS [K0, K1, K2] (k : Int)) coins (bnd (k : Int) name) text := if_pos he
    have hzz : (Ae.sealY (kS [K0, K1, K2] (k : Int)) coins (bnd (k : Int) name) text).size = text.size + 16 := by rw [size_eq, z2, Ae.sealL_length, ← size_eq]
    rw [e1, he]
    rw [he] at ha
    generalize Ae.sealY (kS [K0, K1, K2] (k : Int)) coins (bnd (k : Int) name) text = bx at *
    generalize bnd (k : Int) name = bd at *
    generalize kS [K0, K1, K2] (k : Int) = ky at *
    have hcat : ∀ W, (Op.stringOp .add coins bx).run Tryz.prog W = .ok (.string (coins ++ bx)) W := fun W => run_string_add_sum (P := Tryz.prog) (w := W) _ _ (by omega)
    clear z1 z2 e1 he h hkz hbz
    go_enter Tryz.func56, Tryz.ntmps56
    go_wp2_with fail
    refine ht.mono ?_
    rintro e w2 ⟨rfl, hb2⟩
    obtain ⟨_, c0, c1, _⟩ := HC.out _ hb2
    go_wp2_with fail
    refine (ha.out _ hb2).mono ?_
    rintro e w3 ⟨rfl, hb3⟩
    clear c0 c1
    go_wp2_with fail
    refine (HK.out _ hb3).mono ?_
    rintro e w4 ⟨rfl, rfl⟩
    go_wp2_with fail
    refine (hbd.out _ hb3).mono ?_
    rintro e w5 ⟨rfl, hb5⟩
    go_wp2_with fail
    refine (HS.out _ hb5).mono ?_
    rintro e w6 ⟨rfl, hb6⟩
    go_wp2
    go_ret2
    exact ⟨rfl, hb6⟩
  · have e1 : rsealY [K0, K1, K2] kind name text coins = { data := #[] } := if_neg he
    rw [e1]
    clear e1 h
    generalize raskE kind name text coins = E at *
    have hE : (E != 0) = true := by simpa using he
    go_enter Tryz.func56, Tryz.ntmps56
    go_wp2_with fail
    refine ht.mono ?_
    rintro e w2 ⟨rfl, hb2⟩
    obtain ⟨_, c0, c1, _⟩ := HC.out _ hb2
    go_wp2_with fail
    refine (ha.out _ hb2).mono ?_
    rintro e w3 ⟨rfl, hb3⟩
    go_wp2
    go_ret2
    exact ⟨rfl, hb3⟩

set_option maxHeartbeats 1000000 in
theorem open_any (w : World) (pb : Nat) (K0 K1 K2 : ByteArray) (kind : Int) (name blob : ByteArray) (hz : blob.size ≤ 140737488355328) (h : Rl w pb K0 K1 K2) :
    Calls Tryz.prog 58 #[.pointer (some ⟨pb, 0, none⟩), .int .i64 kind, .string name, .string blob] w fun e w' => e = .returned (.tuple #[.string (ropenY [K0, K1, K2] kind name blob), .int .i64 (ropenE [K0, K1, K2] kind name blob)]) ∧ Below w.heap.size w w' := by
  have ht := there_any w pb K0 K1 K2 h
  have ha := carry (w := w) (fun W => place_any kind name W)
  unfold rlV at ha
  have HC := h.cells
  by_cases he : placeE kind name = 0
  · obtain ⟨g1, g2, g3⟩ := place_0 he
    by_cases hs : blob.size < 40 ∨ 1048616 < blob.size
    · have e1 : ropenE [K0, K1, K2] kind name blob = 81 := by unfold ropenE; rw [if_neg (by simp [he]), if_pos hs]
      have e2 : ropenY [K0, K1, K2] kind name blob = { data := #[] } := if_neg (by rw [e1]; decide)
      rw [e1, e2]
      rw [he] at ha
      clear e1 e2 h he
      by_cases hs1 : blob.size < 40
      · have hs1' : (blob.size : Int) < 40 := by omega
        go_enter Tryz.func58, Tryz.ntmps58
        go_wp2_with fail
        refine ht.mono ?_
        rintro e w2 ⟨rfl, hb2⟩
        obtain ⟨_, c0, c1, _⟩ := HC.out _ hb2
        go_wp2_with fail
        refine (ha.out _ hb2).mono ?_
        rintro e w3 ⟨rfl, hb3⟩
        go_wp2
        go_ret2
        exact ⟨rfl, hb3⟩
      · have hs1' : ¬ (blob.size : Int) < 40 := by omega
        have hs2' : (1048616 : Int) < (blob.size : Int) := by omega
        go_enter Tryz.func58, Tryz.ntmps58
        go_wp2_with fail
        refine ht.mono ?_
        rintro e w2 ⟨rfl, hb2⟩
        obtain ⟨_, c0, c1, _⟩ := HC.out _ hb2
        go_wp2_with fail
        refine (ha.out _ hb2).mono ?_
        rintro e w3 ⟨rfl, hb3⟩
        go_wp2
        go_ret2
        exact ⟨rfl, hb3⟩
    · have hs1' : ¬ (blob.size : Int) < 40 := by omega
      have hs2' : ¬ (1048616 : Int) < (blob.size : Int) := by omega
      have hkz := kS_size h.s0 h.s1 h.s2 ⟨g1, g2⟩
      have hbz := bnd_size kind name
      have x1 : (blob.extract 0 24).size ≤ 140737488355328 := by rw [ByteArray.size_extract]; omega
      have x2 : (blob.extract 24 blob.size).size ≤ 140737488355328 := by rw [ByteArray.size_extract]; omega
      have HK : Hid (∀ W, Below w.heap.size w W → Calls Tryz.prog 79 #[.pointer (some ⟨pb, 0, none⟩), .int .i64 kind] W fun e w' => e = .returned (.string (kS [K0, K1, K2] kind)) ∧ w' = W) := fun W hb => key_any W pb K0 K1 K2 kind ⟨g1, g2⟩ (h.below hb)
      have HS : Hid (∀ W, Below w.heap.size w W → Calls Tryz.prog 82 #[.string (kS [K0, K1, K2] kind), .string (blob.extract 0 24), .string (bnd kind name), .string (blob.extract 24 blob.size)] W fun e w' => e = .returned (.tuple #[.string (Ae.openY (kS [K0, K1, K2] kind) (blob.extract 0 24) (bnd kind name) (blob.extract 24 blob.size)), .int .i64 (Ae.openE (kS [K0, K1, K2] kind) (blob.extract 0 24) (bnd kind name) (blob.extract 24 blob.size))]) ∧ Below w.heap.size w w') := fun W hb => by
        have h2 := Ae.openC (kS [K0, K1, K2] kind) (blob.extract 0 24) (bnd kind name) (blob.extract 24 blob.size) W (by omega) x1 (by omega) x2 (h.below hb).tab
        refine h2.mono ?_
        rintro e w' ⟨rfl, hb'⟩
        exact ⟨rfl, hb.trans (hb'.mono hb.size)⟩
      have e1 : ropenE [K0, K1, K2] kind name blob = if Ae.openE (kS [K0, K1, K2] kind) (blob.extract 0 24) (bnd kind name) (blob.extract 24 blob.size) = 0 then 0 else 81 := by unfold ropenE; rw [if_neg (by simp [he]), if_neg hs]
      have e2 : ropenY [K0, K1, K2] kind name blob = if ropenE [K0, K1, K2] kind name blob = 0 then Ae.openY (kS [K0, K1, K2] kind) (blob.extract 0 24) (bnd kind name) (blob.extract 24 blob.size) else { data := #[] } := rfl
      obtain ⟨k, rfl⟩ : ∃ k : Nat, kind = (k : Int) := ⟨kind.toNat, by omega⟩
      have hbd := carry (w := w) (fun W => bound_any k (by omega) name g3 W)
      rw [e2, e1]
      rw [he] at ha
      generalize Ae.openE (kS [K0, K1, K2] (k : Int)) (blob.extract 0 24) (bnd (k : Int) name) (blob.extract 24 blob.size) = oe at *
      generalize Ae.openY (kS [K0, K1, K2] (k : Int)) (blob.extract 0 24) (bnd (k : Int) name) (blob.extract 24 blob.size) = oy at *
      generalize bnd (k : Int) name = bd at *
      generalize kS [K0, K1, K2] (k : Int) = ky at *
      have hs3 : (24 : Int) ≤ (blob.size : Int) := by omega
      clear e1 e2 he h hkz hbz x1 x2
      by_cases ho : oe = 0
      · subst ho
        rw [if_pos rfl, if_pos rfl]
        go_enter Tryz.func58, Tryz.ntmps58
        go_wp2_with fail
        refine ht.mono ?_
        rintro e w2 ⟨rfl, hb2⟩
        obtain ⟨_, c0, c1, _⟩ := HC.out _ hb2
        go_wp2_with fail
        refine (ha.out _ hb2).mono ?_
        rintro e w3 ⟨rfl, hb3⟩
        clear c0 c1
        have HB3N : Hid (∀ j, Below w.heap.size w (w3.drewN j)) := fun j => hb3.trans ((bdN w3 j).mono hb3.size)
        clear hb3 hb2
        go_wp2_with fail
        go_region_held_law (fun _ => True) (first | exact trivial | go_keep) (first | (go_at_call 79; refine (HK.out _ (HB3N.out 1)).mono ?_; rintro e w4 ⟨rfl, rfl⟩) | (go_at_call 80; refine (hbd.out _ (HB3N.out 1)).mono ?_; rintro e w5 ⟨rfl, hb5⟩) | (go_at_call 82; refine (HS.out _ hb5).mono ?_; rintro e w6 ⟨rfl, hb6⟩))
        all_goals
          go_wp2
          go_ret2
          exact ⟨rfl, hb6⟩
      · rw [if_neg ho, if_neg (by decide)]
        have ho' : (oe != 0) = true := by simpa using ho
        go_enter Tryz.func58, Tryz.ntmps58
        go_wp2_with fail
        refine ht.mono ?_
        rintro e w2 ⟨rfl, hb2⟩
        obtain ⟨_, c0, c1, _⟩ := HC.out _ hb2
        go_wp2_with fail
        refine (ha.out _ hb2).mono ?_
        rintro e w3 ⟨rfl, hb3⟩
        clear c0 c1
        have HB3N : Hid (∀ j, Below w.heap.size w (w3.drewN j)) := fun j => hb3.trans ((bdN w3 j).mono hb3.size)
        clear hb3 hb2
        go_wp2_with fail
        go_region_held_law (fun _ => True) (first | exact trivial | go_keep) (first | (go_at_call 79; refine (HK.out _ (HB3N.out 1)).mono ?_; rintro e w4 ⟨rfl, rfl⟩) | (go_at_call 80; refine (hbd.out _ (HB3N.out 1)).mono ?_; rintro e w5 ⟨rfl, hb5⟩) | (go_at_call 82; refine (HS.out _ hb5).mono ?_; rintro e w6 ⟨rfl, hb6⟩))
        all_goals
          go_wp2
          go_ret2
          exact ⟨rfl, hb6⟩
  · have e1 : ropenE [K0, K1, K2] kind name blob = placeE kind name := by unfold ropenE; rw [if_pos he]
    have e2 : ropenY [K0, K1, K2] kind name blob = { data := #[] } := if_neg (by rw [e1]; exact he)
    rw [e2, e1]
    clear e1 e2 h
    generalize placeE kind name = E at *
    have hE : (E != 0) = true := by simpa using he
    go_enter Tryz.func58, Tryz.ntmps58
    go_wp2_with fail
    refine ht.mono ?_
    rintro e w2 ⟨rfl, hb2⟩
    obtain ⟨_, c0, c1, _⟩ := HC.out _ hb2
    go_wp2_with fail
    refine (ha.out _ hb2).mono ?_
    rintro e w3 ⟨rfl, hb3⟩
    go_wp2
    go_ret2
    exact ⟨rfl, hb3⟩
end Go.Proofs.YtengclnahppmhaaGreatDoor.Rs

namespace Go.Proofs.YtengclnahppmhaaGreatDoor.Rs
open Go.RowKit Go.Lib Go.Deep
open Se (placeE tagS)

/-- the keys of a master key -/
def saltL : List UInt8 := [99, 97, 115, 107, 101, 116]
theorem salt_eq : ({ data := #[99, 97, 115, 107, 101, 116] } : ByteArray).data.toList = saltL := rfl
def ky (M : ByteArray) (i : Nat) : ByteArray := str (expL (hmacL saltL M.data.toList) [UInt8.ofNat i] 32)
theorem ky_size (M : ByteArray) (i : Nat) : (ky M i).size = 32 := by unfold ky; rw [str_size, expL_length]

def rowK (M : ByteArray) : Nat → Array Value
  | 0 => #[.int .i64 24, .int .i64 0, .string { data := #[] }, .string { data := #[] }, .string { data := #[] }]
  | 1 => #[.int .i64 24, .int .i64 0, .string (ky M 1), .string { data := #[] }, .string { data := #[] }]
  | 2 => #[.int .i64 24, .int .i64 0, .string (ky M 1), .string (ky M 2), .string { data := #[] }]
  | _ => #[.int .i64 24, .int .i64 0, .string (ky M 1), .string (ky M 2), .string (ky M 3)]
def NewP (w : World) (M : ByteArray) (e : Ending) (w' : World) : Prop :=
  ∃ pb, e = .returned (.tuple #[.pointer (some ⟨pb, 0, none⟩), .int .i64 0]) ∧ w.heap.size ≤ pb ∧ Rl w' pb (ky M 1) (ky M 2) (ky M 3) ∧ Below w.heap.size w w'

set_option maxRecDepth 20000 in
set_option maxHeartbeats 400000 in
theorem newReal_any (M : ByteArray) (hM : M.size = 32) (w : World) (hT : Tabs w) (hA : Ae.ATabs w) (h4 : 8 ≤ w.heap.size) : Calls Tryz.prog 10 #[.string M] w (NewP w M) := by
  have hM' : (M.size : Int) = 32 := by omega
  have HX : Hid (∀ W, Below w.heap.size w W → Calls Tryz.prog 18 #[.string { data := #[99, 97, 115, 107, 101, 116] }, .string M] W fun e w' => e = .returned (.string (str (hmacL saltL M.data.toList))) ∧ Below W.heap.size W w') := fun W hb => by
    have h := kextract_any { data := #[99, 97, 115, 107, 101, 116] } M (by decide) (by omega) W (hT.below hb (by omega)) (by have := hb.size; omega)
    rw [salt_eq] at h
    refine h.mono ?_
    rintro e w' ⟨rfl, hb'⟩
    exact ⟨rfl, hb'⟩
  obtain ⟨pr, hpr⟩ : ∃ pr, str (hmacL saltL M.data.toList) = pr := ⟨_, rfl⟩
  have HE : Hid (∀ (i : Nat) W, i < 256 → Below w.heap.size w W → Calls Tryz.prog 19 #[.string pr, .string (str [UInt8.ofNat i]), .int .i64 32] W fun e w' => e = .returned (.tuple #[.string (ky M i), .int .i64 0]) ∧ Below W.heap.size W w') := fun i W hi hb => by
    have h := kexpand_any pr (str [UInt8.ofNat i]) 32 (by rw [← hpr, str_size, hmacL_length]; omega) (by rw [str_size]; simp) (by omega) (by omega) W (hT.below hb (by omega)) (by have := hb.size; omega)
    rw [str_data, ← hpr, str_data, hpr, show (32 : Int).toNat = 32 from rfl] at h
    change Calls _ _ _ _ (fun e w' => e = .returned (.tuple #[.string (ky M i), .int .i64 0]) ∧ _) at h
    refine h.mono ?_
    rintro e w' ⟨rfl, hb'⟩
    exact ⟨rfl, hb'⟩
  have HB : Hid (∀ (i : Nat) W, i < 256 → Below w.heap.size w W → Calls Tryz.prog 20 #[.int .i64 (i : Int)] W fun e w' => e = .returned (.string (str [UInt8.ofNat i])) ∧ Below W.heap.size W w') := fun i W hi hb => by
    refine (kindByte_any i hi W).mono ?_
    rintro e w' ⟨rfl, hb'⟩
    exact ⟨rfl, hb'⟩
  rw [hpr] at HX
  have HT : Hid (Ae.ATabs w) := hA
  clear hT hA hpr
  go_enter Tryz.func10, Tryz.ntmps10
  go_wp2_with fail
  obtain ⟨W0, hW0⟩ : ∃ W, w.alloc (.cells #[.int .i64 24, .int .i64 0, .string { data := #[] }, .string { data := #[] }, .string { data := #[] }] 68) = W := ⟨_, rfl⟩
  have hq0 : W0.heap[w.heap.size]? = some (.cells #[.int .i64 24, .int .i64 0, .string { data := #[] }, .string { data := #[] }, .string { data := #[] }] 68 (0, 0)) := by rw [← hW0]; exact heap_new _ _
  have hb0 : Below w.heap.size w W0 := by rw [← hW0]; exact (Below.refl _ _).alloc (Nat.le_refl _) _
  rw [hW0]
  refine (HX.out _ hb0).mono ?_
  rintro e w1 ⟨rfl, hb1⟩
  have HQ1 : Hid (w1.heap[w.heap.size]? = some (.cells #[.int .i64 24, .int .i64 0, .string { data := #[] }, .string { data := #[] }, .string { data := #[] }] 68 (0, 0)) ∧ Below w.heap.size w w1) := ⟨(hb1.block _ (heap_lt hq0)).trans hq0, hb0.trans (hb1.mono hb0.size)⟩
  clear hb0 hb1 hq0 hW0
  go_wp2_with fail
  go_loopg [17] 3 (fun gk iv wr => ∃ k : Nat, k + gk = 3 ∧ iv = .int .i64 (k : Int) ∧ Hid (wr.heap[w.heap.size]? = some (.cells (rowK M k) 68 (0, 0)) ∧ Below w.heap.size w wr))
  case atStart => exact ⟨0, by omega, rfl, HQ1⟩
  case round =>
    obtain ⟨k, hk, rfl, HV⟩ := hrel
    by_cases hlt : k < 3
    · obtain rfl | rfl | rfl : k = 0 ∨ k = 1 ∨ k = 2 := by omega
      · obtain ⟨HQ, HBW⟩ : Hid (wr.heap[w.heap.size]? = some (.cells #[.int .i64 24, .int .i64 0, .string { data := #[] }, .string { data := #[] }, .string { data := #[] }] 68 (0, 0))) ∧ Hid (Below w.heap.size w wr) := ⟨HV.out.1, HV.out.2⟩
        clear HV
        go_wp2_with fail
        refine (HB.out 1 _ (by omega) HBW.out).mono ?_
        rintro e w2 ⟨rfl, hb2⟩
        have HBW2 : Hid (Below w.heap.size w w2) := HBW.out.trans (hb2.mono HBW.out.size)
        have HQ2 : Hid (w2.heap[w.heap.size]? = some (.cells #[.int .i64 24, .int .i64 0, .string { data := #[] }, .string { data := #[] }, .string { data := #[] }] 68 (0, 0))) := (hb2.block _ (heap_lt HQ.out)).trans HQ.out
        clear hb2 HQ HBW
        go_wp2_with fail
        refine (HE.out 1 _ (by omega) HBW2.out).mono ?_
        rintro e w3 ⟨rfl, hb3⟩
        have HBW3 : Hid (Below w.heap.size w w3) := HBW2.out.trans (hb3.mono HBW2.out.size)
        have HQ3 : Hid (w3.heap[w.heap.size]? = some (.cells #[.int .i64 24, .int .i64 0, .string { data := #[] }, .string { data := #[] }, .string { data := #[] }] 68 (0, 0))) := (hb3.block _ (heap_lt HQ2.out)).trans HQ2.out
        clear hb3 HQ2 HBW2
        have x0 : w3.cell? ⟨w.heap.size, 2, none⟩ = some (.string { data := #[] }) := (cell_of_heap HQ3.out).trans rfl
        have y0 : w3.frozen? ⟨w.heap.size, 2, none⟩ = false := frozen_of_heap HQ3.out
        have HQ4 : Hid ((w3.setCell ⟨w.heap.size, 2, none⟩ (.string (ky M 1))).heap[w.heap.size]? = some (.cells #[.int .i64 24, .int .i64 0, .string (ky M 1), .string { data := #[] }, .string { data := #[] }] 68 (0, 0))) := heap_setCell_fr w3 w.heap.size 2 _ _ _ (.string (ky M 1)) HQ3.out
        have HBW4 : Hid (Below w.heap.size w (w3.setCell ⟨w.heap.size, 2, none⟩ (.string (ky M 1)))) := HBW3.out.setCell (Nat.le_refl _) _
        go_wp2
        go_roundg (gk - 1)
        case measure => omega
        case rel => exact ⟨1, by omega, by go_num, ⟨HQ4.out, HBW4.out⟩⟩
      · obtain ⟨HQ, HBW⟩ : Hid (wr.heap[w.heap.size]? = some (.cells #[.int .i64 24, .int .i64 0, .string (ky M 1), .string { data := #[] }, .string { data := #[] }] 68 (0, 0))) ∧ Hid (Below w.heap.size w wr) := ⟨HV.out.1, HV.out.2⟩
        clear HV
        go_wp2_with fail
        refine (HB.out 2 _ (by omega) HBW.out).mono ?_
        rintro e w2 ⟨rfl, hb2⟩
        have HBW2 : Hid (Below w.heap.size w w2) := HBW.out.trans (hb2.mono HBW.out.size)
        have HQ2 : Hid (w2.heap[w.heap.size]? = some (.cells #[.int .i64 24, .int .i64 0, .string (ky M 1), .string { data := #[] }, .string { data := #[] }] 68 (0, 0))) := (hb2.block _ (heap_lt HQ.out)).trans HQ.out
        clear hb2 HQ HBW
        go_wp2_with fail
        refine (HE.out 2 _ (by omega) HBW2.out).mono ?_
        rintro e w3 ⟨rfl, hb3⟩
        have HBW3 : Hid (Below w.heap.size w w3) := HBW2.out.trans (hb3.mono HBW2.out.size)
        have HQ3 : Hid (w3.heap[w.heap.size]? = some (.cells #[.int .i64 24, .int .i64 0, .string (ky M 1), .string { data := #[] }, .string { data := #[] }] 68 (0, 0))) := (hb3.block _ (heap_lt HQ2.out)).trans HQ2.out
        clear hb3 HQ2 HBW2
        have x1 : w3.cell? ⟨w.heap.size, 3, none⟩ = some (.string { data := #[] }) := (cell_of_heap HQ3.out).trans rfl
        have y1 : w3.frozen? ⟨w.heap.size, 3, none⟩ = false := frozen_of_heap HQ3.out
        have HQ4 : Hid ((w3.setCell ⟨w.heap.size, 3, none⟩ (.string (ky M 2))).heap[w.heap.size]? = some (.cells #[.int .i64 24, .int .i64 0, .string (ky M 1), .string (ky M 2), .string { data := #[] }] 68 (0, 0))) := heap_setCell_fr w3 w.heap.size 3 _ _ _ (.string (ky M 2)) HQ3.out
        have HBW4 : Hid (Below w.heap.size w (w3.setCell ⟨w.heap.size, 3, none⟩ (.string (ky M 2)))) := HBW3.out.setCell (Nat.le_refl _) _
        go_wp2
        go_roundg (gk - 1)
        case measure => omega
        case rel => exact ⟨2, by omega, by go_num, ⟨HQ4.out, HBW4.out⟩⟩
      · obtain ⟨HQ, HBW⟩ : Hid (wr.heap[w.heap.size]? = some (.cells #[.int .i64 24, .int .i64 0, .string (ky M 1), .string (ky M 2), .string { data := #[] }] 68 (0, 0))) ∧ Hid (Below w.heap.size w wr) := ⟨HV.out.1, HV.out.2⟩
        clear HV
        go_wp2_with fail
        refine (HB.out 3 _ (by omega) HBW.out).mono ?_
        rintro e w2 ⟨rfl, hb2⟩
        have HBW2 : Hid (Below w.heap.size w w2) := HBW.out.trans (hb2.mono HBW.out.size)
        have HQ2 : Hid (w2.heap[w.heap.size]? = some (.cells #[.int .i64 24, .int .i64 0, .string (ky M 1), .string (ky M 2), .string { data := #[] }] 68 (0, 0))) := (hb2.block _ (heap_lt HQ.out)).trans HQ.out
        clear hb2 HQ HBW
        go_wp2_with fail
        refine (HE.out 3 _ (by omega) HBW2.out).mono ?_
        rintro e w3 ⟨rfl, hb3⟩
        have HBW3 : Hid (Below w.heap.size w w3) := HBW2.out.trans (hb3.mono HBW2.out.size)
        have HQ3 : Hid (w3.heap[w.heap.size]? = some (.cells #[.int .i64 24, .int .i64 0, .string (ky M 1), .string (ky M 2), .string { data := #[] }] 68 (0, 0))) := (hb3.block _ (heap_lt HQ2.out)).trans HQ2.out
        clear hb3 HQ2 HBW2
        have x2 : w3.cell? ⟨w.heap.size, 4, none⟩ = some (.string { data := #[] }) := (cell_of_heap HQ3.out).trans rfl
        have y2 : w3.frozen? ⟨w.heap.size, 4, none⟩ = false := frozen_of_heap HQ3.out
        have HQ4 : Hid ((w3.setCell ⟨w.heap.size, 4, none⟩ (.string (ky M 3))).heap[w.heap.size]? = some (.cells #[.int .i64 24, .int .i64 0, .string (ky M 1), .string (ky M 2), .string (ky M 3)] 68 (0, 0))) := heap_setCell_fr w3 w.heap.size 4 _ _ _ (.string (ky M 3)) HQ3.out
        have HBW4 : Hid (Below w.heap.size w (w3.setCell ⟨w.heap.size, 4, none⟩ (.string (ky M 3)))) := HBW3.out.setCell (Nat.le_refl _) _
        go_wp2
        go_roundg (gk - 1)
        case measure => omega
        case rel => exact ⟨3, by omega, by go_num, ⟨HQ4.out, HBW4.out⟩⟩
    · obtain rfl : k = 3 := by omega
      go_wp2
      go_ret2
      exact ⟨w.heap.size, rfl, Nat.le_refl _, ⟨HV.out.1, ky_size M 1, ky_size M 2, ky_size M 3, HT.out.below (HV.out.2)⟩, HV.out.2⟩
end Go.Proofs.YtengclnahppmhaaGreatDoor.Rs
