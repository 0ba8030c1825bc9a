import Derived.Test.YtcochbcaillldaaGreatDoorScE
namespace Go.Proofs.YtcochbcaillldaaGreatDoor.Sc
open Go.RowKit Go.Lib

/-- a line -/
abbrev Ln (lg : Bool) (b : Nat) (l : List UInt8) (w : World) : Prop := Bu 125 [.bool lg] b b l w
theorem okL : OkT 125 3 := ⟨by decide, by kernel_rfl⟩

set_option maxRecDepth 20000 in
set_option maxHeartbeats 1000000 in
theorem lineOf_any (s : ByteArray) (hs : s.size ≤ 140737488355328) (w : World) :
    Calls Tryz.prog 52 #[.string s] w fun e w' => e = .returned (.pointer (some ⟨w.heap.size, 0, none⟩)) ∧ Ln false w.heap.size s.data.toList w' ∧ Below w.heap.size w w' := by
  have hB0 := (Below.refl w.heap.size w).alloc (Nat.le_refl _) (.cells #[.pointer none, .slice none 0 0, .bool false] 125)
  have h0 := bwrite_any okL w.heap.size w.heap.size [] s _ (Bu.new 125 [.bool false] w) (by simp; omega) hB0.size
  go_enter Tryz.func52, Tryz.ntmps52
  go_wp2_with (go_at_call 61; refine h0.mono ?_; rintro e w1 ⟨rfl, ⟨hu1, hb1⟩, _⟩)
  go_wp2
  go_ret
  exact ⟨rfl, hu1, hB0.trans hb1⟩

set_option maxRecDepth 20000 in
set_option maxHeartbeats 1000000 in
theorem word_any (lg : Bool) (b : Nat) (l : List UInt8) (s : ByteArray) (w : World) (h : Ln lg b l w) (hlen : l.length + 1 + s.size ≤ 140737488355328) :
    Calls Tryz.prog 67 #[.pointer (some ⟨b, 0, none⟩), .string s] w fun e w' => e = .returned (.tuple #[]) ∧ (Ln lg b (l ++ 32 :: s.data.toList) w' ∧ Below b w w') ∧ Oth b w w' := by
  obtain ⟨x, hx, hxl⟩ : ∃ x : ByteArray, x = { data := #[32] } ∧ x.data.toList = [32] := ⟨_, rfl, rfl⟩
  have hxs : x.size = 1 := by rw [hx]; rfl
  have h0 := bwrite_any okL b b l x w h (by omega) (Nat.le_of_lt h.lt)
  rw [hxl] at h0
  go_enter Tryz.func67, Tryz.ntmps67
  rw [hx] at h0
  clear hx hxl
  go_wp2_with (go_at_call 61; refine h0.mono ?_)
  rintro e w1 ⟨rfl, ⟨hu1, hb1⟩, ho1⟩
  have h2 := bwrite_any okL b b (l ++ [32]) s w1 hu1 (by simp; omega) (Nat.le_of_lt hu1.lt)
  rw [List.append_assoc] at h2
  go_wp2_with (go_at_call 61; refine h2.mono ?_; rintro e w2 ⟨rfl, ⟨hu2, hb2⟩, ho2⟩)
  go_wp2
  go_end0
  exact ⟨rfl, ⟨hu2, hb1.trans hb2⟩, ho1.trans ho2⟩

set_option maxRecDepth 20000 in
theorem numberWord_any (n : Int) (hn : I64 n) (w : World) (h : ITab w) :
    Calls Tryz.prog 112 #[.int .i64 n] w fun e w' => e = .returned (.string (str (itoa n))) ∧ Below w.heap.size w w' := by
  have h0 := itoa_any n hn w h
  go_enter Tryz.func112, Tryz.ntmps112
  go_wp2_with (go_at_call 87; refine h0.mono ?_; rintro e w1 ⟨rfl, hb1⟩)
  go_ret
  exact ⟨rfl, hb1⟩

def nmL (L : List Int) : List UInt8 := L.flatMap fun n => 32 :: itoa n
theorem nmL_take (L : List Int) (k : Nat) (n : Int) (h : L[k]? = some n) : nmL (L.take (k + 1)) = nmL (L.take k) ++ 32 :: itoa n := by
  have e : L.take (k + 1) = L.take k ++ [n] := by
    rw [List.take_add_one, h]
    rfl
  rw [e]
  simp [nmL]
theorem nmL_len (L : List Int) (h : ∀ n ∈ L, I64 n) : (nmL L).length ≤ 21 * L.length := by
  induction L with
  | nil => simp [nmL]
  | cons a t ih =>
    have h1 := itoa_len a (h a (List.mem_cons_self ..)).1 (h a (List.mem_cons_self ..)).2
    have h2 := ih fun n hn => h n (List.mem_cons_of_mem _ hn)
    simp only [nmL, List.flatMap_cons, List.length_append, List.length_cons] at h2 ⊢
    omega
def intC (L : List Int) : List Value := L.map fun n => .int .i64 n

set_option maxRecDepth 20000 in
set_option maxHeartbeats 1000000 in
theorem numbers_any (lg : Bool) (b k m c : Nat) (L : List Int) (l : List UInt8) (w : World) (h : Ln lg b l w) (ht : ITab w) (hg : 3 < b) (hkb : k ≠ b) (hk : w.heap[k]? = some (.cells (intC L).toArray 3 (0, 0))) (hm : L.length = m) (hL : ∀ n ∈ L, I64 n)
    (hmb : m ≤ 1000) (hlen : l.length ≤ 1099511627776) :
    Calls Tryz.prog 70 #[.pointer (some ⟨b, 0, none⟩), .slice (some ⟨k, 0, none⟩) m c] w fun e w' => e = .returned (.tuple #[]) ∧ (Ln lg b (l ++ nmL L) w' ∧ Below b w w') ∧ Oth b w w' := by
  go_enter Tryz.func70, Tryz.ntmps70
  go_wp2
  go_loopg [8] m (fun gk i wr => ∃ j : Nat, j + gk = m ∧ i = .int .i64 (j : Int) ∧ wr.heap[k]? = some (.cells (intC L).toArray 3 (0, 0)) ∧ Hid (Ln lg b (l ++ nmL (L.take j)) wr ∧ Below b w wr ∧ Oth b w wr ∧ ITab wr))
  case atStart => exact ⟨0, by omega, rfl, hk, by simpa [nmL] using h, Below.refl _ _, Oth.refl _ _, ht⟩
  case round =>
    obtain ⟨j, hj, rfl, hk1, HI⟩ := hrel
    by_cases hlt : j < m
    · have hltI : (j : Int) < (m : Int) := by omega
      obtain ⟨n, hn⟩ : ∃ n, L[j]? = some n := ⟨_, List.getElem?_eq_getElem (by omega)⟩
      have hni := hL n (List.mem_of_getElem? hn)
      have c1 : wr.cell? ⟨k, j, none⟩ = some (.int .i64 n) := by
        rw [Lib.cell_of_heap hk1]
        simp [intC, hn]
      have hll := nmL_len (L.take j) fun n hn => hL n (List.mem_of_mem_take hn)
      rw [List.length_take] at hll
      have hil := itoa_len n hni.1 hni.2
      have hst := nmL_take L j n hn
      have h1 := numberWord_any n hni wr HI.out.2.2.2
      clear hn
      go_wp2_with (go_at_call 112; refine h1.mono ?_; rintro e w1 ⟨rfl, hb1⟩; clear h1)
      have h2 := word_any lg b (l ++ nmL (L.take j)) (str (itoa n)) w1 (HI.out.1.below hb1) (by rw [List.length_append, str_size]; omega)
      rw [str_data, List.append_assoc, ← hst] at h2
      have hk2 := (hb1.block _ (Array.getElem?_eq_some_iff.1 hk1).1).trans hk1
      go_wp2_with (go_at_call 67; refine h2.mono ?_; rintro e w2 ⟨rfl, ⟨hu2, hb2⟩, ho2⟩; clear h2)
      have hk3 := ho2.cells hkb (by decide) hk2
      have hbw := HI.out.2.1.trans ((hb1.mono (Nat.le_of_lt HI.out.1.lt)).trans hb2)
      have HJ : Hid (Ln lg b (l ++ nmL (L.take (j + 1))) w2 ∧ Below b w w2 ∧ Oth b w w2 ∧ ITab w2) :=
        ⟨hu2, hbw, HI.out.2.2.1.trans ((Oth.below hb1).trans ho2), ht.below hbw hg⟩
      clear hu2 hb2 ho2 hk2 hb1 hk1 HI hbw c1
      go_wp2
      go_roundg (gk - 1)
      case measure => omega
      case rel => exact ⟨j + 1, by omega, by go_num, hk3, HJ⟩
    · obtain rfl : j = m := by omega
      have hltI : ¬ (j : Int) < (j : Int) := by omega
      rw [List.take_of_length_le (by omega)] at HI
      go_wp2
      go_end0
      exact ⟨rfl, ⟨HI.out.1, HI.out.2.1⟩, HI.out.2.2.1⟩
end Go.Proofs.YtcochbcaillldaaGreatDoor.Sc
