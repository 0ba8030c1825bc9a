import Derived.Test.YtlmopjbfagijeaaGreatDoorYcM
import Derived.Test.YtlmopjbfagijeaaGreatDoorYfM
import Derived.Deep.Cut
import Derived.Test.YtlmopjbfagijeaaGreatDoorYjM
namespace Go.Proofs.YtlmopjbfagijeaaGreatDoor.Sc
open Go.RowKit Go.Lib Go.Deep

def hexL (l : List UInt8) : List UInt8 := l.flatMap two
theorem hexL_len (l : List UInt8) : (hexL l).length = 2 * l.length := by
  induction l with
  | nil => rfl
  | cons a t ih =>
    simp only [hexL, List.flatMap_cons, List.length_append, List.length_cons, two, List.length_nil] at ih ⊢
    omega
theorem hexL_take (l : List UInt8) (k : Nat) (c : UInt8) (h : l[k]? = some c) : hexL (l.take (k + 1)) = hexL (l.take k) ++ two c := by
  rw [take_succ_of l k c h]
  simp [hexL]
set_option maxRecDepth 20000 in
set_option maxHeartbeats 1000000 in
theorem hexWord_any (s : ByteArray) (hs : s.size ≤ 8388608) (w : World) :
    Calls Tryz.prog 72 #[.string s] w fun e w' => e = .returned (.string (str (hexL s.data.toList))) ∧ Below w.heap.size w w' := by
  have hl : s.data.toList.length = s.size := (size_eq s).symm
  obtain ⟨n, hn⟩ : ∃ n, s.size = n := ⟨_, rfl⟩
  rw [hn] at hl hs
  have HS : Hid (s.size = n) := hn
  have hB0 := (Below.refl w.heap.size w).alloc (Nat.le_refl _) (.cells #[.pointer none, .slice none 0 0] 81)
  have HU0 : Hid (Bu 81 [] w.heap.size w.heap.size (hexL (s.data.toList.take 0)) (w.alloc (.cells #[.pointer none, .slice none 0 0] 81)) ∧ Below w.heap.size w (w.alloc (.cells #[.pointer none, .slice none 0 0] 81))) := ⟨Bu.new 81 [] w, hB0⟩
  clear hB0
  go_enter Tryz.func72, Tryz.ntmps72
  go_wp2_with fail
  go_loopg [7] n (fun gk i wr => ∃ k : Nat, k + gk = n ∧ i = .int .i64 (k : Int) ∧ Hid (Bu 81 [] w.heap.size w.heap.size (hexL (s.data.toList.take k)) wr ∧ Below w.heap.size w wr))
  case atStart => exact ⟨0, by omega, rfl, HU0.out⟩
  case round =>
    clear HU0
    obtain ⟨k, hk, rfl, HI⟩ := hrel
    have hk' : k ≤ n := by omega
    by_cases hlt : k < n
    · have hltI : (k : Int) < (n : Int) := by omega
      obtain ⟨c, hc⟩ : ∃ c, s.data.toList[k]? = some c := ⟨_, List.getElem?_eq_getElem (by omega)⟩
      have hix := fun W => index_at (P := Tryz.prog) W 9 s .i64 k c Tryz.underlying9 hc
      have hll : (hexL (s.data.toList.take k)).length = 2 * k := by rw [hexL_len, List.length_take]; omega
      have hst := hexL_take s.data.toList k c hc
      have h2 := writeHex_any okB w.heap.size w.heap.size _ c wr HI.out.1 (by rw [hll]; omega) HI.out.2.size
      rw [← hst] at h2
      clear hc
      go_wp2_with (go_at_call 114; refine h2.mono ?_)
      rintro e w2 ⟨rfl, ⟨hu2, hb2⟩, -⟩
      have HJ : Hid (Bu 81 [] w.heap.size w.heap.size (hexL (s.data.toList.take (k + 1))) w2 ∧ Below w.heap.size w w2) := ⟨hu2, HI.out.2.trans hb2⟩
      clear hu2 hb2 HI h2
      go_wp2
      go_roundg (gk - 1)
      case measure => omega
      case rel => exact ⟨k + 1, by omega, by go_num, HJ⟩
    · obtain rfl : k = n := by omega
      have hltI : ¬ (k : Int) < (k : Int) := by omega
      have htk : s.data.toList.take k = s.data.toList := List.take_of_length_le (by omega)
      rw [htk] at HI
      have hst := bstring_any w.heap.size w.heap.size _ wr HI.out.1
      have hHI := HI.out.2
      go_wp2_with (go_at_call 62; refine hst.mono ?_; rintro e w5 ⟨rfl, hb5⟩; clear hst)
      go_ret
      exact ⟨rfl, hHI.trans hb5⟩
/-- a line's state behind a hex word -/
def stH (x : Bool × List UInt8) (s : ByteArray) : Bool × List UInt8 := if 262144 < s.size then (true, x.2) else (x.1, x.2 ++ 32 :: hexL s.data.toList)
set_option maxRecDepth 20000 in
set_option maxHeartbeats 1000000 in
theorem lhex_any (lg : Bool) (b : Nat) (l : List UInt8) (s : ByteArray) (w : World) (h : Ln lg b l w) (hl : l.length ≤ 1099511627776) :
    Calls Tryz.prog 68 #[.pointer (some ⟨b, 0, none⟩), .string s] w fun e w' => e = .returned (.tuple #[]) ∧ (LnS (stH (lg, l) s) b w' ∧ Below b w w') ∧ Oth b w w' := by
  obtain ⟨p, v, hcl⟩ := ln_cells h
  have c2 : w.cell? ⟨b, 2, none⟩ = some (.bool lg) := by rw [Lib.cell_of_heap hcl]; rfl
  have f2 : w.frozen? ⟨b, 2, none⟩ = false := Lib.frozen_of_heap hcl 2
  have hW : Calls Tryz.prog 108 #[.pointer (some ⟨b, 0, none⟩), .string s, .func (.func 72) #[] #[]] w fun e w' => e = .returned (.tuple #[]) ∧ (LnS (stH (lg, l) s) b w' ∧ Below b w w') ∧ Oth b w w' := by
    by_cases hb : 262144 < s.size
    · have hbI : (262144 : Int) < (s.size : Int) := by omega
      have HL : Hid (Ln true b l (w.setCell ⟨b, 2, none⟩ (.bool true))) := ln_long h
      rw [show stH (lg, l) s = (true, l) from if_pos hb]
      clear h hcl
      go_enter Tryz.func108, Tryz.ntmps108
      go_wp2
      refine bodyPost_ret (results_none rfl _ _ _) rfl ?_
      exact ⟨rfl, ⟨HL.out, (Below.refl b w).setCell (p := ⟨b, 2, none⟩) (Nat.le_refl _) _⟩, fun k o hk _ h0 => (Below.heap_setCell _ _ _ _ hk).trans h0⟩
    · have hbI : ¬ (262144 : Int) < (s.size : Int) := by omega
      rw [show stH (lg, l) s = (lg, l ++ 32 :: hexL s.data.toList) from if_neg hb]
      have h1 := hexWord_any s (by omega) w
      have hyl := hexL_len s.data.toList
      rw [← size_eq] at hyl
      go_enter Tryz.func108, Tryz.ntmps108
      go_wp2_with (go_at_call 72; refine h1.mono ?_; rintro e w1 ⟨rfl, hb1⟩; clear h1)
      have h2 := word_any lg b l (str (hexL s.data.toList)) w1 (h.below hb1) (by rw [str_size]; omega)
      rw [str_data] at h2
      go_wp2_with (go_at_call 67; refine h2.mono ?_; rintro e w2 ⟨rfl, ⟨hu2, hb2⟩, ho2⟩; clear h2)
      go_wp2
      go_end0
      exact ⟨rfl, ⟨hu2, (hb1.mono (Nat.le_of_lt h.lt)).trans hb2⟩, (Oth.below hb1).trans ho2⟩
  clear c2 f2 hcl
  go_enter Tryz.func68, Tryz.ntmps68
  go_wp2_with (go_at_call 108; refine hW.mono ?_; rintro e w1 ⟨rfl, hx, ho⟩; clear hW)
  go_end0
  exact ⟨rfl, hx, ho⟩
end Go.Proofs.YtlmopjbfagijeaaGreatDoor.Sc

namespace Go.Proofs.YtlmopjbfagijeaaGreatDoor.Sc
open Go.RowKit Go.Lib Go.Deep

structure PlR.Ok (q : PlR) : Prop where
  s : I64 q.s
  f : I64 q.f
  d : I64 q.d
  m : I64 q.m
  l : I64 q.l
  p : I64 q.p
  master : q.master.size ≤ 1048576
  tape : q.tape.size ≤ 1048576
theorem hexL_nl (l : List UInt8) : Nl (hexL l) := Nl.flat fun c _ => two_nl c
/-- the second line of a play -/
def sealX (p : PlR) : Bool × List UInt8 := if p.ideal = true then (false, [115, 101, 97, 108] ++ 32 :: [105, 100, 101, 97, 108]) else stH (false, [115, 101, 97, 108] ++ 32 :: [114, 101, 97, 108]) p.master
def sealV (p : PlR) : Value := if (sealX p).1 = true ∨ 262144 < (sealX p).2.length then .tuple #[.string { data := #[] }, .int .i64 221] else .tuple #[.string (str (sealX p).2), .int .i64 0]
set_option maxRecDepth 20000 in
set_option maxHeartbeats 2000000 in
theorem sealLine_any (p : PlR) (hok : p.Ok) (w : World) :
    Calls Tryz.prog 31 #[.agg p.cells] w fun e w' => e = .returned (sealV p) ∧ Below w.heap.size w w' := by
  obtain ⟨W, hW⟩ : ∃ W, w.alloc (.cells p.cells 26) = W := ⟨_, rfl⟩
  have hbW : Below w.heap.size w W := by rw [← hW]; exact (Below.refl _ _).alloc (Nat.le_refl _) _
  have h1 : W.heap[w.heap.size]? = some (.cells p.cells 26 (0, 0)) := by rw [← hW]; exact heap_alloc_new _ _
  have hlo := lineOf_any { data := #[115, 101, 97, 108] } (by decide) W
  have HP : Hid (∀ U, Below W.heap.size W U → PlAt U w.heap.size p) := fun U hU => (plAt_of h1).below hU (heap_lt h1)
  have hms := hok.master
  have HB : Hid (Below w.heap.size w W) := hbW
  obtain ⟨V, hV⟩ : ∃ V, sealV p = V := ⟨_, rfl⟩
  have HV : Hid (sealV p = V) := hV
  rw [hV]
  unfold PlR.cells at hW ⊢
  have HW : Hid (Unit → _ = W) := fun _ => hW
  clear hW hbW h1 hV
  go_enter Tryz.func31, Tryz.ntmps31
  go_wp2_with fail
  rw [HW.out ()]
  clear HW
  refine hlo.mono ?_
  rintro e w1 ⟨rfl, hl1, hb1⟩
  clear hlo
  obtain ⟨c0, c1, c2, c3, c4, c5, c6, c7, c8, c9⟩ := (HP.out w1 hb1).ten
  have hBl : w.heap.size < W.heap.size := by have := HB.out.size; exact block_lt_of_cell ((HP.out W (Below.refl _ _)).ten.1)
  have HB1 : Hid (Below w.heap.size w w1) := HB.out.trans (hb1.mono HB.out.size)
  have HW1 : Hid (Below W.heap.size W w1) := hb1
  cases hid : p.ideal
  · have HV2 : Hid (sealX p = stH (false, [115, 101, 97, 108] ++ 32 :: [114, 101, 97, 108]) p.master) := by
      show _ = _
      unfold sealX
      rw [hid, if_neg (by decide)]
    rw [hid] at c6
    have hwd := word_any false W.heap.size [115, 101, 97, 108] { data := #[114, 101, 97, 108] } w1 hl1 (by decide)
    clear hb1 hl1
    go_wp2_with (go_at_call 67; refine hwd.mono ?_)
    rintro e w2 ⟨rfl, ⟨hu2, hb2⟩, -⟩
    clear hwd c0 c1 c2 c3 c4 c5 c6 c7 c8 c9
    have HW2 : Hid (Below W.heap.size W w2) := HW1.out.trans hb2
    obtain ⟨c0, c1, c2, c3, c4, c5, c6, c7, c8, c9⟩ := (HP.out w2 HW2.out).ten
    have hx := lhex_any false W.heap.size ([115, 101, 97, 108] ++ 32 :: [114, 101, 97, 108]) p.master w2 hu2 (by simp)
    have hlen : (stH (false, [115, 101, 97, 108] ++ 32 :: [114, 101, 97, 108]) p.master).2.length ≤ 1099511627776 := by
      have h2 := hexL_len p.master.data.toList
      rw [← size_eq] at h2
      unfold stH
      split
      · simp
      · simp only [List.length_append, List.length_cons, List.length_nil]; omega
    rw [← HV2.out] at hx hlen
    obtain ⟨y, hy⟩ : ∃ y, sealX p = y := ⟨_, rfl⟩
    rw [hy] at hx hlen
    have HY : Hid (sealX p = y) := hy
    clear hy hu2 hb2
    go_wp2_with (go_at_call 68; refine hx.mono ?_)
    rintro e w3 ⟨rfl, ⟨hu3, hb3⟩, -⟩
    clear hx c0 c1 c2 c3 c4 c5 c6 c7 c8 c9
    have HW3 : Hid (Below w.heap.size w w3) := HB.out.trans ((HW2.out.trans hb3).mono (Nat.le_of_lt hBl))
    have hd := done_any y.1 W.heap.size y.2 w3 hu3 hlen
    clear hu3 hb3
    by_cases hq : y.1 = true ∨ 262144 < y.2.length
    · rw [if_pos hq] at hd
      have HF : Hid (V = .tuple #[.string { data := #[] }, .int .i64 221]) := by
        show _ = _
        rw [← HV.out]
        unfold sealV
        rw [HY.out, if_pos hq]
      clear hq
      go_wp2_with (go_at_call 53; refine hd.mono ?_; rintro e w4 ⟨rfl, hb4⟩; clear hd)
      go_ret2
      exact ⟨by rw [HF.out]; rfl, HW3.out.trans (hb4.mono (Nat.le_of_lt hBl))⟩
    · rw [if_neg hq] at hd
      have HF : Hid (V = .tuple #[.string (str y.2), .int .i64 0]) := by
        show _ = _
        rw [← HV.out]
        unfold sealV
        rw [HY.out, if_neg hq]
      clear hq
      go_wp2_with (go_at_call 53; refine hd.mono ?_; rintro e w4 ⟨rfl, hb4⟩; clear hd)
      go_ret2
      exact ⟨by rw [HF.out]; rfl, HW3.out.trans (hb4.mono (Nat.le_of_lt hBl))⟩
  · have HV2 : Hid (sealX p = (false, [115, 101, 97, 108] ++ 32 :: [105, 100, 101, 97, 108])) := by
      show _ = _
      unfold sealX
      rw [hid, if_pos rfl]
    rw [hid] at c6
    have hwd := word_any false W.heap.size [115, 101, 97, 108] { data := #[105, 100, 101, 97, 108] } w1 hl1 (by decide)
    clear hb1 hl1
    go_wp2_with (go_at_call 67; refine hwd.mono ?_)
    rintro e w2 ⟨rfl, ⟨hu2, hb2⟩, -⟩
    have hd := done_any false W.heap.size ([115, 101, 97, 108] ++ 32 :: [105, 100, 101, 97, 108]) w2 hu2 (by simp)
    rw [if_neg (by simp)] at hd
    have HF : Hid (V = .tuple #[.string (str ([115, 101, 97, 108] ++ 32 :: [105, 100, 101, 97, 108])), .int .i64 0]) := by
      show _ = _
      rw [← HV.out]
      unfold sealV
      rw [HV2.out, if_neg (by simp)]
    clear hwd hu2
    have HW3 : Hid (Below w.heap.size w w2) := HB1.out.trans (hb2.mono (Nat.le_of_lt hBl))
    clear hb2
    go_wp2_with (go_at_call 53; refine hd.mono ?_; rintro e w4 ⟨rfl, hb4⟩; clear hd)
    go_ret2
    exact ⟨by rw [HF.out]; rfl, HW3.out.trans (hb4.mono (Nat.le_of_lt hBl))⟩
end Go.Proofs.YtlmopjbfagijeaaGreatDoor.Sc
