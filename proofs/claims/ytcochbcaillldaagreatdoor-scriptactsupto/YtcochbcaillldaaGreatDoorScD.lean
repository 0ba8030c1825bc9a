import Derived.Test.YtcochbcaillldaaGreatDoorScA
import Derived.Test.YtcochbcaillldaaGreatDoorScC
import Derived.Lib.OthersKept
import Derived.BigQuiet
namespace Go.Proofs.YtcochbcaillldaaGreatDoor.Sc
open Go.RowKit Go.Lib

/-- the library's table of the powers of ten -/
structure ITab (w : World) : Prop where
  it : ∃ t fr, w.heap[3]? = some (.cells ((Lib.pow10Tab.map fun z => Value.int .u64 z).toArray) t fr)
theorem ITab.below {w w' : World} {B : Nat} (h : ITab w) (hb : Below B w w') (hB : 3 < B) : ITab w' := by
  obtain ⟨t, fr, e⟩ := h.it
  exact ⟨t, fr, (hb.block _ hB).trans e⟩
theorem ITab.lt {w : World} (h : ITab w) : 3 < w.heap.size := by
  obtain ⟨t, fr, e⟩ := h.it
  exact (Array.getElem?_eq_some_iff.1 e).1
theorem ITab.is {w : World} (h : ITab w) : Lib.TabIs Tryz.prog w ((Rows.scriptActsRow.named[0]?).getD default) .u64 Lib.pow10Tab := by
  obtain ⟨t, fr, e⟩ := h.it
  have hg : Tryz.prog.globalNamed ((Rows.scriptActsRow.named[0]?).getD default) = some 3 := by kernel_rfl
  unfold Lib.TabIs World.var?
  rw [hg, Option.bind_some, e]
theorem grow_drew (w : World) (k : Nat) (os : Array Obj) : Below w.heap.size w (Sort.grow (w.drewN k) os) := by
  refine ⟨rfl, rfl, rfl, ?_, fun j hj => ?_⟩
  · show w.heap.size ≤ (w.heap ++ os).size
    simp
  · show (w.heap ++ os)[j]? = w.heap[j]?
    rw [Array.getElem?_append_left hj]
def I64 (n : Int) : Prop := -9223372036854775808 ≤ n ∧ n ≤ 9223372036854775807
/-- strconv.Itoa -/
theorem itoa_any (n : Int) (hn : I64 n) (w : World) (h : ITab w) :
    Calls Tryz.prog 87 #[.int .i64 n] w fun e w' => e = .returned (.string (str (itoa n))) ∧ Below w.heap.size w w' := by
  refine (Any.strconv_Itoa itoaLays n hn.1 hn.2 w h.is).mono ?_
  rintro e w' ⟨rfl, k, os, rfl⟩
  exact ⟨rfl, grow_drew w k os⟩

set_option maxRecDepth 20000 in
theorem stands_any (r : Nat) (w : World) : Calls Tryz.prog 149 #[.int .i32 (r : Int)] w fun e w' => e = .returned (.bool (plN r)) ∧ w' = w := by
  obtain ⟨R, hR⟩ : ∃ R, plN r = R := ⟨_, rfl⟩
  rw [hR]
  have HR : Hid (plN r = R) := hR
  clear hR
  go_enter Tryz.func149, Tryz.ntmps149
  go_wp2
  all_goals
    go_ret
    refine ⟨?_, rfl⟩
    rw [← HR.out]
    refine congrArg (fun b => Ending.returned (.bool b)) (Bool.eq_iff_iff.2 ?_)
    simp [plN]
    omega

/-- a builder of its own -/
theorem okB : OkT 81 2 := ⟨by decide, by kernel_rfl⟩

set_option maxRecDepth 20000 in
set_option maxHeartbeats 1000000 in
theorem writeHex_any {T : TypeId} {rest : List Value} (hT : OkT T (rest.length + 2)) (B b : Nat) (l : List UInt8) (c : UInt8) (w : World) (h : Bu T rest B b l w) (hlen : l.length + 2 ≤ 140737488355328) (hBw : B ≤ w.heap.size) :
    Calls Tryz.prog 114 #[.pointer (some ⟨b, 0, none⟩), .int .u8 (c.toNat : Int)] w fun e w' => e = .returned (.tuple #[]) ∧ (Bu T rest B b (l ++ two c) w' ∧ Below B w w') ∧ Oth b w w' := by
  have hn := c.toNat_lt
  have hx1 := fun w => index_at (P := Tryz.prog) w 9 digs .u8 (c.toNat / 16) (dig (c.toNat / 16)) Tryz.underlying9 (by have := digs_at (c.toNat / 16) (by omega); simpa using this)
  have hx2 := fun w => index_at (P := Tryz.prog) w 9 digs .u8 (c.toNat % 16) (dig (c.toNat % 16)) Tryz.underlying9 (by have := digs_at (c.toNat % 16) (by omega); simpa using this)
  unfold digs at hx1 hx2
  rw [show ((c.toNat / 16 : Nat) : Int) = (c.toNat : Int) / 16 by omega] at hx1
  rw [show ((c.toNat % 16 : Nat) : Int) = (c.toNat : Int) % 16 by omega] at hx2
  have h1 := bbyte_any hT B b l (dig (c.toNat / 16)) w h (by omega) hBw
  have h2 := fun w1 (hb : Below B w w1) h => bbyte_any hT B b (l ++ [dig (c.toNat / 16)]) (dig (c.toNat % 16)) w1 h (by simp; omega) (Nat.le_trans hBw hb.size)
  go_enter Tryz.func114, Tryz.ntmps114
  go_wp2_with (go_at_call 138; refine h1.mono ?_)
  rintro e w1 ⟨rfl, ⟨hu1, hb1⟩, ho1⟩
  have h3 := h2 w1 hb1 hu1
  clear h2 h1
  go_wp2_with (go_at_call 138; refine h3.mono ?_)
  rintro e w2 ⟨rfl, ⟨hu2, hb2⟩, ho2⟩
  go_wp2
  go_end0
  refine ⟨rfl, ⟨?_, hb1.trans hb2⟩, ho1.trans ho2⟩
  rw [List.append_assoc] at hu2
  exact hu2

set_option maxRecDepth 20000 in
set_option maxHeartbeats 1000000 in
theorem writeEscaped_any {T : TypeId} {rest : List Value} (hT : OkT T (rest.length + 2)) (B b : Nat) (l : List UInt8) (s : ByteArray) (w : World) (h : Bu T rest B b l w) (hlen : l.length + 3 * s.size ≤ 140737488355328) (hBw : B ≤ w.heap.size) :
    Calls Tryz.prog 150 #[.pointer (some ⟨b, 0, none⟩), .string s] w fun e w' => e = .returned (.tuple #[]) ∧ (Bu T rest B b (l ++ escL s.data.toList) w' ∧ Below B w w') ∧ Oth b w w' := by
  have hl : s.data.toList.length = s.size := (size_eq s).symm
  obtain ⟨n, hn⟩ : ∃ n, s.size = n := ⟨_, rfl⟩
  rw [hn] at hl hlen
  have HS : Hid (s.size = n) := hn
  go_enter Tryz.func150, Tryz.ntmps150
  go_wp2
  go_loopg [7] n (fun gk i wr => ∃ k : Nat, k + gk = n ∧ i = .int .i64 (k : Int) ∧ Hid (Bu T rest B b (l ++ escL (s.data.toList.take k)) wr ∧ Below B w wr ∧ Oth b w wr))
  case atStart => exact ⟨0, by omega, rfl, by simpa [escL] using h, Below.refl _ _, Oth.refl _ _⟩
  case round =>
    obtain ⟨k, hk, rfl, HI⟩ := hrel
    have hk' : k ≤ n := by omega
    by_cases hlt : k < n
    · have hltI : (k : Int) < (n : Int) := by omega
      obtain ⟨c, hc⟩ : ∃ c, s.data.toList[k]? = some c := ⟨_, List.getElem?_eq_getElem (by omega)⟩
      have hix := fun W => index_at (P := Tryz.prog) W 9 s .i64 k c Tryz.underlying9 hc
      have hll : (l ++ escL (s.data.toList.take k)).length = l.length + 3 * k := by rw [List.length_append, escL_len, List.length_take]; omega
      have h1 := bbyte_any hT B b _ 37 wr HI.out.1 (by omega) (Nat.le_trans hBw HI.out.2.1.size)
      have hst := escL_take s.data.toList k c hc
      clear hc
      go_wp2_with (go_at_call 138; refine h1.mono ?_)
      rintro e w1 ⟨rfl, ⟨hu1, hb1⟩, ho1⟩
      have h2 := writeHex_any hT B b _ c w1 hu1 (by rw [List.length_append, hll]; simp; omega) (Nat.le_trans hBw (HI.out.2.1.trans hb1).size)
      clear h1
      go_wp2_with (go_at_call 114; refine h2.mono ?_)
      rintro e w2 ⟨rfl, ⟨hu2, hb2⟩, ho2⟩
      have HJ : Hid (Bu T rest B b (l ++ escL (s.data.toList.take (k + 1))) w2 ∧ Below B w w2 ∧ Oth b w w2) := by
        refine ⟨?_, (HI.out.2.1.trans hb1).trans hb2, (HI.out.2.2.trans ho1).trans ho2⟩
        rw [hst]
        simpa [two, List.append_assoc] using hu2
      clear hu2 hu1 hb1 hb2 ho1 ho2 HI h2
      go_wp2
      go_roundg (gk - 1)
      case measure => omega
      case rel => exact ⟨k + 1, by omega, by go_num, HJ⟩
    · obtain rfl : k = n := by omega
      have hltI : ¬ (k : Int) < (k : Int) := by omega
      have htk : s.data.toList.take k = s.data.toList := List.take_of_length_le (by omega)
      rw [htk] at HI
      go_wp2
      go_end0
      exact ⟨rfl, ⟨HI.out.1, HI.out.2.1⟩, HI.out.2.2⟩

end Go.Proofs.YtcochbcaillldaaGreatDoor.Sc
