import Derived.Test.YtbjiamaaocjbfaaDoorKrP
import Derived.Test.YtbjiamaaocjbfaaDoorBaseM
import Derived.Test.YtbjiamaaocjbfaaDoorHxM
import Derived.Test.YtbjiamaaocjbfaaDoorRf6S
import Derived.Test.YtbjiamaaocjbfaaDoorKoM
import Derived.Defers
import Derived.Recover
import Derived.Deep.RegionHeldLaw
import Derived.Test.YtbjiamaaocjbfaaDoorShB
import Derived.Laws.Runes
import Derived.Lib.OthersKept
import Derived.WalkMore
import Derived.Shelf.Small.Utf8
import Derived.Laws.RangeString
namespace Go.Proofs.YtbjiamaaocjbfaaDoor.Kp
open Go.RowKit Go.Lib Go.Deep Kr

/-- what is thrown -/
def faultV (c : Int) : Value := .iface 71 (.agg #[.int .i64 c])
/-- a reader at a text: what is left of it -/
def Rd (w : World) (p : Nat) (T rest : List UInt8) : Prop := ∃ pre, T = pre ++ rest ∧ w.heap[p]? = some (.cells #[.string (str T), .int .i64 (pre.length : Int)] 74 (0, 0))
/-- behind a reading: what was read and what is left, or ErrForm thrown -/
def RdPost (p : Nat) (T : List UInt8) (o : Option (Value × List UInt8)) (w : World) (e : Ending) (w' : World) : Prop :=
  Only [p] w w' ∧
  match o with
  | some (v, r) => e = .returned v ∧ Rd w' p T r
  | none => e = .panicked [{ v := faultV 70, recovered := false }]
theorem RdPost.some {p : Nat} {T : List UInt8} {v : Value} {r : List UInt8} {w : World} {e : Ending} {w' : World} (h : Only [p] w w') (he : e = .returned v) (hr : Rd w' p T r) : RdPost p T (some (v, r)) w e w' := ⟨h, he, hr⟩
theorem RdPost.none {p : Nat} {T : List UInt8} {w : World} {e : Ending} {w' : World} (h : Only [p] w w') (he : e = .panicked [{ v := faultV 70, recovered := false }]) : RdPost p T none w e w' := ⟨h, he⟩

set_option maxRecDepth 20000 in
set_option maxHeartbeats 1000000 in
theorem throw_any (c : Int) (w : World) :
    Calls Tryd.prog 47 #[.int .i64 c] w fun e w' => e = .panicked [{ v := faultV c, recovered := false }] ∧ w' = w := by
  go_enter Tryd.func47, Tryd.ntmps47
  go_wp2
  exact ⟨rfl, rfl, rfl⟩

set_option maxRecDepth 20000 in
set_option maxHeartbeats 1000000 in
theorem lite_prefix (s p : ByteArray) (w : World) :
    Calls Tryd.prog 78 #[.string s, .string p] w fun e w' => e = .returned (.bool (p.data.toList.isPrefixOf s.data.toList)) ∧ w' = w := by
  go_enter Tryd.func78, Tryd.ntmps78
  go_wp2
  · rename_i h
    go_ret
    refine ⟨?_, rfl⟩
    show Ending.returned (Value.bool ((s.extract 0 p.size).toList == p.toList)) = _
    have e := Lib.hasPrefix_raw s p
    rw [decide_eq_true h, Bool.true_and] at e
    rw [e]
    rfl
  · rename_i h
    go_ret
    refine ⟨?_, rfl⟩
    show Ending.returned (Value.bool false) = _
    have e := Lib.hasPrefix_raw s p
    rw [decide_eq_false h, Bool.false_and] at e
    rw [e]
    rfl

set_option maxRecDepth 20000 in
set_option maxHeartbeats 1000000 in
theorem prefix_any (s p : ByteArray) (w : World) :
    Calls Tryd.prog 59 #[.string s, .string p] w fun e w' => e = .returned (.bool (p.data.toList.isPrefixOf s.data.toList)) ∧ w' = w := by
  have h := lite_prefix s p w
  generalize p.data.toList.isPrefixOf s.data.toList = y at h ⊢
  go_enter Tryd.func59, Tryd.ntmps59
  go_wp2_with fail
  refine h.mono ?_
  rintro e w' ⟨rfl, rfl⟩
  go_wp2
  go_ret
  exact ⟨rfl, rfl⟩

set_option maxRecDepth 20000 in
set_option maxHeartbeats 1000000 in
theorem fixed_any (want : ByteArray) (p : Nat) (T rest : List UInt8) (w : World) (hR : Rd w p T rest) (hT : T.length ≤ 4194304) :
    Calls Tryd.prog 39 #[.pointer (some ⟨p, 0, none⟩), .string want] w (RdPost p T ((fixR want.data.toList rest).map fun r => (.tuple #[], r)) w) := by
  obtain ⟨pre, hpre, hh⟩ := hR
  have x0 : w.cell? ⟨p, 0, none⟩ = some (.string (str T)) := by rw [cell_of_heap hh]; rfl
  have x1 : w.cell? ⟨p, 1, none⟩ = some (.int .i64 (pre.length : Int)) := by rw [cell_of_heap hh]; rfl
  have hl : pre.length + rest.length = T.length := by rw [hpre, List.length_append]
  have hsl := fun W => Ae.slice_drop (P := Tryd.prog) W 9 Tryd.underlying9 T pre.length (by omega)
  rw [show T.drop pre.length = rest by rw [hpre, List.drop_left]] at hsl
  have hpx := fun W => prefix_any (str rest) want W
  rw [str_data] at hpx
  have f1 : w.frozen? ⟨p, 1, none⟩ = false := frozen_of_heap hh
  have HO : Hid (Only [p] w w.drew) := ⟨rfl, rfl, rfl, Nat.le_refl _, fun _ _ _ => rfl⟩
  have KW : Hid (∀ n, (w.drewN n).cell? ⟨p, 0, none⟩ = some (.string (str T)) ∧ (w.drewN n).cell? ⟨p, 1, none⟩ = some (.int .i64 (pre.length : Int))) := fun n => ⟨x0, x1⟩
  cases hb : want.data.toList.isPrefixOf rest with
  | false =>
    have e : fixR want.data.toList rest = none := by unfold fixR; rw [hb, if_neg (by decide)]
    rw [e]
    rw [hb] at hpx
    clear e hb hh hpre
    revert x0 hsl hpx KW
    generalize str T = tS
    generalize str rest = rS
    intro x0 hsl hpx KW
    go_enter Tryd.func39, Tryd.ntmps39
    go_wp2_with fail
    go_region_held_law (fun W => W.cell? ⟨p, 0, none⟩ = some (.string tS) ∧ W.cell? ⟨p, 1, none⟩ = some (.int .i64 (pre.length : Int))) (first | exact KW.out _ | go_keep) (first | (go_at_call 59; refine (hpx _).mono ?_; rintro e w5 ⟨rfl, rfl⟩))
    all_goals
      go_wp2_with fail
      refine (throw_any 70 _).mono ?_
      rintro e w' ⟨rfl, rfl⟩
      exact ⟨rfl, RdPost.none HO.out rfl⟩
  | true =>
    obtain ⟨r, hr⟩ := List.isPrefixOf_iff_prefix.1 hb
    have e : fixR want.data.toList rest = some r := (fix_iff _ _ _).2 hr.symm
    rw [e]
    rw [hb] at hpx
    have hlr : want.size + r.length = rest.length := by rw [← hr, List.length_append]; simp
    have HE : Hid (Only [p] w (w.drew.setCell ⟨p, 1, none⟩ (.int .i64 ((pre.length : Int) + (want.size : Int)))) ∧ Rd (w.drew.setCell ⟨p, 1, none⟩ (.int .i64 ((pre.length : Int) + (want.size : Int)))) p T r) := by
      refine ⟨HO.out.setCell (by simp) _, pre ++ want.data.toList, by rw [hpre, ← hr, List.append_assoc], ?_⟩
      have e := heap_setCell_same w.drew p 1 _ _ (.int .i64 ((pre.length : Int) + (want.size : Int))) hh
      rw [show ((pre ++ want.data.toList).length : Int) = (pre.length : Int) + (want.size : Int) by rw [List.length_append]; simp]
      exact e
    clear e hb hh hpre hr
    revert x0 hsl hpx KW
    generalize str T = tS
    generalize str rest = rS
    intro x0 hsl hpx KW
    go_enter Tryd.func39, Tryd.ntmps39
    go_wp2_with fail
    go_region_held_law (fun W => W.cell? ⟨p, 0, none⟩ = some (.string tS) ∧ W.cell? ⟨p, 1, none⟩ = some (.int .i64 (pre.length : Int))) (first | exact KW.out _ | go_keep) (first | (go_at_call 59; refine (hpx _).mono ?_; rintro e w5 ⟨rfl, rfl⟩))
    all_goals
      go_wp2
      go_end0
      exact RdPost.some HE.out.1 rfl HE.out.2

end Go.Proofs.YtbjiamaaocjbfaaDoor.Kp

namespace Go.Proofs.YtbjiamaaocjbfaaDoor.Kp
open Go.RowKit Go.Lib Go.Deep Go.Shelf Kr

theorem runeByte_any (s : ByteArray) (c : Int) (w : World) :
    Calls Tryd.prog 103 #[.string s, .int .u8 c] w fun e w' => e = .returned (.int .i64 (Lib.indexByte s.data.toList c.toNat.toUInt8)) ∧ w' = w := Any.strings_IndexByte { anyLays with } s c w
theorem runeValid_any (r : Int) (w : World) :
    Calls Tryd.prog 104 #[.int .i32 r] w fun e w' => e = .returned (.bool (Lib.validRune r)) ∧ w' = w := Any.utf8_ValidRune { anyLays with } r w

set_option maxRecDepth 20000 in
set_option maxHeartbeats 2000000 in
/-- a rune that is no ASCII, asked of a text that is ASCII: RuneError, or another -/
theorem runeError_none (K : ByteArray) (hK : ∀ (j : Nat) b, K.data.toList[j]? = some b → b.toNat < 128) (_hKs : K.size ≤ 1024) (w : World) :
    Calls Tryd.prog 94 #[.string K, .int .i32 65533] w fun e w' => e = .returned (.int .i64 (-1)) ∧ Below w.heap.size w w' := by
  have HA : Hid (∀ (j : Nat) b, K.data.toList[j]? = some b → b.toNat < 128) := hK
  clear hK
  go_enter Tryd.func94, Tryd.ntmps94
  go_wp2_with fail
  go_loopg [5, 6] K.size (fun g _ _ wx => ∃ i : Nat, i + g = K.size ∧ wx = w.iter K i)
  case atStart => exact ⟨0, by omega, rfl⟩
  case round =>
    obtain ⟨i, hig, rfl⟩ := hrel
    cases gk with
    | zero =>
      obtain rfl : i = K.size := by omega
      have hnx := run_next_end (P := Tryd.prog) w K K.size
      go_wp2
      go_ret
      exact ⟨rfl, (Below.refl _ _).alloc (Nat.le_refl _) _⟩
    | succ g =>
      have hi : i < K.size := by omega
      obtain ⟨x, hx⟩ : ∃ x : UInt8, K[i]'hi = x := ⟨_, rfl⟩
      have hxl : K.data.toList[i]? = some x := by rw [← hx]; exact Lib.data_getElem? K i hi
      have hx128 : x.toNat < 128 := HA.out i x hxl
      have hnx := fun ty => run_next_ascii (P := Tryd.prog) w K i ty hi (by rw [hx]; exact hx128)
      rw [hx] at hnx
      have hne : ((x.toNat : Int) == 65533) = false := beq_eq_false_iff_ne.2 (by omega)
      clear hxl hx
      go_wp2
      go_roundg g
      case measure => omega
      case rel => exact ⟨i + 1, by omega, rfl⟩

set_option maxRecDepth 20000 in
set_option maxHeartbeats 2000000 in
theorem runeHigh_none (K : ByteArray) (hK : ∀ b ∈ K.data.toList, b.toNat < 128) (hKs : K.size = 2) (r : Int) (h1 : 128 ≤ r) (h2 : r ≤ 1114111) (h3 : r < 55296 ∨ 57344 ≤ r) (h4 : r ≠ 65533) (w : World) :
    Calls Tryd.prog 94 #[.string K, .int .i32 r] w fun e w' => e = .returned (.int .i64 (-1)) ∧ Below w.heap.size w w' := by
  have hv : Go.validRune r = true := by unfold Go.validRune; exact decide_eq_true (by omega)
  have hv2 : Lib.validRune r = true := by unfold Lib.validRune; simp; omega
  obtain ⟨e1, e2, e3⟩ := encode_facts r (by rw [validRune_eq]; exact hv) h1
  have hval := fun W => runeValid_any r W
  rw [hv2] at hval
  generalize hE : Utf8.encode r = E at e1 e2 e3
  have n1 : ¬ r < 128 := by omega
  have n2 : (r == 65533) = false := beq_eq_false_iff_ne.2 h4
  obtain ⟨k1, hk1⟩ : ∃ c, K.data.toList[1]? = some c := ⟨_, List.getElem?_eq_getElem (by simp; omega)⟩
  have hik := fun w => index_at' (P := Tryd.prog) w 9 K .i64 1 1 k1 Tryd.underlying9 (by omega) hk1
  have hk128 : k1.toNat < 128 := hK k1 (List.mem_of_getElem? hk1)
  obtain ⟨l, hl⟩ : ∃ l, E.size = l + 1 := ⟨E.size - 1, by omega⟩
  obtain ⟨x, hx⟩ : ∃ c, E.data.toList[l]? = some c := ⟨_, List.getElem?_eq_getElem (by simp; omega)⟩
  have hx128 : 128 ≤ x.toNat := by
    have e := e3 (by omega)
    have e' : E[E.size - 1]'(by omega) = x := by
      have := (List.getElem?_eq_some_iff.1 hx).2
      simp only [hl, Nat.add_sub_cancel]
      rw [← this]
      rfl
    rw [e'] at e
    exact e
  have hix := fun w => index_at' (P := Tryd.prog) w 9 E .i64 (l : Int) l x Tryd.underlying9 (by omega) hx
  have hxk : ((k1.toNat : Int) != (x.toNat : Int)) = true := by simp; omega
  have hlE : ((E.size : Nat) : Int) = (l : Int) + 1 := by omega
  clear hK hk1 hx e3 h4
  have HE : Hid (Utf8.encode r = E) := hE
  have hw : wrap64 ((E.size : Int) - 1) = (l : Int) := by rw [hlE]; unfold wrap64; omega
  have hl1 : 1 ≤ l := by omega
  clear hE hl hlE
  by_cases h2 : 2 ≤ l
  · have hn : ¬ ((l : Int) < (K.size : Int)) := by omega
    go_enter Tryd.func94, Tryd.ntmps94
    go_wp2_with (first | (go_at_call 104; refine (hval _).mono ?_; rintro e w' ⟨rfl, rfl⟩))
    go_step3
    go_wp2
    rw [HE.out, hw]
    go_loopg [9, 10] 1 (fun g i f wx => g = 1 ∧ i = .int .i64 (l : Int) ∧ wx = w')
    case atStart => exact ⟨rfl, rfl, rfl⟩
    case round =>
      obtain ⟨rfl, rfl, rfl⟩ := hrel
      go_wp2
      simp only [Exit.noGoto_ret, Exit.inBlock]
      go_ret
      exact ⟨rfl, Below.refl _ _⟩
  · obtain rfl : l = 1 := by omega
    rw [show ((1 : Nat) : Int) = 1 from rfl] at hix hw
    have hn : (1 : Int) < (K.size : Int) := by omega
    have hby : ∀ W : World, Calls Tryd.prog 103 #[.string ByteArray.empty, .int .u8 (x.toNat : Int)] W fun e w' => e = .returned (.int .i64 (-1)) ∧ w' = W := fun W => runeByte_any ByteArray.empty (x.toNat : Int) W
    go_enter Tryd.func94, Tryd.ntmps94
    go_wp2_with (first | (go_at_call 104; refine (hval _).mono ?_; rintro e w' ⟨rfl, rfl⟩))
    go_step3
    go_wp2
    rw [HE.out, hw]
    go_loopg [9, 10] 1 (fun g i f wx => g = 1 ∧ i = .int .i64 1 ∧ wx = w')
    case atStart => exact ⟨rfl, rfl, rfl⟩
    case round =>
      obtain ⟨rfl, rfl, rfl⟩ := hrel
      go_wp2
      go_step3
      go_wp2_with fail
      go_quiet (fail)
      go_wp2_with fail
      go_region_held_law (fun _ => True) (trivial) (first | (go_at_call 103; refine (hby _).mono ?_; rintro e w5 ⟨rfl, rfl⟩))
      all_goals
        go_wp2
        simp only [Exit.noGoto_ret, Exit.inBlock, Exit.then]
        go_ret
        exact ⟨rfl, ⟨rfl, rfl, rfl, Nat.le_refl _, fun _ _ => rfl⟩⟩

theorem rune_low (K : ByteArray) (r : Int) (h0 : 0 ≤ r) (h1 : r < 128) (w : World) :
    Calls Tryd.prog 94 #[.string K, .int .i32 r] w fun e w' => e = .returned (.int .i64 (Lib.indexByte K.data.toList r.toNat.toUInt8)) ∧ w' = w := Any.strings_IndexRune_ascii { anyLays with } K r w h0 h1
theorem use_any (n : Int) (w : World) :
    Calls Tryd.prog 95 #[.int .i64 n] w fun e w' => e = .returned (.bool (decide (8 < n))) ∧ w' = w := Any.strings_shouldUseASCIISet { anyLays with } n w

/-- the two bytes that end a word, as they are written in the program -/
def kStops : ByteArray := { data := #[32, 10] }
theorem kStops_contains (x : UInt8) : kStops.data.toList.contains x = stopB x := by
  unfold stopB kStops
  simp
  rfl
theorem indexAny_eq (l : List UInt8) : Lib.indexAny l kStops.data.toList = anyI l := by
  cases e : wordR l with
  | none =>
    have hw := word_none e
    rw [indexAny_none (fun j b _ hb => by rw [kStops_contains]; exact hw b (List.mem_of_getElem? hb))]
    unfold anyI
    rw [e]
  | some x =>
    obtain ⟨wd, r⟩ := x
    obtain ⟨rfl, h1, c, r', rfl, hc⟩ := (word_iff _ _ _).1 e
    rw [indexAny_hit (i := wd.length) (x := c) (fun j b hj hb => by
      rw [List.getElem?_append_left hj] at hb
      rw [kStops_contains]
      exact h1 b (List.mem_of_getElem? hb)) (by simp) (by rw [kStops_contains]; exact hc)]
    unfold anyI
    rw [e]
theorem kStops_ascii : ∀ (j : Nat) b, kStops.data.toList[j]? = some b → b.toNat < 128 := fun j b h => by
  have hm : b ∈ ([32, 10] : List UInt8) := List.mem_of_getElem? h
  simp at hm
  rcases hm with rfl | rfl <;> decide
theorem info256 : (Tryd.prog.info? 132).map (fun i => (i.zero, i.size)) = some (some (.agg (Array.replicate 256 (.bool false))), 256) := by kernel_rfl

theorem anyLong (s : ByteArray) (w : World) (h8 : 8 < s.size) (hs : s.size ≤ 4194304) :
    Calls Tryd.prog 80 #[.string s, .string kStops] w fun e w' => e = .returned (.int .i64 (anyI s.data.toList)) ∧ Below w.heap.size w w' := by
  rw [← indexAny_eq]
  refine (Any.strings_IndexAny_long anyLays (zero_of_info info256).1 (zero_of_info info256).2 s kStops w (by decide) h8 (by omega) (by decide) kStops_ascii).mono ?_
  · rintro e w' ⟨rfl, rfl⟩
    exact ⟨rfl, ((Below.refl _ _).alloc (Nat.le_refl _) _).alloc (by simp) _⟩

theorem rune_stop (x : UInt8) (hx : x.toNat < 128) (w : World) :
    Calls Tryd.prog 94 #[.string kStops, .int .i32 (x.toNat : Int)] w fun e w' => ∃ z : Int, e = .returned (.int .i64 z) ∧ decide (0 ≤ z) = stopB x ∧ Below w.heap.size w w' := by
  refine (rune_low kStops (x.toNat : Int) (by omega) (by omega) w).mono ?_
  rintro e w' ⟨rfl, rfl⟩
  refine ⟨_, rfl, ?_, Below.refl _ _⟩
  rw [show ((x.toNat : Int)).toNat.toUInt8 = x by simp, ← Lib.contains_iff_indexByte, kStops_contains]
theorem rune_high (r : Int) (h1 : 128 ≤ r) (h2 : r ≤ 1114111) (h3 : r < 55296 ∨ 57344 ≤ r) (w : World) :
    Calls Tryd.prog 94 #[.string kStops, .int .i32 r] w fun e w' => ∃ z : Int, e = .returned (.int .i64 z) ∧ decide (0 ≤ z) = false ∧ Below w.heap.size w w' := by
  by_cases e : r = 65533
  · subst e
    refine (runeError_none kStops kStops_ascii (by decide) w).mono ?_
    rintro e w' ⟨rfl, hb⟩
    exact ⟨_, rfl, rfl, hb⟩
  · refine (runeHigh_none kStops (fun b hb => by
      obtain ⟨j, hj⟩ := List.mem_iff_getElem?.1 hb
      exact kStops_ascii j b hj) rfl r h1 h2 h3 e w).mono ?_
    rintro e w' ⟨rfl, hb⟩
    exact ⟨_, rfl, rfl, hb⟩

theorem iter_next {w wr : World} {s : ByteArray} {i : Nat} (j : Nat) (hit : wr.heap[w.heap.size]? = some (.stringIter s i)) (hb : Below w.heap.size w wr) :
    (wr.iterAt w.heap.size s j).heap[w.heap.size]? = some (.stringIter s j) ∧ Below w.heap.size w (wr.iterAt w.heap.size s j) :=
  ⟨iterAt_heap _ _ _ _ _ hit, hb.trans ⟨rfl, rfl, rfl, by rw [iterAt_size]; exact Nat.le_refl _, fun k hk => iterAt_other _ _ _ _ _ (by omega)⟩⟩
theorem iter_call {w w1 w2 : World} {s : ByteArray} {j : Nat} (hit : w1.heap[w.heap.size]? = some (.stringIter s j)) (hb : Below w.heap.size w w1) (hb2 : Below w1.heap.size w1 w2) :
    w2.heap[w.heap.size]? = some (.stringIter s j) ∧ Below w.heap.size w w2 :=
  ⟨(hb2.block _ (Array.getElem?_eq_some_iff.1 hit).1).trans hit, hb.trans (hb2.mono hb.size)⟩

set_option maxRecDepth 20000 in
set_option maxHeartbeats 2000000 in
theorem anyShort (s : ByteArray) (w : World) (h8 : s.size ≤ 8) :
    Calls Tryd.prog 80 #[.string s, .string kStops] w fun e w' => e = .returned (.int .i64 (anyI s.data.toList)) ∧ Below w.heap.size w w' := by
  have hemp : kStops.toList.isEmpty = false := by rw [Lib.toList_data]; rfl
  have hn1 : kStops.size = 2 := rfl
  have hrs := rune_stop
  have hrh := rune_high
  have h8z : decide ((8 : Int) < (s.size : Int)) = false := decide_eq_false (by omega)
  have hns := fun i => @NoStop.succ s.data.toList i
  have hsk := decode_skip s
  have HF1 : Hid (NoStop s.data.toList s.data.toList.length → anyI s.data.toList = -1) := any_none
  have HF2 : Hid (∀ i x, NoStop s.data.toList i → s.data.toList[i]? = some x → stopB x = true → anyI s.data.toList = i) := fun i x => any_hit
  have HRS : Hid _ := hrs
  have HRH : Hid _ := hrh
  have HSK : Hid _ := hsk
  clear hrs hrh hsk hns
  revert hemp hn1 HRS HRH
  generalize kStops = K
  intro hemp hn1 HRS HRH
  obtain ⟨ya, hya⟩ : ∃ z, anyI s.data.toList = z := ⟨_, rfl⟩
  rw [hya]
  rw [hya] at HF1 HF2
  go_enter Tryd.func80, Tryd.ntmps80
  go_wp2_with (go_at_call 95; refine (use_any _ _).mono ?_; rintro e w' ⟨rfl, rfl⟩; rw [h8z])
  go_loopg [9, 10] s.size (fun g _ _ wx => ∃ i : Nat, i + g = s.size ∧ wx.heap[w'.heap.size]? = some (.stringIter s i) ∧ Below w'.heap.size w' wx ∧ NoStop s.data.toList i)
  case atStart => exact ⟨0, by omega, World.iter_heap _ _ _, (Below.refl _ _).alloc (Nat.le_refl _) _, NoStop.zero _⟩
  case round =>
    obtain ⟨i, hig, hit, hbel, hno⟩ := hrel
    have HN : Hid (NoStop s.data.toList i) := hno
    clear hno
    cases gk with
    | zero =>
      obtain rfl : i = s.size := by omega
      have hnx := fun ty => run_next_end_at (P := Tryd.prog) wr w'.heap.size s s.size ty hit (by omega)
      clear hit
      go_wp2
      go_ret
      exact ⟨by rw [← HF1.out (by rw [← Lib.size_eq]; exact HN.out)]; rfl, hbel⟩
    | succ g =>
      have hi : i < s.size := by omega
      obtain ⟨x, hx⟩ : ∃ x : UInt8, s[i]'hi = x := ⟨_, rfl⟩
      have hxl : s.data.toList[i]? = some x := by rw [← hx]; exact Lib.data_getElem? s i hi
      have Hx : Hid (s.data.toList[i]? = some x) := hxl
      by_cases hx128 : x.toNat < 128
      · have hnx := fun ty => run_next_ascii_at (P := Tryd.prog) wr w'.heap.size s i ty hit hi (by rw [hx]; exact hx128)
        rw [hx] at hnx
        have hI := iter_next (i + 1) hit hbel
        revert hnx hI
        generalize wr.iterAt w'.heap.size s (i + 1) = W1
        intro hnx hI
        have HI : Hid _ := hI
        clear hI hxl hx hit hbel
        cases hs : stopB x
        · go_wp2_with (go_at_call 94; refine (HRS.out x hx128 _).mono ?_; rintro e w2 ⟨z, rfl, hz, hb2⟩; rw [hs] at hz; have hz' : ¬ (0 : Int) ≤ z := of_decide_eq_false hz)
          have HR := iter_call HI.out.1 HI.out.2 hb2
          go_roundg g
          case measure => omega
          case rel => exact ⟨i + 1, by omega, HR.1, HR.2, HN.out.succ Hx.out hs⟩
        · go_wp2_with (go_at_call 94; refine (HRS.out x hx128 _).mono ?_; rintro e w2 ⟨z, rfl, hz, hb2⟩; rw [hs] at hz; have hz' : (0 : Int) ≤ z := of_decide_eq_true hz)
          have HR := iter_call HI.out.1 HI.out.2 hb2
          go_ret
          exact ⟨by rw [← HF2.out i x HN.out Hx.out hs]; rfl, HR.2⟩
      · have hnx := fun ty => run_next_any_at (P := Tryd.prog) wr w'.heap.size s i ty hit hi
        obtain ⟨k1, k2, k3, k4, k5, k6⟩ := HSK.out i x hxl (by omega)
        have hI := iter_next (i + (Utf8.decode s i).2) hit hbel
        have HK : Hid (NoStop s.data.toList (i + (Utf8.decode s i).2)) := HN.out.skip k6
        clear k6
        revert hnx hI
        generalize wr.iterAt w'.heap.size s (i + (Utf8.decode s i).2) = W1
        intro hnx hI
        revert hnx k1 k2 k3 k4 k5 HK hI
        generalize (Utf8.decode s i).2 = d2
        generalize (Utf8.decode s i).1 = d1
        intro k1 k2 k3 k4 k5 HK hnx hI
        have HI : Hid _ := hI
        clear hI hxl hx hit hbel
        have hr := fun W => HRH.out (d1 : Int) (by omega) (by omega) (by omega) W
        have Hm : Hid (∃ g', i + d2 + g' = s.size ∧ g' < g + 1) := ⟨s.size - (i + d2), by omega, by omega⟩
        clear k3
        go_wp2_with (go_at_call 94; refine (hr _).mono ?_; rintro e w2 ⟨z, rfl, hz, hb2⟩; have hz' : ¬ (0 : Int) ≤ z := of_decide_eq_false hz)
        have HR := iter_call HI.out.1 HI.out.2 hb2
        obtain ⟨g', hg1, hg2⟩ := Hm.out
        go_roundg g'
        case measure => omega
        case rel => exact ⟨i + d2, by omega, HR.1, HR.2, HK.out⟩

theorem indexAny_any (s : ByteArray) (w : World) (hs : s.size ≤ 4194304) :
    Calls Tryd.prog 80 #[.string s, .string kStops] w fun e w' => e = .returned (.int .i64 (anyI s.data.toList)) ∧ Below w.heap.size w w' := by
  by_cases h8 : s.size ≤ 8
  · exact anyShort s w h8
  · exact anyLong s w (by omega) hs

end Go.Proofs.YtbjiamaaocjbfaaDoor.Kp

namespace Go.Proofs.YtbjiamaaocjbfaaDoor.Kp
open Go.RowKit Go.Lib Go.Deep Kr

theorem any_word {rest : List UInt8} : (wordR rest = none → anyI rest = -1) ∧ (∀ wd r, wordR rest = some (wd, r) → anyI rest = (wd.length : Int)) :=
  ⟨fun h => by unfold anyI; rw [h], fun wd r h => by unfold anyI; rw [h]⟩
theorem only_below {S : List Nat} {a b c : World} (h : Only S a b) (hb : Below b.heap.size b c) : Only S a c :=
  h.trans ⟨hb.os, hb.tape, hb.output, hb.size, fun k hk _ => hb.block k hk⟩
theorem only_drew (S : List Nat) (w : World) : Only S w w.drew := ⟨rfl, rfl, rfl, Nat.le_refl _, fun _ _ _ => rfl⟩

set_option maxRecDepth 20000 in
set_option maxHeartbeats 1000000 in
theorem word_any (p : Nat) (T rest : List UInt8) (w : World) (hR : Rd w p T rest) (hT : T.length ≤ 4194304) :
    Calls Tryd.prog 61 #[.pointer (some ⟨p, 0, none⟩)] w (RdPost p T ((wordR rest).map fun x => (.string (str x.1), x.2)) w) := by
  obtain ⟨pre, hpre, hh⟩ := hR
  have hp : p < w.heap.size := (Array.getElem?_eq_some_iff.1 hh).1
  have x0 : w.cell? ⟨p, 0, none⟩ = some (.string (str T)) := by rw [cell_of_heap hh]; rfl
  have x1 : w.cell? ⟨p, 1, none⟩ = some (.int .i64 (pre.length : Int)) := by rw [cell_of_heap hh]; rfl
  have hl : pre.length + rest.length = T.length := by rw [hpre, List.length_append]
  have hsl := fun W => Ae.slice_drop (P := Tryd.prog) W 9 Tryd.underlying9 T pre.length (by omega)
  rw [show T.drop pre.length = rest by rw [hpre, List.drop_left]] at hsl
  have hia : ∀ W, Calls Tryd.prog 80 #[.string (str rest), .string { data := #[32, 10] }] W fun e w' => e = .returned (.int .i64 (anyI rest)) ∧ Below W.heap.size W w' := fun W => by
    have := indexAny_any (str rest) W (by rw [str_size]; omega)
    rw [str_data] at this
    exact this
  have KW : Hid (∀ n, (w.drewN n).cell? ⟨p, 0, none⟩ = some (.string (str T)) ∧ (w.drewN n).cell? ⟨p, 1, none⟩ = some (.int .i64 (pre.length : Int))) := fun n => ⟨x0, x1⟩
  have HO : Hid (∀ w1, Below w.drew.heap.size w.drew w1 → Only [p] w w1 ∧ w1.heap[p]? = some (.cells #[.string (str T), .int .i64 (pre.length : Int)] 74 (0, 0))) := fun w1 hb => ⟨only_below (only_drew [p] w) hb, (hb.block p hp).trans hh⟩
  cases hw : wordR rest with
  | none =>
    rw [any_word.1 hw] at hia
    clear hpre hh hw
    revert x0 hsl hia KW HO
    generalize str T = tS
    generalize str rest = rS
    intro x0 hsl hia KW HO
    go_enter Tryd.func61, Tryd.ntmps61
    go_wp2_with fail
    go_region_held_law (fun W => W.cell? ⟨p, 0, none⟩ = some (.string tS) ∧ W.cell? ⟨p, 1, none⟩ = some (.int .i64 (pre.length : Int))) (first | exact KW.out _ | go_keep) (first | fail)
    all_goals
      go_wp2_with fail
      refine (hia _).mono ?_
      rintro e w1 ⟨rfl, hb1⟩
      have H1 := HO.out w1 hb1
      go_wp2_with fail
      refine (throw_any 70 _).mono ?_
      rintro e w' ⟨rfl, rfl⟩
      exact ⟨rfl, RdPost.none H1.1 rfl⟩
  | some x =>
    obtain ⟨wd, r⟩ := x
    obtain ⟨hr, _, _⟩ := (word_iff _ _ _).1 hw
    rw [any_word.2 wd r hw] at hia
    have hlr : wd.length + r.length = rest.length := by rw [hr, List.length_append]
    have hst := fun W => Ae.slice_take (P := Tryd.prog) W 9 Tryd.underlying9 rest wd.length (by omega)
    rw [show rest.take wd.length = wd by rw [hr, List.take_left]] at hst
    have HE : Hid (∀ w1, Only [p] w w1 → w1.heap[p]? = some (.cells #[.string (str T), .int .i64 (pre.length : Int)] 74 (0, 0)) → w1.frozen? ⟨p, 1, none⟩ = false ∧ w1.cell? ⟨p, 1, none⟩ = some (.int .i64 (pre.length : Int)) ∧ Only [p] w (w1.setCell ⟨p, 1, none⟩ (.int .i64 ((pre.length : Int) + (wd.length : Int)))) ∧ Rd (w1.setCell ⟨p, 1, none⟩ (.int .i64 ((pre.length : Int) + (wd.length : Int)))) p T r) := fun w1 ho h1 => by
      refine ⟨frozen_of_heap h1, by rw [cell_of_heap h1]; rfl, ho.setCell (by simp) _, pre ++ wd, by rw [hpre, hr, List.append_assoc], ?_⟩
      have e := heap_setCell_same w1 p 1 _ _ (.int .i64 ((pre.length : Int) + (wd.length : Int))) h1
      rw [show ((pre ++ wd).length : Int) = (pre.length : Int) + (wd.length : Int) by rw [List.length_append]; simp]
      exact e
    clear hpre hh hw hr
    have n0 : ¬ (wd.length : Int) < 0 := by omega
    show Calls _ _ _ _ (RdPost p T (some (.string (str wd), r)) w)
    revert x0 hsl hia KW HO hst HE
    generalize str T = tS
    generalize str rest = rS
    generalize str wd = wS
    intro x0 hsl KW HO hia hst HE
    go_enter Tryd.func61, Tryd.ntmps61
    go_wp2_with fail
    go_region_held_law (fun W => W.cell? ⟨p, 0, none⟩ = some (.string tS) ∧ W.cell? ⟨p, 1, none⟩ = some (.int .i64 (pre.length : Int))) (first | exact KW.out _ | go_keep) (first | fail)
    all_goals
      go_wp2_with fail
      refine (hia _).mono ?_
      rintro e w1 ⟨rfl, hb1⟩
      have H1 := HO.out w1 hb1
      obtain ⟨f1, c1, o1, r1⟩ := HE.out w1 H1.1 H1.2
      have HO1 : Hid _ := o1
      have HR1 : Hid _ := r1
      clear H1 o1 r1 hb1
      go_wp2
      go_ret
      exact RdPost.some HO1.out rfl HR1.out

end Go.Proofs.YtbjiamaaocjbfaaDoor.Kp
