import Derived.Test.YtlmopjbfagijeaaGreatDoorYbM
import Derived.Test.YtlmopjbfagijeaaGreatDoorShZ
import Derived.Lib.TrimU
namespace Go.Proofs.YtlmopjbfagijeaaGreatDoor.Sc
open Go.RowKit Go.Lib

/-- what a digit is worth -/
def dgN (n : Nat) : Option Nat := if 48 ≤ n ∧ n ≤ 57 then some (n - 48) else if 97 ≤ n ∧ n ≤ 102 then some (n - 87) else none
theorem dgN_lt {n d : Nat} (h : dgN n = some d) : d < 16 := by
  unfold dgN at h
  split at h
  · injection h with h; omega
  · split at h
    · injection h with h; omega
    · cases h
theorem dgN_high (n : Nat) (h : 128 ≤ n) : dgN n = none := by
  unfold dgN
  rw [if_neg (by omega), if_neg (by omega)]
theorem dgN_dig : ∀ d, d < 16 → dgN (dig d).toNat = some d := by decide
/-- a byte word's bytes, from a place on: how many digits are due, what those up to now make -/
def rdBs : Nat → Nat → List UInt8 → Option (List UInt8)
  | 0, _, [] => some []
  | _ + 1, _, [] => none
  | due, v, c :: r =>
    if 0 < due ∧ (dgN c.toNat).isSome = true then
      if due = 1 then (if plN ((v * 16 + (dgN c.toNat).getD 0) % 256) = true then none else (rdBs 0 ((v * 16 + (dgN c.toNat).getD 0) % 256) r).map (UInt8.ofNat ((v * 16 + (dgN c.toNat).getD 0) % 256) :: ·))
      else rdBs (due - 1) ((v * 16 + (dgN c.toNat).getD 0) % 256) r
    else if due = 0 ∧ c.toNat = 37 then rdBs 2 v r
    else if due = 0 ∧ plN c.toNat = true then (rdBs 0 v r).map (c :: ·)
    else none
theorem rdBs_pl (v : Nat) (c : UInt8) (r : List UInt8) (h : plN c.toNat = true) : rdBs 0 v (c :: r) = (rdBs 0 v r).map (c :: ·) := by
  rw [rdBs, if_neg (by omega), if_neg (by rintro ⟨-, e⟩; rw [e] at h; revert h; decide), if_pos ⟨rfl, h⟩]
theorem rdBs_esc (v : Nat) (r : List UInt8) : rdBs 0 v (37 :: r) = rdBs 2 v r := by
  rw [rdBs, if_neg (by omega), if_pos ⟨rfl, rfl⟩]
theorem rdBs_two (v : Nat) (c : UInt8) (r : List UInt8) (h : plN c.toNat = false) : rdBs 2 v (two c ++ r) = (rdBs 0 c.toNat r).map (c :: ·) := by
  have hc := c.toNat_lt
  have h1 := dgN_dig (c.toNat / 16) (by omega)
  have h2 := dgN_dig (c.toNat % 16) (by omega)
  have e : ((v * 16 + c.toNat / 16) % 256 * 16 + c.toNat % 16) % 256 = c.toNat := by omega
  have ec : UInt8.ofNat c.toNat = c := by simp
  unfold two
  rw [List.cons_append, List.cons_append, List.nil_append]
  rw [rdBs, h1, if_pos ⟨by omega, rfl⟩, if_neg (by omega), show 2 - 1 = 1 from rfl]
  rw [rdBs, h2, if_pos ⟨by omega, rfl⟩, if_pos rfl]
  simp only [Option.getD_some]
  rw [e, if_neg (by rw [h]; simp), ec]
theorem rdBs_wrL : ∀ (l : List UInt8) (v : Nat), rdBs 0 v (wrL l) = some l
  | [], v => rfl
  | c :: l, v => by
    have e : wrL (c :: l) = one c ++ wrL l := by simp [wrL]
    rw [e]
    unfold one
    by_cases h : plN c.toNat = true
    · rw [if_pos h, List.cons_append, List.nil_append, rdBs_pl v c _ h, rdBs_wrL l v]
      rfl
    · rw [if_neg h, List.cons_append, rdBs_esc, rdBs_two v c _ (by simpa using h), rdBs_wrL l c.toNat]
      rfl
/-- what a byte word says -/
def rdB : List UInt8 → Option (List UInt8)
  | [] => none
  | c :: r => if c = 61 then rdBs 0 0 r else none
theorem rdB_byL (s : ByteArray) : rdB (byL s) = some s.data.toList := by
  show (if (61 : UInt8) = 61 then rdBs 0 0 (wrL s.data.toList) else none) = _
  rw [if_pos rfl, rdBs_wrL]
/-- what a hex word says -/
def rdH : List UInt8 → Option (List UInt8)
  | [] => some []
  | [_] => none
  | a :: b :: r => match dgN a.toNat, dgN b.toNat with
    | some x, some y => (rdH r).map (UInt8.ofNat (16 * x + y) :: ·)
    | _, _ => none

set_option maxRecDepth 20000 in
set_option maxHeartbeats 1000000 in
theorem digitOf_any (r : Nat) (hr : r < 2147483648) (w : World) : Calls Tryz.prog 152 #[.int .i32 (r : Int)] w fun e w' => e = .returned (.tuple #[.int .u8 (((dgN r).getD 0 : Nat) : Int), .bool (dgN r).isSome]) ∧ w' = w := by
  unfold dgN
  by_cases h1 : 48 ≤ r ∧ r ≤ 57
  · rw [if_pos h1]
    have a1 : (48 : Int) ≤ (r : Int) := by omega
    have a2 : (r : Int) ≤ 57 := by omega
    have a3 : IntKind.i32.wrap ((r : Int) - 48) = ((r - 48 : Nat) : Int) := by rw [IntKind.wrap_i32]; omega
    have a4 : IntKind.u8.wrap ((r - 48 : Nat) : Int) = ((r - 48 : Nat) : Int) := by rw [IntKind.wrap_u8']; omega
    generalize r - 48 = d at *
    go_enter Tryz.func152, Tryz.ntmps152
    go_wp2
    go_ret2
    exact ⟨rfl, rfl⟩
  · rw [if_neg h1]
    by_cases h2 : 97 ≤ r ∧ r ≤ 102
    · rw [if_pos h2]
      have a1 : (48 : Int) ≤ (r : Int) := by omega
      have a0 : ¬ (r : Int) ≤ 57 := by omega
      have a2 : (97 : Int) ≤ (r : Int) := by omega
      have a5 : (r : Int) ≤ 102 := by omega
      have a3 : IntKind.i32.wrap ((r : Int) - 97) = ((r - 97 : Nat) : Int) := by rw [IntKind.wrap_i32]; omega
      have a4 : IntKind.u8.wrap ((r - 97 : Nat) : Int) = ((r - 97 : Nat) : Int) := by rw [IntKind.wrap_u8']; omega
      have a6 : IntKind.u8.wrap (((r - 97 : Nat) : Int) + 10) = ((r - 87 : Nat) : Int) := by rw [IntKind.wrap_u8']; omega
      generalize r - 97 = d at *
      generalize r - 87 = d2 at *
      go_enter Tryz.func152, Tryz.ntmps152
      go_wp2
      go_ret2
      exact ⟨rfl, rfl⟩
    · rw [if_neg h2]
      have a2 : ¬ ((97 : Int) ≤ (r : Int) ∧ (r : Int) ≤ 102) := by omega
      have a1 : ¬ ((48 : Int) ≤ (r : Int) ∧ (r : Int) ≤ 57) := by omega
      go_enter Tryz.func152, Tryz.ntmps152
      by_cases b1 : (48 : Int) ≤ (r : Int)
      · have b2 : ¬ (r : Int) ≤ 57 := by omega
        by_cases b3 : (97 : Int) ≤ (r : Int)
        · have b4 : ¬ (r : Int) ≤ 102 := by omega
          go_wp2
          go_ret2
          exact ⟨rfl, rfl⟩
        · go_wp2
          go_ret2
          exact ⟨rfl, rfl⟩
      · have b3 : ¬ (97 : Int) ≤ (r : Int) := by omega
        go_wp2
        go_ret2
        exact ⟨rfl, rfl⟩
end Go.Proofs.YtlmopjbfagijeaaGreatDoor.Sc

namespace Go.Proofs.YtlmopjbfagijeaaGreatDoor.Sc
open Go.RowKit Go.Lib

/-- strconv's two errors are errors -/
structure ETab (w : World) : Prop where
  syn : ∃ t p, w.cell? ⟨4, 0, none⟩ = some (.iface t p)
  rng : ∃ t p, w.cell? ⟨5, 0, none⟩ = some (.iface t p)
theorem ETab.below {w w' : World} (h : ETab w) (hb : Below w.heap.size w w') : ETab w' := by
  obtain ⟨⟨t, p, h1⟩, t2, p2, h2⟩ := h
  exact ⟨⟨t, p, (hb.cell (p := ⟨4, 0, none⟩) (Lib.lt_of_cell h1)).trans h1⟩, t2, p2, (hb.cell (p := ⟨5, 0, none⟩) (Lib.lt_of_cell h2)).trans h2⟩
/-- what a number word says -/
def rdN (l : List UInt8) : Option Int := match Lib.atoiAll l with
  | .ok v => if itoa v = l then some v else none
  | _ => none
theorem below_or {w w' : World} (h : w' = w ∨ ∃ t, w' = Lib.bytesWorld w 5 t) : Below w.heap.size w w' := by
  rcases h with rfl | ⟨t, rfl⟩
  · exact Below.refl _ _
  · exact ⟨rfl, rfl, rfl, by rw [Lib.bytesWorld_size]; omega, fun k hk => Lib.bytesWorld_at_old w 5 t k hk⟩
/-- strconv.Atoi of anything -/
theorem atoi_any (s : ByteArray) (hs : s.size ≤ 281474976710656) (w : World) (he : ETab w) :
    Calls Tryz.prog 148 #[.string s] w fun e w' => ((∃ v, Lib.atoiAll s.data.toList = .ok v ∧ e = .returned (.tuple #[.int .i64 v, .nilIface])) ∨ ((∀ v, Lib.atoiAll s.data.toList ≠ .ok v) ∧ ∃ v t p, e = .returned (.tuple #[.int .i64 v, .iface t p]))) ∧ Below w.heap.size w w' := by
  obtain ⟨⟨t1, p1, h1⟩, t2, p2, h2⟩ := he
  cases h : Lib.atoiAll s.data.toList with
  | ok v =>
    refine (Any.strconv_Atoi_ok atoiLays s (by omega) v h w).mono ?_
    rintro e w' ⟨rfl, hw⟩
    exact ⟨.inl ⟨v, rfl, rfl⟩, below_or hw⟩
  | «syntax» =>
    refine (Any.strconv_Atoi_syntax atoiLays s hs h _ w h1 (.inr ⟨t1, p1, rfl⟩)).mono ?_
    rintro e w' ⟨N, rfl, -, -, hb⟩
    exact ⟨.inr ⟨(fun v e => by cases e), _, _, _, rfl⟩, hb⟩
  | range =>
    refine (Any.strconv_Atoi_range atoiLays s hs h _ w h2 (.inr ⟨t2, p2, rfl⟩)).mono ?_
    rintro e w' ⟨N, rfl, -, -, hb⟩
    exact ⟨.inr ⟨(fun v e => by cases e), _, _, _, rfl⟩, hb⟩
set_option maxRecDepth 20000 in
set_option maxHeartbeats 1000000 in
theorem readNumber_any (s : ByteArray) (hs : s.size ≤ 281474976710656) (w : World) (ht : ITab w) (he : ETab w) :
    Calls Tryz.prog 132 #[.string s] w fun e w' => e = .returned (.tuple #[.int .i64 ((rdN s.data.toList).getD 0), .bool (rdN s.data.toList).isSome]) ∧ Below w.heap.size w w' := by
  have h0 := atoi_any s hs w he
  obtain ⟨R, hR⟩ : ∃ R, rdN s.data.toList = R := ⟨_, rfl⟩
  have HR : Hid (rdN s.data.toList = R) := hR
  rw [hR]
  clear hR
  go_enter Tryz.func132, Tryz.ntmps132
  go_wp2_with fail
  refine h0.mono ?_
  rintro e w1 ⟨⟨v, hv, rfl⟩ | ⟨hno, v, t, p, rfl⟩, hb1⟩
  · have hvb := Lib.atoiAll_bounds hv
    have hnw := numberWord_any v ⟨hvb.1, hvb.2⟩ w1 (ht.below hb1 ht.lt)
    have HV : Hid (rdN s.data.toList = if itoa v = s.data.toList then some v else none) := by
      show _ = _
      unfold rdN
      rw [hv]
    clear h0 hv
    go_wp2_with fail
    refine hnw.mono ?_
    rintro e w2 ⟨rfl, hb2⟩
    have HB : Hid (Below w.heap.size w w2) := hb1.trans (hb2.mono hb1.size)
    by_cases h : itoa v = s.data.toList
    · have hs2 : str (itoa v) = s := by
        rw [h]
        apply ByteArray.ext
        simp [str]
      have HF : Hid (R = some v) := by
        show _ = _
        rw [← HR.out, HV.out, if_pos h]
      rw [hs2]
      clear hs2 h hnw hb1 hb2
      go_wp2
      go_ret2
      rw [HF.out]
      exact ⟨rfl, HB.out⟩
    · have HF : Hid (R = none) := by
        show _ = _
        rw [← HR.out, HV.out, if_neg h]
      have hne : ¬ str (itoa v) = s := fun e => h (by rw [← e, str_data])
      obtain ⟨x, hx⟩ : ∃ x, str (itoa v) = x := ⟨_, rfl⟩
      rw [hx] at hne ⊢
      have hne2 : ¬ x.toList = s.toList := fun e => hne (by
        rw [ByteArray.toList_eq, ByteArray.toList_eq] at e
        exact ByteArray.ext (Array.toList_inj.1 e))
      have hbq : (x.toList == s.toList) = false := beq_eq_false_iff_ne.2 hne2
      clear hx h hnw hb1 hb2 hne hne2
      go_wp2
      go_ret2
      rw [HF.out]
      exact ⟨rfl, HB.out⟩
  · have HF : Hid (R = none) := by
      show _ = _
      rw [← HR.out]
      unfold rdN
      cases h : Lib.atoiAll s.data.toList with
      | ok v => exact absurd h (hno v)
      | «syntax» => rfl
      | range => rfl
    clear h0 hno
    go_wp2
    go_ret2
    rw [HF.out]
    exact ⟨rfl, hb1⟩
end Go.Proofs.YtlmopjbfagijeaaGreatDoor.Sc

namespace Go.Proofs.YtlmopjbfagijeaaGreatDoor.Sc
open Go.RowKit Go.Lib

theorem cutPrefix_any (s p : ByteArray) (w : World) :
    Calls Tryz.prog 151 #[.string s, .string p] w fun e w' => e = .returned (.tuple #[.string ⟨(Lib.trimPrefix s.data.toList p.data.toList).toArray⟩, .bool (Lib.hasPrefix s.data.toList p.data.toList)]) ∧ w' = w := Any.strings_CutPrefix cpfLays s p w
/-- a rune at a place: a byte below 128, or a rune of 128 and more -/
theorem rune_low (s : ByteArray) (pos : Nat) (h : pos < s.size) (c : UInt8) (hc : s.data.toList[pos]? = some c) (ha : c.toNat < 128) : Utf8.decode s pos = (c.toNat, 1) := by
  have hce := getElem_data s pos h c hc
  have hd := decode_ascii s pos h (by rw [hce]; exact ha)
  rw [hce] at hd
  exact hd
theorem rune_high (s : ByteArray) (pos : Nat) (h : pos < s.size) (c : UInt8) (hc : s.data.toList[pos]? = some c) (ha : ¬ c.toNat < 128) : 128 ≤ (Utf8.decode s pos).1 := by
  have hce := getElem_data s pos h c hc
  exact (decode_high s pos h (by rw [hce]; omega)).1
theorem or_digs (x y : Nat) (hx : x < 16) (hy : y < 16) : bits .or .u8 ((x : Int) * 16) (y : Int) = ((16 * x + y : Nat) : Int) := by
  have h := u8_or_nat (16 * x) y (by omega) (by omega)
  rw [show 16 * x ||| y = 16 * x + y by
    have h2 := Nat.two_pow_add_eq_or_of_lt (i := 4) (b := y) (by omega) x
    simpa using h2.symm] at h
  rw [show (x : Int) * 16 = ((16 * x : Nat) : Int) by omega]
  exact h
set_option maxRecDepth 20000 in
set_option maxHeartbeats 4000000 in
theorem readBytes_any (s : ByteArray) (hs : s.size ≤ 8388608) (w : World) :
    Calls Tryz.prog 135 #[.string s] w fun e w' => e = .returned (.tuple #[.string (str ((rdB s.data.toList).getD [])), .bool (rdB s.data.toList).isSome]) ∧ Below w.heap.size w w' := by
  have h0 := cutPrefix_any s { data := #[61] } w
  obtain ⟨R, hR⟩ : ∃ R, rdB s.data.toList = R := ⟨_, rfl⟩
  have HR : Hid (rdB s.data.toList = R) := hR
  rw [hR]
  have hl : s.data.toList.length = s.size := (size_eq s).symm
  obtain ⟨T, ok, hcut, hF, hT⟩ : ∃ (T : ByteArray) (ok : Bool), (Value.tuple #[.string ⟨(Lib.trimPrefix s.data.toList ({ data := #[61] } : ByteArray).data.toList).toArray⟩, .bool (Lib.hasPrefix s.data.toList ({ data := #[61] } : ByteArray).data.toList)]) = .tuple #[.string T, .bool ok] ∧ (ok = false → R = none) ∧ (ok = true → R = rdBs 0 0 T.data.toList ∧ T.size ≤ 8388608) := by
    refine ⟨_, _, rfl, ?_, ?_⟩
    · intro h
      rw [← hR]
      cases hq : s.data.toList with
      | nil => rfl
      | cons c r =>
        rw [hq] at h
        show (if c = 61 then rdBs 0 0 r else none) = none
        rw [if_neg]
        rintro rfl
        simp [Lib.hasPrefix] at h
    · intro h
      cases hq : s.data.toList with
      | nil =>
        rw [hq] at h
        simp [Lib.hasPrefix] at h
      | cons c r =>
        rw [hq] at h hl
        have hc : c = 61 := by
          by_cases e : c = 61
          · exact e
          · simp [Lib.hasPrefix] at h
            exact h.symm
        subst hc
        rw [← hR, hq]
        refine ⟨?_, ?_⟩
        · show (if (61 : UInt8) = 61 then rdBs 0 0 r else none) = _
          rw [if_pos rfl]
          simp [Lib.trimPrefix, Lib.hasPrefix]
        · rw [size_eq]
          simp [Lib.trimPrefix, Lib.hasPrefix] at hl ⊢
          omega
  rw [hcut] at h0
  clear hcut hR
  go_enter Tryz.func135, Tryz.ntmps135
  go_wp2_with fail
  refine h0.mono ?_
  rintro e w1 ⟨rfl, rfl⟩
  clear h0
  cases ok with
  | false =>
    have HF : Hid (R = none) := hF rfl
    clear hF hT
    go_wp2
    go_ret2
    rw [HF.out]
    exact ⟨rfl, Below.refl _ _⟩
  | true =>
    obtain ⟨hRT, hTz⟩ := hT rfl
    clear hF hT
    obtain ⟨n, hn⟩ : ∃ n, T.size = n := ⟨_, rfl⟩
    have HS : Hid (T.size = n ∧ T.data.toList.length = n) := ⟨hn, by rw [← hn, size_eq]⟩
    rw [hn] at hTz
    have hB0 := (Below.refl w1.heap.size w1).alloc (Nat.le_refl _) (.cells #[.pointer none, .slice none 0 0] 81)
    have hI0 : Hid (Bu 81 [] w1.heap.size w1.heap.size [] ((w1.alloc (.cells #[.pointer none, .slice none 0 0] 81)).alloc (.stringIter T 0)) ∧ Below w1.heap.size w1 ((w1.alloc (.cells #[.pointer none, .slice none 0 0] 81)).alloc (.stringIter T 0)) ∧ ([] : List UInt8).length ≤ 0 ∧ R = (rdBs 0 0 (T.data.toList.drop 0)).map ([] ++ ·)) := by
      refine ⟨(Bu.new 81 [] w1).below ((Below.refl _ _).alloc (Nat.le_refl _) _), hB0.alloc hB0.size _, Nat.le_refl _, ?_⟩
      rw [List.drop_zero, hRT]
      simp
    clear hB0 hn hRT hl
    go_wp2_with fail
    go_loopg [7, 8] n (fun gk d v wr => ∃ (pos due vv : Nat) (out : List UInt8), pos + gk = n ∧ d = .int .i64 (due : Int) ∧ v = .int .u8 (vv : Int) ∧ due ≤ 2 ∧ vv < 256 ∧ wr.heap[w1.heap.size + 1]? = some (.stringIter T pos) ∧ Hid (Bu 81 [] w1.heap.size w1.heap.size out wr ∧ Below w1.heap.size w1 wr ∧ out.length ≤ pos ∧ R = (rdBs due vv (T.data.toList.drop pos)).map (out ++ ·)))
    case atStart => exact ⟨0, 0, 0, [], by omega, rfl, rfl, by omega, by omega, by simpa using World.iter_heap (w1.alloc (.cells #[.pointer none, .slice none 0 0] 81)) T 0, hI0.out⟩
    case round =>
      clear hI0
      obtain ⟨pos, due, vv, out, hk, rfl, rfl, hdue, hvv, hit, HI⟩ := hrel
      have HK : Hid (pos + gk = n) := hk
      by_cases hp : pos < n
      · obtain ⟨c, hc⟩ : ∃ c, T.data.toList[pos]? = some c := ⟨_, List.getElem?_eq_getElem (by rw [HS.out.2]; exact hp)⟩
        have hdr : T.data.toList.drop pos = c :: T.data.toList.drop (pos + 1) := by
          rw [List.drop_eq_getElem_cons (by rw [HS.out.2]; exact hp)]
          rw [List.getElem?_eq_getElem (by rw [HS.out.2]; exact hp)] at hc
          rw [Option.some.inj hc]
        have hnx : ∀ ty, (Instr.next (.pointer (some ⟨w1.heap.size + 1, 0, none⟩)) true ty).run Tryz.prog wr = _ := fun ty => Lib.run_next_any_at wr (w1.heap.size + 1) T pos ty hit (by rw [HS.out.1]; omega)
        by_cases ha : c.toNat < 128
        · rw [rune_low T pos (by rw [HS.out.1]; omega) c hc ha] at hnx
          have hit2 := Lib.iterAt_heap wr (w1.heap.size + 1) T pos (pos + 1) hit
          have hb2 := Lib.below_iterAt HI.out.2.1 (k := w1.heap.size + 1) (Nat.le_succ _) T (pos + 1)
          have hu2 := HI.out.1.iterAt hit (pos + 1)
          change ∀ ty, (Instr.next (.pointer (some ⟨w1.heap.size + 1, 0, none⟩)) true ty).run Tryz.prog wr = .ok (.tuple #[.bool true, .int .i64 pos, .int .i32 c.toNat]) (wr.iterAt (w1.heap.size + 1) T (pos + 1)) at hnx
          have HR2 : Hid (R = (rdBs due vv (c :: T.data.toList.drop (pos + 1))).map (out ++ ·) ∧ out.length ≤ pos) := ⟨by rw [← hdr]; exact HI.out.2.2.2, HI.out.2.2.1⟩
          have hdg := digitOf_any c.toNat (by omega) (wr.iterAt (w1.heap.size + 1) T (pos + 1))
          have hlt2 := hu2.lt
          clear hit HI hdr hk
          generalize wr.iterAt (w1.heap.size + 1) T (pos + 1) = W1 at *
          generalize hdd : T.data.toList.drop (pos + 1) = tl at *
          by_cases hd0 : 0 < due
          · have hd0I : (0 : Int) < (due : Int) := by omega
            have hd0e : ((due : Int) == 0) = false := by simp; omega
            cases hdn : dgN c.toNat with
            | some d =>
              have hd16 := dgN_lt hdn
              rw [hdn] at hdg
              obtain ⟨nv, hnv⟩ : ∃ nv, (vv * 16 + d) % 256 = nv := ⟨_, rfl⟩
              have hor : bits .or .u8 ((vv : Int) * 16 % 256) (d : Int) = ((nv : Nat) : Int) := by
                rw [show (vv : Int) * 16 % 256 = (((vv % 16 : Nat) : Int)) * 16 by omega, or_digs (vv % 16) d (by omega) hd16]
                congr 1
                omega
              have hnvb : nv < 256 := by omega
              have hw32 : wrap32 ((nv : Nat) : Int) = ((nv : Nat) : Int) := by unfold wrap32; omega
              have hrd : rdBs due vv (c :: tl) = if due = 1 then (if plN nv = true then none else (rdBs 0 nv tl).map (UInt8.ofNat nv :: ·)) else rdBs (due - 1) nv tl := by
                rw [rdBs, hdn, if_pos ⟨hd0, rfl⟩]
                simp only [Option.getD_some, hnv]
              by_cases hd1 : due = 1
              · subst hd1
                rw [if_pos rfl] at hrd
                have hst := stands_any nv W1
                go_wp2_with fail
                refine hdg.mono ?_
                rintro e w3 ⟨rfl, rfl⟩
                clear hdg
                by_cases hpl : plN nv = true
                · rw [hpl] at hst
                  have HF : Hid (R = none) := by
                    show _ = _
                    rw [HR2.out.1, hrd, if_pos hpl]
                    rfl
                  have HBX : Hid (Below w1.heap.size w1 w3) := hb2
                  clear hnx
                  go_wp2_with (go_at_call 149; refine hst.mono ?_; rintro e w4 ⟨rfl, rfl⟩)
                  go_ret2
                  rw [HF.out]
                  exact ⟨rfl, HBX.out⟩
                · have hpl2 : plN nv = false := by simpa using hpl
                  rw [hpl2] at hst
                  have hnc : (UInt8.ofNat nv).toNat = nv := by simp; omega
                  have hby := bbyte_any okB w1.heap.size w1.heap.size out (UInt8.ofNat nv) w3 hu2 (by have := HR2.out.2; omega) hb2.size
                  rw [hnc] at hby
                  have HRN : Hid (R = (rdBs 0 nv tl).map ((out ++ [UInt8.ofNat nv]) ++ ·) ∧ (out ++ [UInt8.ofNat nv]).length ≤ pos + 1) := by
                    refine ⟨?_, by rw [List.length_append]; have := HR2.out.2; simp only [List.length_cons, List.length_nil]; omega⟩
                    rw [HR2.out.1, hrd, if_neg hpl]
                    cases rdBs 0 nv tl <;> simp
                  clear hnx hrd hpl
                  go_wp2_with (first | (go_at_call 149; refine hst.mono ?_; rintro e w4 ⟨rfl, rfl⟩) | (go_at_call 138; refine hby.mono ?_; rintro e w5 ⟨rfl, ⟨hu5, hb5⟩, ho5⟩))
                  have hit5 := ho5.iter (Nat.succ_ne_self _) hit2
                  have HJ : Hid (Bu 81 [] w1.heap.size w1.heap.size (out ++ [UInt8.ofNat nv]) w5 ∧ Below w1.heap.size w1 w5) := ⟨hu5, hb2.trans hb5⟩
                  clear hst hby hu5 hb5 ho5 hu2 hit2
                  go_roundg (gk - 1)
                  case measure => have := HK.out; omega
                  case rel => exact ⟨pos + 1, 0, nv, out ++ [UInt8.ofNat nv], by have := HK.out; omega, by go_num, by go_num, by omega, hnvb, hit5, HJ.out.1, HJ.out.2, HRN.out.2, by rw [hdd]; exact HRN.out.1⟩
              · have hd2 : due = 2 := by omega
                subst hd2
                rw [if_neg (by decide)] at hrd
                have HRN : Hid (R = (rdBs 1 nv tl).map (out ++ ·) ∧ out.length ≤ pos + 1) := ⟨by rw [HR2.out.1, hrd], by have := HR2.out.2; omega⟩
                have HJ : Hid (Bu 81 [] w1.heap.size w1.heap.size out W1 ∧ Below w1.heap.size w1 W1) := ⟨hu2, hb2⟩
                clear hrd hu2 hb2
                go_wp2_with fail
                refine hdg.mono ?_
                rintro e w3 ⟨rfl, rfl⟩
                clear hdg
                go_wp2
                go_roundg (gk - 1)
                case measure => have := HK.out; omega
                case rel => exact ⟨pos + 1, 1, nv, out, by have := HK.out; omega, by go_num, by go_num, by omega, hnvb, hit2, HJ.out.1, HJ.out.2, HRN.out.2, by rw [hdd]; exact HRN.out.1⟩
            | none =>
              rw [hdn] at hdg
              have HF : Hid (R = none) := by
                show _ = _
                rw [HR2.out.1, rdBs, hdn, if_neg (by simp), if_neg (by omega), if_neg (by omega)]
                rfl
              have HBX : Hid (Below w1.heap.size w1 W1) := hb2
              go_wp2_with fail
              refine hdg.mono ?_
              rintro e w3 ⟨rfl, rfl⟩
              clear hdg hnx
              go_wp2
              go_ret2
              rw [HF.out]
              exact ⟨rfl, HBX.out⟩
          · obtain rfl : due = 0 := by omega
            generalize (((dgN c.toNat).getD 0 : Nat) : Int) = dv at *
            generalize (dgN c.toNat).isSome = db at *
            go_wp2_with fail
            refine hdg.mono ?_
            rintro e w3 ⟨rfl, rfl⟩
            clear hdg
            by_cases hc37 : c.toNat = 37
            · have hc37I : (c.toNat : Int) = 37 := by omega
              have HRN : Hid (R = (rdBs 2 vv tl).map (out ++ ·) ∧ out.length ≤ pos + 1) := by
                refine ⟨?_, by have := HR2.out.2; omega⟩
                rw [HR2.out.1, rdBs, if_neg (by omega), if_pos ⟨rfl, hc37⟩]
              have HJ : Hid (Bu 81 [] w1.heap.size w1.heap.size out w3 ∧ Below w1.heap.size w1 w3) := ⟨hu2, hb2⟩
              clear hu2 hb2
              go_wp2
              go_roundg (gk - 1)
              case measure => have := HK.out; omega
              case rel => exact ⟨pos + 1, 2, vv, out, by have := HK.out; omega, by go_num, by go_num, by omega, hvv, hit2, HJ.out.1, HJ.out.2, HRN.out.2, by rw [hdd]; exact HRN.out.1⟩
            · have hc37I : ¬ (c.toNat : Int) = 37 := by omega
              have hst := stands_any c.toNat w3
              by_cases hpl : plN c.toNat = true
              · rw [hpl] at hst
                have hw8 : (c.toNat : Int) % 256 = (c.toNat : Int) := by omega
                have hby := bbyte_any okB w1.heap.size w1.heap.size out c w3 hu2 (by have := HR2.out.2; omega) hb2.size
                have HRN : Hid (R = (rdBs 0 vv tl).map ((out ++ [c]) ++ ·) ∧ (out ++ [c]).length ≤ pos + 1) := by
                  refine ⟨?_, by rw [List.length_append]; have := HR2.out.2; simp only [List.length_cons, List.length_nil]; omega⟩
                  rw [HR2.out.1, rdBs_pl vv c tl hpl]
                  cases rdBs 0 vv tl <;> simp
                clear hnx hpl
                go_wp2_with (first | (go_at_call 149; refine hst.mono ?_; rintro e w4 ⟨rfl, rfl⟩) | (go_at_call 138; refine hby.mono ?_; rintro e w5 ⟨rfl, ⟨hu5, hb5⟩, ho5⟩))
                have hit5 := ho5.iter (Nat.succ_ne_self _) hit2
                have HJ : Hid (Bu 81 [] w1.heap.size w1.heap.size (out ++ [c]) w5 ∧ Below w1.heap.size w1 w5) := ⟨hu5, hb2.trans hb5⟩
                clear hst hby hu5 hb5 ho5 hu2 hit2
                go_roundg (gk - 1)
                case measure => have := HK.out; omega
                case rel => exact ⟨pos + 1, 0, vv, out ++ [c], by have := HK.out; omega, by go_num, by go_num, by omega, hvv, hit5, HJ.out.1, HJ.out.2, HRN.out.2, by rw [hdd]; exact HRN.out.1⟩
              · have hpl2 : plN c.toNat = false := by simpa using hpl
                rw [hpl2] at hst
                have HF : Hid (R = none) := by
                  show _ = _
                  rw [HR2.out.1, rdBs, if_neg (by omega), if_neg (by omega), if_neg (by rintro ⟨-, h⟩; exact hpl h)]
                  rfl
                have HBX : Hid (Below w1.heap.size w1 w3) := hb2
                clear hnx
                go_wp2_with (go_at_call 149; refine hst.mono ?_; rintro e w4 ⟨rfl, rfl⟩)
                go_ret2
                rw [HF.out]
                exact ⟨rfl, HBX.out⟩
        · have hrh := rune_high T pos (by rw [HS.out.1]; omega) c hc ha
          have hit2 := Lib.iterAt_heap wr (w1.heap.size + 1) T pos (pos + (Utf8.decode T pos).2) hit
          have hb2 := Lib.below_iterAt HI.out.2.1 (k := w1.heap.size + 1) (Nat.le_succ _) T (pos + (Utf8.decode T pos).2)
          have HF : Hid (R = none) := by
            show _ = _
            rw [HI.out.2.2.2, hdr]
            have h1 := dgN_high c.toNat (by omega)
            have h2 := plN_high c.toNat (by omega)
            cases due with
            | zero => rw [rdBs, if_neg (by omega), if_neg (by omega), if_neg (by rintro ⟨-, h⟩; rw [h2] at h; cases h)]; rfl
            | succ k => rw [rdBs, h1, if_neg (by simp), if_neg (by omega), if_neg (by omega)]; rfl
          have hrb : (Utf8.decode T pos).1 < 2147483648 := by have := rune_le T pos; omega
          have hdn := dgN_high (Utf8.decode T pos).1 hrh
          have hpn := plN_high (Utf8.decode T pos).1 hrh
          clear hit HI hdr hc
          generalize (Utf8.decode T pos).1 = rn at *
          generalize (Utf8.decode T pos).2 = wd at *
          have hdg := digitOf_any rn hrb (wr.iterAt (w1.heap.size + 1) T (pos + wd))
          have hst := stands_any rn (wr.iterAt (w1.heap.size + 1) T (pos + wd))
          rw [hdn] at hdg
          rw [hpn] at hst
          generalize wr.iterAt (w1.heap.size + 1) T (pos + wd) = W1 at *
          have hr37 : ¬ (rn : Int) = 37 := by omega
          have HBX : Hid (Below w1.heap.size w1 W1) := hb2
          cases due with
          | zero =>
            go_wp2_with (first | (go_at_call 152; refine hdg.mono ?_; rintro e w3 ⟨rfl, rfl⟩; clear hdg) | (go_at_call 149; refine hst.mono ?_; rintro e w4 ⟨rfl, rfl⟩))
            go_ret2
            rw [HF.out]
            exact ⟨rfl, HBX.out⟩
          | succ k =>
            have hk0 : (0 : Int) < ((k + 1 : Nat) : Int) := by omega
            have hk1 : (((k + 1 : Nat) : Int) == 0) = false := by simp; omega
            go_wp2_with (first | (go_at_call 152; refine hdg.mono ?_; rintro e w3 ⟨rfl, rfl⟩; clear hdg) | (go_at_call 149; refine hst.mono ?_; rintro e w4 ⟨rfl, rfl⟩))
            go_ret2
            rw [HF.out]
            exact ⟨rfl, HBX.out⟩
      · have hnx : ∀ ty, (Instr.next (.pointer (some ⟨w1.heap.size + 1, 0, none⟩)) true ty).run Tryz.prog wr = _ := fun ty => Lib.run_next_end_at wr (w1.heap.size + 1) T pos ty hit (by rw [HS.out.1]; omega)
        have hdr : T.data.toList.drop pos = [] := List.drop_eq_nil_of_le (by rw [HS.out.2]; omega)
        have HB : Hid (Below w1.heap.size w1 wr) := HI.out.2.1
        have hbu := HI.out.1
        cases due with
        | zero =>
          have HF : Hid (R = some out) := by
            show _ = _
            rw [HI.out.2.2.2, hdr, rdBs]
            simp
          have hsg := bstring_any w1.heap.size w1.heap.size out wr hbu
          clear hit HI hdr hbu hk
          go_wp2_with (go_at_call 62; refine hsg.mono ?_; rintro e w5 ⟨rfl, hb5⟩; clear hsg)
          go_ret2
          rw [HF.out]
          exact ⟨rfl, HB.out.trans hb5⟩
        | succ k =>
          have HF : Hid (R = none) := by
            show _ = _
            rw [HI.out.2.2.2, hdr, rdBs]
            rfl
          have hk0 : (0 : Int) < ((k + 1 : Nat) : Int) := by omega
          clear hit HI hdr hbu hk
          go_wp2
          go_ret2
          rw [HF.out]
          exact ⟨rfl, HB.out⟩
end Go.Proofs.YtlmopjbfagijeaaGreatDoor.Sc
