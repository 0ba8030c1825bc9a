import Derived.Test.YtcochbcaillldaaGreatDoorScD
namespace Go.Proofs.YtcochbcaillldaaGreatDoor.Sc
open Go.RowKit Go.Lib

/-- a part of a text -/
theorem part_at {P : Program} (W : World) (t : TypeId) (ht : P.underlying t = some .string) (s : ByteArray) (a b : Nat) (r : ByteArray) (hab : a ≤ b) (hb : b ≤ s.size) (hr : s.extract a b = r) :
    (Instr.slice t (.string s) (some (.int .i64 (a : Int))) (some (.int .i64 (b : Int))) none).run P W = .ok (.string r) W := by
  rw [run_slice_string (P := P) W t s .i64 .i64 (a : Int) (b : Int) ht (by omega) (by omega) (by omega), Int.toNat_natCast, Int.toNat_natCast, hr]
theorem part_end {P : Program} (W : World) (t : TypeId) (ht : P.underlying t = some .string) (s : ByteArray) (a : Nat) (r : ByteArray) (ha : a ≤ s.size) (hr : s.extract a s.size = r) :
    (Instr.slice t (.string s) (some (.int .i64 (a : Int))) none none).run P W = .ok (.string r) W := by
  rw [run_slice_string_l W t s ht .i64 (a : Int) (by omega) (by omega), Int.toNat_natCast, hr]

theorem BuAt.iterAt {T : TypeId} {rest : List Value} {B b : Nat} {p : Value} {l : List UInt8} {w : World} (h : BuAt T rest B b p l w) {k : Nat} {s : ByteArray} {pos : Nat} (hk : w.heap[k]? = some (.stringIter s pos)) (pos' : Nat) : BuAt T rest B b p l (w.iterAt k s pos') := by
  obtain ⟨hB, v, hb, hown, hne⟩ := h
  have hkb : b ≠ k := by
    intro e1
    rw [e1, hk] at hb
    cases hb
  refine ⟨hB, v, (iterAt_other w k b s pos' hkb).trans hb, ⟨hown.1, ?_⟩, hne⟩
  rcases hown.2 with hn | ⟨g, cap, cur, hv, hbg, hg, rest⟩
  · exact .inl hn
  · have hkg : g ≠ k := by
      intro e1
      rw [e1, hk] at hg
      cases hg
    exact .inr ⟨g, cap, cur, hv, hbg, (iterAt_other w k g s pos' hkg).trans hg, rest⟩
theorem Bu.iterAt {T : TypeId} {rest : List Value} {B b : Nat} {l : List UInt8} {w : World} (h : Bu T rest B b l w) {k : Nat} {s : ByteArray} {pos : Nat} (hk : w.heap[k]? = some (.stringIter s pos)) (pos' : Nat) : Bu T rest B b l (w.iterAt k s pos') :=
  h.elim (fun x => .inl (x.iterAt hk pos')) (fun x => .inr (x.iterAt hk pos'))
theorem extract_size (s : ByteArray) (a b : Nat) (h : b ≤ s.size) : (s.extract a b).size = b - a := by
  rw [ByteArray.size_extract]
  omega
/-- what byteWord wrote up to a place, and what it will have written behind the bytes that are due -/
theorem wrL_part (s : ByteArray) (dn pos : Nat) (hd : dn ≤ pos) (h : ∀ j d, dn ≤ j → j < pos → s.data.toList[j]? = some d → plN d.toNat = false) :
    wrL (s.data.toList.take pos) = wrL (s.data.toList.take dn) ++ escL (s.extract dn pos).data.toList := by
  have e : (s.extract dn pos).data.toList = (s.data.toList.take pos).drop dn := by
    rw [extract_data, List.drop_take]
  have e2 : s.data.toList.take pos = s.data.toList.take dn ++ (s.data.toList.take pos).drop dn := by
    have h1 := (List.take_append_drop dn (s.data.toList.take pos)).symm
    rw [List.take_take, Nat.min_eq_left hd] at h1
    exact h1
  rw [e, ← wrL_none ((s.data.toList.take pos).drop dn), ← wrL_append, ← e2]
  intro c hc
  obtain ⟨i, hi⟩ := List.mem_iff_getElem?.1 hc
  rw [List.getElem?_drop, List.getElem?_take] at hi
  split at hi
  · exact h (dn + i) c (by omega) (by omega) hi
  · cases hi

set_option maxRecDepth 20000 in
set_option maxHeartbeats 1000000 in
theorem byteWord_any (s : ByteArray) (hs : s.size ≤ 8388608) (w : World) :
    Calls Tryz.prog 133 #[.string s] w fun e w' => e = .returned (.string (str (61 :: wrL s.data.toList))) ∧ Below w.heap.size w w' := by
  have hl : s.data.toList.length = s.size := (size_eq s).symm
  obtain ⟨n, hn⟩ : ∃ n, s.size = n := ⟨_, rfl⟩
  rw [hn] at hl hs
  have HS : Hid (s.size = n) := hn
  have hB0 := (Below.refl w.heap.size w).alloc (Nat.le_refl _) (.cells #[.pointer none, .slice none 0 0] 81)
  have h0 := bwrite_any okB w.heap.size w.heap.size [] { data := #[61] } _ (Bu.new 81 [] w) (by decide) hB0.size
  clear hn
  go_enter Tryz.func133, Tryz.ntmps133
  go_wp2_with (go_at_call 61; refine h0.mono ?_; rintro e w1 ⟨rfl, ⟨hu1, hb1⟩, _⟩)
  have hb1 := hB0.trans hb1
  have hlt1 := hu1.lt
  have hu1 : Bu 81 [] w.heap.size w.heap.size [61] w1 := hu1
  clear h0 hB0
  go_wp2
  go_loopg [4] n (fun gk d wr => ∃ pos dn : Nat, pos + gk = n ∧ d = .int .i64 (dn : Int) ∧ dn ≤ pos ∧ wr.heap[w1.heap.size]? = some (.stringIter s pos) ∧ Hid (Bu 81 [] w.heap.size w.heap.size (61 :: wrL (s.data.toList.take dn)) wr ∧ Below w.heap.size w wr ∧ ∀ j d, dn ≤ j → j < pos → s.data.toList[j]? = some d → plN d.toNat = false))
  case atStart => exact ⟨0, 0, by omega, rfl, Nat.le_refl _, World.iter_heap w1 s 0, by rw [List.take_zero]; exact hu1.below ((Below.refl w1.heap.size w1).alloc (Nat.le_refl _) (.stringIter s 0)), hb1.alloc (by omega) _, fun j d h1 h2 => by omega⟩
  case round =>
    obtain ⟨pos, dn, hk, rfl, hdn, hit, HI⟩ := hrel
    have HS := HS
    by_cases hp : pos < n
    · obtain ⟨c, hc⟩ : ∃ c, s.data.toList[pos]? = some c := ⟨_, List.getElem?_eq_getElem (by omega)⟩
      have hnx : ∀ ty, (Instr.next (.pointer (some ⟨w1.heap.size, 0, none⟩)) true ty).run Tryz.prog wr = _ := fun ty => Lib.run_next_any_at wr w1.heap.size s pos ty hit (by rw [HS.out]; omega)
      obtain ⟨r1, r2, r3, r4, r5⟩ := rune_at s pos (by rw [HS.out]; omega) c hc
      rw [HS.out] at r2
      by_cases hpl : plN c.toNat = true
      · rw [r4 hpl] at hnx
        have hit2 := Lib.iterAt_heap wr w1.heap.size s pos (pos + 1) hit
        have hb2 := Lib.below_iterAt HI.out.2.1 (k := w1.heap.size) (Nat.le_of_lt hlt1) s (pos + 1)
        have hu2 := HI.out.1.iterAt hit (pos + 1)
        have hst := stands_any c.toNat (wr.iterAt w1.heap.size s (pos + 1))
        rw [hpl] at hst
        have HP : Hid (wrL (s.data.toList.take (pos + 1)) = wrL (s.data.toList.take dn) ++ escL (s.extract dn pos).data.toList ++ [c]) := by
          show _ = _
          rw [wrL_take _ _ _ hc, wrL_part s dn pos hdn HI.out.2.2, one, if_pos hpl]
        have hix := fun W => index_at (P := Tryz.prog) W 9 s .i64 pos c Tryz.underlying9 hc
        have hsl := fun W => part_at (P := Tryz.prog) W 9 Tryz.underlying9 s dn pos _ hdn (by rw [HS.out]; omega) rfl
        have hes : (s.extract dn pos).size ≤ n := by rw [extract_size _ _ _ (by rw [HS.out]; omega)]; omega
        have hwl : (61 :: wrL (s.data.toList.take dn)).length ≤ 1 + 3 * n := by
          have := wrL_len (s.data.toList.take dn)
          rw [List.length_take] at this
          simp only [List.length_cons]
          omega
        generalize s.extract dn pos = q at hsl HP hes
        generalize wrL (s.data.toList.take dn) = L at hu2 HP hwl
        clear hit HI r1 r2 r3 r4 r5 hc
        change ∀ ty, (Instr.next (.pointer (some ⟨w1.heap.size, 0, none⟩)) true ty).run Tryz.prog wr = .ok (.tuple #[.bool true, .int .i64 pos, .int .i32 c.toNat]) (wr.iterAt w1.heap.size s (pos + 1)) at hnx
        generalize wr.iterAt w1.heap.size s (pos + 1) = W1 at *
        go_wp2_with (go_at_call 149; refine hst.mono ?_; rintro e w3 ⟨rfl, rfl⟩)
        have hes1 := writeEscaped_any okB w.heap.size w.heap.size (61 :: L) q w3 hu2 (by omega) hb2.size
        clear hst
        go_wp2_with (go_at_call 150; refine hes1.mono ?_; rintro e w4 ⟨rfl, ⟨hu4, hb4⟩, ho4⟩)
        have hql : (escL q.data.toList).length ≤ 3 * n := by rw [escL_len]; have := (size_eq q).symm; omega
        have hby := bbyte_any okB w.heap.size w.heap.size (61 :: L ++ escL q.data.toList) c w4 hu4 (by rw [List.length_append]; omega) (hb2.trans hb4).size
        have hit4 := ho4.iter (Nat.ne_of_gt hlt1) hit2
        clear hes1
        go_wp2_with (go_at_call 138; refine hby.mono ?_; rintro e w5 ⟨rfl, ⟨hu5, hb5⟩, ho5⟩)
        have hit5 := ho5.iter (Nat.ne_of_gt hlt1) hit4
        have hb5 := (hb2.trans hb4).trans hb5
        have HJ : Hid (Bu 81 [] w.heap.size w.heap.size (61 :: wrL (s.data.toList.take (pos + 1))) w5 ∧ Below w.heap.size w w5 ∧ ∀ j d, pos + 1 ≤ j → j < pos + 1 → s.data.toList[j]? = some d → plN d.toNat = false) := by
          refine ⟨?_, hb5, fun j d h1 h2 => by omega⟩
          rw [HP.out]
          exact hu5
        clear hby hu5 hu4 hu2 hb4 ho4 ho5 hit4 hit2 hnx HP hsl hix
        go_wp2
        go_roundg (gk - 1)
        case measure => omega
        case rel => exact ⟨pos + 1, pos + 1, by omega, by go_num, Nat.le_refl _, hit5, HJ⟩
      · have hpl : plN c.toNat = false := by simpa using hpl
        have hr5 := r5 hpl
        rw [hpl] at r3
        have hit2 := Lib.iterAt_heap wr w1.heap.size s pos (pos + (Utf8.decode s pos).2) hit
        have hb2 := Lib.below_iterAt HI.out.2.1 (k := w1.heap.size) (Nat.le_of_lt hlt1) s (pos + (Utf8.decode s pos).2)
        have hu2 := HI.out.1.iterAt hit (pos + (Utf8.decode s pos).2)
        have hst := stands_any (Utf8.decode s pos).1 (wr.iterAt w1.heap.size s (pos + (Utf8.decode s pos).2))
        rw [r3] at hst
        have HJ : Hid (Bu 81 [] w.heap.size w.heap.size (61 :: wrL (s.data.toList.take dn)) (wr.iterAt w1.heap.size s (pos + (Utf8.decode s pos).2)) ∧ Below w.heap.size w (wr.iterAt w1.heap.size s (pos + (Utf8.decode s pos).2)) ∧ ∀ j d, dn ≤ j → j < pos + (Utf8.decode s pos).2 → s.data.toList[j]? = some d → plN d.toNat = false) := by
          refine ⟨hu2, hb2, fun j d h1 h2 h3 => ?_⟩
          by_cases hj : j < pos
          · exact HI.out.2.2 j d h1 hj h3
          · exact hr5 j d (by omega) h2 h3
        clear HI hr5 r3 r4 r5 hit hu2 hb2 hc
        generalize (Utf8.decode s pos).1 = rn at *
        generalize (Utf8.decode s pos).2 = wd at *
        generalize wr.iterAt w1.heap.size s (pos + wd) = W1 at *
        go_wp2_with (go_at_call 149; refine hst.mono ?_; rintro e w3 ⟨rfl, rfl⟩)
        go_roundg (n - (pos + wd))
        case measure => omega
        case rel => exact ⟨pos + wd, dn, by omega, rfl, by omega, hit2, HJ⟩
    · have hnx : ∀ ty, (Instr.next (.pointer (some ⟨w1.heap.size, 0, none⟩)) true ty).run Tryz.prog wr = _ := fun ty => Lib.run_next_end_at wr w1.heap.size s pos ty hit (by rw [HS.out]; omega)
      obtain rfl : pos = n := by omega
      have HP : Hid (wrL s.data.toList = wrL (s.data.toList.take dn) ++ escL (s.extract dn pos).data.toList) := by
        have h1 := wrL_part s dn pos hdn HI.out.2.2
        rw [List.take_of_length_le (by omega)] at h1
        exact h1
      have hsl := fun W => part_end (P := Tryz.prog) W 9 Tryz.underlying9 s dn _ (by rw [HS.out]; omega) rfl
      rw [HS.out] at hsl
      have hes : (s.extract dn pos).size ≤ pos := by rw [extract_size _ _ _ (by rw [HS.out]; omega)]; omega
      have hwl : (61 :: wrL (s.data.toList.take dn)).length ≤ 1 + 3 * pos := by
        have := wrL_len (s.data.toList.take dn)
        rw [List.length_take] at this
        simp only [List.length_cons]
        omega
      generalize s.extract dn pos = q at hsl HP hes
      have hes1 := writeEscaped_any okB w.heap.size w.heap.size (61 :: wrL (s.data.toList.take dn)) q wr HI.out.1 (by omega) HI.out.2.1.size
      have HB : Hid (Below w.heap.size w wr) := HI.out.2.1
      generalize wrL (s.data.toList.take dn) = L at hes1 HP hwl
      clear hit HI
      go_wp2_with (go_at_call 150; refine hes1.mono ?_; rintro e w4 ⟨rfl, ⟨hu4, hb4⟩, ho4⟩)
      have hst := bstring_any w.heap.size w.heap.size (61 :: L ++ escL q.data.toList) w4 hu4
      rw [show 61 :: L ++ escL q.data.toList = 61 :: wrL s.data.toList by rw [HP.out]; rfl] at hst
      clear hes1
      go_wp2_with (go_at_call 62; refine hst.mono ?_; rintro e w5 ⟨rfl, hb5⟩)
      go_wp2
      go_ret
      exact ⟨rfl, (HB.out.trans hb4).trans hb5⟩
end Go.Proofs.YtcochbcaillldaaGreatDoor.Sc
