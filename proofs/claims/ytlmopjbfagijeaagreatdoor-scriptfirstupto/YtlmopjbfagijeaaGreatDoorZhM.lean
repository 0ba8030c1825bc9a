import Derived.Test.YtlmopjbfagijeaaGreatDoorZgM
namespace Go.Proofs.YtlmopjbfagijeaaGreatDoor.Sc
open Go.RowKit Go.Lib Go.Deep Go.Shelf

theorem ib_free (d : UInt8) (p : List UInt8) (hp : d ∉ p) : Lib.indexByte p d = -1 := by rw [← index_one]; exact index_free d p hp
theorem ib_cut (d : UInt8) (p r : List UInt8) (hp : d ∉ p) : Lib.indexByte (p ++ d :: r) d = (p.length : Int) := by rw [← index_one]; exact index_cut d p r hp
theorem sIndex (s : ByteArray) (w : World) : Calls Tryz.prog 137 #[.string s, .string { data := #[10] }] w fun e w' => e = .returned (.int .i64 (Lib.indexByte s.data.toList 10)) ∧ w' = w := Any.stringslite_Index_one (ρ := idxRen) { idxLays with } s 10 w
set_option maxRecDepth 20000 in
set_option maxHeartbeats 400000 in
theorem scut_miss (s : ByteArray) (h : (10 : UInt8) ∉ s.data.toList) (w : World) :
    Calls Tryz.prog 115 #[.string s, .string { data := #[10] }] w fun e w' => e = .returned (.tuple #[.string s, .string { data := #[] }, .bool false]) ∧ w' = w := by
  have hi := sIndex s w
  rw [ib_free 10 _ h] at hi
  clear h
  go_enter Tryz.func115, Tryz.ntmps115
  go_wp2_with (go_at_call 137; refine hi.mono ?_; rintro e w1 ⟨rfl, rfl⟩; clear hi)
  go_ret3
  exact ⟨rfl, rfl⟩
theorem cut_parts (s : ByteArray) (a b : List UInt8) (hs : s.data.toList = a ++ 10 :: b) : s.extract 0 a.length = str a ∧ s.extract (a.length + 1) s.size = str b := by
  have hl : s.size = a.length + 1 + b.length := by rw [size_eq, hs]; simp; omega
  constructor
  · apply ByteArray.ext
    apply Array.toList_inj.1
    rw [extract_data, hs]
    simp [str]
  · apply ByteArray.ext
    apply Array.toList_inj.1
    rw [extract_data, hs, hl]
    have e : (a ++ 10 :: b).drop (a.length + 1) = b := by
      rw [← List.drop_drop]
      simp
    rw [e, List.take_of_length_le (by omega)]
    simp [str]
set_option maxRecDepth 20000 in
set_option maxHeartbeats 400000 in
theorem scut_hit (s : ByteArray) (a b : List UInt8) (hs : s.data.toList = a ++ 10 :: b) (h : (10 : UInt8) ∉ a) (hz : s.size ≤ 1125899906842624) (w : World) :
    Calls Tryz.prog 115 #[.string s, .string { data := #[10] }] w fun e w' => e = .returned (.tuple #[.string (str a), .string (str b), .bool true]) ∧ w' = w.drew := by
  have hi := sIndex s w
  rw [hs, ib_cut 10 _ _ h] at hi
  have hl : s.size = a.length + 1 + b.length := by rw [size_eq, hs]; simp; omega
  obtain ⟨e1, e2⟩ := cut_parts s a b hs
  rw [← e1, ← e2]
  generalize a.length = n at *
  have hnn : (0 : Int) ≤ (n : Int) := by omega
  have hnl : (n : Int) ≤ (s.size : Int) := by omega
  have hnn1 : (0 : Int) ≤ (n : Int) + 1 := by omega
  have hnl1 : (n : Int) + 1 ≤ (s.size : Int) := by omega
  have hwn : IntKind.i64.wrap ((n : Int) + 1) = (n : Int) + 1 := by rw [IntKind.wrap_i64]; omega
  have mixed := bstrLays.mixed
  clear hs e1 e2 hl
  go_enter Tryz.func115, Tryz.ntmps115
  go_wp2_with (go_at_call 137; refine hi.mono ?_; rintro e w1 ⟨rfl, rfl⟩; clear hi)
  go_region_o
  go_wp2
  go_ret3
  exact ⟨rfl, rfl⟩
set_option maxRecDepth 20000 in
set_option maxHeartbeats 400000 in
theorem cut_miss (s : ByteArray) (h : (10 : UInt8) ∉ s.data.toList) (w : World) :
    Calls Tryz.prog 73 #[.string s, .string { data := #[10] }] w fun e w' => e = .returned (.tuple #[.string s, .string { data := #[] }, .bool false]) ∧ w' = w := by
  have hc := scut_miss s h w
  clear h
  go_enter Tryz.func73, Tryz.ntmps73
  go_wp2_with (go_at_call 115; refine hc.mono ?_; rintro e w1 ⟨rfl, rfl⟩; clear hc)
  go_ret3
  exact ⟨rfl, rfl⟩
set_option maxRecDepth 20000 in
set_option maxHeartbeats 400000 in
theorem cut_hit (s : ByteArray) (a b : List UInt8) (hs : s.data.toList = a ++ 10 :: b) (h : (10 : UInt8) ∉ a) (hz : s.size ≤ 1125899906842624) (w : World) :
    Calls Tryz.prog 73 #[.string s, .string { data := #[10] }] w fun e w' => e = .returned (.tuple #[.string (str a), .string (str b), .bool true]) ∧ w' = w.drew := by
  have hc := scut_hit s a b hs h hz w
  clear h hs
  go_enter Tryz.func73, Tryz.ntmps73
  go_wp2_with (go_at_call 115; refine hc.mono ?_; rintro e w1 ⟨rfl, rfl⟩; clear hc)
  go_ret3
  exact ⟨rfl, rfl⟩
end Go.Proofs.YtlmopjbfagijeaaGreatDoor.Sc

namespace Go.Proofs.YtlmopjbfagijeaaGreatDoor.Sc
open Go.RowKit Go.Lib Go.Deep Go.Shelf
open Go.Proofs.YtlmopjbfagijeaaGreatDoor.Pa (glue cutS cut_glue glue_cons cut_of)

/-- a text's lines -/
noncomputable def lnsL (l : List UInt8) : List ByteArray := ((cutS 10 l).1 ++ if (cutS 10 l).2.isEmpty then [] else [(cutS 10 l).2]).map str
theorem lnsL_nil : lnsL [] = [] := rfl
theorem lnsL_free {l : List UInt8} (h : (10 : UInt8) ∉ l) (h0 : l ≠ []) : lnsL l = [str l] := by
  have e := cut_of 10 [] l (by simp) h
  rw [show glue 10 [] ++ l = l by simp [glue]] at e
  unfold lnsL
  rw [e]
  have : l.isEmpty = false := by simpa using h0
  simp [this]
theorem lnsL_cut {a b : List UInt8} (h : (10 : UInt8) ∉ a) : lnsL (a ++ 10 :: b) = str a :: lnsL b := by
  have hb := cut_glue 10 b
  have e := cut_of 10 (a :: (cutS 10 b).1) (cutS 10 b).2 (fun p hp => by
    rcases List.mem_cons.1 hp with rfl | hp
    · exact h
    · exact hb.2.1 p hp) hb.2.2
  rw [glue_cons, List.append_assoc, hb.1, List.append_assoc] at e
  unfold lnsL
  rw [show a ++ 10 :: b = a ++ ([10] ++ b) from rfl, e]
  rfl
/-- the first byte of a line feed, if there is one -/
theorem cut_or (l : List UInt8) : (10 : UInt8) ∉ l ∨ ∃ a b, l = a ++ 10 :: b ∧ (10 : UInt8) ∉ a := by
  induction l with
  | nil => exact .inl (by simp)
  | cons x l ih =>
    by_cases hx : x = 10
    · exact .inr ⟨[], l, by rw [hx]; rfl, by simp⟩
    · rcases ih with h | ⟨a, b, rfl, h⟩
      · exact .inl (by simp; exact ⟨fun e => hx e.symm, h⟩)
      · exact .inr ⟨x :: a, b, rfl, by simp; exact ⟨fun e => hx e.symm, h⟩⟩
/-- all lines: the state, the line of the first error, its code -/
noncomputable def runS (S : St) (N k : Int) : List ByteArray → St × Int × Int
  | [] => if S.pl = 3 then (S, 0, 0) else (S, 0, 220)
  | s :: ls => if (lineS S N s).2.2 ≠ 0 then (S, k, (lineS S N s).2.2) else runS (lineS S N s).1 (lineS S N s).2.1 (k + 1) ls
theorem Mem.below {B rb : Nat} {S : St} {sd N : Int} {w w' : World} (h : Mem B rb S sd N w) (hb : Below w.heap.size w w') : Mem B rb S sd N w' := by
  obtain ⟨V, ao, ac, p, v, M⟩ := h
  exact ⟨V, ao, ac, p, v, M.hB, M.rd.only (S := []) ⟨hb.os, hb.tape, hb.output, hb.size, fun k hk _ => hb.block k hk⟩ (by simp), M.pp, Sq.owns_below M.tp hb, M.tn, M.mv, Sq.owns_below M.row hb, fun x hx => Sq.owns_below (M.ops x hx) hb, M.apart, M.sd0, M.len, M.lens, M.tlen, M.in4, M.plr⟩
theorem cut_any (t : ByteArray) (h0 : t.data.toList ≠ []) (hz : t.size ≤ 1125899906842624) (w : World) : ∃ f rest c wc, Calls Tryz.prog 73 #[.string t, .string { data := #[10] }] w (fun e w' => e = .returned (.tuple #[.string f, .string rest, .bool c]) ∧ w' = wc) ∧ Below w.heap.size w wc ∧ lnsL t.data.toList = f :: lnsL rest.data.toList ∧ rest.size < t.size := by
  rcases cut_or t.data.toList with h | ⟨a, b, hs, h⟩
  · refine ⟨t, { data := #[] }, false, w, cut_miss t h w, Below.refl _ _, ?_, ?_⟩
    · rw [lnsL_free h h0, str_of]
      rfl
    · rw [size_eq t]
      show 0 < _
      exact List.length_pos_iff.2 h0
  · refine ⟨str a, str b, true, w.drew, cut_hit t a b hs h hz w, bd1 w, ?_, ?_⟩
    · rw [hs, lnsL_cut h]
      simp [str]
    · rw [str_size, size_eq t, hs]
      simp
      omega
theorem lineS_said (S : St) (N : Int) (s : ByteArray) (h : 0 ≤ N ∧ N ≤ 20000) (hc : (lineS S N s).2.2 = 0) : 0 ≤ (lineS S N s).2.1 ∧ (lineS S N s).2.1 ≤ 20000 := by
  revert hc
  unfold lineS
  split
  · intro _; exact h
  · split
    · intro _; exact h
    · split
      · intro _; exact h
      · split
        · intro _; exact h
        · intro _
          dsimp only
          omega
set_option maxRecDepth 20000 in
set_option maxHeartbeats 1000000 in
theorem read_any (B rb : Nat) (S0 : St) (text : ByteArray) (hz : text.size ≤ 1125899906842624) (w : World) (hm : Mem B rb S0 0 0 w) (hG : GlB B w) :
    Calls Tryz.prog 36 #[.pointer (some ⟨rb, 0, none⟩), .string text] w fun e w' => e = .returned (.tuple #[.int .i64 (runS S0 0 1 (lnsL text.data.toList)).2.1, .int .i64 (runS S0 0 1 (lnsL text.data.toList)).2.2]) ∧ Below B w w' ∧ ((runS S0 0 1 (lnsL text.data.toList)).2.2 = 0 → ∃ N, Mem B rb (runS S0 0 1 (lnsL text.data.toList)).1 N N w') := by
  obtain ⟨R, hR⟩ : ∃ R, runS S0 0 1 (lnsL text.data.toList) = R := ⟨_, rfl⟩
  obtain ⟨M, hM⟩ : ∃ M, text.size = M := ⟨_, rfl⟩
  rw [hR]
  rw [hM] at hz
  have HM0 : Hid (Mem B rb S0 0 0 w ∧ Below B w w) := ⟨hm, Below.refl _ _⟩
  have HGl : Hid (GlB B w) := hG
  have HR0 : Hid (runS S0 0 1 (lnsL text.data.toList) = R) := hR
  clear hm hG hR
  go_enter Tryz.func36, Tryz.ntmps36
  go_wp2_with fail
  go_loopg [1, 6] M (fun gk x1 x4 wr => ∃ (t : ByteArray) (S : St) (N : Int) (k : Nat), t.size = gk ∧ x1 = .string t ∧ x4 = .int .i64 ((k : Int) + 1) ∧ k + gk ≤ M ∧ (0 ≤ N ∧ N ≤ 20000) ∧ Hid (runS S N ((k : Int) + 1) (lnsL t.data.toList) = R) ∧ Hid (Mem B rb S N N wr ∧ Below B w wr))
  case atStart => exact ⟨text, S0, 0, 0, hM, rfl, rfl, by omega, by omega, HR0, HM0⟩
  case round =>
    obtain ⟨t, S, N, k, hgk, rfl, rfl, hk, hN, HRR, HMM⟩ := hrel
    clear HM0 HR0 hM
    by_cases h0 : t.data.toList = []
    · obtain rfl : t = { data := #[] } := ByteArray.ext (Array.toList_inj.1 h0)
      obtain ⟨V, ao, ac, p, v, MV⟩ := HMM.out.1
      have k0 := MV.rd.cells.1
      by_cases h3 : S.pl = 3
      · have hRe : R = (S, 0, 0) := by rw [← HRR.out]; exact if_pos h3
        rw [h3] at k0
        have HF : Hid (Below B w wr ∧ (R.2.2 = 0 → ∃ N, Mem B rb R.1 N N wr)) := ⟨HMM.out.2, fun _ => by rw [hRe]; exact ⟨N, HMM.out.1⟩⟩
        have HRe : Hid (R = _) := hRe
        clear MV HRR hRe
        go_wp2
        go_ret2
        refine ⟨?_, HF.out⟩
        rw [HRe.out]
        rfl
      · have hRe : R = (S, 0, 220) := by rw [← HRR.out]; exact if_neg h3
        have h3b : (S.pl != 3) = true := by simpa using h3
        have HF : Hid (Below B w wr ∧ (R.2.2 = 0 → ∃ N, Mem B rb R.1 N N wr)) := ⟨HMM.out.2, fun h => by rw [hRe] at h; exact absurd h (show (220 : Int) ≠ 0 by decide)⟩
        have HRe : Hid (R = _) := hRe
        clear MV HRR hRe
        go_wp2
        go_ret2
        refine ⟨?_, HF.out⟩
        rw [HRe.out]
        rfl
    · have hne : (t.toList != ([] : List UInt8)) = true := by rw [ByteArray.toList_eq]; simpa using h0
      have hne2 : (t.toList == ([] : List UInt8)) = false := by rw [ByteArray.toList_eq]; simpa using h0
      obtain ⟨f, rest, c, wc, hcut, hbc, hln, hrs⟩ := cut_any t h0 (by omega) wr
      rw [hln] at HRR
      have hMc : Mem B rb S N N wc := HMM.out.1.below hbc
      have hbw : Below B w wc := HMM.out.2.trans (hbc.mono (Nat.le_trans HGl.out.le HMM.out.2.size))
      have hline := line_step B rb S N f hN wc hMc (HGl.out.to hbw)
      have HB : Hid (Below B w wc) := hbw
      clear hMc hbw hbc h0 hln
      by_cases hc : (lineS S N f).2.2 = 0
      · have hRn : runS S N ((k : Int) + 1) (f :: lnsL rest.data.toList) = runS (lineS S N f).1 (lineS S N f).2.1 ((k : Int) + 1 + 1) (lnsL rest.data.toList) := if_neg (fun h => h hc)
        have hsd := lineS_said S N f hN hc
        have HRN : Hid (runS (lineS S N f).1 (lineS S N f).2.1 ((k : Int) + 1 + 1) (lnsL rest.data.toList) = R) := hRn.symm.trans HRR.out
        rw [hc] at hline
        generalize lineS S N f = T at *
        have HSD : Hid (0 ≤ T.2.1 ∧ T.2.1 ≤ 20000) := hsd
        have hwk : IntKind.i64.wrap ((k : Int) + 1 + 1) = (k : Int) + 1 + 1 := by rw [IntKind.wrap_i64]; omega
        clear HRR hRn HMM hsd hc
        go_wp2_with (go_at_call 73; refine hcut.mono ?_; rintro e w1 ⟨rfl, rfl⟩; clear hcut)
        refine hline.mono ?_
        rintro e w2 ⟨rfl, hb2, hm2⟩
        have HM2 : Hid (Mem B rb T.1 T.2.1 T.2.1 w2 ∧ Below B w w2) := ⟨hm2 trivial, HB.out.trans hb2⟩
        clear hline hb2 hm2
        go_wp2
        go_roundg (rest.size)
        case measure => omega
        case rel => exact ⟨rest, T.1, T.2.1, k + 1, rfl, rfl, by go_num, by omega, HSD.out, by have h := HRN.out; exact h, HM2⟩
      · have hRn : R = (S, (k : Int) + 1, (lineS S N f).2.2) := HRR.out.symm.trans (if_pos hc)
        have hcB : ((lineS S N f).2.2 != 0) = true := by simpa using hc
        have HRN : Hid (R = (S, (k : Int) + 1, (lineS S N f).2.2)) := hRn
        generalize lineS S N f = T at *
        have HC : Hid (T.2.2 ≠ 0) := hc
        clear HRR hRn HMM hc
        go_wp2_with (go_at_call 73; refine hcut.mono ?_; rintro e w1 ⟨rfl, rfl⟩; clear hcut)
        refine hline.mono ?_
        rintro e w2 ⟨rfl, hb2, -⟩
        have HM2 : Hid (Below B w w2) := HB.out.trans hb2
        clear hline hb2
        go_wp2
        go_ret2
        rw [HRN.out]
        exact ⟨rfl, HM2.out, fun h => absurd h HC.out⟩
end Go.Proofs.YtlmopjbfagijeaaGreatDoor.Sc

namespace Go.Proofs.YtlmopjbfagijeaaGreatDoor.Sc
open Go.RowKit Go.Lib Go.Deep

/-- all but rows of bytes stay -/
def Keep5 (w w' : World) : Prop := ∀ (k : Nat) (o : Obj), (∀ cs fr, o ≠ .cells cs 5 fr) → w.heap[k]? = some o → w'.heap[k]? = some o
theorem keep5_freeze {w : World} {g : Nat} {cur : Array Value} {fr : Nat × Nat} (hg : w.heap[g]? = some (.cells cur 5 fr)) (j n : Nat) : Keep5 w (w.drew.freeze ⟨g, j, none⟩ n) := fun k o ho h => by
  have hne : k ≠ g := fun e => by
    rw [e, hg] at h
    exact ho _ _ (Option.some.inj h).symm
  have h2 : w.drew.heap[k]? = some o := h
  unfold World.freeze
  split
  · exact h2
  · simp only [Array.getElem?_modify, if_neg (Ne.symm hne)]
    exact h2
set_option maxHeartbeats 1000000 in
set_option maxRecDepth 100000 in
theorem zstring2 (pl sd : Int) (q : PlR) (B b : Nat) (l : List UInt8) (w : World) (h : Bz pl sd q B b l w) :
    Calls Tryz.prog 62 #[.pointer (some ⟨b, 12, none⟩)] w fun e w' => e = .returned (.string (str l)) ∧ Below B w w' ∧ Keep5 w w' := by
  obtain ⟨p, hB, v, hbk, hown, hne, hn0⟩ := h.at
  clear h
  have hB : Hid (B ≤ b) := hB
  by_cases h0 : l = []
  · obtain rfl := hn0 h0
    subst h0
    have hUS : ∀ (W : World) (q : Option Addr), (Builtin.unsafeString_ #[161, 3] 9 #[.pointer q, .int .i64 0]).run Tryz.prog W = .ok (.string ByteArray.empty) W := fun W q => by
      have h := Any.unsafeString_none bstrLays bstrExtra W q
      rw [show bstrRen.t 127 = 161 from rfl, show bstrRen.t 3 = 3 from rfl, show bstrRen.t 9 = 9 from rfl] at h
      exact h
    have mixed := bstrLays.mixed
    have c1 : w.drew.cell? ⟨b, 13, none⟩ = some (.slice none 0 0) := by
      have : w.drew.heap[b]? = some (.cells (RdrC pl sd q p (.slice none 0 0)) 83 (0, 0)) := hbk
      rw [Lib.cell_of_heap this]; rfl
    have hSD : (Builtin.unsafeSliceData_ #[51] 161 #[.slice none 0 0]).run Tryz.prog w.drew = .ok (.pointer none) w.drew := sd_none _ _ _ _
    go_enter Tryz.func62, Tryz.ntmps62
    go_wp2
    go_region_o
    all_goals (go_wp2; go_ret; exact ⟨rfl, Below.drew (Below.refl B w), fun _ _ _ h => h⟩)
  have hl0 : l.length ≠ 0 := by simpa using h0
  obtain ⟨g, cap, cur, rfl, hbg, hg, hnc, hcm, hcs, htake⟩ : ∃ g cap cur, v = .slice (some ⟨g, 0, none⟩) l.length cap ∧ B ≤ g ∧ w.heap[g]? = some (.cells cur 5 (0, 0)) ∧ l.length ≤ cap ∧ cap ≤ maxLen ∧ cur.size = cap * 1 ∧ cur.toList.take (l.length * 1) = byteCells l := by
    rcases hown.2 with ⟨_, hz⟩ | ⟨g, cap, cur, hv, r⟩
    · exact absurd hz hl0
    · exact ⟨g, cap, cur, hv, r⟩
  have c1 : w.drew.cell? ⟨b, 13, none⟩ = some (.slice (some ⟨g, 0, none⟩) l.length cap) := by
    have : w.drew.heap[b]? = some (.cells (RdrC pl sd q p (.slice (some ⟨g, 0, none⟩) l.length cap)) 83 (0, 0)) := hbk
    rw [Lib.cell_of_heap this]; rfl
  have hSD : (Builtin.unsafeSliceData_ #[51] 161 #[.slice (some ⟨g, 0, none⟩) l.length cap]).run Tryz.prog w.drew = .ok (.pointer (some ⟨g, 0, none⟩)) w.drew :=
    Lib.run_unsafeSliceData_row _ _ _ _ _ _ (by omega)
  have hUS : (Builtin.unsafeString_ #[161, 3] 9 #[.pointer (some ⟨g, 0, none⟩), .int .i64 l.length]).run Tryz.prog w.drew = .ok (.string (str l)) (w.drew.freeze ⟨g, 0, none⟩ l.length) := by
    refine Lib.run_unsafeString_row w.drew 161 3 9 5 bstrLays.t127 bstrExtra.cellsByte g cur.size (by have hg' : w.drew.heap[g]? = some (.cells cur 5 (0, 0)) := hg; simp [World.shape?, hg']) l h0 (by omega) (by unfold maxLen at hcm; omega) ?_
    intro j x hx
    have := hown.cells (g := g) rfl j (.int .u8 x.toNat) (by simp [byteCells, hx])
    exact this
  have hbF : Hid (Below B w (w.drew.freeze ⟨g, 0, none⟩ l.length)) := Lib.below_freeze (Below.drew (Below.refl B w)) (p := ⟨g, 0, none⟩) hbg _
  have hkF : Hid (Keep5 w (w.drew.freeze ⟨g, 0, none⟩ l.length)) := keep5_freeze hg _ _
  clear hown htake
  have mixed := bstrLays.mixed
  go_enter Tryz.func62, Tryz.ntmps62
  go_wp2
  go_region_o
  all_goals (go_wp2; go_ret; exact ⟨rfl, hbF.out, hkF.out⟩)

theorem Rb.keep5 {rb : Nat} {pl sd : Int} {q : PlR} {p v : Value} {w w' : World} (h : Rb rb pl sd q p v w) (hk : Keep5 w w') : Rb rb pl sd q p v w' := hk rb _ (fun cs fr e => by
  injection e with _ e2 _
  revert e2
  decide) h
theorem row_keep5 {w w' : World} (hk : Keep5 w w') {B e sz n : Nat} {y : Value} {xs : List Value} (h : w.ownsRow B e sz y n xs) (h5 : e ≠ 5) : w'.ownsRow B e sz y n xs :=
  Sq.owns_keep h fun g hg => by
    obtain ⟨cur, hc⟩ := Sq.owns_block h hg
    rw [hc]
    exact hk g _ (fun cs fr e1 => by
      injection e1 with _ e2 _
      exact h5 e2) hc
theorem Rb.set10 {rb : Nat} {pl sd : Int} {q : PlR} {p v : Value} {w : World} (h : Rb rb pl sd q p v w) (x : ByteArray) : Rb rb pl sd { q with tape := x } p v (w.setCell ⟨rb, 10, none⟩ (.string x)) := by
  unfold Rb at h ⊢
  simp [World.setCell, Array.getElem?_modify, h, RdrC]
theorem Rb.frozen {rb : Nat} {pl sd : Int} {q : PlR} {p v : Value} {w : World} (h : Rb rb pl sd q p v w) (j : Nat) : w.frozen? ⟨rb, j, none⟩ = false := Lib.frozen_of_heap h j
theorem Rb.cell10 {rb : Nat} {pl sd : Int} {q : PlR} {p v : Value} {w : World} (h : Rb rb pl sd q p v w) : w.cell? ⟨rb, 10, none⟩ = some (.string q.tape) := by
  have h0 : w.heap[rb]? = _ := h
  rw [Lib.cell_of_heap h0]
  rfl
set_option maxRecDepth 20000 in
set_option maxHeartbeats 1000000 in
theorem whole_any (B rb : Nat) (S : St) (sd N : Int) (V : List ActV) (ao : Option Addr) (ac : Nat) (p v : Value) (w : World) (hBw : B ≤ w.heap.size) (M : MemV B rb S sd N V ao ac p v w) :
    Calls Tryz.prog 37 #[.pointer (some ⟨rb, 0, none⟩)] w fun e w' => e = .returned (.agg (PlR.cells { S.q ao V.length ac with tape := str S.tape })) ∧ Below B w w' ∧ w'.ownsRow B 36 9 (.slice ao V.length ac) V.length (actsC (V.map (·.1))) ∧ (∀ x ∈ V, w'.ownsRow B 54 6 (.slice x.1.ops x.1.nops x.1.cops) x.1.nops (opsC x.2)) := by
  obtain ⟨w0, hw0⟩ : ∃ w0, w.alloc (.cells #[.int .i64 0, .int .i64 0, .int .i64 0, .int .i64 0, .int .i64 0, .int .i64 0, .bool false, .string { data := #[] }, .string { data := #[] }, .slice none 0 0] 26) = w0 := ⟨_, rfl⟩
  have hb0 : Below w.heap.size w w0 := by rw [← hw0]; exact (Below.refl _ _).alloc (Nat.le_refl _) _
  have hr0 : w0.heap[w.heap.size]? = some (.cells #[.int .i64 0, .int .i64 0, .int .i64 0, .int .i64 0, .int .i64 0, .int .i64 0, .bool false, .string { data := #[] }, .string { data := #[] }, .slice none 0 0] 26 (0, 0)) := by rw [← hw0]; exact heap_alloc_new _ _
  have hrd0 : Rb rb S.pl sd (S.q ao V.length ac) p v w0 := M.rd.only (S := []) ⟨hb0.os, hb0.tape, hb0.output, hb0.size, fun k hk _ => hb0.block k hk⟩ (by simp)
  have htp0 := Sq.owns_below M.tp hb0
  have hne : v.ownBlock ≠ some rb := fun e => M.rd.no5 M.tp (by decide) e rfl
  have hz : Bz S.pl sd (S.q ao V.length ac) B rb S.tape w0 := by
    have h : BzAt S.pl sd (S.q ao V.length ac) B rb p S.tape w0 := ⟨M.hB, v, hrd0, htp0, hne, M.tn⟩
    rcases M.pp with e | e
    · rw [e] at h; exact .inl h
    · rw [e] at h; exact .inr h
  have hs := zstring2 S.pl sd (S.q ao V.length ac) B rb S.tape w0 hz
  obtain ⟨n, hn⟩ : ∃ n, V.length = n := ⟨_, rfl⟩
  obtain ⟨tp, htp⟩ : ∃ tp, str S.tape = tp := ⟨_, rfl⟩
  obtain ⟨q, hq⟩ : ∃ q, S.q ao V.length ac = q := ⟨_, rfl⟩
  have HM : Hid (MemV B rb S sd N V ao ac p v w ∧ Rb rb S.pl sd q p v w0 ∧ Below w.heap.size w w0 ∧ w0.heap[w.heap.size]? = some (.cells #[.int .i64 0, .int .i64 0, .int .i64 0, .int .i64 0, .int .i64 0, .int .i64 0, .bool false, .string { data := #[] }, .string { data := #[] }, .slice none 0 0] 26 (0, 0))) := ⟨M, by rw [← hq]; exact hrd0, hb0, hr0⟩
  have HW0 : Hid (Unit → _ = w0) := fun _ => hw0
  have HBw : Hid (B ≤ w.heap.size) := hBw
  rw [htp] at hs ⊢
  rw [hq]
  clear M hne hz htp hw0 hb0 hr0 hrd0 htp0 hBw hq hn
  go_enter Tryz.func37, Tryz.ntmps37
  go_upto_region 1 with fail
  rw [HW0.out ()]
  clear HW0
  go_wp2_with (first | (go_at_call 62; refine hs.mono ?_; rintro e w1 ⟨rfl, hb1, hk1⟩; clear hs; have hR1 := HM.out.2.1.keep5 hk1; have c10 := hR1.cell10; have f10 := hR1.frozen 10; have HR2 : Hid (Rb rb S.pl sd { q with tape := tp } p v (w1.setCell ⟨rb, 10, none⟩ (.string tp))) := hR1.set10 tp; obtain ⟨-, -, d2, d3, d4, d5, d6, d7, d8, d9, d11, -⟩ := HR2.out.cells; dsimp only at d2 d3 d4 d5 d6 d7 d8 d9 d11; have d10 : (w1.setCell ⟨rb, 10, none⟩ (.string tp)).cell? ⟨rb, 10, none⟩ = some (.string tp) := HR2.out.cell10; have HK : Hid (Below B w0 w1 ∧ Keep5 w0 w1) := ⟨hb1, hk1⟩; have HZ : Hid ((w1.setCell ⟨rb, 10, none⟩ (.string tp)).heap[w.heap.size]? = some (.cells #[.int .i64 0, .int .i64 0, .int .i64 0, .int .i64 0, .int .i64 0, .int .i64 0, .bool false, .string { data := #[] }, .string { data := #[] }, .slice none 0 0] 26 (0, 0))) := (Below.heap_setCell _ _ _ _ (Nat.ne_of_gt HM.out.1.rd.lt)).trans (hk1 _ _ (fun cs fr e => by injection e with _ e2 _; revert e2; decide) HM.out.2.2.2); clear hR1 hb1 hk1) | (refine wpList_store_row rfl 26 (.tmp 2) (.tmp 14) rfl w.heap.size (PlR.cells { q with tape := tp }) rfl rfl 26 _ HZ.out sizePl rfl (plr_one _) ?_))
  refine bodyPost_ret (results_cell1 rfl _ _ w.heap.size 26 _ (0, 0) _ rfl (setRow_heap _ _ _ _ _ _ HZ.out) Tryz.underlying26 rfl sizePl) rfl ?_
  have kr : ∀ {B e sz n : Nat} {y : Value} {xs : List Value}, w.ownsRow B e sz y n xs → e ≠ 5 → e ≠ 83 → e ≠ 26 → ((w1.setCell ⟨rb, 10, none⟩ (.string tp)).setRow w.heap.size (PlR.cells { q with tape := tp })).ownsRow B e sz y n xs := fun {B e sz n y xs} ho h5 hr hp => by
    have h1 := row_keep5 HK.out.2 (Sq.owns_below ho HM.out.2.2.1) h5
    have h2 : (w1.setCell ⟨rb, 10, none⟩ (.string tp)).ownsRow B e sz y n xs := (HM.out.2.1.keep5 HK.out.2).keeps h1 hr 10 _
    exact Sq.owns_keep h2 fun g hg => setRow_other _ _ _ _ (by have := (ho.lt g hg).2; omega)
  refine ⟨rfl, ?_, kr HM.out.1.row (by decide) (by decide) (by decide), fun x hx => kr (HM.out.1.ops x hx) (by decide) (by decide) (by decide)⟩
  have hb2 : Below B w (w1.setCell ⟨rb, 10, none⟩ (.string tp)) := ((HM.out.2.2.1.mono HBw.out).trans HK.out.1).setCell (p := ⟨rb, 10, none⟩) HM.out.1.hB _
  exact hb2.trans ⟨rfl, rfl, rfl, by simp, fun i hi => setRow_other _ _ _ _ (by have := HBw.out; omega)⟩
end Go.Proofs.YtlmopjbfagijeaaGreatDoor.Sc

namespace Go.Proofs.YtlmopjbfagijeaaGreatDoor.Sc
open Go.RowKit Go.Lib Go.Deep

/-- the reader at its beginning -/
def S00 : St := ⟨0, 0, 0, 0, 0, 0, 0, false, nil_, [], []⟩
theorem moved_nil : Moved [] [] := ⟨rfl, fun i x h => by simp at h⟩
theorem mem_new (B rb : Nat) (w : World) (hB : B ≤ rb) (h : w.heap[rb]? = some (.cells (RdrC 0 0 (S00.q none 0 0) (.pointer none) (.slice none 0 0)) 83 (0, 0))) : Mem B rb S00 0 0 w :=
  ⟨[], none, 0, .pointer none, .slice none 0 0, hB, h, .inl rfl, World.ownsRow_nil _ _ _ _, fun _ => rfl, moved_nil, World.ownsRow_nil _ _ _ _, (fun x hx => absurd hx (by simp)), (fun V0 x e => by simp at e), Int.le_refl _, Int.le_refl _, (fun x hx => absurd hx (by simp)), Int.le_refl _, (fun e => absurd (show (0 : Int) = 4 from e) (by decide)), (show (0 : Int) ≤ 0 ∧ (0 : Int) ≤ 4 by decide)⟩
theorem results_ct {P : Program} {fn : Func} {p v : Tmp} {ty : TypeId} (h : fn.results = #[.cell p ty, .tmp v]) (tmps : Array Value) (w : World) (g : Nat) (t : TypeId) (cs : Array Value) (fr : Nat × Nat) (d : TypeDesc)
    (hp : tmps.getD p undef = .pointer (some ⟨g, 0, none⟩)) (hg : w.heap[g]? = some (.cells cs t fr)) (hu : P.underlying ty = some d) (hd : (match d with | .struct _ | .array _ _ => true | _ => false) = true) (hi : (P.info? ty).map (·.size) = some cs.size) :
    (results fn tmps).run P w = .ok (.tuple #[.agg cs, tmps.getD v undef]) w := by
  have hp' : tmps[p]?.getD undef = .pointer (some ⟨g, 0, none⟩) := by simpa using hp
  simp [results, h, hp', asAddr, run_loadVar_row w g t ty cs fr d hg hu hd hi]
set_option maxRecDepth 20000 in
set_option maxHeartbeats 1000000 in
theorem parse_no (B0 : Nat) (text : ByteArray) (hz : text.size ≤ 1125899906842624) (w : World) (hG : GlB B0 w) (hc : (runS S00 0 1 (lnsL text.data.toList)).2.2 ≠ 0) :
    Calls Tryz.prog 15 #[.string text] w fun e w' => ∃ g, e = .returned (.tuple #[.agg #[.int .i64 0, .int .i64 0, .int .i64 0, .int .i64 0, .int .i64 0, .int .i64 0, .bool false, .string { data := #[] }, .string { data := #[] }, .slice none 0 0], .iface 86 (.pointer (some ⟨g, 0, none⟩))]) ∧ w.heap.size ≤ g ∧ w'.heap[g]? = some (.cells #[.int .i64 (runS S00 0 1 (lnsL text.data.toList)).2.1, .int .i64 (runS S00 0 1 (lnsL text.data.toList)).2.2] 88 (0, 0)) ∧ Below w.heap.size w w' := by
  obtain ⟨w2, hw2⟩ : ∃ w2, (w.alloc (.cells #[.int .i64 0, .int .i64 0, .int .i64 0, .int .i64 0, .int .i64 0, .int .i64 0, .bool false, .string { data := #[] }, .string { data := #[] }, .slice none 0 0] 26)).alloc (.cells #[.int .i64 0, .int .i64 0, .int .i64 0, .int .i64 0, .int .i64 0, .int .i64 0, .int .i64 0, .int .i64 0, .bool false, .string { data := #[] }, .string { data := #[] }, .slice none 0 0, .pointer none, .slice none 0 0] 83) = w2 := ⟨_, rfl⟩
  have hb2 : Below w.heap.size w w2 := by rw [← hw2]; exact ((Below.refl _ _).alloc (Nat.le_refl _) _).alloc (by simp) _
  have hr2 : w2.heap[w.heap.size]? = some (.cells #[.int .i64 0, .int .i64 0, .int .i64 0, .int .i64 0, .int .i64 0, .int .i64 0, .bool false, .string { data := #[] }, .string { data := #[] }, .slice none 0 0] 26 (0, 0)) := by
    rw [← hw2]
    exact (Lib.alloc_old _ _ _ (by simp)).trans (heap_alloc_new _ _)
  have hq2 : w2.heap[w.heap.size + 1]? = some (.cells #[.int .i64 0, .int .i64 0, .int .i64 0, .int .i64 0, .int .i64 0, .int .i64 0, .int .i64 0, .int .i64 0, .bool false, .string { data := #[] }, .string { data := #[] }, .slice none 0 0, .pointer none, .slice none 0 0] 83 (0, 0)) := by
    have h := heap_alloc_new (w.alloc (.cells #[.int .i64 0, .int .i64 0, .int .i64 0, .int .i64 0, .int .i64 0, .int .i64 0, .bool false, .string { data := #[] }, .string { data := #[] }, .slice none 0 0] 26)) (.cells #[.int .i64 0, .int .i64 0, .int .i64 0, .int .i64 0, .int .i64 0, .int .i64 0, .int .i64 0, .int .i64 0, .bool false, .string { data := #[] }, .string { data := #[] }, .slice none 0 0, .pointer none, .slice none 0 0] 83)
    rw [hw2, show (w.alloc (.cells #[.int .i64 0, .int .i64 0, .int .i64 0, .int .i64 0, .int .i64 0, .int .i64 0, .bool false, .string { data := #[] }, .string { data := #[] }, .slice none 0 0] 26)).heap.size = w.heap.size + 1 by simp] at h
    exact h
  have hs2 : w2.heap.size = w.heap.size + 1 + 1 := by rw [← hw2]; simp
  have hm2 := mem_new (w.heap.size + 1) (w.heap.size + 1) w2 (Nat.le_refl _) hq2
  have hG2 : GlB (w.heap.size + 1) w2 := by
    have h := hG.to (hb2.mono hG.le)
    exact ⟨h.it, h.et, Nat.lt_of_lt_of_le h.b0 (Nat.le_trans hG.le (Nat.le_succ _)), Nat.lt_of_lt_of_le h.b1 (Nat.le_trans hG.le (Nat.le_succ _)), Nat.lt_of_lt_of_le h.b2 (Nat.le_trans hG.le (Nat.le_succ _)), by omega⟩
  have hrd := read_any (w.heap.size + 1) (w.heap.size + 1) S00 text hz w2 hm2 hG2
  generalize runS S00 0 1 (lnsL text.data.toList) = R at *
  obtain ⟨S, ln, cd⟩ := R
  dsimp only at hrd hc ⊢
  have hcB : (cd != 0) = true := by simpa using hc
  have HW2 : Hid (Unit → _ = w2) := fun _ => hw2
  have HB2 : Hid (Below w.heap.size w w2 ∧ w2.heap[w.heap.size]? = some (.cells #[.int .i64 0, .int .i64 0, .int .i64 0, .int .i64 0, .int .i64 0, .int .i64 0, .bool false, .string { data := #[] }, .string { data := #[] }, .slice none 0 0] 26 (0, 0)) ∧ w2.heap.size = w.heap.size + 1 + 1) := ⟨hb2, hr2, hs2⟩
  clear hw2 hb2 hr2 hq2 hs2 hm2 hG2 hG hc hz
  go_enter Tryz.func15, Tryz.ntmps15
  go_wp2_with fail
  rw [HW2.out ()]
  refine hrd.mono ?_
  rintro e w3 ⟨rfl, hb3, -⟩
  clear hrd HW2
  obtain ⟨W4, hW4⟩ : ∃ W4, w3.alloc (.cells #[.int .i64 ln, .int .i64 cd] 88) = W4 := ⟨_, rfl⟩
  have hb4 : Below w3.heap.size w3 W4 := by rw [← hW4]; exact (Below.refl _ _).alloc (Nat.le_refl _) _
  have hl4 : W4.heap[w3.heap.size]? = some (.cells #[.int .i64 ln, .int .i64 cd] 88 (0, 0)) := by rw [← hW4]; exact heap_alloc_new _ _
  have h3s : w.heap.size + 1 + 1 ≤ w3.heap.size := by have := hb3.size; have := HB2.out.2.2; omega
  have h3r : w3.heap[w.heap.size]? = some (.cells #[.int .i64 0, .int .i64 0, .int .i64 0, .int .i64 0, .int .i64 0, .int .i64 0, .bool false, .string { data := #[] }, .string { data := #[] }, .slice none 0 0] 26 (0, 0)) := (hb3.block _ (by omega)).trans HB2.out.2.1
  have h4r : W4.heap[w.heap.size]? = some (.cells #[.int .i64 0, .int .i64 0, .int .i64 0, .int .i64 0, .int .i64 0, .int .i64 0, .bool false, .string { data := #[] }, .string { data := #[] }, .slice none 0 0] 26 (0, 0)) := (hb4.block _ (by omega)).trans h3r
  have HZ : Hid (W4.heap[w.heap.size]? = some (.cells #[.int .i64 0, .int .i64 0, .int .i64 0, .int .i64 0, .int .i64 0, .int .i64 0, .bool false, .string { data := #[] }, .string { data := #[] }, .slice none 0 0] 26 (0, 0))) := h4r
  have HF : Hid (Below w.heap.size w W4 ∧ w.heap.size < w3.heap.size ∧ W4.heap[w3.heap.size]? = some (.cells #[.int .i64 ln, .int .i64 cd] 88 (0, 0))) := ⟨(HB2.out.1.trans (hb3.mono (Nat.le_succ _))).trans (hb4.mono (by omega)), by omega, hl4⟩
  have HW4 : Hid (Unit → _ = W4) := fun _ => hW4
  clear hW4 hb4 hl4 h3r h4r hb3 h3s
  go_wp2_with (rw [HW4.out ()]; refine wpList_store_row rfl 26 (.tmp 2) (.tmp 14) rfl w.heap.size #[.int .i64 0, .int .i64 0, .int .i64 0, .int .i64 0, .int .i64 0, .int .i64 0, .bool false, .string { data := #[] }, .string { data := #[] }, .slice none 0 0] rfl rfl 26 _ HZ.out sizePl rfl (by simp [Value.oneCell']) ?_)
  refine bodyPost_ret (results_ct rfl _ _ w.heap.size 26 _ (0, 0) _ rfl (setRow_heap _ _ _ _ _ _ HZ.out) Tryz.underlying26 rfl sizePl) rfl ?_
  refine ⟨w3.heap.size, rfl, Nat.le_of_lt HF.out.2.1, ?_, ?_⟩
  · exact (setRow_other _ _ _ _ (Nat.ne_of_gt HF.out.2.1)).trans HF.out.2.2
  · exact HF.out.1.trans ⟨rfl, rfl, rfl, by simp, fun i hi => setRow_other _ _ _ _ (by omega)⟩
set_option maxRecDepth 20000 in
set_option maxHeartbeats 1000000 in
theorem parse_ok (B0 : Nat) (text : ByteArray) (hz : text.size ≤ 1125899906842624) (w : World) (hG : GlB B0 w) (hc : (runS S00 0 1 (lnsL text.data.toList)).2.2 = 0) :
    Calls Tryz.prog 15 #[.string text] w fun e w' => ∃ (V : List ActV) (ao : Option Addr) (ac : Nat), e = .returned (.tuple #[.agg (PlR.cells { (runS S00 0 1 (lnsL text.data.toList)).1.q ao V.length ac with tape := str (runS S00 0 1 (lnsL text.data.toList)).1.tape }), .nilIface]) ∧ Moved (runS S00 0 1 (lnsL text.data.toList)).1.V V ∧ w'.ownsRow (w.heap.size + 1) 36 9 (.slice ao V.length ac) V.length (actsC (V.map (·.1))) ∧ (∀ x ∈ V, w'.ownsRow (w.heap.size + 1) 54 6 (.slice x.1.ops x.1.nops x.1.cops) x.1.nops (opsC x.2)) ∧ Below w.heap.size w w' := by
  obtain ⟨w2, hw2⟩ : ∃ w2, (w.alloc (.cells #[.int .i64 0, .int .i64 0, .int .i64 0, .int .i64 0, .int .i64 0, .int .i64 0, .bool false, .string { data := #[] }, .string { data := #[] }, .slice none 0 0] 26)).alloc (.cells #[.int .i64 0, .int .i64 0, .int .i64 0, .int .i64 0, .int .i64 0, .int .i64 0, .int .i64 0, .int .i64 0, .bool false, .string { data := #[] }, .string { data := #[] }, .slice none 0 0, .pointer none, .slice none 0 0] 83) = w2 := ⟨_, rfl⟩
  have hb2 : Below w.heap.size w w2 := by rw [← hw2]; exact ((Below.refl _ _).alloc (Nat.le_refl _) _).alloc (by simp) _
  have hr2 : w2.heap[w.heap.size]? = some (.cells #[.int .i64 0, .int .i64 0, .int .i64 0, .int .i64 0, .int .i64 0, .int .i64 0, .bool false, .string { data := #[] }, .string { data := #[] }, .slice none 0 0] 26 (0, 0)) := by
    rw [← hw2]
    exact (Lib.alloc_old _ _ _ (by simp)).trans (heap_alloc_new _ _)
  have hq2 : w2.heap[w.heap.size + 1]? = some (.cells #[.int .i64 0, .int .i64 0, .int .i64 0, .int .i64 0, .int .i64 0, .int .i64 0, .int .i64 0, .int .i64 0, .bool false, .string { data := #[] }, .string { data := #[] }, .slice none 0 0, .pointer none, .slice none 0 0] 83 (0, 0)) := by
    have h := heap_alloc_new (w.alloc (.cells #[.int .i64 0, .int .i64 0, .int .i64 0, .int .i64 0, .int .i64 0, .int .i64 0, .bool false, .string { data := #[] }, .string { data := #[] }, .slice none 0 0] 26)) (.cells #[.int .i64 0, .int .i64 0, .int .i64 0, .int .i64 0, .int .i64 0, .int .i64 0, .int .i64 0, .int .i64 0, .bool false, .string { data := #[] }, .string { data := #[] }, .slice none 0 0, .pointer none, .slice none 0 0] 83)
    rw [hw2, show (w.alloc (.cells #[.int .i64 0, .int .i64 0, .int .i64 0, .int .i64 0, .int .i64 0, .int .i64 0, .bool false, .string { data := #[] }, .string { data := #[] }, .slice none 0 0] 26)).heap.size = w.heap.size + 1 by simp] at h
    exact h
  have hs2 : w2.heap.size = w.heap.size + 1 + 1 := by rw [← hw2]; simp
  have hm2 := mem_new (w.heap.size + 1) (w.heap.size + 1) w2 (Nat.le_refl _) hq2
  have hG2 : GlB (w.heap.size + 1) w2 := by
    have h := hG.to (hb2.mono hG.le)
    exact ⟨h.it, h.et, Nat.lt_of_lt_of_le h.b0 (Nat.le_trans hG.le (Nat.le_succ _)), Nat.lt_of_lt_of_le h.b1 (Nat.le_trans hG.le (Nat.le_succ _)), Nat.lt_of_lt_of_le h.b2 (Nat.le_trans hG.le (Nat.le_succ _)), by omega⟩
  have hrd := read_any (w.heap.size + 1) (w.heap.size + 1) S00 text hz w2 hm2 hG2
  generalize runS S00 0 1 (lnsL text.data.toList) = R at *
  obtain ⟨S, ln, cd⟩ := R
  dsimp only at hrd hc ⊢
  subst hc
  have HW2 : Hid (Unit → _ = w2) := fun _ => hw2
  have HB2 : Hid (Below w.heap.size w w2 ∧ w2.heap[w.heap.size]? = some (.cells #[.int .i64 0, .int .i64 0, .int .i64 0, .int .i64 0, .int .i64 0, .int .i64 0, .bool false, .string { data := #[] }, .string { data := #[] }, .slice none 0 0] 26 (0, 0)) ∧ w2.heap.size = w.heap.size + 1 + 1) := ⟨hb2, hr2, hs2⟩
  clear hw2 hb2 hr2 hq2 hs2 hm2 hG2 hG hz
  go_enter Tryz.func15, Tryz.ntmps15
  go_wp2_with fail
  rw [HW2.out ()]
  refine hrd.mono ?_
  rintro e w3 ⟨rfl, hb3, hm3⟩
  clear hrd HW2
  obtain ⟨N, V, ao, ac, p, v, M⟩ := hm3 trivial
  have hwh := whole_any (w.heap.size + 1) (w.heap.size + 1) S N N V ao ac p v w3 (by have := hb3.size; have := HB2.out.2.2; omega) M
  have HMV : Hid (Moved S.V V) := M.mv
  obtain ⟨pc, hpc⟩ : ∃ pc, PlR.cells { S.q ao V.length ac with tape := str S.tape } = pc := ⟨_, rfl⟩
  have hpl : pc.size = 10 := by rw [← hpc]; rfl
  have hp1 : (pc.all fun x => x.oneCell') = true := by rw [← hpc]; exact plr_one _
  have HPC : Hid (PlR.cells { S.q ao V.length ac with tape := str S.tape } = pc) := hpc
  rw [hpc] at hwh
  have h3r : w3.heap[w.heap.size]? = some (.cells #[.int .i64 0, .int .i64 0, .int .i64 0, .int .i64 0, .int .i64 0, .int .i64 0, .bool false, .string { data := #[] }, .string { data := #[] }, .slice none 0 0] 26 (0, 0)) := (hb3.block _ (by omega)).trans HB2.out.2.1
  have HB3 : Hid (Below w.heap.size w w3 ∧ w3.heap[w.heap.size]? = some (.cells #[.int .i64 0, .int .i64 0, .int .i64 0, .int .i64 0, .int .i64 0, .int .i64 0, .bool false, .string { data := #[] }, .string { data := #[] }, .slice none 0 0] 26 (0, 0)) ∧ w.heap.size + 1 ≤ w3.heap.size) := ⟨HB2.out.1.trans (hb3.mono (Nat.le_succ _)), h3r, by have := hb3.size; have := HB2.out.2.2; omega⟩
  clear M hb3 hm3 hpc h3r
  go_wp2_with (first | (go_at_call 37; refine hwh.mono ?_; rintro e w4 ⟨rfl, hb4, ha4, ho4⟩; clear hwh; have h4r : w4.heap[w.heap.size]? = some (.cells #[.int .i64 0, .int .i64 0, .int .i64 0, .int .i64 0, .int .i64 0, .int .i64 0, .bool false, .string { data := #[] }, .string { data := #[] }, .slice none 0 0] 26 (0, 0)) := (hb4.block _ (Nat.lt_succ_self _)).trans HB3.out.2.1; have HZ : Hid (w4.heap[w.heap.size]? = some (.cells #[.int .i64 0, .int .i64 0, .int .i64 0, .int .i64 0, .int .i64 0, .int .i64 0, .bool false, .string { data := #[] }, .string { data := #[] }, .slice none 0 0] 26 (0, 0))) := h4r; have HF : Hid (Below w.heap.size w w4 ∧ w4.ownsRow (w.heap.size + 1) 36 9 (.slice ao V.length ac) V.length (actsC (V.map (·.1))) ∧ ∀ x ∈ V, w4.ownsRow (w.heap.size + 1) 54 6 (.slice x.1.ops x.1.nops x.1.cops) x.1.nops (opsC x.2)) := ⟨HB3.out.1.trans (hb4.mono (Nat.le_succ _)), ha4, ho4⟩; clear hb4 ha4 ho4 h4r) | (refine wpList_store_row rfl 26 (.tmp 2) (.tmp 20) rfl w.heap.size pc rfl rfl 26 _ HZ.out (by rw [hpl]; exact sizePl) (by rw [hpl]; rfl) hp1 ?_))
  refine bodyPost_ret (results_ct rfl _ _ w.heap.size 26 _ (0, 0) _ rfl (setRow_heap _ _ _ _ _ _ HZ.out) Tryz.underlying26 rfl (by rw [hpl]; exact sizePl)) rfl ?_
  have ho : ∀ g, w.heap.size + 1 ≤ g → (w4.setRow w.heap.size pc).heap[g]? = w4.heap[g]? := fun g hg => setRow_other _ _ _ _ (by omega)
  refine ⟨V, ao, ac, ?_, HMV.out, Sq.owns_keep HF.out.2.1 fun g hg => ho g (HF.out.2.1.lt g hg).1, fun x hx => Sq.owns_keep (HF.out.2.2 x hx) fun g hg => ho g ((HF.out.2.2 x hx).lt g hg).1, HF.out.1.trans ⟨rfl, rfl, rfl, by simp, fun i hi => setRow_other _ _ _ _ (by omega)⟩⟩
  rw [HPC.out]
  rfl
end Go.Proofs.YtlmopjbfagijeaaGreatDoor.Sc
