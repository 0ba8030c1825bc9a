import Derived.Test.YthmjjpaengackaaPhA
namespace Go.Proofs.Ythmjjpaengackaa.Po
open Go.RowKit Go.Lib Go.Deep

set_option maxRecDepth 20000 in
set_option maxHeartbeats 4000000 in
theorem finds_any (w : World) (pb q : Nat) (F : List Nat) (nn : Nat) (S : Ps) (hK : Ok w pb q F nn S) (v : Value) (Z : List Int) (hd : Sd w v S.R Z) : Calls Try.prog 21 #[.pointer (some ⟨pb, 0, none⟩), v] w fun e w' => e = .returned (.bool true) ∧ Below w.heap.size w w' := by
  obtain ⟨ov, qv, rfl, s1, t1⟩ := hd.ex
  obtain ⟨a1, c1, rfl⟩ := s1.form
  obtain ⟨a2, c2, rfl⟩ := t1.form
  obtain ⟨W, hW, hb, k0⟩ := one_new w #[.slice a1 S.R.length c1, .slice a2 Z.length c2] 29
  have hfl := hK.good.fl
  have HK : Hid (∀ V, Below W.heap.size W V → Ok V pb q F nn S) := fun V hV => by
    have hb' := hb.trans (hV.mono hb.size)
    exact ⟨hK.top.below hb', hK.lay.below hb', hK.good, hK.nn⟩
  have HD : Hid (∀ V, Below W.heap.size W V → V.cell? ⟨w.heap.size, 0, none⟩ = some (.slice a1 S.R.length c1) ∧ Below w.heap.size w V) := fun V hV => by
    have k := (hV.block _ (heap_lt k0)).trans k0
    exact ⟨(cell_of_heap k).trans rfl, hb.trans (hV.mono hb.size)⟩
  have HOB : Hid (∀ V (i : Nat), Below W.heap.size W V → i < S.R.length → ∃ o b off, S.R[i]? = some o ∧ a1 = some ⟨b, off, none⟩ ∧ V.cell? ⟨b, off + i * 4, none⟩ = some (.string o.nm) ∧ V.cell? ⟨b, off + i * 4 + 1, none⟩ = some (.string o.tg) ∧ V.cell? ⟨b, off + i * 4 + 2, none⟩ = some (.int .i64 o.bk) ∧ V.cell? ⟨b, off + i * 4 + 3, none⟩ = some (.int .i64 o.ow)) := fun V i hV hi => by
    obtain ⟨o, ho⟩ : ∃ o, S.R[i]? = some o := ⟨_, List.getElem?_eq_getElem hi⟩
    obtain ⟨b, off, e, r⟩ := (s1.below (hb.trans (hV.mono hb.size))).ob ho s1.len
    exact ⟨o, b, off, ho, e, r⟩
  obtain ⟨x0, -⟩ := HD.out W (Below.refl _ _)
  have HCT : Hid (∀ j, Calls Try.prog 10 #[.pointer (some ⟨pb, 0, none⟩)] (W.drewN j) fun e w' => e = .returned (.int .i64 (S.R.length : Int)) ∧ w' = W.drewN j) := fun j => by
    have := HK.out _ (bdr (Below.refl _ W) j)
    exact count_any _ pb q F nn S this.top this.lay
  have B0 : Hid (∀ j, Below W.heap.size W (W.drewN j)) := fun j => bdr (Below.refl _ _) j
  have HG : Hid (Good S) := hK.good
  have nu := num_any
  clear hd s1 t1 k0 hb hK
  go_enter Try.func21, Try.ntmps21
  go_wp2_with fail
  go_quiet ((go_at_call 10; exact Calls.quiet_of_same (HCT.out _)))
  go_wp2_with fail
  go_loopg [5] S.R.length (fun gk i wr => ∃ k : Nat, gk = S.R.length - k ∧ k ≤ S.R.length ∧ i = .int .i64 (k : Int) ∧ Below W.heap.size W wr)
  case atStart => exact ⟨0, by omega, by omega, rfl, B0.out _⟩
  case round =>
    clear x0
    obtain ⟨k, hgk, hkn, rfl, hbe⟩ := hrel
    obtain ⟨x0, hbw⟩ := HD.out wr hbe
    by_cases hk : k < S.R.length
    · have hkI : (k : Int) < (S.R.length : Int) := by omega
      obtain ⟨o, b1, o1, hko, rfl, -⟩ := HOB.out wr k hbe hk
      have hat := at_any wr pb q F nn S (k : Int) (HK.out wr hbe)
      have hrn : rowN S (k : Int) := ⟨by omega, hkI⟩
      have hro : rowAt S (k : Int) = o := by unfold rowAt; rw [Int.toNat_natCast, hko]; rfl
      rw [if_pos hrn, hro, show atE S (k : Int) = 0 from if_pos hrn] at hat
      unfold obV at hat
      have w1' : IntKind.i64.wrap ((k : Int) + 1) = ((k + 1 : Nat) : Int) := by rw [IntKind.wrap_i64]; omega
      -- behind At
      have H2 : Hid (∀ w2, Below wr.heap.size wr w2 → ∃ U, w2.alloc (.cells #[.string o.nm, .string o.tg, .int .i64 o.bk, .int .i64 o.ow] 35) = U ∧ Below W.heap.size W U ∧ U.heap[w2.heap.size]? = some (.cells #[.string o.nm, .string o.tg, .int .i64 o.bk, .int .i64 o.ow] 35 (0, 0))) := fun w2 hb2 => by
        obtain ⟨U, hU, hbU, kU⟩ := one_new w2 #[.string o.nm, .string o.tg, .int .i64 o.bk, .int .i64 o.ow] 35
        have hb2' := hbe.trans (hb2.mono hbe.size)
        exact ⟨U, hU, hb2'.trans (hbU.mono hb2'.size), kU⟩
      clear hbe hbw
      go_wp2_with fail
      refine hat.mono ?_
      rintro e w2 ⟨rfl, hb2⟩
      clear x0
      obtain ⟨U, hU, hbU, kU⟩ := H2.out w2 hb2
      obtain ⟨o', b1', o1', hko', e1, r0, r1, r2, r3⟩ := HOB.out U k hbU hk
      rw [hko] at hko'
      obtain rfl := Option.some.inj hko'
      injection e1 with e1
      injection e1 with e2 e3
      subst e2 e3
      obtain ⟨x0, -⟩ := HD.out U hbU
      have u0 : U.cell? ⟨w2.heap.size, 0, none⟩ = some (.string o.nm) := (cell_of_heap kU).trans rfl
      have u1 : U.cell? ⟨w2.heap.size, 1, none⟩ = some (.string o.tg) := (cell_of_heap kU).trans rfl
      have u2 : U.cell? ⟨w2.heap.size, 2, none⟩ = some (.int .i64 o.bk) := (cell_of_heap kU).trans rfl
      have u3 : U.cell? ⟨w2.heap.size, 3, none⟩ = some (.int .i64 o.ow) := (cell_of_heap kU).trans rfl
      have HVB : Hid (∀ j, Below W.heap.size W (U.drewN j) ∧ (U.drewN j).cell? ⟨w2.heap.size, 0, none⟩ = some (.string o.nm) ∧ (U.drewN j).cell? ⟨w2.heap.size, 3, none⟩ = some (.int .i64 o.ow)) := fun j => ⟨bdr hbU j, u0, u3⟩
      have HOW : Hid (∀ V, Below W.heap.size W V → 0 ≤ o.ow → Calls Try.prog 39 #[.pointer (some ⟨pb, 0, none⟩), .int .i64 o.ow] V fun e w' => e = .returned (.tuple #[.int .i64 (k : Int), .int .i64 0]) ∧ w' = V) := fun V hV h0 => byOwner_any V pb q F nn S (HK.out V hV) k o hko h0
      have HNM : Hid (∀ V, Below W.heap.size W V → o.nm.size ≠ 0 → Calls Try.prog 40 #[.pointer (some ⟨pb, 0, none⟩), .string o.nm] V fun e w' => e = .returned (.tuple #[.int .i64 (k : Int), .int .i64 0]) ∧ w' = V) := fun V hV h0 => byName_any V pb q F nn S (HK.out V hV) k o hko h0
      have hemp : (o.nm.size = 0 ∧ o.nm = { data := #[] }) ∨ (o.nm.size ≠ 0 ∧ o.nm.toList.isEmpty = false) := by
        by_cases q1 : o.nm.size = 0
        · exact .inl ⟨q1, ba_ext (List.eq_nil_of_length_eq_zero q1)⟩
        · right
          refine ⟨q1, ?_⟩
          rw [toList_data]
          cases hl : o.nm.data.toList with
          | nil => exact absurd (show o.nm.data.toList.length = 0 by rw [hl]; rfl) q1
          | cons a l => rfl
      obtain ⟨nm, tg, bk, ow⟩ := o
      dsimp only at *
      clear hb2 hat H2 hbU kU hko hro hrn
      go_wp2_with fail
      go_quiet ((go_at_call 13; exact Calls.quiet_of_same (nu _ _)))
      refine with_world (Q := fun V => Below W.heap.size W V ∧ V.cell? ⟨w2.heap.size, 0, none⟩ = some (.string nm) ∧ V.cell? ⟨w2.heap.size, 3, none⟩ = some (.int .i64 ow)) _ (HVB.out _) ?_
      rintro V ⟨hbV, v0, v3⟩
      have HBV : Hid (Below W.heap.size W V) := hbV
      clear u0 u1 u2 u3 r0 r1 r2 r3 x0 HVB hbV
      by_cases h0 : 0 ≤ ow
      · have how := HOW.out V HBV.out h0
        rcases hemp with ⟨q1, hnm⟩ | ⟨q1, hnm⟩
        · subst hnm
          go_wp2_with (first
            | (go_at_call 39; refine how.mono ?_; rintro e w4 ⟨rfl, e4⟩; obtain rfl := e4.symm)
            | (go_at_call 13; refine (nu _ _).mono ?_; rintro e w4 ⟨rfl, e4⟩; obtain rfl := e4.symm))
          go_roundg (S.R.length - (k + 1))
          case measure => omega
          case rel => exact ⟨k + 1, rfl, by omega, rfl, HBV.out⟩
        · have hbn := HNM.out V HBV.out q1
          go_wp2_with (first
            | (go_at_call 39; refine how.mono ?_; rintro e w4 ⟨rfl, e4⟩; obtain rfl := e4.symm)
            | (go_at_call 40; refine hbn.mono ?_; rintro e w4 ⟨rfl, e4⟩; obtain rfl := e4.symm)
            | (go_at_call 13; refine (nu _ _).mono ?_; rintro e w4 ⟨rfl, e4⟩; obtain rfl := e4.symm))
          go_roundg (S.R.length - (k + 1))
          case measure => omega
          case rel => exact ⟨k + 1, rfl, by omega, rfl, HBV.out⟩
      · rcases hemp with ⟨q1, hnm⟩ | ⟨q1, hnm⟩
        · subst hnm
          go_wp2_with (first
            | (go_at_call 13; refine (nu _ _).mono ?_; rintro e w4 ⟨rfl, e4⟩; obtain rfl := e4.symm))
          go_roundg (S.R.length - (k + 1))
          case measure => omega
          case rel => exact ⟨k + 1, rfl, by omega, rfl, HBV.out⟩
        · have hbn := HNM.out V HBV.out q1
          go_wp2_with (first
            | (go_at_call 40; refine hbn.mono ?_; rintro e w4 ⟨rfl, e4⟩; obtain rfl := e4.symm)
            | (go_at_call 13; refine (nu _ _).mono ?_; rintro e w4 ⟨rfl, e4⟩; obtain rfl := e4.symm))
          go_roundg (S.R.length - (k + 1))
          case measure => omega
          case rel => exact ⟨k + 1, rfl, by omega, rfl, HBV.out⟩
    · obtain rfl : k = S.R.length := by omega
      have hkI : ¬ (S.R.length : Int) < (S.R.length : Int) := by omega
      have HBW : Hid (Below w.heap.size w wr) := hbw
      clear hbe hbw
      go_wp2
      go_ret
      exact ⟨rfl, HBW.out⟩
end Go.Proofs.Ythmjjpaengackaa.Po
