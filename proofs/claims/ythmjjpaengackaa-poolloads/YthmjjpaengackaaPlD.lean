import Derived.Test.YthmjjpaengackaaPlC
namespace Go.Proofs.Ythmjjpaengackaa.Po
open Go.RowKit Go.Lib Go.Deep

/-- a state that is filled, and the data that it is filled from -/
structure Jv (w0 wr : World) (q b : Nat) (ov qv : Value) (F : List Nat) (nn : Nat) (S : Ps) : Prop where
  lay : Lay wr q F nn S
  fr : ∀ k, k ∈ F → w0.heap.size ≤ k
  be : Below w0.heap.size w0 wr
  bx : wr.heap[b]? = some (.cells #[ov, qv] 29 (0, 0))
  good : Good S
theorem Jv.below {w0 wr W : World} {q b nn : Nat} {ov qv : Value} {F : List Nat} {S : Ps} (h : Jv w0 wr q b ov qv F nn S) (hb : Below wr.heap.size wr W) : Jv w0 W q b ov qv F nn S := ⟨h.lay.below hb, h.fr, h.be.trans (hb.mono h.be.size), (hb.block _ (heap_lt h.bx)).trans h.bx, h.good⟩
theorem Jv.turn {w0 wr W : World} {q b nn N : Nat} {ov qv : Value} {F : List Nat} {S S' : Ps} (h : Jv w0 wr q b ov qv F nn S) (hT : Turn F wr W q N S') (hG : Good S') : ∃ F', Jv w0 W q b ov qv F' N S' := by
  have hbx := (hT.1.block _ (heap_lt h.bx) (h.lay.notin h.bx (by decide))).trans h.bx
  obtain ⟨ho, F', hL, hF⟩ := hT
  refine ⟨F', hL, fun k hk => ?_, h.be.trans (ho.below h.be.size h.fr), hbx, hG⟩
  rcases hF k hk with h1 | h1
  · exact h.fr k h1
  · exact Nat.le_trans h.be.size h1
/-- what filling answers -/
structure Fld (w0 : World) (q f n : Nat) (R : List Ob) (Z : List Int) (e : Ending) (w' : World) : Prop where
  ex : ∃ b : Bool, e = .returned (.bool b) ∧ (b = true ↔ R.length = n ∧ Fits f R Z) ∧ (b = true → ∃ F', Lay w' q F' R.length ⟨f, R, Z.map Int.toNat⟩ ∧ (∀ k, k ∈ F' → w0.heap.size ≤ k) ∧ Good ⟨f, R, Z.map Int.toNat⟩)
  be : Below w0.heap.size w0 w'
theorem fld_no {w0 w' : World} {q f n : Nat} {R : List Ob} {Z : List Int} (h : ¬ (R.length = n ∧ Fits f R Z)) (hb : Below w0.heap.size w0 w') : Fld w0 q f n R Z (.returned (.bool false)) w' := ⟨⟨false, rfl, ⟨fun e => (by cases e), fun e => absurd e h⟩, fun e => (by cases e)⟩, hb⟩
theorem sq_full (f : Nat) (R : List Ob) (Z : List Int) : SQ f R Z Z.length = ⟨f, R, Z.map Int.toNat⟩ := by unfold SQ; rw [List.take_length]
set_option maxRecDepth 20000 in
set_option maxHeartbeats 4000000 in
theorem fill_any (w0 w : World) (q : Nat) (F : List Nat) (f s : Nat) (hf : 1 ≤ f ∧ f ≤ 65536) (hs : 1 ≤ s ∧ s ≤ 64) (hL : Lay w q F 0 (blankP f s)) (hF : ∀ k, k ∈ F → w0.heap.size ≤ k) (hbe : Below w0.heap.size w0 w) (v : Value) (R : List Ob) (Z : List Int) (hd : Sd w0 v R Z) (hsz : ∀ (k : Nat) o, R[k]? = some o → o.nm.size ≤ maxLen ∧ o.tg.size ≤ maxLen) (hZ : Z.length ≤ 9223372036854775807) (hR : R.length ≤ 9223372036854775807) :
    Calls Try.prog 43 #[.pointer (some ⟨q, 0, none⟩), v] w fun e w' => Fld w0 q f (f + s) R Z e w' := by
  obtain ⟨ov, qv, rfl, s1, t1⟩ := hd.ex
  obtain ⟨a1, c1, rfl⟩ := s1.form
  obtain ⟨a2, c2, rfl⟩ := t1.form
  obtain ⟨W, hW, hb, k0⟩ := one_new w #[.slice a1 R.length c1, .slice a2 Z.length c2] 29
  have J0 : Jv w0 W q w.heap.size (.slice a1 R.length c1) (.slice a2 Z.length c2) F 0 (blankP f s) := ⟨hL.below hb, hF, hbe.trans (hb.mono hbe.size), k0, good_blank hf hs [] List.nodup_nil (fun i hi => by cases hi)⟩
  have x0 : W.cell? ⟨w.heap.size, 0, none⟩ = some (.slice a1 R.length c1) := (cell_of_heap k0).trans rfl
  obtain ⟨n, hn⟩ : ∃ n, f + s = n := ⟨_, rfl⟩
  have hq1 : ∃ ar cr, W.cell? ⟨q, 1, none⟩ = some (.slice ar n cr) := by
    obtain ⟨rv, mv, oa, na, room, h, rfl, hI⟩ := J0.lay
    obtain ⟨ar, cr, rfl⟩ := owns_form hI.hr
    refine ⟨ar, cr, ?_⟩
    rw [← hn]
    have := hI.cells.2.1
    rw [show (blankP f s).R.length = f + s by simp [blankP]] at this
    exact this
  obtain ⟨ar, cr, hq1⟩ := hq1
  have B0 : Hid (∀ j, Below W.heap.size W (W.drewN j)) := fun j => bdr (Below.refl _ _) j
  have HS1 : Hid (See w0 4 (.slice a1 R.length c1) R.length (obsC R)) := s1
  have HT1 : Hid (See w0 1 (.slice a2 Z.length c2) Z.length (zsC Z)) := t1
  have HJ0 : Hid _ := J0
  rw [hn]
  by_cases hlen : R.length = n
  · have hne : ((R.length : Int) != (n : Int)) = false := by rw [hlen]; simp
    have HLEN : Hid (R.length = n) := hlen
    have HSZ : Hid (∀ (k : Nat) o, R[k]? = some o → o.nm.size ≤ maxLen ∧ o.tg.size ≤ maxLen) := hsz
    have hnb : n ≤ 65600 := by omega
    clear hd s1 t1 J0 hb k0 hL hF hbe hsz hlen
    go_enter Try.func43, Try.ntmps43
    go_wp2_with fail
    go_quiet (fail)
    refine with_world (Q := fun V => Below W.heap.size W V) _ (B0.out _) ?_
    intro V hV
    have JV := HJ0.out.below hV
    have y0 : V.cell? ⟨w.heap.size, 0, none⟩ = some (.slice a1 R.length c1) := (cell_of_heap JV.bx).trans rfl
    rw [← sk_zero f s R (by have := HLEN.out; omega)] at JV
    have HJV : Hid _ := JV
    -- a round of the rows
    have HROW : Hid (∀ (wr : World) (F' : List Nat) (k : Nat), Jv w0 wr q w.heap.size (.slice a1 R.length c1) (.slice a2 Z.length c2) F' k (SK f R k) → k < n →
        ∃ o b1 o1, R[k]? = some o ∧ a1 = some ⟨b1, o1, none⟩ ∧ wr.cell? ⟨b1, o1 + k * 4, none⟩ = some (.string o.nm) ∧ wr.cell? ⟨b1, o1 + k * 4 + 1, none⟩ = some (.string o.tg) ∧ wr.cell? ⟨b1, o1 + k * 4 + 2, none⟩ = some (.int .i64 o.bk) ∧ wr.cell? ⟨b1, o1 + k * 4 + 3, none⟩ = some (.int .i64 o.ow) ∧
        ∃ U, wr.alloc (.cells #[.string o.nm, .string o.tg, .int .i64 o.bk, .int .i64 o.ow] 35) = U ∧ U.cell? ⟨wr.heap.size, 0, none⟩ = some (.string o.nm) ∧ U.cell? ⟨wr.heap.size, 1, none⟩ = some (.string o.tg) ∧ U.cell? ⟨wr.heap.size, 2, none⟩ = some (.int .i64 o.bk) ∧ U.cell? ⟨wr.heap.size, 3, none⟩ = some (.int .i64 o.ow) ∧
        Calls Try.prog 60 #[.pointer (some ⟨q, 0, none⟩), .int .i64 (k : Int), .agg #[.string o.nm, .string o.tg, .int .i64 o.bk, .int .i64 o.ow]] U fun e w3 => e = .returned (.bool (decide (mayS (SK f R k) k o))) ∧ (w3.cell? ⟨wr.heap.size, 0, none⟩ = some (.string o.nm) ∧ w3.cell? ⟨wr.heap.size, 1, none⟩ = some (.string o.tg) ∧ w3.cell? ⟨wr.heap.size, 2, none⟩ = some (.int .i64 o.bk) ∧ w3.cell? ⟨wr.heap.size, 3, none⟩ = some (.int .i64 o.ow)) ∧ Hid (Below w0.heap.size w0 w3) ∧
          Hid (mayS (SK f R k) k o → Calls Try.prog 50 #[.agg #[.string o.nm, .string o.tg, .int .i64 o.bk, .int .i64 o.ow]] w3 fun e w4 => e = .returned (.agg #[.string o.nm, .string o.tg, .int .i64 o.bk, .int .i64 o.ow]) ∧
            Calls Try.prog 49 #[.pointer (some ⟨q, 0, none⟩), .int .i64 (k : Int), .agg #[.string o.nm, .string o.tg, .int .i64 o.bk, .int .i64 o.ow]] w4 fun e w5 => e = .returned (.tuple #[]) ∧ Hid (∃ F2, Jv w0 w5 q w.heap.size (.slice a1 R.length c1) (.slice a2 Z.length c2) F2 (k + 1) (SK f R (k + 1))))) := fun wr F' k hJ hk => by
      have hlen := HLEN.out
      obtain ⟨o, hko⟩ : ∃ o, R[k]? = some o := ⟨_, List.getElem?_eq_getElem (by omega)⟩
      obtain ⟨b1, o1, e1, r0, r1, r2, r3⟩ := (HS1.out.below hJ.be).ob hko rfl
      obtain ⟨U, hU, hbU, kU⟩ := one_new wr #[.string o.nm, .string o.tg, .int .i64 o.bk, .int .i64 o.ow] 35
      have hJU := hJ.below hbU
      have hcl : ∀ X : World, Below U.heap.size U X → X.cell? ⟨wr.heap.size, 0, none⟩ = some (.string o.nm) ∧ X.cell? ⟨wr.heap.size, 1, none⟩ = some (.string o.tg) ∧ X.cell? ⟨wr.heap.size, 2, none⟩ = some (.int .i64 o.bk) ∧ X.cell? ⟨wr.heap.size, 3, none⟩ = some (.int .i64 o.ow) := fun X hX => by
        have kX := (hX.block _ (heap_lt kU)).trans kU
        exact ⟨(cell_of_heap kX).trans rfl, (cell_of_heap kX).trans rfl, (cell_of_heap kX).trans rfl, (cell_of_heap kX).trans rfl⟩
      obtain ⟨z0, z1, z2, z3⟩ := hcl U (Below.refl _ _)
      refine ⟨o, b1, o1, hko, e1, r0, r1, r2, r3, U, hU, z0, z1, z2, z3, (mayLie_any U q F' k (SK f R k) k o hJU.lay (HSZ.out k o hko).1 (HSZ.out k o hko).2).mono ?_⟩
      rintro e w3 ⟨rfl, hb3⟩
      have hJ3 := hJU.below hb3
      refine ⟨rfl, hcl w3 hb3, hJ3.be, fun hm => ?_⟩
      obtain ⟨⟨q1, q2, q3, q4⟩⟩ := hm.2
      have hns : o.nm.size ≤ 16 ∧ o.tg.size ≤ 16 := by unfold isText at q1 q2; omega
      refine (owned_any o hns.1 hns.2 w3).mono ?_
      rintro e w4 ⟨rfl, hb4⟩
      have hJ4 := hJ3.below hb4
      have hkl : k < R.length := by omega
      have hG2 : Good (putP (SK f R k) k o) := may_good hJ.good (sk_get hkl) rfl hm
      have how := hG2.ow (i := k) (o := o) (by show ((SK f R k).R.set k o)[k]? = some o; rw [List.getElem?_set_self (by rw [sk_len (by omega)]; exact hkl)])
      refine ⟨rfl, (put_any w4 q F' k (SK f R k) k dOb o hJ4.lay (sk_get hkl) hns.1 (by show (0 : Nat) ≤ 16; omega) (by show (-1 : Int) ≤ -1 ∧ (-1 : Int) ≤ 65600; omega) how ?_ (fun e j x hj hx => other_no hm.2.2 e j x hj hx) (by unfold maxLen; omega)).mono ?_⟩
      · intro e j x _ hx
        rcases hm.1 with h1 | ⟨_, h1⟩
        · exact absurd h1 e
        · exact held_no h1 j x hx
      · rintro e w5 ⟨rfl, hT⟩
        rw [sk_put hko] at hT hG2
        exact ⟨rfl, hJ4.turn hT hG2⟩
    clear JV hV x0 hq1 HJ0 B0
    go_wp2_with fail
    go_loopg [21] n (fun gk i wr => ∃ (k : Nat) (F' : List Nat), gk = n - k ∧ k ≤ n ∧ i = .int .i64 (k : Int) ∧ Jv w0 wr q w.heap.size (.slice a1 R.length c1) (.slice a2 Z.length c2) F' k (SK f R k) ∧ ∀ (j : Nat) o, j < k → R[j]? = some o → mayS (SK f R j) j o)
    case atStart => exact ⟨0, F, by omega, by omega, rfl, HJV.out, fun j o hj => by omega⟩
    case round =>
      clear HJV y0
      obtain ⟨k, F', hgk, hkn, rfl, hJ, hok⟩ := hrel
      by_cases hk : k < n
      · have hkI : (k : Int) < (R.length : Int) := by have := HLEN.out; omega
        obtain ⟨o, b1, o1, hko, rfl, r0, r1, r2, r3, U, hU, z0, z1, z2, z3, hml⟩ := HROW.out wr F' k hJ hk
        have w1' : IntKind.i64.wrap ((k : Int) + 1) = ((k + 1 : Nat) : Int) := by rw [IntKind.wrap_i64]; omega
        have HOK : Hid (∀ (j : Nat) o, j < k → R[j]? = some o → mayS (SK f R j) j o) := hok
        by_cases hm : mayS (SK f R k) k o
        · rw [show decide (mayS (SK f R k) k o) = true from decide_eq_true hm] at hml
          have HK : Hid (R[k]? = some o ∧ mayS (SK f R k) k o) := ⟨hko, hm⟩
          obtain ⟨nm, tg, bk, ow⟩ := o
          dsimp only at *
          clear hJ hok hm hko HROW
          go_wp2_with (first
            | (go_at_call 60; refine hml.mono ?_; rintro e w3 ⟨rfl, ⟨u0, u1, u2, u3⟩, -, HO⟩; have hown := HO.out HK.out.2; clear HO)
            | (go_at_call 50; refine hown.mono ?_; rintro e w4 ⟨rfl, hput⟩)
            | (go_at_call 49; refine hput.mono ?_; rintro e w5 ⟨rfl, HX⟩))
          go_roundg (n - (k + 1))
          case measure => omega
          case rel =>
            obtain ⟨F2, hJ2⟩ := HX.out
            refine ⟨k + 1, F2, rfl, by omega, rfl, hJ2, fun j x hj hx => ?_⟩
            by_cases e : j = k
            · subst e
              rw [HK.out.1] at hx
              obtain rfl := Option.some.inj hx
              exact HK.out.2
            · exact HOK.out j x (by omega) hx
        · rw [show decide (mayS (SK f R k) k o) = false from decide_eq_false hm] at hml
          have HN : Hid (¬ (R.length = n ∧ Fits f R Z)) := fun x => hm (x.2.rows k o hko)
          obtain ⟨nm, tg, bk, ow⟩ := o
          dsimp only at *
          clear hJ hok hm hko HROW
          go_wp2_with (go_at_call 60; refine hml.mono ?_; rintro e w3 ⟨rfl, -, HB3, -⟩)
          go_ret
          exact fld_no HN.out HB3.out
      · obtain rfl : k = n := by omega
        have hkI : ¬ (k : Int) < (R.length : Int) := by have := HLEN.out; omega
        have hJ' : Jv w0 wr q w.heap.size (.slice a1 R.length c1) (.slice a2 Z.length c2) F' k (SQ f R Z 0) := by
          have e : SK f R k = SQ f R Z 0 := by rw [← HLEN.out, sk_full]; rfl
          rw [← e]; exact hJ
        have u1 : wr.cell? ⟨w.heap.size, 1, none⟩ = some (.slice a2 Z.length c2) := (cell_of_heap hJ.bx).trans rfl
        have HOK : Hid (∀ (j : Nat) o, R[j]? = some o → mayS (SK f R j) j o) := fun j o ho => hok j o (by have := some_lt ho; have := HLEN.out; omega) ho
        have HJ : Hid _ := hJ'
        have HQ : Hid (∀ (wr : World) (F' : List Nat) (j : Nat), Jv w0 wr q w.heap.size (.slice a1 R.length c1) (.slice a2 Z.length c2) F' k (SQ f R Z j) → j < Z.length →
            ∃ z b2 o2, Z[j]? = some z ∧ a2 = some ⟨b2, o2, none⟩ ∧ wr.cell? ⟨b2, o2 + j, none⟩ = some (.int .i64 z) ∧ (∃ ar cr, wr.cell? ⟨q, 1, none⟩ = some (.slice ar R.length cr)) ∧
            (rowN (SQ f R Z j) z → ∃ m g cr nm tg bk ow bq, z = (m : Nat) ∧ (m : Int) < (R.length : Int) ∧ wr.cell? ⟨q, 1, none⟩ = some (.slice (some ⟨g, 0, none⟩) R.length cr) ∧ wr.cell? ⟨g, m * 5, none⟩ = some (.string nm) ∧ wr.cell? ⟨g, m * 5 + 1, none⟩ = some (.string tg) ∧ wr.cell? ⟨g, m * 5 + 2, none⟩ = some (.int .i64 bk) ∧ wr.cell? ⟨g, m * 5 + 3, none⟩ = some (.int .i64 ow) ∧ wr.cell? ⟨g, m * 5 + 4, none⟩ = some (.bool bq) ∧
              Calls Try.prog 29 #[.agg #[.string nm, .string tg, .int .i64 bk, .int .i64 ow, .bool bq]] wr fun e w3 => e = .returned (.bool (outL (SQ f R Z j) z)) ∧ Hid (Below w0.heap.size w0 w3) ∧ Hid (outL (SQ f R Z j) z = true → Calls Try.prog 30 #[.pointer (some ⟨q, 0, none⟩), .int .i64 (m : Int)] w3 fun e w4 => e = .returned (.tuple #[]) ∧ Hid (∃ F2, Jv w0 w4 q w.heap.size (.slice a1 R.length c1) (.slice a2 Z.length c2) F2 k (SQ f R Z (j + 1)))))) := fun wr F' j hJ hj => by
          obtain ⟨z, hzj⟩ : ∃ z, Z[j]? = some z := ⟨_, List.getElem?_eq_getElem hj⟩
          obtain ⟨b2, o2, e2, hz2⟩ := (HT1.out.below hJ.be).z hzj rfl
          obtain ⟨rv, mv, oa, na, room, h, hFe, hI⟩ := id hJ.lay
          obtain ⟨ar, cr, hrv⟩ := owns_form hI.hr
          subst hrv
          refine ⟨z, b2, o2, hzj, e2, hz2, ⟨ar, cr, hI.cells.2.1⟩, fun hrn => ?_⟩
          obtain ⟨m, rfl, hi⟩ := row_of hrn
          obtain ⟨g, cap, hvg⟩ := hI.form hi
          injection hvg with hv1 _ hv2
          subst hv1 hv2
          obtain ⟨r0, r1, r2, r3, r4⟩ := hI.row hi
          have hout := isOut_any (rowAt (SQ f R Z j) (m : Int)) (decide (m ∈ (SQ f R Z j).Q)) wr
          have hbo : (decide ((rowAt (SQ f R Z j) (m : Int)).ow = -1) && !decide (m ∈ (SQ f R Z j).Q)) = outL (SQ f R Z j) (m : Int) := by unfold outL; rw [Int.toNat_natCast]
          rw [hbo] at hout
          refine ⟨m, g, _, _, _, _, _, _, rfl, hrn.2, hI.cells.2.1, r0, r1, r2, r3, r4, hout.mono ?_⟩
          rintro e w3 ⟨rfl, hb3⟩
          have hJ3 := hJ.below hb3
          refine ⟨rfl, hJ3.be, fun ho => (spush_any w3 q F' k (SQ f R Z j) m _ hJ3.lay hi hJ.good.ql).mono ?_⟩
          rintro e w4 ⟨rfl, hT⟩
          have hsu := sq_succ (f := f) (R := R) hzj
          rw [Int.toNat_natCast] at hsu
          rw [hsu] at hT
          refine ⟨rfl, hJ3.turn hT ?_⟩
          rw [← hsu]
          exact good_push hJ.good hi (out_iff.1 ho).1 (by have := (out_iff.1 ho).2; rw [Int.toNat_natCast] at this; exact this)
        clear hJ hJ' hok HROW hkn hgk hk
        go_wp2_with fail
        go_loopg [40] Z.length (fun gk i wr => ∃ (j : Nat) (F' : List Nat), gk = Z.length - j ∧ j ≤ Z.length ∧ i = .int .i64 (j : Int) ∧ Jv w0 wr q w.heap.size (.slice a1 R.length c1) (.slice a2 Z.length c2) F' k (SQ f R Z j) ∧ ∀ (i : Nat) z, i < j → Z[i]? = some z → rowN (SQ f R Z i) z ∧ outL (SQ f R Z i) z = true)
        case atStart => exact ⟨0, F', by omega, by omega, rfl, HJ.out, fun i z hi => by omega⟩
        case round =>
          clear HJ u1
          obtain ⟨j, F', hgk, hjn, rfl, hJ, hok⟩ := hrel
          by_cases hj : j < Z.length
          · have hjI : (j : Int) < (Z.length : Int) := by omega
            obtain ⟨z, b2, o2, hzj, rfl, hz2, ⟨ar, cr, hq1⟩, hrow⟩ := HQ.out wr F' j hJ hj
            have w1' : IntKind.i64.wrap ((j : Int) + 1) = ((j + 1 : Nat) : Int) := by rw [IntKind.wrap_i64]; omega
            have HBE : Hid (Below w0.heap.size w0 wr) := hJ.be
            have HOKQ : Hid (∀ (i : Nat) z, i < j → Z[i]? = some z → rowN (SQ f R Z i) z ∧ outL (SQ f R Z i) z = true) := hok
            by_cases hrn : rowN (SQ f R Z j) z
            · obtain ⟨m, g, cr', nm, tg, bk, ow, bq, hzm, hmI, hq1', r0, r1, r2, r3, r4, hout⟩ := hrow hrn
              subst hzm
              have HK : Hid (Z[j]? = some (m : Int) ∧ rowN (SQ f R Z j) (m : Int)) := ⟨hzj, hrn⟩
              cases ho : outL (SQ f R Z j) (m : Int) with
              | true =>
                rw [ho] at hout
                clear hJ hok hrow hzj hrn HQ hq1
                go_wp2_with (first
                  | (go_at_call 29; refine hout.mono ?_; rintro e w3 ⟨rfl, -, HP⟩; have hpu := HP.out rfl; clear HP)
                  | (go_at_call 30; refine hpu.mono ?_; rintro e w4 ⟨rfl, HX⟩))
                go_roundg (Z.length - (j + 1))
                case measure => omega
                case rel =>
                  obtain ⟨F2, hJ2⟩ := HX.out
                  refine ⟨j + 1, F2, rfl, by omega, rfl, hJ2, fun i z hi hz => ?_⟩
                  by_cases e : i = j
                  · subst e
                    rw [HK.out.1] at hz
                    obtain rfl := Option.some.inj hz
                    exact ⟨HK.out.2, ho⟩
                  · exact HOKQ.out i z (by omega) hz
              | false =>
                rw [ho] at hout
                have HN : Hid (¬ (R.length = k ∧ Fits f R Z)) := fun x => by
                  have := (x.2.queue j _ hzj).2
                  rw [ho] at this
                  cases this
                clear hJ hok hrow hzj hrn HQ hq1
                go_wp2_with (go_at_call 29; refine hout.mono ?_; rintro e w3 ⟨rfl, HB3, -⟩)
                go_ret
                exact fld_no HN.out HB3.out
            · have HN : Hid (¬ (R.length = k ∧ Fits f R Z)) := fun x => hrn (x.2.queue j _ hzj).1
              have hrn' : z < 0 ∨ (R.length : Int) ≤ z := by
                by_cases h0 : 0 ≤ z
                · right
                  have : ¬ z < (R.length : Int) := fun h1 => hrn ⟨h0, h1⟩
                  omega
                · left; omega
              clear hJ hok hrow hzj hrn HQ
              rcases hrn' with h0 | h0
              · go_wp2
                go_ret
                exact fld_no HN.out HBE.out
              · have h1 : ¬ z < 0 := by omega
                go_wp2
                go_ret
                exact fld_no HN.out HBE.out
          · obtain rfl : j = Z.length := by omega
            have hjI : ¬ (Z.length : Int) < (Z.length : Int) := by omega
            have hset := isSettled_any wr q F' k _ hJ.lay
            have hiff : decide ((SQ f R Z Z.length).Q.length + cntO (SQ f R Z Z.length).R = (SQ f R Z Z.length).R.length) = true ↔ R.length = k ∧ Fits f R Z := by
              rw [decide_eq_true_eq]
              have e1 : (SQ f R Z Z.length).Q.length = Z.length := by rw [sq_full]; simp
              have e2 : (SQ f R Z Z.length).R = R := rfl
              rw [e1, e2]
              exact ⟨fun h => ⟨HLEN.out, HOK.out, fun i z hz => hok i z (some_lt hz) hz, h⟩, fun h => h.2.all⟩
            have HEND : Hid (∀ w3, Below wr.heap.size wr w3 → Fld w0 q f k R Z (.returned (.bool (decide ((SQ f R Z Z.length).Q.length + cntO (SQ f R Z Z.length).R = (SQ f R Z Z.length).R.length)))) w3) := fun w3 hb3 => by
              have hJ3 := hJ.below hb3
              refine ⟨⟨_, rfl, hiff, fun _ => ⟨F', ?_, hJ3.fr, ?_⟩⟩, hJ3.be⟩
              · rw [HLEN.out, ← sq_full]; exact hJ3.lay
              · rw [← sq_full]; exact hJ3.good
            clear hJ hok HQ hiff
            go_wp2_with (go_at_call 61; refine hset.mono ?_; rintro e w3 ⟨rfl, hb3⟩; have HF : Hid _ := HEND.out w3 hb3; clear hb3 HEND)
            go_ret
            exact HF.out
  · have hne : ((R.length : Int) != (n : Int)) = true := bne_iff_ne.2 (by omega)
    have HE : Hid (∀ j, Below w0.heap.size w0 (W.drewN j)) := fun j => (J0.below (B0.out j)).be
    have HN : Hid (¬ (R.length = n ∧ Fits f R Z)) := fun x => hlen x.1
    clear hd s1 t1 J0 hb k0 hL hF hbe hsz HS1 HT1 HJ0 hlen
    go_enter Try.func43, Try.ntmps43
    go_wp2_with fail
    go_quiet (fail)
    go_wp2
    go_ret
    exact fld_no HN.out (HE.out _)
end Go.Proofs.Ythmjjpaengackaa.Po
