import Derived.Test.YthmjjpaengackaaPlE
namespace Go.Proofs.Ythmjjpaengackaa.Po
open Go.RowKit Go.Lib Go.Deep

def zQ (Q : List Nat) : List Int := Q.map fun (n : Nat) => (n : Int)
theorem zQ_len (Q : List Nat) : (zQ Q).length = Q.length := by unfold zQ; simp
theorem zQ_get {Q : List Nat} {i : Nat} {z : Int} (h : (zQ Q)[i]? = some z) : ∃ n : Nat, Q[i]? = some n ∧ z = n := by
  unfold zQ at h
  rw [List.getElem?_map] at h
  obtain ⟨n, hn, rfl⟩ := Option.map_eq_some_iff.1 h
  exact ⟨n, hn, rfl⟩
set_option maxRecDepth 20000 in
set_option maxHeartbeats 4000000 in
theorem holds_any (w : World) (v : Value) (S : Ps) (hd : Sd w v S.R (zQ S.Q)) (hG : Good S) : Calls Try.prog 20 #[v, .int .i64 (S.fl : Int), .int .i64 (S.R.length : Int)] w fun e w' => e = .returned (.bool true) ∧ Below w.heap.size w w' := by
  obtain ⟨ov, qv, rfl, s1, t1⟩ := hd.ex
  obtain ⟨a1, c1, rfl⟩ := s1.form
  obtain ⟨a2, c2, rfl⟩ := t1.form
  obtain ⟨W, hW, hb, k0⟩ := one_new w #[.slice a1 S.R.length c1, .slice a2 (zQ S.Q).length c2] 29
  have hfl := hG.fl
  have hqm : (zQ S.Q).length ≤ S.R.length := by rw [zQ_len]; exact hG.ql
  have HD : Hid (∀ V, Below W.heap.size W V → V.cell? ⟨w.heap.size, 0, none⟩ = some (.slice a1 S.R.length c1) ∧ V.cell? ⟨w.heap.size, 1, none⟩ = some (.slice a2 (zQ S.Q).length c2) ∧ Below w.heap.size w V) := fun V hV => by
    have k := (hV.block _ (heap_lt k0)).trans k0
    exact ⟨(cell_of_heap k).trans rfl, (cell_of_heap k).trans rfl, hb.trans (hV.mono hb.size)⟩
  have HOB : Hid (∀ V (i : Nat), Below W.heap.size W V → i < S.R.length → ∃ o b off, S.R[i]? = some o ∧ a1 = some ⟨b, off, none⟩ ∧ V.cell? ⟨b, off + i * 4, none⟩ = some (.string o.nm) ∧ V.cell? ⟨b, off + i * 4 + 1, none⟩ = some (.string o.tg) ∧ V.cell? ⟨b, off + i * 4 + 2, none⟩ = some (.int .i64 o.bk) ∧ V.cell? ⟨b, off + i * 4 + 3, none⟩ = some (.int .i64 o.ow)) := fun V i hV hi => by
    obtain ⟨o, ho⟩ : ∃ o, S.R[i]? = some o := ⟨_, List.getElem?_eq_getElem hi⟩
    obtain ⟨b, off, e, r⟩ := (s1.below (hb.trans (hV.mono hb.size))).ob ho s1.len
    exact ⟨o, b, off, ho, e, r⟩
  have HQZ : Hid (∀ V (i : Nat), Below W.heap.size W V → i < (zQ S.Q).length → ∃ (x : Nat) (b off : Nat), S.Q[i]? = some x ∧ a2 = some ⟨b, off, none⟩ ∧ V.cell? ⟨b, off + i, none⟩ = some (.int .i64 (x : Int))) := fun V i hV hi => by
    obtain ⟨z, hz⟩ : ∃ z, (zQ S.Q)[i]? = some z := ⟨_, List.getElem?_eq_getElem hi⟩
    obtain ⟨x, hx, rfl⟩ := zQ_get hz
    obtain ⟨b, off, e, r⟩ := (t1.below (hb.trans (hV.mono hb.size))).z hz t1.lenz
    exact ⟨x, b, off, hx, e, r⟩
  have HG : Hid (Good S) := hG
  obtain ⟨x0, x1, -⟩ := HD.out W (Below.refl _ _)
  clear hd s1 t1 k0 hb hG
  go_enter Try.func20, Try.ntmps20
  go_wp2
  go_loopg [7] S.R.length (fun gk i wr => ∃ k : Nat, gk = S.R.length - k ∧ k ≤ S.R.length ∧ i = .int .i64 (k : Int) ∧ Below W.heap.size W wr)
  case atStart => exact ⟨0, by omega, by omega, rfl, Below.refl _ _⟩
  case round =>
    clear x0 x1
    obtain ⟨k, hgk, hkn, rfl, hbe⟩ := hrel
    obtain ⟨x0, x1, hbw⟩ := HD.out wr hbe
    by_cases hk : k < S.R.length
    · have hkI : (k : Int) < (S.R.length : Int) := by omega
      obtain ⟨o, b1, o1, hko, rfl, r0, r1, r2, r3⟩ := HOB.out wr k hbe hk
      obtain ⟨U, hU, hbU, kU⟩ := one_new wr #[.string o.nm, .string o.tg, .int .i64 o.bk, .int .i64 o.ow] 35
      have hbeU : Below W.heap.size W U := hbe.trans (hbU.mono hbe.size)
      obtain ⟨y0, y1, -⟩ := HD.out U hbeU
      have u0 : U.cell? ⟨wr.heap.size, 0, none⟩ = some (.string o.nm) := (cell_of_heap kU).trans rfl
      have u1 : U.cell? ⟨wr.heap.size, 1, none⟩ = some (.string o.tg) := (cell_of_heap kU).trans rfl
      have u2 : U.cell? ⟨wr.heap.size, 2, none⟩ = some (.int .i64 o.bk) := (cell_of_heap kU).trans rfl
      have u3 : U.cell? ⟨wr.heap.size, 3, none⟩ = some (.int .i64 o.ow) := (cell_of_heap kU).trans rfl
      obtain ⟨⟨q1, q2, q3, q4⟩, q5, q6⟩ : (isText o.nm ∧ isText o.tg ∧ 0 ≤ o.bk ∧ o.bk ≤ 1048576) ∧ -1 ≤ o.ow ∧ o.ow < (S.fl : Int) := HG.out.st k o hko
      have g1 : ¬ o.ow < -1 := by omega
      have g2 : ¬ (S.fl : Int) ≤ o.ow := by omega
      have g3 : ¬ o.bk < 0 := by omega
      have HKO : Hid (S.R[k]? = some o) := hko
      have w1' : IntKind.i64.wrap ((k : Int) + 1) = ((k + 1 : Nat) : Int) := by rw [IntKind.wrap_i64]; omega
      have HIN : Hid (∀ V (j : Nat), Below W.heap.size W V → j < k → ∃ p, S.R[j]? = some p ∧ V.cell? ⟨b1, o1 + j * 4, none⟩ = some (.string p.nm) ∧ V.cell? ⟨b1, o1 + j * 4 + 3, none⟩ = some (.int .i64 p.ow) ∧ (0 ≤ o.ow → (p.ow == o.ow) = false) ∧ (o.nm.size ≠ 0 → (p.nm.toList == o.nm.toList) = false)) := fun V j hV hj => by
        obtain ⟨p, b', o', hp, e, t0, -, -, t3⟩ := HOB.out V j hV (by omega)
        injection e with e
        injection e with e1 e2
        subst e1 e2
        refine ⟨p, hp, t0, t3, fun h0 => beq_false_of_ne (fun e => ?_), fun h0 => beq_false_of_ne (fun e => ?_)⟩
        · have := HG.out.ou j k p o hp HKO.out e (by omega)
          omega
        · have e2 : p.nm = o.nm := ba_ext (by rw [toList_data, toList_data] at e; exact e)
          have := HG.out.nu j k p o hp HKO.out e2 (by rw [e2]; exact h0)
          omega
      have HBU : Hid (Below W.heap.size W U) := hbeU
      have HUC : Hid (∀ V, Below U.heap.size U V → V.cell? ⟨wr.heap.size, 0, none⟩ = some (.string o.nm) ∧ V.cell? ⟨wr.heap.size, 3, none⟩ = some (.int .i64 o.ow)) := fun V hV => by
        have kk := (hV.block _ (heap_lt kU)).trans kU
        exact ⟨(cell_of_heap kk).trans rfl, (cell_of_heap kk).trans rfl⟩
      have q1' : o.nm.size = 0 ∨ o.nm.size = 16 := q1
      have q2' : o.tg.size = 0 ∨ o.tg.size = 16 := q2
      obtain ⟨nm, tg, bk, ow⟩ := o
      dsimp only at *
      clear hbe hbU kU hbeU hko q1 q2 q3 q4 q5 q6 hbw HKO
      have hemp : (nm.size = 0 ∧ nm = { data := #[] }) ∨ (nm.size = 16 ∧ nm.toList.isEmpty = false) := by
        rcases q1' with q1 | q1
        · exact .inl ⟨q1, ba_ext (List.eq_nil_of_length_eq_zero q1)⟩
        · right
          refine ⟨q1, ?_⟩
          rw [toList_data]
          cases hl : nm.data.toList with
          | nil => have : nm.data.toList.length = 16 := q1; rw [hl] at this; cases this
          | cons a l => rfl
      have HIN2 : Hid (∀ (V : World) (j : Nat), Below U.heap.size U V → j < k → ∃ pn po, V.cell? ⟨b1, o1 + j * 4, none⟩ = some (.string pn) ∧ V.cell? ⟨b1, o1 + j * 4 + 3, none⟩ = some (.int .i64 po) ∧ V.cell? ⟨w.heap.size, 0, none⟩ = some (.slice (some ⟨b1, o1, none⟩) S.R.length c1) ∧ V.cell? ⟨wr.heap.size, 0, none⟩ = some (.string nm) ∧ V.cell? ⟨wr.heap.size, 3, none⟩ = some (.int .i64 ow) ∧ (0 ≤ ow → (po == ow) = false) ∧ (nm.size ≠ 0 → (pn.toList == nm.toList) = false)) := fun V j hV hj => by
        have hV' : Below W.heap.size W V := HBU.out.trans (hV.mono HBU.out.size)
        obtain ⟨p, -, t0, t3, e1, e2⟩ := HIN.out V j hV' hj
        obtain ⟨v0, -, -⟩ := HD.out V hV'
        obtain ⟨v1, v2⟩ := HUC.out V hV
        exact ⟨p.nm, p.ow, t0, t3, v0, v1, v2, e1, e2⟩
      clear HIN HUC q1'
      rcases hemp with ⟨q1, hnm⟩ | ⟨q1, hnm⟩ <;> rcases q2' with q2 | q2
      all_goals
        have q1I : (nm.size : Int) = _ := congrArg Int.ofNat q1
        have q2I : (tg.size : Int) = _ := congrArg Int.ofNat q2
        have HQ1 : Hid _ := q1
        clear q1 q2
        try subst hnm
        go_wp2
        go_loopg [9] k (fun gk i wx => ∃ j : Nat, gk = k - j ∧ j ≤ k ∧ i = .int .i64 (j : Int) ∧ Below U.heap.size U wx)
        case atStart => exact ⟨0, by omega, by omega, rfl, Below.refl _ _⟩
        case round =>
          obtain ⟨j, hgj, hjn, rfl, hbx⟩ := hrel
          clear u0 u1 u2 u3 y0 y1
          by_cases hj : j < k
          · have hjI : (j : Int) < (k : Int) := by omega
            have hjn2 : (j : Int) < (S.R.length : Int) := by omega
            obtain ⟨pn, po, t0, t3, v0, v1, v2, e1, e2⟩ := HIN2.out _ j hbx hj
            have w2' : IntKind.i64.wrap ((j : Int) + 1) = ((j + 1 : Nat) : Int) := by rw [IntKind.wrap_i64]; omega
            have E2 : Hid _ := e2
            have BX : Hid (∀ i, Below U.heap.size U (wr.drewN i)) := fun i => bdr hbx i
            clear e2 hbx
            by_cases h0 : 0 ≤ ow
            · have e1' := e1 h0
              clear e1
              first
              | (have e2' := E2.out (by rw [HQ1.out]; decide)
                 go_wp2_with fail
                 go_quiet (fail)
                 go_wp2
                 go_roundg (k - (j + 1))
                 case measure => omega
                 case rel => exact ⟨j + 1, rfl, by omega, rfl, BX.out _⟩)
              | (go_wp2_with fail
                 go_quiet (fail)
                 go_wp2
                 go_roundg (k - (j + 1))
                 case measure => omega
                 case rel => exact ⟨j + 1, rfl, by omega, rfl, BX.out _⟩)
            · have h0' : decide (0 ≤ ow) = false := decide_eq_false h0
              clear e1
              first
              | (have e2' := E2.out (by rw [HQ1.out]; decide)
                 go_wp2_with fail
                 go_quiet (fail)
                 go_wp2
                 go_roundg (k - (j + 1))
                 case measure => omega
                 case rel => exact ⟨j + 1, rfl, by omega, rfl, BX.out _⟩)
              | (go_wp2_with fail
                 go_quiet (fail)
                 go_wp2
                 go_roundg (k - (j + 1))
                 case measure => omega
                 case rel => exact ⟨j + 1, rfl, by omega, rfl, BX.out _⟩)
          · obtain rfl : j = k := by omega
            have hjI : ¬ (j : Int) < (j : Int) := by omega
            have HBX : Hid _ := HBU.out.trans (hbx.mono HBU.out.size)
            clear hbx
            go_wp2
            go_roundg (S.R.length - (j + 1))
            case measure => omega
            case rel => exact ⟨j + 1, rfl, by omega, rfl, HBX.out⟩
    · obtain rfl : k = S.R.length := by omega
      have hkI : ¬ (S.R.length : Int) < (S.R.length : Int) := by omega
      have HBE : Hid (Below W.heap.size W wr) := hbe
      have HBW : Hid (Below w.heap.size w wr) := hbw
      clear hbe hbw hk hkn hgk
      go_wp2
      go_loopg [10] (zQ S.Q).length (fun gk i wr' => ∃ k : Nat, gk = (zQ S.Q).length - k ∧ k ≤ (zQ S.Q).length ∧ i = .int .i64 (k : Int) ∧ wr = wr')
      case atStart => exact ⟨0, by omega, by omega, rfl, rfl⟩
      case round =>
        obtain ⟨k, hgk, hkn, rfl, rfl⟩ := hrel
        by_cases hk : k < (zQ S.Q).length
        · have hkJ : (k : Int) < ((zQ S.Q).length : Int) := by omega
          obtain ⟨x, b2, o2, hkx, rfl, hx⟩ := HQZ.out wr k HBE.out hk
          obtain ⟨o, hxo, how⟩ := HG.out.qd x (List.mem_of_getElem? hkx)
          have hxl := some_lt hxo
          obtain ⟨o', b1, o1, hxo', rfl, -, -, -, r3⟩ := HOB.out wr x HBE.out hxl
          rw [hxo] at hxo'
          obtain rfl := Option.some.inj hxo'
          rw [how] at r3
          have hxI : (x : Int) < (S.R.length : Int) := by omega
          have hxI2 : ¬ (S.R.length : Int) ≤ (x : Int) := by omega
          have w1' : IntKind.i64.wrap ((k : Int) + 1) = ((k + 1 : Nat) : Int) := by rw [IntKind.wrap_i64]; omega
          have HIN : Hid (∀ (j : Nat), j < k → ∃ y : Nat, wr.cell? ⟨b2, o2 + j, none⟩ = some (.int .i64 (y : Int)) ∧ ((y : Int) == (x : Int)) = false) := fun j hj => by
            obtain ⟨y, b', o'', hy, e, hc⟩ := HQZ.out wr j HBE.out (by omega)
            injection e with e
            injection e with e1 e2
            subst e1 e2
            refine ⟨y, hc, beq_false_of_ne (fun e => ?_)⟩
            have e' : y = x := by omega
            subst e'
            have := (List.getElem?_inj (some_lt hy) HG.out.qn).1 (hy.trans hkx.symm)
            omega
          clear hkx how hxo hxl
          go_wp2
          go_loopg [12] k (fun gk i wr' => ∃ j : Nat, gk = k - j ∧ j ≤ k ∧ i = .int .i64 (j : Int) ∧ wr = wr')
          case atStart => exact ⟨0, by omega, by omega, rfl, rfl⟩
          case round =>
            obtain ⟨j, hgj, hjn, rfl, rfl⟩ := hrel
            by_cases hj : j < k
            · have hjI : (j : Int) < (k : Int) := by omega
              have hjn2 : (j : Int) < ((zQ S.Q).length : Int) := by omega
              obtain ⟨y, hc, hne⟩ := HIN.out j hj
              have w2' : IntKind.i64.wrap ((j : Int) + 1) = ((j + 1 : Nat) : Int) := by rw [IntKind.wrap_i64]; omega
              go_wp2
              go_roundg (k - (j + 1))
              case measure => omega
              case rel => exact ⟨j + 1, rfl, by omega, rfl, rfl⟩
            · obtain rfl : j = k := by omega
              have hjI : ¬ (j : Int) < (j : Int) := by omega
              go_wp2
              go_roundg ((zQ S.Q).length - (j + 1))
              case measure => omega
              case rel => exact ⟨j + 1, rfl, by omega, rfl, rfl⟩
        · obtain rfl : k = (zQ S.Q).length := by omega
          have hkJ : ¬ ((zQ S.Q).length : Int) < ((zQ S.Q).length : Int) := by omega
          go_wp2
          go_ret
          exact ⟨rfl, HBW.out⟩
end Go.Proofs.Ythmjjpaengackaa.Po
