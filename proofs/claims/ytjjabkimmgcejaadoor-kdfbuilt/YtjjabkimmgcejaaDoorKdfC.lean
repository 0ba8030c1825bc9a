import Derived.Test.YtjjabkimmgcejaaDoorKdfB
namespace Go.Proofs.YtjjabkimmgcejaaDoor
open Go.RowKit Go.Lib Go.Deep

theorem wpList_append_run {P : Program} {ops : Array Oper} {rest : List Oper} {o : Oper} {a : Act} {w : World} {Q : Exit → Act → World → Prop} (hgd : o.guard = none) (s x : Operand) (t u : TypeId)
    (ho : o.op = .call { callee := .builtin .append, args := #[s, x], argTypes := #[t, u] }) (v x' v' : Value) (w' : World) (hs : a.eval s = v) (hx : a.eval x = x')
    (hr : ∀ ty, (Builtin.append_ #[t, u] ty #[v, x']).run P w = .ok v' w') (h : wpList P ops Q rest (a.put o.dst v') w') : wpList P ops Q (o :: rest) a w := by
  refine wpList_plain hgd fun K hK => ?_
  unfold Oper.wp execOp
  simp only [ho, resolve, invoke, builtin, Sem.run_bind, Sem.run_pure, Result.andThen_ok, List.map_toArray, List.map_cons, List.map_nil, hs, hx, hr]
  exact hK _ _ h

theorem run_append_nothing {P : Program} (w : World) (t ty e : TypeId) (i : TypeInfo) (ht : P.underlying t = some (.slice e)) (hi : P.info? e = some i) (x : Addr) (n c : Nat) (h : n ≤ c) :
    (Builtin.append_ #[t, t] ty #[.slice (some x) n c, .slice none 0 0]).run P w = .ok (.slice (some x) n c) w := by
  simp [Builtin.append_, run_underlying ht, sizeOf, typeInfo, hi, Builtin.lenOf, Builtin.firstCells, h, storeCells]

set_option maxRecDepth 20000 in
set_option maxHeartbeats 1000000 in
theorem grow_any (n : Nat) (h0 : 0 < n) (hn : n ≤ 4294967296) (w : World) :
    Calls Tryd.prog 52 #[.slice none 0 0, .int .i64 (n : Int)] w fun e w' => ∃ cap, e = .returned (.slice (some ⟨w.heap.size, 0, none⟩) 0 cap) ∧ w'.ownsRow w.heap.size 9 1 (.slice (some ⟨w.heap.size, 0, none⟩) 0 cap) 0 [] ∧ Below w.heap.size w w' := by
  obtain ⟨i0, hi, hz0, hz1, hz2⟩ := info_parts info9
  have hge := grownCap_ge w n 0 9
  have hcm := grownCap_le_maxLen w n 0 9 (by unfold maxLen; omega)
  have hrun := fun ty => run_append_grow_zeros (P := Tryd.prog) w 27 3 ty 9 i0 (.string { data := #[] }) .i64 .i64 Tryd.underlying27 Tryd.underlying3 hi hz0 none 0 0 [] (run_firstCells_none w.drew _ 0 0 0) n h0 (by rw [hz1]; omega) (by omega) (by omega) (by rw [hz2]; omega) (by rw [hz2]; exact growslice_fits (by omega) (by omega))
  simp only [Nat.zero_add] at hrun
  obtain ⟨C, hC⟩ : ∃ C, grownCap w n 0 9 = C := ⟨_, rfl⟩
  rw [hC] at hge hcm hrun
  obtain ⟨cur, hcur⟩ : ∃ cur : Array Value, ([] : List Value).toArray ++ Builtin.zeroCells (Value.string { data := #[] }).cells n ++ Builtin.zeroCells (Value.string { data := #[] }).cells (C - n) = cur := ⟨_, rfl⟩
  rw [hcur] at hrun
  have hsz : cur.size = C * 1 := by
    rw [← hcur]
    have hz1 : (Value.string { data := #[] }).cells.size = 1 := rfl
    simp only [Array.size_append, List.size_toArray, List.length_nil, size_zeroCells, hz1]
    omega
  have hown : (w.drew.alloc (.cells cur 9)).ownsRow w.heap.size 9 1 (.slice (some ⟨w.heap.size, 0, none⟩) 0 C) 0 [] := World.ownsRow_made w.drew cur C (Nat.le_refl _) hcm hsz
  have hbel : Below w.heap.size w (w.drew.alloc (.cells cur 9)) := ((Below.refl w.heap.size w).drew).alloc (Nat.le_refl _) _
  have hn1 : (0 : Int) < (n : Int) := by omega
  have hn2 : ¬ (n : Int) < 0 := by omega
  clear hC hcur hsz
  go_enter Tryd.func52, Tryd.ntmps52
  go_wp2_with (at_builtin; refine wpList_append_run rfl _ _ 27 3 rfl (.slice none 0 0) (.int .i64 (n : Int)) _ _ rfl rfl hrun ?_)
  go_ret
  exact ⟨C, rfl, hown, hbel⟩

/-- append of a list to a row of its own -/
theorem wpList_append_lst {ops : Array Oper} {rest : List Oper} {o : Oper} {a : Act} {w : World} {Q : Exit → Act → World → Prop} (hgd : o.guard = none) (s x : Operand)
    (ho : o.op = .call { callee := .builtin .append, args := #[s, x], argTypes := #[27, 27] }) (B g n c : Nat) (xs : List Value) (hs : a.eval s = .slice (some ⟨g, 0, none⟩) n c) (hown : w.ownsRow B 9 1 (.slice (some ⟨g, 0, none⟩) n c) n xs)
    (y : Option Addr) (len cap : Nat) (ss : List ByteArray) (hx : a.eval x = .slice y len cap) (hL : Lst w y len ss) (hnil : y = none → cap = 0) (b1 : n + len ≤ 4294967296) (hB : B ≤ w.heap.size)
    (h : ∀ g' c' w', w'.ownsRow B 9 1 (.slice (some ⟨g', 0, none⟩) (n + len) c') (n + len) (xs ++ strCells ss) → Below B w w' → wpList Tryd.prog ops Q rest (a.put o.dst (.slice (some ⟨g', 0, none⟩) (n + len) c')) w') : wpList Tryd.prog ops Q (o :: rest) a w := by
  obtain ⟨i0, hi, hz0, hz1, hz2⟩ := info_parts info9
  have hl := hL.sz
  cases y with
  | none =>
    have h0 : ss = [] := by
      cases ss with
      | nil => rfl
      | cons s r =>
        obtain ⟨b, off, h1, _⟩ := hL.cell 0 s rfl
        cases h1
    subst h0
    obtain rfl : len = 0 := by simpa using hl.symm
    obtain rfl := hnil rfl
    have hnc : n ≤ c := by
      rcases hown.2 with ⟨e, _⟩ | ⟨g', c', cur, e, _, _, h3, _⟩
      · cases e
      · cases e; exact h3
    refine wpList_append_run hgd s x 27 27 ho _ _ _ _ hs hx (fun ty => run_append_nothing w 27 ty 9 i0 Tryd.underlying27 hi _ n c hnc) ?_
    exact h g c w (by simpa [strCells] using hown) (Below.refl _ _)
  | some ad =>
    have hc : ∀ j u, (strCells ss)[j]? = some u → w.cell? (ad.add j) = some u := by
      intro j u hu
      have hj : j < ss.length := by
        have := (List.getElem?_eq_some_iff.1 hu).1
        rwa [strCells_length] at this
      obtain ⟨b, off, h1, _, h3⟩ := hL.cell j ss[j] (List.getElem?_eq_getElem hj)
      cases h1
      rw [Addr.add_lit, h3]
      rw [strCells, List.getElem?_map, List.getElem?_eq_getElem hj] at hu
      exact hu
    have hml : n + len ≤ maxLen := by unfold maxLen; omega
    refine wpList_append_own _ hgd s x 27 ho B 9 i0 (.string { data := #[] }) 1 16 Tryd.underlying27 hi hz0 hz1 hz2 rfl (by decide) _ _ _ hs hown ad len cap (strCells ss) hx (by rw [strCells_length]; omega) hc (strCells_one ss) hml (by omega) hB ?_
    intro v' w' hown' hgrow' hnn
    have hb' : Below B w w' := grown_below hgrow' hB hown
    rcases hown'.2 with ⟨e, h0⟩ | ⟨g', c', cur, rfl, h1⟩
    · exact absurd (hnn.1 e).1 (by simp)
    · exact h g' c' w' hown' hb'

set_option maxRecDepth 20000 in
set_option maxHeartbeats 1000000 in
theorem concat_any (w : World) (b c : Nat) (a : Option Addr) (len cap : Nat) (y : ByteArray) (ss : List ByteArray) (hb0 : w.cell? ⟨b, 0, none⟩ = some (.slice (some ⟨c, 0, none⟩) 1 1)) (hb1 : w.cell? ⟨b, 1, none⟩ = some (.slice a len cap))
    (hc : w.cell? ⟨c, 0, none⟩ = some (.string y)) (hL : Lst w a len ss) (hnil : a = none → cap = 0) (hsm : len ≤ 2147483647) :
    Calls Tryd.prog 43 #[.slice (some ⟨b, 0, none⟩) 2 2] w fun e w' => ∃ g cp, e = .returned (.slice (some ⟨g, 0, none⟩) (1 + len) cp) ∧ w'.ownsRow w.heap.size 9 1 (.slice (some ⟨g, 0, none⟩) (1 + len) cp) (1 + len) (strCells (y :: ss)) ∧ Below w.heap.size w w' := by
  have hblt : b < w.heap.size := block_lt_of_cell hb0
  have hclt : c < w.heap.size := block_lt_of_cell hc
  have HL : Hid (Lst w a len ss) := hL
  have HB : Hid (∀ W, Below w.heap.size w W → W.cell? ⟨b, 0, none⟩ = some (.slice (some ⟨c, 0, none⟩) 1 1) ∧ W.cell? ⟨b, 1, none⟩ = some (.slice a len cap) ∧ W.cell? ⟨c, 0, none⟩ = some (.string y)) := fun W hb =>
    ⟨(hb.cell (p := ⟨b, 0, none⟩) hblt).trans hb0, (hb.cell (p := ⟨b, 1, none⟩) hblt).trans hb1, (hb.cell (p := ⟨c, 0, none⟩) hclt).trans hc⟩
  have w1 : IntKind.i64.wrap (1 + (len : Int)) = 1 + (len : Int) := by rw [IntKind.wrap_i64]; omega
  have w0 : ¬ (1 + (len : Int) < 0) := by omega
  clear hL hblt hclt
  go_enter Tryd.func43, Tryd.ntmps43
  go_wp2
  go_loopg [3, 11] 2 (fun gk v i wr => (gk = 2 ∧ i = .int .i64 0 ∧ v = .int .i64 0 ∧ w = wr) ∨ (gk = 1 ∧ i = .int .i64 1 ∧ v = .int .i64 1 ∧ w = wr) ∨ (gk = 0 ∧ i = .int .i64 2 ∧ v = .int .i64 (1 + (len : Int)) ∧ w = wr))
  case atStart => exact Or.inl ⟨rfl, rfl, rfl, rfl⟩
  case round =>
    rcases hrel with ⟨rfl, rfl, rfl, rfl⟩ | ⟨rfl, rfl, rfl, rfl⟩ | ⟨rfl, rfl, rfl, rfl⟩
    · go_wp2
      go_roundg 1
      case measure => omega
      case rel => exact Or.inr (Or.inl ⟨rfl, rfl, rfl, rfl⟩)
    · go_wp2
      go_roundg 0
      case measure => omega
      case rel => exact Or.inr (Or.inr ⟨rfl, rfl, rfl, rfl⟩)
    · have hgr := grow_any (1 + len) (by omega) (by omega) w
      rw [show ((1 + len : Nat) : Int) = 1 + (len : Int) by omega] at hgr
      go_wp2_with fail
      refine hgr.mono ?_
      rintro e w2 ⟨cp0, rfl, hown, hb2⟩
      clear hgr hb0 hb1 hc
      go_wp2
      go_loopg [6, 27] 2 (fun gk v i wr => Below w.heap.size w wr ∧ ((gk = 2 ∧ i = .int .i64 0 ∧ ∃ g cp, v = .slice (some ⟨g, 0, none⟩) 0 cp ∧ wr.ownsRow w.heap.size 9 1 (.slice (some ⟨g, 0, none⟩) 0 cp) 0 []) ∨ (gk = 1 ∧ i = .int .i64 1 ∧ ∃ g cp, v = .slice (some ⟨g, 0, none⟩) 1 cp ∧ wr.ownsRow w.heap.size 9 1 (.slice (some ⟨g, 0, none⟩) 1 cp) 1 (strCells [y])) ∨ (gk = 0 ∧ i = .int .i64 2 ∧ ∃ g cp, v = .slice (some ⟨g, 0, none⟩) (1 + len) cp ∧ wr.ownsRow w.heap.size 9 1 (.slice (some ⟨g, 0, none⟩) (1 + len) cp) (1 + len) (strCells (y :: ss)))))
      case atStart => exact ⟨hb2, Or.inl ⟨rfl, rfl, _, cp0, rfl, hown⟩⟩
      case round =>
        clear hown hb2
        obtain ⟨hbel, ⟨rfl, rfl, g, cp, rfl, hown⟩ | ⟨rfl, rfl, g, cp, rfl, hown⟩ | ⟨rfl, rfl, g, cp, rfl, hown⟩⟩ := hrel
        · obtain ⟨hb0, hb1, hc⟩ := HB.out wr hbel
          have hL1 : Lst wr (some ⟨c, 0, none⟩) 1 [y] := ⟨rfl, by omega, fun i s hs => by
            have hi : i < 1 := (List.getElem?_eq_some_iff.1 hs).1
            obtain rfl : i = 0 := by omega
            obtain rfl : y = s := by simpa using hs
            exact ⟨c, 0, rfl, block_lt_of_cell hc, hc⟩⟩
          go_wp2_with (at_builtin; refine wpList_append_lst rfl _ _ rfl w.heap.size g 0 cp [] rfl hown (some ⟨c, 0, none⟩) 1 1 [y] rfl hL1 (fun h => by cases h) (by omega) hbel.size ?_; intro g' c' w' hown' hb')
          have R : w'.ownsRow w.heap.size 9 1 (.slice (some ⟨g', 0, none⟩) 1 c') 1 (strCells [y]) := hown'
          have hb2 := hbel.trans hb'
          clear hown hown' hb0 hb1 hc hbel hb' hL1
          go_wp2
          go_roundg 1
          case measure => omega
          case rel => exact ⟨hb2, Or.inr (Or.inl ⟨rfl, rfl, g', c', rfl, R⟩)⟩
        · obtain ⟨hb0, hb1, hc⟩ := HB.out wr hbel
          have hL2 := HL.out.below hbel
          go_wp2_with (at_builtin; refine wpList_append_lst rfl _ _ rfl w.heap.size g 1 cp (strCells [y]) rfl hown a len cap ss rfl hL2 hnil (by omega) hbel.size ?_; intro g' c' w' hown' hb')
          have R : w'.ownsRow w.heap.size 9 1 (.slice (some ⟨g', 0, none⟩) (1 + len) c') (1 + len) (strCells (y :: ss)) := hown'
          have hb2 := hbel.trans hb'
          clear hown hown' hb0 hb1 hc hbel hb' hL2
          go_wp2
          go_roundg 0
          case measure => omega
          case rel => exact ⟨hb2, Or.inr (Or.inr ⟨rfl, rfl, g', c', rfl, R⟩)⟩
        · go_wp2
          go_ret
          exact ⟨g, cp, rfl, hown, hbel⟩

end Go.Proofs.YtjjabkimmgcejaaDoor
