import Derived.Test.YtbjiamaaocjbfaaGreatDoorKdfA
import Derived.Lib.AppendZerosOnto
import Derived.Deep.RegionHeldLaw
namespace Go.Proofs.YtbjiamaaocjbfaaGreatDoor
open Go.RowKit Go.Lib Go.Deep

theorem innerS (key : ByteArray) (h : key.size ≤ 64) : maskL 54 (fill64 key.data.toList) = innerL key.data.toList := by
  rw [innerL, k64, if_pos (by rw [← size_eq]; exact h)]
theorem outerS (key : ByteArray) (h : key.size ≤ 64) : maskL 92 (fill64 key.data.toList) = outerL key.data.toList := by
  rw [outerL, k64, if_pos (by rw [← size_eq]; exact h)]
theorem k64_long (key : List UInt8) (h : 64 < key.length) : k64 (shaL key) = k64 key := by
  rw [k64, k64, if_pos (by rw [shaL_length]; omega), if_neg (by omega)]

theorem size2 : (Tryz.prog.info? 126).map (·.size) = some 2 := by kernel_rfl

set_option maxRecDepth 20000 in
set_option maxHeartbeats 1000000 in
theorem blocksOf_any (key : ByteArray) (hk : key.size < 576460752303423488) (w : World) (ht : Tabs w) (h4 : 9 ≤ w.heap.size) :
    Calls Tryz.prog 76 #[.string key] w fun e w' => e = .returned (.agg #[.string (str (innerL key.data.toList)), .string (str (outerL key.data.toList))]) ∧ Below w.heap.size w w' := by
  have hbA : ∀ z, Below w.heap.size w (w.alloc (.cells z 126)) := fun z => (Below.refl _ _).alloc (Nat.le_refl _) _
  by_cases hlen : key.size ≤ 64
  · have hle : ¬ (64 : Int) < (key.size : Int) := by omega
    have hi := fun W => masked_any key hlen 54 W
    have ho := fun W => masked_any key hlen 92 W
    rw [innerS key hlen] at hi
    rw [outerS key hlen] at ho
    revert hi ho
    generalize str (innerL key.data.toList) = yi
    generalize str (outerL key.data.toList) = yo
    intro hi ho
    go_enter Tryz.func76, Tryz.ntmps76
    obtain ⟨zz, hzz, hh1, hb1⟩ : ∃ zz : Array Value, zz.size = 2 ∧ (w.alloc (.cells #[.string { data := #[] }, .string { data := #[] }] 126)).heap[w.heap.size]? = some (.cells zz 126 (0, 0)) ∧ Below w.heap.size w (w.alloc (.cells #[.string { data := #[] }, .string { data := #[] }] 126)) := ⟨_, rfl, heap_new _ _, hbA _⟩
    go_wp2_with fail
    refine (hi _).mono ?_
    rintro e w2 ⟨rfl, hb2⟩
    go_wp2_with fail
    refine (ho _).mono ?_
    rintro e w3 ⟨rfl, hb3⟩
    have hh3 : w3.heap[w.heap.size]? = some (.cells zz 126 (0, 0)) := (hb3.block _ (Nat.lt_of_lt_of_le (heap_lt hh1) hb2.size)).trans ((hb2.block _ (heap_lt hh1)).trans hh1)
    have hbel : Below w.heap.size w w3 := (hb1.trans (hb2.mono hb1.size)).trans (hb3.mono (Nat.le_trans hb1.size hb2.size))
    have hth : w3.there w.heap.size 0 (#[Value.string yi, .string yo] : Array Value).size := there_of_heap hh3 (by rw [hzz]; exact Nat.le_refl 2)
    have hone : (#[Value.string yi, .string yo] : Array Value).all (·.oneCell') = true := all_oneCell_toArray (cs := [Value.string yi, .string yo]) (strCells_one [yi, yo])
    have hr2 := heap_setCells w.heap.size 126 [Value.string yi, .string yo] 0 _ _ hh3
    rw [setMany_all _ _ (by rw [hzz]; rfl)] at hr2
    have HR : Hid ((w3.setCells w.heap.size 0 [Value.string yi, .string yo]).heap[w.heap.size]? = some (.cells #[Value.string yi, .string yo] 126 (0, 0))) := hr2
    clear hr2 hh3 hh1 hb1 hb2 hb3 hi ho
    go_wp2_with (refine wpList_store_mid rfl 126 (.tmp 2) (.tmp 13) rfl w.heap.size 0 #[Value.string yi, .string yo] rfl rfl hth size2 hone ?_)
    refine bodyPost_ret (results_cell_row rfl _ _ w.heap.size 126 _ (0, 0) _ rfl HR.out Tryz.underlying126 rfl size2) rfl ?_
    exact ⟨rfl, Below.setCells hbel (Nat.le_refl _) _ _⟩
  · have hle : (64 : Int) < (key.size : Int) := by omega
    have hl : (key.data.toList).length = key.size := (size_eq key).symm
    have hs32 : (str (shaL key.data.toList)).size ≤ 64 := by rw [str_size, shaL_length]; omega
    have hi := fun W => masked_any (str (shaL key.data.toList)) hs32 54 W
    have ho := fun W => masked_any (str (shaL key.data.toList)) hs32 92 W
    have hk1 : fill64 (str (shaL key.data.toList)).data.toList = fill64 (k64 key.data.toList) := by rw [str_data, k64, if_neg (by omega)]
    rw [hk1] at hi ho
    have hi : ∀ W, Calls Tryz.prog 100 #[.string (str (shaL key.data.toList)), .int .u8 ((54 : UInt8).toNat : Int)] W fun e w' => e = .returned (.string (str (innerL key.data.toList))) ∧ Below W.heap.size W w' := hi
    have ho : ∀ W, Calls Tryz.prog 100 #[.string (str (shaL key.data.toList)), .int .u8 ((92 : UInt8).toNat : Int)] W fun e w' => e = .returned (.string (str (outerL key.data.toList))) ∧ Below W.heap.size W w' := ho
    have hsu := sum_one key (w.alloc (.cells #[.string { data := #[] }, .string { data := #[] }] 126)) (ht.below (hbA _) (by omega)) (by simp; omega) hk
    clear hk1 hs32
    revert hi ho hsu
    generalize str (innerL key.data.toList) = yi
    generalize str (outerL key.data.toList) = yo
    generalize str (shaL key.data.toList) = ky
    intro hi ho hsu
    simp only [World.size_alloc] at hsu
    go_enter Tryz.func76, Tryz.ntmps76
    go_wp2_with fail
    refine hsu.mono ?_
    rintro e w1 ⟨rfl, hb1'⟩
    obtain ⟨zz, hzz, hh1, hb1⟩ : ∃ zz : Array Value, zz.size = 2 ∧ w1.heap[w.heap.size]? = some (.cells zz 126 (0, 0)) ∧ Below w.heap.size w w1 := ⟨_, rfl, (hb1'.block _ (by simp)).trans (heap_new _ _), (hbA _).trans (hb1'.mono (by simp))⟩
    clear hb1' hsu
    go_wp2_with fail
    refine (hi _).mono ?_
    rintro e w2 ⟨rfl, hb2⟩
    go_wp2_with fail
    refine (ho _).mono ?_
    rintro e w3 ⟨rfl, hb3⟩
    have hh3 : w3.heap[w.heap.size]? = some (.cells zz 126 (0, 0)) := (hb3.block _ (Nat.lt_of_lt_of_le (heap_lt hh1) hb2.size)).trans ((hb2.block _ (heap_lt hh1)).trans hh1)
    have hbel : Below w.heap.size w w3 := (hb1.trans (hb2.mono hb1.size)).trans (hb3.mono (Nat.le_trans hb1.size hb2.size))
    have hth : w3.there w.heap.size 0 (#[Value.string yi, .string yo] : Array Value).size := there_of_heap hh3 (by rw [hzz]; exact Nat.le_refl 2)
    have hone : (#[Value.string yi, .string yo] : Array Value).all (·.oneCell') = true := all_oneCell_toArray (cs := [Value.string yi, .string yo]) (strCells_one [yi, yo])
    have hr2 := heap_setCells w.heap.size 126 [Value.string yi, .string yo] 0 _ _ hh3
    rw [setMany_all _ _ (by rw [hzz]; rfl)] at hr2
    have HR : Hid ((w3.setCells w.heap.size 0 [Value.string yi, .string yo]).heap[w.heap.size]? = some (.cells #[Value.string yi, .string yo] 126 (0, 0))) := hr2
    clear hr2 hh3 hh1 hb1 hb2 hb3 hi ho
    go_wp2_with (refine wpList_store_mid rfl 126 (.tmp 2) (.tmp 13) rfl w.heap.size 0 #[Value.string yi, .string yo] rfl rfl hth size2 hone ?_)
    refine bodyPost_ret (results_cell_row rfl _ _ w.heap.size 126 _ (0, 0) _ rfl HR.out Tryz.underlying126 rfl size2) rfl ?_
    exact ⟨rfl, Below.setCells hbel (Nat.le_refl _) _ _⟩

end Go.Proofs.YtbjiamaaocjbfaaGreatDoor

namespace Go.Proofs.YtbjiamaaocjbfaaGreatDoor
open Go.RowKit Go.Lib Go.Deep

theorem wpList_append_run {P : Program} {ops : Array Oper} {rest : List Oper} {o : Oper} {a : Act} {w : World} {Q : Exit → Act → World → Prop} (hgd : o.guard = none) (s x : Operand) (t u : TypeId)
    (ho : o.op = .call { callee := .builtin .append, args := #[s, x], argTypes := #[t, u] }) (v x' v' : Value) (w' : World) (hs : a.eval s = v) (hx : a.eval x = x')
    (hr : ∀ ty, (Builtin.append_ #[t, u] ty #[v, x']).run P w = .ok v' w') (h : wpList P ops Q rest (a.put o.dst v') w') : wpList P ops Q (o :: rest) a w := by
  refine wpList_plain hgd fun K hK => ?_
  unfold Oper.wp execOp
  simp only [ho, resolve, invoke, builtin, Sem.run_bind, Sem.run_pure, Result.andThen_ok, List.map_toArray, List.map_cons, List.map_nil, hs, hx, hr]
  exact hK _ _ h

theorem run_append_nothing {P : Program} (w : World) (t ty e : TypeId) (i : TypeInfo) (ht : P.underlying t = some (.slice e)) (hi : P.info? e = some i) (x : Addr) (n c : Nat) (h : n ≤ c) :
    (Builtin.append_ #[t, t] ty #[.slice (some x) n c, .slice none 0 0]).run P w = .ok (.slice (some x) n c) w := by
  simp [Builtin.append_, run_underlying ht, sizeOf, typeInfo, hi, Builtin.lenOf, Builtin.firstCells, h, storeCells]

set_option maxRecDepth 20000 in
set_option maxHeartbeats 1000000 in
theorem grow_any (n : Nat) (h0 : 0 < n) (hn : n ≤ 4294967296) (w : World) :
    Calls Tryz.prog 140 #[.slice none 0 0, .int .i64 (n : Int)] w fun e w' => ∃ cap, e = .returned (.slice (some ⟨w.heap.size, 0, none⟩) 0 cap) ∧ w'.ownsRow w.heap.size 9 1 (.slice (some ⟨w.heap.size, 0, none⟩) 0 cap) 0 [] ∧ Below w.heap.size w w' := by
  obtain ⟨i0, hi, hz0, hz1, hz2⟩ := info_parts info9
  have hge := grownCap_ge w n 0 9
  have hcm := grownCap_le_maxLen w n 0 9 (by unfold maxLen; omega)
  have hrun := fun ty => run_append_grow_zeros (P := Tryz.prog) w 47 3 ty 9 i0 (.string { data := #[] }) .i64 .i64 Tryz.underlying47 Tryz.underlying3 hi hz0 none 0 0 [] (run_firstCells_none w.drew _ 0 0 0) n h0 (by rw [hz1]; omega) (by omega) (by omega) (by rw [hz2]; omega) (by rw [hz2]; exact growslice_fits (by omega) (by omega))
  simp only [Nat.zero_add] at hrun
  obtain ⟨C, hC⟩ : ∃ C, grownCap w n 0 9 = C := ⟨_, rfl⟩
  rw [hC] at hge hcm hrun
  obtain ⟨cur, hcur⟩ : ∃ cur : Array Value, ([] : List Value).toArray ++ Builtin.zeroCells (Value.string { data := #[] }).cells n ++ Builtin.zeroCells (Value.string { data := #[] }).cells (C - n) = cur := ⟨_, rfl⟩
  rw [hcur] at hrun
  have hsz : cur.size = C * 1 := by
    rw [← hcur]
    have hz1 : (Value.string { data := #[] }).cells.size = 1 := rfl
    simp only [Array.size_append, List.size_toArray, List.length_nil, size_zeroCells, hz1]
    omega
  have hown : (w.drew.alloc (.cells cur 9)).ownsRow w.heap.size 9 1 (.slice (some ⟨w.heap.size, 0, none⟩) 0 C) 0 [] := World.ownsRow_made w.drew cur C (Nat.le_refl _) hcm hsz
  have hbel : Below w.heap.size w (w.drew.alloc (.cells cur 9)) := ((Below.refl w.heap.size w).drew).alloc (Nat.le_refl _) _
  have hn1 : (0 : Int) < (n : Int) := by omega
  have hn2 : ¬ (n : Int) < 0 := by omega
  clear hC hcur hsz
  go_enter Tryz.func140, Tryz.ntmps140
  go_wp2_with (at_builtin; refine wpList_append_run rfl _ _ 47 3 rfl (.slice none 0 0) (.int .i64 (n : Int)) _ _ rfl rfl hrun ?_)
  go_ret
  exact ⟨C, rfl, hown, hbel⟩

/-- append of a list to a row of its own -/
theorem wpList_append_lst {ops : Array Oper} {rest : List Oper} {o : Oper} {a : Act} {w : World} {Q : Exit → Act → World → Prop} (hgd : o.guard = none) (s x : Operand)
    (ho : o.op = .call { callee := .builtin .append, args := #[s, x], argTypes := #[47, 47] }) (B g n c : Nat) (xs : List Value) (hs : a.eval s = .slice (some ⟨g, 0, none⟩) n c) (hown : w.ownsRow B 9 1 (.slice (some ⟨g, 0, none⟩) n c) n xs)
    (y : Option Addr) (len cap : Nat) (ss : List ByteArray) (hx : a.eval x = .slice y len cap) (hL : Lst w y len ss) (hnil : y = none → cap = 0) (b1 : n + len ≤ 4294967296) (hB : B ≤ w.heap.size)
    (h : ∀ g' c' w', w'.ownsRow B 9 1 (.slice (some ⟨g', 0, none⟩) (n + len) c') (n + len) (xs ++ strCells ss) → Below B w w' → wpList Tryz.prog ops Q rest (a.put o.dst (.slice (some ⟨g', 0, none⟩) (n + len) c')) w') : wpList Tryz.prog ops Q (o :: rest) a w := by
  obtain ⟨i0, hi, hz0, hz1, hz2⟩ := info_parts info9
  have hl := hL.sz
  cases y with
  | none =>
    have h0 : ss = [] := by
      cases ss with
      | nil => rfl
      | cons s r =>
        obtain ⟨b, off, h1, _⟩ := hL.cell 0 s rfl
        cases h1
    subst h0
    obtain rfl : len = 0 := by simpa using hl.symm
    obtain rfl := hnil rfl
    have hnc : n ≤ c := by
      rcases hown.2 with ⟨e, _⟩ | ⟨g', c', cur, e, _, _, h3, _⟩
      · cases e
      · cases e; exact h3
    refine wpList_append_run hgd s x 47 47 ho _ _ _ _ hs hx (fun ty => run_append_nothing w 47 ty 9 i0 Tryz.underlying47 hi _ n c hnc) ?_
    exact h g c w (by simpa [strCells] using hown) (Below.refl _ _)
  | some ad =>
    have hc : ∀ j u, (strCells ss)[j]? = some u → w.cell? (ad.add j) = some u := by
      intro j u hu
      have hj : j < ss.length := by
        have := (List.getElem?_eq_some_iff.1 hu).1
        rwa [strCells_length] at this
      obtain ⟨b, off, h1, _, h3⟩ := hL.cell j ss[j] (List.getElem?_eq_getElem hj)
      cases h1
      rw [Addr.add_lit, h3]
      rw [strCells, List.getElem?_map, List.getElem?_eq_getElem hj] at hu
      exact hu
    have hml : n + len ≤ maxLen := by unfold maxLen; omega
    refine wpList_append_own _ hgd s x 47 ho B 9 i0 (.string { data := #[] }) 1 16 Tryz.underlying47 hi hz0 hz1 hz2 rfl (by decide) _ _ _ hs hown ad len cap (strCells ss) hx (by rw [strCells_length]; omega) hc (strCells_one ss) hml (by omega) hB ?_
    intro v' w' hown' hgrow' hnn
    have hb' : Below B w w' := grown_below hgrow' hB hown
    rcases hown'.2 with ⟨e, h0⟩ | ⟨g', c', cur, rfl, h1⟩
    · exact absurd (hnn.1 e).1 (by simp)
    · exact h g' c' w' hown' hb'

set_option maxRecDepth 20000 in
set_option maxHeartbeats 1000000 in
theorem concat_any (w : World) (b c : Nat) (a : Option Addr) (len cap : Nat) (y : ByteArray) (ss : List ByteArray) (hb0 : w.cell? ⟨b, 0, none⟩ = some (.slice (some ⟨c, 0, none⟩) 1 1)) (hb1 : w.cell? ⟨b, 1, none⟩ = some (.slice a len cap))
    (hc : w.cell? ⟨c, 0, none⟩ = some (.string y)) (hL : Lst w a len ss) (hnil : a = none → cap = 0) (hsm : len ≤ 2147483647) :
    Calls Tryz.prog 129 #[.slice (some ⟨b, 0, none⟩) 2 2] w fun e w' => ∃ g cp, e = .returned (.slice (some ⟨g, 0, none⟩) (1 + len) cp) ∧ w'.ownsRow w.heap.size 9 1 (.slice (some ⟨g, 0, none⟩) (1 + len) cp) (1 + len) (strCells (y :: ss)) ∧ Below w.heap.size w w' := by
  have hblt : b < w.heap.size := block_lt_of_cell hb0
  have hclt : c < w.heap.size := block_lt_of_cell hc
  have HL : Hid (Lst w a len ss) := hL
  have HB : Hid (∀ W, Below w.heap.size w W → W.cell? ⟨b, 0, none⟩ = some (.slice (some ⟨c, 0, none⟩) 1 1) ∧ W.cell? ⟨b, 1, none⟩ = some (.slice a len cap) ∧ W.cell? ⟨c, 0, none⟩ = some (.string y)) := fun W hb =>
    ⟨(hb.cell (p := ⟨b, 0, none⟩) hblt).trans hb0, (hb.cell (p := ⟨b, 1, none⟩) hblt).trans hb1, (hb.cell (p := ⟨c, 0, none⟩) hclt).trans hc⟩
  have w1 : IntKind.i64.wrap (1 + (len : Int)) = 1 + (len : Int) := by rw [IntKind.wrap_i64]; omega
  have w0 : ¬ (1 + (len : Int) < 0) := by omega
  clear hL hblt hclt
  go_enter Tryz.func129, Tryz.ntmps129
  go_wp2
  go_loopg [3, 11] 2 (fun gk v i wr => (gk = 2 ∧ i = .int .i64 0 ∧ v = .int .i64 0 ∧ w = wr) ∨ (gk = 1 ∧ i = .int .i64 1 ∧ v = .int .i64 1 ∧ w = wr) ∨ (gk = 0 ∧ i = .int .i64 2 ∧ v = .int .i64 (1 + (len : Int)) ∧ w = wr))
  case atStart => exact Or.inl ⟨rfl, rfl, rfl, rfl⟩
  case round =>
    rcases hrel with ⟨rfl, rfl, rfl, rfl⟩ | ⟨rfl, rfl, rfl, rfl⟩ | ⟨rfl, rfl, rfl, rfl⟩
    · go_wp2
      go_roundg 1
      case measure => omega
      case rel => exact Or.inr (Or.inl ⟨rfl, rfl, rfl, rfl⟩)
    · go_wp2
      go_roundg 0
      case measure => omega
      case rel => exact Or.inr (Or.inr ⟨rfl, rfl, rfl, rfl⟩)
    · have hgr := grow_any (1 + len) (by omega) (by omega) w
      rw [show ((1 + len : Nat) : Int) = 1 + (len : Int) by omega] at hgr
      go_wp2_with fail
      refine hgr.mono ?_
      rintro e w2 ⟨cp0, rfl, hown, hb2⟩
      clear hgr hb0 hb1 hc
      go_wp2
      go_loopg [6, 27] 2 (fun gk v i wr => Below w.heap.size w wr ∧ ((gk = 2 ∧ i = .int .i64 0 ∧ ∃ g cp, v = .slice (some ⟨g, 0, none⟩) 0 cp ∧ wr.ownsRow w.heap.size 9 1 (.slice (some ⟨g, 0, none⟩) 0 cp) 0 []) ∨ (gk = 1 ∧ i = .int .i64 1 ∧ ∃ g cp, v = .slice (some ⟨g, 0, none⟩) 1 cp ∧ wr.ownsRow w.heap.size 9 1 (.slice (some ⟨g, 0, none⟩) 1 cp) 1 (strCells [y])) ∨ (gk = 0 ∧ i = .int .i64 2 ∧ ∃ g cp, v = .slice (some ⟨g, 0, none⟩) (1 + len) cp ∧ wr.ownsRow w.heap.size 9 1 (.slice (some ⟨g, 0, none⟩) (1 + len) cp) (1 + len) (strCells (y :: ss)))))
      case atStart => exact ⟨hb2, Or.inl ⟨rfl, rfl, _, cp0, rfl, hown⟩⟩
      case round =>
        clear hown hb2
        obtain ⟨hbel, ⟨rfl, rfl, g, cp, rfl, hown⟩ | ⟨rfl, rfl, g, cp, rfl, hown⟩ | ⟨rfl, rfl, g, cp, rfl, hown⟩⟩ := hrel
        · obtain ⟨hb0, hb1, hc⟩ := HB.out wr hbel
          have hL1 : Lst wr (some ⟨c, 0, none⟩) 1 [y] := ⟨rfl, by omega, fun i s hs => by
            have hi : i < 1 := (List.getElem?_eq_some_iff.1 hs).1
            obtain rfl : i = 0 := by omega
            obtain rfl : y = s := by simpa using hs
            exact ⟨c, 0, rfl, block_lt_of_cell hc, hc⟩⟩
          go_wp2_with (at_builtin; refine wpList_append_lst rfl _ _ rfl w.heap.size g 0 cp [] rfl hown (some ⟨c, 0, none⟩) 1 1 [y] rfl hL1 (fun h => by cases h) (by omega) hbel.size ?_; intro g' c' w' hown' hb')
          have R : w'.ownsRow w.heap.size 9 1 (.slice (some ⟨g', 0, none⟩) 1 c') 1 (strCells [y]) := hown'
          have hb2 := hbel.trans hb'
          clear hown hown' hb0 hb1 hc hbel hb' hL1
          go_wp2
          go_roundg 1
          case measure => omega
          case rel => exact ⟨hb2, Or.inr (Or.inl ⟨rfl, rfl, g', c', rfl, R⟩)⟩
        · obtain ⟨hb0, hb1, hc⟩ := HB.out wr hbel
          have hL2 := HL.out.below hbel
          go_wp2_with (at_builtin; refine wpList_append_lst rfl _ _ rfl w.heap.size g 1 cp (strCells [y]) rfl hown a len cap ss rfl hL2 hnil (by omega) hbel.size ?_; intro g' c' w' hown' hb')
          have R : w'.ownsRow w.heap.size 9 1 (.slice (some ⟨g', 0, none⟩) (1 + len) c') (1 + len) (strCells (y :: ss)) := hown'
          have hb2 := hbel.trans hb'
          clear hown hown' hb0 hb1 hc hbel hb' hL2
          go_wp2
          go_roundg 0
          case measure => omega
          case rel => exact ⟨hb2, Or.inr (Or.inr ⟨rfl, rfl, g', c', rfl, R⟩)⟩
        · go_wp2
          go_ret
          exact ⟨g, cp, rfl, hown, hbel⟩

end Go.Proofs.YtbjiamaaocjbfaaGreatDoor

namespace Go.Proofs.YtbjiamaaocjbfaaGreatDoor
open Go.RowKit Go.Lib Go.Deep

theorem sum_two (s t : ByteArray) (w : World) (ht : Tabs w) (h4 : 9 ≤ w.heap.size) (hs : s.size + t.size < 576460752303423488) :
    Calls Tryz.prog 13 #[.slice (some ⟨w.heap.size, 0, none⟩) 2 2] (w.alloc (.cells #[.string s, .string t] 9)) fun e w' => e = .returned (.string (str (shaL (s.data.toList ++ t.data.toList)))) ∧ Below w.heap.size w w' := by
  have hb : Below w.heap.size w (w.alloc (.cells #[.string s, .string t] 9)) := (Below.refl _ _).alloc (Nat.le_refl _) _
  have hj : joinL [s, t] = s.data.toList ++ t.data.toList := by simp [joinL]
  have h := sum_some _ (ht.below hb (by omega)) (by simp; omega) w.heap.size 0 2 2 [s, t] rfl (by omega) (by simp) (cells_strs w [s, t]) (by rw [hj, List.length_append, ← size_eq, ← size_eq]; exact hs)
  rw [hj] at h
  refine h.mono ?_
  rintro e w' ⟨rfl, h2⟩
  exact ⟨rfl, hb.trans (h2.mono (by simp))⟩

set_option maxRecDepth 20000 in
set_option maxHeartbeats 1000000 in
theorem ksum_any (yi yo : ByteArray) (h64 : yo.size ≤ 64) (w : World) (ht : Tabs w) (h4 : 9 ≤ w.heap.size) (a : Option Addr) (len cap : Nat) (ss : List ByteArray) (hL : Lst w a len ss) (hnil : a = none → cap = 0) (hsm : len ≤ 2147483647) (hJ : yi.size + (joinL ss).length < 576460752303423488) :
    Calls Tryz.prog 102 #[.agg #[.string yi, .string yo], .slice a len cap] w fun e w' => e = .returned (.string (str (shaL (yo.data.toList ++ shaL (yi.data.toList ++ joinL ss))))) ∧ Below w.heap.size w w' := by
  have hbB : Below w.heap.size w (w.alloc (.cells #[.string yi, .string yo] 126)) := (Below.refl _ _).alloc (Nat.le_refl _) _
  have x0 : (w.alloc (.cells #[.string yi, .string yo] 126)).cell? ⟨w.heap.size, 0, none⟩ = some (.string yi) := by rw [cell_of_heap (heap_new _ _)]; rfl
  have x1 : (w.alloc (.cells #[.string yi, .string yo] 126)).cell? ⟨w.heap.size, 1, none⟩ = some (.string yo) := by rw [cell_of_heap (heap_new _ _)]; rfl
  have HL : Hid (Lst w a len ss) := hL
  clear hL
  go_enter Tryz.func102, Tryz.ntmps102
  go_wp2_with fail
  refine with_world (R := fun W => Code.wp _ _ _ _ W) (Q := fun W => W.heap.size = w.heap.size + 1 ∧ Below w.heap.size w W ∧ W.cell? ⟨w.heap.size, 0, none⟩ = some (.string yi) ∧ W.cell? ⟨w.heap.size, 1, none⟩ = some (.string yo)) _ ⟨by simp, hbB, x0, x1⟩ ?_
  clear x0 x1 hbB
  rintro wB ⟨hsz, hbB, x0, x1⟩
  obtain ⟨p, hp⟩ : ∃ p, w.heap.size = p := ⟨_, rfl⟩
  rw [hp] at hsz hbB x0 x1 h4 ⊢
  have n0 : p ≠ wB.heap.size := by omega
  have n1 : p ≠ wB.heap.size + 1 := by omega
  have KS : Hid (∀ W w', (W.cell? ⟨p, 0, none⟩ = some (.string yi) ∧ W.cell? ⟨p, 1, none⟩ = some (.string yo)) → Below W.heap.size W w' → (w'.cell? ⟨p, 0, none⟩ = some (.string yi) ∧ w'.cell? ⟨p, 1, none⟩ = some (.string yo))) := fun W w' h hb =>
    ⟨(hb.cell (p := ⟨p, 0, none⟩) (block_lt_of_cell h.1)).trans h.1, (hb.cell (p := ⟨p, 1, none⟩) (block_lt_of_cell h.2)).trans h.2⟩
  have hbB' : Below w.heap.size w wB := by rw [hp]; exact hbB
  have hb3 : Below w.heap.size w ((wB.alloc (.cells #[.string yi] 9)).alloc (.cells #[.slice (some ⟨p + 1, 0, none⟩) 1 1, .slice a len cap] 47)).drew := ((hbB'.alloc hbB'.size _).alloc (by simp; omega) _).drew
  have hcat := concat_any ((wB.alloc (.cells #[.string yi] 9)).alloc (.cells #[.slice (some ⟨p + 1, 0, none⟩) 1 1, .slice a len cap] 47)).drew (p + 1 + 1) (p + 1) a len cap yi ss
    (by
      have h := heap_new (wB.alloc (.cells #[.string yi] 9)) (.cells #[.slice (some ⟨p + 1, 0, none⟩) 1 1, .slice a len cap] 47)
      simp only [World.size_alloc, hsz] at h
      exact cell_of_heap h)
    (by
      have h := heap_new (wB.alloc (.cells #[.string yi] 9)) (.cells #[.slice (some ⟨p + 1, 0, none⟩) 1 1, .slice a len cap] 47)
      simp only [World.size_alloc, hsz] at h
      exact cell_of_heap h)
    (by
      have h := heap_new wB (.cells #[.string yi] 9)
      rw [hsz] at h
      have h2 : ((wB.alloc (.cells #[.string yi] 9)).alloc (.cells #[.slice (some ⟨p + 1, 0, none⟩) 1 1, .slice a len cap] 47)).drew.heap[p + 1]? = some (.cells #[.string yi] 9 (0, 0)) := (Below.heap_alloc _ _ _ (by simp; omega)).trans h
      exact cell_of_heap h2)
    (HL.out.below hb3) hnil hsm
  obtain ⟨W3, hW3⟩ : ∃ W3, ((wB.alloc (.cells #[.string yi] 9)).alloc (.cells #[.slice (some ⟨p + 1, 0, none⟩) 1 1, .slice a len cap] 47)).drew = W3 := ⟨_, rfl⟩
  have HJ : joinL (yi :: ss) = yi.data.toList ++ joinL ss := by simp [joinL]
  have HS1 : Hid (∀ w5 g cp, w5.ownsRow W3.heap.size 9 1 (.slice (some ⟨g, 0, none⟩) (1 + len) cp) (1 + len) (strCells (yi :: ss)) → Below W3.heap.size W3 w5 → Calls Tryz.prog 13 #[.slice (some ⟨g, 0, none⟩) (1 + len) cp] w5 fun e w' => e = .returned (.string (str (shaL (yi.data.toList ++ joinL ss)))) ∧ Below w5.heap.size w5 w') := fun w5 g cp ho hb5 => by
    have hbb : Below w.heap.size w w5 := by rw [← hW3] at hb5; exact hb3.trans (hb5.mono hb3.size)
    have hg : g < w5.heap.size := by
      rcases ho.2 with ⟨e, _⟩ | ⟨g', c', cur, e, _, h2, _⟩
      · cases e
      · cases e; exact heap_lt h2
    have h := sum_some w5 (ht.below hbb (by omega)) (by have := hbb.size; omega) g 0 (1 + len) cp (yi :: ss) (by rw [List.length_cons, HL.out.sz]; omega) (by omega) hg (fun i s hs => by
      have hi : i < (yi :: ss).length := (List.getElem?_eq_some_iff.1 hs).1
      rw [Nat.zero_add, ho.cellAt i (by rw [List.length_cons, HL.out.sz] at hi; omega)]
      rw [strCells, List.getElem?_map, hs]
      rfl) (by rw [HJ, List.length_append, ← size_eq]; exact hJ)
    rw [HJ] at h
    exact h
  have HS2 : Hid (∀ w6, Below w.heap.size w w6 → Calls Tryz.prog 13 #[.slice (some ⟨w6.heap.size, 0, none⟩) 2 2] (w6.alloc (.cells #[.string yo, .string (str (shaL (yi.data.toList ++ joinL ss)))] 9)) fun e w' => e = .returned (.string (str (shaL (yo.data.toList ++ shaL (yi.data.toList ++ joinL ss))))) ∧ Below w6.heap.size w6 w') := fun w6 hb => by
    have h := sum_two yo (str (shaL (yi.data.toList ++ joinL ss))) w6 (ht.below hb (by omega)) (by have := hb.size; omega) (by rw [str_size, shaL_length]; omega)
    rw [str_data] at h
    exact h
  have HB3 : Hid (∀ w5 w6, Below W3.heap.size W3 w5 → Below w5.heap.size w5 w6 → Below w.heap.size w w6) := fun w5 w6 h5 h6 => by
    rw [← hW3] at h5
    exact (hb3.trans (h5.mono hb3.size)).trans (h6.mono (Nat.le_trans hb3.size h5.size))
  rw [hW3] at hcat
  have KW : Hid (W3.cell? ⟨p, 0, none⟩ = some (.string yi) ∧ W3.cell? ⟨p, 1, none⟩ = some (.string yo)) := by
    rw [← hW3]
    refine KS.out wB _ ⟨x0, x1⟩ ?_
    exact (((Below.refl wB.heap.size wB).alloc (Nat.le_refl _) _).alloc (by simp) _).drew
  have HP6 : Hid (∀ w5 w6, Below W3.heap.size W3 w5 → Below w5.heap.size w5 w6 → p < w6.heap.size) := fun w5 w6 h5 h6 => by
    have h1 : p < W3.heap.size := block_lt_of_cell KW.out.1
    have := h5.size
    have := h6.size
    omega
  have KS3 : Hid (∀ w6 o w7, (World.cell? (w6.alloc o) ⟨p, 0, none⟩ = some (.string yi) ∧ World.cell? (w6.alloc o) ⟨p, 1, none⟩ = some (.string yo)) → p < w6.heap.size → Below w6.heap.size w6 w7 → (w7.cell? ⟨p, 0, none⟩ = some (.string yi) ∧ w7.cell? ⟨p, 1, none⟩ = some (.string yo))) := fun w6 o w7 h hp hb => by
    have e : ∀ j, w7.cell? ⟨p, j, none⟩ = World.cell? (w6.alloc o) ⟨p, j, none⟩ := fun j => (hb.cell (p := ⟨p, j, none⟩) hp).trans (World.cell?_of_block (Below.heap_alloc w6 o p hp)).symm
    exact ⟨(e 0).trans h.1, (e 1).trans h.2⟩
  clear hb3 hbB hbB' HJ
  have hp' : Hid (w.heap.size = p) := hp
  clear hp
  go_region_held_law (fun W => W.cell? ⟨p, 0, none⟩ = some (.string yi) ∧ W.cell? ⟨p, 1, none⟩ = some (.string yo)) (first | exact KW.out | exact KS.out _ _ (by assumption) (by assumption) | exact KS3.out w6 _ _ (by assumption) hpl6 hb7 | go_keep)
    (first | (go_at_call 129; refine hcat.mono ?_; rintro e w5 ⟨g, cp, rfl, hown5, hb5⟩; have hs5 := HS1.out w5 g cp hown5 hb5) | (go_at_call 13; refine hs6.mono ?_; rintro e w7 ⟨rfl, hb7⟩) | (go_at_call 13; refine hs5.mono ?_; rintro e w6 ⟨rfl, hb6⟩; have hb06 := HB3.out w5 w6 hb5 hb6; have hpl6 := HP6.out w5 w6 hb5 hb6; have hs6 := HS2.out w6 hb06))
  all_goals
    go_wp2
    go_ret
    exact ⟨rfl, hb06.trans (hb7.mono hb06.size)⟩

end Go.Proofs.YtbjiamaaocjbfaaGreatDoor

namespace Go.Proofs.YtbjiamaaocjbfaaGreatDoor
open Go.RowKit Go.Lib

/-- the block that holds the two blocks of the key -/
def Kb (w : World) (p : Nat) (yi yo : ByteArray) : Prop := w.heap[p]? = some (.cells #[.string yi, .string yo] 126 (0, 0))
theorem Kb.below {w w' : World} {B p : Nat} {yi yo : ByteArray} (h : Kb w p yi yo) (hb : Below B w w') (hp : p < B) : Kb w' p yi yo := (hb.block p hp).trans h

end Go.Proofs.YtbjiamaaocjbfaaGreatDoor

namespace Go.Proofs.YtbjiamaaocjbfaaGreatDoor
open Go.RowKit Go.Lib

def xorL (a b : List UInt8) : List UInt8 := List.zipWith (fun x y => x ^^^ y) a b
theorem xorL_length (a b : List UInt8) : (xorL a b).length = min a.length b.length := by simp [xorL]
theorem xorL_take (a b : List UInt8) (k : Nat) (x y : UInt8) (hx : a[k]? = some x) (hy : b[k]? = some y) : (xorL a b).take (k + 1) = (xorL a b).take k ++ [x ^^^ y] := by
  have h : (xorL a b)[k]? = some (x ^^^ y) := by simp [xorL, List.getElem?_zipWith, hx, hy]
  rw [List.take_add_one, h]
  rfl

/-- one link after another -/
def pasU (key first : List UInt8) : Nat → List UInt8
  | 0 => hmacL key first
  | r + 1 => hmacL key (pasU key first r)
def pasF (key first : List UInt8) : Nat → List UInt8
  | 0 => pasU key first 0
  | r + 1 => xorL (pasF key first r) (pasU key first (r + 1))
theorem pasU_length (key first : List UInt8) : ∀ r, (pasU key first r).length = 32
  | 0 => hmacL_length _ _
  | _ + 1 => hmacL_length _ _
theorem pasF_length (key first : List UInt8) : ∀ r, (pasF key first r).length = 32
  | 0 => hmacL_length _ _
  | r + 1 => by rw [pasF, xorL_length, pasF_length key first r, pasU_length]; rfl
/-- the first k blocks, with R rounds behind each one's first -/
def pasAll (key salt : List UInt8) (R : Nat) : Nat → List UInt8
  | 0 => []
  | k + 1 => pasAll key salt R k ++ pasF key (salt ++ [0, 0, 0, UInt8.ofNat (k + 1)]) R
theorem pasAll_length (key salt : List UInt8) (R : Nat) : ∀ k, (pasAll key salt R k).length = 32 * k
  | 0 => rfl
  | k + 1 => by rw [pasAll, List.length_append, pasAll_length key salt R k, pasF_length]; omega
def pasL (key salt : List UInt8) (R n : Nat) : List UInt8 := (pasAll key salt R ((n + 31) / 32)).take n

theorem pasL_length (key salt : List UInt8) (R n : Nat) : (pasL key salt R n).length = n := by
  unfold pasL
  rw [List.length_take, pasAll_length]
  omega

theorem four_bytes (k : Nat) (w : World) : (convert 29 9 (.slice (some ⟨w.heap.size, 0, none⟩) 4 4)).run Tryz.prog (w.alloc (.cells #[.int .u8 0, .int .u8 0, .int .u8 0, .int .u8 ((k : Int) % 256)] 5)) = .ok (.string (str [0, 0, 0, UInt8.ofNat k])) (w.alloc (.cells #[.int .u8 0, .int .u8 0, .int .u8 0, .int .u8 ((k : Int) % 256)] 5)) := by
  refine run_convert_bytes_back (P := Tryz.prog) _ 29 9 5 ⟨w.heap.size, 0, none⟩ 4 [0, 0, 0, UInt8.ofNat k] Tryz.underlying29 Tryz.underlying5 Tryz.underlying9 (fun j hj => ?_)
  have hj4 : j = 0 ∨ j = 1 ∨ j = 2 ∨ j = 3 := by simp at hj; omega
  rcases hj4 with rfl | rfl | rfl | rfl
  · exact cells_new w _ 5 0 (.int .u8 0) rfl
  · exact cells_new w _ 5 1 (.int .u8 0) rfl
  · exact cells_new w _ 5 2 (.int .u8 0) rfl
  · have h := cells_new w #[.int .u8 0, .int .u8 0, .int .u8 0, .int .u8 ((k : Int) % 256)] 5 3 (.int .u8 ((k : Int) % 256)) rfl
    rw [h]
    congr 2

end Go.Proofs.YtbjiamaaocjbfaaGreatDoor

namespace Go.Proofs.YtbjiamaaocjbfaaGreatDoor
open Go.RowKit Go.Lib

set_option maxRecDepth 20000 in
set_option maxHeartbeats 1000000 in
theorem fourBytes_any (n : Nat) (hn : n < 256) (w : World) :
    Calls Tryz.prog 79 #[.int .u32 (n : Int)] w fun e w' => e = .returned (.string (str [0, 0, 0, UInt8.ofNat n])) ∧ Below w.heap.size w w' := by
  have hob := four_bytes n w
  rw [show (n : Int) % 256 = (n : Int) by omega] at hob
  have d1 : (n : Int) / 16777216 = 0 := by omega
  have d2 : (n : Int) / 65536 = 0 := by omega
  have d3 : (n : Int) / 256 = 0 := by omega
  have d4 : (n : Int) % 256 = (n : Int) := by omega
  revert hob
  generalize str [0, 0, 0, UInt8.ofNat n] = y
  intro hob
  go_enter Tryz.func79, Tryz.ntmps79
  go_wp2
  go_ret
  exact ⟨rfl, (Below.refl _ _).alloc (Nat.le_refl _) _⟩

end Go.Proofs.YtbjiamaaocjbfaaGreatDoor
