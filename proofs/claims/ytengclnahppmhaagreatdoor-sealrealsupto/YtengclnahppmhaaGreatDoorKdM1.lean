import Derived.Test.YtengclnahppmhaaGreatDoorKdfA
import Derived.Lib.AppendZerosOnto
import Derived.Deep.RegionHeldLaw
import Derived.Lib.AppendStr
namespace Go.Proofs.YtengclnahppmhaaGreatDoor
open Go.RowKit Go.Lib Go.Deep

theorem innerS (key : ByteArray) (h : key.size ≤ 64) : maskL 54 (fill64 key.data.toList) = innerL key.data.toList := by
  rw [innerL, k64, if_pos (by rw [← size_eq]; exact h)]
theorem outerS (key : ByteArray) (h : key.size ≤ 64) : maskL 92 (fill64 key.data.toList) = outerL key.data.toList := by
  rw [outerL, k64, if_pos (by rw [← size_eq]; exact h)]
theorem k64_long (key : List UInt8) (h : 64 < key.length) : k64 (shaL key) = k64 key := by
  rw [k64, k64, if_pos (by rw [shaL_length]; omega), if_neg (by omega)]

theorem size2 : (Tryz.prog.info? 94).map (·.size) = some 2 := by kernel_rfl

set_option maxRecDepth 20000 in
set_option maxHeartbeats 1000000 in
theorem blocksOf_any (key : ByteArray) (hk : key.size < 576460752303423488) (w : World) (ht : Tabs w) (h4 : 8 ≤ w.heap.size) :
    Calls Tryz.prog 44 #[.string key] w fun e w' => e = .returned (.agg #[.string (str (innerL key.data.toList)), .string (str (outerL key.data.toList))]) ∧ Below w.heap.size w w' := by
  have hbA : ∀ z, Below w.heap.size w (w.alloc (.cells z 94)) := fun z => (Below.refl _ _).alloc (Nat.le_refl _) _
  by_cases hlen : key.size ≤ 64
  · have hle : ¬ (64 : Int) < (key.size : Int) := by omega
    have hi := fun W => masked_any key hlen 54 W
    have ho := fun W => masked_any key hlen 92 W
    rw [innerS key hlen] at hi
    rw [outerS key hlen] at ho
    revert hi ho
    generalize str (innerL key.data.toList) = yi
    generalize str (outerL key.data.toList) = yo
    intro hi ho
    go_enter Tryz.func44, Tryz.ntmps44
    obtain ⟨zz, hzz, hh1, hb1⟩ : ∃ zz : Array Value, zz.size = 2 ∧ (w.alloc (.cells #[.string { data := #[] }, .string { data := #[] }] 94)).heap[w.heap.size]? = some (.cells zz 94 (0, 0)) ∧ Below w.heap.size w (w.alloc (.cells #[.string { data := #[] }, .string { data := #[] }] 94)) := ⟨_, rfl, heap_new _ _, hbA _⟩
    go_wp2_with fail
    refine (hi _).mono ?_
    rintro e w2 ⟨rfl, hb2⟩
    go_wp2_with fail
    refine (ho _).mono ?_
    rintro e w3 ⟨rfl, hb3⟩
    have hh3 : w3.heap[w.heap.size]? = some (.cells zz 94 (0, 0)) := (hb3.block _ (Nat.lt_of_lt_of_le (heap_lt hh1) hb2.size)).trans ((hb2.block _ (heap_lt hh1)).trans hh1)
    have hbel : Below w.heap.size w w3 := (hb1.trans (hb2.mono hb1.size)).trans (hb3.mono (Nat.le_trans hb1.size hb2.size))
    have hth : w3.there w.heap.size 0 (#[Value.string yi, .string yo] : Array Value).size := there_of_heap hh3 (by rw [hzz]; exact Nat.le_refl 2)
    have hone : (#[Value.string yi, .string yo] : Array Value).all (·.oneCell') = true := all_oneCell_toArray (cs := [Value.string yi, .string yo]) (strCells_one [yi, yo])
    have hr2 := heap_setCells w.heap.size 94 [Value.string yi, .string yo] 0 _ _ hh3
    rw [setMany_all _ _ (by rw [hzz]; rfl)] at hr2
    have HR : Hid ((w3.setCells w.heap.size 0 [Value.string yi, .string yo]).heap[w.heap.size]? = some (.cells #[Value.string yi, .string yo] 94 (0, 0))) := hr2
    clear hr2 hh3 hh1 hb1 hb2 hb3 hi ho
    go_wp2_with (refine wpList_store_mid rfl 94 (.tmp 2) (.tmp 13) rfl w.heap.size 0 #[Value.string yi, .string yo] rfl rfl hth size2 hone ?_)
    refine bodyPost_ret (results_cell_row rfl _ _ w.heap.size 94 _ (0, 0) _ rfl HR.out Tryz.underlying94 rfl size2) rfl ?_
    exact ⟨rfl, Below.setCells hbel (Nat.le_refl _) _ _⟩
  · have hle : (64 : Int) < (key.size : Int) := by omega
    have hl : (key.data.toList).length = key.size := (size_eq key).symm
    have hs32 : (str (shaL key.data.toList)).size ≤ 64 := by rw [str_size, shaL_length]; omega
    have hi := fun W => masked_any (str (shaL key.data.toList)) hs32 54 W
    have ho := fun W => masked_any (str (shaL key.data.toList)) hs32 92 W
    have hk1 : fill64 (str (shaL key.data.toList)).data.toList = fill64 (k64 key.data.toList) := by rw [str_data, k64, if_neg (by omega)]
    rw [hk1] at hi ho
    have hi : ∀ W, Calls Tryz.prog 67 #[.string (str (shaL key.data.toList)), .int .u8 ((54 : UInt8).toNat : Int)] W fun e w' => e = .returned (.string (str (innerL key.data.toList))) ∧ Below W.heap.size W w' := hi
    have ho : ∀ W, Calls Tryz.prog 67 #[.string (str (shaL key.data.toList)), .int .u8 ((92 : UInt8).toNat : Int)] W fun e w' => e = .returned (.string (str (outerL key.data.toList))) ∧ Below W.heap.size W w' := ho
    have hsu := sum_one key (w.alloc (.cells #[.string { data := #[] }, .string { data := #[] }] 94)) (ht.below (hbA _) (by omega)) (by simp; omega) hk
    clear hk1 hs32
    revert hi ho hsu
    generalize str (innerL key.data.toList) = yi
    generalize str (outerL key.data.toList) = yo
    generalize str (shaL key.data.toList) = ky
    intro hi ho hsu
    simp only [World.size_alloc] at hsu
    go_enter Tryz.func44, Tryz.ntmps44
    go_wp2_with fail
    refine hsu.mono ?_
    rintro e w1 ⟨rfl, hb1'⟩
    obtain ⟨zz, hzz, hh1, hb1⟩ : ∃ zz : Array Value, zz.size = 2 ∧ w1.heap[w.heap.size]? = some (.cells zz 94 (0, 0)) ∧ Below w.heap.size w w1 := ⟨_, rfl, (hb1'.block _ (by simp)).trans (heap_new _ _), (hbA _).trans (hb1'.mono (by simp))⟩
    clear hb1' hsu
    go_wp2_with fail
    refine (hi _).mono ?_
    rintro e w2 ⟨rfl, hb2⟩
    go_wp2_with fail
    refine (ho _).mono ?_
    rintro e w3 ⟨rfl, hb3⟩
    have hh3 : w3.heap[w.heap.size]? = some (.cells zz 94 (0, 0)) := (hb3.block _ (Nat.lt_of_lt_of_le (heap_lt hh1) hb2.size)).trans ((hb2.block _ (heap_lt hh1)).trans hh1)
    have hbel : Below w.heap.size w w3 := (hb1.trans (hb2.mono hb1.size)).trans (hb3.mono (Nat.le_trans hb1.size hb2.size))
    have hth : w3.there w.heap.size 0 (#[Value.string yi, .string yo] : Array Value).size := there_of_heap hh3 (by rw [hzz]; exact Nat.le_refl 2)
    have hone : (#[Value.string yi, .string yo] : Array Value).all (·.oneCell') = true := all_oneCell_toArray (cs := [Value.string yi, .string yo]) (strCells_one [yi, yo])
    have hr2 := heap_setCells w.heap.size 94 [Value.string yi, .string yo] 0 _ _ hh3
    rw [setMany_all _ _ (by rw [hzz]; rfl)] at hr2
    have HR : Hid ((w3.setCells w.heap.size 0 [Value.string yi, .string yo]).heap[w.heap.size]? = some (.cells #[Value.string yi, .string yo] 94 (0, 0))) := hr2
    clear hr2 hh3 hh1 hb1 hb2 hb3 hi ho
    go_wp2_with (refine wpList_store_mid rfl 94 (.tmp 2) (.tmp 13) rfl w.heap.size 0 #[Value.string yi, .string yo] rfl rfl hth size2 hone ?_)
    refine bodyPost_ret (results_cell_row rfl _ _ w.heap.size 94 _ (0, 0) _ rfl HR.out Tryz.underlying94 rfl size2) rfl ?_
    exact ⟨rfl, Below.setCells hbel (Nat.le_refl _) _ _⟩

end Go.Proofs.YtengclnahppmhaaGreatDoor

namespace Go.Proofs.YtengclnahppmhaaGreatDoor
open Go.RowKit Go.Lib Go.Deep

theorem wpList_append_run {P : Program} {ops : Array Oper} {rest : List Oper} {o : Oper} {a : Act} {w : World} {Q : Exit → Act → World → Prop} (hgd : o.guard = none) (s x : Operand) (t u : TypeId)
    (ho : o.op = .call { callee := .builtin .append, args := #[s, x], argTypes := #[t, u] }) (v x' v' : Value) (w' : World) (hs : a.eval s = v) (hx : a.eval x = x')
    (hr : ∀ ty, (Builtin.append_ #[t, u] ty #[v, x']).run P w = .ok v' w') (h : wpList P ops Q rest (a.put o.dst v') w') : wpList P ops Q (o :: rest) a w := by
  refine wpList_plain hgd fun K hK => ?_
  unfold Oper.wp execOp
  simp only [ho, resolve, invoke, builtin, Sem.run_bind, Sem.run_pure, Result.andThen_ok, List.map_toArray, List.map_cons, List.map_nil, hs, hx, hr]
  exact hK _ _ h

theorem run_append_nothing {P : Program} (w : World) (t ty e : TypeId) (i : TypeInfo) (ht : P.underlying t = some (.slice e)) (hi : P.info? e = some i) (x : Addr) (n c : Nat) (h : n ≤ c) :
    (Builtin.append_ #[t, t] ty #[.slice (some x) n c, .slice none 0 0]).run P w = .ok (.slice (some x) n c) w := by
  simp [Builtin.append_, run_underlying ht, sizeOf, typeInfo, hi, Builtin.lenOf, Builtin.firstCells, h, storeCells]

set_option maxRecDepth 20000 in
set_option maxHeartbeats 1000000 in
theorem grow_any (n : Nat) (h0 : 0 < n) (hn : n ≤ 4294967296) (w : World) :
    Calls Tryz.prog 88 #[.slice none 0 0, .int .i64 (n : Int)] w fun e w' => ∃ cap, e = .returned (.slice (some ⟨w.heap.size, 0, none⟩) 0 cap) ∧ w'.ownsRow w.heap.size 9 1 (.slice (some ⟨w.heap.size, 0, none⟩) 0 cap) 0 [] ∧ Below w.heap.size w w' := by
  obtain ⟨i0, hi, hz0, hz1, hz2⟩ := info_parts info9
  have hge := grownCap_ge w n 0 9
  have hcm := grownCap_le_maxLen w n 0 9 (by unfold maxLen; omega)
  have hrun := fun ty => run_append_grow_zeros (P := Tryz.prog) w 37 3 ty 9 i0 (.string { data := #[] }) .i64 .i64 Tryz.underlying37 Tryz.underlying3 hi hz0 none 0 0 [] (run_firstCells_none w.drew _ 0 0 0) n h0 (by rw [hz1]; omega) (by omega) (by omega) (by rw [hz2]; omega) (by rw [hz2]; exact growslice_fits (by omega) (by omega))
  simp only [Nat.zero_add] at hrun
  obtain ⟨C, hC⟩ : ∃ C, grownCap w n 0 9 = C := ⟨_, rfl⟩
  rw [hC] at hge hcm hrun
  obtain ⟨cur, hcur⟩ : ∃ cur : Array Value, ([] : List Value).toArray ++ Builtin.zeroCells (Value.string { data := #[] }).cells n ++ Builtin.zeroCells (Value.string { data := #[] }).cells (C - n) = cur := ⟨_, rfl⟩
  rw [hcur] at hrun
  have hsz : cur.size = C * 1 := by
    rw [← hcur]
    have hz1 : (Value.string { data := #[] }).cells.size = 1 := rfl
    simp only [Array.size_append, List.size_toArray, List.length_nil, size_zeroCells, hz1]
    omega
  have hown : (w.drew.alloc (.cells cur 9)).ownsRow w.heap.size 9 1 (.slice (some ⟨w.heap.size, 0, none⟩) 0 C) 0 [] := World.ownsRow_made w.drew cur C (Nat.le_refl _) hcm hsz
  have hbel : Below w.heap.size w (w.drew.alloc (.cells cur 9)) := ((Below.refl w.heap.size w).drew).alloc (Nat.le_refl _) _
  have hn1 : (0 : Int) < (n : Int) := by omega
  have hn2 : ¬ (n : Int) < 0 := by omega
  clear hC hcur hsz
  go_enter Tryz.func88, Tryz.ntmps88
  go_wp2_with (at_builtin; refine wpList_append_run rfl _ _ 37 3 rfl (.slice none 0 0) (.int .i64 (n : Int)) _ _ rfl rfl hrun ?_)
  go_ret
  exact ⟨C, rfl, hown, hbel⟩

/-- append of a list to a row of its own -/
theorem wpList_append_lst {ops : Array Oper} {rest : List Oper} {o : Oper} {a : Act} {w : World} {Q : Exit → Act → World → Prop} (hgd : o.guard = none) (s x : Operand)
    (ho : o.op = .call { callee := .builtin .append, args := #[s, x], argTypes := #[37, 37] }) (B g n c : Nat) (xs : List Value) (hs : a.eval s = .slice (some ⟨g, 0, none⟩) n c) (hown : w.ownsRow B 9 1 (.slice (some ⟨g, 0, none⟩) n c) n xs)
    (y : Option Addr) (len cap : Nat) (ss : List ByteArray) (hx : a.eval x = .slice y len cap) (hL : Lst w y len ss) (hnil : y = none → cap = 0) (b1 : n + len ≤ 4294967296) (hB : B ≤ w.heap.size)
    (h : ∀ g' c' w', w'.ownsRow B 9 1 (.slice (some ⟨g', 0, none⟩) (n + len) c') (n + len) (xs ++ strCells ss) → Below B w w' → wpList Tryz.prog ops Q rest (a.put o.dst (.slice (some ⟨g', 0, none⟩) (n + len) c')) w') : wpList Tryz.prog ops Q (o :: rest) a w := by
  obtain ⟨i0, hi, hz0, hz1, hz2⟩ := info_parts info9
  have hl := hL.sz
  cases y with
  | none =>
    have h0 : ss = [] := by
      cases ss with
      | nil => rfl
      | cons s r =>
        obtain ⟨b, off, h1, _⟩ := hL.cell 0 s rfl
        cases h1
    subst h0
    obtain rfl : len = 0 := by simpa using hl.symm
    obtain rfl := hnil rfl
    have hnc : n ≤ c := by
      rcases hown.2 with ⟨e, _⟩ | ⟨g', c', cur, e, _, _, h3, _⟩
      · cases e
      · cases e; exact h3
    refine wpList_append_run hgd s x 37 37 ho _ _ _ _ hs hx (fun ty => run_append_nothing w 37 ty 9 i0 Tryz.underlying37 hi _ n c hnc) ?_
    exact h g c w (by simpa [strCells] using hown) (Below.refl _ _)
  | some ad =>
    have hc : ∀ j u, (strCells ss)[j]? = some u → w.cell? (ad.add j) = some u := by
      intro j u hu
      have hj : j < ss.length := by
        have := (List.getElem?_eq_some_iff.1 hu).1
        rwa [strCells_length] at this
      obtain ⟨b, off, h1, _, h3⟩ := hL.cell j ss[j] (List.getElem?_eq_getElem hj)
      cases h1
      rw [Addr.add_lit, h3]
      rw [strCells, List.getElem?_map, List.getElem?_eq_getElem hj] at hu
      exact hu
    have hml : n + len ≤ maxLen := by unfold maxLen; omega
    refine wpList_append_own _ hgd s x 37 ho B 9 i0 (.string { data := #[] }) 1 16 Tryz.underlying37 hi hz0 hz1 hz2 rfl (by decide) _ _ _ hs hown ad len cap (strCells ss) hx (by rw [strCells_length]; omega) hc (strCells_one ss) hml (by omega) hB ?_
    intro v' w' hown' hgrow' hnn
    have hb' : Below B w w' := grown_below hgrow' hB hown
    rcases hown'.2 with ⟨e, h0⟩ | ⟨g', c', cur, rfl, h1⟩
    · exact absurd (hnn.1 e).1 (by simp)
    · exact h g' c' w' hown' hb'

set_option maxRecDepth 20000 in
set_option maxHeartbeats 1000000 in
theorem concat_any (w : World) (b c : Nat) (a : Option Addr) (len cap : Nat) (y : ByteArray) (ss : List ByteArray) (hb0 : w.cell? ⟨b, 0, none⟩ = some (.slice (some ⟨c, 0, none⟩) 1 1)) (hb1 : w.cell? ⟨b, 1, none⟩ = some (.slice a len cap))
    (hc : w.cell? ⟨c, 0, none⟩ = some (.string y)) (hL : Lst w a len ss) (hnil : a = none → cap = 0) (hsm : len ≤ 2147483647) :
    Calls Tryz.prog 68 #[.slice (some ⟨b, 0, none⟩) 2 2] w fun e w' => ∃ g cp, e = .returned (.slice (some ⟨g, 0, none⟩) (1 + len) cp) ∧ w'.ownsRow w.heap.size 9 1 (.slice (some ⟨g, 0, none⟩) (1 + len) cp) (1 + len) (strCells (y :: ss)) ∧ Below w.heap.size w w' := by
  have hblt : b < w.heap.size := block_lt_of_cell hb0
  have hclt : c < w.heap.size := block_lt_of_cell hc
  have HL : Hid (Lst w a len ss) := hL
  have HB : Hid (∀ W, Below w.heap.size w W → W.cell? ⟨b, 0, none⟩ = some (.slice (some ⟨c, 0, none⟩) 1 1) ∧ W.cell? ⟨b, 1, none⟩ = some (.slice a len cap) ∧ W.cell? ⟨c, 0, none⟩ = some (.string y)) := fun W hb =>
    ⟨(hb.cell (p := ⟨b, 0, none⟩) hblt).trans hb0, (hb.cell (p := ⟨b, 1, none⟩) hblt).trans hb1, (hb.cell (p := ⟨c, 0, none⟩) hclt).trans hc⟩
  have w1 : IntKind.i64.wrap (1 + (len : Int)) = 1 + (len : Int) := by rw [IntKind.wrap_i64]; omega
  have w0 : ¬ (1 + (len : Int) < 0) := by omega
  clear hL hblt hclt
  go_enter Tryz.func68, Tryz.ntmps68
  go_wp2
  go_loopg [3, 11] 2 (fun gk v i wr => (gk = 2 ∧ i = .int .i64 0 ∧ v = .int .i64 0 ∧ w = wr) ∨ (gk = 1 ∧ i = .int .i64 1 ∧ v = .int .i64 1 ∧ w = wr) ∨ (gk = 0 ∧ i = .int .i64 2 ∧ v = .int .i64 (1 + (len : Int)) ∧ w = wr))
  case atStart => exact Or.inl ⟨rfl, rfl, rfl, rfl⟩
  case round =>
    rcases hrel with ⟨rfl, rfl, rfl, rfl⟩ | ⟨rfl, rfl, rfl, rfl⟩ | ⟨rfl, rfl, rfl, rfl⟩
    · go_wp2
      go_roundg 1
      case measure => omega
      case rel => exact Or.inr (Or.inl ⟨rfl, rfl, rfl, rfl⟩)
    · go_wp2
      go_roundg 0
      case measure => omega
      case rel => exact Or.inr (Or.inr ⟨rfl, rfl, rfl, rfl⟩)
    · have hgr := grow_any (1 + len) (by omega) (by omega) w
      rw [show ((1 + len : Nat) : Int) = 1 + (len : Int) by omega] at hgr
      go_wp2_with fail
      refine hgr.mono ?_
      rintro e w2 ⟨cp0, rfl, hown, hb2⟩
      clear hgr hb0 hb1 hc
      go_wp2
      go_loopg [6, 27] 2 (fun gk v i wr => Below w.heap.size w wr ∧ ((gk = 2 ∧ i = .int .i64 0 ∧ ∃ g cp, v = .slice (some ⟨g, 0, none⟩) 0 cp ∧ wr.ownsRow w.heap.size 9 1 (.slice (some ⟨g, 0, none⟩) 0 cp) 0 []) ∨ (gk = 1 ∧ i = .int .i64 1 ∧ ∃ g cp, v = .slice (some ⟨g, 0, none⟩) 1 cp ∧ wr.ownsRow w.heap.size 9 1 (.slice (some ⟨g, 0, none⟩) 1 cp) 1 (strCells [y])) ∨ (gk = 0 ∧ i = .int .i64 2 ∧ ∃ g cp, v = .slice (some ⟨g, 0, none⟩) (1 + len) cp ∧ wr.ownsRow w.heap.size 9 1 (.slice (some ⟨g, 0, none⟩) (1 + len) cp) (1 + len) (strCells (y :: ss)))))
      case atStart => exact ⟨hb2, Or.inl ⟨rfl, rfl, _, cp0, rfl, hown⟩⟩
      case round =>
        clear hown hb2
        obtain ⟨hbel, ⟨rfl, rfl, g, cp, rfl, hown⟩ | ⟨rfl, rfl, g, cp, rfl, hown⟩ | ⟨rfl, rfl, g, cp, rfl, hown⟩⟩ := hrel
        · obtain ⟨hb0, hb1, hc⟩ := HB.out wr hbel
          have hL1 : Lst wr (some ⟨c, 0, none⟩) 1 [y] := ⟨rfl, by omega, fun i s hs => by
            have hi : i < 1 := (List.getElem?_eq_some_iff.1 hs).1
            obtain rfl : i = 0 := by omega
            obtain rfl : y = s := by simpa using hs
            exact ⟨c, 0, rfl, block_lt_of_cell hc, hc⟩⟩
          go_wp2_with (at_builtin; refine wpList_append_lst rfl _ _ rfl w.heap.size g 0 cp [] rfl hown (some ⟨c, 0, none⟩) 1 1 [y] rfl hL1 (fun h => by cases h) (by omega) hbel.size ?_; intro g' c' w' hown' hb')
          have R : w'.ownsRow w.heap.size 9 1 (.slice (some ⟨g', 0, none⟩) 1 c') 1 (strCells [y]) := hown'
          have hb2 := hbel.trans hb'
          clear hown hown' hb0 hb1 hc hbel hb' hL1
          go_wp2
          go_roundg 1
          case measure => omega
          case rel => exact ⟨hb2, Or.inr (Or.inl ⟨rfl, rfl, g', c', rfl, R⟩)⟩
        · obtain ⟨hb0, hb1, hc⟩ := HB.out wr hbel
          have hL2 := HL.out.below hbel
          go_wp2_with (at_builtin; refine wpList_append_lst rfl _ _ rfl w.heap.size g 1 cp (strCells [y]) rfl hown a len cap ss rfl hL2 hnil (by omega) hbel.size ?_; intro g' c' w' hown' hb')
          have R : w'.ownsRow w.heap.size 9 1 (.slice (some ⟨g', 0, none⟩) (1 + len) c') (1 + len) (strCells (y :: ss)) := hown'
          have hb2 := hbel.trans hb'
          clear hown hown' hb0 hb1 hc hbel hb' hL2
          go_wp2
          go_roundg 0
          case measure => omega
          case rel => exact ⟨hb2, Or.inr (Or.inr ⟨rfl, rfl, g', c', rfl, R⟩)⟩
        · go_wp2
          go_ret
          exact ⟨g, cp, rfl, hown, hbel⟩

end Go.Proofs.YtengclnahppmhaaGreatDoor

namespace Go.Proofs.YtengclnahppmhaaGreatDoor
open Go.RowKit Go.Lib Go.Deep

theorem sum_two (s t : ByteArray) (w : World) (ht : Tabs w) (h4 : 8 ≤ w.heap.size) (hs : s.size + t.size < 576460752303423488) :
    Calls Tryz.prog 66 #[.slice (some ⟨w.heap.size, 0, none⟩) 2 2] (w.alloc (.cells #[.string s, .string t] 9)) fun e w' => e = .returned (.string (str (shaL (s.data.toList ++ t.data.toList)))) ∧ Below w.heap.size w w' := by
  have hb : Below w.heap.size w (w.alloc (.cells #[.string s, .string t] 9)) := (Below.refl _ _).alloc (Nat.le_refl _) _
  have hj : joinL [s, t] = s.data.toList ++ t.data.toList := by simp [joinL]
  have h := sum_some _ (ht.below hb (by omega)) (by simp; omega) w.heap.size 0 2 2 [s, t] rfl (by omega) (by simp) (cells_strs w [s, t]) (by rw [hj, List.length_append, ← size_eq, ← size_eq]; exact hs)
  rw [hj] at h
  refine h.mono ?_
  rintro e w' ⟨rfl, h2⟩
  exact ⟨rfl, hb.trans (h2.mono (by simp))⟩

set_option maxRecDepth 20000 in
set_option maxHeartbeats 1000000 in
theorem ksum_any (yi yo : ByteArray) (h64 : yo.size ≤ 64) (w : World) (ht : Tabs w) (h4 : 8 ≤ w.heap.size) (a : Option Addr) (len cap : Nat) (ss : List ByteArray) (hL : Lst w a len ss) (hnil : a = none → cap = 0) (hsm : len ≤ 2147483647) (hJ : yi.size + (joinL ss).length < 576460752303423488) :
    Calls Tryz.prog 45 #[.agg #[.string yi, .string yo], .slice a len cap] w fun e w' => e = .returned (.string (str (shaL (yo.data.toList ++ shaL (yi.data.toList ++ joinL ss))))) ∧ Below w.heap.size w w' := by
  have hbB : Below w.heap.size w (w.alloc (.cells #[.string yi, .string yo] 94)) := (Below.refl _ _).alloc (Nat.le_refl _) _
  have x0 : (w.alloc (.cells #[.string yi, .string yo] 94)).cell? ⟨w.heap.size, 0, none⟩ = some (.string yi) := by rw [cell_of_heap (heap_new _ _)]; rfl
  have x1 : (w.alloc (.cells #[.string yi, .string yo] 94)).cell? ⟨w.heap.size, 1, none⟩ = some (.string yo) := by rw [cell_of_heap (heap_new _ _)]; rfl
  have HL : Hid (Lst w a len ss) := hL
  clear hL
  go_enter Tryz.func45, Tryz.ntmps45
  go_wp2_with fail
  refine with_world (R := fun W => Code.wp _ _ _ _ W) (Q := fun W => W.heap.size = w.heap.size + 1 ∧ Below w.heap.size w W ∧ W.cell? ⟨w.heap.size, 0, none⟩ = some (.string yi) ∧ W.cell? ⟨w.heap.size, 1, none⟩ = some (.string yo)) _ ⟨by simp, hbB, x0, x1⟩ ?_
  clear x0 x1 hbB
  rintro wB ⟨hsz, hbB, x0, x1⟩
  obtain ⟨p, hp⟩ : ∃ p, w.heap.size = p := ⟨_, rfl⟩
  rw [hp] at hsz hbB x0 x1 h4 ⊢
  have n0 : p ≠ wB.heap.size := by omega
  have n1 : p ≠ wB.heap.size + 1 := by omega
  have KS : Hid (∀ W w', (W.cell? ⟨p, 0, none⟩ = some (.string yi) ∧ W.cell? ⟨p, 1, none⟩ = some (.string yo)) → Below W.heap.size W w' → (w'.cell? ⟨p, 0, none⟩ = some (.string yi) ∧ w'.cell? ⟨p, 1, none⟩ = some (.string yo))) := fun W w' h hb =>
    ⟨(hb.cell (p := ⟨p, 0, none⟩) (block_lt_of_cell h.1)).trans h.1, (hb.cell (p := ⟨p, 1, none⟩) (block_lt_of_cell h.2)).trans h.2⟩
  have hbB' : Below w.heap.size w wB := by rw [hp]; exact hbB
  have hb3 : Below w.heap.size w ((wB.alloc (.cells #[.string yi] 9)).alloc (.cells #[.slice (some ⟨p + 1, 0, none⟩) 1 1, .slice a len cap] 37)).drew := ((hbB'.alloc hbB'.size _).alloc (by simp; omega) _).drew
  have hcat := concat_any ((wB.alloc (.cells #[.string yi] 9)).alloc (.cells #[.slice (some ⟨p + 1, 0, none⟩) 1 1, .slice a len cap] 37)).drew (p + 1 + 1) (p + 1) a len cap yi ss
    (by
      have h := heap_new (wB.alloc (.cells #[.string yi] 9)) (.cells #[.slice (some ⟨p + 1, 0, none⟩) 1 1, .slice a len cap] 37)
      simp only [World.size_alloc, hsz] at h
      exact cell_of_heap h)
    (by
      have h := heap_new (wB.alloc (.cells #[.string yi] 9)) (.cells #[.slice (some ⟨p + 1, 0, none⟩) 1 1, .slice a len cap] 37)
      simp only [World.size_alloc, hsz] at h
      exact cell_of_heap h)
    (by
      have h := heap_new wB (.cells #[.string yi] 9)
      rw [hsz] at h
      have h2 : ((wB.alloc (.cells #[.string yi] 9)).alloc (.cells #[.slice (some ⟨p + 1, 0, none⟩) 1 1, .slice a len cap] 37)).drew.heap[p + 1]? = some (.cells #[.string yi] 9 (0, 0)) := (Below.heap_alloc _ _ _ (by simp; omega)).trans h
      exact cell_of_heap h2)
    (HL.out.below hb3) hnil hsm
  obtain ⟨W3, hW3⟩ : ∃ W3, ((wB.alloc (.cells #[.string yi] 9)).alloc (.cells #[.slice (some ⟨p + 1, 0, none⟩) 1 1, .slice a len cap] 37)).drew = W3 := ⟨_, rfl⟩
  have HJ : joinL (yi :: ss) = yi.data.toList ++ joinL ss := by simp [joinL]
  have HS1 : Hid (∀ w5 g cp, w5.ownsRow W3.heap.size 9 1 (.slice (some ⟨g, 0, none⟩) (1 + len) cp) (1 + len) (strCells (yi :: ss)) → Below W3.heap.size W3 w5 → Calls Tryz.prog 66 #[.slice (some ⟨g, 0, none⟩) (1 + len) cp] w5 fun e w' => e = .returned (.string (str (shaL (yi.data.toList ++ joinL ss)))) ∧ Below w5.heap.size w5 w') := fun w5 g cp ho hb5 => by
    have hbb : Below w.heap.size w w5 := by rw [← hW3] at hb5; exact hb3.trans (hb5.mono hb3.size)
    have hg : g < w5.heap.size := by
      rcases ho.2 with ⟨e, _⟩ | ⟨g', c', cur, e, _, h2, _⟩
      · cases e
      · cases e; exact heap_lt h2
    have h := sum_some w5 (ht.below hbb (by omega)) (by have := hbb.size; omega) g 0 (1 + len) cp (yi :: ss) (by rw [List.length_cons, HL.out.sz]; omega) (by omega) hg (fun i s hs => by
      have hi : i < (yi :: ss).length := (List.getElem?_eq_some_iff.1 hs).1
      rw [Nat.zero_add, ho.cellAt i (by rw [List.length_cons, HL.out.sz] at hi; omega)]
      rw [strCells, List.getElem?_map, hs]
      rfl) (by rw [HJ, List.length_append, ← size_eq]; exact hJ)
    rw [HJ] at h
    exact h
  have HS2 : Hid (∀ w6, Below w.heap.size w w6 → Calls Tryz.prog 66 #[.slice (some ⟨w6.heap.size, 0, none⟩) 2 2] (w6.alloc (.cells #[.string yo, .string (str (shaL (yi.data.toList ++ joinL ss)))] 9)) fun e w' => e = .returned (.string (str (shaL (yo.data.toList ++ shaL (yi.data.toList ++ joinL ss))))) ∧ Below w6.heap.size w6 w') := fun w6 hb => by
    have h := sum_two yo (str (shaL (yi.data.toList ++ joinL ss))) w6 (ht.below hb (by omega)) (by have := hb.size; omega) (by rw [str_size, shaL_length]; omega)
    rw [str_data] at h
    exact h
  have HB3 : Hid (∀ w5 w6, Below W3.heap.size W3 w5 → Below w5.heap.size w5 w6 → Below w.heap.size w w6) := fun w5 w6 h5 h6 => by
    rw [← hW3] at h5
    exact (hb3.trans (h5.mono hb3.size)).trans (h6.mono (Nat.le_trans hb3.size h5.size))
  rw [hW3] at hcat
  have KW : Hid (W3.cell? ⟨p, 0, none⟩ = some (.string yi) ∧ W3.cell? ⟨p, 1, none⟩ = some (.string yo)) := by
    rw [← hW3]
    refine KS.out wB _ ⟨x0, x1⟩ ?_
    exact (((Below.refl wB.heap.size wB).alloc (Nat.le_refl _) _).alloc (by simp) _).drew
  have HP6 : Hid (∀ w5 w6, Below W3.heap.size W3 w5 → Below w5.heap.size w5 w6 → p < w6.heap.size) := fun w5 w6 h5 h6 => by
    have h1 : p < W3.heap.size := block_lt_of_cell KW.out.1
    have := h5.size
    have := h6.size
    omega
  have KS3 : Hid (∀ w6 o w7, (World.cell? (w6.alloc o) ⟨p, 0, none⟩ = some (.string yi) ∧ World.cell? (w6.alloc o) ⟨p, 1, none⟩ = some (.string yo)) → p < w6.heap.size → Below w6.heap.size w6 w7 → (w7.cell? ⟨p, 0, none⟩ = some (.string yi) ∧ w7.cell? ⟨p, 1, none⟩ = some (.string yo))) := fun w6 o w7 h hp hb => by
    have e : ∀ j, w7.cell? ⟨p, j, none⟩ = World.cell? (w6.alloc o) ⟨p, j, none⟩ := fun j => (hb.cell (p := ⟨p, j, none⟩) hp).trans (World.cell?_of_block (Below.heap_alloc w6 o p hp)).symm
    exact ⟨(e 0).trans h.1, (e 1).trans h.2⟩
  clear hb3 hbB hbB' HJ
  have hp' : Hid (w.heap.size = p) := hp
  clear hp
  go_region_held_law (fun W => W.cell? ⟨p, 0, none⟩ = some (.string yi) ∧ W.cell? ⟨p, 1, none⟩ = some (.string yo)) (first | exact KW.out | exact KS.out _ _ (by assumption) (by assumption) | exact KS3.out w6 _ _ (by assumption) hpl6 hb7 | go_keep)
    (first | (go_at_call 68; refine hcat.mono ?_; rintro e w5 ⟨g, cp, rfl, hown5, hb5⟩; have hs5 := HS1.out w5 g cp hown5 hb5) | (go_at_call 66; refine hs6.mono ?_; rintro e w7 ⟨rfl, hb7⟩) | (go_at_call 66; refine hs5.mono ?_; rintro e w6 ⟨rfl, hb6⟩; have hb06 := HB3.out w5 w6 hb5 hb6; have hpl6 := HP6.out w5 w6 hb5 hb6; have hs6 := HS2.out w6 hb06))
  all_goals
    go_wp2
    go_ret
    exact ⟨rfl, hb06.trans (hb7.mono hb06.size)⟩

end Go.Proofs.YtengclnahppmhaaGreatDoor

namespace Go.Proofs.YtengclnahppmhaaGreatDoor
open Go.RowKit Go.Lib

/-- the block that holds the two blocks of the key -/
def Kb (w : World) (p : Nat) (yi yo : ByteArray) : Prop := w.heap[p]? = some (.cells #[.string yi, .string yo] 94 (0, 0))
theorem Kb.below {w w' : World} {B p : Nat} {yi yo : ByteArray} (h : Kb w p yi yo) (hb : Below B w w') (hp : p < B) : Kb w' p yi yo := (hb.block p hp).trans h

end Go.Proofs.YtengclnahppmhaaGreatDoor

namespace Go.Proofs.YtengclnahppmhaaGreatDoor
open Go.RowKit Go.Lib Go.Deep

set_option maxRecDepth 20000 in
set_option maxHeartbeats 1000000 in
theorem hmac_any (key : ByteArray) (hk : key.size < 576460752303423488) (w : World) (ht : Tabs w) (h4 : 8 ≤ w.heap.size) (a : Option Addr) (len cap : Nat) (ss : List ByteArray) (hL : Lst w a len ss) (hnil : a = none → cap = 0) (hsm : len ≤ 2147483647) (hJ : (joinL ss).length + 64 < 576460752303423488) :
    Calls Tryz.prog 43 #[.string key, .slice a len cap] w fun e w' => e = .returned (.string (str (hmacL key.data.toList (joinL ss)))) ∧ Below w.heap.size w w' := by
  have hbl := blocksOf_any key hk w ht h4
  have HI : Hid ((str (innerL key.data.toList)).size = 64 ∧ (str (outerL key.data.toList)).size = 64) := ⟨by rw [str_size, innerL_length], by rw [str_size, outerL_length]⟩
  have HH : Hid (hmacL key.data.toList (joinL ss) = shaL ((str (outerL key.data.toList)).data.toList ++ shaL ((str (innerL key.data.toList)).data.toList ++ joinL ss))) := by show _ = _; rw [str_data, str_data]; rfl
  revert hbl HI HH
  generalize str (innerL key.data.toList) = yi
  generalize str (outerL key.data.toList) = yo
  intro hbl HI HH
  have HL : Hid (Lst w a len ss) := hL
  clear hL
  go_enter Tryz.func43, Tryz.ntmps43
  go_wp2_with fail
  refine hbl.mono ?_
  rintro e w1 ⟨rfl, hb1⟩
  have z1 := hb1.size
  have hks := ksum_any yi yo (by have := HI.out.2; omega) w1 (ht.below hb1 (by omega)) (by omega) a len cap ss (HL.out.below hb1) hnil hsm (by have := HI.out.1; omega)
  rw [← HH.out] at hks
  go_wp2_with (go_at_call 45; refine hks.mono ?_; rintro e w2 ⟨rfl, hb2⟩)
  go_ret
  exact ⟨rfl, hb1.trans (hb2.mono z1)⟩



theorem hmac_one (key s : ByteArray) (hk : key.size < 576460752303423488) (hs : s.size + 64 < 576460752303423488) (w : World) (ht : Tabs w) (h4 : 8 ≤ w.heap.size) :
    Calls Tryz.prog 43 #[.string key, .slice (some ⟨w.heap.size, 0, none⟩) 1 1] (w.alloc (.cells #[.string s] 9)) fun e w' => e = .returned (.string (str (hmacL key.data.toList s.data.toList))) ∧ Below w.heap.size w w' := by
  have hb : Below w.heap.size w (w.alloc (.cells #[.string s] 9)) := (Below.refl _ _).alloc (Nat.le_refl _) _
  have h := hmac_any key hk _ (ht.below hb (by omega)) (by simp; omega) (some ⟨w.heap.size, 0, none⟩) 1 1 [s] (lst_one s w) (fun h => by cases h) (by omega) (by rw [joinL_one, ← size_eq]; exact hs)
  rw [joinL_one] at h
  refine h.mono ?_
  rintro e w' ⟨rfl, h2⟩
  exact ⟨rfl, hb.trans (h2.mono (by simp))⟩

end Go.Proofs.YtengclnahppmhaaGreatDoor

namespace Go.Proofs.YtengclnahppmhaaGreatDoor
open Go.RowKit Go.Lib

theorem kextract_any (salt secret : ByteArray) (h1 : salt.size ≤ 140737488351232) (h2 : secret.size ≤ 140737488351232) (w : World) (ht : Tabs w) (h4 : 8 ≤ w.heap.size) :
    Calls Tryz.prog 18 #[.string salt, .string secret] w fun e w' => e = .returned (.string (str (hmacL salt.data.toList secret.data.toList))) ∧ Below w.heap.size w w' := by
  have hh := hmac_one salt secret (by omega) (by omega) w ht h4
  go_enter Tryz.func18, Tryz.ntmps18
  go_wp2_with (go_at_call 43; refine hh.mono ?_; rintro e w1 ⟨rfl, hb1⟩)
  go_ret
  exact ⟨rfl, hb1⟩

end Go.Proofs.YtengclnahppmhaaGreatDoor

namespace Go.Proofs.YtengclnahppmhaaGreatDoor
open Go.RowKit Go.Lib

/-- the pieces of Expand: the last one, and all -/
def expLast (key info : List UInt8) : Nat → List UInt8
  | 0 => []
  | k + 1 => hmacL key (expLast key info k ++ (info ++ [UInt8.ofNat (k + 1)]))
def expAll (key info : List UInt8) : Nat → List UInt8
  | 0 => []
  | k + 1 => expAll key info k ++ expLast key info (k + 1)
theorem expAll_length (key info : List UInt8) : ∀ k, (expAll key info k).length = 32 * k
  | 0 => rfl
  | k + 1 => by rw [expAll, List.length_append, expAll_length key info k, expLast, hmacL_length]; omega
theorem expLast_le (key info : List UInt8) : ∀ k, (expLast key info k).length ≤ 32
  | 0 => by simp [expLast]
  | k + 1 => by rw [expLast, hmacL_length]; omega
/-- Expand of n bytes -/
def expL (key info : List UInt8) (n : Nat) : List UInt8 := (expAll key info ((n + 31) / 32)).take n
theorem expL_length (key info : List UInt8) (n : Nat) : (expL key info n).length = n := by
  rw [expL, List.length_take, expAll_length]
  omega

theorem one_byte (k : Nat) (w : World) : (convert 96 9 (.slice (some ⟨w.heap.size, 0, none⟩) 1 1)).run Tryz.prog (w.alloc (.cells #[.int .u8 ((k : Int) % 256)] 5)) = .ok (.string (str [UInt8.ofNat k])) (w.alloc (.cells #[.int .u8 ((k : Int) % 256)] 5)) := by
  refine run_convert_bytes_back (P := Tryz.prog) _ 96 9 5 ⟨w.heap.size, 0, none⟩ 1 [UInt8.ofNat k] Tryz.underlying96 Tryz.underlying5 Tryz.underlying9 (fun j hj => ?_)
  have hj0 : j = 0 := by simp at hj; omega
  subst hj0
  have h := cells_new w #[.int .u8 ((k : Int) % 256)] 5 0 (.int .u8 ((k : Int) % 256)) rfl
  rw [h]
  congr 2

theorem lst_three (s t u : ByteArray) (w : World) : Lst (w.alloc (.cells #[.string s, .string t, .string u] 9)) (some ⟨w.heap.size, 0, none⟩) 3 [s, t, u] :=
  ⟨rfl, by omega, fun i x h => ⟨w.heap.size, 0, rfl, by simp, cells_strs w [s, t, u] i x h⟩⟩

theorem kexpand_bad (key info : ByteArray) (n : Int) (h : n < 0 ∨ 8160 < n) (w : World) :
    Calls Tryz.prog 19 #[.string key, .string info, .int .i64 n] w fun e w' => e = .returned (.tuple #[.string { data := #[] }, .int .i64 31]) ∧ Below w.heap.size w w' := by
  by_cases h1 : n < 0
  · go_enter Tryz.func19, Tryz.ntmps19
    go_wp2
    go_ret2
    exact ⟨rfl, Below.refl _ _⟩
  · have h2 : (8160 : Int) < n := by omega
    go_enter Tryz.func19, Tryz.ntmps19
    go_wp2
    go_ret2
    exact ⟨rfl, Below.refl _ _⟩

end Go.Proofs.YtengclnahppmhaaGreatDoor

namespace Go.Proofs.YtengclnahppmhaaGreatDoor
open Go.RowKit Go.Lib


set_option maxRecDepth 20000 in
set_option maxHeartbeats 2000000 in
theorem kexpand_any (key info : ByteArray) (n : Int) (hk : key.size ≤ 140737488351232) (hin : info.size ≤ 140737488351232) (h1 : 0 ≤ n) (h2 : n ≤ 8160) (w : World) (ht : Tabs w) (h4 : 8 ≤ w.heap.size) :
    Calls Tryz.prog 19 #[.string key, .string info, .int .i64 n] w fun e w' => e = .returned (.tuple #[.string (str (expL key.data.toList info.data.toList n.toNat)), .int .i64 0]) ∧ Below w.heap.size w w' := by
  obtain ⟨i0, hi, hz0, hz1, hz2⟩ := info_parts info5
  obtain ⟨N, rfl⟩ := Int.eq_ofNat_of_zero_le h1
  rw [Int.toNat_natCast]
  have e1 : ¬ (N : Int) < 0 := by omega
  have e2 : ¬ (8160 : Int) < (N : Int) := by omega
  have HN : Hid (expL key.data.toList info.data.toList N = (expAll key.data.toList info.data.toList ((N + 31) / 32)).take N) := rfl
  have hbl := blocksOf_any key (by omega) w ht h4
  have HI : Hid ((str (innerL key.data.toList)).size = 64 ∧ (str (outerL key.data.toList)).size = 64) := ⟨by rw [str_size, innerL_length], by rw [str_size, outerL_length]⟩
  have HH : Hid (∀ t, hmacL key.data.toList t = shaL ((str (outerL key.data.toList)).data.toList ++ shaL ((str (innerL key.data.toList)).data.toList ++ t))) := fun t => by rw [str_data, str_data]; rfl
  revert hbl HI HH
  generalize str (innerL key.data.toList) = yi
  generalize str (outerL key.data.toList) = yo
  intro hbl HI HH
  go_enter Tryz.func19, Tryz.ntmps19
  go_wp2_with fail
  refine hbl.mono ?_
  clear hbl
  rintro e w1 ⟨rfl, hb1⟩
  have z1 := hb1.size
  have hth : ∀ z : Array Value, z.size = 2 → (w1.alloc (.cells z 94)).there w1.heap.size 0 (#[Value.string yi, .string yo] : Array Value).size := fun z hz => there_of_heap (heap_new _ _) (by rw [hz]; exact Nat.le_refl 2)
  have hone2 : (#[Value.string yi, .string yo] : Array Value).all (·.oneCell') = true := all_oneCell_toArray (cs := [Value.string yi, .string yo]) (strCells_one [yi, yo])
  have hr2 : ∀ z : Array Value, z.size = 2 → Kb ((w1.alloc (.cells z 94)).setCells w1.heap.size 0 [Value.string yi, .string yo]) w1.heap.size yi yo := fun z hz => by
    have h := heap_setCells w1.heap.size 94 [Value.string yi, .string yo] 0 z _ (heap_new w1 (.cells z 94))
    rw [setMany_all _ _ (by rw [hz]; rfl)] at h
    exact h
  have hbz : ∀ z : Array Value, Below w.heap.size w ((w1.alloc (.cells z 94)).setCells w1.heap.size 0 [Value.string yi, .string yo]) := fun z => Below.setCells (hb1.alloc z1 _) z1 _ _
  go_wp2_with (refine wpList_store_mid rfl 94 (.tmp 8) (.tmp 19) rfl w1.heap.size 0 #[Value.string yi, .string yo] rfl rfl (hth _ rfl) size2 hone2 ?_)
  refine with_world (R := fun W => Code.wp _ _ _ _ W) (Q := fun W => Kb W w1.heap.size yi yo ∧ Below w.heap.size w W) _ ⟨hr2 _ rfl, hbz _⟩ ?_
  clear hth hone2 hr2 hbz hb1
  obtain ⟨p, hp⟩ : ∃ p, w1.heap.size = p := ⟨_, rfl⟩
  rw [hp] at z1 ⊢
  clear hp
  rintro w2 ⟨HK2, hb2⟩
  go_loopg [9, 10, 11] ((N + 31) / 32) (fun gk ov lv i wr => ∃ k : Nat, k + gk = (N + 31) / 32 ∧ i = .int .i64 ((k : Int) + 1) ∧ wr.ownsRow (p + 1) 5 1 ov (expAll key.data.toList info.data.toList k).length (Lib.byteCells (expAll key.data.toList info.data.toList k)) ∧ lv = .string (str (expLast key.data.toList info.data.toList k)) ∧ Kb wr p yi yo ∧ Below w.heap.size w wr)
  case atStart => exact ⟨0, by omega, rfl, World.ownsRow_nil _ _ _ _, rfl, HK2, hb2⟩
  case round =>
    clear HK2 hb2
    obtain ⟨k, hk', rfl, hown, rfl, HKb, hbel⟩ := hrel
    have HK : Hid (k + gk = (N + 31) / 32) := hk'
    have hk'' : k ≤ (N + 31) / 32 := by omega
    clear hk'
    have hlA := expAll_length key.data.toList info.data.toList k
    have hplt : p < wr.heap.size := heap_lt HKb
    rw [hlA] at hown
    obtain ⟨sl, cp, hov⟩ : ∃ sl cp, u9 = Value.slice sl (32 * k) cp := by
      rcases hown.2 with ⟨e, h0⟩ | ⟨g, cp, cur, e, _⟩
      · exact ⟨none, 0, by rw [e, h0]⟩
      · exact ⟨_, cp, e⟩
    subst hov
    by_cases hlt : k < (N + 31) / 32
    · have hsl : 32 * (k : Int) < (N : Int) := by omega
      have hlast := expLast_le key.data.toList info.data.toList k
      have hob := one_byte (k + 1) wr
      rw [show ((k + 1 : Nat) : Int) = (k : Int) + 1 by omega, show ((k : Int) + 1) % 256 = (k : Int) + 1 by omega] at hob
      have hbA : Below w.heap.size w (wr.alloc (.cells #[.int .u8 ((k : Int) + 1)] 5)) := hbel.alloc hbel.size _
      have hJ : joinL [str (expLast key.data.toList info.data.toList k), info, str [UInt8.ofNat (k + 1)]] = expLast key.data.toList info.data.toList k ++ (info.data.toList ++ [UInt8.ofNat (k + 1)]) := by simp [joinL, str_data]
      have hbB : Below w.heap.size w ((wr.alloc (.cells #[.int .u8 ((k : Int) + 1)] 5)).alloc (.cells #[.string (str (expLast key.data.toList info.data.toList k)), .string info, .string (str [UInt8.ofNat (k + 1)])] 9)) := hbA.alloc hbA.size _
      have hks := ksum_any yi yo (by have := HI.out.2; omega) ((wr.alloc (.cells #[.int .u8 ((k : Int) + 1)] 5)).alloc (.cells #[.string (str (expLast key.data.toList info.data.toList k)), .string info, .string (str [UInt8.ofNat (k + 1)])] 9)) (ht.below hbB (by omega)) (by have := hbB.size; omega) (some ⟨(wr.alloc (.cells #[.int .u8 ((k : Int) + 1)] 5)).heap.size, 0, none⟩) 3 3 _ (lst_three _ _ _ (wr.alloc (.cells #[.int .u8 ((k : Int) + 1)] 5))) (fun h => by cases h) (by omega) (by rw [hJ]; simp only [List.length_append, List.length_cons, List.length_nil]; rw [← size_eq]; have := HI.out.1; omega)
      rw [hJ, ← HH.out] at hks
      have HL1 : Hid (expLast key.data.toList info.data.toList (k + 1) = hmacL key.data.toList (expLast key.data.toList info.data.toList k ++ (info.data.toList ++ [UInt8.ofNat (k + 1)]))) := rfl
      rw [← HL1.out] at hks
      simp only [World.size_alloc] at hks
      have HKbB : Hid (∀ W, Below (wr.heap.size + 1 + 1) ((wr.alloc (.cells #[.int .u8 ((k : Int) + 1)] 5)).alloc (.cells #[.string (str (expLast key.data.toList info.data.toList k)), .string info, .string (str [UInt8.ofNat (k + 1)])] 9)) W → Kb W p yi yo ∧ Below w.heap.size w W ∧ W.ownsRow (p + 1) 5 1 (.slice sl (32 * k) cp) (32 * k) (Lib.byteCells (expAll key.data.toList info.data.toList k)) ∧ p + 1 ≤ W.heap.size) := fun W hb => by
        have hb : Below ((wr.alloc (.cells #[.int .u8 ((k : Int) + 1)] 5)).alloc (.cells #[.string (str (expLast key.data.toList info.data.toList k)), .string info, .string (str [UInt8.ofNat (k + 1)])] 9)).heap.size ((wr.alloc (.cells #[.int .u8 ((k : Int) + 1)] 5)).alloc (.cells #[.string (str (expLast key.data.toList info.data.toList k)), .string info, .string (str [UInt8.ofNat (k + 1)])] 9)) W := by simp only [World.size_alloc]; exact hb
        have hs := hb.size
        simp only [World.size_alloc] at hs
        refine ⟨?_, hbB.trans (hb.mono hbB.size), ?_, by omega⟩
        · exact (hb.block p (by simp; omega)).trans ((Below.heap_alloc _ _ _ (by simp; omega)).trans ((Below.heap_alloc _ _ _ hplt).trans HKb))
        · have ho := (hown.alloc (.cells #[.int .u8 ((k : Int) + 1)] 5)).alloc (.cells #[.string (str (expLast key.data.toList info.data.toList k)), .string info, .string (str [UInt8.ofNat (k + 1)])] 9)
          obtain ⟨h1, h2⟩ := ho
          refine ⟨h1, ?_⟩
          rcases h2 with h0 | ⟨g', cap', cur', f1, f2, f3, f4⟩
          · exact .inl h0
          · exact .inr ⟨g', cap', cur', f1, f2, (hb.block _ (heap_lt f3)).trans f3, f4⟩
      obtain ⟨yL', hL'⟩ : ∃ y, str (expLast key.data.toList info.data.toList (k + 1)) = y := ⟨_, rfl⟩
      have HL' : Hid (str (expLast key.data.toList info.data.toList (k + 1)) = yL') := hL'
      have hsL : yL'.size = 32 := by rw [← hL', str_size, HL1.out, hmacL_length]
      have hdL : yL'.data.toList = expLast key.data.toList info.data.toList (k + 1) := by rw [← hL', str_data]
      rw [hL'] at hks
      clear hL' HL1
      have hld : wr.heap[p]? = some (.cells #[.string yi, .string yo] 94 (0, 0)) := HKb
      revert hob hks HKbB
      generalize str (expLast key.data.toList info.data.toList k) = yL
      generalize str [UInt8.ofNat (k + 1)] = yb
      intro hob HKbB hks
      have w1' : IntKind.i64.wrap ((k : Int) + 1 + 1) = (k : Int) + 1 + 1 := by rw [IntKind.wrap_i64]; omega
      have hml : 32 * k + yL'.size ≤ maxLen := by unfold maxLen; omega
      clear hbB hbA hJ HKb hown
      go_wp2_with (refine wpList_load_row rfl 94 (.tmp 8) rfl p rfl 94 _ (0, 0) _ hld Tryz.underlying94 rfl size2 ?_)
      refine hks.mono ?_
      rintro e w3 ⟨rfl, hb3⟩
      obtain ⟨R1, R2, R3, R4⟩ := HKbB.out w3 hb3
      go_wp2_with (at_builtin; refine Go.Lib.wpList_append_own_string _ rfl _ _ 96 9 rfl (p + 1) 5 i0 Tryz.underlying96 Tryz.underlying9 hi hz0 hz1 hz2 _ _ _ rfl R3 yL' rfl hml (by omega) R4 ?_; intro v' w' hown' hgrow' _)
      have hgb := grown_below hgrow' R4 R3
      have hnext : expAll key.data.toList info.data.toList (k + 1) = expAll key.data.toList info.data.toList k ++ expLast key.data.toList info.data.toList (k + 1) := rfl
      have R5 : w'.ownsRow (p + 1) 5 1 v' (expAll key.data.toList info.data.toList (k + 1)).length (Lib.byteCells (expAll key.data.toList info.data.toList (k + 1))) := by
        rw [hnext, List.length_append, hlA, ← hdL, ← size_eq, byteCells_append]
        exact hown'
      have R6 : Kb w' p yi yo := R1.below hgb (Nat.lt_succ_self p)
      have R7 : Below w.heap.size w w' := R2.trans (hgb.mono (by omega))
      clear hown' hgrow' R1 R2 R3 R4 hgb hnext hks HKbB hob hld
      go_wp2
      go_roundg (gk - 1)
      case measure => have := HK.out; omega
      case rel => exact ⟨k + 1, by have := HK.out; omega, by go_num, R5, by rw [HL'.out], R6, R7⟩
    · have HKE : Hid (k = (N + 31) / 32) := by show _ = _; omega
      have hsl : ¬ 32 * (k : Int) < (N : Int) := by omega
      have HR : Hid (expL key.data.toList info.data.toList N = (expAll key.data.toList info.data.toList k).take N) := by show _ = _; rw [HN.out, ← HKE.out]
      have htl : ((expAll key.data.toList info.data.toList k).take N).length = N := by rw [List.length_take, hlA]; omega
      rcases hown.2 with ⟨e, h0⟩ | ⟨g, cp', cur, e, _, hg2, hg3, _, _, hg6⟩
      · simp only [Value.slice.injEq] at e
        obtain ⟨rfl, _, rfl⟩ := e
        have hk0 : k = 0 := by omega
        have hN0 : N = 0 := by omega
        subst hN0
        have HE : Hid ((expAll key.data.toList info.data.toList k).take 0 = []) := rfl
        have hcvn := convert_own (P := Tryz.prog) wr 96 9 5 0 (.slice none 0 0) [] Tryz.underlying96 Tryz.underlying5 Tryz.underlying9 (World.ownsRow_nil _ _ _ _)
        clear hown HKb
        subst hk0
        go_wp2
        go_ret2
        rw [HR.out, HE.out]
        exact ⟨rfl, hbel⟩
      · simp only [Value.slice.injEq] at e
        obtain ⟨rfl, _, rfl⟩ := e
        have hcv : ∀ cc, (convert 96 9 (.slice (some ⟨g, 0, none⟩) N cc)).run Tryz.prog wr = .ok (.string (str ((expAll key.data.toList info.data.toList k).take N))) wr := fun cc => by
          have h := run_convert_bytes_back (P := Tryz.prog) wr 96 9 5 ⟨g, 0, none⟩ cc ((expAll key.data.toList info.data.toList k).take N) Tryz.underlying96 Tryz.underlying5 Tryz.underlying9 (fun j hj => by
            have hjN : j < N := by rw [htl] at hj; exact hj
            rw [Addr.add_lit, Nat.zero_add, hown.cellAt j (by omega), Lib.byteCells, List.getElem?_map, List.getElem?_eq_getElem (by rw [hlA]; omega)]
            simp)
          rw [htl] at h
          exact h
        have hNc : (N : Int) ≤ (cp : Int) := by omega
        clear hown HKb
        revert hcv HR
        generalize (expAll key.data.toList info.data.toList k).take N = T
        intro HR hcv
        go_wp2
        go_ret2
        rw [HR.out]
        exact ⟨rfl, hbel⟩

end Go.Proofs.YtengclnahppmhaaGreatDoor
