import Derived.Lib.BufferRead
import Derived.Test.YtlmopjbfagijeaaGreatDoorZkM
import Derived.Test.YtlmopjbfagijeaaGreatDoorSyM
namespace Go.Proofs.YtlmopjbfagijeaaGreatDoor.Sc
open Go.RowKit Go.Lib Go.Deep

/-- a row of bytes of the call's own that may yet be nil -/
def OwF (w : World) (base : Nat) (v : Value) (xs : List Value) : Prop := (v = .slice none 0 0 ∧ xs = []) ∨ RowF w base 5 v xs
theorem OwF.below {w w' : World} {B : Nat} {v : Value} {xs : List Value} (h : OwF w B v xs) (hb : Below w.heap.size w w') : OwF w' B v xs := h.imp id fun h => RowF.below h hb
theorem run_append_owF (w : World) (base ty : Nat) (i : TypeInfo) (hi : Tryz.prog.info? 5 = some i) (hz : i.zero = some (.int .u8 0))
    (hsize : i.size = 1) (hby : i.bytes = 1) (v : Value) (xs : List Value) (hv : OwF w base v xs) (s : ByteArray) (hs : 0 < s.size)
    (h63 : xs.length + s.size ≤ maxLen) (hbytes : xs.length + s.size ≤ 140737488355328) (hbase : base ≤ w.heap.size) :
    ∃ v' w', (Builtin.append_ #[51, 9] ty #[v, .string s]).run Tryz.prog w = .ok v' w' ∧ RowF w' base 5 v' (xs ++ strCells s) ∧ Below base w w' := by
  rcases hv with ⟨rfl, rfl⟩ | hv
  · have hr := run_append_nil_string (P := Tryz.prog) w 51 9 ty 5 i (.int .u8 0) Tryz.underlying51 Tryz.underlying9 hi hz s hs (by unfold maxLen at h63; simp at h63; omega) (by rw [hby]; simp at hbytes; omega)
    have hge := grownCap_ge w s.size 0 5
    have hcm2 : grownCap w s.size 0 5 ≤ maxLen := grownCap_le_maxLen w s.size 0 5 (by simpa using h63)
    have hz1 : (Value.int IntKind.u8 0).cells.size = 1 := rfl
    have e1 : (s.data.map fun b => Value.int .u8 b.toNat) = (strCells s).toArray := by
      apply Array.ext'
      simp [strCells]
    rw [e1] at hr
    refine ⟨_, _, hr, ⟨w.heap.size, _, _, (0, 0), by rw [List.nil_append, strCells_length], hbase, heap_alloc_new w.drew _, fun j _ => Lib.frozen_of_heap (heap_alloc_new w.drew _) j, ?_, by rw [List.nil_append, strCells_length]; exact hge, hcm2, ?_⟩, (Below.drew (Below.refl _ _)).alloc hbase _⟩
    · simp only [Array.size_append, List.size_toArray, size_zeroCells, hz1, strCells_length]
      omega
    · simp only [Array.toList_append, List.nil_append]
      exact List.take_left
  · obtain ⟨v', w', h1, h2, h3, -⟩ := run_append_rowF_string (P := Tryz.prog) w base 51 9 ty 5 i Tryz.underlying51 Tryz.underlying9 hi hz hsize hby v xs hv s h63 hbytes hbase
    exact ⟨v', w', h1, h2, h3⟩
theorem wpList_append_owF {ops : Array Oper} {rest : List Oper} {o : Oper} {a : Act} {w : World} {Q : Exit → Act → World → Prop} (hgd : o.guard = none) (sl x : Operand)
    (ho : o.op = .call { callee := .builtin .append, args := #[sl, x], argTypes := #[51, 9] })
    (base : Nat) (i : TypeInfo) (hi : Tryz.prog.info? 5 = some i) (hz : i.zero = some (.int .u8 0))
    (hsize : i.size = 1) (hby : i.bytes = 1) (v : Value) (xs : List Value) (hs : a.eval sl = v) (hv : OwF w base v xs) (s : ByteArray) (hx : a.eval x = .string s) (h0 : 0 < s.size)
    (h63 : xs.length + s.size ≤ maxLen) (hbytes : xs.length + s.size ≤ 140737488355328) (hbase : base ≤ w.heap.size)
    (h : ∀ v' w', OwF w' base v' (xs ++ strCells s) → Below base w w' → wpList Tryz.prog ops Q rest (a.put o.dst v') w') : wpList Tryz.prog ops Q (o :: rest) a w := by
  refine wpList_plain hgd fun K hK => ?_
  obtain ⟨v', w', hr, h2, h3⟩ := run_append_owF w base o.type i hi hz hsize hby v xs hv s h0 h63 hbytes hbase
  unfold Oper.wp execOp
  simp only [ho, resolve, invoke, builtin, Sem.run_bind, Sem.run_pure, Result.andThen_ok, List.map_toArray, List.map_cons, List.map_nil, hs, hx, hr]
  exact hK _ _ (h v' w' (.inr h2) h3)
theorem OwF.form {w : World} {B : Nat} {v : Value} {l : List UInt8} (h : OwF w B v (byteCells l)) : ∃ a c, v = .slice a l.length c := by
  rcases h with ⟨rfl, h⟩ | ⟨g, cap, cur, fr, rfl, -⟩
  · have := congrArg List.length h
    rw [byteCells_len] at this
    rw [show l.length = 0 from this]
    exact ⟨_, _, rfl⟩
  · rw [byteCells_len]
    exact ⟨_, _, rfl⟩
theorem OwF.text {w : World} {B : Nat} {v : Value} {l : List UInt8} (h : OwF w B v (byteCells l)) : (convert 51 9 v).run Tryz.prog w = .ok (.string (str l)) w := by
  rcases h with ⟨rfl, h⟩ | h
  · have := congrArg List.length h
    rw [byteCells_len] at this
    obtain rfl : l = [] := List.length_eq_zero_iff.1 this
    exact run_convert_nil_bytes (P := Tryz.prog) w 51 9 5 0 Tryz.underlying51 Tryz.underlying5 Tryz.underlying9
  · exact convert_rowF (P := Tryz.prog) w 51 9 5 B _ l Tryz.underlying51 Tryz.underlying5 Tryz.underlying9 h
/-- a batch's text, line by line -/
theorem batch_text (x : ActV) (t : List UInt8) (h : AForm x t) (h3 : x.1.kind = 3) : t ++ [10] = [98, 97, 116, 99, 104, 10] ++ linesT x.2 ++ [101, 110, 100, 10] := by
  obtain ⟨s, ⟨f, hf, hk, -, -, -, hs, -⟩, ht⟩ := h.text
  have hb : s = [98, 97, 116, 99, 104] := by
    rw [hs]
    rw [h3] at hk
    unfold actTab at hf
    simp only [List.mem_cons, List.not_mem_nil, or_false] at hf
    rcases hf with rfl | rfl | rfl | rfl | rfl | rfl
    all_goals first | (exfalso; revert hk; decide) | (unfold shGA; rfl)
  rw [ht, hb]
  unfold actText linesT
  rw [if_pos h3]
  simp [prT]
end Go.Proofs.YtlmopjbfagijeaaGreatDoor.Sc

namespace Go.Proofs.YtlmopjbfagijeaaGreatDoor.Sc
open Go.RowKit Go.Lib Go.Deep

set_option maxRecDepth 20000 in
set_option maxHeartbeats 4000000 in
theorem lines_yes (p : PlR) (V : List ActV) (hok : p.Ok) (hV : VOk V) (hn : V.length = p.nacts) (w : World) (hs : SeeV w p.acts V) (ht : ITab w) (t : ByteArray) (hp : printV p V = .tuple #[.string t, .int .i64 0]) :
    Calls Tryz.prog 5 #[.agg p.cells] w fun e w' => e = .returned (.bool true) ∧ Below w.heap.size w w' := by
  obtain ⟨W, hW⟩ : ∃ W, w.alloc (.cells p.cells 26) = W := ⟨_, rfl⟩
  have hbW : Below w.heap.size w W := by rw [← hW]; exact (Below.refl _ _).alloc (Nat.le_refl _) _
  have h1 : W.heap[w.heap.size]? = some (.cells p.cells 26 (0, 0)) := by rw [← hW]; exact heap_alloc_new _ _
  have HP : Hid (∀ U, Below W.heap.size W U → PlAt U w.heap.size p) := fun U hU => (plAt_of h1).below hU (heap_lt h1)
  have HB : Hid (Below w.heap.size w W) := hbW
  have hp1 := print_any p hok V hV hn W (hs.below hbW) (ht.below hbW ht.lt)
  rw [hp] at hp1
  have hln : lnsT V ≤ 20000 ∧ firA V = 0 ∧ t = str (headL p ++ actsT V) := by
    unfold printV at hp
    split at hp
    · simp at hp
    · split at hp
      · simp at hp
      · split at hp
        · rename_i hf
          simp at hp
          exact absurd hp.2 hf
        · rename_i hf
          split at hp
          · simp at hp
          · rename_i hr
            exact ⟨by omega, Classical.byContradiction hf, by simpa using hp.symm⟩
  have HZ : Hid (∀ x ∈ V, (prA x).2 = 0) := firA_zero V hln.2.1
  have HT : Hid (t = str (headL p ++ actsT V)) := hln.2.2
  have HVV : Hid (VOk V ∧ V.length = p.nacts ∧ lnsT V ≤ 20000) := ⟨hV, hn, hln.1⟩
  have HSV : Hid (SeeV w p.acts V ∧ ITab w) := ⟨hs, ht⟩
  have HAL : Hid (∀ j, (actsT (V.take j)).length ≤ 262145 * 20000) := by
    show ∀ j, _
    intro j
    have h1 := actsT_len (V.take j) (fun x hx => hV.each x (List.mem_of_mem_take hx)) (fun x hx => HZ.out x (List.mem_of_mem_take hx))
    have h2 := lnsT_mono V j
    have := Nat.mul_le_mul_left 262145 (show lnsT (V.take j) ≤ 20000 by omega)
    omega
  have htz : t.size ≤ 1125899906842624 := print_size p V hok hV t hp
  have HTZ : Hid (t.size ≤ 1125899906842624) := htz
  obtain ⟨c0, c1, c2, c3, c4, c5, c6, c7, c8, c9⟩ := (HP.out W (Below.refl _ _)).ten
  unfold PlR.cells at hW hp1 ⊢
  have HW : Hid (Unit → _ = W) := fun _ => hW
  obtain ⟨i0, hi0, hz0, hz1, hz2⟩ := info_parts info5
  clear hW h1 hbW hln hok hV hn hs ht hp htz
  go_enter Tryz.func5, Tryz.ntmps5
  go_upto_region 1 with fail
  rw [HW.out ()]
  clear HW
  go_wp2_with (first | (go_at_call 14; refine hp1.mono ?_; rintro e w1 ⟨rfl, hb1⟩; clear hp1; have HB1 : Hid (Below W.heap.size W w1) := hb1; clear hb1 c0 c1 c2 c3 c4 c5 c6 c7 c8) | (go_at_call 12; refine (num_any 0 ⟨by decide, by decide⟩ _).mono ?_; rintro e w2 ⟨rfl, rfl⟩))
  have hst0 : OwF w2 W.heap.size (.slice none 0 0) (byteCells (actsT (V.take 0))) := .inl ⟨rfl, rfl⟩
  have HB2 : Hid (Below W.heap.size W w2) := HB1.out
  go_loopg [5, 6] p.nacts (fun gk v i wr => ∃ j : Nat, j + gk = p.nacts ∧ i = .int .i64 (j : Int) ∧ OwF wr W.heap.size v (byteCells (actsT (V.take j))) ∧ Hid (Below W.heap.size W wr))
  case atStart => exact ⟨0, by omega, rfl, hst0, HB2.out⟩
  case round =>
    clear hst0 HB1 HB2 c9
    obtain ⟨j, hj, rfl, hown, HI⟩ := hrel
    obtain ⟨g0, hg0⟩ : ∃ g, g = gk := ⟨_, rfl⟩
    have HJ : Hid (j + gk = p.nacts) := hj
    have HG0 : Hid (g0 = gk) := hg0
    have hnab : p.nacts ≤ 1048576 := by rw [← HVV.out.2.1]; exact HVV.out.1.len
    have HBW : Hid (Below w.heap.size w wr) := HB.out.trans (HI.out.mono HB.out.size)
    have c9 : wr.cell? ⟨w.heap.size, 9, none⟩ = some (.slice p.acts p.nacts p.cacts) := (HP.out wr HI.out).ten.2.2.2.2.2.2.2.2.2
    have hHL := HAL.out j
    have hlb : (byteCells (actsT (V.take j))).length = (actsT (V.take j)).length := byteCells_len _
    by_cases hlt : j < p.nacts
    · have hltI : (j : Int) < (p.nacts : Int) := by omega
      obtain ⟨x, hx⟩ : ∃ x, V[j]? = some x := ⟨_, List.getElem?_eq_getElem (by rw [HVV.out.2.1]; exact hlt)⟩
      obtain ⟨hxok, hxo, hxn, hxl⟩ := HVV.out.1.each x (List.mem_of_getElem? hx)
      obtain ⟨b, off, hpa, hbl, hnine, hops⟩ := HSV.out.1.at hx
      rw [hpa] at c9
      have HPA : Hid (p.acts = some ⟨b, off, none⟩) := hpa
      have hP := prA_pa x ⟨hxok, hxo, hxn, hxl⟩
      have hzero : (prA x).2 = 0 := HZ.out x (List.mem_of_getElem? hx)
      have hst := actsT_take V j x hx
      have hgrow : (actsT (V.take j)).length + (prA x).1.size + 1 ≤ 262145 * 20000 := by
        have h1 := HAL.out (j + 1)
        rw [hst, List.length_append, List.length_append, ← size_eq] at h1
        simp only [List.length_cons, List.length_nil] at h1
        omega
      obtain ⟨k0, k1, k2, k3, k4, k5, k6, k7, k8⟩ := hnine.below HBW.out hbl
      have HNI2 : Hid (NineAt w b (off + j * 9) x.1 ∧ b < w.heap.size) := ⟨hnine, hbl⟩
      have HOP : Hid (SeeO w x.1.ops x.2 ∧ (∀ o ∈ x.2, o.Ok) ∧ x.2.length = x.1.nops ∧ x.2.length ≤ 1048576) := ⟨hops, hxo, hxn, hxl⟩
      have hf := hP.form hzero
      by_cases h3 : x.1.kind = 3
      · rw [h3] at k0
        have htx := batch_text x _ hf h3
        rw [htx] at hst
        have HST : Hid (actsT (V.take (j + 1)) = actsT (V.take j) ++ ([98, 97, 116, 99, 104, 10] ++ linesT x.2 ++ [101, 110, 100, 10])) := hst
        have HF : Hid (firE x.2 = 0) := hf.fir h3
        have hml : (byteCells (actsT (V.take j))).length + ({ data := #[98, 97, 116, 99, 104, 10] } : ByteArray).size ≤ maxLen := by
          have : ({ data := #[98, 97, 116, 99, 104, 10] } : ByteArray).size = 6 := rfl
          unfold maxLen
          omega
        have e6 : ({ data := #[98, 97, 116, 99, 104, 10] } : ByteArray).size = 6 := rfl
        have hBs := HI.out.size
        have hbig : (actsT (V.take j)).length ≤ 262145 * 20000 := hHL
        clear hxok hxo hxn hxl hpa hnine hops hbl hP hzero hst htx hf hgrow hx hj hg0
        go_wp2_with (at_builtin; refine wpList_append_owF rfl _ _ rfl W.heap.size i0 hi0 hz0 hz1 hz2 _ _ rfl hown ({ data := #[98, 97, 116, 99, 104, 10] } : ByteArray) rfl (by decide) hml (by omega) hBs ?_)
        intro v2 w3 hown2 hb3
        obtain ⟨A, hA⟩ : ∃ A, actsT (V.take j) ++ [98, 97, 116, 99, 104, 10] = A := ⟨_, rfl⟩
        have hAl : A.length ≤ 262145 * 20000 + 6 := by rw [← hA, List.length_append]; simp only [List.length_cons, List.length_nil]; omega
        have HST2 : Hid (actsT (V.take (j + 1)) = A ++ linesT x.2 ++ [101, 110, 100, 10]) := by
          show _ = _
          rw [HST.out, ← hA]
          simp
        have hst0 : OwF w3 W.heap.size v2 (byteCells (A ++ linesT (x.2.take 0))) := by
          rw [show linesT (x.2.take 0) = [] by simp [linesT], List.append_nil, ← hA, byteCells_append, show byteCells [98, 97, 116, 99, 104, 10] = strCells ({ data := #[98, 97, 116, 99, 104, 10] } : ByteArray) from rfl]
          exact hown2
        have HB3 : Hid (Below W.heap.size W w3) := HI.out.trans hb3
        clear hA hown hown2 hb3 hml e6 hBs hbig HST hHL hlb k0 k1 k2 k3 k4 k5 k6 k7 k8 c9
        go_wp2_with fail
        go_loopg [5, 9] x.1.nops (fun gi u q wi => ∃ k : Nat, k + gi = x.1.nops ∧ q = .int .i64 (k : Int) ∧ OwF wi W.heap.size u (byteCells (A ++ linesT (x.2.take k))) ∧ Hid (Below W.heap.size W wi))
        case atStart => exact ⟨0, by omega, rfl, hst0, HB3.out⟩
        case round =>
          clear hst0 HB3
          obtain ⟨k, hk, rfl, hown, HI3⟩ := hrel
          have HK : Hid (k + gk = x.1.nops) := hk
          have hnob : x.1.nops ≤ 1048576 := by have := HOP.out.2.2; omega
          have HBI : Hid (Below w.heap.size w wr) := HB.out.trans (HI3.out.mono HB.out.size)
          have c9 : wr.cell? ⟨w.heap.size, 9, none⟩ = some (.slice p.acts p.nacts p.cacts) := (HP.out wr HI3.out).ten.2.2.2.2.2.2.2.2.2
          rw [HPA.out] at c9
          obtain ⟨-, k1, -⟩ := HNI2.out.1.below HBI.out HNI2.out.2
          have hLL : (linesT (x.2.take k)).length ≤ 262145 * 1048576 := by
            have h1 := linesT_len (x.2.take k) fun o ho => HOP.out.2.1 o (List.mem_of_mem_take ho)
            have h2 : (x.2.take k).length ≤ 1048576 := by rw [List.length_take]; have := HOP.out.2.2.2; omega
            have := Nat.mul_le_mul_left 262145 h2
            omega
          have hlb : (byteCells (A ++ linesT (x.2.take k))).length = (A ++ linesT (x.2.take k)).length := byteCells_len _
          rw [List.length_append] at hlb
          by_cases hlk : k < x.1.nops
          · have hlkI : (k : Int) < (x.1.nops : Int) := by omega
            obtain ⟨o, ho⟩ : ∃ o, x.2[k]? = some o := ⟨_, List.getElem?_eq_getElem (by rw [HOP.out.2.2.1]; exact hlk)⟩
            obtain ⟨ob, oo, hoa, hol, hsix⟩ := HOP.out.1 (by intro e; rw [e] at ho; cases ho)
            rw [hoa] at k1
            obtain ⟨o0, o1, o2, o3, o4, o5⟩ := (hsix k o ho).below HBI.out hol
            have hook := HOP.out.2.1 o (List.mem_of_getElem? ho)
            obtain ⟨⟨-, -, hprog, -⟩, hxs⟩ := prO_ans o hook
            have hz := firE_zero x.2 HF.out o (List.mem_of_getElem? ho)
            have hlt2 := linesT_take x.2 k o ho
            have hr := hprog wr (HSV.out.2.below HBI.out HSV.out.2.lt)
            obtain ⟨s, hs⟩ : ∃ s, (prO o).1 = s := ⟨_, rfl⟩
            rw [hs] at hr hxs hlt2
            rw [hz] at hr
            unfold OpR.val OpR.cells at hr
            have z1 : ¬ 9223372036854775807 < s.size + 1 := by omega
            obtain ⟨tl, htl⟩ : ∃ tl, s ++ ({ data := #[10] } : ByteArray) = tl := ⟨_, rfl⟩
            have htz : tl.size = s.size + 1 := by rw [← htl, ByteArray.size_append]; rfl
            have htd : tl.data.toList = s.data.toList ++ [10] := by
              rw [← htl]
              simp [ByteArray.data_append]
            have hpos : 0 < tl.size := by omega
            have hml : (byteCells (A ++ linesT (x.2.take k))).length + tl.size ≤ maxLen := by unfold maxLen; omega
            have HLT : Hid (linesT (x.2.take (k + 1)) = linesT (x.2.take k) ++ tl.data.toList) := by
              show _ = _
              rw [htd]
              exact hlt2
            clear hsix hook hprog hz hs hoa hol ho hlt2 htd hk
            go_wp2_with (go_at_call 17; refine hr.mono ?_)
            rintro e w4 ⟨rfl, hb4⟩
            have hown3 := hown.below hb4
            have HB4 : Hid (Below W.heap.size W w4) := HI3.out.trans (hb4.mono HI3.out.size)
            clear hr hown hb4 o0 o1 o2 o3 o4 o5 k1 c9
            go_wp2_with (go_at_call 12; refine (num_any 0 ⟨by decide, by decide⟩ _).mono ?_)
            rintro e w5 ⟨rfl, hw5⟩
            rw [hw5]
            clear hw5
            have hBs := HB4.out.size
            go_wp2_with (at_builtin; refine wpList_append_owF rfl _ _ rfl W.heap.size i0 hi0 hz0 hz1 hz2 _ _ rfl hown3 tl rfl hpos hml (by omega) hBs ?_)
            intro v6 w6 hown6 hb6
            have HR6 : Hid (OwF w6 W.heap.size v6 (byteCells (A ++ linesT (x.2.take (k + 1))))) := by
              show OwF _ _ _ _
              rw [HLT.out, ← List.append_assoc, byteCells_append, ← strCells_bytes]
              exact hown6
            have HB6 : Hid (Below W.heap.size W w6) := HB4.out.trans hb6
            clear hown6 hown3 hb6 HLT
            go_wp2
            go_roundg (gk - 1)
            case measure => have := HK.out; omega
            case rel => exact ⟨k + 1, by have := HK.out; omega, by go_num, HR6.out, HB6.out⟩
          · obtain rfl : k = x.1.nops := by omega
            have hlkI : ¬ (x.1.nops : Int) < (x.1.nops : Int) := by omega
            have htk : x.2.take x.1.nops = x.2 := List.take_of_length_le (by rw [HOP.out.2.2.1]; exact Nat.le_refl _)
            rw [htk] at hown hlb hLL
            have e4 : ({ data := #[101, 110, 100, 10] } : ByteArray).size = 4 := rfl
            have hml : (byteCells (A ++ linesT x.2)).length + ({ data := #[101, 110, 100, 10] } : ByteArray).size ≤ maxLen := by unfold maxLen; omega
            have hBs := HI3.out.size
            clear hk htk
            go_wp2_with (at_builtin; refine wpList_append_owF rfl _ _ rfl W.heap.size i0 hi0 hz0 hz1 hz2 _ _ rfl hown ({ data := #[101, 110, 100, 10] } : ByteArray) rfl (by decide) hml (by omega) hBs ?_)
            intro v6 w6 hown6 hb6
            have HR6 : Hid (OwF w6 W.heap.size v6 (byteCells (actsT (V.take (j + 1))))) := by
              show OwF _ _ _ _
              rw [HST2.out, byteCells_append, show byteCells [101, 110, 100, 10] = strCells ({ data := #[101, 110, 100, 10] } : ByteArray) from rfl]
              exact hown6
            have HB6 : Hid (Below W.heap.size W w6) := HI3.out.trans hb6
            clear hown6 hown hb6 HST2
            go_wp2
            go_roundg (g0 - 1)
            case measure => have := HJ.out; have := HG0.out; omega
            case rel => exact ⟨j + 1, by have := HJ.out; have := HG0.out; omega, by go_num, HR6.out, HB6.out⟩
      · have hne : (x.1.kind != (3 : Int)) = true := by simpa using h3
        have hr := hP.prog x.1 hxok ⟨x.1.ops, x.1.cops, rfl⟩ wr (hops.below HBW.out) (HSV.out.2.below HBW.out HSV.out.2.lt)
        rw [hzero] at hr
        obtain ⟨s, hs⟩ : ∃ s, (prA x).1 = s := ⟨_, rfl⟩
        rw [hs] at hr hst hgrow
        unfold ActR.val ActR.cells at hr
        have z1 : ¬ 9223372036854775807 < s.size + 1 := by omega
        obtain ⟨tl, htl⟩ : ∃ tl, s ++ ({ data := #[10] } : ByteArray) = tl := ⟨_, rfl⟩
        have htz : tl.size = s.size + 1 := by rw [← htl, ByteArray.size_append]; rfl
        have htd : tl.data.toList = s.data.toList ++ [10] := by
          rw [← htl]
          simp [ByteArray.data_append]
        have hpos : 0 < tl.size := by omega
        have hml : (byteCells (actsT (V.take j))).length + tl.size ≤ maxLen := by unfold maxLen; omega
        have HST : Hid (actsT (V.take (j + 1)) = actsT (V.take j) ++ tl.data.toList) := by
          show _ = _
          rw [htd]
          exact hst
        clear hxok hxo hxn hxl hpa hnine hops hbl hP hzero hst hf hx hj hg0 htd hs
        go_wp2_with (go_at_call 10; refine hr.mono ?_)
        rintro e w4 ⟨rfl, hb4⟩
        have hown3 := hown.below hb4
        have HB4 : Hid (Below W.heap.size W w4) := HI.out.trans (hb4.mono HI.out.size)
        clear hr hown hb4 k0 k1 k2 k3 k4 k5 k6 k7 k8 c9
        go_wp2_with (go_at_call 12; refine (num_any 0 ⟨by decide, by decide⟩ _).mono ?_)
        rintro e w5 ⟨rfl, hw5⟩
        rw [hw5]
        clear hw5
        have hBs := HB4.out.size
        go_wp2_with (at_builtin; refine wpList_append_owF rfl _ _ rfl W.heap.size i0 hi0 hz0 hz1 hz2 _ _ rfl hown3 tl rfl hpos hml (by omega) hBs ?_)
        intro v6 w6 hown6 hb6
        have HR6 : Hid (OwF w6 W.heap.size v6 (byteCells (actsT (V.take (j + 1))))) := by
          show OwF _ _ _ _
          rw [HST.out, byteCells_append, ← strCells_bytes]
          exact hown6
        have HB6 : Hid (Below W.heap.size W w6) := HB4.out.trans hb6
        clear hown6 hown3 hb6 HST
        go_wp2
        go_roundg (g0 - 1)
        case measure => have := HJ.out; have := HG0.out; omega
        case rel => exact ⟨j + 1, by have := HJ.out; have := HG0.out; omega, by go_num, HR6.out, HB6.out⟩
    · obtain rfl : j = p.nacts := by omega
      have hltI : ¬ (p.nacts : Int) < (p.nacts : Int) := by omega
      have htk : V.take p.nacts = V := List.take_of_length_le (by rw [HVV.out.2.1]; exact Nat.le_refl _)
      rw [htk] at hown hHL
      obtain ⟨a, c, rfl⟩ := hown.form
      have hcv : ∀ j, (convert 51 9 (.slice a (actsT V).length c)).run Tryz.prog (wr.drewN j) = .ok (.string (str (actsT V))) (wr.drewN j) := fun j => (hown.below ⟨rfl, rfl, rfl, Nat.le_refl _, fun _ _ => rfl⟩ : OwF (wr.drewN j) W.heap.size _ _).text
      have HBF : Hid (Below w.heap.size w wr) := HBW.out
      have HTs : t.size = (headL p).length + (actsT V).length := by rw [HT.out, str_size, List.length_append]
      obtain ⟨N, hN⟩ : ∃ N, (headL p).length = N := ⟨_, rfl⟩
      obtain ⟨H5, h5⟩ : ∃ H5, headL p = H5 ++ [97, 99, 116, 115, 10] := ⟨cfgL p ++ [10] ++ (sealX p).2 ++ [10] ++ tapeL p.tape.data.toList (List.range (rowsN p)), by unfold headL; simp⟩
      obtain ⟨M, hM⟩ : ∃ M, H5.length = M := ⟨_, rfl⟩
      have hMN : M + 5 = N := by rw [← hN, h5, List.length_append, ← hM]; rfl
      have htz := HTZ.out
      have hw : wrap64 ((t.size : Int) - ((actsT V).length : Int)) = (N : Int) := by unfold wrap64; omega
      have hsub : (t.size : Int) - ((actsT V).length : Int) = (N : Int) := by omega
      have hw5 : wrap64 ((N : Int) - 5) = (M : Int) := by unfold wrap64; omega
      have hge : (5 : Int) ≤ (N : Int) := by omega
      have hlo : ¬ ((N : Int) < 5) := by omega
      have htd : t.data.toList = H5 ++ [97, 99, 116, 115, 10] ++ actsT V := by rw [HT.out, h5]; simp [str]
      obtain ⟨Y, hY⟩ : ∃ Y, str (actsT V) = Y := ⟨_, rfl⟩
      have hs1 : ∀ W, (Instr.slice 9 (.string t) (some (.int .i64 (N : Int))) none none).run Tryz.prog W = .ok (.string Y) W := fun W => by
        rw [run_slice_string_l (P := Tryz.prog) W 9 t Tryz.underlying9 .i64 (N : Int) (by omega) (by omega)]
        congr 2
        apply ByteArray.ext
        apply Array.toList_inj.1
        rw [extract_data, ← hY, str_data, htd, Int.toNat_natCast, List.drop_left' (by rw [List.length_append, hM]; exact hMN)]
        exact List.take_of_length_le (by omega)
      have hs2 : ∀ W, (Instr.slice 9 (.string t) (some (.int .i64 (M : Int))) (some (.int .i64 (N : Int))) none).run Tryz.prog W = .ok (.string { data := #[97, 99, 116, 115, 10] }) W := fun W => by
        rw [run_slice_string (P := Tryz.prog) (w := W) 9 t .i64 .i64 (M : Int) (N : Int) Tryz.underlying9 (by omega) (by omega) (by omega)]
        congr 2
        apply ByteArray.ext
        apply Array.toList_inj.1
        rw [extract_data, htd, List.append_assoc, Int.toNat_natCast, Int.toNat_natCast, List.drop_left' hM, show N - M = 5 by omega]
        rfl
      rw [hY] at hcv
      clear hj hg0 hlb hown HTs hN hM hMN htd hY h5 htk
      go_wp2_with fail
      clear hw hsub
      go_quiet (fail)
      refine with_world (R := fun W => Exit.then _ _ Exit.normal _ W) (Q := fun W => Below w.heap.size w W) _ (HBF.out.trans ⟨rfl, rfl, rfl, Nat.le_refl _, fun _ _ => rfl⟩) ?_
      intro w9 hb9
      go_wp2
      go_ret
      exact ⟨rfl, hb9⟩
end Go.Proofs.YtlmopjbfagijeaaGreatDoor.Sc

namespace Go.Proofs.YtlmopjbfagijeaaGreatDoor.Sc
open Go.RowKit Go.Lib Go.Deep

set_option maxRecDepth 20000 in
set_option maxHeartbeats 1000000 in
theorem lines_no (p : PlR) (V : List ActV) (hok : p.Ok) (hV : VOk V) (hn : V.length = p.nacts) (B0 : Nat) (w : World) (hs : SeeV w p.acts V) (hG : GlB B0 w) (c : Int) (hp : printV p V = .tuple #[.string { data := #[] }, .int .i64 c]) (hc : 0 < c) (hc9 : c < 1000) :
    Calls Tryz.prog 5 #[.agg p.cells] w fun e w' => e = .returned (.bool true) ∧ Below w.heap.size w w' := by
  obtain ⟨W0, hW0⟩ : ∃ W0, w.alloc (.cells p.cells 26) = W0 := ⟨_, rfl⟩
  have hb0 : Below w.heap.size w W0 := by rw [← hW0]; exact (Below.refl _ _).alloc (Nat.le_refl _) _
  have hr0 : W0.heap[w.heap.size]? = some (.cells p.cells 26 (0, 0)) := by rw [← hW0]; exact heap_alloc_new _ _
  have hs0 : w.heap.size < W0.heap.size := by rw [← hW0]; simp
  have hp1 := print_any p hok V hV hn W0 (hs.below hb0) (hG.to (hb0.mono hG.le)).it
  rw [hp] at hp1
  have HRD : Hid (∀ w1, Below w.heap.size w w1 → Calls Tryz.prog 4 #[.agg p.cells] w1 fun e w' => e = .returned (.bool true) ∧ Below w1.heap.size w1 w') := fun w1 hb => round_any p V hok hV hn B0 w1 (hs.below hb) (hG.to (hb.mono hG.le))
  have HPT : Hid (∀ U, Below W0.heap.size W0 U → PlAt U w.heap.size p) := fun U hU => (plAt_of hr0).below hU hs0
  have HB0 : Hid (Below w.heap.size w W0) := hb0
  obtain ⟨c0, c1, c2, c3, c4, c5, c6, c7, c8, c9⟩ := (HPT.out W0 (Below.refl _ _)).ten
  unfold PlR.cells at hW0 hp1 HRD ⊢
  have HW0 : Hid (Unit → _ = W0) := fun _ => hW0
  clear hr0 hb0 hs0 hW0 hok hV hn hs hG hp
  go_enter Tryz.func5, Tryz.ntmps5
  go_upto_region 1 with fail
  rw [HW0.out ()]
  clear HW0
  go_wp2_with fail
  refine hp1.mono ?_
  rintro e w1 ⟨rfl, hb1⟩
  clear hp1 c0 c1 c2 c3 c4 c5 c6 c7 c8 c9
  obtain ⟨c0, c1, c2, c3, c4, c5, c6, c7, c8, c9⟩ := (HPT.out w1 hb1).ten
  have HB1 : Hid (Below w.heap.size w w1) := HB0.out.trans (hb1.mono HB0.out.size)
  have hrd := HRD.out w1 HB1.out
  clear hb1
  go_wp2_with (go_at_call 12; refine (num_any c ⟨by omega, hc9⟩ _).mono ?_)
  rintro e w2 ⟨rfl, hw2⟩
  rw [hw2]
  clear hw2
  go_wp2_with (go_at_call 4; refine hrd.mono ?_)
  rintro e w3 ⟨rfl, hb3⟩
  have HB3 : Hid (Below w.heap.size w w3) := HB1.out.trans (hb3.mono HB1.out.size)
  clear hrd hb3
  go_wp2
  go_ret
  exact ⟨rfl, HB3.out⟩
/-- ScriptLines answers true -/
theorem lines_any (p : PlR) (V : List ActV) (hok : p.Ok) (hV : VOk V) (hn : V.length = p.nacts) (B0 : Nat) (w : World) (hs : SeeV w p.acts V) (hG : GlB B0 w) :
    Calls Tryz.prog 5 #[.agg p.cells] w fun e w' => e = .returned (.bool true) ∧ Below w.heap.size w w' := by
  rcases printV_cases p V hV with ⟨t, ht⟩ | ⟨c, h0, h1, hc⟩
  · exact lines_yes p V hok hV hn w hs hG.it t ht
  · exact lines_no p V hok hV hn B0 w hs hG c hc h0 h1
end Go.Proofs.YtlmopjbfagijeaaGreatDoor.Sc
