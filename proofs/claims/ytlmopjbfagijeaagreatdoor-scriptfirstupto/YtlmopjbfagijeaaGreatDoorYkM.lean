import Derived.Test.YtlmopjbfagijeaaGreatDoorBaseM
import Derived.Deep.Cut
import Derived.Test.YtlmopjbfagijeaaGreatDoorSqJ
import Derived.Test.YtlmopjbfagijeaaGreatDoorYjM
import Derived.Test.YtlmopjbfagijeaaGreatDoorYcM
namespace Go.Proofs.YtlmopjbfagijeaaGreatDoor.Sc
open Go.RowKit Go.Lib Go.Deep

theorem RowF.below {w w' : World} {B : Nat} {e : TypeId} {v : Value} {xs : List Value} (h : RowF w B e v xs) (hb : Below w.heap.size w w') : RowF w' B e v xs := by
  obtain ⟨g, cap, cur, fr, r1, r2, r3, r4, r5⟩ := h
  have hk := hb.block _ (heap_lt r3)
  exact ⟨g, cap, cur, fr, r1, r2, hk.trans r3, fun j hj => (World.frozen?_of_block hk).trans (r4 j hj), r5⟩
end Go.Proofs.YtlmopjbfagijeaaGreatDoor.Sc

namespace Go.Proofs.YtlmopjbfagijeaaGreatDoor.Sc
open Go.RowKit Go.Lib Go.Deep

def sameE (x o : ActR) : Prop := x.before = o.before ∧ x.ek = o.ek ∧ x.put = o.put ∧ x.frm = o.frm ∧ x.name = o.name ∧ x.blob = o.blob
def okA2 (o : ActR) : Prop := (nmdA o).i = o.i ∧ sameE (nmdA o) o ∧ (o.kind = 3 ∨ o.nops = 0)
open Classical in
/-- what the document's PrintAct answers -/
noncomputable def refAV (o : ActR) (L : List OpR) (nm : List UInt8) : Value :=
  if ¬ okA2 o then .tuple #[.string { data := #[] }, .int .i64 225]
  else if o.kind = 3 then batchV L
  else if 262144 < (refL o nm).length then .tuple #[.string { data := #[] }, .int .i64 221]
  else .tuple #[.string (str (refL o nm)), .int .i64 0]
theorem toList_inj2 (a b : ByteArray) (h : a.toList = b.toList) : a = b := by
  rw [ByteArray.toList_eq, ByteArray.toList_eq] at h
  exact ByteArray.ext (Array.toList_inj.1 h)

noncomputable def linesT (L : List OpR) : List UInt8 := L.flatMap fun o => (prO o).1.data.toList ++ [10]
theorem linesT_take (L : List OpR) (j : Nat) (o : OpR) (h : L[j]? = some o) : linesT (L.take (j + 1)) = linesT (L.take j) ++ ((prO o).1.data.toList ++ [10]) := by
  have e : L.take (j + 1) = L.take j ++ [o] := by
    rw [List.take_add_one, h]
    rfl
  rw [e]
  simp [linesT]
theorem linesT_len (L : List OpR) (h : ∀ o ∈ L, o.Ok) : (linesT L).length ≤ 262145 * L.length := by
  induction L with
  | nil => simp [linesT]
  | cons a t ih =>
    have h1 := (prO_ans a (h a (List.mem_cons_self ..))).2
    have h2 := ih fun n hn => h n (List.mem_cons_of_mem _ hn)
    rw [size_eq] at h1
    simp only [linesT, List.flatMap_cons, List.length_append, List.length_cons, List.length_nil] at h2 ⊢
    omega
theorem lines_ops (L : List OpR) : 10 :: linesT L = opsT L ++ [10] := by
  induction L with
  | nil => rfl
  | cons a t ih =>
    simp only [linesT, opsT, List.flatMap_cons] at ih ⊢
    simp [← ih]

set_option maxRecDepth 20000 in
set_option maxHeartbeats 4000000 in
theorem rPrintAct_any (o : ActR) (hok : o.Ok) (L : List OpR) (hL : ∀ x ∈ L, x.Ok) (hn : L.length = o.nops) (hll : L.length ≤ 1048576) (k : Nat) (h1 : 1 ≤ k) (hk : o.kind = k) (nm : ByteArray) (hnm : actsL[k]? = some nm) (w : World) (hs : SeeO w o.ops L) (ht : ITab w) :
    Calls Tryz.prog 11 #[.agg o.cells] w fun e w' => e = .returned (refAV o L nm.data.toList) ∧ Below w.heap.size w w' := by
  obtain ⟨W, hW⟩ : ∃ W, w.alloc (.cells o.cells 36) = W := ⟨_, rfl⟩
  have hbW : Below w.heap.size w W := by rw [← hW]; exact (Below.refl _ _).alloc (Nat.le_refl _) _
  have hoW : ActAt W w.heap.size o := by
    rw [← hW]
    exact heap_alloc_new _ _
  have hk6 : (k : Int) ≤ 6 := by
    have := (List.getElem?_eq_some_iff.1 hnm).1
    have e : actsL.length = 7 := rfl
    omega
  have hk1 : (1 : Int) ≤ k := by omega
  have hal := actLine_any o hok k h1 hk nm hnm W (ht.below hbW ht.lt)
  obtain ⟨x, hx⟩ : ∃ x, nmdA o = x := ⟨_, rfl⟩
  have HX : Hid (nmdA o = x) := hx
  rw [hx] at hal
  obtain ⟨c0, c1, c2, c3, c4, c5, c6, c7, c8⟩ := hoW.nine
  obtain ⟨T, hT⟩ : ∃ T, refL o nm.data.toList = T := ⟨_, rfl⟩
  have HT : Hid (refL o nm.data.toList = T) := hT
  rw [hT] at hal
  obtain ⟨Ts, hTs⟩ : ∃ Ts, str T = Ts := ⟨_, rfl⟩
  have HTs : Hid (str T = Ts) := hTs
  have HTz : Hid (Ts.size = T.length) := by show _ = _; rw [← hTs, str_size]
  rw [hTs] at hal
  obtain ⟨RV, hRV⟩ : ∃ RV, refAV o L nm.data.toList = RV := ⟨_, rfl⟩
  have HRV : Hid (refAV o L nm.data.toList = RV) := hRV
  rw [hRV]
  have HK : Hid (o.kind = k) := hk
  have HO : Hid (ActAt W w.heap.size o) := hoW
  have HB : Hid (Below w.heap.size w W) := hbW
  have HN : Hid (L.length = o.nops) := hn
  have HS : Hid (SeeO w o.ops L) := hs
  have HI : Hid (ITab w) := ht
  have HL : Hid (∀ x ∈ L, x.Ok) := hL
  unfold ActR.cells at *
  rw [hk] at hal hW ⊢ c0
  have HW : Hid (Unit → _ = W) := fun _ => hW
  clear hW hT hTs hx hRV hoW hbW hn hs ht hL hnm h1 hk
  go_enter Tryz.func11, Tryz.ntmps11
  go_wp2_with fail
  rw [HW.out ()]
  refine hal.mono ?_
  rintro e w1 ⟨rfl, hb1⟩
  clear hal HW c0 c1 c2 c3 c4 c5 c6 c7 c8
  obtain ⟨U, hU⟩ : ∃ U, w1.alloc (.cells x.cells 36) = U := ⟨_, rfl⟩
  have hbU : Below w1.heap.size w1 U := by rw [← hU]; exact (Below.refl _ _).alloc (Nat.le_refl _) _
  have hxU : ActAt U w1.heap.size x := by
    rw [← hU]
    exact heap_alloc_new _ _
  have hoU : ActAt U w.heap.size o := (HO.out.below hb1 HO.out.lt).below hbU (by have := HO.out.lt; have := hb1.size; omega)
  have HBU : Hid (Below w.heap.size w U) := (HB.out.trans (hb1.mono HB.out.size)).trans (hbU.mono (by have := HB.out.size; have := hb1.size; omega))
  unfold ActR.cells at hU
  have HU : Hid (Unit → _ = U) := fun _ => hU
  have HUs : Hid (w1.heap.size < U.heap.size) := hxU.lt
  clear hU hbU hb1 HB HO
  go_upto_region 4 with fail
  rw [HU.out ()]
  clear HU
  obtain ⟨c0, c1, c2, c3, c4, c5, c6, c7, c8⟩ := hoU.nine
  obtain ⟨d0, d1, d2, d3, d4, d5, d6, d7, d8⟩ := hxU.nine
  rw [HK.out] at c0
  have HOU : Hid (ActAt U w.heap.size o) := hoU
  clear hoU hxU d0
  have h225 : ¬ okA2 o → RV = .tuple #[.string { data := #[] }, .int .i64 225] := fun h => by
    rw [← HRV.out]
    unfold refAV
    rw [if_pos h]
  have H225 : Hid _ := h225
  clear h225
  by_cases hi : x.i = o.i
  · by_cases he : sameE x o
    · obtain ⟨e1, e2, e3, e4, e5, e6⟩ := he
      rw [hi] at d2
      rw [e1] at d3
      rw [e2] at d4
      rw [e3] at d5
      rw [e4] at d6
      rw [e5] at d7
      rw [e6] at d8
      have HE : Hid ((nmdA o).i = o.i ∧ sameE (nmdA o) o) := by
        show _ ∧ _
        rw [HX.out]
        exact ⟨hi, e1, e2, e3, e4, e5, e6⟩
      clear hi e1 e2 e3 e4 e5 e6
      by_cases h3 : k = 3
      · subst h3
        have hk3 : ((3 : Nat) : Int) = 3 := rfl
        have HV : Hid (RV = batchV L) := by
          show _ = _
          rw [← HRV.out]
          unfold refAV
          rw [if_neg (by intro h; exact h ⟨HE.out.1, HE.out.2, Or.inl (by rw [HK.out]; rfl)⟩), if_pos (by rw [HK.out]; rfl)]
        obtain ⟨n, hnn⟩ : ∃ n, o.nops = n := ⟨_, rfl⟩
        have HNn : Hid (L.length = n) := HN.out.trans hnn
        have HNo : Hid (o.nops = n) := hnn
        rw [hnn] at c1
        have hlln : n ≤ 1048576 := by have := HNn.out; omega
        clear hnn hll
        have hcv : ∀ W : World, (convert 51 51 (.slice (some ⟨W.heap.size, 0, none⟩) 6 6)).run Tryz.prog (W.alloc (.cells #[.int .u8 98, .int .u8 97, .int .u8 116, .int .u8 99, .int .u8 104, .int .u8 10] 5)) = .ok (.slice (some ⟨W.heap.size, 0, none⟩) 6 6) (W.alloc (.cells #[.int .u8 98, .int .u8 97, .int .u8 116, .int .u8 99, .int .u8 104, .int .u8 10] 5 (6, 7))) :=
          fun W => run_convert_bytes_const W 51 5 #[.int .u8 98, .int .u8 97, .int .u8 116, .int .u8 99, .int .u8 104, .int .u8 10] 6 6 Tryz.underlying51 Tryz.underlying5
        have hR0 : RowF (U.alloc (.cells #[.int .u8 98, .int .u8 97, .int .u8 116, .int .u8 99, .int .u8 104, .int .u8 10] 5 (6, 7))) U.heap.size 5 (.slice (some ⟨U.heap.size, 0, none⟩) 6 6) (byteCells ([98, 97, 116, 99, 104, 10] ++ linesT (L.take 0))) :=
          ⟨U.heap.size, 6, _, (6, 7), rfl, Nat.le_refl _, heap_alloc_new _ _, fun j hj => frozen_before (heap_alloc_new _ _) hj, rfl, Nat.le_refl _, by unfold maxLen; omega, rfl⟩
        have HB0 : Hid (Below U.heap.size U (U.alloc (.cells #[.int .u8 98, .int .u8 97, .int .u8 116, .int .u8 99, .int .u8 104, .int .u8 10] 5 (6, 7)))) := (Below.refl _ _).alloc (Nat.le_refl _) _
        obtain ⟨i0, hi0, hz0, hz1, hz2⟩ := info_parts info5
        have HLen : Hid (∀ j, (linesT (L.take j)).length ≤ 262145 * n) := by
          show ∀ j, _
          intro j
          have h1 := linesT_len (L.take j) fun o ho => HL.out o (List.mem_of_mem_take ho)
          rw [List.length_take] at h1
          have := HNn.out
          have : min j L.length ≤ n := by omega
          have := Nat.mul_le_mul_left 262145 this
          omega
        have HOUs : Hid (w.heap.size < U.heap.size) := HOU.out.lt
        go_wp2_with fail
        go_loopg [6, 7] n (fun gk v i wr => ∃ j : Nat, j + gk = n ∧ i = .int .i64 (j : Int) ∧ RowF wr U.heap.size 5 v (byteCells ([98, 97, 116, 99, 104, 10] ++ linesT (L.take j))) ∧ Hid (Below U.heap.size U wr ∧ ∀ (i : Nat) o, i < j → L[i]? = some o → (prO o).2 = 0))
        case atStart => exact ⟨0, by omega, rfl, hR0, HB0.out, fun i o h => by omega⟩
        case round =>
          clear HB0 hR0 hcv c0 c1 c2 c3 c4 c5 c6 c7 c8 d1 d2 d3 d4 d5 d6 d7 d8
          obtain ⟨j, hj, rfl, hown, HI2⟩ := hrel
          have hjn : j ≤ n := by omega
          have c1 : wr.cell? ⟨w.heap.size, 1, none⟩ = some (.slice o.ops n o.cops) := by
            have h := (HI2.out.1.cell (p := ⟨w.heap.size, 1, none⟩) HOUs.out).trans HOU.out.nine.2.1
            rw [HNo.out] at h
            exact h
          by_cases hlt : j < n
          · have hltI : (j : Int) < (n : Int) := by omega
            obtain ⟨p, hp⟩ : ∃ p, L[j]? = some p := ⟨_, List.getElem?_eq_getElem (by rw [HNn.out]; omega)⟩
            obtain ⟨b, off, hops, hbl, hcells⟩ := HS.out (by intro e; rw [e] at hp; cases hp)
            rw [hops] at c1
            obtain ⟨k0, k1, k2, k3, k4, k5⟩ := ((hcells j p hp).below HBU.out hbl).below HI2.out.1 (by have := HBU.out.size; omega)
            obtain ⟨⟨hc0, hc1, -, href⟩, hxs⟩ := prO_ans p (HL.out p (List.mem_of_getElem? hp))
            have hst := linesT_take L j p hp
            have HP : Hid (L[j]? = some p) := hp
            obtain ⟨s, hs⟩ : ∃ s, (prO p).1 = s := ⟨_, rfl⟩
            obtain ⟨cd, hcd⟩ : ∃ cd, (prO p).2 = cd := ⟨_, rfl⟩
            have HCD : Hid ((prO p).2 = cd) := hcd
            rw [hs] at href hxs hst
            rw [hcd] at href hc0 hc1
            have hr := href wr (HI.out.below (HBU.out.trans (HI2.out.1.mono HBU.out.size)) HI.out.lt)
            have hsl : s.data.toList.length = s.size := (size_eq s).symm
            have hHL := HLen.out j
            unfold OpR.val OpR.cells at hr
            clear hcells href hp hcd hs hops
            go_wp2_with (go_at_call 29; refine hr.mono ?_)
            rintro e w3 ⟨rfl, hb3⟩
            clear hr k0 k1 k2 k3 k4 k5 c1
            have hown3 := RowF.below hown hb3
            have HB3 : Hid (Below U.heap.size U w3) := HI2.out.1.trans (hb3.mono HI2.out.1.size)
            by_cases hz : cd = 0
            · subst hz
              have hsum : s ++ ({ data := #[10] } : ByteArray) = str (s.data.toList ++ [10]) := by
                apply ByteArray.ext
                apply Array.ext'
                simp [str]
              have hsz : ¬ 9223372036854775807 < s.size + 1 := by omega
              obtain ⟨y, hy⟩ : ∃ y, str (s.data.toList ++ [10]) = y := ⟨_, rfl⟩
              have hyl : y.data.toList = s.data.toList ++ [10] := by rw [← hy, str_data]
              have hys : y.size = s.size + 1 := by rw [← hy, str_size, List.length_append]; simp only [List.length_cons, List.length_nil]; omega
              rw [hy] at hsum
              have hlb : (byteCells ([98, 97, 116, 99, 104, 10] ++ linesT (L.take j))).length = ([98, 97, 116, 99, 104, 10] ++ linesT (L.take j)).length := byteCells_len _
              rw [List.length_append] at hlb
              simp only [List.length_cons, List.length_nil] at hlb
              have hml : (byteCells ([98, 97, 116, 99, 104, 10] ++ linesT (L.take j))).length + y.size ≤ maxLen := by unfold maxLen; omega
              have hBs : U.heap.size ≤ w3.heap.size := HB3.out.size
              clear hown hy hb3
              go_wp2_with (at_builtin; refine wpList_append_rowF_string rfl _ _ 51 9 rfl U.heap.size 5 i0 Tryz.underlying51 Tryz.underlying9 hi0 hz0 hz1 hz2 _ _ rfl hown3 y rfl hml (by omega) hBs ?_)
              intro v6 w6 hown6 hb6 _
              have HR6 : Hid (RowF w6 U.heap.size 5 v6 (byteCells ([98, 97, 116, 99, 104, 10] ++ linesT (L.take (j + 1))))) := by
                show RowF _ _ _ _ _
                rw [hst, ← List.append_assoc, byteCells_append, ← hyl, ← strCells_bytes]
                exact hown6
              have HJ : Hid (Below U.heap.size U w6 ∧ ∀ (i : Nat) o, i < j + 1 → L[i]? = some o → (prO o).2 = 0) := by
                refine ⟨HB3.out.trans hb6, fun i o' hi ho' => ?_⟩
                by_cases e : i = j
                · subst e
                  rw [HP.out] at ho'
                  rw [← Option.some.inj ho']
                  exact HCD.out
                · exact HI2.out.2 i o' (by omega) ho'
              clear hown6 hown3 hb6 HI2 HB3
              go_wp2
              go_roundg (gk - 1)
              case measure => omega
              case rel => exact ⟨j + 1, by omega, by go_num, HR6.out, HJ⟩
            · have HF : Hid (RV = .tuple #[.string { data := #[] }, .int .i64 cd]) := by
                show _ = _
                rw [HV.out]
                unfold batchV
                rw [firE_hit L j p HP.out HI2.out.2 (by rw [HCD.out]; exact hz), HCD.out, if_neg hz]
              clear hown hown3
              go_wp2
              go_ret2
              exact ⟨by rw [HF.out]; rfl, HBU.out.trans (HB3.out.mono HBU.out.size)⟩
          · obtain rfl : j = n := by omega
            have hltI : ¬ (j : Int) < (j : Int) := by omega
            have HF : Hid (firE L = 0) := firE_all L fun i o ho => HI2.out.2 i o (by have := (List.getElem?_eq_some_iff.1 ho).1; have := HNn.out; omega) ho
            have hHL := HLen.out j
            have HTk : L.take j = L := List.take_of_length_le (by have := HNn.out; omega)
            rw [HTk] at hown hHL
            have hcv2 := convert_rowF (P := Tryz.prog) wr 51 9 5 U.heap.size _ ([98, 97, 116, 99, 104, 10] ++ linesT L) Tryz.underlying51 Tryz.underlying5 Tryz.underlying9 hown
            obtain ⟨y, hy⟩ : ∃ y, (⟨([98, 97, 116, 99, 104, 10] ++ linesT L).toArray⟩ : ByteArray) = y := ⟨_, rfl⟩
            have hys : y.size = 6 + (linesT L).length := by rw [← hy]; show (str _).size = _; rw [str_size, List.length_append]; rfl
            have hsz : ¬ 9223372036854775807 < y.size + 3 := by omega
            obtain ⟨z, hz⟩ : ∃ z, y ++ ({ data := #[101, 110, 100] } : ByteArray) = z := ⟨_, rfl⟩
            have HZ : Hid (RV = .tuple #[.string z, .int .i64 0]) := by
              show _ = _
              rw [HV.out]
              unfold batchV
              rw [HF.out, if_pos rfl, ← hz, ← hy]
              have e : str ([98, 97, 116, 99, 104] ++ opsT L ++ [10, 101, 110, 100]) = (⟨([98, 97, 116, 99, 104, 10] ++ linesT L).toArray⟩ : ByteArray) ++ ({ data := #[101, 110, 100] } : ByteArray) := by
                have h := lines_ops L
                apply ByteArray.ext
                apply Array.ext'
                simp [str]
                rw [show opsT L ++ [10, 101, 110, 100] = (opsT L ++ [10]) ++ [101, 110, 100] by simp, ← h]
                simp
              rw [e]
            rw [hy] at hcv2
            clear hy hown HTk
            go_wp2
            go_ret2
            exact ⟨by rw [HZ.out]; rfl, HBU.out.trans (HI2.out.1.mono HBU.out.size)⟩
      · have hk3 : ¬ (k : Int) = 3 := by omega
        by_cases h0 : o.nops = 0
        · have HNZ : Hid (¬ ¬ okA2 o) := fun h => h ⟨HE.out.1, HE.out.2, Or.inr h0⟩
          rw [h0] at c1
          have hTz := HTz.out
          by_cases hlen : 262144 < T.length
          · have hlI : (262144 : Int) < (Ts.size : Int) := by omega
            have HV : Hid (RV = .tuple #[.string { data := #[] }, .int .i64 221]) := by
              show _ = _
              rw [← HRV.out]
              unfold refAV
              rw [if_neg HNZ.out, if_neg (by rw [HK.out]; exact hk3), if_pos (by rw [HT.out]; exact hlen)]
            clear h0 hTz hlen
            go_wp2
            go_ret2
            exact ⟨by rw [HV.out]; rfl, HBU.out⟩
          · have hlI : ¬ (262144 : Int) < (Ts.size : Int) := by omega
            have HV : Hid (RV = .tuple #[.string Ts, .int .i64 0]) := by
              show _ = _
              rw [← HRV.out]
              unfold refAV
              rw [if_neg HNZ.out, if_neg (by rw [HK.out]; exact hk3), if_neg (by rw [HT.out]; exact hlen), HT.out, HTs.out]
            clear h0 hTz hlen
            go_wp2
            go_ret2
            exact ⟨by rw [HV.out]; rfl, HBU.out⟩
        · have hn0 : (0 : Int) < (o.nops : Int) := by omega
          have hn1 : 0 < o.nops := by omega
          have hk3b : ((k : Int) != 3) = true := by simpa using hk3
          have HV : Hid (RV = .tuple #[.string { data := #[] }, .int .i64 225]) := H225.out fun h => by
            rcases h.2.2 with h | h
            · rw [HK.out] at h; exact hk3 h
            · exact h0 h
          clear h0
          go_wp2
          go_ret2
          exact ⟨by rw [HV.out]; rfl, HBU.out⟩
    · have HV : Hid (RV = .tuple #[.string { data := #[] }, .int .i64 225]) := H225.out fun h => he (by have := h.2.1; rw [HX.out] at this; exact this)
      rw [hi] at d2
      have HNE : Hid (x.before = o.before → x.ek = o.ek → x.put = o.put → x.frm = o.frm → x.name.toList = o.name.toList → x.blob.toList = o.blob.toList → False) := fun e1 e2 e3 e4 e5 e6 => he ⟨e1, e2, e3, e4, toList_inj2 _ _ e5, toList_inj2 _ _ e6⟩
      clear he hi
      go_wp2
      all_goals first
        | (exfalso; apply HNE.out <;> assumption)
        | (go_ret2; exact ⟨by rw [HV.out]; rfl, HBU.out⟩)
  · have HV : Hid (RV = .tuple #[.string { data := #[] }, .int .i64 225]) := H225.out fun h => hi (by have := h.1; rw [HX.out] at this; exact this)
    go_wp2
    go_ret2
    exact ⟨by rw [HV.out]; rfl, HBU.out⟩
end Go.Proofs.YtlmopjbfagijeaaGreatDoor.Sc
