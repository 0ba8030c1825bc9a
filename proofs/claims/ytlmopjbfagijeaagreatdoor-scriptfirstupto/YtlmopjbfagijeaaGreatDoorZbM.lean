import Derived.Test.YtlmopjbfagijeaaGreatDoorZaM
import Derived.Test.YtlmopjbfagijeaaGreatDoorYnM
import Derived.Test.YtlmopjbfagijeaaGreatDoorYcM
namespace Go.Proofs.YtlmopjbfagijeaaGreatDoor.Sc
open Go.RowKit Go.Lib

theorem rdH_odd : ∀ l : List UInt8, l.length % 2 = 1 → rdH l = none
  | [], h => by simp at h
  | [_], _ => rfl
  | a :: b :: r, h => by
    have h2 := rdH_odd r (by simp only [List.length_cons] at h; omega)
    rw [rdH]
    cases dgN a.toNat with
    | none => rfl
    | some x =>
      cases dgN b.toNat with
      | none => rfl
      | some y => simp [h2]
theorem rdH_hexL : ∀ l : List UInt8, rdH (hexL l) = some l
  | [] => rfl
  | c :: l => by
    have hc := c.toNat_lt
    have h1 := dgN_dig (c.toNat / 16) (by omega)
    have h2 := dgN_dig (c.toNat % 16) (by omega)
    have e : hexL (c :: l) = dig (c.toNat / 16) :: dig (c.toNat % 16) :: hexL l := by simp [hexL, two]
    rw [e, rdH, h1, h2]
    simp only [rdH_hexL l, Option.map_some]
    rw [show 16 * (c.toNat / 16) + c.toNat % 16 = c.toNat by omega]
    simp
/-- where a hex word's reader stands -/
def HexAt (R : Option (List UInt8)) (L : List UInt8) (pos vv : Nat) (out : List UInt8) : Prop := (pos % 2 = 0 ∧ R = (rdH (L.drop pos)).map (out ++ ·)) ∨ (pos % 2 = 1 ∧ ∃ c : UInt8, dgN c.toNat = some vv ∧ R = (rdH (c :: L.drop pos)).map (out ++ ·))
set_option maxRecDepth 20000 in
set_option maxHeartbeats 1000000 in
theorem readHex_any (T : ByteArray) (hs : T.size ≤ 8388608) (w : World) :
    Calls Tryz.prog 172 #[.string T] w fun e w' => e = .returned (.tuple #[.string (str ((rdH T.data.toList).getD [])), .bool (rdH T.data.toList).isSome]) ∧ Below w.heap.size w w' := by
  obtain ⟨R, hR⟩ : ∃ R, rdH T.data.toList = R := ⟨_, rfl⟩
  rw [hR]
  obtain ⟨n, hn⟩ : ∃ n, T.size = n := ⟨_, rfl⟩
  have HS : Hid (T.size = n ∧ T.data.toList.length = n) := ⟨hn, by rw [← hn, size_eq]⟩
  have hmod : (n : Int).tmod 2 = ((n % 2 : Nat) : Int) := by rw [Int.tmod_eq_emod_of_nonneg (by omega)]; omega
  rw [hn] at hs
  by_cases hod : n % 2 = 1
  · have HF : Hid (R = none) := by
      show _ = _
      rw [← hR]
      exact rdH_odd _ (by rw [HS.out.2]; exact hod)
    rw [hod] at hmod
    clear hR
    go_enter Tryz.func172, Tryz.ntmps172
    go_wp2
    go_ret2
    rw [HF.out]
    exact ⟨rfl, Below.refl _ _⟩
  · have hev : n % 2 = 0 := by omega
    rw [hev] at hmod
    have hB0 := (Below.refl w.heap.size w).alloc (Nat.le_refl _) (.cells #[.pointer none, .slice none 0 0] 81)
    have hI0 : Hid (Bu 81 [] w.heap.size w.heap.size [] ((w.alloc (.cells #[.pointer none, .slice none 0 0] 81)).alloc (.stringIter T 0)) ∧ Below w.heap.size w ((w.alloc (.cells #[.pointer none, .slice none 0 0] 81)).alloc (.stringIter T 0)) ∧ ([] : List UInt8).length ≤ 0 ∧ HexAt R T.data.toList 0 0 []) := by
      refine ⟨(Bu.new 81 [] w).below ((Below.refl _ _).alloc (Nat.le_refl _) _), hB0.alloc hB0.size _, Nat.le_refl _, .inl ⟨rfl, ?_⟩⟩
      rw [List.drop_zero, hR]
      simp
    clear hB0 hR
    go_enter Tryz.func172, Tryz.ntmps172
    go_wp2_with fail
    clear hn
    go_loopg [5] n (fun gk v wr => ∃ (pos vv : Nat) (out : List UInt8), pos + gk = n ∧ v = .int .u8 (vv : Int) ∧ vv < 16 ∧ wr.heap[w.heap.size + 1]? = some (.stringIter T pos) ∧ Hid (Bu 81 [] w.heap.size w.heap.size out wr ∧ Below w.heap.size w wr ∧ out.length ≤ pos ∧ HexAt R T.data.toList pos vv out))
    case atStart => exact ⟨0, 0, [], by omega, rfl, by omega, by simpa using World.iter_heap (w.alloc (.cells #[.pointer none, .slice none 0 0] 81)) T 0, hI0⟩
    case round =>
      clear hI0
      obtain ⟨pos, vv, out, hk, rfl, hvv, hit, HI⟩ := hrel
      have HK : Hid (pos + gk = n) := hk
      by_cases hp : pos < n
      · obtain ⟨c, hc⟩ : ∃ c, T.data.toList[pos]? = some c := ⟨_, List.getElem?_eq_getElem (by rw [HS.out.2]; exact hp)⟩
        have hdr : T.data.toList.drop pos = c :: T.data.toList.drop (pos + 1) := by
          rw [List.drop_eq_getElem_cons (by rw [HS.out.2]; exact hp)]
          rw [List.getElem?_eq_getElem (by rw [HS.out.2]; exact hp)] at hc
          rw [Option.some.inj hc]
        have hnx : ∀ ty, (Instr.next (.pointer (some ⟨w.heap.size + 1, 0, none⟩)) true ty).run Tryz.prog wr = _ := fun ty => Lib.run_next_any_at wr (w.heap.size + 1) T pos ty hit (by rw [HS.out.1]; omega)
        have hbad : dgN c.toNat = none → R = none := by
          intro hn
          rcases HI.out.2.2.2 with ⟨-, h⟩ | ⟨-, c0, h0, h⟩
          · rw [h, hdr]
            cases T.data.toList.drop (pos + 1) with
            | nil => rfl
            | cons b r => rw [rdH, hn]; rfl
          · rw [h, hdr, rdH, h0, hn]
            rfl
        by_cases ha : c.toNat < 128
        · rw [rune_low T pos (by rw [HS.out.1]; omega) c hc ha] at hnx
          have hit2 := Lib.iterAt_heap wr (w.heap.size + 1) T pos (pos + 1) hit
          have hb2 := Lib.below_iterAt HI.out.2.1 (k := w.heap.size + 1) (Nat.le_succ _) T (pos + 1)
          have hu2 := HI.out.1.iterAt hit (pos + 1)
          change ∀ ty, (Instr.next (.pointer (some ⟨w.heap.size + 1, 0, none⟩)) true ty).run Tryz.prog wr = .ok (.tuple #[.bool true, .int .i64 pos, .int .i32 c.toNat]) (wr.iterAt (w.heap.size + 1) T (pos + 1)) at hnx
          have hdg := digitOf_any c.toNat (by omega) (wr.iterAt (w.heap.size + 1) T (pos + 1))
          have HH := HI.out.2.2.2
          have hol := HI.out.2.2.1
          clear hit HI hk
          generalize wr.iterAt (w.heap.size + 1) T (pos + 1) = W1 at *
          cases hdn : dgN c.toNat with
          | none =>
            rw [hdn] at hdg
            have HF : Hid (R = none) := hbad hdn
            have HBX : Hid (Below w.heap.size w W1) := hb2
            clear hbad HH hdr
            go_wp2_with fail
            refine hdg.mono ?_
            rintro e w3 ⟨rfl, rfl⟩
            clear hdg hnx
            go_wp2
            go_ret2
            rw [HF.out]
            exact ⟨rfl, HBX.out⟩
          | some d =>
            rw [hdn] at hdg
            have hd16 := dgN_lt hdn
            have hpm : (pos : Int).tmod 2 = ((pos % 2 : Nat) : Int) := by rw [Int.tmod_eq_emod_of_nonneg (by omega)]; omega
            clear hbad
            go_wp2_with fail
            refine hdg.mono ?_
            rintro e w3 ⟨rfl, rfl⟩
            clear hdg
            rcases HH with ⟨he, h⟩ | ⟨ho, c0, h0, h⟩
            · rw [he] at hpm
              have HRN : Hid (HexAt R T.data.toList (pos + 1) d out) := .inr ⟨by omega, c, hdn, by rw [h, hdr]⟩
              have HJ : Hid (Bu 81 [] w.heap.size w.heap.size out w3 ∧ Below w.heap.size w w3 ∧ out.length ≤ pos + 1) := ⟨hu2, hb2, by omega⟩
              clear h hdr hu2 hb2 hnx
              go_wp2
              go_roundg (gk - 1)
              case measure => have := HK.out; omega
              case rel => exact ⟨pos + 1, d, out, by have := HK.out; omega, by go_num, hd16, hit2, HJ.out.1, HJ.out.2.1, HJ.out.2.2, HRN.out⟩
            · rw [ho] at hpm
              have hor : bits .or .u8 ((vv : Int) * 16 % 256) (d : Int) = ((16 * vv + d : Nat) : Int) := by
                rw [show (vv : Int) * 16 % 256 = ((vv : Nat) : Int) * 16 by omega, or_digs vv d hvv hd16]
              have hor2 := or_digs vv d hvv hd16
              have hnc : (UInt8.ofNat (16 * vv + d)).toNat = 16 * vv + d := by simp; omega
              have hby := bbyte_any okB w.heap.size w.heap.size out (UInt8.ofNat (16 * vv + d)) w3 hu2 (by omega) hb2.size
              rw [hnc] at hby
              have HRN : Hid (HexAt R T.data.toList (pos + 1) vv (out ++ [UInt8.ofNat (16 * vv + d)])) := by
                refine .inl ⟨by omega, ?_⟩
                rw [h, hdr, rdH, h0, hdn]
                show (Option.map _ (rdH _)).map _ = _
                cases rdH (T.data.toList.drop (pos + 1)) <;> simp
              obtain ⟨nv, hnv⟩ : ∃ nv, 16 * vv + d = nv := ⟨_, rfl⟩
              rw [hnv] at hor hor2 hby HRN
              clear h hdr hnx hnc hnv
              go_wp2_with (go_at_call 138; refine hby.mono ?_; rintro e w5 ⟨rfl, ⟨hu5, hb5⟩, ho5⟩)
              have hit5 := ho5.iter (Nat.succ_ne_self _) hit2
              have HJ : Hid (Bu 81 [] w.heap.size w.heap.size (out ++ [UInt8.ofNat nv]) w5 ∧ Below w.heap.size w w5 ∧ (out ++ [UInt8.ofNat nv]).length ≤ pos + 1) := ⟨hu5, hb2.trans hb5, by rw [List.length_append]; simp only [List.length_cons, List.length_nil]; omega⟩
              clear hby hu5 hb5 ho5 hu2 hit2
              go_roundg (gk - 1)
              case measure => have := HK.out; omega
              case rel => exact ⟨pos + 1, vv, out ++ [UInt8.ofNat nv], by have := HK.out; omega, rfl, hvv, hit5, HJ.out.1, HJ.out.2.1, HJ.out.2.2, HRN.out⟩
        · have hrh := rune_high T pos (by rw [HS.out.1]; omega) c hc ha
          have hb2 := Lib.below_iterAt HI.out.2.1 (k := w.heap.size + 1) (Nat.le_succ _) T (pos + (Utf8.decode T pos).2)
          have HF : Hid (R = none) := hbad (dgN_high c.toNat (by omega))
          have hrb : (Utf8.decode T pos).1 < 2147483648 := by have := rune_le T pos; omega
          have hdn := dgN_high (Utf8.decode T pos).1 hrh
          clear hit HI hdr hc hbad
          generalize (Utf8.decode T pos).1 = rn at *
          generalize (Utf8.decode T pos).2 = wd at *
          have hdg := digitOf_any rn hrb (wr.iterAt (w.heap.size + 1) T (pos + wd))
          rw [hdn] at hdg
          generalize wr.iterAt (w.heap.size + 1) T (pos + wd) = W1 at *
          have HBX : Hid (Below w.heap.size w W1) := hb2
          go_wp2_with (go_at_call 152; refine hdg.mono ?_; rintro e w3 ⟨rfl, rfl⟩; clear hdg)
          go_ret2
          rw [HF.out]
          exact ⟨rfl, HBX.out⟩
      · have hnx : ∀ ty, (Instr.next (.pointer (some ⟨w.heap.size + 1, 0, none⟩)) true ty).run Tryz.prog wr = _ := fun ty => Lib.run_next_end_at wr (w.heap.size + 1) T pos ty hit (by rw [HS.out.1]; omega)
        have hdr : T.data.toList.drop pos = [] := List.drop_eq_nil_of_le (by rw [HS.out.2]; omega)
        have HF : Hid (R = some out) := by
          show _ = _
          rcases HI.out.2.2.2 with ⟨-, h⟩ | ⟨ho, -⟩
          · rw [h, hdr, rdH]
            simp
          · omega
        have HB : Hid (Below w.heap.size w wr) := HI.out.2.1
        have hsg := bstring_any w.heap.size w.heap.size out wr HI.out.1
        clear hit HI hdr hk
        go_wp2_with (go_at_call 62; refine hsg.mono ?_; rintro e w5 ⟨rfl, hb5⟩; clear hsg)
        go_ret2
        rw [HF.out]
        exact ⟨rfl, HB.out.trans hb5⟩
end Go.Proofs.YtlmopjbfagijeaaGreatDoor.Sc

namespace Go.Proofs.YtlmopjbfagijeaaGreatDoor.Sc
open Go.RowKit Go.Lib Go.Deep

/-- words that were not read yet, in a block of their own -/
def Wd (g : Nat) (L : List ByteArray) (bad : Bool) (w : World) : Prop := ∃ (a : Option Addr) (c : Nat), w.heap[g]? = some (.cells #[.slice a L.length c, .bool bad] 206 (0, 0)) ∧ L.length ≤ c ∧ (L ≠ [] → ∃ b off, a = some ⟨b, off, none⟩ ∧ b ≠ g ∧ b < w.heap.size ∧ (∃ cs, w.heap[b]? = some (.cells cs 9 (0, 0))) ∧ ∀ (i : Nat) s, L[i]? = some s → w.cell? ⟨b, off + i, none⟩ = some (.string s))
theorem Wd.lt {g : Nat} {L : List ByteArray} {bad : Bool} {w : World} (h : Wd g L bad w) : g < w.heap.size := by
  obtain ⟨a, c, h, -⟩ := h
  exact heap_lt h
theorem Wd.below {g : Nat} {L : List ByteArray} {bad : Bool} {w w' : World} (h : Wd g L bad w) (hb : Below w.heap.size w w') : Wd g L bad w' := by
  have hlt := h.lt
  obtain ⟨a, c, h1, h2, h3⟩ := h
  refine ⟨a, c, (hb.block _ hlt).trans h1, h2, fun hne => ?_⟩
  obtain ⟨b, off, e, hbg, hbl, ⟨cs, hty⟩, hc⟩ := h3 hne
  exact ⟨b, off, e, hbg, Nat.lt_of_lt_of_le hbl hb.size, ⟨cs, (hb.block _ hbl).trans hty⟩, fun i s hs => (hb.cell (p := ⟨b, off + i, none⟩) hbl).trans (hc i s hs)⟩
theorem Wd.keep {g : Nat} {L : List ByteArray} {bad : Bool} {w w' : World} (h : Wd g L bad w) (hg : w'.heap[g]? = w.heap[g]?) (hs : ∀ (k : Nat) (cs : Array Value), w.heap[k]? = some (Obj.cells cs 9 (0, 0)) → w'.heap[k]? = w.heap[k]?) : Wd g L bad w' := by
  obtain ⟨a, c, h1, h2, h3⟩ := h
  refine ⟨a, c, hg.trans h1, h2, fun hne => ?_⟩
  obtain ⟨b, off, e, hbg, hbl, ⟨cs, hty⟩, hc⟩ := h3 hne
  have hk := hs b cs hty
  refine ⟨b, off, e, hbg, heap_lt (hk.trans hty), ⟨cs, hk.trans hty⟩, fun i s hs => ?_⟩
  have h1 := hc i s hs
  simp only [World.cell?, hk] at h1 ⊢
  exact h1
theorem wd_step {g b off m c : Nat} {bad : Bool} {x : ByteArray} {r : List ByteArray} {w w1 : World} (hm : (x :: r).length = m) (hg : w.heap[g]? = some (.cells #[.slice (some ⟨b, off, none⟩) m c, .bool bad] 206 (0, 0))) (hb1 : Below w.heap.size w w1) (hbg : b ≠ g) (hbl : b < w.heap.size) (hty : ∃ cs, w.heap[b]? = some (.cells cs 9 (0, 0))) (hcs : ∀ (i : Nat) s, (x :: r)[i]? = some s → w.cell? ⟨b, off + i, none⟩ = some (.string s)) (a : Option Addr) (c' : Nat) (B : Bool) (ha : r ≠ [] → a = some ⟨b, off + 1, none⟩) (hc' : m - 1 ≤ c') :
    Wd g r B ((w1.setCell ⟨g, 0, none⟩ (.slice a (m - 1) c')).setCell ⟨g, 1, none⟩ (.bool B)) ∧ Only [g] w ((w1.setCell ⟨g, 0, none⟩ (.slice a (m - 1) c')).setCell ⟨g, 1, none⟩ (.bool B)) := by
  have hg1 := (hb1.block _ (heap_lt hg)).trans hg
  have hml : m - 1 = r.length := by rw [← hm]; simp
  have hO : Only [g] w ((w1.setCell ⟨g, 0, none⟩ (.slice a (m - 1) c')).setCell ⟨g, 1, none⟩ (.bool B)) := by
    have h0 : Only [g] w w1 := ⟨hb1.os, hb1.tape, hb1.output, hb1.size, fun k hk _ => hb1.block k hk⟩
    exact (h0.setCell (p := ⟨g, 0, none⟩) (by simp) _).setCell (p := ⟨g, 1, none⟩) (by simp) _
  refine ⟨⟨a, c', ?_, by rw [← hml]; exact hc', fun hne => ?_⟩, hO⟩
  · rw [hml]
    simp [World.setCell, Array.getElem?_modify, hg1]
  · obtain ⟨cs, hty⟩ := hty
    refine ⟨b, off + 1, ha hne, hbg, Nat.lt_of_lt_of_le hbl hO.size, ⟨cs, (hO.block b hbl (by simp; exact hbg)).trans hty⟩, fun i s hs => ?_⟩
    have h1 := hcs (i + 1) s hs
    rw [show off + 1 + i = off + (i + 1) by omega]
    simp only [World.cell?, hO.block b hbl (by simp; exact hbg)] at h1 ⊢
    exact h1
set_option maxRecDepth 20000 in
set_option maxHeartbeats 400000 in
theorem nextN_any (g : Nat) (x : ByteArray) (r : List ByteArray) (bad : Bool) (hx : x.size ≤ 8388608) (w : World) (h : Wd g (x :: r) bad w) (ht : ITab w) (he : ETab w) :
    Calls Tryz.prog 131 #[.pointer (some ⟨g, 0, none⟩), .func (.func 132) #[] #[]] w fun e w' => e = .returned (.int .i64 ((rdN x.data.toList).getD 0)) ∧ Wd g r (bad || !(rdN x.data.toList).isSome) w' ∧ Only [g] w w' := by
  obtain ⟨a, c, hg, hc, hcell⟩ := h
  obtain ⟨b, off, rfl, hbg, hbl, hty, hcs⟩ := hcell (by simp)
  obtain ⟨m, hm⟩ : ∃ m, (x :: r).length = m := ⟨_, rfl⟩
  rw [hm] at hc hg
  have HST : Hid (∀ w1, Below w.heap.size w w1 → ∀ (a : Option Addr) (c' : Nat) (B : Bool), (r ≠ [] → a = some ⟨b, off + 1, none⟩) → m - 1 ≤ c' → Wd g r B ((w1.setCell ⟨g, 0, none⟩ (.slice a (m - 1) c')).setCell ⟨g, 1, none⟩ (.bool B)) ∧ Only [g] w ((w1.setCell ⟨g, 0, none⟩ (.slice a (m - 1) c')).setCell ⟨g, 1, none⟩ (.bool B))) := fun w1 hb1 a c' B ha hc' => wd_step hm hg hb1 hbg hbl hty hcs a c' B ha hc'
  have k0 : w.cell? ⟨g, 0, none⟩ = some (.slice (some ⟨b, off, none⟩) m c) := by rw [Lib.cell_of_heap hg]; rfl
  have k1 : w.cell? ⟨g, 1, none⟩ = some (.bool bad) := by rw [Lib.cell_of_heap hg]; rfl
  have x0 : w.cell? ⟨b, off, none⟩ = some (.string x) := hcs 0 x rfl
  have hr := readNumber_any x (by omega) w ht he
  have hm1 : 0 < m := by rw [← hm]; simp
  have hm1I : (0 : Int) < (m : Int) := by omega
  have HG : Hid (w.heap[g]? = some (.cells #[.slice (some ⟨b, off, none⟩) m c, .bool bad] 206 (0, 0))) := hg
  have HR : Hid (r ≠ [] → c ≠ 1) := by
    show r ≠ [] → c ≠ 1
    intro hne
    have : 0 < r.length := List.length_pos_iff.2 hne
    simp at hm
    omega
  generalize (rdN x.data.toList).getD 0 = v at *
  generalize (rdN x.data.toList).isSome = ok at *
  clear hg hcs hty hbg hbl hm hx hcell ht he
  go_enter Tryz.func131, Tryz.ntmps131
  go_wp2_with fail
  refine hr.mono ?_
  rintro e w1 ⟨rfl, hb1⟩
  have HB1 : Hid (Below w.heap.size w w1) := hb1
  have hg1 := (hb1.block _ (heap_lt HG.out)).trans HG.out
  have j0 : w1.cell? ⟨g, 0, none⟩ = some (.slice (some ⟨b, off, none⟩) m c) := by rw [Lib.cell_of_heap hg1]; rfl
  have j1 : w1.cell? ⟨g, 1, none⟩ = some (.bool bad) := by rw [Lib.cell_of_heap hg1]; rfl
  have f0 : w1.frozen? ⟨g, 0, none⟩ = false := Lib.frozen_of_heap hg1 0
  have f1 : w1.frozen? ⟨g, 1, none⟩ = false := Lib.frozen_of_heap hg1 1
  have q1 : (1 : Int) ≤ (m : Int) := by omega
  have q3 : (m : Int) ≤ (c : Int) := by omega
  clear hr k0 k1 x0 hg1 hb1
  by_cases hc1 : c = 1
  · subst hc1
    cases bad
    · go_wp2
      go_ret
      have h := HST.out w1 HB1.out (some ⟨b, off, none⟩) 0 (!ok) (fun hne => absurd rfl (HR.out hne)) (by omega)
      rw [show m - 1 = 0 by omega] at h
      exact ⟨rfl, h⟩
    · go_wp2
      go_ret
      have h := HST.out w1 HB1.out (some ⟨b, off, none⟩) 0 true (fun hne => absurd rfl (HR.out hne)) (by omega)
      rw [show m - 1 = 0 by omega] at h
      exact ⟨rfl, h⟩
  · cases bad
    · go_wp2
      go_ret
      exact ⟨rfl, HST.out w1 HB1.out _ _ _ (fun _ => rfl) (by omega)⟩
    · go_wp2
      go_ret
      exact ⟨rfl, HST.out w1 HB1.out _ _ _ (fun _ => rfl) (by omega)⟩
set_option maxRecDepth 20000 in
theorem wN_any (g : Nat) (x : ByteArray) (r : List ByteArray) (bad : Bool) (hx : x.size ≤ 8388608) (w : World) (h : Wd g (x :: r) bad w) (ht : ITab w) (he : ETab w) :
    Calls Tryz.prog 100 #[.pointer (some ⟨g, 0, none⟩)] w fun e w' => e = .returned (.int .i64 ((rdN x.data.toList).getD 0)) ∧ Wd g r (bad || !(rdN x.data.toList).isSome) w' ∧ Only [g] w w' := by
  have h0 := nextN_any g x r bad hx w h ht he
  generalize (rdN x.data.toList).getD 0 = v at *
  generalize (rdN x.data.toList).isSome = ok at *
  go_enter Tryz.func100, Tryz.ntmps100
  go_wp2_with fail
  refine h0.mono ?_
  rintro e w1 ⟨rfl, hw, ho⟩
  clear h0 h
  go_wp2
  go_ret
  exact ⟨rfl, hw, ho⟩
set_option maxRecDepth 20000 in
set_option maxHeartbeats 400000 in
theorem nextB_any (g : Nat) (x : ByteArray) (r : List ByteArray) (bad : Bool) (hx : x.size ≤ 8388608) (w : World) (h : Wd g (x :: r) bad w) :
    Calls Tryz.prog 134 #[.pointer (some ⟨g, 0, none⟩), .func (.func 135) #[] #[]] w fun e w' => e = .returned (.string (str ((rdB x.data.toList).getD []))) ∧ Wd g r (bad || !(rdB x.data.toList).isSome) w' ∧ Only [g] w w' := by
  obtain ⟨a, c, hg, hc, hcell⟩ := h
  obtain ⟨b, off, rfl, hbg, hbl, hty, hcs⟩ := hcell (by simp)
  obtain ⟨m, hm⟩ : ∃ m, (x :: r).length = m := ⟨_, rfl⟩
  rw [hm] at hc hg
  have HST : Hid (∀ w1, Below w.heap.size w w1 → ∀ (a : Option Addr) (c' : Nat) (B : Bool), (r ≠ [] → a = some ⟨b, off + 1, none⟩) → m - 1 ≤ c' → Wd g r B ((w1.setCell ⟨g, 0, none⟩ (.slice a (m - 1) c')).setCell ⟨g, 1, none⟩ (.bool B)) ∧ Only [g] w ((w1.setCell ⟨g, 0, none⟩ (.slice a (m - 1) c')).setCell ⟨g, 1, none⟩ (.bool B))) := fun w1 hb1 a c' B ha hc' => wd_step hm hg hb1 hbg hbl hty hcs a c' B ha hc'
  have k0 : w.cell? ⟨g, 0, none⟩ = some (.slice (some ⟨b, off, none⟩) m c) := by rw [Lib.cell_of_heap hg]; rfl
  have k1 : w.cell? ⟨g, 1, none⟩ = some (.bool bad) := by rw [Lib.cell_of_heap hg]; rfl
  have x0 : w.cell? ⟨b, off, none⟩ = some (.string x) := hcs 0 x rfl
  have hr := readBytes_any x hx w
  have hm1 : 0 < m := by rw [← hm]; simp
  have hm1I : (0 : Int) < (m : Int) := by omega
  have HG : Hid (w.heap[g]? = some (.cells #[.slice (some ⟨b, off, none⟩) m c, .bool bad] 206 (0, 0))) := hg
  have HR : Hid (r ≠ [] → c ≠ 1) := by
    show r ≠ [] → c ≠ 1
    intro hne
    have : 0 < r.length := List.length_pos_iff.2 hne
    simp at hm
    omega
  generalize str ((rdB x.data.toList).getD []) = v at *
  generalize (rdB x.data.toList).isSome = ok at *
  clear hg hcs hty hbg hbl hm hx hcell
  go_enter Tryz.func134, Tryz.ntmps134
  go_wp2_with fail
  refine hr.mono ?_
  rintro e w1 ⟨rfl, hb1⟩
  have HB1 : Hid (Below w.heap.size w w1) := hb1
  have hg1 := (hb1.block _ (heap_lt HG.out)).trans HG.out
  have j0 : w1.cell? ⟨g, 0, none⟩ = some (.slice (some ⟨b, off, none⟩) m c) := by rw [Lib.cell_of_heap hg1]; rfl
  have j1 : w1.cell? ⟨g, 1, none⟩ = some (.bool bad) := by rw [Lib.cell_of_heap hg1]; rfl
  have f0 : w1.frozen? ⟨g, 0, none⟩ = false := Lib.frozen_of_heap hg1 0
  have f1 : w1.frozen? ⟨g, 1, none⟩ = false := Lib.frozen_of_heap hg1 1
  have q1 : (1 : Int) ≤ (m : Int) := by omega
  have q3 : (m : Int) ≤ (c : Int) := by omega
  clear hr k0 k1 x0 hg1 hb1
  by_cases hc1 : c = 1
  · subst hc1
    cases bad
    · go_wp2
      go_ret
      have h := HST.out w1 HB1.out (some ⟨b, off, none⟩) 0 (!ok) (fun hne => absurd rfl (HR.out hne)) (by omega)
      rw [show m - 1 = 0 by omega] at h
      exact ⟨rfl, h⟩
    · go_wp2
      go_ret
      have h := HST.out w1 HB1.out (some ⟨b, off, none⟩) 0 true (fun hne => absurd rfl (HR.out hne)) (by omega)
      rw [show m - 1 = 0 by omega] at h
      exact ⟨rfl, h⟩
  · cases bad
    · go_wp2
      go_ret
      exact ⟨rfl, HST.out w1 HB1.out _ _ _ (fun _ => rfl) (by omega)⟩
    · go_wp2
      go_ret
      exact ⟨rfl, HST.out w1 HB1.out _ _ _ (fun _ => rfl) (by omega)⟩
set_option maxRecDepth 20000 in
theorem wB_any (g : Nat) (x : ByteArray) (r : List ByteArray) (bad : Bool) (hx : x.size ≤ 8388608) (w : World) (h : Wd g (x :: r) bad w) :
    Calls Tryz.prog 103 #[.pointer (some ⟨g, 0, none⟩)] w fun e w' => e = .returned (.string (str ((rdB x.data.toList).getD []))) ∧ Wd g r (bad || !(rdB x.data.toList).isSome) w' ∧ Only [g] w w' := by
  have h0 := nextB_any g x r bad hx w h
  generalize str ((rdB x.data.toList).getD []) = v at *
  generalize (rdB x.data.toList).isSome = ok at *
  go_enter Tryz.func103, Tryz.ntmps103
  go_wp2_with fail
  refine h0.mono ?_
  rintro e w1 ⟨rfl, hw, ho⟩
  clear h0 h
  go_wp2
  go_ret
  exact ⟨rfl, hw, ho⟩
set_option maxRecDepth 20000 in
set_option maxHeartbeats 400000 in
theorem nextH_any (g : Nat) (x : ByteArray) (r : List ByteArray) (bad : Bool) (hx : x.size ≤ 8388608) (w : World) (h : Wd g (x :: r) bad w) :
    Calls Tryz.prog 134 #[.pointer (some ⟨g, 0, none⟩), .func (.func 172) #[] #[]] w fun e w' => e = .returned (.string (str ((rdH x.data.toList).getD []))) ∧ Wd g r (bad || !(rdH x.data.toList).isSome) w' ∧ Only [g] w w' := by
  obtain ⟨a, c, hg, hc, hcell⟩ := h
  obtain ⟨b, off, rfl, hbg, hbl, hty, hcs⟩ := hcell (by simp)
  obtain ⟨m, hm⟩ : ∃ m, (x :: r).length = m := ⟨_, rfl⟩
  rw [hm] at hc hg
  have HST : Hid (∀ w1, Below w.heap.size w w1 → ∀ (a : Option Addr) (c' : Nat) (B : Bool), (r ≠ [] → a = some ⟨b, off + 1, none⟩) → m - 1 ≤ c' → Wd g r B ((w1.setCell ⟨g, 0, none⟩ (.slice a (m - 1) c')).setCell ⟨g, 1, none⟩ (.bool B)) ∧ Only [g] w ((w1.setCell ⟨g, 0, none⟩ (.slice a (m - 1) c')).setCell ⟨g, 1, none⟩ (.bool B))) := fun w1 hb1 a c' B ha hc' => wd_step hm hg hb1 hbg hbl hty hcs a c' B ha hc'
  have k0 : w.cell? ⟨g, 0, none⟩ = some (.slice (some ⟨b, off, none⟩) m c) := by rw [Lib.cell_of_heap hg]; rfl
  have k1 : w.cell? ⟨g, 1, none⟩ = some (.bool bad) := by rw [Lib.cell_of_heap hg]; rfl
  have x0 : w.cell? ⟨b, off, none⟩ = some (.string x) := hcs 0 x rfl
  have hr := readHex_any x hx w
  have hm1 : 0 < m := by rw [← hm]; simp
  have hm1I : (0 : Int) < (m : Int) := by omega
  have HG : Hid (w.heap[g]? = some (.cells #[.slice (some ⟨b, off, none⟩) m c, .bool bad] 206 (0, 0))) := hg
  have HR : Hid (r ≠ [] → c ≠ 1) := by
    show r ≠ [] → c ≠ 1
    intro hne
    have : 0 < r.length := List.length_pos_iff.2 hne
    simp at hm
    omega
  generalize str ((rdH x.data.toList).getD []) = v at *
  generalize (rdH x.data.toList).isSome = ok at *
  clear hg hcs hty hbg hbl hm hx hcell
  go_enter Tryz.func134, Tryz.ntmps134
  go_wp2_with fail
  refine hr.mono ?_
  rintro e w1 ⟨rfl, hb1⟩
  have HB1 : Hid (Below w.heap.size w w1) := hb1
  have hg1 := (hb1.block _ (heap_lt HG.out)).trans HG.out
  have j0 : w1.cell? ⟨g, 0, none⟩ = some (.slice (some ⟨b, off, none⟩) m c) := by rw [Lib.cell_of_heap hg1]; rfl
  have j1 : w1.cell? ⟨g, 1, none⟩ = some (.bool bad) := by rw [Lib.cell_of_heap hg1]; rfl
  have f0 : w1.frozen? ⟨g, 0, none⟩ = false := Lib.frozen_of_heap hg1 0
  have f1 : w1.frozen? ⟨g, 1, none⟩ = false := Lib.frozen_of_heap hg1 1
  have q1 : (1 : Int) ≤ (m : Int) := by omega
  have q3 : (m : Int) ≤ (c : Int) := by omega
  clear hr k0 k1 x0 hg1 hb1
  by_cases hc1 : c = 1
  · subst hc1
    cases bad
    · go_wp2
      go_ret
      have h := HST.out w1 HB1.out (some ⟨b, off, none⟩) 0 (!ok) (fun hne => absurd rfl (HR.out hne)) (by omega)
      rw [show m - 1 = 0 by omega] at h
      exact ⟨rfl, h⟩
    · go_wp2
      go_ret
      have h := HST.out w1 HB1.out (some ⟨b, off, none⟩) 0 true (fun hne => absurd rfl (HR.out hne)) (by omega)
      rw [show m - 1 = 0 by omega] at h
      exact ⟨rfl, h⟩
  · cases bad
    · go_wp2
      go_ret
      exact ⟨rfl, HST.out w1 HB1.out _ _ _ (fun _ => rfl) (by omega)⟩
    · go_wp2
      go_ret
      exact ⟨rfl, HST.out w1 HB1.out _ _ _ (fun _ => rfl) (by omega)⟩
set_option maxRecDepth 20000 in
theorem wH_any (g : Nat) (x : ByteArray) (r : List ByteArray) (bad : Bool) (hx : x.size ≤ 8388608) (w : World) (h : Wd g (x :: r) bad w) :
    Calls Tryz.prog 161 #[.pointer (some ⟨g, 0, none⟩)] w fun e w' => e = .returned (.string (str ((rdH x.data.toList).getD []))) ∧ Wd g r (bad || !(rdH x.data.toList).isSome) w' ∧ Only [g] w w' := by
  have h0 := nextH_any g x r bad hx w h
  generalize str ((rdH x.data.toList).getD []) = v at *
  generalize (rdH x.data.toList).isSome = ok at *
  go_enter Tryz.func161, Tryz.ntmps161
  go_wp2_with fail
  refine h0.mono ?_
  rintro e w1 ⟨rfl, hw, ho⟩
  clear h0 h
  go_wp2
  go_ret
  exact ⟨rfl, hw, ho⟩
set_option maxRecDepth 20000 in
theorem wcode_any (g : Nat) (r : List ByteArray) (bad : Bool) (w : World) (h : Wd g r bad w) :
    Calls Tryz.prog 159 #[.pointer (some ⟨g, 0, none⟩)] w fun e w' => e = .returned (.int .i64 (if bad = true then 224 else 0)) ∧ w' = w := by
  obtain ⟨a, c, hg, -⟩ := h
  have k1 : w.cell? ⟨g, 1, none⟩ = some (.bool bad) := by rw [Lib.cell_of_heap hg]; rfl
  clear hg
  cases bad
  · go_enter Tryz.func159, Tryz.ntmps159
    go_wp2
    go_ret
    exact ⟨rfl, rfl⟩
  · go_enter Tryz.func159, Tryz.ntmps159
    go_wp2
    go_ret
    exact ⟨rfl, rfl⟩
end Go.Proofs.YtlmopjbfagijeaaGreatDoor.Sc

namespace Go.Proofs.YtlmopjbfagijeaaGreatDoor.Sc
open Go.RowKit Go.Lib Go.Deep

noncomputable def rB (x : ByteArray) : ByteArray := str ((rdB x.data.toList).getD [])
noncomputable def bB (x : ByteArray) : Bool := !(rdB x.data.toList).isSome
noncomputable def rN (x : ByteArray) : Int := (rdN x.data.toList).getD 0
noncomputable def bN (x : ByteArray) : Bool := !(rdN x.data.toList).isSome
theorem Only.sub {S T : List Nat} {a b : World} (h : Only S a b) (hs : ∀ k ∈ S, k ∈ T) : Only T a b := h.mono hs
/-- what a reader of words leaves: the words, what was bad, an operation -/
structure Rd (g ob : Nat) (L : List ByteArray) (bad : Bool) (o : OpR) (w w' : World) : Prop where
  wd : Wd g L bad w'
  op : OpAt w' ob o
  only : Only [g, ob] w w'
theorem OpAt.only {w w' : World} {g ob : Nat} {o : OpR} (h : OpAt w ob o) (ho : Only [g] w w') (hne : ob ≠ g) : OpAt w' ob o := (ho.block ob h.lt (by simp; exact hne)).trans h
theorem Wd.setOp {g ob i : Nat} {L : List ByteArray} {bad : Bool} {w : World} {o : OpR} {v : Value} (h : Wd g L bad w) (ho : OpAt w ob o) (hne : ob ≠ g) : Wd g L bad (w.setCell ⟨ob, i, none⟩ v) :=
  h.keep (Below.heap_setCell _ _ _ _ (Ne.symm hne)) fun k cs hk => Below.heap_setCell _ _ _ _ (fun e => by
    subst e
    have h0 : w.heap[_]? = _ := ho
    rw [h0] at hk
    injection hk with hk
    injection hk with _ q _
    revert q
    decide)
theorem OpAt.put1 {w : World} {g : Nat} {o : OpR} (h : OpAt w g o) (x : ByteArray) : OpAt (w.setCell ⟨g, 1, none⟩ (.string x)) g { o with path := x } := by
  unfold OpAt at h ⊢
  simp [World.setCell, Array.getElem?_modify, h, OpR.cells]
theorem OpAt.put2 {w : World} {g : Nat} {o : OpR} (h : OpAt w g o) (x : ByteArray) : OpAt (w.setCell ⟨g, 2, none⟩ (.string x)) g { o with to := x } := by
  unfold OpAt at h ⊢
  simp [World.setCell, Array.getElem?_modify, h, OpR.cells]
theorem OpAt.put3 {w : World} {g : Nat} {o : OpR} (h : OpAt w g o) (x : Int) : OpAt (w.setCell ⟨g, 3, none⟩ (.int .i64 x)) g { o with at_ := x } := by
  unfold OpAt at h ⊢
  simp [World.setCell, Array.getElem?_modify, h, OpR.cells]
theorem OpAt.put4 {w : World} {g : Nat} {o : OpR} (h : OpAt w g o) (x : Int) : OpAt (w.setCell ⟨g, 4, none⟩ (.int .i64 x)) g { o with n := x } := by
  unfold OpAt at h ⊢
  simp [World.setCell, Array.getElem?_modify, h, OpR.cells]
theorem OpAt.put5 {w : World} {g : Nat} {o : OpR} (h : OpAt w g o) (x : ByteArray) : OpAt (w.setCell ⟨g, 5, none⟩ (.string x)) g { o with data := x } := by
  unfold OpAt at h ⊢
  simp [World.setCell, Array.getElem?_modify, h, OpR.cells]
theorem only_set2 {w w1 : World} {g ob i : Nat} {v : Value} (ho : Only [g] w w1) : Only [g, ob] w (w1.setCell ⟨ob, i, none⟩ v) :=
  (ho.mono (T := [g, ob]) (by simp)).setCell (p := ⟨ob, i, none⟩) (by simp) _
/-- strconv's tables, below a bound -/
structure GlB (B : Nat) (w : World) : Prop where
  it : ITab w
  et : ETab w
  b0 : 3 < B
  b1 : 4 < B
  b2 : 5 < B
  le : B ≤ w.heap.size
theorem GlB.to {B : Nat} {w w' : World} (h : GlB B w) (hb : Below B w w') : GlB B w' := by
  obtain ⟨it, ⟨⟨t, p, h1⟩, t2, p2, h2⟩, b0, b1, b2, le⟩ := h
  exact ⟨it.below hb b0, ⟨⟨t, p, (hb.cell (p := ⟨4, 0, none⟩) b1).trans h1⟩, t2, p2, (hb.cell (p := ⟨5, 0, none⟩) b2).trans h2⟩, b0, b1, b2, Nat.le_trans le hb.size⟩
theorem GlB.only {B : Nat} {S : List Nat} {w w' : World} (h : GlB B w) (ho : Only S w w') (hS : ∀ k ∈ S, B ≤ k) : GlB B w' := h.to (ho.below h.le hS)
set_option maxRecDepth 20000 in
set_option maxHeartbeats 400000 in
theorem readPath_any (g ob : Nat) (x : ByteArray) (r : List ByteArray) (bad : Bool) (o : OpR) (hx : x.size ≤ 8388608) (hne : ob ≠ g) (w : World) (h : Wd g (x :: r) bad w) (ho : OpAt w ob o) :
    Calls Tryz.prog 78 #[.pointer (some ⟨g, 0, none⟩), .pointer (some ⟨ob, 0, none⟩)] w fun e w' => e = .returned (.tuple #[]) ∧ Rd g ob r (bad || bB x) { o with path := rB x } w w' := by
  have h0 := wB_any g x r bad hx w h
  have HO : Hid (OpAt w ob o ∧ ob ≠ g) := ⟨ho, hne⟩
  change Calls _ _ _ _ fun e w' => e = .returned (.string (rB x)) ∧ Wd g r (bad || bB x) w' ∧ Only [g] w w' at h0
  generalize rB x = v at *
  generalize (bad || bB x) = bb at *
  clear h ho hne
  go_enter Tryz.func78, Tryz.ntmps78
  go_wp2_with fail
  refine h0.mono ?_
  rintro e w1 ⟨rfl, hw, hon⟩
  have ho1 := HO.out.1.only hon HO.out.2
  obtain ⟨-, k1, -⟩ := ho1.six
  have f1 := ho1.frozen 1
  have HJ : Hid (Rd g ob r bb { o with path := v } w (w1.setCell ⟨ob, 1, none⟩ (.string v))) := ⟨hw.setOp ho1 HO.out.2, ho1.put1 v, only_set2 hon⟩
  clear h0 hw hon ho1
  go_wp2
  go_end0
  exact ⟨rfl, HJ.out⟩
set_option maxRecDepth 20000 in
set_option maxHeartbeats 600000 in
theorem readRead_any (B g ob : Nat) (x y z : ByteArray) (r : List ByteArray) (bad : Bool) (o : OpR) (hx : x.size ≤ 8388608) (hy : y.size ≤ 8388608) (hz : z.size ≤ 8388608) (hne : ob ≠ g) (hgB : B ≤ g) (hoB : B ≤ ob) (w : World) (h : Wd g (x :: y :: z :: r) bad w) (ho : OpAt w ob o) (hG : GlB B w) :
    Calls Tryz.prog 80 #[.pointer (some ⟨g, 0, none⟩), .pointer (some ⟨ob, 0, none⟩)] w fun e w' => e = .returned (.tuple #[]) ∧ Rd g ob r (((bad || bB x) || bN y) || bN z) { o with path := rB x, at_ := rN y, n := rN z } w w' := by
  have hp := readPath_any g ob x (y :: z :: r) bad o hx hne w h ho
  have HO : Hid (ob ≠ g ∧ B ≤ g ∧ B ≤ ob ∧ GlB B w) := ⟨hne, hgB, hoB, hG⟩
  generalize rB x = v0 at *
  generalize (bad || bB x) = b0 at *
  clear h ho hne hx hgB hoB hG
  obtain ⟨v1, ev1⟩ : ∃ v, rN y = v := ⟨_, rfl⟩
  obtain ⟨b1, eb1⟩ : ∃ b, (b0 || bN y) = b := ⟨_, rfl⟩
  have EV1 : Hid (rN y = v1 ∧ (b0 || bN y) = b1) := ⟨ev1, eb1⟩
  rw [ev1, eb1]
  clear ev1 eb1
  obtain ⟨v2, ev2⟩ : ∃ v, rN z = v := ⟨_, rfl⟩
  obtain ⟨b2, eb2⟩ : ∃ b, (b1 || bN z) = b := ⟨_, rfl⟩
  have EV2 : Hid (rN z = v2 ∧ (b1 || bN z) = b2) := ⟨ev2, eb2⟩
  rw [ev2, eb2]
  clear ev2 eb2
  go_enter Tryz.func80, Tryz.ntmps80
  go_wp2_with fail
  refine hp.mono ?_
  rintro e w1 ⟨rfl, hR⟩
  have HR : Hid (Rd g ob (y :: z :: r) b0 { o with path := v0 } w w1) := hR
  clear hp hR
  have hn1 := wN_any g y (z :: r) b0 hy w1 HR.out.wd (HO.out.2.2.2.only HR.out.only (by simp; exact ⟨HO.out.2.1, HO.out.2.2.1⟩)).it (HO.out.2.2.2.only HR.out.only (by simp; exact ⟨HO.out.2.1, HO.out.2.2.1⟩)).et
  change Calls _ _ _ _ fun e w' => e = .returned (.int .i64 (rN y)) ∧ Wd g (z :: r) (b0 || bN y) w' ∧ Only [g] w1 w' at hn1
  rw [EV1.out.1, EV1.out.2] at hn1
  go_wp2_with fail
  refine hn1.mono ?_
  rintro e w2 ⟨rfl, hw1, ho1⟩
  have HW1 : Hid (Wd g (z :: r) b1 w2 ∧ Only [g] w1 w2) := ⟨hw1, ho1⟩
  clear hn1 hw1 ho1
  have hn2 := wN_any g z (r) b1 hz w2 HW1.out.1 ((HO.out.2.2.2.only HR.out.only (by simp; exact ⟨HO.out.2.1, HO.out.2.2.1⟩)).only HW1.out.2 (by simp; exact HO.out.2.1)).it ((HO.out.2.2.2.only HR.out.only (by simp; exact ⟨HO.out.2.1, HO.out.2.2.1⟩)).only HW1.out.2 (by simp; exact HO.out.2.1)).et
  change Calls _ _ _ _ fun e w' => e = .returned (.int .i64 (rN z)) ∧ Wd g (r) (b1 || bN z) w' ∧ Only [g] w2 w' at hn2
  rw [EV2.out.1, EV2.out.2] at hn2
  go_wp2_with fail
  refine hn2.mono ?_
  rintro e w3 ⟨rfl, hw2, ho2⟩
  have HW2 : Hid (Wd g (r) b2 w3 ∧ Only [g] w1 w3) := ⟨hw2, HW1.out.2.trans ho2⟩
  clear hn2 hw2 ho2
  have ho2 : OpAt w3 ob { o with path := v0 } := HR.out.op.only HW2.out.2 HO.out.1
  obtain ⟨k0, k1, k2, k3, k4, k5⟩ := ho2.six
  have fz := ho2.frozen
  have HJ : Hid (Rd g ob r b2 { o with path := v0, at_ := v1, n := v2 } w ((w3.setCell ⟨ob, 3, none⟩ (.int .i64 v1)).setCell ⟨ob, 4, none⟩ (.int .i64 v2))) := ⟨((HW2.out.1.setOp (i := 3) (v := .int .i64 v1) ho2 HO.out.1).setOp (i := 4) (v := .int .i64 v2) (ho2.put3 v1) HO.out.1), ((ho2.put3 v1).put4 v2), (((HR.out.only.trans (HW2.out.2.mono (T := [g, ob]) (by simp))).setCell (p := ⟨ob, 3, none⟩) (by simp) (.int .i64 v1)).setCell (p := ⟨ob, 4, none⟩) (by simp) (.int .i64 v2))⟩
  clear ho2
  go_wp2
  go_end0
  exact ⟨rfl, HJ.out⟩
set_option maxRecDepth 20000 in
set_option maxHeartbeats 600000 in
theorem readWrite_any (B g ob : Nat) (x y z : ByteArray) (r : List ByteArray) (bad : Bool) (o : OpR) (hx : x.size ≤ 8388608) (hy : y.size ≤ 8388608) (hz : z.size ≤ 8388608) (hne : ob ≠ g) (hgB : B ≤ g) (hoB : B ≤ ob) (w : World) (h : Wd g (x :: y :: z :: r) bad w) (ho : OpAt w ob o) (hG : GlB B w) :
    Calls Tryz.prog 82 #[.pointer (some ⟨g, 0, none⟩), .pointer (some ⟨ob, 0, none⟩)] w fun e w' => e = .returned (.tuple #[]) ∧ Rd g ob r (((bad || bB x) || bN y) || bB z) { o with path := rB x, at_ := rN y, data := rB z } w w' := by
  have hp := readPath_any g ob x (y :: z :: r) bad o hx hne w h ho
  have HO : Hid (ob ≠ g ∧ B ≤ g ∧ B ≤ ob ∧ GlB B w) := ⟨hne, hgB, hoB, hG⟩
  generalize rB x = v0 at *
  generalize (bad || bB x) = b0 at *
  clear h ho hne hx hgB hoB hG
  obtain ⟨v1, ev1⟩ : ∃ v, rN y = v := ⟨_, rfl⟩
  obtain ⟨b1, eb1⟩ : ∃ b, (b0 || bN y) = b := ⟨_, rfl⟩
  have EV1 : Hid (rN y = v1 ∧ (b0 || bN y) = b1) := ⟨ev1, eb1⟩
  rw [ev1, eb1]
  clear ev1 eb1
  obtain ⟨v2, ev2⟩ : ∃ v, rB z = v := ⟨_, rfl⟩
  obtain ⟨b2, eb2⟩ : ∃ b, (b1 || bB z) = b := ⟨_, rfl⟩
  have EV2 : Hid (rB z = v2 ∧ (b1 || bB z) = b2) := ⟨ev2, eb2⟩
  rw [ev2, eb2]
  clear ev2 eb2
  go_enter Tryz.func82, Tryz.ntmps82
  go_wp2_with fail
  refine hp.mono ?_
  rintro e w1 ⟨rfl, hR⟩
  have HR : Hid (Rd g ob (y :: z :: r) b0 { o with path := v0 } w w1) := hR
  clear hp hR
  have hn1 := wN_any g y (z :: r) b0 hy w1 HR.out.wd (HO.out.2.2.2.only HR.out.only (by simp; exact ⟨HO.out.2.1, HO.out.2.2.1⟩)).it (HO.out.2.2.2.only HR.out.only (by simp; exact ⟨HO.out.2.1, HO.out.2.2.1⟩)).et
  change Calls _ _ _ _ fun e w' => e = .returned (.int .i64 (rN y)) ∧ Wd g (z :: r) (b0 || bN y) w' ∧ Only [g] w1 w' at hn1
  rw [EV1.out.1, EV1.out.2] at hn1
  go_wp2_with fail
  refine hn1.mono ?_
  rintro e w2 ⟨rfl, hw1, ho1⟩
  have HW1 : Hid (Wd g (z :: r) b1 w2 ∧ Only [g] w1 w2) := ⟨hw1, ho1⟩
  clear hn1 hw1 ho1
  have hn2 := wB_any g z (r) b1 hz w2 HW1.out.1
  change Calls _ _ _ _ fun e w' => e = .returned (.string (rB z)) ∧ Wd g (r) (b1 || bB z) w' ∧ Only [g] w2 w' at hn2
  rw [EV2.out.1, EV2.out.2] at hn2
  go_wp2_with fail
  refine hn2.mono ?_
  rintro e w3 ⟨rfl, hw2, ho2⟩
  have HW2 : Hid (Wd g (r) b2 w3 ∧ Only [g] w1 w3) := ⟨hw2, HW1.out.2.trans ho2⟩
  clear hn2 hw2 ho2
  have ho2 : OpAt w3 ob { o with path := v0 } := HR.out.op.only HW2.out.2 HO.out.1
  obtain ⟨k0, k1, k2, k3, k4, k5⟩ := ho2.six
  have fz := ho2.frozen
  have HJ : Hid (Rd g ob r b2 { o with path := v0, at_ := v1, data := v2 } w ((w3.setCell ⟨ob, 3, none⟩ (.int .i64 v1)).setCell ⟨ob, 5, none⟩ (.string v2))) := ⟨((HW2.out.1.setOp (i := 3) (v := .int .i64 v1) ho2 HO.out.1).setOp (i := 5) (v := .string v2) (ho2.put3 v1) HO.out.1), ((ho2.put3 v1).put5 v2), (((HR.out.only.trans (HW2.out.2.mono (T := [g, ob]) (by simp))).setCell (p := ⟨ob, 3, none⟩) (by simp) (.int .i64 v1)).setCell (p := ⟨ob, 5, none⟩) (by simp) (.string v2))⟩
  clear ho2
  go_wp2
  go_end0
  exact ⟨rfl, HJ.out⟩
set_option maxRecDepth 20000 in
set_option maxHeartbeats 600000 in
theorem readCut_any (B g ob : Nat) (x y : ByteArray) (r : List ByteArray) (bad : Bool) (o : OpR) (hx : x.size ≤ 8388608) (hy : y.size ≤ 8388608) (hne : ob ≠ g) (hgB : B ≤ g) (hoB : B ≤ ob) (w : World) (h : Wd g (x :: y :: r) bad w) (ho : OpAt w ob o) (hG : GlB B w) :
    Calls Tryz.prog 84 #[.pointer (some ⟨g, 0, none⟩), .pointer (some ⟨ob, 0, none⟩)] w fun e w' => e = .returned (.tuple #[]) ∧ Rd g ob r ((bad || bB x) || bN y) { o with path := rB x, n := rN y } w w' := by
  have hp := readPath_any g ob x (y :: r) bad o hx hne w h ho
  have HO : Hid (ob ≠ g ∧ B ≤ g ∧ B ≤ ob ∧ GlB B w) := ⟨hne, hgB, hoB, hG⟩
  generalize rB x = v0 at *
  generalize (bad || bB x) = b0 at *
  clear h ho hne hx hgB hoB hG
  obtain ⟨v1, ev1⟩ : ∃ v, rN y = v := ⟨_, rfl⟩
  obtain ⟨b1, eb1⟩ : ∃ b, (b0 || bN y) = b := ⟨_, rfl⟩
  have EV1 : Hid (rN y = v1 ∧ (b0 || bN y) = b1) := ⟨ev1, eb1⟩
  rw [ev1, eb1]
  clear ev1 eb1
  go_enter Tryz.func84, Tryz.ntmps84
  go_wp2_with fail
  refine hp.mono ?_
  rintro e w1 ⟨rfl, hR⟩
  have HR : Hid (Rd g ob (y :: r) b0 { o with path := v0 } w w1) := hR
  clear hp hR
  have hn1 := wN_any g y (r) b0 hy w1 HR.out.wd (HO.out.2.2.2.only HR.out.only (by simp; exact ⟨HO.out.2.1, HO.out.2.2.1⟩)).it (HO.out.2.2.2.only HR.out.only (by simp; exact ⟨HO.out.2.1, HO.out.2.2.1⟩)).et
  change Calls _ _ _ _ fun e w' => e = .returned (.int .i64 (rN y)) ∧ Wd g (r) (b0 || bN y) w' ∧ Only [g] w1 w' at hn1
  rw [EV1.out.1, EV1.out.2] at hn1
  go_wp2_with fail
  refine hn1.mono ?_
  rintro e w2 ⟨rfl, hw1, ho1⟩
  have HW1 : Hid (Wd g (r) b1 w2 ∧ Only [g] w1 w2) := ⟨hw1, ho1⟩
  clear hn1 hw1 ho1
  have ho2 : OpAt w2 ob { o with path := v0 } := HR.out.op.only HW1.out.2 HO.out.1
  obtain ⟨k0, k1, k2, k3, k4, k5⟩ := ho2.six
  have fz := ho2.frozen
  have HJ : Hid (Rd g ob r b1 { o with path := v0, n := v1 } w (w2.setCell ⟨ob, 4, none⟩ (.int .i64 v1))) := ⟨(HW1.out.1.setOp (i := 4) (v := .int .i64 v1) ho2 HO.out.1), (ho2.put4 v1), ((HR.out.only.trans (HW1.out.2.mono (T := [g, ob]) (by simp))).setCell (p := ⟨ob, 4, none⟩) (by simp) (.int .i64 v1))⟩
  clear ho2
  go_wp2
  go_end0
  exact ⟨rfl, HJ.out⟩
set_option maxRecDepth 20000 in
set_option maxHeartbeats 600000 in
theorem readRename_any (B g ob : Nat) (x y : ByteArray) (r : List ByteArray) (bad : Bool) (o : OpR) (hx : x.size ≤ 8388608) (hy : y.size ≤ 8388608) (hne : ob ≠ g) (hgB : B ≤ g) (hoB : B ≤ ob) (w : World) (h : Wd g (x :: y :: r) bad w) (ho : OpAt w ob o) (hG : GlB B w) :
    Calls Tryz.prog 86 #[.pointer (some ⟨g, 0, none⟩), .pointer (some ⟨ob, 0, none⟩)] w fun e w' => e = .returned (.tuple #[]) ∧ Rd g ob r ((bad || bB x) || bB y) { o with path := rB x, to := rB y } w w' := by
  have hp := readPath_any g ob x (y :: r) bad o hx hne w h ho
  have HO : Hid (ob ≠ g ∧ B ≤ g ∧ B ≤ ob ∧ GlB B w) := ⟨hne, hgB, hoB, hG⟩
  generalize rB x = v0 at *
  generalize (bad || bB x) = b0 at *
  clear h ho hne hx hgB hoB hG
  obtain ⟨v1, ev1⟩ : ∃ v, rB y = v := ⟨_, rfl⟩
  obtain ⟨b1, eb1⟩ : ∃ b, (b0 || bB y) = b := ⟨_, rfl⟩
  have EV1 : Hid (rB y = v1 ∧ (b0 || bB y) = b1) := ⟨ev1, eb1⟩
  rw [ev1, eb1]
  clear ev1 eb1
  go_enter Tryz.func86, Tryz.ntmps86
  go_wp2_with fail
  refine hp.mono ?_
  rintro e w1 ⟨rfl, hR⟩
  have HR : Hid (Rd g ob (y :: r) b0 { o with path := v0 } w w1) := hR
  clear hp hR
  have hn1 := wB_any g y (r) b0 hy w1 HR.out.wd
  change Calls _ _ _ _ fun e w' => e = .returned (.string (rB y)) ∧ Wd g (r) (b0 || bB y) w' ∧ Only [g] w1 w' at hn1
  rw [EV1.out.1, EV1.out.2] at hn1
  go_wp2_with fail
  refine hn1.mono ?_
  rintro e w2 ⟨rfl, hw1, ho1⟩
  have HW1 : Hid (Wd g (r) b1 w2 ∧ Only [g] w1 w2) := ⟨hw1, ho1⟩
  clear hn1 hw1 ho1
  have ho2 : OpAt w2 ob { o with path := v0 } := HR.out.op.only HW1.out.2 HO.out.1
  obtain ⟨k0, k1, k2, k3, k4, k5⟩ := ho2.six
  have fz := ho2.frozen
  have HJ : Hid (Rd g ob r b1 { o with path := v0, to := v1 } w (w2.setCell ⟨ob, 2, none⟩ (.string v1))) := ⟨(HW1.out.1.setOp (i := 2) (v := .string v1) ho2 HO.out.1), (ho2.put2 v1), ((HR.out.only.trans (HW1.out.2.mono (T := [g, ob]) (by simp))).setCell (p := ⟨ob, 2, none⟩) (by simp) (.string v1))⟩
  clear ho2
  go_wp2
  go_end0
  exact ⟨rfl, HJ.out⟩
end Go.Proofs.YtlmopjbfagijeaaGreatDoor.Sc
