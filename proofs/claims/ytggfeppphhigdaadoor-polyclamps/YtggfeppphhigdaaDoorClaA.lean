import Derived.Test.YtggfeppphhigdaaDoorPlC
import Derived.Test.YtggfeppphhigdaaDoorBufA
namespace Go.Proofs.YtggfeppphhigdaaDoor
open Go.RowKit Go.Lib Go.Deep

/-- a key whose bits that are taken as 0 may have been turned -/
structure Cl (K L : List UInt8) : Prop where
  len : L.length = 32
  rest : L.drop 16 = K.drop 16
  same : clampL L = clampL K
theorem Cl.put {K L : List UInt8} (h : Cl K L) (i : Nat) (m : UInt8) (hi : i < 16) (hm : m &&& keptL.getD i 0 = 0) : Cl K (L.set i (L.getD i 0 ^^^ m)) :=
  ⟨by rw [List.length_set, h.len], by rw [List.drop_set, if_pos hi, h.rest], (clampL_set L i m hm).trans h.same⟩
theorem Cl.tag {K L t : List UInt8} (h : Cl K L) : tagL L t = tagL K t := by
  unfold tagL rOf sOf
  rw [h.rest, h.same]

structure Cw (w wr : World) (K : List UInt8) (g : Nat) (L : List UInt8) : Prop where
  cl : Cl K L
  buf : Buf wr g L
  bel : Below w.heap.size w wr
  gt : w.heap.size ≤ g
/-- one bit turned -/
theorem Cw.step {w wr : World} {K L : List UInt8} {g : Nat} (h : Cw w wr K g L) (i : Nat) (m : UInt8) (hi : i < 16) (hm : m &&& keptL.getD i 0 = 0) :
    ∃ x o : Nat, x < 256 ∧ wr.cell? ⟨g, i, none⟩ = some (.int .u8 (x : Int)) ∧ wr.frozen? ⟨g, i, none⟩ = false ∧ bits .xor .u8 (x : Int) (m.toNat : Int) = (o : Int) ∧ ∃ L', Cw w (wr.setCell ⟨g, i, none⟩ (.int .u8 (o : Int))).drew K g L' := by
  have hl : i < L.length := by rw [h.cl.len]; omega
  refine ⟨(L.getD i 0).toNat, (L.getD i 0 ^^^ m).toNat, UInt8.toNat_lt _, h.buf.cell i _ (by rw [List.getD_eq_getElem?_getD, List.getElem?_eq_getElem hl]; rfl), h.buf.frozen i hl, ?_, _, h.cl.put i m hi hm, ?_, ?_, h.gt⟩
  · rw [u8_xor_nat _ _ (UInt8.toNat_lt _) (UInt8.toNat_lt _), UInt8.toNat_xor]
  · exact (h.buf.put i _).kept rfl
  · exact (h.bel.setCell h.gt _).drew

set_option maxRecDepth 20000 in
set_option maxHeartbeats 4000000 in
theorem polyClamps_walk (key text : ByteArray) (bb : Int) (h63 : text.size ≤ 9223372036854775807) (w : World) (hT : KTab w) (h1 : 0 < w.heap.size) :
    Calls Tryd.prog 4 #[.string key, .string text, .int .i64 bb] w fun e w' => e = .returned (.bool true) ∧ Below w.heap.size w w' := by
  have hky := keyed_any key w
  have hkl := keyL_length key.data.toList
  revert hky hkl
  generalize keyL key.data.toList = K
  intro hky hkl
  have HTT : Hid (∀ W, Below w.heap.size w W → KTab W ∧ 0 < W.heap.size) := fun W h => ⟨hT.below h h1, by have := h.size; omega⟩
  have HTG : Hid (∀ W, Below w.heap.size w W → Calls Tryd.prog 12 #[.string (str K), .string text] W fun e w' => e = .returned (.tuple #[.string (str (tagL K text.data.toList)), .int .i64 0]) ∧ Below W.heap.size W w') := fun W hb => by
    have h := tag_yes (str K) text (by rw [str_size, hkl]) h63 W (HTT.out W hb).1 (HTT.out W hb).2
    rw [str_data] at h
    exact h
  have HT1 : Hid (∀ W L, Below w.heap.size w W → Cl K L → Calls Tryd.prog 14 #[.string (str L), .string text, .string (str (tagL K text.data.toList))] W fun e w' => e = .returned (.bool true) ∧ Below W.heap.size W w') := fun W L hb hc =>
    tagged_any _ _ _ (by rw [str_size, hc.len]) h63 W (HTT.out W hb).1 (HTT.out W hb).2 (by rw [str_data, hc.tag])
  have hzt : (str (tagL K text.data.toList)).size = 16 := by rw [str_size, tagL_length]
  have hbyt : ∀ W : World, ∃ v w', (convert 9 34 (.string (str K))).run Tryd.prog W = .ok v w' ∧ RowF w' W.heap.size 5 v (Lib.byteCells K) ∧ Below W.heap.size W w' := fun W => by
    have h := bytes_any (str K) (by rw [str_size, hkl]; unfold maxLen; omega) W
    rw [str_data] at h
    exact h
  clear hT HTT
  revert HTG HT1 hzt hky
  generalize str (tagL K text.data.toList) = yt
  intro hky HTG HT1 hzt
  go_enter Tryd.func4, Tryd.ntmps4
  go_wp2_with fail
  refine hky.mono ?_
  rintro e w1 ⟨rfl, hb1⟩
  clear hky
  obtain ⟨v2, w2, hrun, hrow, hb2'⟩ := hbyt w1
  obtain ⟨g, cap, rfl, hg, hcap, hcm, hbuf⟩ := Buf.of_rowF hrow
  rw [hkl] at hrun
  have hb2 := hb1.trans (hb2'.mono hb1.size)
  have HC0 : Hid (Cw w w2 K g K) := ⟨⟨hkl, rfl, rfl⟩, hbuf, hb2, by have := hb1.size; omega⟩
  have hcap32 : 32 ≤ cap := by omega
  clear hbyt hrow hbuf hb2 hb2' hb1 hg hcap hcm
  go_wp2
  clear hrun
  go_loopg [2, 9] 22 (fun gk bt i wr => ∃ (k : Nat) (z : Int) (L : List UInt8), k + gk = 22 ∧ i = .int .i64 k ∧ bt = .int .i64 z ∧ Cw w wr K g L)
  case atStart => exact ⟨0, bb, K, by omega, rfl, rfl, HC0.out⟩
  case round =>
    clear HC0
    obtain ⟨k, z, L, hkk, rfl, rfl, HS⟩ := hrel
    have HK : Hid (k + gk = 22) := hkk
    have hk' : k ≤ 22 := by omega
    clear hkk
    by_cases hlt : k < 22
    · have hltI : (k : Int) < 22 := by omega
      by_cases hz : z.tmod 2 = 0
      · go_wp2
        go_roundg (gk - 1)
        case measure => have := HK.out; omega
        case rel => exact ⟨k + 1, _, L, by have := HK.out; omega, by go_num, rfl, HS⟩
      · have hcs : k = 0 ∨ k = 1 ∨ k = 2 ∨ k = 3 ∨ k = 4 ∨ k = 5 ∨ k = 6 ∨ k = 7 ∨ k = 8 ∨ k = 9 ∨ k = 10 ∨ k = 11 ∨ k = 12 ∨ k = 13 ∨ k = 14 ∨ k = 15 ∨ k = 16 ∨ k = 17 ∨ k = 18 ∨ k = 19 ∨ k = 20 ∨ k = 21 := by omega
        clear hlt hltI hk'
        rcases hcs with rfl | rfl | rfl | rfl | rfl | rfl | rfl | rfl | rfl | rfl | rfl | rfl | rfl | rfl | rfl | rfl | rfl | rfl | rfl | rfl | rfl | rfl
        · obtain ⟨x, o, hx, c0, f0, hxr, L', HR⟩ := HS.step 3 16 (by omega) (by decide)
          change bits .xor .u8 (x : Int) 16 = (o : Int) at hxr
          clear HS
          go_wp2
          go_region
          refine with_world (R := fun W => Exit.then _ _ _ _ W) (Q := fun W => Cw w W K g L') _ HR ?_
          clear HR c0 f0
          intro w9 HP
          go_wp2
          go_roundg (gk - 1)
          case measure => have := HK.out; omega
          case rel => exact ⟨1, _, L', by have := HK.out; omega, rfl, rfl, HP⟩
        · obtain ⟨x, o, hx, c0, f0, hxr, L', HR⟩ := HS.step 3 32 (by omega) (by decide)
          change bits .xor .u8 (x : Int) 32 = (o : Int) at hxr
          clear HS
          go_wp2
          go_region
          refine with_world (R := fun W => Exit.then _ _ _ _ W) (Q := fun W => Cw w W K g L') _ HR ?_
          clear HR c0 f0
          intro w9 HP
          go_wp2
          go_roundg (gk - 1)
          case measure => have := HK.out; omega
          case rel => exact ⟨2, _, L', by have := HK.out; omega, rfl, rfl, HP⟩
        · obtain ⟨x, o, hx, c0, f0, hxr, L', HR⟩ := HS.step 3 64 (by omega) (by decide)
          change bits .xor .u8 (x : Int) 64 = (o : Int) at hxr
          clear HS
          go_wp2
          go_region
          refine with_world (R := fun W => Exit.then _ _ _ _ W) (Q := fun W => Cw w W K g L') _ HR ?_
          clear HR c0 f0
          intro w9 HP
          go_wp2
          go_roundg (gk - 1)
          case measure => have := HK.out; omega
          case rel => exact ⟨3, _, L', by have := HK.out; omega, rfl, rfl, HP⟩
        · obtain ⟨x, o, hx, c0, f0, hxr, L', HR⟩ := HS.step 3 128 (by omega) (by decide)
          change bits .xor .u8 (x : Int) 128 = (o : Int) at hxr
          clear HS
          go_wp2
          go_region
          refine with_world (R := fun W => Exit.then _ _ _ _ W) (Q := fun W => Cw w W K g L') _ HR ?_
          clear HR c0 f0
          intro w9 HP
          go_wp2
          go_roundg (gk - 1)
          case measure => have := HK.out; omega
          case rel => exact ⟨4, _, L', by have := HK.out; omega, rfl, rfl, HP⟩
        · obtain ⟨x, o, hx, c0, f0, hxr, L', HR⟩ := HS.step 7 16 (by omega) (by decide)
          change bits .xor .u8 (x : Int) 16 = (o : Int) at hxr
          clear HS
          go_wp2
          go_region
          refine with_world (R := fun W => Exit.then _ _ _ _ W) (Q := fun W => Cw w W K g L') _ HR ?_
          clear HR c0 f0
          intro w9 HP
          go_wp2
          go_roundg (gk - 1)
          case measure => have := HK.out; omega
          case rel => exact ⟨5, _, L', by have := HK.out; omega, rfl, rfl, HP⟩
        · obtain ⟨x, o, hx, c0, f0, hxr, L', HR⟩ := HS.step 7 32 (by omega) (by decide)
          change bits .xor .u8 (x : Int) 32 = (o : Int) at hxr
          clear HS
          go_wp2
          go_region
          refine with_world (R := fun W => Exit.then _ _ _ _ W) (Q := fun W => Cw w W K g L') _ HR ?_
          clear HR c0 f0
          intro w9 HP
          go_wp2
          go_roundg (gk - 1)
          case measure => have := HK.out; omega
          case rel => exact ⟨6, _, L', by have := HK.out; omega, rfl, rfl, HP⟩
        · obtain ⟨x, o, hx, c0, f0, hxr, L', HR⟩ := HS.step 7 64 (by omega) (by decide)
          change bits .xor .u8 (x : Int) 64 = (o : Int) at hxr
          clear HS
          go_wp2
          go_region
          refine with_world (R := fun W => Exit.then _ _ _ _ W) (Q := fun W => Cw w W K g L') _ HR ?_
          clear HR c0 f0
          intro w9 HP
          go_wp2
          go_roundg (gk - 1)
          case measure => have := HK.out; omega
          case rel => exact ⟨7, _, L', by have := HK.out; omega, rfl, rfl, HP⟩
        · obtain ⟨x, o, hx, c0, f0, hxr, L', HR⟩ := HS.step 7 128 (by omega) (by decide)
          change bits .xor .u8 (x : Int) 128 = (o : Int) at hxr
          clear HS
          go_wp2
          go_region
          refine with_world (R := fun W => Exit.then _ _ _ _ W) (Q := fun W => Cw w W K g L') _ HR ?_
          clear HR c0 f0
          intro w9 HP
          go_wp2
          go_roundg (gk - 1)
          case measure => have := HK.out; omega
          case rel => exact ⟨8, _, L', by have := HK.out; omega, rfl, rfl, HP⟩
        · obtain ⟨x, o, hx, c0, f0, hxr, L', HR⟩ := HS.step 11 16 (by omega) (by decide)
          change bits .xor .u8 (x : Int) 16 = (o : Int) at hxr
          clear HS
          go_wp2
          go_region
          refine with_world (R := fun W => Exit.then _ _ _ _ W) (Q := fun W => Cw w W K g L') _ HR ?_
          clear HR c0 f0
          intro w9 HP
          go_wp2
          go_roundg (gk - 1)
          case measure => have := HK.out; omega
          case rel => exact ⟨9, _, L', by have := HK.out; omega, rfl, rfl, HP⟩
        · obtain ⟨x, o, hx, c0, f0, hxr, L', HR⟩ := HS.step 11 32 (by omega) (by decide)
          change bits .xor .u8 (x : Int) 32 = (o : Int) at hxr
          clear HS
          go_wp2
          go_region
          refine with_world (R := fun W => Exit.then _ _ _ _ W) (Q := fun W => Cw w W K g L') _ HR ?_
          clear HR c0 f0
          intro w9 HP
          go_wp2
          go_roundg (gk - 1)
          case measure => have := HK.out; omega
          case rel => exact ⟨10, _, L', by have := HK.out; omega, rfl, rfl, HP⟩
        · obtain ⟨x, o, hx, c0, f0, hxr, L', HR⟩ := HS.step 11 64 (by omega) (by decide)
          change bits .xor .u8 (x : Int) 64 = (o : Int) at hxr
          clear HS
          go_wp2
          go_region
          refine with_world (R := fun W => Exit.then _ _ _ _ W) (Q := fun W => Cw w W K g L') _ HR ?_
          clear HR c0 f0
          intro w9 HP
          go_wp2
          go_roundg (gk - 1)
          case measure => have := HK.out; omega
          case rel => exact ⟨11, _, L', by have := HK.out; omega, rfl, rfl, HP⟩
        · obtain ⟨x, o, hx, c0, f0, hxr, L', HR⟩ := HS.step 11 128 (by omega) (by decide)
          change bits .xor .u8 (x : Int) 128 = (o : Int) at hxr
          clear HS
          go_wp2
          go_region
          refine with_world (R := fun W => Exit.then _ _ _ _ W) (Q := fun W => Cw w W K g L') _ HR ?_
          clear HR c0 f0
          intro w9 HP
          go_wp2
          go_roundg (gk - 1)
          case measure => have := HK.out; omega
          case rel => exact ⟨12, _, L', by have := HK.out; omega, rfl, rfl, HP⟩
        · obtain ⟨x, o, hx, c0, f0, hxr, L', HR⟩ := HS.step 15 16 (by omega) (by decide)
          change bits .xor .u8 (x : Int) 16 = (o : Int) at hxr
          clear HS
          go_wp2
          go_region
          refine with_world (R := fun W => Exit.then _ _ _ _ W) (Q := fun W => Cw w W K g L') _ HR ?_
          clear HR c0 f0
          intro w9 HP
          go_wp2
          go_roundg (gk - 1)
          case measure => have := HK.out; omega
          case rel => exact ⟨13, _, L', by have := HK.out; omega, rfl, rfl, HP⟩
        · obtain ⟨x, o, hx, c0, f0, hxr, L', HR⟩ := HS.step 15 32 (by omega) (by decide)
          change bits .xor .u8 (x : Int) 32 = (o : Int) at hxr
          clear HS
          go_wp2
          go_region
          refine with_world (R := fun W => Exit.then _ _ _ _ W) (Q := fun W => Cw w W K g L') _ HR ?_
          clear HR c0 f0
          intro w9 HP
          go_wp2
          go_roundg (gk - 1)
          case measure => have := HK.out; omega
          case rel => exact ⟨14, _, L', by have := HK.out; omega, rfl, rfl, HP⟩
        · obtain ⟨x, o, hx, c0, f0, hxr, L', HR⟩ := HS.step 15 64 (by omega) (by decide)
          change bits .xor .u8 (x : Int) 64 = (o : Int) at hxr
          clear HS
          go_wp2
          go_region
          refine with_world (R := fun W => Exit.then _ _ _ _ W) (Q := fun W => Cw w W K g L') _ HR ?_
          clear HR c0 f0
          intro w9 HP
          go_wp2
          go_roundg (gk - 1)
          case measure => have := HK.out; omega
          case rel => exact ⟨15, _, L', by have := HK.out; omega, rfl, rfl, HP⟩
        · obtain ⟨x, o, hx, c0, f0, hxr, L', HR⟩ := HS.step 15 128 (by omega) (by decide)
          change bits .xor .u8 (x : Int) 128 = (o : Int) at hxr
          clear HS
          go_wp2
          go_region
          refine with_world (R := fun W => Exit.then _ _ _ _ W) (Q := fun W => Cw w W K g L') _ HR ?_
          clear HR c0 f0
          intro w9 HP
          go_wp2
          go_roundg (gk - 1)
          case measure => have := HK.out; omega
          case rel => exact ⟨16, _, L', by have := HK.out; omega, rfl, rfl, HP⟩
        · obtain ⟨x, o, hx, c0, f0, hxr, L', HR⟩ := HS.step 4 1 (by omega) (by decide)
          change bits .xor .u8 (x : Int) 1 = (o : Int) at hxr
          clear HS
          go_wp2
          go_region
          refine with_world (R := fun W => Exit.then _ _ _ _ W) (Q := fun W => Cw w W K g L') _ HR ?_
          clear HR c0 f0
          intro w9 HP
          go_wp2
          go_roundg (gk - 1)
          case measure => have := HK.out; omega
          case rel => exact ⟨17, _, L', by have := HK.out; omega, rfl, rfl, HP⟩
        · obtain ⟨x, o, hx, c0, f0, hxr, L', HR⟩ := HS.step 4 2 (by omega) (by decide)
          change bits .xor .u8 (x : Int) 2 = (o : Int) at hxr
          clear HS
          go_wp2
          go_region
          refine with_world (R := fun W => Exit.then _ _ _ _ W) (Q := fun W => Cw w W K g L') _ HR ?_
          clear HR c0 f0
          intro w9 HP
          go_wp2
          go_roundg (gk - 1)
          case measure => have := HK.out; omega
          case rel => exact ⟨18, _, L', by have := HK.out; omega, rfl, rfl, HP⟩
        · obtain ⟨x, o, hx, c0, f0, hxr, L', HR⟩ := HS.step 8 1 (by omega) (by decide)
          change bits .xor .u8 (x : Int) 1 = (o : Int) at hxr
          clear HS
          go_wp2
          go_region
          refine with_world (R := fun W => Exit.then _ _ _ _ W) (Q := fun W => Cw w W K g L') _ HR ?_
          clear HR c0 f0
          intro w9 HP
          go_wp2
          go_roundg (gk - 1)
          case measure => have := HK.out; omega
          case rel => exact ⟨19, _, L', by have := HK.out; omega, rfl, rfl, HP⟩
        · obtain ⟨x, o, hx, c0, f0, hxr, L', HR⟩ := HS.step 8 2 (by omega) (by decide)
          change bits .xor .u8 (x : Int) 2 = (o : Int) at hxr
          clear HS
          go_wp2
          go_region
          refine with_world (R := fun W => Exit.then _ _ _ _ W) (Q := fun W => Cw w W K g L') _ HR ?_
          clear HR c0 f0
          intro w9 HP
          go_wp2
          go_roundg (gk - 1)
          case measure => have := HK.out; omega
          case rel => exact ⟨20, _, L', by have := HK.out; omega, rfl, rfl, HP⟩
        · obtain ⟨x, o, hx, c0, f0, hxr, L', HR⟩ := HS.step 12 1 (by omega) (by decide)
          change bits .xor .u8 (x : Int) 1 = (o : Int) at hxr
          clear HS
          go_wp2
          go_region
          refine with_world (R := fun W => Exit.then _ _ _ _ W) (Q := fun W => Cw w W K g L') _ HR ?_
          clear HR c0 f0
          intro w9 HP
          go_wp2
          go_roundg (gk - 1)
          case measure => have := HK.out; omega
          case rel => exact ⟨21, _, L', by have := HK.out; omega, rfl, rfl, HP⟩
        · obtain ⟨x, o, hx, c0, f0, hxr, L', HR⟩ := HS.step 12 2 (by omega) (by decide)
          change bits .xor .u8 (x : Int) 2 = (o : Int) at hxr
          clear HS
          go_wp2
          go_region
          refine with_world (R := fun W => Exit.then _ _ _ _ W) (Q := fun W => Cw w W K g L') _ HR ?_
          clear HR c0 f0
          intro w9 HP
          go_wp2
          go_roundg (gk - 1)
          case measure => have := HK.out; omega
          case rel => exact ⟨22, _, L', by have := HK.out; omega, rfl, rfl, HP⟩
    · obtain rfl : k = 22 := by omega
      have htg := HTG.out wr HS.bel
      clear HTG
      go_wp2_with fail
      refine htg.mono ?_
      rintro e w3 ⟨rfl, hb3'⟩
      have hb3 := HS.bel.trans (hb3'.mono HS.bel.size)
      have hbuf := HS.buf.kept (hb3'.block g HS.buf.lt)
      have hcv := hbuf.text (P := Tryd.prog) 34 9 cap Tryd.underlying34 Tryd.underlying5 Tryd.underlying9
      rw [HS.cl.len] at hcv
      have ht1 := HT1.out w3 L hb3 HS.cl
      clear hb3' hbuf HS htg HK HT1
      go_wp2_with (go_at_call 10; refine (num_any _ _).mono ?_; rintro e w4 ⟨rfl, rfl⟩)
      refine ht1.mono ?_
      rintro e w5 ⟨rfl, hb5'⟩
      have hb5 := hb3.trans (hb5'.mono hb3.size)
      clear hb5' hcv
      go_wp2
      go_ret
      exact ⟨by simp, hb5⟩

end Go.Proofs.YtggfeppphhigdaaDoor
