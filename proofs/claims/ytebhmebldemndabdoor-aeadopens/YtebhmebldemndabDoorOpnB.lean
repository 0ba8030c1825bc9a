import Derived.Test.YtebhmebldemndabDoorOpnA
import Derived.Test.YtebhmebldemndabDoorBaseM
import Derived.Laws.BitsAll
namespace Go.Proofs.YtebhmebldemndabDoor.Ae
open Go.RowKit Go.Lib Go.Deep
open Cha (PTabs)

theorem sealY_size {key nonce aad plain : ByteArray} (h : sealE key nonce aad plain = 0) : 16 ≤ (sealY key nonce aad plain).size ∧ (sealY key nonce aad plain).size ≤ 1048592 := by
  have hp : plain.size ≤ 1048576 := by
    apply Decidable.byContradiction
    intro hn
    unfold sealE at h
    split at h
    · next h1 => exact h1 h
    · rw [if_pos (by omega)] at h
      cases h
  unfold sealY
  rw [if_pos h, str_size, sealL_length, ← size_eq]
  omega

set_option maxRecDepth 20000 in
set_option maxHeartbeats 2000000 in
/-- AeadOpens where the box is sealed, and a byte of that is changed -/
theorem aeadOpens_yes (hO : OpenC) (key nonce aad box : ByteArray) (at' by' : Int) (w : World) (b0 : key.size ≤ 140737488351232) (b1 : nonce.size ≤ 140737488351232) (b2 : aad.size ≤ 140737488351232) (b3 : box.size ≤ 140737488351232) (hT : ATabs w) (hP : PTabs w) (h0 : sealE key nonce aad box = 0) :
    Calls Tryd.prog 3 #[.string key, .string nonce, .string aad, .string box, .int .i64 at', .int .i64 by'] w fun e w' => e = .returned (.bool true) ∧ Below w.heap.size w w' := by
  have h1 := hO key nonce aad box w (by omega) (by omega) (by omega) (by omega) hT
  have h2 := fun W (k1 : PTabs W) (k2 : 4 ≤ W.heap.size) => ropen_any key nonce aad box (by omega) (by omega) W k1 k2
  have h5 := fun W (k1 : PTabs W) (k2 : 4 ≤ W.heap.size) => rseal_any key nonce aad box (by omega) (by omega) W k1 k2
  obtain ⟨hz1, hz2⟩ := sealY_size h0
  rw [h0] at h5
  have HO : Hid (∀ x : ByteArray, x.size ≤ 1048592 → ∃ Y E, (∀ W, Below w.heap.size w W → Calls Tryd.prog 4 #[.string key, .string nonce, .string aad, .string x] W fun e w' => e = .returned (.tuple #[.string Y, .int .i64 E]) ∧ Below W.heap.size W w') ∧ (∀ W, Below w.heap.size w W → Calls Tryd.prog 5 #[.string key, .string nonce, .string aad, .string x] W fun e w' => e = .returned (.tuple #[.string Y, .int .i64 E]) ∧ Below W.heap.size W w')) := fun x hx =>
    ⟨openY key nonce aad x, openE key nonce aad x, fun W hb => hO key nonce aad x W (by omega) (by omega) (by omega) (by omega) (hT.below hb), fun W hb => ropen_any key nonce aad x (by omega) (by omega) W (hP.below hb hT.s) (by have := hb.size; have := hT.s; omega)⟩
  have h4 := hT.s
  clear hO hT h0
  generalize openY key nonce aad box = Y at h1 h2
  generalize openE key nonce aad box = E at h1 h2
  generalize sealY key nonce aad box = Z at h5 hz1 hz2
  have hZl : Z.data.toList.length = Z.size := (size_eq Z).symm
  obtain ⟨n, hn⟩ : ∃ n, Z.size = n := ⟨_, rfl⟩
  rw [hn] at hz1 hz2 hZl
  have hbyt : ∀ W : World, ∃ v w', (convert 9 28 (.string Z)).run Tryd.prog W = .ok v w' ∧ RowF w' W.heap.size 5 v (Lib.byteCells Z.data.toList) ∧ Below W.heap.size W w' := fun W => bytes_any Z (by rw [hn]; unfold maxLen; omega) W
  have hpos : (0 : Int) < (n : Int) := by omega
  have hne : ¬ (n : Int) = 0 := by omega
  have hq1 : at'.tmod (n : Int) < (n : Int) := Int.tmod_lt_of_pos at' hpos
  have hq2 : -(n : Int) < at'.tmod (n : Int) := by
    have h := Int.tmod_lt_of_pos (-at') hpos
    rw [Int.neg_tmod] at h
    omega
  generalize hq : at'.tmod (n : Int) = q at *
  obtain ⟨i, hi⟩ : ∃ i : Nat, (q + (n : Int)) % (n : Int) = (i : Int) := ⟨((q + (n : Int)) % (n : Int)).toNat, (Int.toNat_of_nonneg (Int.emod_nonneg _ hne)).symm⟩
  have hit : (q + (n : Int)).tmod (n : Int) = (i : Int) := by rw [Int.tmod_eq_emod_of_nonneg (by omega)]; exact hi
  have hil : i < n := by
    have := Int.emod_lt_of_pos (q + (n : Int)) hpos
    omega
  have hilI : (i : Int) < (n : Int) := by omega
  have hwq : IntKind.i64.wrap (q + (n : Int)) = q + (n : Int) := by rw [IntKind.wrap_i64]; omega
  have hwq2 : wrap64 (q + (n : Int)) = q + (n : Int) := by unfold wrap64; omega
  clear hi
  go_enter Tryd.func3, Tryd.ntmps3
  go_wp2_with fail
  refine h1.mono ?_
  rintro e w1 ⟨rfl, hb1⟩
  have z1 := hb1.size
  have h3 := h2 w1 (hP.below hb1 h4) (by omega)
  go_wp2_with fail
  refine h3.mono ?_
  rintro e w2 ⟨rfl, hb2⟩
  have hb := hb1.trans (hb2.mono z1)
  have z2 := hb.size
  have h6 := h5 w2 (hP.below hb h4) (by omega)
  go_wp2_with (go_at_call 6; refine (lnum_any _ _).mono ?_; rintro e w' ⟨rfl, rfl⟩)
  refine h6.mono ?_
  rintro e w3 ⟨rfl, hb3'⟩
  have hb3 := hb.trans (hb3'.mono z2)
  clear h6 hb3' hb h3 hb1 hb2 h1 h2 h5 hP z1 z2
  obtain ⟨v4, w4, hrun, hrow, hb4'⟩ := hbyt w3
  obtain ⟨g, cap, rfl, hg, hcap, hcm, hbuf⟩ := Buf.of_rowF hrow
  rw [hZl] at hrun hcap
  have hb4 := hb3.trans (hb4'.mono hb3.size)
  have hgw : w.heap.size ≤ g := by have := hb3.size; omega
  clear hbyt hrow hb4' hb3 hg
  obtain ⟨x, hx⟩ : ∃ x, Z.data.toList[i]? = some x := ⟨_, List.getElem?_eq_getElem (by omega)⟩
  have c0 := hbuf.cell i x hx
  have f0 := hbuf.frozen i (by omega)
  obtain ⟨m, hm⟩ : ∃ m : Nat, by' % 256 = (m : Int) := ⟨(by' % 256).toNat, by omega⟩
  have hml : m < 256 := by omega
  have hmw : IntKind.u8.wrap by' = (m : Int) := by rw [IntKind.wrap_u8]; exact hm
  have hmn : (UInt8.ofNat m).toNat = m := by rw [UInt8.toNat_ofNat']; omega
  have hxor : bits .xor .u8 (x.toNat : Int) (m : Int) = ((x ^^^ UInt8.ofNat m).toNat : Int) := by
    have h := u8_xor_nat x.toNat m x.toNat_lt (by omega)
    rw [show x.toNat ^^^ m = (x ^^^ UInt8.ofNat m).toNat by rw [UInt8.toNat_xor, hmn]] at h
    exact h
  have hxl : x.toNat < 256 := x.toNat_lt
  generalize x ^^^ UInt8.ofNat m = xo at hxor
  have hbuf5 := hbuf.put i xo
  have hb5 := hb4.setCell (p := ⟨g, i, none⟩) hgw (.int .u8 (xo.toNat : Int))
  have hlen : (Z.data.toList.set i xo).length = n := by rw [List.length_set]; exact hZl
  generalize Z.data.toList.set i xo = L at hbuf5 hlen
  have hxol : xo.toNat < 256 := xo.toNat_lt
  generalize xo.toNat = xon at hxor hbuf5 hb5 hxol
  generalize x.toNat = xn at c0 hxor hxl
  clear hbuf hx hmn hb4 hZl
  obtain ⟨Y2, E2, ho2, hr2⟩ := HO.out (str L) (by rw [str_size, hlen]; exact hz2)
  have HS : Hid (∀ W, Buf W g L → (convert 28 9 (.slice (some ⟨g, 0, none⟩) n cap)).run Tryd.prog W = .ok (.string (str L)) W) := fun W h => by
    have h1 := h.text (P := Tryd.prog) 28 9 cap Tryd.underlying28 Tryd.underlying5 Tryd.underlying9
    rw [hlen] at h1
    exact h1
  generalize str L = bx at ho2 hr2 HS
  go_upto_region 11 with fail
  clear c0 f0 hrun hxor hmw hm
  revert hbuf5 hb5
  generalize w4.setCell ⟨g, i, none⟩ (.int .u8 (xon : Int)) = w5
  intro hbuf5 hb5
  have hcv := HS.out w5 hbuf5
  have ho := ho2 w5 hb5
  go_wp2_with fail
  refine ho.mono ?_
  rintro e w6 ⟨rfl, hb6'⟩
  have hbuf6 := hbuf5.kept (hb6'.block g hbuf5.lt)
  have hb6 := hb5.trans (hb6'.mono hb5.size)
  clear hcv ho hbuf5 hb5 hb6'
  have hcv := HS.out w6 hbuf6
  have ho := hr2 w6 hb6
  go_wp2_with fail
  refine ho.mono ?_
  rintro e w7 ⟨rfl, hb7'⟩
  have hb7 := hb6.trans (hb7'.mono hb6.size)
  clear hcv ho hbuf6 hb6 hb7'
  go_wp2_with (go_at_call 6; refine (lnum_any _ _).mono ?_; rintro e w' ⟨rfl, rfl⟩)
  go_ret
  exact ⟨rfl, hb7⟩

theorem aeadOpens_walk (hO : OpenC) (key nonce aad box : ByteArray) (at' by' : Int) (w : World) (b0 : key.size ≤ 140737488351232) (b1 : nonce.size ≤ 140737488351232) (b2 : aad.size ≤ 140737488351232) (b3 : box.size ≤ 140737488351232) (hT : ATabs w) (hP : PTabs w) :
    Calls Tryd.prog 3 #[.string key, .string nonce, .string aad, .string box, .int .i64 at', .int .i64 by'] w fun e w' => e = .returned (.bool true) ∧ Below w.heap.size w w' := by
  by_cases h0 : sealE key nonce aad box = 0
  · exact aeadOpens_yes hO key nonce aad box at' by' w b0 b1 b2 b3 hT hP h0
  · exact aeadOpens_no hO key nonce aad box at' by' w b0 b1 b2 b3 hT hP h0

end Go.Proofs.YtebhmebldemndabDoor.Ae
