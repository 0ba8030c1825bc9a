import Derived.Test.YtjcmpfnndjlpkabDoorChaE
import Derived.Test.YtjcmpfnndjlpkabDoorInfoA
namespace Go.Proofs.YtjcmpfnndjlpkabDoor
open Go.RowKit Go.Lib Go.Deep

theorem bytes4_cells (x : Nat) (hx : x < 4294967296) : byteCells (bytes4 x) = [.int .u8 ((x : Int) % 256), .int .u8 ((x : Int) / 256 % 256), .int .u8 ((x : Int) / 65536 % 256), .int .u8 ((x : Int) / 16777216)] := by
  have e : byteCells (bytes4 x) = [.int .u8 ((byteAt x 0).toNat : Int), .int .u8 ((byteAt x 1).toNat : Int), .int .u8 ((byteAt x 2).toNat : Int), .int .u8 ((byteAt x 3).toNat : Int)] := rfl
  rw [e, byteAt_toNat, byteAt_toNat, byteAt_toNat, byteAt_toNat]
  have h3 : x / 16777216 % 256 = x / 16777216 := Nat.mod_eq_of_lt (by omega)
  simp [h3]

theorem byteCells_one (l : List UInt8) : ∀ v ∈ byteCells l, v.oneCell' = true := by
  intro v hv
  obtain ⟨n, _, rfl⟩ := List.mem_map.1 hv
  rfl

theorem textL_take (ws : List Nat) (k x : Nat) (h : ws[k]? = some x) : textL (ws.take (k + 1)) = textL (ws.take k) ++ bytes4 x := by
  rw [List.take_add_one, h, textL_append]
  simp [textL]

set_option maxRecDepth 20000 in
set_option maxHeartbeats 1000000 in
theorem textOf_any (ws : List Nat) (hlt : ∀ x ∈ ws, x < 4294967296) (hl : ws.length ≤ 16) (b cap : Nat) (w : World) (hb : b < w.heap.size) (hc : w.rangeAt b 0 (u32L ws)) :
    Calls Tryd.prog 32 #[.slice (some ⟨b, 0, none⟩) ws.length cap] w fun e w' => e = .returned (.string (str (textL ws))) ∧ Below w.heap.size w w' := by
  obtain ⟨i0, hi, hz0, hz1, hz2⟩ := info_parts info5
  go_enter Tryd.func32, Tryd.ntmps32
  go_wp2_with (at_make; refine wpList_make_own _ rfl _ _ 40 rfl w.heap.size 5 i0 (.int .u8 0) 1 Tryd.underlying40 hi hz0 hz1 .i64 .i64 64 64 rfl rfl rfl (by rw [hz2]; omega) (by unfold maxLen; omega) (Nat.le_refl _) ?_; intro w1 hown1 hg1)
  have hb1 : Below w.heap.size w w1 := Below.grown (Below.refl _ _) hg1 (Nat.le_refl _) (by simp)
  go_loopg [3, 9] ws.length (fun gk v i wr => ∃ k : Nat, k + gk = ws.length ∧ i = .int .i64 k ∧ wr.ownsRow w.heap.size 5 1 v (textL (ws.take k)).length (byteCells (textL (ws.take k))) ∧ Below w.heap.size w wr)
  case atStart => exact ⟨0, by omega, rfl, hown1, hb1⟩
  case round =>
    clear hown1 hb1 hg1
    obtain ⟨k, hk, rfl, hown, hbel⟩ := hrel
    have HK : Hid (k + gk = ws.length) := hk
    have hk' : k ≤ ws.length := by omega
    clear hk
    by_cases hkl : k < ws.length
    · have hkI : (k : Int) < (ws.length : Int) := by omega
      obtain ⟨x, hx⟩ : ∃ x, ws[k]? = some x := ⟨_, List.getElem?_eq_getElem hkl⟩
      have hxl := hlt x (List.mem_of_getElem? hx)
      have hcell : wr.cell? ⟨b, k, none⟩ = some (.int .u32 (x : Int)) := by
        rw [hbel.cell (p := ⟨b, k, none⟩) hb]
        have := hc k (.int .u32 (x : Int)) (by simp [u32L, hx])
        simpa using this
      have HS : Hid (byteCells (textL (ws.take (k + 1))) = byteCells (textL (ws.take k)) ++ [.int .u8 ((x : Int) % 256), .int .u8 ((x : Int) / 256 % 256), .int .u8 ((x : Int) / 65536 % 256), .int .u8 ((x : Int) / 16777216)]) := by
        show _ = _
        rw [textL_take ws k x hx, byteCells_append, bytes4_cells x hxl]
      have HL : Hid ((textL (ws.take (k + 1))).length = (textL (ws.take k)).length + 4) := by
        show _ = _
        rw [textL_take ws k x hx, List.length_append]
        rfl
      have hlen : (textL (ws.take k)).length ≤ 64 := by rw [textL_length, List.length_take]; omega
      have hml : (textL (ws.take k)).length + 4 ≤ maxLen := by unfold maxLen; omega
      have hone : ∀ u ∈ [Value.int .u8 ((x : Int) % 256), .int .u8 ((x : Int) / 256 % 256), .int .u8 ((x : Int) / 65536 % 256), .int .u8 ((x : Int) / 16777216)], u.oneCell' = true := by
        rw [← bytes4_cells x hxl]
        exact byteCells_one _
      clear hx
      revert hown HS HL hlen hml
      generalize (textL (ws.take k)).length = m
      generalize byteCells (textL (ws.take k)) = cs
      intro hown HS HL hlen hml
      go_wp2_with (at_builtin; refine wpList_append_own _ rfl _ _ 40 rfl w.heap.size 5 i0 (.int .u8 0) 1 1 Tryd.underlying40 hi hz0 hz1 hz2 rfl (by decide) _ _ _ rfl (hown.alloc _) ⟨wr.heap.size, 0, none⟩ 4 4 [.int .u8 ((x : Int) % 256), .int .u8 ((x : Int) / 256 % 256), .int .u8 ((x : Int) / 65536 % 256), .int .u8 ((x : Int) / 16777216)] rfl rfl (by intro j u h; exact cells_new wr #[.int .u8 ((x : Int) % 256), .int .u8 ((x : Int) / 256 % 256), .int .u8 ((x : Int) / 65536 % 256), .int .u8 ((x : Int) / 16777216)] 5 j u (by simpa using h)) hone hml (by omega) (by have := hbel.size; simp; omega) ?_; intro v' w' hown' hgrow' _)
      have R : w'.ownsRow w.heap.size 5 1 v' (textL (ws.take (k + 1))).length (byteCells (textL (ws.take (k + 1)))) := by rw [HS.out, HL.out]; exact hown'
      have hb' : Below w.heap.size w w' := by
        have h1 := hbel.alloc hbel.size (.cells #[.int .u8 ((x : Int) % 256), .int .u8 ((x : Int) / 256 % 256), .int .u8 ((x : Int) / 65536 % 256), .int .u8 ((x : Int) / 16777216)] 5)
        exact h1.trans (grown_below hgrow' h1.size (hown.alloc _))
      clear hown' hgrow' hown
      go_wp2
      go_roundg (gk - 1)
      case measure => have := HK.out; omega
      case rel => exact ⟨k + 1, by have := HK.out; omega, by go_num, R, hb'⟩
    · have hkI : ¬ (k : Int) < (ws.length : Int) := by omega
      obtain rfl : k = ws.length := by omega
      rw [List.take_length] at hown
      have hcv := convert_own (P := Tryd.prog) wr 40 9 5 w.heap.size _ (textL ws) Tryd.underlying40 Tryd.underlying5 Tryd.underlying9 hown
      clear hown
      go_wp2
      go_ret
      exact ⟨rfl, hbel⟩

end Go.Proofs.YtjcmpfnndjlpkabDoor
