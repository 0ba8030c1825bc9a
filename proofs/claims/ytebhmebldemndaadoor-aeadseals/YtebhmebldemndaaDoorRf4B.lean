import Derived.Test.YtebhmebldemndaaDoorRf4A
namespace Go.Proofs.YtebhmebldemndaaDoor.Cha
open Go.RowKit Go.Lib Go.Deep

theorem bytes4_rem (x : Nat) : byteCells (bytes4 x) = [.int .u8 ((x : Int) % 256), .int .u8 ((x : Int) / 256 % 256), .int .u8 ((x : Int) / 65536 % 256), .int .u8 ((x : Int) / 16777216 % 256)] := by
  have e : byteCells (bytes4 x) = [.int .u8 ((byteAt x 0).toNat : Int), .int .u8 ((byteAt x 1).toNat : Int), .int .u8 ((byteAt x 2).toNat : Int), .int .u8 ((byteAt x 3).toNat : Int)] := rfl
  rw [e, byteAt_toNat, byteAt_toNat, byteAt_toNat, byteAt_toNat]
  simp

set_option maxRecDepth 20000 in
set_option maxHeartbeats 1000000 in
theorem bytesOf_any (ws : List Nat) (hlt : ∀ x ∈ ws, x < 4294967296) (hl : ws.length ≤ 16) (b cap : Nat) (w : World) (hb : b < w.heap.size) (hc : w.rangeAt b 0 (i64L ws)) :
    Calls Tryd.prog 68 #[.slice (some ⟨b, 0, none⟩) ws.length cap] w fun e w' => e = .returned (.string (str (textL ws))) ∧ Below w.heap.size w w' := by
  obtain ⟨i0, hi, hz0, hz1, hz2⟩ := info_parts info5
  go_enter Tryd.func68, Tryd.ntmps68
  go_wp2
  go_loopg [3, 4] ws.length (fun gk v i wr => ∃ k : Nat, k + gk = ws.length ∧ i = .int .i64 k ∧ wr.ownsRow w.heap.size 5 1 v (textL (ws.take k)).length (byteCells (textL (ws.take k))) ∧ Below w.heap.size w wr)
  case atStart => exact ⟨0, by omega, rfl, World.ownsRow_nil _ _ _ _, Below.refl _ _⟩
  case round =>
    obtain ⟨k, hk, rfl, hown, hbel⟩ := hrel
    have HK : Hid (k + gk = ws.length) := hk
    have hk' : k ≤ ws.length := by omega
    clear hk
    by_cases hkl : k < ws.length
    · have hkI : (k : Int) < (ws.length : Int) := by omega
      obtain ⟨x, hx⟩ : ∃ x, ws[k]? = some x := ⟨_, List.getElem?_eq_getElem hkl⟩
      have hxl := hlt x (List.mem_of_getElem? hx)
      have hcell : wr.cell? ⟨b, k, none⟩ = some (.int .i64 (x : Int)) := by
        rw [hbel.cell (p := ⟨b, k, none⟩) hb]
        have := hc k (.int .i64 (x : Int)) (by simp [i64L, hx])
        simpa using this
      have HS : Hid (byteCells (textL (ws.take (k + 1))) = byteCells (textL (ws.take k)) ++ [.int .u8 ((x : Int) % 256), .int .u8 ((x : Int) / 256 % 256), .int .u8 ((x : Int) / 65536 % 256), .int .u8 ((x : Int) / 16777216 % 256)]) := by
        show _ = _
        rw [textL_take ws k x hx, byteCells_append, bytes4_rem x]
      have HL : Hid ((textL (ws.take (k + 1))).length = (textL (ws.take k)).length + 4) := by
        show _ = _
        rw [textL_take ws k x hx, List.length_append]
        rfl
      have hlen : (textL (ws.take k)).length ≤ 64 := by rw [textL_length, List.length_take]; omega
      have hml : (textL (ws.take k)).length + 4 ≤ maxLen := by unfold maxLen; omega
      have hone : ∀ u ∈ [Value.int .u8 ((x : Int) % 256), .int .u8 ((x : Int) / 256 % 256), .int .u8 ((x : Int) / 65536 % 256), .int .u8 ((x : Int) / 16777216 % 256)], u.oneCell' = true := by
        rw [← bytes4_rem x]
        exact byteCells_one _
      clear hx
      revert hown HS HL hlen hml
      generalize (textL (ws.take k)).length = m
      generalize byteCells (textL (ws.take k)) = cs
      intro hown HS HL hlen hml
      go_wp2_with (at_builtin; refine wpList_append_own _ rfl _ _ 40 rfl w.heap.size 5 i0 (.int .u8 0) 1 1 Tryd.underlying40 hi hz0 hz1 hz2 rfl (by decide) _ _ _ rfl (hown.alloc _) ⟨wr.heap.size, 0, none⟩ 4 4 [.int .u8 ((x : Int) % 256), .int .u8 ((x : Int) / 256 % 256), .int .u8 ((x : Int) / 65536 % 256), .int .u8 ((x : Int) / 16777216 % 256)] rfl rfl (by intro j u h; exact cells_new wr #[.int .u8 ((x : Int) % 256), .int .u8 ((x : Int) / 256 % 256), .int .u8 ((x : Int) / 65536 % 256), .int .u8 ((x : Int) / 16777216 % 256)] 5 j u (by simpa using h)) hone hml (by omega) (by have := hbel.size; simp; omega) ?_; intro v' w' hown' hgrow' _)
      have R : w'.ownsRow w.heap.size 5 1 v' (textL (ws.take (k + 1))).length (byteCells (textL (ws.take (k + 1)))) := by rw [HS.out, HL.out]; exact hown'
      have hb' : Below w.heap.size w w' := by
        have h1 := hbel.alloc hbel.size (.cells #[.int .u8 ((x : Int) % 256), .int .u8 ((x : Int) / 256 % 256), .int .u8 ((x : Int) / 65536 % 256), .int .u8 ((x : Int) / 16777216 % 256)] 5)
        exact h1.trans (grown_below hgrow' h1.size (hown.alloc _))
      clear hown' hgrow' hown
      go_wp2
      go_roundg (gk - 1)
      case measure => have := HK.out; omega
      case rel => exact ⟨k + 1, by have := HK.out; omega, by go_num, R, hb'⟩
    · have hkI : ¬ (k : Int) < (ws.length : Int) := by omega
      obtain rfl : k = ws.length := by omega
      rw [List.take_length] at hown
      have hcv := convert_own (P := Tryd.prog) wr 40 9 5 w.heap.size _ (textL ws) Tryd.underlying40 Tryd.underlying5 Tryd.underlying9 hown
      clear hown
      go_wp2
      go_ret
      exact ⟨rfl, hbel⟩

end Go.Proofs.YtebhmebldemndaaDoor.Cha
