import Derived.Test.YtjjabkimmgcejaaDoorShaL
namespace Go.Proofs.YtjjabkimmgcejaaDoor
open Go.RowKit Go.Lib Go.Deep

/-- the sum of a text -/
def shaL (l : List UInt8) : List UInt8 := wtext (eat first (l ++ endL l.length)).1
theorem shaL_eat (l : List UInt8) : sumB (eat first l).1 (eat first l).2 l.length = shaL l := by
  unfold sumB shaL
  rw [eat_append first l (endL l.length)]

def joinL (ss : List ByteArray) : List UInt8 := (ss.map fun s => s.data.toList).flatten
theorem joinL_take (ss : List ByteArray) (k : Nat) (s : ByteArray) (h : ss[k]? = some s) : joinL (ss.take (k + 1)) = joinL (ss.take k) ++ s.data.toList := by
  unfold joinL
  rw [List.take_add_one, h]
  simp
theorem joinL_le (ss : List ByteArray) (k : Nat) : (joinL (ss.take k)).length ≤ (joinL ss).length := by
  have h : joinL ss = joinL (ss.take k) ++ joinL (ss.drop k) := by
    unfold joinL
    rw [← List.flatten_append, ← List.map_append, List.take_append_drop]
  rw [h, List.length_append]
  omega

/-- what Sum holds -/
structure Sm (w : World) (J : List UInt8) (wr : World) : Prop where
  hs : Hs wr w.heap.size (eat first J).1 (eat first J).2 J.length
  bel : Below w.heap.size w wr
  tabs : Tabs wr

set_option maxRecDepth 20000 in
set_option maxHeartbeats 1000000 in
theorem sum_some (w : World) (ht : Tabs w) (h4 : 4 ≤ w.heap.size) (b off len cap : Nat) (ss : List ByteArray) (hl : ss.length = len) (hlc : len ≤ 9223372036854775807) (hb : b < w.heap.size)
    (hc : ∀ i s, ss[i]? = some s → w.cell? ⟨b, off + i, none⟩ = some (.string s)) (hJ : (joinL ss).length < 576460752303423488) :
    Calls Tryd.prog 10 #[.slice (some ⟨b, off, none⟩) len cap] w fun e w' => e = .returned (.string (str (shaL (joinL ss)))) ∧ Below w.heap.size w w' := by
  go_enter Tryd.func10, Tryd.ntmps10
  go_wp2_with (go_at_call 32; refine (new_any w ht h4).mono ?_; rintro e w1 ⟨rfl, hs1, hb1, hz1, ht1⟩)
  have HS : Sm w [] w1 := ⟨hs1, hb1, ht1⟩
  clear hs1 hb1 hz1 ht1
  go_loopg [9] len (fun gk i wr => ∃ k : Nat, k + gk = len ∧ i = .int .i64 k ∧ Sm w (joinL (ss.take k)) wr)
  case atStart => exact ⟨0, by omega, rfl, HS⟩
  case round =>
    clear HS
    obtain ⟨k, hk, rfl, HS⟩ := hrel
    have HK : Hid (k + gk = len) := hk
    have hk' : k ≤ len := by omega
    clear hk
    by_cases hlt : k < len
    · obtain ⟨s, hs⟩ : ∃ s, ss[k]? = some s := ⟨_, List.getElem?_eq_getElem (by omega)⟩
      have hcell : wr.cell? ⟨b, off + k, none⟩ = some (.string s) := by
        rw [HS.bel.cell (p := ⟨b, off + k, none⟩) hb]
        exact hc k s hs
      have hj := joinL_take ss k s hs
      have hle := joinL_le ss (k + 1)
      rw [hj, List.length_append, ← size_eq] at hle
      have htk := take_any w.heap.size _ _ _ s wr HS.hs HS.tabs (by omega)
      have HR : Hid (∀ w' : World, Hs w' w.heap.size (eat (eat first (joinL (ss.take k))).1 ((eat first (joinL (ss.take k))).2 ++ s.data.toList)).1 (eat (eat first (joinL (ss.take k))).1 ((eat first (joinL (ss.take k))).2 ++ s.data.toList)).2 ((joinL (ss.take k)).length + s.size) → Only [w.heap.size] wr w' → Tabs w' → Sm w (joinL (ss.take (k + 1))) w') := by
        intro w' h1 h2 h3
        rw [← eat_append, ← hj] at h1
        refine ⟨?_, HS.bel.trans (h2.below HS.bel.size (by simp)), h3⟩
        have e : (joinL (ss.take (k + 1))).length = (joinL (ss.take k)).length + s.size := by rw [hj, List.length_append, ← size_eq]
        rw [e]
        exact h1
      clear HS hj hle
      go_wp2_with (go_at_call 33; refine htk.mono ?_; rintro e w2 ⟨rfl, r1, r2, r3⟩)
      have R := HR.out _ r1 r2 r3
      clear r1 r2 r3 HR htk hcell
      go_roundg (gk - 1)
      case measure => have := HK.out; omega
      case rel => exact ⟨k + 1, by have := HK.out; omega, by go_num, R⟩
    · obtain rfl : k = len := by omega
      rw [List.take_of_length_le (by omega)] at HS
      have hsm := hsum_any HS.hs HS.tabs (by omega)
      rw [shaL_eat] at hsm
      have hbel := HS.bel
      clear HS
      go_wp2_with (go_at_call 34; refine hsm.mono ?_; rintro e w2 ⟨rfl, r1⟩)
      go_ret
      exact ⟨rfl, hbel.trans (r1.mono hbel.size)⟩

set_option maxRecDepth 20000 in
set_option maxHeartbeats 1000000 in
theorem sum_none (w : World) (ht : Tabs w) (h4 : 4 ≤ w.heap.size) :
    Calls Tryd.prog 10 #[.slice none 0 0] w fun e w' => e = .returned (.string (str (shaL []))) ∧ Below w.heap.size w w' := by
  go_enter Tryd.func10, Tryd.ntmps10
  go_wp2_with (go_at_call 32; refine (new_any w ht h4).mono ?_; rintro e w1 ⟨rfl, hs1, hb1, hz1, ht1⟩)
  have hsm := hsum_any hs1 ht1 (by omega)
  rw [show sumB first [] 0 = shaL [] from shaL_eat []] at hsm
  clear hs1
  refine wp_loop_rounds 1 ?_
  rw [rounds_succ]
  go_wp2_with (go_at_call 34; refine hsm.mono ?_; rintro e w2 ⟨rfl, r1⟩)
  go_ret
  exact ⟨rfl, hb1.trans (r1.mono hb1.size)⟩

end Go.Proofs.YtjjabkimmgcejaaDoor
