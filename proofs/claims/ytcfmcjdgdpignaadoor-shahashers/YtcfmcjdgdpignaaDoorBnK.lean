import Derived.Test.YtcfmcjdgdpignaaDoorBnD
import Derived.Test.YtcfmcjdgdpignaaDoorBnE
import Derived.Test.YtcfmcjdgdpignaaDoorBnF
import Derived.Test.YtcfmcjdgdpignaaDoorScrH
namespace Go.Proofs.YtcfmcjdgdpignaaDoor
open Go.RowKit Go.Lib

theorem plays_any {w wr : World} {b : Nat} {V U : Nat → Option Nat} (h : Bn w wr b V U 4) (K A F : Int) (s : ByteArray) (hs : s.size ≤ 140737488355328) (ht : Tabs w) (hr : RTabs w) (h4 : 4 ≤ w.heap.size) :
    Calls Tryd.prog 14 #[.pointer (some ⟨b, 0, none⟩), .agg #[.int .i64 K, .int .i64 A, .int .i64 F, .string s]] wr fun e w' => e = .returned (.bool true) ∧ ∃ V' U', Bn w w' b V' U' 4 := by
  by_cases n1 : K = 1
  · subst n1; exact plays_new h A F s hs ht hr h4
  by_cases n2 : K = 2
  · subst n2; exact plays_write h A F s hs ht hr h4
  by_cases n3 : K = 3
  · subst n3; exact plays_sum h A F s hs ht hr h4
  by_cases n4 : K = 4
  · subst n4; exact plays_count h A F s hs ht hr h4
  by_cases n5 : K = 5
  · subst n5; exact plays_state h A F s hs ht hr h4
  by_cases n6 : K = 6
  · subst n6; exact plays_again h A F s hs ht hr h4
  by_cases n7 : K = 7
  · subst n7; exact plays_lay h A F s hs ht hr h4
  exact plays_other h K A F s hs ht hr h4 n1 n2 n3 n4 n5 n6 n7

theorem size4op : (Tryd.prog.info? 44).map (·.size) = some 4 := by kernel_rfl

set_option maxRecDepth 20000 in
set_option maxHeartbeats 4000000 in
theorem shaHashers_walk (w : World) (ht : Tabs w) (hr : RTabs w) (h4 : 4 ≤ w.heap.size) (a : Option Addr) (len cap : Nat) (K A F : Nat → Int) (S : Nat → ByteArray) (hops : IsOps w a len K A F S) (hlen : len ≤ 9223372036854775807) (hsm : ∀ i, i < len → (S i).size ≤ 140737488355328) :
    Calls Tryd.prog 4 #[.slice a len cap] w fun e w' => e = .returned (.bool true) ∧ Below w.heap.size w w' := by
  have HPL : Hid (∀ W b V U (K A F : Int) s, Bn w W b V U 4 → s.size ≤ 140737488355328 → Calls Tryd.prog 14 #[.pointer (some ⟨b, 0, none⟩), .agg #[.int .i64 K, .int .i64 A, .int .i64 F, .string s]] W fun e w' => e = .returned (.bool true) ∧ ∃ V' U', Bn w w' b V' U' 4) := fun W b V U K A F s h hs => plays_any h K A F s hs ht hr h4
  have HOPS : Hid (IsOps w a len K A F S) := hops
  have HSM : Hid (∀ i, i < len → (S i).size ≤ 140737488355328) := hsm
  have HB0 : Hid (Bn w (w.alloc (.cells #[.pointer none, .pointer none, .pointer none, .pointer none, .pointer none, .pointer none, .pointer none, .pointer none] 41)) w.heap.size (fun _ => none) (fun _ => none) 4) :=
    ⟨heap_new _ _, fun _ _ _ => trivial, fun _ _ _ h => (by cases h), fun _ _ _ h => (by cases h), fun _ _ _ _ _ _ h => (by cases h), fun _ _ _ _ _ _ h => (by cases h), Nat.le_refl _, (Below.refl _ _).alloc (Nat.le_refl _) _⟩
  clear hops ht hr hsm
  go_enter Tryd.func4, Tryd.ntmps4
  go_wp2_with fail
  refine (HPL.out _ _ _ _ 1 0 0 { data := #[] } HB0.out (by decide)).mono ?_
  rintro e w1 ⟨rfl, V, U, hN1⟩
  have HN1 : Hid (Bn w w1 w.heap.size V U 4) := hN1
  clear hN1 HB0
  obtain ⟨b, hb⟩ : ∃ b, w.heap.size = b := ⟨_, rfl⟩
  rw [hb] at HN1 ⊢
  clear hb
  go_wp2
  go_loopg [5] len (fun gk iv wr => ∃ (i : Nat) (V U : Nat → Option Nat), i + gk = len ∧ iv = .int .i64 i ∧ Bn w wr b V U 4)
  case atStart => exact ⟨0, V, U, by omega, rfl, HN1.out⟩
  case round =>
    obtain ⟨i, V, U, hii, rfl, hN⟩ := hrel
    have HK : Hid (i + gk = len) := hii
    have hi' : i ≤ len := by omega
    clear hii HN1
    by_cases hlt : i < len
    · obtain ⟨bb, off, rfl, hbl, h0⟩ := HOPS.out i hlt
      have hcl := HPL.out wr b V U (K i) (A i) (F i) (S i) hN (HSM.out i hlt)
      have hrg : wr.rangeAt bb (off + i * 4) [.int .i64 (K i), .int .i64 (A i), .int .i64 (F i), .string (S i)] := fun d v hv => (hN.bel.cell (p := ⟨bb, off + i * 4 + d, none⟩) hbl).trans (h0 d v hv)
      clear h0 hN hbl
      generalize K i = K1 at hcl hrg
      generalize A i = A1 at hcl hrg
      generalize F i = F1 at hcl hrg
      generalize S i = s at hcl hrg
      go_wp2_with (first | (refine wpList_load_mid rfl 44 (.tmp 22) rfl bb (off + i * 4) rfl _ _ hrg Tryd.underlying44 rfl size4op ?_) | (go_at_call 14; refine hcl.mono ?_; rintro e w2 ⟨rfl, V2, U2, hN2⟩))
      go_roundg (gk - 1)
      case measure => have := HK.out; omega
      case rel => exact ⟨i + 1, V2, U2, by have := HK.out; omega, by go_num, hN2⟩
    · obtain rfl : i = len := by omega
      have hcl := HPL.out wr b V U 3 0 0 { data := #[] } hN (by decide)
      clear hN
      go_wp2_with (go_at_call 14; refine hcl.mono ?_; rintro e w2 ⟨rfl, V2, U2, hN2⟩)
      go_ret
      exact ⟨rfl, hN2.bel⟩

end Go.Proofs.YtcfmcjdgdpignaaDoor
