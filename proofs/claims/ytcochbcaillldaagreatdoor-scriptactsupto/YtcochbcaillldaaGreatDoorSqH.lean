import Derived.Test.YtcochbcaillldaaGreatDoorSqM
import Derived.Test.YtcochbcaillldaaGreatDoorSqG
import Derived.Test.YtcochbcaillldaaGreatDoorSqO
namespace Go.Proofs.YtcochbcaillldaaGreatDoor.Sc
open Go.RowKit Go.Lib Go.Deep

set_option maxRecDepth 20000 in
set_option maxHeartbeats 4000000 in
theorem withOps_any (a : Option Addr) (c : Nat) (L : List OpR) (hL : ∀ o ∈ L, o.Ok) (hll : L.length ≤ 1048576) (w : World) (hs : SeeO w a L) (ht : ITab w) :
    Calls Tryz.prog 27 #[.string { data := #[98, 97, 116, 99, 104] }, .slice a L.length c] w fun e w' => e = .returned (batchV L) ∧ Below w.heap.size w w' := by
  have HS : Hid (SeeO w a L) := hs
  have HT : Hid (ITab w) := ht
  have HL : Hid (∀ o ∈ L, o.Ok) := hL
  obtain ⟨n, hn⟩ : ∃ n, L.length = n := ⟨_, rfl⟩
  have HN : Hid (L.length = n) := hn
  rw [hn] at hll ⊢
  have hB0 := (Below.refl w.heap.size w).alloc (Nat.le_refl _) (.cells #[.pointer none, .slice none 0 0] 81)
  have h0 := bwrite_any okB w.heap.size w.heap.size [] { data := #[98, 97, 116, 99, 104] } _ (Bu.new 81 [] w) (by decide) hB0.size
  clear hn hs ht hL
  go_enter Tryz.func27, Tryz.ntmps27
  go_wp2_with (go_at_call 61; refine h0.mono ?_; rintro e w1 ⟨rfl, ⟨hu1, hb1⟩, _⟩)
  have hb1 := hB0.trans hb1
  have hu1 : Bu 81 [] w.heap.size w.heap.size ([98, 97, 116, 99, 104] ++ opsT (L.take 0)) w1 := by simpa [opsT] using hu1
  have HU1 : Hid _ := hu1
  have HB1 : Hid (Below w.heap.size w w1) := hb1
  clear h0 hB0 hu1 hb1
  have HLen : Hid (∀ j, (opsT (L.take j)).length ≤ 262145 * n) := by
    show ∀ j, _
    intro j
    have h1 := opsT_len (L.take j) fun o ho => HL.out o (List.mem_of_mem_take ho)
    rw [List.length_take] at h1
    have := HN.out
    have : min j L.length ≤ n := by omega
    have := Nat.mul_le_mul_left 262145 this
    omega
  go_wp2_with fail
  go_loopg [15] n (fun gk i wr => ∃ j : Nat, j + gk = n ∧ i = .int .i64 (j : Int) ∧ Hid (Bu 81 [] w.heap.size w.heap.size ([98, 97, 116, 99, 104] ++ opsT (L.take j)) wr ∧ Below w.heap.size w wr ∧ ∀ (i : Nat) o, i < j → L[i]? = some o → (prO o).2 = 0))
  case atStart => exact ⟨0, by omega, rfl, HU1.out, HB1.out, fun i o h => by omega⟩
  case round =>
    clear HU1 HB1
    obtain ⟨j, hj, rfl, HI⟩ := hrel
    have hjn : j ≤ n := by omega
    by_cases hlt : j < n
    · have hltI : (j : Int) < (n : Int) := by omega
      obtain ⟨o, ho⟩ : ∃ o, L[j]? = some o := ⟨_, List.getElem?_eq_getElem (by rw [HN.out]; omega)⟩
      obtain ⟨b, off, rfl, hbl, hcells⟩ := HS.out (by rintro rfl; cases ho)
      obtain ⟨c0, c1, c2, c3, c4, c5⟩ := (hcells j o ho).below HI.out.2.1 hbl
      obtain ⟨⟨hc0, hc1, hprog, -⟩, hxs⟩ := prO_ans o (HL.out o (List.mem_of_getElem? ho))
      have hst := opsT_take L j o ho
      have HO : Hid (L[j]? = some o) := ho
      obtain ⟨x, hx⟩ : ∃ x, (prO o).1 = x := ⟨_, rfl⟩
      obtain ⟨cd, hcd⟩ : ∃ cd, (prO o).2 = cd := ⟨_, rfl⟩
      have HCD : Hid ((prO o).2 = cd) := hcd
      rw [hx] at hprog hxs hst
      rw [hcd] at hprog hc0 hc1
      have hp := hprog (wr.alloc (.cells o.cells 54)) (HT.out.below (HI.out.2.1.alloc HI.out.2.1.size _) HT.out.lt)
      have hA := (Below.refl wr.heap.size wr).alloc (Nat.le_refl _) (.cells o.cells 54)
      have HBA : Hid (Below wr.heap.size wr (wr.alloc (.cells o.cells 54))) := hA
      have hxl : x.data.toList.length = x.size := (size_eq x).symm
      have hHL := HLen.out j
      unfold OpR.val OpR.cells at hp
      unfold OpR.cells at HBA
      clear hcells hprog ho hcd hx hA
      go_wp2_with (go_at_call 17; refine hp.mono ?_)
      rintro e w3 ⟨rfl, hb3⟩
      clear hp c0 c1 c2 c3 c4 c5
      have HB3 : Hid (Below wr.heap.size wr w3) := HBA.out.trans (hb3.mono HBA.out.size)
      clear HBA hb3
      by_cases hz : cd = 0
      · subst hz
        have hw := bwrite_any okB w.heap.size w.heap.size ([98, 97, 116, 99, 104] ++ opsT (L.take j)) (str (10 :: x.data.toList)) w3 (HI.out.1.below HB3.out) (by rw [List.length_append, str_size]; simp only [List.length_cons, List.length_nil]; omega) (Nat.le_trans HI.out.2.1.size HB3.out.size)
        rw [str_data, List.append_assoc, ← hst] at hw
        have hsum : ({ data := #[10] } : ByteArray) ++ x = str (10 :: x.data.toList) := by
          apply ByteArray.ext
          simp [str]
        have hsz : ¬ 9223372036854775807 < ({ data := #[10] } : ByteArray).size + x.size := by
          have : ({ data := #[10] } : ByteArray).size = 1 := rfl
          omega
        obtain ⟨y, hy⟩ : ∃ y, str (10 :: x.data.toList) = y := ⟨_, rfl⟩
        rw [hy] at hw hsum
        clear hy
        go_wp2_with (go_at_call 61; refine hw.mono ?_; rintro e w4 ⟨rfl, ⟨hu4, hb4⟩, -⟩; clear hw)
        have HJ : Hid (Bu 81 [] w.heap.size w.heap.size ([98, 97, 116, 99, 104] ++ opsT (L.take (j + 1))) w4 ∧ Below w.heap.size w w4 ∧ ∀ (i : Nat) o, i < j + 1 → L[i]? = some o → (prO o).2 = 0) := by
          refine ⟨hu4, (HI.out.2.1.trans (HB3.out.mono HI.out.2.1.size)).trans hb4, fun i o' hi ho' => ?_⟩
          by_cases e : i = j
          · subst e
            rw [HO.out] at ho'
            rw [← Option.some.inj ho']
            exact HCD.out
          · exact HI.out.2.2 i o' (by omega) ho'
        clear hu4 hb4 HI HB3
        go_roundg (gk - 1)
        case measure => omega
        case rel => exact ⟨j + 1, by omega, by go_num, HJ⟩
      · have HF : Hid (firE L = cd) := by
          show _ = _
          rw [← HCD.out]
          exact firE_hit L j o HO.out HI.out.2.2 (by rw [HCD.out]; exact hz)
        go_wp2
        go_ret2
        refine ⟨?_, HI.out.2.1.trans (HB3.out.mono HI.out.2.1.size)⟩
        unfold batchV
        rw [HF.out, if_neg hz]
        rfl
    · obtain rfl : j = n := by omega
      have hltI : ¬ (j : Int) < (j : Int) := by omega
      have HF : Hid (firE L = 0) := firE_all L fun i o ho => HI.out.2.2 i o (by have := (List.getElem?_eq_some_iff.1 ho).1; have := HN.out; omega) ho
      have hHL := HLen.out j
      have hw := bwrite_any okB w.heap.size w.heap.size _ { data := #[10, 101, 110, 100] } wr HI.out.1 (by have e : ({ data := #[10, 101, 110, 100] } : ByteArray).size = 4 := rfl; rw [e, List.length_append]; simp only [List.length_cons, List.length_nil]; omega) HI.out.2.1.size
      have HTk : Hid (L.take j = L) := List.take_of_length_le (by have := HN.out; omega)
      rw [HTk.out] at hw
      have HB0 : Hid (Below w.heap.size w wr) := HI.out.2.1
      clear HI
      go_wp2_with (first | (go_at_call 62; refine hst.mono ?_; rintro e w5 ⟨rfl, hb5⟩; clear hst) | (go_at_call 61; refine hw.mono ?_; rintro e w4 ⟨rfl, ⟨hu4, hb4⟩, -⟩; have hst := bstring_any w.heap.size w.heap.size _ w4 hu4; clear hw))
      go_ret2
      refine ⟨?_, (HB0.out.trans hb4).trans hb5⟩
      unfold batchV
      rw [HF.out, if_pos rfl]
      rfl
end Go.Proofs.YtcochbcaillldaaGreatDoor.Sc
