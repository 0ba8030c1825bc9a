import Derived.Test.YtaejapdbghbgeaaSgS
namespace Go.Proofs.Ytaejapdbghbgeaa.Se
open Go.RowKit Go.Lib Go.Deep

set_option maxRecDepth 20000 in
set_option maxHeartbeats 4000000 in
theorem back2_any (ls : List Lay) (R : List Row) (pb : Nat) (F : List Nat) (n cap : Nat) (a : Option Addr) (w : World) (hn : ls.length = n) (hn2 : n ≤ 4294967296) (hbz : ∀ l ∈ ls, l.row.blob.size ≤ 281474976710656 ∧ placeE l.row.kind l.row.name = 0) (hR : ∀ (k : Nat) (l : Lay), ls[k]? = some l → R[k]? = some l.row) (hRn : R.length ≤ 4294967296) (hI : Idl w pb F R) (hS : See w (.slice a n cap) n (layCells ls)) :
    Calls Try.prog 16 #[.iface 23 (.pointer (some ⟨pb, 0, none⟩)), .slice a n cap] w fun e w' => e = .returned (.bool true) ∧ Below w.heap.size w w' := by
  have m1 := mOpen pb
  have m0 := nOpen pb
  have hnum := fun W x => snum_any x W
  have HS := see_lay hn hS
  have HOP : Hid (∀ (k : Nat) (l : Lay), ls[k]? = some l → ∀ W, Below w.heap.size w W → Calls Try.prog 21 #[.pointer (some ⟨pb, 0, none⟩), .int .i64 l.row.kind, .string l.row.name, .string l.row.blob] W fun e w' => e = .returned (.tuple #[.string l.row.text, .int .i64 0]) ∧ Below w.heap.size w w') := fun k l hl W hb => by
    have hz := hbz l (List.mem_of_getElem? hl)
    have hlr := hR k l hl
    obtain ⟨_, _, _, D, _, _, _, _, _, hT⟩ := hI.ex
    have hf := hT.find hlr (kind := l.row.kind) (name := l.row.name) (blob := l.row.blob) rfl
    rw [if_pos (show hit l.row.kind l.row.name l.row.blob l.row = true from decide_eq_true ⟨rfl, rfl, rfl⟩)] at hf
    have e1 : openE R l.row.kind l.row.name l.row.blob = 0 := by unfold openE; rw [if_neg (by simp [hz.2]), hf]; rfl
    have e2 : openY R l.row.kind l.row.name l.row.blob = l.row.text := by unfold openY; rw [if_neg (by simp [hz.2]), hf]; rfl
    have h := open_any W pb F _ l.row.kind l.row.name l.row.blob hz.1 hRn (hI.below hb)
    rw [e1, e2] at h
    refine h.mono ?_
    rintro e w' ⟨rfl, hb'⟩
    exact ⟨rfl, hb.trans (hb'.mono hb.size)⟩
  have HN : Hid (ls.length = n) := hn
  clear hS hI hbz hn hR hRn
  go_enter Try.func16, Try.ntmps16
  go_wp2_with fail
  go_loopg [5] n (fun gk iv wr => ∃ k : Nat, k + gk = n ∧ iv = .int .i64 (k : Int) ∧ Hid (Below w.heap.size w wr))
  case atStart => exact ⟨0, by omega, rfl, Below.refl _ _⟩
  case round =>
    obtain ⟨k, hk, rfl, HB⟩ := hrel
    have HKG : Hid (k + gk = n) := hk
    have hkn : k ≤ n := by omega
    clear hk
    by_cases hlt : k < n
    · have hltI : (k : Int) < (n : Int) := by omega
      obtain ⟨l, hl⟩ : ∃ l, ls[k]? = some l := ⟨_, List.getElem?_eq_getElem (by have := HN.out; omega)⟩
      obtain ⟨bb, off, rfl, hc⟩ := HS.out k l hl
      have HP : Hid _ := HOP.out k l hl
      clear hl
      obtain ⟨⟨kd, nm, bl, tx⟩, sd⟩ := l
      dsimp only at *
      have HC : Hid (∀ W, Below w.heap.size w W → W.cell? ⟨bb, off + k * 5, none⟩ = some (.int .i64 kd) ∧ W.cell? ⟨bb, off + k * 5 + 1, none⟩ = some (.string nm) ∧ W.cell? ⟨bb, off + k * 5 + 2, none⟩ = some (.string tx) ∧ W.cell? ⟨bb, off + k * 5 + 4, none⟩ = some (.string bl)) := hc
      have HBN : Hid (∀ j, Below w.heap.size w (wr.drewN j)) := fun j => HB.out.trans ((bdN wr j).mono HB.out.size)
      clear hc
      go_wp2_with fail
      go_region_held_law (fun W => W.cell? ⟨bb, off + k * 5, none⟩ = some (.int .i64 kd) ∧ W.cell? ⟨bb, off + k * 5 + 1, none⟩ = some (.string nm) ∧ W.cell? ⟨bb, off + k * 5 + 2, none⟩ = some (.string tx) ∧ W.cell? ⟨bb, off + k * 5 + 4, none⟩ = some (.string bl)) (first | exact HC.out _ (HBN.out _) | exact HC.out _ hb5 | go_keep) (first | (go_at_call 21; refine (HP.out _ (HBN.out _)).mono ?_; rintro e w5 ⟨rfl, hb5⟩))
      obtain ⟨d0, d1, d2, d4⟩ := HC.out _ hb5
      go_wp2_with fail
      refine (hnum _ _).mono ?_
      rintro e w6 ⟨rfl, rfl⟩
      go_wp2_with fail
      go_roundg (gk - 1)
      case measure => have := HKG.out; omega
      case rel => exact ⟨k + 1, by have := HKG.out; omega, by go_num, hb5⟩
    · obtain rfl : k = n := by omega
      have hltI : ¬ (k : Int) < (k : Int) := by omega
      go_wp2
      go_ret
      exact ⟨rfl, HB.out⟩

end Go.Proofs.Ytaejapdbghbgeaa.Se
