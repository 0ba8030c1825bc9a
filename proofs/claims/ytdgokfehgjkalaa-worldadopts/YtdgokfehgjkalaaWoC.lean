import Derived.Test.YtdgokfehgjkalaaWoB
import Derived.BigQuiet
namespace Go.Proofs.Ytdgokfehgjkalaa.Wd
open Go.RowKit Go.Lib Go.Deep

/-- a list of objects that can be read -/
def SeeB (w : World) (v : Value) (n : Nat) (bs : List (ByteArray × ByteArray)) : Prop := bs.length = n ∧ ∃ a c, v = .slice a n c ∧ ∀ i x, bs[i]? = some x → ∃ g o, a = some ⟨g, o, none⟩ ∧ g < w.heap.size ∧ w.cell? ⟨g, o + i * 2, none⟩ = some (.string x.1) ∧ w.cell? ⟨g, o + i * 2 + 1, none⟩ = some (.string x.2)
theorem SeeB.below {w W : World} {v : Value} {n : Nat} {bs : List (ByteArray × ByteArray)} (h : SeeB w v n bs) (hb : Below w.heap.size w W) : SeeB W v n bs := by
  obtain ⟨h1, a, c, rfl, h2⟩ := h
  refine ⟨h1, a, c, rfl, fun i x hx => ?_⟩
  obtain ⟨g, o, e, hg, c1, c2⟩ := h2 i x hx
  exact ⟨g, o, e, Nat.lt_of_lt_of_le hg hb.size, (hb.cell (p := ⟨g, _, none⟩) hg).trans c1, (hb.cell (p := ⟨g, _, none⟩) hg).trans c2⟩
def dumpL (f : Sto) (ks : List (List UInt8)) : List (ByteArray × ByteArray) := ks.map fun k => (str k, (f k).getD { data := #[] })
def bCells (bs : List (ByteArray × ByteArray)) : List Value := bs.flatMap fun x => [.string x.1, .string x.2]
theorem dump_cells (f : Sto) (ks : List (List UInt8)) : blobCells f ks = bCells (dumpL f ks) := by
  unfold blobCells bCells dumpL
  rw [List.flatMap_map]
theorem bCells_at (bs : List (ByteArray × ByteArray)) (i : Nat) (x : ByteArray × ByteArray) (h : bs[i]? = some x) : (bCells bs)[i * 2]? = some (.string x.1) ∧ (bCells bs)[i * 2 + 1]? = some (.string x.2) := by
  induction bs generalizing i with
  | nil => cases h
  | cons y bs ih =>
    have e : bCells (y :: bs) = [.string y.1, .string y.2] ++ bCells bs := by simp [bCells]
    cases i with
    | zero =>
      obtain rfl : y = x := Option.some.inj h
      rw [e]
      exact ⟨rfl, rfl⟩
    | succ i =>
      obtain ⟨a, b⟩ := ih i h
      have hl : ([.string y.1, .string y.2] : List Value).length = 2 := rfl
      rw [e, List.getElem?_append_right (by omega), List.getElem?_append_right (by omega), hl]
      exact ⟨by rw [← a]; congr 1; omega, by rw [← b]; congr 1; omega⟩
theorem see_own {w : World} {B n : Nat} {v : Value} {bs : List (ByteArray × ByteArray)} (h : w.ownsRow B 56 2 v n (bCells bs)) (hl : bs.length = n) : SeeB w v n bs := by
  obtain ⟨a, c, rfl⟩ := own_len h
  refine ⟨hl, a, c, rfl, fun i x hx => ?_⟩
  have hil := (List.getElem?_eq_some_iff.1 hx).1
  obtain ⟨e1, e2⟩ := bCells_at bs i x hx
  rcases h.2 with ⟨h1, h2⟩ | ⟨g, cap, cur, h1, h2, h3, h4, h5, h6, h7⟩
  · omega
  · injection h1 with h1 _ _
    refine ⟨g, 0, h1, heap_lt h3, ?_, ?_⟩
    · rw [← h7, List.getElem?_take, if_pos (by omega), Array.getElem?_toList] at e1
      rw [Nat.zero_add, cell_of_heap h3]
      exact e1
    · rw [← h7, List.getElem?_take, if_pos (by omega), Array.getElem?_toList] at e2
      rw [Nat.zero_add, cell_of_heap h3]
      exact e2
set_option maxRecDepth 10000 in
set_option maxHeartbeats 1000000 in
theorem sameB_any (w : World) (v u : Value) (n : Nat) (bs : List (ByteArray × ByteArray)) (h1 : SeeB w v n bs) (h2 : SeeB w u n bs) (hn : n ≤ 9223372036854775000) : Calls Try.prog 15 #[v, u] w fun e w' => e = .returned (.bool true) ∧ Below w.heap.size w w' := by
  have HA : Hid (∀ W, Below w.heap.size w W → SeeB W v n bs) := fun W hb => h1.below hb
  have HB : Hid (∀ W, Below w.heap.size w W → SeeB W u n bs) := fun W hb => h2.below hb
  obtain ⟨hl, a1, k1, rfl, -⟩ := h1
  obtain ⟨-, a2, k2, rfl, -⟩ := h2
  have HL : Hid (bs.length = n) := hl
  clear hl
  go_enter Try.func15, Try.ntmps15
  go_wp2_with fail
  go_loopg [5] n (fun gk iv wr => ∃ k : Nat, k + gk = n ∧ iv = .int .i64 (k : Int) ∧ Hid (Below w.heap.size w wr))
  case atStart => exact ⟨0, by omega, rfl, Below.refl _ _⟩
  case round =>
    obtain ⟨k, hk, rfl, HW⟩ := hrel
    have HKG : Hid (k + gk = n) := hk
    have hkn : k ≤ n := by omega
    clear hk
    by_cases hlt : k < n
    · have hltI : (k : Int) < (n : Int) := by omega
      obtain ⟨x, hx⟩ : ∃ x, bs[k]? = some x := ⟨_, List.getElem?_eq_getElem (by have := HL.out; omega)⟩
      obtain ⟨-, y1, z1, e1, h1⟩ := HA.out _ HW.out
      obtain ⟨-, y2, z2, e2, h2⟩ := HB.out _ HW.out
      injection e1 with e1 _ e1'
      injection e2 with e2 _ e2'
      subst e1 e1' e2 e2'
      obtain ⟨g1, o1, rfl, _, c0, c1⟩ := h1 k x hx
      obtain ⟨g2, o2, rfl, _, d0, d1⟩ := h2 k x hx
      have HWN : Hid (∀ j, Below w.heap.size w (wr.drewN j)) := fun j => HW.out.trans ((bdN wr j).mono HW.out.size)
      obtain ⟨n1, b1⟩ := x
      dsimp only at *
      clear hx h1 h2
      go_wp2_with fail
      go_quiet (fail)
      go_wp2_with fail
      go_roundg (gk - 1)
      case measure => have := HKG.out; omega
      case rel => exact ⟨k + 1, by have := HKG.out; omega, by go_num, HWN.out _⟩
    · obtain rfl : k = n := by omega
      have hltI : ¬ (k : Int) < (k : Int) := by omega
      go_wp2
      go_ret
      exact ⟨rfl, HW.out⟩
end Go.Proofs.Ytdgokfehgjkalaa.Wd
