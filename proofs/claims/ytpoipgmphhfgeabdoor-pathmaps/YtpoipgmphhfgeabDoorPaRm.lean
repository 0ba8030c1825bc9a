import Derived.Test.YtpoipgmphhfgeabDoorPaM
namespace Go.Proofs.YtpoipgmphhfgeabDoor.Pa
open Go.RowKit Go.Lib

theorem room_take (L : List ByteArray) : (L ++ marks).take L.length = L := by simp
/-- a list with marks behind it, as it is handed on -/
theorem Own.head {w : World} {B : Nat} {v : Value} {L : List ByteArray} (h : Own w B v (L ++ marks)) : ∃ g c n, v = .slice (some g) n c ∧ n = L.length + 3 ∧ n ≤ c ∧ See w (.slice (some g) L.length c) L := by
  have hs := h.see
  obtain ⟨a, c, rfl, hc, h3, h4⟩ := hs
  obtain ⟨b, off, rfl, _⟩ := h4 (by simp [marks])
  have h5 := (h.see).take (n := L.length) (by simp)
  rw [room_take] at h5
  exact ⟨_, c, _, rfl, by simp [marks], hc, h5⟩

theorem Own.head' {w : World} {B : Nat} {v : Value} {L M : List ByteArray} (h : Own w B v M) (hM : L ++ marks = M) : ∃ g c n, v = .slice (some g) n c ∧ n = L.length + 3 ∧ n ≤ c ∧ See w (.slice (some g) L.length c) L := by
  subst hM
  exact h.head
/-- what roomy answers, at any world behind -/
def RoomC (w : World) (v : Value) (M : List ByteArray) : Prop := ∀ W, Below w.heap.size w W → Calls Tryd.prog 14 #[v] W fun e w' => (∃ u, e = .returned u ∧ Own w' W.heap.size u M) ∧ Below W.heap.size W w'
theorem roomC {w : World} {v : Value} {L M : List ByteArray} (h : See w v L) (hn : L.length ≤ 8796093022000) (hM : L ++ marks = M) : RoomC w v M := fun W hb => by
  subst hM
  exact roomy_any W v L (h.below hb) hn
def SameC (w : World) (u : Value) (M : List ByteArray) : Prop := ∀ W v, Below w.heap.size w W → See W v M → Calls Tryd.prog 8 #[u, v] W fun e w' => e = .returned (.bool true) ∧ Below W.heap.size W w'
theorem sameC {w : World} {u : Value} {L M : List ByteArray} (h : See w u M) (hn : L.length ≤ 8796093022000) (hM : L ++ marks = M) : SameC w u M := fun W v hb hv => by
  subst hM
  exact same_any W u v _ (h.below hb) hv (by simp [marks]; omega)
end Go.Proofs.YtpoipgmphhfgeabDoor.Pa
