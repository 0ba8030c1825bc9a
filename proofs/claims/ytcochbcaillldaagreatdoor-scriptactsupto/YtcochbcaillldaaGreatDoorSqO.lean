import Derived.Test.YtcochbcaillldaaGreatDoorSpC
namespace Go.Proofs.YtcochbcaillldaaGreatDoor.Sc
open Go.RowKit Go.Lib Go.Deep
/-- an operation's six cells, from a place on -/
def SixAt (w : World) (b p : Nat) (o : OpR) : Prop := w.cell? ⟨b, p, none⟩ = some (.int .i64 o.kind) ∧ w.cell? ⟨b, p + 1, none⟩ = some (.string o.path) ∧ w.cell? ⟨b, p + 2, none⟩ = some (.string o.to) ∧ w.cell? ⟨b, p + 3, none⟩ = some (.int .i64 o.at_) ∧ w.cell? ⟨b, p + 4, none⟩ = some (.int .i64 o.n) ∧ w.cell? ⟨b, p + 5, none⟩ = some (.string o.data)
theorem SixAt.below {w w' : World} {B b p : Nat} {o : OpR} (h : SixAt w b p o) (hb : Below B w w') (hlt : b < B) : SixAt w' b p o := by
  unfold SixAt at h ⊢
  simp only [World.cell?, hb.block b hlt] at h ⊢
  exact h
def SeeO (w : World) (a : Option Addr) (L : List OpR) : Prop := L ≠ [] → ∃ b off, a = some ⟨b, off, none⟩ ∧ b < w.heap.size ∧ ∀ (i : Nat) o, L[i]? = some o → SixAt w b (off + i * 6) o
theorem SeeO.below {w w' : World} {a : Option Addr} {L : List OpR} (h : SeeO w a L) (hb : Below w.heap.size w w') : SeeO w' a L := fun hne => by
  obtain ⟨b, off, e, hlt, hc⟩ := h hne
  exact ⟨b, off, e, Nat.lt_of_lt_of_le hlt hb.size, fun i o ho => (hc i o ho).below hb hlt⟩
end Go.Proofs.YtcochbcaillldaaGreatDoor.Sc
