import Derived.Test.YtnfddiabhpandaaGreatDoorOaM
import Derived.Test.YtnfddiabhpandaaGreatDoorPbX
namespace Go.Proofs.YtnfddiabhpandaaGreatDoor.Tr
open Go.RowKit Go.Lib Go.Deep

/-- what a file's place is -/
theorem fileAt {T : Ts} {dp : Nat → Nat} (hv : Inv T dp) {L : List ByteArray} {b : Sp} (g : Got T dp L b) (hk : b.kd = 2) : L ≠ [] ∧ tk T b.par ∧ b.nm.size ≤ 32 ∧ ∃ s, T.F[b.no]? = some (some (b.par, b.nm, s)) := by
  have hL : L ≠ [] := fun e => by rw [g.rt e] at hk; cases hk
  have sp := g.sp hL
  have hm := sp.there (by omega)
  rw [hk] at hm
  obtain ⟨n', s, h1, h2⟩ := hv.fileF hm
  obtain rfl := ky_inj h2
  exact ⟨hL, sp.ht, nm_size sp.hn, s, h1⟩
/-- two files are two -/
theorem filesTwo {T : Ts} {dp : Nat → Nat} (hv : Inv T dp) {P Q : List ByteArray} {a b : Sp} (gP : Got T dp P a) (gQ : Got T dp Q b) (ka : a.kd = 2) (kb : b.kd = 2) (h : P ≠ Q) : a.no ≠ b.no := fun e => by
  obtain ⟨hP, _, _, s, h1⟩ := fileAt hv gP ka
  obtain ⟨hQ, _, _, s', h2⟩ := fileAt hv gQ kb
  rw [e, h2] at h1
  simp only [Option.some.injEq, Prod.mk.injEq] at h1
  exact h (gP.eq hv gQ hP hQ ⟨h1.1, h1.2.1⟩)
theorem spotAt {T : Ts} {dp : Nat → Nat} {L : List ByteArray} {b : Sp} (g : Got T dp L b) (hL : L ≠ []) : tk T b.par ∧ b.nm.size ≤ 32 := ⟨(g.sp hL).ht, nm_size (g.sp hL).hn⟩
set_option maxRecDepth 20000 in
theorem equal_ne (w : World) (a a2 : Option Addr) (n c m c2 : Nat) (h : n ≠ m) (_hn : n ≤ 4096) (_hm : m ≤ 4096) : Calls Tryz.prog 143 #[.slice a n c, .slice a2 m c2] w fun e w' => e = .returned (.bool false) ∧ Below w.heap.size w w' := by
  have h1 : ¬ (n : Int) = (m : Int) := by omega
  have h2 : ((n : Int) != (m : Int)) = true := by simp [h1]
  go_enter Tryz.func143, Tryz.ntmps143
  go_wp2_with fail
  go_ret
  exact ⟨rfl, Below.refl _ _⟩
theorem equal_all (w : World) (a a2 : Option Addr) (n c m c2 : Nat) (P Q : List ByteArray) (h1 : Pa.See w (.slice a n c) P) (h2 : Pa.See w (.slice a2 m c2) Q) (hn : P.length ≤ 4096) (hm : Q.length ≤ 4096) : Calls Tryz.prog 143 #[.slice a n c, .slice a2 m c2] w fun e w' => e = .returned (.bool (decide (P = Q))) ∧ Below w.heap.size w w' := by
  by_cases hl : P.length = Q.length
  · exact Pa.equal_any w _ _ P Q h1 h2 hl (by omega)
  · rw [decide_eq_false (fun e => hl (by rw [e]))]
    have e1 : n = P.length := by
      obtain ⟨_, _, e, _⟩ := h1
      injection e
    have e2 : m = Q.length := by
      obtain ⟨_, _, e, _⟩ := h2
      injection e
    subst e1
    subst e2
    exact equal_ne w a a2 _ c _ c2 hl hn hm
/-- the effect of what is renamed onto another -/
theorem eff2 {W : World} {b : Nat} {t : TypeId} {y0 y1 y2 y3 y4 y5 y6 x : Value} (h : W.heap[b]? = some (.cells #[y0, y1, y2, y3, y4, y5, y6] t (0, 0))) : (W.setCell ⟨b, 2, none⟩ x).heap[b]? = some (.cells #[y0, y1, x, y3, y4, y5, y6] t (0, 0)) := heap_setCell_same _ _ 2 _ _ x h

end Go.Proofs.YtnfddiabhpandaaGreatDoor.Tr
