import Derived.Test.YthmjjpaengackaaPlB
namespace Go.Proofs.Ythmjjpaengackaa.Po
open Go.RowKit Go.Lib Go.Deep

set_option maxRecDepth 20000 in
set_option maxHeartbeats 1000000 in
theorem isSettled_any (w : World) (q : Nat) (F : List Nat) (nn : Nat) (S : Ps) (hL : Lay w q F nn S) : Calls Try.prog 61 #[.pointer (some ⟨q, 0, none⟩)] w fun e w' => e = .returned (.bool (decide (S.Q.length + cntO S.R = S.R.length))) ∧ Below w.heap.size w w' := by
  obtain ⟨rv, mv, oa, na, room, h, rfl, hI⟩ := hL
  obtain ⟨ar, cr, rfl⟩ := owns_form hI.hr
  obtain ⟨-, c1, c2, -, -, -, c6⟩ := hI.cells
  obtain ⟨D, f, h1, h2, h3⟩ := hI.ho
  have hs := size_own h1 h2 h3
  have hle : cntO S.R ≤ S.R.length := by unfold cntO; exact List.length_filter_le _ _
  have hlim := hI.lim
  have HLN : ∀ j ty, (Builtin.len_ #[69] ty #[.map (some oa)]).run Try.prog (w.drewN j) = .ok (.int .i64 (cntO S.R : Int)) (w.drewN j) := fun j ty => by
    have := (map_keep (W' := w.drewN j) h1 rfl).len Try.underlying69 ty
    rw [hs] at this
    exact this
  obtain ⟨es, cl, hq, hF, _, hDe⟩ := h1
  have hes : es.size = cntO S.R := by
    rw [← hs, hDe]
    simp [Maps.size, length_sorted]
  have B0 : Hid (∀ j, Below w.heap.size w (w.drewN j)) := fun j => bdr (Below.refl _ _) j
  have w1 : IntKind.i64.wrap ((S.R.length : Int) - (cntO S.R : Int)) = (S.R.length : Int) - (cntO S.R : Int) := by rw [IntKind.wrap_i64]; omega
  have hd : decide (S.Q.length + cntO S.R = S.R.length) = ((S.Q.length : Int) == (S.R.length : Int) - (cntO S.R : Int)) := by
    rw [Bool.eq_iff_iff]
    simp only [decide_eq_true_eq, beq_iff_eq]
    omega
  rw [hd]
  generalize S.Q.length = N at *
  generalize cntO S.R = C at *
  generalize hM : S.R.length = M at *
  clear hI h2 h3 hs hlim hle hd hF hDe hM
  go_enter Try.func61, Try.ntmps61
  go_wp2_with fail
  go_quiet (fail)
  go_wp2
  go_ret
  exact ⟨rfl, B0.out _⟩
end Go.Proofs.Ythmjjpaengackaa.Po
