import Derived.Test.YtaejapdbghbgeaaSgF
namespace Go.Proofs.Ytaejapdbghbgeaa.Se
open Go.RowKit Go.Lib Go.Deep

theorem see_rows {w : World} {a : Option Addr} {n cap : Nat} {R : List Row} (hn : R.length = n) (h : SeeR w (.slice a n cap) R) : Hid (∀ (k : Nat) (r : Row), R[k]? = some r → ∃ bb off, a = some ⟨bb, off, none⟩ ∧ ∀ W, Below w.heap.size w W → W.cell? ⟨bb, off + k * 4, none⟩ = some (.int .i64 r.kind) ∧ W.cell? ⟨bb, off + k * 4 + 1, none⟩ = some (.string r.name) ∧ W.cell? ⟨bb, off + k * 4 + 2, none⟩ = some (.string r.blob) ∧ W.cell? ⟨bb, off + k * 4 + 3, none⟩ = some (.string r.text)) := fun k r hr => by
  have hkl := (List.getElem?_eq_some_iff.1 hr).1
  obtain ⟨r0, r1, r2, r3⟩ := rows_at R k r hr
  obtain ⟨a', bb, off, cap', hv, h2, h3⟩ := h.ex
  injection hv with hv1 _ hv2
  obtain ⟨e1, e2⟩ := h2 (by omega)
  refine ⟨bb, off, hv1.trans e1, fun W hb => ⟨?_, ?_, ?_, ?_⟩⟩
  · exact (hb.cell (p := ⟨bb, off + k * 4, none⟩) e2).trans (h3 _ _ r0)
  · rw [Nat.add_assoc]; exact (hb.cell (p := ⟨bb, off + (k * 4 + 1), none⟩) e2).trans (h3 _ _ r1)
  · rw [Nat.add_assoc]; exact (hb.cell (p := ⟨bb, off + (k * 4 + 2), none⟩) e2).trans (h3 _ _ r2)
  · rw [Nat.add_assoc]; exact (hb.cell (p := ⟨bb, off + (k * 4 + 3), none⟩) e2).trans (h3 _ _ r3)

set_option maxRecDepth 20000 in
set_option maxHeartbeats 4000000 in
/-- two lists with the same rows -/
theorem same_any (R : List Row) (a b : Option Addr) (n ca cb : Nat) (w : World) (hn : R.length = n) (hn2 : n ≤ 4294967296) (hA : SeeR w (.slice a n ca) R) (hB : SeeR w (.slice b n cb) R) :
    Calls Try.prog 17 #[.slice a n ca, .slice b n cb] w fun e w' => e = .returned (.bool true) ∧ Below w.heap.size w w' := by
  have HA := see_rows hn hA
  have HB := see_rows hn hB
  have HN : Hid (R.length = n) := hn
  clear hA hB hn
  go_enter Try.func17, Try.ntmps17
  go_wp2_with fail
  go_loopg [5] n (fun gk iv wr => ∃ k : Nat, k + gk = n ∧ iv = .int .i64 (k : Int) ∧ Hid (Below w.heap.size w wr))
  case atStart => exact ⟨0, by omega, rfl, Below.refl _ _⟩
  case round =>
    obtain ⟨k, hk, rfl, HW⟩ := hrel
    have HKG : Hid (k + gk = n) := hk
    have hkn : k ≤ n := by omega
    clear hk
    by_cases hlt : k < n
    · have hltI : (k : Int) < (n : Int) := by omega
      obtain ⟨r, hr⟩ : ∃ r, R[k]? = some r := ⟨_, List.getElem?_eq_getElem (by have := HN.out; omega)⟩
      obtain ⟨b1, o1, rfl, h1⟩ := HA.out k r hr
      obtain ⟨b2, o2, rfl, h2⟩ := HB.out k r hr
      obtain ⟨c0, c1, c2, c3⟩ := h1 _ HW.out
      obtain ⟨d0, d1, d2, d3⟩ := h2 _ HW.out
      have HWN : Hid (∀ j, Below w.heap.size w (wr.drewN j)) := fun j => HW.out.trans ((bdN wr j).mono HW.out.size)
      clear hr h1 h2
      obtain ⟨kd, nm, bl, tx⟩ := r
      dsimp only at *
      go_wp2_with fail
      go_quiet (fail)
      go_wp2_with fail
      go_roundg (gk - 1)
      case measure => have := HKG.out; omega
      case rel => exact ⟨k + 1, by have := HKG.out; omega, by go_num, HWN.out _⟩
    · obtain rfl : k = n := by omega
      have hltI : ¬ (k : Int) < (k : Int) := by omega
      go_wp2
      go_ret
      exact ⟨rfl, HW.out⟩
end Go.Proofs.Ytaejapdbghbgeaa.Se
