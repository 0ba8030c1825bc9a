import Derived.Test.YtpoipgmphhfgeabDoorPaD
import Derived.Test.YtpoipgmphhfgeabDoorShP
import Derived.Deep.RegionHeldLaw
namespace Go.Proofs.YtpoipgmphhfgeabDoor.Pa
open Go.RowKit Go.Lib

theorem equal_any (w : World) (v u : Value) (P Q : List ByteArray) (h1 : See w v P) (h2 : See w u Q) (hl : P.length = Q.length) (hn : P.length ≤ 9223372036854775807) :
    Calls Tryd.prog 24 #[v, u] w fun e w' => e = .returned (.bool (decide (P = Q))) ∧ Below w.heap.size w w' := by
  obtain ⟨a, c, rfl, hc, hnil, hcell⟩ := h1
  obtain ⟨a2, c2, rfl, hc2, hnil2, hcell2⟩ := h2
  by_cases h0 : P = []
  · subst h0
    obtain rfl : Q = [] := List.eq_nil_of_length_eq_zero hl.symm
    exact (Any.slices_Equal_string_empty equLays a a2 c 0 c2 w (by omega)).mono fun e w' ⟨he, hw⟩ => ⟨he, hw ▸ Below.refl _ _⟩
  · obtain ⟨b, off, rfl, _, hcc⟩ := hcell h0
    obtain ⟨b2, off2, rfl, _, hcc2⟩ := hcell2 (fun e => h0 (List.eq_nil_of_length_eq_zero (by rw [hl, e]; rfl)))
    have cells : ∀ (L : List ByteArray) (b off : Nat), (∀ (i : Nat) s, L[i]? = some s → w.cell? ⟨b, off + i, none⟩ = some (.string s)) → ∀ j, j < L.length → w.cell? ⟨b, off + j, none⟩ = some (.string (L.getD j ByteArray.empty)) := fun L b off h j hj => by
      have e : L[j]? = some L[j] := List.getElem?_eq_getElem hj
      rw [h j _ e, List.getD_eq_getElem?_getD, e]
      rfl
    refine (Any.slices_Equal_string equLays b off P.length c b2 off2 Q.length c2 P Q w (Nat.le_refl _) (Nat.le_refl _) hn (by omega) (cells P b off hcc) (cells Q b2 off2 hcc2)).mono fun e w' ⟨he, q, hw⟩ => ⟨?_, hw ▸ bdN w q⟩
    rw [he, List.take_length, List.take_length]
theorem prefix_take (P Q : List ByteArray) : decide (P = Q.take P.length) = decide (P <+: Q) := by
  by_cases hp : P <+: Q
  · rw [decide_eq_true hp, decide_eq_true (List.prefix_iff_eq_take.1 hp)]
  · rw [decide_eq_false hp, decide_eq_false fun e => hp (List.prefix_iff_eq_take.2 e)]

set_option maxRecDepth 20000 in
set_option maxHeartbeats 1000000 in
theorem inside_any (w : World) (v u : Value) (P Q : List ByteArray) (h1 : See w v P) (h2 : See w u Q) (hn : P.length ≤ 9223372036854775000) : Calls Tryd.prog 13 #[v, u] w fun e w' => e = .returned (.bool (decide (P <+: Q))) ∧ Below w.heap.size w w' := by
  by_cases hm : P.length ≤ Q.length
  · have hq := prefix_take P Q
    have HT : Hid (∀ a c, u = .slice a Q.length c → Calls Tryd.prog 24 #[v, .slice a P.length c] w fun e w' => e = .returned (.bool (decide (P = Q.take P.length))) ∧ Below w.heap.size w w') := fun a c e => by
      subst e
      exact equal_any w v _ P (Q.take P.length) h1 (h2.take hm) (by rw [List.length_take]; omega) (by omega)
    obtain ⟨a1, k1, rfl, -⟩ := h1
    obtain ⟨a2, k2, rfl, hq2, hz, hsome⟩ := h2
    have HQ := HT.out a2 k2 rfl
    rw [hq] at HQ
    clear HT hq
    generalize decide (P <+: Q) = R at *
    have hnone : a2 = none → Q.length = 0 := fun e => by have := hz e; omega
    clear hsome
    generalize P.length = n at *
    generalize Q.length = m at *
    go_enter Tryd.func13, Tryd.ntmps13
    go_wp2_with (go_at_call 24; refine HQ.mono ?_; rintro e w1 ⟨rfl, hb1⟩)
    go_ret
    exact ⟨rfl, hb1⟩
  · have e : decide (P <+: Q) = false := decide_eq_false fun h => hm h.length_le
    rw [e]
    obtain ⟨a1, k1, rfl, -⟩ := h1
    obtain ⟨a2, k2, rfl, -⟩ := h2
    generalize P.length = n at *
    generalize Q.length = m at *
    go_enter Tryd.func13, Tryd.ntmps13
    go_wp2
    go_ret
    exact ⟨rfl, Below.refl _ _⟩
end Go.Proofs.YtpoipgmphhfgeabDoor.Pa
