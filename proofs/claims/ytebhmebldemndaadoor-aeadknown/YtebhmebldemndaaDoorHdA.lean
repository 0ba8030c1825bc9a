import Derived.Test.YtebhmebldemndaaDoorAeA
import Derived.Test.YtebhmebldemndaaDoorMacM
namespace Go.Proofs.YtebhmebldemndaaDoor.Ae
open Go.RowKit Go.Lib Go.Deep

/-- texts, one behind the other -/
def cat (ss : List ByteArray) : List UInt8 := (ss.map fun s => s.data.toList).flatten
theorem cat_take (ss : List ByteArray) (k : Nat) (s : ByteArray) (h : ss[k]? = some s) : cat (ss.take (k + 1)) = cat (ss.take k) ++ s.data.toList := by
  unfold cat
  rw [List.take_add_one, h]
  simp

set_option maxRecDepth 20000 in
set_option maxHeartbeats 1000000 in
theorem handOn_any {w : World} {p r s : Nat} {l : List UInt8} (hM : Pol.Mac w p r s l) (hr : r < 1361129467683753853853498429727072845824) (ss : List ByteArray) (b off cap : Nat) (hbp : b ≠ p) (hbw : b < w.heap.size)
    (hc : ∀ i x, ss[i]? = some x → w.cell? ⟨b, off + i, none⟩ = some (.string x)) (hlen : ss.length ≤ 1000000) (hz : ∀ x ∈ ss, x.size ≤ 9223372036854775807) :
    Calls Tryd.prog 44 #[.func (.func 45) #[.pointer (some ⟨p, 0, none⟩)] #[], .slice (some ⟨b, off, none⟩) ss.length cap] w fun e w' => e = .returned (.int .i64 0) ∧ Pol.Mac w' p r s (l ++ cat ss) ∧ Only [p] w w' := by
  obtain ⟨len, hl⟩ : ∃ len, ss.length = len := ⟨_, rfl⟩
  rw [hl]
  have HC : Hid (∀ i x, ss[i]? = some x → w.cell? ⟨b, off + i, none⟩ = some (.string x)) := hc
  have HZ : Hid (∀ x ∈ ss, x.size ≤ 9223372036854775807) := hz
  have HM : Hid (Pol.Mac w p r s l) := hM
  have HL : Hid (ss.length = len) := hl
  clear hc hz hM
  rw [hl] at hlen
  clear hl
  go_enter Tryd.func44, Tryd.ntmps44
  go_wp2
  go_loopg [10] len (fun gk i wr => ∃ k : Nat, k + gk = len ∧ i = .int .i64 (k : Int) ∧ Pol.Mac wr p r s (l ++ cat (ss.take k)) ∧ Only [p] w wr)
  case atStart => exact ⟨0, by omega, rfl, by rw [List.take_zero, show cat [] = [] from rfl, List.append_nil]; exact HM.out, Only.refl _ _⟩
  case round =>
    obtain ⟨k, hk, rfl, hM, ho⟩ := hrel
    have HK : Hid (k + gk = len) := hk
    have hk' : k ≤ len := by omega
    clear hk
    by_cases hlt : k < len
    · obtain ⟨x, hx⟩ : ∃ x, ss[k]? = some x := ⟨_, List.getElem?_eq_getElem (by rw [HL.out]; exact hlt)⟩
      have hltI : (k : Int) < (len : Int) := by omega
      have hcell : wr.cell? ⟨b, off + k, none⟩ = some (.string x) := by
        have e := ho.block b hbw (by simp; omega)
        refine Eq.trans ?_ (HC.out k x hx)
        unfold World.cell?
        rw [e]
      have hwr := Pol.write_any hM hr x (HZ.out x (List.mem_of_getElem? hx))
      rw [List.append_assoc, ← cat_take ss k x hx] at hwr
      clear hx hM
      go_wp2_with (go_at_call 45; refine hwr.mono ?_; rintro e w2 ⟨rfl, hM2, ho2⟩)
      go_roundg (gk - 1)
      case measure => have := HK.out; omega
      case rel => exact ⟨k + 1, by have := HK.out; omega, by go_num, hM2, ho.trans ho2⟩
    · obtain rfl : k = len := by omega
      have hltI : ¬ (k : Int) < (k : Int) := by omega
      have HM2 : Hid (Pol.Mac wr p r s (l ++ cat ss)) := by
        rw [List.take_of_length_le (by rw [HL.out]; omega)] at hM
        exact hM
      clear hM
      go_wp2
      go_ret
      exact ⟨rfl, HM2.out, ho⟩

end Go.Proofs.YtebhmebldemndaaDoor.Ae
