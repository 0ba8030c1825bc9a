import Derived.Test.YtbdgbefjmfcgcaaDoorPaM
namespace Go.Proofs.YtbdgbefjmfcgcaaDoor.Ix
open Go.RowKit Go.Lib Go.Deep
/-- a name of letters -/
theorem nm_letters (L : List UInt8) (h1 : 1 ≤ L.length) (h2 : L.length ≤ 32) (h : ∀ x ∈ L, 97 ≤ x.toNat ∧ x.toNat ≤ 122) : Pa.nm (str L) = true := by
  have hs : (str L).data.toList = L := str_data L
  simp only [Pa.nm, Pa.isN, hs, Bool.and_eq_true, decide_eq_true_eq]
  refine ⟨⟨⟨⟨h1, h2⟩, fun e => ?_⟩, fun e => ?_⟩, List.all_eq_true.2 fun x hx => ?_⟩
  · have := h 46 (by rw [e]; simp)
    simp at this
  · have := h 46 (by rw [e]; simp)
    simp at this
  · have := h x hx
    simp only [Pa.nb, Bool.and_eq_true, decide_eq_true_eq]
    omega
/-- the nodes up to a place -/
def Tk (c : Cn) (k : Nat) (T : List Nd) : Prop := (∀ m ∈ T, NdF c m ∧ plc c m ≤ k) ∧ T.Pairwise (fun a b => plc c a < plc c b)
theorem tk_nil (c : Cn) : Tk c 0 [] := ⟨fun m hm => by simp at hm, List.Pairwise.nil⟩
theorem tk_skip {c : Cn} {k : Nat} {T : List Nd} (h : Tk c k T) : Tk c (k + 1) T := ⟨fun m hm => ⟨(h.1 m hm).1, by have := (h.1 m hm).2; omega⟩, h.2⟩
theorem tk_snoc {c : Cn} {k : Nat} {T : List Nd} {n : Nd} (h : Tk c k T) (hn : NdF c n) (hp : plc c n = (k : Int) + 1) : Tk c (k + 1) (T ++ [n]) := by
  refine ⟨fun m hm => ?_, List.pairwise_append.2 ⟨h.2, by simp, fun a ha b hb => ?_⟩⟩
  · rcases List.mem_append.1 hm with hm | hm
    · exact ⟨(h.1 m hm).1, by have := (h.1 m hm).2; omega⟩
    · obtain rfl : m = n := by simpa using hm
      exact ⟨hn, by omega⟩
  · obtain rfl : b = n := by simpa using hb
    have := (h.1 a ha).2
    omega
theorem tk_ris {c : Cn} {k : Nat} {T : List Nd} (h : Tk c k T) : risB c 0 T = true := by
  rw [ris_iff]
  exact ⟨fun m hm => ⟨(h.1 m hm).1, by have := (plc_ge (h.1 m hm).1).1; omega⟩, h.2⟩
theorem nd_dir (sl fl dr mf ls pg k : Nat) (z : Int) (nm : ByteArray) (hn : Pa.nm nm = true) (hk : k < dr) : NdF ⟨sl, fl, dr, mf, ls, pg⟩ ⟨1, (k : Int) + 1, z % ((dr : Int) + 1), nm, 0⟩ ∧ plc ⟨sl, fl, dr, mf, ls, pg⟩ ⟨1, (k : Int) + 1, z % ((dr : Int) + 1), nm, 0⟩ = (k : Int) + 1 := by
  have h1 := Int.emod_nonneg z (b := (dr : Int) + 1) (by omega)
  have h2 := Int.emod_lt_of_pos z (b := (dr : Int) + 1) (by omega)
  refine ⟨⟨.inl ⟨rfl, by simp only; omega, by simp only; omega, rfl⟩, h1, by simp only; omega, hn⟩, by simp [plc]⟩
theorem nd_file (sl fl dr mf ls pg k : Nat) (z : Int) (nm : ByteArray) (hn : Pa.nm nm = true) (hk : dr ≤ k) (hk2 : k < dr + fl) : NdF ⟨sl, fl, dr, mf, ls, pg⟩ ⟨2, (k : Int) - dr, z % ((dr : Int) + 1), nm, z % ((mf : Int) + 1)⟩ ∧ plc ⟨sl, fl, dr, mf, ls, pg⟩ ⟨2, (k : Int) - dr, z % ((dr : Int) + 1), nm, z % ((mf : Int) + 1)⟩ = (k : Int) + 1 := by
  have h1 := Int.emod_nonneg z (b := (dr : Int) + 1) (by omega)
  have h2 := Int.emod_lt_of_pos z (b := (dr : Int) + 1) (by omega)
  have h3 := Int.emod_nonneg z (b := (mf : Int) + 1) (by omega)
  have h4 := Int.emod_lt_of_pos z (b := (mf : Int) + 1) (by omega)
  refine ⟨⟨.inr ⟨rfl, by simp only; omega, by simp only; omega, h3, by simp only; omega⟩, h1, by simp only; omega, hn⟩, ?_⟩
  simp [plc]
  omega
theorem ob_made (sl fl dr mf ls pg : Nat) (z : Int) (a b : ByteArray) (ha : a.size = 16) (hb : b.size = 16) : ObF ⟨sl, fl, dr, mf, ls, pg⟩ ⟨a, b, z % 1048577, z % ((fl : Int) + 1) - 1⟩ := by
  have h1 := Int.emod_nonneg z (b := (fl : Int) + 1) (by omega)
  have h2 := Int.emod_lt_of_pos z (b := (fl : Int) + 1) (by omega)
  refine ⟨ha, hb, ?_, ?_, ?_, ?_⟩
  all_goals simp only
  all_goals omega
/-- are they bodies of pages? -/
def abB (c : Cn) (P : List ByteArray) : Bool := decide (P.length = c.pgs) && P.all (fun s => decide (s.size = c.pg - 5))
theorem ab_iff {c : Cn} {P : List ByteArray} : abB c P = true ↔ P.length = c.pgs ∧ ∀ s ∈ P, s.size = c.pg - 5 := by
  simp [abB]
end Go.Proofs.YtbdgbefjmfcgcaaDoor.Ix
