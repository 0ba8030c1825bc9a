import Derived.Test.YtbdgbefjmfcgcaaDoorIxZg
import Derived.Test.YtbdgbefjmfcgcaaDoorIxZe
import Derived.Test.YtbdgbefjmfcgcaaDoorIxNb
import Derived.Test.YtbdgbefjmfcgcaaDoorIxH
namespace Go.Proofs.YtbdgbefjmfcgcaaDoor.Ix
open Go.RowKit Go.Lib Go.Deep
theorem who_len {sl fl dr mf ls pg : Nat} (hc : Cn.May ⟨sl, fl, dr, mf, ls, pg⟩) {T : List Nd} {O : List Ob} {Q : List Int} (hT : risB ⟨sl, fl, dr, mf, ls, pg⟩ 0 T = true) (hP : poolB ⟨sl, fl, dr, mf, ls, pg⟩ O Q = true) : (whoL ⟨sl, fl, dr, mf, ls, pg⟩ T O Q).length = Cn.pgs ⟨sl, fl, dr, mf, ls, pg⟩ * (pg - 5) := by
  obtain ⟨⟨h1o, h1q⟩, h2o, h2q⟩ := pool_iff.1 hP
  obtain ⟨i1, i2, i3, i4, i5⟩ := imgL_len (ris_at hT).1 h2o h1o h1q
  have := hc.1.fit.1
  unfold whoL
  rw [List.length_append, i5]
  simp only [z0, List.length_replicate]
  have e : Cn.body ⟨sl, fl, dr, mf, ls, pg⟩ = pg - 5 := rfl
  rw [e] at this ⊢
  omega
theorem who_ab {sl fl dr mf ls pg : Nat} (hc : Cn.May ⟨sl, fl, dr, mf, ls, pg⟩) {T : List Nd} {O : List Ob} {Q : List Int} (hT : risB ⟨sl, fl, dr, mf, ls, pg⟩ 0 T = true) (hP : poolB ⟨sl, fl, dr, mf, ls, pg⟩ O Q = true) : abB ⟨sl, fl, dr, mf, ls, pg⟩ (cutL (pg - 5) (Cn.pgs ⟨sl, fl, dr, mf, ls, pg⟩) (whoL ⟨sl, fl, dr, mf, ls, pg⟩ T O Q)) = true :=
  ab_iff.2 ⟨cut_len _ _ _, cut_sizes (who_len hc hT hP)⟩
set_option maxRecDepth 20000 in
/-- a slice of texts, one less -/
theorem sl_less (W : World) (b n cap : Nat) (z : Int) (h : z = ((n - 1 : Nat) : Int)) (h1 : n - 1 ≤ cap) : (Instr.slice 34 (.slice (some ⟨b, 0, none⟩) n cap) none (some (.int .i64 z)) none).run Tryd.prog W = .ok (.slice (some ⟨b, 0, none⟩) (n - 1) cap) W := by
  obtain ⟨i0, hi0, hs0⟩ : ∃ i0, Tryd.prog.info? 9 = some i0 ∧ i0.size = 1 := by
    obtain ⟨i0, hi, -, hz1, -⟩ := info_parts info9
    exact ⟨i0, hi, hz1⟩
  have he : Tryd.prog.elem 34 = 9 := by kernel_rfl
  rw [run_slice_h (P := Tryd.prog) (ht := Tryd.underlying34) (kh := .i64) (h := z) (h0 := by omega) (h2 := by omega)]
  have hz : z.toNat = n - 1 := by omega
  simp [sizeOf, typeInfo, he, hi0, hs0, sliced, hz, Result.andThen, Addr.add_lit]
/-- a list of texts, one less -/
theorem see_less {w : World} {B e n cap g : Nat} {P : List ByteArray} (h : w.ownsRow B e 1 (.slice (some ⟨g, 0, none⟩) n cap) n (scC P)) (hP : P.length = n) (hn : 1 ≤ n) : See w 1 (.slice (some ⟨g, 0, none⟩) (n - 1) cap) (n - 1) (scC (P.take (n - 1))) := by
  obtain ⟨m, rfl⟩ : ∃ m, n = m + 1 := ⟨n - 1, by omega⟩
  rw [Nat.add_sub_cancel]
  refine see_take (L := scC (P.drop m)) (e := e) (B := B) ?_ (by rw [scC, List.length_map, List.length_take]; omega) (sc_one _)
  rw [show scC (P.take m) ++ scC (P.drop m) = scC P by rw [scC, scC, ← List.map_append, List.take_append_drop]; rfl]
  exact h
end Go.Proofs.YtbdgbefjmfcgcaaDoor.Ix
