import Derived.Test.YtaejapdbghbgeaaSgF
namespace Go.Proofs.Ytaejapdbghbgeaa.Se
open Go.RowKit Go.Lib Go.Deep

structure Forge where
  which : Int
  kind : Int
  at_ : Int
  by_ : Int
  name : ByteArray
  more : ByteArray
  cut : Bool
def forgeC (f : Forge) : List Value := [.int .i64 f.which, .int .i64 f.kind, .int .i64 f.at_, .int .i64 f.by_, .string f.name, .string f.more, .bool f.cut]

theorem ne_empty {s : ByteArray} (h : s.size ≠ 0) : s.toList.isEmpty = false := by
  rw [toList_data]
  cases hs : s.data.toList with
  | nil =>
    exfalso
    apply h
    have : s.data.toList.length = 0 := by rw [hs]; rfl
    rw [Array.length_toList] at this
    exact this
  | cons x r => rfl
theorem see_seed {w : World} {bb off n cap : Nat} {ls : List Lay} (hn : ls.length = n) (h : See w (.slice (some ⟨bb, off, none⟩) n cap) n (layCells ls)) {k : Nat} {l : Lay} (hl : ls[k]? = some l) : ∀ W, Below w.heap.size w W → W.cell? ⟨bb, off + k * 5 + 3, none⟩ = some (.int .i64 l.seed) := fun W hb => by
  have hkl := (List.getElem?_eq_some_iff.1 hl).1
  have at_ := fc_at (f := layC) (s := 5) (fun _ => rfl) ls k l hl 3 (by omega)
  obtain ⟨a', bb', off', cap', hv, h2, _, h3⟩ := h.ex
  injection hv with hv1 _ hv2
  obtain ⟨e1, e2⟩ := h2 (by omega)
  have e := hv1.trans e1
  injection e with e
  injection e with e3 e4
  subst e3 e4
  rw [Nat.add_assoc]
  exact (hb.cell (p := ⟨bb, off + (k * 5 + 3), none⟩) e2).trans (h3 _ _ at_)

def wf64 (x : Int) : Prop := -9223372036854775808 ≤ x ∧ x ≤ 9223372036854775807

theorem lays_ok (bs : List Box) (_hn : bs.length ≤ 2097152) : ∀ l ∈ lays 0 bs, l.row.blob.size ≤ 281474976710656 ∧ placeE l.row.kind l.row.name = 0 ∧ (1 ≤ l.row.kind ∧ l.row.kind ≤ 3) ∧ l.row.name.size ≤ 64 ∧ (40 ≤ l.row.blob.size ∧ l.row.blob.size ≤ 4136) := fun l hl => by
  obtain ⟨k, hk⟩ := List.mem_iff_getElem?.1 hl
  have hkl := (List.getElem?_eq_some_iff.1 hk).1
  rw [lays_length] at hkl
  rw [lays_at bs 0 k _ (List.getElem?_eq_getElem hkl)] at hk
  obtain rfl := Option.some.inj hk
  obtain ⟨h1, h2, h3, h4⟩ := within_size bs[k]
  have hb : (rowOf (0 + k) bs[k]).blob.size = (withinB bs[k]).text.size + 40 := coinS_size _ _ _
  refine ⟨by show ByteArray.size (rowOf (0 + k) bs[k]).blob ≤ _; omega, ?_, ⟨h3, h4⟩, h2, by show 40 ≤ (rowOf (0 + k) bs[k]).blob.size ∧ (rowOf (0 + k) bs[k]).blob.size ≤ 4136; omega⟩
  show placeE (withinB bs[k]).kind (withinB bs[k]).name = 0
  unfold placeE
  rw [if_neg (by omega), if_neg (by omega)]

end Go.Proofs.Ytaejapdbghbgeaa.Se
