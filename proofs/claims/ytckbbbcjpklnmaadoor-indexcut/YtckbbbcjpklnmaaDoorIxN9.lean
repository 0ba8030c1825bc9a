import Derived.Test.YtckbbbcjpklnmaaDoorIxN8
import Derived.Test.YtckbbbcjpklnmaaDoorIxT
namespace Go.Proofs.YtckbbbcjpklnmaaDoor.Ix
open Go.RowKit Go.Lib Go.Deep
theorem slot_ok {c : Cn} {T : List Nd} {p : Int} (hc : c.In) (h : ∀ m ∈ T, NdF c m) : (slot c T p).nm.size ≤ 32 ∧ (0 ≤ (slot c T p).pa ∧ (slot c T p).pa ≤ 4294967296) ∧ (0 ≤ (slot c T p).sz ∧ (slot c T p).sz ≤ 4294967296) := by
  refine ⟨slot_size h, ?_⟩
  have h1 : c.dr ≤ 4096 := hc.2.2.2.2.1
  have h2 : c.mf ≤ 65536 := hc.2.2.2.2.2.1
  rcases slot_or (p := p) h with e | ⟨_, e, _⟩
  · rw [e]
    exact ⟨⟨by decide, by decide⟩, by decide, by decide⟩
  · have e1 := e.1
    have e2 := e.2.1
    have e3 := e.2.2.1
    omega
theorem dirs_ok {c : Cn} {T : List Nd} (hc : c.In) (h : ∀ m ∈ T, NdF c m) : ∀ x ∈ dirsL c T, x.nm.size ≤ 32 ∧ (0 ≤ x.pa ∧ x.pa ≤ 4294967296) := fun x hx => by
  obtain ⟨k, _, rfl⟩ := List.mem_map.1 hx
  have := slot_ok (p := (k : Int) + 1) hc h
  exact ⟨this.1, this.2.1⟩
theorem fils_ok {c : Cn} {T : List Nd} (hc : c.In) (h : ∀ m ∈ T, NdF c m) : ∀ x ∈ filsL c T, x.nm.size ≤ 32 ∧ (0 ≤ x.pa ∧ x.pa ≤ 4294967296) ∧ (0 ≤ x.sz ∧ x.sz ≤ 4294967296) := fun x hx => by
  obtain ⟨k, _, rfl⟩ := List.mem_map.1 hx
  exact slot_ok hc h
theorem obs_ok {c : Cn} {O : List Ob} (hc : c.In) (h : ∀ o ∈ O, ObF c o) : ∀ x ∈ O, x.nm.size ≤ 1000 ∧ x.tg.size ≤ 1000 ∧ (0 ≤ x.bk ∧ x.bk ≤ 4294967296) ∧ (-1 ≤ x.ow ∧ x.ow ≤ 4294960000) := fun x hx => by
  have h1 : c.fl ≤ 65536 := hc.2.2.2.1
  obtain ⟨e1, e2, e3, e4, e5, e6⟩ := h x hx
  omega
theorem cnt_ok {c : Cn} {Q : List Int} (hc : c.In) (hl : Q.length ≤ c.rows) (h : ∀ q ∈ Q, 0 ≤ q ∧ q < c.rows) : ∀ x ∈ cntL c Q, 0 ≤ x ∧ x ≤ 4294960000 := fun x hx => by
  have h1 : c.fl ≤ 65536 := hc.2.2.2.1
  have h2 : c.sl ≤ 64 := hc.2.1
  have h3 : c.rows = c.fl + c.sl := rfl
  unfold cntL at hx
  rcases List.mem_cons.1 hx with e | hx
  · omega
  · rcases List.mem_append.1 hx with hx | hx
    · have := h x hx
      omega
    · have := (List.mem_replicate.1 hx).2
      omega
theorem ris_at {c : Cn} {T : List Nd} (h : risB c 0 T = true) : (∀ m ∈ T, NdF c m) ∧ ∀ i x, T[i]? = some x → NdF c x ∧ ∀ m ∈ T.take i, plc c m < plc c x := by
  obtain ⟨h1, h2⟩ := (ris_iff c T 0).1 h
  refine ⟨fun m hm => (h1 m hm).1, fun i x hx => ⟨(h1 x (List.mem_of_getElem? hx)).1, fun m hm => ?_⟩⟩
  obtain ⟨j, hj, rfl⟩ := List.mem_iff_getElem.1 hm
  rw [List.length_take] at hj
  rw [List.getElem_take]
  obtain ⟨hi, rfl⟩ := List.getElem?_eq_some_iff.1 hx
  exact List.pairwise_iff_getElem.1 h2 j i (by omega) hi (by omega)
end Go.Proofs.YtckbbbcjpklnmaaDoor.Ix
