import Derived.Test.YtlmopjbfagijeaaGreatDoorYdM
namespace Go.Proofs.YtlmopjbfagijeaaGreatDoor.Sc
open Go.RowKit Go.Lib Go.Deep

theorem cf_wr (f : Fm) (hf : f ∈ opTab) (args : Array Value) (w : World) : (callFunc f.wr args).run Tryz.prog w = .ok (.enter f.wr args) w := by
  unfold opTab at hf
  simp only [List.mem_cons, List.not_mem_nil, or_false] at hf
  rcases hf with rfl | rfl | rfl | rfl | rfl | rfl | rfl | rfl | rfl | rfl
  all_goals kernel_rfl
/-- the line of an operation, by its form -/
def lineW (o : OpR) (f : Fm) : Value :=
  if bare (shR f.wr o) o.kind = false then .tuple #[.string { data := #[] }, .int .i64 225]
  else if (shG f.wr o (false, f.word.data.toList)).1 = true ∨ 262144 < (shG f.wr o (false, f.word.data.toList)).2.length then .tuple #[.string { data := #[] }, .int .i64 221]
  else .tuple #[.string (str (shG f.wr o (false, f.word.data.toList)).2), .int .i64 0]
def OutW (o : OpR) (e : Ending) : Prop := ((∀ f ∈ opTab, f.kind ≠ o.kind) ∧ e = .returned (.tuple #[.string { data := #[] }, .int .i64 222])) ∨ ∃ f ∈ opTab, f.kind = o.kind ∧ e = .returned (lineW o f)
theorem shR_kind (f : FuncId) (o : OpR) : (shR f o).kind = o.kind := by
  unfold shR
  repeat' split
  all_goals rfl
theorem shG_len (f : FuncId) (o : OpR) (hok : o.Ok) (x : Bool × List UInt8) : (shG f o x).2.length ≤ x.2.length + 8388608 := by
  have hp := hok.path
  have ht := hok.to
  have hd := hok.data
  have h1 := stB_len x o.path
  have n1 := nmL_len [o.n] (by simp; exact hok.n)
  have n2 := nmL_len [o.at_] (by simp; exact hok.at_)
  have n3 := nmL_len [o.at_, o.n] (by simp; exact ⟨hok.at_, hok.n⟩)
  have h2 := stB_len (stB x o.path) o.to
  have h3 := stB_len (stN (stB x o.path) [o.at_]) o.data
  simp only [List.length_cons, List.length_nil] at n1 n2 n3
  unfold shG
  repeat' split
  all_goals (simp only [stN, List.length_append] at h3 ⊢; omega)
theorem word_len (f : Fm) (hf : f ∈ opTab) : f.word.size ≤ 6 ∧ f.word.data.toList.length ≤ 6 := by
  unfold opTab at hf
  simp only [List.mem_cons, List.not_mem_nil, or_false] at hf
  rcases hf with rfl | rfl | rfl | rfl | rfl | rfl | rfl | rfl | rfl | rfl
  all_goals exact ⟨by decide, by decide⟩

set_option maxRecDepth 20000 in
set_option maxHeartbeats 2000000 in
theorem written_op (o : OpR) (hok : o.Ok) (ob g : Nat) (w : World) (ho : OpAt w ob o) (hg : w.heap[g]? = some (.cells (tabC opTab) 137 (0, 0))) (ht : ITab w) :
    Calls Tryz.prog 39 #[.slice (some ⟨g, 0, none⟩) 10 10, .int .i64 o.kind, o.val, .func (.func 41) #[] #[.pointer (some ⟨ob, 0, none⟩)]] w fun e w' => OutW o e ∧ Below w.heap.size w w' := by
  obtain ⟨W, hW⟩ : ∃ W, (w.alloc (.cells #[.int .i64 o.kind] 3)).alloc (.cells o.cells 54) = W := ⟨_, rfl⟩
  have hbW : Below w.heap.size w W := by rw [← hW]; exact ((Below.refl _ _).alloc (Nat.le_refl _) _).alloc (by simp) _
  have hvW : OpAt W (w.heap.size + 1) o := by
    have h := heap_alloc_new (w.alloc (.cells #[.int .i64 o.kind] 3)) (.cells o.cells 54)
    rw [show (w.alloc (.cells #[.int .i64 o.kind] 3)).heap.size = w.heap.size + 1 by simp, hW] at h
    exact h
  have hkW : W.heap[w.heap.size]? = some (.cells #[.int .i64 o.kind] 3 (0, 0)) := by
    rw [← hW]
    exact (Lib.alloc_old _ _ _ (by simp)).trans (heap_alloc_new _ _)
  have hgW := (hbW.block _ (heap_lt hg)).trans hg
  have hx := indexFunc_any opTab 10 rfl (by decide) o.kind w.heap.size g W (by rw [Lib.cell_of_heap hkW]; rfl) hgW
  have HOK : Hid o.Ok := hok
  have HO : Hid (OpAt w ob o) := ho
  have HT : Hid (ITab w) := ht
  have HV : Hid (OpAt W (w.heap.size + 1) o) := hvW
  have hvl := hvW.lt
  have hobl := ho.lt
  clear hvW hkW ho ht
  unfold OpR.val OpR.cells at *
  go_enter Tryz.func39, Tryz.ntmps39
  go_wp2_with (go_at_call 75; refine hx.mono ?_)
  rintro e w1 ⟨hidx, hb1⟩
  rcases hidx with ⟨i, f, hf, hfk, rfl⟩ | ⟨hno, rfl⟩
  · have hmem : f ∈ opTab := List.mem_of_getElem? hf
    have HF : Hid (f ∈ opTab ∧ f.kind = o.kind) := ⟨hmem, hfk⟩
    have hi10 : i < 10 := (List.getElem?_eq_some_iff.1 hf).1
    have hiI : (i : Int) < 10 := by omega
    have hiN : ¬ (i : Int) < 0 := by omega
    have hg1 := (hb1.block _ (heap_lt hgW)).trans hgW
    obtain ⟨c0, c1, c2, c3, c4⟩ := tab_cell hg1 hf
    have hl := lineOf_any f.word (by have := (word_len f hmem).1; omega) w1
    clear hfk hx
    go_wp2_with (go_at_call 52; refine hl.mono ?_)
    rintro e w2 ⟨rfl, hln, hb2⟩
    clear hl c0 c1 c2 c3 c4
    have hb12 : Below W.heap.size W w2 := hb1.trans (hb2.mono hb1.size)
    obtain ⟨c0, c1, c2, c3, c4⟩ := tab_cell ((hb2.block _ (heap_lt hg1)).trans hg1) hf
    have hvb : w.heap.size + 1 < w1.heap.size := Nat.lt_of_lt_of_le hvl hb1.size
    have ht2 : ITab w2 := HT.out.below (hbW.trans (hb12.mono hbW.size)) HT.out.lt
    have hwl := (word_len f hmem).2
    have hwr := wr_any f hmem o (false, f.word.data.toList) w1.heap.size (w.heap.size + 1) w2 HOK.out hln (HV.out.below hb12 hvl) hvb ht2 (by have := HT.out.lt; omega) (by show f.word.data.toList.length ≤ _; omega)
    have hcf := cf_wr f hmem
    have hgl := shG_len f.wr o HOK.out (false, f.word.data.toList)
    have HOUT : Hid (∀ e, e = .returned (lineW o f) → OutW o e) := fun e he => .inr ⟨f, HF.out.1, HF.out.2, he⟩
    unfold lineW at HOUT
    generalize f.wr = fw at *
    obtain ⟨r, hr⟩ : ∃ r, shR fw o = r := ⟨_, rfl⟩
    obtain ⟨y, hy⟩ : ∃ y, shG fw o (false, f.word.data.toList) = y := ⟨_, rfl⟩
    rw [hr, hy] at hwr HOUT
    rw [hy] at hgl
    clear hr hy hf hmem
    have hbV : Below w.heap.size w w2 := hbW.trans (hb12.mono hbW.size)
    go_wp2_with fail
    refine hwr.mono ?_
    rintro e w3 ⟨rfl, hu3, ho3, hb3⟩
    clear hwr hcf c0 c1 c2 c3 c4
    have hb3w : Below w.heap.size w w3 := hbV.trans (hb3.mono (Nat.le_succ _))
    obtain ⟨q0, q1, q2, q3, q4, q5⟩ := ho3.six
    have hba := isBare_any o r ob w3 (HO.out.below hb3w hobl)
    unfold OpR.val OpR.cells at hba
    have hdn := done_any y.1 w1.heap.size y.2
    by_cases hbr : bare r o.kind = true
    · rw [hbr] at hba HOUT
      go_wp2_with (go_at_call 41; refine hba.mono ?_; rintro e w4 ⟨rfl, hb4⟩; clear hba)
      have hd := hdn w4 (hu3.below hb4) (by omega)
      clear hdn
      by_cases hl : y.1 = true ∨ 262144 < y.2.length
      · rw [if_pos hl] at hd
        have HO1 : Hid (∀ e, e = .returned (.tuple #[.string { data := #[] }, .int .i64 221]) → OutW o e) := fun e he => HOUT.out e (by rw [if_neg (by decide), if_pos hl]; exact he)
        go_wp2_with (go_at_call 53; refine hd.mono ?_; rintro e w5 ⟨rfl, hb5⟩; clear hd)
        go_ret2
        exact ⟨HO1.out _ rfl, (hb3w.trans (hb4.mono hb3w.size)).trans (hb5.mono (by have := hbW.size; have := hb1.size; omega))⟩
      · rw [if_neg hl] at hd
        have HO1 : Hid (∀ e, e = .returned (.tuple #[.string (str y.2), .int .i64 0]) → OutW o e) := fun e he => HOUT.out e (by rw [if_neg (by decide), if_neg hl]; exact he)
        go_wp2_with (go_at_call 53; refine hd.mono ?_; rintro e w5 ⟨rfl, hb5⟩; clear hd)
        go_ret2
        exact ⟨HO1.out _ rfl, (hb3w.trans (hb4.mono hb3w.size)).trans (hb5.mono (by have := hbW.size; have := hb1.size; omega))⟩
    · have hbr : bare r o.kind = false := by simpa using hbr
      rw [hbr] at hba HOUT
      have HO1 : Hid (∀ e, e = .returned (.tuple #[.string { data := #[] }, .int .i64 225]) → OutW o e) := fun e he => HOUT.out e (by rw [if_pos rfl]; exact he)
      clear hdn
      go_wp2_with (go_at_call 41; refine hba.mono ?_; rintro e w4 ⟨rfl, hb4⟩; clear hba)
      go_ret2
      exact ⟨HO1.out _ rfl, hb3w.trans (hb4.mono hb3w.size)⟩
  · go_wp2
    go_ret2
    exact ⟨.inl ⟨hno, rfl⟩, hbW.trans (hb1.mono hbW.size)⟩
end Go.Proofs.YtlmopjbfagijeaaGreatDoor.Sc
