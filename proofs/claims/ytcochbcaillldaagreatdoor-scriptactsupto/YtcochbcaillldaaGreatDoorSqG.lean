import Derived.Test.YtcochbcaillldaaGreatDoorSqE
import Derived.Test.YtcochbcaillldaaGreatDoorSqB
import Derived.Test.YtcochbcaillldaaGreatDoorSpV
namespace Go.Proofs.YtcochbcaillldaaGreatDoor.Sc
open Go.RowKit Go.Lib Go.Deep

/-- what is left of an act can be left out -/
def bareA (r : ActR) : Bool := r.nops == 0 && r.i == 0 && r.before == 0 && r.ek == 0 && r.put == 0 && r.frm == 0 && r.name.toList.isEmpty && r.blob.toList.isEmpty
set_option maxRecDepth 20000 in
set_option maxHeartbeats 1000000 in
theorem isBareA_any (r : ActR) (w : World) :
    Calls Tryz.prog 26 #[r.val] w fun e w' => e = .returned (.bool (bareA r)) ∧ Below w.heap.size w w' := by
  have hA := fun o => (Below.refl w.heap.size w).alloc (Nat.le_refl _) o
  obtain ⟨k, a, n, c, i, b, ek, p, f, nm, bl⟩ := r
  show Calls _ _ #[.agg #[.int .i64 k, .slice a n c, .int .i64 i, .int .i64 b, .int .i64 ek, .int .i64 p, .int .i64 f, .string nm, .string bl]] w _
  go_enter Tryz.func26, Tryz.ntmps26
  go_wp2
  all_goals
    go_ret
    refine ⟨congrArg (fun b => Ending.returned (.bool b)) ?_, hA _⟩
    simp_all [bareA]

/-- the functions that write an act's line, by number -/
def shGA (f : FuncId) : ActR → Bool × List UInt8 → Bool × List UInt8 :=
  if f = 57 then fun o x => stN x [o.i]
  else if f = 59 then fun o x => stB (stB (stN x [o.before, o.ek, o.put, o.frm]) o.name) o.blob
  else fun _ x => x
def shRA (f : FuncId) : ActR → ActR :=
  if f = 57 then fun o => { o with i := 0 }
  else if f = 59 then fun o => o.noEdit
  else if f = 56 then fun o => { o with ops := none, nops := 0, cops := 0 }
  else fun o => o
theorem wrA_any (f : Fm) (hf : f ∈ actTab) : WrA f.wr (shGA f.wr) (shRA f.wr) := by
  unfold actTab at hf
  simp only [List.mem_cons, List.not_mem_nil, or_false] at hf
  rcases hf with rfl | rfl | rfl | rfl | rfl | rfl
  all_goals first | exact writeAlone_any | exact writeBatch_any | exact writeFuse_any | exact writeEdit_any
theorem cf_wrA (f : Fm) (hf : f ∈ actTab) (args : Array Value) (w : World) : (callFunc f.wr args).run Tryz.prog w = .ok (.enter f.wr args) w := by
  unfold actTab at hf
  simp only [List.mem_cons, List.not_mem_nil, or_false] at hf
  rcases hf with rfl | rfl | rfl | rfl | rfl | rfl
  all_goals kernel_rfl
/-- the line of an act, by its form -/
def lineA (o : ActR) (f : Fm) : Value :=
  if bareA (shRA f.wr o) = false then .tuple #[.string { data := #[] }, .int .i64 225]
  else if (shGA f.wr o (false, f.word.data.toList)).1 = true ∨ 262144 < (shGA f.wr o (false, f.word.data.toList)).2.length then .tuple #[.string { data := #[] }, .int .i64 221]
  else .tuple #[.string (str (shGA f.wr o (false, f.word.data.toList)).2), .int .i64 0]
def OutA (o : ActR) (e : Ending) : Prop := ((∀ f ∈ actTab, f.kind ≠ o.kind) ∧ e = .returned (.tuple #[.string { data := #[] }, .int .i64 222])) ∨ ∃ f ∈ actTab, f.kind = o.kind ∧ e = .returned (lineA o f)
theorem shGA_len (f : FuncId) (o : ActR) (hok : o.Ok) (x : Bool × List UInt8) : (shGA f o x).2.length ≤ x.2.length + 8388608 := by
  have hp := hok.name
  have hd := hok.blob
  have n1 := nmL_len [o.i] (by simp; exact hok.i)
  have n4 := nmL_len [o.before, o.ek, o.put, o.frm] (by simp; exact ⟨hok.before, hok.ek, hok.put, hok.frm⟩)
  have h1 := stB_len (stN x [o.before, o.ek, o.put, o.frm]) o.name
  have h2 := stB_len (stB (stN x [o.before, o.ek, o.put, o.frm]) o.name) o.blob
  simp only [List.length_cons, List.length_nil] at n1 n4
  unfold shGA
  repeat' split
  all_goals (simp only [stN, List.length_append] at h1 h2 ⊢; omega)
theorem wordA_len (f : Fm) (hf : f ∈ actTab) : f.word.size ≤ 7 ∧ f.word.data.toList.length ≤ 7 := by
  unfold actTab at hf
  simp only [List.mem_cons, List.not_mem_nil, or_false] at hf
  rcases hf with rfl | rfl | rfl | rfl | rfl | rfl
  all_goals exact ⟨by decide, by decide⟩

set_option maxRecDepth 20000 in
set_option maxHeartbeats 2000000 in
theorem written_act (o : ActR) (hok : o.Ok) (g : Nat) (w : World) (hg : w.heap[g]? = some (.cells (tabC actTab) 110 (0, 0))) (ht : ITab w) :
    Calls Tryz.prog 24 #[.slice (some ⟨g, 0, none⟩) 6 6, .int .i64 o.kind, o.val, .func (.func 26) #[] #[]] w fun e w' => OutA o e ∧ Below w.heap.size w w' := by
  obtain ⟨W, hW⟩ : ∃ W, (w.alloc (.cells #[.int .i64 o.kind] 3)).alloc (.cells o.cells 36) = W := ⟨_, rfl⟩
  have hbW : Below w.heap.size w W := by rw [← hW]; exact ((Below.refl _ _).alloc (Nat.le_refl _) _).alloc (by simp) _
  have hvW : ActAt W (w.heap.size + 1) o := by
    have h := heap_alloc_new (w.alloc (.cells #[.int .i64 o.kind] 3)) (.cells o.cells 36)
    rw [show (w.alloc (.cells #[.int .i64 o.kind] 3)).heap.size = w.heap.size + 1 by simp, hW] at h
    exact h
  have hkW : W.heap[w.heap.size]? = some (.cells #[.int .i64 o.kind] 3 (0, 0)) := by
    rw [← hW]
    exact (Lib.alloc_old _ _ _ (by simp)).trans (heap_alloc_new _ _)
  have hgW := (hbW.block _ (heap_lt hg)).trans hg
  have hx := indexFuncA_any actTab 6 rfl (by decide) o.kind w.heap.size g W (by rw [Lib.cell_of_heap hkW]; rfl) hgW
  have HOK : Hid o.Ok := hok
  have HT : Hid (ITab w) := ht
  have HV : Hid (ActAt W (w.heap.size + 1) o) := hvW
  have hvl := hvW.lt
  clear hvW hkW ht
  unfold ActR.val ActR.cells at *
  go_enter Tryz.func24, Tryz.ntmps24
  go_wp2_with (go_at_call 50; refine hx.mono ?_)
  rintro e w1 ⟨hidx, hb1⟩
  rcases hidx with ⟨i, f, hf, hfk, rfl⟩ | ⟨hno, rfl⟩
  · have hmem : f ∈ actTab := List.mem_of_getElem? hf
    have HF : Hid (f ∈ actTab ∧ f.kind = o.kind) := ⟨hmem, hfk⟩
    have hi10 : i < 6 := (List.getElem?_eq_some_iff.1 hf).1
    have hiI : (i : Int) < 6 := by omega
    have hiN : ¬ (i : Int) < 0 := by omega
    have hg1 := (hb1.block _ (heap_lt hgW)).trans hgW
    obtain ⟨c0, c1, c2, c3, c4⟩ := tab_cell hg1 hf
    have hl := lineOf_any f.word (by have := (wordA_len f hmem).1; omega) w1
    clear hfk hx
    go_wp2_with (go_at_call 52; refine hl.mono ?_)
    rintro e w2 ⟨rfl, hln, hb2⟩
    clear hl c0 c1 c2 c3 c4
    have hb12 : Below W.heap.size W w2 := hb1.trans (hb2.mono hb1.size)
    obtain ⟨c0, c1, c2, c3, c4⟩ := tab_cell ((hb2.block _ (heap_lt hg1)).trans hg1) hf
    have hvb : w.heap.size + 1 < w1.heap.size := Nat.lt_of_lt_of_le hvl hb1.size
    have ht2 : ITab w2 := HT.out.below (hbW.trans (hb12.mono hbW.size)) HT.out.lt
    have hwl := (wordA_len f hmem).2
    have hwr := wrA_any f hmem o (false, f.word.data.toList) w1.heap.size (w.heap.size + 1) w2 HOK.out hln (HV.out.below hb12 hvl) hvb ht2 (by have := HT.out.lt; omega) (by show f.word.data.toList.length ≤ _; omega)
    have hcf := cf_wrA f hmem
    have hgl := shGA_len f.wr o HOK.out (false, f.word.data.toList)
    have HOUT : Hid (∀ e, e = .returned (lineA o f) → OutA o e) := fun e he => .inr ⟨f, HF.out.1, HF.out.2, he⟩
    unfold lineA at HOUT
    generalize f.wr = fw at *
    obtain ⟨r, hr⟩ : ∃ r, shRA fw o = r := ⟨_, rfl⟩
    obtain ⟨y, hy⟩ : ∃ y, shGA fw o (false, f.word.data.toList) = y := ⟨_, rfl⟩
    rw [hr, hy] at hwr HOUT
    rw [hy] at hgl
    clear hr hy hf hmem
    have hbV : Below w.heap.size w w2 := hbW.trans (hb12.mono hbW.size)
    go_wp2_with fail
    refine hwr.mono ?_
    rintro e w3 ⟨rfl, hu3, ho3, hb3⟩
    clear hwr hcf c0 c1 c2 c3 c4
    have hb3w : Below w.heap.size w w3 := hbV.trans (hb3.mono (Nat.le_succ _))
    obtain ⟨q0, q1, q2, q3, q4, q5, q6, q7, q8⟩ := ho3.nine
    have hba := isBareA_any r w3
    unfold ActR.val ActR.cells at hba
    have hdn := done_any y.1 w1.heap.size y.2
    by_cases hbr : bareA r = true
    · rw [hbr] at hba HOUT
      go_wp2_with (go_at_call 26; refine hba.mono ?_; rintro e w4 ⟨rfl, hb4⟩; clear hba)
      have hd := hdn w4 (hu3.below hb4) (by omega)
      clear hdn
      by_cases hl : y.1 = true ∨ 262144 < y.2.length
      · rw [if_pos hl] at hd
        have HO1 : Hid (∀ e, e = .returned (.tuple #[.string { data := #[] }, .int .i64 221]) → OutA o e) := fun e he => HOUT.out e (by rw [if_neg (by decide), if_pos hl]; exact he)
        go_wp2_with (go_at_call 53; refine hd.mono ?_; rintro e w5 ⟨rfl, hb5⟩; clear hd)
        go_ret2
        exact ⟨HO1.out _ rfl, (hb3w.trans (hb4.mono hb3w.size)).trans (hb5.mono (by have := hbW.size; have := hb1.size; omega))⟩
      · rw [if_neg hl] at hd
        have HO1 : Hid (∀ e, e = .returned (.tuple #[.string (str y.2), .int .i64 0]) → OutA o e) := fun e he => HOUT.out e (by rw [if_neg (by decide), if_neg hl]; exact he)
        go_wp2_with (go_at_call 53; refine hd.mono ?_; rintro e w5 ⟨rfl, hb5⟩; clear hd)
        go_ret2
        exact ⟨HO1.out _ rfl, (hb3w.trans (hb4.mono hb3w.size)).trans (hb5.mono (by have := hbW.size; have := hb1.size; omega))⟩
    · have hbr : bareA r = false := by simpa using hbr
      rw [hbr] at hba HOUT
      have HO1 : Hid (∀ e, e = .returned (.tuple #[.string { data := #[] }, .int .i64 225]) → OutA o e) := fun e he => HOUT.out e (by rw [if_pos rfl]; exact he)
      clear hdn
      go_wp2_with (go_at_call 26; refine hba.mono ?_; rintro e w4 ⟨rfl, hb4⟩; clear hba)
      go_ret2
      exact ⟨HO1.out _ rfl, hb3w.trans (hb4.mono hb3w.size)⟩
  · go_wp2
    go_ret2
    exact ⟨.inl ⟨hno, rfl⟩, hbW.trans (hb1.mono hbW.size)⟩
end Go.Proofs.YtcochbcaillldaaGreatDoor.Sc
