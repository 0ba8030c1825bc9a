import Derived.Test.YtlmopjbfagijeaaGreatDoorYeM
import Derived.Test.YtlmopjbfagijeaaGreatDoorYdM
import Derived.Test.YtlmopjbfagijeaaGreatDoorYiM
import Derived.Test.YtlmopjbfagijeaaGreatDoorYcM
namespace Go.Proofs.YtlmopjbfagijeaaGreatDoor.Sc
open Go.RowKit Go.Lib Go.Deep

set_option maxRecDepth 20000 in
set_option maxHeartbeats 1000000 in
theorem isKindA_any (f : Fm) (kind : Int) (kb : Nat) (w : World) (hk : w.cell? ⟨kb, 0, none⟩ = some (.int .i64 kind)) :
    Calls Tryz.prog 51 #[f.val, .pointer (some ⟨kb, 0, none⟩)] w fun e w' => e = .returned (.bool (f.kind == kind)) ∧ Below w.heap.size w w' := by
  obtain ⟨k, wd, c, a, b⟩ := f
  unfold Fm.val
  have hA := fun o => (Below.refl w.heap.size w).alloc (Nat.le_refl _) o
  have hk2 : ∀ o, (w.alloc o).cell? ⟨kb, 0, none⟩ = some (.int .i64 kind) := fun o => ((hA o).cell (p := ⟨kb, 0, none⟩) (block_lt_of_cell hk)).trans hk
  go_enter Tryz.func51, Tryz.ntmps51
  go_wp2
  go_ret
  exact ⟨rfl, hA _⟩

set_option maxRecDepth 20000 in
set_option maxHeartbeats 1000000 in
theorem indexFuncA_any (L : List Fm) (n : Nat) (hn : L.length = n) (hn1 : n ≤ 1000) (kind : Int) (kb g : Nat) (w : World) (hk : w.cell? ⟨kb, 0, none⟩ = some (.int .i64 kind)) (hg : w.heap[g]? = some (.cells (tabC L) 110 (0, 0))) :
    Calls Tryz.prog 50 #[.slice (some ⟨g, 0, none⟩) n n, .func (.func 51) #[] #[.pointer (some ⟨kb, 0, none⟩)]] w fun e w' => Idx L kind e ∧ Below w.heap.size w w' := by
  go_enter Tryz.func50, Tryz.ntmps50
  go_wp2
  go_loopg [8] n (fun gk i wr => ∃ k : Nat, k + gk = n ∧ i = .int .i64 (k : Int) ∧ Hid ((∀ (j : Nat) (f : Fm), j < k → L[j]? = some f → f.kind ≠ kind) ∧ Below w.heap.size w wr))
  case atStart => exact ⟨0, by omega, rfl, fun j f h => by omega, Below.refl _ _⟩
  case round =>
    obtain ⟨k, hk0, rfl, HI⟩ := hrel
    by_cases hlt : k < n
    · have hltI : (k : Int) < (n : Int) := by omega
      obtain ⟨f, hf⟩ : ∃ f, L[k]? = some f := ⟨_, List.getElem?_eq_getElem (by omega)⟩
      obtain ⟨c0, c1, c2, c3, c4⟩ := tab_cell ((HI.out.2.block _ (Array.getElem?_eq_some_iff.1 hg).1).trans hg) hf
      have h1 := isKindA_any f kind kb wr ((HI.out.2.cell (p := ⟨kb, 0, none⟩) (block_lt_of_cell hk)).trans hk)
      unfold Fm.val at h1
      by_cases he : f.kind = kind
      · have heb : (f.kind == kind) = true := by simpa using he
        rw [heb] at h1
        have HE : Hid (L[k]? = some f ∧ f.kind = kind) := ⟨hf, he⟩
        clear heb he hf
        go_wp2_with (go_at_call 51; refine h1.mono ?_; rintro e w1 ⟨rfl, hb1⟩; clear h1)
        go_ret
        exact ⟨.inl ⟨k, f, HE.out.1, HE.out.2, rfl⟩, HI.out.2.trans (hb1.mono HI.out.2.size)⟩
      · have heb : (f.kind == kind) = false := by simpa using he
        rw [heb] at h1
        have HF : Hid (L[k]? = some f ∧ f.kind ≠ kind) := ⟨hf, he⟩
        clear hf he heb
        go_wp2_with (go_at_call 51; refine h1.mono ?_; rintro e w1 ⟨rfl, hb1⟩; clear h1)
        go_roundg (gk - 1)
        case measure => omega
        case rel =>
          refine ⟨k + 1, by omega, by go_num, fun j f' hj hf' => ?_, HI.out.2.trans (hb1.mono HI.out.2.size)⟩
          by_cases hjk : j = k
          · subst hjk
            rw [HF.out.1] at hf'
            rw [← Option.some.inj hf']
            exact HF.out.2
          · exact HI.out.1 j f' (by omega) hf'
    · obtain rfl : k = n := by omega
      have hltI : ¬ (k : Int) < (k : Int) := by omega
      go_wp2
      go_ret
      refine ⟨.inr ⟨fun f hf => ?_, rfl⟩, HI.out.2⟩
      obtain ⟨i, hi⟩ := List.mem_iff_getElem?.1 hf
      exact HI.out.1 i f (by have := (List.getElem?_eq_some_iff.1 hi).1; omega) hi
end Go.Proofs.YtlmopjbfagijeaaGreatDoor.Sc

namespace Go.Proofs.YtlmopjbfagijeaaGreatDoor.Sc
open Go.RowKit Go.Lib Go.Deep

/-- what is left of an act can be left out -/
def bareA (r : ActR) : Bool := r.nops == 0 && r.i == 0 && r.before == 0 && r.ek == 0 && r.put == 0 && r.frm == 0 && r.name.toList.isEmpty && r.blob.toList.isEmpty
set_option maxRecDepth 20000 in
set_option maxHeartbeats 1000000 in
theorem isBareA_any (r : ActR) (w : World) :
    Calls Tryz.prog 26 #[r.val] w fun e w' => e = .returned (.bool (bareA r)) ∧ Below w.heap.size w w' := by
  have hA := fun o => (Below.refl w.heap.size w).alloc (Nat.le_refl _) o
  obtain ⟨k, a, n, c, i, b, ek, p, f, nm, bl⟩ := r
  show Calls _ _ #[.agg #[.int .i64 k, .slice a n c, .int .i64 i, .int .i64 b, .int .i64 ek, .int .i64 p, .int .i64 f, .string nm, .string bl]] w _
  go_enter Tryz.func26, Tryz.ntmps26
  go_wp2
  all_goals
    go_ret
    refine ⟨congrArg (fun b => Ending.returned (.bool b)) ?_, hA _⟩
    simp_all [bareA]

/-- the functions that write an act's line, by number -/
def shGA (f : FuncId) : ActR → Bool × List UInt8 → Bool × List UInt8 :=
  if f = 57 then fun o x => stN x [o.i]
  else if f = 59 then fun o x => stB (stB (stN x [o.before, o.ek, o.put, o.frm]) o.name) o.blob
  else fun _ x => x
def shRA (f : FuncId) : ActR → ActR :=
  if f = 57 then fun o => { o with i := 0 }
  else if f = 59 then fun o => o.noEdit
  else if f = 56 then fun o => { o with ops := none, nops := 0, cops := 0 }
  else fun o => o
theorem wrA_any (f : Fm) (hf : f ∈ actTab) : WrA f.wr (shGA f.wr) (shRA f.wr) := by
  unfold actTab at hf
  simp only [List.mem_cons, List.not_mem_nil, or_false] at hf
  rcases hf with rfl | rfl | rfl | rfl | rfl | rfl
  all_goals first | exact writeAlone_any | exact writeBatch_any | exact writeFuse_any | exact writeEdit_any
theorem cf_wrA (f : Fm) (hf : f ∈ actTab) (args : Array Value) (w : World) : (callFunc f.wr args).run Tryz.prog w = .ok (.enter f.wr args) w := by
  unfold actTab at hf
  simp only [List.mem_cons, List.not_mem_nil, or_false] at hf
  rcases hf with rfl | rfl | rfl | rfl | rfl | rfl
  all_goals kernel_rfl
/-- the line of an act, by its form -/
def lineA (o : ActR) (f : Fm) : Value :=
  if bareA (shRA f.wr o) = false then .tuple #[.string { data := #[] }, .int .i64 225]
  else if (shGA f.wr o (false, f.word.data.toList)).1 = true ∨ 262144 < (shGA f.wr o (false, f.word.data.toList)).2.length then .tuple #[.string { data := #[] }, .int .i64 221]
  else .tuple #[.string (str (shGA f.wr o (false, f.word.data.toList)).2), .int .i64 0]
def OutA (o : ActR) (e : Ending) : Prop := ((∀ f ∈ actTab, f.kind ≠ o.kind) ∧ e = .returned (.tuple #[.string { data := #[] }, .int .i64 222])) ∨ ∃ f ∈ actTab, f.kind = o.kind ∧ e = .returned (lineA o f)
theorem shGA_len (f : FuncId) (o : ActR) (hok : o.Ok) (x : Bool × List UInt8) : (shGA f o x).2.length ≤ x.2.length + 8388608 := by
  have hp := hok.name
  have hd := hok.blob
  have n1 := nmL_len [o.i] (by simp; exact hok.i)
  have n4 := nmL_len [o.before, o.ek, o.put, o.frm] (by simp; exact ⟨hok.before, hok.ek, hok.put, hok.frm⟩)
  have h1 := stB_len (stN x [o.before, o.ek, o.put, o.frm]) o.name
  have h2 := stB_len (stB (stN x [o.before, o.ek, o.put, o.frm]) o.name) o.blob
  simp only [List.length_cons, List.length_nil] at n1 n4
  unfold shGA
  repeat' split
  all_goals (simp only [stN, List.length_append] at h1 h2 ⊢; omega)
theorem wordA_len (f : Fm) (hf : f ∈ actTab) : f.word.size ≤ 7 ∧ f.word.data.toList.length ≤ 7 := by
  unfold actTab at hf
  simp only [List.mem_cons, List.not_mem_nil, or_false] at hf
  rcases hf with rfl | rfl | rfl | rfl | rfl | rfl
  all_goals exact ⟨by decide, by decide⟩

set_option maxRecDepth 20000 in
set_option maxHeartbeats 2000000 in
theorem written_act (o : ActR) (hok : o.Ok) (g : Nat) (w : World) (hg : w.heap[g]? = some (.cells (tabC actTab) 110 (0, 0))) (ht : ITab w) :
    Calls Tryz.prog 24 #[.slice (some ⟨g, 0, none⟩) 6 6, .int .i64 o.kind, o.val, .func (.func 26) #[] #[]] w fun e w' => OutA o e ∧ Below w.heap.size w w' := by
  obtain ⟨W, hW⟩ : ∃ W, (w.alloc (.cells #[.int .i64 o.kind] 3)).alloc (.cells o.cells 36) = W := ⟨_, rfl⟩
  have hbW : Below w.heap.size w W := by rw [← hW]; exact ((Below.refl _ _).alloc (Nat.le_refl _) _).alloc (by simp) _
  have hvW : ActAt W (w.heap.size + 1) o := by
    have h := heap_alloc_new (w.alloc (.cells #[.int .i64 o.kind] 3)) (.cells o.cells 36)
    rw [show (w.alloc (.cells #[.int .i64 o.kind] 3)).heap.size = w.heap.size + 1 by simp, hW] at h
    exact h
  have hkW : W.heap[w.heap.size]? = some (.cells #[.int .i64 o.kind] 3 (0, 0)) := by
    rw [← hW]
    exact (Lib.alloc_old _ _ _ (by simp)).trans (heap_alloc_new _ _)
  have hgW := (hbW.block _ (heap_lt hg)).trans hg
  have hx := indexFuncA_any actTab 6 rfl (by decide) o.kind w.heap.size g W (by rw [Lib.cell_of_heap hkW]; rfl) hgW
  have HOK : Hid o.Ok := hok
  have HT : Hid (ITab w) := ht
  have HV : Hid (ActAt W (w.heap.size + 1) o) := hvW
  have hvl := hvW.lt
  clear hvW hkW ht
  unfold ActR.val ActR.cells at *
  go_enter Tryz.func24, Tryz.ntmps24
  go_wp2_with (go_at_call 50; refine hx.mono ?_)
  rintro e w1 ⟨hidx, hb1⟩
  rcases hidx with ⟨i, f, hf, hfk, rfl⟩ | ⟨hno, rfl⟩
  · have hmem : f ∈ actTab := List.mem_of_getElem? hf
    have HF : Hid (f ∈ actTab ∧ f.kind = o.kind) := ⟨hmem, hfk⟩
    have hi10 : i < 6 := (List.getElem?_eq_some_iff.1 hf).1
    have hiI : (i : Int) < 6 := by omega
    have hiN : ¬ (i : Int) < 0 := by omega
    have hg1 := (hb1.block _ (heap_lt hgW)).trans hgW
    obtain ⟨c0, c1, c2, c3, c4⟩ := tab_cell hg1 hf
    have hl := lineOf_any f.word (by have := (wordA_len f hmem).1; omega) w1
    clear hfk hx
    go_wp2_with (go_at_call 52; refine hl.mono ?_)
    rintro e w2 ⟨rfl, hln, hb2⟩
    clear hl c0 c1 c2 c3 c4
    have hb12 : Below W.heap.size W w2 := hb1.trans (hb2.mono hb1.size)
    obtain ⟨c0, c1, c2, c3, c4⟩ := tab_cell ((hb2.block _ (heap_lt hg1)).trans hg1) hf
    have hvb : w.heap.size + 1 < w1.heap.size := Nat.lt_of_lt_of_le hvl hb1.size
    have ht2 : ITab w2 := HT.out.below (hbW.trans (hb12.mono hbW.size)) HT.out.lt
    have hwl := (wordA_len f hmem).2
    have hwr := wrA_any f hmem o (false, f.word.data.toList) w1.heap.size (w.heap.size + 1) w2 HOK.out hln (HV.out.below hb12 hvl) hvb ht2 (by have := HT.out.lt; omega) (by show f.word.data.toList.length ≤ _; omega)
    have hcf := cf_wrA f hmem
    have hgl := shGA_len f.wr o HOK.out (false, f.word.data.toList)
    have HOUT : Hid (∀ e, e = .returned (lineA o f) → OutA o e) := fun e he => .inr ⟨f, HF.out.1, HF.out.2, he⟩
    unfold lineA at HOUT
    generalize f.wr = fw at *
    obtain ⟨r, hr⟩ : ∃ r, shRA fw o = r := ⟨_, rfl⟩
    obtain ⟨y, hy⟩ : ∃ y, shGA fw o (false, f.word.data.toList) = y := ⟨_, rfl⟩
    rw [hr, hy] at hwr HOUT
    rw [hy] at hgl
    clear hr hy hf hmem
    have hbV : Below w.heap.size w w2 := hbW.trans (hb12.mono hbW.size)
    go_wp2_with fail
    refine hwr.mono ?_
    rintro e w3 ⟨rfl, hu3, ho3, hb3⟩
    clear hwr hcf c0 c1 c2 c3 c4
    have hb3w : Below w.heap.size w w3 := hbV.trans (hb3.mono (Nat.le_succ _))
    obtain ⟨q0, q1, q2, q3, q4, q5, q6, q7, q8⟩ := ho3.nine
    have hba := isBareA_any r w3
    unfold ActR.val ActR.cells at hba
    have hdn := done_any y.1 w1.heap.size y.2
    by_cases hbr : bareA r = true
    · rw [hbr] at hba HOUT
      go_wp2_with (go_at_call 26; refine hba.mono ?_; rintro e w4 ⟨rfl, hb4⟩; clear hba)
      have hd := hdn w4 (hu3.below hb4) (by omega)
      clear hdn
      by_cases hl : y.1 = true ∨ 262144 < y.2.length
      · rw [if_pos hl] at hd
        have HO1 : Hid (∀ e, e = .returned (.tuple #[.string { data := #[] }, .int .i64 221]) → OutA o e) := fun e he => HOUT.out e (by rw [if_neg (by decide), if_pos hl]; exact he)
        go_wp2_with (go_at_call 53; refine hd.mono ?_; rintro e w5 ⟨rfl, hb5⟩; clear hd)
        go_ret2
        exact ⟨HO1.out _ rfl, (hb3w.trans (hb4.mono hb3w.size)).trans (hb5.mono (by have := hbW.size; have := hb1.size; omega))⟩
      · rw [if_neg hl] at hd
        have HO1 : Hid (∀ e, e = .returned (.tuple #[.string (str y.2), .int .i64 0]) → OutA o e) := fun e he => HOUT.out e (by rw [if_neg (by decide), if_neg hl]; exact he)
        go_wp2_with (go_at_call 53; refine hd.mono ?_; rintro e w5 ⟨rfl, hb5⟩; clear hd)
        go_ret2
        exact ⟨HO1.out _ rfl, (hb3w.trans (hb4.mono hb3w.size)).trans (hb5.mono (by have := hbW.size; have := hb1.size; omega))⟩
    · have hbr : bareA r = false := by simpa using hbr
      rw [hbr] at hba HOUT
      have HO1 : Hid (∀ e, e = .returned (.tuple #[.string { data := #[] }, .int .i64 225]) → OutA o e) := fun e he => HOUT.out e (by rw [if_pos rfl]; exact he)
      clear hdn
      go_wp2_with (go_at_call 26; refine hba.mono ?_; rintro e w4 ⟨rfl, hb4⟩; clear hba)
      go_ret2
      exact ⟨HO1.out _ rfl, hb3w.trans (hb4.mono hb3w.size)⟩
  · go_wp2
    go_ret2
    exact ⟨.inl ⟨hno, rfl⟩, hbW.trans (hb1.mono hbW.size)⟩
end Go.Proofs.YtlmopjbfagijeaaGreatDoor.Sc

namespace Go.Proofs.YtlmopjbfagijeaaGreatDoor.Sc
open Go.RowKit Go.Lib Go.Deep

/-- a text without a line feed -/
def Nl (l : List UInt8) : Prop := ∀ c ∈ l, c ≠ 10
theorem Nl.nil : Nl [] := fun c h => by cases h
theorem Nl.app {a b : List UInt8} (ha : Nl a) (hb : Nl b) : Nl (a ++ b) := fun c h => (List.mem_append.1 h).elim (ha c) (hb c)
theorem Nl.cons {a : UInt8} {b : List UInt8} (ha : a ≠ 10) (hb : Nl b) : Nl (a :: b) := fun c h => by
  rcases List.mem_cons.1 h with rfl | h
  · exact ha
  · exact hb c h
theorem Nl.flat {α : Type} {f : α → List UInt8} {l : List α} (h : ∀ a ∈ l, Nl (f a)) : Nl (l.flatMap f) := fun c hc => by
  obtain ⟨a, ha, hc⟩ := List.mem_flatMap.1 hc
  exact h a ha c hc
theorem Nl.count {l : List UInt8} (h : Nl l) : l.count 10 = 0 := List.count_eq_zero.2 fun hm => h 10 hm rfl
theorem dig_nl : ∀ n, n < 16 → dig n ≠ 10 := by decide
theorem two_nl (c : UInt8) : Nl (two c) := by
  have := c.toNat_lt
  exact Nl.cons (dig_nl _ (by omega)) (Nl.cons (dig_nl _ (by omega)) Nl.nil)
theorem one_nl (c : UInt8) : Nl (one c) := by
  unfold one
  split
  · rename_i h
    refine Nl.cons (fun e => ?_) Nl.nil
    subst e
    revert h
    decide
  · exact Nl.cons (by decide) (two_nl c)
theorem byL_nl (s : ByteArray) : Nl (byL s) := Nl.cons (by decide) (Nl.flat fun c _ => one_nl c)
theorem dec_nl : ∀ (n u : Nat), u ≤ n → Nl (decDigits u)
  | n, u, h => by
    have hd : ∀ k, k < 10 → UInt8.ofNat (48 + k) ≠ 10 := by decide
    rw [decDigits]
    split
    · rename_i h10
      exact Nl.cons (hd u h10) Nl.nil
    · cases n with
      | zero => omega
      | succ n => exact (dec_nl n (u / 10) (by omega)).app (Nl.cons (hd _ (by omega)) Nl.nil)
theorem itoa_nl (n : Int) : Nl (itoa n) := by
  unfold itoa
  split
  · exact Nl.cons (by decide) (dec_nl _ _ (Nat.le_refl _))
  · exact dec_nl _ _ (Nat.le_refl _)
theorem nmL_nl (L : List Int) : Nl (nmL L) := Nl.flat fun n _ => Nl.cons (by decide) (itoa_nl n)
theorem stB_nl {x : Bool × List UInt8} (h : Nl x.2) (s : ByteArray) : Nl (stB x s).2 := by
  unfold stB
  split
  · exact h
  · exact h.app (Nl.cons (by decide) (byL_nl s))
theorem stN_nl {x : Bool × List UInt8} (h : Nl x.2) (L : List Int) : Nl (stN x L).2 := h.app (nmL_nl L)
theorem shG_nl (f : FuncId) (o : OpR) {x : Bool × List UInt8} (h : Nl x.2) : Nl (shG f o x).2 := by
  unfold shG
  repeat' split
  · exact stB_nl h _
  · exact stN_nl (stB_nl h _) _
  · exact stB_nl (stN_nl (stB_nl h _) _) _
  · exact stN_nl (stB_nl h _) _
  · exact stB_nl (stB_nl h _) _
theorem shGA_nl (f : FuncId) (o : ActR) {x : Bool × List UInt8} (h : Nl x.2) : Nl (shGA f o x).2 := by
  unfold shGA
  repeat' split
  · exact stN_nl h _
  · exact stB_nl (stB_nl (stN_nl h _) _) _
  · exact h
theorem word_nl (f : Fm) (hf : f ∈ opTab ∨ f ∈ actTab) : Nl f.word.data.toList := by
  unfold opTab actTab at hf
  simp only [List.mem_cons, List.not_mem_nil, or_false] at hf
  rcases hf with (rfl | rfl | rfl | rfl | rfl | rfl | rfl | rfl | rfl | rfl) | (rfl | rfl | rfl | rfl | rfl | rfl)
  all_goals (unfold Nl; decide)
end Go.Proofs.YtlmopjbfagijeaaGreatDoor.Sc

namespace Go.Proofs.YtlmopjbfagijeaaGreatDoor.Sc
open Go.RowKit Go.Lib Go.Deep

/-- a text is an operation's line -/
def OpForm (o : OpR) (t : List UInt8) : Prop := ∃ f ∈ opTab, f.kind = o.kind ∧ bare (shR f.wr o) o.kind ≠ false ∧ (shG f.wr o (false, f.word.data.toList)).1 = false ∧ (shG f.wr o (false, f.word.data.toList)).2.length ≤ 262144 ∧ t = (shG f.wr o (false, f.word.data.toList)).2 ∧ Nl t
theorem prints_same2 (o : OpR) (hok : o.Ok) : ∃ p : ByteArray × Int, Ans o p.1 p.2 ∧ p.1.size ≤ 262144 ∧ Nl p.1.data.toList ∧ (p.2 = 0 → OpForm o p.1.data.toList) := by
  by_cases hin : 1 ≤ o.kind ∧ o.kind ≤ 10
  · obtain ⟨f, hf, hk⟩ := tab_all o.kind hin.1 hin.2
    obtain ⟨h1, h10, hkn, ⟨sh, hsh⟩, hnm⟩ := tab_kinds f hf
    have he := forms_eq o f hf sh f.word hsh hnm
    have hx : ∃ x c, (0 : Int) ≤ c ∧ c < 1000 ∧ (x.size ≤ 262144 ∧ Nl x.data.toList ∧ (c = 0 → OpForm o x.data.toList)) ∧ lineW o f = .tuple #[.string x, .int .i64 c] := by
      unfold lineW
      split
      · exact ⟨_, _, by decide, by decide, ⟨by decide, Nl.nil, fun e => (by cases e)⟩, rfl⟩
      · rename_i hbr
        split
        · exact ⟨_, _, by decide, by decide, ⟨by decide, Nl.nil, fun e => (by cases e)⟩, rfl⟩
        · rename_i h
          have hnl := shG_nl (f := f.wr) o (x := (false, f.word.data.toList)) (word_nl f (Or.inl hf))
          exact ⟨_, _, by decide, by decide, ⟨by rw [str_size]; omega, by rw [str_data]; exact hnl, fun _ => by rw [str_data]; exact ⟨f, hf, hk, hbr, by simpa using (fun e => h (Or.inl e)), by omega, rfl, hnl⟩⟩, rfl⟩
    obtain ⟨x, c, c0, c1, hs, hv⟩ := hx
    refine ⟨(x, c), ⟨c0, c1, fun w ht => (printOp_any o hok w ht).mono ?_, fun w ht => (rPrint_any o hok (kN f) (by omega) (by rw [← hk, hkn]) sh f.word hsh hnm w ht).mono ?_⟩, hs⟩
    · rintro e w' ⟨hout, hb⟩
      refine ⟨?_, hb⟩
      rcases hout with ⟨hno, -⟩ | ⟨g, hg, hgk, rfl⟩
      · exact absurd hk (hno f hf)
      · rw [tab_one g f hg hf (hgk.trans hk.symm), hv]
    · rintro e w' ⟨rfl, hb⟩
      exact ⟨by rw [← he, hv], hb⟩
  · refine ⟨({ data := #[] }, 222), ⟨by decide, by decide, fun w ht => (printOp_any o hok w ht).mono ?_, fun w _ => rPrint_out o (by omega) w⟩, by decide, Nl.nil, fun e => (by cases e)⟩
    rintro e w' ⟨hout, hb⟩
    refine ⟨?_, hb⟩
    rcases hout with ⟨-, rfl⟩ | ⟨g, hg, hgk, rfl⟩
    · rfl
    · have := tab_kinds g hg
      omega
open Classical in
noncomputable def prO (o : OpR) : ByteArray × Int := if h : ∃ p : ByteArray × Int, Ans o p.1 p.2 ∧ p.1.size ≤ 262144 ∧ Nl p.1.data.toList ∧ (p.2 = 0 → OpForm o p.1.data.toList) then Classical.choose h else (nil_, 0)
theorem prO_full (o : OpR) (hok : o.Ok) : Ans o (prO o).1 (prO o).2 ∧ (prO o).1.size ≤ 262144 ∧ Nl (prO o).1.data.toList ∧ ((prO o).2 = 0 → OpForm o (prO o).1.data.toList) := by
  have h := prints_same2 o hok
  unfold prO
  rw [dif_pos h]
  exact Classical.choose_spec h
theorem prO_all (o : OpR) (hok : o.Ok) : Ans o (prO o).1 (prO o).2 ∧ (prO o).1.size ≤ 262144 ∧ Nl (prO o).1.data.toList := ⟨(prO_full o hok).1, (prO_full o hok).2.1, (prO_full o hok).2.2.1⟩
theorem prO_ans (o : OpR) (hok : o.Ok) : Ans o (prO o).1 (prO o).2 ∧ (prO o).1.size ≤ 262144 := ⟨(prO_all o hok).1, (prO_all o hok).2.1⟩
noncomputable def opsT (L : List OpR) : List UInt8 := L.flatMap fun o => 10 :: (prO o).1.data.toList
noncomputable def firE : List OpR → Int
  | [] => 0
  | o :: r => if (prO o).2 = 0 then firE r else (prO o).2
theorem opsT_take (L : List OpR) (j : Nat) (o : OpR) (h : L[j]? = some o) : opsT (L.take (j + 1)) = opsT (L.take j) ++ 10 :: (prO o).1.data.toList := by
  have e : L.take (j + 1) = L.take j ++ [o] := by
    rw [List.take_add_one, h]
    rfl
  rw [e]
  simp [opsT]
theorem opsT_len (L : List OpR) (h : ∀ o ∈ L, o.Ok) : (opsT L).length ≤ 262145 * L.length := by
  induction L with
  | nil => simp [opsT]
  | cons a t ih =>
    have h1 := (prO_ans a (h a (List.mem_cons_self ..))).2
    have h2 := ih fun n hn => h n (List.mem_cons_of_mem _ hn)
    rw [size_eq] at h1
    simp only [opsT, List.flatMap_cons, List.length_append, List.length_cons] at h2 ⊢
    omega
theorem firE_all (L : List OpR) : (∀ (i : Nat) o, L[i]? = some o → (prO o).2 = 0) → firE L = 0 := by
  induction L with
  | nil => intro _; rfl
  | cons a t ih =>
    intro h
    rw [firE, if_pos (h 0 a rfl)]
    exact ih fun i o ho => h (i + 1) o ho
theorem firE_hit (L : List OpR) : ∀ (j : Nat) (o : OpR), L[j]? = some o → (∀ (i : Nat) o, i < j → L[i]? = some o → (prO o).2 = 0) → (prO o).2 ≠ 0 → firE L = (prO o).2 := by
  induction L with
  | nil => intro j o h; cases h
  | cons a t ih =>
    intro j o h h0 hne
    cases j with
    | zero =>
      have e : a = o := by simpa only [List.getElem?_cons_zero, Option.some.injEq] using h
      subst e
      rw [firE, if_neg hne]
    | succ j =>
      rw [firE, if_pos (h0 0 a (by omega) rfl)]
      exact ih j o h (fun i o hi ho => h0 (i + 1) o (by omega) ho) hne
/-- the lines of a batch -/
noncomputable def batchV (L : List OpR) : Value := if firE L = 0 then .tuple #[.string (str ([98, 97, 116, 99, 104] ++ opsT L ++ [10, 101, 110, 100])), .int .i64 0] else .tuple #[.string { data := #[] }, .int .i64 (firE L)]
end Go.Proofs.YtlmopjbfagijeaaGreatDoor.Sc

namespace Go.Proofs.YtlmopjbfagijeaaGreatDoor.Sc
open Go.RowKit Go.Lib Go.Deep

set_option maxRecDepth 20000 in
set_option maxHeartbeats 4000000 in
theorem withOps_any (a : Option Addr) (c : Nat) (L : List OpR) (hL : ∀ o ∈ L, o.Ok) (hll : L.length ≤ 1048576) (w : World) (hs : SeeO w a L) (ht : ITab w) :
    Calls Tryz.prog 27 #[.string { data := #[98, 97, 116, 99, 104] }, .slice a L.length c] w fun e w' => e = .returned (batchV L) ∧ Below w.heap.size w w' := by
  have HS : Hid (SeeO w a L) := hs
  have HT : Hid (ITab w) := ht
  have HL : Hid (∀ o ∈ L, o.Ok) := hL
  obtain ⟨n, hn⟩ : ∃ n, L.length = n := ⟨_, rfl⟩
  have HN : Hid (L.length = n) := hn
  rw [hn] at hll ⊢
  have hB0 := (Below.refl w.heap.size w).alloc (Nat.le_refl _) (.cells #[.pointer none, .slice none 0 0] 81)
  have h0 := bwrite_any okB w.heap.size w.heap.size [] { data := #[98, 97, 116, 99, 104] } _ (Bu.new 81 [] w) (by decide) hB0.size
  clear hn hs ht hL
  go_enter Tryz.func27, Tryz.ntmps27
  go_wp2_with (go_at_call 61; refine h0.mono ?_; rintro e w1 ⟨rfl, ⟨hu1, hb1⟩, _⟩)
  have hb1 := hB0.trans hb1
  have hu1 : Bu 81 [] w.heap.size w.heap.size ([98, 97, 116, 99, 104] ++ opsT (L.take 0)) w1 := by simpa [opsT] using hu1
  have HU1 : Hid _ := hu1
  have HB1 : Hid (Below w.heap.size w w1) := hb1
  clear h0 hB0 hu1 hb1
  have HLen : Hid (∀ j, (opsT (L.take j)).length ≤ 262145 * n) := by
    show ∀ j, _
    intro j
    have h1 := opsT_len (L.take j) fun o ho => HL.out o (List.mem_of_mem_take ho)
    rw [List.length_take] at h1
    have := HN.out
    have : min j L.length ≤ n := by omega
    have := Nat.mul_le_mul_left 262145 this
    omega
  go_wp2_with fail
  go_loopg [15] n (fun gk i wr => ∃ j : Nat, j + gk = n ∧ i = .int .i64 (j : Int) ∧ Hid (Bu 81 [] w.heap.size w.heap.size ([98, 97, 116, 99, 104] ++ opsT (L.take j)) wr ∧ Below w.heap.size w wr ∧ ∀ (i : Nat) o, i < j → L[i]? = some o → (prO o).2 = 0))
  case atStart => exact ⟨0, by omega, rfl, HU1.out, HB1.out, fun i o h => by omega⟩
  case round =>
    clear HU1 HB1
    obtain ⟨j, hj, rfl, HI⟩ := hrel
    have hjn : j ≤ n := by omega
    by_cases hlt : j < n
    · have hltI : (j : Int) < (n : Int) := by omega
      obtain ⟨o, ho⟩ : ∃ o, L[j]? = some o := ⟨_, List.getElem?_eq_getElem (by rw [HN.out]; omega)⟩
      obtain ⟨b, off, rfl, hbl, hcells⟩ := HS.out (by rintro rfl; cases ho)
      obtain ⟨c0, c1, c2, c3, c4, c5⟩ := (hcells j o ho).below HI.out.2.1 hbl
      obtain ⟨⟨hc0, hc1, hprog, -⟩, hxs⟩ := prO_ans o (HL.out o (List.mem_of_getElem? ho))
      have hst := opsT_take L j o ho
      have HO : Hid (L[j]? = some o) := ho
      obtain ⟨x, hx⟩ : ∃ x, (prO o).1 = x := ⟨_, rfl⟩
      obtain ⟨cd, hcd⟩ : ∃ cd, (prO o).2 = cd := ⟨_, rfl⟩
      have HCD : Hid ((prO o).2 = cd) := hcd
      rw [hx] at hprog hxs hst
      rw [hcd] at hprog hc0 hc1
      have hp := hprog (wr.alloc (.cells o.cells 54)) (HT.out.below (HI.out.2.1.alloc HI.out.2.1.size _) HT.out.lt)
      have hA := (Below.refl wr.heap.size wr).alloc (Nat.le_refl _) (.cells o.cells 54)
      have HBA : Hid (Below wr.heap.size wr (wr.alloc (.cells o.cells 54))) := hA
      have hxl : x.data.toList.length = x.size := (size_eq x).symm
      have hHL := HLen.out j
      unfold OpR.val OpR.cells at hp
      unfold OpR.cells at HBA
      clear hcells hprog ho hcd hx hA
      go_wp2_with (go_at_call 17; refine hp.mono ?_)
      rintro e w3 ⟨rfl, hb3⟩
      clear hp c0 c1 c2 c3 c4 c5
      have HB3 : Hid (Below wr.heap.size wr w3) := HBA.out.trans (hb3.mono HBA.out.size)
      clear HBA hb3
      by_cases hz : cd = 0
      · subst hz
        have hw := bwrite_any okB w.heap.size w.heap.size ([98, 97, 116, 99, 104] ++ opsT (L.take j)) (str (10 :: x.data.toList)) w3 (HI.out.1.below HB3.out) (by rw [List.length_append, str_size]; simp only [List.length_cons, List.length_nil]; omega) (Nat.le_trans HI.out.2.1.size HB3.out.size)
        rw [str_data, List.append_assoc, ← hst] at hw
        have hsum : ({ data := #[10] } : ByteArray) ++ x = str (10 :: x.data.toList) := by
          apply ByteArray.ext
          simp [str]
        have hsz : ¬ 9223372036854775807 < ({ data := #[10] } : ByteArray).size + x.size := by
          have : ({ data := #[10] } : ByteArray).size = 1 := rfl
          omega
        obtain ⟨y, hy⟩ : ∃ y, str (10 :: x.data.toList) = y := ⟨_, rfl⟩
        rw [hy] at hw hsum
        clear hy
        go_wp2_with (go_at_call 61; refine hw.mono ?_; rintro e w4 ⟨rfl, ⟨hu4, hb4⟩, -⟩; clear hw)
        have HJ : Hid (Bu 81 [] w.heap.size w.heap.size ([98, 97, 116, 99, 104] ++ opsT (L.take (j + 1))) w4 ∧ Below w.heap.size w w4 ∧ ∀ (i : Nat) o, i < j + 1 → L[i]? = some o → (prO o).2 = 0) := by
          refine ⟨hu4, (HI.out.2.1.trans (HB3.out.mono HI.out.2.1.size)).trans hb4, fun i o' hi ho' => ?_⟩
          by_cases e : i = j
          · subst e
            rw [HO.out] at ho'
            rw [← Option.some.inj ho']
            exact HCD.out
          · exact HI.out.2.2 i o' (by omega) ho'
        clear hu4 hb4 HI HB3
        go_roundg (gk - 1)
        case measure => omega
        case rel => exact ⟨j + 1, by omega, by go_num, HJ⟩
      · have HF : Hid (firE L = cd) := by
          show _ = _
          rw [← HCD.out]
          exact firE_hit L j o HO.out HI.out.2.2 (by rw [HCD.out]; exact hz)
        go_wp2
        go_ret2
        refine ⟨?_, HI.out.2.1.trans (HB3.out.mono HI.out.2.1.size)⟩
        unfold batchV
        rw [HF.out, if_neg hz]
        rfl
    · obtain rfl : j = n := by omega
      have hltI : ¬ (j : Int) < (j : Int) := by omega
      have HF : Hid (firE L = 0) := firE_all L fun i o ho => HI.out.2.2 i o (by have := (List.getElem?_eq_some_iff.1 ho).1; have := HN.out; omega) ho
      have hHL := HLen.out j
      have hw := bwrite_any okB w.heap.size w.heap.size _ { data := #[10, 101, 110, 100] } wr HI.out.1 (by have e : ({ data := #[10, 101, 110, 100] } : ByteArray).size = 4 := rfl; rw [e, List.length_append]; simp only [List.length_cons, List.length_nil]; omega) HI.out.2.1.size
      have HTk : Hid (L.take j = L) := List.take_of_length_le (by have := HN.out; omega)
      rw [HTk.out] at hw
      have HB0 : Hid (Below w.heap.size w wr) := HI.out.2.1
      clear HI
      go_wp2_with (first | (go_at_call 62; refine hst.mono ?_; rintro e w5 ⟨rfl, hb5⟩; clear hst) | (go_at_call 61; refine hw.mono ?_; rintro e w4 ⟨rfl, ⟨hu4, hb4⟩, -⟩; have hst := bstring_any w.heap.size w.heap.size _ w4 hu4; clear hw))
      go_ret2
      refine ⟨?_, (HB0.out.trans hb4).trans hb5⟩
      unfold batchV
      rw [HF.out, if_pos rfl]
      rfl
end Go.Proofs.YtlmopjbfagijeaaGreatDoor.Sc
