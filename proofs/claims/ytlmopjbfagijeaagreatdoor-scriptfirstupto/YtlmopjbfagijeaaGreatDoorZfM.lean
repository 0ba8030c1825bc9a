import Derived.Test.YtlmopjbfagijeaaGreatDoorZeM
import Derived.Test.YtlmopjbfagijeaaGreatDoorPaK
import Derived.Test.YtlmopjbfagijeaaGreatDoorShP
import Derived.Test.YtlmopjbfagijeaaGreatDoorShZ
namespace Go.Proofs.YtlmopjbfagijeaaGreatDoor.Sc
open Go.RowKit Go.Lib Go.Deep Go.Shelf
open Go.Proofs.YtlmopjbfagijeaaGreatDoor.Pa (glue cutS cut_glue glue_cons splLays splRen)

/-- a text's parts between a byte -/
def prts (d : UInt8) (t : List UInt8) : List (List UInt8) := (cutS d t).1 ++ [(cutS d t).2]
theorem index_one (c : UInt8) : ∀ l : List UInt8, Lib.index l [c] = Lib.indexByte l c
  | [] => by simp [Lib.index, Lib.indexByte]
  | x :: l => by
    have ih := index_one c l
    by_cases h : x = c
    · subst h
      simp [Lib.index, Lib.indexByte, List.isPrefixOf]
    · simp [Lib.index, Lib.indexByte, List.isPrefixOf, h, Ne.symm h, ih]
/-- cut at the first slash -/
theorem index_cut (d : UInt8) (p r : List UInt8) (hp : d ∉ p) : Lib.index (p ++ d :: r) [d] = (p.length : Int) := by
  induction p with
  | nil => simp [Lib.index, List.isPrefixOf]
  | cons x p ih =>
    have hx : x ≠ d := fun e => hp (by simp [e])
    have hi := ih (fun h => hp (List.mem_cons_of_mem _ h))
    rw [List.cons_append, Lib.index]
    have h1 : ([d] : List UInt8).isPrefixOf (x :: (p ++ d :: r)) = false := by simp [List.isPrefixOf, Ne.symm hx]
    rw [h1, hi]
    have h2 : ¬ ((p.length : Int) == -1) = true := by simp
    simp [h2]
theorem index_free (d : UInt8) (p : List UInt8) (hp : d ∉ p) : Lib.index p [d] = -1 := by
  induction p with
  | nil => simp [Lib.index]
  | cons x p ih =>
    have hx : x ≠ d := fun e => hp (by simp [e])
    have hi := ih (fun h => hp (List.mem_cons_of_mem _ h))
    rw [Lib.index]
    have h1 : ([d] : List UInt8).isPrefixOf (x :: p) = false := by simp [List.isPrefixOf, Ne.symm hx]
    rw [h1, hi]
    simp
theorem splitK_glue (d : UInt8) (ps : List (List UInt8)) (r : List UInt8) (hp : ∀ p ∈ ps, d ∉ p) : splitK [d] 0 ps.length (glue d ps ++ r) = ps ++ [r] := by
  induction ps with
  | nil => simp [splitK, glue]
  | cons a ps ih =>
    have e : glue d (a :: ps) ++ r = a ++ d :: (glue d ps ++ r) := by rw [glue_cons]; simp
    rw [e, List.length_cons, splitK, index_cut d a _ (hp a (by simp))]
    have h2 : ¬ ((a.length : Int) == -1) = true := by simp
    rw [if_neg h2, Int.toNat_natCast, Nat.add_zero]
    have e1 : (a ++ d :: (glue d ps ++ r)).take a.length = a := by simp
    have e2 : (a ++ d :: (glue d ps ++ r)).drop (a.length + ([d] : List UInt8).length) = glue d ps ++ r := by
      rw [← List.drop_drop]
      simp
    rw [e1, e2, ih (fun p h => hp p (List.mem_cons_of_mem _ h))]
    rfl
theorem count_glue (d : UInt8) (ps : List (List UInt8)) (r : List UInt8) (hp : ∀ p ∈ ps, d ∉ p) (hr : d ∉ r) : (glue d ps ++ r).count d = ps.length := by
  induction ps with
  | nil => simp [glue, List.count_eq_zero.2 hr]
  | cons a ps ih =>
    have e : glue d (a :: ps) ++ r = a ++ d :: (glue d ps ++ r) := by rw [glue_cons]; simp
    rw [e, List.count_append, List.count_cons, ih (fun p h => hp p (List.mem_cons_of_mem _ h)), List.count_eq_zero.2 (hp a (by simp))]
    simp
theorem splitK_pieces (d : UInt8) (t : List UInt8) : splitK [d] 0 (t.count d) t = prts d t := by
  have h := cut_glue d t
  obtain ⟨ps, r, hc⟩ : ∃ ps r, cutS d t = (ps, r) := ⟨_, _, rfl⟩
  rw [hc] at h
  unfold prts
  rw [hc]
  obtain ⟨h1, h2, h3⟩ := h
  dsimp only at h1 h2 h3 ⊢
  rw [← h1, count_glue d ps r h2 h3, splitK_glue d ps r h2]
theorem pieces_len (d : UInt8) (t : List UInt8) : (prts d t).length = t.count d + 1 := by
  have h := cut_glue d t
  unfold prts
  rw [List.length_append]
  conv => rhs; rw [← h.1, count_glue d _ _ h.2.1 h.2.2]
  rfl
/-- a line's words -/
noncomputable def wordsB (s : ByteArray) : List ByteArray := (prts 32 s.data.toList).map str
theorem split_prts (s : ByteArray) : splitB { data := #[32] } 0 (s.data.toList.count 32) s = wordsB s := by
  have h := splitB_data { data := #[32] } 0 (s.data.toList.count 32) s
  rw [show (({ data := #[32] } : ByteArray).data.toList) = [32] from rfl, splitK_pieces] at h
  unfold wordsB
  rw [← h, List.map_map]
  conv => lhs; rw [← List.map_id (splitB { data := #[32] } 0 (s.data.toList.count 32) s)]
  rfl
theorem wordsB_len (s : ByteArray) : (wordsB s).length = s.data.toList.count 32 + 1 := by unfold wordsB; rw [List.length_map, pieces_len]
set_option maxRecDepth 20000 in
set_option maxHeartbeats 1000000 in
theorem split_any (s : ByteArray) (hs : s.size ≤ 262144) (w : World) : Calls Tryz.prog 116 #[.string s, .string { data := #[32] }] w fun e w' => e = .returned (.slice (some ⟨w.heap.size, 0, none⟩) (wordsB s).length (wordsB s).length) ∧ w' = w.alloc (.cells ((wordsB s).map Value.string).toArray 9) := by
  have hcb : Lib.countB s { data := #[32] } = s.data.toList.count 32 := by
    show Lib.count s.data.toList [32] = _
    exact Lib.count_one 32 _
  have hcl : s.data.toList.count 32 ≤ s.size := by
    rw [size_eq s]
    exact List.count_le_length
  have hg := Any.strings_genSplit_core splLays (by kernel_rfl) s { data := #[32] } 0 (-1) (s.data.toList.count 32 + 1) w (by omega) (by decide) (Nat.zero_le _)
    (fun x c _ => by
      refine (Any.strings_Index_one (ρ := splRen) { splLays with } x 32 _).mono fun e w' ⟨he, hw⟩ => ⟨?_, hw⟩
      rw [he, ← index_one])
    (by
      refine (Any.strings_Count_one (ρ := splRen) { splLays with } s 32 w).mono fun e w' ⟨he, hw⟩ => ⟨?_, hw⟩
      rw [he, hcb]
      rfl)
    (by decide) (by decide) (by rw [if_pos (by decide), hcb]; omega)
  rw [Nat.add_sub_cancel, split_prts] at hg
  have hpl := wordsB_len s
  have hce : Lib.cellsOf (wordsB s) (s.data.toList.count 32 + 1) = ((wordsB s).map Value.string).toArray := by
    rw [← hpl]; exact Lib.cellsOf_full _
  rw [hce, ← hpl] at hg
  have hg' : Calls Tryz.prog 139 #[.string s, .string { data := #[32] }, .int .i64 0, .int .i64 (-1)] w fun e w' => e = .returned (.slice (some ⟨w.heap.size, 0, none⟩) (wordsB s).length (wordsB s).length) ∧ w' = w.alloc (.cells ((wordsB s).map Value.string).toArray 9) := hg
  clear hg hce hpl hcl hcb
  generalize (wordsB s).length = n at *
  generalize ((wordsB s).map Value.string).toArray = cs at *
  go_enter Tryz.func116, Tryz.ntmps116
  go_wp2_with (go_at_call 139; refine hg'.mono ?_; rintro e w1 ⟨rfl, rfl⟩)
  go_ret
  exact ⟨rfl, rfl⟩
theorem ls_new (L : List ByteArray) (w : World) : Ls L w.heap.size 0 L.length (w.alloc (.cells (L.map Value.string).toArray 9)) :=
  ⟨Nat.le_refl _, ⟨_, heap_alloc_new _ _⟩, fun i s hs => by
    rw [Nat.zero_add, Lib.cell_of_heap (heap_alloc_new w (.cells (L.map Value.string).toArray 9))]
    simp [hs]⟩
end Go.Proofs.YtlmopjbfagijeaaGreatDoor.Sc

namespace Go.Proofs.YtlmopjbfagijeaaGreatDoor.Sc
open Go.RowKit Go.Lib Go.Deep

theorem first_eq {s : ByteArray} (hz : 0 < s.size) {x : UInt8} {l : List UInt8} (hs : s.data.toList = x :: l) : s[0]'hz = x := by
  have h : s.data.toList[0]? = some x := by rw [hs]; rfl
  have h2 : s.data[0]? = some x := by rw [← Array.getElem?_toList]; exact h
  obtain ⟨h3, h4⟩ := Array.getElem?_eq_some_iff.1 h2
  exact h4
theorem first_pos {s : ByteArray} {x : UInt8} {l : List UInt8} (hs : s.data.toList = x :: l) : 0 < s.size := by
  rw [size_eq, hs]
  simp
theorem ne_nil {s : ByteArray} {x : UInt8} {l : List UInt8} (hs : s.data.toList = x :: l) : (s.toList == ([] : List UInt8)) = false := by rw [ByteArray.toList_eq, hs]; rfl
theorem Rb.set1 {rb : Nat} {pl sd : Int} {q : PlR} {p v : Value} {w : World} (h : Rb rb pl sd q p v w) (x : Int) : Rb rb pl x q p v (w.setCell ⟨rb, 1, none⟩ (.int .i64 x)) := by
  unfold Rb at h ⊢
  simp [World.setCell, Array.getElem?_modify, h, RdrC]
theorem Rb.alloc {rb : Nat} {pl sd : Int} {q : PlR} {p v : Value} {w : World} (h : Rb rb pl sd q p v w) (o : Obj) : Rb rb pl sd q p v (w.alloc o) := (Lib.alloc_old w o rb h.lt).trans h
section
variable {rb : Nat} {w : World} {s : ByteArray}
set_option maxRecDepth 20000 in
set_option maxHeartbeats 400000 in
theorem line_long (h : 262144 < s.size) :
    Calls Tryz.prog 74 #[.pointer (some ⟨rb, 0, none⟩), .string s] w fun e w' => e = .returned (.int .i64 221) ∧ w' = w := by
  have hJ : (262144 : Int) < (s.size : Int) := by omega
  go_enter Tryz.func74, Tryz.ntmps74
  go_wp2
  go_ret
  exact ⟨rfl, rfl⟩
set_option maxRecDepth 20000 in
set_option maxHeartbeats 400000 in
theorem line_none (h : s = { data := #[] }) :
    Calls Tryz.prog 74 #[.pointer (some ⟨rb, 0, none⟩), .string s] w fun e w' => e = .returned (.int .i64 0) ∧ w' = w := by
  subst h
  go_enter Tryz.func74, Tryz.ntmps74
  go_wp2
  go_ret
  exact ⟨rfl, rfl⟩
set_option maxRecDepth 20000 in
set_option maxHeartbeats 400000 in
theorem line_said (h : s.size ≤ 262144) {l : List UInt8} (hs : s.data.toList = 35 :: l) :
    Calls Tryz.prog 74 #[.pointer (some ⟨rb, 0, none⟩), .string s] w fun e w' => e = .returned (.int .i64 0) ∧ w' = w := by
  have hI : ¬ (262144 : Int) < (s.size : Int) := by omega
  have hne := ne_nil hs
  have hz := first_pos hs
  have h35 : (((s[0]'hz).toNat : Int) == 35) = true := by rw [first_eq hz hs]; rfl
  clear hs h
  go_enter Tryz.func74, Tryz.ntmps74
  go_wp2
  go_ret
  exact ⟨rfl, rfl⟩
variable {x : UInt8} {l : List UInt8} {pl sd : Int} {q : PlR} {p v : Value}
set_option maxRecDepth 20000 in
set_option maxHeartbeats 400000 in
theorem line_many (h : s.size ≤ 262144) (hs : s.data.toList = x :: l) (hx : x ≠ 35) (k1 : w.cell? ⟨rb, 1, none⟩ = some (.int .i64 sd)) (kf : ∀ j, w.frozen? ⟨rb, j, none⟩ = false) (hsd : sd = 20000) :
    Calls Tryz.prog 74 #[.pointer (some ⟨rb, 0, none⟩), .string s] w fun e w' => e = .returned (.int .i64 226) ∧ Only [rb] w w' := by
  have hI : ¬ (262144 : Int) < (s.size : Int) := by omega
  have hne := ne_nil hs
  have hz := first_pos hs
  have h35 : (((s[0]'hz).toNat : Int) == 35) = false := by
    rw [first_eq hz hs]
    simp only [beq_eq_false_iff_ne]
    intro e
    exact hx (UInt8.toNat_inj.1 (by rw [show x.toNat = 35 by omega]; rfl))
  clear hs h hx
  subst hsd
  go_enter Tryz.func74, Tryz.ntmps74
  go_wp2
  go_ret
  exact ⟨rfl, (Only.refl _ _).setCell (p := ⟨rb, 1, none⟩) (by simp) _⟩
set_option maxRecDepth 20000 in
set_option maxHeartbeats 400000 in
theorem line_act {Φ : Ending → World → Prop} (h : s.size ≤ 262144) (hs : s.data.toList = x :: l) (hx : x ≠ 35)  (hr : Rb rb 3 sd q p v w) (hsd : 0 ≤ sd ∧ sd < 20000) (hc : Calls Tryz.prog 117 #[.pointer (some ⟨rb, 0, none⟩), .slice (some ⟨w.heap.size, 0, none⟩) (wordsB s).length (wordsB s).length] ((w.setCell ⟨rb, 1, none⟩ (.int .i64 (sd + 1))).alloc (.cells ((wordsB s).map Value.string).toArray 9)) fun e w' => ∃ cd, e = .returned (.int .i64 cd) ∧ Φ e w') :
    Calls Tryz.prog 74 #[.pointer (some ⟨rb, 0, none⟩), .string s] w fun e w' => Φ e w' := by
  have hI : ¬ (262144 : Int) < (s.size : Int) := by omega
  have hne := ne_nil hs
  have hz := first_pos hs
  have h35 : (((s[0]'hz).toNat : Int) == 35) = false := by
    rw [first_eq hz hs]
    simp only [beq_eq_false_iff_ne]
    intro e
    exact hx (UInt8.toNat_inj.1 (by rw [show x.toNat = 35 by omega]; rfl))
  have hsw : IntKind.i64.wrap (sd + 1) = sd + 1 := by rw [IntKind.wrap_i64]; omega
  have hgt : ¬ (20000 : Int) < sd + 1 := by omega
  have hsp := split_any s h (w.setCell ⟨rb, 1, none⟩ (.int .i64 (sd + 1)))
  rw [show (w.setCell ⟨rb, 1, none⟩ (.int .i64 (sd + 1))).heap.size = w.heap.size by simp] at hsp
  obtain ⟨k0, k1, -, -, -, -, -, -, -, -, -, kf⟩ := hr.cells
  have hr1 : Rb rb 3 (sd + 1) q p v (w.setCell ⟨rb, 1, none⟩ (.int .i64 (sd + 1))) := hr.set1 _
  have k0' := hr1.cells.1
  have hr2 : Rb rb 3 (sd + 1) q p v ((w.setCell ⟨rb, 1, none⟩ (.int .i64 (sd + 1))).alloc (.cells ((wordsB s).map Value.string).toArray 9)) := hr1.alloc _
  have k0b := hr2.cells.1
  have k1' := hr1.cells.2.1
  clear hr hr1 hr2
  obtain ⟨L, hL⟩ : ∃ L, wordsB s = L := ⟨_, rfl⟩
  rw [hL] at hsp hc k0b
  clear hs h hx hL
  go_enter Tryz.func74, Tryz.ntmps74
  go_wp2_with (first | (go_at_call 116; refine hsp.mono ?_; rintro e w1 ⟨rfl, rfl⟩; clear hsp k1 kf k0 k0' k1') | (go_at_call 117; refine hc.mono ?_; rintro e w2 ⟨cd, rfl, h1⟩; clear hc))
  all_goals exact h1
set_option maxRecDepth 20000 in
set_option maxHeartbeats 400000 in
theorem line_op {Φ : Ending → World → Prop} (h : s.size ≤ 262144) (hs : s.data.toList = x :: l) (hx : x ≠ 35)  (hr : Rb rb 4 sd q p v w) (hsd : 0 ≤ sd ∧ sd < 20000) (hc : Calls Tryz.prog 118 #[.pointer (some ⟨rb, 0, none⟩), .slice (some ⟨w.heap.size, 0, none⟩) (wordsB s).length (wordsB s).length] ((w.setCell ⟨rb, 1, none⟩ (.int .i64 (sd + 1))).alloc (.cells ((wordsB s).map Value.string).toArray 9)) fun e w' => ∃ cd, e = .returned (.int .i64 cd) ∧ Φ e w') :
    Calls Tryz.prog 74 #[.pointer (some ⟨rb, 0, none⟩), .string s] w fun e w' => Φ e w' := by
  have hI : ¬ (262144 : Int) < (s.size : Int) := by omega
  have hne := ne_nil hs
  have hz := first_pos hs
  have h35 : (((s[0]'hz).toNat : Int) == 35) = false := by
    rw [first_eq hz hs]
    simp only [beq_eq_false_iff_ne]
    intro e
    exact hx (UInt8.toNat_inj.1 (by rw [show x.toNat = 35 by omega]; rfl))
  have hsw : IntKind.i64.wrap (sd + 1) = sd + 1 := by rw [IntKind.wrap_i64]; omega
  have hgt : ¬ (20000 : Int) < sd + 1 := by omega
  have hsp := split_any s h (w.setCell ⟨rb, 1, none⟩ (.int .i64 (sd + 1)))
  rw [show (w.setCell ⟨rb, 1, none⟩ (.int .i64 (sd + 1))).heap.size = w.heap.size by simp] at hsp
  obtain ⟨k0, k1, -, -, -, -, -, -, -, -, -, kf⟩ := hr.cells
  have hr1 : Rb rb 4 (sd + 1) q p v (w.setCell ⟨rb, 1, none⟩ (.int .i64 (sd + 1))) := hr.set1 _
  have k0' := hr1.cells.1
  have hr2 : Rb rb 4 (sd + 1) q p v ((w.setCell ⟨rb, 1, none⟩ (.int .i64 (sd + 1))).alloc (.cells ((wordsB s).map Value.string).toArray 9)) := hr1.alloc _
  have k0b := hr2.cells.1
  have k1' := hr1.cells.2.1
  clear hr hr1 hr2
  obtain ⟨L, hL⟩ : ∃ L, wordsB s = L := ⟨_, rfl⟩
  rw [hL] at hsp hc k0b
  clear hs h hx hL
  go_enter Tryz.func74, Tryz.ntmps74
  go_wp2_with (first | (go_at_call 116; refine hsp.mono ?_; rintro e w1 ⟨rfl, rfl⟩; clear hsp k1 kf k0 k0' k1') | (go_at_call 118; refine hc.mono ?_; rintro e w2 ⟨cd, rfl, h1⟩; clear hc))
  all_goals exact h1
set_option maxRecDepth 20000 in
set_option maxHeartbeats 400000 in
theorem line_head {Φ : Ending → World → Prop} (h : s.size ≤ 262144) (hs : s.data.toList = x :: l) (hx : x ≠ 35) (h3 : pl ≠ 3) (h4 : pl ≠ 4) (hr : Rb rb pl sd q p v w) (hsd : 0 ≤ sd ∧ sd < 20000) (hc : Calls Tryz.prog 119 #[.pointer (some ⟨rb, 0, none⟩), .slice (some ⟨w.heap.size, 0, none⟩) (wordsB s).length (wordsB s).length] ((w.setCell ⟨rb, 1, none⟩ (.int .i64 (sd + 1))).alloc (.cells ((wordsB s).map Value.string).toArray 9)) fun e w' => ∃ cd, e = .returned (.int .i64 cd) ∧ Φ e w') :
    Calls Tryz.prog 74 #[.pointer (some ⟨rb, 0, none⟩), .string s] w fun e w' => Φ e w' := by
  have hI : ¬ (262144 : Int) < (s.size : Int) := by omega
  have hne := ne_nil hs
  have hz := first_pos hs
  have h35 : (((s[0]'hz).toNat : Int) == 35) = false := by
    rw [first_eq hz hs]
    simp only [beq_eq_false_iff_ne]
    intro e
    exact hx (UInt8.toNat_inj.1 (by rw [show x.toNat = 35 by omega]; rfl))
  have hsw : IntKind.i64.wrap (sd + 1) = sd + 1 := by rw [IntKind.wrap_i64]; omega
  have hgt : ¬ (20000 : Int) < sd + 1 := by omega
  have hsp := split_any s h (w.setCell ⟨rb, 1, none⟩ (.int .i64 (sd + 1)))
  rw [show (w.setCell ⟨rb, 1, none⟩ (.int .i64 (sd + 1))).heap.size = w.heap.size by simp] at hsp
  obtain ⟨k0, k1, -, -, -, -, -, -, -, -, -, kf⟩ := hr.cells
  have hr1 : Rb rb pl (sd + 1) q p v (w.setCell ⟨rb, 1, none⟩ (.int .i64 (sd + 1))) := hr.set1 _
  have k0' := hr1.cells.1
  have hr2 : Rb rb pl (sd + 1) q p v ((w.setCell ⟨rb, 1, none⟩ (.int .i64 (sd + 1))).alloc (.cells ((wordsB s).map Value.string).toArray 9)) := hr1.alloc _
  have k0b := hr2.cells.1
  have k1' := hr1.cells.2.1
  clear hr hr1 hr2
  have g3 : (pl == 3) = false := by simpa using h3
  have g4 : (pl == 4) = false := by simpa using h4
  clear h3 h4
  obtain ⟨L, hL⟩ : ∃ L, wordsB s = L := ⟨_, rfl⟩
  rw [hL] at hsp hc k0b
  clear hs h hx hL
  go_enter Tryz.func74, Tryz.ntmps74
  go_wp2_with (first | (go_at_call 116; refine hsp.mono ?_; rintro e w1 ⟨rfl, rfl⟩; clear hsp k1 kf k0 k0' k1') | (go_at_call 119; refine hc.mono ?_; rintro e w2 ⟨cd, rfl, h1⟩; clear hc))
  all_goals exact h1
end
end Go.Proofs.YtlmopjbfagijeaaGreatDoor.Sc

namespace Go.Proofs.YtlmopjbfagijeaaGreatDoor.Sc
open Go.RowKit Go.Lib Go.Deep
open Go.Proofs.YtlmopjbfagijeaaGreatDoor.Sq (owns_keep owns_below owns_base owns_block)

/-- what told says of an act's words: the kind, the act, the code -/
noncomputable def tellAF (r : List ByteArray) : Option Fm → Int × ActR × Int
  | none => (0, zA, 222)
  | some f => if (r.length : Int) + 1 ≠ f.count then (0, zA, 223) else if (rdAc f.rd zA r).2 = true then (0, zA, 224) else (f.kind, (rdAc f.rd zA r).1, 0)
noncomputable def tellA : List ByteArray → Int × ActR × Int
  | [] => (0, zA, 222)
  | x :: r => tellAF r (fmOf actTab x)
noncomputable def tellOF (r : List ByteArray) : Option Fm → Int × OpR × Int
  | none => (0, zeroP, 222)
  | some f => if (r.length : Int) + 1 ≠ f.count then (0, zeroP, 223) else if (rdO f.rd zeroP r).2 = true then (0, zeroP, 224) else (f.kind, (rdO f.rd zeroP r).1, 0)
noncomputable def tellO : List ByteArray → Int × OpR × Int
  | [] => (0, zeroP, 222)
  | x :: r => tellOF r (fmOf opTab x)
theorem toldAV_tell (x : ByteArray) (r : List ByteArray) : toldAV (x :: r) = .tuple #[.int .i64 (tellA (x :: r)).1, .agg (tellA (x :: r)).2.1.cells, .int .i64 (tellA (x :: r)).2.2] := by
  show toldAF r (fmOf actTab x) = .tuple #[.int .i64 (tellAF r (fmOf actTab x)).1, .agg (tellAF r (fmOf actTab x)).2.1.cells, .int .i64 (tellAF r (fmOf actTab x)).2.2]
  cases fmOf actTab x with
  | none => rfl
  | some f =>
    unfold toldAF tellAF
    dsimp only
    split
    · rfl
    · split <;> rfl
theorem toldOV_tell (x : ByteArray) (r : List ByteArray) : toldOV (x :: r) = .tuple #[.int .i64 (tellO (x :: r)).1, .agg (tellO (x :: r)).2.1.cells, .int .i64 (tellO (x :: r)).2.2] := by
  show toldOF r (fmOf opTab x) = .tuple #[.int .i64 (tellOF r (fmOf opTab x)).1, .agg (tellOF r (fmOf opTab x)).2.1.cells, .int .i64 (tellOF r (fmOf opTab x)).2.2]
  cases fmOf opTab x with
  | none => rfl
  | some f =>
    unfold toldOF tellOF
    dsimp only
    split
    · rfl
    · split <;> rfl
theorem rdAc_ops (f : FuncId) (o : ActR) (T : List ByteArray) : (rdAc f o T).1.ops = o.ops ∧ (rdAc f o T).1.nops = o.nops ∧ (rdAc f o T).1.cops = o.cops := by
  unfold rdAc
  split
  · split <;> exact ⟨rfl, rfl, rfl⟩
  · split
    · split <;> exact ⟨rfl, rfl, rfl⟩
    · split <;> exact ⟨rfl, rfl, rfl⟩
def AOk (t : Int × ActR × Int) : Prop := (t.2.1.ops = none ∧ t.2.1.nops = 0 ∧ t.2.1.cops = 0) ∧ 0 ≤ t.2.2 ∧ t.2.2 < 1000
def OOk (t : Int × OpR × Int) : Prop := 0 ≤ t.2.2 ∧ t.2.2 < 1000
theorem tellAF_ok (r : List ByteArray) (o : Option Fm) : AOk (tellAF r o) := by
  cases o with
  | none => exact ⟨⟨rfl, rfl, rfl⟩, show (0 : Int) ≤ 222 by decide, show (222 : Int) < 1000 by decide⟩
  | some f =>
    show AOk (if (r.length : Int) + 1 ≠ f.count then _ else _)
    by_cases h1 : (r.length : Int) + 1 ≠ f.count
    · rw [if_pos h1]; exact ⟨⟨rfl, rfl, rfl⟩, show (0 : Int) ≤ 223 by decide, show (223 : Int) < 1000 by decide⟩
    · rw [if_neg h1]
      by_cases h2 : (rdAc f.rd zA r).2 = true
      · rw [if_pos h2]; exact ⟨⟨rfl, rfl, rfl⟩, show (0 : Int) ≤ 224 by decide, show (224 : Int) < 1000 by decide⟩
      · rw [if_neg h2]; exact ⟨rdAc_ops _ _ _, show (0 : Int) ≤ 0 by decide, show (0 : Int) < 1000 by decide⟩
theorem tellOF_ok (r : List ByteArray) (o : Option Fm) : OOk (tellOF r o) := by
  cases o with
  | none => exact ⟨show (0 : Int) ≤ 222 by decide, show (222 : Int) < 1000 by decide⟩
  | some f =>
    show OOk (if (r.length : Int) + 1 ≠ f.count then _ else _)
    by_cases h1 : (r.length : Int) + 1 ≠ f.count
    · rw [if_pos h1]; exact ⟨show (0 : Int) ≤ 223 by decide, show (223 : Int) < 1000 by decide⟩
    · rw [if_neg h1]
      by_cases h2 : (rdO f.rd zeroP r).2 = true
      · rw [if_pos h2]; exact ⟨show (0 : Int) ≤ 224 by decide, show (224 : Int) < 1000 by decide⟩
      · rw [if_neg h2]; exact ⟨show (0 : Int) ≤ 0 by decide, show (0 : Int) < 1000 by decide⟩
theorem tellA_facts : ∀ L : List ByteArray, AOk (tellA L)
  | [] => ⟨⟨rfl, rfl, rfl⟩, show (0 : Int) ≤ 222 by decide, show (222 : Int) < 1000 by decide⟩
  | _ :: _ => tellAF_ok _ _
theorem tellO_code : ∀ L : List ByteArray, OOk (tellO L)
  | [] => ⟨show (0 : Int) ≤ 222 by decide, show (222 : Int) < 1000 by decide⟩
  | _ :: _ => tellOF_ok _ _
/-- what has been read of a play's text -/
structure St where
  pl : Int
  s : Int
  f : Int
  d : Int
  m : Int
  l : Int
  p : Int
  ideal : Bool
  master : ByteArray
  tape : List UInt8
  V : List ActV
def St.q (S : St) (a : Option Addr) (n c : Nat) : PlR := ⟨S.s, S.f, S.d, S.m, S.l, S.p, S.ideal, S.master, nil_, a, n, c⟩
def addOp (V : List ActV) (o : OpR) : List ActV := match V.getLast? with
  | some x => V.dropLast ++ [({ x.1 with nops := x.1.nops + 1 }, x.2 ++ [o])]
  | none => V
theorem addOp_snoc (V : List ActV) (x : ActV) (o : OpR) : addOp (V ++ [x]) o = V ++ [({ x.1 with nops := x.1.nops + 1 }, x.2 ++ [o])] := by
  unfold addOp
  rw [List.getLast?_concat]
  dsimp only
  rw [List.dropLast_concat]
def idealW : ByteArray := { data := #[105, 100, 101, 97, 108] }
def realW : ByteArray := { data := #[114, 101, 97, 108] }
noncomputable def cfgS (S : St) : List ByteArray → St × Int
  | [x1, x2, x3, x4, x5, x6] => ({ S with pl := 1, s := rN x1, f := rN x2, d := rN x3, m := rN x4, l := rN x5, p := rN x6 }, if ((((((false || bN x1) || bN x2) || bN x3) || bN x4) || bN x5) || bN x6) = true then 224 else 0)
  | _ => (S, 223)
open Classical in
noncomputable def sealS (S : St) : List ByteArray → St × Int
  | [x1] => if x1 = idealW then ({ S with pl := 2, ideal := true }, 0) else (S, 224)
  | [x1, x2] => if x1 = realW then ({ S with pl := 2, master := rH x2 }, if (false || bH x2) = true then 224 else 0) else (S, 224)
  | _ => (S, 223)
noncomputable def tapeS (S : St) : List ByteArray → St × Int
  | [x1] => ({ S with tape := S.tape ++ (rH x1).data.toList }, if (false || bH x1) = true then 224 else 0)
  | _ => (S, 223)
def toS (S : St) : List ByteArray → St × Int
  | [] => ({ S with pl := 3 }, 0)
  | _ => (S, 223)
theorem cfgS_no (S : St) {r : List ByteArray} (h : r.length ≠ 6) : cfgS S r = (S, 223) := by
  unfold cfgS
  split
  · exact absurd rfl h
  · rfl
theorem sealS_no (S : St) {r : List ByteArray} (h : r.length ≠ 1) (h2 : r.length ≠ 2) : sealS S r = (S, 223) := by
  unfold sealS
  split
  · exact absurd rfl h
  · exact absurd rfl h2
  · rfl
theorem tapeS_no (S : St) {r : List ByteArray} (h : r.length ≠ 1) : tapeS S r = (S, 223) := by
  unfold tapeS
  split
  · exact absurd rfl h
  · rfl
theorem toS_no (S : St) {r : List ByteArray} (h : r ≠ []) : toS S r = (S, 223) := by
  unfold toS
  split
  · exact absurd rfl h
  · rfl
open Classical in
/-- a line's words: the state behind it, and the code -/
noncomputable def stepS (S : St) : List ByteArray → St × Int
  | [] => (S, 220)
  | x :: r =>
    if S.pl = 3 then (if (tellA (x :: r)).2.2 ≠ 0 then (S, (tellA (x :: r)).2.2) else ({ S with pl := if (tellA (x :: r)).1 = 3 then 4 else 3, V := S.V ++ [({ (tellA (x :: r)).2.1 with kind := (tellA (x :: r)).1 }, [])] }, 0))
    else if S.pl = 4 then (if x = endW then toS S r else if (tellO (x :: r)).2.2 ≠ 0 then (S, (tellO (x :: r)).2.2) else ({ S with V := addOp S.V { (tellO (x :: r)).2.1 with kind := (tellO (x :: r)).1 } }, 0))
    else if S.pl = 0 then (if x = cfgW then cfgS S r else (S, 220))
    else if S.pl = 1 then (if x = sealW then sealS S r else (S, 220))
    else if x = tapeW then tapeS S r
    else if x = actsW then toS S r
    else (S, 220)
/-- a reader in memory -/
structure MemV (B rb : Nat) (S : St) (sd N : Int) (V : List ActV) (ao : Option Addr) (ac : Nat) (p v : Value) (w : World) : Prop where
  hB : B ≤ rb
  rd : Rb rb S.pl sd (S.q ao V.length ac) p v w
  pp : p = .pointer none ∨ p = .pointer (some ⟨rb, 12, none⟩)
  tp : w.ownsRow B 5 1 v S.tape.length (byteCells S.tape)
  tn : S.tape = [] → v = .slice none 0 0
  mv : Moved S.V V
  row : w.ownsRow B 36 9 (.slice ao V.length ac) V.length (actsC (V.map (·.1)))
  ops : ∀ x ∈ V, w.ownsRow B 54 6 (.slice x.1.ops x.1.nops x.1.cops) x.1.nops (opsC x.2)
  apart : ∀ V0 x, V = V0 ++ [x] → ∀ y ∈ V0, ∀ g, (Value.slice y.1.ops y.1.nops y.1.cops).ownBlock = some g → (Value.slice x.1.ops x.1.nops x.1.cops).ownBlock ≠ some g
  sd0 : 0 ≤ N
  len : (V.length : Int) ≤ N
  lens : ∀ x ∈ V, (x.1.nops : Int) ≤ N
  tlen : (S.tape.length : Int) ≤ N * 262144
  in4 : S.pl = 4 → V ≠ []
  plr : 0 ≤ S.pl ∧ S.pl ≤ 4
def Mem (B rb : Nat) (S : St) (sd N : Int) (w : World) : Prop := ∃ V ao ac p v, MemV B rb S sd N V ao ac p v w
theorem Rb.no5 {rb : Nat} {pl sd : Int} {q : PlR} {p v : Value} {w : World} {B e sz n g : Nat} {y : Value} {xs : List Value} (h : Rb rb pl sd q p v w) (ho : w.ownsRow B e sz y n xs) (hne : e ≠ 83) (hg : y.ownBlock = some g) : g ≠ rb := fun e1 => by
  obtain ⟨c2, q2⟩ := owns_block ho hg
  have h0 : w.heap[rb]? = _ := h
  rw [e1, h0] at q2
  injection q2 with q2
  injection q2 with _ q3 _
  exact hne q3.symm
theorem Fr.row {rb : Nat} {ob : Option Nat} {w w' : World} (h : Fr rb ob w w') {B e sz n : Nat} {y : Value} {xs : List Value} (ho : w.ownsRow B e sz y n xs) (h1 : ∀ g, y.ownBlock = some g → g ≠ rb ∧ ob ≠ some g) : w'.ownsRow B e sz y n xs :=
  owns_keep ho fun g hg => h.blk g (ho.lt g hg).2 (h1 g hg).1 (h1 g hg).2
theorem moved_snoc {V V' : List ActV} (h : Moved V V') {x y : ActV} (hxy : ∃ a c, y = ({ x.1 with ops := a, cops := c }, x.2)) : Moved (V ++ [x]) (V' ++ [y]) := by
  obtain ⟨h1, h2⟩ := h
  refine ⟨by simp [h1], fun i z hz => ?_⟩
  by_cases hi : i < V.length
  · rw [List.getElem?_append_left hi] at hz
    obtain ⟨a, c, e⟩ := h2 i z hz
    exact ⟨a, c, by rw [List.getElem?_append_left (by omega)]; exact e⟩
  · rw [List.getElem?_append_right (by omega)] at hz
    have h0 : i - V.length = 0 := by
      have := (List.getElem?_eq_some_iff.1 hz).1
      simp at this
      omega
    rw [h0] at hz
    obtain rfl := Option.some.inj hz
    obtain ⟨a, c, rfl⟩ := hxy
    exact ⟨a, c, by rw [List.getElem?_append_right (by omega), show i - V'.length = 0 by omega]; rfl⟩
/-- what a line leaves -/
def Aft (B rb : Nat) (sd N : Int) (w : World) (t : St × Int) (e : Ending) (w' : World) : Prop := e = .returned (.int .i64 t.2) ∧ Below B w w' ∧ (t.2 = 0 → Mem B rb t.1 sd (N + 1) w')
theorem Fr.below {rb : Nat} {ob : Option Nat} {w w' : World} (h : Fr rb ob w w') {B : Nat} (hB : B ≤ w.heap.size) (h1 : B ≤ rb) (h2 : ∀ g, ob = some g → B ≤ g) : Below B w w' :=
  ⟨h.os, h.tape, h.output, h.size, fun k hk => h.blk k (Nat.lt_of_lt_of_le hk hB) (by omega) (fun e => by have := h2 k e; omega)⟩
end Go.Proofs.YtlmopjbfagijeaaGreatDoor.Sc

namespace Go.Proofs.YtlmopjbfagijeaaGreatDoor.Sc
open Go.RowKit Go.Lib Go.Deep
open Go.Proofs.YtlmopjbfagijeaaGreatDoor.Sq (owns_keep owns_below owns_base owns_block)

theorem act_step (B rb : Nat) (S : St) (sd N : Int) (x : ByteArray) (r : List ByteArray) (hpl : S.pl = 3) (hs : ∀ y ∈ x :: r, y.size ≤ 8388608) (hlen : (x :: r).length ≤ 8388608) (hN : N ≤ 20000) (b off c : Nat) (w : World) (hm : Mem B rb S sd N w) (hl : Ls (x :: r) b off c w) (hG : GlB B w) :
    Calls Tryz.prog 117 #[.pointer (some ⟨rb, 0, none⟩), .slice (some ⟨b, off, none⟩) (x :: r).length c] w fun e w' => ∃ cd, e = .returned (.int .i64 cd) ∧ Aft B rb sd N w (stepS S (x :: r)) e w' := by
  obtain ⟨V, ao, ac, p, v, M⟩ := hm
  have hst : stepS S (x :: r) = if (tellA (x :: r)).2.2 ≠ 0 then (S, (tellA (x :: r)).2.2) else ({ S with pl := if (tellA (x :: r)).1 = 3 then 4 else 3, V := S.V ++ [({ (tellA (x :: r)).2.1 with kind := (tellA (x :: r)).1 }, [])] }, 0) := by
    show (if S.pl = 3 then _ else _) = _
    rw [if_pos hpl]
  have ht := toldAV_tell x r
  obtain ⟨⟨ho1, ho2, ho3⟩, hc0, hc1⟩ := tellA_facts (x :: r)
  generalize tellA (x :: r) = t at *
  obtain ⟨kd, o, cd⟩ := t
  dsimp only at hst ht ho1 ho2 ho3 hc0 hc1
  rw [hst]
  by_cases hcd : cd = 0
  · subst hcd
    rw [if_neg (by simp)]
    have hvl := M.len
    refine (ract_ok B rb S.pl sd (S.q ao V.length ac) p v (V.map fun z : ActV => z.1) x r hs hlen kd o ht b off c M.hB w M.rd (by show V.length ≤ _; omega) M.row hl hG).mono ?_
    rintro e w' ⟨a', c', rfl, hR, hrow, hF⟩
    refine ⟨0, rfl, rfl, hF.below hG.le M.hB (fun g hg => (World.ownsRow.lt M.row g hg).1), fun _ => ?_⟩
    have hnb : ∀ {B e sz n : Nat} {y : Value} {xs : List Value}, w.ownsRow B e sz y n xs → e ≠ 83 → e ≠ 36 → w'.ownsRow B e sz y n xs := fun {B e sz n y xs} ho h1 h2 =>
      hF.row ho fun g hg => ⟨M.rd.no5 ho h1 hg, row_ne ho M.row h2 hg⟩
    refine ⟨V ++ [({ o with kind := kd }, [])], a', c', p, v, M.hB, ?_, M.pp, hnb M.tp (by decide) (by decide), M.tn, moved_snoc M.mv ⟨o.ops, o.cops, rfl⟩, ?_, ?_, ?_, by have := M.sd0; omega, ?_, ?_, ?_, ?_, ?_⟩
    · rw [hpl] at hR
      rw [List.length_append]
      exact hR
    · rw [List.length_append, List.map_append]
      exact hrow
    · intro z hz
      rcases List.mem_append.1 hz with hz | hz
      · exact hnb (M.ops z hz) (by decide) (by decide)
      · rw [List.mem_singleton] at hz
        subst hz
        dsimp only
        rw [ho1, ho2, ho3]
        exact World.ownsRow_nil _ _ _ _
    · intro V0 z hz y _ g _
      have hz2 := (List.append_inj' hz rfl).2
      obtain rfl := (List.cons.inj hz2).1
      dsimp only
      rw [ho1]
      exact fun e => by cases e
    · rw [List.length_append]
      have := M.len
      simp only [List.length_singleton]
      omega
    · intro z hz
      rcases List.mem_append.1 hz with hz | hz
      · have := M.lens z hz
        omega
      · rw [List.mem_singleton] at hz
        subst hz
        dsimp only
        rw [ho2]
        have := M.sd0
        omega
    · have := M.tlen
      show (S.tape.length : Int) ≤ _
      omega
    · intro _
      simp
    · show 0 ≤ (if kd = 3 then (4 : Int) else 3) ∧ (if kd = 3 then (4 : Int) else 3) ≤ 4
      split <;> omega
  · rw [if_pos hcd]
    refine (ract_no B rb S.pl sd (S.q ao V.length ac) p v x r hs hlen kd o cd ht hcd ⟨hc0, hc1⟩ b off c w M.rd hl hG).mono ?_
    rintro e w' ⟨rfl, -, hb⟩
    exact ⟨cd, rfl, rfl, hb.mono hG.le, fun h => absurd h hcd⟩
end Go.Proofs.YtlmopjbfagijeaaGreatDoor.Sc
