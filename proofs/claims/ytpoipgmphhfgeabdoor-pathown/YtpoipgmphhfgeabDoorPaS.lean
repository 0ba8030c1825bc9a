import Derived.Test.YtpoipgmphhfgeabDoorPaP
import Derived.Test.YtpoipgmphhfgeabDoorPaE
namespace Go.Proofs.YtpoipgmphhfgeabDoor.Pa
open Go.RowKit Go.Lib

theorem index_one (c : UInt8) : ∀ l : List UInt8, Lib.index l [c] = Lib.indexByte l c
  | [] => by simp [Lib.index, Lib.indexByte]
  | x :: l => by
    have ih := index_one c l
    by_cases h : x = c
    · subst h
      simp [Lib.index, Lib.indexByte, List.isPrefixOf]
    · simp [Lib.index, Lib.indexByte, List.isPrefixOf, h, Ne.symm h, ih]
/-- cut at the first slash -/
theorem index_cut (p r : List UInt8) (hp : (47 : UInt8) ∉ p) : Lib.index (p ++ 47 :: r) [47] = (p.length : Int) := by
  induction p with
  | nil => simp [Lib.index, List.isPrefixOf]
  | cons x p ih =>
    have hx : x ≠ 47 := fun e => hp (by simp [e])
    have hi := ih (fun h => hp (List.mem_cons_of_mem _ h))
    rw [List.cons_append, Lib.index]
    have h1 : ([47] : List UInt8).isPrefixOf (x :: (p ++ 47 :: r)) = false := by simp [List.isPrefixOf, Ne.symm hx]
    rw [h1, hi]
    have h2 : ¬ ((p.length : Int) == -1) = true := by simp
    simp [h2]
theorem index_free (p : List UInt8) (hp : (47 : UInt8) ∉ p) : Lib.index p [47] = -1 := by
  induction p with
  | nil => simp [Lib.index]
  | cons x p ih =>
    have hx : x ≠ 47 := fun e => hp (by simp [e])
    have hi := ih (fun h => hp (List.mem_cons_of_mem _ h))
    rw [Lib.index]
    have h1 : ([47] : List UInt8).isPrefixOf (x :: p) = false := by simp [List.isPrefixOf, Ne.symm hx]
    rw [h1, hi]
    simp
theorem splitK_glue (ps : List (List UInt8)) (r : List UInt8) (hp : ∀ p ∈ ps, (47 : UInt8) ∉ p) : splitK [47] 0 ps.length (glue 47 ps ++ r) = ps ++ [r] := by
  induction ps with
  | nil => simp [splitK, glue]
  | cons a ps ih =>
    have e : glue 47 (a :: ps) ++ r = a ++ 47 :: (glue 47 ps ++ r) := by rw [glue_cons]; simp
    rw [e, List.length_cons, splitK, index_cut a _ (hp a (by simp))]
    have h2 : ¬ ((a.length : Int) == -1) = true := by simp
    rw [if_neg h2, Int.toNat_natCast, Nat.add_zero]
    have e1 : (a ++ 47 :: (glue 47 ps ++ r)).take a.length = a := by simp
    have e2 : (a ++ 47 :: (glue 47 ps ++ r)).drop (a.length + ([47] : List UInt8).length) = glue 47 ps ++ r := by
      rw [← List.drop_drop]
      simp
    rw [e1, e2, ih (fun p h => hp p (List.mem_cons_of_mem _ h))]
    rfl
theorem count_glue (ps : List (List UInt8)) (r : List UInt8) (hp : ∀ p ∈ ps, (47 : UInt8) ∉ p) (hr : (47 : UInt8) ∉ r) : (glue 47 ps ++ r).count 47 = ps.length := by
  induction ps with
  | nil => simp [glue, List.count_eq_zero.2 hr]
  | cons a ps ih =>
    have e : glue 47 (a :: ps) ++ r = a ++ 47 :: (glue 47 ps ++ r) := by rw [glue_cons]; simp
    rw [e, List.count_append, List.count_cons, ih (fun p h => hp p (List.mem_cons_of_mem _ h)), List.count_eq_zero.2 (hp a (by simp))]
    simp
theorem splitK_pieces (t : List UInt8) : splitK [47] 0 (t.count 47) t = pieces t := by
  have h := cut_glue 47 t
  obtain ⟨ps, r, hc⟩ : ∃ ps r, cutS 47 t = (ps, r) := ⟨_, _, rfl⟩
  rw [hc] at h
  unfold pieces
  rw [hc]
  obtain ⟨h1, h2, h3⟩ := h
  dsimp only at h1 h2 h3 ⊢
  rw [← h1, count_glue ps r h2 h3, splitK_glue ps r h2]
theorem pieces_len (t : List UInt8) : (pieces t).length = t.count 47 + 1 := by
  have h := cut_glue 47 t
  unfold pieces
  rw [List.length_append]
  conv => rhs; rw [← h.1, count_glue _ _ h.2.1 h.2.2]
  rfl
theorem split_pcs (s : ByteArray) : splitB { data := #[47] } 0 (s.data.toList.count 47) s = (pieces s.data.toList).map str := by
  have h := splitB_data { data := #[47] } 0 (s.data.toList.count 47) s
  rw [show (({ data := #[47] } : ByteArray).data.toList) = [47] from rfl, splitK_pieces] at h
  rw [← h, map_data_str]

set_option maxRecDepth 20000 in
set_option maxHeartbeats 1000000 in
theorem split_any (s : ByteArray) (hs : s.size ≤ 1024) (w : World) : Calls Tryd.prog 17 #[.string s, .string { data := #[47] }] w fun e w' => (∃ u, e = .returned u ∧ See w' u ((pieces s.data.toList).map str)) ∧ Below w.heap.size w w' := by
  have hcb : Lib.countB s { data := #[47] } = s.data.toList.count 47 := by
    show Lib.count s.data.toList [47] = _
    exact Lib.count_one 47 _
  have hcl : s.data.toList.count 47 ≤ s.size := by
    rw [size_eq s]
    exact List.count_le_length
  have hg := Any.strings_genSplit_core splLays (by kernel_rfl) s { data := #[47] } 0 (-1) (s.data.toList.count 47 + 1) w (by omega) (by decide) (Nat.zero_le _)
    (fun x c _ => by
      refine (Any.strings_Index_one (ρ := splRen) { splLays with } x 47 _).mono fun e w' ⟨he, hw⟩ => ⟨?_, hw⟩
      rw [he, ← index_one])
    (by
      refine (Any.strings_Count_one (ρ := splRen) { splLays with } s 47 w).mono fun e w' ⟨he, hw⟩ => ⟨?_, hw⟩
      rw [he, hcb]
      rfl)
    (by decide) (by decide) (by rw [if_pos (by decide), hcb]; omega)
  rw [Nat.add_sub_cancel, split_pcs] at hg
  have hpl : ((pieces s.data.toList).map str).length = s.data.toList.count 47 + 1 := by rw [List.length_map, pieces_len]
  have hce : Lib.cellsOf ((pieces s.data.toList).map str) (s.data.toList.count 47 + 1) = (sc ((pieces s.data.toList).map str)).toArray := by
    rw [← hpl]; exact Lib.cellsOf_full _
  rw [hpl, hce] at hg
  have HSee : Hid (See (w.alloc (.cells (sc ((pieces s.data.toList).map str)).toArray 9)) (.slice (some ⟨w.heap.size, 0, none⟩) (s.data.toList.count 47 + 1) (s.data.toList.count 47 + 1)) ((pieces s.data.toList).map str)) := see_new w _ _ _ _ rfl hpl.symm (Nat.le_refl _)
  have hg' : Calls Tryd.prog 30 #[.string s, .string { data := #[47] }, .int .i64 0, .int .i64 (-1)] w fun e w' => e = .returned (.slice (some ⟨w.heap.size, 0, none⟩) (s.data.toList.count 47 + 1) (s.data.toList.count 47 + 1)) ∧ w' = w.alloc (.cells (sc ((pieces s.data.toList).map str)).toArray 9) := hg
  clear hg hce hpl hcl hcb
  generalize (pieces s.data.toList).map str = L at *
  generalize s.data.toList.count 47 + 1 = n at *
  generalize (sc L).toArray = cs at *
  go_enter Tryd.func17, Tryd.ntmps17
  go_wp2_with (go_at_call 30; refine hg'.mono ?_; rintro e w1 ⟨rfl, rfl⟩)
  go_ret
  exact ⟨⟨_, rfl, HSee.out⟩, (Below.refl _ _).alloc (Nat.le_refl _) _⟩
end Go.Proofs.YtpoipgmphhfgeabDoor.Pa
