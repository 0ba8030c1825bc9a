import Derived.Test.YtggfeppphhigdabDoorNumF
namespace Go.Proofs.YtggfeppphhigdabDoor
open Go.RowKit Go.Lib Go.Deep

theorem one5 (x : Nat) : ns .u64 [x, 0, 0, 0, 0] = #[.int .u64 (x : Int), .int .u64 0, .int .u64 0, .int .u64 0, .int .u64 0] := rfl
theorem vl_one5 (x : Nat) : vl 67108864 [x, 0, 0, 0, 0] = x := by simp [vl]
theorem lt_one5 (x : Nat) (hx : x < 1152921504606846976) (i : Nat) : [x, 0, 0, 0, 0].getD i 0 < 1152921504606846976 := by
  match i with
  | 0 => exact hx
  | 1 | 2 | 3 | 4 => show 0 < _; omega
  | n + 5 => show 0 < _; omega
theorem zip_lt (a b : List Nat) (M : Nat) (_hM : 0 < M) (ha : ∀ i, a.getD i 0 < M) (hb : ∀ i, b.getD i 0 < M) (i : Nat) : (List.zipWith (· + ·) a b).getD i 0 < 2 * M := by
  have h1 := ha i
  have h2 := hb i
  rw [List.getD_eq_getElem?_getD] at h1 h2 ⊢
  rw [List.getElem?_zipWith]
  cases ha' : a[i]? <;> cases hb' : b[i]? <;> simp [ha', hb'] at h1 h2 ⊢ <;> omega

/-- plus, then spread -/
theorem both_lt (v x : Nat) (hx : x < 67108864) : ∀ i, (List.zipWith (· + ·) (lim v) [x, 0, 0, 0, 0]).getD i 0 < 1152921504606846976 := fun i => by
  have := zip_lt (lim v) [x, 0, 0, 0, 0] 67108864 (by omega) (lim_at v) (fun j => by
    match j with
    | 0 => exact hx
    | 1 | 2 | 3 | 4 => show 0 < _; omega
    | n + 5 => show 0 < _; omega) i
  omega
theorem both_vl (v x : Nat) (hv : v < 1361129467683753853853498429727072845824) : vl 67108864 (List.zipWith (· + ·) (lim v) [x, 0, 0, 0, 0]) = v + x := by
  rw [vl_zip_add _ _ _ (by rw [lim_length]; rfl), vl_lim v hv, vl_one5]
theorem both_length (v x : Nat) : (List.zipWith (· + ·) (lim v) [x, 0, 0, 0, 0]).length = 5 := by rw [List.length_zipWith, lim_length]; rfl

/-- what least holds -/
structure Le (w wr : World) (L : List Nat) : Prop where
  own : Nb .u64 54 wr w.heap.size L
  res : Nb .u64 54 wr (w.heap.size + 1) (List.replicate 5 0)
  bel : Below w.heap.size w wr
theorem Le.below {w wr W : World} {L : List Nat} (h : Le w wr L) (hb : Below wr.heap.size wr W) : Le w W L := ⟨h.own.below hb h.own.lt, h.res.below hb h.res.lt, h.bel.trans (hb.mono h.bel.size)⟩
theorem Le.fresh {w wr : World} {L : List Nat} (h : Le w wr L) (o : Obj) (vs : List Value) : Le w ((wr.alloc o).setCells wr.heap.size 0 vs) L :=
  ⟨(h.own.alloc o).aside (by have := h.own.lt; omega) _ _, (h.res.alloc o).aside (by have := h.res.lt; omega) _ _, Below.setCells (h.bel.alloc h.bel.size _) h.bel.size _ _⟩

set_option maxRecDepth 20000 in
set_option maxHeartbeats 1000000 in
theorem least_any (v : Nat) (hv : v < 1361129467683753853853498429727072845824) (w : World) :
    Calls Tryd.prog 24 #[.agg (ns .u64 (lim v))] w fun e w' => e = .returned (.agg (ns .u64 (lim (v % Pp)))) ∧ Below w.heap.size w w' := by
  have hl5 := lim_length v
  have hlM := lim_at v
  have HP1 : Hid (∀ W, Calls Tryd.prog 25 #[.agg (ns .u64 (lim v)), .agg (ns .u64 [5, 0, 0, 0, 0])] W fun e w' => e = .returned (.agg (ns .u64 (List.zipWith (· + ·) (lim v) [5, 0, 0, 0, 0]))) ∧ Below W.heap.size W w') := fun W => plus_any _ _ hl5 rfl (fun i => by have := hlM i; omega) (lt_one5 5 (by omega)) W
  have HS1 : Hid (∀ W, Calls Tryd.prog 26 #[.agg (ns .u64 (List.zipWith (· + ·) (lim v) [5, 0, 0, 0, 0]))] W fun e w' => e = .returned (.tuple #[.agg (ns .u64 (lim (v + 5))), .int .u64 (((v + 5) / 1361129467683753853853498429727072845824 : Nat) : Int)]) ∧ Below W.heap.size W w') := fun W => by
    have h := spread_any _ (both_length v 5) (both_lt v 5 (by omega)) W
    rw [both_vl v 5 hv] at h
    exact h
  have ho : (v + 5) / 1361129467683753853853498429727072845824 ≤ 1 := by omega
  have HLE := least_eq v hv
  revert HS1 ho HLE
  generalize (v + 5) / 1361129467683753853853498429727072845824 = o
  intro HS1 ho HLE
  have HP2 : Hid (∀ W, Calls Tryd.prog 25 #[.agg (ns .u64 (lim v)), .agg (ns .u64 [5 * o, 0, 0, 0, 0])] W fun e w' => e = .returned (.agg (ns .u64 (List.zipWith (· + ·) (lim v) [5 * o, 0, 0, 0, 0]))) ∧ Below W.heap.size W w') := fun W => plus_any _ _ hl5 rfl (fun i => by have := hlM i; omega) (lt_one5 _ (by omega)) W
  have HS2 : Hid (∀ W, ∃ y, Calls Tryd.prog 26 #[.agg (ns .u64 (List.zipWith (· + ·) (lim v) [5 * o, 0, 0, 0, 0]))] W fun e w' => e = .returned (.tuple #[.agg (ns .u64 (lim (v % Pp))), .int .u64 (y : Int)]) ∧ Below W.heap.size W w') := fun W => by
    have h := spread_any _ (both_length v (5 * o)) (both_lt v (5 * o) (by omega)) W
    have e : lim (v + 5 * o) = lim (v % Pp) := by
      rw [← HLE]
      exact (dg_mod 67108864 5 (v + 5 * o) (by omega)).symm
    rw [both_vl v _ hv, e] at h
    exact ⟨_, h⟩
  rw [one5] at HP1
  rw [one5, Int.natCast_mul] at HP2
  have hl1 := lim_length (v + 5)
  have hl2 := lim_length (v % Pp)
  clear HLE hlM hv
  have HL0 : Hid (Le w ((w.alloc (.cells (ns .u64 (lim v)) 54)).alloc (.cells (ns .u64 (List.replicate 5 0)) 54)) (lim v)) :=
    ⟨(Nb.new _ _ _ _).alloc _, Nb.newN _ _ _ _ _ (by simp), ((Below.refl _ _).alloc (Nat.le_refl _) _).alloc (by simp) _⟩
  rw [zeros5] at HL0
  revert HP1 HS1 HP2 HS2 hl1 hl2 hl5 HL0
  generalize List.zipWith (· + ·) (lim v) [5, 0, 0, 0, 0] = Z1
  generalize List.zipWith (· + ·) (lim v) [5 * o, 0, 0, 0, 0] = Z2
  generalize lim (v + 5) = R1
  generalize lim (v % Pp) = R2
  generalize lim v = L
  intro hl5 HP1 HS1 HP2 HS2 hl1 hl2 HL0
  have hszL := ns5 L hl5
  have hsz1 := ns5 R1 hl1
  have hsz2 := ns5 R2 hl2
  have hone1 := ns_one .u64 R1
  have hone2 := ns_one .u64 R2
  have hs1 : (ns .u64 R1).size = 5 := by rw [ns_size, hl1]
  have hs2 : (ns .u64 R2).size = 5 := by rw [ns_size, hl2]
  go_enter Tryd.func24, Tryd.ntmps24
  go_upto_region 1 with fail
  refine with_world (R := fun W => Code.wp _ _ _ _ W) (Q := fun W => Le w W L) _ HL0.out ?_
  clear HL0
  intro w1 H1
  have hp1 := HP1.out w1
  go_wp2_with (refine wpList_load_row rfl 54 (.tmp 1) rfl w.heap.size rfl 54 _ (0, 0) _ H1.own Tryd.underlying54 rfl hszL ?_)
  refine hp1.mono ?_
  rintro e w2 ⟨rfl, hb2⟩
  have H2 := H1.below hb2
  clear H1 hb2 hp1 HP1
  have hp2 := HS1.out w2
  go_wp2_with fail
  refine hp2.mono ?_
  rintro e w3 ⟨rfl, hb3⟩
  have H3 := H2.below hb3
  clear H2 hb3 hp2 HS1
  go_upto_region 2 with (refine wpList_store_mid rfl 54 (.tmp 3) (.tmp 12) rfl w3.heap.size 0 _ rfl rfl (there_of_heap (heap_new _ _) (by rw [hs1]; decide)) hsz1 hone1 ?_)
  refine with_world (R := fun W => Code.wp _ _ _ _ W) (Q := fun W => Le w W L) _ (H3.fresh _ _) ?_
  clear H3
  intro w4 H4
  generalize w3.heap.size = g3
  have hp1 := HP2.out w4
  have hoI : (o : Int) ≤ 1 := by omega
  go_wp2_with (refine wpList_load_row rfl 54 (.tmp 1) rfl w.heap.size rfl 54 _ (0, 0) _ H4.own Tryd.underlying54 rfl hszL ?_)
  refine hp1.mono ?_
  rintro e w5 ⟨rfl, hb5⟩
  have H5 := H4.below hb5
  clear H4 hb5 hp1 HP2
  obtain ⟨y, hp2⟩ := HS2.out w5
  go_wp2_with fail
  refine hp2.mono ?_
  rintro e w6 ⟨rfl, hb6⟩
  have H6 := H5.below hb6
  clear H5 hb6 hp2 HS2
  have HN : Hid (∀ z : Array Value, z.size = 5 → Nb .u64 54 ((w6.alloc (.cells z 54)).setCells w6.heap.size 0 (ns .u64 R2).toList) w6.heap.size R2) := fun z hz => by
    have h := heap_setCells w6.heap.size 54 (ns .u64 R2).toList 0 z _ (heap_new w6 (.cells z 54))
    rw [setMany_all _ _ (by rw [Array.length_toList, hs2, hz]), Array.toArray_toList] at h
    exact h
  go_upto_region 3 with (refine wpList_store_mid rfl 54 (.tmp 5) (.tmp 21) rfl w6.heap.size 0 _ rfl rfl (there_of_heap (heap_new _ _) (by rw [hs2]; decide)) hsz2 hone2 ?_)
  have hlt6 := H6.res.lt
  refine with_world (R := fun W => Code.wp _ _ _ _ W) (Q := fun W => Le w W L ∧ Nb .u64 54 W w6.heap.size R2) _ ⟨H6.fresh _ _, HN.out _ rfl⟩ ?_
  clear H6 HN
  rintro w7 ⟨H7, hn7⟩
  revert hn7 hlt6
  generalize w6.heap.size = g6
  intro hlt6 hn7
  have HT := H7.res.store R2 hl2
  have hth := H7.res.there (ns .u64 R2).size (by rw [hs2]; rfl)
  have hbel' : Below w.heap.size w (w7.setCells (w.heap.size + 1) 0 (ns .u64 R2).toList) := Below.setCells H7.bel (by simp) _ _
  unfold Nb at HT hn7
  go_wp2_with (first | (refine wpList_load_row rfl 54 (.tmp 5) rfl g6 rfl 54 _ (0, 0) _ hn7 Tryd.underlying54 rfl hsz2 ?_) | (refine wpList_store_mid rfl 54 (.tmp 2) (.tmp 23) rfl (w.heap.size + 1) 0 _ rfl rfl hth hsz2 hone2 ?_))
  refine bodyPost_ret (results_cell_row rfl _ _ (w.heap.size + 1) 54 _ (0, 0) _ rfl HT Tryd.underlying54 rfl hsz2) rfl ?_
  exact ⟨rfl, hbel'⟩

end Go.Proofs.YtggfeppphhigdabDoor
