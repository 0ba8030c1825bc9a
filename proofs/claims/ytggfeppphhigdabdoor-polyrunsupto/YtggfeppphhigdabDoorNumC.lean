import Derived.Test.YtggfeppphhigdabDoorNumB
namespace Go.Proofs.YtggfeppphhigdabDoor
open Go.RowKit Go.Lib Go.Deep

theorem mix_get (Z a : List Nat) (k : Nat) (hz : k ≤ Z.length) : (Z.take k ++ a.drop k).getD k 0 = a.getD k 0 := by
  rw [List.getD_eq_getElem?_getD, List.getElem?_append_right (by rw [List.length_take]; omega), List.length_take, Nat.min_eq_left hz, Nat.sub_self, List.getElem?_drop, Nat.add_zero, ← List.getD_eq_getElem?_getD]
theorem mix_set (Z a : List Nat) (k : Nat) (hz : k < Z.length) (ha : k < a.length) : (Z.take k ++ a.drop k).set k (Z.getD k 0) = Z.take (k + 1) ++ a.drop (k + 1) := by
  have e : (Z.take k).length = k := by rw [List.length_take]; omega
  rw [List.set_append_right _ _ (by omega), e, Nat.sub_self, List.take_add_one, List.getD_eq_getElem?_getD, List.getElem?_eq_getElem hz, List.drop_eq_getElem_cons ha, List.set_cons_zero, List.append_assoc]
  rfl
theorem zip_getD (a b : List Nat) (k : Nat) (ha : k < a.length) (hb : k < b.length) : (List.zipWith (· + ·) a b).getD k 0 = a.getD k 0 + b.getD k 0 := by
  simp [List.getD_eq_getElem?_getD, List.getElem?_zipWith, ha, hb]

/-- what plus holds -/
structure Pl (w wr : World) (a b n : List Nat) : Prop where
  one : Nb .u64 54 wr w.heap.size n
  two : Nb .u64 54 wr (w.heap.size + 1) b
  res : Nb .u64 54 wr (w.heap.size + 2) (List.replicate 5 0)
  bel : Below w.heap.size w wr

set_option maxRecDepth 20000 in
set_option maxHeartbeats 1000000 in
theorem plus_any (a b : List Nat) (ha : a.length = 5) (hb : b.length = 5) (hA : ∀ i, a.getD i 0 < 1152921504606846976) (hB : ∀ i, b.getD i 0 < 1152921504606846976) (w : World) :
    Calls Tryd.prog 25 #[.agg (ns .u64 a), .agg (ns .u64 b)] w fun e w' => e = .returned (.agg (ns .u64 (List.zipWith (· + ·) a b))) ∧ Below w.heap.size w w' := by
  have HS0 : Hid (Pl w (((w.alloc (.cells (ns .u64 a) 54)).alloc (.cells (ns .u64 b) 54)).alloc (.cells (ns .u64 (List.replicate 5 0)) 54)) a b a) :=
    ⟨((Nb.new _ _ _ _).alloc _).alloc _, (Nb.newN _ _ _ _ _ (by simp)).alloc _, Nb.newN _ _ _ _ _ (by simp), (((Below.refl _ _).alloc (Nat.le_refl _) _).alloc (by simp) _).alloc (by simp; omega) _⟩
  rw [zeros5] at HS0
  have hzl : (List.zipWith (· + ·) a b).length = 5 := by rw [List.length_zipWith, ha, hb]; rfl
  have HZ : Hid (∀ k, k < 5 → (List.zipWith (· + ·) a b).getD k 0 = a.getD k 0 + b.getD k 0) := fun k hk => zip_getD a b k (by omega) (by omega)
  have HA : Hid ((∀ i, a.getD i 0 < 1152921504606846976) ∧ (∀ i, b.getD i 0 < 1152921504606846976)) := ⟨hA, hB⟩
  clear hA hB
  obtain ⟨Z, hZ⟩ : ∃ Z, List.zipWith (· + ·) a b = Z := ⟨_, rfl⟩
  rw [hZ] at hzl HZ ⊢
  clear hZ
  go_enter Tryd.func25, Tryd.ntmps25
  go_wp2
  go_loopg [6] 5 (fun gk i wr => ∃ k : Nat, k + gk = 5 ∧ i = .int .i64 k ∧ Pl w wr a b (Z.take k ++ a.drop k))
  case atStart => exact ⟨0, by omega, rfl, HS0.out⟩
  case round =>
    clear HS0
    obtain ⟨k, hkk, rfl, HS⟩ := hrel
    have HK : Hid (k + gk = 5) := hkk
    have hk' : k ≤ 5 := by omega
    clear hkk
    by_cases hlt : k < 5
    · have hltI : (k : Int) < 5 := by omega
      have hx := HA.out.1 k
      have hy := HA.out.2 k
      have hz := HZ.out k hlt
      have c0 := HS.one.cell k (by rw [List.length_append, List.length_take, List.length_drop]; omega)
      rw [mix_get Z a k (by omega)] at c0
      have c1 := HS.two.cell k (by omega)
      have f0 := HS.one.frozen k
      have HR : Hid (Pl w (wr.setCell ⟨w.heap.size, k, none⟩ (.int .u64 ((a.getD k 0 : Int) + (b.getD k 0 : Int)))).drew a b (Z.take (k + 1) ++ a.drop (k + 1))) := by
        rw [← Int.natCast_add, ← hz]
        refine ⟨?_, (HS.two.beside (by simp) _).drew, (HS.res.beside (by simp) _).drew, (HS.bel.setCell (Nat.le_refl _) _).drew⟩
        rw [← mix_set Z a k (by omega) (by omega)]
        exact (HS.one.put k _).drew
      clear hz
      revert hx hy c0 c1 HR
      generalize a.getD k 0 = x
      generalize b.getD k 0 = y
      intro hx hy c0 c1 HR
      clear HS
      go_wp2
      go_region
      refine with_world (R := fun W => Exit.inBlock _ _ _ _ W) (Q := fun W => Pl w W a b (Z.take (k + 1) ++ a.drop (k + 1))) _ HR.out ?_
      clear HR c0 c1 f0
      intro w9 HP
      go_wp2
      go_roundg (gk - 1)
      case measure => have := HK.out; omega
      case rel => exact ⟨k + 1, by have := HK.out; omega, by go_num, HP⟩
    · obtain rfl : k = 5 := by omega
      rw [List.take_of_length_le (by omega), List.drop_eq_nil_of_le (by omega), List.append_nil] at HS
      have hres := HS.one
      have HT := HS.res.store Z hzl
      have hth := HS.res.there (ns .u64 Z).size (by rw [ns_size, hzl]; rfl)
      have hbel' : Below w.heap.size w (wr.setCells (w.heap.size + 2) 0 (ns .u64 Z).toList) := Below.setCells HS.bel (by simp) _ _
      have hsz := ns5 Z hzl
      have hone := ns_one .u64 Z
      unfold Nb at HT hres
      clear HS HK HA HZ
      revert hres HT hth hbel' hsz hone
      generalize hC : ns .u64 Z = C
      intro hres HT hth hbel' hsz hone
      have HE : Hid (ns .u64 Z = C) := hC
      clear hC
      go_wp2_with (first | (refine wpList_load_row rfl 54 (.tmp 2) rfl w.heap.size rfl 54 _ (0, 0) _ hres Tryd.underlying54 rfl hsz ?_) | (refine wpList_store_mid rfl 54 (.tmp 4) (.tmp 18) rfl (w.heap.size + 2) 0 _ rfl rfl hth hsz hone ?_))
      refine bodyPost_ret (results_cell_row rfl _ _ (w.heap.size + 2) 54 _ (0, 0) _ rfl HT Tryd.underlying54 rfl hsz) rfl ?_
      rw [HE.out]
      exact ⟨rfl, hbel'⟩

end Go.Proofs.YtggfeppphhigdabDoor
