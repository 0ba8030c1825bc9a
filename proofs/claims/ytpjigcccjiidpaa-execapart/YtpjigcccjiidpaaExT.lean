import Derived.Test.YtpjigcccjiidpaaExR
namespace Go.Proofs.Ytpjigcccjiidpaa.Ex
open Go.RowKit Go.Lib Go.Deep

theorem size1 (w : World) : (Go.sizeOf 5).run Try.prog w = .ok 1 w := by kernel_rfl
/-- 'copy(b[i:], d)' -/
theorem run_lay {w : World} {g c : Nat} {s : List UInt8} (h : Bf w g c s) {i : Nat} {d : List UInt8} (hi : i + d.length ≤ s.length) (ty : TypeId) (n c' : Nat) (hn : d.length ≤ n) :
    (Builtin.copy_ #[70, 9] ty #[.slice (some ⟨g, i, none⟩) n c', .string (str d)]).run Try.prog w = .ok (goInt (str d).size) (w.setCells g i (Lib.byteCells d)) ∧ Bf (w.setCells g i (Lib.byteCells d)) g c (lay s i d) := by
  refine ⟨?_, h.over hi⟩
  have hr := run_copy_string (P := Try.prog) w 70 9 ty 5 g i n c' (str d) Try.underlying70 size1 (by rw [str_size]; exact hn) (fun j hj => by
      rw [str_size] at hj
      rw [h.cell (List.getElem?_eq_getElem (show i + j < s.length by omega))]; rfl) (fun j hj => by
      rw [str_size] at hj
      obtain ⟨cur, fr, h1, h2, h3, h4, h5, h6⟩ := h
      exact h2 _ (by omega))
  rw [str_data] at hr
  exact hr
/-- the world behind the resizing in with -/
def Wtw (w : World) (g : Nat) (t : List UInt8) (g' N c' i : Nat) (d : ByteArray) (V : World) : Prop :=
  V.cell? ⟨w.heap.size, 0, none⟩ = some (.slice (some ⟨g', 0, none⟩) N c') ∧ ∃ U, (Builtin.copy_ #[70, 9] 3 #[.slice (some ⟨g', i, none⟩) (N - i) (c' - i), .string d]).run Try.prog V = .ok (goInt d.size) U ∧
    U.cell? ⟨w.heap.size, 0, none⟩ = some (.slice (some ⟨g', 0, none⟩) N c') ∧ U.cell? ⟨w.heap.size + 1, 0, none⟩ = some (.slice none 0 0) ∧ U.frozen? ⟨w.heap.size + 1, 0, none⟩ = false ∧ Hid (U.heap[w.heap.size + 1]? = some (.cells #[.slice none 0 0] 72 (0, 0)) ∧
      RzP w g t (.returned (.agg #[.slice (some ⟨g', 0, none⟩) N c'])) (U.setCell ⟨w.heap.size + 1, 0, none⟩ (.slice (some ⟨g', 0, none⟩) N c')))
theorem cfSW (args : Array Value) (w : World) : (callFunc 38 args).run Try.prog w = .ok (.enter 38 args) w := by kernel_rfl
theorem cfRZ (args : Array Value) (w : World) : (callFunc 40 args).run Try.prog w = .ok (.enter 40 args) w := by kernel_rfl
set_option maxRecDepth 20000 in
set_option maxHeartbeats 1000000 in
theorem with_any (g c : Nat) (s : List UInt8) (w : World) (hB : Bf w g c s) (i : Nat) (d : List UInt8) (hi : i + d.length ≤ 549755813888) (hs : s.length ≤ 549755813888) : Calls Try.prog 39 #[cv g s.length c, .int .i64 (i : Int), .string (str d)] w fun e w' => RzP w g (wrt s i d) e w' := by
  obtain ⟨W, hW, hb, k0, k1⟩ := two_new w #[.slice (some ⟨g, 0, none⟩) s.length c] #[.slice none 0 0] 72 72
  have R0 : Rzw w g c s W := ⟨only_of_below hb, hB.keep (hb.block _ hB.lt), k0, k1⟩
  have hgl := hB.lt
  obtain ⟨c0, c1, f1⟩ := R0.cells
  have HR0 : Hid _ := R0
  unfold cv
  by_cases hd : d = []
  · subst hd
    have e0 : (str ([] : List UInt8)) = { data := #[] } := rfl
    have e1 : wrt s i [] = s := by unfold wrt; rw [if_pos rfl]
    rw [e0, e1]
    clear hb k0 k1 hB R0
    go_enter Try.func39, Try.ntmps39
    go_wp2
    refine bodyPost_ret (Tr.results_cell1 rfl _ _ (w.heap.size + 1) 72 _ (0, 0) _ rfl (put1 HR0.out.k1) Try.underlying72 rfl sizeC) rfl ?_
    exact ⟨g, c, rfl, HR0.out.bf.keep (heap_setCell_other _ _ _ _ (by show g ≠ w.heap.size + 1; omega)), .inl rfl, only_new HR0.out.be (by omega) _⟩
  · have e0 : (str d).toList.isEmpty = false := by rw [str_toList]; cases d with | nil => exact absurd rfl hd | cons => rfl
    have hwr : wrt s i d = lay (resz s (szw s i d)) i d := by unfold wrt; rw [if_neg hd]
    have hNi := szw_end (s := s) (at_ := i) hd
    have hdl : 0 < d.length := List.length_pos_iff.2 hd
    have hNb : szw s i d ≤ 1099511627776 := by unfold szw; split <;> omega
    have HSW : Hid (∀ V, Calls Try.prog 38 #[.agg #[.slice (some ⟨g, 0, none⟩) s.length c], .int .i64 (i : Int), .string (str d)] V fun e w' => e = .returned (.int .i64 ((szw s i d : Nat) : Int)) ∧ Below V.heap.size V w') := fun V => sizeWith_any s.length (some ⟨g, 0, none⟩) c V i d (by omega) (by omega)
    have HRZ : Hid (∀ V, Rzw w g c s V → Calls Try.prog 40 #[.agg #[.slice (some ⟨g, 0, none⟩) s.length c], .int .i64 ((szw s i d : Nat) : Int)] V fun e w6 => ∃ g' c', e = .returned (.agg #[.slice (some ⟨g', 0, none⟩) (szw s i d) c']) ∧ w6.cell? ⟨w.heap.size, 0, none⟩ = some (.slice (some ⟨g, 0, none⟩) s.length c) ∧ w6.frozen? ⟨w.heap.size, 0, none⟩ = false ∧ Hid (i ≤ szw s i d ∧ szw s i d ≤ c' ∧ ¬ c' = i) ∧ Hid (Wtw w g (wrt s i d) g' (szw s i d) c' i (str d) (w6.setCell ⟨w.heap.size, 0, none⟩ (.slice (some ⟨g', 0, none⟩) (szw s i d) c')))) := fun V hV => by
      refine (resized_any g c s V hV.bf (szw s i d) hNb).mono ?_
      rintro e w6 ⟨g', c', rfl, hB6, hg6, ho6⟩
      rw [resz_len]
      have q0 : w6.heap[w.heap.size]? = some (.cells #[.slice (some ⟨g, 0, none⟩) s.length c] 72 (0, 0)) := (ho6.block _ (heap_lt hV.k0) (by simp; omega)).trans hV.k0
      have q1 : w6.heap[w.heap.size + 1]? = some (.cells #[.slice none 0 0] 72 (0, 0)) := (ho6.block _ (heap_lt hV.k1) (by simp; omega)).trans hV.k1
      have hs1 := heap_lt hV.k1
      have hgw : g' ≠ w.heap.size ∧ g' ≠ w.heap.size + 1 := by omega
      have hcp := hB6.cap_le
      rw [resz_len] at hcp
      refine ⟨g', c', rfl, (cell_of_heap q0).trans rfl, frozen_of_heap q0, ⟨by omega, by omega, by omega⟩, (cell_of_heap (put1 q0)).trans rfl, ?_⟩
      have hBX : Bf (w6.setCell ⟨w.heap.size, 0, none⟩ (.slice (some ⟨g', 0, none⟩) (szw s i d) c')) g' c' (resz s (szw s i d)) := hB6.keep (heap_setCell_other _ _ _ _ hgw.1)
      obtain ⟨hrun, hBU⟩ := run_lay hBX (i := i) (d := d) (by rw [resz_len]; omega) 3 (szw s i d - i) (c' - i) (by omega)
      have u0 := (heap_setCells_other g' w.heap.size hgw.1.symm (Lib.byteCells d) i (w6.setCell ⟨w.heap.size, 0, none⟩ (.slice (some ⟨g', 0, none⟩) (szw s i d) c'))).trans (put1 q0)
      have u1 := ((heap_setCells_other g' (w.heap.size + 1) hgw.2.symm (Lib.byteCells d) i (w6.setCell ⟨w.heap.size, 0, none⟩ (.slice (some ⟨g', 0, none⟩) (szw s i d) c'))).trans (heap_setCell_other _ _ _ _ (by show w.heap.size + 1 ≠ w.heap.size; omega))).trans q1
      refine ⟨_, hrun, (cell_of_heap u0).trans rfl, (cell_of_heap u1).trans rfl, frozen_of_heap u1, u1, g', c', ?_, ?_, ?_, ?_⟩
      · rw [wrt_len]; rfl
      · rw [hwr]
        exact hBU.keep (heap_setCell_other _ _ _ _ hgw.2)
      · rcases hg6 with h | h
        · exact .inl h
        · exact .inr (by have := hV.be.size; omega)
      · have o1 : Only [g] w (w6.setCell ⟨w.heap.size, 0, none⟩ (.slice (some ⟨g', 0, none⟩) (szw s i d) c')) := only_new (hV.be.trans ho6) (Nat.le_refl _) _
        refine only_new ?_ (by omega) _
        rcases hg6 with h | h
        · subst h
          exact Only.setCells o1 (by simp) _ _
        · have hsz := hV.be.size
          refine ⟨(size_setCells _ _ _ _).2.1.trans o1.os, (size_setCells _ _ _ _).2.2.1.trans o1.tape, (size_setCells _ _ _ _).2.2.2.trans o1.output, ?_, fun k hk hS => (heap_setCells_other _ _ (by omega) _ _ _).trans (o1.block k hk hS)⟩
          rw [(size_setCells _ _ _ _).1]
          exact o1.size
    have B1 : Hid (∀ j, Rzw w g c s (W.drewN j)) := fun j => R0.below (bdN W j)
    clear hwr hNi hdl hNb hd hb k0 k1 hB hi hs R0
    obtain ⟨N, hN⟩ : ∃ N, szw s i d = N := ⟨_, rfl⟩
    obtain ⟨t, ht⟩ : ∃ t, wrt s i d = t := ⟨_, rfl⟩
    obtain ⟨D, hD⟩ : ∃ D, str d = D := ⟨_, rfl⟩
    rw [hN, hD] at HSW HRZ
    rw [ht] at HRZ ⊢
    rw [hD] at e0 ⊢
    clear hN ht hD
    go_enter Try.func39, Try.ntmps39
    go_wp2_with fail
    go_region_law (first
      | (refine step_call rfl 38 cfSW #[.tmp 11, .tmp 12, .tmp 13] #[72, 3, 9] rfl #[.agg #[.slice (some ⟨g, 0, none⟩) s.length c], .int .i64 (i : Int), .string D] (by simp [Act.eval]) (HSW.out _) ?_; rintro e w5 ⟨rfl, hb5⟩; have hR5 := (B1.out _).below hb5; have hS5 := hR5.cells.1; clear hb5; refine ⟨_, rfl, ?_⟩)
      | (refine step_call rfl 40 cfRZ #[.tmp 10, .tmp 14] #[72, 3] rfl #[.agg #[.slice (some ⟨g, 0, none⟩) s.length c], .int .i64 (N : Int)] (by simp [Act.eval]) (HRZ.out _ (by assumption)) ?_; rintro e w6 ⟨g', c', rfl, hS6, f6, HN, HE⟩; refine ⟨_, rfl, ?_⟩))
    all_goals
      refine with_world (Q := fun V => Wtw w g t g' N c' i D V) _ HE.out ?_
      rintro V ⟨v0, U, hrun, u0, u1, uf, HU⟩
      obtain ⟨n1, n2, n3⟩ := HN.out
      go_wp2
      refine bodyPost_ret (Tr.results_cell1 rfl _ _ (w.heap.size + 1) 72 _ (0, 0) _ rfl (put1 HU.out.1) Try.underlying72 rfl sizeC) rfl ?_
      exact HU.out.2
end Go.Proofs.Ytpjigcccjiidpaa.Ex
