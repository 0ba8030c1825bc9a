import Derived.Test.YtpjigcccjiidpaaExQ
namespace Go.Proofs.Ytpjigcccjiidpaa.Ex
open Go.RowKit Go.Lib Go.Deep

/-- a content behind a change: its block, and what was touched -/
def RzP (w : World) (g : Nat) (s' : List UInt8) (e : Ending) (w' : World) : Prop := ∃ g' c', e = .returned (cv g' s'.length c') ∧ Bf w' g' c' s' ∧ (g' = g ∨ w.heap.size ≤ g') ∧ Only [g] w w'
theorem only_of_below {S : List Nat} {w w' : World} (h : Below w.heap.size w w') : Only S w w' := ⟨h.os, h.tape, h.output, h.size, fun k hk _ => h.block k hk⟩
theorem only_new {S : List Nat} {w w' : World} (h : Only S w w') {b j : Nat} (hp : w.heap.size ≤ b) (u : Value) : Only S w (w'.setCell ⟨b, j, none⟩ u) := ⟨h.os, h.tape, h.output, by simpa using h.size, fun k hk hS => (heap_setCell_other _ _ _ _ (by show k ≠ b; omega)).trans (h.block k hk hS)⟩
/-- the worlds of resized -/
structure Rzw (w : World) (g c : Nat) (s : List UInt8) (V : World) : Prop where
  be : Only [g] w V
  bf : Bf V g c s
  k0 : V.heap[w.heap.size]? = some (.cells #[.slice (some ⟨g, 0, none⟩) s.length c] 72 (0, 0))
  k1 : V.heap[w.heap.size + 1]? = some (.cells #[.slice none 0 0] 72 (0, 0))
theorem Rzw.below {w V V' : World} {g c : Nat} {s : List UInt8} (h : Rzw w g c s V) (hb : Below V.heap.size V V') : Rzw w g c s V' := ⟨only_below h.be hb, h.bf.keep (hb.block _ h.bf.lt), (hb.block _ (heap_lt h.k0)).trans h.k0, (hb.block _ (heap_lt h.k1)).trans h.k1⟩
def RzS (w : World) (g c : Nat) (s : List UInt8) (V : World) : Prop := V.cell? ⟨w.heap.size, 0, none⟩ = some (.slice (some ⟨g, 0, none⟩) s.length c) ∧ V.cell? ⟨w.heap.size + 1, 0, none⟩ = some (.slice none 0 0) ∧ V.frozen? ⟨w.heap.size + 1, 0, none⟩ = false
theorem Rzw.cells {w V : World} {g c : Nat} {s : List UInt8} (h : Rzw w g c s V) : V.cell? ⟨w.heap.size, 0, none⟩ = some (.slice (some ⟨g, 0, none⟩) s.length c) ∧ V.cell? ⟨w.heap.size + 1, 0, none⟩ = some (.slice none 0 0) ∧ V.frozen? ⟨w.heap.size + 1, 0, none⟩ = false := ⟨(cell_of_heap h.k0).trans rfl, (cell_of_heap h.k1).trans rfl, frozen_of_heap h.k1⟩
theorem cfSize (args : Array Value) (w : World) : (callFunc 36 args).run Try.prog w = .ok (.enter 36 args) w := by kernel_rfl
set_option maxRecDepth 20000 in
set_option maxHeartbeats 1000000 in
theorem resized_any (g c : Nat) (s : List UInt8) (w : World) (hB : Bf w g c s) (n : Nat) (hn : n ≤ 1099511627776) : Calls Try.prog 40 #[cv g s.length c, .int .i64 (n : Int)] w fun e w' => RzP w g (resz s n) e w' := by
  obtain ⟨W, hW, hb, k0, k1⟩ := two_new w #[.slice (some ⟨g, 0, none⟩) s.length c] #[.slice none 0 0] 72 72
  have R0 : Rzw w g c s W := ⟨only_of_below hb, hB.keep (hb.block _ hB.lt), k0, k1⟩
  have hcap := hB.cap_le
  have hgl := hB.lt
  obtain ⟨c0, c1, f1⟩ := R0.cells
  have HC := csize_any s.length (some ⟨g, 0, none⟩) c W
  have HR0 : Hid _ := R0
  unfold cv
  by_cases h : n ≤ s.length
  · rw [resz_cut h]
    have hI : (n : Int) ≤ (s.length : Int) := by omega
    have hnc : n ≤ c := by omega
    have HL : Hid (n ≤ s.length) := h
    clear hb k0 k1 hB hcap h R0
    go_enter Try.func40, Try.ntmps40
    go_wp2_with (go_at_call 36; refine HC.mono ?_; rintro e w1 ⟨rfl, hb1⟩; obtain ⟨d0, d1, e1⟩ := (HR0.out.below hb1).cells)
    refine bodyPost_ret (Tr.results_cell1 rfl _ _ (w.heap.size + 1) 72 _ (0, 0) _ rfl (put1 (HR0.out.below hb1).k1) Try.underlying72 rfl sizeC) rfl ?_
    have hR1 := HR0.out.below hb1
    refine ⟨g, c, ?_, (hR1.bf.cut HL.out).keep (heap_setCell_other _ _ _ _ (by show g ≠ w.heap.size + 1; omega)), .inl rfl, only_new hR1.be (by omega) _⟩
    rw [List.length_take, Nat.min_eq_left HL.out]
    rfl
  · obtain ⟨k, rfl⟩ : ∃ k, n = s.length + k := ⟨n - s.length, by omega⟩
    have hkz : 0 < k := by omega
    have w1 : IntKind.i64.wrap (((s.length + k : Nat) : Int) - (s.length : Int)) = (k : Int) := by rw [IntKind.wrap_i64]; omega
    have hI : ¬ ((s.length + k : Nat) : Int) ≤ (s.length : Int) := by omega
    have HX : Hid (∀ V, Rzw w g c s V → ∃ g' c' w3, (Builtin.append_ #[70, 3] 70 #[.slice (some ⟨g, 0, none⟩) s.length c, .int .i64 (k : Int)]).run Try.prog V = .ok (.slice (some ⟨g', 0, none⟩) (s.length + k) c') w3 ∧ w3.cell? ⟨w.heap.size + 1, 0, none⟩ = some (.slice none 0 0) ∧ w3.frozen? ⟨w.heap.size + 1, 0, none⟩ = false ∧ w3.cell? ⟨w.heap.size, 0, none⟩ = some (.slice (some ⟨g, 0, none⟩) s.length c) ∧ Hid (w3.heap[w.heap.size + 1]? = some (.cells #[.slice none 0 0] 72 (0, 0)) ∧
        RzP w g (resz s (s.length + k)) (.returned (.agg #[.slice (some ⟨g', 0, none⟩) (s.length + k) c'])) (w3.setCell ⟨w.heap.size + 1, 0, none⟩ (.slice (some ⟨g', 0, none⟩) (s.length + k) c')))) := fun V hV => by
      obtain ⟨g', c', w3, hr, hB3, hg3, ho3⟩ := run_grow hV.bf k hkz hn 70 3 70 Try.underlying70 Try.underlying3
      have q0 : w3.heap[w.heap.size]? = some (.cells #[.slice (some ⟨g, 0, none⟩) s.length c] 72 (0, 0)) := (ho3.block _ (heap_lt hV.k0) (by simp; omega)).trans hV.k0
      have q1 : w3.heap[w.heap.size + 1]? = some (.cells #[.slice none 0 0] 72 (0, 0)) := (ho3.block _ (heap_lt hV.k1) (by simp; omega)).trans hV.k1
      have hs1 := heap_lt hV.k1
      have e : resz s (s.length + k) = s ++ List.replicate k 0 := by rw [resz_grow (by omega), Nat.add_sub_cancel_left]
      refine ⟨g', c', w3, hr, (cell_of_heap q1).trans rfl, frozen_of_heap q1, (cell_of_heap q0).trans rfl, q1, g', c', ?_, ?_, ?_, ?_⟩
      · rw [resz_len]; rfl
      · rw [e]
        exact hB3.keep (heap_setCell_other _ _ _ _ (by show g' ≠ w.heap.size + 1; omega))
      · rcases hg3 with h | h
        · exact .inl h
        · exact .inr (by have := hV.be.size; omega)
      · exact only_new (hV.be.trans ho3) (by omega) _
    generalize s.length + k = N at *
    have HCV : Hid (∀ V, Calls Try.prog 36 #[.agg #[.slice (some ⟨g, 0, none⟩) s.length c]] V fun e w' => e = .returned (.int .i64 (s.length : Int)) ∧ Below V.heap.size V w') := fun V => csize_any s.length (some ⟨g, 0, none⟩) c V
    have HBN : Hid (∀ V j, Rzw w g c s V → Rzw w g c s (V.drewN j)) := fun V j h => h.below (bdN V j)
    clear hb k0 k1 hB hcap h R0
    go_enter Try.func40, Try.ntmps40
    go_wp2_with (go_at_call 36; refine HC.mono ?_; rintro e w1 ⟨rfl, hb1⟩; have hR1 := HR0.out.below hb1; obtain ⟨d0, d1, e1⟩ := hR1.cells)
    have HR1 : Hid _ := hR1
    have B1 : Hid (∀ j, Rzw w g c s (w1.drewN j)) := fun j => hR1.below (bdN w1 j)
    clear hR1 hb1 HC c0 c1 f1
    go_region_held_law (fun V => V.cell? ⟨w.heap.size, 0, none⟩ = some (.slice (some ⟨g, 0, none⟩) s.length c)) (first | exact (B1.out _).cells.1 | exact hS5 | exact hS6 | go_keep) (first | (refine step_append_run rfl (.tmp 15) (.tmp 19) 70 3 rfl _ _ _ _ (by simp [Act.eval]) (by simp [Act.eval]) hrun ?_) | (go_at_call 36; refine (HCV.out _).mono ?_; rintro e w5 ⟨rfl, hb5⟩; have hR5 := (B1.out _).below hb5; have hS5 := hR5.cells.1; obtain ⟨g', c', w6, hrun, d6, f6, hS6, HE⟩ := HX.out w5 hR5; clear hR5 hb5))
    all_goals
      go_wp2
      refine bodyPost_ret (Tr.results_cell1 rfl _ _ (w.heap.size + 1) 72 _ (0, 0) _ rfl (put1 HE.out.1) Try.underlying72 rfl sizeC) rfl ?_
      exact HE.out.2
end Go.Proofs.Ytpjigcccjiidpaa.Ex
