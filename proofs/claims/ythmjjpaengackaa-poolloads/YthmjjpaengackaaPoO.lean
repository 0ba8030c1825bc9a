import Derived.Test.YthmjjpaengackaaPoN
namespace Go.Proofs.Ythmjjpaengackaa.Po
open Go.RowKit Go.Lib Go.Deep

/-- what a call asks of a pool and its state -/
structure Ok (w : World) (pb q : Nat) (F : List Nat) (nn : Nat) (S : Ps) : Prop where
  top : Top w pb q
  lay : Lay w q F nn S
  good : Good S
  nn : nn < 9223372036854775800
theorem Good.ow {S : Ps} (h : Good S) {i : Nat} {o : Ob} (hi : S.R[i]? = some o) : -1 ≤ o.ow ∧ o.ow ≤ 65600 := by
  have h1 := h.st i o hi
  have h2 := h.fl
  omega
theorem Good.nm {S : Ps} (h : Good S) {i : Nat} {o : Ob} (hi : S.R[i]? = some o) : o.nm.size ≤ 16 ∧ o.tg.size ≤ 16 := by
  obtain ⟨⟨h1, h2, _⟩, _⟩ := h.st i o hi
  unfold isText at h1 h2
  omega
set_option maxRecDepth 20000 in
set_option maxHeartbeats 1000000 in
theorem give_any (w : World) (q : Nat) (F : List Nat) (nn : Nat) (S : Ps) (i : Nat) (was : Ob) (f : Int) (hL : Lay w q F nn S) (hG : Good S) (hN : nn < 9223372036854775800) (hi : S.R[i]? = some was) (hf : -1 ≤ f ∧ f ≤ 65600) (ho : f ≠ -1 → ∀ (j : Nat) o, j ≠ i → S.R[j]? = some o → o.ow ≠ f) :
    Calls Try.prog 34 #[.pointer (some ⟨q, 0, none⟩), .int .i64 (i : Int), .int .i64 f] w fun e w' => e = .returned (.tuple #[]) ∧ Turn F w w' q (nn + 1) (putP S i (owO was f)) := by
  have hL0 := hL
  obtain ⟨rv, mv, oa, na, room, h, rfl, hI⟩ := hL
  obtain ⟨g, cap, rfl⟩ := hI.form hi
  have hlt : (i : Int) < (S.R.length : Int) := by have := some_lt hi; omega
  obtain ⟨-, c1, -⟩ := hI.cells
  obtain ⟨r0, r1, r2, r3, -⟩ := hI.row hi
  obtain ⟨V, hV, hb, k0⟩ := one_new w #[.string was.nm, .string was.tg, .int .i64 was.bk, .int .i64 was.ow] 35
  obtain ⟨U, hU⟩ : ∃ U, V.setCell ⟨w.heap.size, 3, none⟩ (.int .i64 f) = U := ⟨_, rfl⟩
  have hbU : Below w.heap.size w U := by rw [← hU]; exact hb.setCell (Nat.le_refl _) _
  have kU : U.heap[w.heap.size]? = some (.cells #[.string was.nm, .string was.tg, .int .i64 was.bk, .int .i64 f] 35 (0, 0)) := by rw [← hU]; exact (heap_setCell_fr _ _ _ _ _ _ _ k0).trans rfl
  have x0 : U.cell? ⟨w.heap.size, 0, none⟩ = some (.string was.nm) := (cell_of_heap kU).trans rfl
  have x1 : U.cell? ⟨w.heap.size, 1, none⟩ = some (.string was.tg) := (cell_of_heap kU).trans rfl
  have x2 : U.cell? ⟨w.heap.size, 2, none⟩ = some (.int .i64 was.bk) := (cell_of_heap kU).trans rfl
  have x3 : U.cell? ⟨w.heap.size, 3, none⟩ = some (.int .i64 f) := (cell_of_heap kU).trans rfl
  have y3 : V.cell? ⟨w.heap.size, 3, none⟩ = some (.int .i64 was.ow) := (cell_of_heap k0).trans rfl
  have fz : V.frozen? ⟨w.heap.size, 3, none⟩ = false := frozen_of_heap k0
  have hput := put_any U q _ nn S i was (owO was f) (hL0.below hbU) hi (hG.nm hi).1 (hG.nm hi).1 (hG.ow hi) hf ho (fun hn j o hj hoj e => hj (hG.nu j i o was hoj hi e (by rw [e]; exact hn))) (by unfold maxLen; omega)
  unfold obV owO at hput
  unfold owO
  have HE : Hid (∀ w', Turn (fp q (.slice (some ⟨g, 0, none⟩) S.R.length cap) mv oa na) U w' q (nn + 1) (putP S i ⟨was.nm, was.tg, was.bk, f⟩) → Turn (fp q (.slice (some ⟨g, 0, none⟩) S.R.length cap) mv oa na) w w' q (nn + 1) (putP S i ⟨was.nm, was.tg, was.bk, f⟩)) := fun w' hT => Turn.ahead hbU hT
  obtain ⟨wn, wt, wb, wo⟩ := was
  dsimp only at *
  generalize S.R.length = N at *
  clear hI hi hL0 hb hbU k0 kU ho hG
  go_enter Try.func34, Try.ntmps34
  go_wp2_with fail
  refine hput.mono ?_
  rintro e w' ⟨rfl, hT⟩
  have HT : Hid _ := HE.out w' hT
  clear hT hput
  go_wp2
  go_end0
  exact ⟨rfl, HT.out⟩
theorem fault_ok {w : World} {pb q nn : Nat} {F : List Nat} {S : Ps} (h : Ok w pb q F nn S) (i : Int) : Calls Try.prog 28 #[.pointer (some ⟨pb, 0, none⟩), .int .i64 i] w fun e w' => e = .returned (.int .i64 (faultE S i)) ∧ w' = w := fault_any w pb q F nn S i h.top h.lay
theorem sizePs : (Try.prog.info? 29).map (·.size) = some 2 := by kernel_rfl
set_option maxRecDepth 20000 in
set_option maxHeartbeats 1000000 in
theorem at_any (w : World) (pb q : Nat) (F : List Nat) (nn : Nat) (S : Ps) (i : Int) (hK : Ok w pb q F nn S) : Calls Try.prog 11 #[.pointer (some ⟨pb, 0, none⟩), .int .i64 i] w fun e w' => e = .returned (.tuple #[obV (if rowN S i then rowAt S i else zOb), .int .i64 (atE S i)]) ∧ Below w.heap.size w w' := by
  obtain ⟨V, hV, hb, k0⟩ := one_new w #[.string { data := #[] }, .string { data := #[] }, .int .i64 0, .int .i64 0] 35
  have hKV : Ok V pb q F nn S := ⟨hK.top.below hb, hK.lay.below hb, hK.good, hK.nn⟩
  have hf := fault_ok hKV i
  have HB : Hid _ := hb
  have HK : Hid _ := k0
  have z0 : V.cell? ⟨w.heap.size, 0, none⟩ = some (.string { data := #[] }) := (cell_of_heap k0).trans rfl
  have z1 : V.cell? ⟨w.heap.size, 1, none⟩ = some (.string { data := #[] }) := (cell_of_heap k0).trans rfl
  have z2 : V.cell? ⟨w.heap.size, 2, none⟩ = some (.int .i64 0) := (cell_of_heap k0).trans rfl
  have z3 : V.cell? ⟨w.heap.size, 3, none⟩ = some (.int .i64 0) := (cell_of_heap k0).trans rfl
  have fz : ∀ j, V.frozen? ⟨w.heap.size, j, none⟩ = false := fun j => frozen_of_heap k0
  have f0 := fz 0
  have f1 := fz 1
  have f2 := fz 2
  have f3 := fz 3
  by_cases h1 : rowN S i
  · rw [show atE S i = 0 from if_pos h1, if_pos h1]
    rw [show faultE S i = 0 from if_pos h1] at hf
    have hi := row_get h1
    obtain ⟨j, rfl⟩ : ∃ j : Nat, i = j := ⟨i.toNat, by unfold rowN at h1; omega⟩
    rw [Int.toNat_natCast] at hi
    obtain ⟨rv, mv, oa, na, room, h, rfl, hI⟩ := hKV.lay
    obtain ⟨g, cap, rfl⟩ := hI.form hi
    have c0 := hKV.top.cell
    obtain ⟨-, c1, -⟩ := hI.cells
    obtain ⟨r0, r1, r2, r3, -⟩ := hI.row hi
    have hlt : (j : Int) < (S.R.length : Int) := by have := some_lt hi; omega
    unfold obV
    generalize rowAt S (j : Int) = o at *
    generalize S.R.length = N at *
    obtain ⟨nm, tg, bk, ow⟩ := o
    dsimp only at *
    clear hI hi h1 hK hKV hb k0 fz
    go_enter Try.func11, Try.ntmps11
    go_wp2_with (go_at_call 28; refine hf.mono ?_; rintro e w2 ⟨rfl, rfl⟩)
    refine bodyPost_ret (Tr.results_cellt rfl _ _ w.heap.size 35 _ (0, 0) _ rfl (put4A HK.out) Try.underlying35 rfl sizeOb) rfl ?_
    exact ⟨rfl, (((HB.out.setCell (by simp) _).setCell (by simp) _).setCell (by simp) _).setCell (by simp) _⟩
  · rw [show atE S i = 131 from if_neg h1, if_neg h1]
    rw [show faultE S i = 131 from if_neg h1] at hf
    unfold obV zOb e0
    dsimp only
    clear h1 hK hKV hb k0 fz
    go_enter Try.func11, Try.ntmps11
    go_wp2_with (go_at_call 28; refine hf.mono ?_; rintro e w2 ⟨rfl, rfl⟩)
    refine bodyPost_ret (Tr.results_cellt rfl _ _ w.heap.size 35 _ (0, 0) _ rfl (put4A HK.out) Try.underlying35 rfl sizeOb) rfl ?_
    exact ⟨rfl, (((HB.out.setCell (by simp) _).setCell (by simp) _).setCell (by simp) _).setCell (by simp) _⟩
end Go.Proofs.Ythmjjpaengackaa.Po
