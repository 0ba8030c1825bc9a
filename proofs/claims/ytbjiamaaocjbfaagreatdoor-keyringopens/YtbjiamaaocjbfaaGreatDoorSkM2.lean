import Derived.Test.YtbjiamaaocjbfaaGreatDoorSkM1
import Derived.Test.YtbjiamaaocjbfaaGreatDoorPrM
namespace Go.Proofs.YtbjiamaaocjbfaaGreatDoor.Kp
open Go.RowKit Go.Lib Go.Deep Kr

set_option maxRecDepth 20000 in
set_option maxHeartbeats 2000000 in
theorem openSlot_any (id p : List UInt8) (s : Slot) (w : World) (hi : id.length ≤ 1000) (hp : p.length ≤ 140737488351000) (hs : s.salt.length = 16 ∧ 1 ≤ s.rounds ∧ s.rounds ≤ 4096 ∧ s.wrapped.length = 72) (hT : KTab w) :
    Calls Tryz.prog 75 #[.string (str id), .string (str p), slotV s] w fun e w' => e = .returned (.tuple #[.string (atY id p s), .int .i64 (atE id p s)]) ∧ Below w.heap.size w w' := by
  unfold slotV
  have hA : (w.alloc (.cells #[.string (str s.salt), .int .i64 s.rounds, .string (str s.wrapped)] 38)).heap[w.heap.size]? = some (.cells #[.string (str s.salt), .int .i64 s.rounds, .string (str s.wrapped)] 38 (0, 0)) := heap_new _ _
  have hb0 : Below w.heap.size w (w.alloc (.cells #[.string (str s.salt), .int .i64 s.rounds, .string (str s.wrapped)] 38)) := (Below.refl _ _).alloc (Nat.le_refl _) _
  have c1 := slotKey_any p s _ hp (by omega) ⟨hs.2.1, hs.2.2.1⟩ (hT.below hb0)
  unfold slotV at c1
  have x0 : (w.alloc (.cells #[.string (str s.salt), .int .i64 s.rounds, .string (str s.wrapped)] 38)).cell? ⟨w.heap.size, 0, none⟩ = some (.string (str s.salt)) := (cell_of_heap hA).trans rfl
  have x1 : (w.alloc (.cells #[.string (str s.salt), .int .i64 s.rounds, .string (str s.wrapped)] 38)).cell? ⟨w.heap.size, 1, none⟩ = some (.int .i64 s.rounds) := (cell_of_heap hA).trans rfl
  have x2 : (w.alloc (.cells #[.string (str s.salt), .int .i64 s.rounds, .string (str s.wrapped)] 38)).cell? ⟨w.heap.size, 2, none⟩ = some (.string (str s.wrapped)) := (cell_of_heap hA).trans rfl
  have c2 : Hid (∀ W, Calls Tryz.prog 42 #[.string (str id), .agg #[.string (str s.salt), .int .i64 s.rounds, .string (str s.wrapped)]] W fun e w' => e = .returned (.string (str (aadK id s))) ∧ Below W.heap.size W w') := fun W => slotAad_any id s W (by omega) (by omega) ⟨hs.2.1, hs.2.2.1⟩
  have c3 : Hid (∀ W, Below w.heap.size w W → Calls Tryz.prog 99 #[.string (str (keyK p s)), .string (str (s.wrapped.take 24)), .string (str (aadK id s)), .string (str (s.wrapped.drop 24))] W fun e w' => e = .returned (.tuple #[.string (atY id p s), .int .i64 (atE id p s)]) ∧ Below W.heap.size W w') := fun W hb => Ae.openC (str (keyK p s)) (str (s.wrapped.take 24)) (str (aadK id s)) (str (s.wrapped.drop 24)) W (by rw [str_size, keyK_length]; omega) (by rw [str_size, List.length_take]; omega) (by rw [str_size, aadK_length]; omega) (by rw [str_size, List.length_drop]; omega) (hT.below hb).a
  have s1 := fun W => Ae.slice_take (P := Tryz.prog) W 9 Tryz.underlying9 s.wrapped 24 (by omega)
  have s2 := fun W => Ae.slice_drop (P := Tryz.prog) W 9 Tryz.underlying9 s.wrapped 24 (by omega)
  rw [show ((24 : Nat) : Int) = 24 from rfl] at s1 s2
  have HB : Hid (∀ w1, Below (w.alloc (.cells #[.string (str s.salt), .int .i64 s.rounds, .string (str s.wrapped)] 38)).heap.size (w.alloc (.cells #[.string (str s.salt), .int .i64 s.rounds, .string (str s.wrapped)] 38)) w1 → Below w.heap.size w w1 ∧ w1.heap[w.heap.size]? = some (.cells #[.string (str s.salt), .int .i64 s.rounds, .string (str s.wrapped)] 38 (0, 0))) := fun w1 hb => ⟨hb0.trans (hb.mono hb0.size), (hb.block _ (heap_lt hA)).trans hA⟩
  have HC : Hid (∀ W : World, W.heap[w.heap.size]? = some (.cells #[.string (str s.salt), .int .i64 s.rounds, .string (str s.wrapped)] 38 (0, 0)) → W.cell? ⟨w.heap.size, 0, none⟩ = some (.string (str s.salt)) ∧ W.cell? ⟨w.heap.size, 1, none⟩ = some (.int .i64 s.rounds) ∧ W.cell? ⟨w.heap.size, 2, none⟩ = some (.string (str s.wrapped))) := fun W h => ⟨(cell_of_heap h).trans rfl, (cell_of_heap h).trans rfl, (cell_of_heap h).trans rfl⟩
  clear hA hb0
  generalize atY id p s = yr at c3 ⊢
  generalize atE id p s = er at c3 ⊢
  generalize str (keyK p s) = yk at c1 c3
  generalize str (aadK id s) = ya at c2 c3
  generalize str (s.wrapped.take 24) = yn at s1 c3
  generalize str (s.wrapped.drop 24) = yb at s2 c3
  generalize str s.salt = xa at *
  generalize str s.wrapped = xc at *
  generalize str p = yp at *
  generalize str id = yi at *
  generalize s.rounds = rn at *
  go_enter Tryz.func75, Tryz.ntmps75
  go_wp2_with fail
  refine c1.mono ?_
  rintro e w1 ⟨rfl, hb1⟩
  have h1 := HB.out w1 hb1
  have HB1 : Hid _ := h1.1
  have HQ1 : Hid _ := h1.2
  have HQd : Hid (∀ j, (w1.drewN j).heap[w.heap.size]? = some (.cells #[.string xa, .int .i64 rn, .string xc] 38 (0, 0))) := fun j => h1.2
  have HBd : Hid (∀ j w5, Below (w1.drewN j).heap.size (w1.drewN j) w5 → Below w.heap.size w w5 ∧ w5.heap[w.heap.size]? = some (.cells #[.string xa, .int .i64 rn, .string xc] 38 (0, 0))) := fun j w5 hb => ⟨HB1.out.trans ⟨hb.os, hb.tape, hb.output, hb.size, fun k hk => hb.block k (Nat.lt_of_lt_of_le hk HB1.out.size)⟩, (hb.block _ (heap_lt HQ1.out)).trans HQ1.out⟩
  clear h1 hb1 c1 x0 x1 x2
  go_wp2_with fail
  go_region_held_law (fun W => W.cell? ⟨w.heap.size, 0, none⟩ = some (.string xa) ∧ W.cell? ⟨w.heap.size, 1, none⟩ = some (.int .i64 rn) ∧ W.cell? ⟨w.heap.size, 2, none⟩ = some (.string xc)) (first | exact HC.out _ (HQd.out _) | exact HC.out _ h5.out.2 | exact HC.out _ h6.out.2 | go_keep)
    (first | (go_at_call 42; refine (c2.out _).mono ?_; rintro e w5 ⟨rfl, hb5⟩; have h5 : Hid _ := HBd.out _ _ hb5) | (go_at_call 99; refine (c3.out _ h5.out.1).mono ?_; rintro e w6 ⟨rfl, hb6⟩; have h6 : Hid _ := And.intro (h5.out.1.trans (hb6.mono h5.out.1.size)) ((hb6.block _ (heap_lt h5.out.2)).trans h5.out.2)))
  all_goals
    go_wp2
    go_ret2
    exact ⟨rfl, h6.out.1⟩

set_option maxRecDepth 20000 in
set_option maxHeartbeats 2000000 in
theorem makeSlot_any (id master p coins : List UInt8) (rounds : Int) (w : World) (hi : id.length ≤ 1000) (hm : master.length ≤ 1048576) (hp : p.length ≤ 140737488351000) (hr : 1 ≤ rounds ∧ rounds ≤ 4096) (hc : coins.length = 40) (hT : KTab w) :
    Calls Tryz.prog 22 #[.string (str id), .string (str master), .string (str p), .int .i64 rounds, .string (str coins)] w fun e w' => e = .returned (.tuple #[slotV (madeK id master p rounds coins), .int .i64 0]) ∧ Below w.heap.size w w' := by
  have s1 := fun W => Ae.slice_take (P := Tryz.prog) W 9 Tryz.underlying9 coins 16 (by omega)
  have s2 := fun W => Ae.slice_drop (P := Tryz.prog) W 9 Tryz.underlying9 coins 16 (by omega)
  rw [show ((16 : Nat) : Int) = 16 from rfl] at s1 s2
  obtain ⟨W0, hW0⟩ : ∃ W, (w.alloc (.cells #[.string { data := #[] }, .int .i64 0, .string { data := #[] }] 38)).alloc (.cells #[.string (str (coins.take 16)), .int .i64 rounds, .string { data := #[] }] 38) = W := ⟨_, rfl⟩
  have hb0 : Below w.heap.size w W0 := by rw [← hW0]; exact ((Below.refl _ _).alloc (Nat.le_refl _) _).alloc (by simp) _
  have hq0 : W0.heap[w.heap.size]? = some (.cells #[.string { data := #[] }, .int .i64 0, .string { data := #[] }] 38 (0, 0)) := by rw [← hW0]; exact (Below.heap_alloc _ _ _ (by simp)).trans (heap_new _ _)
  have hg0 : W0.heap[w.heap.size + 1]? = some (.cells #[.string (str (coins.take 16)), .int .i64 rounds, .string { data := #[] }] 38 (0, 0)) := by
    rw [← hW0]
    have := heap_new (w.alloc (.cells #[.string { data := #[] }, .int .i64 0, .string { data := #[] }] 38)) (.cells #[.string (str (coins.take 16)), .int .i64 rounds, .string { data := #[] }] 38)
    rw [show (w.alloc (.cells #[.string { data := #[] }, .int .i64 0, .string { data := #[] }] 38)).heap.size = w.heap.size + 1 by simp] at this
    exact this
  have c1 : Calls Tryz.prog 40 #[.string (str p), .agg #[.string (str (coins.take 16)), .int .i64 rounds, .string { data := #[] }]] W0 fun e w' => e = .returned (.tuple #[.string (str (keyK p (bareK rounds coins))), .int .i64 0]) ∧ Below W0.heap.size W0 w' := slotKey_any p (bareK rounds coins) W0 hp (by show (coins.take 16).length ≤ _; rw [List.length_take]; omega) hr (hT.below hb0)
  have c2 : Hid (∀ W, Calls Tryz.prog 42 #[.string (str id), .agg #[.string (str (coins.take 16)), .int .i64 rounds, .string { data := #[] }]] W fun e w' => e = .returned (.string (str (aadK id (bareK rounds coins)))) ∧ Below W.heap.size W w') := fun W => slotAad_any id (bareK rounds coins) W (by omega) (by show (coins.take 16).length ≤ _; rw [List.length_take]; omega) hr
  have hk32 : (str (keyK p (bareK rounds coins))).size = 32 := by rw [str_size, keyK_length]
  have hn24 : (str (coins.drop 16)).size = 24 := by rw [str_size, List.length_drop]; omega
  have haa : (str (aadK id (bareK rounds coins))).size ≤ 1048576 := by rw [str_size, aadK_length]; show 15 + id.length + (coins.take 16).length ≤ _; rw [List.length_take]; omega
  have c3 : Hid (∀ W, Below w.heap.size w W → Calls Tryz.prog 41 #[.string (str (keyK p (bareK rounds coins))), .string (str (coins.drop 16)), .string (str (aadK id (bareK rounds coins))), .string (str master)] W fun e w' => e = .returned (.tuple #[.string (str (Ae.sealL (keyK p (bareK rounds coins)) (coins.drop 16) (aadK id (bareK rounds coins)) master)), .int .i64 0]) ∧ Below W.heap.size W w') := fun W hb => by
    have h := Ae.sealC (str (keyK p (bareK rounds coins))) (str (coins.drop 16)) (str (aadK id (bareK rounds coins))) (str master) W (by omega) (by omega) (by omega) (by rw [str_size]; omega) (hT.below hb).a
    obtain ⟨e1, e2⟩ := Ae.sealE_yes (key := str (keyK p (bareK rounds coins))) (nonce := str (coins.drop 16)) (aad := str (aadK id (bareK rounds coins))) (plain := str master) hk32 (.inr hn24) haa (by rw [str_size]; exact hm)
    rw [e1, e2, str_data, str_data, str_data, str_data] at h
    exact h
  have hcat := fun W => cat_run W (coins.drop 16) (Ae.sealL (keyK p (bareK rounds coins)) (coins.drop 16) (aadK id (bareK rounds coins)) master) (by rw [Ae.sealL_length, List.length_drop]; omega)
  show Calls _ _ _ _ (fun e w' => e = .returned (.tuple #[.agg #[.string (str (coins.take 16)), .int .i64 rounds, .string (str (coins.drop 16 ++ Ae.sealL (keyK p (bareK rounds coins)) (coins.drop 16) (aadK id (bareK rounds coins)) master))], .int .i64 0]) ∧ Below w.heap.size w w')
  have HB0 : Hid _ := hb0
  have HQ0 : Hid _ := hq0
  have HG0 : Hid _ := hg0
  have HW0 : Hid _ := hW0
  clear hb0 hq0 hg0 haa hW0
  generalize str (coins.drop 16 ++ Ae.sealL (keyK p (bareK rounds coins)) (coins.drop 16) (aadK id (bareK rounds coins)) master) = yw at hcat ⊢
  generalize str (Ae.sealL (keyK p (bareK rounds coins)) (coins.drop 16) (aadK id (bareK rounds coins)) master) = yx at hcat c3
  generalize str (keyK p (bareK rounds coins)) = yk at *
  generalize str (aadK id (bareK rounds coins)) = ya at *
  generalize str (coins.take 16) = xa at *
  generalize str (coins.drop 16) = yn at *
  generalize str coins = yc at *
  generalize str p = yp at *
  generalize str id = yi at *
  generalize str master = ym at *
  go_enter Tryz.func22, Tryz.ntmps22
  go_wp2_with fail
  rw [HW0.out]
  refine c1.mono ?_
  clear c1 HW0
  rintro e w1 ⟨rfl, hb1⟩
  have HB1 : Hid (Below w.heap.size w w1) := HB0.out.trans (hb1.mono HB0.out.size)
  have HQ1 : Hid (w1.heap[w.heap.size]? = _) := (hb1.block _ (heap_lt HQ0.out)).trans HQ0.out
  have HG1 : Hid (w1.heap[w.heap.size + 1]? = _) := (hb1.block _ (heap_lt HG0.out)).trans HG0.out
  have x0 : w1.cell? ⟨w.heap.size + 1, 0, none⟩ = some (.string xa) := (cell_of_heap HG1.out).trans rfl
  have x1 : w1.cell? ⟨w.heap.size + 1, 1, none⟩ = some (.int .i64 rounds) := (cell_of_heap HG1.out).trans rfl
  have x2 : w1.cell? ⟨w.heap.size + 1, 2, none⟩ = some (.string { data := #[] }) := (cell_of_heap HG1.out).trans rfl
  clear hb1 HB0 HQ0 HG0
  go_wp2_with fail
  refine (c2.out _).mono ?_
  clear c2 x0 x1 x2
  rintro e w2 ⟨rfl, hb2⟩
  have HB2 : Hid (Below w.heap.size w w2) := HB1.out.trans (hb2.mono HB1.out.size)
  have HQ2 : Hid (w2.heap[w.heap.size]? = _) := (hb2.block _ (heap_lt HQ1.out)).trans HQ1.out
  have HG2 : Hid (w2.heap[w.heap.size + 1]? = _) := (hb2.block _ (heap_lt HG1.out)).trans HG1.out
  clear hb2 HB1 HQ1 HG1
  go_wp2_with fail
  refine (c3.out _ HB2.out).mono ?_
  clear c3
  rintro e w3 ⟨rfl, hb3⟩
  have HB3 : Hid (Below w.heap.size w w3) := HB2.out.trans (hb3.mono HB2.out.size)
  have HQ3 : Hid (w3.heap[w.heap.size]? = _) := (hb3.block _ (heap_lt HQ2.out)).trans HQ2.out
  have HG3 : Hid (w3.heap[w.heap.size + 1]? = _) := (hb3.block _ (heap_lt HG2.out)).trans HG2.out
  have x0 : w3.cell? ⟨w.heap.size + 1, 0, none⟩ = some (.string xa) := (cell_of_heap HG3.out).trans rfl
  have x1 : w3.cell? ⟨w.heap.size + 1, 1, none⟩ = some (.int .i64 rounds) := (cell_of_heap HG3.out).trans rfl
  have x2 : w3.cell? ⟨w.heap.size + 1, 2, none⟩ = some (.string { data := #[] }) := (cell_of_heap HG3.out).trans rfl
  have f2 : w3.frozen? ⟨w.heap.size + 1, 2, none⟩ = false := frozen_of_heap HG3.out
  have hg4 := heap_setCell_same w3 (w.heap.size + 1) 2 _ _ (.string yw) HG3.out
  have hq4 : (w3.setCell ⟨w.heap.size + 1, 2, none⟩ (.string yw)).heap[w.heap.size]? = _ := (Below.heap_setCell _ _ _ _ (by simp)).trans HQ3.out
  have u0 : (w3.setCell ⟨w.heap.size + 1, 2, none⟩ (.string yw)).cell? ⟨w.heap.size + 1, 0, none⟩ = some (.string xa) := (cell_of_heap hg4).trans rfl
  have u1 : (w3.setCell ⟨w.heap.size + 1, 2, none⟩ (.string yw)).cell? ⟨w.heap.size + 1, 1, none⟩ = some (.int .i64 rounds) := (cell_of_heap hg4).trans rfl
  have u2 : (w3.setCell ⟨w.heap.size + 1, 2, none⟩ (.string yw)).cell? ⟨w.heap.size + 1, 2, none⟩ = some (.string yw) := (cell_of_heap hg4).trans rfl
  have v0 : (w3.setCell ⟨w.heap.size + 1, 2, none⟩ (.string yw)).cell? ⟨w.heap.size, 0, none⟩ = some (.string { data := #[] }) := (cell_of_heap hq4).trans rfl
  have v1 : (w3.setCell ⟨w.heap.size + 1, 2, none⟩ (.string yw)).cell? ⟨w.heap.size, 1, none⟩ = some (.int .i64 0) := (cell_of_heap hq4).trans rfl
  have v2 : (w3.setCell ⟨w.heap.size + 1, 2, none⟩ (.string yw)).cell? ⟨w.heap.size, 2, none⟩ = some (.string { data := #[] }) := (cell_of_heap hq4).trans rfl
  have t0 : (w3.setCell ⟨w.heap.size + 1, 2, none⟩ (.string yw)).frozen? ⟨w.heap.size, 0, none⟩ = false := frozen_of_heap hq4
  have t1 : (w3.setCell ⟨w.heap.size + 1, 2, none⟩ (.string yw)).frozen? ⟨w.heap.size, 1, none⟩ = false := frozen_of_heap hq4
  have t2 : (w3.setCell ⟨w.heap.size + 1, 2, none⟩ (.string yw)).frozen? ⟨w.heap.size, 2, none⟩ = false := frozen_of_heap hq4
  have HQ4 : Hid _ := hq4
  have HB4 : Hid (Below w.heap.size w (w3.setCell ⟨w.heap.size + 1, 2, none⟩ (.string yw))) := HB3.out.setCell (by simp) _
  clear hb3 HB2 HQ2 HG2 hg4 hq4 HG3 HQ3 HB3
  go_wp2
  refine bodyPost_ret (Kr.results_cell_tmp rfl _ _ w.heap.size 38 _ (0, 0) _ rfl (put3 HQ4.out) Tryz.underlying38 rfl sizeSlot) rfl ?_
  exact ⟨rfl, ((HB4.out.setCell (Nat.le_refl _) _).setCell (Nat.le_refl _) _).setCell (Nat.le_refl _) _⟩

end Go.Proofs.YtbjiamaaocjbfaaGreatDoor.Kp

namespace Go.Proofs.YtbjiamaaocjbfaaGreatDoor.Kp
open Go.RowKit Go.Lib Go.Deep Kr

theorem results_cell_tmp3 {P : Program} {fn : Func} {p u q z : Tmp} {ty : TypeId} (h : fn.results = #[.cell p ty, .tmp u, .tmp q, .tmp z]) (tmps : Array Value) (w : World) (g : Nat) (t : TypeId) (cs : Array Value) (fr : Nat × Nat) (d : TypeDesc)
    (hp : tmps.getD p undef = .pointer (some ⟨g, 0, none⟩)) (hg : w.heap[g]? = some (.cells cs t fr)) (hu : P.underlying ty = some d) (hd : (match d with | .struct _ | .array _ _ => true | _ => false) = true) (hi : (P.info? ty).map (·.size) = some cs.size) :
    (results fn tmps).run P w = .ok (.tuple #[.agg cs, tmps.getD u undef, tmps.getD q undef, tmps.getD z undef]) w := by
  have hp' : tmps[p]?.getD undef = .pointer (some ⟨g, 0, none⟩) := by simpa using hp
  simp [results, h, hp', asAddr, run_loadVar_row w g t ty cs fr d hg hu hd hi]

/-- what opened answers -/
def openedV (id : List UInt8) (v : Value) : Option (List UInt8 × Nat) → Value
  | some (m, k) => .tuple #[.agg #[.string (str id), v], .string (str m), .int .i64 (k : Int), .int .i64 0]
  | none => .tuple #[.agg #[.string { data := #[] }, .slice none 0 0], .string { data := #[] }, .int .i64 0, .int .i64 73]

theorem opens_first {id p : List UInt8} {ss : List Slot} {k : Nat} {s : Slot} (h1 : ∀ j x, j < k → ss[j]? = some x → atE id p x ≠ 0) (hs : ss[k]? = some s) (h2 : atE id p s = 0) : opensK id p ss = some ((atY id p s).data.toList, k) := by
  cases e : opensK id p ss with
  | none => exact absurd h2 (opensFrom_none e s (List.mem_of_getElem? hs))
  | some x =>
    obtain ⟨m, n⟩ := x
    obtain ⟨s', g1, g2, g3, g4⟩ := opensK_some e
    have : n = k := by
      rcases Nat.lt_trichotomy n k with h | h | h
      · exact absurd g2 (h1 n s' h g1)
      · exact h
      · exact absurd h2 (g4 k s h hs)
    subst this
    rw [hs] at g1
    obtain rfl := Option.some.inj g1
    rw [g3]
theorem opens_no {id p : List UInt8} {ss : List Slot} (h : ∀ j x, j < ss.length → ss[j]? = some x → atE id p x ≠ 0) : opensK id p ss = none := by
  cases e : opensK id p ss with
  | none => rfl
  | some x =>
    obtain ⟨m, n⟩ := x
    obtain ⟨s', g1, g2, _, _⟩ := opensK_some e
    exact absurd g2 (h n s' (List.getElem?_eq_some_iff.1 g1).1 g1)

set_option maxRecDepth 20000 in
set_option maxHeartbeats 2000000 in
theorem opened_any (id p : List UInt8) (v : Value) (ss : List Slot) (w : World) (hS : SeeS w v ss) (hri : rightR id ss = true) (hp : p.length ≤ 140737488351000) (hT : KTab w) :
    Calls Tryz.prog 60 #[.agg #[.string (str id), v], .string (str p)] w fun e w' => e = .returned (openedV id v (opensK id p ss)) ∧ Below w.heap.size w w' := by
  obtain ⟨l16, n1, n8, hss⟩ := right_parts hri
  obtain ⟨a, b, off, cap, rfl, h2, h3⟩ := hS.ex
  obtain ⟨rfl, hbw⟩ := h2 (by omega)
  have H3 : Hid (∀ j u, (ringCells ss)[j]? = some u → w.cell? ⟨b, off + j, none⟩ = some u) := h3
  have HSS : Hid _ := hss
  have HO : Hid (∀ s ∈ ss, ∀ W, Below w.heap.size w W → Calls Tryz.prog 75 #[.string (str id), .string (str p), .agg #[.string (str s.salt), .int .i64 s.rounds, .string (str s.wrapped)]] W fun e w' => e = .returned (.tuple #[.string (atY id p s), .int .i64 (atE id p s)]) ∧ Below W.heap.size W w') := fun s hs W hb => openSlot_any id p s W (by omega) hp (hss s hs) (hT.below hb)
  obtain ⟨n, hnn⟩ : ∃ n, ss.length = n := ⟨_, rfl⟩
  have HN : Hid (ss.length = n) := hnn
  rw [hnn] at n1 n8 ⊢
  clear hnn h2 h3 hS hss hri
  obtain ⟨R, hR⟩ : ∃ R, openedV id (.slice (some ⟨b, off, none⟩) n cap) (opensK id p ss) = R := ⟨_, rfl⟩
  have HR : Hid (openedV id (.slice (some ⟨b, off, none⟩) n cap) (opensK id p ss) = R) := hR
  rw [hR]
  clear hR
  go_enter Tryz.func60, Tryz.ntmps60
  have hq0 : ((w.alloc (.cells #[.string (str id), .slice (some ⟨b, off, none⟩) n cap] 32)).alloc (.cells #[.string { data := #[] }, .slice none 0 0] 32)).heap[w.heap.size + 1]? = some (.cells #[.string { data := #[] }, .slice none 0 0] 32 (0, 0)) := by
    have := heap_new (w.alloc (.cells #[.string (str id), .slice (some ⟨b, off, none⟩) n cap] 32)) (.cells #[.string { data := #[] }, .slice none 0 0] 32)
    rw [show (w.alloc (.cells #[.string (str id), .slice (some ⟨b, off, none⟩) n cap] 32)).heap.size = w.heap.size + 1 by simp] at this
    exact this
  have hr0 : ((w.alloc (.cells #[.string (str id), .slice (some ⟨b, off, none⟩) n cap] 32)).alloc (.cells #[.string { data := #[] }, .slice none 0 0] 32)).heap[w.heap.size]? = some (.cells #[.string (str id), .slice (some ⟨b, off, none⟩) n cap] 32 (0, 0)) := (Below.heap_alloc _ _ _ (by simp)).trans (heap_new _ _)
  have HQ0 : Hid _ := hq0
  have HR0 : Hid _ := hr0
  clear hq0 hr0
  go_wp2_with fail
  go_loopg [8, 9, 10, 11, 15] n (fun gk _ _ _ _ i wr => ∃ k : Nat, k + gk = n ∧ i = .int .i64 (k : Int) ∧ Hid (∀ j x, j < k → ss[j]? = some x → atE id p x ≠ 0) ∧ Hid (wr.heap[w.heap.size]? = some (.cells #[.string (str id), .slice (some ⟨b, off, none⟩) n cap] 32 (0, 0))) ∧ Hid (wr.heap[w.heap.size + 1]? = some (.cells #[.string { data := #[] }, .slice none 0 0] 32 (0, 0))) ∧ Below w.heap.size w wr)
  case atStart => exact ⟨0, by omega, rfl, fun j _ h _ => absurd h (Nat.not_lt_zero j), HR0.out, HQ0.out, ((Below.refl _ _).alloc (Nat.le_refl _) _).alloc (by simp) _⟩
  case round =>
    clear HR0 HQ0
    obtain ⟨k, hk, rfl, HV, HRR, HQQ, hbel⟩ := hrel
    have HK : Hid (k + gk = n) := hk
    have hk' : k ≤ n := by omega
    clear hk
    have r0 : wr.cell? ⟨w.heap.size, 0, none⟩ = some (.string (str id)) := (cell_of_heap HRR.out).trans rfl
    have r1 : wr.cell? ⟨w.heap.size, 1, none⟩ = some (.slice (some ⟨b, off, none⟩) n cap) := (cell_of_heap HRR.out).trans rfl
    by_cases hlt : k < n
    · have hltI : (k : Int) < (n : Int) := by omega
      obtain ⟨s, hs⟩ : ∃ s, ss[k]? = some s := ⟨_, List.getElem?_eq_getElem (by have := HN.out; omega)⟩
      obtain ⟨a0, a1, a2⟩ := ring_at ss k s hs
      have c0 := (hbel.cell (p := ⟨b, off + k * 3, none⟩) hbw).trans (H3.out _ _ a0)
      have c1 := (hbel.cell (p := ⟨b, off + (k * 3 + 1), none⟩) hbw).trans (H3.out _ _ a1)
      have c2 := (hbel.cell (p := ⟨b, off + (k * 3 + 2), none⟩) hbw).trans (H3.out _ _ a2)
      rw [← Nat.add_assoc] at c1 c2
      clear a0 a1 a2
      have hbA : Below w.heap.size w (wr.alloc (.cells #[.string (str s.salt), .int .i64 s.rounds, .string (str s.wrapped)] 38)) := hbel.alloc hbel.size _
      have hop := HO.out s (List.mem_of_getElem? hs) _ hbA
      have HA : Hid (∀ W, Below (wr.alloc (.cells #[.string (str s.salt), .int .i64 s.rounds, .string (str s.wrapped)] 38)).heap.size (wr.alloc (.cells #[.string (str s.salt), .int .i64 s.rounds, .string (str s.wrapped)] 38)) W → W.heap[w.heap.size]? = some (.cells #[.string (str id), .slice (some ⟨b, off, none⟩) n cap] 32 (0, 0)) ∧ W.heap[w.heap.size + 1]? = some (.cells #[.string { data := #[] }, .slice none 0 0] 32 (0, 0)) ∧ Below w.heap.size w W) := fun W hb => by
        have h1 : (wr.alloc (.cells #[.string (str s.salt), .int .i64 s.rounds, .string (str s.wrapped)] 38)).heap[w.heap.size]? = _ := (Below.heap_alloc _ _ _ (heap_lt HRR.out)).trans HRR.out
        have h2 : (wr.alloc (.cells #[.string (str s.salt), .int .i64 s.rounds, .string (str s.wrapped)] 38)).heap[w.heap.size + 1]? = _ := (Below.heap_alloc _ _ _ (heap_lt HQQ.out)).trans HQQ.out
        exact ⟨(hb.block _ (heap_lt h1)).trans h1, (hb.block _ (heap_lt h2)).trans h2, hbA.trans (hb.mono hbA.size)⟩
      have HF : Hid (atE id p s = 0 → R = .tuple #[.agg #[.string (str id), .slice (some ⟨b, off, none⟩) n cap], .string (atY id p s), .int .i64 (k : Int), .int .i64 0]) := fun h => by
        rw [← HR.out, opens_first HV.out hs h]
        simp only [openedV, str_of]
      have HV2 : Hid (atE id p s ≠ 0 → ∀ j x, j < k + 1 → ss[j]? = some x → atE id p x ≠ 0) := fun h j x hj hx => by
        by_cases e : j = k
        · subst e
          rw [hs] at hx
          obtain rfl := Option.some.inj hx
          exact h
        · exact HV.out j x (by omega) hx
      clear hbA hs HRR HQQ hbel
      have rA0 : (wr.alloc (.cells #[.string (str s.salt), .int .i64 s.rounds, .string (str s.wrapped)] 38)).cell? ⟨w.heap.size, 0, none⟩ = some (.string (str id)) := by rw [World.cell?_alloc_some _ _ _ (by rw [r0]; rfl)]; exact r0
      generalize atY id p s = yr at hop HF
      generalize str s.salt = xa at *
      generalize str s.wrapped = xc at *
      generalize s.rounds = rn at *
      by_cases he : atE id p s = 0
      · rw [he] at hop
        have hR1 := HF.out he
        subst hR1
        clear HF HV2 HV HR he
        go_wp2_with (go_at_call 75; refine hop.mono ?_)
        rintro e w1 ⟨rfl, hb1⟩
        obtain ⟨g1, g2, g3⟩ := HA.out w1 hb1
        have r0' : w1.cell? ⟨w.heap.size, 0, none⟩ = some (.string (str id)) := (cell_of_heap g1).trans rfl
        have r1' : w1.cell? ⟨w.heap.size, 1, none⟩ = some (.slice (some ⟨b, off, none⟩) n cap) := (cell_of_heap g1).trans rfl
        have q0' : w1.cell? ⟨w.heap.size + 1, 0, none⟩ = some (.string { data := #[] }) := (cell_of_heap g2).trans rfl
        have q1' : w1.cell? ⟨w.heap.size + 1, 1, none⟩ = some (.slice none 0 0) := (cell_of_heap g2).trans rfl
        have f0' : w1.frozen? ⟨w.heap.size + 1, 0, none⟩ = false := frozen_of_heap g2
        have f1' : w1.frozen? ⟨w.heap.size + 1, 1, none⟩ = false := frozen_of_heap g2
        have G2 : Hid _ := g2
        have G3 : Hid _ := g3
        clear g1 g2 g3 hb1 hop HA rA0 r0 r1 c0 c1 c2
        go_wp2
        refine bodyPost_ret (results_cell_tmp3 rfl _ _ (w.heap.size + 1) 32 _ (0, 0) _ rfl (put2 G2.out) Tryz.underlying32 rfl sizeRing) rfl ?_
        exact ⟨rfl, (G3.out.setCell (by simp) _).setCell (by simp) _⟩
      · have hv := HV2.out he
        have HV3 : Hid _ := hv
        obtain ⟨er, her⟩ : ∃ z, atE id p s = z := ⟨_, rfl⟩
        rw [her] at hop he
        have hne : (er == 0) = false := beq_eq_false_iff_ne.2 he
        clear HF HV2 HV HR her hv
        go_wp2_with (go_at_call 75; refine hop.mono ?_)
        rintro e w1 ⟨rfl, hb1⟩
        have H1 : Hid _ := HA.out w1 hb1
        clear hb1 hop HA rA0 r0 r1 c0 c1 c2
        go_wp2
        go_roundg (gk - 1)
        case measure => have := HK.out; omega
        case rel => exact ⟨k + 1, by have := HK.out; omega, by go_num, HV3.out, H1.out.1, H1.out.2.1, H1.out.2.2⟩
    · obtain rfl : k = n := by omega
      have hltI : ¬ (k : Int) < (k : Int) := by omega
      have hR1 : R = .tuple #[.agg #[.string { data := #[] }, .slice none 0 0], .string { data := #[] }, .int .i64 0, .int .i64 73] := by
        rw [← HR.out, opens_no (by rw [HN.out]; exact HV.out)]
        rfl
      subst hR1
      have q0' : wr.cell? ⟨w.heap.size + 1, 0, none⟩ = some (.string { data := #[] }) := (cell_of_heap HQQ.out).trans rfl
      have q1' : wr.cell? ⟨w.heap.size + 1, 1, none⟩ = some (.slice none 0 0) := (cell_of_heap HQQ.out).trans rfl
      have f0' : wr.frozen? ⟨w.heap.size + 1, 0, none⟩ = false := frozen_of_heap HQQ.out
      have f1' : wr.frozen? ⟨w.heap.size + 1, 1, none⟩ = false := frozen_of_heap HQQ.out
      have G3 : Hid _ := hbel
      clear hbel HR HV r0 r1
      go_wp2
      refine bodyPost_ret (results_cell_tmp3 rfl _ _ (w.heap.size + 1) 32 _ (0, 0) _ rfl (put2 HQQ.out) Tryz.underlying32 rfl sizeRing) rfl ?_
      exact ⟨rfl, (G3.out.setCell (by simp) _).setCell (by simp) _⟩

end Go.Proofs.YtbjiamaaocjbfaaGreatDoor.Kp
