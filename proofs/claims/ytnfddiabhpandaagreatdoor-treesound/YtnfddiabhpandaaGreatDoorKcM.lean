import Derived.Test.YtnfddiabhpandaaGreatDoorLaM
import Derived.Test.YtnfddiabhpandaaGreatDoorSaM
namespace Go.Proofs.YtnfddiabhpandaaGreatDoor.Tr
open Go.RowKit Go.Lib Go.Deep

theorem isNaN_any (w : World) (x : Int) : Calls Tryz.prog 156 #[.int .i64 x] w fun e w' => e = .returned (.bool false) ∧ w' = w := by
  go_enter Tryz.func156, Tryz.ntmps156
  go_wp2
  go_ret
  exact ⟨rfl, rfl⟩
theorem compare_lt (w : World) (x y : Int) (h : x < y) : Calls Tryz.prog 123 #[.int .i64 x, .int .i64 y] w fun e w' => e = .returned (.int .i64 (-1)) ∧ w' = w := by
  have h1 := isNaN_any w x
  have h2 := isNaN_any w y
  go_enter Tryz.func123, Tryz.ntmps123
  go_wp2_with fail
  refine h1.mono ?_
  rintro e w1 ⟨rfl, hw1⟩
  subst w1
  go_wp2_with fail
  refine h2.mono ?_
  rintro e w1 ⟨rfl, hw1⟩
  subst w1
  go_wp2
  go_ret
  exact ⟨rfl, rfl⟩
theorem compare_gt (w : World) (x y : Int) (h : y < x) : Calls Tryz.prog 123 #[.int .i64 x, .int .i64 y] w fun e w' => e = .returned (.int .i64 1) ∧ w' = w := by
  have h1 := isNaN_any w x
  have h2 := isNaN_any w y
  have hn : ¬ x < y := by omega
  go_enter Tryz.func123, Tryz.ntmps123
  go_wp2_with fail
  refine h1.mono ?_
  rintro e w1 ⟨rfl, hw1⟩
  subst w1
  go_wp2_with fail
  refine h2.mono ?_
  rintro e w1 ⟨rfl, hw1⟩
  subst w1
  go_wp2
  go_ret
  exact ⟨rfl, rfl⟩
theorem compare_eq (w : World) (x : Int) : Calls Tryz.prog 123 #[.int .i64 x, .int .i64 x] w fun e w' => e = .returned (.int .i64 0) ∧ w' = w := by
  have h1 := isNaN_any w x
  have hn : ¬ x < x := by omega
  go_enter Tryz.func123, Tryz.ntmps123
  go_wp2_with fail
  refine h1.mono ?_
  rintro e w1 ⟨rfl, hw1⟩
  subst w1
  go_wp2_with fail
  refine h1.mono ?_
  rintro e w1 ⟨rfl, hw1⟩
  subst w1
  go_wp2
  go_ret
  exact ⟨rfl, rfl⟩
/-- the first that is not 0 of two -/
theorem or_any (w : World) (g c : Nat) (x y z : Int) (hz : z = if x = 0 then y else x) (c0 : w.cell? ⟨g, 0, none⟩ = some (.int .i64 x)) (c1 : w.cell? ⟨g, 1, none⟩ = some (.int .i64 y)) : Calls Tryz.prog 122 #[.slice (some ⟨g, 0, none⟩) 2 c] w fun e w' => e = .returned (.int .i64 z) ∧ w' = w := by
  have HZ : Hid (z = if x = 0 then y else x) := hz
  clear hz
  go_enter Tryz.func122, Tryz.ntmps122
  go_wp2_with fail
  go_loopg [8] 2 (fun gk kv wr => ∃ k : Nat, k + gk = 2 ∧ kv = .int .i64 (k : Int) ∧ Hid (wr = w) ∧ Hid (1 ≤ k → x = 0) ∧ Hid (2 ≤ k → y = 0))
  case atStart => exact ⟨0, by omega, rfl, rfl, fun h => absurd h (by omega), fun h => absurd h (by omega)⟩
  case round =>
    obtain ⟨k, hk, rfl, HW, HX, HY⟩ := hrel
    obtain rfl : wr = w := HW.out
    have hc : k = 0 ∨ k = 1 ∨ k = 2 := by omega
    rcases hc with rfl | rfl | rfl
    · by_cases hx : x = 0
      · subst hx
        go_wp2
        go_roundg 1
        case measure => omega
        case rel => exact ⟨1, by omega, rfl, rfl, fun _ => (by first | rfl | trivial), fun h => absurd h (by omega)⟩
      · have hxb : (x != 0) = true := by simpa using hx
        have HE : Hid (z = x) := HZ.out.trans (if_neg hx)
        go_wp2
        go_ret
        exact ⟨by rw [HE.out]; rfl, rfl⟩
    · have hx := HX.out (Nat.le_refl _)
      have HE : Hid (z = y) := HZ.out.trans (if_pos hx)
      by_cases hy : y = 0
      · subst hy
        go_wp2
        go_roundg 0
        case measure => omega
        case rel => exact ⟨2, by omega, rfl, rfl, fun _ => HX.out (Nat.le_refl _), fun _ => (by first | rfl | trivial)⟩
      · have hyb : (y != 0) = true := by simpa using hy
        clear hx HX HY HZ
        go_wp2
        go_ret
        exact ⟨by rw [HE.out]; rfl, rfl⟩
    · have hx := HX.out (by omega)
      have hy := HY.out (Nat.le_refl _)
      have HE : Hid (z = 0) := HZ.out.trans (by rw [if_pos hx, hy])
      clear hx hy HX HY HZ
      go_wp2
      go_ret
      exact ⟨by rw [HE.out]; rfl, rfl⟩
def ndA (x : Nd) : Array Value := #[.int .i64 (x.kind : Int), .int .i64 (x.number : Int), .int .i64 (x.parent : Int), .string x.name, .int .i64 (x.size : Int)]
set_option maxRecDepth 20000 in
set_option maxHeartbeats 1000000 in
theorem byKind_any (w : World) (x y : Nd) (h : ndLt y x) : Calls Tryz.prog 76 #[.agg (ndA x), .agg (ndA y)] w fun e w' => e = .returned (.int .i64 1) ∧ Below w.heap.size w w' := by
  obtain ⟨W, hW, hb, k0, k1⟩ := two_new w (ndA x) (ndA y) 50 50
  obtain ⟨xk, xn, xp, xm, xs⟩ := x
  obtain ⟨yk, yn, yp, ym, ys⟩ := y
  have x0 : W.cell? ⟨w.heap.size, 0, none⟩ = some (.int .i64 (xk : Int)) := (cell_of_heap k0).trans rfl
  have x1 : W.cell? ⟨w.heap.size, 1, none⟩ = some (.int .i64 (xn : Int)) := (cell_of_heap k0).trans rfl
  have y0 : W.cell? ⟨w.heap.size + 1, 0, none⟩ = some (.int .i64 (yk : Int)) := (cell_of_heap k1).trans rfl
  have y1 : W.cell? ⟨w.heap.size + 1, 1, none⟩ = some (.int .i64 (yn : Int)) := (cell_of_heap k1).trans rfl
  have hab : ∃ a b : Int, (∀ V : World, Calls Tryz.prog 123 #[.int .i64 (xk : Int), .int .i64 (yk : Int)] V fun e w' => e = .returned (.int .i64 a) ∧ w' = V) ∧ (∀ V : World, Calls Tryz.prog 123 #[.int .i64 (xn : Int), .int .i64 (yn : Int)] V fun e w' => e = .returned (.int .i64 b) ∧ w' = V) ∧ 1 = if a = 0 then b else a := by
    rcases h with h | ⟨h1, h2⟩
    · have hk : (yk : Int) < (xk : Int) := by simp only at h; omega
      have hn : (xn : Int) < (yn : Int) ∨ (xn : Int) = (yn : Int) ∨ (yn : Int) < (xn : Int) := by omega
      rcases hn with hn | hn | hn
      · exact ⟨1, -1, fun V => compare_gt V _ _ hk, fun V => compare_lt V _ _ hn, by decide⟩
      · rw [hn]
        exact ⟨1, 0, fun V => compare_gt V _ _ hk, fun V => compare_eq V _, by decide⟩
      · exact ⟨1, 1, fun V => compare_gt V _ _ hk, fun V => compare_gt V _ _ hn, by decide⟩
    · simp only at h1 h2
      subst h1
      have hn : (yn : Int) < (xn : Int) := by omega
      exact ⟨0, 1, fun V => compare_eq V _, fun V => compare_gt V _ _ hn, by decide⟩
  obtain ⟨a, b, hck, hcn, hz⟩ := hab
  have HCK : Hid _ := hck
  have HCN : Hid _ := hcn
  have HZ : Hid (1 = if a = 0 then b else a) := hz
  have HB : Hid (Below w.heap.size w W) := hb
  obtain ⟨V5, hV5⟩ : ∃ V5, W.alloc (.cells #[.int .i64 a, .int .i64 b] 3) = V5 := ⟨_, rfl⟩
  have hb5 : Below W.heap.size W V5 := by rw [← hV5]; exact (Below.refl _ _).alloc (Nat.le_refl _) _
  have k5 : V5.heap[W.heap.size]? = some (.cells #[.int .i64 a, .int .i64 b] 3 (0, 0)) := by rw [← hV5]; exact heap_new W _
  have hor := or_any V5.drew W.heap.size 2 a b 1 hz ((cell_of_heap k5).trans rfl) ((cell_of_heap k5).trans rfl)
  have q0 := (hb5.block _ (heap_lt k0)).trans k0
  have q1 := (hb5.block _ (heap_lt k1)).trans k1
  have hS5 : V5.drew.cell? ⟨w.heap.size, 0, none⟩ = some (.int .i64 (xk : Int)) ∧ V5.drew.cell? ⟨w.heap.size, 1, none⟩ = some (.int .i64 (xn : Int)) ∧ V5.drew.cell? ⟨w.heap.size + 1, 0, none⟩ = some (.int .i64 (yk : Int)) ∧ V5.drew.cell? ⟨w.heap.size + 1, 1, none⟩ = some (.int .i64 (yn : Int)) := ⟨(cell_of_heap q0).trans rfl, (cell_of_heap q0).trans rfl, (cell_of_heap q1).trans rfl, (cell_of_heap q1).trans rfl⟩
  have HB5 : Hid (Below w.heap.size w V5.drew) := (below_on hb5 hb).drew
  rw [← hV5] at hor hS5 HB5
  clear hV5 hb5 k5 q0 q1
  clear hck hcn hz h hb
  unfold ndA at *
  simp only at hW ⊢
  go_enter Tryz.func76, Tryz.ntmps76
  go_wp2_with fail
  go_region_held_law (fun V => V.cell? ⟨w.heap.size, 0, none⟩ = some (.int .i64 (xk : Int)) ∧ V.cell? ⟨w.heap.size, 1, none⟩ = some (.int .i64 (xn : Int)) ∧ V.cell? ⟨w.heap.size + 1, 0, none⟩ = some (.int .i64 (yk : Int)) ∧ V.cell? ⟨w.heap.size + 1, 1, none⟩ = some (.int .i64 (yn : Int))) (first | exact ⟨x0, x1, y0, y1⟩ | exact hS5 | go_keep) (first | (go_at_call 122; with_reducible refine hor.mono ?_; rintro e w4 ⟨rfl, hw4⟩; subst w4) | (go_at_call 123; (first | with_reducible refine (HCK.out _).mono ?_ | with_reducible refine (HCN.out _).mono ?_); rintro e w3 ⟨rfl, hw3⟩; subst w3))
  go_wp2
  go_ret
  exact ⟨rfl, HB5.out⟩

end Go.Proofs.YtnfddiabhpandaaGreatDoor.Tr

namespace Go.Proofs.YtnfddiabhpandaaGreatDoor.Tr
open Go.RowKit Go.Lib Go.Deep

set_option maxRecDepth 20000 in
set_option maxHeartbeats 2000000 in
theorem isSorted_any (w : World) (B : Nat) (a : Option Addr) (n c : Nat) (L : List Nd) (hn : n = L.length) (hA : w.ownsRow B 50 5 (.slice a n c) n (ndsc L)) (hb : n ≤ 1000000) (hs : L.Pairwise ndLt) :
    Calls Tryz.prog 75 #[.slice a n c, .func (.func 76) #[] #[]] w fun e w' => e = .returned (.bool true) ∧ Below w.heap.size w w' := by
  have HC : Hid (∀ V : World, Below w.heap.size w V → ∀ i x, L[i]? = some x → ∃ g : Nat, a = some ⟨g, 0, none⟩ ∧ V.cell? ⟨g, i * 5, none⟩ = some (.int .i64 (x.kind : Int)) ∧ V.cell? ⟨g, i * 5 + 1, none⟩ = some (.int .i64 (x.number : Int)) ∧ V.cell? ⟨g, i * 5 + 2, none⟩ = some (.int .i64 (x.parent : Int)) ∧ V.cell? ⟨g, i * 5 + 3, none⟩ = some (.string x.name) ∧ V.cell? ⟨g, i * 5 + 4, none⟩ = some (.int .i64 (x.size : Int))) := fun V hV i x hx => by
    have hA' := owns_keep hA (W' := V) (fun k hk => hV.block _ (hA.lt k hk).2)
    have e1 : ∃ g, a = some ⟨g, 0, none⟩ := by
      rcases hA.2 with ⟨h1, h2⟩ | ⟨g, cap, cur, h1, _⟩
      · have := (List.getElem?_eq_some_iff.1 hx).1
        omega
      · injection h1 with h1 _ _; exact ⟨g, h1⟩
    obtain ⟨g, rfl⟩ := e1
    exact ⟨g, rfl, nd_cells hA' hn hx⟩
  have HLT : Hid (∀ m x y, L[m + 1]? = some x → L[m]? = some y → ndLt y x) := fun m x y h1 h2 => by
    obtain ⟨k1, e1⟩ := List.getElem?_eq_some_iff.1 h1
    obtain ⟨k2, e2⟩ := List.getElem?_eq_some_iff.1 h2
    rw [← e1, ← e2]
    exact List.pairwise_iff_getElem.1 hs m (m + 1) k2 k1 (by omega)
  have HN : Hid (n = L.length) := hn
  clear hA hs hn
  have hw0 : IntKind.i64.wrap ((n : Int) - 1) = (n : Int) - 1 := by rw [IntKind.wrap_i64]; omega
  go_enter Tryz.func75, Tryz.ntmps75
  go_wp2_with fail
  go_loopg [5] n (fun gk iv wr => Hid (Below w.heap.size w wr) ∧ ((gk = 0 ∧ iv = .int .i64 (-1)) ∨ ∃ j : Nat, gk = j + 1 ∧ j < n ∧ iv = .int .i64 (j : Int)))
  case atStart =>
    refine ⟨Below.refl _ _, ?_⟩
    cases n with
    | zero => exact .inl ⟨rfl, rfl⟩
    | succ j => exact .inr ⟨j, rfl, by omega, by rw [show ((j + 1 : Nat) : Int) - 1 = (j : Int) by omega]⟩
  case round =>
    obtain ⟨HB, hcase⟩ := hrel
    rcases hcase with ⟨rfl, rfl⟩ | ⟨j, rfl, hjn, rfl⟩
    · go_wp2
      go_ret
      exact ⟨rfl, HB.out⟩
    · cases j with
      | zero =>
        go_wp2
        go_ret
        exact ⟨rfl, HB.out⟩
      | succ m =>
        obtain ⟨x, hx⟩ : ∃ x, L[m + 1]? = some x := ⟨_, List.getElem?_eq_getElem (by have := HN.out; omega)⟩
        obtain ⟨y, hy⟩ : ∃ y, L[m]? = some y := ⟨_, List.getElem?_eq_getElem (by have := HN.out; omega)⟩
        obtain ⟨k, hk⟩ : ∃ k, m + 1 = k := ⟨_, rfl⟩
        have hlt := HLT.out m x y hx hy
        rw [hk] at hx hjn ⊢
        have hk0 : (0 : Int) < (k : Int) := by omega
        have hkn : (k : Int) < (n : Int) := by omega
        have hmn : (m : Int) < (n : Int) := by omega
        have hw1 : IntKind.i64.wrap ((k : Int) - 1) = (m : Int) := by rw [IntKind.wrap_i64]; omega
        have HCX : Hid _ := fun V hV => HC.out V hV k x hx
        have HCY : Hid _ := fun V hV => HC.out V hV m y hy
        obtain ⟨g, rfl, x0, x1, x2, x3, x4⟩ := HC.out wr HB.out k x hx
        obtain ⟨g', hg', y0, y1, y2, y3, y4⟩ := HC.out wr HB.out m y hy
        injection hg' with hg'
        injection hg' with hg' _ _
        subst hg'
        have hby := byKind_any wr.drew x y hlt
        unfold ndA at hby
        have HBD : Hid (Below w.heap.size w wr.drew) := HB.out.drew
        have HS : Hid (∀ V, Below wr.drew.heap.size wr.drew V → Below w.heap.size w V) := fun V hV => below_on hV HBD.out
        obtain ⟨xk, xn, xp, xm, xs⟩ := x
        obtain ⟨yk, yn, yp, ym, ys⟩ := y
        simp only at HCX HCY hby x0 x1 x2 x3 x4 y0 y1 y2 y3 y4
        clear hx hy hlt HC HLT
        have HS0 : Hid (∀ V, Below wr.heap.size wr V → V.cell? ⟨g, k * 5, none⟩ = some (.int .i64 (xk : Int)) ∧ V.cell? ⟨g, k * 5 + 1, none⟩ = some (.int .i64 (xn : Int)) ∧ V.cell? ⟨g, k * 5 + 2, none⟩ = some (.int .i64 (xp : Int)) ∧ V.cell? ⟨g, k * 5 + 3, none⟩ = some (.string xm) ∧ V.cell? ⟨g, k * 5 + 4, none⟩ = some (.int .i64 (xs : Int)) ∧ V.cell? ⟨g, m * 5, none⟩ = some (.int .i64 (yk : Int)) ∧ V.cell? ⟨g, m * 5 + 1, none⟩ = some (.int .i64 (yn : Int)) ∧ V.cell? ⟨g, m * 5 + 2, none⟩ = some (.int .i64 (yp : Int)) ∧ V.cell? ⟨g, m * 5 + 3, none⟩ = some (.string ym) ∧ V.cell? ⟨g, m * 5 + 4, none⟩ = some (.int .i64 (ys : Int))) := fun V hV => by
          obtain ⟨g1, e1, a0, a1, a2, a3, a4⟩ := HCX.out V (below_on hV HB.out)
          obtain ⟨g2, e2, b0, b1, b2, b3, b4⟩ := HCY.out V (below_on hV HB.out)
          injection e1 with e1
          injection e1 with e1 _ _
          injection e2 with e2
          injection e2 with e2 _ _
          subst e1 e2
          exact ⟨a0, a1, a2, a3, a4, b0, b1, b2, b3, b4⟩
        clear HCX HCY
        go_wp2_with fail
        go_region_held_law (fun V => V.cell? ⟨g, k * 5, none⟩ = some (.int .i64 (xk : Int)) ∧ V.cell? ⟨g, k * 5 + 1, none⟩ = some (.int .i64 (xn : Int)) ∧ V.cell? ⟨g, k * 5 + 2, none⟩ = some (.int .i64 (xp : Int)) ∧ V.cell? ⟨g, k * 5 + 3, none⟩ = some (.string xm) ∧ V.cell? ⟨g, k * 5 + 4, none⟩ = some (.int .i64 (xs : Int)) ∧ V.cell? ⟨g, m * 5, none⟩ = some (.int .i64 (yk : Int)) ∧ V.cell? ⟨g, m * 5 + 1, none⟩ = some (.int .i64 (yn : Int)) ∧ V.cell? ⟨g, m * 5 + 2, none⟩ = some (.int .i64 (yp : Int)) ∧ V.cell? ⟨g, m * 5 + 3, none⟩ = some (.string ym) ∧ V.cell? ⟨g, m * 5 + 4, none⟩ = some (.int .i64 (ys : Int))) (first | exact HS0.out _ (Below.refl _ _).drew | exact HS0.out _ hb3 | exact HS0.out _ (Below.refl _ _)) (first | (go_at_call 76; (refine hby.mono ?_; rintro e w3 ⟨rfl, hb3'⟩; have hb3 := below_on hb3' (Below.refl wr.heap.size wr).drew; have HB3 : Hid _ := HS.out _ hb3')))
        clear hb3 hb3' x0 x1 x2 x3 x4 y0 y1 y2 y3 y4 hby
        have hjm : (k : Int) - 1 = (m : Int) := by omega
        go_wp2
        go_roundg (m + 1)
        case measure => omega
        case rel => exact ⟨HB3.out, .inr ⟨m, rfl, by omega, by first | rfl | (rw [hjm])⟩⟩

end Go.Proofs.YtnfddiabhpandaaGreatDoor.Tr
