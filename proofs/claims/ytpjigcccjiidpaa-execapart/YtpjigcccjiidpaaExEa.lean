import Derived.Test.YtpjigcccjiidpaaExDg
namespace Go.Proofs.Ytpjigcccjiidpaa.Ex
open Go.RowKit Go.Lib Go.Deep

theorem clipped_any (n lo hi : Int) (_hn : -9223372036854775808 ≤ n ∧ n ≤ 9223372036854775807) (h0 : 0 ≤ lo) (h1 : lo ≤ hi) (h2 : hi ≤ 1099511627776) (w : World) :
    Calls Try.prog 14 #[.int .i64 n, .int .i64 lo, .int .i64 hi] w fun e w' => e = .returned (.int .i64 (lo + n % (hi - lo + 1))) ∧ w' = w := by
  obtain ⟨m, hm⟩ : ∃ m, hi - lo + 1 = m := ⟨_, rfl⟩
  have hm0 : 1 ≤ m ∧ m ≤ 1099511627777 := by omega
  have g0 : m ≠ 0 := by omega
  have g1 : -m < n.tmod m ∧ n.tmod m < m := ⟨Int.lt_tmod_of_pos n (by omega), Int.tmod_lt_of_pos n (by omega)⟩
  have g2 : IntKind.i64.wrap (n.tmod m) = n.tmod m := by rw [IntKind.wrap_i64]; omega
  have g5 := Int.emod_nonneg n g0
  have g6 := Int.emod_lt_of_pos n (show (0:Int) < m by omega)
  by_cases hneg : n.tmod m < 0
  · have g4 : n.tmod m + m = n % m := by
      have := Int.tmod_add_mul_tdiv n m
      have e1 : (n.tmod m + m) % m = n % m := by
        conv => rhs; rw [← this]
        rw [Int.add_emod_right, Int.add_mul_emod_self_left]
      rw [Int.emod_eq_of_lt (by omega) (by omega)] at e1
      exact e1
    rw [hm, ← g4]
    rw [← g4] at g5 g6
    clear g4
    go_enter Try.func14, Try.ntmps14
    go_wp2
    go_ret
    exact ⟨by go_num, rfl⟩
  · have g4 : n.tmod m = n % m := by
      have := Int.tmod_add_mul_tdiv n m
      have e1 : (n.tmod m) % m = n % m := by
        conv => rhs; rw [← this]
        rw [Int.add_mul_emod_self_left]
      rw [Int.emod_eq_of_lt (by omega) (by omega)] at e1
      exact e1
    rw [hm, ← g4]
    clear g4 g5 g6
    go_enter Try.func14, Try.ntmps14
    go_wp2
    go_ret
    exact ⟨rfl, rfl⟩
theorem num_any (e : Int) (w : World) : Calls Try.prog 11 #[.int .i64 e] w fun x w' => x = .returned (.int .i64 e) ∧ w' = w := by
  go_enter Try.func11, Try.ntmps11
  go_wp2
  go_ret
  exact ⟨rfl, rfl⟩
set_option maxRecDepth 20000 in
theorem short_any (s : List UInt8) (n : Nat) (w : World) (_hs : s.length ≤ maxLen) : Calls Try.prog 8 #[.string (str s), .int .i64 (n : Int)] w fun x w' => x = .returned (.string (str (s.take n))) ∧ w' = w := by
  by_cases h : n < s.length
  · have hI : (n : Int) < ((str s).size : Int) := by rw [str_size]; omega
    have hn : n ≤ (str s).size := by rw [str_size]; omega
    have he : (str s).extract 0 n = str (s.take n) := by
      apply ByteArray.ext
      rw [ByteArray.data_extract]
      apply Array.ext'
      rw [Array.toList_extract]
      simp [str]
    generalize str (s.take n) = T at *
    generalize str s = S at *
    clear h
    go_enter Try.func8, Try.ntmps8
    go_wp2
    go_ret
    exact ⟨by first | rfl | (rw [← he]; rfl), rfl⟩
  · have hI : ¬ ((str s).size : Int) > (n : Int) := by rw [str_size]; omega
    rw [List.take_of_length_le (by omega)]
    generalize str s = S at *
    clear h
    go_enter Try.func8, Try.ntmps8
    go_wp2
    go_ret
    exact ⟨rfl, rfl⟩
/-- an edit -/
structure Ed where
  cut : Bool
  at_ : Int
  n : Int
  da : List UInt8
def edC (e : Ed) : List Value := [.bool e.cut, .int .i64 e.at_, .int .i64 e.n, .string (str e.da)]
def edV (e : Ed) : Value := .agg #[.bool e.cut, .int .i64 e.at_, .int .i64 e.n, .string (str e.da)]
def szE (size at_ : Nat) (d : List UInt8) : Nat := if d ≠ [] ∧ size < at_ + d.length then at_ + d.length else size
def edE (file : Int) (e : Ed) (size : Nat) : Ef :=
  if e.cut then ⟨4, file, 0, 0, e.n % 201, [], e.n % 201⟩ else ⟨3, file, 0, e.at_ % 201, 0, e.da.take 60, (szE size (e.at_ % 201).toNat (e.da.take 60) : Nat)⟩
def edZ (file : Int) (e : Ed) (size : Nat) : Nat := (edE file e size).sz.toNat
theorem put7A {W : World} {g : Nat} {t : TypeId} {x0 x1 x2 x3 x4 x5 x6 y0 y1 y2 y3 y4 y5 y6 : Value} (h : W.heap[g]? = some (.cells #[x0, x1, x2, x3, x4, x5, x6] t (0, 0))) : (((((((W.setCell ⟨g, 0, none⟩ y0).setCell ⟨g, 1, none⟩ y1).setCell ⟨g, 2, none⟩ y2).setCell ⟨g, 3, none⟩ y3).setCell ⟨g, 4, none⟩ y4).setCell ⟨g, 5, none⟩ y5).setCell ⟨g, 6, none⟩ y6).heap[g]? = some (.cells #[y0, y1, y2, y3, y4, y5, y6] t (0, 0)) := by
  have h0 : (W.setCell ⟨g, 0, none⟩ y0).heap[g]? = some (.cells #[y0, x1, x2, x3, x4, x5, x6] t (0, 0)) := heap_setCell_same _ _ 0 _ _ y0 h
  have h1 : ((W.setCell ⟨g, 0, none⟩ y0).setCell ⟨g, 1, none⟩ y1).heap[g]? = some (.cells #[y0, y1, x2, x3, x4, x5, x6] t (0, 0)) := heap_setCell_same _ _ 1 _ _ y1 h0
  have h2 : (((W.setCell ⟨g, 0, none⟩ y0).setCell ⟨g, 1, none⟩ y1).setCell ⟨g, 2, none⟩ y2).heap[g]? = some (.cells #[y0, y1, y2, x3, x4, x5, x6] t (0, 0)) := heap_setCell_same _ _ 2 _ _ y2 h1
  have h3 : ((((W.setCell ⟨g, 0, none⟩ y0).setCell ⟨g, 1, none⟩ y1).setCell ⟨g, 2, none⟩ y2).setCell ⟨g, 3, none⟩ y3).heap[g]? = some (.cells #[y0, y1, y2, y3, x4, x5, x6] t (0, 0)) := heap_setCell_same _ _ 3 _ _ y3 h2
  have h4 : (((((W.setCell ⟨g, 0, none⟩ y0).setCell ⟨g, 1, none⟩ y1).setCell ⟨g, 2, none⟩ y2).setCell ⟨g, 3, none⟩ y3).setCell ⟨g, 4, none⟩ y4).heap[g]? = some (.cells #[y0, y1, y2, y3, y4, x5, x6] t (0, 0)) := heap_setCell_same _ _ 4 _ _ y4 h3
  have h5 : ((((((W.setCell ⟨g, 0, none⟩ y0).setCell ⟨g, 1, none⟩ y1).setCell ⟨g, 2, none⟩ y2).setCell ⟨g, 3, none⟩ y3).setCell ⟨g, 4, none⟩ y4).setCell ⟨g, 5, none⟩ y5).heap[g]? = some (.cells #[y0, y1, y2, y3, y4, y5, x6] t (0, 0)) := heap_setCell_same _ _ 5 _ _ y5 h4
  exact heap_setCell_same _ _ 6 _ _ y6 h5
theorem sizeE : (Try.prog.info? 26).map (·.size) = some 7 := by kernel_rfl
theorem cells7 {W : World} {g : Nat} {t : TypeId} {x0 x1 x2 x3 x4 x5 x6 : Value} (h : W.heap[g]? = some (.cells #[x0, x1, x2, x3, x4, x5, x6] t (0, 0))) : W.cell? ⟨g, 0, none⟩ = some x0 ∧ W.cell? ⟨g, 1, none⟩ = some x1 ∧ W.cell? ⟨g, 2, none⟩ = some x2 ∧ W.cell? ⟨g, 3, none⟩ = some x3 ∧ W.cell? ⟨g, 4, none⟩ = some x4 ∧ W.cell? ⟨g, 5, none⟩ = some x5 ∧ W.cell? ⟨g, 6, none⟩ = some x6 :=
  ⟨(cell_of_heap h).trans rfl, (cell_of_heap h).trans rfl, (cell_of_heap h).trans rfl, (cell_of_heap h).trans rfl, (cell_of_heap h).trans rfl, (cell_of_heap h).trans rfl, (cell_of_heap h).trans rfl⟩
theorem froz7 {W : World} {g : Nat} {t : TypeId} {c : Array Value} (h : W.heap[g]? = some (.cells c t (0, 0))) : W.frozen? ⟨g, 0, none⟩ = false ∧ W.frozen? ⟨g, 1, none⟩ = false ∧ W.frozen? ⟨g, 2, none⟩ = false ∧ W.frozen? ⟨g, 3, none⟩ = false ∧ W.frozen? ⟨g, 4, none⟩ = false ∧ W.frozen? ⟨g, 5, none⟩ = false ∧ W.frozen? ⟨g, 6, none⟩ = false :=
  ⟨frozen_of_heap h, frozen_of_heap h, frozen_of_heap h, frozen_of_heap h, frozen_of_heap h, frozen_of_heap h, frozen_of_heap h⟩
theorem below7 {w W : World} {B b : Nat} (h : Below B w W) (hb : B ≤ b) (y0 y1 y2 y3 y4 y5 y6 : Value) : Below B w (((((((W.setCell ⟨b, 0, none⟩ y0).setCell ⟨b, 1, none⟩ y1).setCell ⟨b, 2, none⟩ y2).setCell ⟨b, 3, none⟩ y3).setCell ⟨b, 4, none⟩ y4).setCell ⟨b, 5, none⟩ y5).setCell ⟨b, 6, none⟩ y6) :=
  ((((((h.setCell hb _).setCell hb _).setCell hb _).setCell hb _).setCell hb _).setCell hb _).setCell hb _
set_option maxRecDepth 20000 in
set_option maxHeartbeats 1000000 in
theorem effect_any (e : Ed) (file : Int) (size : Nat) (w : World) (_hs : size ≤ 1099511627776) (hd : e.da.length ≤ maxLen) (h1 : -9223372036854775808 ≤ e.at_ ∧ e.at_ ≤ 9223372036854775807) (h2 : -9223372036854775808 ≤ e.n ∧ e.n ≤ 9223372036854775807) :
    Calls Try.prog 12 #[edV e, .int .i64 file, .int .i64 (size : Int)] w fun x w' => x = .returned (efV (edE file e size)) ∧ Below w.heap.size w w' := by
  obtain ⟨W, hW, hb, k0, k1⟩ := two_new w #[.bool e.cut, .int .i64 e.at_, .int .i64 e.n, .string (str e.da)] #[.int .i64 0, .int .i64 0, .int .i64 0, .int .i64 0, .int .i64 0, .string { data := #[] }, .int .i64 0] 45 26
  have hc1 := clipped_any e.at_ 0 200 h1 (by omega) (by omega) (by omega) W
  have hc2 := clipped_any e.n 0 200 h2 (by omega) (by omega) (by omega) W
  have hsh := short_any e.da 60 W hd
  obtain ⟨c0, c1, c2, c3⟩ : W.cell? ⟨w.heap.size, 0, none⟩ = some (.bool e.cut) ∧ W.cell? ⟨w.heap.size, 1, none⟩ = some (.int .i64 e.at_) ∧ W.cell? ⟨w.heap.size, 2, none⟩ = some (.int .i64 e.n) ∧ W.cell? ⟨w.heap.size, 3, none⟩ = some (.string (str e.da)) := ⟨(cell_of_heap k0).trans rfl, (cell_of_heap k0).trans rfl, (cell_of_heap k0).trans rfl, (cell_of_heap k0).trans rfl⟩
  obtain ⟨z0, z1, z2, z3, z4, z5, z6⟩ := cells7 k1
  obtain ⟨f0, f1, f2, f3, f4, f5, f6⟩ := froz7 k1
  have HK : Hid _ := k1
  have HB : Hid _ := hb
  simp only [Int.zero_add, Int.sub_zero] at hc1 hc2
  rw [show (200 : Int) + 1 = 201 by decide] at hc1 hc2
  unfold efV edV efA edE
  obtain ⟨cut, at_, n, da⟩ := e
  dsimp only at *
  clear hb k0 k1
  cases cut with
  | true =>
    rw [if_pos rfl]
    clear hc1 hsh
    dsimp only
    rw [show str ([] : List UInt8) = { data := #[] } from rfl]
    generalize n % 201 = c at *
    clear h1 h2 hd
    go_enter Try.func12, Try.ntmps12
    go_wp2_with (go_at_call 14; refine hc2.mono ?_; rintro e w2 ⟨rfl, hw2⟩; subst hw2)
    refine bodyPost_ret (Tr.results_cell1 rfl _ _ (w.heap.size + 1) 26 _ (0, 0) _ rfl (put7A HK.out) Try.underlying26 rfl sizeE) rfl ?_
    exact ⟨rfl, below7 HB.out (by omega) _ _ _ _ _ _ _⟩
  | false =>
    rw [if_neg (by decide)]
    dsimp only
    clear hc2
    have ha0 : 0 ≤ at_ % 201 := Int.emod_nonneg _ (by decide)
    have ha1 : at_ % 201 < 201 := Int.emod_lt_of_pos _ (by decide)
    obtain ⟨i, hi⟩ : ∃ i : Nat, at_ % 201 = i := ⟨(at_ % 201).toNat, by omega⟩
    rw [hi] at hc1 ⊢
    rw [Int.toNat_natCast]
    have hi200 : i ≤ 200 := by omega
    have hdl : (da.take 60).length ≤ 60 := by rw [List.length_take]; omega
    obtain ⟨d, hdd⟩ : ∃ d, da.take 60 = d := ⟨_, rfl⟩
    rw [hdd] at hsh hdl ⊢
    clear hdd hi ha0 ha1 h1 h2 hd
    by_cases hd0 : d = []
    · subst hd0
      have hz : szE size i [] = size := by unfold szE; rw [if_neg (by simp)]
      rw [hz, show str ([] : List UInt8) = { data := #[] } from rfl]
      rw [show str ([] : List UInt8) = { data := #[] } from rfl] at hsh
      go_enter Try.func12, Try.ntmps12
      go_wp2_with (first | (go_at_call 14; refine hc1.mono ?_; rintro e w2 ⟨rfl, hw2⟩; subst hw2) | (go_at_call 8; refine hsh.mono ?_; rintro e w2 ⟨rfl, hw2⟩; subst hw2))
      refine bodyPost_ret (Tr.results_cell1 rfl _ _ (w.heap.size + 1) 26 _ (0, 0) _ rfl (put7A HK.out) Try.underlying26 rfl sizeE) rfl ?_
      exact ⟨rfl, below7 HB.out (by omega) _ _ _ _ _ _ _⟩
    · have e0 : (str d).toList.isEmpty = false := by rw [str_toList]; cases d with | nil => exact absurd rfl hd0 | cons => rfl
      have e1 : (str d).size = d.length := str_size d
      obtain ⟨q, hq⟩ : ∃ q, i + d.length = q := ⟨_, rfl⟩
      have w1 : IntKind.i64.wrap ((i : Int) + ((str d).size : Int)) = (q : Int) := by rw [IntKind.wrap_i64, e1]; omega
      by_cases hlt : size < q
      · have hz : szE size i d = q := by unfold szE; rw [hq, if_pos ⟨hd0, hlt⟩]
        rw [hz]
        have hltI : (q : Int) > (size : Int) := by omega
        clear hz hd0 hlt hq hdl hi200 e1
        generalize str d = D at *
        go_enter Try.func12, Try.ntmps12
        go_wp2_with (first | (go_at_call 14; refine hc1.mono ?_; rintro e w2 ⟨rfl, hw2⟩; subst hw2) | (go_at_call 8; refine hsh.mono ?_; rintro e w2 ⟨rfl, hw2⟩; subst hw2))
        refine bodyPost_ret (Tr.results_cell1 rfl _ _ (w.heap.size + 1) 26 _ (0, 0) _ rfl (put7A HK.out) Try.underlying26 rfl sizeE) rfl ?_
        exact ⟨rfl, below7 HB.out (by omega) _ _ _ _ _ _ _⟩
      · have hz : szE size i d = size := by unfold szE; rw [hq, if_neg (fun x => hlt x.2)]
        rw [hz]
        have hltI : ¬ (q : Int) > (size : Int) := by omega
        clear hz hd0 hlt hq hdl hi200 e1
        generalize str d = D at *
        go_enter Try.func12, Try.ntmps12
        go_wp2_with (first | (go_at_call 14; refine hc1.mono ?_; rintro e w2 ⟨rfl, hw2⟩; subst hw2) | (go_at_call 8; refine hsh.mono ?_; rintro e w2 ⟨rfl, hw2⟩; subst hw2))
        refine bodyPost_ret (Tr.results_cell1 rfl _ _ (w.heap.size + 1) 26 _ (0, 0) _ rfl (put7A HK.out) Try.underlying26 rfl sizeE) rfl ?_
        exact ⟨rfl, below7 HB.out (by omega) _ _ _ _ _ _ _⟩
end Go.Proofs.Ytpjigcccjiidpaa.Ex
