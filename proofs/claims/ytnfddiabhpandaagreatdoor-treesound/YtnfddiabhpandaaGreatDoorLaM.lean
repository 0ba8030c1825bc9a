import Derived.Test.YtnfddiabhpandaaGreatDoorSnM
import Derived.Test.YtnfddiabhpandaaGreatDoorTrDp
import Derived.Deep.DeepCutAuto
namespace Go.Proofs.YtnfddiabhpandaaGreatDoor.Tr
open Go.RowKit Go.Lib Go.Deep

theorem clipped_any (n lo hi : Int) (_hn : -9223372036854775808 ≤ n ∧ n ≤ 9223372036854775807) (h0 : 0 ≤ lo) (h1 : lo ≤ hi) (h2 : hi ≤ 1099511627776) (w : World) :
    Calls Tryz.prog 10 #[.int .i64 n, .int .i64 lo, .int .i64 hi] w fun e w' => e = .returned (.int .i64 (lo + n % (hi - lo + 1))) ∧ w' = w := by
  obtain ⟨m, hm⟩ : ∃ m, hi - lo + 1 = m := ⟨_, rfl⟩
  have hm0 : 1 ≤ m ∧ m ≤ 1099511627777 := by omega
  have g0 : m ≠ 0 := by omega
  have g1 : -m < n.tmod m ∧ n.tmod m < m := ⟨Int.lt_tmod_of_pos n (by omega), Int.tmod_lt_of_pos n (by omega)⟩
  have g2 : IntKind.i64.wrap (n.tmod m) = n.tmod m := by rw [IntKind.wrap_i64]; omega
  have g5 := Int.emod_nonneg n g0
  have g6 := Int.emod_lt_of_pos n (show (0:Int) < m by omega)
  by_cases hneg : n.tmod m < 0
  · have g4 : n.tmod m + m = n % m := by
      have := Int.tmod_add_mul_tdiv n m
      have e1 : (n.tmod m + m) % m = n % m := by
        conv => rhs; rw [← this]
        rw [Int.add_emod_right, Int.add_mul_emod_self_left]
      rw [Int.emod_eq_of_lt (by omega) (by omega)] at e1
      exact e1
    rw [hm, ← g4]
    rw [← g4] at g5 g6
    clear g4
    go_enter Tryz.func10, Tryz.ntmps10
    go_wp2
    go_ret
    exact ⟨by go_num, rfl⟩
  · have g4 : n.tmod m = n % m := by
      have := Int.tmod_add_mul_tdiv n m
      have e1 : (n.tmod m) % m = n % m := by
        conv => rhs; rw [← this]
        rw [Int.add_mul_emod_self_left]
      rw [Int.emod_eq_of_lt (by omega) (by omega)] at e1
      exact e1
    rw [hm, ← g4]
    clear g4 g5 g6
    go_enter Tryz.func10, Tryz.ntmps10
    go_wp2
    go_ret
    exact ⟨rfl, rfl⟩
theorem num_any (e : Int) (w : World) : Calls Tryz.prog 13 #[.int .i64 e] w fun x w' => x = .returned (.int .i64 e) ∧ w' = w := by
  go_enter Tryz.func13, Tryz.ntmps13
  go_wp2
  go_ret
  exact ⟨rfl, rfl⟩
/-- what no tree owns stays -/
def Kp (w w' : World) : Prop := ∀ (k : Nat) (c : Array Value) (t : TypeId), w.heap[k]? = some (.cells c t (0, 0)) → ¬ (t = 125 ∨ t = 172 ∨ t = 176) → w'.heap[k]? = some (.cells c t (0, 0))
theorem do_tre (w : World) (B b q nn : Nat) (T : Ts) (dp : Nat → Nat) (o : Op) (h : Tre w B b q nn T) (hB : B ≤ w.heap.size) (hv : Inv T dp) (hnn : nn ≤ 8796093022207) (hoa : o.at_ ≤ 9223372036854775807) (hod : o.data.size ≤ 9223372036854775807) :
    Calls Tryz.prog 12 #[.pointer (some ⟨b, 0, none⟩), .agg #[.int .i64 o.kind, .string o.path, .string o.to_, .int .i64 o.at_, .int .i64 o.n, .string o.data]] w fun e w' => ∃ va vn vc, e = .returned (.tuple #[.agg #[.int .i64 (doT T o).1.code, .string e0, .int .i64 (doT T o).1.n, .slice va vn vc, .int .i64 (doT T o).1.kind, .int .i64 (doT T o).1.size], .agg #[.int .i64 (doT T o).2.1.kind, .int .i64 (doT T o).2.1.file, .int .i64 (doT T o).2.1.gone, .int .i64 (doT T o).2.1.at_, .int .i64 (doT T o).2.1.n, .string (doT T o).2.1.data, .int .i64 (doT T o).2.1.size]]) ∧ Hid (Pa.Own w' w.heap.size (.slice va vn vc) (doT T o).1.names ∧ vn = (doT T o).1.names.length) ∧ Hid (Tre w' B b q (nn + 1) (doT T o).2.2) ∧ Hid (Kp w w') ∧ Hid (Below B w w') := by
  obtain ⟨F, hL, hF⟩ := h.lay
  refine (do_any w b q F nn T dp o h.hb hL hv hnn hoa hod).mono ?_
  rintro e w' ⟨v, rfl, hO, ho, F', hL', hF'⟩
  obtain ⟨a, cap, rfl⟩ := hO.len
  have kp : Kp w w' := fun k c t hk ht => (ho.block k (heap_lt hk) (hL.notin hk ht)).trans hk
  refine ⟨a, _, cap, rfl, ⟨hO, rfl⟩, ⟨kp _ _ _ h.hb (by decide), h.hB, F', hL', fun k hk => ?_⟩, kp, ⟨ho.os, ho.tape, ho.output, ho.size, fun k hk => ho.block k (by omega) (fun hm => by have := hF k hm; omega)⟩⟩
  rcases hF' k hk with h1 | h1
  · exact hF k h1
  · omega
theorem Kp.trans {a b c : World} (h : Kp a b) (h' : Kp b c) : Kp a c := fun k x t hk ht => h' k x t (h k x t hk ht) ht
theorem Kp.of {a b : World} (h : Below a.heap.size a b) : Kp a b := fun k _x _t hk _ => (h.block k (heap_lt hk)).trans hk
theorem owns_kp {w w' : World} {B e n size : Nat} {v : Value} {xs : List Value} (h : w.ownsRow B e size v n xs) (k : Kp w w') (he : ¬ (e = 125 ∨ e = 172 ∨ e = 176)) : w'.ownsRow B e size v n xs := owns_keep h fun g hg => by
  obtain ⟨c, hc⟩ := owns_block h hg
  rw [hc]
  exact k g c e hc he
set_option maxRecDepth 20000 in
theorem bare_any (w : World) (c : Int) (a : Option Addr) (k : Nat) : Calls Tryz.prog 14 #[.agg #[.int .i64 c, .string e0, .int .i64 0, .slice a 0 k, .int .i64 0, .int .i64 0]] w fun e w' => e = .returned (.bool true) ∧ Below w.heap.size w w' := by
  obtain ⟨W, hW, hb, k0⟩ := one_new w #[.int .i64 c, .string e0, .int .i64 0, .slice a 0 k, .int .i64 0, .int .i64 0] 33
  obtain ⟨p0, p1, p2, p3, p4, p5⟩ := cells6 k0
  have HB : Hid (Below w.heap.size w W) := hb
  clear hb k0
  go_enter Tryz.func14, Tryz.ntmps14
  go_wp2
  go_ret
  exact ⟨rfl, HB.out⟩
set_option maxRecDepth 20000 in
theorem quiet12_any (w : World) : Calls Tryz.prog 15 #[efV Ef.no] w fun e w' => e = .returned (.bool true) ∧ Below w.heap.size w w' := by
  obtain ⟨W, hW, hb, k0⟩ := one_new w #[.int .i64 0, .int .i64 (-1), .int .i64 (-1), .int .i64 0, .int .i64 0, .string e0, .int .i64 0] 35
  obtain ⟨p0, p1, p2, p3, p4, p5, p6⟩ := cells7 k0
  have HB : Hid (Below w.heap.size w W) := hb
  clear hb k0
  unfold efV Ef.no
  go_enter Tryz.func15, Tryz.ntmps15
  go_wp2
  go_ret
  exact ⟨rfl, HB.out⟩
theorem ndsc_len (l : List Nd) : (ndsc l).length = l.length * 5 := by
  induction l with
  | nil => rfl
  | cons a l ih => show (ndc a ++ ndsc l).length = _; rw [List.length_append, ih]; simp [ndc]; omega
theorem ndsc_get : ∀ (l : List Nd) (i : Nat) (x : Nd), l[i]? = some x → ∀ j, j < 5 → (ndsc l)[i * 5 + j]? = (ndc x)[j]?
  | [], i, x, h, j, hj => by cases h
  | a :: l, 0, x, h, j, hj => by
    simp only [List.getElem?_cons_zero, Option.some.injEq] at h
    subst h
    rw [Nat.zero_mul, Nat.zero_add]
    show (ndc a ++ ndsc l)[j]? = _
    rw [List.getElem?_append_left (by simpa [ndc] using hj)]
  | a :: l, i + 1, x, h, j, hj => by
    rw [List.getElem?_cons_succ] at h
    show (ndc a ++ ndsc l)[(i + 1) * 5 + j]? = _
    rw [List.getElem?_append_right (by simp [ndc]; omega), show (i + 1) * 5 + j - (ndc a).length = i * 5 + j by simp [ndc]; omega]
    exact ndsc_get l i x h j hj
theorem nd_cells {w : World} {B g cap n : Nat} {l : List Nd} (h : w.ownsRow B 50 5 (.slice (some ⟨g, 0, none⟩) n cap) n (ndsc l)) (hn : n = l.length) {i : Nat} {x : Nd} (hi : l[i]? = some x) : w.cell? ⟨g, i * 5, none⟩ = some (.int .i64 (x.kind : Int)) ∧ w.cell? ⟨g, i * 5 + 1, none⟩ = some (.int .i64 (x.number : Int)) ∧ w.cell? ⟨g, i * 5 + 2, none⟩ = some (.int .i64 (x.parent : Int)) ∧ w.cell? ⟨g, i * 5 + 3, none⟩ = some (.string x.name) ∧ w.cell? ⟨g, i * 5 + 4, none⟩ = some (.int .i64 (x.size : Int)) := by
  have hl := (List.getElem?_eq_some_iff.1 hi).1
  refine ⟨?_, ?_, ?_, ?_, ?_⟩
  · rw [h.cellAt (i * 5) (by omega)]; exact ndsc_get l i x hi 0 (by omega)
  · rw [h.cellAt (i * 5 + 1) (by omega)]; exact ndsc_get l i x hi 1 (by omega)
  · rw [h.cellAt (i * 5 + 2) (by omega)]; exact ndsc_get l i x hi 2 (by omega)
  · rw [h.cellAt (i * 5 + 3) (by omega)]; exact ndsc_get l i x hi 3 (by omega)
  · rw [h.cellAt (i * 5 + 4) (by omega)]; exact ndsc_get l i x hi 4 (by omega)

end Go.Proofs.YtnfddiabhpandaaGreatDoor.Tr

namespace Go.Proofs.YtnfddiabhpandaaGreatDoor.Tr
open Go.RowKit Go.Lib Go.Deep

set_option maxRecDepth 20000 in
set_option maxHeartbeats 2000000 in
theorem sameNodes_any (w : World) (B B2 : Nat) (a a2 : Option Addr) (n c c2 : Nat) (L : List Nd) (hn : n = L.length) (hA : w.ownsRow B 50 5 (.slice a n c) n (ndsc L)) (hB : w.ownsRow B2 50 5 (.slice a2 n c2) n (ndsc L)) (hb : n ≤ 1000000) :
    Calls Tryz.prog 29 #[.slice a n c, .slice a2 n c2] w fun e w' => e = .returned (.bool true) ∧ Below w.heap.size w w' := by
  have HC : Hid (∀ V : World, V.heap = w.heap → ∀ i, i < n → ∃ (x : Nd) (g g2 : Nat), a = some ⟨g, 0, none⟩ ∧ a2 = some ⟨g2, 0, none⟩ ∧ (V.cell? ⟨g, i * 5, none⟩ = some (.int .i64 (x.kind : Int)) ∧ V.cell? ⟨g, i * 5 + 1, none⟩ = some (.int .i64 (x.number : Int)) ∧ V.cell? ⟨g, i * 5 + 2, none⟩ = some (.int .i64 (x.parent : Int)) ∧ V.cell? ⟨g, i * 5 + 3, none⟩ = some (.string x.name) ∧ V.cell? ⟨g, i * 5 + 4, none⟩ = some (.int .i64 (x.size : Int))) ∧ (V.cell? ⟨g2, i * 5, none⟩ = some (.int .i64 (x.kind : Int)) ∧ V.cell? ⟨g2, i * 5 + 1, none⟩ = some (.int .i64 (x.number : Int)) ∧ V.cell? ⟨g2, i * 5 + 2, none⟩ = some (.int .i64 (x.parent : Int)) ∧ V.cell? ⟨g2, i * 5 + 3, none⟩ = some (.string x.name) ∧ V.cell? ⟨g2, i * 5 + 4, none⟩ = some (.int .i64 (x.size : Int)))) := fun V hV i hi => by
    have e1 : ∃ g, a = some ⟨g, 0, none⟩ := by
      rcases hA.2 with ⟨h1, h2⟩ | ⟨g, cap, cur, h1, _⟩
      · omega
      · injection h1 with h1 _ _; exact ⟨g, h1⟩
    have e2 : ∃ g, a2 = some ⟨g, 0, none⟩ := by
      rcases hB.2 with ⟨h1, h2⟩ | ⟨g, cap, cur, h1, _⟩
      · omega
      · injection h1 with h1 _ _; exact ⟨g, h1⟩
    obtain ⟨g, rfl⟩ := e1
    obtain ⟨g2, rfl⟩ := e2
    have hx := List.getElem?_eq_getElem (l := L) (i := i) (by omega)
    have hA' := owns_keep hA (W' := V) (fun k _ => by rw [hV])
    have hB' := owns_keep hB (W' := V) (fun k _ => by rw [hV])
    exact ⟨_, g, g2, rfl, rfl, nd_cells hA' hn hx, nd_cells hB' hn hx⟩
  clear hA hB hn
  go_enter Tryz.func29, Tryz.ntmps29
  go_wp2_with fail
  go_loopg [5] n (fun gk iv wr => ∃ (i : Nat), i + gk = n ∧ iv = .int .i64 (i : Int) ∧ Hid (wr.heap = w.heap ∧ Below w.heap.size w wr))
  case atStart => exact ⟨0, by omega, rfl, rfl, Below.refl _ _⟩
  case round =>
    obtain ⟨i, hik, rfl, HW⟩ := hrel
    by_cases hlt : i < n
    · have hltI : (i : Int) < (n : Int) := by omega
      have w1' : IntKind.i64.wrap ((i : Int) + 1) = ((i + 1 : Nat) : Int) := by rw [IntKind.wrap_i64]; omega
      obtain ⟨x, g, g2, rfl, rfl, ⟨x0, x1, x2, x3, x4⟩, ⟨y0, y1, y2, y3, y4⟩⟩ := HC.out wr HW.out.1 i hlt
      obtain ⟨xk, xn, xp, xm, xs⟩ := x
      clear HC
      go_wp2_with fail
      go_quiet (fail)
      go_wp2
      go_roundg (n - (i + 1))
      case measure => omega
      case rel => exact ⟨i + 1, by omega, rfl, HW.out.1, bdr HW.out.2 _⟩
    · obtain rfl : i = n := by omega
      go_wp2
      go_ret
      exact ⟨rfl, HW.out.2⟩
set_option maxRecDepth 20000 in
set_option maxHeartbeats 1000000 in
theorem sameState_any (w : World) (B B2 : Nat) (f d : Int) (a a2 : Option Addr) (n c c2 : Nat) (L : List Nd) (hn : n = L.length) (hA : w.ownsRow B 50 5 (.slice a n c) n (ndsc L)) (hB : w.ownsRow B2 50 5 (.slice a2 n c2) n (ndsc L)) (hb : n ≤ 1000000) :
    Calls Tryz.prog 16 #[.agg #[.int .i64 f, .int .i64 d, .slice a n c], .agg #[.int .i64 f, .int .i64 d, .slice a2 n c2]] w fun e w' => e = .returned (.bool true) ∧ Below w.heap.size w w' := by
  obtain ⟨W, hW, hbW, k0, k1⟩ := two_new w #[.int .i64 f, .int .i64 d, .slice a n c] #[.int .i64 f, .int .i64 d, .slice a2 n c2] 28 28
  have hs := sameNodes_any W B B2 a a2 n c c2 L hn (owns_keep hA fun g hg => hbW.block _ (hA.lt g hg).2) (owns_keep hB fun g hg => hbW.block _ (hB.lt g hg).2) hb
  have u0 : W.cell? ⟨w.heap.size, 0, none⟩ = some (.int .i64 f) := (cell_of_heap k0).trans rfl
  have u1 : W.cell? ⟨w.heap.size, 1, none⟩ = some (.int .i64 d) := (cell_of_heap k0).trans rfl
  have u2 : W.cell? ⟨w.heap.size, 2, none⟩ = some (.slice a n c) := (cell_of_heap k0).trans rfl
  have v0 : W.cell? ⟨w.heap.size + 1, 0, none⟩ = some (.int .i64 f) := (cell_of_heap k1).trans rfl
  have v1 : W.cell? ⟨w.heap.size + 1, 1, none⟩ = some (.int .i64 d) := (cell_of_heap k1).trans rfl
  have v2 : W.cell? ⟨w.heap.size + 1, 2, none⟩ = some (.slice a2 n c2) := (cell_of_heap k1).trans rfl
  have HB : Hid (Below w.heap.size w W) := hbW
  clear hA hB hn hbW k0 k1
  go_enter Tryz.func16, Tryz.ntmps16
  go_wp2_with fail
  refine hs.mono ?_
  rintro e w2 ⟨rfl, hb2⟩
  go_wp2
  go_ret
  exact ⟨rfl, below_on hb2 HB.out⟩
/-- the path that is planted -/
abbrev px : ByteArray := { data := #[47, 120] }
abbrev nx : ByteArray := { data := #[120] }
def mkX : Op := ⟨2, px, e0, 0, 0, e0⟩
def rmX : Op := ⟨7, px, e0, 0, 0, e0⟩
theorem parse_x : Pa.parseE px = 0 ∧ Pa.parseY px = [nx] := by
  constructor <;> rfl
theorem do_mkX (f d m : Nat) (hf : 1 ≤ f) : (doT (newT f d m) mkX).1 = Rs.no 0 ∧ (doT (newT f d m) mkX).2.1 = ⟨1, 0, -1, 0, 0, e0, 0⟩ ∧ (doT (newT f d m) mkX).2.2 = ⟨f, d + 1, m, [some (0, e0)], [some (0, nx, 0)], putM (fun _ _ => none) 0 (ky nx) (some (2, 0))⟩ := by
  have h0 : askE mkX = 0 := by unfold askE mkX; simp [parse_x.1]
  have e : doT (newT f d m) mkX = creT (newT f d m) [nx] := by
    unfold doT
    rw [if_neg (fun h => h h0)]
    simp [mkX, parse_x.2]
  have e2 : fndN (newT f d m) [nx] = (⟨0, nx, 0, 0⟩, 0) := rfl
  rw [e]
  unfold creT
  rw [e2, if_neg (by simp), if_pos (by show 0 < f; omega)]
  exact ⟨rfl, rfl, rfl⟩
theorem do_rmX (f d m : Nat) : let T : Ts := ⟨f, d + 1, m, [some (0, e0)], [some (0, nx, 0)], putM (fun _ _ => none) 0 (ky nx) (some (2, 0))⟩; (doT T rmX).1 = Rs.no 0 ∧ (doT T rmX).2.1 = ⟨5, 0, -1, 0, 0, e0, 0⟩ ∧ (doT T rmX).2.2.fr = f ∧ (doT T rmX).2.2.dr = d + 1 ∧ (doT T rmX).2.2.most = m ∧ (doT T rmX).2.2.F = [none] := by
  intro T
  have h0 : askE rmX = 0 := by unfold askE rmX; simp [parse_x.1]
  have e : doT T rmX = remT T [nx] := by
    unfold doT
    rw [if_neg (fun h => h h0)]
    simp [rmX, parse_x.2]
  have e2 : fndF T [nx] = (⟨0, nx, 2, 0⟩, 0) := rfl
  rw [e]
  unfold remT
  rw [e2, if_neg (by simp)]
  exact ⟨rfl, rfl, rfl, rfl, rfl, rfl⟩

end Go.Proofs.YtnfddiabhpandaaGreatDoor.Tr

namespace Go.Proofs.YtnfddiabhpandaaGreatDoor.Tr
open Go.RowKit Go.Lib Go.Deep

/-- what planted leaves -/
noncomputable def plX (f d m : Nat) : Ts := (doT (doT (newT f d m) mkX).2.2 rmX).2.2
set_option maxRecDepth 20000 in
set_option maxHeartbeats 4000000 in
theorem planted_at (w : World) (f d m : Nat) (hf1 : 1 ≤ f) (hf : f ≤ 65536) (hd : d ≤ 4096) (hm : m ≤ 65536) :
    Calls Tryz.prog 9 #[.int .i64 (f : Int), .int .i64 (d : Int), .int .i64 (m : Int)] w fun e w' => ∃ (b q : Nat) (T : Ts), e = .returned (.pointer (some ⟨b, 0, none⟩)) ∧ Hid (Tre w' w.heap.size b q 2 T) ∧ Hid (T.fr = f ∧ T.dr = d + 1 ∧ T.most = m ∧ T.F = [none] ∧ ∃ dp, Inv T dp) ∧ Below w.heap.size w w' ∧ Hid (T = plX f d m) := by
  obtain ⟨c1, c2, c3⟩ := do_mkX f d m hf1
  obtain ⟨d1, d2, d3⟩ := do_rmX f d m
  have HI : Hid (∀ T, T = (doT (newT f d m) mkX).2.2 → ∃ dp, Inv T dp) := fun T e => e ▸ inv_do (newT_inv f d m) mkX
  have HD1 : Hid (∀ (V : World) (b q : Nat), w.heap.size ≤ V.heap.size → Tre V w.heap.size b q 0 (newT f d m) → Calls Tryz.prog 12 #[.pointer (some ⟨b, 0, none⟩), .agg #[.int .i64 2, .string px, .string { data := #[] }, .int .i64 0, .int .i64 0, .string { data := #[] }]] V fun e w' => ∃ va vn vc, e = .returned (.tuple #[.agg #[.int .i64 0, .string e0, .int .i64 0, .slice va vn vc, .int .i64 0, .int .i64 0], .agg #[.int .i64 1, .int .i64 0, .int .i64 (-1), .int .i64 0, .int .i64 0, .string e0, .int .i64 0]]) ∧ Hid (Tre w' w.heap.size b q 1 (doT (newT f d m) mkX).2.2) ∧ Hid (Below w.heap.size V w') ∧ V.heap.size ≤ w'.heap.size) := fun V b q hV hT => by
    refine (do_tre V w.heap.size b q 0 (newT f d m) _ mkX hT hV (newT_inv f d m) (by omega) (by decide) (by decide)).mono ?_
    rintro e w' ⟨va, vn, vc, rfl, h1, h2, h3, h4⟩
    rw [c1, c2]
    exact ⟨va, vn, vc, rfl, h2, h4, h4.out.size⟩
  have HD2 : Hid (∀ (V : World) (b q : Nat), w.heap.size ≤ V.heap.size → Tre V w.heap.size b q 1 (doT (newT f d m) mkX).2.2 → Calls Tryz.prog 12 #[.pointer (some ⟨b, 0, none⟩), .agg #[.int .i64 7, .string px, .string { data := #[] }, .int .i64 0, .int .i64 0, .string { data := #[] }]] V fun e w' => ∃ va vn vc, e = .returned (.tuple #[.agg #[.int .i64 0, .string e0, .int .i64 0, .slice va vn vc, .int .i64 0, .int .i64 0], .agg #[.int .i64 5, .int .i64 0, .int .i64 (-1), .int .i64 0, .int .i64 0, .string e0, .int .i64 0]]) ∧ Hid (Tre w' w.heap.size b q 2 (doT (doT (newT f d m) mkX).2.2 rmX).2.2) ∧ Hid (Below w.heap.size V w') ∧ Hid (Kp V w') ∧ V.heap.size ≤ w'.heap.size) := fun V b q hV hT => by
    obtain ⟨dp, hv⟩ := HI.out _ rfl
    refine (do_tre V w.heap.size b q 1 _ dp rmX hT hV hv (by omega) (by decide) (by decide)).mono ?_
    rintro e w' ⟨va, vn, vc, rfl, h1, h2, h3, h4⟩
    rw [c3] at h2 ⊢
    rw [d1, d2]
    exact ⟨va, vn, vc, rfl, h2, h4, h3, h4.out.size⟩
  have HFIN : Hid ((doT (doT (newT f d m) mkX).2.2 rmX).2.2.fr = f ∧ (doT (doT (newT f d m) mkX).2.2 rmX).2.2.dr = d + 1 ∧ (doT (doT (newT f d m) mkX).2.2 rmX).2.2.most = m ∧ (doT (doT (newT f d m) mkX).2.2 rmX).2.2.F = [none] ∧ ∃ dp, Inv (doT (doT (newT f d m) mkX).2.2 rmX).2.2 dp) := by
    obtain ⟨dp, hv⟩ := HI.out _ rfl
    refine ⟨?_, ?_, ?_, ?_, inv_do hv rmX⟩
    · rw [c3]; exact d3.1
    · rw [c3]; exact d3.2.1
    · rw [c3]; exact d3.2.2.1
    · rw [c3]; exact d3.2.2.2
  have HPL : Hid ((doT (doT (newT f d m) mkX).2.2 rmX).2.2 = plX f d m) := rfl
  have hnew := new_any w f d m hf1 hf hd hm
  obtain ⟨T1, hT1⟩ : ∃ T1, (doT (newT f d m) mkX).2.2 = T1 := ⟨_, rfl⟩
  rw [hT1] at HD1 HD2 HFIN HPL
  obtain ⟨T2, hT2⟩ : ∃ T2, (doT T1 rmX).2.2 = T2 := ⟨_, rfl⟩
  rw [hT2] at HD2 HFIN HPL
  clear c1 c2 c3 d1 d2 d3 HI hT1 hT2
  go_enter Tryz.func9, Tryz.ntmps9
  go_wp2_with fail
  refine hnew.mono ?_
  rintro e w1 ⟨b, q, rfl, HT1, hb1⟩
  have HB1 : Hid (Below w.heap.size w w1) := hb1
  clear hb1 hnew
  go_wp2_with fail
  refine (num_any 0 w1).mono ?_
  rintro e w2 ⟨rfl, rfl⟩
  go_wp2_with fail
  refine (HD1.out w2 b q HB1.out.size HT1.out).mono ?_
  rintro e w3 ⟨va, vn, vc, rfl, HT3, HB3, hs3⟩
  obtain ⟨W3, hW3, hb3, k30, k31⟩ := two_new w3 #[.int .i64 0, .string e0, .int .i64 0, .slice va vn vc, .int .i64 0, .int .i64 0] #[.int .i64 1, .int .i64 0, .int .i64 (-1), .int .i64 0, .int .i64 0, .string e0, .int .i64 0] 33 35
  have HBW3 : Hid (Below w.heap.size w W3) := (HB1.out.trans HB3.out).trans (hb3.mono (Nat.le_trans HB1.out.size hs3))
  have HTW3 : Hid _ := HT3.out.below hb3
  have HK30 : Hid _ := k30
  have HK31 : Hid _ := k31
  have HW3 : Hid _ := hW3
  clear HD1 k30 k31 hb3 hW3
  go_wp2_with fail
  rw [HW3.out]
  refine (HD2.out W3 b q HBW3.out.size HTW3.out).mono ?_
  rintro e w4 ⟨ua, un, uc, rfl, HT4, HB4, HK4, hs4⟩
  obtain ⟨W4, hW4, hb4, k40, k41⟩ := two_new w4 #[.int .i64 0, .string e0, .int .i64 0, .slice ua un uc, .int .i64 0, .int .i64 0] #[.int .i64 5, .int .i64 0, .int .i64 (-1), .int .i64 0, .int .i64 0, .string e0, .int .i64 0] 33 35
  have HBW4 : Hid (Below w.heap.size w W4) := (HBW3.out.trans HB4.out).trans (hb4.mono (Nat.le_trans HBW3.out.size hs4))
  have HTW4 : Hid _ := HT4.out.below hb4
  have q30 : W4.heap[w3.heap.size]? = some (.cells #[.int .i64 0, .string e0, .int .i64 0, .slice va vn vc, .int .i64 0, .int .i64 0] 33 (0, 0)) := by
    have h := HK4.out _ _ _ HK30.out (by decide)
    exact (hb4.block _ (heap_lt h)).trans h
  have q31 : W4.heap[w3.heap.size + 1]? = some (.cells #[.int .i64 1, .int .i64 0, .int .i64 (-1), .int .i64 0, .int .i64 0, .string e0, .int .i64 0] 35 (0, 0)) := by
    have h := HK4.out _ _ _ HK31.out (by decide)
    exact (hb4.block _ (heap_lt h)).trans h
  have r0 := (cells6 q30).1
  obtain ⟨x0, x1, x2, x3, x4, x5, x6⟩ := cells7 q31
  have s0 := (cells6 k40).1
  obtain ⟨y0, y1, y2, y3, y4, y5, y6⟩ := cells7 k41
  have HW4 : Hid _ := hW4
  clear HD2 k40 k41 hb4 q30 q31 hW4
  go_upto_region 6 with fail
  rw [HW4.out]
  go_wp2_with fail
  refine (num_any 0 W4).mono ?_
  rintro e w5 ⟨rfl, rfl⟩
  go_wp2_with fail
  refine (num_any 0 w5).mono ?_
  rintro e w6 ⟨rfl, rfl⟩
  go_wp2
  go_ret
  exact ⟨b, q, T2, rfl, HTW4.out, HFIN.out, HBW4.out, HPL.out⟩
theorem planted_any (w : World) (f d m : Nat) (hf1 : 1 ≤ f) (hf : f ≤ 65536) (hd : d ≤ 4096) (hm : m ≤ 65536) :
    Calls Tryz.prog 9 #[.int .i64 (f : Int), .int .i64 (d : Int), .int .i64 (m : Int)] w fun e w' => ∃ (b q : Nat) (T : Ts), e = .returned (.pointer (some ⟨b, 0, none⟩)) ∧ Hid (Tre w' w.heap.size b q 2 T) ∧ Hid (T.fr = f ∧ T.dr = d + 1 ∧ T.most = m ∧ T.F = [none] ∧ ∃ dp, Inv T dp) ∧ Below w.heap.size w w' :=
  (planted_at w f d m hf1 hf hd hm).mono fun _ _ ⟨b, q, T, h1, h2, h3, h4, _⟩ => ⟨b, q, T, h1, h2, h3, h4⟩
theorem plX_is (f d m : Nat) (hf : 1 ≤ f) : plX f d m = ⟨f, d + 1, m, [some (0, e0)], [none], fun _ _ => none⟩ := by
  unfold plX
  rw [(do_mkX f d m hf).2.2]
  have h0 : askE rmX = 0 := by unfold askE rmX; simp [parse_x.1]
  obtain ⟨T, hT⟩ : ∃ T : Ts, T = ⟨f, d + 1, m, [some (0, e0)], [some (0, nx, 0)], putM (fun _ _ => none) 0 (ky nx) (some (2, 0))⟩ := ⟨_, rfl⟩
  rw [← hT]
  have e : doT T rmX = remT T [nx] := by
    unfold doT
    rw [if_neg (fun h => h h0)]
    simp [rmX, parse_x.2]
  have e2 : fndF T [nx] = (⟨0, nx, 2, 0⟩, 0) := by rw [hT]; rfl
  rw [e]
  unfold remT
  rw [e2, if_neg (by simp), hT]
  have e3 : putM (putM (fun _ _ => none) 0 (ky nx) (some (2, 0))) 0 (ky nx) none = fun _ _ => none := by
    funext p k
    by_cases h : p = 0 ∧ k = ky nx
    · simp only [putM, if_pos h]
    · simp only [putM, if_neg h]
  show (⟨f, d + 1, m, [some (0, e0)], [none], putM (putM (fun _ _ => none) 0 (ky nx) (some (2, 0))) 0 (ky nx) none⟩ : Ts) = _
  rw [e3]

end Go.Proofs.YtnfddiabhpandaaGreatDoor.Tr

namespace Go.Proofs.YtnfddiabhpandaaGreatDoor.Tr
open Go.RowKit Go.Lib Go.Deep

/-- the room stays -/
def Room (A T : Ts) : Prop := A.fr = T.fr ∧ A.dr = T.dr ∧ A.most = T.most
theorem Room.rfl' (T : Ts) : Room T T := ⟨rfl, rfl, rfl⟩
theorem mov_room {T : Ts} {a b : Sp} : Room (movT T a b) T := by
  unfold movT
  split
  · exact ⟨rfl, rfl, rfl⟩
  · exact ⟨rfl, rfl, rfl⟩
theorem mkd_room {T : Ts} {L : List ByteArray} : Room (mkdT T L).2.2 T := by
  unfold mkdT
  repeat' split
  all_goals first
    | exact ⟨rfl, rfl, rfl⟩
    | (dsimp only; split <;> exact ⟨rfl, rfl, rfl⟩)
theorem cre_room {T : Ts} {L : List ByteArray} : Room (creT T L).2.2 T := by
  unfold creT
  repeat' split
  all_goals first
    | exact ⟨rfl, rfl, rfl⟩
    | (dsimp only; split <;> exact ⟨rfl, rfl, rfl⟩)
theorem rea_room {T : Ts} {L : List ByteArray} {o : Op} : Room (reaT T L o).2.2 T := by
  unfold reaT
  repeat' split
  all_goals first
    | exact ⟨rfl, rfl, rfl⟩
    | (dsimp only; split <;> exact ⟨rfl, rfl, rfl⟩)
theorem wri_room {T : Ts} {L : List ByteArray} {o : Op} : Room (wriT T L o).2.2 T := by
  unfold wriT
  repeat' split
  all_goals first
    | exact ⟨rfl, rfl, rfl⟩
    | (dsimp only; split <;> exact ⟨rfl, rfl, rfl⟩)
theorem cut_room {T : Ts} {L : List ByteArray} {o : Op} : Room (cutT T L o).2.2 T := by
  unfold cutT
  repeat' split
  all_goals first
    | exact ⟨rfl, rfl, rfl⟩
    | (dsimp only; split <;> exact ⟨rfl, rfl, rfl⟩)
theorem rem_room {T : Ts} {L : List ByteArray} : Room (remT T L).2.2 T := by
  unfold remT
  repeat' split
  all_goals first
    | exact ⟨rfl, rfl, rfl⟩
    | (dsimp only; split <;> exact ⟨rfl, rfl, rfl⟩)
theorem rmd_room {T : Ts} {L : List ByteArray} : Room (rmdT T L).2.2 T := by
  unfold rmdT
  repeat' split
  all_goals first
    | exact ⟨rfl, rfl, rfl⟩
    | (dsimp only; split <;> exact ⟨rfl, rfl, rfl⟩)
theorem lis_room {T : Ts} {L : List ByteArray} : Room (lisT T L).2.2 T := by
  unfold lisT
  repeat' split
  all_goals first
    | exact ⟨rfl, rfl, rfl⟩
    | (dsimp only; split <;> exact ⟨rfl, rfl, rfl⟩)
theorem sta_room {T : Ts} {L : List ByteArray} : Room (staT T L).2.2 T := by
  unfold staT
  repeat' split
  all_goals first
    | exact ⟨rfl, rfl, rfl⟩
    | (dsimp only; split <;> exact ⟨rfl, rfl, rfl⟩)
theorem ren_room {T : Ts} {P Q : List ByteArray} : Room (renT T P Q).2.2 T := by
  unfold renT
  split
  · exact ⟨rfl, rfl, rfl⟩
  split
  · exact ⟨rfl, rfl, rfl⟩
  split
  · exact ⟨rfl, rfl, rfl⟩
  split
  · exact mov_room
  · exact mov_room
theorem do_room {T : Ts} {o : Op} : Room (doT T o).2.2 T := by
  unfold doT
  split
  · exact ⟨rfl, rfl, rfl⟩
  split
  · exact mkd_room
  split
  · exact cre_room
  split
  · exact rea_room
  split
  · exact wri_room
  split
  · exact cut_room
  split
  · exact ren_room
  split
  · exact rem_room
  split
  · exact rmd_room
  split
  · exact lis_room
  · exact sta_room
/-- operations that can be read -/
structure IsO (w : World) (a : Option Addr) (len : Nat) (O : List Op) : Prop where
  hl : O.length = len
  at_ : ∀ i o, O[i]? = some o → ∃ pb po, a = some ⟨pb, po, none⟩ ∧ pb < w.heap.size ∧ w.cell? ⟨pb, po + i * 6, none⟩ = some (.int .i64 o.kind) ∧ w.cell? ⟨pb, po + i * 6 + 1, none⟩ = some (.string o.path) ∧ w.cell? ⟨pb, po + i * 6 + 2, none⟩ = some (.string o.to_) ∧ w.cell? ⟨pb, po + i * 6 + 3, none⟩ = some (.int .i64 o.at_) ∧ w.cell? ⟨pb, po + i * 6 + 4, none⟩ = some (.int .i64 o.n) ∧ w.cell? ⟨pb, po + i * 6 + 5, none⟩ = some (.string o.data)
  bd : ∀ o ∈ O, o.at_ ≤ 9223372036854775807 ∧ o.data.size ≤ 9223372036854775807
theorem IsO.below {w W : World} {a : Option Addr} {len : Nat} {O : List Op} (h : IsO w a len O) (hb : Below w.heap.size w W) : IsO W a len O := ⟨h.hl, fun i o ho => by
  obtain ⟨pb, po, e, hp, c0, c1, c2, c3, c4, c5⟩ := h.at_ i o ho
  exact ⟨pb, po, e, Nat.lt_of_lt_of_le hp hb.size, (hb.cell hp).trans c0, (hb.cell hp).trans c1, (hb.cell hp).trans c2, (hb.cell hp).trans c3, (hb.cell hp).trans c4, (hb.cell hp).trans c5⟩, h.bd⟩
theorem told_len {w : World} {q : Nat} {F : List Nat} {nn : Nat} {T : Ts} (h : Lay w q F nn T) : (told T).length ≤ 1000000 := by
  obtain ⟨dv, fv, ld, lf, ms, -, hI⟩ := h
  have h1 := hI.dl
  have h2 := hI.fl
  have h3 := hI.lim
  unfold told toldD toldF
  rw [List.length_append]
  have e1 := List.length_filterMap_le (fun r : Option (Nat × ByteArray) × Nat => r.1.map fun d => (⟨1, r.2, d.1, d.2, 0⟩ : Nd)) (T.D.zipIdx.drop 1)
  have e2 := List.length_filterMap_le (fun r : Option (Nat × ByteArray × Nat) × Nat => r.1.map fun f => (⟨2, r.2, f.1, f.2.1, f.2.2⟩ : Nd)) T.F.zipIdx
  simp only [List.length_drop, List.length_zipIdx] at e1 e2
  omega
/-- State of a tree -/
theorem state_tre (w : World) (B b q nn : Nat) (T : Ts) (h : Tre w B b q nn T) (hdr : 1 ≤ T.dr) : Calls Tryz.prog 11 #[.pointer (some ⟨b, 0, none⟩)] w fun e w' => ∃ a c, e = .returned (.agg #[.int .i64 (T.fr : Int), .int .i64 ((T.dr : Int) - 1), .slice a (told T).length c]) ∧ Hid (w'.ownsRow w.heap.size 50 5 (.slice a (told T).length c) (told T).length (ndsc (told T))) ∧ Below w.heap.size w w' ∧ (told T).length ≤ 1000000 := by
  obtain ⟨F, hL, hF⟩ := h.lay
  refine (state_any w b q F nn T h.hb hL hdr).mono ?_
  rintro e w' ⟨a, k, c, rfl, HO, hb⟩
  have hk : k = (told T).length := by
    rcases HO.out.2 with ⟨e1, e2⟩ | ⟨g, cap, cur, e1, _⟩
    · injection e1 with _ e1 _; omega
    · injection e1
  subst hk
  exact ⟨a, c, rfl, HO, hb, told_len hL⟩
/-- between two operations -/
def Lp (w wr : World) (b q gw fr dr i : Nat) : Prop := ∃ T dp a c, Tre wr w.heap.size b q (2 + i) T ∧ Inv T dp ∧ T.fr = fr ∧ T.dr = dr ∧ wr.heap[gw]? = some (.cells #[.int .i64 (fr : Int), .int .i64 ((dr : Int) - 1), .slice a (told T).length c] 28 (0, 0)) ∧ wr.ownsRow w.heap.size 50 5 (.slice a (told T).length c) (told T).length (ndsc (told T)) ∧ w.heap.size ≤ gw ∧ Below w.heap.size w wr

end Go.Proofs.YtnfddiabhpandaaGreatDoor.Tr
