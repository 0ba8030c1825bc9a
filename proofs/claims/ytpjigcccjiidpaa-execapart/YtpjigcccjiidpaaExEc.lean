import Derived.Test.YtpjigcccjiidpaaExEb
import Derived.Test.YtpjigcccjiidpaaExDj
namespace Go.Proofs.Ytpjigcccjiidpaa.Ex
open Go.RowKit Go.Lib Go.Deep

theorem see_blk {V : World} {b n sz : Nat} {A : Array Value} {t : TypeId} (h : V.heap[b]? = some (.cells A t (0, 0))) (hl : A.toList.length = n * sz) (h1 : ∀ u ∈ A.toList, u.oneCell' = true) : See V sz (.slice (some ⟨b, 0, none⟩) n n) n A.toList := by
  refine ⟨hl, h1, _, n, rfl, Nat.le_refl _, fun e => (by cases e), fun _ => ⟨b, 0, rfl, heap_lt h, fun j u hu => ?_⟩⟩
  rw [Nat.zero_add, cell_of_heap h]
  rw [Array.getElem?_toList] at hu
  exact hu
theorem ap_some {w w' : World} {n : Nat} {T : List St} {rs : List Rs} {cs : List (List UInt8)} {Z : Option (List Rs × List (List UInt8))} {e : Ending} (hZ : Z = some (rs, cs)) (h : ApP w n T Z e w') : Below w.heap.size w w' ∧ ∃ q a l c R, e = .returned (.tuple #[.agg #[.slice (some ⟨q, 0, none⟩) n n, .slice a l c], .int .i64 0]) ∧ ApO w w' T rs cs q n a l c R := by
  obtain ⟨h1, ⟨h2, -⟩ | ⟨rs', cs', q, a, l, c, R, h2, h3, h4⟩⟩ := h
  · rw [hZ] at h2; cases h2
  · rw [hZ] at h2
    injection h2 with h2
    injection h2 with e1 e2
    subst e1 e2
    exact ⟨h1, q, a, l, c, R, h3, h4⟩
theorem ap_none {w w' : World} {n : Nat} {T : List St} {Z : Option (List Rs × List (List UInt8))} {e : Ending} (hZ : Z = none) (h : ApP w n T Z e w') : Below w.heap.size w w' ∧ e = .returned (.tuple #[.agg #[.slice none 0 0, .slice none 0 0], .int .i64 160]) := by
  obtain ⟨h1, ⟨-, h3⟩ | ⟨rs', cs', q, a, l, c, R, h2, -⟩⟩ := h
  · exact ⟨h1, h3⟩
  · rw [hZ] at h2; cases h2
theorem ApO.text {w w' : World} {T : List St} {rs : List Rs} {cs : List (List UInt8)} {q n : Nat} {a : Option Addr} {l c : Nat} {R : List Rr} (h : ApO w w' T rs cs q n a l c R) {i : Nat} {s : List UInt8} (hi : cs[i]? = some s) : ∃ g, a = some ⟨g, 0, none⟩ ∧ g < w'.heap.size ∧ w'.cell? ⟨g, i, none⟩ = some (.string (str s)) := by
  have hl := some_lt hi
  obtain ⟨g, c', e⟩ := owns_form2 h.ct (by have := h.cl; omega)
  injection e with e1 _ e2
  subst e1 e2
  have hc := owns_cell (h.ct) (j := i) (u := .string (str s)) (by unfold scC; rw [List.map_map, List.getElem?_map, hi]; rfl)
  exact ⟨g, rfl, (h.ct.lt g rfl).2, hc.1⟩
theorem ApO.res {w w' : World} {T : List St} {rs : List Rs} {cs : List (List UInt8)} {q n : Nat} {a : Option Addr} {l c : Nat} {R : List Rr} (h : ApO w w' T rs cs q n a l c R) {i : Nat} {r : Rs} (hi : rs[i]? = some r) : q < w'.heap.size ∧ w'.cell? ⟨q, i * 6 + 1, none⟩ = some (.string (str r.da)) ∧ w'.cell? ⟨q, i * 6 + 2, none⟩ = some (.int .i64 r.n) := by
  rw [← h.hr, List.getElem?_map] at hi
  cases hx : R[i]? with
  | none => rw [hx] at hi; cases hi
  | some x =>
    rw [hx] at hi
    simp only [Option.map_some, Option.some.injEq] at hi
    subst hi
    obtain ⟨⟨-, h1, h2, -⟩, -⟩ := row6 h.row hx
    exact ⟨(h.row.lt q rfl).2, h1, h2⟩
def wkS : List St := [mk0 ⟨3, 4, 0, 1, 0, [121, 101], 3⟩, mk0 ⟨2, 4, 0, 0, 3, [], 3⟩]
theorem wk1 : app [⟨0, 4, 4, 0⟩] (wkS.map (·.s)) [[114, 97, 116]] = some ([⟨0, [], 0, 0, 0⟩, ⟨0, [114, 121, 101], 0, 0, 0⟩], [[114, 121, 101]]) := by kernel_rfl
theorem wk2 : app [⟨0, 4, 4, 0⟩] (wkS.map (·.s)) [[114, 97, 116, 115]] = none := by kernel_rfl
theorem wk_one : ∀ u ∈ (#[.int .i64 0, .string { data := #[] }, .int .i64 0, .slice none 0 0, .int .i64 0, .int .i64 0, .int .i64 3, .int .i64 4, .int .i64 0, .int .i64 1, .int .i64 0, .string { data := #[121, 101] }, .int .i64 3, .int .i64 0, .string { data := #[] }, .int .i64 0, .slice none 0 0, .int .i64 0, .int .i64 0, .int .i64 2, .int .i64 4, .int .i64 0, .int .i64 0, .int .i64 3, .string { data := #[] }, .int .i64 3] : Array Value).toList, u.oneCell' = true := fun u hu => sts_one wkS u hu
theorem wk_ef : ∀ x ∈ wkS, EfW x.s.e := fun x hx => by
  simp [wkS] at hx
  rcases hx with rfl | rfl <;> exact ⟨by unfold wf; decide, by unfold wf; decide, by decide, by decide⟩
theorem apply_wk {V : World} {b1 b2 b3 : Nat} {s : List UInt8} (h1 : V.heap[b1]? = some (.cells #[.int .i64 0, .int .i64 4, .int .i64 4, .int .i64 0] 35 (0, 0))) (h2 : V.heap[b2]? = some (.cells #[.int .i64 0, .string { data := #[] }, .int .i64 0, .slice none 0 0, .int .i64 0, .int .i64 0, .int .i64 3, .int .i64 4, .int .i64 0, .int .i64 1, .int .i64 0, .string { data := #[121, 101] }, .int .i64 3, .int .i64 0, .string { data := #[] }, .int .i64 0, .slice none 0 0, .int .i64 0, .int .i64 0, .int .i64 2, .int .i64 4, .int .i64 0, .int .i64 0, .int .i64 3, .string { data := #[] }, .int .i64 3] 58 (0, 0))) (h3 : V.heap[b3]? = some (.cells #[.string (str s)] 9 (0, 0))) (hs : s.length ≤ 100) :
    Calls Try.prog 9 #[.agg #[.slice (some ⟨b1, 0, none⟩) 1 1, .slice (some ⟨b2, 0, none⟩) 2 2], .slice (some ⟨b3, 0, none⟩) 1 1] V fun e w' => ApP V 2 wkS (app [⟨0, 4, 4, 0⟩] (wkS.map (·.s)) [s]) e w' := by
  have s1 : See V 4 (.slice (some ⟨b1, 0, none⟩) 1 1) 1 (slsC [⟨0, 4, 4, 0⟩]) := see_blk h1 rfl (fun u hu => by simp at hu; rcases hu with rfl | rfl | rfl <;> rfl)
  have s2 : See V 13 (.slice (some ⟨b2, 0, none⟩) 2 2) 2 (stsC wkS) := see_blk h2 rfl wk_one
  have s3 : See V 1 (.slice (some ⟨b3, 0, none⟩) 1 1) 1 (scC ([s].map str)) := see_blk h3 rfl (fun u hu => by simp at hu; subst hu; rfl)
  refine apply_any [⟨0, 4, 4, 0⟩] wkS [s] V (some ⟨b1, 0, none⟩) (some ⟨b2, 0, none⟩) (some ⟨b3, 0, none⟩) 1 1 2 2 1 1 s1 rfl s2 rfl s3 rfl (by omega) (by omega) (fun x hx => ?_) wk_ef (fun x hx => ?_) (fun x hx => ?_) (fun c hc => ?_)
  · simp at hx; subst hx; exact ⟨by unfold wf; decide, by unfold wf; decide⟩
  · simp [wkS] at hx; rcases hx with rfl | rfl <;> (show 0 ≤ _; omega)
  · simp [wkS] at hx; rcases hx with rfl | rfl <;> exact see_nil _ _
  · simp at hc; subst hc; omega
set_option maxRecDepth 20000 in
set_option maxHeartbeats 2000000 in
theorem works_any (w : World) : Calls Try.prog 7 #[] w fun e w' => e = .returned (.bool true) ∧ Below w.heap.size w w' := by
  obtain ⟨W, hW, hb, k0, k1, k2⟩ := three_new w #[.int .i64 0, .int .i64 4, .int .i64 4, .int .i64 0] #[.int .i64 0, .string { data := #[] }, .int .i64 0, .slice none 0 0, .int .i64 0, .int .i64 0, .int .i64 3, .int .i64 4, .int .i64 0, .int .i64 1, .int .i64 0, .string { data := #[121, 101] }, .int .i64 3, .int .i64 0, .string { data := #[] }, .int .i64 0, .slice none 0 0, .int .i64 0, .int .i64 0, .int .i64 2, .int .i64 4, .int .i64 0, .int .i64 0, .int .i64 3, .string { data := #[] }, .int .i64 3] #[.slice (some ⟨w.heap.size, 0, none⟩) 1 1, .slice (some ⟨w.heap.size + 1, 0, none⟩) 2 2] 35 58 40
  obtain ⟨p0, p1⟩ : W.cell? ⟨w.heap.size + 1 + 1, 0, none⟩ = some (.slice (some ⟨w.heap.size, 0, none⟩) 1 1) ∧ W.cell? ⟨w.heap.size + 1 + 1, 1, none⟩ = some (.slice (some ⟨w.heap.size + 1, 0, none⟩) 2 2) := ⟨(cell_of_heap k2).trans rfl, (cell_of_heap k2).trans rfl⟩
  -- the two calls
  have HC : Hid (∀ (V : World) (s : List UInt8), Below W.heap.size W V → s.length ≤ 100 → ∃ V1, V.alloc (.cells #[.string (str s)] 9) = V1 ∧ Calls Try.prog 9 #[.agg #[.slice (some ⟨w.heap.size, 0, none⟩) 1 1, .slice (some ⟨w.heap.size + 1, 0, none⟩) 2 2], .slice (some ⟨V.heap.size, 0, none⟩) 1 1] V1 fun e w' => ApP V1 2 wkS (app [⟨0, 4, 4, 0⟩] (wkS.map (·.s)) [s]) e w' ∧ Hid (Below W.heap.size W w')) := fun V s hV hs => by
    obtain ⟨V1, hV1, hb1, k3⟩ := one_new V #[.string (str s)] 9
    have hb2 := hV.trans (hb1.mono hV.size)
    refine ⟨V1, hV1, (apply_wk ((hb2.block _ (heap_lt k0)).trans k0) ((hb2.block _ (heap_lt k1)).trans k1) k3 hs).mono ?_⟩
    intro e w' h
    exact ⟨h, hb2.trans (h.1.mono hb2.size)⟩
  have HP : Hid (∀ V, Below W.heap.size W V → V.cell? ⟨w.heap.size + 1 + 1, 0, none⟩ = some (.slice (some ⟨w.heap.size, 0, none⟩) 1 1) ∧ V.cell? ⟨w.heap.size + 1 + 1, 1, none⟩ = some (.slice (some ⟨w.heap.size + 1, 0, none⟩) 2 2)) := fun V hV => by
    have := (hV.block _ (heap_lt k2)).trans k2
    exact ⟨(cell_of_heap this).trans rfl, (cell_of_heap this).trans rfl⟩
  have HB : Hid _ := hb
  obtain ⟨V1, hV1, hap⟩ := HC.out W [114, 97, 116] (Below.refl _ _) (by decide)
  rw [show str [114, 97, 116] = { data := #[114, 97, 116] } from rfl] at hV1
  clear hb k0 k1 k2
  go_enter Try.func7, Try.ntmps7
  go_wp2_with fail
  refine hap.mono ?_
  rintro e w1 ⟨h, HB1⟩
  obtain ⟨-, q, a, l, c, R, rfl, hO⟩ := ap_some wk1 h
  obtain ⟨g, rfl, hg, t0⟩ := hO.text (i := 0) rfl
  obtain ⟨hq, r1, -⟩ := hO.res (i := 1) rfl
  obtain rfl : l = 1 := hO.cl
  obtain ⟨U, hU, hbU, kU⟩ := one_new w1 #[.slice (some ⟨q, 0, none⟩) 2 2, .slice (some ⟨g, 0, none⟩) 1 c] 30
  have hbW := HB1.out.trans (hbU.mono HB1.out.size)
  obtain ⟨u0, u1⟩ : U.cell? ⟨w1.heap.size, 0, none⟩ = some (.slice (some ⟨q, 0, none⟩) 2 2) ∧ U.cell? ⟨w1.heap.size, 1, none⟩ = some (.slice (some ⟨g, 0, none⟩) 1 c) := ⟨(cell_of_heap kU).trans rfl, (cell_of_heap kU).trans rfl⟩
  have y1 : U.cell? ⟨q, 7, none⟩ = some (.string { data := #[114, 121, 101] }) := (hbU.cell (p := ⟨q, 7, none⟩) hq).trans r1
  have y0 : U.cell? ⟨g, 0, none⟩ = some (.string { data := #[114, 121, 101] }) := (hbU.cell (p := ⟨g, 0, none⟩) hg).trans t0
  obtain ⟨x0, x1⟩ := HP.out U hbW
  obtain ⟨V2, hV2, hap2⟩ := HC.out U [114, 97, 116, 115] hbW (by decide)
  rw [show str [114, 97, 116, 115] = { data := #[114, 97, 116, 115] } from rfl] at hV2
  have HBW : Hid _ := hbW
  clear h hO r1 t0 hg hq kU hbU hap p0 p1 HC HP hbW
  go_wp2_with (first
    | (go_at_call 11; refine (num_any _ _).mono ?_; rintro e w9 ⟨rfl, hw9⟩; subst hw9)
    | (go_at_call 9; refine hap2.mono ?_; rintro e w2 ⟨h2, HB2⟩; obtain ⟨-, rfl⟩ := ap_none wk2 h2; clear h2))
  go_ret
  exact ⟨rfl, HB.out.trans ((HB2.out.trans ((al w2 _).mono HB2.out.size)).mono HB.out.size)⟩
end Go.Proofs.Ytpjigcccjiidpaa.Ex
