import Derived.Test.YtaejapdbghbgeaaSgC
namespace Go.Proofs.Ytaejapdbghbgeaa.Se
open Go.RowKit Go.Lib Go.Deep

/-- cells of structs in a row -/
def fc {α : Type} (f : α → List Value) (L : List α) : List Value := L.flatMap f
theorem fc_length {α : Type} {f : α → List Value} {s : Nat} (hf : ∀ x, (f x).length = s) : ∀ L : List α, (fc f L).length = L.length * s
  | [] => by simp [fc]
  | x :: L => by
    have := fc_length hf L
    unfold fc at this ⊢
    rw [List.flatMap_cons, List.length_append, hf, this, List.length_cons, Nat.add_mul]
    omega
theorem fc_at {α : Type} {f : α → List Value} {s : Nat} (hf : ∀ x, (f x).length = s) : ∀ (L : List α) (i : Nat) (x : α), L[i]? = some x → ∀ j, j < s → (fc f L)[i * s + j]? = (f x)[j]?
  | [], i, x, h, _, _ => by cases h
  | y :: L, 0, x, h, j, hj => by
    obtain rfl : y = x := Option.some.inj h
    unfold fc
    rw [List.flatMap_cons, Nat.zero_mul, Nat.zero_add, List.getElem?_append_left (by rw [hf]; exact hj)]
  | y :: L, i + 1, x, h, j, hj => by
    have := fc_at hf L i x h j hj
    unfold fc at this ⊢
    rw [List.flatMap_cons, List.getElem?_append_right (by rw [hf, Nat.add_mul]; omega), hf, ← this]
    congr 1
    rw [Nat.add_mul]
    omega
/-- cells that can be read -/
structure See (w : World) (v : Value) (n : Nat) (xs : List Value) : Prop where
  ex : ∃ a b off cap, v = .slice a n cap ∧ (n ≠ 0 → a = some ⟨b, off, none⟩ ∧ b < w.heap.size) ∧ (n = 0 → xs = []) ∧ ∀ j u, xs[j]? = some u → w.cell? ⟨b, off + j, none⟩ = some u
theorem See.below {w w' : World} {v : Value} {n : Nat} {xs : List Value} (h : See w v n xs) (hb : Below w.heap.size w w') : See w' v n xs := by
  obtain ⟨a, b, off, cap, h1, h2, h0, h3⟩ := h.ex
  refine ⟨a, b, off, cap, h1, fun hn => ⟨(h2 hn).1, Nat.lt_of_lt_of_le (h2 hn).2 hb.size⟩, h0, fun j u hu => ?_⟩
  have hn : n ≠ 0 := fun e => by rw [h0 e] at hu; cases hu
  exact (hb.cell (p := ⟨b, off + j, none⟩) (h2 hn).2).trans (h3 j u hu)
theorem See.of_own {w : World} {B n e s : Nat} {v : Value} {xs : List Value} (h : w.ownsRow B e s v n xs) : See w v n xs := by
  have hl := h.1
  rcases h.2 with ⟨h1, h2⟩ | ⟨g, cap, cur, h1, h2, h3, h4, h5, h6, h7⟩
  · have h0 : xs = [] := List.eq_nil_of_length_eq_zero (by rw [hl, h2, Nat.zero_mul])
    exact ⟨none, 0, 0, 0, by rw [h2]; exact h1, fun h => absurd h2 h, fun _ => h0, fun j u hu => by rw [h0] at hu; cases hu⟩
  · refine ⟨_, g, 0, cap, h1, fun _ => ⟨rfl, heap_lt h3⟩, fun h0 => List.eq_nil_of_length_eq_zero (by rw [hl, h0, Nat.zero_mul]), fun j u hu => ?_⟩
    have hj := (List.getElem?_eq_some_iff.1 hu).1
    rw [hl] at hj
    rw [← h7, List.getElem?_take, if_pos hj, Array.getElem?_toList] at hu
    rw [Nat.zero_add, cell_of_heap h3]
    exact hu
def boxC (b : Box) : List Value := [.int .i64 b.kind, .string b.name, .string b.text, .int .i64 b.seed]
def boxCells (bs : List Box) : List Value := fc boxC bs
theorem box_one (bs : List Box) : ∀ u ∈ boxCells bs, u.oneCell' = true := fun u hu => by
  simp only [boxCells, fc, boxC, List.mem_flatMap, List.mem_cons, List.not_mem_nil, or_false] at hu
  obtain ⟨r, _, rfl | rfl | rfl | rfl⟩ := hu <;> rfl
def firstB : Box := ⟨0, ⟨#[102, 105, 114, 115, 116]⟩, ⟨#[116, 101, 120, 116]⟩, 0⟩

set_option maxRecDepth 20000 in
set_option maxHeartbeats 1000000 in
theorem first_any (a : Option Addr) (cap : Nat) (bs : List Box) (hn : bs.length ≤ 1048576) (w : World) (hS : See w (.slice a bs.length cap) bs.length (boxCells bs)) :
    Calls Try.prog 14 #[.slice a bs.length cap] w fun e w' => ∃ v', e = .returned v' ∧ w'.ownsRow w.heap.size 44 4 v' (bs.length + 1) (boxCells (firstB :: bs)) ∧ Below w.heap.size w w' := by
  obtain ⟨a', b, off, cap', hv, h2, h0, h3⟩ := hS.ex
  injection hv with hv1 _ hv2
  subst hv1 hv2
  clear hS
  have hl : (boxCells bs).length = bs.length * 4 := fc_length (f := boxC) (s := 4) (fun _ => rfl) bs
  obtain ⟨i0, hi, hz0, hz1, hz2⟩ := info_B
  obtain ⟨W1, hW1⟩ : ∃ W, w.alloc (.cells #[.int .i64 0, .string ⟨#[102, 105, 114, 115, 116]⟩, .string ⟨#[116, 101, 120, 116]⟩, .int .i64 0] 44) = W := ⟨_, rfl⟩
  have hb1 : Below w.heap.size w W1 := by rw [← hW1]; exact (Below.refl _ _).alloc (Nat.le_refl _) _
  have HO : Hid (W1.ownsRow w.heap.size 44 4 (.slice (some ⟨w.heap.size, 0, none⟩) 1 1) 1 (boxC firstB)) := ⟨rfl, .inr ⟨w.heap.size, 1, #[.int .i64 0, .string ⟨#[102, 105, 114, 115, 116]⟩, .string ⟨#[116, 101, 120, 116]⟩, .int .i64 0], rfl, Nat.le_refl _, by rw [← hW1]; exact heap_new _ _, Nat.le_refl _, by unfold maxLen; omega, rfl, rfl⟩⟩
  have HE : Hid (boxCells (firstB :: bs) = boxC firstB ++ boxCells bs) := rfl
  rw [HE.out]
  cases a with
  | none =>
    have hn0 : bs.length = 0 := by
      cases h : bs.length with
      | zero => rfl
      | succ k => have := (h2 (by omega)).1; cases this
    have hbs : bs = [] := List.eq_nil_of_length_eq_zero hn0
    subst hbs
    clear h2 h3 h0 hl
    go_enter Try.func14, Try.ntmps14
    go_wp2
    go_ret
    exact ⟨_, rfl, HO.out, hb1⟩
  | some ad =>
    have HC : Hid (∀ j u, (boxCells bs)[j]? = some u → W1.cell? (ad.add j) = some u) := fun j u hu => by
      have hj := (List.getElem?_eq_some_iff.1 hu).1
      obtain ⟨e1, e2⟩ := h2 (by omega)
      obtain rfl := Option.some.inj e1
      rw [Addr.add_lit, hb1.cell (p := ⟨b, off + j, none⟩) e2]
      exact h3 j u hu
    have hz : 1 + bs.length ≤ maxLen ∧ (1 + bs.length) * 48 ≤ 140737488355328 ∧ w.heap.size ≤ W1.heap.size := ⟨by unfold maxLen; omega, by omega, hb1.size⟩
    have HL : Hid ((boxCells bs).length = bs.length * 4 ∧ ∀ u ∈ boxCells bs, u.oneCell' = true) := ⟨hl, box_one bs⟩
    rw [Nat.add_comm bs.length 1]
    generalize boxCells bs = xs at *
    generalize bs.length = n at *
    clear h2 h3 h0 hl
    go_enter Try.func14, Try.ntmps14
    go_wp2_with (first | (at_builtin; (try rw [hW1]); refine wpList_append_own _ rfl _ _ 37 rfl w.heap.size 44 i0 _ 4 48 Try.underlying37 hi hz0 hz1 hz2 rfl (by decide) _ _ _ rfl HO.out _ _ _ xs rfl HL.out.1 HC.out HL.out.2 hz.1 hz.2.1 hz.2.2 ?_; intro v' w2 hown hgrow _) | go_in)
    go_ret
    exact ⟨_, rfl, hown, hb1.trans (grown_below hgrow hz.2.2 HO.out)⟩
end Go.Proofs.Ytaejapdbghbgeaa.Se
