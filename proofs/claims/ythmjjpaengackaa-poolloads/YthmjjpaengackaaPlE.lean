import Derived.Test.YthmjjpaengackaaPlD
namespace Go.Proofs.Ythmjjpaengackaa.Po
open Go.RowKit Go.Lib Go.Deep

/-- what Load answers -/
structure Ldd (w : World) (f s : Int) (R : List Ob) (Z : List Int) (e : Ending) (w' : World) : Prop where
  be : Below w.heap.size w w'
  ex : (roomB f s = false ∧ e = .returned (.tuple #[.pointer none, .int .i64 1])) ∨ (roomB f s = true ∧ ¬ (R.length = f.toNat + s.toNat ∧ Fits f.toNat R Z) ∧ e = .returned (.tuple #[.pointer none, .int .i64 130])) ∨
    (roomB f s = true ∧ (R.length = f.toNat + s.toNat ∧ Fits f.toNat R Z) ∧ ∃ pb q F, e = .returned (.tuple #[.pointer (some ⟨pb, 0, none⟩), .int .i64 0]) ∧ Ok w' pb q F R.length ⟨f.toNat, R, Z.map Int.toNat⟩ ∧ w.heap.size ≤ pb ∧ ∀ k, k ∈ F → w.heap.size ≤ k)
set_option maxRecDepth 20000 in
set_option maxHeartbeats 1000000 in
theorem load_any (w : World) (v : Value) (R : List Ob) (Z : List Int) (hd : Sd w v R Z) (hsz : ∀ (k : Nat) o, R[k]? = some o → o.nm.size ≤ maxLen ∧ o.tg.size ≤ maxLen) (hZ : Z.length ≤ 9223372036854775807) (hR : R.length ≤ 9223372036854775000) (f s : Int) :
    Calls Try.prog 22 #[v, .int .i64 f, .int .i64 s] w fun e w' => Ldd w f s R Z e w' := by
  obtain ⟨ov, qv, rfl, s1, t1⟩ := hd.ex
  obtain ⟨a1, c1, rfl⟩ := s1.form
  obtain ⟨a2, c2, rfl⟩ := t1.form
  obtain ⟨W, hW, hb, k0⟩ := one_new w #[.slice a1 R.length c1, .slice a2 Z.length c2] 29
  have hir := isRoom_any f s W
  have HB : Hid (Below w.heap.size w W) := hb
  cases hr : roomB f s with
  | false =>
    rw [hr] at hir
    have HN : Hid (roomB f s = false) := hr
    clear hr hb k0 hsz hd s1 t1
    go_enter Try.func22, Try.ntmps22
    go_wp2_with (go_at_call 41; refine hir.mono ?_; rintro e w2 ⟨rfl, e2⟩; obtain rfl := e2.symm)
    go_ret2
    exact ⟨HB.out, .inl ⟨HN.out, rfl⟩⟩
  | true =>
    rw [hr] at hir
    obtain ⟨h1, h2, h3, h4⟩ := of_decide_eq_true hr
    have HN : Hid (roomB f s = true) := hr
    obtain ⟨a, rfl⟩ : ∃ a : Nat, f = a := ⟨f.toNat, by omega⟩
    obtain ⟨b, rfl⟩ : ∃ b : Nat, s = b := ⟨s.toNat, by omega⟩
    have hns := newState_any W a b (by omega) (by omega)
    have HFI : Hid (∀ w3 q F, Lay w3 q F 0 (blankP a b) → (∀ k, k ∈ F → W.heap.size ≤ k) → Below W.heap.size W w3 → w3.cell? ⟨w.heap.size, 0, none⟩ = some (.slice a1 R.length c1) ∧ w3.cell? ⟨w.heap.size, 1, none⟩ = some (.slice a2 Z.length c2) ∧ Calls Try.prog 43 #[.pointer (some ⟨q, 0, none⟩), .agg #[.slice a1 R.length c1, .slice a2 Z.length c2]] w3 fun e w' => Fld W q a (a + b) R Z e w') := fun w3 q F hL hF hb3 => by
      have k3 := (hb3.block _ (heap_lt k0)).trans k0
      exact ⟨(cell_of_heap k3).trans rfl, (cell_of_heap k3).trans rfl, fill_any W w3 q F a b (by omega) (by omega) hL hF hb3 _ R Z (hd.below hb) hsz hZ (by omega)⟩
    have HNO : Hid (∀ w4 : World, Below W.heap.size W w4 → ¬ (R.length = a + b ∧ Fits a R Z) → Ldd w (a : Int) (b : Int) R Z (.returned (.tuple #[.pointer none, .int .i64 130])) w4) := fun w4 hb4 hno => ⟨hb.trans (hb4.mono hb.size), .inr (.inl ⟨HN.out, hno, rfl⟩)⟩
    have HYES : Hid (∀ (w4 : World) (q : Nat) (F' : List Nat), Below W.heap.size W w4 → (R.length = a + b ∧ Fits a R Z) → Lay w4 q F' R.length ⟨a, R, Z.map Int.toNat⟩ → (∀ k, k ∈ F' → W.heap.size ≤ k) → Good ⟨a, R, Z.map Int.toNat⟩ → Ldd w (a : Int) (b : Int) R Z (.returned (.tuple #[.pointer (some ⟨w4.heap.size, 0, none⟩), .int .i64 0])) (w4.alloc (.cells #[.pointer (some ⟨q, 0, none⟩)] 67))) := fun w4 q F' hb4 hyes hL hF hG => by
      have hal : Below w4.heap.size w4 (w4.alloc (.cells #[.pointer (some ⟨q, 0, none⟩)] 67)) := (Below.refl _ _).alloc (Nat.le_refl _) _
      have hbw := hb.trans (hb4.mono hb.size)
      exact ⟨hbw.trans (hal.mono hbw.size), .inr (.inr ⟨HN.out, hyes, _, q, F', rfl, ⟨heap_new _ _, hL.below hal, hG, by omega⟩, hbw.size, fun k hk => Nat.le_trans hb.size (hF k hk)⟩)⟩
    clear hr hb k0 hsz hd s1 t1 h1 h2 h3 h4
    go_enter Try.func22, Try.ntmps22
    go_wp2_with (first
      | (go_at_call 41; refine hir.mono ?_; rintro e w2 ⟨rfl, e2⟩; obtain rfl := e2.symm)
      | (go_at_call 42; refine hns.mono ?_; rintro e w3 ⟨q, F, rfl, hL, hF, hb3⟩; obtain ⟨d0, d1, hfi⟩ := HFI.out w3 q F hL hF hb3; clear hL hF hb3 HFI))
    refine hfi.mono ?_
    rintro e w4 ⟨⟨bb, rfl, hiff, hlay⟩, hb4⟩
    cases bb with
    | false =>
      have HX : Hid _ := HNO.out w4 hb4 (fun x => by have := hiff.2 x; cases this)
      clear hiff hlay hb4 HNO HYES hfi
      go_wp2
      go_ret2
      exact HX.out
    | true =>
      obtain ⟨F', l1, l2, l3⟩ := hlay rfl
      have HX : Hid _ := HYES.out w4 q F' hb4 (hiff.1 rfl) l1 l2 l3
      clear hiff hlay hb4 HNO HYES l1 l2 l3 hfi
      go_wp2
      go_ret2
      exact HX.out
end Go.Proofs.Ythmjjpaengackaa.Po
