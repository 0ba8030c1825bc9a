import Derived.Test.YtpjigcccjiidpaaExL
namespace Go.Proofs.Ytpjigcccjiidpaa.Ex
open Go.RowKit Go.Lib Go.Deep

theorem lv_ef (d : List UInt8) (hd : d.length ≤ 60) (st ag : Bool) : ∀ e ∈ lvE d st ag, EfW e := fun e he => by
  have h0 : wf 0 := by unfold wf; decide
  have h3 : wf 3 := by unfold wf; decide
  have h7 : wf 7 := by unfold wf; decide
  have hk : ∀ a b x y (l : List UInt8) z, wf a → wf b → l.length ≤ 60 → EfW ⟨x, a, b, 0, y, l, z⟩ := fun a b x y l z ha hb hl => ⟨ha, hb, by dsimp only; omega, by dsimp only; omega⟩
  unfold lvE at he
  cases st <;> cases ag <;> simp at he
  · rcases he with rfl | rfl | rfl | rfl
    · exact hk 7 0 1 0 [] 0 h7 h0 (by decide)
    · exact hk 7 0 3 0 d _ h7 h0 hd
    · exact hk 7 3 6 0 [] 0 h7 h3 (by decide)
    · exact hk 7 0 5 0 [] 0 h7 h0 (by decide)
  · rcases he with rfl | rfl | rfl | rfl | rfl
    · exact hk 7 0 1 0 [] 0 h7 h0 (by decide)
    · exact hk 7 0 3 0 d _ h7 h0 hd
    · exact hk 7 3 6 0 [] 0 h7 h3 (by decide)
    · exact hk 7 0 5 0 [] 0 h7 h0 (by decide)
    · exact hk 3 0 1 0 [] 0 h3 h0 (by decide)
  · rcases he with rfl | rfl | rfl
    · exact hk 7 0 1 0 [] 0 h7 h0 (by decide)
    · exact hk 7 0 3 0 d _ h7 h0 hd
    · exact hk 7 3 6 0 [] 0 h7 h3 (by decide)
  · rcases he with rfl | rfl | rfl | rfl
    · exact hk 7 0 1 0 [] 0 h7 h0 (by decide)
    · exact hk 7 0 3 0 d _ h7 h0 hd
    · exact hk 7 3 6 0 [] 0 h7 h3 (by decide)
    · exact hk 3 0 1 0 [] 0 h3 h0 (by decide)
/-- the three calls of ExecLives, from any world behind w2 -/
def LvC (w2 : World) (a : Option Addr) (n c : Nat) (lf f2 : Int) (c0 s : ByteArray) (G : World → World → Ending → World → Prop) : Prop :=
  ∀ V, Below w2.heap.size w2 V → ∃ W1, V.alloc (.cells #[.int .i64 0, .int .i64 (-1), .int .i64 lf, .int .i64 0, .int .i64 0, .int .i64 3, .int .i64 f2, .int .i64 0] 35) = W1 ∧ Calls Try.prog 10 #[.slice a n c] W1 fun e w3 => ∃ a3 c3, e = .returned (.slice a3 n c3) ∧ ∃ W2, w3.alloc (.cells #[.string c0, .string s] 9) = W2 ∧
    Calls Try.prog 9 #[.agg #[.slice (some ⟨V.heap.size, 0, none⟩) 2 2, .slice a3 n c3], .slice (some ⟨w3.heap.size, 0, none⟩) 2 2] W2 fun e w4 => G V W2 e w4
/-- an answer that holds two contents -/
def Lv2 (n : Nat) (want : ByteArray) (V _W2 : World) (e : Ending) (w4 : World) : Prop := ∃ q g c, e = .returned (.tuple #[.agg #[.slice (some ⟨q, 0, none⟩) n n, .slice (some ⟨g, 0, none⟩) 2 c], .int .i64 0]) ∧ ∃ U, w4.alloc (.cells #[.slice (some ⟨q, 0, none⟩) n n, .slice (some ⟨g, 0, none⟩) 2 c] 30) = U ∧ U.cell? ⟨w4.heap.size, 0, none⟩ = some (.slice (some ⟨q, 0, none⟩) n n) ∧ U.cell? ⟨w4.heap.size, 1, none⟩ = some (.slice (some ⟨g, 0, none⟩) 2 c) ∧ U.cell? ⟨g, 0, none⟩ = some (.string want) ∧ U.cell? ⟨g, 1, none⟩ = some (.string { data := #[] }) ∧ Hid (Below V.heap.size V U)
def Lv0 (V _W2 : World) (e : Ending) (w4 : World) : Prop := e = .returned (.tuple #[.agg #[.slice none 0 0, .slice none 0 0], .int .i64 160]) ∧ Hid (Below V.heap.size V w4)
theorem lv_calls (w2 : World) (d s : List UInt8) (hd : d.length ≤ 60) (hs : s.length ≤ 300) (st ag : Bool) (a : Option Addr) (n c : Nat) (hE : See w2 7 (.slice a n c) n (efsC (lvE d st ag))) (hn : (lvE d st ag).length = n) :
    LvC w2 a n c (if st then 7 else -1) (if ag then 3 else -1) { data := #[] } (str s) (Lv2 n (str (if st then d else []))) ∧ LvC w2 a n c (if st then 7 else -1) (if ag then -1 else 3) { data := #[] } (str s) Lv0 ∧ LvC w2 a n c (if st then 7 else -1) (if ag then 3 else -1) { data := #[120] } (str s) Lv0 := by
  have hn6 : n ≤ 1000 := by
    rw [← hn]
    unfold lvE
    cases st <;> cases ag <;> simp
  have hw : ∀ x y : Int, (x = 7 ∨ x = -1) → (y = 3 ∨ y = -1) → ∀ s ∈ ([⟨0, -1, x, 0⟩, ⟨0, 3, y, 0⟩] : List Sl), wf s.wa ∧ wf s.fi := fun x y hx hy s hs => by
    simp at hs
    rcases hs with rfl | rfl
    · rcases hx with rfl | rfl <;> exact ⟨by unfold wf; decide, by unfold wf; decide⟩
    · rcases hy with rfl | rfl <;> exact ⟨by unfold wf; decide, by unfold wf; decide⟩
  have hc : ∀ x : List UInt8, x.length ≤ 10 → ∀ c ∈ [x, s], c.length ≤ 549755813888 := fun x hx c hc => by
    simp at hc
    rcases hc with rfl | rfl <;> omega
  have hx7 : (if st then (7 : Int) else -1) = 7 ∨ (if st then (7 : Int) else -1) = -1 := by cases st <;> simp
  have hy3 : (if ag then (3 : Int) else -1) = 3 ∨ (if ag then (3 : Int) else -1) = -1 := by cases ag <;> simp
  have hz3 : (if ag then (-1 : Int) else 3) = 3 ∨ (if ag then (-1 : Int) else 3) = -1 := by cases ag <;> simp
  have call : ∀ (V : World) (X Y : Int) (c0 : List UInt8), (X = 7 ∨ X = -1) → (Y = 3 ∨ Y = -1) → c0.length ≤ 10 → Below w2.heap.size w2 V → _ := fun V X Y c0 hX hY h0 hV => law_call V [⟨0, -1, X, 0⟩, ⟨0, 3, Y, 0⟩] #[.int .i64 0, .int .i64 (-1), .int .i64 X, .int .i64 0, .int .i64 0, .int .i64 3, .int .i64 Y, .int .i64 0] 2 rfl rfl (lvE d st ag) a n c (hE.below hV) hn hn6 [c0, s] #[.string (str c0), .string (str s)] 2 rfl rfl (by omega) (hw X Y hX hY) (lv_ef d hd st ag) (hc c0 h0)
  refine ⟨fun V hV => ?_, fun V hV => ?_, fun V hV => ?_⟩
  · obtain ⟨W1, hW1, hst⟩ := call V _ _ [] hx7 hy3 (by decide) hV
    refine ⟨W1, hW1, hst.mono ?_⟩
    rintro e w3 ⟨a3, c3, rfl, W2, hW2, hap⟩
    refine ⟨a3, c3, rfl, W2, hW2, hap.mono ?_⟩
    rintro e w4 ⟨h, HB⟩
    obtain ⟨rs, hrs⟩ := lv_app s d hd st ag
    obtain ⟨-, q, a', l, c', R, rfl, hO⟩ := ap_some hrs h
    obtain rfl : l = 2 := hO.cl
    obtain ⟨g, rfl, hg, t0⟩ := hO.text (i := 0) rfl
    obtain ⟨g', e', -, t1⟩ := hO.text (i := 1) rfl
    obtain rfl : g = g' := by injection e' with e'; injection e'
    obtain ⟨U, hU, hbU, kU⟩ := one_new w4 #[.slice (some ⟨q, 0, none⟩) n n, .slice (some ⟨g, 0, none⟩) 2 c'] 30
    exact ⟨q, g, c', rfl, U, hU, (cell_of_heap kU).trans rfl, (cell_of_heap kU).trans rfl, (hbU.cell (p := ⟨g, 0, none⟩) hg).trans t0, (hbU.cell (p := ⟨g, 1, none⟩) hg).trans t1, HB.out.trans (hbU.mono HB.out.size)⟩
  · obtain ⟨W1, hW1, hst⟩ := call V _ _ [] hx7 hz3 (by decide) hV
    refine ⟨W1, hW1, hst.mono ?_⟩
    rintro e w3 ⟨a3, c3, rfl, W2, hW2, hap⟩
    refine ⟨a3, c3, rfl, W2, hW2, hap.mono ?_⟩
    rintro e w4 ⟨h, HB⟩
    exact ⟨(ap_none (lv_wrong s d hd st ag) h).2, HB⟩
  · obtain ⟨W1, hW1, hst⟩ := call V _ _ [120] hx7 hy3 (by decide) hV
    refine ⟨W1, hW1, hst.mono ?_⟩
    rintro e w3 ⟨a3, c3, rfl, W2, hW2, hap⟩
    refine ⟨a3, c3, rfl, W2, hW2, hap.mono ?_⟩
    rintro e w4 ⟨h, HB⟩
    exact ⟨(ap_none (lv_x s _ _ _) h).2, HB⟩
end Go.Proofs.Ytpjigcccjiidpaa.Ex
