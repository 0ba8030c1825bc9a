import Derived.Test.YthmjjpaengackaaRlE
namespace Go.Proofs.Ythmjjpaengackaa.Po
open Go.RowKit Go.Lib Go.Deep

/-- a pool of the document, in memory -/
structure Rf (w : World) (B pb : Nat) (f : Nat) (R : List Ob) (Z : List Int) : Prop where
  ex : ∃ ov qv, w.heap[pb]? = some (.cells #[.int .i64 (f : Int), ov, qv] 108 (0, 0)) ∧ w.ownsRow B 35 4 ov R.length (obsC R) ∧ w.ownsRow B 3 1 qv Z.length (zsC Z)
/-- what the document's Load answers -/
structure LdR (w : World) (f s : Int) (R : List Ob) (Z : List Int) (e : Ending) (w' : World) : Prop where
  be : Below w.heap.size w w'
  ex : (roomB f s = false ∧ e = .returned (.tuple #[.pointer none, .int .i64 1])) ∨ (roomB f s = true ∧ ¬ (R.length = f.toNat + s.toNat ∧ Fits f.toNat R Z) ∧ e = .returned (.tuple #[.pointer none, .int .i64 130])) ∨
    (roomB f s = true ∧ (R.length = f.toNat + s.toNat ∧ Fits f.toNat R Z) ∧ ∃ pb, e = .returned (.tuple #[.pointer (some ⟨pb, 0, none⟩), .int .i64 0]) ∧ Rf w' w.heap.size pb f.toNat R Z ∧ w.heap.size ≤ pb)
set_option maxRecDepth 20000 in
set_option maxHeartbeats 4000000 in
theorem loadR_any (w : World) (v : Value) (R : List Ob) (Z : List Int) (hd : Sd w v R Z) (hsz : ∀ (k : Nat) o, R[k]? = some o → o.nm.size ≤ maxLen ∧ o.tg.size ≤ maxLen) (hZ : Z.length ≤ 9223372036854775000) (hR : R.length ≤ 9223372036854775000) (f s : Int) :
    Calls Try.prog 46 #[v, .int .i64 f, .int .i64 s] w fun e w' => LdR w f s R Z e w' := by
  obtain ⟨ov, qv, rfl, s1, t1⟩ := hd.ex
  obtain ⟨a1, c1, rfl⟩ := s1.form
  obtain ⟨a2, c2, rfl⟩ := t1.form
  obtain ⟨W, hW, hb, k0⟩ := one_new w #[.slice a1 R.length c1, .slice a2 Z.length c2] 29
  have hir := sizes_any f s W
  have HB : Hid (Below w.heap.size w W) := hb
  cases hr : roomB f s with
  | false =>
    rw [hr] at hir
    have HN : Hid (roomB f s = false) := hr
    clear hr hb k0 hsz hd s1 t1
    go_enter Try.func46, Try.ntmps46
    go_wp2_with (go_at_call 62; refine hir.mono ?_; rintro e w2 ⟨rfl, e2⟩; obtain rfl := e2.symm)
    go_ret2
    exact ⟨HB.out, .inl ⟨HN.out, rfl⟩⟩
  | true =>
    rw [hr] at hir
    obtain ⟨h1, h2, h3, h4⟩ := of_decide_eq_true hr
    have HN : Hid (roomB f s = true) := hr
    obtain ⟨a, rfl⟩ : ∃ a : Nat, f = a := ⟨f.toNat, by omega⟩
    obtain ⟨b, rfl⟩ : ∃ b : Nat, s = b := ⟨s.toNat, by omega⟩
    have hst := settled_any W _ R Z (hd.below hb) hsz hZ hR a
    have d0 : W.cell? ⟨w.heap.size, 0, none⟩ = some (.slice a1 R.length c1) := (cell_of_heap k0).trans rfl
    have d1 : W.cell? ⟨w.heap.size, 1, none⟩ = some (.slice a2 Z.length c2) := (cell_of_heap k0).trans rfl
    have w1 : IntKind.i64.wrap ((a : Int) + (b : Int)) = (a : Int) + (b : Int) := by rw [IntKind.wrap_i64]; omega
    have HNO : Hid (∀ V : World, Below W.heap.size W V → ¬ (R.length = a + b ∧ Fits a R Z) → LdR w (a : Int) (b : Int) R Z (.returned (.tuple #[.pointer none, .int .i64 130])) V) := fun V hV hno => ⟨hb.trans (hV.mono hb.size), .inr (.inl ⟨HN.out, hno, rfl⟩)⟩
    by_cases hl : R.length = a + b
    · have hlI : (R.length : Int) = (a : Int) + (b : Int) := by omega
      have HQ : Hid (∀ V, Below W.heap.size W V → V.cell? ⟨w.heap.size, 0, none⟩ = some (.slice a1 R.length c1) ∧ V.cell? ⟨w.heap.size, 1, none⟩ = some (.slice a2 Z.length c2) ∧ Below w.heap.size w V) := fun V hV => by
        have k := (hV.block _ (heap_lt k0)).trans k0
        exact ⟨(cell_of_heap k).trans rfl, (cell_of_heap k).trans rfl, hb.trans (hV.mono hb.size)⟩
      have K1 : Hid (∀ V, Below w.heap.size w V → Calls Try.prog 64 #[.slice a1 R.length c1] V fun e w' => ∃ a c, e = .returned (.slice a R.length c) ∧ w'.ownsRow w.heap.size 35 4 (.slice a R.length c) R.length (obsC R) ∧ Below w.heap.size w w' ∧ Below V.heap.size V w') := fun V hV => by
        refine (rowsR_any V _ _ _ (s1.below hV) (by omega)).mono ?_
        rintro e w' ⟨v', rfl, ho, hbb⟩
        obtain ⟨a9, c9, rfl⟩ := owns_form ho
        exact ⟨a9, c9, rfl, owns_base ho hV.size, hV.trans (hbb.mono hV.size), hbb⟩
      have K2 : Hid (Z.length ≤ 65600 → ∀ V, Below w.heap.size w V → Calls Try.prog 65 #[.slice a2 Z.length c2] V fun e w' => ∃ a c, e = .returned (.slice a Z.length c) ∧ w'.ownsRow w.heap.size 3 1 (.slice a Z.length c) Z.length (zsC Z) ∧ Below w.heap.size w w' ∧ Below V.heap.size V w') := fun hz V hV => by
        refine (numbersR_any V _ _ _ (t1.below hV) (by omega)).mono ?_
        rintro e w' ⟨v', rfl, ho, hbb⟩
        obtain ⟨a9, c9, rfl⟩ := owns_form ho
        exact ⟨a9, c9, rfl, owns_base ho hV.size, hV.trans (hbb.mono hV.size), hbb⟩
      have HYES : Hid (R.length = a + b ∧ Fits a R Z → ∀ (V : World) (ov qv : Value), Below w.heap.size w V → V.ownsRow w.heap.size 35 4 ov R.length (obsC R) → V.ownsRow w.heap.size 3 1 qv Z.length (zsC Z) → LdR w (a : Int) (b : Int) R Z (.returned (.tuple #[.pointer (some ⟨V.heap.size, 0, none⟩), .int .i64 0])) (V.alloc (.cells #[.int .i64 (a : Int), ov, qv] 108))) := fun hy V ov qv hV o1 o2 => by
        have hal : Below V.heap.size V (V.alloc (.cells #[.int .i64 (a : Int), ov, qv] 108)) := (Below.refl _ _).alloc (Nat.le_refl _) _
        exact ⟨hV.trans (hal.mono hV.size), .inr (.inr ⟨HN.out, hy, _, rfl, ⟨ov, qv, heap_new _ _, owns_below o1 hal, owns_below o2 hal⟩, hV.size⟩)⟩
      have HLE : Hid (Fits a R Z → Z.length ≤ 65600) := fun h => by have := h.all; omega
      have HL : Hid (R.length = a + b) := hl
      clear hr hb k0 hsz hd s1 t1 h1 h2 h3 h4 hl
      go_enter Try.func46, Try.ntmps46
      go_wp2_with (go_at_call 62; refine hir.mono ?_; rintro e w2 ⟨rfl, e2⟩; obtain rfl := e2.symm)
      refine hst.mono ?_
      rintro e w3 ⟨⟨bb, rfl, hiff⟩, hb3⟩
      cases bb with
      | false =>
        have HX : Hid _ := HNO.out w3 hb3 (fun x => by have := hiff.2 x.2; cases this)
        clear hiff hb3 HNO HYES hst K1 K2 HQ HLE
        go_wp2
        go_ret2
        exact HX.out
      | true =>
        have hF := hiff.1 rfl
        obtain ⟨e0, e1, hbw⟩ := HQ.out w3 hb3
        have HY : Hid _ := HYES.out ⟨HL.out, hF⟩
        have K2' : Hid _ := K2.out (HLE.out hF)
        have hblt : w.heap.size < w3.heap.size := block_lt_of_cell e0
        have HS : Hid (∀ X, Below w3.heap.size w3 X → Below w3.heap.size w3 X ∧ Below w.heap.size w X ∧ X.cell? ⟨w.heap.size, 0, none⟩ = some (.slice a1 R.length c1) ∧ X.cell? ⟨w.heap.size, 1, none⟩ = some (.slice a2 Z.length c2)) := fun X hX => ⟨hX, hbw.trans (hX.mono hbw.size), (hX.cell (p := ⟨w.heap.size, 0, none⟩) hblt).trans e0, (hX.cell (p := ⟨w.heap.size, 1, none⟩) hblt).trans e1⟩
        have XD : Below w3.heap.size w3 w3.drew := (Below.refl _ _).drew
        obtain ⟨-, XB, c0, c1'⟩ := HS.out w3.drew XD
        clear hiff hb3 HNO HYES hst HQ HLE hF d0 d1 hW K2 hir hbw hblt
        go_wp2_with fail
        go_region_held_law (fun X => Below w3.heap.size w3 X ∧ Below w.heap.size w X ∧ X.cell? ⟨w.heap.size, 0, none⟩ = some (.slice a1 R.length c1) ∧ X.cell? ⟨w.heap.size, 1, none⟩ = some (.slice a2 Z.length c2)) (first | exact HS.out _ (by assumption) | exact HS.out _ (Below.alloc (by assumption) (Below.size (by assumption)) _) | go_keep) (first | (go_at_call 64; refine (K1.out _ (by assumption)).mono ?_; rintro e w5 ⟨a5, e5, rfl, hp1, hb5, hs5⟩; (try replace hp2 := owns_below hp2 hs5); have hb5' : Below w3.heap.size w3 w5 := Below.trans (by assumption) (hs5.mono (Below.size (by assumption))); clear hs5) | (go_at_call 65; refine (K2'.out _ (by assumption)).mono ?_; rintro e w6 ⟨a6, e6, rfl, hp2, hb6, hs6⟩; (try replace hp1 := owns_below hp1 hs6); have hb6' : Below w3.heap.size w3 w6 := Below.trans (by assumption) (hs6.mono (Below.size (by assumption))); clear hs6))
        have HF : Hid _ := HY.out w6 _ _ hb6 hp1 hp2
        clear HY hp1 hp2 hb5 hb6 K1 K2' HS
        go_wp2
        go_ret2
        exact HF.out
    · have hlI : ((R.length : Int) != (a : Int) + (b : Int)) = true := by rw [bne_iff_ne]; omega
      have HX : Hid _ := HNO.out W (Below.refl _ _) (fun x => hl x.1)
      clear hr hb k0 hsz hd s1 t1 h1 h2 h3 h4 hl HNO hst
      go_enter Try.func46, Try.ntmps46
      go_wp2_with (go_at_call 62; refine hir.mono ?_; rintro e w2 ⟨rfl, e2⟩; obtain rfl := e2.symm)
      go_ret2
      exact HX.out
end Go.Proofs.Ythmjjpaengackaa.Po
