import Derived.Deep.Cut
import Derived.Test.YtcochbcaillldaaGreatDoorSqA
import Derived.Test.YtcochbcaillldaaGreatDoorScRc
namespace Go.Proofs.YtcochbcaillldaaGreatDoor.Sc
open Go.RowKit Go.Lib Go.Deep

/-- a block of a type -/
def HasT (w : World) (g : Nat) (T : TypeId) : Prop := ∃ cs, w.heap[g]? = some (.cells cs T (0, 0))
theorem HasT.set {w : World} {g : Nat} {T : TypeId} (h : HasT w g T) (k i : Nat) (v : Value) : HasT (w.setCell ⟨k, i, none⟩ v) g T := by
  obtain ⟨cs, h⟩ := h
  by_cases e : g = k
  · subst e
    exact ⟨cs.setIfInBounds i v, by simp [World.setCell, Array.getElem?_modify, h]⟩
  · exact ⟨cs, (Below.heap_setCell _ _ _ _ e).trans h⟩
theorem LnS.setT {x : Bool × List UInt8} {b g i : Nat} {w : World} {T : TypeId} {v : Value} (h : LnS x b w) (ho : HasT w g T) (hT : T ≠ 5) (hg : g ≠ b) : LnS x b (w.setCell ⟨g, i, none⟩ v) := by
  obtain ⟨cs, ho⟩ := ho
  have key : ∀ p, BuAt 125 [.bool x.1] b b p x.2 w → BuAt 125 [.bool x.1] b b p x.2 (w.setCell ⟨g, i, none⟩ v) := fun p h => by
    obtain ⟨hB, v', hb, hown, hne, hn0⟩ := h
    refine ⟨hB, v', (Below.heap_setCell _ _ _ _ (Ne.symm hg)).trans hb, ?_, hne, hn0⟩
    refine hown.kept (row := some g) ⟨rfl, rfl, rfl, by simp [World.setCell], fun k _ hk => Below.heap_setCell _ _ _ _ (fun e => hk (by simp [e]))⟩ (Or.inr ?_)
    exact ownBlock_ne hown ho hT
  exact h.elim (fun x => .inl (key _ x)) (fun x => .inr (key _ x))
def six (w : World) (g p : Nat) (v0 v1 v2 v3 v4 v5 : Value) : World := (((((w.setCell ⟨g, p, none⟩ v0).setCell ⟨g, p + 1, none⟩ v1).setCell ⟨g, p + 2, none⟩ v2).setCell ⟨g, p + 3, none⟩ v3).setCell ⟨g, p + 4, none⟩ v4).setCell ⟨g, p + 5, none⟩ v5
theorem LnS.six {x : Bool × List UInt8} {b g p : Nat} {w : World} {T : TypeId} {v0 v1 v2 v3 v4 v5 : Value} (h : LnS x b w) (ho : HasT w g T) (hT : T ≠ 5) (hg : g ≠ b) : LnS x b (six w g p v0 v1 v2 v3 v4 v5) := by
  have h0 := h.setT (i := p) (v := v0) ho hT hg
  have o0 := ho.set g p v0
  have h1 := h0.setT (i := p + 1) (v := v1) o0 hT hg
  have o1 := o0.set g (p + 1) v1
  have h2 := h1.setT (i := p + 2) (v := v2) o1 hT hg
  have o2 := o1.set g (p + 2) v2
  have h3 := h2.setT (i := p + 3) (v := v3) o2 hT hg
  have o3 := o2.set g (p + 3) v3
  have h4 := h3.setT (i := p + 4) (v := v4) o3 hT hg
  have o4 := o3.set g (p + 4) v4
  exact h4.setT (i := p + 5) (v := v5) o4 hT hg
theorem below_six {B g p : Nat} {a w : World} {v0 v1 v2 v3 v4 v5 : Value} (h : Below B a w) (hg : B ≤ g) : Below B a (six w g p v0 v1 v2 v3 v4 v5) :=
  (((((h.setCell (p := ⟨g, p, none⟩) hg _).setCell (p := ⟨g, p + 1, none⟩) hg _).setCell (p := ⟨g, p + 2, none⟩) hg _).setCell (p := ⟨g, p + 3, none⟩) hg _).setCell (p := ⟨g, p + 4, none⟩) hg _).setCell (p := ⟨g, p + 5, none⟩) hg _
theorem six_other (w : World) (g p k : Nat) (v0 v1 v2 v3 v4 v5 : Value) (hk : k ≠ g) : (six w g p v0 v1 v2 v3 v4 v5).heap[k]? = w.heap[k]? := by
  unfold six
  rw [Below.heap_setCell _ _ _ _ hk, Below.heap_setCell _ _ _ _ hk, Below.heap_setCell _ _ _ _ hk, Below.heap_setCell _ _ _ _ hk, Below.heap_setCell _ _ _ _ hk, Below.heap_setCell _ _ _ _ hk]
theorem sizeEd : (Tryz.prog.info? 34).map (·.size) = some 6 := by kernel_rfl
def zeroE : Array Value := #[.int .i64 0, .int .i64 0, .int .i64 0, .int .i64 0, .string { data := #[] }, .string { data := #[] }]
set_option maxRecDepth 20000 in
set_option maxHeartbeats 2000000 in
theorem takeE_any (g : Nat) (o : ActR) (w : World) (h : ActAt w g o) :
    Calls Tryz.prog 101 #[.pointer (some ⟨g, 3, none⟩)] w fun e w' => e = .returned (.agg o.ed) ∧ ActAt w' g o.noEdit ∧ Below g w w' ∧ (∀ x b, LnS x b w → g ≠ b → LnS x b w') := by
  have hA := h.below ((Below.refl _ _).alloc (Nat.le_refl _) (.cells zeroE 34)) h.lt
  obtain ⟨c0, c1, c2, c3, c4, c5, c6, c7, c8⟩ := hA.nine
  obtain ⟨W, hW⟩ : ∃ W, ((w.alloc (.cells zeroE 34)).alloc (.cells o.ed 34)).alloc (.cells zeroE 34) = W := ⟨_, rfl⟩
  have hbW : Below w.heap.size w W := by rw [← hW]; exact (((Below.refl _ _).alloc (Nat.le_refl _) _).alloc (by simp) _).alloc (by simp; omega) _
  have hgW := h.below hbW h.lt
  have hrW : W.heap[w.heap.size]? = some (.cells zeroE 34 (0, 0)) := by
    rw [← hW]
    exact (Lib.alloc_old _ _ _ (by simp; omega)).trans ((Lib.alloc_old _ _ _ (by simp)).trans (heap_alloc_new _ _))
  have hvW : W.heap[w.heap.size + 1]? = some (.cells o.ed 34 (0, 0)) := by
    rw [← hW]
    exact (Lib.alloc_old _ _ _ (by simp)).trans (by have h := heap_alloc_new (w.alloc (.cells zeroE 34)) (.cells o.ed 34); rw [show (w.alloc (.cells zeroE 34)).heap.size = w.heap.size + 1 by simp] at h; exact h)
  have hzW : W.heap[w.heap.size + 1 + 1]? = some (.cells zeroE 34 (0, 0)) := by
    have h := heap_alloc_new ((w.alloc (.cells zeroE 34)).alloc (.cells o.ed 34)) (.cells zeroE 34)
    rw [hW] at h
    rw [show ((w.alloc (.cells zeroE 34)).alloc (.cells o.ed 34)).heap.size = w.heap.size + 1 + 1 by simp] at h
    exact h
  have y0 : W.cell? ⟨w.heap.size + 1 + 1, 0, none⟩ = some (.int .i64 0) := by rw [Lib.cell_of_heap hzW]; rfl
  have y1 : W.cell? ⟨w.heap.size + 1 + 1, 1, none⟩ = some (.int .i64 0) := by rw [Lib.cell_of_heap hzW]; rfl
  have y2 : W.cell? ⟨w.heap.size + 1 + 1, 2, none⟩ = some (.int .i64 0) := by rw [Lib.cell_of_heap hzW]; rfl
  have y3 : W.cell? ⟨w.heap.size + 1 + 1, 3, none⟩ = some (.int .i64 0) := by rw [Lib.cell_of_heap hzW]; rfl
  have y4 : W.cell? ⟨w.heap.size + 1 + 1, 4, none⟩ = some (.string { data := #[] }) := by rw [Lib.cell_of_heap hzW]; rfl
  have y5 : W.cell? ⟨w.heap.size + 1 + 1, 5, none⟩ = some (.string { data := #[] }) := by rw [Lib.cell_of_heap hzW]; rfl
  obtain ⟨d0, d1, d2, d3, d4, d5, d6, d7, d8⟩ := hgW.nine
  have df := hgW.frozen
  have hV6 := hgW.set6
  have hgl := h.lt
  have hL : ∀ x b, LnS x b w → g ≠ b → LnS x b (six W g 3 (.int .i64 0) (.int .i64 0) (.int .i64 0) (.int .i64 0) (.string { data := #[] }) (.string { data := #[] })) ∧ w.heap.size ≠ b := fun x b hl hne => ⟨LnS.six (Bu.below hl hbW) ⟨_, hgW⟩ (by decide) hne, Nat.ne_of_gt hl.lt⟩
  have hB : Below g w (six W g 3 (.int .i64 0) (.int .i64 0) (.int .i64 0) (.int .i64 0) (.string { data := #[] }) (.string { data := #[] })) := below_six (hbW.mono (Nat.le_of_lt hgl)) (Nat.le_refl _)
  have e1 : w.heap.size ≠ g := Nat.ne_of_gt hgl
  have e2 : w.heap.size + 1 ≠ g := by omega
  have hR : (six W g 3 (.int .i64 0) (.int .i64 0) (.int .i64 0) (.int .i64 0) (.string { data := #[] }) (.string { data := #[] })).heap[w.heap.size]? = some (.cells zeroE 34 (0, 0)) := (six_other _ _ _ _ _ _ _ _ _ _ e1).trans hrW
  have hVV : (six W g 3 (.int .i64 0) (.int .i64 0) (.int .i64 0) (.int .i64 0) (.string { data := #[] }) (.string { data := #[] })).heap[w.heap.size + 1]? = some (.cells o.ed 34 (0, 0)) := (six_other _ _ _ _ _ _ _ _ _ _ e2).trans hvW
  obtain ⟨V, hVe⟩ : ∃ V, six W g 3 (.int .i64 0) (.int .i64 0) (.int .i64 0) (.int .i64 0) (.string { data := #[] }) (.string { data := #[] }) = V := ⟨_, rfl⟩
  rw [hVe] at hR hVV hB
  have hV : ActAt V g o.noEdit := by rw [← hVe]; exact hV6
  rw [hVe] at hL
  have HVE : Hid (Unit → six W g 3 (.int .i64 0) (.int .i64 0) (.int .i64 0) (.int .i64 0) (.string { data := #[] }) (.string { data := #[] }) = V) := fun _ => hVe
  have HW : Hid (Unit → _ = W) := fun _ => hW
  have HL : Hid _ := hL
  have HB : Hid _ := hB
  have HR : Hid _ := hR
  have HVV : Hid _ := hVV
  have HV : Hid _ := hV
  clear hrW hvW hzW hW hA e1 e2 h hgW hV hV6 hL hB hR hVV hVe hbW
  unfold ActR.ed zeroE at *
  go_enter Tryz.func101, Tryz.ntmps101
  go_upto_region 3 with fail
  rw [HW.out ()]
  clear HW c0 c1 c2 c3 c4 c5 c6 c7 c8
  go_upto_region 4 with fail
  have hh := HVE.out ()
  unfold six at hh
  rw [hh]
  clear hh HVE y0 y1 y2 y3 y4 y5 d0 d1 d2 d3 d4 d5 d6 d7 d8 df
  have hvv := HVV.out
  have x0 : V.cell? ⟨w.heap.size + 1, 0, none⟩ = some (.int .i64 o.before) := by rw [Lib.cell_of_heap hvv]; rfl
  have x1 : V.cell? ⟨w.heap.size + 1, 1, none⟩ = some (.int .i64 o.ek) := by rw [Lib.cell_of_heap hvv]; rfl
  have x2 : V.cell? ⟨w.heap.size + 1, 2, none⟩ = some (.int .i64 o.put) := by rw [Lib.cell_of_heap hvv]; rfl
  have x3 : V.cell? ⟨w.heap.size + 1, 3, none⟩ = some (.int .i64 o.frm) := by rw [Lib.cell_of_heap hvv]; rfl
  have x4 : V.cell? ⟨w.heap.size + 1, 4, none⟩ = some (.string o.name) := by rw [Lib.cell_of_heap hvv]; rfl
  have x5 : V.cell? ⟨w.heap.size + 1, 5, none⟩ = some (.string o.blob) := by rw [Lib.cell_of_heap hvv]; rfl
  have hrr := HR.out
  have r0 : V.cell? ⟨w.heap.size, 0, none⟩ = some (.int .i64 0) := by rw [Lib.cell_of_heap hrr]; rfl
  have r1 : V.cell? ⟨w.heap.size, 1, none⟩ = some (.int .i64 0) := by rw [Lib.cell_of_heap hrr]; rfl
  have r2 : V.cell? ⟨w.heap.size, 2, none⟩ = some (.int .i64 0) := by rw [Lib.cell_of_heap hrr]; rfl
  have r3 : V.cell? ⟨w.heap.size, 3, none⟩ = some (.int .i64 0) := by rw [Lib.cell_of_heap hrr]; rfl
  have r4 : V.cell? ⟨w.heap.size, 4, none⟩ = some (.string { data := #[] }) := by rw [Lib.cell_of_heap hrr]; rfl
  have r5 : V.cell? ⟨w.heap.size, 5, none⟩ = some (.string { data := #[] }) := by rw [Lib.cell_of_heap hrr]; rfl
  have rf : ∀ j, V.frozen? ⟨w.heap.size, j, none⟩ = false := fun j => Lib.frozen_of_heap hrr j
  have HF : Hid ((six V w.heap.size 0 (.int .i64 o.before) (.int .i64 o.ek) (.int .i64 o.put) (.int .i64 o.frm) (.string o.name) (.string o.blob)).heap[w.heap.size]? = some (.cells #[.int .i64 o.before, .int .i64 o.ek, .int .i64 o.put, .int .i64 o.frm, .string o.name, .string o.blob] 34 (0, 0))) := by
    show _ = _
    simp [six, World.setCell, Array.getElem?_modify, hrr]
  have HFF : Hid (Unit → ActAt (six V w.heap.size 0 (.int .i64 o.before) (.int .i64 o.ek) (.int .i64 o.put) (.int .i64 o.frm) (.string o.name) (.string o.blob)) g o.noEdit ∧ Below g w (six V w.heap.size 0 (.int .i64 o.before) (.int .i64 o.ek) (.int .i64 o.put) (.int .i64 o.frm) (.string o.name) (.string o.blob)) ∧ ∀ x b, LnS x b w → g ≠ b → LnS x b (six V w.heap.size 0 (.int .i64 o.before) (.int .i64 o.ek) (.int .i64 o.put) (.int .i64 o.frm) (.string o.name) (.string o.blob))) := fun _ =>
    ⟨(six_other _ _ _ _ _ _ _ _ _ _ (Nat.ne_of_lt hgl)).trans HV.out, below_six HB.out (Nat.le_of_lt hgl), fun x b hl hne => LnS.six (HL.out x b hl hne).1 ⟨_, hrr⟩ (by decide) (HL.out x b hl hne).2⟩
  clear hrr hvv
  go_wp2
  refine bodyPost_ret (results_cell1 rfl _ _ w.heap.size 34 _ (0, 0) _ rfl HF.out Tryz.underlying34 rfl sizeEd) rfl ?_
  exact ⟨rfl, HFF.out ()⟩

theorem stN_len (x : Bool × List UInt8) (L : List Int) (h : ∀ n ∈ L, I64 n) : (stN x L).2.length ≤ x.2.length + 21 * L.length := by
  have := nmL_len L h
  simp only [stN, List.length_append]
  omega
set_option maxRecDepth 20000 in
set_option maxHeartbeats 2000000 in
theorem writeEdit_any : WrA 59 (fun o x => stB (stB (stN x [o.before, o.ek, o.put, o.frm]) o.name) o.blob) (fun o => o.noEdit) := by
  intro o x b v w hok hl ho hvb ht hg hx
  have hT := takeE_any v o w ho
  have HE4 : Hid (∀ n ∈ [o.before, o.ek, o.put, o.frm], I64 n) := by
    show ∀ n ∈ _, _
    simp
    exact ⟨hok.before, hok.ek, hok.put, hok.frm⟩
  have hns := hok.name
  have hbs := hok.blob
  have HL0 : Hid (LnS x b w) := hl
  have HT0 : Hid (ITab w) := ht
  unfold ActR.ed at hT
  have h4l := stN_len x [o.before, o.ek, o.put, o.frm] HE4.out
  simp only [List.length_cons, List.length_nil] at h4l
  dsimp only
  obtain ⟨y, hy⟩ : ∃ y, stN x [o.before, o.ek, o.put, o.frm] = y := ⟨_, rfl⟩
  rw [hy] at h4l ⊢
  have hsl := stB_len y o.name
  obtain ⟨z, hz⟩ : ∃ z, stB y o.name = z := ⟨_, rfl⟩
  rw [hz] at hsl ⊢
  have HY : Hid (stN x [o.before, o.ek, o.put, o.frm] = y) := hy
  have HZ : Hid (stB y o.name = z) := hz
  clear hl ho ht hok hy hz
  go_enter Tryz.func59, Tryz.ntmps59
  go_wp2_with (go_at_call 101; refine hT.mono ?_)
  rintro e w1 ⟨rfl, ho1, hb1, hln1⟩
  clear hT
  have hl1 := hln1 x b HL0.out (Nat.ne_of_lt hvb)
  have ht1 := HT0.out.below hb1 hg
  clear hln1
  obtain ⟨W, hW⟩ : ∃ W, w1.alloc (.cells #[.int .i64 o.before, .int .i64 o.ek, .int .i64 o.put, .int .i64 o.frm, .string o.name, .string o.blob] 34) = W := ⟨_, rfl⟩
  have hA : Below w1.heap.size w1 W := by rw [← hW]; exact (Below.refl _ _).alloc (Nat.le_refl _) _
  have hWe : W.heap[w1.heap.size]? = some (.cells #[.int .i64 o.before, .int .i64 o.ek, .int .i64 o.put, .int .i64 o.frm, .string o.name, .string o.blob] 34 (0, 0)) := by rw [← hW]; exact heap_alloc_new _ _
  have hl2 := Bu.below hl1 hA
  have ho2 := ho1.below hA ho1.lt
  have ht2 := ht1.below hA ht1.lt
  have HB2 : Hid (Below v w W) := hb1.trans (hA.mono (Nat.le_of_lt ho1.lt))
  have hbw1 : b < w1.heap.size := hl1.lt
  have HW : Hid (Unit → _ = W) := fun _ => hW
  clear hW hl1 ht1 ho1
  have hWs : W.heap.size = w1.heap.size + 1 := by rw [← HW.out ()]; simp
  have hN := numbers_any x.1 b (w1.heap.size + 1) 4 4 [o.before, o.ek, o.put, o.frm] x.2 (W.alloc (.cells #[.int .i64 o.before, .int .i64 o.ek, .int .i64 o.put, .int .i64 o.frm] 3)) (Bu.below hl2 ((Below.refl W.heap.size W).alloc (Nat.le_refl _) _)) (ht2.below ((Below.refl W.heap.size W).alloc (Nat.le_refl _) _) ht2.lt) (Nat.lt_trans hg hvb) (by omega) (by have h := heap_alloc_new W (.cells #[.int .i64 o.before, .int .i64 o.ek, .int .i64 o.put, .int .i64 o.frm] 3); rw [hWs] at h; exact h) rfl HE4.out (by decide) (by omega)
  have hbA := (Below.refl W.heap.size W).alloc (Nat.le_refl _) (.cells #[.int .i64 o.before, .int .i64 o.ek, .int .i64 o.put, .int .i64 o.frm] 3)
  have ho3 := ho2.below hbA ho2.lt
  have hWe3 := (Lib.alloc_old W (.cells #[.int .i64 o.before, .int .i64 o.ek, .int .i64 o.put, .int .i64 o.frm] 3) w1.heap.size (by omega)).trans hWe
  have HB3 : Hid (Below v w (W.alloc (.cells #[.int .i64 o.before, .int .i64 o.ek, .int .i64 o.put, .int .i64 o.frm] 3))) := HB2.out.trans (hbA.mono (Nat.le_of_lt ho2.lt))
  have HO3 : Hid (ActAt _ v o.noEdit) := ho3
  have HWe3 : Hid _ := hWe3
  clear hbA ho3 hWe3 hWe hl2 ht2 ho2 hA
  go_upto_region 3 with fail
  rw [HW.out ()]
  clear HW
  refine hN.mono ?_
  rintro e w3 ⟨rfl, ⟨hu3, hb3⟩, hoth3⟩
  clear hN
  have hu3 : LnS y b w3 := by rw [← HY.out]; exact hu3
  have ho4 := HO3.out.below hb3 hvb
  have hWe4 := hoth3.cells (Nat.ne_of_gt hbw1) (by decide) HWe3.out
  have HB4 : Hid (Below v w w3) := HB3.out.trans (hb3.mono (Nat.le_of_lt hvb))
  have x4 : w3.cell? ⟨w1.heap.size, 4, none⟩ = some (.string o.name) := by rw [Lib.cell_of_heap hWe4]; rfl
  have hM := lbytes_any y.1 b y.2 o.name w3 hu3 (by omega) (by omega)
  have HWe4 : Hid _ := hWe4
  have HO4 : Hid (ActAt _ v o.noEdit) := ho4
  clear hWe4 ho4 hoth3 HB3 HO3 HWe3 HB2 HE4
  go_wp2_with (go_at_call 102; refine hM.mono ?_)
  rintro e w5 ⟨rfl, ⟨hu5, hb5⟩, hoth5⟩
  clear hM x4
  have hWe5 := hoth5.cells (Nat.ne_of_gt hbw1) (by decide) HWe4.out
  have x5 : w5.cell? ⟨w1.heap.size, 5, none⟩ = some (.string o.blob) := by rw [Lib.cell_of_heap hWe5]; rfl
  have hu5 : LnS z b w5 := by rw [← HZ.out]; exact hu5
  have HO5 : Hid (ActAt _ v o.noEdit) := HO4.out.below hb5 hvb
  have HB5 : Hid (Below v w w5) := HB4.out.trans (hb5.mono (Nat.le_of_lt hvb))
  have hM := lbytes_any z.1 b z.2 o.blob w5 hu5 (by omega) (by omega)
  clear hWe5 hoth5 HWe4 HO4
  go_wp2_with (go_at_call 102; refine hM.mono ?_)
  rintro e w6 ⟨rfl, ⟨hu6, hb6⟩, hoth6⟩
  clear hM
  go_wp2
  go_end0
  exact ⟨rfl, hu6, HO5.out.below hb6 hvb, HB5.out.trans (hb6.mono (Nat.le_of_lt hvb))⟩
end Go.Proofs.YtcochbcaillldaaGreatDoor.Sc
