import Derived.Test.YtbjiamaaocjbfaaDoorRdM4
import Derived.Test.YtbjiamaaocjbfaaDoorShM2
namespace Go.Proofs.YtbjiamaaocjbfaaDoor.Kp
open Go.RowKit Go.Lib Go.Deep Kr

/-- behind the reading of a ring: the ring, or what was thrown -/
def RingPost (T : List UInt8) (w : World) (e : Ending) (w' : World) : Prop :=
  Below w.heap.size w w' ∧
  ((parseE T = 0 ∧ ∃ a n c, e = .returned (.agg #[.string (str (parseI T)), .slice a n c]) ∧ OwnS w' w.heap.size (.slice a n c) (parseS T)) ∨
   (parseE T ≠ 0 ∧ e = .panicked [{ v := faultV (parseE T), recovered := false }]))
theorem RingPost.form {T : List UInt8} {w : World} {w' : World} (hb : Below w.heap.size w w') (h : ringR T = none) : RingPost T w (.panicked [{ v := faultV 70, recovered := false }]) w' := by
  obtain ⟨e, _⟩ := parse_none (ring_none h)
  exact ⟨hb, .inr ⟨by rw [e]; decide, by rw [e]⟩⟩

theorem OwnS.only {w w' : World} {B p : Nat} {v : Value} {ss : List Slot} (h : OwnS w B v ss) (hb : Only [p] w w') (hp : p < B) : OwnS w' B v ss := by
  obtain ⟨h1, h2⟩ := h
  refine ⟨h1, ?_⟩
  rcases h2 with h0 | ⟨g, cap, cur, e1, e2, e3, e4⟩
  · exact .inl h0
  · exact .inr ⟨g, cap, cur, e1, e2, (hb.block _ (heap_lt e3) (by simp; omega)).trans e3, e4⟩
/-- what readRing has while it reads the slots -/
structure Rg (T : List UInt8) (w W : World) (g : Nat) (idS : ByteArray) (v : Value) (ss : List Slot) (rest : List UInt8) : Prop where
  rd : Rd W (w.heap.size + 1) T rest
  res : W.heap[w.heap.size]? = some (.cells #[.string { data := #[] }, .slice none 0 0] 24 (0, 0))
  rng : W.heap[g]? = some (.cells #[.string idS, v] 24 (0, 0))
  own : OwnS W (g + 1) v ss
  bel : Below w.heap.size w W
  gl : w.heap.size + 1 < g
theorem Rg.gw {T : List UInt8} {w W : World} {g : Nat} {idS : ByteArray} {v : Value} {ss : List Slot} {rest : List UInt8} (h : Rg T w W g idS v ss rest) : g < W.heap.size := heap_lt h.rng
theorem Rg.over {T : List UInt8} {w W W' : World} {g : Nat} {idS : ByteArray} {v : Value} {ss : List Slot} {rest : List UInt8} (h : Rg T w W g idS v ss rest) (hb : Below W.heap.size W W') : Rg T w W' g idS v ss rest :=
  ⟨rd_below h.rd hb, (hb.block _ (heap_lt h.res)).trans h.res, (hb.block _ (heap_lt h.rng)).trans h.rng, OwnS.below h.own hb, h.bel.trans (hb.mono h.bel.size), h.gl⟩
theorem Rg.reads {T : List UInt8} {w W W' : World} {g : Nat} {idS : ByteArray} {v : Value} {ss : List Slot} {rest rest' : List UInt8} (h : Rg T w W g idS v ss rest) (hb : Only [w.heap.size + 1] W W') (hr : Rd W' (w.heap.size + 1) T rest') : Rg T w W' g idS v ss rest' :=
  ⟨hr, only_block hb h.res (by omega), only_block hb h.rng (by have := h.gl; omega), OwnS.only h.own hb (by have := h.gl; omega), h.bel.trans (hb.below h.bel.size (by simp)), h.gl⟩
theorem Rg.cell {T : List UInt8} {w W : World} {g : Nat} {idS : ByteArray} {v : Value} {ss : List Slot} {rest : List UInt8} (h : Rg T w W g idS v ss rest) : W.cell? ⟨g, 1, none⟩ = some v ∧ W.cell? ⟨g, 0, none⟩ = some (.string idS) ∧ ∀ i, W.frozen? ⟨g, i, none⟩ = false :=
  ⟨(cell_of_heap h.rng).trans rfl, (cell_of_heap h.rng).trans rfl, fun _ => frozen_of_heap h.rng⟩
/-- behind the append, ahead of the store -/
theorem Rg.grown {T : List UInt8} {w W W' : World} {g : Nat} {idS : ByteArray} {v v' : Value} {ss : List Slot} {rest : List UInt8} {s : Slot} (h : Rg T w W g idS v ss rest) (hg : W.grownBy W' v.ownBlock) (ho : W'.ownsRow (g + 1) 26 3 v' (ss.length + 1) (ringCells ss ++ slotCells s)) :
    W'.cell? ⟨g, 1, none⟩ = some v ∧ W'.frozen? ⟨g, 1, none⟩ = false ∧ Rg T w (W'.setCell ⟨g, 1, none⟩ v') g idS v' (ss ++ [s]) rest := by
  have hb : Below (g + 1) W W' := grown_below hg (by have := h.gw; omega) h.own
  have hr' : W'.heap[g]? = _ := (hb.block g (by omega)).trans h.rng
  have hs' : W'.heap[w.heap.size]? = _ := (hb.block _ (by have := h.gl; omega)).trans h.res
  obtain ⟨pre, q1, q2⟩ := h.rd
  have hd' : W'.heap[w.heap.size + 1]? = _ := (hb.block _ (by have := h.gl; omega)).trans q2
  have hgl := h.gl
  refine ⟨(cell_of_heap hr').trans rfl, frozen_of_heap hr', ⟨pre, q1, (Below.heap_setCell _ _ _ _ (by simp; omega)).trans hd'⟩, (Below.heap_setCell _ _ _ _ (by simp; omega)).trans hs', heap_setCell_same W' g 1 _ _ v' hr', ?_, ?_, hgl⟩
  · unfold OwnS
    rw [ringCells_append, List.length_append]
    have e : ringCells [s] = slotCells s := by simp [ringCells]
    rw [e]
    exact owns_set ho (by simp)
  · exact (h.bel.trans (hb.mono (by omega))).setCell (by simp; omega) _

set_option maxRecDepth 20000 in
set_option maxHeartbeats 4000000 in
theorem readRing_any (t : ByteArray) (w : World) (hT : t.data.toList.length ≤ 4194304) (ht : Tabs w) (h4 : 8 ≤ w.heap.size) :
    Calls Tryd.prog 24 #[.string t] w (RingPost t.data.toList w) := by
  obtain ⟨T, hTt⟩ : ∃ T, t.data.toList = T := ⟨_, rfl⟩
  have hst : t = str T := by rw [← hTt, str_of]
  rw [hTt] at hT ⊢
  subst hst
  clear hTt
  have hq0 : ((w.alloc (.cells #[.string { data := #[] }, .slice none 0 0] 24)).alloc (.cells #[.string (str T), .int .i64 0] 74)).heap[w.heap.size]? = some (.cells #[.string { data := #[] }, .slice none 0 0] 24 (0, 0)) := (Below.heap_alloc _ _ _ (by simp)).trans (heap_new _ _)
  have hr0 : Rd ((w.alloc (.cells #[.string { data := #[] }, .slice none 0 0] 24)).alloc (.cells #[.string (str T), .int .i64 0] 74)) (w.heap.size + 1) T T := ⟨[], rfl, by
    have := heap_new (w.alloc (.cells #[.string { data := #[] }, .slice none 0 0] 24)) (.cells #[.string (str T), .int .i64 0] 74)
    rw [show (w.alloc (.cells #[.string { data := #[] }, .slice none 0 0] 24)).heap.size = w.heap.size + 1 by simp] at this
    exact this⟩
  have hb0 : Below w.heap.size w ((w.alloc (.cells #[.string { data := #[] }, .slice none 0 0] 24)).alloc (.cells #[.string (str T), .int .i64 0] 74)) := ((Below.refl _ _).alloc (Nat.le_refl _) _).alloc (by simp) _
  have c0 := fixed_any { data := #[99, 97, 115, 107, 101, 116, 32, 114, 105, 110, 103, 32, 49, 10] } (w.heap.size + 1) T T _ hr0 hT
  rw [show ({ data := #[99, 97, 115, 107, 101, 116, 32, 114, 105, 110, 103, 32, 49, 10] } : ByteArray).data.toList = kHead ++ [10] from rfl] at c0
  have HC1 : Hid (∀ W r, Rd W (w.heap.size + 1) T r → Calls Tryd.prog 40 #[.pointer (some ⟨w.heap.size + 1, 0, none⟩), .string { data := #[105, 100, 32] }, .func (.func 41) #[.pointer (some ⟨w.heap.size + 1, 0, none⟩)] #[], .string { data := #[10] }] W (RdPost (w.heap.size + 1) T ((fieldR (kId ++ [32]) bytR [10] r).map fun x => (.string (str x.1), x.2)) W)) := fun W r h => fieldS_any { data := #[105, 100, 32] } { data := #[10] } (w.heap.size + 1) T r W h hT
  have HC2 : Hid (∀ W r, Rd W (w.heap.size + 1) T r → Calls Tryd.prog 42 #[.pointer (some ⟨w.heap.size + 1, 0, none⟩), .string { data := #[115, 108, 111, 116, 115, 32] }, .func (.func 43) #[.pointer (some ⟨w.heap.size + 1, 0, none⟩)] #[], .string { data := #[10] }] W (RdPost (w.heap.size + 1) T ((fieldR (kSlots ++ [32]) numR [10] r).map fun x => (.int .i64 (x.1 : Int), x.2)) W)) := fun W r h => fieldI_any { data := #[115, 108, 111, 116, 115, 32] } { data := #[10] } (w.heap.size + 1) T r W h hT
  have HC3 : Hid (∀ W r, Rd W (w.heap.size + 1) T r → Calls Tryd.prog 40 #[.pointer (some ⟨w.heap.size + 1, 0, none⟩), .string { data := #[115, 117, 109, 32] }, .func (.func 41) #[.pointer (some ⟨w.heap.size + 1, 0, none⟩)] #[], .string { data := #[10] }] W (RdPost (w.heap.size + 1) T ((fieldR (kSum ++ [32]) bytR [10] r).map fun x => (.string (str x.1), x.2)) W)) := fun W r h => fieldS_any { data := #[115, 117, 109, 32] } { data := #[10] } (w.heap.size + 1) T r W h hT
  have HC4 : Hid (∀ W r, Rd W (w.heap.size + 1) T r → Calls Tryd.prog 44 #[.pointer (some ⟨w.heap.size + 1, 0, none⟩)] W (RdPost (w.heap.size + 1) T ((slotR r).map fun x => (slotV x.1, x.2)) W)) := fun W r h => readSlot_any (w.heap.size + 1) T r W h hT
  have HB : Hid (∀ W W', Below w.heap.size w W → Only [w.heap.size + 1] W W' → Below w.heap.size w W') := fun W W' h1 h2 => h1.trans (h2.below h1.size (by simp))
  have HB0 : Hid _ := hb0
  have HQ0 : Hid _ := hq0
  clear hb0 hr0 hq0
  go_enter Tryd.func24, Tryd.ntmps24
  go_wp2_with fail
  refine c0.mono ?_
  clear c0
  rintro e w1 ⟨ho1, hm1⟩
  have hb1 := HB.out _ _ HB0.out ho1
  have hq1 := only_block ho1 HQ0.out (by omega)
  clear HB0 HQ0 ho1
  cases e0 : fixR (kHead ++ [10]) T with
  | none =>
    rw [e0] at hm1
    obtain rfl : e = .panicked [{ v := faultV 70, recovered := false }] := hm1
    exact ⟨rfl, RingPost.form hb1 (by unfold ringR; rw [e0])⟩
  | some r0 =>
  rw [e0] at hm1
  obtain ⟨rfl, hr1⟩ : e = .returned (.tuple #[]) ∧ Rd w1 (w.heap.size + 1) T r0 := hm1
  have c1 := HC1.out w1 r0 hr1
  clear hr1
  have HB1 : Hid _ := hb1
  have HQ1 : Hid _ := hq1
  clear hb1 hq1
  go_wp2_with fail
  refine c1.mono ?_
  clear c1
  rintro e w2 ⟨ho2, hm2⟩
  have hb2 := HB.out _ _ HB1.out ho2
  have hq2 := only_block ho2 HQ1.out (by omega)
  clear HB1 HQ1 ho2
  cases e1 : fieldR (kId ++ [32]) bytR [10] r0 with
  | none =>
    rw [e1] at hm2
    obtain rfl : e = .panicked [{ v := faultV 70, recovered := false }] := hm2
    exact ⟨rfl, RingPost.form hb2 (by unfold ringR; rw [e0]; simp only [e1])⟩
  | some x1 =>
  obtain ⟨id, r1⟩ := x1
  rw [e1] at hm2
  obtain ⟨rfl, hr2⟩ : e = .returned (.string (str id)) ∧ Rd w2 (w.heap.size + 1) T r1 := hm2
  have HB2 : Hid _ := hb2
  have HQ2 : Hid _ := hq2
  have HR2 : Hid _ := hr2
  clear hb2 hq2 hr2
  obtain ⟨idS, hidS⟩ : ∃ y, str id = y := ⟨_, rfl⟩
  have HID : Hid (str id = idS) := hidS
  rw [hidS]
  clear hidS
  have E0 : Hid _ := e0
  have E1 : Hid _ := e1
  clear e0 e1
  obtain ⟨g, hg⟩ : ∃ g, w2.heap.size = g := ⟨_, rfl⟩
  have hgl : w.heap.size + 1 < g := by have := (rd_len HR2.out).2; omega
  have hrA : Rd (w2.alloc (.cells #[.string idS, .slice none 0 0] 24)) (w.heap.size + 1) T r1 := rd_alloc HR2.out _
  have HBA : Hid (Below w.heap.size w (w2.alloc (.cells #[.string idS, .slice none 0 0] 24))) := HB2.out.alloc HB2.out.size _
  have HQA : Hid ((w2.alloc (.cells #[.string idS, .slice none 0 0] 24)).heap[w.heap.size]? = _) := (Below.heap_alloc _ _ _ (heap_lt HQ2.out)).trans HQ2.out
  have HGA : Hid ((w2.alloc (.cells #[.string idS, .slice none 0 0] 24)).heap[g]? = some (.cells #[.string idS, .slice none 0 0] 24 (0, 0))) := by rw [← hg]; exact heap_new _ _
  have c2 := HC2.out _ r1 hrA
  clear hrA HB2 HQ2 HR2
  go_wp2_with fail
  refine c2.mono ?_
  clear c2
  rintro e w3 ⟨ho3, hm3⟩
  have hb3 := HB.out _ _ HBA.out ho3
  have hq3 := only_block ho3 HQA.out (by omega)
  have hg3 := only_block ho3 HGA.out (by omega)
  clear HBA HQA HGA ho3
  cases e2 : fieldR (kSlots ++ [32]) numR [10] r1 with
  | none =>
    rw [e2] at hm3
    obtain rfl : e = .panicked [{ v := faultV 70, recovered := false }] := hm3
    exact ⟨rfl, RingPost.form hb3 (by unfold ringR; rw [E0.out]; simp only [E1.out, e2])⟩
  | some x2 =>
  obtain ⟨n, r2⟩ := x2
  rw [e2] at hm3
  obtain ⟨rfl, hr3⟩ : e = .returned (.int .i64 (n : Int)) ∧ Rd w3 (w.heap.size + 1) T r2 := hm3
  have hn : n ≤ 9999 := by
    obtain ⟨_, _, h⟩ := (field_iff _ _ _ _ _ _).1 e2
    exact ((num_iff _ _ _).1 h).2.1
  have E2 : Hid _ := e2
  clear e2
  have HRg : Hid (Rg T w w3 g idS (.slice none 0 0) [] r2) := ⟨hr3, hq3, hg3, World.ownsRow_nil _ _ _ _, hb3, hgl⟩
  clear hr3 hq3 hg3 hb3
  go_wp2_with fail
  go_loopg [21] n (fun gk i wr => ∃ (k : Nat) (v : Value) (ss : List Slot) (rest : List UInt8), k + gk = n ∧ i = .int .i64 (k : Int) ∧ Hid (slotsR k r2 = some (ss, rest)) ∧ Hid (Rg T w wr g idS v ss rest))
  case atStart => exact ⟨0, _, [], r2, by omega, rfl, rfl, HRg⟩
  case round =>
    clear HRg
    obtain ⟨k, v, ss, rest, hk, rfl, HS, HG⟩ := hrel
    have HK : Hid (k + gk = n) := hk
    have hk' : k ≤ n := by omega
    clear hk
    have hssk : ss.length = k := ((slotsR_iff _ _ _ _).1 HS.out).1
    obtain ⟨av, cv, hv⟩ := owns_len HG.out.own
    rw [hssk] at hv
    subst hv
    by_cases hlt : k < n
    · have hltI : (k : Int) < (n : Int) := by omega
      go_wp2_with fail
      --REGION
      have HF : Hid (slotR rest = none → ∀ w5, Below w.heap.size w w5 → RingPost T w (.panicked [{ v := faultV 70, recovered := false }]) w5) := fun e3 w5 hb => by
        refine RingPost.form hb ?_
        have e4 : slotsR (k + 1) r2 = none := by unfold slotsR; rw [HS.out]; simp only [e3]
        unfold ringR
        rw [E0.out]
        simp only [E1.out, E2.out, slotsR_stop (k + 1) n r2 e4 (by omega)]
      have hone : ∀ s : Slot, ∀ u ∈ slotCells s, u.oneCell' = true := fun s u hu => by
        simp [slotCells] at hu
        rcases hu with rfl | rfl | rfl <;> rfl
      have HONE : Hid _ := hone
      clear hone
      obtain ⟨i0, hi, hz0, hz1, hz2⟩ := info_S
      refine wp_region_held_drew (S := fun _ => True) (by kernel_rfl) trivial ?_
      have HGV : Hid (Rg T w wr.drew g idS (.slice av k cv) ss rest) := HG.out.over ⟨rfl, rfl, rfl, Nat.le_refl _, fun _ _ => rfl⟩
      have r1 := HGV.out.cell.1
      revert HGV r1
      clear HG
      generalize World.drew _ = V
      intro HGV r1 hS
      refine wpAnyH_take (i := 0) (oi := { dst := some 23, op := .fieldAddr 24 (.tmp 4) 1, type := _, pos := _, after := _, guard := none }) (v := .pointer (some ⟨g, 1, none⟩)) rfl (by kernel_rfl) (by kernel_rfl) (by kernel_rfl) (fun _ _ _ h => h) (Or.inl ⟨by rfl, by intro x _; go_simp⟩) hS ?_
      (try simp only [Act.put, List.setIfInBounds_toArray, List.set_cons_zero, List.set_cons_succ])
      refine wpAnyH_take (i := 2) (oi := { dst := some 25, op := .move (.tmp 3), type := _, pos := _, after := _, guard := none }) (v := .pointer (some ⟨w.heap.size + 1, 0, none⟩)) rfl (by kernel_rfl) (by kernel_rfl) (by kernel_rfl) (fun _ _ _ h => h) (Or.inl ⟨by rfl, by intro x _; go_simp⟩) hS ?_
      (try simp only [Act.put, List.setIfInBounds_toArray, List.set_cons_zero, List.set_cons_succ])
      refine wpAnyH_ready (rs := [1, 3]) (by kernel_rfl) (by simp) ?_
      refine AllReadyH.cons (o := { dst := some 24, op := .load 22 (.tmp 23), type := _, pos := _, after := _, guard := none }) rfl (fun K hK => ?_) (AllReadyH.cons (o := { dst := some 26, op := .call { callee := .value (.func 44), args := #[.tmp 25], argTypes := #[72] }, type := _, pos := _, after := _, guard := none }) rfl (fun K hK => ?_) AllReadyH.nil)
      · go_simp
        refine hK.out _ _ trivial (fun _ => ?_)
        clear hK K
        (try simp only [Act.put, List.setIfInBounds_toArray, List.set_cons_zero, List.set_cons_succ])
        refine wpAnyH_ready (rs := [3]) (by kernel_rfl) (by simp) ?_
        refine AllReadyH.cons (o := { dst := some 26, op := .call { callee := .value (.func 44), args := #[.tmp 25], argTypes := #[72] }, type := _, pos := _, after := _, guard := none }) rfl (fun K hK => ?_) AllReadyH.nil
        go_simp
        refine (HC4.out V rest HGV.out.rd).mono ?_
        rintro e W2 ⟨ho, hm⟩
        cases e3 : slotR rest with
        | none =>
          rw [e3] at hm
          obtain rfl : e = .panicked [{ v := faultV 70, recovered := false }] := hm
          exact ⟨rfl, HF.out e3 W2 (HGV.out.bel.trans (ho.below HGV.out.bel.size (by simp)))⟩
        | some x3 =>
        obtain ⟨s, rest2⟩ := x3
        rw [e3] at hm
        obtain ⟨rfl, hr⟩ : e = .returned (.agg #[.string (str s.salt), .int .i64 s.rounds, .string (str s.wrapped)]) ∧ Rd W2 (w.heap.size + 1) T rest2 := hm
        have HG2 : Hid (Rg T w W2 g idS (.slice av k cv) ss rest2) := HGV.out.reads ho hr
        have E3 : Hid (slotR rest = some (s, rest2)) := e3
        have q2 := HG2.out.cell.1
        clear e3 hr ho
        refine hK.out _ _ trivial (fun _ => ?_)
        clear hK K
        (try simp only [Act.put, List.setIfInBounds_toArray, List.set_cons_zero, List.set_cons_succ])
        revert HG2 q2
        clear HGV r1
        generalize W2 = V
        intro HGV r1
        refine wpAnyH_ready (rs := [4]) (by kernel_rfl) (by simp) ?_
        refine AllReadyH.cons (o := { dst := some 27, op := .buildSlice 22 1 #[(0, .tmp 26)], type := _, pos := _, after := _, guard := none }) rfl (fun K hK => ?_) AllReadyH.nil
        go_simp
        have HG2 : Hid (Rg T w (V.alloc (.cells #[.string (str s.salt), .int .i64 s.rounds, .string (str s.wrapped)] 26)) g idS (.slice av k cv) ss rest2) := HGV.out.over ((Below.refl _ _).alloc (Nat.le_refl _) _)
        have q2 := HG2.out.cell.1
        have hnew : Hid (∀ (j : Nat) u, (slotCells s)[j]? = some u → (V.alloc (.cells #[.string (str s.salt), .int .i64 s.rounds, .string (str s.wrapped)] 26)).cell? (Addr.add ⟨V.heap.size, 0, none⟩ j) = some u) := fun j u h => cells_new V #[.string (str s.salt), .int .i64 s.rounds, .string (str s.wrapped)] 26 j u (by simpa [slotCells] using h)
        refine hK.out _ _ trivial (fun _ => ?_)
        clear hK K
        (try simp only [Act.put, List.setIfInBounds_toArray, List.set_cons_zero, List.set_cons_succ])
        revert HG2 q2 hnew
        clear HGV r1
        generalize V.alloc (.cells #[.string (str s.salt), .int .i64 s.rounds, .string (str s.wrapped)] 26) = V2
        generalize V.heap.size = h
        intro HGV r1 hnew
        revert HGV r1 hnew
        generalize V2 = V
        intro HGV r1 hnew
        refine wpAnyH_ready (rs := [5]) (by kernel_rfl) (by simp) ?_
        refine AllReadyH.cons (o := { dst := some 28, op := .call { callee := .builtin .append, args := #[.tmp 24, .tmp 27], argTypes := #[22, 22] }, type := _, pos := _, after := _, guard := none }) rfl (fun K hK => ?_) AllReadyH.nil
        refine step_append_own rfl (.tmp 24) (.tmp 27) 22 rfl (g + 1) 26 i0 (.agg #[.string { data := #[] }, .int .i64 0, .string { data := #[] }]) 3 40 Tryd.underlying22 hi hz0 hz1 hz2 rfl (by decide) (.slice av k cv) k (ringCells ss) (by simp [Act.eval]) (by have h1 := HGV.out.own; unfold OwnS at h1; rw [hssk] at h1; exact h1) ⟨h, 0, none⟩ 1 1 (slotCells s) (by simp [Act.eval]) rfl hnew.out (HONE.out s) (by unfold maxLen; omega) (by omega) (by have := HGV.out.gw; omega) ?_
        intro v2 W2 hown2 hgw2
        obtain ⟨av2, cv2, rfl⟩ := owns_len hown2
        have H3 := HGV.out.grown (s := s) hgw2 (by rw [hssk]; exact hown2)
        have s1 := H3.1
        have s2 := H3.2.1
        have HR3 : Hid (Rg T w (W2.setCell ⟨g, 1, none⟩ (.slice av2 (k + 1) cv2)) g idS (.slice av2 (k + 1) cv2) (ss ++ [s]) rest2) := H3.2.2
        clear H3 hown2 hgw2 hnew HGV r1
        refine hK.out _ _ trivial (fun _ => ?_)
        clear hK K
        (try simp only [Act.put, List.setIfInBounds_toArray, List.set_cons_zero, List.set_cons_succ])
        refine wpAnyH_take (i := 6) (oi := { dst := some 29, op := .fieldAddr 24 (.tmp 4) 1, type := _, pos := _, after := _, guard := none }) (v := .pointer (some ⟨g, 1, none⟩)) rfl (by kernel_rfl) (by kernel_rfl) (by kernel_rfl) (fun _ _ _ h => h) (Or.inl ⟨by rfl, by intro x _; go_simp⟩) hS ?_
        (try simp only [Act.put, List.setIfInBounds_toArray, List.set_cons_zero, List.set_cons_succ])
        refine wpAnyH_ready (rs := [7]) (by kernel_rfl) (by simp) ?_
        refine AllReadyH.cons (o := { dst := none, op := .store 22 (.tmp 29) (.tmp 28), type := _, pos := _, after := _, guard := none }) rfl (fun K hK => ?_) AllReadyH.nil
        go_simp
        refine hK.out _ _ trivial (fun _ => ?_)
        clear hK K
        (try simp only [Act.put])
        refine wpAnyH_done (by kernel_rfl) ?_ _
        go_wp2
        go_roundg (gk - 1)
        case measure => have := HK.out; omega
        case rel => exact ⟨k + 1, _, ss ++ [s], rest2, by have := HK.out; omega, by go_num, by show slotsR (k + 1) r2 = _; unfold slotsR; rw [HS.out]; simp only [E3.out], HR3⟩
      · go_simp
        refine (HC4.out V rest HGV.out.rd).mono ?_
        rintro e W2 ⟨ho, hm⟩
        cases e3 : slotR rest with
        | none =>
          rw [e3] at hm
          obtain rfl : e = .panicked [{ v := faultV 70, recovered := false }] := hm
          exact ⟨rfl, HF.out e3 W2 (HGV.out.bel.trans (ho.below HGV.out.bel.size (by simp)))⟩
        | some x3 =>
        obtain ⟨s, rest2⟩ := x3
        rw [e3] at hm
        obtain ⟨rfl, hr⟩ : e = .returned (.agg #[.string (str s.salt), .int .i64 s.rounds, .string (str s.wrapped)]) ∧ Rd W2 (w.heap.size + 1) T rest2 := hm
        have HG2 : Hid (Rg T w W2 g idS (.slice av k cv) ss rest2) := HGV.out.reads ho hr
        have E3 : Hid (slotR rest = some (s, rest2)) := e3
        have q2 := HG2.out.cell.1
        clear e3 hr ho
        refine hK.out _ _ trivial (fun _ => ?_)
        clear hK K
        (try simp only [Act.put, List.setIfInBounds_toArray, List.set_cons_zero, List.set_cons_succ])
        revert HG2 q2
        clear HGV r1
        generalize W2 = V
        intro HGV r1
        refine wpAnyH_ready (rs := [1, 4]) (by kernel_rfl) (by simp) ?_
        refine AllReadyH.cons (o := { dst := some 24, op := .load 22 (.tmp 23), type := _, pos := _, after := _, guard := none }) rfl (fun K hK => ?_) (AllReadyH.cons (o := { dst := some 27, op := .buildSlice 22 1 #[(0, .tmp 26)], type := _, pos := _, after := _, guard := none }) rfl (fun K hK => ?_) AllReadyH.nil)
        · go_simp
          refine hK.out _ _ trivial (fun _ => ?_)
          clear hK K
          (try simp only [Act.put, List.setIfInBounds_toArray, List.set_cons_zero, List.set_cons_succ])
          refine wpAnyH_ready (rs := [4]) (by kernel_rfl) (by simp) ?_
          refine AllReadyH.cons (o := { dst := some 27, op := .buildSlice 22 1 #[(0, .tmp 26)], type := _, pos := _, after := _, guard := none }) rfl (fun K hK => ?_) AllReadyH.nil
          go_simp
          have HG2 : Hid (Rg T w (V.alloc (.cells #[.string (str s.salt), .int .i64 s.rounds, .string (str s.wrapped)] 26)) g idS (.slice av k cv) ss rest2) := HGV.out.over ((Below.refl _ _).alloc (Nat.le_refl _) _)
          have q2 := HG2.out.cell.1
          have hnew : Hid (∀ (j : Nat) u, (slotCells s)[j]? = some u → (V.alloc (.cells #[.string (str s.salt), .int .i64 s.rounds, .string (str s.wrapped)] 26)).cell? (Addr.add ⟨V.heap.size, 0, none⟩ j) = some u) := fun j u h => cells_new V #[.string (str s.salt), .int .i64 s.rounds, .string (str s.wrapped)] 26 j u (by simpa [slotCells] using h)
          refine hK.out _ _ trivial (fun _ => ?_)
          clear hK K
          (try simp only [Act.put, List.setIfInBounds_toArray, List.set_cons_zero, List.set_cons_succ])
          revert HG2 q2 hnew
          clear HGV r1
          generalize V.alloc (.cells #[.string (str s.salt), .int .i64 s.rounds, .string (str s.wrapped)] 26) = V2
          generalize V.heap.size = h
          intro HGV r1 hnew
          revert HGV r1 hnew
          generalize V2 = V
          intro HGV r1 hnew
          refine wpAnyH_ready (rs := [5]) (by kernel_rfl) (by simp) ?_
          refine AllReadyH.cons (o := { dst := some 28, op := .call { callee := .builtin .append, args := #[.tmp 24, .tmp 27], argTypes := #[22, 22] }, type := _, pos := _, after := _, guard := none }) rfl (fun K hK => ?_) AllReadyH.nil
          refine step_append_own rfl (.tmp 24) (.tmp 27) 22 rfl (g + 1) 26 i0 (.agg #[.string { data := #[] }, .int .i64 0, .string { data := #[] }]) 3 40 Tryd.underlying22 hi hz0 hz1 hz2 rfl (by decide) (.slice av k cv) k (ringCells ss) (by simp [Act.eval]) (by have h1 := HGV.out.own; unfold OwnS at h1; rw [hssk] at h1; exact h1) ⟨h, 0, none⟩ 1 1 (slotCells s) (by simp [Act.eval]) rfl hnew.out (HONE.out s) (by unfold maxLen; omega) (by omega) (by have := HGV.out.gw; omega) ?_
          intro v2 W2 hown2 hgw2
          obtain ⟨av2, cv2, rfl⟩ := owns_len hown2
          have H3 := HGV.out.grown (s := s) hgw2 (by rw [hssk]; exact hown2)
          have s1 := H3.1
          have s2 := H3.2.1
          have HR3 : Hid (Rg T w (W2.setCell ⟨g, 1, none⟩ (.slice av2 (k + 1) cv2)) g idS (.slice av2 (k + 1) cv2) (ss ++ [s]) rest2) := H3.2.2
          clear H3 hown2 hgw2 hnew HGV r1
          refine hK.out _ _ trivial (fun _ => ?_)
          clear hK K
          (try simp only [Act.put, List.setIfInBounds_toArray, List.set_cons_zero, List.set_cons_succ])
          refine wpAnyH_take (i := 6) (oi := { dst := some 29, op := .fieldAddr 24 (.tmp 4) 1, type := _, pos := _, after := _, guard := none }) (v := .pointer (some ⟨g, 1, none⟩)) rfl (by kernel_rfl) (by kernel_rfl) (by kernel_rfl) (fun _ _ _ h => h) (Or.inl ⟨by rfl, by intro x _; go_simp⟩) hS ?_
          (try simp only [Act.put, List.setIfInBounds_toArray, List.set_cons_zero, List.set_cons_succ])
          refine wpAnyH_ready (rs := [7]) (by kernel_rfl) (by simp) ?_
          refine AllReadyH.cons (o := { dst := none, op := .store 22 (.tmp 29) (.tmp 28), type := _, pos := _, after := _, guard := none }) rfl (fun K hK => ?_) AllReadyH.nil
          go_simp
          refine hK.out _ _ trivial (fun _ => ?_)
          clear hK K
          (try simp only [Act.put])
          refine wpAnyH_done (by kernel_rfl) ?_ _
          go_wp2
          go_roundg (gk - 1)
          case measure => have := HK.out; omega
          case rel => exact ⟨k + 1, _, ss ++ [s], rest2, by have := HK.out; omega, by go_num, by show slotsR (k + 1) r2 = _; unfold slotsR; rw [HS.out]; simp only [E3.out], HR3⟩
        · go_simp
          have HG2 : Hid (Rg T w (V.alloc (.cells #[.string (str s.salt), .int .i64 s.rounds, .string (str s.wrapped)] 26)) g idS (.slice av k cv) ss rest2) := HGV.out.over ((Below.refl _ _).alloc (Nat.le_refl _) _)
          have q2 := HG2.out.cell.1
          have hnew : Hid (∀ (j : Nat) u, (slotCells s)[j]? = some u → (V.alloc (.cells #[.string (str s.salt), .int .i64 s.rounds, .string (str s.wrapped)] 26)).cell? (Addr.add ⟨V.heap.size, 0, none⟩ j) = some u) := fun j u h => cells_new V #[.string (str s.salt), .int .i64 s.rounds, .string (str s.wrapped)] 26 j u (by simpa [slotCells] using h)
          refine hK.out _ _ trivial (fun _ => ?_)
          clear hK K
          (try simp only [Act.put, List.setIfInBounds_toArray, List.set_cons_zero, List.set_cons_succ])
          revert HG2 q2 hnew
          clear HGV r1
          generalize V.alloc (.cells #[.string (str s.salt), .int .i64 s.rounds, .string (str s.wrapped)] 26) = V2
          generalize V.heap.size = h
          intro HGV r1 hnew
          revert HGV r1 hnew
          generalize V2 = V
          intro HGV r1 hnew
          refine wpAnyH_ready (rs := [1]) (by kernel_rfl) (by simp) ?_
          refine AllReadyH.cons (o := { dst := some 24, op := .load 22 (.tmp 23), type := _, pos := _, after := _, guard := none }) rfl (fun K hK => ?_) AllReadyH.nil
          go_simp
          refine hK.out _ _ trivial (fun _ => ?_)
          clear hK K
          (try simp only [Act.put, List.setIfInBounds_toArray, List.set_cons_zero, List.set_cons_succ])
          refine wpAnyH_ready (rs := [5]) (by kernel_rfl) (by simp) ?_
          refine AllReadyH.cons (o := { dst := some 28, op := .call { callee := .builtin .append, args := #[.tmp 24, .tmp 27], argTypes := #[22, 22] }, type := _, pos := _, after := _, guard := none }) rfl (fun K hK => ?_) AllReadyH.nil
          refine step_append_own rfl (.tmp 24) (.tmp 27) 22 rfl (g + 1) 26 i0 (.agg #[.string { data := #[] }, .int .i64 0, .string { data := #[] }]) 3 40 Tryd.underlying22 hi hz0 hz1 hz2 rfl (by decide) (.slice av k cv) k (ringCells ss) (by simp [Act.eval]) (by have h1 := HGV.out.own; unfold OwnS at h1; rw [hssk] at h1; exact h1) ⟨h, 0, none⟩ 1 1 (slotCells s) (by simp [Act.eval]) rfl hnew.out (HONE.out s) (by unfold maxLen; omega) (by omega) (by have := HGV.out.gw; omega) ?_
          intro v2 W2 hown2 hgw2
          obtain ⟨av2, cv2, rfl⟩ := owns_len hown2
          have H3 := HGV.out.grown (s := s) hgw2 (by rw [hssk]; exact hown2)
          have s1 := H3.1
          have s2 := H3.2.1
          have HR3 : Hid (Rg T w (W2.setCell ⟨g, 1, none⟩ (.slice av2 (k + 1) cv2)) g idS (.slice av2 (k + 1) cv2) (ss ++ [s]) rest2) := H3.2.2
          clear H3 hown2 hgw2 hnew HGV r1
          refine hK.out _ _ trivial (fun _ => ?_)
          clear hK K
          (try simp only [Act.put, List.setIfInBounds_toArray, List.set_cons_zero, List.set_cons_succ])
          refine wpAnyH_take (i := 6) (oi := { dst := some 29, op := .fieldAddr 24 (.tmp 4) 1, type := _, pos := _, after := _, guard := none }) (v := .pointer (some ⟨g, 1, none⟩)) rfl (by kernel_rfl) (by kernel_rfl) (by kernel_rfl) (fun _ _ _ h => h) (Or.inl ⟨by rfl, by intro x _; go_simp⟩) hS ?_
          (try simp only [Act.put, List.setIfInBounds_toArray, List.set_cons_zero, List.set_cons_succ])
          refine wpAnyH_ready (rs := [7]) (by kernel_rfl) (by simp) ?_
          refine AllReadyH.cons (o := { dst := none, op := .store 22 (.tmp 29) (.tmp 28), type := _, pos := _, after := _, guard := none }) rfl (fun K hK => ?_) AllReadyH.nil
          go_simp
          refine hK.out _ _ trivial (fun _ => ?_)
          clear hK K
          (try simp only [Act.put])
          refine wpAnyH_done (by kernel_rfl) ?_ _
          go_wp2
          go_roundg (gk - 1)
          case measure => have := HK.out; omega
          case rel => exact ⟨k + 1, _, ss ++ [s], rest2, by have := HK.out; omega, by go_num, by show slotsR (k + 1) r2 = _; unfold slotsR; rw [HS.out]; simp only [E3.out], HR3⟩
    · obtain rfl : k = n := by omega
      have hltI : ¬ ((k : Int) < (k : Int)) := by omega
      obtain ⟨pre, hpre, hh⟩ := HG.out.rd
      have c5 := done_any (w.heap.size + 1) T pre rest wr hpre hh
      have HPRE : Hid (T = pre ++ rest) := hpre
      clear hh hpre
      go_wp2_with fail
      refine c5.mono ?_
      clear c5
      rintro e w5 ⟨rfl, hb5⟩
      have HG5 : Hid _ := HG.out.over hb5
      clear HG hb5
      have c6 := HC3.out w5 rest HG5.out.rd
      obtain ⟨preS, hpS⟩ : ∃ y, str pre = y := ⟨_, rfl⟩
      have HPS : Hid (str pre = preS) := hpS
      rw [hpS]
      clear hpS
      go_wp2_with fail
      refine c6.mono ?_
      clear c6
      rintro e w6 ⟨ho6, hm6⟩
      cases e4 : fieldR (kSum ++ [32]) bytR [10] rest with
      | none =>
        rw [e4] at hm6
        obtain rfl : e = .panicked [{ v := faultV 70, recovered := false }] := hm6
        refine ⟨rfl, RingPost.form (HG5.out.bel.trans (ho6.below HG5.out.bel.size (by simp))) ?_⟩
        unfold ringR
        rw [E0.out]
        simp only [E1.out, E2.out, HS.out, e4]
      | some x4 =>
      obtain ⟨sum, r4⟩ := x4
      rw [e4] at hm6
      obtain ⟨rfl, hr6⟩ : e = .returned (.string (str sum)) ∧ Rd w6 (w.heap.size + 1) T r4 := hm6
      have HG6 : Hid _ := HG5.out.reads ho6 hr6
      clear HG5 ho6 hr6
      have c7 := end_any (w.heap.size + 1) T r4 w6 HG6.out.rd
      obtain ⟨sumS, hsS⟩ : ∃ y, str sum = y := ⟨_, rfl⟩
      have HSS : Hid (str sum = sumS) := hsS
      rw [hsS]
      clear hsS
      go_wp2_with fail
      refine c7.mono ?_
      clear c7
      rintro e w7 ⟨ho7, hm7⟩
      by_cases hr4 : r4 = []
      · subst hr4
        rw [if_pos rfl] at hm7
        obtain ⟨rfl, hr7⟩ : e = .returned (.tuple #[]) ∧ Rd w7 (w.heap.size + 1) T [] := hm7
        have HG7 : Hid _ := HG6.out.reads ho7 hr7
        clear HG6 ho7 hr7
        have hform : Kr.Form T id ss sum := (ringR_iff _ _ _ _).1 (by
          unfold ringR
          rw [E0.out]
          simp only [E1.out, E2.out, HS.out, e4, if_true])
        have hpt : pre = textL id ss := by
          obtain ⟨q4, hq4, hy4⟩ := (field_iff _ _ _ _ _ _).1 e4
          obtain ⟨rfl, _⟩ := (byt_iff _ _ _).1 hy4
          have h1 := hform.1
          rw [HPRE.out, hq4] at h1
          have h2 : wholeL id ss sum = textL id ss ++ (kSum ++ [32] ++ (hexL sum ++ ([10] ++ []))) := by simp [wholeL, sumLine, unwords]
          rw [h2] at h1
          exact List.append_cancel_right h1
        have HFm : Hid (Kr.Form T id ss sum) := hform
        have HPT : Hid (str (textL id ss) = preS) := by rw [← hpt]; exact HPS.out
        clear e4 hform hpt HPRE HPS
        have hidl : id.length ≤ T.length := by
          obtain ⟨q1, h1, hy1⟩ := (field_iff _ _ _ _ _ _).1 E1.out
          obtain ⟨rfl, _⟩ := (byt_iff _ _ _).1 hy1
          have h0 := (fix_iff _ _ _).1 E0.out
          have := congrArg List.length h0
          rw [h1] at this
          simp only [List.length_append, hexL_length] at this
          omega
        have hpl : preS.size ≤ T.length := by
          rw [← HPT.out, str_size, HFm.out.1, wholeL, List.length_append]
          omega
        have c8 := sum_one preS w7 (ht.below HG7.out.bel (by omega)) (by have := HG7.out.bel.size; omega) (by omega)
        have hpd : preS.data.toList = textL id ss := by rw [← HPT.out, str_data]
        rw [hpd] at c8
        clear hpd hpl
        obtain ⟨yS, hyS⟩ : ∃ y, str (shaL (textL id ss)) = y := ⟨_, rfl⟩
        have HY : Hid (str (shaL (textL id ss)) = yS) := hyS
        rw [hyS] at c8
        clear hyS
        go_wp2_with fail
        refine c8.mono ?_
        clear c8
        rintro e w8 ⟨rfl, hb8⟩
        have HG8 : Hid _ := HG7.out.over hb8
        clear HG7 hb8
        by_cases hs : sum = shaL (textL id ss)
        · have e5 : sumS = yS := by rw [← HSS.out, ← HY.out, hs]
          subst e5
          have g1 := HG8.out.cell.1
          have g0 := HG8.out.cell.2.1
          have c9 := isRing_any id (.slice av k cv) ss w8 (SeeS.of_own HG8.out.own) (by omega) (by omega)
          rw [HID.out] at c9
          cases hri : rightR id ss with
          | false =>
            obtain ⟨z1, _⟩ := parse_field HFm.out hs hri
            have HZ : Hid (parseE T = 72) := z1
            rw [hri] at c9
            clear z1
            go_wp2_with fail
            refine c9.mono ?_
            clear c9
            rintro e w9 ⟨rfl, hb9⟩
            have HB9 : Hid _ := HG8.out.bel.trans (hb9.mono HG8.out.bel.size)
            clear hb9
            go_wp2_with fail
            refine (throw_any 72 _).mono ?_
            rintro e w' ⟨rfl, rfl⟩
            exact ⟨rfl, HB9.out, .inr ⟨by rw [HZ.out]; decide, by rw [HZ.out]⟩⟩
          | true =>
            obtain ⟨z1, z2, z3⟩ := parse_yes HFm.out hs hri
            have HZ : Hid (parseE T = 0 ∧ parseI T = id ∧ parseS T = ss) := ⟨z1, z2, z3⟩
            rw [hri] at c9
            clear z1 z2 z3
            go_wp2_with fail
            refine c9.mono ?_
            clear c9
            rintro e w9 ⟨rfl, hb9⟩
            have HG9 : Hid _ := HG8.out.over hb9
            clear hb9 g0 g1
            have g1 := HG9.out.cell.1
            have g0 := HG9.out.cell.2.1
            have hres := HG9.out.res
            have f0 : w9.frozen? ⟨w.heap.size, 0, none⟩ = false := frozen_of_heap hres
            have f1 : w9.frozen? ⟨w.heap.size, 1, none⟩ = false := frozen_of_heap hres
            have q0 : w9.cell? ⟨w.heap.size, 0, none⟩ = some (.string { data := #[] }) := (cell_of_heap hres).trans rfl
            have q1 : w9.cell? ⟨w.heap.size, 1, none⟩ = some (.slice none 0 0) := (cell_of_heap hres).trans rfl
            have HRS : Hid _ := hres
            clear hres
            go_wp2
            refine bodyPost_ret (results_cell1 rfl _ _ w.heap.size 24 _ (0, 0) _ rfl (put2 HRS.out) Tryd.underlying24 rfl sizeRing) rfl ?_
            have hgl3 := HG9.out.gl
            refine ⟨(HG9.out.bel.setCell (Nat.le_refl _) _).setCell (Nat.le_refl _) _, .inl ⟨HZ.out.1, av, k, cv, ?_, ?_⟩⟩
            · rw [HZ.out.2.1, HID.out]
            · rw [HZ.out.2.2]
              exact owns_mono (owns_set (owns_set HG9.out.own (by show w.heap.size < g + 1; omega)) (by show w.heap.size < g + 1; omega)) (by omega)
        · obtain ⟨z1, _⟩ := parse_check HFm.out hs
          have HZ : Hid (parseE T = 71) := z1
          have hne : ¬ sumS.toList = yS.toList := fun e => hs (by
            rw [← HSS.out, ← HY.out, str_toList, str_toList] at e
            exact e)
          have hnb : (sumS.toList == yS.toList) = false := beq_eq_false_iff_ne.2 hne
          clear z1 hs
          go_wp2_with fail
          refine (throw_any 71 _).mono ?_
          rintro e w' ⟨rfl, rfl⟩
          exact ⟨rfl, HG8.out.bel, .inr ⟨by rw [HZ.out]; decide, by rw [HZ.out]⟩⟩
      · rw [if_neg hr4] at hm7
        obtain rfl : e = .panicked [{ v := faultV 70, recovered := false }] := hm7
        refine ⟨rfl, RingPost.form (HG6.out.bel.trans (ho7.below HG6.out.bel.size (by simp))) ?_⟩
        unfold ringR
        rw [E0.out]
        simp only [E1.out, E2.out, HS.out, e4, if_neg hr4]

end Go.Proofs.YtbjiamaaocjbfaaDoor.Kp
