import Derived.Test.YthmjjpaengackaaPoH
namespace Go.Proofs.Ythmjjpaengackaa.Po
open Go.RowKit Go.Lib Go.Deep

theorem cell_setCell_block {w : World} {a : Addr} {b j : Nat} {v : Value} (h : b ≠ a.block) : (w.setCell a v).cell? ⟨b, j, none⟩ = w.cell? ⟨b, j, none⟩ := by
  unfold World.cell?
  rw [show (w.setCell a v).heap[(⟨b, j, none⟩ : Addr).block]? = w.heap[(⟨b, j, none⟩ : Addr).block]? from Below.heap_setCell _ _ _ _ h]
theorem frozen_setCell_block {w : World} {a : Addr} {b j : Nat} {v : Value} (h : b ≠ a.block) : (w.setCell a v).frozen? ⟨b, j, none⟩ = w.frozen? ⟨b, j, none⟩ := by
  unfold World.frozen?
  rw [show (w.setCell a v).heap[(⟨b, j, none⟩ : Addr).block]? = w.heap[(⟨b, j, none⟩ : Addr).block]? from Below.heap_setCell _ _ _ _ h]
theorem Rin.row {w : World} {q h g cap i : Nat} {A : Array Value} {room Q : List Nat} (hR : Rin w q A (.slice (some ⟨g, 0, none⟩) room.length cap) room h Q) {n : Nat} (hi : room[i]? = some n) : w.cell? ⟨g, i, none⟩ = some (.int .i64 (n : Int)) ∧ w.frozen? ⟨g, i, none⟩ = false := by
  have hl := some_lt hi
  refine ⟨?_, hR.hm.frozenAt i⟩
  rw [hR.hm.cellAt i (by omega)]
  unfold nsC
  rw [List.getElem?_map, hi]
  rfl
set_option maxRecDepth 20000 in
set_option maxHeartbeats 1000000 in
theorem rpop_any (w : World) (q h a : Nat) (A : Array Value) (mv : Value) (room Q : List Nat) (hR : Rin w q A mv room h (a :: Q)) (hr : Rng room h (a :: Q)) (hl : room.length ≤ 200000) :
    Calls Try.prog 53 #[.pointer (some ⟨q, 4, none⟩)] w fun e w' => e = .returned (.tuple #[.int .i64 (a : Int), .bool true]) ∧ Rto w w' q A mv room ((h + 1) % room.length) Q mv := by
  obtain ⟨hh, hra, hr2⟩ := hr.pop
  obtain ⟨g, cap, rfl⟩ := owns_form2 hR.hm (by omega)
  have hne : g ≠ q := hR.qm rfl
  obtain ⟨c4, c5, c6, fz⟩ := hR.cells
  obtain ⟨r0, -⟩ := hR.row hra
  have hcn : ((a :: Q).length : Int) = (Q.length : Int) + 1 := by simp
  rw [hcn] at c6
  have HR : Hid (∀ V, Below w.heap.size w V → V.cell? ⟨q, 4, none⟩ = some (.slice (some ⟨g, 0, none⟩) room.length cap) ∧ V.cell? ⟨q, 5, none⟩ = some (.int .i64 (h : Int)) ∧ V.cell? ⟨q, 6, none⟩ = some (.int .i64 ((Q.length : Int) + 1)) ∧ ∀ j, V.frozen? ⟨q, j, none⟩ = false) := fun V hb => by
    have := (hR.below hb).cells
    rw [hcn] at this
    exact this
  have h0 : (((Q.length : Int) + 1) == 0) = false := beq_false_of_ne (by omega)
  have B0 : Hid (∀ j, Below w.heap.size w (w.drewN j)) := fun j => bdr (Below.refl _ _) j
  have hlt : (h : Int) < (room.length : Int) := by omega
  obtain ⟨h', hh'⟩ : ∃ h', (h + 1) % room.length = h' := ⟨_, rfl⟩
  rw [hh']
  have hmd : ((h : Int) + 1) % (room.length : Int) = (h' : Int) := by rw [← hh']; simp
  have hsz := hR.sz
  have w4 : wrap64 (Q.length : Int) = (Q.length : Int) := by have := hr.le; simp at this; unfold wrap64; omega
  have HC6 : Hid (∀ V, Below w.heap.size w V → (V.setCell ⟨q, 5, none⟩ (.int .i64 (h' : Int))).cell? ⟨q, 6, none⟩ = some (.int .i64 ((Q.length : Int) + 1)) ∧ (V.setCell ⟨q, 5, none⟩ (.int .i64 (h' : Int))).frozen? ⟨q, 6, none⟩ = false) := fun V hb => by
    have k := heap_setCell_fr _ q 5 _ _ _ (.int .i64 (h' : Int)) (hR.below hb).hq
    refine ⟨(cell_of_heap k).trans ?_, frozen_of_heap k⟩
    rw [Array.getElem?_setIfInBounds_ne (by decide), hR.c6, hcn]
  have HE : Hid (∀ V, Below w.heap.size w V → Rto w ((V.setCell ⟨q, 5, none⟩ (.int .i64 (h' : Int))).setCell ⟨q, 6, none⟩ (.int .i64 (Q.length : Int))) q A (.slice (some ⟨g, 0, none⟩) room.length cap) room h' Q (.slice (some ⟨g, 0, none⟩) room.length cap)) := fun V hb => by
    have hV := hR.below hb
    refine ⟨?_, owns_keep hV.hm fun k hk => ?_, ?_, fun k hk => .inl hk⟩
    · refine (heap_setCell_fr _ _ _ _ _ _ _ (heap_setCell_fr _ _ _ _ _ _ _ hV.hq)).trans ?_
      unfold rngA
      rw [set_same hR.c4]
    · have hkq := hV.qm hk
      exact (heap_setCell_other _ _ _ _ hkq).trans (heap_setCell_other _ _ _ _ hkq)
    · have hO : Only (q :: (Value.slice (some ⟨g, 0, none⟩) room.length cap).ownBlock.toList) w V := ⟨hb.os, hb.tape, hb.output, hb.size, fun k hk _ => hb.block k hk⟩
      exact (hO.setCell (p := ⟨q, 5, none⟩) (by simp) _).setCell (p := ⟨q, 6, none⟩) (by simp) _
  clear hR hr hr2 hh' hcn
  generalize room.length = M at *
  generalize Q.length = N at *
  go_enter Try.func53, Try.ntmps53
  go_wp2_with fail
  go_quiet (fail)
  refine with_world (Q := fun V => Below w.heap.size w V) _ (B0.out _) ?_
  intro V hV
  have hRd := HR.out V.drew hV.drew
  obtain ⟨d4, d5, d6, fd⟩ := hRd
  have HB : Hid (Below w.heap.size w V.drew) := hV.drew
  clear c4 c5 c6 fz hV
  have PW : Hid ((V.drew.setCell ⟨q, 5, none⟩ (.int .i64 (h' : Int))).cell? ⟨q, 6, none⟩ = some (.int .i64 ((N : Int) + 1)) ∧ (V.drew.setCell ⟨q, 5, none⟩ (.int .i64 (h' : Int))).frozen? ⟨q, 6, none⟩ = false ∧ Hid (Rto w ((V.drew.setCell ⟨q, 5, none⟩ (.int .i64 (h' : Int))).setCell ⟨q, 6, none⟩ (.int .i64 (N : Int))) q A (.slice (some ⟨g, 0, none⟩) M cap) room h' Q (.slice (some ⟨g, 0, none⟩) M cap))) := ⟨(HC6.out _ HB.out).1, (HC6.out _ HB.out).2, HE.out _ HB.out⟩
  have f5 := fd 5
  clear fd
  go_wp2_with fail
  go_region
  all_goals
    refine with_world (Q := fun U => U.cell? ⟨q, 6, none⟩ = some (.int .i64 ((N : Int) + 1)) ∧ U.frozen? ⟨q, 6, none⟩ = false ∧ Hid (Rto w (U.setCell ⟨q, 6, none⟩ (.int .i64 (N : Int))) q A (.slice (some ⟨g, 0, none⟩) M cap) room h' Q (.slice (some ⟨g, 0, none⟩) M cap))) _ PW.out ?_
    rintro U ⟨u6, uf, hRU⟩
    clear d4 d5 d6 f5 PW
    go_wp2
    go_ret2
    exact ⟨rfl, hRU.out⟩
set_option maxRecDepth 20000 in
theorem rpop0_any (w : World) (q h : Nat) (A : Array Value) (mv : Value) (room : List Nat) (hR : Rin w q A mv room h []) :
    Calls Try.prog 53 #[.pointer (some ⟨q, 4, none⟩)] w fun e w' => e = .returned (.tuple #[.int .i64 0, .bool false]) ∧ w' = w := by
  obtain ⟨c4, c5, c6, fz⟩ := hR.cells
  clear hR
  go_enter Try.func53, Try.ntmps53
  go_wp2
  go_ret2
  exact ⟨rfl, rfl⟩
/-- a number laid into a ring that has room -/
theorem Rin.laid {w V : World} {q h g cap : Nat} {A A0 : Array Value} {mv0 : Value} {room Q : List Nat} (hR : Rin V q A (.slice (some ⟨g, 0, none⟩) room.length cap) room h Q) (hA : rngA A (.slice (some ⟨g, 0, none⟩) room.length cap) h (Q.length + 1) = rngA A0 (.slice (some ⟨g, 0, none⟩) room.length cap) h (Q.length + 1)) (ho : Only (q :: mv0.ownBlock.toList) w V) (hg : mv0.ownBlock = some g ∨ w.heap.size ≤ g) (i n : Nat) :
    Rto w ((V.setCell ⟨g, i, none⟩ (.int .i64 (n : Int))).setCell ⟨q, 6, none⟩ (.int .i64 ((Q.length + 1 : Nat) : Int))) q A0 (.slice (some ⟨g, 0, none⟩) room.length cap) (room.set i n) h (Q ++ [n]) mv0 := by
  have hgq := hR.qm (g := g) rfl
  have hst := hR.hm.stored i (.int .i64 (n : Int))
  refine ⟨?_, ?_, ?_, fun k hk => ?_⟩
  · refine (heap_setCell_fr _ _ _ _ _ _ _ ((heap_setCell_other _ _ _ _ (fun e => hgq e.symm)).trans hR.hq)).trans ?_
    rw [show (Q ++ [n]).length = Q.length + 1 by simp, ← hA]
    unfold rngA
    rw [set_same hR.c4, set_same hR.c5]
  · refine owns_keep ?_ fun k hk => heap_setCell_other _ _ _ _ (fun e => hgq ?_)
    · rw [List.length_set]
      have h2 := hst.1
      rw [show (nsC room).set i (.int .i64 (n : Int)) = nsC (room.set i n) by unfold nsC; rw [List.map_set]] at h2
      exact h2
    · simp [Value.ownBlock] at hk
      exact hk.trans e
  · refine Only.setCell (p := ⟨q, 6, none⟩) ?_ (by simp) _
    refine only_grown ho hst.2 fun k hk => ?_
    injection hk with hk
    subst hk
    rcases hg with h1 | h1
    · left; rw [h1]; simp
    · exact .inr h1
  · simp [Value.ownBlock] at hk
    subst hk
    exact hg
set_option maxRecDepth 20000 in
set_option maxHeartbeats 1000000 in
theorem rpush_any (w : World) (q h n : Nat) (A : Array Value) (mv : Value) (room Q : List Nat) (hR : Rin w q A mv room h Q) (hr : Rng room h Q) (hl : room.length ≤ 200000) :
    Calls Try.prog 52 #[.pointer (some ⟨q, 4, none⟩), .int .i64 (n : Int)] w fun e w' => e = .returned (.tuple #[]) ∧ ∃ mv' room' h', Rto w w' q A mv' room' h' (Q ++ [n]) mv ∧ Rng room' h' (Q ++ [n]) ∧ room'.length ≤ max room.length (2 * Q.length + 1) := by
  have hle := hr.le
  have B0 : Hid (∀ j, Below w.heap.size w (w.drewN j)) := fun j => bdr (Below.refl _ _) j
  obtain ⟨c4, c5, c6, fz⟩ := hR.cells
  by_cases hfull : Q.length < room.length
  · obtain ⟨g, cap, rfl⟩ := owns_form2 hR.hm (by omega)
    have hgq : g ≠ q := hR.qm rfl
    have hne : ((Q.length : Int) == (room.length : Int)) = false := beq_false_of_ne (by omega)
    have hh : h < room.length := by
      rcases hr.hm with x | ⟨x, y⟩
      · exact x
      · rw [x] at hfull; simp at hfull
    obtain ⟨i, hi⟩ : ∃ i, (h + Q.length) % room.length = i := ⟨_, rfl⟩
    have hil : i < room.length := by rw [← hi]; exact Nat.mod_lt _ (by omega)
    have hmd : ((h : Int) + (Q.length : Int)) % (room.length : Int) = (i : Int) := by rw [← hi]; simp
    have hiI : (i : Int) < (room.length : Int) := by omega
    have w1 : IntKind.i64.wrap ((h : Int) + (Q.length : Int)) = (h : Int) + (Q.length : Int) := by rw [IntKind.wrap_i64]; omega
    have w2 : IntKind.i64.wrap ((Q.length : Int) + 1) = ((Q.length + 1 : Nat) : Int) := by rw [IntKind.wrap_i64]; omega
    have hm0 : ¬ (room.length : Int) = 0 := by omega
    have HE : Hid (∀ V, Below w.heap.size w V → ∃ mv' room' h', Rto w ((V.setCell ⟨g, i, none⟩ (.int .i64 (n : Int))).setCell ⟨q, 6, none⟩ (.int .i64 ((Q.length + 1 : Nat) : Int))) q A mv' room' h' (Q ++ [n]) (.slice (some ⟨g, 0, none⟩) room.length cap) ∧ Rng room' h' (Q ++ [n]) ∧ room'.length ≤ max room.length (2 * Q.length + 1)) := fun V hb => by
      refine ⟨_, _, _, (hR.below hb).laid rfl ⟨hb.os, hb.tape, hb.output, hb.size, fun k hk _ => hb.block k hk⟩ (.inl rfl) i n, ?_, by rw [List.length_set]; omega⟩
      rw [← hi]
      exact hr.push hfull n
    have HR : Hid (∀ V, Below w.heap.size w V → V.cell? ⟨q, 4, none⟩ = some (.slice (some ⟨g, 0, none⟩) room.length cap) ∧ V.cell? ⟨q, 5, none⟩ = some (.int .i64 (h : Int)) ∧ V.cell? ⟨q, 6, none⟩ = some (.int .i64 (Q.length : Int)) ∧ V.frozen? ⟨q, 6, none⟩ = false ∧ (∃ y : Int, V.cell? ⟨g, i, none⟩ = some (.int .i64 y)) ∧ V.frozen? ⟨g, i, none⟩ = false) := fun V hb => by
      have x := hR.below hb
      obtain ⟨y1, y2⟩ := x.row (List.getElem?_eq_getElem hil)
      exact ⟨x.cells.1, x.cells.2.1, x.cells.2.2.1, x.cells.2.2.2 6, ⟨_, y1⟩, y2⟩
    clear hR hr hle hi hil hh hfull fz hl
    generalize room.length = M at *
    generalize hN : Q.length = N at *
    generalize hN1 : N + 1 = N1 at *
    go_enter Try.func52, Try.ntmps52
    go_wp2_with fail
    go_quiet (fail)
    refine with_world (Q := fun V => Below w.heap.size w V) _ (B0.out _) ?_
    intro V hV
    have HB : Hid (Below w.heap.size w V.drew) := hV.drew
    obtain ⟨d4, d5, d6, f6, ⟨y, dg⟩, fg⟩ := HR.out V.drew hV.drew
    clear c4 c5 c6 hV
    have PW : Hid ((V.drew.setCell ⟨g, i, none⟩ (.int .i64 (n : Int))).cell? ⟨q, 6, none⟩ = some (.int .i64 (N : Int)) ∧ (V.drew.setCell ⟨g, i, none⟩ (.int .i64 (n : Int))).frozen? ⟨q, 6, none⟩ = false ∧ Hid (∃ mv' room' h', Rto w ((V.drew.setCell ⟨g, i, none⟩ (.int .i64 (n : Int))).setCell ⟨q, 6, none⟩ (.int .i64 (N1 : Int))) q A mv' room' h' (Q ++ [n]) (.slice (some ⟨g, 0, none⟩) M cap) ∧ Rng room' h' (Q ++ [n]) ∧ room'.length ≤ max M (2 * N + 1))) := ⟨(cell_setCell_block (fun e => hgq e.symm)).trans d6, (frozen_setCell_block (fun e => hgq e.symm)).trans f6, HE.out _ HB.out⟩
    go_wp2_with fail
    go_region
    all_goals
      refine with_world (Q := fun U => U.cell? ⟨q, 6, none⟩ = some (.int .i64 (N : Int)) ∧ U.frozen? ⟨q, 6, none⟩ = false ∧ Hid (∃ mv' room' h', Rto w (U.setCell ⟨q, 6, none⟩ (.int .i64 (N1 : Int))) q A mv' room' h' (Q ++ [n]) (.slice (some ⟨g, 0, none⟩) M cap) ∧ Rng room' h' (Q ++ [n]) ∧ room'.length ≤ max M (2 * N + 1))) _ PW.out ?_
      rintro U ⟨u6, uf, hRU⟩
      clear d4 d5 d6 f6 PW dg fg
      go_wp2
      go_end0
      exact ⟨rfl, hRU.out⟩
  · have hfu : Q.length = room.length := by omega
    have heq : ((Q.length : Int) == (room.length : Int)) = true := by rw [hfu]; exact beq_self_eq_true _
    have hrun := fun (V : World) (hb : Below w.heap.size w V) => grow2_any V q h A mv room Q (hR.below hb) hr hl
    have HX : Hid (∀ V w2 mv', Below w.heap.size w V → Rto V w2 q A mv' (Q ++ List.replicate (room.length + 1) 0) 0 Q mv → ∃ g cap, mv' = .slice (some ⟨g, 0, none⟩) (2 * Q.length + 1) cap ∧ g ≠ q ∧ w2.cell? ⟨q, 4, none⟩ = some mv' ∧ w2.cell? ⟨q, 5, none⟩ = some (.int .i64 0) ∧ w2.cell? ⟨q, 6, none⟩ = some (.int .i64 (Q.length : Int)) ∧ w2.frozen? ⟨q, 6, none⟩ = false ∧ (∃ y : Int, w2.cell? ⟨g, Q.length, none⟩ = some (.int .i64 y)) ∧ w2.frozen? ⟨g, Q.length, none⟩ = false ∧
        ∀ U : World, U.heap = w2.heap → U.os = w2.os → U.tape = w2.tape → U.output = w2.output → ∃ mv' room' h', Rto w ((U.setCell ⟨g, Q.length, none⟩ (.int .i64 (n : Int))).setCell ⟨q, 6, none⟩ (.int .i64 ((Q.length + 1 : Nat) : Int))) q A mv' room' h' (Q ++ [n]) mv ∧ Rng room' h' (Q ++ [n]) ∧ room'.length ≤ max room.length (2 * Q.length + 1)) := fun V w2 mv' hb hT => by
      have hlen : (Q ++ List.replicate (room.length + 1) 0).length = 2 * Q.length + 1 := by simp; omega
      obtain ⟨g, cap, rfl⟩ := owns_form2 hT.hm (by rw [hlen]; omega)
      have hsz := hR.sz
      have hR2 : Rin w2 q (rngA A (.slice (some ⟨g, 0, none⟩) (Q ++ List.replicate (room.length + 1) 0).length cap) 0 Q.length) (.slice (some ⟨g, 0, none⟩) (Q ++ List.replicate (room.length + 1) 0).length cap) (Q ++ List.replicate (room.length + 1) 0) 0 Q := ⟨hT.hq, by unfold rngA; simpa using hsz, by unfold rngA; simp [hsz], by unfold rngA; simp [hsz], by unfold rngA; simp [hsz], hT.hm⟩
      have hrg := rng_grown Q (room.length + 1) (by omega)
      have hpu := hrg.push (by rw [hlen]; omega) n
      have hidx : (0 + Q.length) % (Q ++ List.replicate (room.length + 1) 0).length = Q.length := by rw [Nat.zero_add, hlen]; exact Nat.mod_eq_of_lt (by omega)
      rw [hidx] at hpu
      obtain ⟨y1, y2⟩ := hR2.row (i := Q.length) (List.getElem?_eq_getElem (by rw [hlen]; omega))
      refine ⟨g, cap, by rw [hlen], hR2.qm rfl, hR2.cells.1, hR2.cells.2.1, hR2.cells.2.2.1, hR2.cells.2.2.2 6, ⟨_, y1⟩, y2, fun U e1 e2 e3 e4 => ?_⟩
      have hbU : Below w2.heap.size w2 U := ⟨e2, e3, e4, by rw [e1]; exact Nat.le_refl _, fun k _ => by rw [e1]⟩
      have hRU := hR2.below hbU
      have hO : Only (q :: mv.ownBlock.toList) w U := by
        refine Only.trans (b := w2) (Only.trans (b := V) ⟨hb.os, hb.tape, hb.output, hb.size, fun k hk _ => hb.block k hk⟩ hT.ho) ⟨e2, e3, e4, by rw [e1]; exact Nat.le_refl _, fun k _ _ => by rw [e1]⟩
      have hgg : mv.ownBlock = some g ∨ w.heap.size ≤ g := by
        rcases hT.hb g rfl with h1 | h1
        · exact .inl h1
        · exact .inr (Nat.le_trans hb.size h1)
      refine ⟨_, _, _, hRU.laid (A0 := A) ?_ hO hgg Q.length n, hpu, by rw [List.length_set, hlen]; omega⟩
      unfold rngA
      apply Array.ext_getElem?
      intro j
      simp only [Array.getElem?_setIfInBounds, Array.size_setIfInBounds, hsz]
      repeat' split
      all_goals first | rfl | omega
    have hmd : (Q.length : Int) % ((2 * Q.length + 1 : Nat) : Int) = (Q.length : Int) := Int.emod_eq_of_lt (by omega) (by omega)
    have hiI : (Q.length : Int) < ((2 * Q.length + 1 : Nat) : Int) := by omega
    have hm0 : ¬ ((2 * Q.length + 1 : Nat) : Int) = 0 := by omega
    have w2 : IntKind.i64.wrap ((Q.length : Int) + 1) = ((Q.length + 1 : Nat) : Int) := by rw [IntKind.wrap_i64]; omega
    have w3 : IntKind.i64.wrap (Q.length : Int) = (Q.length : Int) := by rw [IntKind.wrap_i64]; omega
    have HRUN : Hid _ := hrun
    obtain ⟨am, cm, rfl⟩ := owns_form hR.hm
    clear hR hr hle fz hl hrun hfull
    generalize hM2 : 2 * Q.length + 1 = M2 at *
    generalize hM : room.length = M at *
    generalize hN : Q.length = N at *
    generalize hN1 : N + 1 = N1 at *
    clear hM hM2 hN hN1 hfu
    go_enter Try.func52, Try.ntmps52
    go_wp2_with fail
    go_quiet (fail)
    refine with_world (Q := fun V => Below w.heap.size w V) _ (B0.out _) ?_
    intro V hV
    go_wp2_with fail
    refine (HRUN.out V hV).mono ?_
    rintro e w2 ⟨rfl, mv', hT⟩
    obtain ⟨g, cap, rfl, hgq, d4, d5, d6, f6, ⟨y, dg⟩, fg, hE⟩ := HX.out V w2 mv' hV hT
    have HE : Hid _ := hE w2.drew rfl rfl rfl rfl
    have PW : Hid ((w2.drew.setCell ⟨g, N, none⟩ (.int .i64 (n : Int))).cell? ⟨q, 6, none⟩ = some (.int .i64 (N : Int)) ∧ (w2.drew.setCell ⟨g, N, none⟩ (.int .i64 (n : Int))).frozen? ⟨q, 6, none⟩ = false ∧ Hid (∃ mv' room' h', Rto w ((w2.drew.setCell ⟨g, N, none⟩ (.int .i64 (n : Int))).setCell ⟨q, 6, none⟩ (.int .i64 (N1 : Int))) q A mv' room' h' (Q ++ [n]) (.slice am M cm) ∧ Rng room' h' (Q ++ [n]) ∧ room'.length ≤ max M M2)) := ⟨(cell_setCell_block (fun e => hgq e.symm)).trans d6, (frozen_setCell_block (fun e => hgq e.symm)).trans f6, HE.out⟩
    have d4 : w2.drew.cell? ⟨q, 4, none⟩ = _ := d4
    have d5 : w2.drew.cell? ⟨q, 5, none⟩ = _ := d5
    have d6 : w2.drew.cell? ⟨q, 6, none⟩ = _ := d6
    have f6 : w2.drew.frozen? ⟨q, 6, none⟩ = false := f6
    have dg : w2.drew.cell? ⟨g, N, none⟩ = _ := dg
    have fg : w2.drew.frozen? ⟨g, N, none⟩ = false := fg
    clear hE HE hT hV c4 c5 c6 HX HRUN B0
    go_wp2_with fail
    go_region
    all_goals
      refine with_world (Q := fun U => U.cell? ⟨q, 6, none⟩ = some (.int .i64 (N : Int)) ∧ U.frozen? ⟨q, 6, none⟩ = false ∧ Hid (∃ mv' room' h', Rto w (U.setCell ⟨q, 6, none⟩ (.int .i64 (N1 : Int))) q A mv' room' h' (Q ++ [n]) (.slice am M cm) ∧ Rng room' h' (Q ++ [n]) ∧ room'.length ≤ max M M2)) _ PW.out ?_
      rintro U ⟨u6, uf, hRU⟩
      clear d4 d5 d6 f6 PW dg fg
      go_wp2
      go_end0
      exact ⟨rfl, hRU.out⟩
end Go.Proofs.Ythmjjpaengackaa.Po
