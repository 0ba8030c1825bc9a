import Derived.Test.YtebhmebldemndaaDoorChaH
import Derived.Test.YtebhmebldemndaaDoorChM1
namespace Go.Proofs.YtebhmebldemndaaDoor.Cha
open Go.RowKit Go.Lib Go.Deep

def pad16 (l : List Nat) : List Nat := l ++ List.replicate (16 - l.length) 0
theorem pad16_length (l : List Nat) (h : l.length ≤ 16) : (pad16 l).length = 16 := by simp [pad16]; omega
theorem pad16_full (l : List Nat) (h : l.length = 16) : pad16 l = l := by simp [pad16, h]
theorem pad16_set (l : List Nat) (x : Nat) (h : l.length < 16) : (u32s (pad16 l)).setIfInBounds l.length (.int .u32 (x : Int)) = u32s (pad16 (l ++ [x])) := by
  have e : 16 - l.length = (16 - (l.length + 1)) + 1 := by omega
  simp [u32s, u32L, pad16, e, List.replicate_succ]

/-- what stateOf holds in memory -/
structure Sf (w wr : World) (l : List Nat) : Prop where
  res : ∃ z : Array Value, z.size = 16 ∧ wr.heap[w.heap.size]? = some (.cells z 54 (0, 0))
  own : wr.heap[w.heap.size + 1]? = some (.cells (u32s (pad16 l)) 54 (0, 0))
  bel : Below w.heap.size w wr
theorem Sf.start (w : World) : Sf w ((w.alloc (.cells (u32s (pad16 [])) 54)).alloc (.cells (u32s (pad16 [])) 54)) [] := by
  refine ⟨⟨u32s (pad16 []), rfl, ?_⟩, ?_, ((Below.refl _ _).alloc (Nat.le_refl _) _).alloc (by simp) _⟩
  · rw [Below.heap_alloc _ _ _ (by simp)]
    exact heap_new _ _
  · have h := heap_new (w.alloc (.cells (u32s (pad16 [])) 54)) (.cells (u32s (pad16 [])) 54)
    simpa using h
theorem Sf.put {w wr : World} {l : List Nat} (h : Sf w wr l) (x n : Nat) (hn : l.length = n) (hl : n < 16) : Sf w (wr.setCell ⟨w.heap.size + 1, n, none⟩ (.int .u32 (x : Int))) (l ++ [x]) := by
  subst hn
  obtain ⟨z, hz, hr⟩ := h.res
  refine ⟨⟨z, hz, ?_⟩, ?_, h.bel.setCell (by simp) _⟩
  · rw [← hr]; exact Below.heap_setCell _ _ _ _ (by simp)
  · rw [← pad16_set l x hl]; exact heap_setCell_same _ _ _ _ _ _ h.own
theorem Sf.below {w wr w' : World} {l : List Nat} (h : Sf w wr l) (hb : Below wr.heap.size wr w') : Sf w w' l := by
  obtain ⟨z, hz, hr⟩ := h.res
  exact ⟨⟨z, hz, (hb.block _ (heap_lt hr)).trans hr⟩, (hb.block _ (heap_lt h.own)).trans h.own, h.bel.trans (hb.mono h.bel.size)⟩
theorem Sf.next {w wr : World} {l : List Nat} (h : Sf w wr l) (n : Nat) (hn : l.length = n) (hl : n < 16) : wr.cell? ⟨w.heap.size + 1, n, none⟩ = some (.int .u32 0) := by
  subst hn
  rw [cell_of_heap h.own, u32s_at _ _ (by rw [pad16_length _ (by omega)]; exact hl)]
  have : (pad16 l).getD l.length 0 = 0 := by
    rw [List.getD_eq_getElem?_getD, pad16, List.getElem?_append_right (Nat.le_refl _), Nat.sub_self, List.getElem?_replicate, if_pos (by omega)]
    rfl
  rw [this]
  rfl
theorem Sf.frozen {w wr : World} {l : List Nat} (h : Sf w wr l) (n : Nat) : wr.frozen? ⟨w.heap.size + 1, n, none⟩ = false := frozen_of_heap h.own

theorem index_agg {P : Program} (w : World) (t e : TypeId) (n : Nat) (cs : Array Value) (k kd : IntKind) (i : Nat) (v : Value) (h : P.underlying t = some (.array n e)) (he : P.underlying e = some (.int kd)) (hs : (P.info? e).map (·.size) = some 1)
    (hi : i < n) (hv : cs[i]? = some v) : (Instr.index t (.agg cs) (.int k (i : Int))).run P w = .ok v w := by
  have hagg : (isAgg e).run P w = .ok false w := by
    unfold isAgg
    rw [Sem.run_bind, run_underlying he w]
    rfl
  cases hq : P.info? e with
  | none => simp [hq] at hs
  | some q =>
    have hz : q.size = 1 := by simpa [hq] using hs
    simp [Instr.index, asIntOf, run_underlying h, hi, sizeOf, typeInfo, hq, hz, part, hagg, hv]

theorem size4u : (Tryd.prog.info? 90).map (·.size) = some 4 := by kernel_rfl
theorem con4_take (k : Nat) (h : k < 4) : con4.take (k + 1) = con4.take k ++ [con4.getD k 0] := by
  have : k = 0 ∨ k = 1 ∨ k = 2 ∨ k = 3 := by omega
  rcases this with rfl | rfl | rfl | rfl <;> rfl

set_option maxRecDepth 20000 in
set_option maxHeartbeats 2000000 in
theorem stateOf_any (key last : ByteArray) (hk : key.size = 32) (hl : last.size = 16) (w : World) (hT : CTabs w) (h3 : 4 ≤ w.heap.size) :
    Calls Tryd.prog 41 #[.string key, .string last] w fun e w' => e = .returned (.agg (u32s (stateL key.data.toList last.data.toList))) ∧ Below w.heap.size w w' := by
  have HI : Hid (∀ k : Nat, k < 4 → ∀ W, (Instr.index 90 (.agg (u32L con4).toArray) (.int .i64 (k : Int))).run Tryd.prog W = .ok (.int .u32 ((con4.getD k 0 : Nat) : Int)) W) := fun k hk W =>
    index_agg W 90 52 4 _ .i64 .u32 k _ Tryd.underlying90 Tryd.underlying52 size1 hk (u32s_at con4 k hk)
  have hfw := hT.fw
  have hl4 : (Tryd.prog.info? 90).map (·.size) = some (u32L con4).length := size4u
  have HW : Hid (∀ (s : ByteArray) (k : Nat), 4 * k + 4 ≤ s.size → s.size ≤ 32 → ∀ W, Calls Tryd.prog 62 #[.string s, .int .i64 (4 * (k : Int))] W fun e w' => e = .returned (.int .u32 (wordL s.data.toList (4 * k) : Int)) ∧ Below W.heap.size W w') := fun s k h1 h2 W => by
    have h := wordAt_any s (4 * k) h1 (by omega) W
    rwa [show ((4 * k : Nat) : Int) = 4 * (k : Int) by omega] at h
  have HS0 := Sf.start w
  have HZ : Hid (u32s (pad16 []) = #[.int .u32 0, .int .u32 0, .int .u32 0, .int .u32 0, .int .u32 0, .int .u32 0, .int .u32 0, .int .u32 0, .int .u32 0, .int .u32 0, .int .u32 0, .int .u32 0, .int .u32 0, .int .u32 0, .int .u32 0, .int .u32 0]) := rfl
  rw [HZ.out] at HS0
  obtain ⟨CL, hCL⟩ : ∃ CL, u32L con4 = CL := ⟨_, rfl⟩
  rw [hCL] at HI hfw hl4
  clear hCL HZ
  have hfw2 : ((w.alloc (.cells #[.int .u32 0, .int .u32 0, .int .u32 0, .int .u32 0, .int .u32 0, .int .u32 0, .int .u32 0, .int .u32 0, .int .u32 0, .int .u32 0, .int .u32 0, .int .u32 0, .int .u32 0, .int .u32 0, .int .u32 0, .int .u32 0] 54)).alloc (.cells #[.int .u32 0, .int .u32 0, .int .u32 0, .int .u32 0, .int .u32 0, .int .u32 0, .int .u32 0, .int .u32 0, .int .u32 0, .int .u32 0, .int .u32 0, .int .u32 0, .int .u32 0, .int .u32 0, .int .u32 0, .int .u32 0] 54)).rangeAt 1 0 CL := by
    intro j v hv
    rw [HS0.bel.cell (p := ⟨1, 0 + j, none⟩) (by show 1 < _; omega)]
    exact hfw j v hv
  go_enter Tryd.func41, Tryd.ntmps41
  go_wp2_with (refine wpList_load_mid rfl 90 (.global 1) rfl 1 0 rfl _ _ hfw2 Tryd.underlying90 rfl hl4 ?_)
  clear hfw hfw2 hl4
  go_loopg [11] 4 (fun gk i wr => ∃ k : Nat, k + gk = 4 ∧ i = .int .i64 k ∧ Sf w wr (con4.take k))
  case atStart => exact ⟨0, by omega, rfl, HS0⟩
  case round =>
    clear HS0
    obtain ⟨k, hkk, rfl, HS⟩ := hrel
    have HK : Hid (k + gk = 4) := hkk
    have hk' : k ≤ 4 := by omega
    clear hkk
    by_cases hlt : k < 4
    · have hltI : (k : Int) < 4 := by omega
      have hlt16 : (k : Int) < 16 := by omega
      have hix := HI.out k hlt
      have hlen : (con4.take k).length = k := by rw [List.length_take]; exact Nat.min_eq_left (by show k ≤ 4; omega)
      have c0 := HS.next k hlen (by omega)
      have f0 := HS.frozen k
      have HP := HS.put (con4.getD k 0) k hlen (by omega)
      rw [← con4_take k hlt] at HP
      clear hlen HS
      revert hix HP
      generalize con4.getD k 0 = x
      intro hix HP
      go_wp2
      go_roundg (gk - 1)
      case measure => have := HK.out; omega
      case rel => exact ⟨k + 1, by have := HK.out; omega, by go_num, HP⟩
    · obtain rfl : k = 4 := by omega
      go_wp2
      go_loopg [19] 8 (fun gj i wx => ∃ k : Nat, k + gj = 8 ∧ i = .int .i64 k ∧ Sf w wx (con4 ++ wordsL key.data.toList k))
      case atStart => exact ⟨0, by omega, rfl, HS⟩
      case round =>
        clear HS
        obtain ⟨k, hkk, rfl, HS⟩ := hrel
        have HK : Hid (k + gk = 8) := hkk
        have hk' : k ≤ 8 := by omega
        clear hkk
        by_cases hlt : k < 8
        · have hltI : (k : Int) < 8 := by omega
          have hcall := HW.out key k (by omega) (by omega) wr
          have hlen : (con4 ++ wordsL key.data.toList k).length = 4 + k := by rw [List.length_append, wordsL_length]; rfl
          have HN : Hid (con4 ++ wordsL key.data.toList (k + 1) = (con4 ++ wordsL key.data.toList k) ++ [wordL key.data.toList (4 * k)]) := by show _ = _; rw [wordsL_succ, List.append_assoc]
          revert HN hcall HS hlen
          generalize con4 ++ wordsL key.data.toList k = l
          generalize wordL key.data.toList (4 * k) = x
          intro HS hcall hlen HN
          go_wp2_with fail
          refine hcall.mono ?_
          rintro e w1 ⟨rfl, hb1⟩
          have HS1 := HS.below hb1
          have c0 := HS1.next (4 + k) hlen (by omega)
          have f0 := HS1.frozen (4 + k)
          have HP := HS1.put x (4 + k) hlen (by omega)
          rw [← HN.out] at HP
          clear HS HS1 hb1 hcall
          go_wp2
          go_roundg (gk - 1)
          case measure => have := HK.out; omega
          case rel => exact ⟨k + 1, by have := HK.out; omega, by go_num, HP⟩
        · obtain rfl : k = 8 := by omega
          go_wp2
          go_loopg [30] 4 (fun gj i wx => ∃ k : Nat, k + gj = 4 ∧ i = .int .i64 k ∧ Sf w wx (con4 ++ wordsL key.data.toList 8 ++ wordsL last.data.toList k))
          case atStart => exact ⟨0, by omega, rfl, by rw [show wordsL last.data.toList 0 = [] from rfl, List.append_nil]; exact HS⟩
          case round =>
            clear HS
            obtain ⟨k, hkk, rfl, HS⟩ := hrel
            have HK : Hid (k + gk = 4) := hkk
            have hk' : k ≤ 4 := by omega
            clear hkk
            by_cases hlt : k < 4
            · have hltI : (k : Int) < 4 := by omega
              have hcall := HW.out last k (by omega) (by omega) wr
              have hlen : (con4 ++ wordsL key.data.toList 8 ++ wordsL last.data.toList k).length = 12 + k := by rw [List.length_append, List.length_append, wordsL_length, wordsL_length]; rfl
              have HN : Hid (con4 ++ wordsL key.data.toList 8 ++ wordsL last.data.toList (k + 1) = (con4 ++ wordsL key.data.toList 8 ++ wordsL last.data.toList k) ++ [wordL last.data.toList (4 * k)]) := by show _ = _; rw [wordsL_succ last.data.toList k, ← List.append_assoc]
              revert HN hcall HS hlen
              generalize con4 ++ wordsL key.data.toList 8 ++ wordsL last.data.toList k = l
              generalize wordL last.data.toList (4 * k) = x
              intro HS hcall hlen HN
              go_wp2_with fail
              refine hcall.mono ?_
              rintro e w1 ⟨rfl, hb1⟩
              have HS1 := HS.below hb1
              have c0 := HS1.next (12 + k) hlen (by omega)
              have f0 := HS1.frozen (12 + k)
              have HP := HS1.put x (12 + k) hlen (by omega)
              rw [← HN.out] at HP
              clear HS HS1 hb1 hcall
              go_wp2
              go_roundg (gk - 1)
              case measure => have := HK.out; omega
              case rel => exact ⟨k + 1, by have := HK.out; omega, by go_num, HP⟩
            · obtain rfl : k = 4 := by omega
              have HE : Hid (stateL key.data.toList last.data.toList = con4 ++ wordsL key.data.toList 8 ++ wordsL last.data.toList 4) := rfl
              have hlen := (stateL_st key.data.toList last.data.toList).len
              rw [← HE.out] at HS
              have hown := HS.own
              rw [pad16_full _ hlen] at hown
              obtain ⟨z, hz, hres⟩ := HS.res
              have hbel := HS.bel
              clear HS HE
              obtain ⟨sf, hsf⟩ : ∃ sf, stateL key.data.toList last.data.toList = sf := ⟨_, rfl⟩
              rw [hsf] at hlen hown
              have HSF : Hid (stateL key.data.toList last.data.toList = sf) := hsf
              clear hsf
              have hth : wr.there w.heap.size 0 (u32s sf).size := there_of_heap hres (by rw [u32s_size, hlen, hz]; decide)
              have hsz : (Tryd.prog.info? 54).map (·.size) = some (u32s sf).size := by rw [u32s_size, hlen]; exact sizeSt
              have hone : (u32s sf).all (·.oneCell') = true := all_oneCell_toArray (u32L_one _)
              have hr := heap_setCells w.heap.size 54 (u32s sf).toList 0 _ _ hres
              rw [setMany_all _ _ (by rw [Array.length_toList, u32s_size, hlen, hz]), Array.toArray_toList] at hr
              have HRR : Hid ((wr.setCells w.heap.size 0 (u32s sf).toList).heap[w.heap.size]? = some (.cells (u32s sf) 54 (0, 0))) := hr
              clear hr hres
              go_wp2_with (first | (refine wpList_load_row rfl 54 (.tmp 5) rfl (w.heap.size + 1) rfl 54 _ (0, 0) _ hown Tryd.underlying54 rfl hsz ?_) | (refine wpList_store_mid rfl 54 (.tmp 4) (.tmp 41) rfl w.heap.size 0 _ rfl rfl hth hsz hone ?_))
              refine bodyPost_ret (results_cell_row rfl _ _ w.heap.size 54 _ (0, 0) _ rfl HRR.out Tryd.underlying54 rfl hsz) rfl ?_
              rw [HSF.out]
              exact ⟨rfl, Below.setCells hbel (Nat.le_refl _) _ _⟩

end Go.Proofs.YtebhmebldemndaaDoor.Cha
