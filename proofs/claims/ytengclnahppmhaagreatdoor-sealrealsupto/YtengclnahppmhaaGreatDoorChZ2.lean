import Derived.Test.YtengclnahppmhaaGreatDoorChaH
import Derived.Test.YtengclnahppmhaaGreatDoorChZ1
import Derived.Deep.Cut
namespace Go.Proofs.YtengclnahppmhaaGreatDoor.Cha
open Go.RowKit Go.Lib Go.Deep

def pad16 (l : List Nat) : List Nat := l ++ List.replicate (16 - l.length) 0
theorem pad16_length (l : List Nat) (h : l.length ≤ 16) : (pad16 l).length = 16 := by simp [pad16]; omega
theorem pad16_full (l : List Nat) (h : l.length = 16) : pad16 l = l := by simp [pad16, h]
theorem pad16_set (l : List Nat) (x : Nat) (h : l.length < 16) : (u32s (pad16 l)).setIfInBounds l.length (.int .u32 (x : Int)) = u32s (pad16 (l ++ [x])) := by
  have e : 16 - l.length = (16 - (l.length + 1)) + 1 := by omega
  simp [u32s, u32L, pad16, e, List.replicate_succ]

/-- what stateOf holds in memory -/
structure Sf (w wr : World) (l : List Nat) : Prop where
  res : ∃ z : Array Value, z.size = 16 ∧ wr.heap[w.heap.size]? = some (.cells z 181 (0, 0))
  own : wr.heap[w.heap.size + 1]? = some (.cells (u32s (pad16 l)) 181 (0, 0))
  bel : Below w.heap.size w wr
theorem Sf.start (w : World) : Sf w ((w.alloc (.cells (u32s (pad16 [])) 181)).alloc (.cells (u32s (pad16 [])) 181)) [] := by
  refine ⟨⟨u32s (pad16 []), rfl, ?_⟩, ?_, ((Below.refl _ _).alloc (Nat.le_refl _) _).alloc (by simp) _⟩
  · rw [Below.heap_alloc _ _ _ (by simp)]
    exact heap_new _ _
  · have h := heap_new (w.alloc (.cells (u32s (pad16 [])) 181)) (.cells (u32s (pad16 [])) 181)
    simpa using h
theorem Sf.put {w wr : World} {l : List Nat} (h : Sf w wr l) (x n : Nat) (hn : l.length = n) (hl : n < 16) : Sf w (wr.setCell ⟨w.heap.size + 1, n, none⟩ (.int .u32 (x : Int))) (l ++ [x]) := by
  subst hn
  obtain ⟨z, hz, hr⟩ := h.res
  refine ⟨⟨z, hz, ?_⟩, ?_, h.bel.setCell (by simp) _⟩
  · rw [← hr]; exact Below.heap_setCell _ _ _ _ (by simp)
  · rw [← pad16_set l x hl]; exact heap_setCell_same _ _ _ _ _ _ h.own
theorem Sf.below {w wr w' : World} {l : List Nat} (h : Sf w wr l) (hb : Below wr.heap.size wr w') : Sf w w' l := by
  obtain ⟨z, hz, hr⟩ := h.res
  exact ⟨⟨z, hz, (hb.block _ (heap_lt hr)).trans hr⟩, (hb.block _ (heap_lt h.own)).trans h.own, h.bel.trans (hb.mono h.bel.size)⟩
theorem Sf.next {w wr : World} {l : List Nat} (h : Sf w wr l) (n : Nat) (hn : l.length = n) (hl : n < 16) : wr.cell? ⟨w.heap.size + 1, n, none⟩ = some (.int .u32 0) := by
  subst hn
  rw [cell_of_heap h.own, u32s_at _ _ (by rw [pad16_length _ (by omega)]; exact hl)]
  have : (pad16 l).getD l.length 0 = 0 := by
    rw [List.getD_eq_getElem?_getD, pad16, List.getElem?_append_right (Nat.le_refl _), Nat.sub_self, List.getElem?_replicate, if_pos (by omega)]
    rfl
  rw [this]
  rfl
theorem Sf.frozen {w wr : World} {l : List Nat} (h : Sf w wr l) (n : Nat) : wr.frozen? ⟨w.heap.size + 1, n, none⟩ = false := frozen_of_heap h.own

theorem index_agg {P : Program} (w : World) (t e : TypeId) (n : Nat) (cs : Array Value) (k kd : IntKind) (i : Nat) (v : Value) (h : P.underlying t = some (.array n e)) (he : P.underlying e = some (.int kd)) (hs : (P.info? e).map (·.size) = some 1)
    (hi : i < n) (hv : cs[i]? = some v) : (Instr.index t (.agg cs) (.int k (i : Int))).run P w = .ok v w := by
  have hagg : (isAgg e).run P w = .ok false w := by
    unfold isAgg
    rw [Sem.run_bind, run_underlying he w]
    rfl
  cases hq : P.info? e with
  | none => simp [hq] at hs
  | some q =>
    have hz : q.size = 1 := by simpa [hq] using hs
    simp [Instr.index, asIntOf, run_underlying h, hi, sizeOf, typeInfo, hq, hz, part, hagg, hv]

theorem size4u : (Tryz.prog.info? 205).map (·.size) = some 4 := by kernel_rfl
theorem con4_take (k : Nat) (h : k < 4) : con4.take (k + 1) = con4.take k ++ [con4.getD k 0] := by
  have : k = 0 ∨ k = 1 ∨ k = 2 ∨ k = 3 := by omega
  rcases this with rfl | rfl | rfl | rfl <;> rfl

set_option maxRecDepth 20000 in
set_option maxHeartbeats 2000000 in
theorem stateOf_any (key last : ByteArray) (hk : key.size = 32) (hl : last.size = 16) (w : World) (hT : CTabs w) (h3 : 8 ≤ w.heap.size) :
    Calls Tryz.prog 155 #[.string key, .string last] w fun e w' => e = .returned (.agg (u32s (stateL key.data.toList last.data.toList))) ∧ Below w.heap.size w w' := by
  have HI : Hid (∀ k : Nat, k < 4 → ∀ W, (Instr.index 205 (.agg (u32L con4).toArray) (.int .i64 (k : Int))).run Tryz.prog W = .ok (.int .u32 ((con4.getD k 0 : Nat) : Int)) W) := fun k hk W =>
    index_agg W 205 141 4 _ .i64 .u32 k _ Tryz.underlying205 Tryz.underlying141 size1 hk (u32s_at con4 k hk)
  have hfw := hT.fw
  have hl4 : (Tryz.prog.info? 205).map (·.size) = some (u32L con4).length := size4u
  have HW : Hid (∀ (s : ByteArray) (k : Nat), 4 * k + 4 ≤ s.size → s.size ≤ 32 → ∀ W, Calls Tryz.prog 164 #[.string s, .int .i64 (4 * (k : Int))] W fun e w' => e = .returned (.int .u32 (wordL s.data.toList (4 * k) : Int)) ∧ Below W.heap.size W w') := fun s k h1 h2 W => by
    have h := wordAt_any s (4 * k) h1 (by omega) W
    rwa [show ((4 * k : Nat) : Int) = 4 * (k : Int) by omega] at h
  have HS0 := Sf.start w
  have HZ : Hid (u32s (pad16 []) = #[.int .u32 0, .int .u32 0, .int .u32 0, .int .u32 0, .int .u32 0, .int .u32 0, .int .u32 0, .int .u32 0, .int .u32 0, .int .u32 0, .int .u32 0, .int .u32 0, .int .u32 0, .int .u32 0, .int .u32 0, .int .u32 0]) := rfl
  rw [HZ.out] at HS0
  obtain ⟨CL, hCL⟩ : ∃ CL, u32L con4 = CL := ⟨_, rfl⟩
  rw [hCL] at HI hfw hl4
  clear hCL HZ
  have hfw2 : ((w.alloc (.cells #[.int .u32 0, .int .u32 0, .int .u32 0, .int .u32 0, .int .u32 0, .int .u32 0, .int .u32 0, .int .u32 0, .int .u32 0, .int .u32 0, .int .u32 0, .int .u32 0, .int .u32 0, .int .u32 0, .int .u32 0, .int .u32 0] 181)).alloc (.cells #[.int .u32 0, .int .u32 0, .int .u32 0, .int .u32 0, .int .u32 0, .int .u32 0, .int .u32 0, .int .u32 0, .int .u32 0, .int .u32 0, .int .u32 0, .int .u32 0, .int .u32 0, .int .u32 0, .int .u32 0, .int .u32 0] 181)).rangeAt 5 0 CL := by
    intro j v hv
    rw [HS0.bel.cell (p := ⟨5, 0 + j, none⟩) (by show 5 < _; omega)]
    exact hfw j v hv
  go_enter Tryz.func155, Tryz.ntmps155
  go_wp2_with (refine wpList_load_mid rfl 205 (.global 5) rfl 5 0 rfl _ _ hfw2 Tryz.underlying205 rfl hl4 ?_)
  clear hfw hfw2 hl4
  go_loopg [11] 4 (fun gk i wr => ∃ k : Nat, k + gk = 4 ∧ i = .int .i64 k ∧ Sf w wr (con4.take k))
  case atStart => exact ⟨0, by omega, rfl, HS0⟩
  case round =>
    clear HS0
    obtain ⟨k, hkk, rfl, HS⟩ := hrel
    have HK : Hid (k + gk = 4) := hkk
    have hk' : k ≤ 4 := by omega
    clear hkk
    by_cases hlt : k < 4
    · have hltI : (k : Int) < 4 := by omega
      have hlt16 : (k : Int) < 16 := by omega
      have hix := HI.out k hlt
      have hlen : (con4.take k).length = k := by rw [List.length_take]; exact Nat.min_eq_left (by show k ≤ 4; omega)
      have c0 := HS.next k hlen (by omega)
      have f0 := HS.frozen k
      have HP := HS.put (con4.getD k 0) k hlen (by omega)
      rw [← con4_take k hlt] at HP
      clear hlen HS
      revert hix HP
      generalize con4.getD k 0 = x
      intro hix HP
      go_wp2
      go_roundg (gk - 1)
      case measure => have := HK.out; omega
      case rel => exact ⟨k + 1, by have := HK.out; omega, by go_num, HP⟩
    · obtain rfl : k = 4 := by omega
      go_wp2
      go_loopg [19] 8 (fun gj i wx => ∃ k : Nat, k + gj = 8 ∧ i = .int .i64 k ∧ Sf w wx (con4 ++ wordsL key.data.toList k))
      case atStart => exact ⟨0, by omega, rfl, HS⟩
      case round =>
        clear HS
        obtain ⟨k, hkk, rfl, HS⟩ := hrel
        have HK : Hid (k + gk = 8) := hkk
        have hk' : k ≤ 8 := by omega
        clear hkk
        by_cases hlt : k < 8
        · have hltI : (k : Int) < 8 := by omega
          have hcall := HW.out key k (by omega) (by omega) wr
          have hlen : (con4 ++ wordsL key.data.toList k).length = 4 + k := by rw [List.length_append, wordsL_length]; rfl
          have HN : Hid (con4 ++ wordsL key.data.toList (k + 1) = (con4 ++ wordsL key.data.toList k) ++ [wordL key.data.toList (4 * k)]) := by show _ = _; rw [wordsL_succ, List.append_assoc]
          revert HN hcall HS hlen
          generalize con4 ++ wordsL key.data.toList k = l
          generalize wordL key.data.toList (4 * k) = x
          intro HS hcall hlen HN
          go_wp2_with fail
          refine hcall.mono ?_
          rintro e w1 ⟨rfl, hb1⟩
          have HS1 := HS.below hb1
          have c0 := HS1.next (4 + k) hlen (by omega)
          have f0 := HS1.frozen (4 + k)
          have HP := HS1.put x (4 + k) hlen (by omega)
          rw [← HN.out] at HP
          clear HS HS1 hb1 hcall
          go_wp2
          go_roundg (gk - 1)
          case measure => have := HK.out; omega
          case rel => exact ⟨k + 1, by have := HK.out; omega, by go_num, HP⟩
        · obtain rfl : k = 8 := by omega
          go_wp2
          go_loopg [30] 4 (fun gj i wx => ∃ k : Nat, k + gj = 4 ∧ i = .int .i64 k ∧ Sf w wx (con4 ++ wordsL key.data.toList 8 ++ wordsL last.data.toList k))
          case atStart => exact ⟨0, by omega, rfl, by rw [show wordsL last.data.toList 0 = [] from rfl, List.append_nil]; exact HS⟩
          case round =>
            clear HS
            obtain ⟨k, hkk, rfl, HS⟩ := hrel
            have HK : Hid (k + gk = 4) := hkk
            have hk' : k ≤ 4 := by omega
            clear hkk
            by_cases hlt : k < 4
            · have hltI : (k : Int) < 4 := by omega
              have hcall := HW.out last k (by omega) (by omega) wr
              have hlen : (con4 ++ wordsL key.data.toList 8 ++ wordsL last.data.toList k).length = 12 + k := by rw [List.length_append, List.length_append, wordsL_length, wordsL_length]; rfl
              have HN : Hid (con4 ++ wordsL key.data.toList 8 ++ wordsL last.data.toList (k + 1) = (con4 ++ wordsL key.data.toList 8 ++ wordsL last.data.toList k) ++ [wordL last.data.toList (4 * k)]) := by show _ = _; rw [wordsL_succ last.data.toList k, ← List.append_assoc]
              revert HN hcall HS hlen
              generalize con4 ++ wordsL key.data.toList 8 ++ wordsL last.data.toList k = l
              generalize wordL last.data.toList (4 * k) = x
              intro HS hcall hlen HN
              go_wp2_with fail
              refine hcall.mono ?_
              rintro e w1 ⟨rfl, hb1⟩
              have HS1 := HS.below hb1
              have c0 := HS1.next (12 + k) hlen (by omega)
              have f0 := HS1.frozen (12 + k)
              have HP := HS1.put x (12 + k) hlen (by omega)
              rw [← HN.out] at HP
              clear HS HS1 hb1 hcall
              go_wp2
              go_roundg (gk - 1)
              case measure => have := HK.out; omega
              case rel => exact ⟨k + 1, by have := HK.out; omega, by go_num, HP⟩
            · obtain rfl : k = 4 := by omega
              have HE : Hid (stateL key.data.toList last.data.toList = con4 ++ wordsL key.data.toList 8 ++ wordsL last.data.toList 4) := rfl
              have hlen := (stateL_st key.data.toList last.data.toList).len
              rw [← HE.out] at HS
              have hown := HS.own
              rw [pad16_full _ hlen] at hown
              obtain ⟨z, hz, hres⟩ := HS.res
              have hbel := HS.bel
              clear HS HE
              obtain ⟨sf, hsf⟩ : ∃ sf, stateL key.data.toList last.data.toList = sf := ⟨_, rfl⟩
              rw [hsf] at hlen hown
              have HSF : Hid (stateL key.data.toList last.data.toList = sf) := hsf
              clear hsf
              have hth : wr.there w.heap.size 0 (u32s sf).size := there_of_heap hres (by rw [u32s_size, hlen, hz]; decide)
              have hsz : (Tryz.prog.info? 181).map (·.size) = some (u32s sf).size := by rw [u32s_size, hlen]; exact sizeSt
              have hone : (u32s sf).all (·.oneCell') = true := all_oneCell_toArray (u32L_one _)
              have hr := heap_setCells w.heap.size 181 (u32s sf).toList 0 _ _ hres
              rw [setMany_all _ _ (by rw [Array.length_toList, u32s_size, hlen, hz]), Array.toArray_toList] at hr
              have HRR : Hid ((wr.setCells w.heap.size 0 (u32s sf).toList).heap[w.heap.size]? = some (.cells (u32s sf) 181 (0, 0))) := hr
              clear hr hres
              go_wp2_with (first | (refine wpList_load_row rfl 181 (.tmp 5) rfl (w.heap.size + 1) rfl 181 _ (0, 0) _ hown Tryz.underlying181 rfl hsz ?_) | (refine wpList_store_mid rfl 181 (.tmp 4) (.tmp 41) rfl w.heap.size 0 _ rfl rfl hth hsz hone ?_))
              refine bodyPost_ret (results_cell_row rfl _ _ w.heap.size 181 _ (0, 0) _ rfl HRR.out Tryz.underlying181 rfl hsz) rfl ?_
              rw [HSF.out]
              exact ⟨rfl, Below.setCells hbel (Nat.le_refl _) _ _⟩

end Go.Proofs.YtengclnahppmhaaGreatDoor.Cha

namespace Go.Proofs.YtengclnahppmhaaGreatDoor.Cha
open Go.RowKit Go.Lib Go.Deep

set_option maxRecDepth 20000 in
set_option maxHeartbeats 1000000 in
theorem streamState_any (key nonce : ByteArray) (c : Nat) (hk : key.size = 32) (hn : nonce.size = 12) (hc : c < 4294967296) (w : World) (hT : CTabs w) (h3 : 8 ≤ w.heap.size) :
    Calls Tryz.prog 138 #[.string key, .int .i64 (c : Int), .string nonce] w fun e w' => e = .returned (.agg (u32s (streamL key.data.toList c nonce.data.toList))) ∧ Below w.heap.size w w' := by
  have hcv : (c : Int) % 4294967296 = (c : Int) := by omega
  have htx := fun W b (hb : b < W.heap.size) hr => textOf_any [c] (fun x hx => by rw [List.mem_singleton.1 hx]; exact hc) (by simp) b 1 W hb hr
  have HT1 : Hid (textL [c] = bytes4 c) := by show _ = _; simp [textL]
  rw [HT1.out] at htx
  have d1 : (str (bytes4 c) ++ nonce).data.toList = bytes4 c ++ nonce.data.toList := by rw [ByteArray.data_append, Array.toList_append, str_data]
  have s1 : (str (bytes4 c)).size = 4 := by rw [str_size]; rfl
  have hst := fun W hT h3 => stateOf_any key (str (bytes4 c) ++ nonce) hk (by rw [size_eq, d1, List.length_append, ← size_eq]; show 4 + _ = _; omega) W hT h3
  rw [d1] at hst
  have a1 : (str (bytes4 c)).size + nonce.size ≤ 9223372036854775807 := by omega
  have HL : Hid (streamL key.data.toList c nonce.data.toList = stateL key.data.toList (bytes4 c ++ nonce.data.toList)) := rfl
  have hlen := (stateL_st key.data.toList (bytes4 c ++ nonce.data.toList)).len
  rw [HL.out]
  clear d1 s1 HT1 HL
  revert htx hst a1 hlen
  generalize stateL key.data.toList (bytes4 c ++ nonce.data.toList) = sf
  generalize str (bytes4 c) = y1
  intro htx hst a1 hlen
  have hsz : (Tryz.prog.info? 181).map (·.size) = some (u32s sf).size := by rw [u32s_size, hlen]; exact sizeSt
  have hone : (u32s sf).all (·.oneCell') = true := all_oneCell_toArray (u32L_one _)
  go_enter Tryz.func138, Tryz.ntmps138
  go_wp2_with fail
  have HA : ((w.alloc (.cells (u32s (pad16 [])) 181)).alloc (.cells #[.int .u32 (c : Int)] 141)).heap[w.heap.size]? = some (.cells (u32s (pad16 [])) 181 (0, 0)) := by
    rw [Below.heap_alloc _ _ _ (by simp)]
    exact heap_new _ _
  have HR : ((w.alloc (.cells (u32s (pad16 [])) 181)).alloc (.cells #[.int .u32 (c : Int)] 141)).heap[w.heap.size + 1]? = some (.cells #[.int .u32 (c : Int)] 141 (0, 0)) := by
    have h := heap_new (w.alloc (.cells (u32s (pad16 [])) 181)) (.cells #[.int .u32 (c : Int)] 141)
    simpa using h
  have HB : Below w.heap.size w ((w.alloc (.cells (u32s (pad16 [])) 181)).alloc (.cells #[.int .u32 (c : Int)] 141)) := ((Below.refl _ _).alloc (Nat.le_refl _) _).alloc (by simp) _
  have hz16 : (u32s (pad16 [])).size = 16 := rfl
  have hrng := range_of_heap (pre := []) (mid := u32L [c]) (post := []) HR rfl
  refine (htx _ (w.heap.size + 1) (by simp) hrng).mono ?_
  rintro e w1 ⟨rfl, hb1⟩
  have hb1' : Below ((w.alloc (.cells (u32s (pad16 [])) 181)).alloc (.cells #[.int .u32 (c : Int)] 141)).heap.size ((w.alloc (.cells (u32s (pad16 [])) 181)).alloc (.cells #[.int .u32 (c : Int)] 141)) w1 := hb1
  have hb01 : Below w.heap.size w w1 := HB.trans (hb1'.mono HB.size)
  have hr1 := (hb1'.block _ (heap_lt HA)).trans HA
  clear HA HR HB hb1 hb1' htx hrng
  have z1 := hb01.size
  have hst1 := hst w1 (hT.below hb01 h3) (by omega)
  clear hst
  obtain ⟨Z, hZ⟩ : ∃ Z, u32s (pad16 []) = Z := ⟨_, rfl⟩
  rw [hZ] at hr1 hz16
  clear hZ
  go_wp2_with fail
  refine hst1.mono ?_
  rintro e w2 ⟨rfl, hb2⟩
  have hb02 := hb01.trans (hb2.mono z1)
  have hr2 := (hb2.block _ (heap_lt hr1)).trans hr1
  clear hst1 hr1 hb01 hb2
  have hth : w2.there w.heap.size 0 (u32s sf).size := there_of_heap hr2 (by rw [u32s_size, hlen, hz16]; decide)
  have hr := heap_setCells w.heap.size 181 (u32s sf).toList 0 _ _ hr2
  rw [setMany_all _ _ (by rw [Array.length_toList, u32s_size, hlen, hz16]), Array.toArray_toList] at hr
  have HRR : Hid ((w2.setCells w.heap.size 0 (u32s sf).toList).heap[w.heap.size]? = some (.cells (u32s sf) 181 (0, 0))) := hr
  clear hr hr2
  go_wp2_with (refine wpList_store_mid rfl 181 (.tmp 6) (.tmp 14) rfl w.heap.size 0 _ rfl rfl hth hsz hone ?_)
  refine bodyPost_ret (results_cell_row rfl _ _ w.heap.size 181 _ (0, 0) _ rfl HRR.out Tryz.underlying181 rfl hsz) rfl ?_
  exact ⟨rfl, Below.setCells hb02 (Nat.le_refl _) _ _⟩

end Go.Proofs.YtengclnahppmhaaGreatDoor.Cha

namespace Go.Proofs.YtengclnahppmhaaGreatDoor.Cha
open Go.RowKit Go.Lib Go.Deep

/-- added up to k -/
def addMix (m s : List Nat) (k : Nat) : List Nat := addN m s k ++ m.drop k
theorem addMix_zero (m s : List Nat) : addMix m s 0 = m := by simp [addMix, addN]
theorem addMix_all (m s : List Nat) (h : m.length = 16) : addMix m s 16 = addL m s := by rw [addMix, List.drop_of_length_le (by omega), List.append_nil]; rfl
theorem addMix_length (m s : List Nat) (k : Nat) (h : m.length = 16) (hk : k ≤ 16) : (addMix m s k).length = 16 := by rw [addMix, List.length_append, addN_length, List.length_drop]; omega
theorem addMix_at (m s : List Nat) (k : Nat) : (addMix m s k).getD k 0 = m.getD k 0 := by
  rw [List.getD_eq_getElem?_getD, addMix, List.getElem?_append_right (by rw [addN_length]; exact Nat.le_refl _), addN_length, Nat.sub_self, List.getElem?_drop, Nat.add_zero, List.getD_eq_getElem?_getD]
theorem addMix_set (m s : List Nat) (k : Nat) (hk : k < m.length) : (addMix m s k).set k ((m.getD k 0 + s.getD k 0) % 4294967296) = addMix m s (k + 1) := by
  have hd : m.drop k = m.getD k 0 :: m.drop (k + 1) := by
    rw [List.drop_eq_getElem_cons hk, List.getD_eq_getElem?_getD, List.getElem?_eq_getElem hk]
    rfl
  rw [addMix, List.set_append_right _ _ (by rw [addN_length]; exact Nat.le_refl _), addN_length, Nat.sub_self, hd, addMix, addN_succ, List.append_assoc]
  rfl

/-- what block holds in memory -/
structure Bk (w wr : World) (g : Nat) (s cur : List Nat) : Prop where
  own : wr.heap[w.heap.size]? = some (.cells (u32s s) 181 (0, 0))
  sum : wr.heap[g]? = some (.cells (u32s cur) 181 (0, 0))
  bel : Below w.heap.size w wr
  far : w.heap.size < g
theorem Bk.put {w wr : World} {g : Nat} {s cur : List Nat} (h : Bk w wr g s cur) (i x : Nat) : Bk w (wr.setCell ⟨g, i, none⟩ (.int .u32 (x : Int))).drew g s (cur.set i x) := by
  have hf := h.far
  refine ⟨?_, ?_, (h.bel.setCell (by show _ ≤ g; omega) _).drew, hf⟩
  · show (wr.setCell ⟨g, i, none⟩ (.int .u32 (x : Int))).heap[w.heap.size]? = _
    rw [← h.own]; exact Below.heap_setCell _ _ _ _ (by simp; omega)
  · rw [← u32s_set]
    exact heap_setCell_same _ _ _ _ _ _ h.sum

set_option maxRecDepth 20000 in
set_option maxHeartbeats 2000000 in
theorem block_any (s : List Nat) (hs : St s) (w : World) (hT : CTabs w) (h3 : 8 ≤ w.heap.size) :
    Calls Tryz.prog 140 #[.agg (u32s s)] w fun e w' => e = .returned (.string (str (blockOf s))) ∧ Below w.heap.size w w' := by
  have hbA : Below w.heap.size w (w.alloc (.cells (u32s s) 181)) := (Below.refl _ _).alloc (Nat.le_refl _) _
  have hmx := mixed_any s hs (w.alloc (.cells (u32s s) 181)) (hT.below hbA h3) (by simp; omega)
  have HBO : Hid (blockOf s = textL (addL (mixedL s) s)) := rfl
  have hm16 := hs.mixed.len
  have hmlt := hs.mixed
  have hs16 := hs.len
  have hown0 := heap_new w (.cells (u32s s) 181)
  have hszS : (Tryz.prog.info? 181).map (·.size) = some (u32s s).size := by rw [u32s_size, hs16]; exact sizeSt
  revert hmx HBO hm16 hmlt
  generalize mixedL s = m
  intro hmx HBO hm16 hmlt
  have hszM : (Tryz.prog.info? 181).map (·.size) = some (u32s m).size := by rw [u32s_size, hm16]; exact sizeSt
  have hone : (u32s m).all (·.oneCell') = true := all_oneCell_toArray (u32L_one _)
  go_enter Tryz.func140, Tryz.ntmps140
  go_wp2_with (first | (refine wpList_load_row rfl 181 (.tmp 1) rfl w.heap.size rfl 181 _ (0, 0) _ hown0 Tryz.underlying181 rfl hszS ?_) | (go_at_call 156; refine hmx.mono ?_; rintro e w1 ⟨rfl, hb1⟩) | (refine wpList_store_mid rfl 181 (.tmp 3) (.tmp 6) rfl w1.heap.size 0 _ rfl rfl (there_of_heap (heap_new _ _) (by rw [u32s_size, hm16]; decide)) hszM hone ?_))
  have HX : Bk w ((w1.alloc (.cells (u32s (List.replicate 16 0)) 181)).setCells w1.heap.size 0 (u32s m).toList) w1.heap.size s m := by
    have hz := hb1.size
    simp only [World.size_alloc] at hz
    refine ⟨?_, ?_, ?_, by omega⟩
    · rw [heap_setCells_other _ _ (by omega), Below.heap_alloc _ _ _ (by omega), hb1.block _ (by simp)]
      exact hown0
    · have h := heap_setCells w1.heap.size 181 (u32s m).toList 0 _ _ (heap_new w1 (.cells (u32s (List.replicate 16 0)) 181))
      rw [setMany_all _ _ (by rw [Array.length_toList, u32s_size, u32s_size, hm16]; rfl), Array.toArray_toList] at h
      exact h
    · exact Below.setCells ((hbA.trans (hb1.mono hbA.size)).alloc (by omega) _) (by omega) _ _
  (try rw [put_none])
  refine with_world (R := fun W => Code.wp _ _ _ _ W) (Q := fun W => Bk w W w1.heap.size s m) _ HX ?_
  clear HX hb1 hmx hbA hown0 hszS hszM hone
  intro w2 HX
  obtain ⟨g, hg⟩ : ∃ g, w1.heap.size = g := ⟨_, rfl⟩
  rw [hg] at HX ⊢
  clear hg
  go_loopg [7] 16 (fun gk i wr => ∃ k : Nat, k + gk = 16 ∧ i = .int .i64 k ∧ Bk w wr g s (addMix m s k))
  case atStart => exact ⟨0, by omega, rfl, by rw [addMix_zero]; exact HX⟩
  case round =>
    clear HX
    obtain ⟨k, hkk, rfl, HX⟩ := hrel
    have HK : Hid (k + gk = 16) := hkk
    have hk' : k ≤ 16 := by omega
    clear hkk
    by_cases hlt : k < 16
    · have hltI : (k : Int) < 16 := by omega
      have hal := addMix_length m s k hm16 hk'
      have c1 : wr.cell? ⟨g, k, none⟩ = some (.int .u32 ((m.getD k 0 : Nat) : Int)) := by rw [cell_of_heap HX.sum, u32s_at _ _ (by omega), addMix_at]
      have c2 : wr.cell? ⟨w.heap.size, k, none⟩ = some (.int .u32 ((s.getD k 0 : Nat) : Int)) := by rw [cell_of_heap HX.own, u32s_at _ _ (by omega)]
      have f1 : wr.frozen? ⟨g, k, none⟩ = false := frozen_of_heap HX.sum
      have c1d : wr.drew.cell? ⟨g, k, none⟩ = some (.int .u32 ((m.getD k 0 : Nat) : Int)) := c1
      have c2d : wr.drew.cell? ⟨w.heap.size, k, none⟩ = some (.int .u32 ((s.getD k 0 : Nat) : Int)) := c2
      have f1d : wr.drew.frozen? ⟨g, k, none⟩ = false := f1
      have HP := HX.put k ((m.getD k 0 + s.getD k 0) % 4294967296)
      rw [addMix_set m s k (by omega)] at HP
      have lx := hmlt.at_lt k
      have ly := hs.at_lt k
      clear HX hal
      revert c1 c2 c1d c2d HP lx ly
      generalize m.getD k 0 = x
      generalize s.getD k 0 = y
      intro c1 c2 c1d c2d HP lx ly
      obtain ⟨z, hz⟩ : ∃ z, (x + y) % 4294967296 = z := ⟨_, rfl⟩
      rw [hz] at HP
      have hw1 : IntKind.u32.wrap ((x : Int) + (y : Int)) = (z : Int) := by rw [IntKind.wrap_u32']; omega
      have hw2 : ((x : Int) + (y : Int)) % 4294967296 = (z : Int) := by omega
      clear hz
      go_wp2_with fail
      go_region
      refine with_world (R := fun W => Exit.inBlock _ _ _ _ W) (Q := fun W => Bk w W g s (addMix m s (k + 1))) _ HP ?_
      clear HP c1 c2 c1d c2d f1 f1d hw1 hw2
      intro w9 HP
      go_wp2
      go_roundg (gk - 1)
      case measure => have := HK.out; omega
      case rel => exact ⟨k + 1, by have := HK.out; omega, by go_num, HP⟩
    · obtain rfl : k = 16 := by omega
      rw [addMix_all m s hm16] at HX
      have hL := addL_st m s
      have hrng := range_of_heap (pre := []) (mid := u32L (addL m s)) (post := []) HX.sum (by simp [u32s])
      have htx := textOf_any (addL m s) hL.lt (by rw [hL.len]; omega) g 16 wr (heap_lt HX.sum) hrng
      rw [hL.len] at htx
      have hbel := HX.bel
      clear hrng HX
      go_wp2_with (go_at_call 157; refine htx.mono ?_; rintro e w3 ⟨rfl, hb3⟩)
      go_ret
      rw [HBO.out]
      exact ⟨rfl, hbel.trans (hb3.mono hbel.size)⟩

end Go.Proofs.YtengclnahppmhaaGreatDoor.Cha

namespace Go.Proofs.YtengclnahppmhaaGreatDoor.Cha
open Go.RowKit Go.Lib Go.Deep

set_option maxRecDepth 20000 in
set_option maxHeartbeats 1000000 in
theorem newKey_any (key nonce : ByteArray) (hk : key.size = 32) (hn : nonce.size = 16) (w : World) (hT : CTabs w) (h3 : 8 ≤ w.heap.size) :
    Calls Tryz.prog 135 #[.string key, .string nonce] w fun e w' => e = .returned (.string (str (hchL key.data.toList nonce.data.toList))) ∧ Below w.heap.size w w' := by
  have hst := stateOf_any key nonce hk hn w hT h3
  have hS := stateL_st key.data.toList nonce.data.toList
  have HL : Hid (hchL key.data.toList nonce.data.toList = textL (pick (mixedL (stateL key.data.toList nonce.data.toList)))) := rfl
  revert hst hS HL
  generalize stateL key.data.toList nonce.data.toList = s
  intro hst hS HL
  have hmx := fun W hT h3 => mixed_any s hS W hT h3
  have hM := hS.mixed
  revert hmx HL hM
  generalize mixedL s = m
  intro HL hmx hM
  have hm16 := hM.len
  have hszM : (Tryz.prog.info? 181).map (·.size) = some (u32s m).size := by rw [u32s_size, hm16]; exact sizeSt
  have hone : (u32s m).all (·.oneCell') = true := all_oneCell_toArray (u32L_one _)
  have hpick : ∀ x ∈ pick m, x < 4294967296 := by
    intro x hx
    simp only [pick, List.mem_cons, List.not_mem_nil, or_false] at hx
    rcases hx with rfl | rfl | rfl | rfl | rfl | rfl | rfl | rfl <;> exact hM.at_lt _
  go_enter Tryz.func135, Tryz.ntmps135
  go_wp2_with fail
  refine hst.mono ?_
  rintro e w1 ⟨rfl, hb1⟩
  have z1 := hb1.size
  have hmx1 := hmx w1 (hT.below hb1 h3) (by omega)
  clear hst hmx
  go_upto_region 2 with (first | (go_at_call 156; refine hmx1.mono ?_; rintro e w2 ⟨rfl, hb2⟩) | (refine wpList_store_mid rfl 181 (.tmp 5) (.tmp 9) rfl w2.heap.size 0 _ rfl rfl (there_of_heap (heap_new _ _) (by rw [u32s_size, hm16]; decide)) hszM hone ?_))
  have hb02 := hb1.trans (hb2.mono z1)
  have hheap := heap_setCells w2.heap.size 181 (u32s m).toList 0 _ _ (heap_new w2 (.cells (u32s (List.replicate 16 0)) 181))
  rw [setMany_all _ _ (by rw [Array.length_toList, u32s_size, u32s_size, hm16]; rfl), Array.toArray_toList] at hheap
  have hbel : Below w.heap.size w ((w2.alloc (.cells (u32s (List.replicate 16 0)) 181)).setCells w2.heap.size 0 (u32s m).toList) := Below.setCells (hb02.alloc hb02.size _) hb02.size _ _
  (try rw [put_none])
  refine with_world (R := fun W => Code.wp _ _ _ _ W) (Q := fun W => W.heap[w2.heap.size]? = some (.cells (u32s m) 181 (0, 0)) ∧ Below w.heap.size w W) _ ⟨hheap, hbel⟩ ?_
  clear hheap hbel hb02 hb2 hb1 hmx1 hone hszM
  rintro w3 ⟨hh3, hb3⟩
  obtain ⟨g, hg⟩ : ∃ g, w2.heap.size = g := ⟨_, rfl⟩
  rw [hg] at hh3 ⊢
  clear hg
  have k0 := (cell_of_heap (j := 0) hh3).trans (u32s_at m 0 (by omega))
  have k1 := (cell_of_heap (j := 1) hh3).trans (u32s_at m 1 (by omega))
  have k2 := (cell_of_heap (j := 2) hh3).trans (u32s_at m 2 (by omega))
  have k3 := (cell_of_heap (j := 3) hh3).trans (u32s_at m 3 (by omega))
  have k12 := (cell_of_heap (j := 12) hh3).trans (u32s_at m 12 (by omega))
  have k13 := (cell_of_heap (j := 13) hh3).trans (u32s_at m 13 (by omega))
  have k14 := (cell_of_heap (j := 14) hh3).trans (u32s_at m 14 (by omega))
  have k15 := (cell_of_heap (j := 15) hh3).trans (u32s_at m 15 (by omega))
  have HP : Hid (pick m = [m.getD 0 0, m.getD 1 0, m.getD 2 0, m.getD 3 0, m.getD 12 0, m.getD 13 0, m.getD 14 0, m.getD 15 0]) := rfl
  rw [HP.out] at hpick HL
  clear HP hh3 hm16 hM
  revert k0 k1 k2 k3 k12 k13 k14 k15 hpick HL
  generalize m.getD 0 0 = x0
  generalize m.getD 1 0 = x1
  generalize m.getD 2 0 = x2
  generalize m.getD 3 0 = x3
  generalize m.getD 12 0 = x4
  generalize m.getD 13 0 = x5
  generalize m.getD 14 0 = x6
  generalize m.getD 15 0 = x7
  intro HL hpick k0 k1 k2 k3 k12 k13 k14 k15
  have HR : (w3.alloc (.cells #[.int .u32 (x0 : Int), .int .u32 (x1 : Int), .int .u32 (x2 : Int), .int .u32 (x3 : Int), .int .u32 (x4 : Int), .int .u32 (x5 : Int), .int .u32 (x6 : Int), .int .u32 (x7 : Int)] 141)).heap[w3.heap.size]? = some (.cells #[.int .u32 (x0 : Int), .int .u32 (x1 : Int), .int .u32 (x2 : Int), .int .u32 (x3 : Int), .int .u32 (x4 : Int), .int .u32 (x5 : Int), .int .u32 (x6 : Int), .int .u32 (x7 : Int)] 141 (0, 0)) := heap_new _ _
  have htx := textOf_any [x0, x1, x2, x3, x4, x5, x6, x7] hpick (by simp) w3.heap.size 8 _ (by simp) (range_of_heap (pre := []) (mid := u32L [x0, x1, x2, x3, x4, x5, x6, x7]) (post := []) HR rfl)
  clear HR hpick
  have hb4 := hb3.alloc hb3.size (.cells #[.int .u32 (x0 : Int), .int .u32 (x1 : Int), .int .u32 (x2 : Int), .int .u32 (x3 : Int), .int .u32 (x4 : Int), .int .u32 (x5 : Int), .int .u32 (x6 : Int), .int .u32 (x7 : Int)] 141)
  go_wp2_with (go_at_call 157; refine htx.mono ?_; rintro e w5 ⟨rfl, hb5⟩)
  go_ret
  rw [HL.out]
  exact ⟨rfl, hb4.trans (hb5.mono hb4.size)⟩

end Go.Proofs.YtengclnahppmhaaGreatDoor.Cha

namespace Go.Proofs.YtengclnahppmhaaGreatDoor.Cha
open Go.RowKit Go.Lib Go.Deep

/-- the two faults that come ahead of all others -/
def faultN (key nonce : ByteArray) (size : Nat) : Int := if key.size ≠ 32 then 40 else if nonce.size ≠ size then 41 else 0

theorem fault_any (key nonce : ByteArray) (size : Nat) (_hk : key.size ≤ maxLen) (_hn : nonce.size ≤ maxLen) (w : World) :
    Calls Tryz.prog 134 #[.string key, .string nonce, .int .i64 (size : Int)] w fun e w' => e = .returned (.int .i64 (faultN key nonce size)) ∧ w = w' := by
  unfold maxLen at _hk _hn
  unfold faultN
  by_cases h1 : key.size = 32
  · have h1b : ((key.size : Int) != 32) = false := by rw [h1]; rfl
    have h1c : ((key.size : Int) == 32) = true := by rw [h1]; rfl
    rw [if_neg (by simp [h1])]
    by_cases h2 : nonce.size = size
    · rw [if_neg (by simp [h2])]
      go_enter Tryz.func134, Tryz.ntmps134
      go_wp2
      go_ret
      exact ⟨rfl, rfl⟩
    · have h2b : ((nonce.size : Int) == (size : Int)) = false := by simp; omega
      have h2c : ¬ ((nonce.size : Int) = (size : Int)) := by omega
      rw [if_pos h2]
      go_enter Tryz.func134, Tryz.ntmps134
      go_wp2
      go_ret
      exact ⟨rfl, rfl⟩
  · have h1b : ((key.size : Int) == 32) = false := by simp; omega
    have h1c : ¬ ((key.size : Int) = 32) := by omega
    rw [if_pos h1]
    go_enter Tryz.func134, Tryz.ntmps134
    go_wp2
    go_ret
    exact ⟨rfl, rfl⟩

theorem fault_ok {key nonce : ByteArray} {size : Nat} (h1 : key.size = 32) (h2 : nonce.size = size) : faultN key nonce size = 0 := by simp [faultN, h1, h2]
theorem fault_no {key nonce : ByteArray} {size : Nat} (h : ¬ (key.size = 32 ∧ nonce.size = size)) : faultN key nonce size = 40 ∨ faultN key nonce size = 41 := by
  unfold faultN
  by_cases h1 : key.size = 32
  · right; rw [if_neg (by simp [h1]), if_pos (fun h2 => h ⟨h1, h2⟩)]
  · left; rw [if_pos h1]

theorem hch_yes (key nonce : ByteArray) (hk : key.size = 32) (hn : nonce.size = 16) (w : World) (hT : CTabs w) (h3 : 8 ≤ w.heap.size) :
    Calls Tryz.prog 118 #[.string key, .string nonce] w fun e w' => e = .returned (.tuple #[.string (str (hchL key.data.toList nonce.data.toList)), .int .i64 0]) ∧ Below w.heap.size w w' := by
  have hf := fault_any key nonce 16 (by unfold maxLen; omega) (by unfold maxLen; omega) w
  rw [fault_ok hk hn] at hf
  have hnk := newKey_any key nonce hk hn w hT h3
  revert hnk
  generalize str (hchL key.data.toList nonce.data.toList) = y
  intro hnk
  go_enter Tryz.func118, Tryz.ntmps118
  go_wp2_with fail
  refine hf.mono ?_
  rintro e w1 ⟨rfl, rfl⟩
  go_wp2_with (go_at_call 135; refine hnk.mono ?_; rintro e w2 ⟨rfl, hb2⟩)
  go_ret2
  exact ⟨rfl, hb2⟩
theorem hch_no (key nonce : ByteArray) (hk : key.size ≤ maxLen) (hn : nonce.size ≤ maxLen) (h : ¬ (key.size = 32 ∧ nonce.size = 16)) (w : World) :
    Calls Tryz.prog 118 #[.string key, .string nonce] w fun e w' => e = .returned (.tuple #[.string { data := #[] }, .int .i64 (faultN key nonce 16)]) ∧ w = w' := by
  have hf := fault_any key nonce 16 hk hn w
  rcases fault_no h with h40 | h40
  · rw [h40] at hf ⊢
    go_enter Tryz.func118, Tryz.ntmps118
    go_wp2_with fail
    refine hf.mono ?_
    rintro e w1 ⟨rfl, rfl⟩
    go_wp2
    go_ret2
    exact ⟨rfl, rfl⟩
  · rw [h40] at hf ⊢
    go_enter Tryz.func118, Tryz.ntmps118
    go_wp2_with fail
    refine hf.mono ?_
    rintro e w1 ⟨rfl, rfl⟩
    go_wp2
    go_ret2
    exact ⟨rfl, rfl⟩

end Go.Proofs.YtengclnahppmhaaGreatDoor.Cha
