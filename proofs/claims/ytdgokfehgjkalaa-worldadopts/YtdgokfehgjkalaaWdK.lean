import Derived.Test.YtdgokfehgjkalaaWdJ
import Derived.Deep.LoopGhost
namespace Go.Proofs.Ytdgokfehgjkalaa.Wd
open Go.RowKit Go.Lib Go.Deep

def S0 : Wst := ⟨fun _ => none, { data := #[] }, { data := #[] }, false, false, 0, [], [], [], 0, 0⟩
theorem sizeStore : (Try.prog.info? 69).map (·.size) = some 2 := by kernel_rfl
theorem newStore_any (w : World) : Calls Try.prog 63 #[] w fun e w' => ∃ m, e = .returned (.agg #[.map (some m), .pointer none]) ∧ w.heap.size ≤ m ∧ w'.heap[m]? = some (.map #[] 0) ∧ Below w.heap.size w w' := by
  have hmm := @run_makeMap Try.prog
  go_enter Try.func63, Try.ntmps63
  go_wp2
  refine bodyPost_ret (results_cell rfl _ _ w.heap.size 69 _ (0, 0) _ rfl ((Below.heap_alloc _ _ _ (by simp)).trans (heap_new w _)) Try.underlying69 rfl sizeStore) rfl ?_
  refine ⟨w.heap.size + 1, rfl, by omega, ?_, ((Below.refl _ _).alloc (Nat.le_refl _) _).alloc (by simp) _⟩
  have := heap_new (w.alloc (.cells #[.map (some (w.heap.size + 1)), .pointer none] 69)) (.map #[] 0)
  rw [show (w.alloc (.cells #[.map (some (w.heap.size + 1)), .pointer none] 69)).heap.size = w.heap.size + 1 by simp] at this
  exact this
theorem made_map {w : World} {m : Nat} {k : TypeId} {R : Value → Option (DataW Unit × List MemPlace)} (h : w.heap[m]? = some (.map #[] 0)) : w.ownsMap Try.prog k R m 0 (.map []) := by
  obtain ⟨es, cl, h1, h2, h3, h4⟩ := World.ownsMap_made (H := Unit) w Try.prog k R
  have e : (w.alloc (.map #[] 0)).heap[w.heap.size]? = some (.map #[] 0) := heap_new w _
  rw [e] at h1
  injection h1 with h1
  injection h1 with h1 h1'
  subst h1 h1'
  exact ⟨_, _, h, h2, h3, h4⟩
/-- a key of a store is no longer than a text can be -/
theorem key_le {w : World} {q : Nat} {F : List Nat} {S : Wst} (hs : St w q F S) {k : List UInt8} (hk : (S.f k).isSome = true) : k.length ≤ maxLen := by
  obtain ⟨m, pl, la, tv, av, uv, D, al, nv, hF, hI⟩ := hs
  have hh := hI.hD.has k
  rw [hk] at hh
  obtain ⟨es, hD, hko⟩ := hI.hm.keysOf
  subst hD
  rw [Maps.has_eq, List.any_eq_true] at hh
  obtain ⟨p, hp, hs⟩ := hh
  obtain ⟨v, hv⟩ := hko p hp
  obtain ⟨y, _, hy, hl⟩ := Maps.keyOf_str Try.underlying9 hv
  rw [hy] at hs
  have : y = k := by simpa [Lit.sameKey] using hs
  rw [← this]
  exact hl
theorem newState_any (w : World) : Calls Try.prog 41 #[] w fun e w' => ∃ q F, e = .returned (.pointer (some ⟨q, 0, none⟩)) ∧ St w' q F S0 ∧ (∀ k, k ∈ F → w.heap.size ≤ k) ∧ Below w.heap.size w w' := by
  have hmm := @run_makeMap Try.prog
  have hn := newStore_any w
  go_enter Try.func41, Try.ntmps41
  go_wp2_with fail
  refine hn.mono ?_
  rintro e w1 ⟨m, rfl, h1, h2, hb⟩
  go_wp2
  go_ret
  have hbA : Below w.heap.size w (w1.alloc (.map #[] 0)) := hb.alloc hb.size _
  refine ⟨w1.heap.size + 1, fp (w1.heap.size + 1) m w1.heap.size (.slice none 0 0) (.slice none 0 0) (.slice none 0 0), rfl, ⟨m, w1.heap.size, none, .slice none 0 0, .slice none 0 0, .slice none 0 0, .map [], [], [], rfl, ?_⟩, fun k hk => ?_, hbA.alloc hbA.size _⟩
  · have e1 : (w1.alloc (.map #[] 0)).heap.size = w1.heap.size + 1 := by simp
    have hm1 := (Array.getElem?_eq_some_iff.1 h2).1
    refine ⟨?_, ⟨rfl, .inl ⟨rfl, rfl⟩⟩, rfl, (fun i c v h => by simp [S0] at h), ⟨rfl, .inl ⟨rfl, rfl⟩⟩, rfl, (fun i a g h => by simp at h), ⟨rfl, .inl ⟨rfl, rfl⟩⟩, ?_, tab_nil, ?_, .nil, Nat.zero_le _, by omega⟩
    · have := heap_new (w1.alloc (.map #[] 0)) (.cells #[.map (some m), .pointer none, .string { data := #[] }, .string { data := #[] }, .bool false, .bool false, .int .i64 0, .slice none 0 0, .slice none 0 0, .slice none 0 0, .map (some w1.heap.size), .int .i64 0] 76)
      rw [e1] at this
      exact this
    · refine made_map ((Below.heap_alloc _ _ _ ?_).trans ((Below.heap_alloc _ _ _ hm1).trans h2))
      rw [e1]
      omega
    · exact made_map ((Below.heap_alloc _ _ _ (by simp)).trans (heap_new w1 _))
  · have hm1 := hb.size
    rcases mem_fp.1 hk with h | h | h | h | h | h
    · omega
    · omega
    · omega
    · cases h
    · cases h
    · cases h
theorem new_any (w : World) : Calls Try.prog 20 #[] w fun e w' => ∃ pb q F, e = .returned (.pointer (some ⟨pb, 0, none⟩)) ∧ Top w' pb q ∧ St w' q F S0 ∧ w.heap.size ≤ pb ∧ (∀ k, k ∈ F → w.heap.size ≤ k) ∧ Below w.heap.size w w' := by
  have hn := newState_any w
  go_enter Try.func20, Try.ntmps20
  go_wp2_with fail
  refine hn.mono ?_
  rintro e w1 ⟨q, F, rfl, h1, h2, hb⟩
  have HS : Hid (St w1 q F S0) := h1
  have HF : Hid (∀ k, k ∈ F → w.heap.size ≤ k) := h2
  clear h1 h2
  go_wp2
  go_ret
  exact ⟨w1.heap.size, q, F, rfl, heap_new _ _, HS.out.below ((Below.refl _ _).alloc (Nat.le_refl _) _), hb.size, HF.out, hb.alloc hb.size _⟩
def blobCells (f : Sto) (ks : List (List UInt8)) : List Value := ks.flatMap fun k => [.string (str k), .string ((f k).getD { data := #[] })]
theorem blobCells_snoc (f : Sto) (ks : List (List UInt8)) (k : List UInt8) : blobCells f (ks ++ [k]) = blobCells f ks ++ [.string (str k), .string ((f k).getD { data := #[] })] := by simp [blobCells]
theorem blobCells_length (f : Sto) (ks : List (List UInt8)) : (blobCells f ks).length = ks.length * 2 := by
  induction ks with
  | nil => rfl
  | cons x R ih =>
    have e : blobCells f (x :: R) = [.string (str x), .string ((f x).getD { data := #[] })] ++ blobCells f R := by simp [blobCells]
    rw [e, List.length_append, ih]
    simp
    omega
theorem infoBlob : (Try.prog.info? 56).map (fun i => (i.zero, i.size, i.bytes)) = some (some (.agg #[.string { data := #[] }, .string { data := #[] }]), 2, 32) := by kernel_rfl
theorem row_cell {w : World} {B e n : Nat} {v : Value} {xs : List Value} (h : w.ownsRow B e 1 v n xs) {i : Nat} {u : Value} (hi : xs[i]? = some u) : ∃ g cap, v = .slice (some ⟨g, 0, none⟩) n cap ∧ i < n ∧ B ≤ g ∧ g < w.heap.size ∧ w.cell? ⟨g, i, none⟩ = some u := by
  have hx := h.1
  have hil := (List.getElem?_eq_some_iff.1 hi).1
  rcases h.2 with ⟨h1, h2⟩ | ⟨g, cap, cur, h1, h2, h3, h4, h5, h6, h7⟩
  · omega
  · refine ⟨g, cap, h1, by omega, h2, heap_lt h3, ?_⟩
    rw [← h7, List.getElem?_take, if_pos (by omega), Array.getElem?_toList] at hi
    rw [cell_of_heap h3]
    exact hi
set_option maxRecDepth 10000 in
set_option maxHeartbeats 1000000 in
theorem dump_any (w : World) (pb q : Nat) (F : List Nat) (S : Wst) (h : Top w pb q) (hs : St w q F S) (hN : S.nn ≤ 4398046511100) : Calls Try.prog 13 #[.pointer (some ⟨pb, 0, none⟩)] w fun e w' => ∃ a c, e = .returned (.slice a (keysL S.f).length c) ∧ Rises (keysL S.f) S.f ∧ (keysL S.f).length ≤ S.nn ∧ w'.ownsRow w.heap.size 56 2 (.slice a (keysL S.f).length c) (keysL S.f).length (blobCells S.f (keysL S.f)) ∧ Below w.heap.size w w' := by
  have hm := made_any w pb q h
  have c0 := h.cell
  have hns : Calls Try.prog 34 #[.pointer (some ⟨q, 0, none⟩)] w fun e w' => ∃ a c, e = .returned (.slice a (keysL S.f).length c) ∧ Rises (keysL S.f) S.f ∧ (keysL S.f).length ≤ S.nn ∧ w'.ownsRow w.heap.size 9 1 (.slice a (keysL S.f).length c) (keysL S.f).length ((keysL S.f).map encStr) ∧ Below w.heap.size w w' := by
    refine (names_any w q F S hs (by omega)).mono ?_
    rintro e w' ⟨v, ks, rfl, hR, hl, ho, hb⟩
    rw [keysL_eq hR]
    obtain ⟨a, c, rfl⟩ := own_len ho
    exact ⟨a, c, rfl, hR, hl, ho, hb⟩
  obtain ⟨i0, hi, hz0, hz1, hz2⟩ := info_parts infoBlob
  have HS : Hid (∀ W, Below w.heap.size w W → W.cell? ⟨pb, 0, none⟩ = some (.pointer (some ⟨q, 0, none⟩)) ∧ ∀ k : List UInt8, k.length ≤ 9223372036854775807 → Calls Try.prog 35 #[.pointer (some ⟨q, 0, none⟩), .string (str k)] W fun e w' => e = .returned (.tuple #[.agg #[.string (objN S.f (str k)), .string (objB S.f (str k))], .bool (S.f k).isSome]) ∧ Below w.heap.size w w' ∧ Below W.heap.size W w') := fun W hb => ⟨(h.below hb).cell, fun k hk => by
    refine (object_any W q F S (str k) (by rw [str_size]; unfold maxLen; omega) (hs.below hb)).mono ?_
    rintro e w' ⟨rfl, hb'⟩
    rw [ky_str]
    exact ⟨rfl, hb.trans (hb'.mono hb.size), hb'⟩⟩
  have HKL : Hid (∀ k, (S.f k).isSome = true → k.length ≤ 9223372036854775807) := fun k hk => by
    have := key_le hs hk
    unfold maxLen at this
    omega
  generalize keysL S.f = ks at *
  obtain ⟨n, hn⟩ : ∃ n, ks.length = n := ⟨_, rfl⟩
  have HN : Hid (ks.length = n) := hn
  rw [hn] at hns ⊢
  clear hn
  clear hs h
  go_enter Try.func13, Try.ntmps13
  go_wp2_with fail
  refine hm.mono ?_
  rintro e w' ⟨rfl, rfl⟩
  go_wp2_with fail
  refine hns.mono ?_
  rintro e w1 ⟨a1, n1, rfl, hR, hl, ho, hb1⟩
  have HR : Hid (Rises ks S.f) := hR
  have HO : Hid (w1.ownsRow w'.heap.size 9 1 (.slice a1 n n1) n (ks.map encStr)) := ho
  have HL : Hid (n ≤ S.nn) := hl
  clear hns hm hR ho c0 hl
  go_wp2_with fail
  go_loopg [3, 19] n (fun gk bv iv wr => ∃ (k : Nat) (ba : Option Addr) (bc : Nat), k + gk = n ∧ iv = .int .i64 (k : Int) ∧ bv = .slice ba k bc ∧ Hid (wr.ownsRow w'.heap.size 56 2 (.slice ba k bc) k (blobCells S.f (ks.take k))) ∧ Hid (Below w'.heap.size w' wr) ∧ Hid (wr.ownsRow w'.heap.size 9 1 (.slice a1 n n1) n (ks.map encStr)))
  case atStart => exact ⟨0, none, 0, by omega, rfl, rfl, ⟨by simp [blobCells], .inl ⟨rfl, rfl⟩⟩, hb1, HO.out⟩
  case round =>
    obtain ⟨k, ba, bc, hk, rfl, rfl, HB, HW, HV⟩ := hrel
    have HKG : Hid (k + gk = n) := hk
    have hkn : k ≤ n := by omega
    clear hk
    by_cases hlt : k < n
    · have hltI : (k : Int) < (n : Int) := by omega
      obtain ⟨x, hx⟩ : ∃ x, ks[k]? = some x := ⟨_, List.getElem?_eq_getElem (by have := HN.out; omega)⟩
      have hsx : (S.f x).isSome = true := (HR.out.2.2 x).1 (List.mem_of_getElem? hx)
      obtain ⟨g1, cap1, e1, _, hg0, hg1, cg⟩ := row_cell HV.out (i := k) (u := encStr x) (by rw [List.getElem?_map, hx]; rfl)
      injection e1 with e1 e2 e3
      subst e1 e3
      obtain ⟨d0, hob⟩ := HS.out _ HW.out
      have hob := hob x (HKL.out x hsx)
      have e4 : objN S.f (str x) = str x := by unfold objN; rw [ky_str, if_pos hsx]
      have e5 : objB S.f (str x) = (S.f x).getD { data := #[] } := by unfold objB; rw [ky_str]
      rw [e4, e5, hsx] at hob
      have cg' : wr.cell? ⟨g1, k, none⟩ = some (.string (str x)) := cg
      obtain ⟨vb, hvb⟩ : ∃ vb, (S.f x).getD { data := #[] } = vb := ⟨_, rfl⟩
      have HVB : Hid ((S.f x).getD { data := #[] } = vb) := hvb
      rw [hvb] at hob
      have HX : Hid (ks[k]? = some x) := hx
      clear hx hsx e4 e5 hvb cg hlt
      go_wp2_with fail
      refine hob.mono ?_
      rintro e w2 ⟨rfl, hb2⟩
      have hbw : Below wr.heap.size wr w2 := hb2.2
      have hb2 := hb2.1
      obtain ⟨W8, hW8⟩ : ∃ W, (w2.alloc (.cells #[.string (str x), .string vb] 56)).alloc (.cells #[.string (str x), .string vb] 56) = W := ⟨_, rfl⟩
      have hb8 : Below w2.heap.size w2 W8 := by rw [← hW8]; exact ((Below.refl _ _).alloc (Nat.le_refl _) _).alloc (by simp) _
      have HO8 : Hid (W8.ownsRow w'.heap.size 56 2 (.slice ba k bc) k (blobCells S.f (ks.take k))) := owns_keep HB.out (fun g hg => by
        have hgl := (World.ownsRow.lt HB.out g hg).2
        exact (hb8.block g (Nat.lt_of_lt_of_le hgl hbw.size)).trans (hbw.block g hgl))
      have HV8 : Hid (∀ W, W8.grownBy W (Value.slice ba k bc).ownBlock → W.ownsRow w'.heap.size 9 1 (.slice (some ⟨g1, 0, none⟩) n n1) n (ks.map encStr)) := fun W hg => owns_keep HV.out (fun g hg' => by
        have hgl := (World.ownsRow.lt HV.out g hg').2
        have hne : (Value.slice ba k bc).ownBlock ≠ some g := fun e => by
          obtain ⟨cu, h1⟩ := owns_block HB.out e
          obtain ⟨cu2, h2⟩ := owns_block HV.out hg'
          rw [h1] at h2
          injection h2 with h2
          injection h2 with _ h2 _
          cases h2
        exact (hg.block g (Nat.lt_of_lt_of_le hgl (Nat.le_trans hbw.size hb8.size)) (fun e => hne e.symm)).trans ((hb8.block g (Nat.lt_of_lt_of_le hgl hbw.size)).trans (hbw.block g hgl)))
      have HNW : Hid (∀ j u, ([.string (str x), .string vb] : List Value)[j]? = some u → W8.cell? ((⟨w2.heap.size + 1, 0, none⟩ : Addr).add j) = some u) := fun j u hj => by
        rw [← hW8]
        have := cells_new (w2.alloc (.cells #[.string (str x), .string vb] 56)) #[.string (str x), .string vb] 56 j u (by simpa using hj)
        rw [show (w2.alloc (.cells #[.string (str x), .string vb] 56)).heap.size = w2.heap.size + 1 by simp] at this
        exact this
      have hz : k + 1 ≤ maxLen ∧ (k + 1) * 32 ≤ 140737488355328 ∧ w'.heap.size ≤ W8.heap.size := ⟨by have := HL.out; unfold maxLen; omega, by have := HL.out; omega, Nat.le_trans hb2.size hb8.size⟩
      have HBW : Hid (Below w'.heap.size w' W8) := hb2.trans (hb8.mono hb2.size)
      clear hbw hb8 hb2 hob cg'
      go_wp2_with (first | (at_builtin; (try rw [hW8]); refine wpList_append_own _ rfl _ _ 30 rfl w'.heap.size 56 i0 _ 2 32 Try.underlying30 hi hz0 hz1 hz2 rfl (by decide) _ _ _ rfl HO8.out _ _ _ _ rfl rfl HNW.out (by simp [Value.oneCell']) hz.1 hz.2.1 hz.2.2 ?_; intro v' w3 hown3 hgrow3 _; obtain ⟨a3, c3, rfl⟩ := own_len hown3; have HO3 : Hid _ := hown3; have HG3 : Hid _ := hgrow3; clear hown3 hgrow3) | go_in)
      go_roundg (gk - 1)
      case measure => have := HKG.out; omega
      case rel =>
        refine ⟨k + 1, a3, c3, by have := HKG.out; omega, by go_num, rfl, ?_, HBW.out.trans (grown_below HG3.out hz.2.2 HO8.out), HV8.out _ HG3.out⟩
        have := HO3.out
        rw [← HVB.out, ← blobCells_snoc] at this
        have e : ks.take (k + 1) = ks.take k ++ [x] := by rw [List.take_add_one, HX.out]; rfl
        rw [e]
        exact this
    · obtain rfl : k = n := by omega
      have hnlt : ¬ (k : Int) < (k : Int) := by omega
      go_wp2
      go_ret
      refine ⟨_, _, rfl, HR.out, HL.out, ?_, HW.out⟩
      have := HB.out
      rw [← HN.out, List.take_length, HN.out] at this
      exact this

end Go.Proofs.Ytdgokfehgjkalaa.Wd
