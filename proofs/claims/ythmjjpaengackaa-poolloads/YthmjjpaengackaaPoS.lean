import Derived.Test.YthmjjpaengackaaPoR
namespace Go.Proofs.Ythmjjpaengackaa.Po
open Go.RowKit Go.Lib Go.Deep

theorem infoRow : (Try.prog.info? 76).map (fun i => (i.zero, i.size, i.bytes)) = some (some (.agg #[.string { data := #[] }, .string { data := #[] }, .int .i64 0, .int .i64 0, .bool false]), 5, 56) := by kernel_rfl
theorem infoOb : (Try.prog.info? 35).map (fun i => (i.zero, i.size, i.bytes)) = some (some (.agg #[.string { data := #[] }, .string { data := #[] }, .int .i64 0, .int .i64 0]), 4, 48) := by kernel_rfl
theorem made_flat {α : Type} (f : α → List Value) (k : Nat) (hf : ∀ a, (f a).length = k) (hk : 0 < k) (z : Value) (a : α) (hz : z.cells.toList = f a) (n : Nat) : (madeCells z.cells (n * k)).toList = (List.replicate n a).flatMap f := by
  have hsz : z.cells.size = k := by rw [← Array.length_toList, hz, hf]
  apply List.ext_getElem?
  intro j
  by_cases hj : j < n * k
  · have h1 : j / k < n := Nat.div_lt_of_lt_mul (by rw [Nat.mul_comm]; exact hj)
    have h2 : j % k < k := Nat.mod_lt _ hk
    have h3 := flat_get f k hf (List.replicate n a) (j / k) a (by rw [List.getElem?_replicate, if_pos h1]) (j % k) h2
    rw [show j / k * k + j % k = j by rw [Nat.mul_comm]; exact Nat.div_add_mod j k] at h3
    rw [h3, ← hz]
    have h4 : j % z.cells.size < z.cells.size := by rw [hsz]; exact h2
    rw [Array.getElem?_toList, Array.getElem?_toList]
    unfold madeCells
    rw [Array.getElem?_map, Array.getElem?_range, if_pos hj]
    show some (z.cells[j % z.cells.size]!) = z.cells[j % k]?
    rw [getElem!_pos z.cells (j % z.cells.size) h4, ← hsz, Array.getElem?_eq_getElem h4]
  · rw [List.getElem?_eq_none (by rw [Array.length_toList, size_madeCells]; omega), List.getElem?_eq_none (by rw [flat_len f k hf, List.length_replicate]; omega)]
def halfL (n k : Nat) : List (Ob × Bool) := List.replicate k (dOb, false) ++ List.replicate (n - k) (zOb, false)
theorem half_len {n k : Nat} (h : k ≤ n) : (halfL n k).length = n := by unfold halfL; simp; omega
theorem half_get {n k : Nat} (h : k < n) : (halfL n k)[k]? = some (zOb, false) := by
  unfold halfL
  rw [List.getElem?_append_right (by simp), List.length_replicate, Nat.sub_self, List.getElem?_replicate, if_pos (by omega)]
theorem half_set {n k : Nat} (h : k < n) : (halfL n k).set k (dOb, false) = halfL n (k + 1) := by
  unfold halfL
  rw [List.set_append_right _ _ (by simp), List.length_replicate, Nat.sub_self, show n - k = (n - (k + 1)) + 1 by omega, List.replicate_succ, List.set_cons_zero, List.replicate_succ', List.append_assoc]
  rfl
theorem half_full (f s : Nat) : halfL (f + s) (f + s) = rowsL (blankP f s) := by
  unfold halfL
  apply List.ext_getElem?
  intro j
  rw [rowsL_get, Nat.sub_self, List.replicate_zero, List.append_nil]
  show _ = ((List.replicate (f + s) dOb)[j]?).map _
  rw [List.getElem?_replicate, List.getElem?_replicate]
  split
  · simp [blankP]
  · rfl
theorem is_blank {K : Type} (key : Ob → K) (no : K) (hk : key dOb = no) (n : Nat) : Is key no (List.replicate n dOb) (fun _ => none) := fun k i => by
  refine ⟨fun e => (by cases e), fun ⟨h1, o, h2, h3⟩ => ?_⟩
  rw [List.getElem?_replicate] at h2
  split at h2
  · obtain rfl := Option.some.inj h2
    exact absurd (h3.symm.trans hk) h1
  · cases h2
set_option maxRecDepth 20000 in
set_option maxHeartbeats 1000000 in
theorem newState_any (w : World) (f s : Nat) (hf : 1 ≤ f ∧ f ≤ 65536) (hs : 1 ≤ s ∧ s ≤ 64) : Calls Try.prog 42 #[.int .i64 (f : Int), .int .i64 (s : Int)] w fun e w' => ∃ q F, e = .returned (.pointer (some ⟨q, 0, none⟩)) ∧ Lay w' q F 0 (blankP f s) ∧ (∀ k, k ∈ F → w.heap.size ≤ k) ∧ Below w.heap.size w w' := by
  obtain ⟨i0, hi, hz0, hz1, hz2⟩ := info_parts infoRow
  obtain ⟨n, hn⟩ : ∃ n, f + s = n := ⟨_, rfl⟩
  have hnb : 1 ≤ n ∧ n ≤ 65600 := by omega
  have hmk := run_make (P := Try.prog) w 68 76 i0 _ Try.underlying68 hi hz0 .i64 .i64 (n : Int) (n : Int) (by omega) (by omega) (by rw [hz2]; omega) (by omega)
  rw [Int.toNat_natCast, hz1] at hmk
  have hcs := made_flat rwC 5 rwC_len (by decide) (.agg #[.string { data := #[] }, .string { data := #[] }, .int .i64 0, .int .i64 0, .bool false]) (zOb, false) rfl n
  have hsz := size_madeCells (Value.agg #[.string { data := #[] }, .string { data := #[] }, .int .i64 0, .int .i64 0, .bool false]).cells (n * 5)
  generalize madeCells (Value.agg #[.string { data := #[] }, .string { data := #[] }, .int .i64 0, .int .i64 0, .bool false]).cells (n * 5) = C at *
  obtain ⟨W1, hW1⟩ : ∃ W, w.alloc (.cells C 76) = W := ⟨_, rfl⟩
  obtain ⟨W2, hW2⟩ : ∃ W, W1.alloc (.map #[] 0) = W := ⟨_, rfl⟩
  obtain ⟨W3, hW3⟩ : ∃ W, W2.alloc (.map #[] 0) = W := ⟨_, rfl⟩
  have z1 : W1.heap.size = w.heap.size + 1 := by rw [← hW1]; simp
  have z2 : W2.heap.size = w.heap.size + 2 := by rw [← hW2]; simp [z1]
  have z3 : W3.heap.size = w.heap.size + 3 := by rw [← hW3]; simp [z2]
  obtain ⟨W4, hW4⟩ : ∃ W, W3.alloc (.cells #[.int .i64 (f : Int), .slice (some ⟨w.heap.size, 0, none⟩) n n, .map (some W1.heap.size), .map (some W2.heap.size), .slice none 0 0, .int .i64 0, .int .i64 0] 74) = W := ⟨_, rfl⟩
  have b1 : Below w.heap.size w W1 := by rw [← hW1]; exact (Below.refl _ _).alloc (Nat.le_refl _) _
  have b2 : Below w.heap.size w W2 := by rw [← hW2]; exact b1.alloc b1.size _
  have b3 : Below w.heap.size w W3 := by rw [← hW3]; exact b2.alloc b2.size _
  have b4 : Below w.heap.size w W4 := by rw [← hW4]; exact b3.alloc b3.size _
  have s2 : ∀ k, k < W1.heap.size → W2.heap[k]? = W1.heap[k]? := fun k hk => by rw [← hW2]; exact Below.heap_alloc _ _ _ hk
  have s3 : ∀ k, k < W2.heap.size → W3.heap[k]? = W2.heap[k]? := fun k hk => by rw [← hW3]; exact Below.heap_alloc _ _ _ hk
  have s4 : ∀ k, k < W3.heap.size → W4.heap[k]? = W3.heap[k]? := fun k hk => by rw [← hW4]; exact Below.heap_alloc _ _ _ hk
  have hm1 : W4.ownsMap Try.prog 3 intR W1.heap.size 0 (.map []) := by
    have := World.ownsMap_made (H := Unit) W1 Try.prog 3 intR
    rw [hW2] at this
    exact map_keep this ((s4 _ (by omega)).trans (s3 _ (by omega)))
  have hm2 : W4.ownsMap Try.prog 9 intR W2.heap.size 0 (.map []) := by
    have := World.ownsMap_made (H := Unit) W2 Try.prog 9 intR
    rw [hW3] at this
    exact map_keep this (s4 _ (by omega))
  have hr : W4.ownsRow w.heap.size 76 5 (.slice (some ⟨w.heap.size, 0, none⟩) n n) n (rwsC (halfL n 0)) := by
    have hx : (w.alloc (.cells C 76)).heap[w.heap.size]? = some (.cells C 76 (0, 0)) := heap_new _ _
    rw [hW1] at hx
    refine ⟨?_, .inr ⟨w.heap.size, n, C, rfl, Nat.le_refl _, ?_, Nat.le_refl _, by unfold maxLen; omega, by rw [hsz], ?_⟩⟩
    · rw [show rwsC (halfL n 0) = (halfL n 0).flatMap rwC from rfl, flat_len rwC 5 rwC_len, half_len (Nat.zero_le _)]
    · rw [s4 _ (by omega), s3 _ (by omega), s2 _ (by omega)]; exact hx
    · rw [hcs]
      unfold halfL rwsC
      rw [List.replicate_zero, List.nil_append, Nat.sub_zero]
      exact List.take_of_length_le (by rw [flat_len rwC 5 rwC_len, List.length_replicate]; exact Nat.le_refl _)
  have hq : W4.heap[W3.heap.size]? = some (.cells #[.int .i64 (f : Int), .slice (some ⟨w.heap.size, 0, none⟩) n n, .map (some W1.heap.size), .map (some W2.heap.size), .slice none 0 0, .int .i64 0, .int .i64 0] 74 (0, 0)) := by
    have := heap_new W3 (.cells #[.int .i64 (f : Int), .slice (some ⟨w.heap.size, 0, none⟩) n n, .map (some W1.heap.size), .map (some W2.heap.size), .slice none 0 0, .int .i64 0, .int .i64 0] 74)
    rw [hW4] at this
    exact this
  have HE : Hid (∀ V, Only [w.heap.size] W4 V → V.ownsRow w.heap.size 76 5 (.slice (some ⟨w.heap.size, 0, none⟩) n n) n (rwsC (halfL n n)) → ∃ F, Lay V W3.heap.size F 0 (blankP f s) ∧ (∀ k, k ∈ F → w.heap.size ≤ k) ∧ Below w.heap.size w V) := fun V ho hro => by
    have lt4 : W4.heap.size = w.heap.size + 4 := by rw [← hW4]; simp [z3]
    have keep : ∀ k, k < W4.heap.size → k ≠ w.heap.size → V.heap[k]? = W4.heap[k]? := fun k hk hne => ho.block k hk (by simpa using hne)
    refine ⟨_, ⟨.slice (some ⟨w.heap.size, 0, none⟩) n n, .slice none 0 0, W1.heap.size, W2.heap.size, [], 0, rfl, ?_, ?_, World.ownsRow_nil _ _ _ _, ⟨_, _, map_keep hm1 (keep _ (by omega) (by omega)), tab_nil _, is_blank _ _ rfl _⟩, ⟨_, _, map_keep hm2 (keep _ (by omega) (by omega)), tab_nil _, is_blank _ _ rfl _⟩, by omega, ⟨.inr ⟨rfl, rfl⟩, by simp [blankP], fun j hj => (by simp [blankP] at hj)⟩, by simp, ?_⟩, fun k hk => ?_, ?_⟩
    · rw [keep _ (by omega) (by omega)]; exact hq
    · have : (blankP f s).R.length = n := by simp [blankP, hn]
      rw [this, ← half_full, hn]
      exact owns_base hro (Nat.zero_le _)
    · simp [blankP]; omega
    · rcases mem_fp.1 hk with rfl | rfl | rfl | h1 | h1
      · omega
      · omega
      · omega
      · simp [Value.ownBlock] at h1; omega
      · simp [Value.ownBlock] at h1
    · exact b4.trans (ho.below b4.size (by simp))
  have hwn : IntKind.i64.wrap ((f : Int) + (s : Int)) = (n : Int) := by rw [IntKind.wrap_i64]; omega
  have hmm := @run_makeMap Try.prog
  have RL : Hid (∀ V k, Only [w.heap.size] W4 V → V.ownsRow w.heap.size 76 5 (.slice (some ⟨w.heap.size, 0, none⟩) n n) n (rwsC (halfL n k)) → k < n → V.cell? ⟨W3.heap.size, 1, none⟩ = some (.slice (some ⟨w.heap.size, 0, none⟩) n n) ∧ V.cell? ⟨w.heap.size, k * 5 + 3, none⟩ = some (.int .i64 0) ∧ V.frozen? ⟨w.heap.size, k * 5 + 3, none⟩ = false ∧ Only [w.heap.size] W4 (V.setCell ⟨w.heap.size, k * 5 + 3, none⟩ (.int .i64 (-1))) ∧ (V.setCell ⟨w.heap.size, k * 5 + 3, none⟩ (.int .i64 (-1))).ownsRow w.heap.size 76 5 (.slice (some ⟨w.heap.size, 0, none⟩) n n) n (rwsC (halfL n (k + 1)))) := fun V k ho hro hk => by
    have lt4 : W4.heap.size = w.heap.size + 4 := by rw [← hW4]; simp [z3]
    have hqV : V.heap[W3.heap.size]? = _ := (ho.block _ (by omega) (by simp; omega)).trans hq
    have hc := (hro.cellAt (k * 5 + 3) (by omega)).trans (flat_get rwC 5 rwC_len (halfL n k) k _ (half_get hk) 3 (by omega))
    have hst := hro.stored (k * 5 + 3) (.int .i64 (-1))
    rw [show rwsC (halfL n k) = (halfL n k).flatMap rwC from rfl, flat_set rwC 5 rwC_len (halfL n k) k _ (dOb, false) (half_get hk) 3 (.int .i64 (-1)) (by omega) rfl, half_set hk] at hst
    exact ⟨(cell_of_heap hqV).trans rfl, hc, hro.frozenAt _, ho.setCell (p := ⟨w.heap.size, k * 5 + 3, none⟩) (by simp) _, hst.1⟩
  have cq : W4.cell? ⟨W3.heap.size, 1, none⟩ = some (.slice (some ⟨w.heap.size, 0, none⟩) n n) := (cell_of_heap hq).trans rfl
  have O4 := Only.refl [w.heap.size] W4
  generalize hQ3 : W3.heap.size = q3 at *
  clear hi hz0 hz1 hz2 hcs hsz b1 b2 b3 b4 s2 s3 s4 hm1 hm2 hq z1 z2 z3 hf hs hn
  go_enter Try.func42, Try.ntmps42
  go_wp2
  go_loopg [21] n (fun gk i wr => ∃ k : Nat, gk = n - k ∧ k ≤ n ∧ i = .int .i64 (k : Int) ∧ Only [w.heap.size] W4 wr ∧ wr.ownsRow w.heap.size 76 5 (.slice (some ⟨w.heap.size, 0, none⟩) n n) n (rwsC (halfL n k)))
  case atStart => exact ⟨0, by omega, by omega, rfl, O4, hr⟩
  case round =>
    clear hr O4 cq hmk hmm
    obtain ⟨k, hgk, hkn, rfl, ho, hro⟩ := hrel
    by_cases hk : k < n
    · have hkI : (k : Int) < (n : Int) := by omega
      obtain ⟨c1, c2, c3, ho2, hr2⟩ := RL.out wr k ho hro hk
      have HO : Hid _ := ho2
      have HR : Hid _ := hr2
      have w1 : IntKind.i64.wrap ((k : Int) + 1) = ((k + 1 : Nat) : Int) := by rw [IntKind.wrap_i64]; omega
      clear ho hro ho2 hr2 hW1 hW2 hW3 hW4
      go_wp2
      go_roundg (n - (k + 1))
      case measure => omega
      case rel => exact ⟨k + 1, rfl, by omega, rfl, HO.out, HR.out⟩
    · obtain rfl : k = n := by omega
      have HX : Hid _ := HE.out wr ho hro
      have hkI : ¬ (k : Int) < (k : Int) := by omega
      clear ho hro hW1 hW2 hW3 hW4
      go_wp2
      go_ret
      obtain ⟨F, h1, h2, h3⟩ := HX.out
      exact ⟨q3, rfl, F, h1, h2, h3⟩
set_option maxRecDepth 20000 in
set_option maxHeartbeats 1000000 in
theorem new_any (w : World) (f s : Int) : Calls Try.prog 24 #[.int .i64 f, .int .i64 s] w fun e w' =>
    if roomB f s = true then ∃ pb q F, e = .returned (.tuple #[.pointer (some ⟨pb, 0, none⟩), .int .i64 0]) ∧ Ok w' pb q F 0 (newP f.toNat s.toNat) ∧ w.heap.size ≤ pb ∧ (∀ k, k ∈ F → w.heap.size ≤ k) ∧ Below w.heap.size w w'
    else e = .returned (.tuple #[.pointer none, .int .i64 1]) ∧ w' = w := by
  have hir := isRoom_any f s w
  by_cases hb : roomB f s = true
  · rw [hb] at hir
    obtain ⟨h1, h2, h3, h4⟩ := of_decide_eq_true hb
    obtain ⟨a, rfl⟩ : ∃ a : Nat, f = a := ⟨f.toNat, by omega⟩
    obtain ⟨b, rfl⟩ : ∃ b : Nat, s = b := ⟨s.toNat, by omega⟩
    simp only [hb, if_true, Int.toNat_natCast]
    have hns := newState_any w a b (by omega) (by omega)
    obtain ⟨n, hn⟩ : ∃ n, a + b = n := ⟨_, rfl⟩
    have HG : Hid (∀ k, k ≤ n → Good ⟨a, List.replicate n dOb, List.range k⟩) := fun k hk => by
      rw [← hn]
      exact good_blank (by omega) (by omega) _ List.nodup_range (fun i hi => by have := List.mem_range.1 hi; omega)
    have hnb : n ≤ 65600 := by omega
    -- a round
    have HR : Hid (∀ V wr q F F' k, Turn F V wr q 0 ⟨a, List.replicate n dOb, List.range k⟩ → Lay V q F' 0 (blankP a b) → k < n → Calls Try.prog 30 #[.pointer (some ⟨q, 0, none⟩), .int .i64 (k : Int)] wr fun e w' => e = .returned (.tuple #[]) ∧ Turn F V w' q 0 ⟨a, List.replicate n dOb, List.range (k + 1)⟩) := fun V wr q F F' k hT hL hk => by
      refine hT.call fun F2 hL2 => (spush_any wr q F2 0 _ k dOb hL2 ?_ (HG.out k (by omega)).ql).mono ?_
      · show (List.replicate n dOb)[k]? = some dOb
        rw [List.getElem?_replicate, if_pos hk]
      · rintro e w' ⟨rfl, hT2⟩
        refine ⟨rfl, ?_⟩
        have e2 : pushP ⟨a, List.replicate n dOb, List.range k⟩ k = ⟨a, List.replicate n dOb, List.range (k + 1)⟩ := by unfold pushP; rw [List.range_succ]
        rw [e2] at hT2
        exact hT2
    clear hb
    go_enter Try.func24, Try.ntmps24
    go_wp2_with (first
      | (go_at_call 42; refine hns.mono ?_; rintro e w1 ⟨q, F, rfl, hL, hF, hb1⟩; obtain ⟨rv, mv, oa, na, room, hd, hFe, hI⟩ := id hL; obtain ⟨am, cm, hrv⟩ := owns_form hI.hr; obtain ⟨-, c1, -⟩ := hI.cells; rw [hrv, show (blankP a b).R.length = n by simp [blankP, hn]] at c1; clear hI hFe hrv)
      | (go_at_call 41; refine hir.mono ?_; rintro e w2 ⟨rfl, e2⟩; obtain rfl := e2.symm))
    have T0 : Turn F w1 w1 q 0 ⟨a, List.replicate n dOb, List.range 0⟩ := by
      have e0 : blankP a b = ⟨a, List.replicate n dOb, List.range 0⟩ := by unfold blankP; rw [hn]; rfl
      rw [← e0]
      exact hL.turn (Below.refl _ _)
    have HL : Hid _ := hL
    have HB1 : Hid (Below w.heap.size w w1) := hb1
    have HFF : Hid (∀ k, k ∈ F → w.heap.size ≤ k) := hF
    have HEND : Hid (∀ wr, Turn F w1 wr q 0 ⟨a, List.replicate n dOb, List.range n⟩ → ∃ pb F', pb = wr.heap.size ∧ Ok (wr.alloc (.cells #[.pointer (some ⟨q, 0, none⟩)] 67)) pb q F' 0 (newP a b) ∧ w.heap.size ≤ pb ∧ (∀ k, k ∈ F' → w.heap.size ≤ k) ∧ Below w.heap.size w (wr.alloc (.cells #[.pointer (some ⟨q, 0, none⟩)] 67))) := fun wr hT => by
      obtain ⟨ho, F', hL', hF'⟩ := hT
      have hbw : Below w.heap.size w wr := by
        refine hb1.trans ?_
        exact ho.below hb1.size hF
      have hal : Below wr.heap.size wr (wr.alloc (.cells #[.pointer (some ⟨q, 0, none⟩)] 67)) := (Below.refl _ _).alloc (Nat.le_refl _) _
      have en : (⟨a, List.replicate n dOb, List.range n⟩ : Ps) = newP a b := by unfold newP; rw [hn]
      rw [en] at hL'
      refine ⟨_, F', rfl, ⟨heap_new _ _, hL'.below hal, good_new (by omega) (by omega), by omega⟩, hbw.size, fun k hk => ?_, hbw.trans (hal.mono hbw.size)⟩
      rcases hF' k hk with h | h
      · exact hF k h
      · exact Nat.le_trans hb1.size h
    clear hL hF hb1 hns hir h1 h2 h3 h4
    go_loopg [20] n (fun gk i wr => ∃ k : Nat, gk = n - k ∧ k ≤ n ∧ i = .int .i64 (k : Int) ∧ Turn F w1 wr q 0 ⟨a, List.replicate n dOb, List.range k⟩)
    case atStart => exact ⟨0, by omega, by omega, rfl, T0⟩
    case round =>
      clear T0
      obtain ⟨k, hgk, hkn, rfl, hT⟩ := hrel
      by_cases hk : k < n
      · have hkI : (k : Int) < (n : Int) := by omega
        have hpu := HR.out w1 wr q F F k hT HL.out hk
        have w1' : IntKind.i64.wrap ((k : Int) + 1) = ((k + 1 : Nat) : Int) := by rw [IntKind.wrap_i64]; omega
        clear hT
        go_wp2_with (go_at_call 30; refine hpu.mono ?_; rintro e w3 ⟨rfl, hT3⟩; have HT3 : Hid _ := hT3; clear hT3)
        go_roundg (n - (k + 1))
        case measure => omega
        case rel => exact ⟨k + 1, rfl, by omega, rfl, HT3.out⟩
      · obtain rfl : k = n := by omega
        have HX : Hid _ := HEND.out wr hT
        have hkI : ¬ (k : Int) < (k : Int) := by omega
        clear hT
        go_wp2
        go_ret2
        obtain ⟨pb, F', rfl, h1, h2, h3, h4⟩ := HX.out
        exact ⟨_, rfl, q, F', h1, h2, h3, h4⟩
  · rw [Bool.not_eq_true] at hb
    rw [hb] at hir
    simp only [hb]
    clear hb
    go_enter Try.func24, Try.ntmps24
    go_wp2_with (go_at_call 41; refine hir.mono ?_; rintro e w2 ⟨rfl, rfl⟩)
    go_ret2
    exact ⟨rfl, rfl⟩
end Go.Proofs.Ythmjjpaengackaa.Po
