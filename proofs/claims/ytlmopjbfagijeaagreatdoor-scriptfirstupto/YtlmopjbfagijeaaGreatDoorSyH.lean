import Derived.Test.YtlmopjbfagijeaaGreatDoorSyG
import Derived.Test.YtlmopjbfagijeaaGreatDoorYoM
namespace Go.Proofs.YtlmopjbfagijeaaGreatDoor.Sc
open Go.RowKit Go.Lib Go.Deep Go.Shelf
theorem freeze_other (w : World) (p : Addr) (n k : Nat) (h : k ≠ p.block) : (w.freeze p n).heap[k]? = w.heap[k]? := by
  unfold World.freeze
  split
  · rfl
  · show (w.heap.modify _ _)[k]? = _
    rw [Array.getElem?_modify, if_neg (Ne.symm h)]
theorem BuR.there {T : TypeId} {rest : List Value} {B b : Nat} {l : List UInt8} {w : World} (h : BuR T rest B b l w) : ∃ v p, w.heap[b]? = some (.cells (p :: v :: rest).toArray T (0, 0)) := by
  rcases h with ⟨_, v, hb, _⟩ | ⟨_, v, hb, _⟩
  · exact ⟨v, _, hb⟩
  · exact ⟨v, _, hb⟩
set_option maxHeartbeats 1000000 in
set_option maxRecDepth 100000 in
theorem rstring_any {T : TypeId} {rest : List Value} (B b : Nat) (l : List UInt8) (w : World) (h : Bu T rest B b l w) :
    Calls Tryz.prog 62 #[.pointer (some ⟨b, 0, none⟩)] w fun e w' => e = .returned (.string (str l)) ∧ Below B w w' ∧ ∀ (D : Nat) o, w.heap[D]? = some o → o.isCells = false → w'.heap[D]? = some o := by
  obtain ⟨p, hB, v, hbk, hown, hne, hn0⟩ := h.at
  clear h
  have hB : Hid (B ≤ b) := hB
  by_cases h0 : l = []
  · obtain rfl := hn0 h0
    subst h0
    have hUS : ∀ (W : World) (q : Option Addr), (Builtin.unsafeString_ #[161, 3] 9 #[.pointer q, .int .i64 0]).run Tryz.prog W = .ok (.string ByteArray.empty) W := fun W q => by
      have h := Any.unsafeString_none bstrLays bstrExtra W q
      rw [show bstrRen.t 127 = 161 from rfl, show bstrRen.t 3 = 3 from rfl, show bstrRen.t 9 = 9 from rfl] at h
      exact h
    have mixed := bstrLays.mixed
    have c1 : w.drew.cell? ⟨b, 1, none⟩ = some (.slice none 0 0) := by
      have : w.drew.heap[b]? = some (.cells (p :: .slice none 0 0 :: rest).toArray T (0, 0)) := hbk
      rw [Lib.cell_of_heap this]; simp
    have hSD : (Builtin.unsafeSliceData_ #[51] 161 #[.slice none 0 0]).run Tryz.prog w.drew = .ok (.pointer none) w.drew := sd_none _ _ _ _
    go_enter Tryz.func62, Tryz.ntmps62
    go_wp2
    go_region_o
    all_goals (go_wp2; go_ret; exact ⟨rfl, Below.drew (Below.refl B w), fun _ _ h _ => h⟩)
  have hl0 : l.length ≠ 0 := by simpa using h0
  obtain ⟨g, cap, cur, rfl, hbg, hg, hnc, hcm, hcs, htake⟩ : ∃ g cap cur, v = .slice (some ⟨g, 0, none⟩) l.length cap ∧ B ≤ g ∧ w.heap[g]? = some (.cells cur 5 (0, 0)) ∧ l.length ≤ cap ∧ cap ≤ maxLen ∧ cur.size = cap * 1 ∧ cur.toList.take (l.length * 1) = byteCells l := by
    rcases hown.2 with ⟨_, hz⟩ | ⟨g, cap, cur, hv, r⟩
    · exact absurd hz hl0
    · exact ⟨g, cap, cur, hv, r⟩
  have c1 : w.drew.cell? ⟨b, 1, none⟩ = some (.slice (some ⟨g, 0, none⟩) l.length cap) := by
    have : w.drew.heap[b]? = some (.cells (p :: .slice (some ⟨g, 0, none⟩) l.length cap :: rest).toArray T (0, 0)) := hbk
    rw [Lib.cell_of_heap this]; simp
  have hSD : (Builtin.unsafeSliceData_ #[51] 161 #[.slice (some ⟨g, 0, none⟩) l.length cap]).run Tryz.prog w.drew = .ok (.pointer (some ⟨g, 0, none⟩)) w.drew :=
    Lib.run_unsafeSliceData_row _ _ _ _ _ _ (by omega)
  have hUS : (Builtin.unsafeString_ #[161, 3] 9 #[.pointer (some ⟨g, 0, none⟩), .int .i64 l.length]).run Tryz.prog w.drew = .ok (.string (str l)) (w.drew.freeze ⟨g, 0, none⟩ l.length) := by
    refine Lib.run_unsafeString_row w.drew 161 3 9 5 bstrLays.t127 bstrExtra.cellsByte g cur.size (by have hg' : w.drew.heap[g]? = some (.cells cur 5 (0, 0)) := hg; simp [World.shape?, hg']) l h0 (by omega) (by unfold maxLen at hcm; omega) ?_
    intro j x hx
    have := hown.cells (g := g) rfl j (.int .u8 x.toNat) (by simp [byteCells, hx])
    exact this
  have hbF : Hid (Below B w (w.drew.freeze ⟨g, 0, none⟩ l.length)) := Lib.below_freeze (Below.drew (Below.refl B w)) (p := ⟨g, 0, none⟩) hbg _
  have hkF : Hid (∀ (D : Nat) o, w.heap[D]? = some o → o.isCells = false → (w.drew.freeze ⟨g, 0, none⟩ l.length).heap[D]? = some o) := by
    show ∀ (D : Nat) o, _
    intro D o hD ho
    have hne : D ≠ g := by
      rintro rfl
      rw [hg] at hD
      rw [← Option.some.inj hD] at ho
      cases ho
    exact (freeze_other w.drew ⟨g, 0, none⟩ l.length D hne).trans hD
  clear hown htake
  have mixed := bstrLays.mixed
  go_enter Tryz.func62, Tryz.ntmps62
  go_wp2
  go_region_o
  all_goals (go_wp2; go_ret; exact ⟨rfl, hbF.out, hkF.out⟩)

section
attribute [local go_sem] Oper.semAt_some
/-- the lines of a tape of n bytes, up to k pieces -/
def pieceL (s : List UInt8) (k : Nat) : List UInt8 := (s.drop (64 * k)).take 64
def tapeL (s : List UInt8) (ks : List Nat) : List UInt8 := ks.flatMap fun k => [116, 97, 112, 101, 32] ++ hexL (pieceL s k) ++ [10]
theorem tapeL_snoc (s : List UInt8) (ks : List Nat) (k : Nat) : tapeL s (ks ++ [k]) = tapeL s ks ++ ([116, 97, 112, 101, 32] ++ hexL (pieceL s k) ++ [10]) := by simp [tapeL]
theorem tapeL_len (s : List UInt8) (ks : List Nat) : (tapeL s ks).length ≤ 134 * ks.length := by
  induction ks with
  | nil => simp [tapeL]
  | cons a t ih =>
    have h := hexL_len (pieceL s a)
    have h2 : (pieceL s a).length ≤ 64 := by simp [pieceL]; omega
    simp only [tapeL, List.flatMap_cons, List.length_append, List.length_cons, List.length_nil] at ih ⊢
    omega
theorem KeepsOthers.of_below {W W' : World} (h : Below W.heap.size W W') : KeepsOthers W W' := ⟨h.size, fun k _ hk _ => (h.block k (Array.getElem?_eq_some_iff.1 hk).1).trans hk⟩
theorem chunk_stops (F : Fence) (m : Nat) (hf : F.fn 113) (hro : F.round = none) (hm : 1 ≤ m) (p q n₀ b0 b n c : Nat) (hnc : n ≤ c) (hn : n ≤ 140737488355328) (hp : p < n₀) (hq : q < n₀) (hpb : p ≠ b0) (hqb : q ≠ b0) (w : World) (hnw : n₀ ≤ w.heap.size)
    (h1 : w.heap[p]? = some (.cells #[.slice (some ⟨b, 0, none⟩) n c] 51 (0, 0))) (h2 : w.heap[q]? = some (.cells #[.int .i64 64] 3 (0, 0))) :
    SeqStopsK F m Tryz.prog 113 #[.pointer (some ⟨p, 0, none⟩), .pointer (some ⟨q, 0, none⟩)] (pcV b n) (KeR n₀ b0) (fun ys => pcs ys = List.range ((n + 63) / 64)) (fun _ => True) n w := fun l J Jx W hW hJ _ hY h0 =>
  chunk1_in F m hf hro hm l p q n₀ b0 b n c hnc hn hp hq hpb hqb J Jx hY W (Nat.le_trans hnw hW.size) (fun pre U hs => hJ pre U U.drew none hs ⟨rfl, rfl, rfl, Nat.le_refl _, fun _ _ _ => rfl⟩ (fun r e => by cases e)) ((hW.block p (by omega)).trans h1) ((hW.block q (by omega)).trans h2) h0
theorem rowOf (s : ByteArray) (hs : s.size ≤ maxLen) (U : World) : ∃ g cap W1, (convert 9 51 (.string s)).run Tryz.prog U = .ok (.slice (some ⟨g, 0, none⟩) s.size cap) W1 ∧ s.size ≤ cap ∧ U.heap.size ≤ g ∧ g < W1.heap.size ∧ (∀ (j : Nat) c, s.data.toList[j]? = some c → W1.cell? ⟨g, j, none⟩ = some (.int .u8 (c.toNat : Int))) ∧ Below U.heap.size U W1 := by
  obtain ⟨v, W1, hr, ⟨g, cap, cur, fr, rfl, r2, r3, r4, r5, r6, r7, r8⟩, hb⟩ := bytes_any s hs U
  have hl : (byteCells s.data.toList).length = s.size := by rw [byteCells_length, ← size_eq]
  rw [hl] at hr r6 r8
  refine ⟨g, cap, W1, hr, r6, r2, heap_lt r3, fun j c hj => ?_, hb⟩
  rw [Lib.cell_of_heap r3]
  have hjl : j < s.size := by rw [size_eq]; exact (List.getElem?_eq_some_iff.1 hj).1
  have e1 : (cur.toList.take s.size)[j]? = (byteCells s.data.toList)[j]? := by rw [r8]
  rw [List.getElem?_take, if_pos hjl, Array.getElem?_toList] at e1
  rw [e1]
  simp [byteCells, hj]
set_option maxRecDepth 100000 in
set_option maxHeartbeats 2000000 in
theorem tapeText_in (s : ByteArray) (hs : s.size ≤ 1048576) (w : World) :
    CallsIn Fence.wide 8 Tryz.prog 35 #[.string s] w fun e w' => e = .returned (.string (str (tapeL s.data.toList (List.range ((s.size + 63) / 64))))) ∧ Below w.heap.size w w' := by
  obtain ⟨U0, hU0⟩ : ∃ U0, w.alloc (.cells #[.pointer none, .slice none 0 0] 81) = U0 := ⟨_, rfl⟩
  obtain ⟨g, cap, W1, hcv, hsc, hgU, hgW, hcell, hb1⟩ := rowOf s (by unfold maxLen; omega) U0
  have hch := chunk_any (some ⟨g, 0, none⟩) s.size cap W1
  have hro : Fence.wide.round = none := rfl
  refine callsIn_of_wp_marks Tryz.func35 rfl trivial ?_ hro
  simp only [Tryz.ntmps35, List.size_toArray, List.length_cons, List.length_nil, Nat.reduceAdd, Nat.reduceSub, Array.replicate_succ, Array.replicate_zero, List.push_toArray, List.append_toArray, List.nil_append, List.cons_append]
  gi_wp2_with (refine ⟨trivial, ?_⟩; gi_at_call 71; refine (callsIn_wide.2 hch).mono ?_; clear hch; rintro e w' ⟨rfl, rfl⟩)
  obtain ⟨W2, hW2⟩ : ∃ W2, (W1.alloc (.cells #[.slice (some ⟨g, 0, none⟩) s.size cap] 51)).alloc (.cells #[.int .i64 64] 3) = W2 := ⟨_, rfl⟩
  have hu0 : U0.heap.size = w.heap.size + 1 := by rw [← hU0]; simp
  have hw2 : W2.heap.size = W1.heap.size + 1 + 1 := by rw [← hW2]; simp
  have hb12 : Below W1.heap.size W1 W2 := by rw [← hW2]; exact ((Below.refl _ _).alloc (Nat.le_refl _) _).alloc (by simp) _
  have hp1 : W2.heap[W1.heap.size]? = some (.cells #[.slice (some ⟨g, 0, none⟩) s.size cap] 51 (0, 0)) := by rw [← hW2]; exact (Lib.alloc_old _ _ _ (by simp)).trans (heap_alloc_new _ _)
  have hp2 : W2.heap[W1.heap.size + 1]? = some (.cells #[.int .i64 64] 3 (0, 0)) := by rw [← hW2]; have h := heap_alloc_new (W1.alloc (.cells #[.slice (some ⟨g, 0, none⟩) s.size cap] 51)) (.cells #[.int .i64 64] 3); rw [World.size_alloc] at h; exact h
  have hb02 : Below U0.heap.size U0 W2 := hb1.trans (hb12.mono hb1.size)
  have hbu : W2.heap[w.heap.size]? = some (.cells #[.pointer none, .slice none 0 0] 81 (0, 0)) := (hb02.block _ (by omega)).trans (by rw [← hU0]; exact heap_alloc_new _ _)
  have hB0 : BuR 81 [] W2.heap.size w.heap.size (tapeL s.data.toList []) W2 := .inl ⟨by have := hb1.size; omega, .slice none 0 0, hbu, World.ownsRow_nil _ _ _ _, by simp [Value.ownBlock], fun _ => rfl⟩
  have hbw2 : Below w.heap.size w W2 := by
    have h : Below w.heap.size w U0 := by rw [← hU0]; exact (Below.refl _ _).alloc (Nat.le_refl _) _
    exact h.trans (hb02.mono h.size)
  have hg2 : ∀ (j : Nat) c, s.data.toList[j]? = some c → W2.cell? ⟨g, j, none⟩ = some (.int .u8 (c.toNat : Int)) := fun j c hj => (hb12.cell (p := ⟨g, j, none⟩) hgW).trans (hcell j c hj)
  have hgu : g ≠ w.heap.size := by omega
  have hgR : g < W2.heap.size := by omega
  have hpR : W1.heap.size < W2.heap.size := by omega
  have hqR : W1.heap.size + 1 < W2.heap.size := by omega
  have hpu : W1.heap.size ≠ w.heap.size := by have := hb1.size; omega
  have hqu : W1.heap.size + 1 ≠ w.heap.size := by have := hb1.size; omega
  rw [hW2]
  clear hW2 hcell hb12 hbu hcv hb02
  have hlen : s.data.toList.length = s.size := (size_eq s).symm
  refine wpIn_rangeFunc_ownF hro (by decide) (gf := 113) (lb := #[.pointer (some ⟨W1.heap.size, 0, none⟩), .pointer (some ⟨W1.heap.size + 1, 0, none⟩)]) rfl trivial (enters_of Tryz.func113 (by kernel_rfl) rfl)
    (chunk_stops Fence.wide 7 trivial hro (by decide) W1.heap.size (W1.heap.size + 1) W2.heap.size w.heap.size g s.size cap hsc (by omega) hpR hqR hpu hqu W2 (Nat.le_refl _) hp1 hp2) KeR.trans ?kb (Below.refl _ _) (fun _ => rfl)
    (fun pre W => BuR 81 [] W2.heap.size w.heap.size (tapeL s.data.toList (pcs pre)) W ∧ KeR W2.heap.size w.heap.size W2 W)
    (fun _ _ _ => False)
    ?own
    (fun _ _ _ _ _ hs _ _ => hs)
    ⟨hB0, KeR.refl _ _ _⟩
    (fun x => { tmps := #[.string s, undef, .string { data := #[] }, .pointer (some ⟨w.heap.size, 0, none⟩), .slice (some ⟨g, 64 * x.1, none⟩) (pcN s.size x.1) (pcN s.size x.1), .string s, .slice (some ⟨g, 0, none⟩) s.size cap, .func (.func 113) #[] #[.pointer (some ⟨W1.heap.size, 0, none⟩), .pointer (some ⟨W1.heap.size + 1, 0, none⟩)], .slice (some ⟨g, 64 * x.1, none⟩) (pcN s.size x.1) (pcN s.size x.1), undef, undef, undef, undef, undef, undef, undef], defers := [] }) ?assign ?body ?done ?stop
  case kb =>
    intro W l o o' hl _ _ _
    exact ⟨by simp, fun k hk _ _ => World.putObj_heap_other (by omega), rfl, rfl, rfl⟩
  case own =>
    intro ys A B row hs hg hr
    exact ⟨hs.1.kept hg (fun r e => by obtain ⟨_, o, ho, hn⟩ := hr r e; exact ⟨o, ho, by rintro cs t fr rfl; simp [Obj.isCells] at hn⟩), hs.2.trans (KeR.grown hg hs.2.1 (fun r e => (hr r e).1))⟩
  case assign =>
    intro l x W K hK
    simp only [pcV]
    gi_wp2
    exact hK
  case body =>
    rintro l pre ⟨k, hk0⟩ W ⟨hb, hk⟩ hpl
    obtain ⟨L, hL⟩ : ∃ L, pieceL s.data.toList k = L := ⟨_, rfl⟩
    have hLn : pcN s.size k = L.length := by rw [← hL]; simp only [pieceL, pcN, List.length_take, List.length_drop]; omega
    have hL64 : L.length ≤ 64 := by rw [← hLn]; simp only [pcN]; omega
    have hcv : (convert 51 9 (.slice (some ⟨g, 64 * k, none⟩) L.length L.length)).run Tryz.prog W = .ok (.string (str L)) W := by
      refine run_convert_bytes_back W 51 9 5 ⟨g, 64 * k, none⟩ _ L Tryz.underlying51 Tryz.underlying5 Tryz.underlying9 fun j hj => ?_
      have hj2 : s.data.toList[64 * k + j]? = L[j]? := by
        rw [← hL, pieceL, List.getElem?_take_of_lt (by omega), List.getElem?_drop]
      rw [List.getElem?_eq_getElem hj] at hj2
      have h := hg2 _ _ hj2
      rw [Addr.add_lit]
      exact (World.cell?_of_block (hk.2 g hgR hgu (Nat.le_refl _))).trans h
    have hx := hexWord_any (str L) (by rw [str_size]; omega) W
    rw [str_data] at hx
    have hhl := hexL_len L
    obtain ⟨H, hH⟩ : ∃ H, hexL L = H := ⟨_, rfl⟩
    rw [hH] at hx hhl
    obtain ⟨y, hy⟩ : ∃ y, ({ data := #[116, 97, 112, 101, 32] } : ByteArray) ++ str H ++ ({ data := #[10] } : ByteArray) = y := ⟨_, rfl⟩
    have hyl : y.data.toList = [116, 97, 112, 101, 32] ++ H ++ [10] := by rw [← hy]; simp [str]
    have hys : y.size = H.length + 6 := by rw [size_eq, hyl]; simp
    have hz1 : ¬ 9223372036854775807 < 5 + (str H).size := by rw [str_size]; omega
    have hz2 : ¬ 9223372036854775807 < 5 + (str H).size + 1 := by rw [str_size]; omega
    have htl := tapeL_len s.data.toList (pcs pre)
    rw [pcs_len] at htl
    have hw := fun W' (h : Below W.heap.size W W') => rwrite_any okB W2.heap.size w.heap.size (tapeL s.data.toList (pcs pre)) y W' (hb.below h) (by omega) (Nat.le_trans hk.1 h.size)
    rw [hyl] at hw
    have HT : Hid (tapeL s.data.toList (pcs (pre ++ [⟨k, hk0⟩])) = tapeL s.data.toList (pcs pre) ++ ([116, 97, 112, 101, 32] ++ H ++ [10])) := by
      show _ = _
      rw [pcs_snoc, tapeL_snoc, hL, hH]
    dsimp only
    clear hyl hL hH
    gi_wp2_with (first
      | (refine ⟨trivial, ?_⟩; gi_at_call 72; refine (CallsIn.inRound l (callsIn_wide.2 hx)).mono ?_; clear hx; rintro e W3 ⟨rfl, hb3⟩; have hw3 := hw W3 hb3; clear hw)
      | (refine ⟨trivial, ?_⟩; gi_at_call 61; refine (CallsIn.inRound l (callsIn_wide.2 hw3)).mono ?_; clear hw3; rintro e W4 ⟨rfl, ⟨hb4, hk4⟩, ho4⟩))
    have hB3 := hb.below hb3
    have hKO : KeepsOthers W W4 := (KeepsOthers.of_below hb3).trans ⟨hk4.1, fun k o hk ho => ho4 k o (by
      rintro rfl
      obtain ⟨v, p, hv⟩ := hB3.there
      rw [hk] at hv
      rw [Option.some.inj hv] at ho
      cases ho) (fun cs fr e => by subst e; cases ho) hk⟩
    have hkk : KeR W2.heap.size w.heap.size W W4 := (KeR.below hb3).trans hk4
    exact ⟨hKO, hkk, by rw [HT.out]; exact hb4, hk.trans hkk⟩
  case done =>
    rintro D ys W hD hys ⟨hb, hk⟩ hK
    have HW : Hid (Below w.heap.size w W) := hbw2.trans (hk.out (by have := hbw2.size; omega) (Nat.le_refl _))
    have hst := rstring_any w.heap.size w.heap.size _ W (hb.bu (Nat.le_refl _))
    rw [hys] at hst
    have hDlt := (Array.getElem?_eq_some_iff.1 hK).1
    have hDw : w.heap.size ≤ D := by have := hbw2.size; omega
    gi_wp2_with (refine ⟨trivial, ?_⟩; gi_at_call 62; refine (callsIn_wide.2 hst).mono ?_; clear hst; rintro e W5 ⟨rfl, hb5, ho5⟩)
    have hK5 := ho5 D _ hK rfl
    refine ⟨by simp, .inl ⟨_, _, rfl, run_takeDeferred hK5, ?_⟩⟩
    exact ⟨_, results_tmp rfl _ _ _, rfl, (HW.out.trans hb5).trans (belowK_b (w := w) (Nat.le_refl _) W5 D _ _ hDw hK5 rfl rfl)⟩
  case stop =>
    rintro D c pre W _ _ h _
    exact h.elim
theorem tapeText_any (s : ByteArray) (hs : s.size ≤ 1048576) (w : World) :
    Calls Tryz.prog 35 #[.string s] w fun e w' => e = .returned (.string (str (tapeL s.data.toList (List.range ((s.size + 63) / 64))))) ∧ Below w.heap.size w w' := callsIn_wide.1 (tapeText_in s hs w)
theorem tapeLines_any (s : ByteArray) (hs : s.size ≤ 1048576) (w : World) :
    Calls Tryz.prog 33 #[.string s] w fun e w' => e = .returned (.int .i64 (((s.size + 63) / 64 : Nat) : Int)) ∧ w' = w := by
  obtain ⟨n, hn⟩ : ∃ n, s.size = n := ⟨_, rfl⟩
  rw [hn] at hs ⊢
  have h1 : ((n : Int) + 64 - 1).tdiv 64 = (((n + 63) / 64 : Nat) : Int) := by rw [Int.tdiv_eq_ediv_of_nonneg (by omega)]; omega
  have h2 : ((n : Int) + 64 - 1) / 64 = (((n + 63) / 64 : Nat) : Int) := by omega
  go_enter Tryz.func33, Tryz.ntmps33
  go_wp2
  go_ret
  exact ⟨by simp_all, rfl⟩
end
end Go.Proofs.YtlmopjbfagijeaaGreatDoor.Sc
