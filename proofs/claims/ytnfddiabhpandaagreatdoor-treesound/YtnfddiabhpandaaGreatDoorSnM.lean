import Derived.Test.YtnfddiabhpandaaGreatDoorToM
import Derived.Test.YtnfddiabhpandaaGreatDoorTrDo
import Derived.Test.YtnfddiabhpandaaGreatDoorTaM
namespace Go.Proofs.YtnfddiabhpandaaGreatDoor.Tr
open Go.RowKit Go.Lib Go.Deep Go.Shelf

def rsD (D : List (Option (Nat × ByteArray))) (ms : Nat → Nat) : List (Option (Nat × ByteArray × Nat)) := D.zipIdx.map fun r => r.1.map fun d => (d.1, d.2, ms r.2)
theorem rsD_len (D : List (Option (Nat × ByteArray))) (ms : Nat → Nat) : (rsD D ms).length = D.length := by simp [rsD]
theorem rsD_get (D : List (Option (Nat × ByteArray))) (ms : Nat → Nat) (k : Nat) : (rsD D ms)[k]? = (D[k]?).map fun o => o.map fun d => (d.1, d.2, ms k) := by
  simp [rsD, List.getElem?_map, List.getElem?_zipIdx, Option.map_map]
  rfl
theorem told_files (F : List (Option (Nat × ByteArray × Nat))) (L : List Nd) : f2 L (upto F F.length) = L ++ toldF F := by
  unfold f2 upto toldF
  rw [List.take_length, List.map_filterMap]
  congr 1
  congr 1
  funext r
  cases r.1 <;> rfl
theorem fm_congr {α β : Type} {f g : α → Option β} {l : List α} (h : ∀ x ∈ l, f x = g x) : l.filterMap f = l.filterMap g := by
  induction l with
  | nil => rfl
  | cons a l ih => rw [List.filterMap_cons, List.filterMap_cons, h a (by simp), ih fun x hx => h x (by simp [hx])]
theorem told_dirs (D : List (Option (Nat × ByteArray))) (ms : Nat → Nat) : f1 (upto (rsD D ms) (rsD D ms).length) = toldD D := by
  unfold f1 upto toldD
  rw [List.take_length, List.filterMap_filterMap]
  have e : (rsD D ms).zipIdx = D.zipIdx.map fun r => (r.1.map fun d => (d.1, d.2, ms r.2), r.2) := by
    apply List.ext_getElem?
    intro i
    rw [List.getElem?_zipIdx, rsD_get, List.getElem?_map, List.getElem?_zipIdx]
    cases D[i]? <;> simp
  rw [e, List.filterMap_map]
  cases D with
  | nil => rfl
  | cons a D =>
    rw [List.zipIdx_cons, List.filterMap_cons]
    have h0 : (((fun r : Option (Nat × ByteArray × Nat) × Nat => (r.1.map fun d => (⟨r.2, d.1, d.2.1, d.2.2⟩ : Cm)).bind fun x => if x.i = 0 then none else some (⟨1, x.i, x.p, x.n, 0⟩ : Nd)) ∘ fun r : Option (Nat × ByteArray) × Nat => (r.1.map fun d => (d.1, d.2, ms r.2), r.2)) (a, 0)) = none := by
      cases a <;> simp
    rw [h0]
    simp only [List.drop_succ_cons, List.drop_zero]
    apply fm_congr
    intro r hr
    have h1 : 1 ≤ r.2 := by
      obtain ⟨i, hi⟩ := List.mem_iff_getElem?.1 hr
      rw [List.getElem?_zipIdx] at hi
      cases hD : D[i]? with
      | none => rw [hD] at hi; cases hi
      | some o => rw [hD] at hi; simp at hi; rw [← hi]; (try simp); (try omega)
    cases hq : r.1 with
    | none => simp [hq]
    | some d =>
      have : ¬ r.2 = 0 := by omega
      simp [hq, this]
/-- what State answers -/
theorem rows_d {w : World} {q : Nat} {dv fv : Value} {ld lf : Nat} {ms : Nat → Nat} {nn : Nat} {T : Ts} (h : Inn w q dv fv ld lf ms nn T) : (w.cell? ⟨q, 1, none⟩ = some (.slice none 0 0) ∧ rsD T.D ms = [] ∧ q < w.heap.size) ∨ ∃ g cap, Rs_d w w.heap.size q g cap (rsD T.D ms) := by
  have hq := heap_lt h.hq
  rcases h.hd.2 with ⟨e1, e2⟩ | ⟨g, cap, cur, e1, e2, e3, e4⟩
  · left
    have hl : T.D = [] := List.eq_nil_of_length_eq_zero e2
    refine ⟨?_, ?_, hq⟩
    · rw [h.cells.2.1, e1]
    · rw [hl]; rfl
  · right
    have hd := h.hd'
    have c1 := h.cells.2.1
    rw [e1] at c1
    have hf : dv = .slice (some ⟨g, 0, none⟩) (dRows T.D ms).length cap := by rw [dRows_len]; exact e1
    rw [hf] at hd
    refine ⟨g, cap, by rw [rsD_len]; exact c1, hq, heap_lt e3, fun k hk => ?_, fun k p n x hk => ?_⟩
    · rw [rsD_get] at hk
      have hD : T.D[k]? = some none := by
        cases hh : T.D[k]? with
        | none => rw [hh] at hk; cases hk
        | some o => cases o with
          | none => rfl
          | some d => rw [hh] at hk; simp at hk
      exact rows_cells hd (i := k) (r := dRow none (ms k)) (by rw [dRows_get, hD]; rfl)
    · rw [rsD_get] at hk
      have hD : T.D[k]? = some (some (p, n)) ∧ ms k = x := by
        cases hh : T.D[k]? with
        | none => rw [hh] at hk; cases hk
        | some o => cases o with
          | none => rw [hh] at hk; simp at hk
          | some d =>
            rw [hh] at hk
            simp at hk
            obtain ⟨h1, h2, h3⟩ := hk
            subst h1
            subst h2
            exact ⟨rfl, h3⟩
      rw [← hD.2]
      exact rows_cells hd (i := k) (r := dRow (some (p, n)) (ms k)) (by rw [dRows_get, hD.1]; rfl)
theorem rows_f {w : World} {q : Nat} {dv fv : Value} {ld lf : Nat} {ms : Nat → Nat} {nn : Nat} {T : Ts} (h : Inn w q dv fv ld lf ms nn T) : (w.cell? ⟨q, 4, none⟩ = some (.slice none 0 0) ∧ T.F = [] ∧ q < w.heap.size) ∨ ∃ g cap, Rs_f w w.heap.size q g cap T.F := by
  have hq := heap_lt h.hq
  rcases h.hf.2 with ⟨e1, e2⟩ | ⟨g, cap, cur, e1, e2, e3, e4⟩
  · left
    have hl : T.F = [] := List.eq_nil_of_length_eq_zero e2
    refine ⟨?_, hl, hq⟩
    rw [h.cells.2.2.2.2.1, e1]
  · right
    have hd := h.hf'
    have c1 := h.cells.2.2.2.2.1
    rw [e1] at c1
    have hf : fv = .slice (some ⟨g, 0, none⟩) (fRows T.F).length cap := by rw [fRows_len]; exact e1
    rw [hf] at hd
    refine ⟨g, cap, c1, hq, heap_lt e3, fun k hk => ?_, fun k p n x hk => ?_⟩
    · exact rows_cells hd (i := k) (r := fRow none) (by rw [fRows_get, hk]; rfl)
    · exact rows_cells hd (i := k) (r := fRow (some (p, n, x))) (by rw [fRows_get, hk]; rfl)
theorem told_any (w : World) (q : Nat) (F : List Nat) (nn : Nat) (T : Ts) (hL : Lay w q F nn T) (hdr : 1 ≤ T.dr) :
    Calls Tryz.prog 35 #[.pointer (some ⟨q, 0, none⟩)] w fun e w' => ∃ v, e = .returned (.agg #[.int .i64 (T.fr : Int), .int .i64 ((T.dr : Int) - 1), v]) ∧ w'.ownsRow w.heap.size 50 5 v (told T).length (ndsc (told T)) ∧ Below w.heap.size w w' := by
  obtain ⟨dv, fv, ld, lf, ms, -, hI⟩ := hL
  have h1 := hI.lim
  have h2 := hI.dl
  have h3 := hI.fl
  have h := callsIn_wide.1 (told_in Fence.wide 3 trivial trivial trivial trivial trivial rfl rfl (Nat.le_refl _) q T.fr T.dr (rsD T.D ms) T.F (by rw [rsD_len]; omega) (by omega) hdr (by omega) w hI.cells.2.2.2.1 hI.cells.1 (rows_d hI) (rows_f hI))
  rw [told_dirs, told_files] at h
  exact h
set_option maxRecDepth 20000 in
set_option maxHeartbeats 1000000 in
theorem state_any (w : World) (b q : Nat) (F : List Nat) (nn : Nat) (T : Ts) (hbk : w.heap[b]? = some (.cells #[.pointer (some ⟨q, 0, none⟩)] 78 (0, 0))) (hL : Lay w q F nn T) (hdr : 1 ≤ T.dr) :
    Calls Tryz.prog 11 #[.pointer (some ⟨b, 0, none⟩)] w fun e w' => ∃ a k c, e = .returned (.agg #[.int .i64 (T.fr : Int), .int .i64 ((T.dr : Int) - 1), .slice a k c]) ∧ Hid (w'.ownsRow w.heap.size 50 5 (.slice a k c) (told T).length (ndsc (told T))) ∧ Below w.heap.size w w' := by
  obtain ⟨W, hW, hb, k0⟩ := one_new w #[.int .i64 0, .int .i64 0, .slice none 0 0] 28
  have htb : W.cell? ⟨b, 0, none⟩ = some (.pointer (some ⟨q, 0, none⟩)) := (cell_of_heap ((hb.block _ (heap_lt hbk)).trans hbk)).trans rfl
  have HT : Hid (Calls Tryz.prog 35 #[.pointer (some ⟨q, 0, none⟩)] W fun e w' => ∃ a k c, e = .returned (.agg #[.int .i64 (T.fr : Int), .int .i64 ((T.dr : Int) - 1), .slice a k c]) ∧ Hid (w'.ownsRow W.heap.size 50 5 (.slice a k c) (told T).length (ndsc (told T))) ∧ Below W.heap.size W w') := (told_any W q F nn T (hL.below hb) hdr).mono fun e w' ⟨v, h1, h2, h3⟩ => by
    rcases h2.2 with ⟨e1, e2⟩ | ⟨g, cap, cur, e1, _⟩
    · subst e1; exact ⟨_, _, _, h1, h2, h3⟩
    · subst e1; exact ⟨_, _, _, h1, h2, h3⟩
  have HK : Hid _ := k0
  have HB : Hid (Below w.heap.size w W) := hb
  have hsW : W.heap.size = w.heap.size + 1 := by rw [← hW]; simp
  have HSW : Hid (W.heap.size = w.heap.size + 1) := hsW
  clear hL hbk hb k0 hsW
  go_enter Tryz.func11, Tryz.ntmps11
  go_wp2_with fail
  refine (made_any W b q htb).mono ?_
  rintro e w2 ⟨rfl, rfl⟩
  go_wp2_with fail
  refine HT.out.mono ?_
  rintro e w3 ⟨a, k, c, rfl, HO, hb3⟩
  have HK3 : Hid (w3.heap[w.heap.size]? = some (.cells #[.int .i64 0, .int .i64 0, .slice none 0 0] 28 (0, 0))) := (hb3.block _ (heap_lt HK.out)).trans HK.out
  have HB3 : Hid (Below w.heap.size w w3) := below_on hb3 HB.out
  have r0 : w3.cell? ⟨w.heap.size, 0, none⟩ = some (.int .i64 0) := (cell_of_heap HK3.out).trans rfl
  have r1 : w3.cell? ⟨w.heap.size, 1, none⟩ = some (.int .i64 0) := (cell_of_heap HK3.out).trans rfl
  have r2 : w3.cell? ⟨w.heap.size, 2, none⟩ = some (.slice none 0 0) := (cell_of_heap HK3.out).trans rfl
  have fz : ∀ j, w3.frozen? ⟨w.heap.size, j, none⟩ = false := fun j => frozen_of_heap HK3.out
  clear hb3
  go_wp2_with fail
  refine bodyPost_ret (results_cell1 rfl _ _ w.heap.size 28 _ (0, 0) _ rfl (put3A HK3.out) Tryz.underlying28 rfl sizeTS) rfl ?_
  refine ⟨a, k, c, rfl, ?_, ((HB3.out.setCell (by simp) _).setCell (by simp) _).setCell (by simp) _⟩
  have hk := owns_keep HO.out (W' := ((w3.setCell ⟨w.heap.size, 0, none⟩ (.int .i64 (T.fr : Int))).setCell ⟨w.heap.size, 1, none⟩ (.int .i64 ((T.dr : Int) - 1))).setCell ⟨w.heap.size, 2, none⟩ (.slice a k c)) (fun g hg => by
    have n1 : g ≠ w.heap.size := by have := (HO.out.lt g hg).1; have := HSW.out; omega
    rw [heap_setCell_other _ _ _ _ n1, heap_setCell_other _ _ _ _ n1, heap_setCell_other _ _ _ _ n1])
  exact owns_base hk (by have := HSW.out; omega)

end Go.Proofs.YtnfddiabhpandaaGreatDoor.Tr

namespace Go.Proofs.YtnfddiabhpandaaGreatDoor.Tr
open Go.RowKit Go.Lib Go.Deep

def bareT (f d m : Nat) : Ts := ⟨f, d + 1, m, [], [], fun _ _ => none⟩
abbrev nilV : Value := .slice none 0 0
theorem bare_inn (w : World) (f d m : Nat) (hf : f ≤ 65536) (hd : d ≤ 4096) (hm : m ≤ 65536) : Inn (w.alloc (.cells (stA (bareT f d m) nilV nilV 0 0) 125)) w.heap.size nilV nilV 0 0 (fun _ => 0) 0 (bareT f d m) :=
  ⟨heap_new w _, World.ownsRow_nil _ _ _ _, World.ownsRow_nil _ _ _ _, fun i e h => (by simp [bareT] at h), fun i j d e h => (by simp [bareT] at h), fun i h => absurd h (by omega), fun i h => absurd h (by omega), Nat.zero_le _, Nat.zero_le _, Nat.zero_le _, Nat.zero_le _, ⟨hf, by show d + 1 ≤ 4097; omega, hm⟩⟩
theorem set_bare (f d m : Nat) : setD (bareT f d m) (lowL (bareT f d m).D) (some (0, e0)) = newT f d m := rfl
set_option maxRecDepth 20000 in
set_option maxHeartbeats 1000000 in
theorem newState_any (w : World) (f d m : Nat) (hf : f ≤ 65536) (hd : d ≤ 4096) (hm : m ≤ 65536) :
    Calls Tryz.prog 44 #[.int .i64 (f : Int), .int .i64 (d : Int), .int .i64 (m : Int)] w fun e w' => ∃ q, e = .returned (.pointer (some ⟨q, 0, none⟩)) ∧ w.heap.size ≤ q ∧ Hid (∃ F, Lay w' q F 0 (newT f d m) ∧ ∀ k, k ∈ F → w.heap.size ≤ k) ∧ Below w.heap.size w w' := by
  obtain ⟨W1, hW1, hb1, k1⟩ := one_new w (stA (bareT f d m) nilV nilV 0 0) 125
  have hI : Inn W1 w.heap.size nilV nilV 0 0 (fun _ => 0) 0 (bareT f d m) := hW1 ▸ bare_inn w f d m hf hd hm
  have hwd : IntKind.i64.wrap ((d : Int) + 1) = (d : Int) + 1 := by rw [IntKind.wrap_i64]; omega
  have HCL : Hid (∀ (wd : World) (mm : Nat), W1.heap.size ≤ mm → wd.ownsMap Tryz.prog 9 nodeR mm 0 (.map []) → Below W1.heap.size W1 wd → Calls Tryz.prog 73 #[.pointer (some ⟨w.heap.size, 0, none⟩), .int .i64 0, .agg #[.int .i64 0, .string e0, .map (some mm)]] wd fun e w' => e = .returned (.bool true) ∧ Hid (Turn (fp w.heap.size nilV nilV (bareT f d m).D (fun _ => 0)) W1 w' w.heap.size 0 (newT f d m))) := fun wd mm h1 h2 h3 => by
    have hIb := hI.below h3
    refine (claim_d wd w.heap.size (d + 1) (stA (bareT f d m) nilV nilV 0 0) nilV [] hIb.hq rfl rfl hIb.hd (by decide) 0 (Nat.le_refl _) (fun r h => (by cases h)) (by omega) (by omega) 0 e0 (some mm)).mono ?_
    rintro e w' ⟨rfl, v', hC⟩
    refine ⟨rfl, ?_⟩
    have := lay_giveD hI h3 h1 h2 rfl (by show 0 < d + 1; omega) (0, e0) (dv' := v') (W := w') hC
    rw [set_bare] at this
    exact this
  have HB : Hid (Below w.heap.size w W1) := hb1
  have HF : Hid (∀ k, k ∈ fp w.heap.size nilV nilV (bareT f d m).D (fun _ => 0) → w.heap.size ≤ k) := fun k hk => by
    rcases mem_fp.1 hk with rfl | h | h | ⟨i, x, h, _⟩
    · exact Nat.le_refl _
    · cases h
    · cases h
    · simp [bareT] at h
  have HFW : Hid (∀ w', Only (fp w.heap.size nilV nilV (bareT f d m).D (fun _ => 0)) W1 w' → Below w.heap.size w w') := fun w' ho => ⟨ho.os.trans HB.out.os, ho.tape.trans HB.out.tape, ho.output.trans HB.out.output, Nat.le_trans HB.out.size ho.size, fun k hk => (ho.block k (Nat.lt_of_lt_of_le hk HB.out.size) (fun hm => by have := HF.out k hm; omega)).trans (HB.out.block k hk)⟩
  have hnd := newDir_any W1.drew 0 e0
  have hW1' : w.alloc (.cells #[.int .i64 ((d : Int) + 1), .slice none 0 0, .int .i64 0, .int .i64 (f : Int), .slice none 0 0, .int .i64 0, .int .i64 (m : Int)] 125) = W1 := hW1
  clear hW1 hI hb1 k1
  go_enter Tryz.func44, Tryz.ntmps44
  go_wp2_with fail
  go_region_with (first | (go_at_call 73; refine (HCL.out _ _ hm5 hmo5 (((Below.refl W1.heap.size W1).drew).trans hb5)).mono ?_; rintro e w4 ⟨rfl, HT4⟩) | (go_at_call 74; refine hnd.mono ?_; rintro e wd ⟨mm, rfl, hm5, hmo5, hb5⟩))
  all_goals
    go_wp2
    go_ret
    obtain ⟨ho, F', hL, hk⟩ := HT4.out
    refine ⟨w.heap.size, rfl, Nat.le_refl _, ⟨F', hL, fun k hm => ?_⟩, HFW.out _ ho⟩
    rcases hk k hm with h | h
    · exact HF.out k h
    · exact Nat.le_trans HB.out.size h
set_option maxRecDepth 20000 in
theorem isRoom_any (w : World) (f d : Nat) (hf1 : 1 ≤ f) (hf : f ≤ 65536) (hd : d ≤ 4096) : Calls Tryz.prog 43 #[.int .i64 (f : Int), .int .i64 (d : Int)] w fun e w' => e = .returned (.bool true) ∧ w' = w := by
  have h1 : (1 : Int) ≤ (f : Int) := by omega
  have h2 : (f : Int) ≤ 65536 := by omega
  have h3 : (0 : Int) ≤ (d : Int) := by omega
  have h4 : (d : Int) ≤ 4096 := by omega
  go_enter Tryz.func43, Tryz.ntmps43
  go_wp2
  go_ret
  exact ⟨rfl, rfl⟩
set_option maxRecDepth 20000 in
theorem isMost_any (w : World) (m : Nat) (hm : m ≤ 65536) : Calls Tryz.prog 42 #[.int .i64 (m : Int)] w fun e w' => e = .returned (.bool true) ∧ w' = w := by
  have h3 : (0 : Int) ≤ (m : Int) := by omega
  have h4 : (m : Int) ≤ 65536 := by omega
  go_enter Tryz.func42, Tryz.ntmps42
  go_wp2
  go_ret
  exact ⟨rfl, rfl⟩
/-- a tree in memory: what is its own (F) lies beyond B -/
structure Tre (w : World) (B b q nn : Nat) (T : Ts) : Prop where
  hb : w.heap[b]? = some (.cells #[.pointer (some ⟨q, 0, none⟩)] 78 (0, 0))
  hB : B ≤ b
  lay : ∃ F, Lay w q F nn T ∧ ∀ k, k ∈ F → B ≤ k
theorem Tre.below {w W : World} {B b q nn : Nat} {T : Ts} (h : Tre w B b q nn T) (hb : Below w.heap.size w W) : Tre W B b q nn T := by
  obtain ⟨F, h1, h2⟩ := h.lay
  exact ⟨(hb.block _ (heap_lt h.hb)).trans h.hb, h.hB, F, h1.below hb, h2⟩
set_option maxRecDepth 20000 in
set_option maxHeartbeats 1000000 in
theorem new_any (w : World) (f d m : Nat) (hf1 : 1 ≤ f) (hf : f ≤ 65536) (hd : d ≤ 4096) (hm : m ≤ 65536) :
    Calls Tryz.prog 33 #[.int .i64 (f : Int), .int .i64 (d : Int), .int .i64 (m : Int)] w fun e w' => ∃ b q, e = .returned (.tuple #[.pointer (some ⟨b, 0, none⟩), .int .i64 0]) ∧ Hid (Tre w' w.heap.size b q 0 (newT f d m)) ∧ Below w.heap.size w w' := by
  have h1 := isRoom_any w f d hf1 hf hd
  have h2 := isMost_any w m hm
  have h3 := newState_any w f d m hf hd hm
  go_enter Tryz.func33, Tryz.ntmps33
  go_wp2_with fail
  refine h1.mono ?_
  rintro e w1 ⟨rfl, rfl⟩
  go_wp2_with fail
  refine h2.mono ?_
  rintro e w1 ⟨rfl, rfl⟩
  go_wp2_with fail
  refine h3.mono ?_
  rintro e w1 ⟨q, rfl, hq, HL, hb⟩
  go_wp2
  go_ret2
  obtain ⟨F, hL, hk⟩ := HL.out
  have hb' := (Below.refl w1.heap.size w1).alloc (Nat.le_refl _) (.cells #[.pointer (some ⟨q, 0, none⟩)] 78)
  exact ⟨w1.heap.size, q, rfl, ⟨heap_new w1 _, hb.size, F, hL.below hb', hk⟩, below_on hb' hb⟩

end Go.Proofs.YtnfddiabhpandaaGreatDoor.Tr
