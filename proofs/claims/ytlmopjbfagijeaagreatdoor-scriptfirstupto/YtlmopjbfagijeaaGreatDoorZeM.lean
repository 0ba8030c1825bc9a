import Derived.Test.YtlmopjbfagijeaaGreatDoorZdM
import Derived.Test.YtlmopjbfagijeaaGreatDoorSyT
import Derived.Test.YtlmopjbfagijeaaGreatDoorYeM
import Derived.Laws.AppendOwn
namespace Go.Proofs.YtlmopjbfagijeaaGreatDoor.Sc
open Go.RowKit Go.Lib Go.Deep
open Go.Proofs.YtlmopjbfagijeaaGreatDoor.Sq (See wpList_app see_own see_one owns_form owns_form2 one_new grown_base owns_keep owns_below owns_base owns_block own_cap)

theorem toldAV_form (x : ByteArray) (r : List ByteArray) : ∃ (kd : Int) (o : ActR) (cd : Int), toldAV (x :: r) = .tuple #[.int .i64 kd, .agg o.cells, .int .i64 cd] ∧ 0 ≤ cd ∧ cd < 1000 := by
  cases h : fmOf actTab x with
  | none => exact ⟨0, zA, 222, toldAV_none h, by decide, by decide⟩
  | some f =>
    rw [toldAV_some h]
    split
    · exact ⟨0, zA, 223, rfl, by decide, by decide⟩
    · split
      · exact ⟨0, zA, 224, rfl, by decide, by decide⟩
      · exact ⟨_, _, 0, rfl, by decide, by decide⟩
set_option maxRecDepth 20000 in
set_option maxHeartbeats 1000000 in
theorem ract_no (B rb : Nat) (pl sd : Int) (q : PlR) (p v : Value) (x : ByteArray) (r : List ByteArray) (hs : ∀ y ∈ x :: r, y.size ≤ 8388608) (hlen : (x :: r).length ≤ 8388608) (kd : Int) (o : ActR) (cd : Int) (ht : toldAV (x :: r) = .tuple #[.int .i64 kd, .agg o.cells, .int .i64 cd]) (hcd : cd ≠ 0) (_ : 0 ≤ cd ∧ cd < 1000) (b off c : Nat) (w : World) (h : Rb rb pl sd q p v w) (hl : Ls (x :: r) b off c w) (hG : GlB B w) :
    Calls Tryz.prog 117 #[.pointer (some ⟨rb, 0, none⟩), .slice (some ⟨b, off, none⟩) (x :: r).length c] w fun e w' => e = .returned (.int .i64 cd) ∧ Rb rb pl sd q p v w' ∧ Below w.heap.size w w' := by
  have hcI : (cd != 0) = true := by simpa using hcd
  obtain ⟨w1, hw1⟩ : ∃ w1, w.alloc (.cells (tabC actTab) 110) = w1 := ⟨_, rfl⟩
  have hb1 : Below w.heap.size w w1 := by rw [← hw1]; exact (Below.refl _ _).alloc (Nat.le_refl _) _
  have hg1 : w1.heap[w.heap.size]? = some (.cells (tabC actTab) 110 (0, 0)) := by rw [← hw1]; exact heap_alloc_new _ _
  have hl1 := hl.below hb1
  have hac := acts_any w
  rw [hw1] at hac
  have htl := toldA_any B x r hs b off c w.heap.size hl1.cap hlen w1 hl1.at_ hl1.ty hg1 (hG.to (hb1.mono hG.le))
  rw [ht] at htl
  unfold ActR.cells at htl
  have HR : Hid (Rb rb pl sd q p v w ∧ Below w.heap.size w w1) := ⟨h, hb1⟩
  clear hl1 hl h hb1 hg1 hw1 ht hs
  go_enter Tryz.func117, Tryz.ntmps117
  go_wp2_with (go_at_call 25; refine hac.mono ?_; rintro e u1 ⟨rfl, rfl⟩; clear hac)
  refine htl.mono ?_
  rintro e w2 ⟨rfl, hb2⟩
  have HB2 : Hid (Below w.heap.size w w2) := HR.out.2.trans (hb2.mono HR.out.2.size)
  clear htl hb2
  go_wp2
  go_ret
  have hb3 : Below w2.heap.size w2 (w2.alloc (.cells #[.int .i64 o.kind, .slice o.ops o.nops o.cops, .int .i64 o.i, .int .i64 o.before, .int .i64 o.ek, .int .i64 o.put, .int .i64 o.frm, .string o.name, .string o.blob] 36)) := (Below.refl _ _).alloc (Nat.le_refl _) _
  have hb4 := HB2.out.trans (hb3.mono HB2.out.size)
  exact ⟨rfl, HR.out.1.only (S := []) ⟨hb4.os, hb4.tape, hb4.output, hb4.size, fun k hk _ => hb4.block k hk⟩ (by simp), hb4⟩
/-- what an act leaves: its list grown by one, of the reader two cells -/
structure Fr (rb : Nat) (ob : Option Nat) (w w' : World) : Prop where
  os : w'.os = w.os
  tape : w'.tape = w.tape
  output : w'.output = w.output
  size : w.heap.size ≤ w'.heap.size
  blk : ∀ k, k < w.heap.size → k ≠ rb → ob ≠ some k → w'.heap[k]? = w.heap[k]?
theorem Rb.set11 {rb : Nat} {pl sd : Int} {q : PlR} {p v : Value} {w : World} (h : Rb rb pl sd q p v w) (a : Option Addr) (n c : Nat) : Rb rb pl sd { q with acts := a, nacts := n, cacts := c } p v (w.setCell ⟨rb, 11, none⟩ (.slice a n c)) := by
  unfold Rb at h ⊢
  simp [World.setCell, Array.getElem?_modify, h, RdrC]
theorem Rb.grown {rb : Nat} {pl sd : Int} {q : PlR} {p v : Value} {w w' : World} {B e sz n : Nat} {y : Value} {xs : List Value} (h : Rb rb pl sd q p v w) (hg : w.grownBy w' y.ownBlock) (ho : w.ownsRow B e sz y n xs) (hne : e ≠ 83) : Rb rb pl sd q p v w' :=
  (hg.block rb h.lt (fun e1 => by
    obtain ⟨c2, q2⟩ := owns_block ho e1.symm
    have h0 : w.heap[rb]? = _ := h
    rw [q2] at h0
    injection h0 with h0
    injection h0 with _ q3 _
    exact hne q3)).trans h
theorem Rb.keeps {rb : Nat} {pl sd : Int} {q : PlR} {p v : Value} {w : World} {B e sz n : Nat} {y : Value} {xs : List Value} (h : Rb rb pl sd q p v w) (ho : w.ownsRow B e sz y n xs) (hne : e ≠ 83) (j : Nat) (u : Value) : (w.setCell ⟨rb, j, none⟩ u).ownsRow B e sz y n xs :=
  owns_keep ho fun g hg => Below.heap_setCell _ _ _ _ (fun e1 => by
    obtain ⟨c2, q2⟩ := owns_block ho hg
    have h0 : w.heap[rb]? = _ := h
    rw [show g = rb from e1] at q2
    rw [q2] at h0
    injection h0 with h0
    injection h0 with _ q3 _
    exact hne q3)
theorem Fr.of {rb : Nat} {ob : Option Nat} {w w1 w2 : World} (h : Below w.heap.size w w1) (hg : w1.grownBy w2 ob) : Fr rb ob w w2 :=
  ⟨hg.os.trans h.os, hg.tape.trans h.tape, hg.output.trans h.output, Nat.le_trans h.size hg.size, fun k hk _ ho => (hg.block k (Nat.lt_of_lt_of_le hk h.size) (fun e1 => ho e1.symm)).trans (h.block k hk)⟩
theorem Fr.set {rb : Nat} {ob : Option Nat} {w w1 : World} (h : Fr rb ob w w1) (j : Nat) (u : Value) : Fr rb ob w (w1.setCell ⟨rb, j, none⟩ u) :=
  ⟨h.os, h.tape, h.output, by simpa using h.size, fun k hk hn ho => (Below.heap_setCell _ _ _ _ hn).trans (h.blk k hk hn ho)⟩
set_option maxRecDepth 20000 in
set_option maxHeartbeats 1000000 in
theorem ract_ok (B rb : Nat) (pl sd : Int) (q : PlR) (p v : Value) (As : List ActR) (x : ByteArray) (r : List ByteArray) (hs : ∀ y ∈ x :: r, y.size ≤ 8388608) (hlen : (x :: r).length ≤ 8388608) (kd : Int) (o : ActR) (ht : toldAV (x :: r) = .tuple #[.int .i64 kd, .agg o.cells, .int .i64 0]) (b off c : Nat) (_ : B ≤ rb) (w : World) (h : Rb rb pl sd q p v w) (hq : q.nacts ≤ 1048576) (hown : w.ownsRow B 36 9 (.slice q.acts q.nacts q.cacts) q.nacts (actsC As)) (hl : Ls (x :: r) b off c w) (hG : GlB B w) :
    Calls Tryz.prog 117 #[.pointer (some ⟨rb, 0, none⟩), .slice (some ⟨b, off, none⟩) (x :: r).length c] w fun e w' => ∃ (a' : Option Addr) (c' : Nat), e = .returned (.int .i64 0) ∧ Rb rb (if kd = 3 then 4 else pl) sd { q with acts := a', nacts := q.nacts + 1, cacts := c' } p v w' ∧ w'.ownsRow B 36 9 (.slice a' (q.nacts + 1) c') (q.nacts + 1) (actsC (As ++ [{ o with kind := kd }])) ∧ Fr rb (Value.slice q.acts q.nacts q.cacts).ownBlock w w' := by
  obtain ⟨w1, hw1⟩ : ∃ w1, w.alloc (.cells (tabC actTab) 110) = w1 := ⟨_, rfl⟩
  have hb1 : Below w.heap.size w w1 := by rw [← hw1]; exact (Below.refl _ _).alloc (Nat.le_refl _) _
  have hg1 : w1.heap[w.heap.size]? = some (.cells (tabC actTab) 110 (0, 0)) := by rw [← hw1]; exact heap_alloc_new _ _
  have hl1 := hl.below hb1
  have hac := acts_any w
  rw [hw1] at hac
  have htl := toldA_any B x r hs b off c w.heap.size hl1.cap hlen w1 hl1.at_ hl1.ty hg1 (hG.to (hb1.mono hG.le))
  rw [ht] at htl
  unfold ActR.cells at htl
  have HR : Hid (Rb rb pl sd q p v w ∧ Below w.heap.size w w1 ∧ B ≤ w.heap.size) := ⟨h, hb1, hG.le⟩
  have HOW : Hid (w.ownsRow B 36 9 (.slice q.acts q.nacts q.cacts) q.nacts (actsC As)) := hown
  obtain ⟨n, hn⟩ : ∃ n, q.nacts = n := ⟨_, rfl⟩
  have HN : Hid (q.nacts = n) := hn
  rw [hn] at hq
  clear hl1 hl h hb1 hg1 hw1 ht hs hown hn
  go_enter Tryz.func117, Tryz.ntmps117
  go_wp2_with (go_at_call 25; refine hac.mono ?_; rintro e u1 ⟨rfl, rfl⟩; clear hac)
  refine htl.mono ?_
  rintro e w2 ⟨rfl, hb2⟩
  have HB2 : Hid (Below w.heap.size w w2) := HR.out.2.1.trans (hb2.mono HR.out.2.1.size)
  clear htl hb2
  obtain ⟨w3, hw3⟩ : ∃ w3, w2.alloc (.cells #[.int .i64 o.kind, .slice o.ops o.nops o.cops, .int .i64 o.i, .int .i64 o.before, .int .i64 o.ek, .int .i64 o.put, .int .i64 o.frm, .string o.name, .string o.blob] 36) = w3 := ⟨_, rfl⟩
  have hb3 : Below w2.heap.size w2 w3 := by rw [← hw3]; exact (Below.refl _ _).alloc (Nat.le_refl _) _
  have ha3 : ActAt w3 w2.heap.size o := by rw [← hw3]; exact heap_alloc_new _ _
  have a0 : w3.cell? ⟨w2.heap.size, 0, none⟩ = some (.int .i64 o.kind) := ha3.nine.1
  have af : w3.frozen? ⟨w2.heap.size, 0, none⟩ = false := ha3.frozen 0
  have HB3 : Hid (Below w.heap.size w w3 ∧ ActAt w3 w2.heap.size o) := ⟨HB2.out.trans (hb3.mono HB2.out.size), ha3⟩
  have HW3 : Hid (Unit → _ = w3) := fun _ => hw3
  clear hw3 hb3 ha3
  obtain ⟨W4, hW4⟩ : ∃ W4, w3.setCell ⟨w2.heap.size, 0, none⟩ (.int .i64 kd) = W4 := ⟨_, rfl⟩
  have hb4 : Below w.heap.size w W4 := by rw [← hW4]; exact HB3.out.1.setCell (p := ⟨w2.heap.size, 0, none⟩) HB2.out.size _
  have ha4 : ActAt W4 w2.heap.size { o with kind := kd } := by
    have h := HB3.out.2
    rw [← hW4]
    unfold ActAt at h ⊢
    simp [World.setCell, Array.getElem?_modify, h, ActR.cells]
  have HW4 : Hid (Unit → _ = W4) := fun _ => hW4
  clear hW4
  go_upto_region 4 with fail
  rw [HW3.out ()]
  clear HW3
  go_upto_region 5 with fail
  rw [HW4.out ()]
  clear HW4 a0 af
  obtain ⟨a0, a1, a2, a3, a4, a5, a6, a7, a8⟩ := ha4.nine
  dsimp only at a0 a1 a2 a3 a4 a5 a6 a7 a8
  obtain ⟨W5, hW5, hb5, -⟩ := one_new W4 #[.int .i64 kd, .slice o.ops o.nops o.cops, .int .i64 o.i, .int .i64 o.before, .int .i64 o.ek, .int .i64 o.put, .int .i64 o.frm, .string o.name, .string o.blob] 36
  have hb45 : Below w.heap.size w W5 := hb4.trans (hb5.mono hb4.size)
  have HR4 : Hid (Rb rb pl sd q p v W4) := HR.out.1.only (S := []) ⟨hb4.os, hb4.tape, hb4.output, hb4.size, fun k hk _ => hb4.block k hk⟩ (by simp)
  have HR5 : Hid (Rb rb pl sd q p v W5) := HR.out.1.only (S := []) ⟨hb45.os, hb45.tape, hb45.output, hb45.size, fun k hk _ => hb45.block k hk⟩ (by simp)
  have HO5 : Hid (W5.ownsRow B 36 9 (.slice q.acts n q.cacts) n (actsC As)) := by
    have h := HOW.out
    rw [HN.out] at h
    exact owns_below h hb45
  have r11 : W4.cell? ⟨rb, 11, none⟩ = some (.slice q.acts n q.cacts) := by
    have h := HR4.out.cells.2.2.2.2.2.2.2.2.2.2.1
    rw [HN.out] at h
    exact h
  have r11b : W5.cell? ⟨rb, 11, none⟩ = some (.slice q.acts n q.cacts) := by
    have h := HR5.out.cells.2.2.2.2.2.2.2.2.2.2.1
    rw [HN.out] at h
    exact h
  have r11c : W4.drew.cell? ⟨rb, 11, none⟩ = some (.slice q.acts n q.cacts) := r11
  have r11d : W5.drew.cell? ⟨rb, 11, none⟩ = some (.slice q.acts n q.cacts) := r11b
  have b0 : W4.drew.cell? ⟨w2.heap.size, 0, none⟩ = _ := a0
  have b1 : W4.drew.cell? ⟨w2.heap.size, 1, none⟩ = _ := a1
  have b2 : W4.drew.cell? ⟨w2.heap.size, 2, none⟩ = _ := a2
  have b3 : W4.drew.cell? ⟨w2.heap.size, 3, none⟩ = _ := a3
  have b4 : W4.drew.cell? ⟨w2.heap.size, 4, none⟩ = _ := a4
  have b5 : W4.drew.cell? ⟨w2.heap.size, 5, none⟩ = _ := a5
  have b6 : W4.drew.cell? ⟨w2.heap.size, 6, none⟩ = _ := a6
  have b7 : W4.drew.cell? ⟨w2.heap.size, 7, none⟩ = _ := a7
  have b8 : W4.drew.cell? ⟨w2.heap.size, 8, none⟩ = _ := a8
  have HO5d : Hid (W5.drew.ownsRow B 36 9 (.slice q.acts n q.cacts) n (actsC As)) := by
    have h := HO5.out
    exact h
  have HNd : Hid (∀ (i : Nat) u, ([.int .i64 kd, .slice o.ops o.nops o.cops, .int .i64 o.i, .int .i64 o.before, .int .i64 o.ek, .int .i64 o.put, .int .i64 o.frm, .string o.name, .string o.blob] : List Value)[i]? = some u → W5.drew.cell? ((⟨W4.heap.size, 0, none⟩ : Addr).add i) = some u) := by
    show ∀ i u, _
    intro i u hu
    rw [← hW5]
    exact cells_new W4 #[.int .i64 kd, .slice o.ops o.nops o.cops, .int .i64 o.i, .int .i64 o.before, .int .i64 o.ek, .int .i64 o.put, .int .i64 o.frm, .string o.name, .string o.blob] 36 i u (by simpa using hu)
  have HRd : Hid (Rb rb pl sd q p v W5.drew) := by
    have h := HR5.out
    exact h
  have hz : n + 1 ≤ maxLen ∧ (n + 1) * 104 ≤ 140737488355328 ∧ B ≤ W5.drew.heap.size := ⟨by unfold maxLen; omega, by omega, Nat.le_trans HR.out.2.2 hb45.size⟩
  have HB5 : Hid (Below w.heap.size w W5) := hb45
  obtain ⟨i0, hi0, hz0, hz1, hz2⟩ := info_parts infoAct
  clear hb4 ha4 hb5 hb45 HR4 HB3
  go_wp2_with fail
  go_region_law (refine step_append_own rfl (.tmp 25) (.tmp 27) 22 rfl B 36 i0 _ 9 104 Tryz.underlying22 hi0 hz0 hz1 hz2 rfl (by decide) _ _ _ (by simp [Act.eval]) HO5d.out ⟨W4.heap.size, 0, none⟩ 1 1 [.int .i64 kd, .slice o.ops o.nops o.cops, .int .i64 o.i, .int .i64 o.before, .int .i64 o.ek, .int .i64 o.put, .int .i64 o.frm, .string o.name, .string o.blob] (by simp [Act.eval]) rfl HNd.out (by simp [Value.oneCell']) hz.1 hz.2.1 hz.2.2 ?_; intro v' w8 hown8 hgrow8; obtain ⟨a8', c8', rfl⟩ := owns_form hown8; have HO8 : Hid _ := hown8; have HG8 : Hid _ := hgrow8; have HR8 : Hid (Rb rb pl sd q p v w8) := HRd.out.grown hgrow8 HO5d.out (by decide); obtain ⟨h0', -, -, -, -, -, -, -, -, -, h11', hf'⟩ := HR8.out.cells; rw [HN.out] at h11'; clear hown8 hgrow8)
  all_goals
    have HG8w : Hid (W5.grownBy w8 (Value.slice q.acts n q.cacts).ownBlock) := ⟨HG8.out.os, HG8.out.tape, HG8.out.output, HG8.out.size, HG8.out.block⟩
    have HR9 : Hid (Rb rb pl sd { q with acts := a8', nacts := n + 1, cacts := c8' } p v (w8.setCell ⟨rb, 11, none⟩ (.slice a8' (n + 1) c8'))) := HR8.out.set11 _ _ _
    have HO9 : Hid ((w8.setCell ⟨rb, 11, none⟩ (.slice a8' (n + 1) c8')).ownsRow B 36 9 (.slice a8' (n + 1) c8') (n + 1) (actsC As ++ [.int .i64 kd, .slice o.ops o.nops o.cops, .int .i64 o.i, .int .i64 o.before, .int .i64 o.ek, .int .i64 o.put, .int .i64 o.frm, .string o.name, .string o.blob])) := HR8.out.keeps HO8.out (by decide) 11 _
    have HF9 : Hid (Fr rb (Value.slice q.acts n q.cacts).ownBlock w (w8.setCell ⟨rb, 11, none⟩ (.slice a8' (n + 1) c8'))) := (Fr.of HB5.out HG8w.out).set 11 _
    clear HO8 HG8 HG8w HR8 h0' h11' hf' HRd HNd HO5d HO5 HR5 HB5 r11 r11b r11c r11d a0 a1 a2 a3 a4 a5 a6 a7 a8 b0 b1 b2 b3 b4 b5 b6 b7 b8 hz hW5
    obtain ⟨W9, hW9⟩ : ∃ W9, w8.setCell ⟨rb, 11, none⟩ (.slice a8' (n + 1) c8') = W9 := ⟨_, rfl⟩
    rw [hW9] at HR9 HO9 HF9 ⊢
    clear hW9
    obtain ⟨k0, -, -, -, -, -, -, -, -, -, -, fz⟩ := HR9.out.cells
    rw [show actsC As ++ [.int .i64 kd, .slice o.ops o.nops o.cops, .int .i64 o.i, .int .i64 o.before, .int .i64 o.ek, .int .i64 o.put, .int .i64 o.frm, .string o.name, .string o.blob] = actsC (As ++ [{ o with kind := kd }]) by simp [actsC, ActR.cells], ← HN.out] at HO9
    rw [← HN.out] at HR9 HF9
    by_cases hk : kd = 3
    · subst hk
      have HE : Hid (Rb rb 4 sd { q with acts := a8', nacts := q.nacts + 1, cacts := c8' } p v (W9.setCell ⟨rb, 0, none⟩ (.int .i64 4)) ∧ ((W9.setCell ⟨rb, 0, none⟩ (.int .i64 4))).ownsRow B 36 9 (.slice a8' (q.nacts + 1) c8') (q.nacts + 1) (actsC (As ++ [{ o with kind := (3 : Int) }])) ∧ Fr rb (Value.slice q.acts q.nacts q.cacts).ownBlock w ((W9.setCell ⟨rb, 0, none⟩ (.int .i64 4)))) := ⟨HR9.out.set0 4, HR9.out.keeps HO9.out (by decide) 0 _, HF9.out.set 0 _⟩
      clear HR9 HO9 HF9
      go_wp2
      go_ret
      exact ⟨rfl, a8', c8', HE.out⟩
    · have hkB : (kd == 3) = false := by simpa using hk
      have HE : Hid (Rb rb pl sd { q with acts := a8', nacts := q.nacts + 1, cacts := c8' } p v W9 ∧ (W9).ownsRow B 36 9 (.slice a8' (q.nacts + 1) c8') (q.nacts + 1) (actsC (As ++ [{ o with kind := kd }])) ∧ Fr rb (Value.slice q.acts q.nacts q.cacts).ownBlock w (W9)) := ⟨HR9.out, HO9.out, HF9.out⟩
      clear HR9 HO9 HF9
      go_wp2
      go_ret
      exact ⟨rfl, a8', c8', HE.out⟩
end Go.Proofs.YtlmopjbfagijeaaGreatDoor.Sc

namespace Go.Proofs.YtlmopjbfagijeaaGreatDoor.Sc
open Go.RowKit Go.Lib Go.Deep
open Go.Proofs.YtlmopjbfagijeaaGreatDoor.Sq (See wpList_app see_own see_one owns_form owns_form2 one_new grown_base owns_keep owns_below owns_base owns_block own_cap)

theorem toldOV_form (x : ByteArray) (r : List ByteArray) : ∃ (kd : Int) (o : OpR) (cd : Int), toldOV (x :: r) = .tuple #[.int .i64 kd, .agg o.cells, .int .i64 cd] ∧ 0 ≤ cd ∧ cd < 1000 := by
  cases h : fmOf opTab x with
  | none => exact ⟨0, zeroP, 222, toldOV_none h, by decide, by decide⟩
  | some f =>
    rw [toldOV_some h]
    split
    · exact ⟨0, zeroP, 223, rfl, by decide, by decide⟩
    · split
      · exact ⟨0, zeroP, 224, rfl, by decide, by decide⟩
      · exact ⟨_, _, 0, rfl, by decide, by decide⟩
def endW : ByteArray := { data := #[101, 110, 100] }
theorem ne_end {x : ByteArray} (h : x ≠ endW) : (x.toList == ([101, 110, 100] : List UInt8)) = false := by
  have h := neW h
  unfold endW at h
  rwa [ByteArray.toList_eq ({ data := #[101, 110, 100] } : ByteArray)] at h
set_option maxRecDepth 20000 in
set_option maxHeartbeats 400000 in
theorem rop_end (rb : Nat) (pl sd : Int) (q : PlR) (p v : Value) (r : List ByteArray) (b off c : Nat) (w : World) (h : Rb rb pl sd q p v w) (hl : Ls (endW :: r) b off c w) :
    Calls Tryz.prog 118 #[.pointer (some ⟨rb, 0, none⟩), .slice (some ⟨b, off, none⟩) (endW :: r).length c] w fun e w' => e = .returned (.int .i64 (if (endW :: r).length = 1 then 0 else 223)) ∧ Rb rb (if (endW :: r).length = 1 then 3 else pl) sd q p v w' ∧ Only [rb] w w' := by
  have x0c : w.cell? ⟨b, off, none⟩ = some (.string { data := #[101, 110, 100] }) := hl.at_ 0 _ rfl
  have hT := toActs_any rb pl sd q p v (some ⟨b, off, none⟩) (endW :: r).length c w h
  have hm : (endW :: r).length = r.length + 1 := rfl
  rw [hm] at hT ⊢
  obtain ⟨cd, hcd⟩ : ∃ cd, (if r.length + 1 = 1 then (0 : Int) else 223) = cd := ⟨_, rfl⟩
  obtain ⟨pe, hpe⟩ : ∃ pe, (if r.length + 1 = 1 then (3 : Int) else pl) = pe := ⟨_, rfl⟩
  rw [hcd, hpe] at hT ⊢
  clear h hl hm hcd hpe
  go_enter Tryz.func118, Tryz.ntmps118
  go_wp2_with (go_at_call 141; refine hT.mono ?_)
  rintro e w1 ⟨rfl, h1⟩
  clear hT x0c
  go_wp2
  go_ret
  exact ⟨rfl, h1⟩
set_option maxRecDepth 20000 in
set_option maxHeartbeats 1000000 in
theorem rop_no (B rb : Nat) (pl sd : Int) (q : PlR) (p v : Value) (x : ByteArray) (r : List ByteArray) (hx : x ≠ endW) (hs : ∀ y ∈ x :: r, y.size ≤ 8388608) (hlen : (x :: r).length ≤ 8388608) (kd : Int) (o : OpR) (cd : Int) (ht : toldOV (x :: r) = .tuple #[.int .i64 kd, .agg o.cells, .int .i64 cd]) (hcd : cd ≠ 0) (_ : 0 ≤ cd ∧ cd < 1000) (b off c : Nat) (w : World) (h : Rb rb pl sd q p v w) (hl : Ls (x :: r) b off c w) (hG : GlB B w) :
    Calls Tryz.prog 118 #[.pointer (some ⟨rb, 0, none⟩), .slice (some ⟨b, off, none⟩) (x :: r).length c] w fun e w' => e = .returned (.int .i64 cd) ∧ Rb rb pl sd q p v w' ∧ Below w.heap.size w w' := by
  have hcI : (cd != 0) = true := by simpa using hcd
  have hxe := ne_end hx
  have x0c : w.cell? ⟨b, off, none⟩ = some (.string x) := hl.at_ 0 _ rfl
  obtain ⟨w1, hw1⟩ : ∃ w1, w.alloc (.cells (tabC opTab) 137) = w1 := ⟨_, rfl⟩
  have hb1 : Below w.heap.size w w1 := by rw [← hw1]; exact (Below.refl _ _).alloc (Nat.le_refl _) _
  have hg1 : w1.heap[w.heap.size]? = some (.cells (tabC opTab) 137 (0, 0)) := by rw [← hw1]; exact heap_alloc_new _ _
  have hl1 := hl.below hb1
  have hac := operations_any w
  rw [hw1] at hac
  have htl := toldO_any B x r hs b off c w.heap.size hl1.cap hlen w1 hl1.at_ hl1.ty hg1 (hG.to (hb1.mono hG.le))
  rw [ht] at htl
  unfold OpR.cells at htl
  have HR : Hid (Rb rb pl sd q p v w ∧ Below w.heap.size w w1) := ⟨h, hb1⟩
  clear hl1 hl h hb1 hg1 hw1 ht hs hx
  go_enter Tryz.func118, Tryz.ntmps118
  go_wp2_with (go_at_call 40; refine hac.mono ?_; rintro e u1 ⟨rfl, rfl⟩; clear hac x0c hxe)
  refine htl.mono ?_
  rintro e w2 ⟨rfl, hb2⟩
  have HB2 : Hid (Below w.heap.size w w2) := HR.out.2.trans (hb2.mono HR.out.2.size)
  clear htl hb2
  go_wp2
  go_ret
  have hb3 : Below w2.heap.size w2 (w2.alloc (.cells #[.int .i64 o.kind, .string o.path, .string o.to, .int .i64 o.at_, .int .i64 o.n, .string o.data] 54)) := (Below.refl _ _).alloc (Nat.le_refl _) _
  have hb4 := HB2.out.trans (hb3.mono HB2.out.size)
  exact ⟨rfl, HR.out.1.only (S := []) ⟨hb4.os, hb4.tape, hb4.output, hb4.size, fun k hk _ => hb4.block k hk⟩ (by simp), hb4⟩
theorem actsC_len (As : List ActR) : (actsC As).length = As.length * 9 := by
  induction As with
  | nil => rfl
  | cons a l ih =>
    have h : actsC (a :: l) = a.cells.toList ++ actsC l := by simp [actsC]
    rw [h, List.length_append, ih]
    simp [ActR.cells]
    omega
theorem actsC_app (As Bs : List ActR) : actsC (As ++ Bs) = actsC As ++ actsC Bs := by simp [actsC]
theorem row_cell1 {w : World} {B ab k qc : Nat} {As : List ActR} {a : ActR} (h : w.ownsRow B 36 9 (.slice (some ⟨ab, 0, none⟩) (k + 1) qc) (k + 1) (actsC (As ++ [a]))) (hk : As.length = k) : w.cell? ⟨ab, k * 9 + 1, none⟩ = some (.slice a.ops a.nops a.cops) := by
  have h' := h.cells (g := ab) rfl (k * 9 + 1) (.slice a.ops a.nops a.cops) ?_
  · rw [Addr.add_lit, Nat.zero_add] at h'
    exact h'
  rw [actsC_app, List.getElem?_append_right (by rw [actsC_len, hk]; omega), actsC_len, hk, Nat.add_sub_cancel_left]
  rfl
theorem row_frozen {w : World} {B ab n qc e sz : Nat} {xs : List Value} (h : w.ownsRow B e sz (.slice (some ⟨ab, 0, none⟩) n qc) n xs) (j : Nat) : w.frozen? ⟨ab, j, none⟩ = false := by
  obtain ⟨cur, hc⟩ := owns_block h (k := ab) rfl
  exact Lib.frozen_of_heap hc j
theorem row_ne {w : World} {B n e sz B2 e2 sz2 n2 k : Nat} {y y2 : Value} {xs ys : List Value} (h : w.ownsRow B e sz y n xs) (h2 : w.ownsRow B2 e2 sz2 y2 n2 ys) (hne : e ≠ e2) (h1 : y.ownBlock = some k) : y2.ownBlock ≠ some k := fun e1 => by
  obtain ⟨c1, q1⟩ := owns_block h h1
  obtain ⟨c2, q2⟩ := owns_block h2 e1
  rw [q1] at q2
  injection q2 with q2
  injection q2 with _ q3 _
  exact hne q3
theorem row_grown {w w' : World} {B n e sz B2 e2 sz2 n2 : Nat} {y y2 : Value} {xs ys : List Value} (h : w.ownsRow B e sz y n xs) (hg : w.grownBy w' y2.ownBlock) (h2 : w.ownsRow B2 e2 sz2 y2 n2 ys) (hne : e ≠ e2) : w'.ownsRow B e sz y n xs :=
  owns_keep h fun g hgo => hg.block g (h.lt g hgo).2 fun e1 => row_ne h h2 hne hgo e1.symm
theorem row_other {w : World} {B n e sz B2 e2 sz2 n2 ab qc : Nat} {y : Value} {xs ys : List Value} (h : w.ownsRow B e sz y n xs) (h2 : w.ownsRow B2 e2 sz2 (.slice (some ⟨ab, 0, none⟩) n2 qc) n2 ys) (hne : e ≠ e2) (j : Nat) (u : Value) : (w.setCell ⟨ab, j, none⟩ u).ownsRow B e sz y n xs :=
  owns_keep h fun g hgo => Below.heap_setCell _ _ _ _ fun e1 => row_ne h h2 hne hgo (by rw [show g = ab from e1]; rfl)
theorem Rb.other {rb : Nat} {pl sd : Int} {q : PlR} {p v : Value} {w : World} {B n e sz ab qc : Nat} {xs : List Value} (h : Rb rb pl sd q p v w) (h2 : w.ownsRow B e sz (.slice (some ⟨ab, 0, none⟩) n qc) n xs) (hne : e ≠ 83) (j : Nat) (u : Value) : Rb rb pl sd q p v (w.setCell ⟨ab, j, none⟩ u) :=
  (Below.heap_setCell _ _ _ _ (fun e1 : rb = ab => by
    obtain ⟨c2, q2⟩ := owns_block h2 (k := ab) rfl
    have h0 : w.heap[rb]? = _ := h
    rw [e1, q2] at h0
    injection h0 with h0
    injection h0 with _ q3 _
    exact hne q3)).trans h
theorem row_set {w : World} {B e n sz : Nat} {g c j : Nat} {xs : List Value} (v' : Value) (h : w.ownsRow B e sz (.slice (some ⟨g, 0, none⟩) n c) n xs) : (w.setCell ⟨g, j, none⟩ v').ownsRow B e sz (.slice (some ⟨g, 0, none⟩) n c) n (xs.set j v') := by
  refine ⟨by rw [List.length_set]; exact h.1, ?_⟩
  rcases h.2 with ⟨h1, h2⟩ | ⟨g1, cap, cur, h1, h2, h3, h4, h5, h6, h7⟩
  · cases h1
  · injection h1 with e1 _ e2
    injection e1 with e1
    injection e1 with e1 _ _
    subst e1 e2
    refine .inr ⟨_, _, cur.setIfInBounds j v', rfl, h2, heap_setCell_same _ _ j _ _ v' h3, h4, by simpa using h5, by simpa using h6, ?_⟩
    rw [← h7, Array.toList_setIfInBounds, List.take_set]
theorem row_put1 {w : World} {B ab k qc : Nat} {As : List ActR} {a : ActR} (h : w.ownsRow B 36 9 (.slice (some ⟨ab, 0, none⟩) (k + 1) qc) (k + 1) (actsC (As ++ [a]))) (hk : As.length = k) {x : Option Addr} {n c : Nat} (j : Nat) (_ : j = k * 9 + 1) : (w.setCell ⟨ab, j, none⟩ (.slice x n c)).ownsRow B 36 9 (.slice (some ⟨ab, 0, none⟩) (k + 1) qc) (k + 1) (actsC (As ++ [{ a with ops := x, nops := n, cops := c }])) := by
  subst j
  have h' := row_set (j := k * 9 + 1) (.slice x n c) h
  have e1 : (actsC (As ++ [a])).set (k * 9 + 1) (.slice x n c) = actsC (As ++ [{ a with ops := x, nops := n, cops := c }]) := by
    rw [actsC_app, actsC_app, List.set_append, if_neg (by rw [actsC_len, hk]; omega), actsC_len, hk, Nat.add_sub_cancel_left]
    rfl
  rw [e1] at h'
  exact h'
/-- where an append to a row of the call's own goes: the row itself, or a block that was not there -/
theorem append_where {P : Program} {w : World} (base : Nat) (t ty e : TypeId) (i : TypeInfo) (z : Value) (size bytes : Nat) (ht : P.underlying t = some (.slice e)) (hi : P.info? e = some i) (hz : i.zero = some z)
    (hsize : i.size = size) (hby : i.bytes = bytes) (hzs : z.cells.size = size) (hsz : 0 < size)
    (v : Value) (n : Nat) (xs : List Value) (hown : w.ownsRow base e size v n xs)
    (a : Addr) (m c : Nat) (news : List Value) (hl : news.length = m * size) (hnews : ∀ j u, news[j]? = some u → w.cell? (a.add j) = some u) (h1 : ∀ u ∈ news, u.oneCell' = true)
    (h63 : n + m ≤ maxLen) (hbytes : (n + m) * bytes ≤ 140737488355328) (v' : Value) (w' : World) (hr : (Builtin.append_ #[t, t] ty #[v, .slice (some a) m c]).run P w = .ok v' w') :
    ∀ k, v'.ownBlock = some k → k < w.heap.size → v.ownBlock = some k := by
  intro k hk hlt
  rcases hown.2 with ⟨hv, hn⟩ | ⟨g, cap, cur, hv, hbg, hg, hnc, hcm, hcs, htake⟩
  · have hx : xs = [] := List.eq_nil_of_length_eq_zero (by have := hown.1; rw [hn] at this; simpa using this)
    have ho2 : w.ownsRow w.heap.size e size v n xs := by
      rw [hv, hn, hx]
      exact World.ownsRow_nil _ _ _ _
    obtain ⟨v2, w2, hr2, h2, -, -⟩ := run_append_own (P := P) w w.heap.size t ty e i z size bytes ht hi hz hsize hby hzs hsz v n xs ho2 a m c news hl hnews h1 h63 hbytes (Nat.le_refl _)
    rw [hr] at hr2
    injection hr2 with e1 e2
    subst e1 e2
    have := (h2.lt k hk).1
    omega
  · subst hv hsize hby
    by_cases hroom : n + m ≤ cap
    · have hfit : n * i.size + news.length ≤ cur.size := by rw [hl, hcs, ← Nat.add_mul]; exact Nat.mul_le_mul_right _ hroom
      have hr2 := run_append_room (P := P) w t ty e i ht hi g n cap cur hg a m c news hl hnews h1 hroom hfit
      rw [hr] at hr2
      injection hr2 with e1 e2
      subst e1
      exact hk
    · have holds : ∀ j u, xs[j]? = some u → w.cell? ((⟨g, 0, none⟩ : Addr).add j) = some u := hown.cells (g := g) rfl
      have hsmall : n + m ≤ 9223372036854775807 := by simp only [maxLen] at h63; omega
      have hr2 := run_append_grow (P := P) w t ty e i z ht hi hz ⟨g, 0, none⟩ n cap xs hown.1 holds a m c news hl hnews (by omega) (by omega) (growslice_fits (by omega) hbytes)
      rw [hr] at hr2
      injection hr2 with e1 e2
      subst e1
      have hk2 : some w.heap.size = some k := hk
      injection hk2 with hk2
      omega
theorem step_append_where {P : Program} {ops : Array Oper} {o : Oper} {a : Act} {w : World} {K : Act → World → Prop} {Q : Exit → Act → World → Prop} {E : Prop}
    (hg : o.guard = none) (s x : Operand) (t : TypeId) (hop : o.op = Op.call { callee := Callee.builtin Builtin.append, args := #[s, x], argTypes := #[t, t] })
    (base : Nat) (e : TypeId) (i : TypeInfo) (z : Value) (size bytes : Nat) (h1 : P.underlying t = some (.slice e)) (h2 : P.info? e = some i) (h3 : i.zero = some z) (h4 : i.size = size) (h5 : i.bytes = bytes) (h6 : z.cells.size = size) (h7 : 0 < size)
    (v : Value) (n : Nat) (xs : List Value) (hs : a.eval s = v) (hown : w.ownsRow base e size v n xs)
    (ad : Addr) (m c : Nat) (news : List Value) (hx : a.eval x = .slice (some ad) m c) (hn : news.length = m * size) (hc : ∀ j u, news[j]? = some u → w.cell? (ad.add j) = some u) (h1c : ∀ u ∈ news, u.oneCell' = true)
    (b1 : n + m ≤ maxLen) (b2 : (n + m) * bytes ≤ 140737488355328) (b3 : base ≤ w.heap.size)
    (hK : ∀ v' w', w'.ownsRow base e size v' (n + m) (xs ++ news) → w.grownBy w' v.ownBlock ∧ (∀ k, v'.ownBlock = some k → k < w.heap.size → v.ownBlock = some k) → K (a.put o.dst v') w') :
    if Region.wanted o (yielded ops a.tmps) = true then Oper.wp P o a w K Q else E := by
  have hw : Region.wanted o (yielded ops a.tmps) = true := by simp [Region.wanted, hg]
  rw [if_pos hw]
  obtain ⟨v', w', hr, q2, q3, -⟩ := run_append_own (P := P) w base t o.type e i z size bytes h1 h2 h3 h4 h5 h6 h7 v n xs hown ad m c news hn hc h1c b1 b2 b3
  have q4 := append_where base t o.type e i z size bytes h1 h2 h3 h4 h5 h6 h7 v n xs hown ad m c news hn hc h1c b1 b2 v' w' hr
  unfold Oper.wp execOp
  simp only [hop, resolve, invoke, builtin, Sem.run_bind, Sem.run_pure, Result.andThen_ok, List.map_toArray, List.map_cons, List.map_nil, hs, hx, hr]
  exact hK v' w' q2 ⟨q3, q4⟩
set_option maxRecDepth 20000 in
set_option maxHeartbeats 1000000 in
theorem rop_ok (B rb ab k : Nat) (pl sd : Int) (q : PlR) (p v : Value) (As : List ActR) (a : ActR) (Os : List OpR) (x : ByteArray) (r : List ByteArray) (hx : x ≠ endW) (hs : ∀ y ∈ x :: r, y.size ≤ 8388608) (hlen : (x :: r).length ≤ 8388608) (kd : Int) (o : OpR) (ht : toldOV (x :: r) = .tuple #[.int .i64 kd, .agg o.cells, .int .i64 0]) (b off c : Nat) (w : World) (h : Rb rb pl sd q p v w) (hk : As.length = k) (hk1 : k ≤ 1048576) (hqa : q.acts = some ⟨ab, 0, none⟩) (hqn : q.nacts = k + 1) (hqo : a.nops ≤ 1048576) (hown : w.ownsRow B 36 9 (.slice q.acts q.nacts q.cacts) q.nacts (actsC (As ++ [a]))) (howo : w.ownsRow B 54 6 (.slice a.ops a.nops a.cops) a.nops (opsC Os)) (hl : Ls (x :: r) b off c w) (hG : GlB B w) :
    Calls Tryz.prog 118 #[.pointer (some ⟨rb, 0, none⟩), .slice (some ⟨b, off, none⟩) (x :: r).length c] w fun e w' => ∃ (a' : Option Addr) (c' : Nat), e = .returned (.int .i64 0) ∧ Rb rb pl sd q p v w' ∧ w'.ownsRow B 36 9 (.slice q.acts q.nacts q.cacts) q.nacts (actsC (As ++ [{ a with ops := a', nops := a.nops + 1, cops := c' }])) ∧ w'.ownsRow B 54 6 (.slice a' (a.nops + 1) c') (a.nops + 1) (opsC (Os ++ [{ o with kind := kd }])) ∧ Fr ab (Value.slice a.ops a.nops a.cops).ownBlock w w' ∧ (∀ g, (Value.slice a' (a.nops + 1) c').ownBlock = some g → g < w.heap.size → (Value.slice a.ops a.nops a.cops).ownBlock = some g) := by
  have hxe := ne_end hx
  have x0c : w.cell? ⟨b, off, none⟩ = some (.string x) := hl.at_ 0 _ rfl
  obtain ⟨w1, hw1⟩ : ∃ w1, w.alloc (.cells (tabC opTab) 137) = w1 := ⟨_, rfl⟩
  have hb1 : Below w.heap.size w w1 := by rw [← hw1]; exact (Below.refl _ _).alloc (Nat.le_refl _) _
  have hg1 : w1.heap[w.heap.size]? = some (.cells (tabC opTab) 137 (0, 0)) := by rw [← hw1]; exact heap_alloc_new _ _
  have hl1 := hl.below hb1
  have hac := operations_any w
  rw [hw1] at hac
  have htl := toldO_any B x r hs b off c w.heap.size hl1.cap hlen w1 hl1.at_ hl1.ty hg1 (hG.to (hb1.mono hG.le))
  rw [ht] at htl
  unfold OpR.cells at htl
  have HR : Hid (Rb rb pl sd q p v w ∧ Below w.heap.size w w1 ∧ B ≤ w.heap.size) := ⟨h, hb1, hG.le⟩
  have HOW : Hid (w.ownsRow B 36 9 (.slice q.acts q.nacts q.cacts) q.nacts (actsC (As ++ [a]))) := hown
  have HOO : Hid (w.ownsRow B 54 6 (.slice a.ops a.nops a.cops) a.nops (opsC Os)) := howo
  have HQ : Hid (q.acts = some ⟨ab, 0, none⟩ ∧ q.nacts = k + 1) := ⟨hqa, hqn⟩
  clear hl1 hl h hb1 hg1 hw1 ht hs hown howo hx hqa hqn
  go_enter Tryz.func118, Tryz.ntmps118
  go_wp2_with (go_at_call 40; refine hac.mono ?_; rintro e u1 ⟨rfl, rfl⟩; clear hac x0c hxe)
  refine htl.mono ?_
  rintro e w2 ⟨rfl, hb2⟩
  have HB2 : Hid (Below w.heap.size w w2) := HR.out.2.1.trans (hb2.mono HR.out.2.1.size)
  clear htl hb2
  obtain ⟨W4, hW4⟩ : ∃ W4, w2.alloc (.cells #[.int .i64 kd, .string o.path, .string o.to, .int .i64 o.at_, .int .i64 o.n, .string o.data] 54) = W4 := ⟨_, rfl⟩
  have hb4 : Below w.heap.size w W4 := by rw [← hW4]; exact HB2.out.trans (((Below.refl _ _).alloc (Nat.le_refl _) _).mono HB2.out.size)
  have ha4 : OpAt W4 w2.heap.size { o with kind := kd } := by rw [← hW4]; exact heap_alloc_new _ _
  have HW4 : Hid (Unit → _ = W4) := fun _ => hW4
  clear hW4
  go_upto_region 7 with fail
  rw [HW4.out ()]
  clear HW4
  have HR4 : Hid (Rb rb pl sd q p v W4) := HR.out.1.only (S := []) ⟨hb4.os, hb4.tape, hb4.output, hb4.size, fun k hk _ => hb4.block k hk⟩ (by simp)
  obtain ⟨qc, hqc⟩ : ∃ qc, q.cacts = qc := ⟨_, rfl⟩
  have r11 : W4.cell? ⟨rb, 11, none⟩ = some (.slice (some ⟨ab, 0, none⟩) (k + 1) qc) := by
    have h := HR4.out.cells.2.2.2.2.2.2.2.2.2.2.1
    rw [HQ.out.1, HQ.out.2, hqc] at h
    exact h
  have r11c : W4.drew.cell? ⟨rb, 11, none⟩ = some (.slice (some ⟨ab, 0, none⟩) (k + 1) qc) := r11
  have HA4 : Hid (OpAt W4 w2.heap.size { o with kind := kd } ∧ Below w.heap.size w W4) := ⟨ha4, hb4⟩
  clear ha4 hb4
  go_wp2_with fail
  go_region
  obtain ⟨W5, hW5⟩ : ∃ W5, W4.drew = W5 := ⟨_, rfl⟩
  rw [hW5]
  have hb5 : Below w.heap.size w W5 := by rw [← hW5]; exact Below.drew HA4.out.2
  have ha5 : OpAt W5 w2.heap.size { o with kind := kd } := by
    have h := HA4.out.1
    rw [← hW5]
    exact h
  have HR5 : Hid (Rb rb pl sd q p v W5) := by
    have h := HR4.out
    rw [← hW5]
    exact h
  clear hW5 HR4 HA4 r11 r11c
  have HA5 : Hid (W5.ownsRow B 36 9 (.slice (some ⟨ab, 0, none⟩) (k + 1) qc) (k + 1) (actsC (As ++ [a]))) := by
    have h := owns_below HOW.out hb5
    rw [HQ.out.1, HQ.out.2, hqc] at h
    exact h
  have c1 : W5.cell? ⟨ab, k * 9 + 1, none⟩ = some (.slice a.ops a.nops a.cops) := row_cell1 HA5.out hk
  have c1d : W5.drew.cell? ⟨ab, k * 9 + 1, none⟩ = some (.slice a.ops a.nops a.cops) := c1
  obtain ⟨a0, a1, a2, a3, a4, a5⟩ := ha5.six
  dsimp only at a0 a1 a2 a3 a4 a5
  obtain ⟨W6, hW6, hb6, -⟩ := one_new W5 #[.int .i64 kd, .string o.path, .string o.to, .int .i64 o.at_, .int .i64 o.n, .string o.data] 54
  have hb56 : Below w.heap.size w W6 := hb5.trans (hb6.mono hb5.size)
  have HA6 : Hid (W6.ownsRow B 36 9 (.slice (some ⟨ab, 0, none⟩) (k + 1) qc) (k + 1) (actsC (As ++ [a]))) := owns_below HA5.out hb6
  have c1b : W6.cell? ⟨ab, k * 9 + 1, none⟩ = some (.slice a.ops a.nops a.cops) := row_cell1 HA6.out hk
  have c1c : W6.drew.cell? ⟨ab, k * 9 + 1, none⟩ = some (.slice a.ops a.nops a.cops) := c1b
  have b0 : W5.drew.cell? ⟨w2.heap.size, 0, none⟩ = _ := a0
  have b1 : W5.drew.cell? ⟨w2.heap.size, 1, none⟩ = _ := a1
  have b2 : W5.drew.cell? ⟨w2.heap.size, 2, none⟩ = _ := a2
  have b3 : W5.drew.cell? ⟨w2.heap.size, 3, none⟩ = _ := a3
  have b4 : W5.drew.cell? ⟨w2.heap.size, 4, none⟩ = _ := a4
  have b5 : W5.drew.cell? ⟨w2.heap.size, 5, none⟩ = _ := a5
  have HO6d : Hid (W6.drew.ownsRow B 54 6 (.slice a.ops a.nops a.cops) a.nops (opsC Os)) := by
    have h := owns_below HOO.out hb56
    exact h
  have HA6d : Hid (W6.drew.ownsRow B 36 9 (.slice (some ⟨ab, 0, none⟩) (k + 1) qc) (k + 1) (actsC (As ++ [a]))) := by
    have h := HA6.out
    exact h
  have HR6d : Hid (Rb rb pl sd q p v W6.drew) := by
    have h : Rb rb pl sd q p v W6 := HR5.out.only (S := []) ⟨hb6.os, hb6.tape, hb6.output, hb6.size, fun k hk _ => hb6.block k hk⟩ (by simp)
    exact h
  have HNd : Hid (∀ (i : Nat) u, ([.int .i64 kd, .string o.path, .string o.to, .int .i64 o.at_, .int .i64 o.n, .string o.data] : List Value)[i]? = some u → W6.drew.cell? ((⟨W5.heap.size, 0, none⟩ : Addr).add i) = some u) := by
    show ∀ i u, _
    intro i u hu
    rw [← hW6]
    exact cells_new W5 #[.int .i64 kd, .string o.path, .string o.to, .int .i64 o.at_, .int .i64 o.n, .string o.data] 54 i u (by simpa using hu)
  have hz : a.nops + 1 ≤ maxLen ∧ (a.nops + 1) * 72 ≤ 140737488355328 ∧ B ≤ W6.drew.heap.size := ⟨by unfold maxLen; omega, by omega, Nat.le_trans HR.out.2.2 hb56.size⟩
  have HB6 : Hid (Below w.heap.size w W6) := hb56
  have HQC : Hid (q.cacts = qc) := hqc
  have HK : Hid (As.length = k) := hk
  obtain ⟨i0, hi0, hz0, hz1, hz2⟩ := info_parts infoOp
  clear hb5 ha5 hb6 hb56 hqc hk
  go_wp2_with fail
  go_region_law (refine step_append_where rfl (.tmp 45) (.tmp 47) 32 rfl B 54 i0 _ 6 72 Tryz.underlying32 hi0 hz0 hz1 hz2 rfl (by decide) _ _ _ (by simp [Act.eval]) HO6d.out ⟨W5.heap.size, 0, none⟩ 1 1 [.int .i64 kd, .string o.path, .string o.to, .int .i64 o.at_, .int .i64 o.n, .string o.data] (by simp [Act.eval]) rfl HNd.out (by simp [Value.oneCell']) hz.1 hz.2.1 hz.2.2 ?_; intro v' w8 hown8 hgw8; obtain ⟨hgrow8, hwh8⟩ := hgw8; obtain ⟨a8', c8', rfl⟩ := owns_form hown8; have HO8 : Hid _ := hown8; have HG8 : Hid _ := hgrow8; have HW8 : Hid _ := hwh8; have HA8 : Hid (w8.ownsRow B 36 9 (.slice (some ⟨ab, 0, none⟩) (k + 1) qc) (k + 1) (actsC (As ++ [a]))) := row_grown HA6d.out hgrow8 HO6d.out (by decide); have HR8 : Hid (Rb rb pl sd q p v w8) := HR6d.out.grown hgrow8 HO6d.out (by decide); have h1' := row_cell1 HA8.out HK.out; have hf' := row_frozen HA8.out (k * 9 + 1); clear hown8 hgrow8 hwh8)
  all_goals
    have HG8w : Hid (W6.grownBy w8 (Value.slice a.ops a.nops a.cops).ownBlock) := ⟨HG8.out.os, HG8.out.tape, HG8.out.output, HG8.out.size, HG8.out.block⟩
    have HE : Hid (Rb rb pl sd q p v (w8.setCell ⟨ab, k * 9 + 1, none⟩ (.slice a8' (a.nops + 1) c8')) ∧ (w8.setCell ⟨ab, k * 9 + 1, none⟩ (.slice a8' (a.nops + 1) c8')).ownsRow B 36 9 (.slice q.acts q.nacts q.cacts) q.nacts (actsC (As ++ [{ a with ops := a8', nops := a.nops + 1, cops := c8' }])) ∧ (w8.setCell ⟨ab, k * 9 + 1, none⟩ (.slice a8' (a.nops + 1) c8')).ownsRow B 54 6 (.slice a8' (a.nops + 1) c8') (a.nops + 1) (opsC (Os ++ [{ o with kind := kd }])) ∧ Fr ab (Value.slice a.ops a.nops a.cops).ownBlock w (w8.setCell ⟨ab, k * 9 + 1, none⟩ (.slice a8' (a.nops + 1) c8')) ∧ (∀ g, (Value.slice a8' (a.nops + 1) c8').ownBlock = some g → g < w.heap.size → (Value.slice a.ops a.nops a.cops).ownBlock = some g)) := by
      refine ⟨HR8.out.other HA8.out (by decide) _ _, ?_, ?_, (Fr.of HB6.out HG8w.out).set _ _, fun g hg hlt => HW8.out g hg (Nat.lt_of_lt_of_le hlt HB6.out.size)⟩
      · rw [HQ.out.1, HQ.out.2, HQC.out]
        exact row_put1 HA8.out HK.out _ rfl
      · rw [opsC_snoc]
        exact row_other HO8.out HA8.out (by decide) _ _
    clear HO8 HG8 HW8 HG8w HR8 HA8 h1' hf' HR6d HNd HO6d HA6 HA6d HA5 HR5 HB6 c1 c1b c1c c1d a0 a1 a2 a3 a4 a5 b0 b1 b2 b3 b4 b5 hz hW6
    go_wp2
    go_ret
    first | exact ⟨rfl, a8', c8', HE.out⟩ | exact ⟨a8', c8', rfl, HE.out⟩ | exact ⟨a8', c8', HE.out⟩
end Go.Proofs.YtlmopjbfagijeaaGreatDoor.Sc

namespace Go.Proofs.YtlmopjbfagijeaaGreatDoor.Sc
open Go.RowKit Go.Lib Go.Deep

def cfgW : ByteArray := { data := #[99, 111, 110, 102, 105, 103] }
def sealW : ByteArray := { data := #[115, 101, 97, 108] }
def tapeW : ByteArray := { data := #[116, 97, 112, 101] }
def actsW : ByteArray := { data := #[97, 99, 116, 115] }
theorem ne_cfg {x : ByteArray} (h : x ≠ cfgW) : (x.toList == ([99, 111, 110, 102, 105, 103] : List UInt8)) = false := by
  have h := neW h
  unfold cfgW at h
  rwa [ByteArray.toList_eq ({ data := #[99, 111, 110, 102, 105, 103] } : ByteArray)] at h
theorem ne_seal {x : ByteArray} (h : x ≠ sealW) : (x.toList == ([115, 101, 97, 108] : List UInt8)) = false := by
  have h := neW h
  unfold sealW at h
  rwa [ByteArray.toList_eq ({ data := #[115, 101, 97, 108] } : ByteArray)] at h
theorem ne_tape {x : ByteArray} (h : x ≠ tapeW) : (x.toList == ([116, 97, 112, 101] : List UInt8)) = false := by
  have h := neW h
  unfold tapeW at h
  rwa [ByteArray.toList_eq ({ data := #[116, 97, 112, 101] } : ByteArray)] at h
theorem ne_acts {x : ByteArray} (h : x ≠ actsW) : (x.toList == ([97, 99, 116, 115] : List UInt8)) = false := by
  have h := neW h
  unfold actsW at h
  rwa [ByteArray.toList_eq ({ data := #[97, 99, 116, 115] } : ByteArray)] at h
section
variable {rb b off n c : Nat} {w : World} {Φ : Ending → World → Prop}
set_option maxRecDepth 20000 in
set_option maxHeartbeats 400000 in
theorem head_cfg (k0 : w.cell? ⟨rb, 0, none⟩ = some (.int .i64 0)) (x0 : w.cell? ⟨b, off, none⟩ = some (.string { data := #[99, 111, 110, 102, 105, 103] })) (h : Calls Tryz.prog 143 #[.pointer (some ⟨rb, 0, none⟩), .slice (some ⟨b, off, none⟩) (n + 1) c] w fun e w' => ∃ cd, e = .returned (.int .i64 cd) ∧ Φ e w') :
    Calls Tryz.prog 119 #[.pointer (some ⟨rb, 0, none⟩), .slice (some ⟨b, off, none⟩) (n + 1) c] w fun e w' => Φ e w' := by
  go_enter Tryz.func119, Tryz.ntmps119
  go_wp2_with (go_at_call 143; refine h.mono ?_)
  rintro e w1 ⟨cd, rfl, h1⟩
  clear h k0 x0
  go_wp2
  exact h1
set_option maxRecDepth 20000 in
set_option maxHeartbeats 400000 in
theorem head_seal (k0 : w.cell? ⟨rb, 0, none⟩ = some (.int .i64 1)) (x0 : w.cell? ⟨b, off, none⟩ = some (.string { data := #[115, 101, 97, 108] })) (h : Calls Tryz.prog 144 #[.pointer (some ⟨rb, 0, none⟩), .slice (some ⟨b, off, none⟩) (n + 1) c] w fun e w' => ∃ cd, e = .returned (.int .i64 cd) ∧ Φ e w') :
    Calls Tryz.prog 119 #[.pointer (some ⟨rb, 0, none⟩), .slice (some ⟨b, off, none⟩) (n + 1) c] w fun e w' => Φ e w' := by
  go_enter Tryz.func119, Tryz.ntmps119
  go_wp2_with (go_at_call 144; refine h.mono ?_)
  rintro e w1 ⟨cd, rfl, h1⟩
  clear h k0 x0
  go_wp2
  exact h1
set_option maxRecDepth 20000 in
set_option maxHeartbeats 400000 in
theorem head_tape (k0 : w.cell? ⟨rb, 0, none⟩ = some (.int .i64 2)) (x0 : w.cell? ⟨b, off, none⟩ = some (.string { data := #[116, 97, 112, 101] })) (h : Calls Tryz.prog 145 #[.pointer (some ⟨rb, 0, none⟩), .slice (some ⟨b, off, none⟩) (n + 1) c] w fun e w' => ∃ cd, e = .returned (.int .i64 cd) ∧ Φ e w') :
    Calls Tryz.prog 119 #[.pointer (some ⟨rb, 0, none⟩), .slice (some ⟨b, off, none⟩) (n + 1) c] w fun e w' => Φ e w' := by
  go_enter Tryz.func119, Tryz.ntmps119
  go_wp2_with (go_at_call 145; refine h.mono ?_)
  rintro e w1 ⟨cd, rfl, h1⟩
  clear h k0 x0
  go_wp2
  exact h1
set_option maxRecDepth 20000 in
set_option maxHeartbeats 400000 in
theorem head_acts (k0 : w.cell? ⟨rb, 0, none⟩ = some (.int .i64 2)) (x0 : w.cell? ⟨b, off, none⟩ = some (.string { data := #[97, 99, 116, 115] })) (h : Calls Tryz.prog 141 #[.pointer (some ⟨rb, 0, none⟩), .slice (some ⟨b, off, none⟩) (n + 1) c] w fun e w' => ∃ cd, e = .returned (.int .i64 cd) ∧ Φ e w') :
    Calls Tryz.prog 119 #[.pointer (some ⟨rb, 0, none⟩), .slice (some ⟨b, off, none⟩) (n + 1) c] w fun e w' => Φ e w' := by
  go_enter Tryz.func119, Tryz.ntmps119
  go_wp2_with (go_at_call 141; refine h.mono ?_)
  rintro e w1 ⟨cd, rfl, h1⟩
  clear h k0 x0
  go_wp2
  exact h1
set_option maxRecDepth 20000 in
set_option maxHeartbeats 400000 in
theorem head_no0 {x : ByteArray} (hcfg : x ≠ cfgW) (k0 : w.cell? ⟨rb, 0, none⟩ = some (.int .i64 0)) (x0 : w.cell? ⟨b, off, none⟩ = some (.string x)) :
    Calls Tryz.prog 119 #[.pointer (some ⟨rb, 0, none⟩), .slice (some ⟨b, off, none⟩) (n + 1) c] w fun e w' => e = .returned (.int .i64 220) ∧ w' = w := by
  have gcfg := ne_cfg hcfg
  clear hcfg
  go_enter Tryz.func119, Tryz.ntmps119
  go_wp2
  go_ret
  exact ⟨rfl, rfl⟩
set_option maxRecDepth 20000 in
set_option maxHeartbeats 400000 in
theorem head_no1 {x : ByteArray} (hseal : x ≠ sealW) (k0 : w.cell? ⟨rb, 0, none⟩ = some (.int .i64 1)) (x0 : w.cell? ⟨b, off, none⟩ = some (.string x)) :
    Calls Tryz.prog 119 #[.pointer (some ⟨rb, 0, none⟩), .slice (some ⟨b, off, none⟩) (n + 1) c] w fun e w' => e = .returned (.int .i64 220) ∧ w' = w := by
  have gseal := ne_seal hseal
  clear hseal
  go_enter Tryz.func119, Tryz.ntmps119
  go_wp2
  go_ret
  exact ⟨rfl, rfl⟩
set_option maxRecDepth 20000 in
set_option maxHeartbeats 400000 in
theorem head_no2 {x : ByteArray} (htape : x ≠ tapeW) (hacts : x ≠ actsW) (k0 : w.cell? ⟨rb, 0, none⟩ = some (.int .i64 2)) (x0 : w.cell? ⟨b, off, none⟩ = some (.string x)) :
    Calls Tryz.prog 119 #[.pointer (some ⟨rb, 0, none⟩), .slice (some ⟨b, off, none⟩) (n + 1) c] w fun e w' => e = .returned (.int .i64 220) ∧ w' = w := by
  have gtape := ne_tape htape
  have gacts := ne_acts hacts
  clear htape hacts
  go_enter Tryz.func119, Tryz.ntmps119
  go_wp2
  go_ret
  exact ⟨rfl, rfl⟩
end
end Go.Proofs.YtlmopjbfagijeaaGreatDoor.Sc
