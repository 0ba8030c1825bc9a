import Derived.Test.YtpjigcccjiidpaaExLb
namespace Go.Proofs.Ytpjigcccjiidpaa.Ex
open Go.RowKit Go.Lib Go.Deep

/-- one effect more -/
theorem app_one (B : Nat) (V : World) (a : Option Addr) (n c : Nat) (E : List Ef) (e : Ef) (ho : V.ownsRow B 26 7 (.slice a n c) n (efsC E)) (hB : B ≤ V.heap.size) (hn : n ≤ 1000) : ∃ W8, V.alloc (.cells #[.int .i64 e.kd, .int .i64 e.fl, .int .i64 e.gn, .int .i64 e.at_, .int .i64 e.n, .string (str e.da), .int .i64 e.sz] 26) = W8 ∧ Hid (W8.ownsRow B 26 7 (.slice a n c) n (efsC E)) ∧ Hid (See W8 7 (.slice (some ⟨V.heap.size, 0, none⟩) 1 1) 1 (efC e)) ∧ (n + 1 ≤ maxLen ∧ (n + 1) * 64 ≤ 140737488355328 ∧ B ≤ W8.heap.size) ∧ Hid (Below V.heap.size V W8) := by
  obtain ⟨W8, hW8, hb8, k8⟩ := one_new V #[.int .i64 e.kd, .int .i64 e.fl, .int .i64 e.gn, .int .i64 e.at_, .int .i64 e.n, .string (str e.da), .int .i64 e.sz] 26
  exact ⟨W8, hW8, owns_below ho hb8, see_blk k8 rfl (efC_one e), ⟨by unfold maxLen; omega, by omega, Nat.le_trans hB hb8.size⟩, hb8⟩
def lv3 (d : List UInt8) : List Ef := [⟨1, 7, 0, 0, 0, [], 0⟩, ⟨3, 7, 0, 0, 0, d, (d.length : Int)⟩, ⟨6, 7, 3, 0, 0, [], 0⟩]
set_option maxRecDepth 20000 in
set_option maxHeartbeats 4000000 in
theorem lives_true_true (old data : List UInt8) (ho : old.length ≤ maxLen) (hda : data.length ≤ maxLen) (w : World) : Calls Try.prog 3 #[.string (str old), .string (str data), .bool true, .bool true] w fun e w' => e = .returned (.bool true) ∧ Below w.heap.size w w' := by
  have hwk := works_any w
  obtain ⟨s, hs⟩ : ∃ s, old.take 300 = s := ⟨_, rfl⟩
  have hsl : s.length ≤ 300 := by rw [← hs, List.length_take]; omega
  obtain ⟨d, hd⟩ : ∃ d, data.take 60 = d := ⟨_, rfl⟩
  have hdl : d.length ≤ 60 := by rw [← hd, List.length_take]; omega
  have HS1 : Hid (∀ V, Calls Try.prog 8 #[.string (str old), .int .i64 300] V fun x w' => x = .returned (.string (str s)) ∧ w' = V) := fun V => by
    have := short_any old 300 V ho
    rw [hs] at this
    exact this
  have HS2 : Hid (∀ V, Calls Try.prog 8 #[.string (str data), .int .i64 60] V fun x w' => x = .returned (.string (str d)) ∧ w' = V) := fun V => by
    have := short_any data 60 V hda
    rw [hd] at this
    exact this
  have HC : Hid (∀ w2 a n c, See w2 7 (.slice a n c) n (efsC (lvE d true true)) → (lvE d true true).length = n → _) := fun w2 a n c hE hn => lv_calls w2 d s hdl hsl true true a n c hE hn
  have hD : (str d).size = d.length := str_size d
  obtain ⟨dl, hdl'⟩ : ∃ dl, d.length = dl := ⟨_, rfl⟩
  -- the first append
  have H7 : Hid (∀ w1 : World, ∃ W7, w1.alloc (.cells #[.int .i64 1, .int .i64 7, .int .i64 0, .int .i64 0, .int .i64 0, .string { data := #[] }, .int .i64 0, .int .i64 3, .int .i64 7, .int .i64 0, .int .i64 0, .int .i64 0, .string (str d), .int .i64 (dl : Int), .int .i64 6, .int .i64 7, .int .i64 3, .int .i64 0, .int .i64 0, .string { data := #[] }, .int .i64 0] 26) = W7 ∧ Hid (W7.ownsRow w1.heap.size 26 7 (.slice none 0 0) 0 (efsC [])) ∧ Hid (See W7 7 (.slice (some ⟨w1.heap.size, 0, none⟩) 3 3) 3 (efsC (lv3 d))) ∧ (0 + 3 ≤ maxLen ∧ (0 + 3) * 64 ≤ 140737488355328 ∧ w1.heap.size ≤ W7.heap.size) ∧ Hid (Below w1.heap.size w1 W7)) := fun w1 => by
    obtain ⟨W7, hW7, hb7, k7⟩ := one_new w1 #[.int .i64 1, .int .i64 7, .int .i64 0, .int .i64 0, .int .i64 0, .string { data := #[] }, .int .i64 0, .int .i64 3, .int .i64 7, .int .i64 0, .int .i64 0, .int .i64 0, .string (str d), .int .i64 (dl : Int), .int .i64 6, .int .i64 7, .int .i64 3, .int .i64 0, .int .i64 0, .string { data := #[] }, .int .i64 0] 26
    rw [← hdl'] at k7
    refine ⟨W7, hW7, ⟨rfl, .inl ⟨rfl, rfl⟩⟩, see_blk k7 rfl (fun u hu => efs_one (lv3 d) u hu), ⟨by decide, by decide, hb7.size⟩, hb7⟩
  have HB : Hid (∀ (w1 V w' : World), Below w.heap.size w w1 → Below w1.heap.size w1 V → Below V.heap.size V w' → Below w.heap.size w w') := fun w1 V w' h1 h2 h3 => by
    have h12 := h1.trans (h2.mono h1.size)
    exact h12.trans (h3.mono h12.size)
  have hwant : str (if true = true then d else []) = str d := rfl
  rw [hdl'] at hD
  generalize hDD : str d = D at *
  generalize str s = SS at *
  generalize str old = OO at *
  generalize str data = TT at *
  clear hs hd ho hda
  go_enter Try.func3, Try.ntmps3
  go_wp2_with fail
  refine hwk.mono ?_
  rintro e w1 ⟨rfl, hb1⟩
  go_wp2_with fail
  refine (HS1.out _).mono ?_
  rintro e w9 ⟨rfl, hw9⟩
  subst w9
  go_wp2_with fail
  refine (HS2.out _).mono ?_
  rintro e w9 ⟨rfl, hw9⟩
  subst w9
  obtain ⟨W7, hW7, HO7, HN7, hz7, HB7⟩ := H7.out w1
  clear H7 HS1 HS2 hwk
  go_wp2_with (first
    | (at_builtin; (try rw [hW7]); refine wpList_app rfl _ _ 24 26 rfl _ 7 64 Try.underlying24 infoE rfl (by decide) w1.heap.size _ _ 0 3 _ _ rfl HO7.out rfl HN7.out hz7.1 hz7.2.1 hz7.2.2 ?_; intro v' x0 hown0 hgrow0; obtain ⟨a0, c0, rfl⟩ := owns_form hown0; have HBX0 : Hid (Below w1.heap.size w1 x0) := HB7.out.trans (grown_below hgrow0 hz7.2.2 HO7.out); have HOX0 : Hid (x0.ownsRow w1.heap.size 26 7 (.slice a0 3 c0) 3 (efsC (lv3 d))) := hown0; clear hown0 hgrow0; obtain ⟨Y1, hY1, HOY1, HNY1, hzY1, HBY1⟩ := app_one w1.heap.size x0 a0 3 c0 (lv3 d) ⟨1, 3, 0, 0, 0, [], 0⟩ HOX0.out HBX0.out.size (by omega); dsimp only at hY1; rw [show str ([] : List UInt8) = { data := #[] } from rfl] at hY1)
    | (at_builtin; (try rw [hY1]); refine wpList_app rfl _ _ 24 26 rfl _ 7 64 Try.underlying24 infoE rfl (by decide) w1.heap.size _ _ 3 1 _ _ rfl HOY1.out rfl HNY1.out hzY1.1 hzY1.2.1 hzY1.2.2 ?_; intro v' x1 hown1 hgrow1; obtain ⟨a1, c1, rfl⟩ := owns_form hown1; have HBX1 : Hid (Below w1.heap.size w1 x1) := (HBX0.out.trans (HBY1.out.mono HBX0.out.size)).trans (grown_below hgrow1 hzY1.2.2 HOY1.out); have HOX1 : Hid (x1.ownsRow w1.heap.size 26 7 (.slice a1 4 c1) 4 (efsC ((lv3 d) ++ [⟨1, 3, 0, 0, 0, [], 0⟩]))) := hown1; clear hown1 hgrow1; obtain ⟨HL1, HL2, HL3⟩ := HC.out x1 a1 4 c1 (see_own HOX1.out (efs_one _)) rfl; simp only [if_true] at HL1 HL2 HL3; have HL1' : Hid _ := HL1; have HL2' : Hid _ := HL2; have HL3' : Hid _ := HL3; clear HL1 HL2 HL3; obtain ⟨P1, hP1, hst1⟩ := HL1'.out x1 (Below.refl _ _))
    | fail)
  refine hst1.mono ?_
  rintro e w3 ⟨a3, c3, rfl, P2, hP2, hap1⟩
  go_wp2_with fail
  refine hap1.mono ?_
  rintro e w4 ⟨q, g, c, rfl, U, hU, u0, u1, u2, u3, HBU⟩
  obtain ⟨P3, hP3, hst2⟩ := HL2'.out U HBU.out
  clear hst1 hap1 hP1 hP2 HC
  go_wp2_with (first
    | (go_at_call 11; refine (num_any _ _).mono ?_; rintro e w9 ⟨rfl, hw9⟩; subst w9)
    | fail)
  refine hst2.mono ?_
  rintro e w5 ⟨a5, c5, rfl, P4, hP4, hap2⟩
  go_wp2_with fail
  refine hap2.mono ?_
  rintro e w6 ⟨rfl, HB6⟩
  have HBU2 : Hid (Below x1.heap.size x1 (w6.alloc (.cells #[.slice none 0 0, .slice none 0 0] 30))) := by
    have h1 := HBU.out.trans (HB6.out.mono HBU.out.size)
    exact h1.trans ((al w6 _).mono h1.size)
  obtain ⟨P5, hP5, hst3⟩ := HL3'.out _ HBU2.out
  rw [show (w6.alloc (.cells #[.slice none 0 0, .slice none 0 0] 30)).heap.size = w6.heap.size + 1 by simp] at hst3
  clear hst2 hap2 hP3 hP4 u0 u1 u2 u3 hU
  go_wp2_with fail
  refine hst3.mono ?_
  rintro e w7 ⟨a7, c7, rfl, P6, hP6, hap3⟩
  go_wp2_with fail
  refine hap3.mono ?_
  rintro e w8 ⟨rfl, HB8⟩
  clear hst3 hap3
  go_wp2_with (first
    | (go_at_call 11; refine (num_any _ _).mono ?_; rintro e w9 ⟨rfl, hw9⟩; subst w9)
    | fail)
  go_ret
  have h1 := HBU2.out.trans (HB8.out.mono HBU2.out.size)
  exact ⟨rfl, HB.out w1 x1 _ hb1 HBX1.out (h1.trans ((al w8 _).mono h1.size))⟩
set_option maxRecDepth 20000 in
set_option maxHeartbeats 4000000 in
theorem lives_true_false (old data : List UInt8) (ho : old.length ≤ maxLen) (hda : data.length ≤ maxLen) (w : World) : Calls Try.prog 3 #[.string (str old), .string (str data), .bool true, .bool false] w fun e w' => e = .returned (.bool true) ∧ Below w.heap.size w w' := by
  have hwk := works_any w
  obtain ⟨s, hs⟩ : ∃ s, old.take 300 = s := ⟨_, rfl⟩
  have hsl : s.length ≤ 300 := by rw [← hs, List.length_take]; omega
  obtain ⟨d, hd⟩ : ∃ d, data.take 60 = d := ⟨_, rfl⟩
  have hdl : d.length ≤ 60 := by rw [← hd, List.length_take]; omega
  have HS1 : Hid (∀ V, Calls Try.prog 8 #[.string (str old), .int .i64 300] V fun x w' => x = .returned (.string (str s)) ∧ w' = V) := fun V => by
    have := short_any old 300 V ho
    rw [hs] at this
    exact this
  have HS2 : Hid (∀ V, Calls Try.prog 8 #[.string (str data), .int .i64 60] V fun x w' => x = .returned (.string (str d)) ∧ w' = V) := fun V => by
    have := short_any data 60 V hda
    rw [hd] at this
    exact this
  have HC : Hid (∀ w2 a n c, See w2 7 (.slice a n c) n (efsC (lvE d true false)) → (lvE d true false).length = n → _) := fun w2 a n c hE hn => lv_calls w2 d s hdl hsl true false a n c hE hn
  have hD : (str d).size = d.length := str_size d
  obtain ⟨dl, hdl'⟩ : ∃ dl, d.length = dl := ⟨_, rfl⟩
  -- the first append
  have H7 : Hid (∀ w1 : World, ∃ W7, w1.alloc (.cells #[.int .i64 1, .int .i64 7, .int .i64 0, .int .i64 0, .int .i64 0, .string { data := #[] }, .int .i64 0, .int .i64 3, .int .i64 7, .int .i64 0, .int .i64 0, .int .i64 0, .string (str d), .int .i64 (dl : Int), .int .i64 6, .int .i64 7, .int .i64 3, .int .i64 0, .int .i64 0, .string { data := #[] }, .int .i64 0] 26) = W7 ∧ Hid (W7.ownsRow w1.heap.size 26 7 (.slice none 0 0) 0 (efsC [])) ∧ Hid (See W7 7 (.slice (some ⟨w1.heap.size, 0, none⟩) 3 3) 3 (efsC (lv3 d))) ∧ (0 + 3 ≤ maxLen ∧ (0 + 3) * 64 ≤ 140737488355328 ∧ w1.heap.size ≤ W7.heap.size) ∧ Hid (Below w1.heap.size w1 W7)) := fun w1 => by
    obtain ⟨W7, hW7, hb7, k7⟩ := one_new w1 #[.int .i64 1, .int .i64 7, .int .i64 0, .int .i64 0, .int .i64 0, .string { data := #[] }, .int .i64 0, .int .i64 3, .int .i64 7, .int .i64 0, .int .i64 0, .int .i64 0, .string (str d), .int .i64 (dl : Int), .int .i64 6, .int .i64 7, .int .i64 3, .int .i64 0, .int .i64 0, .string { data := #[] }, .int .i64 0] 26
    rw [← hdl'] at k7
    refine ⟨W7, hW7, ⟨rfl, .inl ⟨rfl, rfl⟩⟩, see_blk k7 rfl (fun u hu => efs_one (lv3 d) u hu), ⟨by decide, by decide, hb7.size⟩, hb7⟩
  have HB : Hid (∀ (w1 V w' : World), Below w.heap.size w w1 → Below w1.heap.size w1 V → Below V.heap.size V w' → Below w.heap.size w w') := fun w1 V w' h1 h2 h3 => by
    have h12 := h1.trans (h2.mono h1.size)
    exact h12.trans (h3.mono h12.size)
  have hwant : str (if true = true then d else []) = str d := rfl
  rw [hdl'] at hD
  generalize hDD : str d = D at *
  generalize str s = SS at *
  generalize str old = OO at *
  generalize str data = TT at *
  clear hs hd ho hda
  go_enter Try.func3, Try.ntmps3
  go_wp2_with fail
  refine hwk.mono ?_
  rintro e w1 ⟨rfl, hb1⟩
  go_wp2_with fail
  refine (HS1.out _).mono ?_
  rintro e w9 ⟨rfl, hw9⟩
  subst w9
  go_wp2_with fail
  refine (HS2.out _).mono ?_
  rintro e w9 ⟨rfl, hw9⟩
  subst w9
  obtain ⟨W7, hW7, HO7, HN7, hz7, HB7⟩ := H7.out w1
  clear H7 HS1 HS2 hwk
  go_wp2_with (first
    | (at_builtin; (try rw [hW7]); refine wpList_app rfl _ _ 24 26 rfl _ 7 64 Try.underlying24 infoE rfl (by decide) w1.heap.size _ _ 0 3 _ _ rfl HO7.out rfl HN7.out hz7.1 hz7.2.1 hz7.2.2 ?_; intro v' x0 hown0 hgrow0; obtain ⟨a0, c0, rfl⟩ := owns_form hown0; have HBX0 : Hid (Below w1.heap.size w1 x0) := HB7.out.trans (grown_below hgrow0 hz7.2.2 HO7.out); have HOX0 : Hid (x0.ownsRow w1.heap.size 26 7 (.slice a0 3 c0) 3 (efsC (lv3 d))) := hown0; clear hown0 hgrow0; obtain ⟨HL1, HL2, HL3⟩ := HC.out x0 a0 3 c0 (see_own HOX0.out (efs_one _)) rfl; simp only [Bool.false_eq_true, if_true, if_false] at HL1 HL2 HL3; have HL1' : Hid _ := HL1; have HL2' : Hid _ := HL2; have HL3' : Hid _ := HL3; clear HL1 HL2 HL3; obtain ⟨P1, hP1, hst1⟩ := HL1'.out x0 (Below.refl _ _))
    | fail)
  refine hst1.mono ?_
  rintro e w3 ⟨a3, c3, rfl, P2, hP2, hap1⟩
  go_wp2_with fail
  refine hap1.mono ?_
  rintro e w4 ⟨q, g, c, rfl, U, hU, u0, u1, u2, u3, HBU⟩
  obtain ⟨P3, hP3, hst2⟩ := HL2'.out U HBU.out
  clear hst1 hap1 hP1 hP2 HC
  go_wp2_with (first
    | (go_at_call 11; refine (num_any _ _).mono ?_; rintro e w9 ⟨rfl, hw9⟩; subst w9)
    | fail)
  refine hst2.mono ?_
  rintro e w5 ⟨a5, c5, rfl, P4, hP4, hap2⟩
  go_wp2_with fail
  refine hap2.mono ?_
  rintro e w6 ⟨rfl, HB6⟩
  have HBU2 : Hid (Below x0.heap.size x0 (w6.alloc (.cells #[.slice none 0 0, .slice none 0 0] 30))) := by
    have h1 := HBU.out.trans (HB6.out.mono HBU.out.size)
    exact h1.trans ((al w6 _).mono h1.size)
  obtain ⟨P5, hP5, hst3⟩ := HL3'.out _ HBU2.out
  rw [show (w6.alloc (.cells #[.slice none 0 0, .slice none 0 0] 30)).heap.size = w6.heap.size + 1 by simp] at hst3
  clear hst2 hap2 hP3 hP4 u0 u1 u2 u3 hU
  go_wp2_with fail
  refine hst3.mono ?_
  rintro e w7 ⟨a7, c7, rfl, P6, hP6, hap3⟩
  go_wp2_with fail
  refine hap3.mono ?_
  rintro e w8 ⟨rfl, HB8⟩
  clear hst3 hap3
  go_wp2_with (first
    | (go_at_call 11; refine (num_any _ _).mono ?_; rintro e w9 ⟨rfl, hw9⟩; subst w9)
    | fail)
  go_ret
  have h1 := HBU2.out.trans (HB8.out.mono HBU2.out.size)
  exact ⟨rfl, HB.out w1 x0 _ hb1 HBX0.out (h1.trans ((al w8 _).mono h1.size))⟩
set_option maxRecDepth 20000 in
set_option maxHeartbeats 4000000 in
theorem lives_false_true (old data : List UInt8) (ho : old.length ≤ maxLen) (hda : data.length ≤ maxLen) (w : World) : Calls Try.prog 3 #[.string (str old), .string (str data), .bool false, .bool true] w fun e w' => e = .returned (.bool true) ∧ Below w.heap.size w w' := by
  have hwk := works_any w
  obtain ⟨s, hs⟩ : ∃ s, old.take 300 = s := ⟨_, rfl⟩
  have hsl : s.length ≤ 300 := by rw [← hs, List.length_take]; omega
  obtain ⟨d, hd⟩ : ∃ d, data.take 60 = d := ⟨_, rfl⟩
  have hdl : d.length ≤ 60 := by rw [← hd, List.length_take]; omega
  have HS1 : Hid (∀ V, Calls Try.prog 8 #[.string (str old), .int .i64 300] V fun x w' => x = .returned (.string (str s)) ∧ w' = V) := fun V => by
    have := short_any old 300 V ho
    rw [hs] at this
    exact this
  have HS2 : Hid (∀ V, Calls Try.prog 8 #[.string (str data), .int .i64 60] V fun x w' => x = .returned (.string (str d)) ∧ w' = V) := fun V => by
    have := short_any data 60 V hda
    rw [hd] at this
    exact this
  have HC : Hid (∀ w2 a n c, See w2 7 (.slice a n c) n (efsC (lvE d false true)) → (lvE d false true).length = n → _) := fun w2 a n c hE hn => lv_calls w2 d s hdl hsl false true a n c hE hn
  have hD : (str d).size = d.length := str_size d
  obtain ⟨dl, hdl'⟩ : ∃ dl, d.length = dl := ⟨_, rfl⟩
  -- the first append
  have H7 : Hid (∀ w1 : World, ∃ W7, w1.alloc (.cells #[.int .i64 1, .int .i64 7, .int .i64 0, .int .i64 0, .int .i64 0, .string { data := #[] }, .int .i64 0, .int .i64 3, .int .i64 7, .int .i64 0, .int .i64 0, .int .i64 0, .string (str d), .int .i64 (dl : Int), .int .i64 6, .int .i64 7, .int .i64 3, .int .i64 0, .int .i64 0, .string { data := #[] }, .int .i64 0] 26) = W7 ∧ Hid (W7.ownsRow w1.heap.size 26 7 (.slice none 0 0) 0 (efsC [])) ∧ Hid (See W7 7 (.slice (some ⟨w1.heap.size, 0, none⟩) 3 3) 3 (efsC (lv3 d))) ∧ (0 + 3 ≤ maxLen ∧ (0 + 3) * 64 ≤ 140737488355328 ∧ w1.heap.size ≤ W7.heap.size) ∧ Hid (Below w1.heap.size w1 W7)) := fun w1 => by
    obtain ⟨W7, hW7, hb7, k7⟩ := one_new w1 #[.int .i64 1, .int .i64 7, .int .i64 0, .int .i64 0, .int .i64 0, .string { data := #[] }, .int .i64 0, .int .i64 3, .int .i64 7, .int .i64 0, .int .i64 0, .int .i64 0, .string (str d), .int .i64 (dl : Int), .int .i64 6, .int .i64 7, .int .i64 3, .int .i64 0, .int .i64 0, .string { data := #[] }, .int .i64 0] 26
    rw [← hdl'] at k7
    refine ⟨W7, hW7, ⟨rfl, .inl ⟨rfl, rfl⟩⟩, see_blk k7 rfl (fun u hu => efs_one (lv3 d) u hu), ⟨by decide, by decide, hb7.size⟩, hb7⟩
  have HB : Hid (∀ (w1 V w' : World), Below w.heap.size w w1 → Below w1.heap.size w1 V → Below V.heap.size V w' → Below w.heap.size w w') := fun w1 V w' h1 h2 h3 => by
    have h12 := h1.trans (h2.mono h1.size)
    exact h12.trans (h3.mono h12.size)
  have hwant : str (if false = true then d else []) = { data := #[] } := rfl
  rw [hdl'] at hD
  generalize hDD : str d = D at *
  generalize str s = SS at *
  generalize str old = OO at *
  generalize str data = TT at *
  clear hs hd ho hda
  go_enter Try.func3, Try.ntmps3
  go_wp2_with fail
  refine hwk.mono ?_
  rintro e w1 ⟨rfl, hb1⟩
  go_wp2_with fail
  refine (HS1.out _).mono ?_
  rintro e w9 ⟨rfl, hw9⟩
  subst w9
  go_wp2_with fail
  refine (HS2.out _).mono ?_
  rintro e w9 ⟨rfl, hw9⟩
  subst w9
  obtain ⟨W7, hW7, HO7, HN7, hz7, HB7⟩ := H7.out w1
  clear H7 HS1 HS2 hwk
  go_wp2_with (first
    | (at_builtin; (try rw [hW7]); refine wpList_app rfl _ _ 24 26 rfl _ 7 64 Try.underlying24 infoE rfl (by decide) w1.heap.size _ _ 0 3 _ _ rfl HO7.out rfl HN7.out hz7.1 hz7.2.1 hz7.2.2 ?_; intro v' x0 hown0 hgrow0; obtain ⟨a0, c0, rfl⟩ := owns_form hown0; have HBX0 : Hid (Below w1.heap.size w1 x0) := HB7.out.trans (grown_below hgrow0 hz7.2.2 HO7.out); have HOX0 : Hid (x0.ownsRow w1.heap.size 26 7 (.slice a0 3 c0) 3 (efsC (lv3 d))) := hown0; clear hown0 hgrow0; obtain ⟨Y1, hY1, HOY1, HNY1, hzY1, HBY1⟩ := app_one w1.heap.size x0 a0 3 c0 (lv3 d) ⟨5, 7, 0, 0, 0, [], 0⟩ HOX0.out HBX0.out.size (by omega); dsimp only at hY1; rw [show str ([] : List UInt8) = { data := #[] } from rfl] at hY1)
    | (at_builtin; (try rw [hY1]); refine wpList_app rfl _ _ 24 26 rfl _ 7 64 Try.underlying24 infoE rfl (by decide) w1.heap.size _ _ 3 1 _ _ rfl HOY1.out rfl HNY1.out hzY1.1 hzY1.2.1 hzY1.2.2 ?_; intro v' x1 hown1 hgrow1; obtain ⟨a1, c1, rfl⟩ := owns_form hown1; have HBX1 : Hid (Below w1.heap.size w1 x1) := (HBX0.out.trans (HBY1.out.mono HBX0.out.size)).trans (grown_below hgrow1 hzY1.2.2 HOY1.out); have HOX1 : Hid (x1.ownsRow w1.heap.size 26 7 (.slice a1 4 c1) 4 (efsC ((lv3 d) ++ [⟨5, 7, 0, 0, 0, [], 0⟩]))) := hown1; clear hown1 hgrow1; obtain ⟨Y2, hY2, HOY2, HNY2, hzY2, HBY2⟩ := app_one w1.heap.size x1 a1 4 c1 ((lv3 d) ++ [⟨5, 7, 0, 0, 0, [], 0⟩]) ⟨1, 3, 0, 0, 0, [], 0⟩ HOX1.out HBX1.out.size (by omega); dsimp only at hY2; rw [show str ([] : List UInt8) = { data := #[] } from rfl] at hY2)
    | (at_builtin; (try rw [hY2]); refine wpList_app rfl _ _ 24 26 rfl _ 7 64 Try.underlying24 infoE rfl (by decide) w1.heap.size _ _ 4 1 _ _ rfl HOY2.out rfl HNY2.out hzY2.1 hzY2.2.1 hzY2.2.2 ?_; intro v' x2 hown2 hgrow2; obtain ⟨a2, c2, rfl⟩ := owns_form hown2; have HBX2 : Hid (Below w1.heap.size w1 x2) := (HBX1.out.trans (HBY2.out.mono HBX1.out.size)).trans (grown_below hgrow2 hzY2.2.2 HOY2.out); have HOX2 : Hid (x2.ownsRow w1.heap.size 26 7 (.slice a2 5 c2) 5 (efsC (((lv3 d) ++ [⟨5, 7, 0, 0, 0, [], 0⟩]) ++ [⟨1, 3, 0, 0, 0, [], 0⟩]))) := hown2; clear hown2 hgrow2; obtain ⟨HL1, HL2, HL3⟩ := HC.out x2 a2 5 c2 (see_own HOX2.out (efs_one _)) rfl; simp only [Bool.false_eq_true, if_true, if_false] at HL1 HL2 HL3; rw [show str ([] : List UInt8) = { data := #[] } from rfl] at HL1; have HL1' : Hid _ := HL1; have HL2' : Hid _ := HL2; have HL3' : Hid _ := HL3; clear HL1 HL2 HL3; obtain ⟨P1, hP1, hst1⟩ := HL1'.out x2 (Below.refl _ _))
    | fail)
  refine hst1.mono ?_
  rintro e w3 ⟨a3, c3, rfl, P2, hP2, hap1⟩
  go_wp2_with fail
  refine hap1.mono ?_
  rintro e w4 ⟨q, g, c, rfl, U, hU, u0, u1, u2, u3, HBU⟩
  obtain ⟨P3, hP3, hst2⟩ := HL2'.out U HBU.out
  clear hst1 hap1 hP1 hP2 HC
  go_wp2_with (first
    | (go_at_call 11; refine (num_any _ _).mono ?_; rintro e w9 ⟨rfl, hw9⟩; subst w9)
    | fail)
  refine hst2.mono ?_
  rintro e w5 ⟨a5, c5, rfl, P4, hP4, hap2⟩
  go_wp2_with fail
  refine hap2.mono ?_
  rintro e w6 ⟨rfl, HB6⟩
  have HBU2 : Hid (Below x2.heap.size x2 (w6.alloc (.cells #[.slice none 0 0, .slice none 0 0] 30))) := by
    have h1 := HBU.out.trans (HB6.out.mono HBU.out.size)
    exact h1.trans ((al w6 _).mono h1.size)
  obtain ⟨P5, hP5, hst3⟩ := HL3'.out _ HBU2.out
  rw [show (w6.alloc (.cells #[.slice none 0 0, .slice none 0 0] 30)).heap.size = w6.heap.size + 1 by simp] at hst3
  clear hst2 hap2 hP3 hP4 u0 u1 u2 u3 hU
  go_wp2_with fail
  refine hst3.mono ?_
  rintro e w7 ⟨a7, c7, rfl, P6, hP6, hap3⟩
  go_wp2_with fail
  refine hap3.mono ?_
  rintro e w8 ⟨rfl, HB8⟩
  clear hst3 hap3
  go_wp2_with (first
    | (go_at_call 11; refine (num_any _ _).mono ?_; rintro e w9 ⟨rfl, hw9⟩; subst w9)
    | fail)
  go_ret
  have h1 := HBU2.out.trans (HB8.out.mono HBU2.out.size)
  exact ⟨rfl, HB.out w1 x2 _ hb1 HBX2.out (h1.trans ((al w8 _).mono h1.size))⟩
set_option maxRecDepth 20000 in
set_option maxHeartbeats 4000000 in
theorem lives_false_false (old data : List UInt8) (ho : old.length ≤ maxLen) (hda : data.length ≤ maxLen) (w : World) : Calls Try.prog 3 #[.string (str old), .string (str data), .bool false, .bool false] w fun e w' => e = .returned (.bool true) ∧ Below w.heap.size w w' := by
  have hwk := works_any w
  obtain ⟨s, hs⟩ : ∃ s, old.take 300 = s := ⟨_, rfl⟩
  have hsl : s.length ≤ 300 := by rw [← hs, List.length_take]; omega
  obtain ⟨d, hd⟩ : ∃ d, data.take 60 = d := ⟨_, rfl⟩
  have hdl : d.length ≤ 60 := by rw [← hd, List.length_take]; omega
  have HS1 : Hid (∀ V, Calls Try.prog 8 #[.string (str old), .int .i64 300] V fun x w' => x = .returned (.string (str s)) ∧ w' = V) := fun V => by
    have := short_any old 300 V ho
    rw [hs] at this
    exact this
  have HS2 : Hid (∀ V, Calls Try.prog 8 #[.string (str data), .int .i64 60] V fun x w' => x = .returned (.string (str d)) ∧ w' = V) := fun V => by
    have := short_any data 60 V hda
    rw [hd] at this
    exact this
  have HC : Hid (∀ w2 a n c, See w2 7 (.slice a n c) n (efsC (lvE d false false)) → (lvE d false false).length = n → _) := fun w2 a n c hE hn => lv_calls w2 d s hdl hsl false false a n c hE hn
  have hD : (str d).size = d.length := str_size d
  obtain ⟨dl, hdl'⟩ : ∃ dl, d.length = dl := ⟨_, rfl⟩
  -- the first append
  have H7 : Hid (∀ w1 : World, ∃ W7, w1.alloc (.cells #[.int .i64 1, .int .i64 7, .int .i64 0, .int .i64 0, .int .i64 0, .string { data := #[] }, .int .i64 0, .int .i64 3, .int .i64 7, .int .i64 0, .int .i64 0, .int .i64 0, .string (str d), .int .i64 (dl : Int), .int .i64 6, .int .i64 7, .int .i64 3, .int .i64 0, .int .i64 0, .string { data := #[] }, .int .i64 0] 26) = W7 ∧ Hid (W7.ownsRow w1.heap.size 26 7 (.slice none 0 0) 0 (efsC [])) ∧ Hid (See W7 7 (.slice (some ⟨w1.heap.size, 0, none⟩) 3 3) 3 (efsC (lv3 d))) ∧ (0 + 3 ≤ maxLen ∧ (0 + 3) * 64 ≤ 140737488355328 ∧ w1.heap.size ≤ W7.heap.size) ∧ Hid (Below w1.heap.size w1 W7)) := fun w1 => by
    obtain ⟨W7, hW7, hb7, k7⟩ := one_new w1 #[.int .i64 1, .int .i64 7, .int .i64 0, .int .i64 0, .int .i64 0, .string { data := #[] }, .int .i64 0, .int .i64 3, .int .i64 7, .int .i64 0, .int .i64 0, .int .i64 0, .string (str d), .int .i64 (dl : Int), .int .i64 6, .int .i64 7, .int .i64 3, .int .i64 0, .int .i64 0, .string { data := #[] }, .int .i64 0] 26
    rw [← hdl'] at k7
    refine ⟨W7, hW7, ⟨rfl, .inl ⟨rfl, rfl⟩⟩, see_blk k7 rfl (fun u hu => efs_one (lv3 d) u hu), ⟨by decide, by decide, hb7.size⟩, hb7⟩
  have HB : Hid (∀ (w1 V w' : World), Below w.heap.size w w1 → Below w1.heap.size w1 V → Below V.heap.size V w' → Below w.heap.size w w') := fun w1 V w' h1 h2 h3 => by
    have h12 := h1.trans (h2.mono h1.size)
    exact h12.trans (h3.mono h12.size)
  have hwant : str (if false = true then d else []) = { data := #[] } := rfl
  rw [hdl'] at hD
  generalize hDD : str d = D at *
  generalize str s = SS at *
  generalize str old = OO at *
  generalize str data = TT at *
  clear hs hd ho hda
  go_enter Try.func3, Try.ntmps3
  go_wp2_with fail
  refine hwk.mono ?_
  rintro e w1 ⟨rfl, hb1⟩
  go_wp2_with fail
  refine (HS1.out _).mono ?_
  rintro e w9 ⟨rfl, hw9⟩
  subst w9
  go_wp2_with fail
  refine (HS2.out _).mono ?_
  rintro e w9 ⟨rfl, hw9⟩
  subst w9
  obtain ⟨W7, hW7, HO7, HN7, hz7, HB7⟩ := H7.out w1
  clear H7 HS1 HS2 hwk
  go_wp2_with (first
    | (at_builtin; (try rw [hW7]); refine wpList_app rfl _ _ 24 26 rfl _ 7 64 Try.underlying24 infoE rfl (by decide) w1.heap.size _ _ 0 3 _ _ rfl HO7.out rfl HN7.out hz7.1 hz7.2.1 hz7.2.2 ?_; intro v' x0 hown0 hgrow0; obtain ⟨a0, c0, rfl⟩ := owns_form hown0; have HBX0 : Hid (Below w1.heap.size w1 x0) := HB7.out.trans (grown_below hgrow0 hz7.2.2 HO7.out); have HOX0 : Hid (x0.ownsRow w1.heap.size 26 7 (.slice a0 3 c0) 3 (efsC (lv3 d))) := hown0; clear hown0 hgrow0; obtain ⟨Y1, hY1, HOY1, HNY1, hzY1, HBY1⟩ := app_one w1.heap.size x0 a0 3 c0 (lv3 d) ⟨5, 7, 0, 0, 0, [], 0⟩ HOX0.out HBX0.out.size (by omega); dsimp only at hY1; rw [show str ([] : List UInt8) = { data := #[] } from rfl] at hY1)
    | (at_builtin; (try rw [hY1]); refine wpList_app rfl _ _ 24 26 rfl _ 7 64 Try.underlying24 infoE rfl (by decide) w1.heap.size _ _ 3 1 _ _ rfl HOY1.out rfl HNY1.out hzY1.1 hzY1.2.1 hzY1.2.2 ?_; intro v' x1 hown1 hgrow1; obtain ⟨a1, c1, rfl⟩ := owns_form hown1; have HBX1 : Hid (Below w1.heap.size w1 x1) := (HBX0.out.trans (HBY1.out.mono HBX0.out.size)).trans (grown_below hgrow1 hzY1.2.2 HOY1.out); have HOX1 : Hid (x1.ownsRow w1.heap.size 26 7 (.slice a1 4 c1) 4 (efsC ((lv3 d) ++ [⟨5, 7, 0, 0, 0, [], 0⟩]))) := hown1; clear hown1 hgrow1; obtain ⟨HL1, HL2, HL3⟩ := HC.out x1 a1 4 c1 (see_own HOX1.out (efs_one _)) rfl; simp only [Bool.false_eq_true, if_false] at HL1 HL2 HL3; rw [show str ([] : List UInt8) = { data := #[] } from rfl] at HL1; have HL1' : Hid _ := HL1; have HL2' : Hid _ := HL2; have HL3' : Hid _ := HL3; clear HL1 HL2 HL3; obtain ⟨P1, hP1, hst1⟩ := HL1'.out x1 (Below.refl _ _))
    | fail)
  refine hst1.mono ?_
  rintro e w3 ⟨a3, c3, rfl, P2, hP2, hap1⟩
  go_wp2_with fail
  refine hap1.mono ?_
  rintro e w4 ⟨q, g, c, rfl, U, hU, u0, u1, u2, u3, HBU⟩
  obtain ⟨P3, hP3, hst2⟩ := HL2'.out U HBU.out
  clear hst1 hap1 hP1 hP2 HC
  go_wp2_with (first
    | (go_at_call 11; refine (num_any _ _).mono ?_; rintro e w9 ⟨rfl, hw9⟩; subst w9)
    | fail)
  refine hst2.mono ?_
  rintro e w5 ⟨a5, c5, rfl, P4, hP4, hap2⟩
  go_wp2_with fail
  refine hap2.mono ?_
  rintro e w6 ⟨rfl, HB6⟩
  have HBU2 : Hid (Below x1.heap.size x1 (w6.alloc (.cells #[.slice none 0 0, .slice none 0 0] 30))) := by
    have h1 := HBU.out.trans (HB6.out.mono HBU.out.size)
    exact h1.trans ((al w6 _).mono h1.size)
  obtain ⟨P5, hP5, hst3⟩ := HL3'.out _ HBU2.out
  rw [show (w6.alloc (.cells #[.slice none 0 0, .slice none 0 0] 30)).heap.size = w6.heap.size + 1 by simp] at hst3
  clear hst2 hap2 hP3 hP4 u0 u1 u2 u3 hU
  go_wp2_with fail
  refine hst3.mono ?_
  rintro e w7 ⟨a7, c7, rfl, P6, hP6, hap3⟩
  go_wp2_with fail
  refine hap3.mono ?_
  rintro e w8 ⟨rfl, HB8⟩
  clear hst3 hap3
  go_wp2_with (first
    | (go_at_call 11; refine (num_any _ _).mono ?_; rintro e w9 ⟨rfl, hw9⟩; subst w9)
    | fail)
  go_ret
  have h1 := HBU2.out.trans (HB8.out.mono HBU2.out.size)
  exact ⟨rfl, HB.out w1 x1 _ hb1 HBX1.out (h1.trans ((al w8 _).mono h1.size))⟩
end Go.Proofs.Ytpjigcccjiidpaa.Ex
