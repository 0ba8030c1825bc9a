import Derived.Test.YtpjigcccjiidpaaExEa
namespace Go.Proofs.Ytpjigcccjiidpaa.Ex
open Go.RowKit Go.Lib Go.Deep

def efC (e : Ef) : List Value := [.int .i64 e.kd, .int .i64 e.fl, .int .i64 e.gn, .int .i64 e.at_, .int .i64 e.n, .string (str e.da), .int .i64 e.sz]
def efsC (l : List Ef) : List Value := l.flatMap efC
theorem efC_len (e : Ef) : (efC e).length = 7 := rfl
theorem efC_one (e : Ef) : ∀ u ∈ efC e, u.oneCell' = true := fun u hu => by
  simp [efC] at hu
  rcases hu with rfl | rfl | rfl | rfl | rfl | rfl | rfl <;> rfl
theorem efs_one (l : List Ef) : ∀ u ∈ efsC l, u.oneCell' = true := fun u hu => by
  obtain ⟨n, _, h⟩ := List.mem_flatMap.1 hu
  exact efC_one n u h
theorem efsC_snoc (l : List Ef) (e : Ef) : efsC (l ++ [e]) = efsC l ++ efC e := by simp [efsC]
def mk0 (e : Ef) : St := ⟨⟨⟨0, [], 0, 0, 0⟩, e⟩, ⟨none, 0, 0⟩, []⟩
theorem stC_one (x : St) : ∀ u ∈ stC x, u.oneCell' = true := fun u hu => by
  simp [stC] at hu
  rcases hu with rfl | rfl | rfl | rfl | rfl | rfl | rfl | rfl | rfl | rfl | rfl | rfl | rfl <;> rfl
theorem sts_one (l : List St) : ∀ u ∈ stsC l, u.oneCell' = true := fun u hu => by
  obtain ⟨n, _, h⟩ := List.mem_flatMap.1 hu
  exact stC_one n u h
theorem stsC_snoc (l : List St) (e : St) : stsC (l ++ [e]) = stsC l ++ stC e := by simp [stsC]
theorem infoS : (Try.prog.info? 58).map (fun i => (i.zero, i.size, i.bytes)) = some (some (.agg #[.int .i64 0, .string { data := #[] }, .int .i64 0, .slice none 0 0, .int .i64 0, .int .i64 0, .int .i64 0, .int .i64 0, .int .i64 0, .int .i64 0, .int .i64 0, .string { data := #[] }, .int .i64 0]), 13, 136) := by kernel_rfl
theorem infoE : (Try.prog.info? 26).map (fun i => (i.zero, i.size, i.bytes)) = some (some (.agg #[.int .i64 0, .int .i64 0, .int .i64 0, .int .i64 0, .int .i64 0, .string { data := #[] }, .int .i64 0]), 7, 64) := by kernel_rfl
theorem See.ef {w : World} {a : Option Addr} {n c : Nat} {A : List Ef} (h : See w 7 (.slice a n c) n (efsC A)) {i : Nat} {x : Ef} (hi : A[i]? = some x) : ∃ b off, a = some ⟨b, off, none⟩ ∧ w.cell? ⟨b, off + i * 7, none⟩ = some (.int .i64 x.kd) ∧ w.cell? ⟨b, off + i * 7 + 1, none⟩ = some (.int .i64 x.fl) ∧ w.cell? ⟨b, off + i * 7 + 2, none⟩ = some (.int .i64 x.gn) ∧ w.cell? ⟨b, off + i * 7 + 3, none⟩ = some (.int .i64 x.at_) ∧ w.cell? ⟨b, off + i * 7 + 4, none⟩ = some (.int .i64 x.n) ∧ w.cell? ⟨b, off + i * 7 + 5, none⟩ = some (.string (str x.da)) ∧ w.cell? ⟨b, off + i * 7 + 6, none⟩ = some (.int .i64 x.sz) := by
  obtain ⟨b, off, e, _, hc⟩ := h.row efC_len (by decide) hi
  exact ⟨b, off, e, hc 0 _ rfl, hc 1 _ rfl, hc 2 _ rfl, hc 3 _ rfl, hc 4 _ rfl, hc 5 _ rfl, hc 6 _ rfl⟩
set_option maxRecDepth 20000 in
set_option maxHeartbeats 1000000 in
theorem steps_any (w : World) (a1 : Option Addr) (n c1 : Nat) (A : List Ef) (ha : See w 7 (.slice a1 n c1) n (efsC A)) (hl : A.length = n) (hn : n ≤ 100000) : Calls Try.prog 10 #[.slice a1 n c1] w fun e w' => ∃ a c, e = .returned (.slice a n c) ∧ w'.ownsRow w.heap.size 58 13 (.slice a n c) n (stsC (A.map mk0)) ∧ Below w.heap.size w w' := by
  have HA : Hid (See w 7 (.slice a1 n c1) n (efsC A)) := ha
  have HL : Hid (A.length = n) := hl
  clear hl ha
  go_enter Try.func10, Try.ntmps10
  go_wp2_with fail
  go_loopg [3, 4] n (fun gk bv iv wr => ∃ (k : Nat) (ba : Option Addr) (bc : Nat), k + gk = n ∧ iv = .int .i64 (k : Int) ∧ bv = .slice ba k bc ∧ Hid (wr.ownsRow w.heap.size 58 13 (.slice ba k bc) k (stsC ((A.take k).map mk0))) ∧ Hid (Below w.heap.size w wr))
  case atStart => exact ⟨0, none, 0, by omega, rfl, rfl, ⟨by simp [stsC], .inl ⟨rfl, rfl⟩⟩, Below.refl _ _⟩
  case round =>
    obtain ⟨k, ba, bc, hk, rfl, rfl, HB, HW⟩ := hrel
    have HKG : Hid (k + gk = n) := hk
    have hkn : k ≤ n := by omega
    clear hk
    by_cases hlt : k < n
    · have hltI : (k : Int) < (n : Int) := by omega
      obtain ⟨x, hx⟩ : ∃ x, A[k]? = some x := ⟨_, List.getElem?_eq_getElem (by have := HL.out; omega)⟩
      obtain ⟨g1, o1, rfl, r0, r1, r2, r3, r4, r5, r6⟩ := (HA.out.below HW.out).ef hx
      have HX : Hid (A[k]? = some x) := hx
      obtain ⟨W8, hW8, f3, -⟩ := one_new wr #[.int .i64 0, .string { data := #[] }, .int .i64 0, .slice none 0 0, .int .i64 0, .int .i64 0, .int .i64 x.kd, .int .i64 x.fl, .int .i64 x.gn, .int .i64 x.at_, .int .i64 x.n, .string (str x.da), .int .i64 x.sz] 58
      have f2 : See (wr.alloc (.cells #[.int .i64 0, .string { data := #[] }, .int .i64 0, .slice none 0 0, .int .i64 0, .int .i64 0, .int .i64 x.kd, .int .i64 x.fl, .int .i64 x.gn, .int .i64 x.at_, .int .i64 x.n, .string (str x.da), .int .i64 x.sz] 58)) 13 (.slice (some ⟨wr.heap.size, 0, none⟩) 1 1) 1 (stC (mk0 x)) := see_one rfl (stC_one (mk0 x))
      have f1 := HB.out.alloc (.cells #[.int .i64 0, .string { data := #[] }, .int .i64 0, .slice none 0 0, .int .i64 0, .int .i64 0, .int .i64 x.kd, .int .i64 x.fl, .int .i64 x.gn, .int .i64 x.at_, .int .i64 x.n, .string (str x.da), .int .i64 x.sz] 58)
      rw [hW8] at f1 f2
      have HO8 : Hid (W8.ownsRow w.heap.size 58 13 (.slice ba k bc) k (stsC ((A.take k).map mk0))) := f1
      have HNW : Hid (See W8 13 (.slice (some ⟨wr.heap.size, 0, none⟩) 1 1) 1 (stC (mk0 x))) := f2
      have hz : k + 1 ≤ maxLen ∧ (k + 1) * 136 ≤ 140737488355328 ∧ w.heap.size ≤ W8.heap.size := ⟨by unfold maxLen; omega, by omega, Nat.le_trans HW.out.size f3.size⟩
      have HBW : Hid (Below w.heap.size w W8) := HW.out.trans (f3.mono HW.out.size)
      clear hx f1 f2 f3
      obtain ⟨kd, fl, gn, at_, en, ed, ez⟩ := x
      dsimp only at *
      go_wp2_with (first | (at_builtin; (try rw [hW8]); refine wpList_app rfl _ _ 37 58 rfl _ 13 136 Try.underlying37 infoS rfl (by decide) w.heap.size _ _ k 1 _ _ rfl HO8.out rfl HNW.out hz.1 hz.2.1 hz.2.2 ?_; intro v' w3 hown3 hgrow3; obtain ⟨a3, c3, rfl⟩ := owns_form hown3; have HO3 : Hid _ := hown3; have HG3 : Hid _ := hgrow3; clear hown3 hgrow3) | go_in)
      go_roundg (gk - 1)
      case measure => have := HKG.out; omega
      case rel =>
        refine ⟨k + 1, a3, c3, by have := HKG.out; omega, by go_num, rfl, ?_, HBW.out.trans (grown_base HG3.out hz.2.2 HO8.out)⟩
        have e : A.take (k + 1) = A.take k ++ [⟨kd, fl, gn, at_, en, ed, ez⟩] := by rw [List.take_add_one, HX.out]; rfl
        rw [e, List.map_append, List.map_singleton, stsC_snoc]
        exact HO3.out
    · obtain rfl : k = n := by omega
      have hltI : ¬ (k : Int) < (k : Int) := by omega
      go_wp2
      go_ret
      refine ⟨_, _, rfl, ?_, HW.out⟩
      have := HB.out
      rw [← HL.out, List.take_length, HL.out] at this
      exact this
/-! edits one behind the other -/
def edsE (file : Int) : Nat → List Ed → List Ef
  | _, [] => []
  | s, e :: l => edE file e s :: edsE file (edZ file e s) l
def edsZ (file : Int) : Nat → List Ed → Nat
  | s, [] => s
  | s, e :: l => edsZ file (edZ file e s) l
theorem edsZ_app (file : Int) : ∀ (l r : List Ed) (s : Nat), edsZ file s (l ++ r) = edsZ file (edsZ file s l) r
  | [], _, _ => rfl
  | _ :: l, r, _ => edsZ_app file l r _
theorem edsE_app (file : Int) : ∀ (l r : List Ed) (s : Nat), edsE file s (l ++ r) = edsE file s l ++ edsE file (edsZ file s l) r
  | [], _, _ => rfl
  | e :: l, r, s => by
    show edE file e s :: edsE file (edZ file e s) (l ++ r) = _
    rw [edsE_app file l r]
    rfl
theorem edsE_len (file : Int) : ∀ (l : List Ed) (s : Nat), (edsE file s l).length = l.length
  | [], _ => rfl
  | e :: l, s => by simp [edsE, edsE_len file l]
theorem edE_sz (file : Int) (e : Ed) (s : Nat) : (edE file e s).sz = (edZ file e s : Int) := by
  unfold edZ edE
  split
  · have : 0 ≤ e.n % 201 := Int.emod_nonneg _ (by decide)
    dsimp only
    omega
  · simp
theorem edZ_le (file : Int) (e : Ed) (s : Nat) : edZ file e s ≤ max s 300 := by
  unfold edZ edE
  split
  · have : e.n % 201 < 201 := Int.emod_lt_of_pos _ (by decide)
    dsimp only
    omega
  · have : e.at_ % 201 < 201 := Int.emod_lt_of_pos _ (by decide)
    have : (e.da.take 60).length ≤ 60 := by rw [List.length_take]; omega
    simp only [Int.toNat_natCast]
    unfold szE
    split <;> omega
theorem edsZ_le (file : Int) : ∀ (l : List Ed) (s : Nat), edsZ file s l ≤ max s 300
  | [], s => by show s ≤ _; omega
  | e :: l, s => by
    have h1 := edsZ_le file l (edZ file e s)
    have h2 := edZ_le file e s
    show edsZ file (edZ file e s) l ≤ _
    omega
structure EdW (e : Ed) : Prop where
  da : e.da.length ≤ maxLen
  at_ : -9223372036854775808 ≤ e.at_ ∧ e.at_ ≤ 9223372036854775807
  n : -9223372036854775808 ≤ e.n ∧ e.n ≤ 9223372036854775807
def edsC (l : List Ed) : List Value := l.flatMap edC
theorem edC_len (e : Ed) : (edC e).length = 4 := rfl
set_option maxRecDepth 20000 in
set_option maxHeartbeats 1000000 in
theorem effects_any (w : World) (file : Int) (s : Nat) (a1 : Option Addr) (n c1 : Nat) (A : List Ed) (ha : See w 4 (.slice a1 n c1) n (edsC A)) (hl : A.length = n) (hs : s ≤ 300) (hw : ∀ e ∈ A, EdW e) (hn63 : n ≤ 9223372036854775807) : Calls Try.prog 13 #[.int .i64 file, .int .i64 (s : Int), .slice a1 n c1] w fun e w' => ∃ a c, e = .returned (.tuple #[.slice a (min n 60) c, .int .i64 ((edsZ file s (A.take 60) : Nat) : Int)]) ∧ w'.ownsRow w.heap.size 26 7 (.slice a (min n 60) c) (min n 60) (efsC (edsE file s (A.take 60))) ∧ Below w.heap.size w w' := by
  have HA : Hid (See w 4 (.slice a1 n c1) n (edsC A)) := ha
  have HL : Hid (A.length = n) := hl
  have HWF : Hid _ := hw
  clear hl ha hw
  obtain ⟨M, hM⟩ : ∃ M, min n 60 = M := ⟨_, rfl⟩
  have hM60 : M ≤ 60 := by omega
  have hMn : M ≤ n := by omega
  have HM : Hid (min n 60 = M ∧ A.take 60 = A.take M) := ⟨hM, by
    have := HL.out
    rcases (show M = n ∨ M = 60 by omega) with h | h
    · rw [h, List.take_of_length_le (by omega), List.take_of_length_le (by omega)]
    · rw [h]⟩
  rw [hM, HM.out.2]
  have hMM : M = n ∨ M = 60 := by omega
  clear hM
  go_enter Try.func13, Try.ntmps13
  go_wp2_with fail
  go_loopg [1, 8, 9] M (fun gk sv bv iv wr => ∃ (k : Nat) (ba : Option Addr) (bc : Nat) (z : Nat), k + gk = M ∧ iv = .int .i64 (k : Int) ∧ bv = .slice ba k bc ∧ sv = .int .i64 (z : Int) ∧ Hid (z = edsZ file s (A.take k)) ∧ Hid (wr.ownsRow w.heap.size 26 7 (.slice ba k bc) k (efsC (edsE file s (A.take k)))) ∧ Hid (Below w.heap.size w wr))
  case atStart => exact ⟨0, none, 0, s, by omega, rfl, rfl, rfl, rfl, ⟨by simp [efsC, edsE], .inl ⟨rfl, rfl⟩⟩, Below.refl _ _⟩
  case round =>
    obtain ⟨k, ba, bc, z, hk, rfl, rfl, rfl, HZ, HB, HW⟩ := hrel
    have HKG : Hid (k + gk = M) := hk
    have hkn : k ≤ M := by omega
    clear hk
    by_cases hlt : k < M
    · have hltI : (k : Int) < (n : Int) := by omega
      have hlt6 : (k : Int) < 60 := by omega
      obtain ⟨x, hx⟩ : ∃ x, A[k]? = some x := ⟨_, List.getElem?_eq_getElem (by have := HL.out; omega)⟩
      obtain ⟨g1, o1, rfl, -, hcc⟩ := (HA.out.below HW.out).row edC_len (by decide) hx
      have r0 : wr.cell? ⟨g1, o1 + k * 4, none⟩ = some (.bool x.cut) := hcc 0 _ rfl
      have r1 : wr.cell? ⟨g1, o1 + k * 4 + 1, none⟩ = some (.int .i64 x.at_) := hcc 1 _ rfl
      have r2 : wr.cell? ⟨g1, o1 + k * 4 + 2, none⟩ = some (.int .i64 x.n) := hcc 2 _ rfl
      have r3 : wr.cell? ⟨g1, o1 + k * 4 + 3, none⟩ = some (.string (str x.da)) := hcc 3 _ rfl
      have hwx := HWF.out x (List.mem_of_getElem? hx)
      have hz3 : z ≤ 300 := by have := edsZ_le file (A.take k) s; have := HZ.out; omega
      have hef := effect_any x file z wr (by omega) hwx.da hwx.at_ hwx.n
      have hsz := edE_sz file x z
      have HX : Hid (A[k]? = some x ∧ edE file x z = edE file x z) := ⟨hx, rfl⟩
      obtain ⟨E, hE⟩ : ∃ E, edE file x z = E := ⟨_, rfl⟩
      obtain ⟨z', hz'⟩ : ∃ z', edZ file x z = z' := ⟨_, rfl⟩
      rw [hE] at hef hsz
      rw [hz'] at hsz
      have HEZ : Hid (edE file x z = E ∧ edZ file x z = z') := ⟨hE, hz'⟩
      -- behind effect
      have HAP : Hid (∀ w2, Below wr.heap.size wr w2 → ∃ W7, w2.alloc (.cells #[.int .i64 E.kd, .int .i64 E.fl, .int .i64 E.gn, .int .i64 E.at_, .int .i64 E.n, .string (str E.da), .int .i64 E.sz] 26) = W7 ∧ W7.cell? ⟨w2.heap.size, 0, none⟩ = some (.int .i64 E.kd) ∧ W7.cell? ⟨w2.heap.size, 1, none⟩ = some (.int .i64 E.fl) ∧ W7.cell? ⟨w2.heap.size, 2, none⟩ = some (.int .i64 E.gn) ∧ W7.cell? ⟨w2.heap.size, 3, none⟩ = some (.int .i64 E.at_) ∧ W7.cell? ⟨w2.heap.size, 4, none⟩ = some (.int .i64 E.n) ∧ W7.cell? ⟨w2.heap.size, 5, none⟩ = some (.string (str E.da)) ∧ W7.cell? ⟨w2.heap.size, 6, none⟩ = some (.int .i64 E.sz) ∧
          ∃ W8, W7.alloc (.cells #[.int .i64 E.kd, .int .i64 E.fl, .int .i64 E.gn, .int .i64 E.at_, .int .i64 E.n, .string (str E.da), .int .i64 E.sz] 26) = W8 ∧ Hid (W8.ownsRow w.heap.size 26 7 (.slice ba k bc) k (efsC (edsE file s (A.take k)))) ∧ Hid (See W8 7 (.slice (some ⟨W7.heap.size, 0, none⟩) 1 1) 1 (efC E)) ∧ (k + 1 ≤ maxLen ∧ (k + 1) * 64 ≤ 140737488355328 ∧ w.heap.size ≤ W8.heap.size) ∧ Hid (Below w.heap.size w W8)) := fun w2 hb2 => by
        obtain ⟨W7, hW7, hb7, k7⟩ := one_new w2 #[.int .i64 E.kd, .int .i64 E.fl, .int .i64 E.gn, .int .i64 E.at_, .int .i64 E.n, .string (str E.da), .int .i64 E.sz] 26
        obtain ⟨W8, hW8, hb8, -⟩ := one_new W7 #[.int .i64 E.kd, .int .i64 E.fl, .int .i64 E.gn, .int .i64 E.at_, .int .i64 E.n, .string (str E.da), .int .i64 E.sz] 26
        obtain ⟨y0, y1, y2, y3, y4, y5, y6⟩ := cells7 k7
        have f2 : See (W7.alloc (.cells #[.int .i64 E.kd, .int .i64 E.fl, .int .i64 E.gn, .int .i64 E.at_, .int .i64 E.n, .string (str E.da), .int .i64 E.sz] 26)) 7 (.slice (some ⟨W7.heap.size, 0, none⟩) 1 1) 1 (efC E) := see_one rfl (efC_one E)
        rw [hW8] at f2
        have hbw2 := HW.out.trans (hb2.mono HW.out.size)
        have hbw7 := hbw2.trans (hb7.mono hbw2.size)
        have hbw8 := hbw7.trans (hb8.mono hbw7.size)
        exact ⟨W7, hW7, y0, y1, y2, y3, y4, y5, y6, W8, hW8, owns_below (owns_below (owns_below HB.out hb2) hb7) hb8, f2, ⟨by unfold maxLen; omega, by omega, hbw8.size⟩, hbw8⟩
      clear hcc hE hz' hx hwx hz3 HW
      obtain ⟨kd, fl, gn, at_, en, ed, ez⟩ := E
      obtain ⟨xc, xa, xn, xd⟩ := x
      unfold edV efV efA at hef
      dsimp only at *
      subst hsz
      go_wp2_with (first
        | (go_at_call 12; refine hef.mono ?_; rintro e w2 ⟨rfl, hb2⟩; obtain ⟨W7, hW7, y0, y1, y2, y3, y4, y5, y6, W8, hW8, HO8, HNW, hz, HBW⟩ := HAP.out w2 hb2; clear HAP hb2)
        | (at_builtin; (try rw [hW8]); refine wpList_app rfl _ _ 24 26 rfl _ 7 64 Try.underlying24 infoE rfl (by decide) w.heap.size _ _ k 1 _ _ rfl HO8.out rfl HNW.out hz.1 hz.2.1 hz.2.2 ?_; intro v' w3 hown3 hgrow3; obtain ⟨a3, c3, rfl⟩ := owns_form hown3; have HO3 : Hid _ := hown3; have HG3 : Hid _ := hgrow3; clear hown3 hgrow3) | go_in)
      go_roundg (gk - 1)
      case measure => have := HKG.out; omega
      case rel =>
        have e : A.take (k + 1) = A.take k ++ [⟨xc, xa, xn, xd⟩] := by rw [List.take_add_one, HX.out.1]; rfl
        have hzz := HZ.out
        refine ⟨k + 1, a3, c3, z', by have := HKG.out; omega, by go_num, rfl, rfl, ?_, ?_, HBW.out.trans (grown_base HG3.out hz.2.2 HO8.out)⟩
        · rw [e, edsZ_app, ← hzz]
          exact HEZ.out.2.symm
        · rw [e, edsE_app, ← hzz]
          show _ = _ ∧ _
          have : edsE file z [⟨xc, xa, xn, xd⟩] = [⟨kd, fl, gn, at_, en, ed, (z' : Int)⟩] := by show [edE file ⟨xc, xa, xn, xd⟩ z] = _; rw [HEZ.out.1]
          rw [this, efsC_snoc]
          exact HO3.out
    · obtain rfl : k = M := by omega
      have HFIN : Hid (∃ a c, (Ending.returned (.tuple #[.slice ba k bc, .int .i64 (z : Int)])) = .returned (.tuple #[.slice a k c, .int .i64 ((edsZ file s (A.take k) : Nat) : Int)]) ∧ wr.ownsRow w.heap.size 26 7 (.slice a k c) k (efsC (edsE file s (A.take k))) ∧ Below w.heap.size w wr) := ⟨ba, bc, by rw [← HZ.out], HB.out, HW.out⟩
      by_cases hkn : k = n
      · subst hkn
        have hltI : ¬ (k : Int) < (k : Int) := by omega
        clear HB HZ HM
        go_wp2
        go_ret2
        exact HFIN.out
      · obtain rfl : k = 60 := by omega
        have hltI : ((60 : Nat) : Int) < (n : Int) := by omega
        clear HB HZ HM
        go_wp2
        go_ret2
        exact HFIN.out
end Go.Proofs.Ytpjigcccjiidpaa.Ex
