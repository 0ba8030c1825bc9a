import Derived.Test.YtpjigcccjiidpaaExIe
namespace Go.Proofs.Ytpjigcccjiidpaa.Ex
open Go.RowKit Go.Lib Go.Deep

set_option maxRecDepth 20000 in
set_option maxHeartbeats 4000000 in
theorem apart_walk (one two three : List UInt8) (h1 : one.length ≤ maxLen) (h2 : two.length ≤ maxLen) (h3 : three.length ≤ maxLen) (A : List Bo) (w : World) (a0 : Option Addr) (n0 c0 : Nat) (hA : See w 5 (.slice a0 n0 c0) n0 (bosC A)) (hl : A.length = n0) (hn0 : n0 ≤ 9223372036854775807) (hw : ∀ e ∈ A, EdW e.ed) :
    Calls Try.prog 4 #[.string (str one), .string (str two), .string (str three), .slice a0 n0 c0] w fun e w' => e = .returned (.bool true) ∧ Below w.heap.size w w' := by
  have hwk := works_any w
  have HSH : Hid (∀ s V, s.length ≤ maxLen → Calls Try.prog 8 #[.string (str s), .int .i64 300] V fun x w' => x = .returned (.string (str (s.take 300))) ∧ w' = V) := fun s V hs => short_any s 300 V hs
  have hs1 := fun V => HSH.out one V h1
  have hs2 := fun V => HSH.out two V h2
  have hs3 := fun V => HSH.out three V h3
  obtain ⟨a, ha⟩ : ∃ a, one.take 300 = a := ⟨_, rfl⟩
  obtain ⟨b, hb⟩ : ∃ b, two.take 300 = b := ⟨_, rfl⟩
  obtain ⟨c, hc⟩ : ∃ c, three.take 300 = c := ⟨_, rfl⟩
  have hal : a.length ≤ 300 := by rw [← ha, List.length_take]; omega
  have hbl : b.length ≤ 300 := by rw [← hb, List.length_take]; omega
  have hcl : c.length ≤ 300 := by rw [← hc, List.length_take]; omega
  rw [ha] at hs1
  rw [hb] at hs2
  rw [hc] at hs3
  have HS1 : Hid (∀ V, Calls Try.prog 8 #[.string (str one), .int .i64 300] V fun x w' => x = .returned (.string (str a)) ∧ w' = V) := hs1
  have HS2 : Hid (∀ V, Calls Try.prog 8 #[.string (str two), .int .i64 300] V fun x w' => x = .returned (.string (str b)) ∧ w' = V) := hs2
  have HS3 : Hid (∀ V, Calls Try.prog 8 #[.string (str three), .int .i64 300] V fun x w' => x = .returned (.string (str c)) ∧ w' = V) := hs3
  have HA : Hid (See w 5 (.slice a0 n0 c0) n0 (bosC A)) := hA
  have HL : Hid (A.length = n0) := hl
  have HWF : Hid (∀ e ∈ A, EdW e.ed) := hw
  clear HSH hs1 hs2 hs3 ha hb hc hA hl hw h1 h2 h3
  obtain ⟨M, hM⟩ : ∃ M, min n0 60 = M := ⟨_, rfl⟩
  have hM60 : M ≤ 60 := by omega
  have hMn : M ≤ n0 := by omega
  have hMM : M = n0 ∨ M = 60 := by omega
  clear hM
  have hsa : ((str a).size : Int) = (a.length : Int) := by rw [str_size]
  have hsb : ((str b).size : Int) = (b.length : Int) := by rw [str_size]
  obtain ⟨na, hna⟩ : ∃ na, a.length = na := ⟨_, rfl⟩
  obtain ⟨nb, hnb⟩ : ∃ nb, b.length = nb := ⟨_, rfl⟩
  rw [hna] at hsa hal
  rw [hnb] at hsb hbl
  have HN : Hid (a.length = na ∧ b.length = nb ∧ c.length ≤ 300) := ⟨hna, hnb, hcl⟩
  clear hna hnb hcl
  go_enter Try.func4, Try.ntmps4
  go_wp2_with fail
  refine hwk.mono ?_
  rintro e w1 ⟨rfl, hb1⟩
  have HB1 : Hid (Below w.heap.size w w1) := hb1
  clear hb1 hwk
  go_wp2_with fail
  refine (HS1.out _).mono ?_
  rintro e w9 ⟨rfl, hw9⟩
  subst w9
  go_wp2_with fail
  refine (HS2.out _).mono ?_
  rintro e w9 ⟨rfl, hw9⟩
  subst w9
  go_wp2_with fail
  refine (HS3.out _).mono ?_
  rintro e w9 ⟨rfl, hw9⟩
  subst w9
  clear HS1 HS2 HS3
  go_wp2_with fail
  go_loopg [13, 14, 15, 16, 17, 18] M (fun gk v1 v2 v3 nv mv iv wr => ∃ (k : Nat) (p1 : Option Addr) (k1 c1 : Nat) (p2 : Option Addr) (k2 c2 : Nat) (p3 : Option Addr) (c3 zn zm : Nat), k + gk = M ∧ iv = .int .i64 (k : Int) ∧ v1 = (Value.slice p1 k1 c1) ∧ v2 = (Value.slice p2 k2 c2) ∧ v3 = (Value.slice p3 k c3) ∧ nv = .int .i64 (zn : Int) ∧ mv = .int .i64 (zm : Int) ∧ Hid (zn = edsZ 5 na (fstB (A.take k)) ∧ zm = edsZ 2 nb (sndB (A.take k))) ∧ Hid (Thr w1.heap.size (Value.slice p1 k1 c1) (Value.slice p2 k2 c2) (Value.slice p3 k c3) k1 k2 k (efsC (edsE 5 na (fstB (A.take k)))) (efsC (edsE 2 nb (sndB (A.take k)))) (efsC (mixE na nb (A.take k))) wr ∧ k1 + k2 = k) ∧ Hid (Below w1.heap.size w1 wr))
  case atStart => exact ⟨0, none, 0, 0, none, 0, 0, none, 0, na, nb, by omega, rfl, rfl, rfl, rfl, rfl, rfl, ⟨rfl, rfl⟩, ⟨⟨⟨by simp [efsC, edsE, fstB], .inl ⟨rfl, rfl⟩⟩, ⟨by simp [efsC, edsE, sndB], .inl ⟨rfl, rfl⟩⟩, ⟨by simp [efsC, mixE], .inl ⟨rfl, rfl⟩⟩, nofun, nofun, nofun⟩, rfl⟩, Below.refl _ _⟩
  case round =>
    obtain ⟨k, p1, k1, c1, p2, k2, c2, p3, c3, zn, zm, hk, rfl, rfl, rfl, rfl, rfl, rfl, HZ, HB, HW⟩ := hrel
    have HKG : Hid (k + gk = M) := hk
    have hkn : k ≤ M := by omega
    clear hk
    by_cases hlt : k < M
    · have hltI : (k : Int) < (n0 : Int) := by omega
      have hlt6 : (k : Int) < 60 := by omega
      obtain ⟨x, hx⟩ : ∃ x, A[k]? = some x := ⟨_, List.getElem?_eq_getElem (by have := HL.out; omega)⟩
      have hb := HB1.out.trans (HW.out.mono HB1.out.size)
      obtain ⟨g1, o1, rfl, -, hcc⟩ := (HA.out.below hb).row boC_len (by decide) hx
      clear hb
      have r0 : wr.cell? ⟨g1, o1 + k * 5, none⟩ = some (.bool x.se) := hcc 0 _ rfl
      have r1 : wr.cell? ⟨g1, o1 + k * 5 + 1, none⟩ = some (.bool x.ed.cut) := hcc 1 _ rfl
      have r2 : wr.cell? ⟨g1, o1 + k * 5 + 2, none⟩ = some (.int .i64 x.ed.at_) := hcc 2 _ rfl
      have r3 : wr.cell? ⟨g1, o1 + k * 5 + 3, none⟩ = some (.int .i64 x.ed.n) := hcc 3 _ rfl
      have r4 : wr.cell? ⟨g1, o1 + k * 5 + 4, none⟩ = some (.string (str x.ed.da)) := hcc 4 _ rfl
      have hwx := HWF.out x (List.mem_of_getElem? hx)
      have hz3 : zn ≤ 300 ∧ zm ≤ 300 := by
        have := edsZ_le 5 (fstB (A.take k)) na
        have := edsZ_le 2 (sndB (A.take k)) nb
        have := HZ.out
        omega
      have HX : Hid (A.take (k + 1) = A.take k ++ [x]) := by rw [List.take_add_one, hx]; rfl
      obtain ⟨xs, xe⟩ := x
      dsimp only at *
      cases xs
      · -- false
        have hef := effect_any xe 5 zn wr (by omega) hwx.da hwx.at_ hwx.n
        have hsz := edE_sz 5 xe zn
        obtain ⟨E, hE⟩ : ∃ E, edE 5 xe zn = E := ⟨_, rfl⟩
        obtain ⟨z', hz'⟩ : ∃ z', edZ 5 xe zn = z' := ⟨_, rfl⟩
        rw [hE] at hef hsz
        rw [hz'] at hsz
        have HEZ : Hid (edE 5 xe zn = E ∧ edZ 5 xe zn = z') := ⟨hE, hz'⟩
        have HAP : Hid (∀ w2, Below wr.heap.size wr w2 → ∃ W7, w2.alloc (.cells #[.int .i64 E.kd, .int .i64 E.fl, .int .i64 E.gn, .int .i64 E.at_, .int .i64 E.n, .string (str E.da), .int .i64 E.sz] 26) = W7 ∧ (W7.cell? ⟨w2.heap.size, 0, none⟩ = some (.int .i64 E.kd) ∧ W7.cell? ⟨w2.heap.size, 1, none⟩ = some (.int .i64 E.fl) ∧ W7.cell? ⟨w2.heap.size, 2, none⟩ = some (.int .i64 E.gn) ∧ W7.cell? ⟨w2.heap.size, 3, none⟩ = some (.int .i64 E.at_) ∧ W7.cell? ⟨w2.heap.size, 4, none⟩ = some (.int .i64 E.n) ∧ W7.cell? ⟨w2.heap.size, 5, none⟩ = some (.string (str E.da)) ∧ W7.cell? ⟨w2.heap.size, 6, none⟩ = some (.int .i64 E.sz)) ∧ ∃ W8, W7.alloc (.cells #[.int .i64 E.kd, .int .i64 E.fl, .int .i64 E.gn, .int .i64 E.at_, .int .i64 E.n, .string (str E.da), .int .i64 E.sz] 26) = W8 ∧ Hid (Thr w1.heap.size (Value.slice p1 k1 c1) (Value.slice p2 k2 c2) (Value.slice p3 k c3) k1 k2 k (efsC (edsE 5 na (fstB (A.take k)))) (efsC (edsE 2 nb (sndB (A.take k)))) (efsC (mixE na nb (A.take k))) W8) ∧ Hid (See W8 7 (.slice (some ⟨W7.heap.size, 0, none⟩) 1 1) 1 (efC E)) ∧ w1.heap.size ≤ W8.heap.size ∧ Hid (∀ v' w3, w3.ownsRow w1.heap.size 26 7 v' (k1 + 1) ((efsC (edsE 5 na (fstB (A.take k)))) ++ efC E) → W8.grownBy w3 (Value.slice p1 k1 c1).ownBlock → (v'.ownBlock = (Value.slice p1 k1 c1).ownBlock ∨ v'.ownBlock = some W8.heap.size) → (w3.cell? ⟨w2.heap.size, 0, none⟩ = some (.int .i64 E.kd) ∧ w3.cell? ⟨w2.heap.size, 1, none⟩ = some (.int .i64 E.fl) ∧ w3.cell? ⟨w2.heap.size, 2, none⟩ = some (.int .i64 E.gn) ∧ w3.cell? ⟨w2.heap.size, 3, none⟩ = some (.int .i64 E.at_) ∧ w3.cell? ⟨w2.heap.size, 4, none⟩ = some (.int .i64 E.n) ∧ w3.cell? ⟨w2.heap.size, 5, none⟩ = some (.string (str E.da)) ∧ w3.cell? ⟨w2.heap.size, 6, none⟩ = some (.int .i64 E.sz)) ∧ ∃ W9, w3.alloc (.cells #[.int .i64 E.kd, .int .i64 E.fl, .int .i64 E.gn, .int .i64 E.at_, .int .i64 E.n, .string (str E.da), .int .i64 E.sz] 26) = W9 ∧ Hid (Thr w1.heap.size v' (Value.slice p2 k2 c2) (Value.slice p3 k c3) (k1 + 1) k2 k ((efsC (edsE 5 na (fstB (A.take k)))) ++ efC E) (efsC (edsE 2 nb (sndB (A.take k)))) (efsC (mixE na nb (A.take k))) W9) ∧ Hid (See W9 7 (.slice (some ⟨w3.heap.size, 0, none⟩) 1 1) 1 (efC E)) ∧ w1.heap.size ≤ W9.heap.size ∧ Hid (Below w1.heap.size w1 W9))) := fun w2 hb2 => by
          have ht2 := HB.out.1.below hb2
          have hbw2 := HW.out.trans (hb2.mono HW.out.size)
          obtain ⟨W7, hW7, hb7, k7⟩ := one_new w2 #[.int .i64 E.kd, .int .i64 E.fl, .int .i64 E.gn, .int .i64 E.at_, .int .i64 E.n, .string (str E.da), .int .i64 E.sz] 26
          have ht7 := ht2.below hb7
          have hbw7 := hbw2.trans (hb7.mono hbw2.size)
          obtain ⟨W8, hW8, HT8, HS8, hs8, HB8⟩ := thr_new ht7 hbw7.size E
          have hbw8 := hbw7.trans (HB8.out.mono hbw7.size)
          have k8 := (HB8.out.block _ (heap_lt k7)).trans k7
          refine ⟨W7, hW7, cells7 k7, W8, hW8, HT8, HS8, hs8, fun v' w3 ho3 hg3 hat3 => ?_⟩
          have k3 := (hg3.block _ (heap_lt k8) (fun e => by have := (ht2.o1.lt _ e.symm).2; omega)).trans k8
          have ht3 := HT8.out.app1 ho3 hg3 hat3
          have hbw3 := hbw8.trans (grown_base hg3 hs8 HT8.out.o1)
          obtain ⟨W9, hW9, HT9, HS9, hs9, HB9⟩ := thr_new ht3 hbw3.size E
          exact ⟨cells7 k3, W9, hW9, HT9, HS9, hs9, hbw3.trans (HB9.out.mono hbw3.size)⟩
        have hkb : k1 + 1 ≤ maxLen ∧ (k1 + 1) * 64 ≤ 140737488355328 ∧ k + 1 ≤ maxLen ∧ (k + 1) * 64 ≤ 140737488355328 := by have := HB.out.2; refine ⟨?_, ?_, ?_, ?_⟩ <;> (try unfold maxLen) <;> omega
        clear hcc hE hz' hx hwx hz3 HW
        obtain ⟨kd, fl, gn, at_, en, ed, ez⟩ := E
        obtain ⟨xc, xa, xn, xd⟩ := xe
        unfold edV efV efA at hef
        dsimp only at *
        subst hsz
        go_wp2_with (first
          | (go_at_call 12; refine hef.mono ?_; rintro e w2 ⟨rfl, hb2⟩; obtain ⟨W7, hW7, ⟨y0, y1, y2, y3, y4, y5, y6⟩, W8, hW8, HT8, HS8, hs8, HN8⟩ := HAP.out w2 hb2; clear HAP hb2)
          | (at_builtin; (try rw [hW8]); refine wpList_app_at rfl _ _ 24 26 rfl _ 7 64 Try.underlying24 infoE rfl (by decide) w1.heap.size _ _ k1 1 _ _ rfl HT8.out.o1 rfl HS8.out (by decide) hkb.1 hkb.2.1 hs8 ?_; intro v' w3 ho3 hg3 hat3; obtain ⟨⟨u0, u1, u2, u3, u4, u5, u6⟩, W9, hW9, HT9, HS9, hs9, HB9⟩ := HN8.out v' w3 ho3 hg3 hat3; obtain ⟨a3, cc3, rfl⟩ := owns_form ho3; clear ho3 hg3 hat3 HN8)
          | (at_builtin; (try rw [hW9]); refine wpList_app_at rfl _ _ 24 26 rfl _ 7 64 Try.underlying24 infoE rfl (by decide) w1.heap.size _ _ k 1 _ _ rfl HT9.out.o3 rfl HS9.out (by decide) hkb.2.2.1 hkb.2.2.2 hs9 ?_; intro v'' w4 ho4 hg4 hat4; have HT4 : Hid (_ ∧ Below w1.heap.size w1 w4) := ⟨HT9.out.app3 ho4 hg4 hat4, HB9.out.trans (grown_base hg4 hs9 HT9.out.o3)⟩; obtain ⟨a4, cc4, rfl⟩ := owns_form ho4; clear ho4 hg4 hat4) | go_in)
        go_roundg (gk - 1)
        case measure => have := HKG.out; omega
        case rel =>
          have e := HX.out
          obtain ⟨zz1, zz2⟩ := HZ.out
          refine ⟨k + 1, a3, k1 + 1, cc3, p2, k2, c2, a4, cc4, z', zm, by have := HKG.out; omega, by go_num, rfl, rfl, rfl, rfl, rfl, ?_, ?_, HT4.out.2⟩
          · rw [e, fstB_app, sndB_app, edsZ_app, edsZ_app, ← zz1, ← zz2]
            exact ⟨HEZ.out.2.symm, rfl⟩
          · rw [e, fstB_app, sndB_app, mixE_app, edsE_app, edsE_app, ← zz1, ← zz2]
            refine ⟨?_, by have := HB.out.2; omega⟩
            have e1 : mixE zn zm [⟨false, ⟨xc, xa, xn, xd⟩⟩] = [⟨kd, fl, gn, at_, en, ed, (z' : Int)⟩] := by show [edE 5 ⟨xc, xa, xn, xd⟩ zn] = _; rw [HEZ.out.1]
            have e2 : edsE 5 zn [⟨xc, xa, xn, xd⟩] = [⟨kd, fl, gn, at_, en, ed, (z' : Int)⟩] := by show [edE 5 ⟨xc, xa, xn, xd⟩ zn] = _; rw [HEZ.out.1]
            rw [e1, show fstB [⟨false, ⟨xc, xa, xn, xd⟩⟩] = [⟨xc, xa, xn, xd⟩] from rfl, show sndB [⟨false, ⟨xc, xa, xn, xd⟩⟩] = [] from rfl, e2, show edsE 2 zm [] = [] from rfl, List.append_nil, efsC_snoc, efsC_snoc]
            exact HT4.out.1
      · -- true
        have hef := effect_any xe 2 zm wr (by omega) hwx.da hwx.at_ hwx.n
        have hsz := edE_sz 2 xe zm
        obtain ⟨E, hE⟩ : ∃ E, edE 2 xe zm = E := ⟨_, rfl⟩
        obtain ⟨z', hz'⟩ : ∃ z', edZ 2 xe zm = z' := ⟨_, rfl⟩
        rw [hE] at hef hsz
        rw [hz'] at hsz
        have HEZ : Hid (edE 2 xe zm = E ∧ edZ 2 xe zm = z') := ⟨hE, hz'⟩
        have HAP : Hid (∀ w2, Below wr.heap.size wr w2 → ∃ W7, w2.alloc (.cells #[.int .i64 E.kd, .int .i64 E.fl, .int .i64 E.gn, .int .i64 E.at_, .int .i64 E.n, .string (str E.da), .int .i64 E.sz] 26) = W7 ∧ (W7.cell? ⟨w2.heap.size, 0, none⟩ = some (.int .i64 E.kd) ∧ W7.cell? ⟨w2.heap.size, 1, none⟩ = some (.int .i64 E.fl) ∧ W7.cell? ⟨w2.heap.size, 2, none⟩ = some (.int .i64 E.gn) ∧ W7.cell? ⟨w2.heap.size, 3, none⟩ = some (.int .i64 E.at_) ∧ W7.cell? ⟨w2.heap.size, 4, none⟩ = some (.int .i64 E.n) ∧ W7.cell? ⟨w2.heap.size, 5, none⟩ = some (.string (str E.da)) ∧ W7.cell? ⟨w2.heap.size, 6, none⟩ = some (.int .i64 E.sz)) ∧ ∃ W8, W7.alloc (.cells #[.int .i64 E.kd, .int .i64 E.fl, .int .i64 E.gn, .int .i64 E.at_, .int .i64 E.n, .string (str E.da), .int .i64 E.sz] 26) = W8 ∧ Hid (Thr w1.heap.size (Value.slice p1 k1 c1) (Value.slice p2 k2 c2) (Value.slice p3 k c3) k1 k2 k (efsC (edsE 5 na (fstB (A.take k)))) (efsC (edsE 2 nb (sndB (A.take k)))) (efsC (mixE na nb (A.take k))) W8) ∧ Hid (See W8 7 (.slice (some ⟨W7.heap.size, 0, none⟩) 1 1) 1 (efC E)) ∧ w1.heap.size ≤ W8.heap.size ∧ Hid (∀ v' w3, w3.ownsRow w1.heap.size 26 7 v' (k2 + 1) ((efsC (edsE 2 nb (sndB (A.take k)))) ++ efC E) → W8.grownBy w3 (Value.slice p2 k2 c2).ownBlock → (v'.ownBlock = (Value.slice p2 k2 c2).ownBlock ∨ v'.ownBlock = some W8.heap.size) → (w3.cell? ⟨w2.heap.size, 0, none⟩ = some (.int .i64 E.kd) ∧ w3.cell? ⟨w2.heap.size, 1, none⟩ = some (.int .i64 E.fl) ∧ w3.cell? ⟨w2.heap.size, 2, none⟩ = some (.int .i64 E.gn) ∧ w3.cell? ⟨w2.heap.size, 3, none⟩ = some (.int .i64 E.at_) ∧ w3.cell? ⟨w2.heap.size, 4, none⟩ = some (.int .i64 E.n) ∧ w3.cell? ⟨w2.heap.size, 5, none⟩ = some (.string (str E.da)) ∧ w3.cell? ⟨w2.heap.size, 6, none⟩ = some (.int .i64 E.sz)) ∧ ∃ W9, w3.alloc (.cells #[.int .i64 E.kd, .int .i64 E.fl, .int .i64 E.gn, .int .i64 E.at_, .int .i64 E.n, .string (str E.da), .int .i64 E.sz] 26) = W9 ∧ Hid (Thr w1.heap.size (Value.slice p1 k1 c1) v' (Value.slice p3 k c3) k1 (k2 + 1) k (efsC (edsE 5 na (fstB (A.take k)))) ((efsC (edsE 2 nb (sndB (A.take k)))) ++ efC E) (efsC (mixE na nb (A.take k))) W9) ∧ Hid (See W9 7 (.slice (some ⟨w3.heap.size, 0, none⟩) 1 1) 1 (efC E)) ∧ w1.heap.size ≤ W9.heap.size ∧ Hid (Below w1.heap.size w1 W9))) := fun w2 hb2 => by
          have ht2 := HB.out.1.below hb2
          have hbw2 := HW.out.trans (hb2.mono HW.out.size)
          obtain ⟨W7, hW7, hb7, k7⟩ := one_new w2 #[.int .i64 E.kd, .int .i64 E.fl, .int .i64 E.gn, .int .i64 E.at_, .int .i64 E.n, .string (str E.da), .int .i64 E.sz] 26
          have ht7 := ht2.below hb7
          have hbw7 := hbw2.trans (hb7.mono hbw2.size)
          obtain ⟨W8, hW8, HT8, HS8, hs8, HB8⟩ := thr_new ht7 hbw7.size E
          have hbw8 := hbw7.trans (HB8.out.mono hbw7.size)
          have k8 := (HB8.out.block _ (heap_lt k7)).trans k7
          refine ⟨W7, hW7, cells7 k7, W8, hW8, HT8, HS8, hs8, fun v' w3 ho3 hg3 hat3 => ?_⟩
          have k3 := (hg3.block _ (heap_lt k8) (fun e => by have := (ht2.o2.lt _ e.symm).2; omega)).trans k8
          have ht3 := HT8.out.app2 ho3 hg3 hat3
          have hbw3 := hbw8.trans (grown_base hg3 hs8 HT8.out.o2)
          obtain ⟨W9, hW9, HT9, HS9, hs9, HB9⟩ := thr_new ht3 hbw3.size E
          exact ⟨cells7 k3, W9, hW9, HT9, HS9, hs9, hbw3.trans (HB9.out.mono hbw3.size)⟩
        have hkb : k2 + 1 ≤ maxLen ∧ (k2 + 1) * 64 ≤ 140737488355328 ∧ k + 1 ≤ maxLen ∧ (k + 1) * 64 ≤ 140737488355328 := by have := HB.out.2; refine ⟨?_, ?_, ?_, ?_⟩ <;> (try unfold maxLen) <;> omega
        clear hcc hE hz' hx hwx hz3 HW
        obtain ⟨kd, fl, gn, at_, en, ed, ez⟩ := E
        obtain ⟨xc, xa, xn, xd⟩ := xe
        unfold edV efV efA at hef
        dsimp only at *
        subst hsz
        go_wp2_with (first
          | (go_at_call 12; refine hef.mono ?_; rintro e w2 ⟨rfl, hb2⟩; obtain ⟨W7, hW7, ⟨y0, y1, y2, y3, y4, y5, y6⟩, W8, hW8, HT8, HS8, hs8, HN8⟩ := HAP.out w2 hb2; clear HAP hb2)
          | (at_builtin; (try rw [hW8]); refine wpList_app_at rfl _ _ 24 26 rfl _ 7 64 Try.underlying24 infoE rfl (by decide) w1.heap.size _ _ k2 1 _ _ rfl HT8.out.o2 rfl HS8.out (by decide) hkb.1 hkb.2.1 hs8 ?_; intro v' w3 ho3 hg3 hat3; obtain ⟨⟨u0, u1, u2, u3, u4, u5, u6⟩, W9, hW9, HT9, HS9, hs9, HB9⟩ := HN8.out v' w3 ho3 hg3 hat3; obtain ⟨a3, cc3, rfl⟩ := owns_form ho3; clear ho3 hg3 hat3 HN8)
          | (at_builtin; (try rw [hW9]); refine wpList_app_at rfl _ _ 24 26 rfl _ 7 64 Try.underlying24 infoE rfl (by decide) w1.heap.size _ _ k 1 _ _ rfl HT9.out.o3 rfl HS9.out (by decide) hkb.2.2.1 hkb.2.2.2 hs9 ?_; intro v'' w4 ho4 hg4 hat4; have HT4 : Hid (_ ∧ Below w1.heap.size w1 w4) := ⟨HT9.out.app3 ho4 hg4 hat4, HB9.out.trans (grown_base hg4 hs9 HT9.out.o3)⟩; obtain ⟨a4, cc4, rfl⟩ := owns_form ho4; clear ho4 hg4 hat4) | go_in)
        go_roundg (gk - 1)
        case measure => have := HKG.out; omega
        case rel =>
          have e := HX.out
          obtain ⟨zz1, zz2⟩ := HZ.out
          refine ⟨k + 1, p1, k1, c1, a3, k2 + 1, cc3, a4, cc4, zn, z', by have := HKG.out; omega, by go_num, rfl, rfl, rfl, rfl, rfl, ?_, ?_, HT4.out.2⟩
          · rw [e, fstB_app, sndB_app, edsZ_app, edsZ_app, ← zz1, ← zz2]
            exact ⟨rfl, HEZ.out.2.symm⟩
          · rw [e, fstB_app, sndB_app, mixE_app, edsE_app, edsE_app, ← zz1, ← zz2]
            refine ⟨?_, by have := HB.out.2; omega⟩
            have e1 : mixE zn zm [⟨true, ⟨xc, xa, xn, xd⟩⟩] = [⟨kd, fl, gn, at_, en, ed, (z' : Int)⟩] := by show [edE 2 ⟨xc, xa, xn, xd⟩ zm] = _; rw [HEZ.out.1]
            have e2 : edsE 2 zm [⟨xc, xa, xn, xd⟩] = [⟨kd, fl, gn, at_, en, ed, (z' : Int)⟩] := by show [edE 2 ⟨xc, xa, xn, xd⟩ zm] = _; rw [HEZ.out.1]
            rw [e1, show fstB [⟨true, ⟨xc, xa, xn, xd⟩⟩] = [] from rfl, show sndB [⟨true, ⟨xc, xa, xn, xd⟩⟩] = [⟨xc, xa, xn, xd⟩] from rfl, e2, show edsE 5 zn [] = [] from rfl, List.append_nil, efsC_snoc, efsC_snoc]
            exact HT4.out.1
    · obtain rfl : k = M := by omega
      have ht := HB.out.1
      have hkk := HB.out.2
      have s1 := see_own ht.o1 (efs_one _)
      have s2 := see_own ht.o2 (efs_one _)
      have s3 := see_own ht.o3 (efs_one _)
      have hl1 : (fstB (A.take k)).length = k1 := by
        have := s1.1
        rw [show efsC (edsE 5 na (fstB (A.take k))) = (edsE 5 na (fstB (A.take k))).flatMap efC from rfl, flat_len efC 7 efC_len, edsE_len] at this
        omega
      have hl2 : (sndB (A.take k)).length = k2 := by
        have := s2.1
        rw [show efsC (edsE 2 nb (sndB (A.take k))) = (edsE 2 nb (sndB (A.take k))).flatMap efC from rfl, flat_len efC 7 efC_len, edsE_len] at this
        omega
      have hl3 : (A.take k).length = k := by rw [List.length_take, HL.out]; omega
      obtain ⟨e1, e2, hcl⟩ := HN.out
      rw [← e1] at s1
      rw [← e2] at s2
      rw [← e1, ← e2] at s3
      rw [← e1] at hal
      rw [← e2] at hbl
      have C1 := mix_call wr (A.take k) a b c hal hbl hcl p3 k c3 s3 hl3 hM60
      obtain ⟨TA, hTA⟩ : ∃ TA, runs a (edsE 5 a.length (fstB (A.take k))) = TA := ⟨_, rfl⟩
      obtain ⟨TB, hTB⟩ : ∃ TB, runs b (edsE 2 b.length (sndB (A.take k))) = TB := ⟨_, rfl⟩
      have C2 : Hid (∀ V, Below wr.heap.size wr V → CallTo V #[.int .i64 0, .int .i64 5, .int .i64 5, .int .i64 0] #[.string (str a)] 1 1 1 p1 k1 c1 [TA]) := fun V hV => hTA ▸ file_call 5 (.inl rfl) V _ a hal p1 k1 c1 (s1.below hV) hl1 (by omega)
      have C3 : Hid (∀ V, Below wr.heap.size wr V → CallTo V #[.int .i64 0, .int .i64 2, .int .i64 2, .int .i64 0] #[.string (str b)] 1 1 1 p2 k2 c2 [TB]) := fun V hV => hTB ▸ file_call 2 (.inr rfl) V _ b hbl p2 k2 c2 (s2.below hV) hl2 (by omega)
      rw [hTA, hTB] at C1
      have HEND : Hid (∀ w', Below wr.heap.size wr w' → Below w.heap.size w w') := fun w' h => by
        have h1 := HB1.out.trans (HW.out.mono HB1.out.size)
        exact h1.trans (h.mono h1.size)
      obtain ⟨P1, hP1, hst1⟩ := C1
      clear ht hkk s1 s2 s3 hl1 hl2 hl3 e1 e2 hcl hTA hTB HB HZ HW HN HA HL HWF HB1 hal hbl
      by_cases hkn0 : k = n0
      · subst hkn0
        have hltI : ¬ (k : Int) < (k : Int) := by omega
        go_wp2_with fail
        refine hst1.mono ?_
        rintro e w3 ⟨a3, c3', rfl, P2, hP2, hap1⟩
        go_wp2_with fail
        refine hap1.mono ?_
        rintro e w4 ⟨q, g, cg, rfl, U, hU, HBU, HU⟩
        obtain ⟨P3, hP3, hst2⟩ := C2.out U HBU.out
        clear hst1 hap1 hP1 hP2
        go_wp2_with fail
        refine hst2.mono ?_
        rintro e w5 ⟨a5, c5, rfl, P4, hP4, hap2⟩
        go_wp2_with fail
        refine hap2.mono ?_
        rintro e w6 ⟨q2, g2, cg2, rfl, U2, hU2, HBU2, HU2⟩
        have HB2 : Hid (Below wr.heap.size wr U2) := HBU.out.trans (HBU2.out.mono HBU.out.size)
        obtain ⟨P5, hP5, hst3⟩ := C3.out U2 HB2.out
        clear hst2 hap2 hP3 hP4 hU
        go_wp2_with fail
        refine hst3.mono ?_
        rintro e w7 ⟨a7, c7, rfl, P6, hP6, hap3⟩
        go_wp2_with fail
        refine hap3.mono ?_
        rintro e w8 ⟨q3, g3, cg3, rfl, U3, hU3, HBU3, HU3⟩
        clear hst3 hap3 hP5 hP6 hU2
        have hb3 : Below U.heap.size U U3 := HBU2.out.trans (HBU3.out.mono HBU2.out.size)
        obtain ⟨d1, dd⟩ := HU.out U3 hb3
        obtain ⟨d2, dp⟩ := HU2.out U3 HBU3.out
        obtain ⟨d3, dq⟩ := HU3.out U3 (Below.refl _ _)
        have f0 := dd 0 _ rfl
        have f1 := dd 1 _ rfl
        have f2 := dd 2 _ rfl
        have p0 := dp 0 _ rfl
        have q0 := dq 0 _ rfl
        have HE := HEND.out U3 (HB2.out.trans (HBU3.out.mono HB2.out.size))
        have HE2 : Hid (Below w.heap.size w U3) := HE
        clear dd dp dq HE hb3 HU HU2 HU3 HBU HBU2 HBU3 HB2 C2 C3 HEND
        go_wp2_with (first
          | (go_at_call 11; refine (num_any _ _).mono ?_; rintro e w9 ⟨rfl, hw9⟩; subst w9)
          | fail)
        go_quiet (fail)
        go_wp2
        go_ret
        exact ⟨rfl, bdr HE2.out _⟩
      · obtain rfl : k = 60 := by omega
        have hltI : ((60 : Nat) : Int) < (n0 : Int) := by omega
        go_wp2_with fail
        refine hst1.mono ?_
        rintro e w3 ⟨a3, c3', rfl, P2, hP2, hap1⟩
        go_wp2_with fail
        refine hap1.mono ?_
        rintro e w4 ⟨q, g, cg, rfl, U, hU, HBU, HU⟩
        obtain ⟨P3, hP3, hst2⟩ := C2.out U HBU.out
        clear hst1 hap1 hP1 hP2
        go_wp2_with fail
        refine hst2.mono ?_
        rintro e w5 ⟨a5, c5, rfl, P4, hP4, hap2⟩
        go_wp2_with fail
        refine hap2.mono ?_
        rintro e w6 ⟨q2, g2, cg2, rfl, U2, hU2, HBU2, HU2⟩
        have HB2 : Hid (Below wr.heap.size wr U2) := HBU.out.trans (HBU2.out.mono HBU.out.size)
        obtain ⟨P5, hP5, hst3⟩ := C3.out U2 HB2.out
        clear hst2 hap2 hP3 hP4 hU
        go_wp2_with fail
        refine hst3.mono ?_
        rintro e w7 ⟨a7, c7, rfl, P6, hP6, hap3⟩
        go_wp2_with fail
        refine hap3.mono ?_
        rintro e w8 ⟨q3, g3, cg3, rfl, U3, hU3, HBU3, HU3⟩
        clear hst3 hap3 hP5 hP6 hU2
        have hb3 : Below U.heap.size U U3 := HBU2.out.trans (HBU3.out.mono HBU2.out.size)
        obtain ⟨d1, dd⟩ := HU.out U3 hb3
        obtain ⟨d2, dp⟩ := HU2.out U3 HBU3.out
        obtain ⟨d3, dq⟩ := HU3.out U3 (Below.refl _ _)
        have f0 := dd 0 _ rfl
        have f1 := dd 1 _ rfl
        have f2 := dd 2 _ rfl
        have p0 := dp 0 _ rfl
        have q0 := dq 0 _ rfl
        have HE := HEND.out U3 (HB2.out.trans (HBU3.out.mono HB2.out.size))
        have HE2 : Hid (Below w.heap.size w U3) := HE
        clear dd dp dq HE hb3 HU HU2 HU3 HBU HBU2 HBU3 HB2 C2 C3 HEND
        go_wp2_with (first
          | (go_at_call 11; refine (num_any _ _).mono ?_; rintro e w9 ⟨rfl, hw9⟩; subst w9)
          | fail)
        go_quiet (fail)
        go_wp2
        go_ret
        exact ⟨rfl, bdr HE2.out _⟩
end Go.Proofs.Ytpjigcccjiidpaa.Ex
