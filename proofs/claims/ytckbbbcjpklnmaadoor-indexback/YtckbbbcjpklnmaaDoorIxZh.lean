import Derived.Test.YtckbbbcjpklnmaaDoorIxZg
import Derived.Test.YtckbbbcjpklnmaaDoorIxZe
import Derived.Test.YtckbbbcjpklnmaaDoorIxNb
import Derived.Test.YtckbbbcjpklnmaaDoorIxH
namespace Go.Proofs.YtckbbbcjpklnmaaDoor.Ix
open Go.RowKit Go.Lib Go.Deep
theorem who_len {sl fl dr mf ls pg : Nat} (hc : Cn.May ⟨sl, fl, dr, mf, ls, pg⟩) {T : List Nd} {O : List Ob} {Q : List Int} (hT : risB ⟨sl, fl, dr, mf, ls, pg⟩ 0 T = true) (hP : poolB ⟨sl, fl, dr, mf, ls, pg⟩ O Q = true) : (whoL ⟨sl, fl, dr, mf, ls, pg⟩ T O Q).length = Cn.pgs ⟨sl, fl, dr, mf, ls, pg⟩ * (pg - 5) := by
  obtain ⟨⟨h1o, h1q⟩, h2o, h2q⟩ := pool_iff.1 hP
  obtain ⟨i1, i2, i3, i4, i5⟩ := imgL_len (ris_at hT).1 h2o h1o h1q
  have := hc.1.fit.1
  unfold whoL
  rw [List.length_append, i5]
  simp only [z0, List.length_replicate]
  have e : Cn.body ⟨sl, fl, dr, mf, ls, pg⟩ = pg - 5 := rfl
  rw [e] at this ⊢
  omega
theorem who_ab {sl fl dr mf ls pg : Nat} (hc : Cn.May ⟨sl, fl, dr, mf, ls, pg⟩) {T : List Nd} {O : List Ob} {Q : List Int} (hT : risB ⟨sl, fl, dr, mf, ls, pg⟩ 0 T = true) (hP : poolB ⟨sl, fl, dr, mf, ls, pg⟩ O Q = true) : abB ⟨sl, fl, dr, mf, ls, pg⟩ (cutL (pg - 5) (Cn.pgs ⟨sl, fl, dr, mf, ls, pg⟩) (whoL ⟨sl, fl, dr, mf, ls, pg⟩ T O Q)) = true :=
  ab_iff.2 ⟨cut_len _ _ _, cut_sizes (who_len hc hT hP)⟩
set_option maxRecDepth 20000 in
/-- a slice of texts, one less -/
theorem sl_less (W : World) (b n cap : Nat) (z : Int) (h : z = ((n - 1 : Nat) : Int)) (h1 : n - 1 ≤ cap) : (Instr.slice 62 (.slice (some ⟨b, 0, none⟩) n cap) none (some (.int .i64 z)) none).run Tryd.prog W = .ok (.slice (some ⟨b, 0, none⟩) (n - 1) cap) W := by
  obtain ⟨i0, hi0, hs0⟩ : ∃ i0, Tryd.prog.info? 9 = some i0 ∧ i0.size = 1 := by
    obtain ⟨i0, hi, -, hz1, -⟩ := info_parts info9
    exact ⟨i0, hi, hz1⟩
  have he : Tryd.prog.elem 62 = 9 := by kernel_rfl
  rw [run_slice_h (P := Tryd.prog) (ht := Tryd.underlying62) (kh := .i64) (h := z) (h0 := by omega) (h2 := by omega)]
  have hz : z.toNat = n - 1 := by omega
  simp [sizeOf, typeInfo, he, hi0, hs0, sliced, hz, Result.andThen, Addr.add_lit]
/-- a list of texts, one less -/
theorem see_less {w : World} {B e n cap g : Nat} {P : List ByteArray} (h : w.ownsRow B e 1 (.slice (some ⟨g, 0, none⟩) n cap) n (scC P)) (hP : P.length = n) (hn : 1 ≤ n) : See w 1 (.slice (some ⟨g, 0, none⟩) (n - 1) cap) (n - 1) (scC (P.take (n - 1))) := by
  obtain ⟨m, rfl⟩ : ∃ m, n = m + 1 := ⟨n - 1, by omega⟩
  rw [Nat.add_sub_cancel]
  refine see_take (L := scC (P.drop m)) (e := e) (B := B) ?_ (by rw [scC, List.length_map, List.length_take]; omega) (sc_one _)
  rw [show scC (P.take m) ++ scC (P.drop m) = scC P by rw [scC, scC, ← List.map_append, List.take_append_drop]; rfl]
  exact h
set_option maxRecDepth 20000 in
set_option maxHeartbeats 8000000 in
theorem cut_walk (raw : Cf) (Y Z : List Int) (wh : Int) (w : World) (hT : RT w) (a1 : Option Addr) (n1 k1 : Nat) (hS1 : See w 1 (.slice a1 n1 k1) n1 (zsC Y)) (hn1 : Y.length = n1) (a2 : Option Addr) (n2 k2 : Nat) (hS2 : See w 1 (.slice a2 n2 k2) n2 (zsC Z)) (hn2 : Z.length = n2) (hb2 : n2 ≤ 1099511627776000) :
    Calls Tryd.prog 7 #[cfV raw, .slice a1 n1 k1, .slice a2 n2 k2, .int .i64 wh] w fun e w' => e = .returned (.bool true) ∧ Below w.heap.size w w' := by
  obtain ⟨u0, u1, u2, u3, u4, u5⟩ := raw
  have KMr : ∀ (X : World), Calls Tryd.prog 14 #[.agg #[.int .i64 u0, .int .i64 u1, .int .i64 u2, .int .i64 u3, .int .i64 u4, .int .i64 u5]] X fun e w' => ∃ sl fl dr mf ls pg : Nat, Mde ⟨sl, fl, dr, mf, ls, pg⟩ ∧ e = .returned (.agg #[.int .i64 (sl : Int), .int .i64 (fl : Int), .int .i64 (dr : Int), .int .i64 (mf : Int), .int .i64 (ls : Int), .int .i64 (pg : Int)]) ∧ Below X.heap.size X w' := fun X => by
    refine (made_any ⟨u0, u1, u2, u3, u4, u5⟩ X).mono ?_
    rintro e w' ⟨⟨sl, fl, dr, mf, ls, pg⟩, h1, rfl, h3⟩
    exact ⟨sl, fl, dr, mf, ls, pg, h1, rfl, h3⟩
  show Calls Tryd.prog 7 #[.agg #[.int .i64 u0, .int .i64 u1, .int .i64 u2, .int .i64 u3, .int .i64 u4, .int .i64 u5], .slice a1 n1 k1, .slice a2 n2 k2, .int .i64 wh] w _
  obtain ⟨i0, hi, hz0, hz1, hz2⟩ := info_parts info9
  obtain ⟨V, hV, hbV, g0⟩ := one_new w #[.int .i64 u0, .int .i64 u1, .int .i64 u2, .int .i64 u3, .int .i64 u4, .int .i64 u5] 23
  obtain ⟨y0, y1, y2, y3, y4, y5⟩ := cells6 g0
  have HBV : Hid (Below w.heap.size w V) := hbV
  have HT : Hid (RT w) := hT
  have HS1 : Hid (See w 1 (.slice a1 n1 k1) n1 (zsC Y)) := hS1
  have HS2 : Hid (See w 1 (.slice a2 n2 k2) n2 (zsC Z)) := hS2
  clear hbV g0 hT hS1 hS2
  go_enter Tryd.func7, Tryd.ntmps7
  go_wp2_with fail
  refine (KMr _).mono ?_
  rintro e w1 ⟨sl, fl, dr, mf, ls, pg, hmd, rfl, hb1⟩
  have hb1w : Below w.heap.size w w1 := below_on hb1 HBV.out
  obtain ⟨W1, hW1, hbW1, gc⟩ := one_new w1 #[.int .i64 (sl : Int), .int .i64 (fl : Int), .int .i64 (dr : Int), .int .i64 (mf : Int), .int .i64 (ls : Int), .int .i64 (pg : Int)] 23
  have HBW : Hid (Below w.heap.size w W1) := below_on hbW1 hb1w
  have HCD : Hid (∀ X, Below W1.heap.size W1 X → X.cell? ⟨w1.heap.size, 0, none⟩ = some (.int .i64 (sl : Int)) ∧ X.cell? ⟨w1.heap.size, 1, none⟩ = some (.int .i64 (fl : Int)) ∧ X.cell? ⟨w1.heap.size, 2, none⟩ = some (.int .i64 (dr : Int)) ∧ X.cell? ⟨w1.heap.size, 3, none⟩ = some (.int .i64 (mf : Int)) ∧ X.cell? ⟨w1.heap.size, 4, none⟩ = some (.int .i64 (ls : Int)) ∧ X.cell? ⟨w1.heap.size, 5, none⟩ = some (.int .i64 (pg : Int))) := fun X hX => cells6 ((hX.block _ (heap_lt gc)).trans gc)
  have HW : Hid (∀ X, Below W1.heap.size W1 X → Below w.heap.size w X) := fun X hX => below_on hX HBW.out
  have hmay := hmd.may
  have KMT : Hid (∀ X, Below W1.heap.size W1 X → _) := fun X hX => madeTree_any sl fl dr mf ls pg hmd Y X a1 n1 k1 (HS1.out.below (HW.out X hX)) hn1
  have KMP : Hid (∀ X, Below W1.heap.size W1 X → _) := fun X hX => madePool_any sl fl dr mf ls pg hmd Z X a2 n2 k2 (HS2.out.below (HW.out X hX)) hn2 hb2
  have KE : Hid (∀ T O Q, risB ⟨sl, fl, dr, mf, ls, pg⟩ 0 T = true → poolB ⟨sl, fl, dr, mf, ls, pg⟩ O Q = true → T.length ≤ 1000 → ∀ X, Below W1.heap.size W1 X → ∀ a k ao ko aq kq, See X 5 (.slice a T.length k) T.length (ndsC T) → See X 4 (.slice ao O.length ko) O.length (obsC O) → See X 1 (.slice aq Q.length kq) Q.length (zsC Q) → Calls Tryd.prog 24 #[.agg #[.int .i64 (sl : Int), .int .i64 (fl : Int), .int .i64 (dr : Int), .int .i64 (mf : Int), .int .i64 (ls : Int), .int .i64 (pg : Int)], .agg #[.int .i64 (fl : Int), .int .i64 (dr : Int), .slice a T.length k], .agg #[.slice ao O.length ko, .slice aq Q.length kq]] X fun e w' => ∃ P a' k', e = .returned (.tuple #[.slice a' (Cn.pgs ⟨sl, fl, dr, mf, ls, pg⟩) k', .int .i64 0]) ∧ abB ⟨sl, fl, dr, mf, ls, pg⟩ P = true ∧ w'.ownsRow X.heap.size 9 1 (.slice a' (Cn.pgs ⟨sl, fl, dr, mf, ls, pg⟩) k') (Cn.pgs ⟨sl, fl, dr, mf, ls, pg⟩) (scC P) ∧ Below X.heap.size X w') := fun T O Q h1 h2 h3 X hX a k ao ko aq kq s1 s2 s3 => by
    refine (encode_any sl fl dr mf ls pg hmay T O Q h1 h2 X (HT.out.next (HW.out X hX)) a _ k s1 rfl (by omega) ao _ ko s2 rfl aq _ kq s3 rfl).mono ?_
    rintro e w' ⟨a', k', rfl, ho, hb⟩
    exact ⟨_, a', k', rfl, who_ab hmay h1 h2, ho, hb⟩
  have KSh : Hid (∀ P, abB ⟨sl, fl, dr, mf, ls, pg⟩ P = true → ∀ X, Below W1.heap.size W1 X → ∀ a k, See X 1 (.slice a (Cn.pgs ⟨sl, fl, dr, mf, ls, pg⟩) k) (Cn.pgs ⟨sl, fl, dr, mf, ls, pg⟩) (scC P) → Calls Tryd.prog 32 #[.agg #[.int .i64 (sl : Int), .int .i64 (fl : Int), .int .i64 (dr : Int), .int .i64 (mf : Int), .int .i64 (ls : Int), .int .i64 (pg : Int)], .slice a (Cn.pgs ⟨sl, fl, dr, mf, ls, pg⟩) k] X fun e w' => e = .returned (.bool true) ∧ Below X.heap.size X w') := fun P hP X hX a k hs => shaped_any sl fl dr mf ls pg hmay P hP X (HT.out.next (HW.out X hX)) a _ k hs (ab_iff.1 hP).1
  have KU : Hid (∀ P, abB ⟨sl, fl, dr, mf, ls, pg⟩ P = false → P.length ≤ 100000 → ∀ X, Below W1.heap.size W1 X → ∀ b off k, See X 1 (.slice (some ⟨b, off, none⟩) P.length k) P.length (scC P) → Calls Tryd.prog 33 #[.agg #[.int .i64 (sl : Int), .int .i64 (fl : Int), .int .i64 (dr : Int), .int .i64 (mf : Int), .int .i64 (ls : Int), .int .i64 (pg : Int)], .slice (some ⟨b, off, none⟩) P.length k] X fun e w' => e = .returned (.bool true) ∧ Below X.heap.size X w') := fun P hP hl X hX b off k hs => unread_any sl fl dr mf ls pg hmay P hP X (HT.out.next (HW.out X hX)) b off _ k hs rfl hl
  obtain ⟨c0, c1, c2, c3, c4, c5⟩ := cells6 gc
  have HAB : Hid (∀ P, abB ⟨sl, fl, dr, mf, ls, pg⟩ P = true ↔ P.length = Cn.pgs ⟨sl, fl, dr, mf, ls, pg⟩ ∧ ∀ s ∈ P, s.size = pg - 5) := fun P => ab_iff
  have hm1 : 1 ≤ Cn.pgs ⟨sl, fl, dr, mf, ls, pg⟩ := hmay.1.fit.2.2
  have hm2 : Cn.pgs ⟨sl, fl, dr, mf, ls, pg⟩ ≤ 1024 := hmay.2
  have hp1 : 64 ≤ pg := hmay.1.2.2.2.2.2.2.2.2.1
  have hp2 : pg ≤ 65536 := hmay.1.2.2.2.2.2.2.2.2.2
  generalize Cn.pgs ⟨sl, fl, dr, mf, ls, pg⟩ = m at *
  obtain ⟨b, hb⟩ : ∃ b, pg - 5 = b := ⟨_, rfl⟩
  rw [hb] at HAB
  have hbb : 59 ≤ b ∧ b ≤ 65531 := by omega
  clear KMr hb1 gc y0 y1 y2 y3 y4 y5 hV hb1w hbW1 hmd hmay hp1 hp2 hb HBV
  go_upto_region 2 with fail
  go_cut [10, 11] (fun s t wx => ∃ (P : List ByteArray) (a : Option Addr) (k : Nat), s = .slice a m k ∧ t = .int .i64 0 ∧ Hid (abB ⟨sl, fl, dr, mf, ls, pg⟩ P = true) ∧ Hid (wx.ownsRow W1.heap.size 9 1 (.slice a m k) m (scC P)) ∧ Hid (Below W1.heap.size W1 wx))
  case first =>
    go_region_held_law (fun X => X.cell? ⟨w1.heap.size, 0, none⟩ = some (.int .i64 (sl : Int)) ∧ X.cell? ⟨w1.heap.size, 1, none⟩ = some (.int .i64 (fl : Int)) ∧ X.cell? ⟨w1.heap.size, 2, none⟩ = some (.int .i64 (dr : Int)) ∧ X.cell? ⟨w1.heap.size, 3, none⟩ = some (.int .i64 (mf : Int)) ∧ X.cell? ⟨w1.heap.size, 4, none⟩ = some (.int .i64 (ls : Int)) ∧ X.cell? ⟨w1.heap.size, 5, none⟩ = some (.int .i64 (pg : Int))) (first | with_reducible exact HCD.out _ hbw7 | with_reducible exact HCD.out _ hbw6 | with_reducible exact HCD.out _ hbw5 | with_reducible exact HCD.out _ (by (repeat (first | with_reducible exact Below.refl _ _ | with_reducible refine Below.drew ?_ | with_reducible refine below_alloc ?_ _)); (first | done | fail)) | go_keep) (first | (go_at_call 30; refine (KMT.out _ (by (repeat (first | with_reducible exact Below.refl _ _ | with_reducible refine Below.drew ?_ | with_reducible refine below_alloc ?_ _)); (first | done | fail))).mono ?_; rintro e w5 ⟨T, a5, c5', hris, hTl, rfl, ho5, hb5⟩; have hbw5 : Below W1.heap.size W1 w5 := below_on hb5 (by (repeat (first | with_reducible exact Below.refl _ _ | with_reducible refine Below.drew ?_ | with_reducible refine below_alloc ?_ _)); (first | done | fail))) | (go_at_call 31; refine (KMP.out _ hbw5).mono ?_; rintro e w6 ⟨O, Q, a6, c6, a7, c7, hpl, rfl, ho6, hq6, hb6⟩; have hbw6 := below_on hb6 hbw5) | (go_at_call 24; refine (KE.out T O Q hris hpl hTl _ hbw6 _ _ _ _ _ _ (see_own (owns_below ho5 hb6) (nds_one _)) (see_own ho6 (obs_one _)) (see_own hq6 (zs_one _))).mono ?_; rintro e w7 ⟨P, a9, k9, rfl, hab, ho9, hb9⟩; have hbw7 := below_on hb9 hbw6; have HO9 : Hid _ := owns_base ho9 (Below.size hbw6)))
    all_goals
      have HB7 : Hid _ := hbw7
      have HAb : Hid _ := hab
      clear hbw7 hbw6 hbw5 hb5 hb6 hb9 ho5 ho6 hq6 ho9 hab hris hpl
      go_wp2_with fail
      go_meet
      exact ⟨P, a9, k9, rfl, rfl, HAb.out, HO9.out, HB7.out⟩
  case rest =>
  obtain ⟨P, a, k, rfl, rfl, HAb, HO, HBc⟩ := hcut
  obtain ⟨hPl, hPs⟩ := (HAB.out P).1 HAb.out
  obtain ⟨gl, kl, hv⟩ := owns_form2 HO.out (by omega)
  injection hv with e1 e2 e3
  subst e1 e3
  clear e2
  clear c0 c1 c2 c3 c4 c5
  obtain ⟨c0, c1, c2, c3, c4, c5⟩ := HCD.out wc HBc.out
  have KSh1 := KSh.out P HAb.out wc HBc.out _ _ (see_own HO.out (sc_one _))
  obtain ⟨kk, hkk, KMod⟩ := modN_any wh m (by omega) (by omega)
  have HMod : Hid _ := KMod
  clear KMod KSh KMT KMP KE hW1
  go_wp2_with fail
  refine (num_any _ _).mono ?_
  rintro e w4 ⟨rfl, rfl⟩
  go_wp2_with fail
  refine KSh1.mono ?_
  rintro e w5 ⟨rfl, hb5⟩
  have HL : Hid (w5.ownsRow W1.heap.size 9 1 (.slice (some ⟨gl, 0, none⟩) m k) m (scC P)) := owns_below HO.out hb5
  have HB5 : Hid (Below W1.heap.size W1 w5) := below_on hb5 HBc.out
  clear KSh1 hb5 HO HBc c0 c1 c2 c3 c4 c5
  go_wp2_with fail
  refine (HMod.out _).mono ?_
  rintro e w6 ⟨rfl, hw6⟩
  subst hw6
  clear HMod
  obtain ⟨s, hs⟩ : ∃ s, P[kk]? = some s := ⟨_, List.getElem?_eq_getElem (by omega)⟩
  have hsz : s.size = b := hPs s (List.mem_of_getElem? hs)
  have hgl : gl < w6.heap.size := (HL.out.lt gl rfl).2
  have hkl : m ≤ k := own_cap HL.out
  have HX : Hid (∀ X, Below w6.heap.size w6 X → (X.cell? ⟨w1.heap.size, 0, none⟩ = some (.int .i64 (sl : Int)) ∧ X.cell? ⟨w1.heap.size, 1, none⟩ = some (.int .i64 (fl : Int)) ∧ X.cell? ⟨w1.heap.size, 2, none⟩ = some (.int .i64 (dr : Int)) ∧ X.cell? ⟨w1.heap.size, 3, none⟩ = some (.int .i64 (mf : Int)) ∧ X.cell? ⟨w1.heap.size, 4, none⟩ = some (.int .i64 (ls : Int)) ∧ X.cell? ⟨w1.heap.size, 5, none⟩ = some (.int .i64 (pg : Int))) ∧ See X 1 (.slice (some ⟨gl, 0, none⟩) m k) m (scC P) ∧ X.cell? ⟨gl, kk, none⟩ = some (.string s) ∧ Below W1.heap.size W1 X) := fun X hX => by
    have hL := owns_below HL.out hX
    obtain ⟨b', off', e, -, hcs⟩ := (see_own hL (sc_one _)).s hs
    injection e with e
    injection e with e1 e2 _
    subst e1 e2
    rw [Nat.zero_add] at hcs
    exact ⟨HCD.out X (below_on hX HB5.out), see_own hL (sc_one _), hcs, below_on hX HB5.out⟩
  have HAPP : Hid (∀ (X w7 : World) v7, Below w6.heap.size w6 X → w7.ownsRow X.heap.size 9 1 v7 (0 + m) ([] ++ scC P) → X.grownBy w7 (Value.slice none 0 0).ownBlock → ∃ g c, v7 = .slice (some ⟨g, 0, none⟩) m c ∧ X.heap.size ≤ g ∧ w7.ownsRow X.heap.size 9 1 (.slice (some ⟨g, 0, none⟩) m c) m (scC P) ∧ Below X.heap.size X w7) := fun X w7 v7 hX ho hg => by
    rw [Nat.zero_add, List.nil_append] at ho
    obtain ⟨g, c, rfl⟩ := owns_form2 ho (by omega)
    exact ⟨g, c, rfl, (ho.lt g rfl).1, ho, grown_below hg (Nat.le_refl _) (World.ownsRow_nil X X.heap.size 9 1)⟩
  have HPUT : Hid (∀ (X Y : World) g c (y : ByteArray), Y.ownsRow X.heap.size 9 1 (.slice (some ⟨g, 0, none⟩) m c) m (scC P) → Below X.heap.size X Y → (Y.cell? ⟨g, kk, none⟩ = some (.string s) ∧ Y.frozen? ⟨g, kk, none⟩ = false) ∧ (Y.setCell ⟨g, kk, none⟩ (.string y)).ownsRow X.heap.size 9 1 (.slice (some ⟨g, 0, none⟩) m c) m (scC (P.set kk y)) ∧ Below X.heap.size X (Y.setCell ⟨g, kk, none⟩ (.string y))) := fun X Y g c y ho hb => by
    obtain ⟨b', off', e, -, hcs⟩ := (see_own ho (sc_one _)).s hs
    injection e with e
    injection e with e1 e2 _
    subst e1 e2
    rw [Nat.zero_add] at hcs
    obtain ⟨cur, hcur⟩ := owns_block ho rfl
    refine ⟨⟨hcs, frozen_of_heap hcur⟩, ?_, hb.setCell (by exact (ho.lt _ rfl).1) _⟩
    have := owns_set (j := kk) (.string y) ho
    rw [show scC (P.set kk y) = (scC P).set kk (.string y) by simp [scC, List.map_set]]
    exact this
  have HPK : Hid (P[kk]? = some s) := hs
  have HPS : Hid (∀ s ∈ P, s.size = b) := hPs
  have HPL : Hid (P.length = m) := hPl
  have hsee := (HX.out w6 (Below.refl _ _)).2.1
  have HLL : Hid _ := HL.out
  clear hs hPs hPl HL
  go_upto_region 7 with (first | (at_builtin; refine wpList_app rfl _ _ 62 9 rfl (.string { data := #[] }) 1 16 Tryd.underlying62 info9 rfl (by decide) w6.heap.size (.slice none 0 0) _ 0 m [] (scC P) rfl (World.ownsRow_nil _ _ _ _) rfl hsee (by unfold maxLen; omega) (by omega) (Nat.le_refl _) ?_; intro v7 w7 ho7 hg7; obtain ⟨g7, c7, rfl, hg7', HO7, hb7⟩ := HAPP.out w6 w7 v7 (Below.refl _ _) ho7 hg7; clear ho7 hg7))
  obtain ⟨s1, hs1⟩ : ∃ s1, s.extract 0 (b - 1) = s1 := ⟨_, rfl⟩
  have hsl : ∀ W, (Instr.slice 9 (.string s) none (some (.int .i64 ((b : Int) - 1))) none).run Tryd.prog W = .ok (.string s1) W := fun W => by rw [← hs1]; exact sl_to W 9 s _ (b - 1) Tryd.underlying9 (by omega) (by omega)
  have hs1z : s1.size = b - 1 := by rw [← hs1, ByteArray.size_extract]; omega
  obtain ⟨⟨e7, f7⟩, HR7⟩ := HPUT.out w6 w7.drew g7 c7 s1 (owns_below HO7 (Below.refl _ _).drew) hb7.drew
  have hl7 := (HX.out w7.drew hb7.drew).2.2.1
  have HRR : Hid _ := HR7
  have hkI : (kk : Int) < (m : Int) := by omega
  clear HR7 HO7 hb7 hs1 hsee
  go_cut [13] (fun s wx => s = .slice (some ⟨g7, 0, none⟩) m c7 ∧ Hid (wx.ownsRow w6.heap.size 9 1 (.slice (some ⟨g7, 0, none⟩) m c7) m (scC (P.set kk s1))) ∧ Hid (Below w6.heap.size w6 wx))
  case first =>
    go_region
    go_wp2_with fail
    go_meet
    exact ⟨rfl, HRR.out.1, HRR.out.2⟩
  case rest =>
  obtain ⟨rfl, HO7, HB7⟩ := hcut
  have hsee := (HX.out wc HB7.out).2.1
  clear e7 f7 hl7 HRR hsl
  go_upto_region 9 with (first | (at_builtin; refine wpList_app rfl _ _ 62 9 rfl (.string { data := #[] }) 1 16 Tryd.underlying62 info9 rfl (by decide) wc.heap.size (.slice none 0 0) _ 0 m [] (scC P) rfl (World.ownsRow_nil _ _ _ _) rfl hsee (by unfold maxLen; omega) (by omega) (Nat.le_refl _) ?_; intro v8 w8 ho8 hg8; obtain ⟨g8, c8, rfl, hg8', HO8, hb8⟩ := HAPP.out wc w8 v8 HB7.out ho8 hg8; clear ho8 hg8))
  obtain ⟨s2, hs2⟩ : ∃ s2, s ++ ⟨#[0]⟩ = s2 := ⟨_, rfl⟩
  have hs2z : s2.size = b + 1 := by rw [← hs2, ByteArray.size_append, hsz]; rfl
  obtain ⟨⟨e8, f8⟩, HR8⟩ := HPUT.out wc w8 g8 c8 s2 HO8 hb8
  have hl8 := (HX.out w8 (below_on hb8 HB7.out)).2.2.1
  have hb63 : b + 1 ≤ 9223372036854775807 := by omega
  obtain ⟨w9, hw9⟩ : ∃ w9, w8.setCell ⟨g8, kk, none⟩ (.string s2) = w9 := ⟨_, rfl⟩
  rw [hw9] at HR8
  have HO9 : Hid (w9.ownsRow w6.heap.size 9 1 (.slice (some ⟨g7, 0, none⟩) m c7) m (scC (P.set kk s1)) ∧ w9.ownsRow wc.heap.size 9 1 (.slice (some ⟨g8, 0, none⟩) m c8) m (scC (P.set kk s2)) ∧ Below w6.heap.size w6 w9) := ⟨owns_below HO7.out HR8.2, HR8.1, below_on HR8.2 HB7.out⟩
  clear HR8 HO8 hb8 HO7 hsee HPUT
  have hsee := (HX.out w9 HO9.out.2.2).2.1
  have hl9 := (HX.out w9 HO9.out.2.2).2.2.1
  go_upto_region 11 with (first | (at_builtin; refine wpList_app rfl _ _ 62 9 rfl (.string { data := #[] }) 1 16 Tryd.underlying62 info9 rfl (by decide) w9.heap.size (.slice none 0 0) _ 0 m [] (scC P) rfl (World.ownsRow_nil _ _ _ _) rfl hsee (by unfold maxLen; omega) (by omega) (Nat.le_refl _) ?_; intro v10 w10 ho10 hg10; obtain ⟨g10, c10, rfl, hg10', HO10, hb10⟩ := HAPP.out w9 w10 v10 HO9.out.2.2 ho10 hg10; clear ho10 hg10))
  have hl10 := (HX.out w10 (below_on hb10 HO9.out.2.2)).2.2.1
  have ho10 := fun o => owns_below HO10 ((Below.refl w10.heap.size w10).alloc (Nat.le_refl _) o)
  have h1c : ∀ u ∈ [Value.string s], Value.oneCell' u = true := by simp [Value.oneCell']
  have HE : Hid (∀ w' v' o, (w10.alloc o).grownBy w' (Value.slice (some ⟨g10, 0, none⟩) m c10).ownBlock → w'.ownsRow w9.heap.size 9 1 v' (m + 1) (scC P ++ [.string s]) → w'.ownsRow w9.heap.size 9 1 v' (m + 1) (scC (P ++ [s])) ∧ Below w9.heap.size w9 w') := fun w' v' o hg ho => by
    refine ⟨by rw [show scC (P ++ [s]) = scC P ++ [.string s] by simp [scC]]; exact ho, ?_⟩
    have hbo : Below w9.heap.size w9 (w10.alloc o) := below_alloc hb10 o
    exact hbo.trans (grown_below hg hbo.size (ho10 o))
  have hlw10 : w9.heap.size ≤ w10.heap.size := hb10.size
  clear e8 f8 hl8 hsee hl9 hs2 hw9
  go_upto_region 12 with (first | (at_builtin; refine wpList_append_own _ rfl _ _ 62 rfl w9.heap.size 9 i0 (.string { data := #[] }) 1 16 Tryd.underlying62 hi hz0 hz1 hz2 rfl (by decide) _ _ _ rfl (ho10 _) ⟨_, 0, none⟩ 1 1 [.string s] rfl rfl (by intro i u h; exact cells_new _ #[.string s] 9 i u (by simpa using h)) h1c (by unfold maxLen; omega) (by omega) (by simp; omega) ?_; intro v11 w11 hown' hgrow' _; obtain ⟨g11, c11, rfl⟩ := owns_form2 hown' (by omega); have HR11 : Hid _ := HE.out w11 _ _ hgrow' hown'; clear hown' hgrow'))
  have HB11 : Hid (Below w6.heap.size w6 w11) := below_on HR11.out.2 HO9.out.2.2
  have HBC : Hid (∀ X, Below w11.heap.size w11 X → Below W1.heap.size W1 X ∧ Below w6.heap.size w6 X) := fun X hX => ⟨(HX.out X (below_on hX HB11.out)).2.2.2, below_on hX HB11.out⟩
  have HNO : Hid (∀ L, ¬ (L.length = m ∧ ∀ s ∈ L, s.size = b) → abB ⟨sl, fl, dr, mf, ls, pg⟩ L = false) := fun L h => Bool.eq_false_iff.2 fun e => h ((HAB.out L).1 e)
  have HSET : Hid (∀ y : ByteArray, y.size ≠ b → ¬ ((P.set kk y).length = m ∧ ∀ s ∈ P.set kk y, s.size = b)) := fun y hy h => hy (h.2 y (List.mem_of_getElem? (i := kk) (by rw [List.getElem?_set_self (by have := HPL.out; omega)])))
  have K1 : Hid (∀ X, Below w11.heap.size w11 X → Calls Tryd.prog 33 #[.agg #[.int .i64 (sl : Int), .int .i64 (fl : Int), .int .i64 (dr : Int), .int .i64 (mf : Int), .int .i64 (ls : Int), .int .i64 (pg : Int)], .slice (some ⟨gl, 0, none⟩) (m - 1) k] X fun e w' => e = .returned (.bool true) ∧ Below X.heap.size X w') := fun X hX => by
    have hl : (P.take (m - 1)).length = m - 1 := by rw [List.length_take, HPL.out]; omega
    have h := KU.out (P.take (m - 1)) (HNO.out _ fun h => by rw [hl] at h; omega) (by rw [hl]; omega) X (HBC.out X hX).1 gl 0 k
    rw [hl] at h
    exact h (see_less (owns_below HLL.out (HBC.out X hX).2) HPL.out (by omega))
  have K2 : Hid (∀ X, Below w11.heap.size w11 X → Calls Tryd.prog 33 #[.agg #[.int .i64 (sl : Int), .int .i64 (fl : Int), .int .i64 (dr : Int), .int .i64 (mf : Int), .int .i64 (ls : Int), .int .i64 (pg : Int)], .slice (some ⟨g7, 0, none⟩) m c7] X fun e w' => e = .returned (.bool true) ∧ Below X.heap.size X w') := fun X hX => by
    have hl : (P.set kk s1).length = m := by rw [List.length_set, HPL.out]
    have h := KU.out (P.set kk s1) (HNO.out _ (HSET.out s1 (by omega))) (by rw [hl]; omega) X (HBC.out X hX).1 g7 0 c7
    rw [hl] at h
    exact h (see_own (owns_below (owns_below HO9.out.1 HR11.out.2) hX) (sc_one _))
  have K3 : Hid (∀ X, Below w11.heap.size w11 X → Calls Tryd.prog 33 #[.agg #[.int .i64 (sl : Int), .int .i64 (fl : Int), .int .i64 (dr : Int), .int .i64 (mf : Int), .int .i64 (ls : Int), .int .i64 (pg : Int)], .slice (some ⟨g8, 0, none⟩) m c8] X fun e w' => e = .returned (.bool true) ∧ Below X.heap.size X w') := fun X hX => by
    have hl : (P.set kk s2).length = m := by rw [List.length_set, HPL.out]
    have h := KU.out (P.set kk s2) (HNO.out _ (HSET.out s2 (by omega))) (by rw [hl]; omega) X (HBC.out X hX).1 g8 0 c8
    rw [hl] at h
    exact h (see_own (owns_below (owns_below HO9.out.2.1 HR11.out.2) hX) (sc_one _))
  have K4 : Hid (∀ X, Below w11.heap.size w11 X → Calls Tryd.prog 33 #[.agg #[.int .i64 (sl : Int), .int .i64 (fl : Int), .int .i64 (dr : Int), .int .i64 (mf : Int), .int .i64 (ls : Int), .int .i64 (pg : Int)], .slice (some ⟨g11, 0, none⟩) (m + 1) c11] X fun e w' => e = .returned (.bool true) ∧ Below X.heap.size X w') := fun X hX => by
    have hl : (P ++ [s]).length = m + 1 := by rw [List.length_append, HPL.out]; rfl
    have h := KU.out (P ++ [s]) (HNO.out _ fun h => by rw [hl] at h; omega) (by rw [hl]; omega) X (HBC.out X hX).1 g11 0 c11
    rw [hl] at h
    exact h (see_own (owns_below HR11.out.1 hX) (sc_one _))
  have HCX : Hid (∀ X, Below w11.heap.size w11 X → X.cell? ⟨w1.heap.size, 0, none⟩ = some (.int .i64 (sl : Int)) ∧ X.cell? ⟨w1.heap.size, 1, none⟩ = some (.int .i64 (fl : Int)) ∧ X.cell? ⟨w1.heap.size, 2, none⟩ = some (.int .i64 (dr : Int)) ∧ X.cell? ⟨w1.heap.size, 3, none⟩ = some (.int .i64 (mf : Int)) ∧ X.cell? ⟨w1.heap.size, 4, none⟩ = some (.int .i64 (ls : Int)) ∧ X.cell? ⟨w1.heap.size, 5, none⟩ = some (.int .i64 (pg : Int))) := fun X hX => HCD.out X (HBC.out X hX).1
  have hslm : ∀ W, (Instr.slice 62 (.slice (some ⟨gl, 0, none⟩) m k) none (some (.int .i64 ((m : Int) - 1))) none).run Tryd.prog W = .ok (.slice (some ⟨gl, 0, none⟩) (m - 1) k) W := fun W => sl_less W gl m k _ (by omega) (by omega)
  obtain ⟨m1, hm1e⟩ : ∃ m1, m - 1 = m1 := ⟨_, rfl⟩
  have hzm : (m : Int) - 1 = (m1 : Int) := by omega
  have hwz : IntKind.i64.wrap (m1 : Int) = (m1 : Int) := by rw [IntKind.wrap_i64]; omega
  rw [hm1e] at K1 hslm
  rw [hzm] at hslm
  obtain ⟨c0, c1, c2, c3, c4, c5⟩ := HCX.out w11 (Below.refl _ _)
  clear ho10 HE HO10 hb10 hl10 hm1e
  go_region_held_law (fun X => X.cell? ⟨w1.heap.size, 0, none⟩ = some (.int .i64 (sl : Int)) ∧ X.cell? ⟨w1.heap.size, 1, none⟩ = some (.int .i64 (fl : Int)) ∧ X.cell? ⟨w1.heap.size, 2, none⟩ = some (.int .i64 (dr : Int)) ∧ X.cell? ⟨w1.heap.size, 3, none⟩ = some (.int .i64 (mf : Int)) ∧ X.cell? ⟨w1.heap.size, 4, none⟩ = some (.int .i64 (ls : Int)) ∧ X.cell? ⟨w1.heap.size, 5, none⟩ = some (.int .i64 (pg : Int))) (first | with_reducible exact HCX.out _ hbw4 | with_reducible exact HCX.out _ hbw3 | with_reducible exact HCX.out _ hbw2 | with_reducible exact HCX.out _ hbw1 | with_reducible exact HCX.out _ (by (repeat (first | with_reducible exact Below.refl _ _ | with_reducible refine Below.drew ?_ | with_reducible refine below_alloc ?_ _)); (first | done | fail)) | go_keep) (first | (go_at_call 33; refine (K4.out _ hbw3).mono ?_; rintro e x4 ⟨rfl, hx4⟩; have hbw4 : Below w11.heap.size w11 x4 := below_on hx4 hbw3) | (go_at_call 33; refine (K3.out _ hbw2).mono ?_; rintro e x3 ⟨rfl, hx3⟩; have hbw3 : Below w11.heap.size w11 x3 := below_on hx3 hbw2) | (go_at_call 33; refine (K2.out _ hbw1).mono ?_; rintro e x2 ⟨rfl, hx2⟩; have hbw2 : Below w11.heap.size w11 x2 := below_on hx2 hbw1) | (go_at_call 33; refine (K1.out _ (by (repeat (first | with_reducible exact Below.refl _ _ | with_reducible refine Below.drew ?_ | with_reducible refine below_alloc ?_ _)); (first | done | fail))).mono ?_; rintro e x1 ⟨rfl, hx1⟩; have hbw1 : Below w11.heap.size w11 x1 := below_on hx1 (by (repeat (first | with_reducible exact Below.refl _ _ | with_reducible refine Below.drew ?_ | with_reducible refine below_alloc ?_ _)); (first | done | fail))))
  all_goals
    have HBE : Hid (Below w.heap.size w _) := HW.out _ (HBC.out _ hbw4).1
    go_wp2
    go_ret
    exact ⟨rfl, HBE.out⟩
end Go.Proofs.YtckbbbcjpklnmaaDoor.Ix
