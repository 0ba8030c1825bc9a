import Derived.Test.YtckbbbcjpklnmaaDoorIxN7
import Derived.Test.YtckbbbcjpklnmaaDoorIxO
import Derived.Deep.DeepCutAuto
namespace Go.Proofs.YtckbbbcjpklnmaaDoor.Ix
open Go.RowKit Go.Lib Go.Deep
theorem two_rows (a b : Nat) (ha : a ≤ 100000) (hb : b ≤ 100000) {w V : World} (hw : w.heap.size ≤ V.heap.size) :
    (((V.alloc (.cells (madeCells #[.int .i64 0, .int .i64 0, .int .i64 0, .string { data := #[] }, .int .i64 0] (a * 5)) 91)).alloc (.cells (madeCells #[.int .i64 0, .int .i64 0, .int .i64 0, .string { data := #[] }, .int .i64 0] (b * 5)) 91)).drew).ownsRow w.heap.size 91 5 (.slice (some ⟨V.heap.size, 0, none⟩) a a) a (ndsC (List.replicate a zN)) ∧ (((V.alloc (.cells (madeCells #[.int .i64 0, .int .i64 0, .int .i64 0, .string { data := #[] }, .int .i64 0] (a * 5)) 91)).alloc (.cells (madeCells #[.int .i64 0, .int .i64 0, .int .i64 0, .string { data := #[] }, .int .i64 0] (b * 5)) 91)).drew).ownsRow w.heap.size 91 5 (.slice (some ⟨V.heap.size + 1, 0, none⟩) b b) b (ndsC (List.replicate b zN)) := by
  constructor
  · exact owns_base (owns_below (made_nodes a ha V) ((Below.refl _ _).alloc (Nat.le_refl _) _).drew) hw
  · have h := made_nodes b hb (V.alloc (.cells (madeCells #[.int .i64 0, .int .i64 0, .int .i64 0, .string { data := #[] }, .int .i64 0] (a * 5)) 91))
    have e : (V.alloc (.cells (madeCells #[.int .i64 0, .int .i64 0, .int .i64 0, .string { data := #[] }, .int .i64 0] (a * 5)) 91)).heap.size = V.heap.size + 1 := by simp
    rw [e] at h
    exact owns_base (owns_below h (Below.refl _ _).drew) (by omega)
set_option maxRecDepth 20000 in
set_option maxHeartbeats 1500000 in
theorem byNumber_any (sl fl dr mf ls pg : Nat) (hc : Cn.In ⟨sl, fl, dr, mf, ls, pg⟩) (T : List Nd) (hF : ∀ i x, T[i]? = some x → NdF ⟨sl, fl, dr, mf, ls, pg⟩ x ∧ ∀ m ∈ T.take i, plc ⟨sl, fl, dr, mf, ls, pg⟩ m < plc ⟨sl, fl, dr, mf, ls, pg⟩ x) (w : World) (av : Option Addr) (n k : Nat) (hS : See w 5 (.slice av n k) n (ndsC T)) (hn : T.length = n) (hnb : n ≤ 1099511000000) :
    Calls Tryd.prog 73 #[.agg #[.int .i64 (sl : Int), .int .i64 (fl : Int), .int .i64 (dr : Int), .int .i64 (mf : Int), .int .i64 (ls : Int), .int .i64 (pg : Int)], .slice av n k] w fun e w' => ∃ gd gf, e = .returned (.tuple #[.slice (some ⟨gd, 0, none⟩) dr dr, .slice (some ⟨gf, 0, none⟩) fl fl]) ∧ Bn w ⟨sl, fl, dr, mf, ls, pg⟩ gd gf T w' := by
  have hfl : fl ≤ 65536 := hc.2.2.2.1
  have hdr : dr ≤ 4096 := hc.2.2.2.2.1
  obtain ⟨V, hV, hbV, g0⟩ := one_new w #[.int .i64 (sl : Int), .int .i64 (fl : Int), .int .i64 (dr : Int), .int .i64 (mf : Int), .int .i64 (ls : Int), .int .i64 (pg : Int)] 23
  have HCD : Hid (∀ X, Below V.heap.size V X → X.cell? ⟨w.heap.size, 0, none⟩ = some (.int .i64 (sl : Int)) ∧ X.cell? ⟨w.heap.size, 1, none⟩ = some (.int .i64 (fl : Int)) ∧ X.cell? ⟨w.heap.size, 2, none⟩ = some (.int .i64 (dr : Int)) ∧ X.cell? ⟨w.heap.size, 3, none⟩ = some (.int .i64 (mf : Int)) ∧ X.cell? ⟨w.heap.size, 4, none⟩ = some (.int .i64 (ls : Int)) ∧ X.cell? ⟨w.heap.size, 5, none⟩ = some (.int .i64 (pg : Int))) := fun X hX => cells6 ((hX.block _ (heap_lt g0)).trans g0)
  obtain ⟨y0, y1, y2, y3, y4, y5⟩ := cells6 g0
  have hmd := make_nodes dr (by omega)
  have hmf := make_nodes fl (by omega)
  have HBV : Hid (Below w.heap.size w V) := hbV
  have HSw : Hid (See w 5 (.slice av n k) n (ndsC T)) := hS
  have HF : Hid _ := hF
  have HR1 : Hid (Bn w ⟨sl, fl, dr, mf, ls, pg⟩ V.heap.size (V.heap.size + 1) [] (((V.alloc (.cells (madeCells #[.int .i64 0, .int .i64 0, .int .i64 0, .string { data := #[] }, .int .i64 0] (dr * 5)) 91)).alloc (.cells (madeCells #[.int .i64 0, .int .i64 0, .int .i64 0, .string { data := #[] }, .int .i64 0] (fl * 5)) 91)).drew)) := by
    obtain ⟨r1, r2⟩ := two_rows dr fl (by omega) (by omega) (w := w) (V := V) hbV.size
    exact ⟨(below_alloc (below_alloc hbV _) _).drew, by rw [dirs_nil]; exact r1, by rw [fils_nil]; exact r2, by omega, hbV.size, Nat.le_succ_of_le hbV.size⟩
  have HR2 : Hid (Bn w ⟨sl, fl, dr, mf, ls, pg⟩ (V.heap.size + 1) V.heap.size [] (((V.alloc (.cells (madeCells #[.int .i64 0, .int .i64 0, .int .i64 0, .string { data := #[] }, .int .i64 0] (fl * 5)) 91)).alloc (.cells (madeCells #[.int .i64 0, .int .i64 0, .int .i64 0, .string { data := #[] }, .int .i64 0] (dr * 5)) 91)).drew)) := by
    obtain ⟨r1, r2⟩ := two_rows fl dr (by omega) (by omega) (w := w) (V := V) hbV.size
    exact ⟨(below_alloc (below_alloc hbV _) _).drew, by rw [dirs_nil]; exact r2, by rw [fils_nil]; exact r1, by omega, Nat.le_succ_of_le hbV.size, hbV.size⟩
  clear hc hF hS hbV g0
  go_enter Tryd.func73, Tryd.ntmps73
  go_upto_region 1 with fail
  go_cut [4, 5] (fun s t wx => ∃ gd gf, s = .slice (some ⟨gd, 0, none⟩) dr dr ∧ t = .slice (some ⟨gf, 0, none⟩) fl fl ∧ Hid (Bn w ⟨sl, fl, dr, mf, ls, pg⟩ gd gf [] wx))
  case first =>
    go_region_held_law (fun X => X.cell? ⟨w.heap.size, 0, none⟩ = some (.int .i64 (sl : Int)) ∧ X.cell? ⟨w.heap.size, 1, none⟩ = some (.int .i64 (fl : Int)) ∧ X.cell? ⟨w.heap.size, 2, none⟩ = some (.int .i64 (dr : Int)) ∧ X.cell? ⟨w.heap.size, 3, none⟩ = some (.int .i64 (mf : Int)) ∧ X.cell? ⟨w.heap.size, 4, none⟩ = some (.int .i64 (ls : Int)) ∧ X.cell? ⟨w.heap.size, 5, none⟩ = some (.int .i64 (pg : Int))) (first | with_reducible exact HCD.out _ (by (repeat (first | with_reducible exact Below.refl _ _ | with_reducible refine Below.drew ?_ | with_reducible refine below_alloc ?_ _)); (first | done | fail)) | go_keep) (fail)
    all_goals
      go_wp2_with fail
      go_meet
      first | exact ⟨_, _, rfl, rfl, HR1.out⟩ | exact ⟨_, _, rfl, rfl, HR2.out⟩
  case rest =>
  obtain ⟨gd, gf, rfl, rfl, HB0⟩ := hcut
  clear HR1 HR2 hmd hmf HCD y0 y1 y2 y3 y4 y5 hV
  go_wp2_with fail
  go_loopg [7, 16] n (fun gk bv iv wr => ∃ i : Nat, i + gk = n ∧ iv = .int .i64 (i : Int) ∧ Hid (Bn w ⟨sl, fl, dr, mf, ls, pg⟩ gd gf (T.take i) wr))
  case atStart => exact ⟨0, by omega, rfl, HB0.out⟩
  case round =>
    obtain ⟨i, hik, rfl, HBn⟩ := hrel
    by_cases hlt : i < n
    · have hltI : (i : Int) < (n : Int) := by omega
      obtain ⟨x, hx⟩ : ∃ x, T[i]? = some x := ⟨_, List.getElem?_eq_getElem (by omega)⟩
      obtain ⟨b, off, rfl, hbl, hcc⟩ := (HSw.out.below HBn.out.be).row ndC_len (by decide) hx
      obtain ⟨hfit, hless⟩ := HF.out i x hx
      have HTK : Hid (T.take (i + 1) = T.take i ++ [x]) := by show _ = _; rw [List.take_add_one, hx]; rfl
      obtain ⟨kd, nu, pa, nm, sz⟩ := x
      have c0 : wr.cell? ⟨b, off + i * 5, none⟩ = some (.int .i64 kd) := hcc 0 _ rfl
      have c1 : wr.cell? ⟨b, off + i * 5 + 1, none⟩ = some (.int .i64 nu) := hcc 1 _ rfl
      have c2 : wr.cell? ⟨b, off + i * 5 + 2, none⟩ = some (.int .i64 pa) := hcc 2 _ rfl
      have c3 : wr.cell? ⟨b, off + i * 5 + 3, none⟩ = some (.string nm) := hcc 3 _ rfl
      have c4 : wr.cell? ⟨b, off + i * 5 + 4, none⟩ = some (.int .i64 sz) := hcc 4 _ rfl
      obtain ⟨W, hW, hbW, gn⟩ := one_new wr #[.int .i64 kd, .int .i64 nu, .int .i64 pa, .string nm, .int .i64 sz] 91
      obtain ⟨m0, m1, m2, m3, m4⟩ := cells5 gn
      have HBW : Hid (Bn w ⟨sl, fl, dr, mf, ls, pg⟩ gd gf (T.take i) W) := HBn.out.next hbW
      have HLE : Hid _ := hless
      clear hcc hx gn hbW hless
      rcases hfit.1 with ⟨h1, h2, h3, h4⟩ | ⟨h1, h2, h3, h4⟩
      · simp only at h1 h2 h3 h4
        obtain ⟨q, rfl⟩ : ∃ q : Nat, nu = (q : Int) + 1 := ⟨(nu - 1).toNat, by omega⟩
        have hqd : q < dr := by omega
        subst h1
        have hdq : (dirsL ⟨sl, fl, dr, mf, ls, pg⟩ (T.take i))[q]? = some (slot ⟨sl, fl, dr, mf, ls, pg⟩ (T.take i) ((q : Int) + 1)) := by
          unfold dirsL
          rw [List.getElem?_map, List.getElem?_range hqd]
          rfl
        obtain ⟨⟨s0, s1, s2, s3, s4⟩, fz⟩ := nd_at HBW.out.hd hdq
        have HP : Hid _ := HBW.out.dir HLE.out q (by simp [plc]) hqd
        have hwq : IntKind.i64.wrap (q : Int) = (q : Int) := by rw [IntKind.wrap_i64]; omega
        have hqI : (q : Int) < (dr : Int) := by omega
        rw [← HTK.out] at HP
        unfold put5 at HP
        simp only at HP
        clear hdq h2 h3 h4 hfit
        go_wp2
        go_roundg (gk - 1)
        case measure => omega
        case rel => exact ⟨i + 1, by omega, rfl, HP.out⟩
      · simp only at h1 h2 h3 h4
        obtain ⟨q, rfl⟩ : ∃ q : Nat, nu = (q : Int) := ⟨nu.toNat, by omega⟩
        have hqd : q < fl := by omega
        subst h1
        have hdq : (filsL ⟨sl, fl, dr, mf, ls, pg⟩ (T.take i))[q]? = some (slot ⟨sl, fl, dr, mf, ls, pg⟩ (T.take i) ((dr : Int) + 1 + (q : Int))) := by
          unfold filsL
          rw [List.getElem?_map, List.getElem?_range hqd]
          rfl
        obtain ⟨⟨s0, s1, s2, s3, s4⟩, fz⟩ := nd_at HBW.out.hf hdq
        have HP : Hid _ := HBW.out.fil HLE.out q (by simp [plc]) hqd
        have hqI : (q : Int) < (fl : Int) := by omega
        rw [← HTK.out] at HP
        unfold put5 at HP
        simp only at HP
        clear hdq h2 h3 h4 hfit
        go_wp2
        go_roundg (gk - 1)
        case measure => omega
        case rel => exact ⟨i + 1, by omega, rfl, HP.out⟩
    · obtain rfl : i = n := by omega
      have hltI : ¬ (i : Int) < (i : Int) := by omega
      have e : T.take i = T := List.take_of_length_le (by omega)
      rw [e] at HBn
      go_wp2
      go_ret2
      exact ⟨_, _, rfl, HBn.out⟩
end Go.Proofs.YtckbbbcjpklnmaaDoor.Ix
