import Derived.Test.YtcochbcaillldaaGreatDoorSpC
import Derived.Deep.RegionHeldLaw
namespace Go.Proofs.YtcochbcaillldaaGreatDoor.Sc
open Go.RowKit Go.Lib Go.Deep

theorem bd1 (w : World) : Below w.heap.size w w.drew := Below.drew (Below.refl _ _)
/-- what a take of a number leaves -/
theorem takeAt {x : Bool × List UInt8} {b v i : Nat} {w : World} {o o' : OpR} {u : Value} (hl : LnS x b w) (ho : OpAt w v o) (hvb : v < b) (ho' : OpAt (w.setCell ⟨v, i, none⟩ u) v o') (ht : ITab w) (hg : 3 < v) :
    ∃ W, w.setCell ⟨v, i, none⟩ u = W ∧ LnS x b W ∧ OpAt W v o' ∧ Below v w W ∧ ITab W := by
  have hb1 : Below v w (w.setCell ⟨v, i, none⟩ u) := (Below.refl v w).setCell (p := ⟨v, i, none⟩) (Nat.le_refl _) _
  exact ⟨_, rfl, hl.set ho (Nat.ne_of_lt hvb), ho', hb1, ht.below hb1 hg⟩

set_option maxRecDepth 20000 in
set_option maxHeartbeats 2000000 in
theorem writeCut_any : Wr 83 (fun o x => stN (stB x o.path) [o.n]) (fun o => { o with path := nil_, n := 0 }) := by
  intro o x b v w hok hl ho hvb ht hg hx
  have h0 := writePath_any o x b v w hok hl ho hvb ht hg hx
  have hsl := stB_len x o.path
  have hps := hok.path
  dsimp only at h0 ⊢
  generalize stB x o.path = y at h0 hsl ⊢
  go_enter Tryz.func83, Tryz.ntmps83
  go_wp2_with (go_at_call 77; refine h0.mono ?_; rintro e w1 ⟨rfl, hl1, ho1, hb1⟩; clear h0)
  obtain ⟨c0, c1, c2, c3, c4, c5⟩ := ho1.six
  have ht1 := ht.below hb1 hg
  have hT := takeI_any v 4 o.n w1 c4 (ho1.frozen 4)
  obtain ⟨W, hW, hl2, ho2, hb2, ht2⟩ := takeAt hl1 ho1 hvb ho1.set4 ht1 hg
  rw [hW] at hT
  have hA := (Below.refl W.heap.size W).alloc (Nat.le_refl _) (.cells #[.int .i64 o.n] 3)
  have hN := numbers_any y.1 b W.heap.size 1 1 [o.n] y.2 _ (hl2.below hA) (ht2.below hA ht2.lt) (Nat.lt_trans hg hvb) (Nat.ne_of_gt hl2.lt) (heap_alloc_new _ _) rfl (by simp; exact hok.n) (by decide) (by omega)
  clear c0 c1 c2 c3 c4 c5 hl ho hl1 ho1 hW
  go_wp2_with (first | (go_at_call 70; refine hN'.mono ?_; rintro e w3 ⟨rfl, ⟨hu3, hb3⟩, ho3⟩; clear hN') | (go_at_call 99; refine hT.mono ?_; rintro e w2 ⟨rfl, rfl⟩; clear hT; have hN' := hN))
  go_wp2
  go_end0
  exact ⟨rfl, hu3, (ho2.below hA ho2.lt).below hb3 hvb, (hb1.trans hb2).trans ((hA.mono (Nat.le_of_lt ho2.lt)).trans (hb3.mono (Nat.le_of_lt hvb)))⟩

set_option maxRecDepth 20000 in
set_option maxHeartbeats 2000000 in
theorem writeRename_any : Wr 85 (fun o x => stB (stB x o.path) o.to) (fun o => { o with path := nil_, to := nil_ }) := by
  intro o x b v w hok hl ho hvb ht hg hx
  have h0 := writePath_any o x b v w hok hl ho hvb ht hg hx
  have hsl := stB_len x o.path
  have hps := hok.path
  dsimp only at h0 ⊢
  generalize stB x o.path = y at h0 hsl ⊢
  go_enter Tryz.func85, Tryz.ntmps85
  go_wp2_with (go_at_call 77; refine h0.mono ?_; rintro e w1 ⟨rfl, hl1, ho1, hb1⟩; clear h0)
  obtain ⟨c0, c1, c2, c3, c4, c5⟩ := ho1.six
  have ht1 := ht.below hb1 hg
  have hT := takeS_any v 2 o.to w1 c2 (ho1.frozen 2)
  obtain ⟨W, hW, hl2, ho2, hb2, ht2⟩ := takeAt hl1 ho1 hvb ho1.set2 ht1 hg
  rw [hW] at hT
  have hN := lbytes_any y.1 b y.2 o.to W hl2 (by have := hok.to; omega) (by omega)
  clear c0 c1 c2 c3 c4 c5 hl ho hl1 ho1 hW
  go_wp2_with (first | (go_at_call 102; refine hN'.mono ?_; rintro e w3 ⟨rfl, ⟨hu3, hb3⟩, ho3⟩; clear hN') | (go_at_call 120; refine hT.mono ?_; rintro e w2 ⟨rfl, rfl⟩; clear hT; have hN' := hN))
  go_wp2
  go_end0
  exact ⟨rfl, hu3, ho2.below hb3 hvb, (hb1.trans hb2).trans (hb3.mono (Nat.le_of_lt hvb))⟩

set_option maxRecDepth 20000 in
set_option maxHeartbeats 2000000 in
theorem writeRead_any : Wr 79 (fun o x => stN (stB x o.path) [o.at_, o.n]) (fun o => { o with path := nil_, at_ := 0, n := 0 }) := by
  intro o x b v w hok hl ho hvb ht hg hx
  have h0 := writePath_any o x b v w hok hl ho hvb ht hg hx
  have hsl := stB_len x o.path
  have hps := hok.path
  dsimp only at h0 ⊢
  generalize stB x o.path = y at h0 hsl ⊢
  go_enter Tryz.func79, Tryz.ntmps79
  go_wp2_with (go_at_call 77; refine h0.mono ?_; rintro e w1 ⟨rfl, hl1, ho1, hb1⟩; clear h0)
  have hl1 : LnS y b w1.drew := hl1.below (bd1 w1)
  have ho1 : OpAt w1.drew v _ := ho1.below (bd1 w1) ho1.lt
  have hb1 : Below v w w1.drew := hb1.trans ((bd1 w1).mono (Nat.le_of_lt ho1.lt))
  obtain ⟨c0, c1, c2, c3, c4, c5⟩ := ho1.six
  have ht1 := ht.below hb1 hg
  have hT := takeI_any v 3 o.at_ w1.drew c3 (ho1.frozen 3)
  obtain ⟨W, hW, hl2, ho2, hb2, ht2⟩ := takeAt hl1 ho1 hvb ho1.set3 ht1 hg
  rw [hW] at hT
  clear hW
  obtain ⟨d0, d1, d2, d3, d4, d5⟩ := ho2.six
  have hT2 := takeI_any v 4 o.n W d4 (ho2.frozen 4)
  obtain ⟨V, hV, hl3, ho3, hb3, ht3⟩ := takeAt hl2 ho2 hvb ho2.set4 ht2 hg
  rw [hV] at hT2
  have hA := (Below.refl V.heap.size V).alloc (Nat.le_refl _) (.cells #[.int .i64 o.at_, .int .i64 o.n] 3)
  have hN := numbers_any y.1 b V.heap.size 2 2 [o.at_, o.n] y.2 _ (hl3.below hA) (ht3.below hA ht3.lt) (Nat.lt_trans hg hvb) (Nat.ne_of_gt hl3.lt) (heap_alloc_new _ _) rfl (by simp; exact ⟨hok.at_, hok.n⟩) (by decide) (by omega)
  clear c0 c1 c2 c3 c4 c5 d0 d1 d2 d3 d4 d5 hl ho hl1 ho1 hV hl2 ho2
  go_wp2_with fail
  go_region_held_law (fun _ => True) (first | exact trivial | go_keep) (first | (go_at_call 70; refine hN'.mono ?_; rintro e w3 ⟨rfl, ⟨hu3, hbn⟩, hon⟩; clear hN') | (go_at_call 99; refine hT2'.mono ?_; rintro e w2 ⟨rfl, rfl⟩; clear hT2'; have hN' := hN) | (go_at_call 99; refine hT.mono ?_; rintro e w2 ⟨rfl, rfl⟩; clear hT; have hT2' := hT2))
  go_wp2
  go_end0
  exact ⟨rfl, hu3, (ho3.below hA ho3.lt).below hbn hvb, ((hb1.trans hb2).trans hb3).trans ((hA.mono (Nat.le_of_lt ho3.lt)).trans (hbn.mono (Nat.le_of_lt hvb)))⟩

set_option maxRecDepth 20000 in
set_option maxHeartbeats 2000000 in
theorem writeWrite_any : Wr 81 (fun o x => stB (stN (stB x o.path) [o.at_]) o.data) (fun o => { o with path := nil_, at_ := 0, data := nil_ }) := by
  intro o x b v w hok hl ho hvb ht hg hx
  have h0 := writePath_any o x b v w hok hl ho hvb ht hg hx
  have hsl := stB_len x o.path
  have hps := hok.path
  dsimp only at h0 ⊢
  generalize stB x o.path = y at h0 hsl ⊢
  go_enter Tryz.func81, Tryz.ntmps81
  go_wp2_with (go_at_call 77; refine h0.mono ?_; rintro e w1 ⟨rfl, hl1, ho1, hb1⟩; clear h0)
  obtain ⟨c0, c1, c2, c3, c4, c5⟩ := ho1.six
  have ht1 := ht.below hb1 hg
  have hT := takeI_any v 3 o.at_ w1 c3 (ho1.frozen 3)
  obtain ⟨W, hW, hl2, ho2, hb2, ht2⟩ := takeAt hl1 ho1 hvb ho1.set3 ht1 hg
  rw [hW] at hT
  clear hW
  have hA := (Below.refl W.heap.size W).alloc (Nat.le_refl _) (.cells #[.int .i64 o.at_] 3)
  have hN := numbers_any y.1 b W.heap.size 1 1 [o.at_] y.2 _ (hl2.below hA) (ht2.below hA ht2.lt) (Nat.lt_trans hg hvb) (Nat.ne_of_gt hl2.lt) (heap_alloc_new _ _) rfl (by simp; exact hok.at_) (by decide) (by omega)
  clear c0 c1 c2 c3 c4 c5 hl ho hl1 ho1
  go_wp2_with (first | (go_at_call 70; refine hN'.mono ?_) | (go_at_call 99; refine hT.mono ?_; rintro e w2 ⟨rfl, rfl⟩; clear hT; have hN' := hN))
  rintro e w3 ⟨rfl, ⟨hu3, hb3⟩, ho3⟩
  clear hN hN'
  have ho4 := (ho2.below hA ho2.lt).below hb3 hvb
  have hbV : Below v w w3 := (hb1.trans hb2).trans ((hA.mono (Nat.le_of_lt ho2.lt)).trans (hb3.mono (Nat.le_of_lt hvb)))
  have ht4 := ht.below hbV hg
  have hnl := nmL_len [o.at_] (by simp; exact hok.at_)
  obtain ⟨d0, d1, d2, d3, d4, d5⟩ := ho4.six
  have hT := takeS_any v 5 o.data w3 d5 (ho4.frozen 5)
  have hu3 : LnS (stN y [o.at_]) b w3 := hu3
  obtain ⟨V, hV, hl5, ho5, hb5, ht5⟩ := takeAt hu3 ho4 hvb ho4.set5 ht4 hg
  rw [hV] at hT
  have hM := lbytes_any (stN y [o.at_]).1 b (stN y [o.at_]).2 o.data V hl5 (by have := hok.data; omega) (by simp only [stN, List.length_append, List.length_cons, List.length_nil] at hnl ⊢; omega)
  clear d0 d1 d2 d3 d4 d5 hV hu3
  go_wp2_with (first | (go_at_call 102; refine hM'.mono ?_; rintro e w6 ⟨rfl, ⟨hu6, hb6⟩, ho6⟩; clear hM') | (go_at_call 120; refine hT.mono ?_; rintro e w2 ⟨rfl, rfl⟩; clear hT; have hM' := hM))
  go_wp2
  go_end0
  exact ⟨rfl, hu6, ho5.below hb6 hvb, (hbV.trans hb5).trans (hb6.mono (Nat.le_of_lt hvb))⟩
end Go.Proofs.YtcochbcaillldaaGreatDoor.Sc
