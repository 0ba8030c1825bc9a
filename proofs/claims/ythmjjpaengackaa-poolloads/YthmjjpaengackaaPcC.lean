import Derived.Test.YthmjjpaengackaaPcB
namespace Go.Proofs.Ythmjjpaengackaa.Po
open Go.RowKit Go.Lib Go.Deep

/-- a state laid out of its parts -/
theorem copy_lay {w W : World} {S : Ps} {nn : Nat} {a1 a4 : Option Addr} {c1 c4 b2 b3 : Nat} {Do Dn : DataW Unit} {fo : Int → Option Nat} {fn : List UInt8 → Option Nat} (h1 : W.ownsRow w.heap.size 76 5 (.slice a1 S.R.length c1) S.R.length (rwsC (rowsL S))) (h2 : W.ownsMap Try.prog 3 intR b2 nn Do) (h3 : W.ownsMap Try.prog 9 intR b3 nn Dn) (hne : b2 ≠ b3) (h4 : W.ownsRow w.heap.size 3 1 (.slice a4 S.Q.length c4) S.Q.length (nsC S.Q)) (hb : Below w.heap.size w W) (hx2 : w.heap.size ≤ b2) (hx3 : w.heap.size ≤ b3)
    (t2 : Tab litI Do fo) (i2 : Is Ob.ow (-1) S.R fo) (t3 : Tab litS Dn fn) (i3 : Is kyN [] S.R fn) (hlim : S.fl ≤ 65536 ∧ S.R.length ≤ 65600) (hql : S.Q.length ≤ S.R.length) :
    ∃ F', Lay (W.alloc (.cells #[.int .i64 (S.fl : Int), .slice a1 S.R.length c1, .map (some b2), .map (some b3), .slice a4 S.Q.length c4, .int .i64 0, .int .i64 (S.Q.length : Int)] 74)) W.heap.size F' nn S ∧ (∀ k, k ∈ F' → w.heap.size ≤ k) ∧ Below w.heap.size w (W.alloc (.cells #[.int .i64 (S.fl : Int), .slice a1 S.R.length c1, .map (some b2), .map (some b3), .slice a4 S.Q.length c4, .int .i64 0, .int .i64 (S.Q.length : Int)] 74)) := by
  have hal : Below W.heap.size W (W.alloc (.cells #[.int .i64 (S.fl : Int), .slice a1 S.R.length c1, .map (some b2), .map (some b3), .slice a4 S.Q.length c4, .int .i64 0, .int .i64 (S.Q.length : Int)] 74)) := (Below.refl _ _).alloc (Nat.le_refl _) _
  refine ⟨_, ⟨.slice a1 S.R.length c1, .slice a4 S.Q.length c4, b2, b3, S.Q, 0, rfl, heap_new _ _, owns_base (owns_below h1 hal) (Nat.zero_le _), owns_base (owns_below h4 hal) (Nat.zero_le _), ⟨Do, fo, map_keep h2 (hal.block _ h2.lt), t2, i2⟩, ⟨Dn, fn, map_keep h3 (hal.block _ h3.lt), t3, i3⟩, hne, rng_own S.Q, by omega, hlim⟩, fun k hk => ?_, hb.trans (hal.mono hb.size)⟩
  rcases mem_fp.1 hk with rfl | rfl | rfl | h | h
  · exact hb.size
  · exact hx2
  · exact hx3
  · exact (h1.lt k h).1
  · exact (h4.lt k h).1
set_option maxRecDepth 20000 in
set_option maxHeartbeats 8000000 in
theorem scopy_any (w : World) (q : Nat) (F : List Nat) (nn : Nat) (S : Ps) (hL : Lay w q F nn S) (hG : Good S) : Calls Try.prog 36 #[.pointer (some ⟨q, 0, none⟩)] w fun e w' => ∃ q' F', e = .returned (.pointer (some ⟨q', 0, none⟩)) ∧ Lay w' q' F' nn S ∧ (∀ k, k ∈ F' → w.heap.size ≤ k) ∧ Below w.heap.size w w' := by
  obtain ⟨rv, mv, oa, na, room, h, rfl, hI⟩ := hL
  have hfl := hG.fl
  have hql := hG.ql
  obtain ⟨g, cap, rfl⟩ := owns_form2 hI.hr (by omega)
  obtain ⟨Do, fo, m2, t2, i2⟩ := hI.ho
  obtain ⟨Dn, fn, m3, t3, i3⟩ := hI.hn
  have K1 : Hid (∀ V, Below w.heap.size w V → Calls Try.prog 54 #[.slice (some ⟨g, 0, none⟩) S.R.length cap] V fun e w' => ∃ a c, e = .returned (.slice a S.R.length c) ∧ w'.ownsRow w.heap.size 76 5 (.slice a S.R.length c) S.R.length (rwsC (rowsL S)) ∧ Below w.heap.size w w' ∧ Below V.heap.size V w') := fun V hV => by
    refine (rclone_any V g S.R.length cap _ (see_row (hI.below hV).hr (rwsC_one _)) (by omega)).mono ?_
    rintro e w' ⟨v, rfl, ho, hb⟩
    obtain ⟨a, c, rfl⟩ := owns_form ho
    exact ⟨a, c, rfl, owns_base ho hV.size, hV.trans (hb.mono hV.size), hb⟩
  have K2 : Hid (∀ V, Below w.heap.size w V → Calls Try.prog 55 #[.map (some oa)] V fun e w' => ∃ b2, e = .returned (.map (some b2)) ∧ w'.ownsMap Try.prog 3 intR b2 nn Do ∧ Below w.heap.size w w' ∧ Below V.heap.size V w' ∧ V.heap.size ≤ b2) := fun V hV => by
    obtain ⟨es, cl, h1, h2⟩ := map_keep m2 (hV.block oa m2.lt)
    refine (mcloneI_any V oa es cl h1).mono ?_
    rintro e w' ⟨rfl, rfl⟩
    have hal : Below V.heap.size V (V.alloc (.map es cl)) := (Below.refl _ _).alloc (Nat.le_refl _) _
    exact ⟨_, rfl, ⟨es, cl, heap_new _ _, h2⟩, hV.trans (hal.mono hV.size), hal, Nat.le_refl _⟩
  have K3 : Hid (∀ V, Below w.heap.size w V → Calls Try.prog 56 #[.map (some na)] V fun e w' => ∃ b3, e = .returned (.map (some b3)) ∧ w'.ownsMap Try.prog 9 intR b3 nn Dn ∧ Below w.heap.size w w' ∧ Below V.heap.size V w' ∧ V.heap.size ≤ b3) := fun V hV => by
    obtain ⟨es, cl, h1, h2⟩ := map_keep m3 (hV.block na m3.lt)
    refine (mcloneS_any V na es cl h1).mono ?_
    rintro e w' ⟨rfl, rfl⟩
    have hal : Below V.heap.size V (V.alloc (.map es cl)) := (Below.refl _ _).alloc (Nat.le_refl _) _
    exact ⟨_, rfl, ⟨es, cl, heap_new _ _, h2⟩, hV.trans (hal.mono hV.size), hal, Nat.le_refl _⟩
  have K4 : Hid (∀ V, Below w.heap.size w V → Calls Try.prog 57 #[.pointer (some ⟨q, 4, none⟩)] V fun e w' => ∃ a c, e = .returned (.agg #[.slice a S.Q.length c, .int .i64 0, .int .i64 (S.Q.length : Int)]) ∧ w'.ownsRow w.heap.size 3 1 (.slice a S.Q.length c) S.Q.length (nsC S.Q) ∧ Below w.heap.size w w' ∧ Below V.heap.size V w') := fun V hV => by
    have x := hI.below hV
    obtain ⟨-, -, -, -, c4, c5, c6⟩ := x.cells
    refine (rcopy_any V q h mv room S.Q c4 c5 c6 x.hm x.rg x.rl).mono ?_
    rintro e w' ⟨a, c, rfl, ho, hb⟩
    exact ⟨a, c, rfl, owns_base ho hV.size, hV.trans (hb.mono hV.size), hb⟩
  have HS : Hid (∀ X, Below w.heap.size w X → Below w.heap.size w X ∧ X.cell? ⟨q, 0, none⟩ = some (.int .i64 (S.fl : Int)) ∧ X.cell? ⟨q, 1, none⟩ = some (.slice (some ⟨g, 0, none⟩) S.R.length cap) ∧ X.cell? ⟨q, 2, none⟩ = some (.map (some oa)) ∧ X.cell? ⟨q, 3, none⟩ = some (.map (some na))) := fun X hX => by
    obtain ⟨c0, c1, c2, c3, -⟩ := (hI.below hX).cells
    exact ⟨hX, c0, c1, c2, c3⟩
  have HEND : Hid (∀ (W : World) (a1 a4 : Option Addr) (c1 c4 b2 b3 : Nat), W.ownsRow w.heap.size 76 5 (.slice a1 S.R.length c1) S.R.length (rwsC (rowsL S)) → W.ownsMap Try.prog 3 intR b2 nn Do → W.ownsMap Try.prog 9 intR b3 nn Dn → b2 ≠ b3 → W.ownsRow w.heap.size 3 1 (.slice a4 S.Q.length c4) S.Q.length (nsC S.Q) → Below w.heap.size w W → w.heap.size ≤ b2 → w.heap.size ≤ b3 → ∃ F', Lay (W.alloc (.cells #[.int .i64 (S.fl : Int), .slice a1 S.R.length c1, .map (some b2), .map (some b3), .slice a4 S.Q.length c4, .int .i64 0, .int .i64 (S.Q.length : Int)] 74)) W.heap.size F' nn S ∧ (∀ k, k ∈ F' → w.heap.size ≤ k) ∧ Below w.heap.size w (W.alloc (.cells #[.int .i64 (S.fl : Int), .slice a1 S.R.length c1, .map (some b2), .map (some b3), .slice a4 S.Q.length c4, .int .i64 0, .int .i64 (S.Q.length : Int)] 74))) := fun W a1 a4 c1 c4 b2 b3 p1 p2 p3 hne p4 hb x2 x3 => copy_lay p1 p2 p3 hne p4 hb x2 x3 t2 i2 t3 i3 hI.lim hql
  have XD : Below w.heap.size w w.drew := (Below.refl _ _).drew
  obtain ⟨-, c0, c1, c2, c3⟩ := HS.out w.drew XD
  clear hI m2 t2 i2 m3 t3 i3 hG hfl hql
  go_enter Try.func36, Try.ntmps36
  go_wp2_with fail
  go_region_held_law (fun X => Below w.heap.size w X ∧ X.cell? ⟨q, 0, none⟩ = some (.int .i64 (S.fl : Int)) ∧ X.cell? ⟨q, 1, none⟩ = some (.slice (some ⟨g, 0, none⟩) S.R.length cap) ∧ X.cell? ⟨q, 2, none⟩ = some (.map (some oa)) ∧ X.cell? ⟨q, 3, none⟩ = some (.map (some na))) (first | exact HS.out _ (by assumption) | exact HS.out _ (Below.alloc (by assumption) (Below.size (by assumption)) _) | go_keep) (first | (go_at_call 54; refine (K1.out _ (by assumption)).mono ?_; rintro e w5 ⟨a1, e1, rfl, hp1, hb5, hs5⟩; (try replace hp2 := map_keep hp2 (hs5.block _ hp2.lt)); (try replace hp3 := map_keep hp3 (hs5.block _ hp3.lt)); (try replace hp4 := owns_below hp4 hs5); clear hs5) | (go_at_call 55; refine (K2.out _ (by assumption)).mono ?_; rintro e w6 ⟨b2, rfl, hp2, hb6, hs6, hg2⟩; (try have hne : b2 ≠ b3 := (by have := hp3.lt; omega)); (try replace hp1 := owns_below hp1 hs6); (try replace hp3 := map_keep hp3 (hs6.block _ hp3.lt)); (try replace hp4 := owns_below hp4 hs6); have hx2 : w.heap.size ≤ b2 := Nat.le_trans (Below.size (by assumption)) hg2; clear hs6 hg2) | (go_at_call 56; refine (K3.out _ (by assumption)).mono ?_; rintro e w7 ⟨b3, rfl, hp3, hb7, hs7, hg3⟩; (try have hne : b2 ≠ b3 := (by have := hp2.lt; omega)); (try replace hp1 := owns_below hp1 hs7); (try replace hp2 := map_keep hp2 (hs7.block _ hp2.lt)); (try replace hp4 := owns_below hp4 hs7); have hx3 : w.heap.size ≤ b3 := Nat.le_trans (Below.size (by assumption)) hg3; clear hs7 hg3) | (go_at_call 57; refine (K4.out _ (by assumption)).mono ?_; rintro e w8 ⟨a4, e4, rfl, hp4, hb8, hs8⟩; (try replace hp1 := owns_below hp1 hs8); (try replace hp2 := map_keep hp2 (hs8.block _ hp2.lt)); (try replace hp3 := map_keep hp3 (hs8.block _ hp3.lt)); clear hs8))
  have HF : Hid _ := HEND.out w8 a1 a4 e1 e4 b2 b3 hp1 hp2 hp3 hne hp4 hb8 hx2 hx3
  clear HEND hp1 hp2 hp3 hp4 hne hx2 hx3 hb5 hb6 hb7 hb8 K1 K2 K3 K4 HS c0 c1 c2 c3 XD
  go_wp2
  go_ret
  obtain ⟨F', h1, h2, h3⟩ := HF.out
  exact ⟨_, F', rfl, h1, h2, h3⟩
set_option maxRecDepth 20000 in
set_option maxHeartbeats 1000000 in
theorem copy_any (w : World) (pb q : Nat) (F : List Nat) (nn : Nat) (S : Ps) (hK : Ok w pb q F nn S) : Calls Try.prog 17 #[.pointer (some ⟨pb, 0, none⟩)] w fun e w' => ∃ pb' q' F', e = .returned (.pointer (some ⟨pb', 0, none⟩)) ∧ Ok w' pb' q' F' nn S ∧ w.heap.size ≤ pb' ∧ (∀ k, k ∈ F' → w.heap.size ≤ k) ∧ Below w.heap.size w w' := by
  have c0 := hK.top.cell
  have hm := made_any w pb q c0
  have hc := scopy_any w q F nn S hK.lay hK.good
  have HE : Hid (∀ (w2 : World) (q' : Nat) (F' : List Nat), Lay w2 q' F' nn S → (∀ k, k ∈ F' → w.heap.size ≤ k) → Below w.heap.size w w2 → ∃ F', Ok (w2.alloc (.cells #[.pointer (some ⟨q', 0, none⟩)] 67)) w2.heap.size q' F' nn S ∧ w.heap.size ≤ w2.heap.size ∧ (∀ k, k ∈ F' → w.heap.size ≤ k) ∧ Below w.heap.size w (w2.alloc (.cells #[.pointer (some ⟨q', 0, none⟩)] 67))) := fun w2 q' F' hL hF hb => by
    have hal : Below w2.heap.size w2 (w2.alloc (.cells #[.pointer (some ⟨q', 0, none⟩)] 67)) := (Below.refl _ _).alloc (Nat.le_refl _) _
    exact ⟨F', ⟨heap_new _ _, hL.below hal, hK.good, hK.nn⟩, hb.size, hF, hb.trans (hal.mono hb.size)⟩
  clear hK
  go_enter Try.func17, Try.ntmps17
  go_wp2_with (first
    | (go_at_call 26; refine hm.mono ?_; rintro e w2 ⟨rfl, e2⟩; obtain rfl := e2.symm)
    | (go_at_call 36; refine hc.mono ?_; rintro e w2 ⟨q', F', rfl, h1, h2, h3⟩; have HF : Hid _ := HE.out w2 q' F' h1 h2 h3; clear h1 h2 h3 HE hc))
  go_ret
  obtain ⟨F2, h1, h2, h3, h4⟩ := HF.out
  exact ⟨_, q', F2, rfl, h1, h2, h3, h4⟩
end Go.Proofs.Ythmjjpaengackaa.Po
