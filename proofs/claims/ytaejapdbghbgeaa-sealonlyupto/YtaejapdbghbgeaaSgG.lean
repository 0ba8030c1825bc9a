import Derived.Test.YtaejapdbghbgeaaSgH
namespace Go.Proofs.Ytaejapdbghbgeaa.Se
open Go.RowKit Go.Lib Go.Deep

set_option maxRecDepth 20000 in
set_option maxHeartbeats 16000000 in
theorem only_walk (a1 a2 : Option Addr) (c1 c2 : Nat) (bs : List Box) (ts : List Forge) (n2 : Nat) (st : ByteArray) (w : World) (hn1 : bs.length ≤ 1048576) (hn2 : ts.length = n2) (hn3 : n2 ≤ 1048576) (hst : st.size ≤ 1048576)
    (hbk : ∀ b ∈ bs, wf64 b.kind ∧ wf64 b.seed) (hts : ∀ f ∈ ts, wf64 f.which ∧ wf64 f.kind ∧ wf64 f.at_ ∧ wf64 f.by_ ∧ f.name.size ≤ 1048576 ∧ f.more.size ≤ 1048576)
    (hS1 : See w (.slice a1 bs.length c1) bs.length (boxCells bs)) (hS2 : See w (.slice a2 n2 c2) n2 (fc forgeC ts)) :
    Calls Try.prog 4 #[.slice a1 bs.length c1, .slice a2 n2 c2, .string st] w fun e w' => e = .returned (.bool true) ∧ Below w.heap.size w w' := by
  have hN := newIdeal_any w (.slice none 0 0) [] (SeeR.nil w) (by intro r hr; cases hr) (by simp)
  have hnum := fun W x => snum_any x W
  have HF1 : Hid (∀ W, Below w.heap.size w W → Calls Try.prog 14 #[.slice a1 bs.length c1] W fun e w' => ∃ v', e = .returned v' ∧ w'.ownsRow W.heap.size 44 4 v' (bs.length + 1) (boxCells (firstB :: bs)) ∧ Below W.heap.size W w') := fun W hb => first_any a1 c1 bs hn1 W (hS1.below hb)
  have HTS : Hid (∀ (k : Nat) (f : Forge), ts[k]? = some f → (wf64 f.which ∧ wf64 f.kind ∧ wf64 f.at_ ∧ wf64 f.by_ ∧ f.name.size ≤ 1048576 ∧ f.more.size ≤ 1048576) ∧ ∃ bb off, a2 = some ⟨bb, off, none⟩ ∧ ∀ W, Below w.heap.size w W → W.cell? ⟨bb, off + k * 7, none⟩ = some (.int .i64 f.which) ∧ W.cell? ⟨bb, off + k * 7 + 1, none⟩ = some (.int .i64 f.kind) ∧ W.cell? ⟨bb, off + k * 7 + 2, none⟩ = some (.int .i64 f.at_) ∧ W.cell? ⟨bb, off + k * 7 + 3, none⟩ = some (.int .i64 f.by_) ∧ W.cell? ⟨bb, off + k * 7 + 4, none⟩ = some (.string f.name) ∧ W.cell? ⟨bb, off + k * 7 + 5, none⟩ = some (.string f.more) ∧ W.cell? ⟨bb, off + k * 7 + 6, none⟩ = some (.bool f.cut)) := fun k f hf => by
    refine ⟨hts f (List.mem_of_getElem? hf), ?_⟩
    have hkl := (List.getElem?_eq_some_iff.1 hf).1
    have at_ := fun j (hj : j < 7) => fc_at (f := forgeC) (s := 7) (fun _ => rfl) ts k f hf j hj
    obtain ⟨a', bb, off, cap', hv, h2, _, h3⟩ := hS2.ex
    injection hv with hv1 _ hv2
    obtain ⟨e1, e2⟩ := h2 (by omega)
    refine ⟨bb, off, hv1.trans e1, fun W hb => ⟨?_, ?_, ?_, ?_, ?_, ?_, ?_⟩⟩
    · exact (hb.cell (p := ⟨bb, off + k * 7, none⟩) e2).trans (h3 _ _ (at_ 0 (by omega)))
    all_goals rw [Nat.add_assoc]
    · exact (hb.cell (p := ⟨bb, off + (k * 7 + 1), none⟩) e2).trans (h3 _ _ (at_ 1 (by omega)))
    · exact (hb.cell (p := ⟨bb, off + (k * 7 + 2), none⟩) e2).trans (h3 _ _ (at_ 2 (by omega)))
    · exact (hb.cell (p := ⟨bb, off + (k * 7 + 3), none⟩) e2).trans (h3 _ _ (at_ 3 (by omega)))
    · exact (hb.cell (p := ⟨bb, off + (k * 7 + 4), none⟩) e2).trans (h3 _ _ (at_ 4 (by omega)))
    · exact (hb.cell (p := ⟨bb, off + (k * 7 + 5), none⟩) e2).trans (h3 _ _ (at_ 5 (by omega)))
    · exact (hb.cell (p := ⟨bb, off + (k * 7 + 6), none⟩) e2).trans (h3 _ _ (at_ 6 (by omega)))
  have HN2 : Hid (ts.length = n2) := hn2
  have HBK : Hid (∀ b ∈ firstB :: bs, (-9223372036854775808 ≤ b.kind ∧ b.kind ≤ 9223372036854775807) ∧ (-9223372036854775808 ≤ b.seed ∧ b.seed ≤ 9223372036854775807)) := fun b hb => by
    rcases List.mem_cons.1 hb with rfl | hb
    · exact ⟨⟨by decide, by decide⟩, ⟨by decide, by decide⟩⟩
    · exact hbk b hb
  clear hS1 hS2 hts hbk hn2
  go_enter Try.func4, Try.ntmps4
  go_wp2_with fail
  refine hN.mono ?_
  rintro e w2 ⟨_, h2, hb⟩
  obtain ⟨pb, F0, rfl, hI, hF⟩ := h2 rfl
  have HI0 : Hid (Idl w2 pb F0 [] ∧ (∀ k, k ∈ pb :: F0 → w.heap.size ≤ k) ∧ Below w.heap.size w w2) := ⟨hI, hF, hb⟩
  clear hI hF hb h2 hN
  go_wp2_with fail
  refine (hnum _ _).mono ?_
  rintro e w3 ⟨rfl, rfl⟩
  go_wp2_with fail
  refine (HF1.out _ HI0.out.2.2).mono ?_
  rintro e w4 ⟨v', rfl, ho4, hb4⟩
  obtain ⟨a4, c4, rfl⟩ := own_len ho4
  have HL : Hid (Calls Try.prog 13 #[.iface 23 (.pointer (some ⟨pb, 0, none⟩)), .slice a4 (bs.length + 1) c4] w4 (LaidP w4 pb F0 (firstB :: bs))) :=
    laid_any pb F0 (firstB :: bs) (bs.length + 1) c4 a4 w4 rfl (by omega) HBK.out (HI0.out.1.below hb4) (fun W ho => See.of_own (own_frame ho4 ho (fun g hg hm => by
      have h1 := (World.ownsRow.lt ho4 g hg).1
      have h2 := HI0.out.1.lt g (List.mem_cons_of_mem _ hm)
      omega)))
  have HB4 : Hid (Below w.heap.size w w4) := HI0.out.2.2.trans (hb4.mono HI0.out.2.2.size)
  clear ho4 hb4
  go_wp2_with fail
  refine HL.out.mono ?_
  rintro e w5 ⟨v5, F5, rfl, ho5, hI5, hw5, hF5⟩
  obtain ⟨a5, c5, rfl⟩ := own_len ho5
  obtain ⟨n, hn⟩ : ∃ n, (firstB :: bs).length = n := ⟨_, rfl⟩
  have hn0 : 1 ≤ n ∧ n ≤ 1048577 := by rw [← hn, List.length_cons]; omega
  have HB5 : Hid (Below w.heap.size w w5) := HB4.out.trans (hw5.below HB4.out.size (fun x hx => HI0.out.2.1 x (List.mem_cons_of_mem _ hx)))
  have HLN : Hid ((lays 0 (firstB :: bs)).length = n) := by show _ = _; rw [lays_length, hn]
  have HOK : Hid _ := lays_ok (firstB :: bs) (by omega)
  rw [hn] at ho5
  have HSE : Hid (See w5 (.slice a5 n c5) n (layCells (lays 0 (firstB :: bs)))) := See.of_own ho5
  have HI5 : Hid (Idl w5 pb F5 ((lays 0 (firstB :: bs)).map Lay.row)) := hI5
  rw [hn]
  generalize lays 0 (firstB :: bs) = ls at *
  have HOP : Hid (∀ (kind : Int) (name blob : ByteArray), 1 ≤ kind → kind ≤ 3 → name.size ≤ 64 → blob.size ≤ 281474976710656 → ∀ W, Below w5.heap.size w5 W → Calls Try.prog 15 #[.iface 23 (.pointer (some ⟨pb, 0, none⟩)), .slice a5 n c5, .int .i64 kind, .string name, .string blob] W fun e w' => e = .returned (.bool true) ∧ Below w5.heap.size w5 w') := fun kind name blob h1 h2 h3 h4 W hb =>
    (opened_any ls kind name blob pb F5 n c5 a5 W HLN.out (by omega) h4 (by unfold placeE; rw [if_neg (by omega), if_neg (by omega)]) (HI5.out.below hb) (HSE.out.below hb)).mono (by
      rintro e w' ⟨rfl, hb'⟩
      exact ⟨rfl, hb.trans (hb'.mono hb.size)⟩)
  have HBA : Hid (∀ W, Below w5.heap.size w5 W → Calls Try.prog 16 #[.iface 23 (.pointer (some ⟨pb, 0, none⟩)), .slice a5 n c5] W fun e w' => e = .returned (.bool true) ∧ Below w5.heap.size w5 w') := fun W hb =>
    (back_any ls pb F5 n c5 a5 W HLN.out (by omega) (fun l hl => ⟨(HOK.out l hl).1, (HOK.out l hl).2.1⟩) (HI5.out.below hb) (HSE.out.below hb)).mono (by
      rintro e w' ⟨rfl, hb'⟩
      exact ⟨rfl, hb.trans (hb'.mono hb.size)⟩)
  have HSL := see_lay HLN.out HSE.out
  clear hn ho5 hI5 hw5 hF5 HL HB4 HI0 HF1 HBK HI5
  go_wp2_with fail
  go_loopg [11] n2 (fun gk iv wr => ∃ k : Nat, k + gk = n2 ∧ iv = .int .i64 (k : Int) ∧ Hid (Below w5.heap.size w5 wr))
  case atStart => exact ⟨0, by omega, rfl, Below.refl _ _⟩
  case round =>
    obtain ⟨k, hk, rfl, HB⟩ := hrel
    have HKG : Hid (k + gk = n2) := hk
    have hkn : k ≤ n2 := by omega
    clear hk
    by_cases hlt : k < n2
    · have hltI : (k : Int) < (n2 : Int) := by omega
      obtain ⟨f, hf⟩ : ∃ f, ts[k]? = some f := ⟨_, List.getElem?_eq_getElem (by have := HN2.out; omega)⟩
      obtain ⟨hwf, bb, off, rfl, hcl⟩ := HTS.out k f hf
      obtain ⟨fw, fk, fa, fb, fn, fm, fcut⟩ := f
      dsimp only at hwf hcl
      obtain ⟨hw1, hw2, hw3, hw4, hfn, hfm⟩ := hwf
      unfold wf64 at hw1 hw2 hw3 hw4
      have HFC : Hid (∀ W, Below w5.heap.size w5 W → W.cell? ⟨bb, off + k * 7, none⟩ = some (.int .i64 fw) ∧ W.cell? ⟨bb, off + k * 7 + 1, none⟩ = some (.int .i64 fk) ∧ W.cell? ⟨bb, off + k * 7 + 2, none⟩ = some (.int .i64 fa) ∧ W.cell? ⟨bb, off + k * 7 + 3, none⟩ = some (.int .i64 fb) ∧ W.cell? ⟨bb, off + k * 7 + 4, none⟩ = some (.string fn) ∧ W.cell? ⟨bb, off + k * 7 + 5, none⟩ = some (.string fm) ∧ W.cell? ⟨bb, off + k * 7 + 6, none⟩ = some (.bool fcut)) := fun W hb => hcl W (HB5.out.trans (hb.mono HB5.out.size))
      clear hf hcl
      obtain ⟨ix, hix⟩ : ∃ ix : Nat, fw % (n : Int) = (ix : Int) := ⟨(fw % (n : Int)).toNat, by have := Int.emod_nonneg fw (show (n : Int) ≠ 0 by omega); omega⟩
      have hixn : ix < n := by have := Int.emod_lt_of_pos fw (show (0 : Int) < (n : Int) by omega); omega
      have hixI : (ix : Int) < (n : Int) := by omega
      have hmd := fun W => smod_any fw (n : Int) hw1 (by omega) W
      rw [hix] at hmd
      obtain ⟨l, hl⟩ : ∃ l, ls[ix]? = some l := ⟨_, List.getElem?_eq_getElem (by have := HLN.out; omega)⟩
      obtain ⟨lb, lo, rfl, hlc⟩ := HSL.out ix l hl
      have hlok := HOK.out l (List.mem_of_getElem? hl)
      have hls := see_seed HLN.out HSE.out hl
      obtain ⟨⟨kd, nm, bl, tx⟩, sd⟩ := l
      dsimp only at hlc hlok hls
      obtain ⟨_, _, hkd, hnm, hbl⟩ := hlok
      obtain ⟨x0, x1, x2, x4⟩ := hlc _ HB.out
      have x3 := hls _ HB.out
      obtain ⟨f0, _⟩ := HFC.out _ HB.out
      obtain ⟨W6, hW6⟩ : ∃ W, wr.alloc (.cells #[.int .i64 kd, .string nm, .string tx, .int .i64 sd, .string bl] 46) = W := ⟨_, rfl⟩
      have hb6 : Below wr.heap.size wr W6 := by rw [← hW6]; exact (Below.refl _ _).alloc (Nat.le_refl _) _
      have hq6 : W6.heap[wr.heap.size]? = some (.cells #[.int .i64 kd, .string nm, .string tx, .int .i64 sd, .string bl] 46 (0, 0)) := by rw [← hW6]; exact heap_new _ _
      have HB6 : Hid (Below w5.heap.size w5 W6) := HB.out.trans (hb6.mono HB.out.size)
      have HX : Hid (∀ W, Below W6.heap.size W6 W → Below w5.heap.size w5 W ∧ W.cell? ⟨wr.heap.size, 0, none⟩ = some (.int .i64 kd) ∧ W.cell? ⟨wr.heap.size, 1, none⟩ = some (.string nm) ∧ W.cell? ⟨wr.heap.size, 4, none⟩ = some (.string bl) ∧ W.cell? ⟨bb, off + k * 7 + 1, none⟩ = some (.int .i64 fk) ∧ W.cell? ⟨bb, off + k * 7 + 2, none⟩ = some (.int .i64 fa) ∧ W.cell? ⟨bb, off + k * 7 + 3, none⟩ = some (.int .i64 fb) ∧ W.cell? ⟨bb, off + k * 7 + 4, none⟩ = some (.string fn) ∧ W.cell? ⟨bb, off + k * 7 + 5, none⟩ = some (.string fm) ∧ W.cell? ⟨bb, off + k * 7 + 6, none⟩ = some (.bool fcut)) := fun W hb => by
        have hh := (hb.block _ (heap_lt hq6)).trans hq6
        have h5 := HB6.out.trans (hb.mono HB6.out.size)
        obtain ⟨_, g1, g2, g3, g4, g5, g6⟩ := HFC.out W h5
        exact ⟨h5, (cell_of_heap hh).trans rfl, (cell_of_heap hh).trans rfl, (cell_of_heap hh).trans rfl, g1, g2, g3, g4, g5, g6⟩
      have e1 : IntKind.i64.wrap (kd - 1) = kd - 1 := by rw [IntKind.wrap_i64]; omega
      obtain ⟨kk, hkk⟩ : ∃ kk, IntKind.i64.wrap (kd - 1 + fk) = kk := ⟨_, rfl⟩
      have hkk2 : -9223372036854775808 ≤ kk ∧ kk ≤ 9223372036854775807 := by rw [← hkk, IntKind.wrap_i64]; omega
      have hmk := fun W => smod_any kk 3 hkk2 (by omega) W
      have hr3 : 0 ≤ kk % 3 ∧ kk % 3 < 3 := by omega
      generalize kk % 3 = r3 at hmk hr3
      have e3 : IntKind.i64.wrap (1 + r3) = 1 + r3 := by rw [IntKind.wrap_i64]; omega
      clear hl hlc hls hb6 hq6
      go_wp2_with fail
      refine (hmd _).mono ?_
      rintro e w6 ⟨rfl, hww⟩
      have hww2 := hww.symm
      clear hww
      subst hww2
      go_wp2_with fail
      go_region_held_law (fun W => W.cell? ⟨wr.heap.size, 0, none⟩ = some (.int .i64 kd) ∧ W.cell? ⟨bb, off + k * 7 + 1, none⟩ = some (.int .i64 fk)) (first | exact ⟨(HX.out _ (bdN _ _)).2.1, (HX.out _ (bdN _ _)).2.2.2.2.1⟩ | go_keep) (first | (go_at_call 8; refine (hmk _).mono ?_; rintro e w7 ⟨rfl, rfl⟩))
      refine with_world (R := fun W => Exit.then _ _ _ _ W) (Q := fun W => Below W6.heap.size W6 W) _ (bdN W6 1) ?_
      intro w7 hb7
      have HB7N : Hid (∀ j, Below W6.heap.size W6 (w7.drewN j)) := fun j => hb7.trans ((bdN w7 j).mono hb7.size)
      obtain ⟨hb8, z0, z1, z4, g1, g2, g3, g4, g5, g6⟩ := HX.out _ hb7
      obtain ⟨kx, hkx⟩ : ∃ kx : Nat, fa % (bl.size : Int) = (kx : Int) := ⟨(fa % (bl.size : Int)).toNat, by have := Int.emod_nonneg fa (show (bl.size : Int) ≠ 0 by omega); omega⟩
      have hkxn : kx < bl.size := by have := Int.emod_lt_of_pos fa (show (0 : Int) < (bl.size : Int) by omega); omega
      have hma := fun W => smod_any fa (bl.size : Int) hw3 (by omega) W
      rw [hkx] at hma
      obtain ⟨X, hX⟩ : ∃ X : Nat, fb % 256 = (X : Int) := ⟨(fb % 256).toNat, by omega⟩
      have hX2 : X < 256 := by omega
      have hmb := fun W => smod_any fb 256 hw4 (by omega) W
      rw [hX] at hmb
      have hXu : IntKind.u8.wrap (X : Int) = (X : Int) := by rw [IntKind.wrap]; simp [IntKind.bits, IntKind.signed]; omega
      obtain ⟨y, hy⟩ : ∃ y, bl.data.toList[kx]? = some y := ⟨_, List.getElem?_eq_getElem (by rw [Array.length_toList]; exact hkxn)⟩
      have hidx := fun W => index_at (P := Try.prog) W 9 bl .i64 kx y Try.underlying9 hy
      obtain ⟨zn, hzn⟩ : ∃ zn : Nat, y.toNat ^^^ X = zn := ⟨_, rfl⟩
      have hz256 : zn < 256 := by rw [← hzn]; exact Nat.xor_lt_two_pow (n := 8) y.toNat_lt (by omega)
      have hxor : bits .xor .u8 (y.toNat : Int) (X : Int) = (zn : Int) := by rw [← hzn]; exact u8_xor_nat y.toNat X y.toNat_lt hX2
      obtain ⟨yz, hyz⟩ : ∃ yz, str [UInt8.ofNat zn] = yz := ⟨_, rfl⟩
      have HCV : Hid (∀ W : World, (convert 28 9 (.slice (some ⟨W.heap.size, 0, none⟩) 1 1)).run Try.prog (W.alloc (.cells #[.int .u8 (zn : Int)] 5)) = .ok (.string yz) (W.alloc (.cells #[.int .u8 (zn : Int)] 5))) := fun W => by
        rw [← hyz]
        refine run_convert_bytes_back (P := Try.prog) _ 28 9 5 ⟨W.heap.size, 0, none⟩ 1 [UInt8.ofNat zn] Try.underlying28 Try.underlying5 Try.underlying9 (fun j hj => ?_)
        obtain rfl : j = 0 := by simp at hj; omega
        have h := cells_new W #[.int .u8 (zn : Int)] 5 0 (.int .u8 (zn : Int)) rfl
        rw [h]
        simp
        omega
      have hyzs : yz.size = 1 := by rw [← hyz, str_size]; rfl
      have q1 : (0 : Int) ≤ (kx : Int) ∧ (kx : Int) ≤ (bl.size : Int) := by omega
      have q2 : IntKind.i64.wrap ((kx : Int) + 1) = ((kx + 1 : Nat) : Int) := by rw [IntKind.wrap_i64]; omega
      have q3 : (0 : Int) ≤ ((kx + 1 : Nat) : Int) ∧ ((kx + 1 : Nat) : Int) ≤ (bl.size : Int) := by omega
      obtain ⟨s1, hs1⟩ : ∃ s1, bl.extract 0 kx ++ yz = s1 := ⟨_, rfl⟩
      have hs1z : s1.size = kx + 1 := by rw [← hs1, ByteArray.size_append, hyzs, ByteArray.size_extract]; omega
      have hcat1 : ∀ W, (Op.stringOp .add (bl.extract 0 kx) yz).run Try.prog W = .ok (.string s1) W := fun W => by
        rw [run_string_add_sum (P := Try.prog) (w := W) _ _ (by rw [hyzs, ByteArray.size_extract]; omega), hs1]
      obtain ⟨s2, hs2⟩ : ∃ s2, s1 ++ bl.extract (kx + 1) bl.size = s2 := ⟨_, rfl⟩
      have hs2z : s2.size = bl.size := by rw [← hs2, ByteArray.size_append, hs1z, ByteArray.size_extract]; omega
      have hcat2 : ∀ W, (Op.stringOp .add s1 (bl.extract (kx + 1) bl.size)).run Try.prog W = .ok (.string s2) W := fun W => by
        rw [run_string_add_sum (P := Try.prog) (w := W) _ _ (by rw [hs1z, ByteArray.size_extract]; omega), hs2]
      have HS2 : Hid (s2.size = bl.size) := hs2z
      clear hs1 hs2 hyz hzn hy hX hkx hs1z hs2z hmd hmk e1 hkk
      rcases (show fn.size = 0 ∨ (fn.size ≠ 0 ∧ 64 < fn.size) ∨ (fn.size ≠ 0 ∧ fn.size ≤ 64) by omega) with hc | ⟨hc, hc2⟩ | ⟨hc, hc2⟩
      · obtain rfl : fn = { data := #[] } := ByteArray.ext (Array.eq_empty_of_size_eq_zero hc)
        go_wp2_with fail
        obtain ⟨hb8, z0, z1, z4, g1, g2, g3, g4, g5, g6⟩ := HX.out _ hb7
        go_region_held_law (fun W => W.cell? ⟨wr.heap.size, 4, none⟩ = some (.string bl) ∧ W.cell? ⟨bb, off + k * 7 + 2, none⟩ = some (.int .i64 fa)) (first | exact ⟨(HX.out _ (HB7N.out _)).2.2.2.1, (HX.out _ (HB7N.out _)).2.2.2.2.2.1⟩ | go_keep) (first | (go_at_call 8; refine (hma _).mono ?_; rintro e w8 ⟨rfl, rfl⟩))
        refine with_world (R := fun W => Exit.then _ _ _ _ W) (Q := fun W => Below W6.heap.size W6 W) _ (HB7N.out 1) ?_
        intro w9 hb9
        have HB9N : Hid (∀ j, Below W6.heap.size W6 (w9.drewN j)) := fun j => hb9.trans ((bdN w9 j).mono hb9.size)
        have hcv0 : (convert 28 9 (.slice (some ⟨w9.heap.size, 0, none⟩) 1 1)).run Try.prog (w9.alloc (.cells #[.int .u8 (zn : Int)] 5)) = .ok (.string yz) (w9.alloc (.cells #[.int .u8 (zn : Int)] 5)) := HCV.out w9
        have hcv1 : (convert 28 9 (.slice (some ⟨w9.heap.size, 0, none⟩) 1 1)).run Try.prog (w9.alloc (.cells #[.int .u8 (zn : Int)] 5)).drew = .ok (.string yz) (w9.alloc (.cells #[.int .u8 (zn : Int)] 5)).drew := HCV.out w9.drew
        have HBA9 : Hid (Below W6.heap.size W6 (w9.alloc (.cells #[.int .u8 (zn : Int)] 5)).drew) := (hb9.alloc hb9.size _).drew
        clear z0 z1 z4 g1 g2 g3 g4 g5 g6 hb8
        go_wp2_with fail
        apply wp_merge
        · go_region_held_law (fun W => W.cell? ⟨wr.heap.size, 4, none⟩ = some (.string bl) ∧ W.cell? ⟨bb, off + k * 7 + 3, none⟩ = some (.int .i64 fb)) (first | exact ⟨(HX.out _ (HB9N.out _)).2.2.2.1, (HX.out _ (HB9N.out _)).2.2.2.2.2.2.1⟩ | exact ⟨(HX.out _ HBA9.out).2.2.2.1, (HX.out _ HBA9.out).2.2.2.2.2.2.1⟩ | go_keep) (first | (go_at_call 8; refine (hmb _).mono ?_; rintro e w8 ⟨rfl, rfl⟩))
          all_goals exact ⟨rfl, rfl⟩
        refine with_world (R := fun W => Exit.then _ _ _ _ W) (Q := fun W => Below W6.heap.size W6 W) _ HBA9.out ?_
        intro w10 hb10
        obtain ⟨hb11, _, _, _, _, _, _, _, g5, g6⟩ := HX.out _ hb10
        have hbs2 : 40 ≤ s2.size ∧ s2.size ≤ 4136 := by have := HS2.out; omega
        clear hcv0 hcv1 hb7 hb9 hb10 hmb hma hidx hxor hcat1 hcat2 q1 q2 q3 hXu
        cases fcut with
        | false =>
          obtain ⟨s4, hs4⟩ : ∃ s4, s2 ++ fm = s4 := ⟨_, rfl⟩
          have hs4z : s4.size ≤ 281474976710656 := by rw [← hs4, ByteArray.size_append]; omega
          have hcat3 : ∀ W, (Op.stringOp .add s2 fm).run Try.prog W = .ok (.string s4) W := fun W => by
            rw [run_string_add_sum (P := Try.prog) (w := W) _ _ (by omega), hs4]
          go_wp2_with fail
          refine (HOP.out (1 + r3) _ s4 (by omega) (by omega) hnm hs4z _ hb11).mono ?_
          rintro e w12 ⟨rfl, hb12⟩
          go_wp2_with fail
          refine (HOP.out (1 + r3) _ st (by omega) (by omega) hnm (by omega) _ hb12).mono ?_
          rintro e w13 ⟨rfl, hb13⟩
          go_wp2_with fail
          go_roundg (gk - 1)
          case measure => have := HKG.out; omega
          case rel => exact ⟨k + 1, by have := HKG.out; omega, by go_num, hb13⟩
        | true =>
          have q4 : IntKind.i64.wrap ((s2.size : Int) - 1) = ((s2.size - 1 : Nat) : Int) := by rw [IntKind.wrap_i64]; omega
          have q5 : (0 : Int) ≤ ((s2.size - 1 : Nat) : Int) ∧ ((s2.size - 1 : Nat) : Int) ≤ (s2.size : Int) := by omega
          obtain ⟨s4, hs4⟩ : ∃ s4, s2.extract 0 (s2.size - 1) ++ fm = s4 := ⟨_, rfl⟩
          have hs4z : s4.size ≤ 281474976710656 := by rw [← hs4, ByteArray.size_append, ByteArray.size_extract]; omega
          have hcat3 : ∀ W, (Op.stringOp .add (s2.extract 0 (s2.size - 1)) fm).run Try.prog W = .ok (.string s4) W := fun W => by
            rw [run_string_add_sum (P := Try.prog) (w := W) _ _ (by rw [ByteArray.size_extract]; omega), hs4]
          go_wp2_with fail
          refine (HOP.out (1 + r3) _ s4 (by omega) (by omega) hnm hs4z _ hb11).mono ?_
          rintro e w12 ⟨rfl, hb12⟩
          go_wp2_with fail
          refine (HOP.out (1 + r3) _ st (by omega) (by omega) hnm (by omega) _ hb12).mono ?_
          rintro e w13 ⟨rfl, hb13⟩
          go_wp2_with fail
          go_roundg (gk - 1)
          case measure => have := HKG.out; omega
          case rel => exact ⟨k + 1, by have := HKG.out; omega, by go_num, hb13⟩
      · have hne := ne_empty hc
        have hc3 : ¬ (fn.size : Int) ≤ 64 := by omega
        go_wp2_with fail
        obtain ⟨hb8, z0, z1, z4, g1, g2, g3, g4, g5, g6⟩ := HX.out _ hb7
        go_region_held_law (fun W => W.cell? ⟨wr.heap.size, 4, none⟩ = some (.string bl) ∧ W.cell? ⟨bb, off + k * 7 + 2, none⟩ = some (.int .i64 fa)) (first | exact ⟨(HX.out _ (HB7N.out _)).2.2.2.1, (HX.out _ (HB7N.out _)).2.2.2.2.2.1⟩ | go_keep) (first | (go_at_call 8; refine (hma _).mono ?_; rintro e w8 ⟨rfl, rfl⟩))
        refine with_world (R := fun W => Exit.then _ _ _ _ W) (Q := fun W => Below W6.heap.size W6 W) _ (HB7N.out 1) ?_
        intro w9 hb9
        have HB9N : Hid (∀ j, Below W6.heap.size W6 (w9.drewN j)) := fun j => hb9.trans ((bdN w9 j).mono hb9.size)
        have hcv0 : (convert 28 9 (.slice (some ⟨w9.heap.size, 0, none⟩) 1 1)).run Try.prog (w9.alloc (.cells #[.int .u8 (zn : Int)] 5)) = .ok (.string yz) (w9.alloc (.cells #[.int .u8 (zn : Int)] 5)) := HCV.out w9
        have hcv1 : (convert 28 9 (.slice (some ⟨w9.heap.size, 0, none⟩) 1 1)).run Try.prog (w9.alloc (.cells #[.int .u8 (zn : Int)] 5)).drew = .ok (.string yz) (w9.alloc (.cells #[.int .u8 (zn : Int)] 5)).drew := HCV.out w9.drew
        have HBA9 : Hid (Below W6.heap.size W6 (w9.alloc (.cells #[.int .u8 (zn : Int)] 5)).drew) := (hb9.alloc hb9.size _).drew
        clear z0 z1 z4 g1 g2 g3 g4 g5 g6 hb8
        go_wp2_with fail
        apply wp_merge
        · go_region_held_law (fun W => W.cell? ⟨wr.heap.size, 4, none⟩ = some (.string bl) ∧ W.cell? ⟨bb, off + k * 7 + 3, none⟩ = some (.int .i64 fb)) (first | exact ⟨(HX.out _ (HB9N.out _)).2.2.2.1, (HX.out _ (HB9N.out _)).2.2.2.2.2.2.1⟩ | exact ⟨(HX.out _ HBA9.out).2.2.2.1, (HX.out _ HBA9.out).2.2.2.2.2.2.1⟩ | go_keep) (first | (go_at_call 8; refine (hmb _).mono ?_; rintro e w8 ⟨rfl, rfl⟩))
          all_goals exact ⟨rfl, rfl⟩
        refine with_world (R := fun W => Exit.then _ _ _ _ W) (Q := fun W => Below W6.heap.size W6 W) _ HBA9.out ?_
        intro w10 hb10
        obtain ⟨hb11, _, _, _, _, _, _, _, g5, g6⟩ := HX.out _ hb10
        have hbs2 : 40 ≤ s2.size ∧ s2.size ≤ 4136 := by have := HS2.out; omega
        clear hcv0 hcv1 hb7 hb9 hb10 hmb hma hidx hxor hcat1 hcat2 q1 q2 q3 hXu
        cases fcut with
        | false =>
          obtain ⟨s4, hs4⟩ : ∃ s4, s2 ++ fm = s4 := ⟨_, rfl⟩
          have hs4z : s4.size ≤ 281474976710656 := by rw [← hs4, ByteArray.size_append]; omega
          have hcat3 : ∀ W, (Op.stringOp .add s2 fm).run Try.prog W = .ok (.string s4) W := fun W => by
            rw [run_string_add_sum (P := Try.prog) (w := W) _ _ (by omega), hs4]
          go_wp2_with fail
          refine (HOP.out (1 + r3) _ s4 (by omega) (by omega) hnm hs4z _ hb11).mono ?_
          rintro e w12 ⟨rfl, hb12⟩
          go_wp2_with fail
          refine (HOP.out (1 + r3) _ st (by omega) (by omega) hnm (by omega) _ hb12).mono ?_
          rintro e w13 ⟨rfl, hb13⟩
          go_wp2_with fail
          go_roundg (gk - 1)
          case measure => have := HKG.out; omega
          case rel => exact ⟨k + 1, by have := HKG.out; omega, by go_num, hb13⟩
        | true =>
          have q4 : IntKind.i64.wrap ((s2.size : Int) - 1) = ((s2.size - 1 : Nat) : Int) := by rw [IntKind.wrap_i64]; omega
          have q5 : (0 : Int) ≤ ((s2.size - 1 : Nat) : Int) ∧ ((s2.size - 1 : Nat) : Int) ≤ (s2.size : Int) := by omega
          obtain ⟨s4, hs4⟩ : ∃ s4, s2.extract 0 (s2.size - 1) ++ fm = s4 := ⟨_, rfl⟩
          have hs4z : s4.size ≤ 281474976710656 := by rw [← hs4, ByteArray.size_append, ByteArray.size_extract]; omega
          have hcat3 : ∀ W, (Op.stringOp .add (s2.extract 0 (s2.size - 1)) fm).run Try.prog W = .ok (.string s4) W := fun W => by
            rw [run_string_add_sum (P := Try.prog) (w := W) _ _ (by rw [ByteArray.size_extract]; omega), hs4]
          go_wp2_with fail
          refine (HOP.out (1 + r3) _ s4 (by omega) (by omega) hnm hs4z _ hb11).mono ?_
          rintro e w12 ⟨rfl, hb12⟩
          go_wp2_with fail
          refine (HOP.out (1 + r3) _ st (by omega) (by omega) hnm (by omega) _ hb12).mono ?_
          rintro e w13 ⟨rfl, hb13⟩
          go_wp2_with fail
          go_roundg (gk - 1)
          case measure => have := HKG.out; omega
          case rel => exact ⟨k + 1, by have := HKG.out; omega, by go_num, hb13⟩
      · have hne := ne_empty hc
        have hc3 : (fn.size : Int) ≤ 64 := by omega
        go_wp2_with fail
        obtain ⟨hb8, z0, z1, z4, g1, g2, g3, g4, g5, g6⟩ := HX.out _ hb7
        go_region_held_law (fun W => W.cell? ⟨wr.heap.size, 4, none⟩ = some (.string bl) ∧ W.cell? ⟨bb, off + k * 7 + 2, none⟩ = some (.int .i64 fa)) (first | exact ⟨(HX.out _ (HB7N.out _)).2.2.2.1, (HX.out _ (HB7N.out _)).2.2.2.2.2.1⟩ | go_keep) (first | (go_at_call 8; refine (hma _).mono ?_; rintro e w8 ⟨rfl, rfl⟩))
        refine with_world (R := fun W => Exit.then _ _ _ _ W) (Q := fun W => Below W6.heap.size W6 W) _ (HB7N.out 1) ?_
        intro w9 hb9
        have HB9N : Hid (∀ j, Below W6.heap.size W6 (w9.drewN j)) := fun j => hb9.trans ((bdN w9 j).mono hb9.size)
        have hcv0 : (convert 28 9 (.slice (some ⟨w9.heap.size, 0, none⟩) 1 1)).run Try.prog (w9.alloc (.cells #[.int .u8 (zn : Int)] 5)) = .ok (.string yz) (w9.alloc (.cells #[.int .u8 (zn : Int)] 5)) := HCV.out w9
        have hcv1 : (convert 28 9 (.slice (some ⟨w9.heap.size, 0, none⟩) 1 1)).run Try.prog (w9.alloc (.cells #[.int .u8 (zn : Int)] 5)).drew = .ok (.string yz) (w9.alloc (.cells #[.int .u8 (zn : Int)] 5)).drew := HCV.out w9.drew
        have HBA9 : Hid (Below W6.heap.size W6 (w9.alloc (.cells #[.int .u8 (zn : Int)] 5)).drew) := (hb9.alloc hb9.size _).drew
        clear z0 z1 z4 g1 g2 g3 g4 g5 g6 hb8
        go_wp2_with fail
        apply wp_merge
        · go_region_held_law (fun W => W.cell? ⟨wr.heap.size, 4, none⟩ = some (.string bl) ∧ W.cell? ⟨bb, off + k * 7 + 3, none⟩ = some (.int .i64 fb)) (first | exact ⟨(HX.out _ (HB9N.out _)).2.2.2.1, (HX.out _ (HB9N.out _)).2.2.2.2.2.2.1⟩ | exact ⟨(HX.out _ HBA9.out).2.2.2.1, (HX.out _ HBA9.out).2.2.2.2.2.2.1⟩ | go_keep) (first | (go_at_call 8; refine (hmb _).mono ?_; rintro e w8 ⟨rfl, rfl⟩))
          all_goals exact ⟨rfl, rfl⟩
        refine with_world (R := fun W => Exit.then _ _ _ _ W) (Q := fun W => Below W6.heap.size W6 W) _ HBA9.out ?_
        intro w10 hb10
        obtain ⟨hb11, _, _, _, _, _, _, _, g5, g6⟩ := HX.out _ hb10
        have hbs2 : 40 ≤ s2.size ∧ s2.size ≤ 4136 := by have := HS2.out; omega
        clear hcv0 hcv1 hb7 hb9 hb10 hmb hma hidx hxor hcat1 hcat2 q1 q2 q3 hXu
        cases fcut with
        | false =>
          obtain ⟨s4, hs4⟩ : ∃ s4, s2 ++ fm = s4 := ⟨_, rfl⟩
          have hs4z : s4.size ≤ 281474976710656 := by rw [← hs4, ByteArray.size_append]; omega
          have hcat3 : ∀ W, (Op.stringOp .add s2 fm).run Try.prog W = .ok (.string s4) W := fun W => by
            rw [run_string_add_sum (P := Try.prog) (w := W) _ _ (by omega), hs4]
          go_wp2_with fail
          refine (HOP.out (1 + r3) _ s4 (by omega) (by omega) hc2 hs4z _ hb11).mono ?_
          rintro e w12 ⟨rfl, hb12⟩
          go_wp2_with fail
          refine (HOP.out (1 + r3) _ st (by omega) (by omega) hc2 (by omega) _ hb12).mono ?_
          rintro e w13 ⟨rfl, hb13⟩
          go_wp2_with fail
          go_roundg (gk - 1)
          case measure => have := HKG.out; omega
          case rel => exact ⟨k + 1, by have := HKG.out; omega, by go_num, hb13⟩
        | true =>
          have q4 : IntKind.i64.wrap ((s2.size : Int) - 1) = ((s2.size - 1 : Nat) : Int) := by rw [IntKind.wrap_i64]; omega
          have q5 : (0 : Int) ≤ ((s2.size - 1 : Nat) : Int) ∧ ((s2.size - 1 : Nat) : Int) ≤ (s2.size : Int) := by omega
          obtain ⟨s4, hs4⟩ : ∃ s4, s2.extract 0 (s2.size - 1) ++ fm = s4 := ⟨_, rfl⟩
          have hs4z : s4.size ≤ 281474976710656 := by rw [← hs4, ByteArray.size_append, ByteArray.size_extract]; omega
          have hcat3 : ∀ W, (Op.stringOp .add (s2.extract 0 (s2.size - 1)) fm).run Try.prog W = .ok (.string s4) W := fun W => by
            rw [run_string_add_sum (P := Try.prog) (w := W) _ _ (by rw [ByteArray.size_extract]; omega), hs4]
          go_wp2_with fail
          refine (HOP.out (1 + r3) _ s4 (by omega) (by omega) hc2 hs4z _ hb11).mono ?_
          rintro e w12 ⟨rfl, hb12⟩
          go_wp2_with fail
          refine (HOP.out (1 + r3) _ st (by omega) (by omega) hc2 (by omega) _ hb12).mono ?_
          rintro e w13 ⟨rfl, hb13⟩
          go_wp2_with fail
          go_roundg (gk - 1)
          case measure => have := HKG.out; omega
          case rel => exact ⟨k + 1, by have := HKG.out; omega, by go_num, hb13⟩
    · obtain rfl : k = n2 := by omega
      have hltI : ¬ (k : Int) < (k : Int) := by omega
      go_wp2_with fail
      refine (HBA.out _ HB.out).mono ?_
      rintro e w6 ⟨rfl, hb6⟩
      go_wp2_with fail
      refine (HOP.out 1 ⟨#[110, 111, 98, 111, 100, 121]⟩ { data := #[] } (by omega) (by omega) (by decide) (by decide) _ hb6).mono ?_
      rintro e w7 ⟨rfl, hb7⟩
      go_wp2
      go_ret
      exact ⟨rfl, HB5.out.trans (hb7.mono HB5.out.size)⟩
end Go.Proofs.Ytaejapdbghbgeaa.Se
