import Derived.Test.YtaejapdbghbgeaaSgA
namespace Go.Proofs.Ytaejapdbghbgeaa.Se
open Go.RowKit Go.Lib Go.Deep

set_option maxRecDepth 20000 in
set_option maxHeartbeats 8000000 in
theorem tags_walk (a : Option Addr) (n cap : Nat) (ss : List ByteArray) (w : World) (hn : ss.length = n) (hn2 : n ≤ 1048576) (hz : ∀ s ∈ ss, s.size ≤ 1048576) (ha : ∀ (i : Nat) s, ss[i]? = some s → ∃ b off, a = some ⟨b, off, none⟩ ∧ b < w.heap.size ∧ w.cell? ⟨b, off + i, none⟩ = some (.string s)) :
    Calls Try.prog 3 #[.slice a n cap] w fun e w' => e = .returned (.bool true) ∧ Below w.heap.size w w' := by
  have hN := newIdeal_any w (.slice none 0 0) [] (SeeR.nil w) (by intro r hr; cases hr) (by simp)
  have HA : Hid (∀ (i : Nat) s, ss[i]? = some s → s.size ≤ 1048576 ∧ ∃ b off, a = some ⟨b, off, none⟩ ∧ b < w.heap.size ∧ w.cell? ⟨b, off + i, none⟩ = some (.string s)) := fun i s hs => ⟨hz s (List.mem_of_getElem? hs), ha i s hs⟩
  have HN : Hid (ss.length = n) := hn
  clear ha hn hz
  go_enter Try.func3, Try.ntmps3
  go_wp2_with fail
  refine hN.mono ?_
  rintro e w2 ⟨_, h2, hb⟩
  obtain ⟨pb, F0, rfl, hI, hF⟩ := h2 rfl
  have HI0 : Hid (Idl w2 pb F0 [] ∧ (∀ k, k ∈ pb :: F0 → w.heap.size ≤ k) ∧ Below w.heap.size w w2) := ⟨hI, hF, hb⟩
  have hnum := fun W x => snum_any x W
  clear hI hF hb h2 hN
  go_wp2_with fail
  refine (hnum _ _).mono ?_
  rintro e w3 ⟨rfl, rfl⟩
  go_wp2_with fail
  go_loopg [5, 6] (n + 1) (fun gk u i wr => ∃ (k : Nat) (R : List Row) (F : List Nat) (av : Option Addr) (cv : Nat), k + gk = n + 1 ∧ i = .int .i64 (k : Int) ∧ u = .slice av R.length cv ∧ Hid (R.length ≤ k) ∧ Hid (wr.ownsRow w.heap.size 9 1 (.slice av R.length cv) R.length (sCells (tagsG R))) ∧ Hid (Idl wr pb F R) ∧ Hid (∀ x, x ∈ pb :: F → w.heap.size ≤ x) ∧ Hid (Below w.heap.size w wr))
  case atStart => exact ⟨0, [], F0, none, 0, by omega, rfl, rfl, Nat.le_refl 0, ⟨rfl, .inl ⟨rfl, rfl⟩⟩, HI0.out.1, HI0.out.2.1, HI0.out.2.2⟩
  case round =>
    obtain ⟨k, R, F, av, cv, hk, rfl, rfl, HR, HO, HI, HF, HB⟩ := hrel
    have HK : Hid (k + gk = n + 1) := hk
    have hkn : k ≤ n + 1 := by omega
    clear hk HI0
    have hmk' : ∀ W, (Instr.makeSlice 28 (.int .i64 40) (.int .i64 40)).run Try.prog W = .ok (.slice (some ⟨W.heap.size, 0, none⟩) 40 40) (W.alloc (.cells (zB 40) 5)) := smake 40 (by omega)
    have hcv : ∀ j, (convert 28 9 (.slice (some ⟨wr.heap.size, 0, none⟩) 40 40)).run Try.prog ((wr.alloc (.cells (zB 40) 5)).drewN j) = .ok (.string (zS 40)) ((wr.alloc (.cells (zB 40) 5)).drewN j) := fun j => zconv 40 _ _ (heap_new wr _)
    have hcv0 := zconv 40 _ _ (heap_new wr (.cells (zB 40) 5))
    have hcv1 : (convert 28 9 (.slice (some ⟨wr.heap.size, 0, none⟩) 40 40)).run Try.prog (wr.alloc (.cells (zB 40) 5)).drew = .ok (.string (zS 40)) (wr.alloc (.cells (zB 40) 5)).drew := zconv 40 _ _ (heap_new wr _)
    by_cases hle : k ≤ n
    · have hleI : (k : Int) ≤ (n : Int) := by omega
      obtain ⟨d, hd⟩ : ∃ d, d = if h : k < ss.length then ss[k] else ⟨#[110, 111, 116, 104, 105, 110, 103, 32, 119, 97, 115, 32, 100, 114, 97, 119, 110]⟩ := ⟨_, rfl⟩
      have hds : d.size ≤ 1048576 := by
        rw [hd]
        split
        · rename_i h
          exact (HA.out k _ (List.getElem?_eq_getElem h)).1
        · decide
      obtain ⟨m11, hm11⟩ : ∃ m11 : Nat, m11 = d.size % 11 := ⟨_, rfl⟩
      have hmd := fun W => smod_any (d.size : Int) 11 (by omega) (by omega) W
      rw [show ((d.size : Int) % 11) = (m11 : Int) by omega] at hmd
      obtain ⟨z, hz⟩ : ∃ z : Nat, z = m11 % (d.size + 1) := ⟨_, rfl⟩
      have hz1 : z ≤ d.size ∧ z ≤ 10 := ⟨by have := Nat.mod_lt m11 (show 0 < d.size + 1 by omega); omega, by have := Nat.mod_le m11 (d.size + 1); omega⟩
      have r1 : IntKind.i64.wrap ((d.size : Int) + 1) = (d.size : Int) + 1 := by rw [IntKind.wrap_i64]; omega
      have r0 : ¬ (d.size : Int) + 1 = 0 := by omega
      have r2 : ((m11 : Int)).tmod ((d.size : Int) + 1) = (z : Int) := by
        rw [Int.tmod_eq_emod_of_nonneg (by omega), hz]
        rw [Int.natCast_emod]
        rfl
      have r3 : IntKind.i64.wrap (z : Int) = (z : Int) := by rw [IntKind.wrap_i64]; omega
      obtain ⟨D40, hD⟩ : ∃ D40, d ++ zS 40 = D40 := ⟨_, rfl⟩
      have hDs : D40.size = d.size + 40 := by rw [← hD, ByteArray.size_append, zS_size]
      have hcat : ∀ W, (Op.stringOp .add d (zS 40)).run Try.prog W = .ok (.string D40) W := fun W => by
        rw [run_string_add_sum (P := Try.prog) (w := W) d (zS 40) (by rw [zS_size]; omega), hD]
      have r4 : IntKind.i64.wrap (40 + (z : Int)) = ((40 + z : Nat) : Int) := by rw [IntKind.wrap_i64]; omega
      have r5 : (0 : Int) ≤ ((40 + z : Nat) : Int) ∧ ((40 + z : Nat) : Int) ≤ (D40.size : Int) := by omega
      obtain ⟨c, hc⟩ : ∃ c, D40.extract 0 (40 + z) = c := ⟨_, rfl⟩
      have HC : Hid (c.size = 40 + z) := by show _ = _; rw [← hc, ByteArray.size_extract]; omega
      clear hm11 hz
      by_cases hlt : k < n
      · have hltI : (k : Int) < (n : Int) := by omega
        obtain ⟨_, b, off, rfl, hbl, hcl⟩ := HA.out k d (by rw [hd, dif_pos (by have := HN.out; omega)]; exact List.getElem?_eq_getElem _)
        have hcw : wr.cell? ⟨b, off + k, none⟩ = some (.string d) := (HB.out.cell (p := ⟨b, off + k, none⟩) hbl).trans hcl
        clear hd hcl hbl
        go_wp2_with fail
        apply wp_merge
        · go_region_held_law (fun _ => True) (trivial) (first | (go_at_call 8; refine (hmd _).mono ?_; rintro e w5 ⟨rfl, rfl⟩))
          all_goals exact ⟨rfl, rfl⟩
        clear hmd hcv hcv0 hcv1 hmk' r0 r1 r2 r3 r4 r5 hcat hDs hcw
        have hcs : c.size = 40 + z := HC.out
        have hzle : z ≤ 10 := hz1.2
        have r6 : IntKind.i64.wrap ((c.size : Int) - 16) = ((c.size - 16 : Nat) : Int) := by rw [IntKind.wrap_i64]; omega
        have r7 : (0 : Int) ≤ ((c.size - 16 : Nat) : Int) ∧ ((c.size - 16 : Nat) : Int) ≤ (c.size : Int) := by omega
        have HT : Hid (tagS c = c.extract (c.size - 16) c.size) := by show _ = _; unfold tagS; rw [if_neg (by omega)]
        obtain ⟨tg, htg⟩ : ∃ tg, c.extract (c.size - 16) c.size = tg := ⟨_, rfl⟩
        have HTG : Hid (tagS c = tg) := HT.out.trans htg
        obtain ⟨W1, hW1⟩ : ∃ W, (wr.alloc (.cells (zB 40) 5)).drew = W := ⟨_, rfl⟩
        have hb1 : Below wr.heap.size wr W1 := by rw [← hW1]; exact ((Below.refl _ _).alloc (Nat.le_refl _) _).drew
        have HO1 : Hid (W1.ownsRow w.heap.size 9 1 (.slice av R.length cv) R.length (sCells (tagsG R))) := owns_keep HO.out (fun g hg => hb1.block g (World.ownsRow.lt HO.out g hg).2)
        have HI1 : Hid (Idl W1 pb F R) := HI.out.below hb1
        have HB1 : Hid (Below w.heap.size w W1) := HB.out.trans (hb1.mono HB.out.size)
        try rw [hW1]
        have hc40 : 40 ≤ c.size ∧ c.size ≤ 50 := by omega
        have r8 : IntKind.i64.wrap ((c.size : Int) - 40) = (z : Int) := by rw [IntKind.wrap_i64]; omega
        clear hb1 hW1 HI HO HB HT hcs hc
        generalize hRl : R.length = rl at *
        have HRl : Hid (R.length = rl) := hRl
        clear hRl
        have hrl : rl ≤ 4294967296 := by have := HR.out; omega
        go_wp2_with fail
        go_loopg [8, 9] rl (fun gk2 o j wj => ∃ k2 : Nat, k2 + gk2 = rl ∧ j = .int .i64 (k2 : Int) ∧ Hid (Below W1.heap.size W1 wj) ∧ o = .bool (((tagsG R).take k2).any fun g => decide (g = tg)))
        case atStart => exact ⟨0, by omega, rfl, Below.refl _ _, rfl⟩
        case round =>
          obtain ⟨k2, hk2, rfl, HB2, rfl⟩ := hrel
          have HK2 : Hid (k2 + gk = rl) := hk2
          have hk2' : k2 ≤ rl := by omega
          clear hk2
          by_cases hlt2 : k2 < rl
          · have hlt2I : (k2 : Int) < (rl : Int) := by omega
            obtain ⟨gt, hgt⟩ : ∃ gt, (tagsG R)[k2]? = some gt := ⟨_, List.getElem?_eq_getElem (by unfold tagsG; rw [List.length_map, HRl.out]; exact hlt2)⟩
            obtain ⟨g, cap2, hv2, hgl, hgc⟩ := own_at HO1.out (i := k2) (x := .string gt) (by unfold sCells; rw [List.getElem?_map, hgt]; rfl)
            have hgc' : wr.cell? ⟨g, k2, none⟩ = some (.string gt) := (HB2.out.cell (p := ⟨g, k2, none⟩) hgl).trans hgc
            injection hv2 with hv3 _ hv4
            subst hv3 hv4
            obtain ⟨ob, hob⟩ : ∃ ob, (((tagsG R).take k2).any fun g => decide (g = tg)) = ob := ⟨_, rfl⟩
            have HOB : Hid ((((tagsG R).take (k2 + 1)).any fun g => decide (g = tg)) = (ob || decide (gt = tg))) := by
              show _ = _
              rw [List.take_add_one, hgt, List.any_append, hob]
              simp
            have HBD : Hid (∀ j, Below W1.heap.size W1 (wr.drewN j)) := fun j => HB2.out.trans ((bdN wr j).mono HB2.out.size)
            rw [hob]
            clear hob hgt hgc
            cases ob with
            | true =>
              go_wp2_with fail
              go_quiet (fail)
              go_wp2_with fail
              go_roundg (gk - 1)
              case measure => have := HK2.out; omega
              case rel => exact ⟨k2 + 1, by have := HK2.out; omega, by go_num, HBD.out _, by rw [HOB.out]; rfl⟩
            | false =>
              by_cases hgg : gt = tg
              · subst hgg
                go_wp2_with fail
                go_quiet (fail)
                go_wp2_with fail
                go_roundg (gk - 1)
                case measure => have := HK2.out; omega
                case rel => exact ⟨k2 + 1, by have := HK2.out; omega, by go_num, HBD.out _, by rw [HOB.out]; simp⟩
              · have hne := ne_toList hgg
                go_wp2_with fail
                go_quiet (fail)
                go_wp2_with fail
                go_roundg (gk - 1)
                case measure => have := HK2.out; omega
                case rel => exact ⟨k2 + 1, by have := HK2.out; omega, by go_num, HBD.out _, by rw [HOB.out]; simp [hgg]⟩
          · obtain rfl : k2 = rl := by omega
            have hlt2I : ¬ (k2 : Int) < (k2 : Int) := by omega
            have HGV : Hid ((((tagsG R).take k2).any fun g => decide (g = tg)) = gave R c) := by
              show _ = _
              rw [gave_tags, HTG.out, List.take_of_length_le (by unfold tagsG; rw [List.length_map, HRl.out]; exact Nat.le_refl _)]
            rw [HGV.out]
            have HO2 : Hid (wr.ownsRow w.heap.size 9 1 (.slice av k2 cv) k2 (sCells (tagsG R))) := owns_keep HO1.out (fun g hg => HB2.out.block g (World.ownsRow.lt HO1.out g hg).2)
            have HI2 : Hid (Idl wr pb F R) := HI1.out.below HB2.out
            have HB3 : Hid (Below w.heap.size w wr) := HB1.out.trans (HB2.out.mono HB1.out.size)
            clear HO1 HI1 HB1 HB2 HGV HK2
            have hfr := fresh_any wr pb F R c (by omega) HI2.out
            rw [show freshB R c = !gave R c by unfold freshB; rw [decide_eq_true (by omega)]; rfl] at hfr
            have hmz := smake z (by omega)
            go_wp2_with fail
            refine hfr.mono ?_
            rintro e w5 ⟨rfl, hb5⟩
            clear hfr
            obtain ⟨W6, hW6⟩ : ∃ W, w5.alloc (.cells (zB z) 5) = W := ⟨_, rfl⟩
            have hcz : (convert 28 9 (.slice (some ⟨w5.heap.size, 0, none⟩) z z)).run Try.prog W6 = .ok (.string (zS z)) W6 := zconv z _ _ (by rw [← hW6]; exact heap_new _ _)
            have hb6 : Below wr.heap.size wr W6 := by rw [← hW6]; exact hb5.alloc hb5.size _
            have hsl := seal_any W6 pb F R 1 ⟨#[110]⟩ (zS z) c (by omega) (by rw [HRl.out]; exact hrl) (HI2.out.below hb6)
            have HB6 : Hid (Below w.heap.size w W6) := HB3.out.trans (hb6.mono HB3.out.size)
            have HO6 : Hid (W6.ownsRow w.heap.size 9 1 (.slice av k2 cv) k2 (sCells (tagsG R))) := owns_keep HO2.out (fun g hg => hb6.block g (World.ownsRow.lt HO2.out g hg).2)
            have HI6 : Hid (Idl W6 pb F R) := HI2.out.below hb6
            clear hb5 hb6 HI2 HO2 HB3
            go_wp2_with fail
            refine hsl.mono ?_
            rintro e w7 ⟨rfl, ho, F', hI', hF'⟩
            clear hsl hcz hmz hW6 r8
            have ae : askE 1 ⟨#[110]⟩ (zS z) c = 0 := by
              unfold askE
              rw [if_neg (show ¬ placeE 1 ⟨#[110]⟩ ≠ 0 by decide), if_neg (by rw [zS_size]; omega), if_neg (by rw [zS_size, HC.out]; omega)]
            have HB7 : Hid (Below w.heap.size w w7) := HB6.out.trans (ho.below HB6.out.size (fun x hx => HF.out x (List.mem_cons_of_mem _ hx)))
            have HO7 : Hid (w7.ownsRow w.heap.size 9 1 (.slice av k2 cv) k2 (sCells (tagsG R))) := own_frame HO6.out ho (fun g hg hm => HI6.out.notin HO6.out (by decide) g hg (List.mem_cons_of_mem _ hm))
            have HF7 : Hid (∀ x, x ∈ pb :: F' → w.heap.size ≤ x) := fun x hx => by
              rcases List.mem_cons.1 hx with rfl | hx
              · exact HF.out _ (List.mem_cons_self)
              · rcases hF' x hx with h | h
                · exact HF.out _ (List.mem_cons_of_mem _ h)
                · exact Nat.le_trans HB6.out.size h
            clear hF' ho HO6 HI6 HB6 HF
            cases hgv : gave R c with
            | true =>
              have e1 : sealE R 1 ⟨#[110]⟩ (zS z) c = 80 := by unfold sealE; rw [if_neg (by simp [ae]), if_pos hgv]
              have e2 : sealY R 1 ⟨#[110]⟩ (zS z) c = { data := #[] } := by unfold sealY; rw [e1]; rfl
              have e3 : sealR R 1 ⟨#[110]⟩ (zS z) c = R := by unfold sealR; rw [e1]; rfl
              rw [e1, e2]
              rw [e3] at hI'
              have HI7 : Hid (Idl w7 pb F' R) := hI'
              clear e1 e2 e3 ae hgv hI'
              go_wp2_with fail
              refine wp_region_held_drew (S := fun _ => True) (by kernel_rfl) trivial ?_
              intro _
              have hbV : Below w7.heap.size w7 w7.drew := (Below.refl _ _).drew
              revert hbV
              generalize w7.drew = V
              intro hbV
              refine wpAnyH_take (i := 0) (oi := { dst := some 84, op := .move (.tmp 10), type := _, pos := _, after := _, guard := none }) (v := .bool false) rfl (by kernel_rfl) (by kernel_rfl) (by kernel_rfl) (fun _ _ _ h => h) (Or.inl ⟨by rfl, by intro x _; go_simp⟩) trivial ?_
              (try simp only [Act.put, List.setIfInBounds_toArray, List.set_cons_zero, List.set_cons_succ])
              refine wpAnyH_take (i := 1) (oi := { dst := some 85, op := .move (.tmp 8), type := _, pos := _, after := _, guard := none }) (v := .bool true) rfl (by kernel_rfl) (by kernel_rfl) (by kernel_rfl) (fun _ _ _ h => h) (Or.inl ⟨by rfl, by intro x _; go_simp⟩) trivial ?_
              (try simp only [Act.put, List.setIfInBounds_toArray, List.set_cons_zero, List.set_cons_succ])
              refine wpAnyH_take (i := 2) (oi := { dst := some 86, op := .binOp .eql 4 (.tmp 84) (.tmp 85) 4, type := _, pos := _, after := _, guard := none }) (v := .bool false) rfl (by kernel_rfl) (by kernel_rfl) (by kernel_rfl) (fun _ _ _ h => h) (Or.inl ⟨by rfl, by intro x _; go_simp⟩) trivial ?_
              (try simp only [Act.put, List.setIfInBounds_toArray, List.set_cons_zero, List.set_cons_succ])
              refine wpAnyH_take (i := 3) (oi := { dst := some 87, op := .move (.tmp 86), type := _, pos := _, after := _, guard := none }) (v := .bool false) rfl (by kernel_rfl) (by kernel_rfl) (by kernel_rfl) (fun _ _ _ h => h) (Or.inl ⟨by rfl, by intro x _; go_simp⟩) trivial ?_
              (try simp only [Act.put, List.setIfInBounds_toArray, List.set_cons_zero, List.set_cons_succ])
              refine wpAnyH_take (i := 4) (oi := { dst := some 88, op := .move (.tmp 8), type := _, pos := _, after := _, guard := some (3, false) }) (v := .bool true) rfl (by kernel_rfl) (by kernel_rfl) (by kernel_rfl) (fun _ _ _ h => h) (Or.inl ⟨by rfl, by intro x _; go_simp⟩) trivial ?_
              (try simp only [Act.put, List.setIfInBounds_toArray, List.set_cons_zero, List.set_cons_succ])
              refine wpAnyH_take (i := 5) (oi := { dst := some 89, op := .move (.tmp 88), type := _, pos := _, after := _, guard := some (3, false) }) (v := .bool true) rfl (by kernel_rfl) (by kernel_rfl) (by kernel_rfl) (fun _ _ _ h => h) (Or.inl ⟨by rfl, by intro x _; go_simp⟩) trivial ?_
              (try simp only [Act.put, List.setIfInBounds_toArray, List.set_cons_zero, List.set_cons_succ])
              refine wpAnyH_take (i := 6) (oi := { dst := some 90, op := .move (.tmp 12), type := _, pos := _, after := _, guard := some (5, true) }) (v := .int .i64 80) rfl (by kernel_rfl) (by kernel_rfl) (by kernel_rfl) (fun _ _ _ h => h) (Or.inl ⟨by rfl, by intro x _; go_simp⟩) trivial ?_
              (try simp only [Act.put, List.setIfInBounds_toArray, List.set_cons_zero, List.set_cons_succ])
              refine wpAnyH_ready (rs := [7]) (by kernel_rfl) (by simp) ?_
              refine AllReadyH.cons (o := { dst := some 91, op := .call { callee := .value (.func 7), args := #[.tmp 90], argTypes := #[24] }, type := _, pos := _, after := _, guard := some (5, true) }) rfl (fun K hK => ?_) AllReadyH.nil
              go_simp
              refine (hnum V _).mono ?_
              rintro e W2 ⟨rfl, hWW⟩
              have hWV := hWW.symm
              clear hWW
              subst hWV
              refine hK.out _ _ trivial (fun _ => ?_)
              clear hK K
              (try simp only [Act.put, List.setIfInBounds_toArray, List.set_cons_zero, List.set_cons_succ])
              refine wpAnyH_take (i := 8) (oi := { dst := some 92, op := .binOp .neq 3 (.tmp 91) (.const (.int .i64 80)) 3, type := _, pos := _, after := _, guard := some (5, true) }) (v := .bool false) rfl (by kernel_rfl) (by kernel_rfl) (by kernel_rfl) (fun _ _ _ h => h) (Or.inl ⟨by rfl, by intro x _; go_simp⟩) trivial ?_
              (try simp only [Act.put, List.setIfInBounds_toArray, List.set_cons_zero, List.set_cons_succ])
              refine wpAnyH_take (i := 9) (oi := { dst := some 93, op := .move (.tmp 92), type := _, pos := _, after := _, guard := some (5, true) }) (v := .bool false) rfl (by kernel_rfl) (by kernel_rfl) (by kernel_rfl) (fun _ _ _ h => h) (Or.inl ⟨by rfl, by intro x _; go_simp⟩) trivial ?_
              (try simp only [Act.put, List.setIfInBounds_toArray, List.set_cons_zero, List.set_cons_succ])
              refine wpAnyH_take (i := 10) (oi := { dst := some 94, op := .move (.tmp 11), type := _, pos := _, after := _, guard := some (9, false) }) (v := .string { data := #[] }) rfl (by kernel_rfl) (by kernel_rfl) (by kernel_rfl) (fun _ _ _ h => h) (Or.inl ⟨by rfl, by intro x _; go_simp⟩) trivial ?_
              (try simp only [Act.put, List.setIfInBounds_toArray, List.set_cons_zero, List.set_cons_succ])
              refine wpAnyH_take (i := 11) (oi := { dst := some 95, op := .binOp .neq 9 (.tmp 94) (.const (.string { data := #[] })) 9, type := _, pos := _, after := _, guard := some (9, false) }) (v := .bool false) rfl (by kernel_rfl) (by kernel_rfl) (by kernel_rfl) (fun _ _ _ h => h) (Or.inl ⟨by rfl, by intro x _; go_simp⟩) trivial ?_
              (try simp only [Act.put, List.setIfInBounds_toArray, List.set_cons_zero, List.set_cons_succ])
              refine wpAnyH_take (i := 12) (oi := { dst := some 96, op := .pick (.tmp 93) (.const (.bool true)) (.tmp 95), type := _, pos := _, after := _, guard := some (5, true) }) (v := .bool false) rfl (by kernel_rfl) (by kernel_rfl) (by kernel_rfl) (fun _ _ _ h => h) (Or.inl ⟨by rfl, by intro x _; go_simp⟩) trivial ?_
              (try simp only [Act.put, List.setIfInBounds_toArray, List.set_cons_zero, List.set_cons_succ])
              refine wpAnyH_take (i := 13) (oi := { dst := some 97, op := .pick (.tmp 89) (.tmp 96) (.const (.bool false)), type := _, pos := _, after := _, guard := some (3, false) }) (v := .bool false) rfl (by kernel_rfl) (by kernel_rfl) (by kernel_rfl) (fun _ _ _ h => h) (Or.inl ⟨by rfl, by intro x _; go_simp⟩) trivial ?_
              (try simp only [Act.put, List.setIfInBounds_toArray, List.set_cons_zero, List.set_cons_succ])
              refine wpAnyH_take (i := 14) (oi := { dst := some 98, op := .pick (.tmp 87) (.const (.bool true)) (.tmp 97), type := _, pos := _, after := _, guard := none }) (v := .bool false) rfl (by kernel_rfl) (by kernel_rfl) (by kernel_rfl) (fun _ _ _ h => h) (Or.inl ⟨by rfl, by intro x _; go_simp⟩) trivial ?_
              (try simp only [Act.put, List.setIfInBounds_toArray, List.set_cons_zero, List.set_cons_succ])
              refine wpAnyH_take (i := 15) (oi := { dst := some 99, op := .move (.tmp 98), type := _, pos := _, after := _, guard := none }) (v := .bool false) rfl (by kernel_rfl) (by kernel_rfl) (by kernel_rfl) (fun _ _ _ h => h) (Or.inl ⟨by rfl, by intro x _; go_simp⟩) trivial ?_
              (try simp only [Act.put, List.setIfInBounds_toArray, List.set_cons_zero, List.set_cons_succ])
              refine wpAnyH_take (i := 16) (oi := { dst := some 100, op := .move (.tmp 8), type := _, pos := _, after := _, guard := some (15, false) }) (v := .bool true) rfl (by kernel_rfl) (by kernel_rfl) (by kernel_rfl) (fun _ _ _ h => h) (Or.inl ⟨by rfl, by intro x _; go_simp⟩) trivial ?_
              (try simp only [Act.put, List.setIfInBounds_toArray, List.set_cons_zero, List.set_cons_succ])
              refine wpAnyH_take (i := 17) (oi := { dst := some 101, op := .unOp .not 4 (.tmp 100), type := _, pos := _, after := _, guard := some (15, false) }) (v := .bool false) rfl (by kernel_rfl) (by kernel_rfl) (by kernel_rfl) (fun _ _ _ h => h) (Or.inl ⟨by rfl, by intro x _; go_simp⟩) trivial ?_
              (try simp only [Act.put, List.setIfInBounds_toArray, List.set_cons_zero, List.set_cons_succ])
              refine wpAnyH_take (i := 18) (oi := { dst := some 102, op := .move (.tmp 101), type := _, pos := _, after := _, guard := some (15, false) }) (v := .bool false) rfl (by kernel_rfl) (by kernel_rfl) (by kernel_rfl) (fun _ _ _ h => h) (Or.inl ⟨by rfl, by intro x _; go_simp⟩) trivial ?_
              (try simp only [Act.put, List.setIfInBounds_toArray, List.set_cons_zero, List.set_cons_succ])
              refine wpAnyH_take (i := 19) (oi := { dst := some 103, op := .move (.tmp 12), type := _, pos := _, after := _, guard := some (18, true) }) (v := undef) rfl (by kernel_rfl) (by kernel_rfl) (by kernel_rfl) (fun _ _ _ h => h) (Or.inr ⟨by rfl, rfl⟩) trivial ?_
              (try simp only [Act.put, List.setIfInBounds_toArray, List.set_cons_zero, List.set_cons_succ])
              refine wpAnyH_take (i := 20) (oi := { dst := some 104, op := .call { callee := .value (.func 7), args := #[.tmp 103], argTypes := #[24] }, type := _, pos := _, after := _, guard := some (18, true) }) (v := undef) rfl (by kernel_rfl) (by kernel_rfl) (by kernel_rfl) (fun _ _ _ h => h) (Or.inr ⟨by rfl, rfl⟩) trivial ?_
              (try simp only [Act.put, List.setIfInBounds_toArray, List.set_cons_zero, List.set_cons_succ])
              refine wpAnyH_take (i := 21) (oi := { dst := some 105, op := .binOp .neq 3 (.tmp 104) (.const (.int .i64 0)) 3, type := _, pos := _, after := _, guard := some (18, true) }) (v := undef) rfl (by kernel_rfl) (by kernel_rfl) (by kernel_rfl) (fun _ _ _ h => h) (Or.inr ⟨by rfl, rfl⟩) trivial ?_
              (try simp only [Act.put, List.setIfInBounds_toArray, List.set_cons_zero, List.set_cons_succ])
              refine wpAnyH_take (i := 22) (oi := { dst := some 106, op := .move (.tmp 105), type := _, pos := _, after := _, guard := some (18, true) }) (v := undef) rfl (by kernel_rfl) (by kernel_rfl) (by kernel_rfl) (fun _ _ _ h => h) (Or.inr ⟨by rfl, rfl⟩) trivial ?_
              (try simp only [Act.put, List.setIfInBounds_toArray, List.set_cons_zero, List.set_cons_succ])
              refine wpAnyH_take (i := 23) (oi := { dst := some 107, op := .move (.tmp 11), type := _, pos := _, after := _, guard := some (22, false) }) (v := undef) rfl (by kernel_rfl) (by kernel_rfl) (by kernel_rfl) (fun _ _ _ h => h) (Or.inr ⟨by rfl, rfl⟩) trivial ?_
              (try simp only [Act.put, List.setIfInBounds_toArray, List.set_cons_zero, List.set_cons_succ])
              refine wpAnyH_take (i := 24) (oi := { dst := some 108, op := .move (.tmp 7), type := _, pos := _, after := _, guard := some (22, false) }) (v := undef) rfl (by kernel_rfl) (by kernel_rfl) (by kernel_rfl) (fun _ _ _ h => h) (Or.inr ⟨by rfl, rfl⟩) trivial ?_
              (try simp only [Act.put, List.setIfInBounds_toArray, List.set_cons_zero, List.set_cons_succ])
              refine wpAnyH_take (i := 25) (oi := { dst := some 109, op := .binOp .neq 9 (.tmp 107) (.tmp 108) 9, type := _, pos := _, after := _, guard := some (22, false) }) (v := undef) rfl (by kernel_rfl) (by kernel_rfl) (by kernel_rfl) (fun _ _ _ h => h) (Or.inr ⟨by rfl, rfl⟩) trivial ?_
              (try simp only [Act.put, List.setIfInBounds_toArray, List.set_cons_zero, List.set_cons_succ])
              refine wpAnyH_take (i := 26) (oi := { dst := some 110, op := .pick (.tmp 106) (.const (.bool true)) (.tmp 109), type := _, pos := _, after := _, guard := some (18, true) }) (v := undef) rfl (by kernel_rfl) (by kernel_rfl) (by kernel_rfl) (fun _ _ _ h => h) (Or.inr ⟨by rfl, rfl⟩) trivial ?_
              (try simp only [Act.put, List.setIfInBounds_toArray, List.set_cons_zero, List.set_cons_succ])
              refine wpAnyH_take (i := 27) (oi := { dst := some 111, op := .move (.tmp 110), type := _, pos := _, after := _, guard := some (18, true) }) (v := undef) rfl (by kernel_rfl) (by kernel_rfl) (by kernel_rfl) (fun _ _ _ h => h) (Or.inr ⟨by rfl, rfl⟩) trivial ?_
              (try simp only [Act.put, List.setIfInBounds_toArray, List.set_cons_zero, List.set_cons_succ])
              refine wpAnyH_take (i := 28) (oi := { dst := some 112, op := .move (.tmp 11), type := _, pos := _, after := _, guard := some (27, false) }) (v := undef) rfl (by kernel_rfl) (by kernel_rfl) (by kernel_rfl) (fun _ _ _ h => h) (Or.inr ⟨by rfl, rfl⟩) trivial ?_
              (try simp only [Act.put, List.setIfInBounds_toArray, List.set_cons_zero, List.set_cons_succ])
              refine wpAnyH_take (i := 29) (oi := { dst := some 113, op := .call { callee := .value (.func 11), args := #[.tmp 112], argTypes := #[9] }, type := _, pos := _, after := _, guard := some (27, false) }) (v := undef) rfl (by kernel_rfl) (by kernel_rfl) (by kernel_rfl) (fun _ _ _ h => h) (Or.inr ⟨by rfl, rfl⟩) trivial ?_
              (try simp only [Act.put, List.setIfInBounds_toArray, List.set_cons_zero, List.set_cons_succ])
              refine wpAnyH_take (i := 30) (oi := { dst := some 114, op := .move (.tmp 7), type := _, pos := _, after := _, guard := some (27, false) }) (v := undef) rfl (by kernel_rfl) (by kernel_rfl) (by kernel_rfl) (fun _ _ _ h => h) (Or.inr ⟨by rfl, rfl⟩) trivial ?_
              (try simp only [Act.put, List.setIfInBounds_toArray, List.set_cons_zero, List.set_cons_succ])
              refine wpAnyH_take (i := 31) (oi := { dst := some 115, op := .move (.tmp 7), type := _, pos := _, after := _, guard := some (27, false) }) (v := undef) rfl (by kernel_rfl) (by kernel_rfl) (by kernel_rfl) (fun _ _ _ h => h) (Or.inr ⟨by rfl, rfl⟩) trivial ?_
              (try simp only [Act.put, List.setIfInBounds_toArray, List.set_cons_zero, List.set_cons_succ])
              refine wpAnyH_take (i := 32) (oi := { dst := some 116, op := .call { callee := .builtin .len, args := #[.tmp 115], argTypes := #[9] }, type := _, pos := _, after := _, guard := some (27, false) }) (v := undef) rfl (by kernel_rfl) (by kernel_rfl) (by kernel_rfl) (fun _ _ _ h => h) (Or.inr ⟨by rfl, rfl⟩) trivial ?_
              (try simp only [Act.put, List.setIfInBounds_toArray, List.set_cons_zero, List.set_cons_succ])
              refine wpAnyH_take (i := 33) (oi := { dst := some 117, op := .binOp .sub 3 (.tmp 116) (.const (.int .i64 16)) 3, type := _, pos := _, after := _, guard := some (27, false) }) (v := undef) rfl (by kernel_rfl) (by kernel_rfl) (by kernel_rfl) (fun _ _ _ h => h) (Or.inr ⟨by rfl, rfl⟩) trivial ?_
              (try simp only [Act.put, List.setIfInBounds_toArray, List.set_cons_zero, List.set_cons_succ])
              refine wpAnyH_take (i := 34) (oi := { dst := some 118, op := .slice 9 (.tmp 114) (some (.tmp 117)) none none, type := _, pos := _, after := _, guard := some (27, false) }) (v := undef) rfl (by kernel_rfl) (by kernel_rfl) (by kernel_rfl) (fun _ _ _ h => h) (Or.inr ⟨by rfl, rfl⟩) trivial ?_
              (try simp only [Act.put, List.setIfInBounds_toArray, List.set_cons_zero, List.set_cons_succ])
              refine wpAnyH_take (i := 35) (oi := { dst := some 119, op := .binOp .neq 9 (.tmp 113) (.tmp 118) 9, type := _, pos := _, after := _, guard := some (27, false) }) (v := undef) rfl (by kernel_rfl) (by kernel_rfl) (by kernel_rfl) (fun _ _ _ h => h) (Or.inr ⟨by rfl, rfl⟩) trivial ?_
              (try simp only [Act.put, List.setIfInBounds_toArray, List.set_cons_zero, List.set_cons_succ])
              refine wpAnyH_take (i := 36) (oi := { dst := some 120, op := .pick (.tmp 111) (.const (.bool true)) (.tmp 119), type := _, pos := _, after := _, guard := some (18, true) }) (v := undef) rfl (by kernel_rfl) (by kernel_rfl) (by kernel_rfl) (fun _ _ _ h => h) (Or.inr ⟨by rfl, rfl⟩) trivial ?_
              (try simp only [Act.put, List.setIfInBounds_toArray, List.set_cons_zero, List.set_cons_succ])
              refine wpAnyH_take (i := 37) (oi := { dst := some 121, op := .pick (.tmp 102) (.tmp 120) (.const (.bool false)), type := _, pos := _, after := _, guard := some (15, false) }) (v := .bool false) rfl (by kernel_rfl) (by kernel_rfl) (by kernel_rfl) (fun _ _ _ h => h) (Or.inl ⟨by rfl, by intro x _; go_simp⟩) trivial ?_
              (try simp only [Act.put, List.setIfInBounds_toArray, List.set_cons_zero, List.set_cons_succ])
              refine wpAnyH_take (i := 38) (oi := { dst := some 122, op := .pick (.tmp 99) (.const (.bool true)) (.tmp 121), type := _, pos := _, after := _, guard := none }) (v := .bool false) rfl (by kernel_rfl) (by kernel_rfl) (by kernel_rfl) (fun _ _ _ h => h) (Or.inl ⟨by rfl, by intro x _; go_simp⟩) trivial ?_
              (try simp only [Act.put, List.setIfInBounds_toArray, List.set_cons_zero, List.set_cons_succ])
              refine wpAnyH_done (by kernel_rfl) ?_ _
              have HO8 : Hid (V.ownsRow w.heap.size 9 1 (.slice av k2 cv) k2 (sCells (tagsG R))) := owns_keep HO7.out (fun g hg => hbV.block g (World.ownsRow.lt HO7.out g hg).2)
              have HI8 : Hid (Idl V pb F' R) := HI7.out.below hbV
              have HB8 : Hid (Below w.heap.size w V) := HB7.out.trans (hbV.mono HB7.out.size)
              clear hbV
              go_wp2_with fail
              go_roundg (n - k)
              case measure => have := HK.out; omega
              case rel => exact ⟨k + 1, R, F', av, cv, by have := HK.out; omega, by go_num, by rw [HRl.out], by have := HR.out; have := HRl.out; show _ ≤ _; omega, by show World.ownsRow _ _ _ _ _ _ _; rw [HRl.out]; exact HO8.out, HI8.out, HF7.out, HB8.out⟩
            | false =>
              have e1 : sealE R 1 ⟨#[110]⟩ (zS z) c = 0 := by unfold sealE; rw [if_neg (by simp [ae]), if_neg (by simp [hgv])]
              have e2 : sealY R 1 ⟨#[110]⟩ (zS z) c = c := by unfold sealY; rw [if_pos e1]
              have e3 : sealR R 1 ⟨#[110]⟩ (zS z) c = R ++ [⟨1, ⟨#[110]⟩, c, zS z⟩] := by unfold sealR; rw [if_pos e1]
              rw [e1, e2]
              rw [e3] at hI'
              have HI7 : Hid (Idl w7 pb F' (R ++ [⟨1, ⟨#[110]⟩, c, zS z⟩])) := hI'
              clear e1 e2 e3 ae hgv hI'
              have htag := fun W => tag_any c W (by omega)
              rw [HTG.out] at htag
              obtain ⟨i0, hi, hz0, hz1', hz2⟩ := info_parts infoStr
              go_wp2_with fail
              refine wp_region_held_drew (S := fun _ => True) (by kernel_rfl) trivial ?_
              intro _
              have hbV : Below w7.heap.size w7 w7.drew := (Below.refl _ _).drew
              revert hbV
              generalize w7.drew = V
              intro hbV
              refine wpAnyH_take (i := 0) (oi := { dst := some 84, op := .move (.tmp 10), type := _, pos := _, after := _, guard := none }) (v := .bool true) rfl (by kernel_rfl) (by kernel_rfl) (by kernel_rfl) (fun _ _ _ h => h) (Or.inl ⟨by rfl, by intro x _; go_simp⟩) trivial ?_
              (try simp only [Act.put, List.setIfInBounds_toArray, List.set_cons_zero, List.set_cons_succ])
              refine wpAnyH_take (i := 1) (oi := { dst := some 85, op := .move (.tmp 8), type := _, pos := _, after := _, guard := none }) (v := .bool false) rfl (by kernel_rfl) (by kernel_rfl) (by kernel_rfl) (fun _ _ _ h => h) (Or.inl ⟨by rfl, by intro x _; go_simp⟩) trivial ?_
              (try simp only [Act.put, List.setIfInBounds_toArray, List.set_cons_zero, List.set_cons_succ])
              refine wpAnyH_take (i := 2) (oi := { dst := some 86, op := .binOp .eql 4 (.tmp 84) (.tmp 85) 4, type := _, pos := _, after := _, guard := none }) (v := .bool false) rfl (by kernel_rfl) (by kernel_rfl) (by kernel_rfl) (fun _ _ _ h => h) (Or.inl ⟨by rfl, by intro x _; go_simp⟩) trivial ?_
              (try simp only [Act.put, List.setIfInBounds_toArray, List.set_cons_zero, List.set_cons_succ])
              refine wpAnyH_take (i := 3) (oi := { dst := some 87, op := .move (.tmp 86), type := _, pos := _, after := _, guard := none }) (v := .bool false) rfl (by kernel_rfl) (by kernel_rfl) (by kernel_rfl) (fun _ _ _ h => h) (Or.inl ⟨by rfl, by intro x _; go_simp⟩) trivial ?_
              (try simp only [Act.put, List.setIfInBounds_toArray, List.set_cons_zero, List.set_cons_succ])
              refine wpAnyH_take (i := 4) (oi := { dst := some 88, op := .move (.tmp 8), type := _, pos := _, after := _, guard := some (3, false) }) (v := .bool false) rfl (by kernel_rfl) (by kernel_rfl) (by kernel_rfl) (fun _ _ _ h => h) (Or.inl ⟨by rfl, by intro x _; go_simp⟩) trivial ?_
              (try simp only [Act.put, List.setIfInBounds_toArray, List.set_cons_zero, List.set_cons_succ])
              refine wpAnyH_take (i := 5) (oi := { dst := some 89, op := .move (.tmp 88), type := _, pos := _, after := _, guard := some (3, false) }) (v := .bool false) rfl (by kernel_rfl) (by kernel_rfl) (by kernel_rfl) (fun _ _ _ h => h) (Or.inl ⟨by rfl, by intro x _; go_simp⟩) trivial ?_
              (try simp only [Act.put, List.setIfInBounds_toArray, List.set_cons_zero, List.set_cons_succ])
              refine wpAnyH_take (i := 6) (oi := { dst := some 90, op := .move (.tmp 12), type := _, pos := _, after := _, guard := some (5, true) }) (v := undef) rfl (by kernel_rfl) (by kernel_rfl) (by kernel_rfl) (fun _ _ _ h => h) (Or.inr ⟨by rfl, rfl⟩) trivial ?_
              (try simp only [Act.put, List.setIfInBounds_toArray, List.set_cons_zero, List.set_cons_succ])
              refine wpAnyH_take (i := 7) (oi := { dst := some 91, op := .call { callee := .value (.func 7), args := #[.tmp 90], argTypes := #[24] }, type := _, pos := _, after := _, guard := some (5, true) }) (v := undef) rfl (by kernel_rfl) (by kernel_rfl) (by kernel_rfl) (fun _ _ _ h => h) (Or.inr ⟨by rfl, rfl⟩) trivial ?_
              (try simp only [Act.put, List.setIfInBounds_toArray, List.set_cons_zero, List.set_cons_succ])
              refine wpAnyH_take (i := 8) (oi := { dst := some 92, op := .binOp .neq 3 (.tmp 91) (.const (.int .i64 80)) 3, type := _, pos := _, after := _, guard := some (5, true) }) (v := undef) rfl (by kernel_rfl) (by kernel_rfl) (by kernel_rfl) (fun _ _ _ h => h) (Or.inr ⟨by rfl, rfl⟩) trivial ?_
              (try simp only [Act.put, List.setIfInBounds_toArray, List.set_cons_zero, List.set_cons_succ])
              refine wpAnyH_take (i := 9) (oi := { dst := some 93, op := .move (.tmp 92), type := _, pos := _, after := _, guard := some (5, true) }) (v := undef) rfl (by kernel_rfl) (by kernel_rfl) (by kernel_rfl) (fun _ _ _ h => h) (Or.inr ⟨by rfl, rfl⟩) trivial ?_
              (try simp only [Act.put, List.setIfInBounds_toArray, List.set_cons_zero, List.set_cons_succ])
              refine wpAnyH_take (i := 10) (oi := { dst := some 94, op := .move (.tmp 11), type := _, pos := _, after := _, guard := some (9, false) }) (v := undef) rfl (by kernel_rfl) (by kernel_rfl) (by kernel_rfl) (fun _ _ _ h => h) (Or.inr ⟨by rfl, rfl⟩) trivial ?_
              (try simp only [Act.put, List.setIfInBounds_toArray, List.set_cons_zero, List.set_cons_succ])
              refine wpAnyH_take (i := 11) (oi := { dst := some 95, op := .binOp .neq 9 (.tmp 94) (.const (.string { data := #[] })) 9, type := _, pos := _, after := _, guard := some (9, false) }) (v := undef) rfl (by kernel_rfl) (by kernel_rfl) (by kernel_rfl) (fun _ _ _ h => h) (Or.inr ⟨by rfl, rfl⟩) trivial ?_
              (try simp only [Act.put, List.setIfInBounds_toArray, List.set_cons_zero, List.set_cons_succ])
              refine wpAnyH_take (i := 12) (oi := { dst := some 96, op := .pick (.tmp 93) (.const (.bool true)) (.tmp 95), type := _, pos := _, after := _, guard := some (5, true) }) (v := undef) rfl (by kernel_rfl) (by kernel_rfl) (by kernel_rfl) (fun _ _ _ h => h) (Or.inr ⟨by rfl, rfl⟩) trivial ?_
              (try simp only [Act.put, List.setIfInBounds_toArray, List.set_cons_zero, List.set_cons_succ])
              refine wpAnyH_take (i := 13) (oi := { dst := some 97, op := .pick (.tmp 89) (.tmp 96) (.const (.bool false)), type := _, pos := _, after := _, guard := some (3, false) }) (v := .bool false) rfl (by kernel_rfl) (by kernel_rfl) (by kernel_rfl) (fun _ _ _ h => h) (Or.inl ⟨by rfl, by intro x _; go_simp⟩) trivial ?_
              (try simp only [Act.put, List.setIfInBounds_toArray, List.set_cons_zero, List.set_cons_succ])
              refine wpAnyH_take (i := 14) (oi := { dst := some 98, op := .pick (.tmp 87) (.const (.bool true)) (.tmp 97), type := _, pos := _, after := _, guard := none }) (v := .bool false) rfl (by kernel_rfl) (by kernel_rfl) (by kernel_rfl) (fun _ _ _ h => h) (Or.inl ⟨by rfl, by intro x _; go_simp⟩) trivial ?_
              (try simp only [Act.put, List.setIfInBounds_toArray, List.set_cons_zero, List.set_cons_succ])
              refine wpAnyH_take (i := 15) (oi := { dst := some 99, op := .move (.tmp 98), type := _, pos := _, after := _, guard := none }) (v := .bool false) rfl (by kernel_rfl) (by kernel_rfl) (by kernel_rfl) (fun _ _ _ h => h) (Or.inl ⟨by rfl, by intro x _; go_simp⟩) trivial ?_
              (try simp only [Act.put, List.setIfInBounds_toArray, List.set_cons_zero, List.set_cons_succ])
              refine wpAnyH_take (i := 16) (oi := { dst := some 100, op := .move (.tmp 8), type := _, pos := _, after := _, guard := some (15, false) }) (v := .bool false) rfl (by kernel_rfl) (by kernel_rfl) (by kernel_rfl) (fun _ _ _ h => h) (Or.inl ⟨by rfl, by intro x _; go_simp⟩) trivial ?_
              (try simp only [Act.put, List.setIfInBounds_toArray, List.set_cons_zero, List.set_cons_succ])
              refine wpAnyH_take (i := 17) (oi := { dst := some 101, op := .unOp .not 4 (.tmp 100), type := _, pos := _, after := _, guard := some (15, false) }) (v := .bool true) rfl (by kernel_rfl) (by kernel_rfl) (by kernel_rfl) (fun _ _ _ h => h) (Or.inl ⟨by rfl, by intro x _; go_simp⟩) trivial ?_
              (try simp only [Act.put, List.setIfInBounds_toArray, List.set_cons_zero, List.set_cons_succ])
              refine wpAnyH_take (i := 18) (oi := { dst := some 102, op := .move (.tmp 101), type := _, pos := _, after := _, guard := some (15, false) }) (v := .bool true) rfl (by kernel_rfl) (by kernel_rfl) (by kernel_rfl) (fun _ _ _ h => h) (Or.inl ⟨by rfl, by intro x _; go_simp⟩) trivial ?_
              (try simp only [Act.put, List.setIfInBounds_toArray, List.set_cons_zero, List.set_cons_succ])
              refine wpAnyH_take (i := 19) (oi := { dst := some 103, op := .move (.tmp 12), type := _, pos := _, after := _, guard := some (18, true) }) (v := .int .i64 0) rfl (by kernel_rfl) (by kernel_rfl) (by kernel_rfl) (fun _ _ _ h => h) (Or.inl ⟨by rfl, by intro x _; go_simp⟩) trivial ?_
              (try simp only [Act.put, List.setIfInBounds_toArray, List.set_cons_zero, List.set_cons_succ])
              refine wpAnyH_ready (rs := [20]) (by kernel_rfl) (by simp) ?_
              refine AllReadyH.cons (o := { dst := some 104, op := .call { callee := .value (.func 7), args := #[.tmp 103], argTypes := #[24] }, type := _, pos := _, after := _, guard := some (18, true) }) rfl (fun K hK => ?_) AllReadyH.nil
              go_simp
              refine (hnum V _).mono ?_
              rintro e W2 ⟨rfl, hWW⟩
              have hWV := hWW.symm
              clear hWW
              subst hWV
              refine hK.out _ _ trivial (fun _ => ?_)
              clear hK K
              (try simp only [Act.put, List.setIfInBounds_toArray, List.set_cons_zero, List.set_cons_succ])
              refine wpAnyH_take (i := 21) (oi := { dst := some 105, op := .binOp .neq 3 (.tmp 104) (.const (.int .i64 0)) 3, type := _, pos := _, after := _, guard := some (18, true) }) (v := .bool false) rfl (by kernel_rfl) (by kernel_rfl) (by kernel_rfl) (fun _ _ _ h => h) (Or.inl ⟨by rfl, by intro x _; go_simp⟩) trivial ?_
              (try simp only [Act.put, List.setIfInBounds_toArray, List.set_cons_zero, List.set_cons_succ])
              refine wpAnyH_take (i := 22) (oi := { dst := some 106, op := .move (.tmp 105), type := _, pos := _, after := _, guard := some (18, true) }) (v := .bool false) rfl (by kernel_rfl) (by kernel_rfl) (by kernel_rfl) (fun _ _ _ h => h) (Or.inl ⟨by rfl, by intro x _; go_simp⟩) trivial ?_
              (try simp only [Act.put, List.setIfInBounds_toArray, List.set_cons_zero, List.set_cons_succ])
              refine wpAnyH_take (i := 23) (oi := { dst := some 107, op := .move (.tmp 11), type := _, pos := _, after := _, guard := some (22, false) }) (v := .string c) rfl (by kernel_rfl) (by kernel_rfl) (by kernel_rfl) (fun _ _ _ h => h) (Or.inl ⟨by rfl, by intro x _; go_simp⟩) trivial ?_
              (try simp only [Act.put, List.setIfInBounds_toArray, List.set_cons_zero, List.set_cons_succ])
              refine wpAnyH_take (i := 24) (oi := { dst := some 108, op := .move (.tmp 7), type := _, pos := _, after := _, guard := some (22, false) }) (v := .string c) rfl (by kernel_rfl) (by kernel_rfl) (by kernel_rfl) (fun _ _ _ h => h) (Or.inl ⟨by rfl, by intro x _; go_simp⟩) trivial ?_
              (try simp only [Act.put, List.setIfInBounds_toArray, List.set_cons_zero, List.set_cons_succ])
              refine wpAnyH_take (i := 25) (oi := { dst := some 109, op := .binOp .neq 9 (.tmp 107) (.tmp 108) 9, type := _, pos := _, after := _, guard := some (22, false) }) (v := .bool false) rfl (by kernel_rfl) (by kernel_rfl) (by kernel_rfl) (fun _ _ _ h => h) (Or.inl ⟨by rfl, by intro x _; go_simp⟩) trivial ?_
              (try simp only [Act.put, List.setIfInBounds_toArray, List.set_cons_zero, List.set_cons_succ])
              refine wpAnyH_take (i := 26) (oi := { dst := some 110, op := .pick (.tmp 106) (.const (.bool true)) (.tmp 109), type := _, pos := _, after := _, guard := some (18, true) }) (v := .bool false) rfl (by kernel_rfl) (by kernel_rfl) (by kernel_rfl) (fun _ _ _ h => h) (Or.inl ⟨by rfl, by intro x _; go_simp⟩) trivial ?_
              (try simp only [Act.put, List.setIfInBounds_toArray, List.set_cons_zero, List.set_cons_succ])
              refine wpAnyH_take (i := 27) (oi := { dst := some 111, op := .move (.tmp 110), type := _, pos := _, after := _, guard := some (18, true) }) (v := .bool false) rfl (by kernel_rfl) (by kernel_rfl) (by kernel_rfl) (fun _ _ _ h => h) (Or.inl ⟨by rfl, by intro x _; go_simp⟩) trivial ?_
              (try simp only [Act.put, List.setIfInBounds_toArray, List.set_cons_zero, List.set_cons_succ])
              refine wpAnyH_take (i := 28) (oi := { dst := some 112, op := .move (.tmp 11), type := _, pos := _, after := _, guard := some (27, false) }) (v := .string c) rfl (by kernel_rfl) (by kernel_rfl) (by kernel_rfl) (fun _ _ _ h => h) (Or.inl ⟨by rfl, by intro x _; go_simp⟩) trivial ?_
              (try simp only [Act.put, List.setIfInBounds_toArray, List.set_cons_zero, List.set_cons_succ])
              refine wpAnyH_take (i := 30) (oi := { dst := some 114, op := .move (.tmp 7), type := _, pos := _, after := _, guard := some (27, false) }) (v := .string c) rfl (by kernel_rfl) (by kernel_rfl) (by kernel_rfl) (fun _ _ _ h => h) (Or.inl ⟨by rfl, by intro x _; go_simp⟩) trivial ?_
              (try simp only [Act.put, List.setIfInBounds_toArray, List.set_cons_zero, List.set_cons_succ])
              refine wpAnyH_take (i := 31) (oi := { dst := some 115, op := .move (.tmp 7), type := _, pos := _, after := _, guard := some (27, false) }) (v := .string c) rfl (by kernel_rfl) (by kernel_rfl) (by kernel_rfl) (fun _ _ _ h => h) (Or.inl ⟨by rfl, by intro x _; go_simp⟩) trivial ?_
              (try simp only [Act.put, List.setIfInBounds_toArray, List.set_cons_zero, List.set_cons_succ])
              refine wpAnyH_take (i := 32) (oi := { dst := some 116, op := .call { callee := .builtin .len, args := #[.tmp 115], argTypes := #[9] }, type := _, pos := _, after := _, guard := some (27, false) }) (v := .int .i64 (c.size : Int)) rfl (by kernel_rfl) (by kernel_rfl) (by kernel_rfl) (fun _ _ _ h => h) (Or.inl ⟨by rfl, by intro x _; go_simp⟩) trivial ?_
              (try simp only [Act.put, List.setIfInBounds_toArray, List.set_cons_zero, List.set_cons_succ])
              refine wpAnyH_take (i := 33) (oi := { dst := some 117, op := .binOp .sub 3 (.tmp 116) (.const (.int .i64 16)) 3, type := _, pos := _, after := _, guard := some (27, false) }) (v := .int .i64 ((c.size - 16 : Nat) : Int)) rfl (by kernel_rfl) (by kernel_rfl) (by kernel_rfl) (fun _ _ _ h => h) (Or.inl ⟨by rfl, by intro x _; go_simp⟩) trivial ?_
              (try simp only [Act.put, List.setIfInBounds_toArray, List.set_cons_zero, List.set_cons_succ])
              refine wpAnyH_take (i := 34) (oi := { dst := some 118, op := .slice 9 (.tmp 114) (some (.tmp 117)) none none, type := _, pos := _, after := _, guard := some (27, false) }) (v := .string tg) rfl (by kernel_rfl) (by kernel_rfl) (by kernel_rfl) (fun _ _ _ h => h) (Or.inl ⟨by rfl, by intro x _; go_simp⟩) trivial ?_
              (try simp only [Act.put, List.setIfInBounds_toArray, List.set_cons_zero, List.set_cons_succ])
              refine wpAnyH_ready (rs := [29]) (by kernel_rfl) (by simp) ?_
              refine AllReadyH.cons (o := { dst := some 113, op := .call { callee := .value (.func 11), args := #[.tmp 112], argTypes := #[9] }, type := _, pos := _, after := _, guard := some (27, false) }) rfl (fun K hK => ?_) AllReadyH.nil
              go_simp
              refine (htag V).mono ?_
              rintro e w8 ⟨rfl, hb8⟩
              refine hK.out _ _ trivial (fun _ => ?_)
              clear hK K
              (try simp only [Act.put, List.setIfInBounds_toArray, List.set_cons_zero, List.set_cons_succ])
              refine wpAnyH_take (i := 35) (oi := { dst := some 119, op := .binOp .neq 9 (.tmp 113) (.tmp 118) 9, type := _, pos := _, after := _, guard := some (27, false) }) (v := .bool false) rfl (by kernel_rfl) (by kernel_rfl) (by kernel_rfl) (fun _ _ _ h => h) (Or.inl ⟨by rfl, by intro x _; go_simp⟩) trivial ?_
              (try simp only [Act.put, List.setIfInBounds_toArray, List.set_cons_zero, List.set_cons_succ])
              refine wpAnyH_take (i := 36) (oi := { dst := some 120, op := .pick (.tmp 111) (.const (.bool true)) (.tmp 119), type := _, pos := _, after := _, guard := some (18, true) }) (v := .bool false) rfl (by kernel_rfl) (by kernel_rfl) (by kernel_rfl) (fun _ _ _ h => h) (Or.inl ⟨by rfl, by intro x _; go_simp⟩) trivial ?_
              (try simp only [Act.put, List.setIfInBounds_toArray, List.set_cons_zero, List.set_cons_succ])
              refine wpAnyH_take (i := 37) (oi := { dst := some 121, op := .pick (.tmp 102) (.tmp 120) (.const (.bool false)), type := _, pos := _, after := _, guard := some (15, false) }) (v := .bool false) rfl (by kernel_rfl) (by kernel_rfl) (by kernel_rfl) (fun _ _ _ h => h) (Or.inl ⟨by rfl, by intro x _; go_simp⟩) trivial ?_
              (try simp only [Act.put, List.setIfInBounds_toArray, List.set_cons_zero, List.set_cons_succ])
              refine wpAnyH_take (i := 38) (oi := { dst := some 122, op := .pick (.tmp 99) (.const (.bool true)) (.tmp 121), type := _, pos := _, after := _, guard := none }) (v := .bool false) rfl (by kernel_rfl) (by kernel_rfl) (by kernel_rfl) (fun _ _ _ h => h) (Or.inl ⟨by rfl, by intro x _; go_simp⟩) trivial ?_
              (try simp only [Act.put, List.setIfInBounds_toArray, List.set_cons_zero, List.set_cons_succ])
              refine wpAnyH_done (by kernel_rfl) ?_ _
              obtain ⟨W9, hW9⟩ : ∃ W, w8.alloc (.cells #[.string tg] 9) = W := ⟨_, rfl⟩
              have hb9 : Below w7.heap.size w7 W9 := by
                have h1 := hbV.trans (hb8.mono hbV.size)
                rw [← hW9]; exact h1.alloc h1.size _
              have HO9 : Hid (W9.ownsRow w.heap.size 9 1 (.slice av k2 cv) k2 (sCells (tagsG R))) := owns_keep HO7.out (fun g hg => hb9.block g (World.ownsRow.lt HO7.out g hg).2)
              have HI9 : Hid (Idl W9 pb F' (R ++ [⟨1, ⟨#[110]⟩, c, zS z⟩])) := HI7.out.below hb9
              have HB9 : Hid (Below w.heap.size w W9) := HB7.out.trans (hb9.mono HB7.out.size)
              have HC9 : Hid (∀ j u, ([.string tg] : List Value)[j]? = some u → W9.cell? ((⟨w8.heap.size, 0, none⟩ : Addr).add j) = some u) := fun j u hj => by rw [← hW9]; exact cells_new w8 #[.string tg] 9 j u (by simpa using hj)
              have hz9 : k2 + 1 ≤ maxLen ∧ (k2 + 1) * 16 ≤ 140737488355328 ∧ w.heap.size ≤ W9.heap.size := ⟨by unfold maxLen; omega, by omega, HB9.out.size⟩
              clear hbV hb8 hb9 HO7 HI7 HB7
              go_wp2_with (first | (at_builtin; (try rw [hW9]); refine wpList_append_own _ rfl _ _ 22 rfl w.heap.size 9 i0 _ 1 16 Try.underlying22 hi hz0 hz1' hz2 rfl (by decide) _ _ _ rfl HO9.out _ _ _ [.string tg] rfl rfl HC9.out (by simp [Value.oneCell']) hz9.1 hz9.2.1 hz9.2.2 ?_; intro v' w10 hown hgrow _) | fail)
              obtain ⟨a10, c10, rfl⟩ := own_len hown
              have HB10 : Hid (Below w.heap.size w w10) := HB9.out.trans (grown_below hgrow hz9.2.2 HO9.out)
              have HI10 : Hid (Idl w10 pb F' (R ++ [⟨1, ⟨#[110]⟩, c, zS z⟩])) := HI9.out.keep (fun x hx => hgrow.block x (HI9.out.lt x hx) (fun e => HI9.out.notin HO9.out (by decide) x e.symm hx))
              have HO10 : Hid (w10.ownsRow w.heap.size 9 1 (.slice a10 (k2 + 1) c10) (k2 + 1) (sCells (tagsG (R ++ [⟨1, ⟨#[110]⟩, c, zS z⟩])))) := by
                have e : sCells (tagsG (R ++ [⟨1, ⟨#[110]⟩, c, zS z⟩])) = sCells (tagsG R) ++ [.string tg] := by
                  unfold sCells tagsG
                  rw [List.map_append, List.map_append]
                  show _ ++ [Value.string (tagS c)] = _
                  rw [HTG.out]
                rw [e]
                exact hown
              have HL10 : Hid ((R ++ [(⟨1, ⟨#[110]⟩, c, zS z⟩ : Row)]).length = k2 + 1) := by show _ = _; rw [List.length_append, HRl.out]; rfl
              clear hown hgrow
              go_wp2_with fail
              go_roundg (n - k)
              case measure => have := HK.out; omega
              case rel => exact ⟨k + 1, R ++ [(⟨1, ⟨#[110]⟩, c, zS z⟩ : Row)], F', a10, c10, by have := HK.out; omega, by go_num, by rw [HL10.out], by have := HR.out; have := HL10.out; have := HRl.out; show _ ≤ _; omega, by show World.ownsRow _ _ _ _ _ _ _; rw [HL10.out]; exact HO10.out, HI10, HF7, HB10⟩
      · have hltI : ¬ (k : Int) < (n : Int) := by omega
        rw [dif_neg (by have := HN.out; omega)] at hd
        have HD : Hid (d = ⟨#[110, 111, 116, 104, 105, 110, 103, 32, 119, 97, 115, 32, 100, 114, 97, 119, 110]⟩) := hd
        clear hd
        go_wp2_with fail
        rw [← HD.out]
        apply wp_merge
        · go_region_held_law (fun _ => True) (trivial) (first | (go_at_call 8; refine (hmd _).mono ?_; rintro e w5 ⟨rfl, rfl⟩))
          all_goals exact ⟨rfl, rfl⟩
        clear hmd hcv hcv0 hcv1 hmk' r0 r1 r2 r3 r4 r5 hcat hDs HD
        have hcs : c.size = 40 + z := HC.out
        have hzle : z ≤ 10 := hz1.2
        have r6 : IntKind.i64.wrap ((c.size : Int) - 16) = ((c.size - 16 : Nat) : Int) := by rw [IntKind.wrap_i64]; omega
        have r7 : (0 : Int) ≤ ((c.size - 16 : Nat) : Int) ∧ ((c.size - 16 : Nat) : Int) ≤ (c.size : Int) := by omega
        have HT : Hid (tagS c = c.extract (c.size - 16) c.size) := by show _ = _; unfold tagS; rw [if_neg (by omega)]
        obtain ⟨tg, htg⟩ : ∃ tg, c.extract (c.size - 16) c.size = tg := ⟨_, rfl⟩
        have HTG : Hid (tagS c = tg) := HT.out.trans htg
        obtain ⟨W1, hW1⟩ : ∃ W, (wr.alloc (.cells (zB 40) 5)).drew = W := ⟨_, rfl⟩
        have hb1 : Below wr.heap.size wr W1 := by rw [← hW1]; exact ((Below.refl _ _).alloc (Nat.le_refl _) _).drew
        have HO1 : Hid (W1.ownsRow w.heap.size 9 1 (.slice av R.length cv) R.length (sCells (tagsG R))) := owns_keep HO.out (fun g hg => hb1.block g (World.ownsRow.lt HO.out g hg).2)
        have HI1 : Hid (Idl W1 pb F R) := HI.out.below hb1
        have HB1 : Hid (Below w.heap.size w W1) := HB.out.trans (hb1.mono HB.out.size)
        try rw [hW1]
        have hc40 : 40 ≤ c.size ∧ c.size ≤ 50 := by omega
        have r8 : IntKind.i64.wrap ((c.size : Int) - 40) = (z : Int) := by rw [IntKind.wrap_i64]; omega
        clear hb1 hW1 HI HO HB HT hcs hc
        generalize hRl : R.length = rl at *
        have HRl : Hid (R.length = rl) := hRl
        clear hRl
        have hrl : rl ≤ 4294967296 := by have := HR.out; omega
        go_wp2_with fail
        go_loopg [8, 9] rl (fun gk2 o j wj => ∃ k2 : Nat, k2 + gk2 = rl ∧ j = .int .i64 (k2 : Int) ∧ Hid (Below W1.heap.size W1 wj) ∧ o = .bool (((tagsG R).take k2).any fun g => decide (g = tg)))
        case atStart => exact ⟨0, by omega, rfl, Below.refl _ _, rfl⟩
        case round =>
          obtain ⟨k2, hk2, rfl, HB2, rfl⟩ := hrel
          have HK2 : Hid (k2 + gk = rl) := hk2
          have hk2' : k2 ≤ rl := by omega
          clear hk2
          by_cases hlt2 : k2 < rl
          · have hlt2I : (k2 : Int) < (rl : Int) := by omega
            obtain ⟨gt, hgt⟩ : ∃ gt, (tagsG R)[k2]? = some gt := ⟨_, List.getElem?_eq_getElem (by unfold tagsG; rw [List.length_map, HRl.out]; exact hlt2)⟩
            obtain ⟨g, cap2, hv2, hgl, hgc⟩ := own_at HO1.out (i := k2) (x := .string gt) (by unfold sCells; rw [List.getElem?_map, hgt]; rfl)
            have hgc' : wr.cell? ⟨g, k2, none⟩ = some (.string gt) := (HB2.out.cell (p := ⟨g, k2, none⟩) hgl).trans hgc
            injection hv2 with hv3 _ hv4
            subst hv3 hv4
            obtain ⟨ob, hob⟩ : ∃ ob, (((tagsG R).take k2).any fun g => decide (g = tg)) = ob := ⟨_, rfl⟩
            have HOB : Hid ((((tagsG R).take (k2 + 1)).any fun g => decide (g = tg)) = (ob || decide (gt = tg))) := by
              show _ = _
              rw [List.take_add_one, hgt, List.any_append, hob]
              simp
            have HBD : Hid (∀ j, Below W1.heap.size W1 (wr.drewN j)) := fun j => HB2.out.trans ((bdN wr j).mono HB2.out.size)
            rw [hob]
            clear hob hgt hgc
            cases ob with
            | true =>
              go_wp2_with fail
              go_quiet (fail)
              go_wp2_with fail
              go_roundg (gk - 1)
              case measure => have := HK2.out; omega
              case rel => exact ⟨k2 + 1, by have := HK2.out; omega, by go_num, HBD.out _, by rw [HOB.out]; rfl⟩
            | false =>
              by_cases hgg : gt = tg
              · subst hgg
                go_wp2_with fail
                go_quiet (fail)
                go_wp2_with fail
                go_roundg (gk - 1)
                case measure => have := HK2.out; omega
                case rel => exact ⟨k2 + 1, by have := HK2.out; omega, by go_num, HBD.out _, by rw [HOB.out]; simp⟩
              · have hne := ne_toList hgg
                go_wp2_with fail
                go_quiet (fail)
                go_wp2_with fail
                go_roundg (gk - 1)
                case measure => have := HK2.out; omega
                case rel => exact ⟨k2 + 1, by have := HK2.out; omega, by go_num, HBD.out _, by rw [HOB.out]; simp [hgg]⟩
          · obtain rfl : k2 = rl := by omega
            have hlt2I : ¬ (k2 : Int) < (k2 : Int) := by omega
            have HGV : Hid ((((tagsG R).take k2).any fun g => decide (g = tg)) = gave R c) := by
              show _ = _
              rw [gave_tags, HTG.out, List.take_of_length_le (by unfold tagsG; rw [List.length_map, HRl.out]; exact Nat.le_refl _)]
            rw [HGV.out]
            have HO2 : Hid (wr.ownsRow w.heap.size 9 1 (.slice av k2 cv) k2 (sCells (tagsG R))) := owns_keep HO1.out (fun g hg => HB2.out.block g (World.ownsRow.lt HO1.out g hg).2)
            have HI2 : Hid (Idl wr pb F R) := HI1.out.below HB2.out
            have HB3 : Hid (Below w.heap.size w wr) := HB1.out.trans (HB2.out.mono HB1.out.size)
            clear HO1 HI1 HB1 HB2 HGV HK2
            have hfr := fresh_any wr pb F R c (by omega) HI2.out
            rw [show freshB R c = !gave R c by unfold freshB; rw [decide_eq_true (by omega)]; rfl] at hfr
            have hmz := smake z (by omega)
            go_wp2_with fail
            refine hfr.mono ?_
            rintro e w5 ⟨rfl, hb5⟩
            clear hfr
            obtain ⟨W6, hW6⟩ : ∃ W, w5.alloc (.cells (zB z) 5) = W := ⟨_, rfl⟩
            have hcz : (convert 28 9 (.slice (some ⟨w5.heap.size, 0, none⟩) z z)).run Try.prog W6 = .ok (.string (zS z)) W6 := zconv z _ _ (by rw [← hW6]; exact heap_new _ _)
            have hb6 : Below wr.heap.size wr W6 := by rw [← hW6]; exact hb5.alloc hb5.size _
            have hsl := seal_any W6 pb F R 1 ⟨#[110]⟩ (zS z) c (by omega) (by rw [HRl.out]; exact hrl) (HI2.out.below hb6)
            have HB6 : Hid (Below w.heap.size w W6) := HB3.out.trans (hb6.mono HB3.out.size)
            have HO6 : Hid (W6.ownsRow w.heap.size 9 1 (.slice av k2 cv) k2 (sCells (tagsG R))) := owns_keep HO2.out (fun g hg => hb6.block g (World.ownsRow.lt HO2.out g hg).2)
            have HI6 : Hid (Idl W6 pb F R) := HI2.out.below hb6
            clear hb5 hb6 HI2 HO2 HB3
            go_wp2_with fail
            refine hsl.mono ?_
            rintro e w7 ⟨rfl, ho, F', hI', hF'⟩
            clear hsl hcz hmz hW6 r8
            have ae : askE 1 ⟨#[110]⟩ (zS z) c = 0 := by
              unfold askE
              rw [if_neg (show ¬ placeE 1 ⟨#[110]⟩ ≠ 0 by decide), if_neg (by rw [zS_size]; omega), if_neg (by rw [zS_size, HC.out]; omega)]
            have HB7 : Hid (Below w.heap.size w w7) := HB6.out.trans (ho.below HB6.out.size (fun x hx => HF.out x (List.mem_cons_of_mem _ hx)))
            have HO7 : Hid (w7.ownsRow w.heap.size 9 1 (.slice av k2 cv) k2 (sCells (tagsG R))) := own_frame HO6.out ho (fun g hg hm => HI6.out.notin HO6.out (by decide) g hg (List.mem_cons_of_mem _ hm))
            have HF7 : Hid (∀ x, x ∈ pb :: F' → w.heap.size ≤ x) := fun x hx => by
              rcases List.mem_cons.1 hx with rfl | hx
              · exact HF.out _ (List.mem_cons_self)
              · rcases hF' x hx with h | h
                · exact HF.out _ (List.mem_cons_of_mem _ h)
                · exact Nat.le_trans HB6.out.size h
            clear hF' ho HO6 HI6 HB6 HF
            cases hgv : gave R c with
            | true =>
              have e1 : sealE R 1 ⟨#[110]⟩ (zS z) c = 80 := by unfold sealE; rw [if_neg (by simp [ae]), if_pos hgv]
              have e2 : sealY R 1 ⟨#[110]⟩ (zS z) c = { data := #[] } := by unfold sealY; rw [e1]; rfl
              have e3 : sealR R 1 ⟨#[110]⟩ (zS z) c = R := by unfold sealR; rw [e1]; rfl
              rw [e1, e2]
              rw [e3] at hI'
              have HI7 : Hid (Idl w7 pb F' R) := hI'
              clear e1 e2 e3 ae hgv hI'
              go_wp2_with fail
              refine wp_region_held_drew (S := fun _ => True) (by kernel_rfl) trivial ?_
              intro _
              have hbV : Below w7.heap.size w7 w7.drew := (Below.refl _ _).drew
              revert hbV
              generalize w7.drew = V
              intro hbV
              refine wpAnyH_take (i := 0) (oi := { dst := some 84, op := .move (.tmp 10), type := _, pos := _, after := _, guard := none }) (v := .bool false) rfl (by kernel_rfl) (by kernel_rfl) (by kernel_rfl) (fun _ _ _ h => h) (Or.inl ⟨by rfl, by intro x _; go_simp⟩) trivial ?_
              (try simp only [Act.put, List.setIfInBounds_toArray, List.set_cons_zero, List.set_cons_succ])
              refine wpAnyH_take (i := 1) (oi := { dst := some 85, op := .move (.tmp 8), type := _, pos := _, after := _, guard := none }) (v := .bool true) rfl (by kernel_rfl) (by kernel_rfl) (by kernel_rfl) (fun _ _ _ h => h) (Or.inl ⟨by rfl, by intro x _; go_simp⟩) trivial ?_
              (try simp only [Act.put, List.setIfInBounds_toArray, List.set_cons_zero, List.set_cons_succ])
              refine wpAnyH_take (i := 2) (oi := { dst := some 86, op := .binOp .eql 4 (.tmp 84) (.tmp 85) 4, type := _, pos := _, after := _, guard := none }) (v := .bool false) rfl (by kernel_rfl) (by kernel_rfl) (by kernel_rfl) (fun _ _ _ h => h) (Or.inl ⟨by rfl, by intro x _; go_simp⟩) trivial ?_
              (try simp only [Act.put, List.setIfInBounds_toArray, List.set_cons_zero, List.set_cons_succ])
              refine wpAnyH_take (i := 3) (oi := { dst := some 87, op := .move (.tmp 86), type := _, pos := _, after := _, guard := none }) (v := .bool false) rfl (by kernel_rfl) (by kernel_rfl) (by kernel_rfl) (fun _ _ _ h => h) (Or.inl ⟨by rfl, by intro x _; go_simp⟩) trivial ?_
              (try simp only [Act.put, List.setIfInBounds_toArray, List.set_cons_zero, List.set_cons_succ])
              refine wpAnyH_take (i := 4) (oi := { dst := some 88, op := .move (.tmp 8), type := _, pos := _, after := _, guard := some (3, false) }) (v := .bool true) rfl (by kernel_rfl) (by kernel_rfl) (by kernel_rfl) (fun _ _ _ h => h) (Or.inl ⟨by rfl, by intro x _; go_simp⟩) trivial ?_
              (try simp only [Act.put, List.setIfInBounds_toArray, List.set_cons_zero, List.set_cons_succ])
              refine wpAnyH_take (i := 5) (oi := { dst := some 89, op := .move (.tmp 88), type := _, pos := _, after := _, guard := some (3, false) }) (v := .bool true) rfl (by kernel_rfl) (by kernel_rfl) (by kernel_rfl) (fun _ _ _ h => h) (Or.inl ⟨by rfl, by intro x _; go_simp⟩) trivial ?_
              (try simp only [Act.put, List.setIfInBounds_toArray, List.set_cons_zero, List.set_cons_succ])
              refine wpAnyH_take (i := 6) (oi := { dst := some 90, op := .move (.tmp 12), type := _, pos := _, after := _, guard := some (5, true) }) (v := .int .i64 80) rfl (by kernel_rfl) (by kernel_rfl) (by kernel_rfl) (fun _ _ _ h => h) (Or.inl ⟨by rfl, by intro x _; go_simp⟩) trivial ?_
              (try simp only [Act.put, List.setIfInBounds_toArray, List.set_cons_zero, List.set_cons_succ])
              refine wpAnyH_ready (rs := [7]) (by kernel_rfl) (by simp) ?_
              refine AllReadyH.cons (o := { dst := some 91, op := .call { callee := .value (.func 7), args := #[.tmp 90], argTypes := #[24] }, type := _, pos := _, after := _, guard := some (5, true) }) rfl (fun K hK => ?_) AllReadyH.nil
              go_simp
              refine (hnum V _).mono ?_
              rintro e W2 ⟨rfl, hWW⟩
              have hWV := hWW.symm
              clear hWW
              subst hWV
              refine hK.out _ _ trivial (fun _ => ?_)
              clear hK K
              (try simp only [Act.put, List.setIfInBounds_toArray, List.set_cons_zero, List.set_cons_succ])
              refine wpAnyH_take (i := 8) (oi := { dst := some 92, op := .binOp .neq 3 (.tmp 91) (.const (.int .i64 80)) 3, type := _, pos := _, after := _, guard := some (5, true) }) (v := .bool false) rfl (by kernel_rfl) (by kernel_rfl) (by kernel_rfl) (fun _ _ _ h => h) (Or.inl ⟨by rfl, by intro x _; go_simp⟩) trivial ?_
              (try simp only [Act.put, List.setIfInBounds_toArray, List.set_cons_zero, List.set_cons_succ])
              refine wpAnyH_take (i := 9) (oi := { dst := some 93, op := .move (.tmp 92), type := _, pos := _, after := _, guard := some (5, true) }) (v := .bool false) rfl (by kernel_rfl) (by kernel_rfl) (by kernel_rfl) (fun _ _ _ h => h) (Or.inl ⟨by rfl, by intro x _; go_simp⟩) trivial ?_
              (try simp only [Act.put, List.setIfInBounds_toArray, List.set_cons_zero, List.set_cons_succ])
              refine wpAnyH_take (i := 10) (oi := { dst := some 94, op := .move (.tmp 11), type := _, pos := _, after := _, guard := some (9, false) }) (v := .string { data := #[] }) rfl (by kernel_rfl) (by kernel_rfl) (by kernel_rfl) (fun _ _ _ h => h) (Or.inl ⟨by rfl, by intro x _; go_simp⟩) trivial ?_
              (try simp only [Act.put, List.setIfInBounds_toArray, List.set_cons_zero, List.set_cons_succ])
              refine wpAnyH_take (i := 11) (oi := { dst := some 95, op := .binOp .neq 9 (.tmp 94) (.const (.string { data := #[] })) 9, type := _, pos := _, after := _, guard := some (9, false) }) (v := .bool false) rfl (by kernel_rfl) (by kernel_rfl) (by kernel_rfl) (fun _ _ _ h => h) (Or.inl ⟨by rfl, by intro x _; go_simp⟩) trivial ?_
              (try simp only [Act.put, List.setIfInBounds_toArray, List.set_cons_zero, List.set_cons_succ])
              refine wpAnyH_take (i := 12) (oi := { dst := some 96, op := .pick (.tmp 93) (.const (.bool true)) (.tmp 95), type := _, pos := _, after := _, guard := some (5, true) }) (v := .bool false) rfl (by kernel_rfl) (by kernel_rfl) (by kernel_rfl) (fun _ _ _ h => h) (Or.inl ⟨by rfl, by intro x _; go_simp⟩) trivial ?_
              (try simp only [Act.put, List.setIfInBounds_toArray, List.set_cons_zero, List.set_cons_succ])
              refine wpAnyH_take (i := 13) (oi := { dst := some 97, op := .pick (.tmp 89) (.tmp 96) (.const (.bool false)), type := _, pos := _, after := _, guard := some (3, false) }) (v := .bool false) rfl (by kernel_rfl) (by kernel_rfl) (by kernel_rfl) (fun _ _ _ h => h) (Or.inl ⟨by rfl, by intro x _; go_simp⟩) trivial ?_
              (try simp only [Act.put, List.setIfInBounds_toArray, List.set_cons_zero, List.set_cons_succ])
              refine wpAnyH_take (i := 14) (oi := { dst := some 98, op := .pick (.tmp 87) (.const (.bool true)) (.tmp 97), type := _, pos := _, after := _, guard := none }) (v := .bool false) rfl (by kernel_rfl) (by kernel_rfl) (by kernel_rfl) (fun _ _ _ h => h) (Or.inl ⟨by rfl, by intro x _; go_simp⟩) trivial ?_
              (try simp only [Act.put, List.setIfInBounds_toArray, List.set_cons_zero, List.set_cons_succ])
              refine wpAnyH_take (i := 15) (oi := { dst := some 99, op := .move (.tmp 98), type := _, pos := _, after := _, guard := none }) (v := .bool false) rfl (by kernel_rfl) (by kernel_rfl) (by kernel_rfl) (fun _ _ _ h => h) (Or.inl ⟨by rfl, by intro x _; go_simp⟩) trivial ?_
              (try simp only [Act.put, List.setIfInBounds_toArray, List.set_cons_zero, List.set_cons_succ])
              refine wpAnyH_take (i := 16) (oi := { dst := some 100, op := .move (.tmp 8), type := _, pos := _, after := _, guard := some (15, false) }) (v := .bool true) rfl (by kernel_rfl) (by kernel_rfl) (by kernel_rfl) (fun _ _ _ h => h) (Or.inl ⟨by rfl, by intro x _; go_simp⟩) trivial ?_
              (try simp only [Act.put, List.setIfInBounds_toArray, List.set_cons_zero, List.set_cons_succ])
              refine wpAnyH_take (i := 17) (oi := { dst := some 101, op := .unOp .not 4 (.tmp 100), type := _, pos := _, after := _, guard := some (15, false) }) (v := .bool false) rfl (by kernel_rfl) (by kernel_rfl) (by kernel_rfl) (fun _ _ _ h => h) (Or.inl ⟨by rfl, by intro x _; go_simp⟩) trivial ?_
              (try simp only [Act.put, List.setIfInBounds_toArray, List.set_cons_zero, List.set_cons_succ])
              refine wpAnyH_take (i := 18) (oi := { dst := some 102, op := .move (.tmp 101), type := _, pos := _, after := _, guard := some (15, false) }) (v := .bool false) rfl (by kernel_rfl) (by kernel_rfl) (by kernel_rfl) (fun _ _ _ h => h) (Or.inl ⟨by rfl, by intro x _; go_simp⟩) trivial ?_
              (try simp only [Act.put, List.setIfInBounds_toArray, List.set_cons_zero, List.set_cons_succ])
              refine wpAnyH_take (i := 19) (oi := { dst := some 103, op := .move (.tmp 12), type := _, pos := _, after := _, guard := some (18, true) }) (v := undef) rfl (by kernel_rfl) (by kernel_rfl) (by kernel_rfl) (fun _ _ _ h => h) (Or.inr ⟨by rfl, rfl⟩) trivial ?_
              (try simp only [Act.put, List.setIfInBounds_toArray, List.set_cons_zero, List.set_cons_succ])
              refine wpAnyH_take (i := 20) (oi := { dst := some 104, op := .call { callee := .value (.func 7), args := #[.tmp 103], argTypes := #[24] }, type := _, pos := _, after := _, guard := some (18, true) }) (v := undef) rfl (by kernel_rfl) (by kernel_rfl) (by kernel_rfl) (fun _ _ _ h => h) (Or.inr ⟨by rfl, rfl⟩) trivial ?_
              (try simp only [Act.put, List.setIfInBounds_toArray, List.set_cons_zero, List.set_cons_succ])
              refine wpAnyH_take (i := 21) (oi := { dst := some 105, op := .binOp .neq 3 (.tmp 104) (.const (.int .i64 0)) 3, type := _, pos := _, after := _, guard := some (18, true) }) (v := undef) rfl (by kernel_rfl) (by kernel_rfl) (by kernel_rfl) (fun _ _ _ h => h) (Or.inr ⟨by rfl, rfl⟩) trivial ?_
              (try simp only [Act.put, List.setIfInBounds_toArray, List.set_cons_zero, List.set_cons_succ])
              refine wpAnyH_take (i := 22) (oi := { dst := some 106, op := .move (.tmp 105), type := _, pos := _, after := _, guard := some (18, true) }) (v := undef) rfl (by kernel_rfl) (by kernel_rfl) (by kernel_rfl) (fun _ _ _ h => h) (Or.inr ⟨by rfl, rfl⟩) trivial ?_
              (try simp only [Act.put, List.setIfInBounds_toArray, List.set_cons_zero, List.set_cons_succ])
              refine wpAnyH_take (i := 23) (oi := { dst := some 107, op := .move (.tmp 11), type := _, pos := _, after := _, guard := some (22, false) }) (v := undef) rfl (by kernel_rfl) (by kernel_rfl) (by kernel_rfl) (fun _ _ _ h => h) (Or.inr ⟨by rfl, rfl⟩) trivial ?_
              (try simp only [Act.put, List.setIfInBounds_toArray, List.set_cons_zero, List.set_cons_succ])
              refine wpAnyH_take (i := 24) (oi := { dst := some 108, op := .move (.tmp 7), type := _, pos := _, after := _, guard := some (22, false) }) (v := undef) rfl (by kernel_rfl) (by kernel_rfl) (by kernel_rfl) (fun _ _ _ h => h) (Or.inr ⟨by rfl, rfl⟩) trivial ?_
              (try simp only [Act.put, List.setIfInBounds_toArray, List.set_cons_zero, List.set_cons_succ])
              refine wpAnyH_take (i := 25) (oi := { dst := some 109, op := .binOp .neq 9 (.tmp 107) (.tmp 108) 9, type := _, pos := _, after := _, guard := some (22, false) }) (v := undef) rfl (by kernel_rfl) (by kernel_rfl) (by kernel_rfl) (fun _ _ _ h => h) (Or.inr ⟨by rfl, rfl⟩) trivial ?_
              (try simp only [Act.put, List.setIfInBounds_toArray, List.set_cons_zero, List.set_cons_succ])
              refine wpAnyH_take (i := 26) (oi := { dst := some 110, op := .pick (.tmp 106) (.const (.bool true)) (.tmp 109), type := _, pos := _, after := _, guard := some (18, true) }) (v := undef) rfl (by kernel_rfl) (by kernel_rfl) (by kernel_rfl) (fun _ _ _ h => h) (Or.inr ⟨by rfl, rfl⟩) trivial ?_
              (try simp only [Act.put, List.setIfInBounds_toArray, List.set_cons_zero, List.set_cons_succ])
              refine wpAnyH_take (i := 27) (oi := { dst := some 111, op := .move (.tmp 110), type := _, pos := _, after := _, guard := some (18, true) }) (v := undef) rfl (by kernel_rfl) (by kernel_rfl) (by kernel_rfl) (fun _ _ _ h => h) (Or.inr ⟨by rfl, rfl⟩) trivial ?_
              (try simp only [Act.put, List.setIfInBounds_toArray, List.set_cons_zero, List.set_cons_succ])
              refine wpAnyH_take (i := 28) (oi := { dst := some 112, op := .move (.tmp 11), type := _, pos := _, after := _, guard := some (27, false) }) (v := undef) rfl (by kernel_rfl) (by kernel_rfl) (by kernel_rfl) (fun _ _ _ h => h) (Or.inr ⟨by rfl, rfl⟩) trivial ?_
              (try simp only [Act.put, List.setIfInBounds_toArray, List.set_cons_zero, List.set_cons_succ])
              refine wpAnyH_take (i := 29) (oi := { dst := some 113, op := .call { callee := .value (.func 11), args := #[.tmp 112], argTypes := #[9] }, type := _, pos := _, after := _, guard := some (27, false) }) (v := undef) rfl (by kernel_rfl) (by kernel_rfl) (by kernel_rfl) (fun _ _ _ h => h) (Or.inr ⟨by rfl, rfl⟩) trivial ?_
              (try simp only [Act.put, List.setIfInBounds_toArray, List.set_cons_zero, List.set_cons_succ])
              refine wpAnyH_take (i := 30) (oi := { dst := some 114, op := .move (.tmp 7), type := _, pos := _, after := _, guard := some (27, false) }) (v := undef) rfl (by kernel_rfl) (by kernel_rfl) (by kernel_rfl) (fun _ _ _ h => h) (Or.inr ⟨by rfl, rfl⟩) trivial ?_
              (try simp only [Act.put, List.setIfInBounds_toArray, List.set_cons_zero, List.set_cons_succ])
              refine wpAnyH_take (i := 31) (oi := { dst := some 115, op := .move (.tmp 7), type := _, pos := _, after := _, guard := some (27, false) }) (v := undef) rfl (by kernel_rfl) (by kernel_rfl) (by kernel_rfl) (fun _ _ _ h => h) (Or.inr ⟨by rfl, rfl⟩) trivial ?_
              (try simp only [Act.put, List.setIfInBounds_toArray, List.set_cons_zero, List.set_cons_succ])
              refine wpAnyH_take (i := 32) (oi := { dst := some 116, op := .call { callee := .builtin .len, args := #[.tmp 115], argTypes := #[9] }, type := _, pos := _, after := _, guard := some (27, false) }) (v := undef) rfl (by kernel_rfl) (by kernel_rfl) (by kernel_rfl) (fun _ _ _ h => h) (Or.inr ⟨by rfl, rfl⟩) trivial ?_
              (try simp only [Act.put, List.setIfInBounds_toArray, List.set_cons_zero, List.set_cons_succ])
              refine wpAnyH_take (i := 33) (oi := { dst := some 117, op := .binOp .sub 3 (.tmp 116) (.const (.int .i64 16)) 3, type := _, pos := _, after := _, guard := some (27, false) }) (v := undef) rfl (by kernel_rfl) (by kernel_rfl) (by kernel_rfl) (fun _ _ _ h => h) (Or.inr ⟨by rfl, rfl⟩) trivial ?_
              (try simp only [Act.put, List.setIfInBounds_toArray, List.set_cons_zero, List.set_cons_succ])
              refine wpAnyH_take (i := 34) (oi := { dst := some 118, op := .slice 9 (.tmp 114) (some (.tmp 117)) none none, type := _, pos := _, after := _, guard := some (27, false) }) (v := undef) rfl (by kernel_rfl) (by kernel_rfl) (by kernel_rfl) (fun _ _ _ h => h) (Or.inr ⟨by rfl, rfl⟩) trivial ?_
              (try simp only [Act.put, List.setIfInBounds_toArray, List.set_cons_zero, List.set_cons_succ])
              refine wpAnyH_take (i := 35) (oi := { dst := some 119, op := .binOp .neq 9 (.tmp 113) (.tmp 118) 9, type := _, pos := _, after := _, guard := some (27, false) }) (v := undef) rfl (by kernel_rfl) (by kernel_rfl) (by kernel_rfl) (fun _ _ _ h => h) (Or.inr ⟨by rfl, rfl⟩) trivial ?_
              (try simp only [Act.put, List.setIfInBounds_toArray, List.set_cons_zero, List.set_cons_succ])
              refine wpAnyH_take (i := 36) (oi := { dst := some 120, op := .pick (.tmp 111) (.const (.bool true)) (.tmp 119), type := _, pos := _, after := _, guard := some (18, true) }) (v := undef) rfl (by kernel_rfl) (by kernel_rfl) (by kernel_rfl) (fun _ _ _ h => h) (Or.inr ⟨by rfl, rfl⟩) trivial ?_
              (try simp only [Act.put, List.setIfInBounds_toArray, List.set_cons_zero, List.set_cons_succ])
              refine wpAnyH_take (i := 37) (oi := { dst := some 121, op := .pick (.tmp 102) (.tmp 120) (.const (.bool false)), type := _, pos := _, after := _, guard := some (15, false) }) (v := .bool false) rfl (by kernel_rfl) (by kernel_rfl) (by kernel_rfl) (fun _ _ _ h => h) (Or.inl ⟨by rfl, by intro x _; go_simp⟩) trivial ?_
              (try simp only [Act.put, List.setIfInBounds_toArray, List.set_cons_zero, List.set_cons_succ])
              refine wpAnyH_take (i := 38) (oi := { dst := some 122, op := .pick (.tmp 99) (.const (.bool true)) (.tmp 121), type := _, pos := _, after := _, guard := none }) (v := .bool false) rfl (by kernel_rfl) (by kernel_rfl) (by kernel_rfl) (fun _ _ _ h => h) (Or.inl ⟨by rfl, by intro x _; go_simp⟩) trivial ?_
              (try simp only [Act.put, List.setIfInBounds_toArray, List.set_cons_zero, List.set_cons_succ])
              refine wpAnyH_done (by kernel_rfl) ?_ _
              have HO8 : Hid (V.ownsRow w.heap.size 9 1 (.slice av k2 cv) k2 (sCells (tagsG R))) := owns_keep HO7.out (fun g hg => hbV.block g (World.ownsRow.lt HO7.out g hg).2)
              have HI8 : Hid (Idl V pb F' R) := HI7.out.below hbV
              have HB8 : Hid (Below w.heap.size w V) := HB7.out.trans (hbV.mono HB7.out.size)
              clear hbV
              go_wp2_with fail
              go_roundg (n - k)
              case measure => have := HK.out; omega
              case rel => exact ⟨k + 1, R, F', av, cv, by have := HK.out; omega, by go_num, by rw [HRl.out], by have := HR.out; have := HRl.out; show _ ≤ _; omega, by show World.ownsRow _ _ _ _ _ _ _; rw [HRl.out]; exact HO8.out, HI8.out, HF7.out, HB8.out⟩
            | false =>
              have e1 : sealE R 1 ⟨#[110]⟩ (zS z) c = 0 := by unfold sealE; rw [if_neg (by simp [ae]), if_neg (by simp [hgv])]
              have e2 : sealY R 1 ⟨#[110]⟩ (zS z) c = c := by unfold sealY; rw [if_pos e1]
              have e3 : sealR R 1 ⟨#[110]⟩ (zS z) c = R ++ [⟨1, ⟨#[110]⟩, c, zS z⟩] := by unfold sealR; rw [if_pos e1]
              rw [e1, e2]
              rw [e3] at hI'
              have HI7 : Hid (Idl w7 pb F' (R ++ [⟨1, ⟨#[110]⟩, c, zS z⟩])) := hI'
              clear e1 e2 e3 ae hgv hI'
              have htag := fun W => tag_any c W (by omega)
              rw [HTG.out] at htag
              obtain ⟨i0, hi, hz0, hz1', hz2⟩ := info_parts infoStr
              go_wp2_with fail
              refine wp_region_held_drew (S := fun _ => True) (by kernel_rfl) trivial ?_
              intro _
              have hbV : Below w7.heap.size w7 w7.drew := (Below.refl _ _).drew
              revert hbV
              generalize w7.drew = V
              intro hbV
              refine wpAnyH_take (i := 0) (oi := { dst := some 84, op := .move (.tmp 10), type := _, pos := _, after := _, guard := none }) (v := .bool true) rfl (by kernel_rfl) (by kernel_rfl) (by kernel_rfl) (fun _ _ _ h => h) (Or.inl ⟨by rfl, by intro x _; go_simp⟩) trivial ?_
              (try simp only [Act.put, List.setIfInBounds_toArray, List.set_cons_zero, List.set_cons_succ])
              refine wpAnyH_take (i := 1) (oi := { dst := some 85, op := .move (.tmp 8), type := _, pos := _, after := _, guard := none }) (v := .bool false) rfl (by kernel_rfl) (by kernel_rfl) (by kernel_rfl) (fun _ _ _ h => h) (Or.inl ⟨by rfl, by intro x _; go_simp⟩) trivial ?_
              (try simp only [Act.put, List.setIfInBounds_toArray, List.set_cons_zero, List.set_cons_succ])
              refine wpAnyH_take (i := 2) (oi := { dst := some 86, op := .binOp .eql 4 (.tmp 84) (.tmp 85) 4, type := _, pos := _, after := _, guard := none }) (v := .bool false) rfl (by kernel_rfl) (by kernel_rfl) (by kernel_rfl) (fun _ _ _ h => h) (Or.inl ⟨by rfl, by intro x _; go_simp⟩) trivial ?_
              (try simp only [Act.put, List.setIfInBounds_toArray, List.set_cons_zero, List.set_cons_succ])
              refine wpAnyH_take (i := 3) (oi := { dst := some 87, op := .move (.tmp 86), type := _, pos := _, after := _, guard := none }) (v := .bool false) rfl (by kernel_rfl) (by kernel_rfl) (by kernel_rfl) (fun _ _ _ h => h) (Or.inl ⟨by rfl, by intro x _; go_simp⟩) trivial ?_
              (try simp only [Act.put, List.setIfInBounds_toArray, List.set_cons_zero, List.set_cons_succ])
              refine wpAnyH_take (i := 4) (oi := { dst := some 88, op := .move (.tmp 8), type := _, pos := _, after := _, guard := some (3, false) }) (v := .bool false) rfl (by kernel_rfl) (by kernel_rfl) (by kernel_rfl) (fun _ _ _ h => h) (Or.inl ⟨by rfl, by intro x _; go_simp⟩) trivial ?_
              (try simp only [Act.put, List.setIfInBounds_toArray, List.set_cons_zero, List.set_cons_succ])
              refine wpAnyH_take (i := 5) (oi := { dst := some 89, op := .move (.tmp 88), type := _, pos := _, after := _, guard := some (3, false) }) (v := .bool false) rfl (by kernel_rfl) (by kernel_rfl) (by kernel_rfl) (fun _ _ _ h => h) (Or.inl ⟨by rfl, by intro x _; go_simp⟩) trivial ?_
              (try simp only [Act.put, List.setIfInBounds_toArray, List.set_cons_zero, List.set_cons_succ])
              refine wpAnyH_take (i := 6) (oi := { dst := some 90, op := .move (.tmp 12), type := _, pos := _, after := _, guard := some (5, true) }) (v := undef) rfl (by kernel_rfl) (by kernel_rfl) (by kernel_rfl) (fun _ _ _ h => h) (Or.inr ⟨by rfl, rfl⟩) trivial ?_
              (try simp only [Act.put, List.setIfInBounds_toArray, List.set_cons_zero, List.set_cons_succ])
              refine wpAnyH_take (i := 7) (oi := { dst := some 91, op := .call { callee := .value (.func 7), args := #[.tmp 90], argTypes := #[24] }, type := _, pos := _, after := _, guard := some (5, true) }) (v := undef) rfl (by kernel_rfl) (by kernel_rfl) (by kernel_rfl) (fun _ _ _ h => h) (Or.inr ⟨by rfl, rfl⟩) trivial ?_
              (try simp only [Act.put, List.setIfInBounds_toArray, List.set_cons_zero, List.set_cons_succ])
              refine wpAnyH_take (i := 8) (oi := { dst := some 92, op := .binOp .neq 3 (.tmp 91) (.const (.int .i64 80)) 3, type := _, pos := _, after := _, guard := some (5, true) }) (v := undef) rfl (by kernel_rfl) (by kernel_rfl) (by kernel_rfl) (fun _ _ _ h => h) (Or.inr ⟨by rfl, rfl⟩) trivial ?_
              (try simp only [Act.put, List.setIfInBounds_toArray, List.set_cons_zero, List.set_cons_succ])
              refine wpAnyH_take (i := 9) (oi := { dst := some 93, op := .move (.tmp 92), type := _, pos := _, after := _, guard := some (5, true) }) (v := undef) rfl (by kernel_rfl) (by kernel_rfl) (by kernel_rfl) (fun _ _ _ h => h) (Or.inr ⟨by rfl, rfl⟩) trivial ?_
              (try simp only [Act.put, List.setIfInBounds_toArray, List.set_cons_zero, List.set_cons_succ])
              refine wpAnyH_take (i := 10) (oi := { dst := some 94, op := .move (.tmp 11), type := _, pos := _, after := _, guard := some (9, false) }) (v := undef) rfl (by kernel_rfl) (by kernel_rfl) (by kernel_rfl) (fun _ _ _ h => h) (Or.inr ⟨by rfl, rfl⟩) trivial ?_
              (try simp only [Act.put, List.setIfInBounds_toArray, List.set_cons_zero, List.set_cons_succ])
              refine wpAnyH_take (i := 11) (oi := { dst := some 95, op := .binOp .neq 9 (.tmp 94) (.const (.string { data := #[] })) 9, type := _, pos := _, after := _, guard := some (9, false) }) (v := undef) rfl (by kernel_rfl) (by kernel_rfl) (by kernel_rfl) (fun _ _ _ h => h) (Or.inr ⟨by rfl, rfl⟩) trivial ?_
              (try simp only [Act.put, List.setIfInBounds_toArray, List.set_cons_zero, List.set_cons_succ])
              refine wpAnyH_take (i := 12) (oi := { dst := some 96, op := .pick (.tmp 93) (.const (.bool true)) (.tmp 95), type := _, pos := _, after := _, guard := some (5, true) }) (v := undef) rfl (by kernel_rfl) (by kernel_rfl) (by kernel_rfl) (fun _ _ _ h => h) (Or.inr ⟨by rfl, rfl⟩) trivial ?_
              (try simp only [Act.put, List.setIfInBounds_toArray, List.set_cons_zero, List.set_cons_succ])
              refine wpAnyH_take (i := 13) (oi := { dst := some 97, op := .pick (.tmp 89) (.tmp 96) (.const (.bool false)), type := _, pos := _, after := _, guard := some (3, false) }) (v := .bool false) rfl (by kernel_rfl) (by kernel_rfl) (by kernel_rfl) (fun _ _ _ h => h) (Or.inl ⟨by rfl, by intro x _; go_simp⟩) trivial ?_
              (try simp only [Act.put, List.setIfInBounds_toArray, List.set_cons_zero, List.set_cons_succ])
              refine wpAnyH_take (i := 14) (oi := { dst := some 98, op := .pick (.tmp 87) (.const (.bool true)) (.tmp 97), type := _, pos := _, after := _, guard := none }) (v := .bool false) rfl (by kernel_rfl) (by kernel_rfl) (by kernel_rfl) (fun _ _ _ h => h) (Or.inl ⟨by rfl, by intro x _; go_simp⟩) trivial ?_
              (try simp only [Act.put, List.setIfInBounds_toArray, List.set_cons_zero, List.set_cons_succ])
              refine wpAnyH_take (i := 15) (oi := { dst := some 99, op := .move (.tmp 98), type := _, pos := _, after := _, guard := none }) (v := .bool false) rfl (by kernel_rfl) (by kernel_rfl) (by kernel_rfl) (fun _ _ _ h => h) (Or.inl ⟨by rfl, by intro x _; go_simp⟩) trivial ?_
              (try simp only [Act.put, List.setIfInBounds_toArray, List.set_cons_zero, List.set_cons_succ])
              refine wpAnyH_take (i := 16) (oi := { dst := some 100, op := .move (.tmp 8), type := _, pos := _, after := _, guard := some (15, false) }) (v := .bool false) rfl (by kernel_rfl) (by kernel_rfl) (by kernel_rfl) (fun _ _ _ h => h) (Or.inl ⟨by rfl, by intro x _; go_simp⟩) trivial ?_
              (try simp only [Act.put, List.setIfInBounds_toArray, List.set_cons_zero, List.set_cons_succ])
              refine wpAnyH_take (i := 17) (oi := { dst := some 101, op := .unOp .not 4 (.tmp 100), type := _, pos := _, after := _, guard := some (15, false) }) (v := .bool true) rfl (by kernel_rfl) (by kernel_rfl) (by kernel_rfl) (fun _ _ _ h => h) (Or.inl ⟨by rfl, by intro x _; go_simp⟩) trivial ?_
              (try simp only [Act.put, List.setIfInBounds_toArray, List.set_cons_zero, List.set_cons_succ])
              refine wpAnyH_take (i := 18) (oi := { dst := some 102, op := .move (.tmp 101), type := _, pos := _, after := _, guard := some (15, false) }) (v := .bool true) rfl (by kernel_rfl) (by kernel_rfl) (by kernel_rfl) (fun _ _ _ h => h) (Or.inl ⟨by rfl, by intro x _; go_simp⟩) trivial ?_
              (try simp only [Act.put, List.setIfInBounds_toArray, List.set_cons_zero, List.set_cons_succ])
              refine wpAnyH_take (i := 19) (oi := { dst := some 103, op := .move (.tmp 12), type := _, pos := _, after := _, guard := some (18, true) }) (v := .int .i64 0) rfl (by kernel_rfl) (by kernel_rfl) (by kernel_rfl) (fun _ _ _ h => h) (Or.inl ⟨by rfl, by intro x _; go_simp⟩) trivial ?_
              (try simp only [Act.put, List.setIfInBounds_toArray, List.set_cons_zero, List.set_cons_succ])
              refine wpAnyH_ready (rs := [20]) (by kernel_rfl) (by simp) ?_
              refine AllReadyH.cons (o := { dst := some 104, op := .call { callee := .value (.func 7), args := #[.tmp 103], argTypes := #[24] }, type := _, pos := _, after := _, guard := some (18, true) }) rfl (fun K hK => ?_) AllReadyH.nil
              go_simp
              refine (hnum V _).mono ?_
              rintro e W2 ⟨rfl, hWW⟩
              have hWV := hWW.symm
              clear hWW
              subst hWV
              refine hK.out _ _ trivial (fun _ => ?_)
              clear hK K
              (try simp only [Act.put, List.setIfInBounds_toArray, List.set_cons_zero, List.set_cons_succ])
              refine wpAnyH_take (i := 21) (oi := { dst := some 105, op := .binOp .neq 3 (.tmp 104) (.const (.int .i64 0)) 3, type := _, pos := _, after := _, guard := some (18, true) }) (v := .bool false) rfl (by kernel_rfl) (by kernel_rfl) (by kernel_rfl) (fun _ _ _ h => h) (Or.inl ⟨by rfl, by intro x _; go_simp⟩) trivial ?_
              (try simp only [Act.put, List.setIfInBounds_toArray, List.set_cons_zero, List.set_cons_succ])
              refine wpAnyH_take (i := 22) (oi := { dst := some 106, op := .move (.tmp 105), type := _, pos := _, after := _, guard := some (18, true) }) (v := .bool false) rfl (by kernel_rfl) (by kernel_rfl) (by kernel_rfl) (fun _ _ _ h => h) (Or.inl ⟨by rfl, by intro x _; go_simp⟩) trivial ?_
              (try simp only [Act.put, List.setIfInBounds_toArray, List.set_cons_zero, List.set_cons_succ])
              refine wpAnyH_take (i := 23) (oi := { dst := some 107, op := .move (.tmp 11), type := _, pos := _, after := _, guard := some (22, false) }) (v := .string c) rfl (by kernel_rfl) (by kernel_rfl) (by kernel_rfl) (fun _ _ _ h => h) (Or.inl ⟨by rfl, by intro x _; go_simp⟩) trivial ?_
              (try simp only [Act.put, List.setIfInBounds_toArray, List.set_cons_zero, List.set_cons_succ])
              refine wpAnyH_take (i := 24) (oi := { dst := some 108, op := .move (.tmp 7), type := _, pos := _, after := _, guard := some (22, false) }) (v := .string c) rfl (by kernel_rfl) (by kernel_rfl) (by kernel_rfl) (fun _ _ _ h => h) (Or.inl ⟨by rfl, by intro x _; go_simp⟩) trivial ?_
              (try simp only [Act.put, List.setIfInBounds_toArray, List.set_cons_zero, List.set_cons_succ])
              refine wpAnyH_take (i := 25) (oi := { dst := some 109, op := .binOp .neq 9 (.tmp 107) (.tmp 108) 9, type := _, pos := _, after := _, guard := some (22, false) }) (v := .bool false) rfl (by kernel_rfl) (by kernel_rfl) (by kernel_rfl) (fun _ _ _ h => h) (Or.inl ⟨by rfl, by intro x _; go_simp⟩) trivial ?_
              (try simp only [Act.put, List.setIfInBounds_toArray, List.set_cons_zero, List.set_cons_succ])
              refine wpAnyH_take (i := 26) (oi := { dst := some 110, op := .pick (.tmp 106) (.const (.bool true)) (.tmp 109), type := _, pos := _, after := _, guard := some (18, true) }) (v := .bool false) rfl (by kernel_rfl) (by kernel_rfl) (by kernel_rfl) (fun _ _ _ h => h) (Or.inl ⟨by rfl, by intro x _; go_simp⟩) trivial ?_
              (try simp only [Act.put, List.setIfInBounds_toArray, List.set_cons_zero, List.set_cons_succ])
              refine wpAnyH_take (i := 27) (oi := { dst := some 111, op := .move (.tmp 110), type := _, pos := _, after := _, guard := some (18, true) }) (v := .bool false) rfl (by kernel_rfl) (by kernel_rfl) (by kernel_rfl) (fun _ _ _ h => h) (Or.inl ⟨by rfl, by intro x _; go_simp⟩) trivial ?_
              (try simp only [Act.put, List.setIfInBounds_toArray, List.set_cons_zero, List.set_cons_succ])
              refine wpAnyH_take (i := 28) (oi := { dst := some 112, op := .move (.tmp 11), type := _, pos := _, after := _, guard := some (27, false) }) (v := .string c) rfl (by kernel_rfl) (by kernel_rfl) (by kernel_rfl) (fun _ _ _ h => h) (Or.inl ⟨by rfl, by intro x _; go_simp⟩) trivial ?_
              (try simp only [Act.put, List.setIfInBounds_toArray, List.set_cons_zero, List.set_cons_succ])
              refine wpAnyH_take (i := 30) (oi := { dst := some 114, op := .move (.tmp 7), type := _, pos := _, after := _, guard := some (27, false) }) (v := .string c) rfl (by kernel_rfl) (by kernel_rfl) (by kernel_rfl) (fun _ _ _ h => h) (Or.inl ⟨by rfl, by intro x _; go_simp⟩) trivial ?_
              (try simp only [Act.put, List.setIfInBounds_toArray, List.set_cons_zero, List.set_cons_succ])
              refine wpAnyH_take (i := 31) (oi := { dst := some 115, op := .move (.tmp 7), type := _, pos := _, after := _, guard := some (27, false) }) (v := .string c) rfl (by kernel_rfl) (by kernel_rfl) (by kernel_rfl) (fun _ _ _ h => h) (Or.inl ⟨by rfl, by intro x _; go_simp⟩) trivial ?_
              (try simp only [Act.put, List.setIfInBounds_toArray, List.set_cons_zero, List.set_cons_succ])
              refine wpAnyH_take (i := 32) (oi := { dst := some 116, op := .call { callee := .builtin .len, args := #[.tmp 115], argTypes := #[9] }, type := _, pos := _, after := _, guard := some (27, false) }) (v := .int .i64 (c.size : Int)) rfl (by kernel_rfl) (by kernel_rfl) (by kernel_rfl) (fun _ _ _ h => h) (Or.inl ⟨by rfl, by intro x _; go_simp⟩) trivial ?_
              (try simp only [Act.put, List.setIfInBounds_toArray, List.set_cons_zero, List.set_cons_succ])
              refine wpAnyH_take (i := 33) (oi := { dst := some 117, op := .binOp .sub 3 (.tmp 116) (.const (.int .i64 16)) 3, type := _, pos := _, after := _, guard := some (27, false) }) (v := .int .i64 ((c.size - 16 : Nat) : Int)) rfl (by kernel_rfl) (by kernel_rfl) (by kernel_rfl) (fun _ _ _ h => h) (Or.inl ⟨by rfl, by intro x _; go_simp⟩) trivial ?_
              (try simp only [Act.put, List.setIfInBounds_toArray, List.set_cons_zero, List.set_cons_succ])
              refine wpAnyH_take (i := 34) (oi := { dst := some 118, op := .slice 9 (.tmp 114) (some (.tmp 117)) none none, type := _, pos := _, after := _, guard := some (27, false) }) (v := .string tg) rfl (by kernel_rfl) (by kernel_rfl) (by kernel_rfl) (fun _ _ _ h => h) (Or.inl ⟨by rfl, by intro x _; go_simp⟩) trivial ?_
              (try simp only [Act.put, List.setIfInBounds_toArray, List.set_cons_zero, List.set_cons_succ])
              refine wpAnyH_ready (rs := [29]) (by kernel_rfl) (by simp) ?_
              refine AllReadyH.cons (o := { dst := some 113, op := .call { callee := .value (.func 11), args := #[.tmp 112], argTypes := #[9] }, type := _, pos := _, after := _, guard := some (27, false) }) rfl (fun K hK => ?_) AllReadyH.nil
              go_simp
              refine (htag V).mono ?_
              rintro e w8 ⟨rfl, hb8⟩
              refine hK.out _ _ trivial (fun _ => ?_)
              clear hK K
              (try simp only [Act.put, List.setIfInBounds_toArray, List.set_cons_zero, List.set_cons_succ])
              refine wpAnyH_take (i := 35) (oi := { dst := some 119, op := .binOp .neq 9 (.tmp 113) (.tmp 118) 9, type := _, pos := _, after := _, guard := some (27, false) }) (v := .bool false) rfl (by kernel_rfl) (by kernel_rfl) (by kernel_rfl) (fun _ _ _ h => h) (Or.inl ⟨by rfl, by intro x _; go_simp⟩) trivial ?_
              (try simp only [Act.put, List.setIfInBounds_toArray, List.set_cons_zero, List.set_cons_succ])
              refine wpAnyH_take (i := 36) (oi := { dst := some 120, op := .pick (.tmp 111) (.const (.bool true)) (.tmp 119), type := _, pos := _, after := _, guard := some (18, true) }) (v := .bool false) rfl (by kernel_rfl) (by kernel_rfl) (by kernel_rfl) (fun _ _ _ h => h) (Or.inl ⟨by rfl, by intro x _; go_simp⟩) trivial ?_
              (try simp only [Act.put, List.setIfInBounds_toArray, List.set_cons_zero, List.set_cons_succ])
              refine wpAnyH_take (i := 37) (oi := { dst := some 121, op := .pick (.tmp 102) (.tmp 120) (.const (.bool false)), type := _, pos := _, after := _, guard := some (15, false) }) (v := .bool false) rfl (by kernel_rfl) (by kernel_rfl) (by kernel_rfl) (fun _ _ _ h => h) (Or.inl ⟨by rfl, by intro x _; go_simp⟩) trivial ?_
              (try simp only [Act.put, List.setIfInBounds_toArray, List.set_cons_zero, List.set_cons_succ])
              refine wpAnyH_take (i := 38) (oi := { dst := some 122, op := .pick (.tmp 99) (.const (.bool true)) (.tmp 121), type := _, pos := _, after := _, guard := none }) (v := .bool false) rfl (by kernel_rfl) (by kernel_rfl) (by kernel_rfl) (fun _ _ _ h => h) (Or.inl ⟨by rfl, by intro x _; go_simp⟩) trivial ?_
              (try simp only [Act.put, List.setIfInBounds_toArray, List.set_cons_zero, List.set_cons_succ])
              refine wpAnyH_done (by kernel_rfl) ?_ _
              obtain ⟨W9, hW9⟩ : ∃ W, w8.alloc (.cells #[.string tg] 9) = W := ⟨_, rfl⟩
              have hb9 : Below w7.heap.size w7 W9 := by
                have h1 := hbV.trans (hb8.mono hbV.size)
                rw [← hW9]; exact h1.alloc h1.size _
              have HO9 : Hid (W9.ownsRow w.heap.size 9 1 (.slice av k2 cv) k2 (sCells (tagsG R))) := owns_keep HO7.out (fun g hg => hb9.block g (World.ownsRow.lt HO7.out g hg).2)
              have HI9 : Hid (Idl W9 pb F' (R ++ [⟨1, ⟨#[110]⟩, c, zS z⟩])) := HI7.out.below hb9
              have HB9 : Hid (Below w.heap.size w W9) := HB7.out.trans (hb9.mono HB7.out.size)
              have HC9 : Hid (∀ j u, ([.string tg] : List Value)[j]? = some u → W9.cell? ((⟨w8.heap.size, 0, none⟩ : Addr).add j) = some u) := fun j u hj => by rw [← hW9]; exact cells_new w8 #[.string tg] 9 j u (by simpa using hj)
              have hz9 : k2 + 1 ≤ maxLen ∧ (k2 + 1) * 16 ≤ 140737488355328 ∧ w.heap.size ≤ W9.heap.size := ⟨by unfold maxLen; omega, by omega, HB9.out.size⟩
              clear hbV hb8 hb9 HO7 HI7 HB7
              go_wp2_with (first | (at_builtin; (try rw [hW9]); refine wpList_append_own _ rfl _ _ 22 rfl w.heap.size 9 i0 _ 1 16 Try.underlying22 hi hz0 hz1' hz2 rfl (by decide) _ _ _ rfl HO9.out _ _ _ [.string tg] rfl rfl HC9.out (by simp [Value.oneCell']) hz9.1 hz9.2.1 hz9.2.2 ?_; intro v' w10 hown hgrow _) | fail)
              obtain ⟨a10, c10, rfl⟩ := own_len hown
              have HB10 : Hid (Below w.heap.size w w10) := HB9.out.trans (grown_below hgrow hz9.2.2 HO9.out)
              have HI10 : Hid (Idl w10 pb F' (R ++ [⟨1, ⟨#[110]⟩, c, zS z⟩])) := HI9.out.keep (fun x hx => hgrow.block x (HI9.out.lt x hx) (fun e => HI9.out.notin HO9.out (by decide) x e.symm hx))
              have HO10 : Hid (w10.ownsRow w.heap.size 9 1 (.slice a10 (k2 + 1) c10) (k2 + 1) (sCells (tagsG (R ++ [⟨1, ⟨#[110]⟩, c, zS z⟩])))) := by
                have e : sCells (tagsG (R ++ [⟨1, ⟨#[110]⟩, c, zS z⟩])) = sCells (tagsG R) ++ [.string tg] := by
                  unfold sCells tagsG
                  rw [List.map_append, List.map_append]
                  show _ ++ [Value.string (tagS c)] = _
                  rw [HTG.out]
                rw [e]
                exact hown
              have HL10 : Hid ((R ++ [(⟨1, ⟨#[110]⟩, c, zS z⟩ : Row)]).length = k2 + 1) := by show _ = _; rw [List.length_append, HRl.out]; rfl
              clear hown hgrow
              go_wp2_with fail
              go_roundg (n - k)
              case measure => have := HK.out; omega
              case rel => exact ⟨k + 1, R ++ [(⟨1, ⟨#[110]⟩, c, zS z⟩ : Row)], F', a10, c10, by have := HK.out; omega, by go_num, by rw [HL10.out], by have := HR.out; have := HL10.out; have := HRl.out; show _ ≤ _; omega, by show World.ownsRow _ _ _ _ _ _ _; rw [HL10.out]; exact HO10.out, HI10, HF7, HB10⟩
    · have hleI : ¬ (k : Int) ≤ (n : Int) := by omega
      have htb := table_any wr pb F R (by have := HR.out; omega) HI.out
      have HRL : Hid _ := HB.out
      clear hmk' hcv hcv0 hcv1
      go_wp2_with fail
      refine htb.mono ?_
      rintro e w4 ⟨v', rfl, hov, hb4⟩
      obtain ⟨a4, c4, rfl⟩ := own_len hov
      clear hov htb
      go_wp2
      go_ret
      exact ⟨by simp, HRL.out.trans (hb4.mono HRL.out.size)⟩
end Go.Proofs.Ytaejapdbghbgeaa.Se
