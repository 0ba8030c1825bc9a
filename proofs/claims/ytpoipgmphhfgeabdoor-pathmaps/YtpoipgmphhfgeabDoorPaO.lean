import Derived.Test.YtpoipgmphhfgeabDoorPaH
import Derived.Test.YtpoipgmphhfgeabDoorPaR
import Derived.Test.YtpoipgmphhfgeabDoorPaU
namespace Go.Proofs.YtpoipgmphhfgeabDoor.Pa
open Go.RowKit Go.Lib

set_option maxRecDepth 20000 in
set_option maxHeartbeats 1000000 in
theorem rchg_any (w : World) (x : ByteArray) (f t : Value) (F T : List ByteArray) (hF : See w f F) (hT : See w t T) (hl : F.length = T.length) (hn : F.length ≤ 9223372036854775000) :
    Calls Tryd.prog 26 #[.string x, f, t] w fun e w' => e = .returned (.string (chg F T x)) ∧ Below w.heap.size w w' := by
  have HA : Hid (∀ W, Below w.heap.size w W → See W f F) := fun W hb => hF.below hb
  have HB : Hid (∀ W, Below w.heap.size w W → See W t T) := fun W hb => hT.below hb
  obtain ⟨a1, k1, rfl, -⟩ := hF
  obtain ⟨a2, k2, rfl, -⟩ := hT
  obtain ⟨n, hm⟩ : ∃ n, F.length = n := ⟨_, rfl⟩
  have HL2 : Hid (T.length = n) := hl.symm.trans hm
  have HL1 : Hid (F.length = n) := hm
  rw [← hl, hm] at HB
  rw [hm] at HA hn
  rw [← hl, hm]
  obtain ⟨R, hR⟩ : ∃ R, chg F T x = R := ⟨_, rfl⟩
  rw [hR]
  have HR : Hid (chg F T x = R) := hR
  clear hm hl hR
  go_enter Tryd.func26, Tryd.ntmps26
  go_wp2_with fail
  go_loopg [7] n (fun gk iv wr => ∃ k : Nat, k + gk = n ∧ iv = .int .i64 (k : Int) ∧ Hid (Below w.heap.size w wr) ∧ Hid (∀ j y, j < k → F[j]? = some y → y ≠ x))
  case atStart => exact ⟨0, by omega, rfl, Below.refl _ _, fun j y h => by omega⟩
  case round =>
    obtain ⟨k, hk, rfl, HW, HZ⟩ := hrel
    have HKG : Hid (k + gk = n) := hk
    have hkn : k ≤ n := by omega
    clear hk
    by_cases hlt : k < n
    · have hltI : (k : Int) < (n : Int) := by omega
      obtain ⟨y, hy⟩ : ∃ y, F[k]? = some y := ⟨_, List.getElem?_eq_getElem (by have := HL1.out; omega)⟩
      obtain ⟨z, hz⟩ : ∃ z, T[k]? = some z := ⟨_, List.getElem?_eq_getElem (by have := HL2.out; omega)⟩
      obtain ⟨b, off, rfl, hc⟩ := (HA.out _ HW.out).cell hy
      obtain ⟨b2, off2, rfl, hc2⟩ := (HB.out _ HW.out).cell hz
      by_cases hxy : y = x
      · subst hxy
        obtain rfl : z = R := by rw [← HR.out]; exact (chg_hit k hy HZ.out hz).symm
        clear hy hz
        go_wp2
        go_ret
        exact ⟨rfl, HW.out⟩
      · have HZ2 : Hid (∀ j y, j < k + 1 → F[j]? = some y → y ≠ x) := fun j y' hj hj' => by
          by_cases h : j = k
          · subst h; rw [hy] at hj'; injection hj' with hj'; subst hj'; exact hxy
          · exact HZ.out j y' (by omega) hj'
        have hne := beq_ne hxy
        clear hy hz hxy
        go_wp2
        go_roundg (gk - 1)
        case measure => have := HKG.out; omega
        case rel => exact ⟨k + 1, by have := HKG.out; omega, by go_num, HW, HZ2⟩
    · obtain rfl : k = n := by omega
      have hltI : ¬ (k : Int) < (k : Int) := by omega
      obtain rfl : x = R := by
        rw [← HR.out]
        refine (chg_miss fun hx => ?_).symm
        obtain ⟨j, hj⟩ := List.mem_iff_getElem?.1 hx
        exact HZ.out j x (by have := (List.getElem?_eq_some_iff.1 hj).1; have := HL1.out; omega) hj rfl
      go_wp2
      go_ret
      exact ⟨rfl, HW.out⟩
set_option maxRecDepth 20000 in
set_option maxHeartbeats 1000000 in
theorem rmap_any (w : World) (s : ByteArray) (f t : Value) (F T : List ByteArray) (hF : See w f F) (hT : See w t T) (hn : F.length ≤ 9223372036854775000) :
    Calls Tryd.prog 15 #[.string s, f, t] w fun e w' => e = .returned (.tuple #[.string (mapY s F T), .int .i64 (mapE s F T)]) ∧ Below w.heap.size w w' := by
  have hp := rparse_any s w
  by_cases h0 : parseE s = 0
  · rw [h0] at hp
    by_cases hl : F.length = T.length
    · have eE : mapE s F T = fault ((parseY s).map (chg F T)) := by unfold mapE; rw [if_pos h0, if_pos hl]
      have eY : mapY s F T = textY ((parseY s).map (chg F T)) := by unfold mapY; rw [if_pos ⟨h0, hl⟩]
      rw [eE, eY]
      have hpl := (parse_len s).1
      have HTX : Hid (∀ W v, See W v ((parseY s).map (chg F T)) → Calls Tryd.prog 27 #[v] W fun e w' => e = .returned (.tuple #[.string (textY ((parseY s).map (chg F T))), .int .i64 (fault ((parseY s).map (chg F T)))]) ∧ Below W.heap.size W w') := fun W v hv => rtext_any W v _ hv (by rw [List.length_map]; omega)
      have HCH : Hid (∀ W x, Below w.heap.size w W → Calls Tryd.prog 26 #[.string x, f, t] W fun e w' => e = .returned (.string (chg F T x)) ∧ Below W.heap.size W w') := fun W x hb => rchg_any W x f t F T (hF.below hb) (hT.below hb) hl hn
      obtain ⟨a1, k1, rfl, -⟩ := hF
      obtain ⟨a2, k2, rfl, -⟩ := hT
      obtain ⟨G, hG⟩ : ∃ G, chg F T = G := ⟨_, rfl⟩
      rw [hG] at HTX HCH ⊢
      obtain ⟨m, hm⟩ : ∃ m, F.length = m := ⟨_, rfl⟩
      rw [← hl] at HCH ⊢
      rw [hm] at HCH hn ⊢
      clear eE eY h0 hm hl hG
      generalize parseY s = L at *
      obtain ⟨E, hE⟩ : ∃ E, fault (L.map G) = E := ⟨_, rfl⟩
      obtain ⟨Y, hY⟩ : ∃ Y, textY (L.map G) = Y := ⟨_, rfl⟩
      rw [hE, hY] at HTX ⊢
      clear hE hY
      go_enter Tryd.func15, Tryd.ntmps15
      go_wp2_with (go_at_call 25; refine hp.mono ?_; rintro e w1 ⟨⟨u1, rfl, ho1⟩, hb1⟩; obtain ⟨a3, k3, rfl⟩ := ho1.len)
      have HA : Hid (∀ W, Below w1.heap.size w1 W → See W (.slice a3 L.length k3) L) := fun W hb => (ho1.below hb).see
      obtain ⟨n, hln⟩ : ∃ n, L.length = n := ⟨_, rfl⟩
      rw [hln] at HA hpl ⊢
      have HL : Hid (L.length = n) := hln
      clear hln ho1 hp
      go_loopg [10, 11] n (fun gk ov iv wr => ∃ k : Nat, k + gk = n ∧ iv = .int .i64 (k : Int) ∧ Own wr w1.heap.size ov ((L.take k).map G) ∧ Hid (Below w1.heap.size w1 wr))
      case atStart => exact ⟨0, by omega, rfl, Own.nil _ _, Below.refl _ _⟩
      case round =>
        obtain ⟨k, hk, rfl, hown, HW⟩ := hrel
        have HKG : Hid (k + gk = n) := hk
        have hkn : k ≤ n := by omega
        clear hk
        by_cases hlt : k < n
        · have hltI : (k : Int) < (n : Int) := by omega
          obtain ⟨x, hx⟩ : ∃ x, L[k]? = some x := ⟨_, List.getElem?_eq_getElem (by have := HL.out; omega)⟩
          obtain ⟨b, off, rfl, hc⟩ := (HA.out _ HW.out).cell hx
          have hcl := HCH.out wr x (hb1.trans (HW.out.mono hb1.size))
          have HX : Hid ((L.take (k + 1)).map G = (L.take k).map G ++ [G x]) := by show _ = _; rw [List.take_add_one, hx]; simp
          have HKL : Hid ((((L.take k).map G).length + [G x].length) * 16 ≤ 140737488355328) := by show _ ≤ _; rw [List.length_map, List.length_take, HL.out]; simp; omega
          clear hx
          generalize G x = y at *
          obtain ⟨M, hM⟩ : ∃ M, (L.take k).map G = M := ⟨_, rfl⟩
          rw [hM] at hown HX HKL
          clear hM
          have HO1 : Hid _ := hown
          clear hown
          go_wp2_with (first
            | (go_at_call 26; refine hcl.mono ?_; rintro e w2 ⟨rfl, hb2⟩)
            | (at_builtin; refine wpList_app rfl _ _ rfl w1.heap.size _ _ M [y] rfl (World.ownsRow.alloc (Own.below (B := w1.heap.size) (L := M) HO1.out hb2) _) rfl (see_new w2 _ [y] 1 1 rfl rfl (Nat.le_refl _)) HKL.out (by have := hb2.size; have := HW.out.size; simp; omega) ?_; intro v3 w3 ho3 hb3))
          go_roundg (gk - 1)
          case measure => have := HKG.out; omega
          case rel => exact ⟨k + 1, by have := HKG.out; omega, by go_num, by rw [HX.out]; exact ho3, (HW.out.trans ((hb2.alloc hb2.size _).mono HW.out.size)).trans hb3⟩
        · obtain rfl : k = n := by omega
          have hltI : ¬ (k : Int) < (k : Int) := by omega
          rw [List.take_of_length_le (by rw [HL.out]; exact Nat.le_refl _)] at hown
          have htx := HTX.out _ _ hown.see
          have h1r := hb1.trans (HW.out.mono hb1.size)
          clear hown
          go_wp2_with (go_at_call 27; refine htx.mono ?_; rintro e w4 ⟨rfl, hb4⟩)
          go_ret2
          exact ⟨rfl, h1r.trans (hb4.mono h1r.size)⟩
    · have eE : mapE s F T = 1 := by unfold mapE; rw [if_pos h0, if_neg hl]
      have eY : mapY s F T = str [] := by unfold mapY; rw [if_neg (fun h => hl h.2)]
      rw [eE, eY]
      obtain ⟨a1, k1, rfl, -⟩ := hF
      obtain ⟨a2, k2, rfl, -⟩ := hT
      have hlI : ¬ (F.length : Int) = (T.length : Int) := by omega
      clear eE eY
      generalize F.length = m at *
      generalize T.length = n at *
      go_enter Tryd.func15, Tryd.ntmps15
      go_wp2_with (go_at_call 25; refine hp.mono ?_; rintro e w1 ⟨⟨u1, rfl, ho1⟩, hb1⟩)
      go_ret2
      exact ⟨rfl, hb1⟩
  · have eE : mapE s F T = parseE s := by unfold mapE; rw [if_neg h0]
    have eY : mapY s F T = str [] := by unfold mapY; rw [if_neg (fun h => h0 h.1)]
    rw [eE, eY]
    obtain ⟨a1, k1, rfl, -⟩ := hF
    obtain ⟨a2, k2, rfl, -⟩ := hT
    clear eE eY
    generalize parseE s = E at *
    generalize F.length = m at *
    generalize T.length = n at *
    go_enter Tryd.func15, Tryd.ntmps15
    go_wp2_with (go_at_call 25; refine hp.mono ?_; rintro e w1 ⟨⟨u1, rfl, ho1⟩, hb1⟩)
    go_ret2
    exact ⟨rfl, hb1⟩
end Go.Proofs.YtpoipgmphhfgeabDoor.Pa
