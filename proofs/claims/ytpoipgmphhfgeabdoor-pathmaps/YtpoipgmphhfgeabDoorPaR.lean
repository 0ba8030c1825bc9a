import Derived.Test.YtpoipgmphhfgeabDoorPaD
import Derived.Test.YtpoipgmphhfgeabDoorPaE
namespace Go.Proofs.YtpoipgmphhfgeabDoor.Pa
open Go.RowKit Go.Lib

theorem slice_part {P : Program} (W : World) (t : TypeId) (ht : P.underlying t = some .string) (s : ByteArray) (a b : Nat) (b' : Int) (r : List UInt8) (hb' : b' = (b : Int)) (hab : a ≤ b) (hb : b ≤ s.size) (hr : (s.data.toList.take b).drop a = r) :
    (Instr.slice t (.string s) (some (.int .i64 (a : Int))) (some (.int .i64 b')) none).run P W = .ok (.string (str r)) W := by
  subst hb'
  rw [run_slice_string (P := P) W t s .i64 .i64 (a : Int) (b : Int) ht (by omega) (by omega) (by omega)]
  congr 2
  rw [← str_of (s.extract _ _), extract_data, Int.toNat_natCast, Int.toNat_natCast, ← hr, List.drop_take]

theorem glue_len (c : UInt8) (ps : List (List UInt8)) : ps.length ≤ (glue c ps).length := by
  induction ps with
  | nil => simp [glue]
  | cons a ps ih => rw [glue_cons]; simp; omega
theorem cut_len (c : UInt8) (l : List UInt8) : (cutS c l).1.length ≤ l.length := by
  have h := (cut_glue c l).1
  have h2 := congrArg List.length h
  have h3 := glue_len c (cutS c l).1
  rw [List.length_append] at h2
  omega
/-- the loop of the document's Parse, behind k bytes -/
def At (t : List UInt8) (k m : Nat) (L : List ByteArray) (a : Nat) : Prop := k ≤ m → ∃ ps r, cutS 47 (t.take k) = (ps, r) ∧ L = ps.map str ∧ a + r.length = k + 1 ∧ r.length ≤ k ∧ ps.length ≤ k
set_option maxRecDepth 20000 in
set_option maxHeartbeats 1000000 in
theorem rparse_any (s : ByteArray) (w : World) : Calls Tryd.prog 25 #[.string s] w fun e w' => (∃ u, e = .returned (.tuple #[u, .int .i64 (parseE s)]) ∧ Own w' w.heap.size u (parseY s)) ∧ Below w.heap.size w w' := by
  have hl : s.data.toList.length = s.size := (size_eq s).symm
  by_cases h1 : s.size < 1
  · have eE : parseE s = 110 := by
      unfold parseE
      rw [if_neg]
      intro h
      have := (rooted_parts h).2.1
      cases hd : s.data.toList with
      | nil => rw [hd] at this; cases this
      | cons x t => rw [hd] at hl; simp at hl; omega
    have eY : parseY s = [] := by unfold parseY; rw [eE]; rfl
    rw [eE, eY]
    have h1I : (s.size : Int) < 1 := by omega
    go_enter Tryd.func25, Tryd.ntmps25
    go_wp2
    go_ret2
    exact ⟨⟨_, rfl, Own.nil _ _⟩, Below.refl _ _⟩
  have h1I : ¬ (s.size : Int) < 1 := by omega
  by_cases h2 : 1024 < s.size
  · have eE : parseE s = 110 := by
      unfold parseE
      rw [if_neg]
      intro h
      have := (rooted_parts h).1
      omega
    have eY : parseY s = [] := by unfold parseY; rw [eE]; rfl
    rw [eE, eY]
    have h2I : (1024 : Int) < (s.size : Int) := by omega
    go_enter Tryd.func25, Tryd.ntmps25
    go_wp2
    go_ret2
    exact ⟨⟨_, rfl, Own.nil _ _⟩, Below.refl _ _⟩
  have h2I : ¬ (1024 : Int) < (s.size : Int) := by omega
  obtain ⟨c0, t, hst⟩ : ∃ c0 t, s.data.toList = c0 :: t := by
    cases hd : s.data.toList with
    | nil => rw [hd] at hl; simp at hl; omega
    | cons x t => exact ⟨x, t, rfl⟩
  have hix0 := fun W => rindex_at (P := Tryd.prog) W 9 s .i64 (0 : Int) 0 c0 Tryd.underlying9 rfl (by rw [hst]; rfl)
  by_cases h3 : c0 = 47
  · subst h3
    have htl : t.length + 1 = s.size := by rw [← hl, hst]; rfl
    by_cases h4 : s.data.toList = [47]
    · have hr : rooted s.data.toList = true := rooted_mk (by omega) (by rw [hst]; rfl) (.inl h4)
      have eE : parseE s = 0 := by unfold parseE; rw [if_pos hr, if_pos h4]
      have eY : parseY s = [] := by unfold parseY; rw [if_pos eE, if_pos h4]
      rw [eE, eY]
      have h4' : (s.toList == [47]) = true := by rw [toList_data, h4]; rfl
      clear hst h4
      go_enter Tryd.func25, Tryd.ntmps25
      go_wp2
      go_ret2
      exact ⟨⟨_, rfl, Own.nil _ _⟩, Below.refl _ _⟩
    have h4' : (s.toList == [47]) = false := by rw [toList_data]; exact beq_eq_false_iff_ne.2 h4
    obtain ⟨cl, hcl⟩ : ∃ cl, s.data.toList.getLast? = some cl := by
      cases hd : s.data.toList.getLast? with
      | none => rw [List.getLast?_eq_none_iff, hst] at hd; cases hd
      | some x => exact ⟨x, rfl⟩
    have hixl := fun W => rindex_at (P := Tryd.prog) W 9 s .i64 ((s.size : Int) - 1) (s.size - 1) cl Tryd.underlying9 (by omega) (by rw [List.getLast?_eq_getElem?, hl] at hcl; exact hcl)
    by_cases h5 : cl = 47
    · subst h5
      have eE : parseE s = 110 := by
        unfold parseE
        rw [if_neg]
        intro h
        rcases (rooted_parts h).2.2 with h | h
        · exact h4 h
        · exact h hcl
      have eY : parseY s = [] := by unfold parseY; rw [eE]; rfl
      rw [eE, eY]
      clear hst h4 hcl
      go_enter Tryd.func25, Tryd.ntmps25
      go_wp2
      go_ret2
      exact ⟨⟨_, rfl, Own.nil _ _⟩, Below.refl _ _⟩
    have h5I : ¬ (cl.toNat : Int) = 47 := fun e => h5 (UInt8.toNat_inj.1 (by have : (((47 : UInt8).toNat : Nat) : Int) = 47 := rfl; omega))
    have hr : rooted s.data.toList = true := rooted_mk (by omega) (by rw [hst]; rfl) (.inr fun h => h5 (by rw [hcl] at h; exact Option.some.inj h))
    have eE : parseE s = fault (pcs s) := by unfold parseE; rw [if_pos hr, if_neg h4]
    have eY : fault (pcs s) = 0 → parseY s = pcs s := fun h => by unfold parseY; rw [eE, if_pos h, if_neg h4]
    have eN : fault (pcs s) ≠ 0 → parseY s = [] := fun h => by unfold parseY; rw [eE, if_neg h]
    rw [eE]
    clear hcl h5 h4 eE hr
    generalize cl.toNat = cln at *
    go_enter Tryd.func25, Tryd.ntmps25
    obtain ⟨m, hm⟩ : ∃ m, t.length = m := ⟨_, rfl⟩
    have hsm : s.size = m + 1 := by omega
    have HT : Hid (s.data.toList = 47 :: t) := hst
    have HM : Hid (t.length = m) := hm
    have HSZ : Hid (s.size = m + 1) := hsm
    have HY : Hid (fault (pcs s) = 0 → parseY s = pcs s) := eY
    have HN : Hid (fault (pcs s) ≠ 0 → parseY s = []) := eN
    have hm1 : m ≤ 1023 := by omega
    clear eY eN hst hl htl hm hsm
    go_wp2
    go_loopg [4, 5, 6] (m + 1) (fun gk v f i wr => ∃ (k : Nat) (L : List ByteArray) (a : Nat), k + gk = m + 1 ∧ i = .int .i64 ((k : Int) + 1) ∧ f = .int .i64 (a : Int) ∧ Own wr w.heap.size v L ∧ Hid (Below w.heap.size w wr) ∧ Hid (At t k m L a) ∧ Hid (k = m + 1 → L = (pieces t).map str))
    case atStart => exact ⟨0, [], 1, by omega, rfl, rfl, Own.nil _ _, Below.refl _ _, fun _ => ⟨[], [], rfl, rfl, by simp, Nat.le_refl _, Nat.le_refl _⟩, fun h => by omega⟩
    case round =>
      obtain ⟨k, L, a, hk, rfl, rfl, hown, HW, HA, HE⟩ := hrel
      have HKG : Hid (k + gk = m + 1) := hk
      have hkm : k ≤ m + 1 := by omega
      clear hk
      by_cases hle : k ≤ m
      · obtain ⟨ps, r, hcut, rfl, hra, hrk, hpk⟩ := HA.out hle
        have hleI : (k : Int) + 1 ≤ (s.size : Int) := by rw [HSZ.out]; omega
        have ha1 : a ≤ k + 1 := by omega
        have HR : Hid ((s.data.toList.take (k + 1)).drop a = r) := by
          show _ = _
          have h := cut_drop 47 (t.take k)
          rw [hcut, List.length_take, HM.out, show min k m = k by omega] at h
          rw [HT.out, List.take_succ_cons, show a = (k - r.length) + 1 by omega, List.drop_succ_cons]
          exact h
        have hsl := fun W => slice_part (P := Tryd.prog) W 9 Tryd.underlying9 s a (k + 1) ((k : Int) + 1) r (by omega) ha1 (by rw [HSZ.out]; omega) HR.out
        have hpl : (ps.map str).length ≤ 2000 := by rw [List.length_map]; omega
        have hpb : ((ps.map str).length + [str r].length) * 16 ≤ 140737488355328 := by simp; omega
        by_cases hlast : k = m
        · subst hlast
          have HP : Hid (ps.map str ++ [str r] = (pieces t).map str) := by
            show _ = _
            rw [List.take_of_length_le (by rw [HM.out]; exact Nat.le_refl _)] at hcut
            unfold pieces
            rw [hcut, List.map_append]
            rfl
          have HO1 : Hid _ := hown
          have hkI : (k : Int) + 1 = (s.size : Int) := by rw [HSZ.out]; omega
          rw [hkI] at hsl
          generalize str r = y at *
          generalize ps.map str = L at *
          clear hown hcut HA HE HR hra hrk hpk
          go_wp2_with (at_builtin; refine wpList_app rfl _ _ rfl w.heap.size _ _ L [y] rfl (World.ownsRow.alloc (Own.below (B := w.heap.size) (L := L) HO1.out (Below.refl _ _)) _) rfl (see_new wr _ [y] 1 1 rfl rfl (Nat.le_refl _)) hpb (by have := HW.out.size; simp; omega) ?_; intro v2 w2 ho2 hb2)
          go_roundg (gk - 1)
          case measure => have := HKG.out; omega
          case rel => exact ⟨k + 1, _, k + 2, by have := HKG.out; omega, by go_num, by go_num, ho2, (HW.out.alloc HW.out.size _).trans hb2, fun h => by omega, fun _ => HP.out⟩
        · have hkI : ¬ (k : Int) + 1 = (s.size : Int) := by rw [HSZ.out]; omega
          obtain ⟨x, hx⟩ : ∃ x, t[k]? = some x := ⟨_, List.getElem?_eq_getElem (by have := HM.out; omega)⟩
          have hix := fun W => rindex_at (P := Tryd.prog) W 9 s .i64 ((k : Int) + 1) (k + 1) x Tryd.underlying9 (by omega) (by rw [HT.out, List.getElem?_cons_succ]; exact hx)
          have hst := cut_take 47 t k x hx
          rw [hcut] at hst
          clear hx
          by_cases hxc : x = 47
          · have HA2 : Hid (At t (k + 1) m (ps.map str ++ [str r]) (k + 2)) := fun _ => ⟨ps ++ [r], [], by rw [hst, step, if_pos hxc], by simp, by simp, by simp, by simp; omega⟩
            have hxI : (x.toNat : Int) = 47 := by rw [hxc]; rfl
            have hkB : ((k : Int) + 1 == (s.size : Int)) = false := beq_eq_false_iff_ne.2 hkI
            have HO1 : Hid _ := hown
            generalize str r = y at *
            generalize ps.map str = L at *
            generalize x.toNat = xn at hix hxI
            clear hown hcut HA HE HR hra hrk hpk hst hxc
            go_wp2_with (at_builtin; refine wpList_app rfl _ _ rfl w.heap.size _ _ L [y] rfl (World.ownsRow.alloc (Own.below (B := w.heap.size) (L := L) HO1.out (Below.refl _ _)) _) rfl (see_new wr _ [y] 1 1 rfl rfl (Nat.le_refl _)) hpb (by have := HW.out.size; simp; omega) ?_; intro v2 w2 ho2 hb2)
            go_roundg (gk - 1)
            case measure => have := HKG.out; omega
            case rel => exact ⟨k + 1, _, k + 2, by have := HKG.out; omega, by go_num, by go_num, ho2, (HW.out.alloc HW.out.size _).trans hb2, HA2, fun h => by omega⟩
          · have HA2 : Hid (At t (k + 1) m (ps.map str) a) := fun _ => ⟨ps, r ++ [x], by rw [hst, step, if_neg hxc], rfl, by simp; omega, by simp; omega, by omega⟩
            have hkB : ((k : Int) + 1 == (s.size : Int)) = false := beq_eq_false_iff_ne.2 hkI
            have hxI : ¬ (x.toNat : Int) = 47 := fun e => hxc (UInt8.toNat_inj.1 (by have : (((47 : UInt8).toNat : Nat) : Int) = 47 := rfl; omega))
            generalize str r = y at *
            generalize ps.map str = L at *
            generalize x.toNat = xn at hix hxI
            clear hcut HA HE HR hra hrk hpk hst hxc
            go_wp2
            go_roundg (gk - 1)
            case measure => have := HKG.out; omega
            case rel => exact ⟨k + 1, _, a, by have := HKG.out; omega, by go_num, rfl, hown, HW, HA2, fun h => by omega⟩
      · obtain rfl : k = m + 1 := by omega
        have hleI : ¬ ((m + 1 : Nat) : Int) + 1 ≤ (s.size : Int) := by rw [HSZ.out]; omega
        have hLE := HE.out rfl
        have hLp : L = pcs s := by rw [hLE]; unfold pcs; rw [HT.out]; rfl
        have hLn : L.length ≤ 9223372036854775000 := by
          rw [hLE, List.length_map]
          unfold pieces
          have h2 := cut_len 47 t
          rw [HM.out] at h2
          rw [List.length_append]
          simp
          omega
        subst hLp
        obtain ⟨a4, c4, rfl⟩ := hown.len
        have hf := rnames_any wr _ _ hown.see hLn
        have HO1 : Hid _ := hown
        clear HA HE hLE hown
        by_cases h0 : fault (pcs s) = 0
        · rw [h0] at hf
          go_wp2_with (go_at_call 36; refine hf.mono ?_; rintro e w1 ⟨rfl, hb1⟩)
          go_ret2
          exact ⟨⟨_, by rw [h0]; rfl, by rw [HY.out h0]; exact Own.below HO1.out hb1⟩, HW.out.trans (hb1.mono HW.out.size)⟩
        · have HNN := HN.out h0
          go_wp2_with (go_at_call 36; refine hf.mono ?_; rintro e w1 ⟨rfl, hb1⟩)
          go_ret2
          exact ⟨⟨_, rfl, by rw [HNN]; exact Own.nil _ _⟩, HW.out.trans (hb1.mono HW.out.size)⟩
  · have eE : parseE s = 110 := by
      unfold parseE
      rw [if_neg]
      intro h
      have := (rooted_parts h).2.1
      rw [hst] at this
      simp at this
      exact h3 this
    have eY : parseY s = [] := by unfold parseY; rw [eE]; rfl
    rw [eE, eY]
    have h3I : ¬ (c0.toNat : Int) = 47 := fun e => h3 (UInt8.toNat_inj.1 (by have : (((47 : UInt8).toNat : Nat) : Int) = 47 := rfl; omega))
    generalize c0.toNat = cn at *
    go_enter Tryd.func25, Tryd.ntmps25
    go_wp2
    go_ret2
    exact ⟨⟨_, rfl, Own.nil _ _⟩, Below.refl _ _⟩
end Go.Proofs.YtpoipgmphhfgeabDoor.Pa
