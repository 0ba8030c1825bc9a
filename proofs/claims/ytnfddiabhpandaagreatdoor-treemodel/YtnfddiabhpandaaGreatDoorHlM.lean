import Derived.Test.YtnfddiabhpandaaGreatDoorPbX
import Derived.Test.YtnfddiabhpandaaGreatDoorHfM
namespace Go.Proofs.YtnfddiabhpandaaGreatDoor.Pa
open Go.RowKit Go.Lib

theorem slice_part {P : Program} (W : World) (t : TypeId) (ht : P.underlying t = some .string) (s : ByteArray) (a b : Nat) (b' : Int) (r : List UInt8) (hb' : b' = (b : Int)) (hab : a ≤ b) (hb : b ≤ s.size) (hr : (s.data.toList.take b).drop a = r) :
    (Instr.slice t (.string s) (some (.int .i64 (a : Int))) (some (.int .i64 b')) none).run P W = .ok (.string (str r)) W := by
  subst hb'
  rw [run_slice_string (P := P) W t s .i64 .i64 (a : Int) (b : Int) ht (by omega) (by omega) (by omega)]
  congr 2
  rw [← str_of (s.extract _ _), extract_data, Int.toNat_natCast, Int.toNat_natCast, ← hr, List.drop_take]

theorem glue_len (c : UInt8) (ps : List (List UInt8)) : ps.length ≤ (glue c ps).length := by
  induction ps with
  | nil => simp [glue]
  | cons a ps ih => rw [glue_cons]; simp; omega
theorem cut_len (c : UInt8) (l : List UInt8) : (cutS c l).1.length ≤ l.length := by
  have h := (cut_glue c l).1
  have h2 := congrArg List.length h
  have h3 := glue_len c (cutS c l).1
  rw [List.length_append] at h2
  omega
/-- the loop of the document's Parse, behind k bytes -/
def At (t : List UInt8) (k m : Nat) (L : List ByteArray) (a : Nat) : Prop := k ≤ m → ∃ ps r, cutS 47 (t.take k) = (ps, r) ∧ L = ps.map str ∧ a + r.length = k + 1 ∧ r.length ≤ k ∧ ps.length ≤ k
set_option maxRecDepth 20000 in
set_option maxHeartbeats 1000000 in
theorem rparse_any (s : ByteArray) (w : World) : Calls Tryz.prog 59 #[.string s] w fun e w' => (∃ u, e = .returned (.tuple #[u, .int .i64 (parseE s)]) ∧ Own w' w.heap.size u (parseY s)) ∧ Below w.heap.size w w' := by
  have hl : s.data.toList.length = s.size := (size_eq s).symm
  by_cases h1 : s.size < 1
  · have eE : parseE s = 110 := by
      unfold parseE
      rw [if_neg]
      intro h
      have := (rooted_parts h).2.1
      cases hd : s.data.toList with
      | nil => rw [hd] at this; cases this
      | cons x t => rw [hd] at hl; simp at hl; omega
    have eY : parseY s = [] := by unfold parseY; rw [eE]; rfl
    rw [eE, eY]
    have h1I : (s.size : Int) < 1 := by omega
    go_enter Tryz.func59, Tryz.ntmps59
    go_wp2
    go_ret2
    exact ⟨⟨_, rfl, Own.nil _ _⟩, Below.refl _ _⟩
  have h1I : ¬ (s.size : Int) < 1 := by omega
  by_cases h2 : 1024 < s.size
  · have eE : parseE s = 110 := by
      unfold parseE
      rw [if_neg]
      intro h
      have := (rooted_parts h).1
      omega
    have eY : parseY s = [] := by unfold parseY; rw [eE]; rfl
    rw [eE, eY]
    have h2I : (1024 : Int) < (s.size : Int) := by omega
    go_enter Tryz.func59, Tryz.ntmps59
    go_wp2
    go_ret2
    exact ⟨⟨_, rfl, Own.nil _ _⟩, Below.refl _ _⟩
  have h2I : ¬ (1024 : Int) < (s.size : Int) := by omega
  obtain ⟨c0, t, hst⟩ : ∃ c0 t, s.data.toList = c0 :: t := by
    cases hd : s.data.toList with
    | nil => rw [hd] at hl; simp at hl; omega
    | cons x t => exact ⟨x, t, rfl⟩
  have hix0 := fun W => rindex_at (P := Tryz.prog) W 9 s .i64 (0 : Int) 0 c0 Tryz.underlying9 rfl (by rw [hst]; rfl)
  by_cases h3 : c0 = 47
  · subst h3
    have htl : t.length + 1 = s.size := by rw [← hl, hst]; rfl
    by_cases h4 : s.data.toList = [47]
    · have hr : rooted s.data.toList = true := rooted_mk (by omega) (by rw [hst]; rfl) (.inl h4)
      have eE : parseE s = 0 := by unfold parseE; rw [if_pos hr, if_pos h4]
      have eY : parseY s = [] := by unfold parseY; rw [if_pos eE, if_pos h4]
      rw [eE, eY]
      have h4' : (s.toList == [47]) = true := by rw [toList_data, h4]; rfl
      clear hst h4
      go_enter Tryz.func59, Tryz.ntmps59
      go_wp2
      go_ret2
      exact ⟨⟨_, rfl, Own.nil _ _⟩, Below.refl _ _⟩
    have h4' : (s.toList == [47]) = false := by rw [toList_data]; exact beq_eq_false_iff_ne.2 h4
    obtain ⟨cl, hcl⟩ : ∃ cl, s.data.toList.getLast? = some cl := by
      cases hd : s.data.toList.getLast? with
      | none => rw [List.getLast?_eq_none_iff, hst] at hd; cases hd
      | some x => exact ⟨x, rfl⟩
    have hixl := fun W => rindex_at (P := Tryz.prog) W 9 s .i64 ((s.size : Int) - 1) (s.size - 1) cl Tryz.underlying9 (by omega) (by rw [List.getLast?_eq_getElem?, hl] at hcl; exact hcl)
    by_cases h5 : cl = 47
    · subst h5
      have eE : parseE s = 110 := by
        unfold parseE
        rw [if_neg]
        intro h
        rcases (rooted_parts h).2.2 with h | h
        · exact h4 h
        · exact h hcl
      have eY : parseY s = [] := by unfold parseY; rw [eE]; rfl
      rw [eE, eY]
      clear hst h4 hcl
      go_enter Tryz.func59, Tryz.ntmps59
      go_wp2
      go_ret2
      exact ⟨⟨_, rfl, Own.nil _ _⟩, Below.refl _ _⟩
    have h5I : ¬ (cl.toNat : Int) = 47 := fun e => h5 (UInt8.toNat_inj.1 (by have : (((47 : UInt8).toNat : Nat) : Int) = 47 := rfl; omega))
    have hr : rooted s.data.toList = true := rooted_mk (by omega) (by rw [hst]; rfl) (.inr fun h => h5 (by rw [hcl] at h; exact Option.some.inj h))
    have eE : parseE s = fault (pcs s) := by unfold parseE; rw [if_pos hr, if_neg h4]
    have eY : fault (pcs s) = 0 → parseY s = pcs s := fun h => by unfold parseY; rw [eE, if_pos h, if_neg h4]
    have eN : fault (pcs s) ≠ 0 → parseY s = [] := fun h => by unfold parseY; rw [eE, if_neg h]
    rw [eE]
    clear hcl h5 h4 eE hr
    generalize cl.toNat = cln at *
    go_enter Tryz.func59, Tryz.ntmps59
    obtain ⟨m, hm⟩ : ∃ m, t.length = m := ⟨_, rfl⟩
    have hsm : s.size = m + 1 := by omega
    have HT : Hid (s.data.toList = 47 :: t) := hst
    have HM : Hid (t.length = m) := hm
    have HSZ : Hid (s.size = m + 1) := hsm
    have HY : Hid (fault (pcs s) = 0 → parseY s = pcs s) := eY
    have HN : Hid (fault (pcs s) ≠ 0 → parseY s = []) := eN
    have hm1 : m ≤ 1023 := by omega
    clear eY eN hst hl htl hm hsm
    go_wp2
    go_loopg [4, 5, 6] (m + 1) (fun gk v f i wr => ∃ (k : Nat) (L : List ByteArray) (a : Nat), k + gk = m + 1 ∧ i = .int .i64 ((k : Int) + 1) ∧ f = .int .i64 (a : Int) ∧ Own wr w.heap.size v L ∧ Hid (Below w.heap.size w wr) ∧ Hid (At t k m L a) ∧ Hid (k = m + 1 → L = (pieces t).map str))
    case atStart => exact ⟨0, [], 1, by omega, rfl, rfl, Own.nil _ _, Below.refl _ _, fun _ => ⟨[], [], rfl, rfl, by simp, Nat.le_refl _, Nat.le_refl _⟩, fun h => by omega⟩
    case round =>
      obtain ⟨k, L, a, hk, rfl, rfl, hown, HW, HA, HE⟩ := hrel
      have HKG : Hid (k + gk = m + 1) := hk
      have hkm : k ≤ m + 1 := by omega
      clear hk
      by_cases hle : k ≤ m
      · obtain ⟨ps, r, hcut, rfl, hra, hrk, hpk⟩ := HA.out hle
        have hleI : (k : Int) + 1 ≤ (s.size : Int) := by rw [HSZ.out]; omega
        have ha1 : a ≤ k + 1 := by omega
        have HR : Hid ((s.data.toList.take (k + 1)).drop a = r) := by
          show _ = _
          have h := cut_drop 47 (t.take k)
          rw [hcut, List.length_take, HM.out, show min k m = k by omega] at h
          rw [HT.out, List.take_succ_cons, show a = (k - r.length) + 1 by omega, List.drop_succ_cons]
          exact h
        have hsl := fun W => slice_part (P := Tryz.prog) W 9 Tryz.underlying9 s a (k + 1) ((k : Int) + 1) r (by omega) ha1 (by rw [HSZ.out]; omega) HR.out
        have hpl : (ps.map str).length ≤ 2000 := by rw [List.length_map]; omega
        have hpb : ((ps.map str).length + [str r].length) * 16 ≤ 140737488355328 := by simp; omega
        by_cases hlast : k = m
        · subst hlast
          have HP : Hid (ps.map str ++ [str r] = (pieces t).map str) := by
            show _ = _
            rw [List.take_of_length_le (by rw [HM.out]; exact Nat.le_refl _)] at hcut
            unfold pieces
            rw [hcut, List.map_append]
            rfl
          have HO1 : Hid _ := hown
          have hkI : (k : Int) + 1 = (s.size : Int) := by rw [HSZ.out]; omega
          rw [hkI] at hsl
          generalize str r = y at *
          generalize ps.map str = L at *
          clear hown hcut HA HE HR hra hrk hpk
          go_wp2_with (at_builtin; refine wpList_app rfl _ _ rfl w.heap.size _ _ L [y] rfl (World.ownsRow.alloc (Own.below (B := w.heap.size) (L := L) HO1.out (Below.refl _ _)) _) rfl (see_new wr _ [y] 1 1 rfl rfl (Nat.le_refl _)) hpb (by have := HW.out.size; simp; omega) ?_; intro v2 w2 ho2 hb2)
          go_roundg (gk - 1)
          case measure => have := HKG.out; omega
          case rel => exact ⟨k + 1, _, k + 2, by have := HKG.out; omega, by go_num, by go_num, ho2, (HW.out.alloc HW.out.size _).trans hb2, fun h => by omega, fun _ => HP.out⟩
        · have hkI : ¬ (k : Int) + 1 = (s.size : Int) := by rw [HSZ.out]; omega
          obtain ⟨x, hx⟩ : ∃ x, t[k]? = some x := ⟨_, List.getElem?_eq_getElem (by have := HM.out; omega)⟩
          have hix := fun W => rindex_at (P := Tryz.prog) W 9 s .i64 ((k : Int) + 1) (k + 1) x Tryz.underlying9 (by omega) (by rw [HT.out, List.getElem?_cons_succ]; exact hx)
          have hst := cut_take 47 t k x hx
          rw [hcut] at hst
          clear hx
          by_cases hxc : x = 47
          · have HA2 : Hid (At t (k + 1) m (ps.map str ++ [str r]) (k + 2)) := fun _ => ⟨ps ++ [r], [], by rw [hst, step, if_pos hxc], by simp, by simp, by simp, by simp; omega⟩
            have hxI : (x.toNat : Int) = 47 := by rw [hxc]; rfl
            have hkB : ((k : Int) + 1 == (s.size : Int)) = false := beq_eq_false_iff_ne.2 hkI
            have HO1 : Hid _ := hown
            generalize str r = y at *
            generalize ps.map str = L at *
            generalize x.toNat = xn at hix hxI
            clear hown hcut HA HE HR hra hrk hpk hst hxc
            go_wp2_with (at_builtin; refine wpList_app rfl _ _ rfl w.heap.size _ _ L [y] rfl (World.ownsRow.alloc (Own.below (B := w.heap.size) (L := L) HO1.out (Below.refl _ _)) _) rfl (see_new wr _ [y] 1 1 rfl rfl (Nat.le_refl _)) hpb (by have := HW.out.size; simp; omega) ?_; intro v2 w2 ho2 hb2)
            go_roundg (gk - 1)
            case measure => have := HKG.out; omega
            case rel => exact ⟨k + 1, _, k + 2, by have := HKG.out; omega, by go_num, by go_num, ho2, (HW.out.alloc HW.out.size _).trans hb2, HA2, fun h => by omega⟩
          · have HA2 : Hid (At t (k + 1) m (ps.map str) a) := fun _ => ⟨ps, r ++ [x], by rw [hst, step, if_neg hxc], rfl, by simp; omega, by simp; omega, by omega⟩
            have hkB : ((k : Int) + 1 == (s.size : Int)) = false := beq_eq_false_iff_ne.2 hkI
            have hxI : ¬ (x.toNat : Int) = 47 := fun e => hxc (UInt8.toNat_inj.1 (by have : (((47 : UInt8).toNat : Nat) : Int) = 47 := rfl; omega))
            generalize str r = y at *
            generalize ps.map str = L at *
            generalize x.toNat = xn at hix hxI
            clear hcut HA HE HR hra hrk hpk hst hxc
            go_wp2
            go_roundg (gk - 1)
            case measure => have := HKG.out; omega
            case rel => exact ⟨k + 1, _, a, by have := HKG.out; omega, by go_num, rfl, hown, HW, HA2, fun h => by omega⟩
      · obtain rfl : k = m + 1 := by omega
        have hleI : ¬ ((m + 1 : Nat) : Int) + 1 ≤ (s.size : Int) := by rw [HSZ.out]; omega
        have hLE := HE.out rfl
        have hLp : L = pcs s := by rw [hLE]; unfold pcs; rw [HT.out]; rfl
        have hLn : L.length ≤ 9223372036854775000 := by
          rw [hLE, List.length_map]
          unfold pieces
          have h2 := cut_len 47 t
          rw [HM.out] at h2
          rw [List.length_append]
          simp
          omega
        subst hLp
        obtain ⟨a4, c4, rfl⟩ := hown.len
        have hf := rnames_any wr _ _ hown.see hLn
        have HO1 : Hid _ := hown
        clear HA HE hLE hown
        by_cases h0 : fault (pcs s) = 0
        · rw [h0] at hf
          go_wp2_with (go_at_call 93; refine hf.mono ?_; rintro e w1 ⟨rfl, hb1⟩)
          go_ret2
          exact ⟨⟨_, by rw [h0]; rfl, by rw [HY.out h0]; exact Own.below HO1.out hb1⟩, HW.out.trans (hb1.mono HW.out.size)⟩
        · have HNN := HN.out h0
          go_wp2_with (go_at_call 93; refine hf.mono ?_; rintro e w1 ⟨rfl, hb1⟩)
          go_ret2
          exact ⟨⟨_, rfl, by rw [HNN]; exact Own.nil _ _⟩, HW.out.trans (hb1.mono HW.out.size)⟩
  · have eE : parseE s = 110 := by
      unfold parseE
      rw [if_neg]
      intro h
      have := (rooted_parts h).2.1
      rw [hst] at this
      simp at this
      exact h3 this
    have eY : parseY s = [] := by unfold parseY; rw [eE]; rfl
    rw [eE, eY]
    have h3I : ¬ (c0.toNat : Int) = 47 := fun e => h3 (UInt8.toNat_inj.1 (by have : (((47 : UInt8).toNat : Nat) : Int) = 47 := rfl; omega))
    generalize c0.toNat = cn at *
    go_enter Tryz.func59, Tryz.ntmps59
    go_wp2
    go_ret2
    exact ⟨⟨_, rfl, Own.nil _ _⟩, Below.refl _ _⟩
end Go.Proofs.YtnfddiabhpandaaGreatDoor.Pa

namespace Go.Proofs.YtnfddiabhpandaaGreatDoor.Tr
open Go.RowKit Go.Lib Go.Deep

theorem box_op (w : World) (a : Array Value) : ∃ W, w.alloc (.cells a 39) = W ∧ Below w.heap.size w W ∧ W.heap[w.heap.size]? = some (.cells a 39 (0, 0)) := one_new w a 39
set_option maxRecDepth 20000 in
set_option maxHeartbeats 4000000 in
theorem wrong_any (w : World) (o : Op) : Calls Tryz.prog 46 #[.agg #[.int .i64 o.kind, .string o.path, .string o.to_, .int .i64 o.at_, .int .i64 o.n, .string o.data]] w fun e w' => e = .returned (.int .i64 (askE o)) ∧ Below w.heap.size w w' := by
  obtain ⟨ok, op, ot, oa, on, od⟩ := o
  simp only
  obtain ⟨W, hW, hb, k0⟩ := box_op w #[.int .i64 ok, .string op, .string ot, .int .i64 oa, .int .i64 on, .string od]
  have HB : Hid (Below w.heap.size w W) := hb
  have HC : Hid (∀ X, Below W.heap.size W X → X.heap[w.heap.size]? = some (.cells #[.int .i64 ok, .string op, .string ot, .int .i64 oa, .int .i64 on, .string od] 39 (0, 0))) := fun X hX => (hX.block _ (heap_lt k0)).trans k0
  obtain ⟨x0, x1, x2, x3, x4, x5⟩ := cells6 k0
  have hp1 := Pa.rparse_any op W
  have HP2 : Hid (∀ X, Calls Tryz.prog 59 #[.string ot] X fun e w' => (∃ u, e = .returned (.tuple #[u, .int .i64 (Pa.parseE ot)]) ∧ Pa.Own w' X.heap.size u (Pa.parseY ot)) ∧ Below X.heap.size X w') := fun X => Pa.rparse_any ot X
  clear hb k0
  by_cases hlo : ok < 1
  · have hE : askE ⟨ok, op, ot, oa, on, od⟩ = 127 := by unfold askE; rw [if_pos (.inl hlo)]
    rw [hE]
    clear hE hp1 HP2
    go_enter Tryz.func46, Tryz.ntmps46
    go_wp2
    go_ret
    exact ⟨rfl, HB.out⟩
  by_cases hhi : 10 < ok
  · have hE : askE ⟨ok, op, ot, oa, on, od⟩ = 127 := by unfold askE; rw [if_pos (.inr hhi)]
    rw [hE]
    clear hE hp1 HP2
    go_enter Tryz.func46, Tryz.ntmps46
    go_wp2
    go_ret
    exact ⟨rfl, HB.out⟩
  have hA0 : askE ⟨ok, op, ot, oa, on, od⟩ = if Pa.parseE op ≠ 0 then Pa.parseE op else if ok = 6 ∧ Pa.parseE ot ≠ 0 then Pa.parseE ot else if ((ok = 3 ∨ ok = 4) ∧ oa < 0) ∨ ((ok = 3 ∨ ok = 5) ∧ on < 0) then 1 else 0 := by
    unfold askE
    rw [if_neg (by simp only; omega)]
  rw [hA0]
  clear hA0
  by_cases he : Pa.parseE op = 0
  · rw [if_neg (fun h => h he)]
    rw [he] at hp1
    by_cases h6 : ok = 6
    · subst h6
      by_cases he2 : Pa.parseE ot = 0
      · rw [if_neg (fun h => h.2 he2), if_neg (by omega)]
        rw [he2] at HP2
        go_enter Tryz.func46, Tryz.ntmps46
        go_wp2_with fail
        refine hp1.mono ?_
        rintro e w1 ⟨⟨u, rfl, -⟩, hb1⟩
        have HB1 : Hid _ := hb1
        clear x0 x1 x2 x3 x4 x5 hp1
        obtain ⟨x0, x1, x2, x3, x4, x5⟩ := cells6 (HC.out w1 hb1)
        clear hb1
        go_wp2_with fail
        refine (HP2.out w1).mono ?_
        rintro e w2 ⟨⟨u2, rfl, -⟩, hb2⟩
        have hb12 := below_on hb2 HB1.out
        have HBE : Hid (Below w.heap.size w w2) := below_on hb12 HB.out
        clear x0 x1 x2 x3 x4 x5
        obtain ⟨x0, x1, x2, x3, x4, x5⟩ := cells6 (HC.out w2 hb12)
        clear hb2 hb12
        go_wp2
        go_ret
        exact ⟨rfl, HBE.out⟩
      · rw [if_pos ⟨rfl, he2⟩]
        have hne : (Pa.parseE ot == 0) = false := by simpa using he2
        generalize Pa.parseE ot = E at *
        go_enter Tryz.func46, Tryz.ntmps46
        go_wp2_with fail
        refine hp1.mono ?_
        rintro e w1 ⟨⟨u, rfl, -⟩, hb1⟩
        have HB1 : Hid _ := hb1
        clear x0 x1 x2 x3 x4 x5 hp1
        obtain ⟨x0, x1, x2, x3, x4, x5⟩ := cells6 (HC.out w1 hb1)
        clear hb1
        go_wp2_with fail
        refine (HP2.out w1).mono ?_
        rintro e w2 ⟨⟨u2, rfl, -⟩, hb2⟩
        have hb12 := below_on hb2 HB1.out
        have HBE : Hid (Below w.heap.size w w2) := below_on hb12 HB.out
        clear x0 x1 x2 x3 x4 x5 hb2 hb12
        go_wp2
        go_ret
        exact ⟨rfl, HBE.out⟩
    · rw [if_neg (fun h => h6 h.1)]
      have h6b : (ok == 6) = false := by simpa using h6
      obtain ⟨z, hz⟩ : ∃ z : Int, (if ((ok = 3 ∨ ok = 4) ∧ oa < 0) ∨ ((ok = 3 ∨ ok = 5) ∧ on < 0) then (1 : Int) else 0) = z := ⟨_, rfl⟩
      have HZ : Hid ((if ((ok = 3 ∨ ok = 4) ∧ oa < 0) ∨ ((ok = 3 ∨ ok = 5) ∧ on < 0) then (1 : Int) else 0) = z) := hz
      rw [hz]
      clear hz HP2
      have hk : ok = 3 ∨ ok = 4 ∨ ok = 5 ∨ (ok ≠ 3 ∧ ok ≠ 4 ∧ ok ≠ 5) := by omega
      rcases hk with rfl | rfl | rfl | ⟨h3, h4, h5⟩
      · by_cases ha : oa < 0
        · obtain rfl : z = 1 := by rw [← HZ.out, if_pos (.inl ⟨.inl rfl, ha⟩)]
          clear HZ
          go_enter Tryz.func46, Tryz.ntmps46
          go_wp2_with fail
          refine hp1.mono ?_
          rintro e w1 ⟨⟨u, rfl, -⟩, hb1⟩
          have HBE : Hid (Below w.heap.size w w1) := below_on hb1 HB.out
          clear x0 x1 x2 x3 x4 x5 hp1
          obtain ⟨x0, x1, x2, x3, x4, x5⟩ := cells6 (HC.out w1 hb1)
          clear hb1
          go_wp2
          go_ret
          exact ⟨rfl, HBE.out⟩
        · by_cases hn : on < 0
          · obtain rfl : z = 1 := by rw [← HZ.out, if_pos (.inr ⟨.inl rfl, hn⟩)]
            clear HZ
            go_enter Tryz.func46, Tryz.ntmps46
            go_wp2_with fail
            refine hp1.mono ?_
            rintro e w1 ⟨⟨u, rfl, -⟩, hb1⟩
            have HBE : Hid (Below w.heap.size w w1) := below_on hb1 HB.out
            clear x0 x1 x2 x3 x4 x5 hp1
            obtain ⟨x0, x1, x2, x3, x4, x5⟩ := cells6 (HC.out w1 hb1)
            clear hb1
            go_wp2
            go_ret
            exact ⟨rfl, HBE.out⟩
          · obtain rfl : z = 0 := by rw [← HZ.out, if_neg (by omega)]
            clear HZ
            go_enter Tryz.func46, Tryz.ntmps46
            go_wp2_with fail
            refine hp1.mono ?_
            rintro e w1 ⟨⟨u, rfl, -⟩, hb1⟩
            have HBE : Hid (Below w.heap.size w w1) := below_on hb1 HB.out
            clear x0 x1 x2 x3 x4 x5 hp1
            obtain ⟨x0, x1, x2, x3, x4, x5⟩ := cells6 (HC.out w1 hb1)
            clear hb1
            go_wp2
            go_ret
            exact ⟨rfl, HBE.out⟩
      · by_cases ha : oa < 0
        · obtain rfl : z = 1 := by rw [← HZ.out, if_pos (.inl ⟨.inr rfl, ha⟩)]
          clear HZ
          go_enter Tryz.func46, Tryz.ntmps46
          go_wp2_with fail
          refine hp1.mono ?_
          rintro e w1 ⟨⟨u, rfl, -⟩, hb1⟩
          have HBE : Hid (Below w.heap.size w w1) := below_on hb1 HB.out
          clear x0 x1 x2 x3 x4 x5 hp1
          obtain ⟨x0, x1, x2, x3, x4, x5⟩ := cells6 (HC.out w1 hb1)
          clear hb1
          go_wp2
          go_ret
          exact ⟨rfl, HBE.out⟩
        · obtain rfl : z = 0 := by rw [← HZ.out, if_neg (by omega)]
          clear HZ
          go_enter Tryz.func46, Tryz.ntmps46
          go_wp2_with fail
          refine hp1.mono ?_
          rintro e w1 ⟨⟨u, rfl, -⟩, hb1⟩
          have HBE : Hid (Below w.heap.size w w1) := below_on hb1 HB.out
          clear x0 x1 x2 x3 x4 x5 hp1
          obtain ⟨x0, x1, x2, x3, x4, x5⟩ := cells6 (HC.out w1 hb1)
          clear hb1
          go_wp2
          go_ret
          exact ⟨rfl, HBE.out⟩
      · by_cases hn : on < 0
        · obtain rfl : z = 1 := by rw [← HZ.out, if_pos (.inr ⟨.inr rfl, hn⟩)]
          clear HZ
          go_enter Tryz.func46, Tryz.ntmps46
          go_wp2_with fail
          refine hp1.mono ?_
          rintro e w1 ⟨⟨u, rfl, -⟩, hb1⟩
          have HBE : Hid (Below w.heap.size w w1) := below_on hb1 HB.out
          clear x0 x1 x2 x3 x4 x5 hp1
          obtain ⟨x0, x1, x2, x3, x4, x5⟩ := cells6 (HC.out w1 hb1)
          clear hb1
          go_wp2
          go_ret
          exact ⟨rfl, HBE.out⟩
        · obtain rfl : z = 0 := by rw [← HZ.out, if_neg (by omega)]
          clear HZ
          go_enter Tryz.func46, Tryz.ntmps46
          go_wp2_with fail
          refine hp1.mono ?_
          rintro e w1 ⟨⟨u, rfl, -⟩, hb1⟩
          have HBE : Hid (Below w.heap.size w w1) := below_on hb1 HB.out
          clear x0 x1 x2 x3 x4 x5 hp1
          obtain ⟨x0, x1, x2, x3, x4, x5⟩ := cells6 (HC.out w1 hb1)
          clear hb1
          go_wp2
          go_ret
          exact ⟨rfl, HBE.out⟩
      · obtain rfl : z = 0 := by rw [← HZ.out, if_neg (by omega)]
        have b3 : (ok == 3) = false := by simpa using h3
        have b4 : (ok == 4) = false := by simpa using h4
        have b5 : (ok == 5) = false := by simpa using h5
        clear HZ
        go_enter Tryz.func46, Tryz.ntmps46
        go_wp2_with fail
        refine hp1.mono ?_
        rintro e w1 ⟨⟨u, rfl, -⟩, hb1⟩
        have HBE : Hid (Below w.heap.size w w1) := below_on hb1 HB.out
        clear x0 x1 x2 x3 x4 x5 hp1
        obtain ⟨x0, x1, x2, x3, x4, x5⟩ := cells6 (HC.out w1 hb1)
        clear hb1
        go_wp2
        go_ret
        exact ⟨rfl, HBE.out⟩
  · rw [if_pos he]
    have hne : (Pa.parseE op == 0) = false := by simpa using he
    generalize Pa.parseE op = E at *
    clear HP2
    go_enter Tryz.func46, Tryz.ntmps46
    go_wp2_with fail
    refine hp1.mono ?_
    rintro e w1 ⟨⟨u, rfl, -⟩, hb1⟩
    have HBE : Hid (Below w.heap.size w w1) := below_on hb1 HB.out
    clear x0 x1 x2 x3 x4 x5 hb1
    go_wp2
    go_ret
    exact ⟨rfl, HBE.out⟩

end Go.Proofs.YtnfddiabhpandaaGreatDoor.Tr
