import Derived.Test.YthmjjpaengackaaRlG0
import Derived.Deep.DeepAppendWide
namespace Go.Proofs.Ythmjjpaengackaa.Po
open Go.RowKit Go.Lib Go.Deep

/-! lists as long as they may come in -/
set_option maxRecDepth 20000 in
/-- a list that can be read is appended to a row of the call's own -/
theorem wpList_appW {w : World} {ops : Array Oper} {rest : List Oper} {o : Oper} {a : Act} {Q : Exit → Act → World → Prop} (hgd : o.guard = none) (s x : Operand) (t e : TypeId)
    (ho : o.op = .call { callee := .builtin .append, args := #[s, x], argTypes := #[t, t] }) (z : Value) (sz by_ : Nat) (ht : Try.prog.underlying t = some (.slice e)) (hinf : (Try.prog.info? e).map (fun i => (i.zero, i.size, i.bytes)) = some (some z, sz, by_)) (hzs : z.cells.size = sz) (hsz : 0 < sz)
    (B : Nat) (v xv : Value) (nA nL : Nat) (A L : List Value) (hs : a.eval s = v) (hown : w.ownsRow B e sz v nA A) (hx : a.eval x = xv) (hL : See w sz xv nL L) (h63 : nA + nL ≤ maxLen) (hb : ((nA + nL) + (nA + nL) / 4 + 192) * by_ ≤ 281474976710656) (hB : B ≤ w.heap.size)
    (h : ∀ v' w', w'.ownsRow B e sz v' (nA + nL) (A ++ L) → w.grownBy w' v.ownBlock → wpList Try.prog ops Q rest (a.put o.dst v') w') : wpList Try.prog ops Q (o :: rest) a w := by
  obtain ⟨i0, hi, hz0, hz1, hz2⟩ := info_parts hinf
  obtain ⟨hlen, hone, ad, c, rfl, hc, hnil, hcell⟩ := hL
  cases ad with
  | none =>
    obtain rfl := hnil rfl
    obtain rfl : nL = 0 := by omega
    obtain rfl : L = [] := List.eq_nil_of_length_eq_zero (by rw [hlen]; omega)
    refine wpList_append_own_none hgd s x t ho B e i0 sz ht hi v nA A hs hown hx ?_
    exact h v w (by rw [List.append_nil]; exact hown) ⟨rfl, rfl, rfl, Nat.le_refl _, fun _ _ _ => rfl⟩
  | some ad =>
    refine wpList_append_own_wide w hgd s x t ho B e i0 z sz by_ ht hi hz0 hz1 hz2 hzs hsz v nA A hs hown ad nL c L hx hlen
      (fun j u hu => ?_) hone h63 hb hB (fun v' w' ho' hg _ => h v' w' ho' hg)
    have hn : 0 < nL := by
      have := (List.getElem?_eq_some_iff.1 hu).1
      rw [hlen] at this
      rcases Nat.eq_zero_or_pos nL with h0 | h0
      · rw [h0] at this; omega
      · exact h0
    obtain ⟨b, off, e, _, hcc⟩ := hcell hn
    injection e with e
    subst e
    rw [Addr.add_lit]
    exact hcc j u hu
set_option maxRecDepth 20000 in
set_option maxHeartbeats 1000000 in
theorem twinRowsW_any (w : World) (v : Value) (n : Nat) (A : List Ob) (ha : See w 4 v n (obsC A)) (hn : n ≤ 2932031007402) : Calls Try.prog 44 #[v] w fun e w' => ∃ a c, e = .returned (.slice a n c) ∧ w'.ownsRow w.heap.size 35 4 (.slice a n c) n (obsC A) ∧ Below w.heap.size w w' := by
  have hl := ha.len
  have HA : Hid (See w 4 v n (obsC A)) := ha
  obtain ⟨a1, c1, rfl⟩ := ha.form
  have HL : Hid (A.length = n) := hl
  clear hl ha
  go_enter Try.func44, Try.ntmps44
  go_wp2_with fail
  go_loopg [3, 4] n (fun gk bv iv wr => ∃ (k : Nat) (ba : Option Addr) (bc : Nat), k + gk = n ∧ iv = .int .i64 (k : Int) ∧ bv = .slice ba k bc ∧ Hid (wr.ownsRow w.heap.size 35 4 (.slice ba k bc) k (obsC (A.take k))) ∧ Hid (Below w.heap.size w wr))
  case atStart => exact ⟨0, none, 0, by omega, rfl, rfl, ⟨by simp [obsC], .inl ⟨rfl, rfl⟩⟩, Below.refl _ _⟩
  case round =>
    obtain ⟨k, ba, bc, hk, rfl, rfl, HB, HW⟩ := hrel
    have HKG : Hid (k + gk = n) := hk
    have hkn : k ≤ n := by omega
    clear hk
    by_cases hlt : k < n
    · have hltI : (k : Int) < (n : Int) := by omega
      obtain ⟨x, hx⟩ : ∃ x, A[k]? = some x := ⟨_, List.getElem?_eq_getElem (by have := HL.out; omega)⟩
      obtain ⟨g1, o1, rfl, r0, r1, r2, r3⟩ := (HA.out.below HW.out).ob hx HL.out
      have HX : Hid (A[k]? = some x) := hx
      obtain ⟨W8, hW8, f3, -⟩ := one_new wr #[.string x.nm, .string x.tg, .int .i64 x.bk, .int .i64 x.ow] 35
      have f2 : See (wr.alloc (.cells #[.string x.nm, .string x.tg, .int .i64 x.bk, .int .i64 x.ow] 35)) 4 (.slice (some ⟨wr.heap.size, 0, none⟩) 1 1) 1 (obC x) := see_one rfl (obC_one x)
      have f1 := HB.out.alloc (.cells #[.string x.nm, .string x.tg, .int .i64 x.bk, .int .i64 x.ow] 35)
      rw [hW8] at f1 f2
      have HO8 : Hid (W8.ownsRow w.heap.size 35 4 (.slice ba k bc) k (obsC (A.take k))) := f1
      have HNW : Hid (See W8 4 (.slice (some ⟨wr.heap.size, 0, none⟩) 1 1) 1 (obC x)) := f2
      have hz : k + 1 ≤ maxLen ∧ (k + 1) * 48 ≤ 140737488355328 ∧ w.heap.size ≤ W8.heap.size := ⟨by unfold maxLen; omega, by omega, Nat.le_trans HW.out.size f3.size⟩
      have HBW : Hid (Below w.heap.size w W8) := HW.out.trans (f3.mono HW.out.size)
      clear hx f1 f2 f3
      obtain ⟨n1, t1, b1, w1⟩ := x
      dsimp only at *
      go_wp2_with (first | (at_builtin; (try rw [hW8]); refine wpList_app rfl _ _ 27 35 rfl _ 4 48 Try.underlying27 infoOb rfl (by decide) w.heap.size _ _ k 1 _ _ rfl HO8.out rfl HNW.out hz.1 hz.2.1 hz.2.2 ?_; intro v' w3 hown3 hgrow3; obtain ⟨a3, c3, rfl⟩ := owns_form hown3; have HO3 : Hid _ := hown3; have HG3 : Hid _ := hgrow3; clear hown3 hgrow3) | go_in)
      go_roundg (gk - 1)
      case measure => have := HKG.out; omega
      case rel =>
        refine ⟨k + 1, a3, c3, by have := HKG.out; omega, by go_num, rfl, ?_, HBW.out.trans (grown_base HG3.out hz.2.2 HO8.out)⟩
        have e : A.take (k + 1) = A.take k ++ [⟨n1, t1, b1, w1⟩] := by rw [List.take_add_one, HX.out]; rfl
        rw [e, obsC_snoc]
        exact HO3.out
    · obtain rfl : k = n := by omega
      have hltI : ¬ (k : Int) < (k : Int) := by omega
      go_wp2
      go_ret
      refine ⟨_, _, rfl, ?_, HW.out⟩
      have := HB.out
      rw [← HL.out, List.take_length, HL.out] at this
      exact this
set_option maxRecDepth 20000 in
set_option maxHeartbeats 1000000 in
theorem twinIntsW_any (w : World) (v : Value) (n : Nat) (A : List Int) (ha : See w 1 v n (zsC A)) (hn : n ≤ 17592186044416) : Calls Try.prog 45 #[v] w fun e w' => ∃ a c, e = .returned (.slice a n c) ∧ w'.ownsRow w.heap.size 3 1 (.slice a n c) n (zsC A) ∧ Below w.heap.size w w' := by
  have hl := ha.lenz
  have HA : Hid (See w 1 v n (zsC A)) := ha
  obtain ⟨a1, c1, rfl⟩ := ha.form
  have HL : Hid (A.length = n) := hl
  clear hl ha
  go_enter Try.func45, Try.ntmps45
  go_wp2_with fail
  go_loopg [3, 4] n (fun gk bv iv wr => ∃ (k : Nat) (ba : Option Addr) (bc : Nat), k + gk = n ∧ iv = .int .i64 (k : Int) ∧ bv = .slice ba k bc ∧ Hid (wr.ownsRow w.heap.size 3 1 (.slice ba k bc) k (zsC (A.take k))) ∧ Hid (Below w.heap.size w wr))
  case atStart => exact ⟨0, none, 0, by omega, rfl, rfl, ⟨by simp [zsC], .inl ⟨rfl, rfl⟩⟩, Below.refl _ _⟩
  case round =>
    obtain ⟨k, ba, bc, hk, rfl, rfl, HB, HW⟩ := hrel
    have HKG : Hid (k + gk = n) := hk
    have hkn : k ≤ n := by omega
    clear hk
    by_cases hlt : k < n
    · have hltI : (k : Int) < (n : Int) := by omega
      obtain ⟨x, hx⟩ : ∃ x, A[k]? = some x := ⟨_, List.getElem?_eq_getElem (by have := HL.out; omega)⟩
      obtain ⟨g1, o1, rfl, r0⟩ := (HA.out.below HW.out).z hx HL.out
      have HX : Hid (A[k]? = some x) := hx
      obtain ⟨W8, hW8, f3, -⟩ := one_new wr #[.int .i64 x] 3
      have f2 : See (wr.alloc (.cells #[.int .i64 x] 3)) 1 (.slice (some ⟨wr.heap.size, 0, none⟩) 1 1) 1 [.int .i64 x] := see_one rfl (zsC_one [x])
      have f1 := HB.out.alloc (.cells #[.int .i64 x] 3)
      rw [hW8] at f1 f2
      have HO8 : Hid (W8.ownsRow w.heap.size 3 1 (.slice ba k bc) k (zsC (A.take k))) := f1
      have HNW : Hid (See W8 1 (.slice (some ⟨wr.heap.size, 0, none⟩) 1 1) 1 [.int .i64 x]) := f2
      have hz : k + 1 ≤ maxLen ∧ (k + 1) * 8 ≤ 140737488355328 ∧ w.heap.size ≤ W8.heap.size := ⟨by unfold maxLen; omega, by omega, Nat.le_trans HW.out.size f3.size⟩
      have HBW : Hid (Below w.heap.size w W8) := HW.out.trans (f3.mono HW.out.size)
      clear hx f1 f2 f3
      go_wp2_with (first | (at_builtin; (try rw [hW8]); refine wpList_app rfl _ _ 23 3 rfl _ 1 8 Try.underlying23 info3 rfl (by decide) w.heap.size _ _ k 1 _ _ rfl HO8.out rfl HNW.out hz.1 hz.2.1 hz.2.2 ?_; intro v' w3 hown3 hgrow3; obtain ⟨a3, c3, rfl⟩ := owns_form hown3; have HO3 : Hid _ := hown3; have HG3 : Hid _ := hgrow3; clear hown3 hgrow3) | go_in)
      go_roundg (gk - 1)
      case measure => have := HKG.out; omega
      case rel =>
        refine ⟨k + 1, a3, c3, by have := HKG.out; omega, by go_num, rfl, ?_, HBW.out.trans (grown_base HG3.out hz.2.2 HO8.out)⟩
        have e : A.take (k + 1) = A.take k ++ [x] := by rw [List.take_add_one, HX.out]; rfl
        rw [e, zsC_snoc]
        exact HO3.out
    · obtain rfl : k = n := by omega
      have hltI : ¬ (k : Int) < (k : Int) := by omega
      go_wp2
      go_ret
      refine ⟨_, _, rfl, ?_, HW.out⟩
      have := HB.out
      rw [← HL.out, List.take_length, HL.out] at this
      exact this
end Go.Proofs.Ythmjjpaengackaa.Po
