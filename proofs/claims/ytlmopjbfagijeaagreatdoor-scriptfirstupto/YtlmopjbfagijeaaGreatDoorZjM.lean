import Derived.Test.YtlmopjbfagijeaaGreatDoorZiM
import Derived.Test.YtlmopjbfagijeaaGreatDoorSyJ
namespace Go.Proofs.YtlmopjbfagijeaaGreatDoor.Sc
open Go.RowKit Go.Lib Go.Deep

theorem nl_not {l : List UInt8} (h : Nl l) : (10 : UInt8) ∉ l := fun hm => h 10 hm rfl
theorem run_text {a : List UInt8} {S S' : St} {N N' : Int} (ha : Nl a) (h : lineS S N (str a) = (S', N', 0)) (k : Int) (b : List UInt8) : runS S N k (lnsL (a ++ 10 :: b)) = runS S' N' (k + 1) (lnsL b) := by
  rw [lnsL_cut (nl_not ha)]
  show (if (lineS S N (str a)).2.2 ≠ 0 then _ else _) = _
  rw [h, if_neg (by simp)]
theorem tape_run (s : List UInt8) : ∀ (ks : List Nat) (S : St) (N k : Int) (b : List UInt8), S.pl = 2 → N + (ks.length : Int) ≤ 20000 → runS S N k (lnsL (tapeL s ks ++ b)) = runS { S with tape := S.tape ++ ks.flatMap (pieceL s) } (N + ks.length) (k + ks.length) (lnsL b)
  | [], S, N, k, b, _, _ => by simp [tapeL]
  | i :: ks, S, N, k, b, hpl, hN => by
    have hN' : N + ((ks.length : Int) + 1) ≤ 20000 := by simpa using hN
    have e : tapeL s (i :: ks) ++ b = ([116, 97, 112, 101, 32] ++ hexL (pieceL s i)) ++ 10 :: (tapeL s ks ++ b) := by simp [tapeL]
    have hp : (pieceL s i).length ≤ 64 := by simp [pieceL]; omega
    rw [e, run_text ((Nl.cons (by decide) (Nl.cons (by decide) (Nl.cons (by decide) (Nl.cons (by decide) (Nl.cons (by decide) Nl.nil))))).app (hexL_nl _)) (tape_back S N (pieceL s i) hp hpl (by omega)), tape_run s ks { S with tape := S.tape ++ pieceL s i } _ _ b hpl (by omega)]
    have e1 : N + 1 + (ks.length : Int) = N + ((i :: ks).length : Int) := by simp; omega
    have e2 : k + 1 + (ks.length : Int) = k + ((i :: ks).length : Int) := by simp; omega
    rw [e1, e2]
    simp [List.flatMap_cons]
theorem pieces_all (s : List UInt8) (n : Nat) : (List.range n).flatMap (pieceL s) = s.take (64 * n) := by
  induction n with
  | zero => simp
  | succ n ih =>
    rw [List.range_succ, List.flatMap_append, ih]
    show s.take (64 * n) ++ (pieceL s n ++ []) = _
    rw [List.append_nil]
    unfold pieceL
    rw [show 64 * (n + 1) = 64 * n + 64 by omega, List.take_add]
/-- the state behind the head -/
def headS (p : PlR) : St := ⟨3, p.s, p.f, p.d, p.m, p.l, p.p, p.ideal, p.master, p.tape.data.toList, []⟩
theorem head_run (p : PlR) (hok : p.Ok) (hm : ¬ (p.ideal = true ∧ p.master.size ≠ 0)) (h1 : (sealX p).1 = false) (h2 : (sealX p).2.length ≤ 262144) (hr : 3 + rowsN p ≤ 20000) (b : List UInt8) :
    runS S00 0 1 (lnsL (headL p ++ b)) = runS (headS p) ((3 + rowsN p : Nat) : Int) ((4 + rowsN p : Nat) : Int) (lnsL b) := by
  have e : headL p ++ b = cfgL p ++ 10 :: ((sealX p).2 ++ 10 :: (tapeL p.tape.data.toList (List.range (rowsN p)) ++ ([97, 99, 116, 115] ++ 10 :: b))) := by simp [headL]
  rw [e, run_text (show Nl (cfgL p) from Nl.app (by intro c hc; revert hc; revert c; decide) (nmL_nl _)) (cfgline_back S00 0 p hok.s hok.f hok.d hok.m hok.l hok.p rfl (by decide))]
  obtain ⟨S1, hS1⟩ : ∃ S1 : St, ({ S00 with pl := 1, s := p.s, f := p.f, d := p.d, m := p.m, l := p.l, p := p.p } : St) = S1 := ⟨_, rfl⟩
  rw [hS1]
  have hseal : Nl (sealX p).2 ∧ lineS S1 (0 + 1) (str (sealX p).2) = ({ S1 with pl := 2, ideal := p.ideal, master := p.master }, 0 + 1 + 1, 0) := by
    have hp1 : S1.pl = 1 := by rw [← hS1]
    unfold sealX at h1 h2 ⊢
    by_cases hi : p.ideal = true
    · rw [if_pos hi] at h1 h2 ⊢
      have hme : p.master = nil_ := by
        have : p.master.size = 0 := Classical.byContradiction fun h => hm ⟨hi, h⟩
        rw [size_eq] at this
        exact ByteArray.ext (Array.toList_inj.1 (List.eq_nil_of_length_eq_zero this))
      refine ⟨by intro c hc; revert hc; revert c; decide, ?_⟩
      rw [ideal_back S1 (0 + 1) hp1 (by decide), hi, hme]
      rw [← hS1]
      rfl
    · rw [if_neg hi] at h1 h2 ⊢
      have hif : p.ideal = false := by simpa using hi
      unfold stH at h1 h2 ⊢
      by_cases hl : 262144 < p.master.size
      · rw [if_pos hl] at h1
        cases h1
      · rw [if_neg hl] at h2 ⊢
        refine ⟨Nl.app (by intro c hc; revert hc; revert c; decide) (Nl.cons (by decide) (hexL_nl _)), ?_⟩
        rw [real_back S1 (0 + 1) p.master h2 hp1 (by decide), hif]
        rw [← hS1]
        rfl
  rw [run_text hseal.1 hseal.2, tape_run p.tape.data.toList (List.range (rowsN p)) _ _ _ _ rfl (by rw [List.length_range]; omega), List.length_range]
  rw [run_text (show Nl [97, 99, 116, 115] by intro c hc; revert hc; revert c; decide) (acts_back _ _ rfl (by omega)), pieces_all]
  have et : p.tape.data.toList.take (64 * rowsN p) = p.tape.data.toList := List.take_of_length_le (by rw [← size_eq]; unfold rowsN; omega)
  rw [et, ← hS1]
  have e1 : (0 : Int) + 1 + 1 + (rowsN p : Int) + 1 = ((3 + rowsN p : Nat) : Int) := by omega
  have e2 : (1 : Int) + 1 + 1 + (rowsN p : Int) + 1 = ((4 + rowsN p : Nat) : Int) := by omega
  rw [e1, e2]
  rfl
end Go.Proofs.YtlmopjbfagijeaaGreatDoor.Sc

namespace Go.Proofs.YtlmopjbfagijeaaGreatDoor.Sc
open Go.RowKit Go.Lib Go.Deep

theorem ops_run (T : OpR → List UInt8) : ∀ (L : List OpR) (S : St) (N k : Int) (b : List UInt8), S.pl = 4 → (∀ o ∈ L, o.Ok ∧ OpForm o (T o)) → N + (L.length : Int) ≤ 20000 →
    runS S N k (lnsL (L.flatMap (fun o => T o ++ [10]) ++ b)) = runS { S with V := L.foldl addOp S.V } (N + L.length) (k + L.length) (lnsL b)
  | [], S, N, k, b, _, _, _ => by simp
  | o :: L, S, N, k, b, hpl, hf, hN => by
    have hN' : N + ((L.length : Int) + 1) ≤ 20000 := by simpa using hN
    obtain ⟨hok, f, hm, hk, hb, h1, h2, ht, hnl⟩ := hf o (by simp)
    have e : (o :: L).flatMap (fun o => T o ++ [10]) ++ b = T o ++ 10 :: (L.flatMap (fun o => T o ++ [10]) ++ b) := by simp
    have hl := opline_back S N f hm o hok hk hb h1 h2 hpl (by omega)
    rw [← ht] at hl
    rw [e, run_text hnl hl, ops_run T L { S with V := addOp S.V o } _ _ b hpl (fun x hx => hf x (List.mem_cons_of_mem _ hx)) (by omega)]
    have e1 : N + 1 + (L.length : Int) = N + ((o :: L).length : Int) := by simp; omega
    have e2 : k + 1 + (L.length : Int) = k + ((o :: L).length : Int) := by simp; omega
    rw [e1, e2]
    rfl
theorem addOps_snoc (V : List ActV) (a : ActR) : ∀ (L M : List OpR) (n : Nat), L.foldl addOp (V ++ [({ a with nops := n }, M)]) = V ++ [({ a with nops := n + L.length }, M ++ L)]
  | [], M, n => by simp
  | o :: L, M, n => by
    rw [List.foldl_cons, addOp_snoc]
    have h := addOps_snoc V a L (M ++ [o]) (n + 1)
    rw [show n + 1 + L.length = n + (o :: L).length by simp; omega, show M ++ [o] ++ L = M ++ o :: L by simp] at h
    exact h
/-- an act as it is read back: its list counted, nowhere in memory -/
def pureA (x : ActV) : ActV := ({ x.1 with ops := none, nops := x.2.length, cops := 0 }, x.2)
theorem act_run (T : OpR → List UInt8) (x : ActV) (t : List UInt8) (S : St) (N k : Int) (b : List UInt8) (hpl : S.pl = 3) (hok : x.1.Ok) (hf : ActForm x.1 t) (hL : ∀ o ∈ x.2, o.Ok ∧ OpForm o (T o)) (h0 : x.1.kind ≠ 3 → x.2 = []) (hN : N + (lnsA x : Int) ≤ 20000) :
    runS S N k (lnsL (actText T x t ++ 10 :: b)) = runS { S with V := S.V ++ [pureA x] } (N + lnsA x) (k + lnsA x) (lnsL b) := by
  obtain ⟨f, hm, hk, hb, h1, h2, ht, hnl⟩ := hf
  unfold lnsA at hN ⊢
  have hne : N ≠ 20000 := by
    split at hN
    · have : (0 : Int) ≤ (x.2.length : Int) := by omega
      omega
    · omega
  have hl := actline_back S N f hm x.1 hok hk hb h1 h2 hpl hne
  rw [← ht] at hl
  unfold actText
  by_cases h3 : x.1.kind = 3
  · rw [if_pos h3] at hN ⊢
    rw [if_pos h3]
    rw [if_pos h3] at hl
    have e : t ++ 10 :: (x.2.flatMap (fun o => T o ++ [10]) ++ [101, 110, 100]) ++ 10 :: b = t ++ 10 :: (x.2.flatMap (fun o => T o ++ [10]) ++ ([101, 110, 100] ++ 10 :: b)) := by simp
    rw [e, run_text hnl hl, ops_run T x.2 { S with pl := 4, V := S.V ++ [({ x.1 with ops := none, nops := 0, cops := 0 }, [])] } _ _ _ rfl hL (by omega)]
    rw [run_text (show Nl [101, 110, 100] by intro c hc; revert hc; revert c; decide) (endline_back _ _ rfl (by omega))]
    have hs := addOps_snoc S.V { x.1 with ops := none, cops := 0 } x.2 [] 0
    rw [show (0 + x.2.length) = x.2.length by omega, List.nil_append] at hs
    have e1 : N + 1 + (x.2.length : Int) + 1 = N + ((x.2.length + 2 : Nat) : Int) := by omega
    have e2 : k + 1 + (x.2.length : Int) + 1 = k + ((x.2.length + 2 : Nat) : Int) := by omega
    rw [e1, e2]
    have hpure : pureA x = ({ x.1 with ops := none, nops := x.2.length, cops := 0 }, x.2) := rfl
    rw [hpure]
    obtain ⟨pl, s, f, d, m, l, p, i, ma, ta, V⟩ := S
    dsimp only at hpl hs ⊢
    subst hpl
    rw [hs]
  · rw [if_neg h3] at hN ⊢
    rw [if_neg h3]
    rw [if_neg h3] at hl
    rw [run_text hnl hl]
    have hpure : pureA x = ({ x.1 with ops := none, nops := 0, cops := 0 }, []) := by
      unfold pureA
      rw [h0 h3]
      rfl
    rw [hpure]
    obtain ⟨pl, s, f, d, m, l, p, i, ma, ta, V⟩ := S
    dsimp only at hpl ⊢
    subst hpl
    rfl
end Go.Proofs.YtlmopjbfagijeaaGreatDoor.Sc

namespace Go.Proofs.YtlmopjbfagijeaaGreatDoor.Sc
open Go.RowKit Go.Lib Go.Deep

/-- what is asked of an act's text to be read back -/
structure Back (T : OpR → List UInt8) (x : ActV) (t : List UInt8) (txt : List UInt8) : Prop where
  ok : x.1.Ok
  form : ActForm x.1 t
  ops : ∀ o ∈ x.2, o.Ok ∧ OpForm o (T o)
  alone : x.1.kind ≠ 3 → x.2 = []
  text : txt = actText T x t
theorem acts_run (T : OpR → List UInt8) (Tx : ActV → List UInt8) (G : ActV → List UInt8) : ∀ (V : List ActV) (S : St) (N k : Int) (b : List UInt8), S.pl = 3 → (∀ x ∈ V, Back T x (Tx x) (G x)) → N + (lnsT V : Int) ≤ 20000 →
    runS S N k (lnsL (V.flatMap (fun x => G x ++ [10]) ++ b)) = runS { S with V := S.V ++ V.map pureA } (N + lnsT V) (k + lnsT V) (lnsL b)
  | [], S, N, k, b, _, _, _ => by simp [lnsT]
  | x :: V, S, N, k, b, hpl, hf, hN => by
    have el : lnsT (x :: V) = lnsA x + lnsT V := by simp [lnsT]
    rw [el] at hN ⊢
    obtain ⟨hok, hfm, hops, hal, htx⟩ := hf x (by simp)
    have e : (x :: V).flatMap (fun x => G x ++ [10]) ++ b = actText T x (Tx x) ++ 10 :: (V.flatMap (fun x => G x ++ [10]) ++ b) := by
      rw [← htx]
      simp
    rw [e, act_run T x (Tx x) S N k _ hpl hok hfm hops hal (by omega), acts_run T Tx G V { S with V := S.V ++ [pureA x] } _ _ b hpl (fun y hy => hf y (List.mem_cons_of_mem _ hy)) (by omega)]
    have e1 : N + (lnsA x : Int) + (lnsT V : Int) = N + ((lnsA x + lnsT V : Nat) : Int) := by omega
    have e2 : k + (lnsA x : Int) + (lnsT V : Int) = k + ((lnsA x + lnsT V : Nat) : Int) := by omega
    rw [e1, e2]
    simp
/-- a play's text, read back -/
theorem play_run (T : OpR → List UInt8) (Tx : ActV → List UInt8) (p : PlR) (V : List ActV) (hok : p.Ok) (hm : ¬ (p.ideal = true ∧ p.master.size ≠ 0)) (h1 : (sealX p).1 = false) (h2 : (sealX p).2.length ≤ 262144) (hr : 3 + rowsN p + lnsT V ≤ 20000) (hV : ∀ x ∈ V, Back T x (Tx x) (prA x).1.data.toList) :
    runS S00 0 1 (lnsL (headL p ++ actsT V)) = ({ headS p with V := V.map pureA }, 0, 0) := by
  rw [head_run p hok hm h1 h2 (by omega)]
  have e : actsT V = V.flatMap (fun x => (fun x => (prA x).1.data.toList) x ++ [10]) ++ [] := by simp [actsT]
  rw [e, acts_run T Tx (fun x => (prA x).1.data.toList) V (headS p) _ _ [] rfl hV (by omega)]
  exact if_pos rfl
/-- what is read back is the same, its lists elsewhere -/
theorem pure_moved (V : List ActV) (hn : ∀ x ∈ V, x.2.length = x.1.nops) : Moved (V.map pureA) V := by
  refine ⟨by simp, fun i x hx => ?_⟩
  rw [List.getElem?_map] at hx
  cases h : V[i]? with
  | none => rw [h] at hx; cases hx
  | some y =>
    rw [h] at hx
    obtain rfl := Option.some.inj hx
    refine ⟨y.1.ops, y.1.cops, ?_⟩
    have := hn y (List.mem_of_getElem? h)
    unfold pureA
    dsimp only
    rw [this]
theorem moved_back {U V W : List ActV} (h : Moved U V) (h2 : Moved U W) : Moved V W := by
  refine ⟨h2.1.trans h.1.symm, fun i x hx => ?_⟩
  have hi : i < U.length := by have := (List.getElem?_eq_some_iff.1 hx).1; rw [h.1] at this; exact this
  obtain ⟨u, hu⟩ : ∃ u, U[i]? = some u := ⟨_, List.getElem?_eq_getElem hi⟩
  obtain ⟨a, c, e⟩ := h.2 i u hu
  obtain ⟨a2, c2, e2⟩ := h2.2 i u hu
  rw [hx] at e
  obtain rfl := Option.some.inj e
  exact ⟨a2, c2, e2⟩
end Go.Proofs.YtlmopjbfagijeaaGreatDoor.Sc

namespace Go.Proofs.YtlmopjbfagijeaaGreatDoor.Sc
open Go.RowKit Go.Lib Go.Deep

noncomputable def txA (x : ActV) : List UInt8 := Classical.epsilon fun t => ActForm x.1 t ∧ (prA x).1.data.toList = actText prT x t
theorem firA_zero : ∀ (V : List ActV), firA V = 0 → ∀ x ∈ V, (prA x).2 = 0
  | [], _, x, hx => by cases hx
  | y :: V, h, x, hx => by
    unfold firA at h
    by_cases h0 : (prA y).2 = 0
    · rw [if_pos h0] at h
      rcases List.mem_cons.1 hx with rfl | hx
      · exact h0
      · exact firA_zero V h x hx
    · rw [if_neg h0] at h
      exact absurd h h0
theorem firE_zero : ∀ (L : List OpR), firE L = 0 → ∀ o ∈ L, (prO o).2 = 0
  | [], _, x, hx => by cases hx
  | y :: V, h, x, hx => by
    unfold firE at h
    by_cases h0 : (prO y).2 = 0
    · rw [if_pos h0] at h
      rcases List.mem_cons.1 hx with rfl | hx
      · exact h0
      · exact firE_zero V h x hx
    · rw [if_neg h0] at h
      exact absurd h h0
theorem back_all (V : List ActV) (hV : VOk V) (h : firA V = 0) : ∀ x ∈ V, Back prT x (txA x) (prA x).1.data.toList := by
  intro x hx
  have hk := hV.each x hx
  have hf := (prA_pa x hk).form (firA_zero V h x hx)
  obtain ⟨hform, htext⟩ := Classical.epsilon_spec hf.text
  refine ⟨hk.1, hform, fun o ho => ⟨hk.2.1 o ho, ?_⟩, hf.alone, htext⟩
  by_cases h3 : x.1.kind = 3
  · exact (prO_full o (hk.2.1 o ho)).2.2.2 (firE_zero x.2 (hf.fir h3) o ho)
  · rw [hf.alone h3] at ho
    cases ho
/-- what Print writes, Parse reads -/
theorem print_run (p : PlR) (V : List ActV) (hok : p.Ok) (hV : VOk V) (t : ByteArray) (h : printV p V = .tuple #[.string t, .int .i64 0]) :
    runS S00 0 1 (lnsL t.data.toList) = ({ headS p with V := V.map pureA }, 0, 0) := by
  unfold printV at h
  split at h
  · simp at h
  · rename_i hm
    split at h
    · simp at h
    · rename_i hs
      split at h
      · rename_i hf
        simp at h
        exact absurd h.2 hf
      · rename_i hf
        split at h
        · simp at h
        · rename_i hr
          have ht : t = str (headL p ++ actsT V) := by simpa using h.symm
          have hf0 : firA V = 0 := Classical.byContradiction hf
          rw [ht, str_data]
          exact play_run prT txA p V hok hm (by simpa using (fun e => hs (Or.inl e))) (Nat.le_of_not_lt (fun e => hs (Or.inr e))) (by omega) (back_all V hV hf0)
end Go.Proofs.YtlmopjbfagijeaaGreatDoor.Sc
