import Derived.Test.YtpjigcccjiidpaaExHa
namespace Go.Proofs.Ytpjigcccjiidpaa.Ex
open Go.RowKit Go.Lib Go.Deep

/-- a law's call: slots, steps of effects, contents -/
theorem law_call (V : World) (sl : List Sl) (Sa : Array Value) (k : Nat) (hk : sl.length = k) (hSa : Sa.toList = slsC sl) (E : List Ef) (a : Option Addr) (n c : Nat) (hE : See V 7 (.slice a n c) n (efsC E)) (hn : E.length = n) (hn6 : n ≤ 1000) (cs : List (List UInt8)) (Ca : Array Value) (m : Nat) (hm : cs.length = m) (hCa : Ca.toList = scC (cs.map str)) (hk6 : k ≤ 1000) (hw1 : ∀ s ∈ sl, wf s.wa ∧ wf s.fi) (hw2 : ∀ e ∈ E, EfW e) (hc : ∀ c ∈ cs, c.length ≤ 549755813888) :
    ∃ W1, V.alloc (.cells Sa 35) = W1 ∧ Calls Try.prog 10 #[.slice a n c] W1 fun e w3 => ∃ a3 c3, e = .returned (.slice a3 n c3) ∧ ∃ W2, w3.alloc (.cells Ca 9) = W2 ∧
      Calls Try.prog 9 #[.agg #[.slice (some ⟨V.heap.size, 0, none⟩) k k, .slice a3 n c3], .slice (some ⟨w3.heap.size, 0, none⟩) m m] W2 fun e w4 => ApP W2 n (E.map mk0) (app sl (E.map mkS) cs) e w4 ∧ Hid (Below V.heap.size V w4) := by
  obtain ⟨W1, hW1, hb1, k1⟩ := one_new V Sa 35
  refine ⟨W1, hW1, (steps_any W1 a n c E (hE.below hb1) hn (by omega)).mono ?_⟩
  rintro e w3 ⟨a3, c3, rfl, hown, hb3⟩
  obtain ⟨W2, hW2, hb2, k2⟩ := one_new w3 Ca 9
  have hb12 : Below W1.heap.size W1 W2 := hb3.trans (hb2.mono hb3.size)
  have s1 : See W2 4 (.slice (some ⟨V.heap.size, 0, none⟩) k k) k (slsC sl) := by
    rw [← hSa]
    exact see_blk ((hb12.block _ (heap_lt k1)).trans k1) (by rw [hSa, show slsC sl = sl.flatMap slC from rfl, flat_len slC 4 slC_len, hk]) (by rw [hSa]; exact sls_one sl)
  have s2 : See W2 13 (.slice a3 n c3) n (stsC (E.map mk0)) := see_own (owns_below hown hb2) (sts_one _)
  have s3 : See W2 1 (.slice (some ⟨w3.heap.size, 0, none⟩) m m) m (scC (cs.map str)) := by
    rw [← hCa]
    exact see_blk k2 (by rw [hCa]; simp [scC, hm]) (by rw [hCa]; exact sc_one _)
  have hmem : ∀ x ∈ E.map mk0, EfW x.s.e ∧ x.v = ⟨none, 0, 0⟩ ∧ x.nm = [] := fun x hx => by
    obtain ⟨e, he, rfl⟩ := List.mem_map.1 hx
    exact ⟨hw2 e he, rfl, rfl⟩
  refine ⟨a3, c3, rfl, W2, hW2, (apply_any sl (E.map mk0) cs W2 (some ⟨V.heap.size, 0, none⟩) a3 (some ⟨w3.heap.size, 0, none⟩) k k n c3 m m s1 hk s2 (by rw [List.length_map]; exact hn) s3 hm (by omega) (by omega) hw1 (fun x hx => (hmem x hx).1) (fun x hx => ?_) (fun x hx => ?_) hc).mono ?_⟩
  · rw [(hmem x hx).2.1]; show 0 ≤ _; omega
  · rw [(hmem x hx).2.1, (hmem x hx).2.2]; exact see_nil _ _
  · intro e w4 h
    rw [mk0_s] at h
    have h1 := hb1.trans (hb12.mono hb1.size)
    exact ⟨h, h1.trans (h.1.mono h1.size)⟩
/-! the effects of ExecLives -/
def lvE (d : List UInt8) (st ag : Bool) : List Ef := [⟨1, 7, 0, 0, 0, [], 0⟩, ⟨3, 7, 0, 0, 0, d, (d.length : Int)⟩, ⟨6, 7, 3, 0, 0, [], 0⟩] ++ (if st then [] else [⟨5, 7, 0, 0, 0, [], 0⟩]) ++ (if ag then [⟨1, 3, 0, 0, 0, [], 0⟩] else [])
theorem lv_three (s d : List UInt8) (hd : d.length ≤ 60) (R : List Sp) : goL [(3, s)] (([⟨1, 7, 0, 0, 0, [], 0⟩, ⟨3, 7, 0, 0, 0, d, (d.length : Int)⟩, ⟨6, 7, 3, 0, 0, [], 0⟩] : List Ef).map mkS ++ R) = (goL [(7, d)] R).map fun q => (q.1, zRs :: zRs :: zRs :: q.2) := by
  have m1 : may [(3, s)] ⟨1, 7, 0, 0, 0, [], 0⟩ = true := by simp [may, fnd]
  have b1 : beh [(3, s)] ⟨1, 7, 0, 0, 0, [], 0⟩ = [(3, s), (7, [])] := by simp [beh, wi, wo]
  have f2 : fnd [(3, s), (7, [])] 7 = some [] := by simp [fnd]
  have z2 : szI [] 0 d = (d.length : Int) := by
    unfold szI
    split
    · rename_i h; rw [h]
    · simp
  have m2 : may [(3, s), (7, [])] ⟨3, 7, 0, 0, 0, d, (d.length : Int)⟩ = true := by
    unfold may
    dsimp only
    rw [if_neg (by omega), if_neg (by omega), if_pos rfl, f2]
    simp only [decide_eq_true_eq]
    exact ⟨by omega, by omega, z2.symm⟩
  have w2 : wrt [] 0 d = d := by
    unfold wrt
    split
    · rename_i h; rw [h]
    · unfold lay
      have : (resz [] (szw [] 0 d)).length = d.length := by
        rw [resz_len]
        unfold szw
        split
        · rename_i h; rw [h]
        · simp
      rw [List.take_zero, List.nil_append, List.drop_of_length_le (by omega), List.append_nil]
  have b2 : beh [(3, s), (7, [])] ⟨3, 7, 0, 0, 0, d, (d.length : Int)⟩ = [(3, s), (7, d)] := by
    unfold beh ctt
    dsimp only
    rw [if_neg (by omega), if_pos rfl, f2]
    show wi _ _ (wrt [] 0 d) = _
    rw [w2]
    simp [wi, wo]
  have m3 : may [(3, s), (7, d)] ⟨6, 7, 3, 0, 0, [], 0⟩ = true := by simp [may, fnd]
  have b3 : beh [(3, s), (7, d)] ⟨6, 7, 3, 0, 0, [], 0⟩ = [(7, d)] := by simp [beh, wo]
  have r : ∀ L e, e.kd ≠ 2 → rdD L e [] = [] := fun L e h => by unfold rdD; rw [if_neg h]
  have g : ∀ L e, e.kd ≠ 0 → e.kd ≠ 2 → may L e = true → go1 L (mkS e) = some (beh L e, zRs) := fun L e h0 h2 hm => by
    rw [go1_yes rfl h0 hm]
    show some (beh L e, (⟨0, rdD L e [], 0, 0, 0⟩ : Rs)) = _
    rw [r L e h2]
    rfl
  show goL [(3, s)] (mkS ⟨1, 7, 0, 0, 0, [], 0⟩ :: mkS ⟨3, 7, 0, 0, 0, d, (d.length : Int)⟩ :: mkS ⟨6, 7, 3, 0, 0, [], 0⟩ :: R) = _
  rw [goL, g _ _ (by decide) (by decide) m1, Option.bind_some]
  dsimp only
  rw [b1, goL, g _ _ (by simp) (by simp) m2, Option.bind_some]
  dsimp only
  rw [b2, goL, g _ _ (by decide) (by decide) m3, Option.bind_some]
  dsimp only
  rw [b3]
  cases goL [(7, d)] R <;> rfl
theorem lv_app (s d : List UInt8) (hd : d.length ≤ 60) (st ag : Bool) : ∃ rs, app [⟨0, -1, if st then 7 else -1, 0⟩, ⟨0, 3, if ag then 3 else -1, 0⟩] ((lvE d st ag).map mkS) [[], s] = some (rs, [if st then d else [], []]) := by
  unfold app lvE
  rw [if_pos (by rfl)]
  have ho : ∀ x y, opn [] (([⟨0, -1, x, 0⟩, ⟨0, 3, y, 0⟩] : List Sl).zip [[], s]) = some [(3, s)] := fun x y => by simp [opn, wi, wo, fnd]
  rw [ho, Option.bind_some, List.append_assoc, List.map_append, lv_three s d hd]
  cases st <;> cases ag <;> simp [goL, go1, idle, mkS, may, fnd, beh, wi, wo, cls, rdD]
theorem lv_wrong (s d : List UInt8) (hd : d.length ≤ 60) (st ag : Bool) : app [⟨0, -1, if st then 7 else -1, 0⟩, ⟨0, 3, if ag then -1 else 3, 0⟩] ((lvE d st ag).map mkS) [[], s] = none := by
  unfold app lvE
  rw [if_pos (by rfl)]
  have ho : ∀ x y, opn [] (([⟨0, -1, x, 0⟩, ⟨0, 3, y, 0⟩] : List Sl).zip [[], s]) = some [(3, s)] := fun x y => by simp [opn, wi, wo, fnd]
  rw [ho, Option.bind_some, List.append_assoc, List.map_append, lv_three s d hd]
  cases st <;> cases ag <;> simp [goL, go1, idle, mkS, may, fnd, beh, wi, wo, cls, rdD]
theorem lv_x (s : List UInt8) (x y : Int) (E : List Sp) : app [⟨0, -1, x, 0⟩, ⟨0, 3, y, 0⟩] E [[120], s] = none := by
  unfold app
  rw [if_pos (by rfl)]
  simp [opn]
end Go.Proofs.Ytpjigcccjiidpaa.Ex
