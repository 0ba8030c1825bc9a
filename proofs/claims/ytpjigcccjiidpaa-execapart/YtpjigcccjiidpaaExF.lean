import Derived.Test.YtpjigcccjiidpaaExEb
import Derived.Test.YtpjigcccjiidpaaExDi
namespace Go.Proofs.Ytpjigcccjiidpaa.Ex
open Go.RowKit Go.Lib Go.Deep

/-- a content behind a write or a cut -/
def run1 (s : List UInt8) (e : Ef) : List UInt8 := if e.kd = 4 then resz s e.n.toNat else wrt s e.at_.toNat e.da
def runs (s : List UInt8) (l : List Ef) : List UInt8 := l.foldl run1 s
theorem runs_snoc (s : List UInt8) (l : List Ef) (e : Ef) : runs s (l ++ [e]) = run1 (runs s l) e := by simp [runs]
theorem runs_app (s : List UInt8) (l r : List Ef) : runs s (l ++ r) = runs (runs s l) r := by simp [runs]
/-- an effect of an edit -/
structure IsE (file : Int) (s : List UInt8) (e : Ef) (z : Nat) : Prop where
  kd : e.kd = 3 ∨ e.kd = 4
  fl : e.fl = file
  gn : e.gn = 0
  at_ : 0 ≤ e.at_ ∧ e.at_ ≤ 200
  n : 0 ≤ e.n ∧ e.n ≤ 200
  da : e.da.length ≤ 60
  len : (run1 s e).length = z
  may : ∀ L, fnd L file = some s → may L e = true
theorem edE_is (file : Int) (e : Ed) (s : List UInt8) : IsE file s (edE file e s.length) (edZ file e s.length) := by
  have hsz := edE_sz file e s.length
  unfold edE at hsz ⊢
  have hn0 : 0 ≤ e.n % 201 := Int.emod_nonneg _ (by decide)
  have hn1 : e.n % 201 < 201 := Int.emod_lt_of_pos _ (by decide)
  have ha0 : 0 ≤ e.at_ % 201 := Int.emod_nonneg _ (by decide)
  have ha1 : e.at_ % 201 < 201 := Int.emod_lt_of_pos _ (by decide)
  have hdl : (e.da.take 60).length ≤ 60 := by rw [List.length_take]; omega
  by_cases hc : e.cut = true
  · rw [if_pos hc] at hsz ⊢
    dsimp only at hsz
    refine ⟨.inr rfl, rfl, rfl, ⟨by dsimp only; omega, by dsimp only; omega⟩, ⟨hn0, by dsimp only; omega⟩, by simp, ?_, fun L hL => ?_⟩
    · unfold run1
      rw [if_pos rfl, resz_len]
      dsimp only
      omega
    · unfold may
      rw [if_neg (by simp), if_neg (by simp), if_neg (by simp), if_pos rfl]
      simp only [decide_eq_true_eq]
      rw [hL]
      exact ⟨rfl, hn0, by omega, trivial⟩
  · rw [if_neg hc] at hsz ⊢
    dsimp only at hsz
    have hszw : szE s.length (e.at_ % 201).toNat (e.da.take 60) = szw s (e.at_ % 201).toNat (e.da.take 60) := by
      unfold szE szw
      by_cases hd : e.da.take 60 = []
      · rw [if_neg (fun x => x.1 hd), if_pos hd]
      · rw [if_neg hd]
        split
        · rename_i h; omega
        · rename_i h
          have : ¬ s.length < (e.at_ % 201).toNat + (e.da.take 60).length := fun x => h ⟨hd, x⟩
          omega
    refine ⟨.inl rfl, rfl, rfl, ⟨ha0, by dsimp only; omega⟩, ⟨by dsimp only; omega, by dsimp only; omega⟩, hdl, ?_, fun L hL => ?_⟩
    · unfold run1
      rw [if_neg (by simp), wrt_len]
      dsimp only
      rw [← hszw]
      exact Int.ofNat.inj hsz
    · unfold may
      rw [if_neg (by simp), if_neg (by simp), if_pos rfl, hL]
      simp only [decide_eq_true_eq]
      refine ⟨ha0, by omega, ?_⟩
      rw [hszw, ← szI_nat]
      congr 1
      omega
def mkS (e : Ef) : Sp := ⟨⟨0, [], 0, 0, 0⟩, e⟩
def zRs : Rs := ⟨0, [], 0, 0, 0⟩
theorem mk0_s (l : List Ef) : (l.map mk0).map (·.s) = l.map mkS := by rw [List.map_map]; rfl
theorem go1_ed {L : Fl} {file : Int} {s : List UInt8} {e : Ef} {z : Nat} (h : IsE file s e z) (hL : fnd L file = some s) : go1 L (mkS e) = some (wi L file (run1 s e), zRs) := by
  have hm := h.may L hL
  rw [go1_yes rfl (by rcases h.kd with h | h <;> (show e.kd ≠ 0; omega)) hm]
  have hb : beh L e = wi L file (run1 s e) := by
    have hct : ctt L e.fl = s := by unfold ctt; rw [h.fl, hL]; rfl
    unfold beh run1
    rcases h.kd with hk | hk
    · rw [if_neg (by omega), if_pos hk, if_neg (by omega), hct, h.fl]
    · rw [if_neg (by omega), if_neg (by omega), if_pos hk, if_pos hk, hct, h.fl]
  have hr : rdD L e [] = [] := by unfold rdD; rw [if_neg (by rcases h.kd with h | h <;> omega)]
  show some (beh L e, _) = _
  rw [hb]
  show some (_, (⟨0, rdD L e [], 0, 0, 0⟩ : Rs)) = _
  rw [hr]
  rfl
/-- edits of one file, one behind the other -/
theorem goL_eds (file : Int) : ∀ (A : List Ed) (s : List UInt8) (R : List Sp), goL [(file, s)] ((edsE file s.length A).map mkS ++ R) = (goL [(file, runs s (edsE file s.length A))] R).map fun q => (q.1, List.replicate A.length zRs ++ q.2)
  | [], s, R => by simp [edsE, runs]
  | e :: A, s, R => by
    have h := edE_is file e s
    show goL [(file, s)] (mkS (edE file e s.length) :: ((edsE file (edZ file e s.length) A).map mkS ++ R)) = _
    rw [goL, go1_ed h (by unfold fnd; rw [if_pos rfl]), ← h.len]
    have hw : wi [(file, s)] file (run1 s (edE file e s.length)) = [(file, run1 s (edE file e s.length))] := by simp [wi, wo]
    rw [hw, Option.bind_some]
    dsimp only
    rw [goL_eds file A (run1 s (edE file e s.length)) R, Option.map_map]
    show _ = (goL [(file, runs s (edE file e s.length :: edsE file (edZ file e s.length) A))] R).map _
    rw [← h.len]
    rfl
theorem runs_len (file : Int) : ∀ (A : List Ed) (s : List UInt8), (runs s (edsE file s.length A)).length = edsZ file s.length A
  | [], _ => rfl
  | e :: A, s => by
    have h := edE_is file e s
    show (runs (run1 s (edE file e s.length)) (edsE file (edZ file e s.length) A)).length = edsZ file (edZ file e s.length) A
    rw [← h.len]
    exact runs_len file A _
theorem eds_is (file : Int) : ∀ (A : List Ed) (s : List UInt8), ∀ e ∈ edsE file s.length A, ∃ t z, IsE file t e z
  | [], _, e, he => by cases he
  | x :: A, s, e, he => by
    have h := edE_is file x s
    rcases List.mem_cons.1 he with rfl | he
    · exact ⟨_, _, h⟩
    · rw [← h.len] at he
      exact eds_is file A _ e he
/-- the byte at a place, sought from the last effect (the list is turned round) -/
def bya (s : List UInt8) : List Ef → Nat → UInt8
  | [], i => (s[i]?).getD 0
  | e :: r, i => if e.kd = 3 ∧ e.at_ ≤ (i : Int) ∧ (i : Int) < e.at_ + e.da.length then (e.da[((i : Int) - e.at_).toNat]?).getD 0 else if e.kd = 4 ∧ e.n ≤ (i : Int) then 0 else bya s r i
theorem resz_getD (t : List UInt8) (n i : Nat) : ((resz t n)[i]?).getD 0 = if i < n then (t[i]?).getD 0 else 0 := by
  split
  · rename_i h; rw [resz_get t n i h]; rfl
  · rename_i h; rw [List.getElem?_eq_none (by rw [resz_len]; omega)]; rfl
theorem bya_runs (s : List UInt8) : ∀ (r : List Ef), (∀ e ∈ r, (e.kd = 3 ∨ e.kd = 4) ∧ 0 ≤ e.at_ ∧ 0 ≤ e.n) → ∀ i, bya s r i = ((runs s r.reverse)[i]?).getD 0
  | [], _, i => rfl
  | e :: r, h, i => by
    have ih := bya_runs s r (fun x hx => h x (.tail _ hx)) i
    obtain ⟨hk, ha, hn⟩ := h e (.head _)
    rw [List.reverse_cons, runs_snoc]
    generalize runs s r.reverse = t at *
    unfold bya run1
    rcases hk with hk | hk
    · rw [if_neg (show ¬ e.kd = 4 by omega)]
      unfold wrt
      by_cases hd : e.da = []
      · rw [if_neg (by rintro ⟨-, h1, h2⟩; rw [hd] at h2; simp at h2; omega), if_neg (by omega), if_pos hd]
        exact ih
      · rw [if_neg hd]
        have hend := szw_end (s := t) (at_ := e.at_.toNat) hd
        have hge := szw_ge t e.at_.toNat e.da
        rw [lay_get (by rw [resz_len]; exact hend)]
        by_cases hin : e.at_ ≤ (i : Int) ∧ (i : Int) < e.at_ + e.da.length
        · rw [if_pos ⟨hk, hin⟩, if_pos (by omega), show ((i : Int) - e.at_).toNat = i - e.at_.toNat by omega]
        · rw [if_neg (fun x => hin x.2), if_neg (by omega), if_neg (by omega), ih, resz_getD]
          split
          · rfl
          · rw [List.getElem?_eq_none (by omega)]; rfl
    · rw [if_neg (by omega), if_pos hk, resz_getD]
      by_cases hc : e.n ≤ (i : Int)
      · rw [if_pos ⟨hk, hc⟩, if_neg (by omega)]
      · rw [if_neg (fun x => hc x.2), if_pos (by omega)]
        exact ih
end Go.Proofs.Ytpjigcccjiidpaa.Ex
