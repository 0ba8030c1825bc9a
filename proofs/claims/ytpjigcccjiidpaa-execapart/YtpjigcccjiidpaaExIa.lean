import Derived.Test.YtpjigcccjiidpaaExL
namespace Go.Proofs.Ytpjigcccjiidpaa.Ex
open Go.RowKit Go.Lib Go.Deep

/-! edits of two files, mixed (ExecApart) -/
structure Bo where
  se : Bool
  ed : Ed
def boC (x : Bo) : List Value := .bool x.se :: edC x.ed
def bosC (l : List Bo) : List Value := l.flatMap boC
theorem boC_len (x : Bo) : (boC x).length = 5 := rfl
def fstB : List Bo → List Ed
  | [] => []
  | x :: l => if x.se then fstB l else x.ed :: fstB l
def sndB : List Bo → List Ed
  | [] => []
  | x :: l => if x.se then x.ed :: sndB l else sndB l
def mixE : Nat → Nat → List Bo → List Ef
  | _, _, [] => []
  | n, m, x :: l => if x.se then edE 2 x.ed m :: mixE n (edZ 2 x.ed m) l else edE 5 x.ed n :: mixE (edZ 5 x.ed n) m l
theorem fstB_app : ∀ (l r : List Bo), fstB (l ++ r) = fstB l ++ fstB r
  | [], _ => rfl
  | x :: l, r => by
    show (if x.se = true then fstB (l ++ r) else x.ed :: fstB (l ++ r)) = (if x.se = true then fstB l else x.ed :: fstB l) ++ fstB r
    rw [fstB_app l r]
    split <;> rfl
theorem sndB_app : ∀ (l r : List Bo), sndB (l ++ r) = sndB l ++ sndB r
  | [], _ => rfl
  | x :: l, r => by
    show (if x.se = true then x.ed :: sndB (l ++ r) else sndB (l ++ r)) = (if x.se = true then x.ed :: sndB l else sndB l) ++ sndB r
    rw [sndB_app l r]
    split <;> rfl
theorem mixE_app : ∀ (l r : List Bo) (n m : Nat), mixE n m (l ++ r) = mixE n m l ++ mixE (edsZ 5 n (fstB l)) (edsZ 2 m (sndB l)) r
  | [], _, _, _ => rfl
  | x :: l, r, n, m => by
    show (if x.se = true then edE 2 x.ed m :: mixE n (edZ 2 x.ed m) (l ++ r) else edE 5 x.ed n :: mixE (edZ 5 x.ed n) m (l ++ r)) = (if x.se = true then edE 2 x.ed m :: mixE n (edZ 2 x.ed m) l else edE 5 x.ed n :: mixE (edZ 5 x.ed n) m l) ++ mixE (edsZ 5 n (if x.se = true then fstB l else x.ed :: fstB l)) (edsZ 2 m (if x.se = true then x.ed :: sndB l else sndB l)) r
    by_cases hx : x.se = true
    · rw [if_pos hx, if_pos hx, if_pos hx, if_pos hx, mixE_app l r]; rfl
    · rw [if_neg hx, if_neg hx, if_neg hx, if_neg hx, mixE_app l r]; rfl
theorem mixE_len : ∀ (l : List Bo) (n m : Nat), (mixE n m l).length = l.length
  | [], _, _ => rfl
  | x :: l, n, m => by
    show (if x.se = true then edE 2 x.ed m :: mixE n (edZ 2 x.ed m) l else edE 5 x.ed n :: mixE (edZ 5 x.ed n) m l).length = _
    split <;> rw [List.length_cons, mixE_len l, List.length_cons]
structure MxR (L L' : Fl) (A B : List UInt8) : Prop where
  a : fnd L' 5 = some A
  b : fnd L' 2 = some B
  o : ∀ j, j ≠ 5 → j ≠ 2 → fnd L' j = fnd L j
  nd : Nd L'
  len : L'.length = L.length
theorem goL_mix : ∀ (l : List Bo) (a b : List UInt8) (L : Fl), Nd L → fnd L 5 = some a → fnd L 2 = some b → ∃ L', goL L ((mixE a.length b.length l).map mkS) = some (L', List.replicate l.length zRs) ∧ MxR L L' (runs a (edsE 5 a.length (fstB l))) (runs b (edsE 2 b.length (sndB l)))
  | [], a, b, L, hn, ha, hb => ⟨L, rfl, ha, hb, fun _ _ _ => rfl, hn, rfl⟩
  | x :: l, a, b, L, hn, ha, hb => by
    by_cases hx : x.se = true
    · have h := edE_is 2 x.ed b
      have hl : (wi L 2 (run1 b (edE 2 x.ed b.length))).length = L.length := by rw [len_wi hn, hb]; rfl
      obtain ⟨L', h1, h2⟩ := goL_mix l a (run1 b (edE 2 x.ed b.length)) (wi L 2 (run1 b (edE 2 x.ed b.length))) (nd_wi hn _ _) (by rw [fnd_wi, if_neg (by decide)]; exact ha) (by rw [fnd_wi, if_pos rfl])
      rw [h.len] at h1 h2
      refine ⟨L', ?_, ?_⟩
      · have e1 : mixE a.length b.length (x :: l) = edE 2 x.ed b.length :: mixE a.length (edZ 2 x.ed b.length) l := if_pos hx
        rw [e1, List.map_cons, goL, go1_ed h hb, Option.bind_some]
        dsimp only
        rw [h1]
        rfl
      · have e1 : fstB (x :: l) = fstB l := if_pos hx
        have e2 : sndB (x :: l) = x.ed :: sndB l := if_pos hx
        rw [e1, e2]
        exact ⟨h2.a, h2.b, fun j h5 h2' => (h2.o j h5 h2').trans (by rw [fnd_wi, if_neg h2']), h2.nd, h2.len.trans hl⟩
    · have h := edE_is 5 x.ed a
      have hl : (wi L 5 (run1 a (edE 5 x.ed a.length))).length = L.length := by rw [len_wi hn, ha]; rfl
      obtain ⟨L', h1, h2⟩ := goL_mix l (run1 a (edE 5 x.ed a.length)) b (wi L 5 (run1 a (edE 5 x.ed a.length))) (nd_wi hn _ _) (by rw [fnd_wi, if_pos rfl]) (by rw [fnd_wi, if_neg (by decide)]; exact hb)
      rw [h.len] at h1 h2
      refine ⟨L', ?_, ?_⟩
      · have e1 : mixE a.length b.length (x :: l) = edE 5 x.ed a.length :: mixE (edZ 5 x.ed a.length) b.length l := if_neg hx
        rw [e1, List.map_cons, goL, go1_ed h ha, Option.bind_some]
        dsimp only
        rw [h1]
        rfl
      · have e1 : fstB (x :: l) = x.ed :: fstB l := if_neg hx
        have e2 : sndB (x :: l) = sndB l := if_neg hx
        rw [e1, e2]
        exact ⟨h2.a, h2.b, fun j h5 h2' => (h2.o j h5 h2').trans (by rw [fnd_wi, if_neg h5]), h2.nd, h2.len.trans hl⟩
/-- three files, two of them edited -/
theorem app_mix (l : List Bo) (a b c : List UInt8) : app [⟨0, 5, 5, 0⟩, ⟨0, 0, 0, 0⟩, ⟨0, 2, 2, 0⟩] ((mixE a.length b.length l).map mkS) [a, c, b] = some (List.replicate l.length zRs, [runs a (edsE 5 a.length (fstB l)), c, runs b (edsE 2 b.length (sndB l))]) := by
  unfold app
  rw [if_pos (by rfl)]
  have ho : opn [] (([⟨0, 5, 5, 0⟩, ⟨0, 0, 0, 0⟩, ⟨0, 2, 2, 0⟩] : List Sl).zip [a, c, b]) = some [(5, a), (0, c), (2, b)] := by
    simp [opn, wi, wo, fnd]
  obtain ⟨L', h1, h2⟩ := goL_mix l a b [(5, a), (0, c), (2, b)] (by simp [Nd]) (by simp [fnd]) (by simp [fnd])
  rw [ho, Option.bind_some, h1, Option.bind_some]
  have h0 : fnd L' 0 = some c := (h2.o 0 (by decide) (by decide)).trans (by simp [fnd])
  have n1 := nd_wo h2.nd 5
  have n2 := nd_wo n1 0
  have f1 : fnd (wo L' 5) 0 = some c := by rw [fnd_wo, if_neg (by decide)]; exact h0
  have f2 : fnd (wo (wo L' 5) 0) 2 = some (runs b (edsE 2 b.length (sndB l))) := by rw [fnd_wo, if_neg (by decide), fnd_wo, if_neg (by decide)]; exact h2.b
  have z0 := len_wo h2.nd 5
  have z1 := len_wo n1 0
  have z2 := len_wo n2 2
  have zl := h2.len
  rw [h2.a] at z0
  rw [f1] at z1
  rw [f2] at z2
  simp at z0 z1 z2 zl
  have hc : cls L' [⟨0, 5, 5, 0⟩, ⟨0, 0, 0, 0⟩, ⟨0, 2, 2, 0⟩] = some [runs a (edsE 5 a.length (fstB l)), c, runs b (edsE 2 b.length (sndB l))] := by
    rw [cls, if_neg (by decide), h2.a, Option.bind_some, cls, if_neg (by decide), f1, Option.bind_some, cls, if_neg (by decide), f2, Option.bind_some, cls, if_pos (by dsimp only; omega)]
    rfl
  dsimp only
  rw [hc]
  rfl
theorem app_file (f : Int) (hf : 0 ≤ f) (A : List Ed) (s : List UInt8) : app [⟨0, f, f, 0⟩] ((edsE f s.length A).map mkS) [s] = some (List.replicate A.length zRs, [runs s (edsE f s.length A)]) := by
  unfold app
  rw [if_pos (by rfl)]
  have h1 : ¬ f = -1 := by omega
  have h2 : ¬ f < 0 := by omega
  have ho : opn [] (([⟨0, f, f, 0⟩] : List Sl).zip [s]) = some [(f, s)] := by
    simp [opn, wi, wo, fnd, h1, h2]
  have hg := goL_eds f A s []
  rw [List.append_nil] at hg
  rw [ho, Option.bind_some, hg, goL, Option.map_some, Option.bind_some]
  have hc : cls [(f, runs s (edsE f s.length A))] [⟨0, f, f, 0⟩] = some [runs s (edsE f s.length A)] := by simp [cls, fnd, wo, h1]
  dsimp only
  rw [hc, List.append_nil]
  rfl
theorem mix_is : ∀ (l : List Bo) (a b : List UInt8), ∀ e ∈ mixE a.length b.length l, ∃ f t z, (f = 5 ∨ f = 2) ∧ IsE f t e z
  | [], _, _, e, he => by cases he
  | x :: l, a, b, e, he => by
    by_cases hx : x.se = true
    · have h := edE_is 2 x.ed b
      rw [show mixE a.length b.length (x :: l) = edE 2 x.ed b.length :: mixE a.length (edZ 2 x.ed b.length) l from if_pos hx] at he
      rcases List.mem_cons.1 he with rfl | he
      · exact ⟨_, _, _, .inr rfl, h⟩
      · rw [← h.len] at he
        exact mix_is l a _ e he
    · have h := edE_is 5 x.ed a
      rw [show mixE a.length b.length (x :: l) = edE 5 x.ed a.length :: mixE (edZ 5 x.ed a.length) b.length l from if_neg hx] at he
      rcases List.mem_cons.1 he with rfl | he
      · exact ⟨_, _, _, .inl rfl, h⟩
      · rw [← h.len] at he
        exact mix_is l _ b e he
end Go.Proofs.Ytpjigcccjiidpaa.Ex
