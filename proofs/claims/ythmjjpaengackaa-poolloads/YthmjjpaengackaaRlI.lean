import Derived.Test.YthmjjpaengackaaPoV
import Derived.Test.YthmjjpaengackaaPpA
import Derived.Test.YthmjjpaengackaaRows
namespace Go.Proofs.Ythmjjpaengackaa.Po
open Go.ChangeShapes Go.WideShapes Go.ChangeAt Go.RowKit Go.Deep

theorem cellsOb : Try.prog.cellsOf 35 = 4 := by kernel_rfl
theorem own : ownKnob Try.prog.godebug = none := by kernel_rfl
set_option maxRecDepth 40000 in
theorem ob_of {H : Type} {enc : TypeId × Value → H} {W : World} {cs : List Value} {y : DataW H × List MemPlace} {fuel : Nat} (hl : cs.length = 4) (h2 : DataW.trod enc Try.prog W 0 (fun _ => true) true fuel 35 cs = some y) : ∃ o : Ob, cs = obC o ∧ o.nm.size ≤ maxLen ∧ o.tg.size ≤ maxLen := by
  obtain ⟨xs, k, hk, hxy, _, hxl, hfl⟩ := DataW.trod_struct Try.underlying35 h2
  match xs, hxl, cs, hl with
  | [y0, y1, y2, y3], _, [v0, v1, v2, v3], _ =>
    have g0 := hfl 0 _ rfl
    have g1 := hfl 1 _ rfl
    have g2 := hfl 2 _ rfl
    have g3 := hfl 3 _ rfl
    simp [cells3i, cells9s] at g0 g1 g2 g3
    obtain ⟨i0, a0, _, z0⟩ := DataW.trod_string Try.underlying9 g0
    obtain ⟨i1, a1, _, z1⟩ := DataW.trod_string Try.underlying9 g1
    obtain ⟨i2, a2, _⟩ := DataW.trod_int Try.underlying3 g2
    obtain ⟨i3, a3, _⟩ := DataW.trod_int Try.underlying3 g3
    simp at a0 a1 a2 a3
    subst a0 a1 a2 a3
    exact ⟨⟨i0, i1, i2, i3⟩, rfl, z0, z1⟩
theorem one_le_bulk {H : Type} (d : DataW H) : 1 ≤ Rows.uptoBulk d := by
  cases d with
  | lit l => cases l <;> simp [Rows.uptoBulk]
  | nil => simp [Rows.uptoBulk]
  | ptr d => simp [Rows.uptoBulk]
  | slice e s => simp [Rows.uptoBulk]
  | agg p => simp [Rows.uptoBulk]
  | iface t d => simp [Rows.uptoBulk]
  | map e => simp [Rows.uptoBulk]
  | held h => simp [Rows.uptoBulk]
theorem bulk_len {H : Type} : ∀ l : List (DataW H), l.length ≤ Rows.uptoBulkAll l
  | [] => by simp
  | d :: r => by
    have := one_le_bulk d
    have := bulk_len r
    simp only [Rows.uptoBulkAll, List.length_cons]
    omega
theorem bulk_slice {H : Type} {len : Nat} {D : Nat → DataW H} {S : List (DataW H)} : len ≤ Rows.uptoBulk (.slice ((List.range len).map D) S) := by
  simp only [Rows.uptoBulk]
  have := bulk_len ((List.range len).map D)
  simp at this
  omega
theorem see_nil (W : World) (sz : Nat) : See W sz (.slice none 0 0) 0 [] := by
  refine ⟨by simp, fun u hu => (by cases hu), none, 0, rfl, Nat.le_refl _, fun _ => rfl, fun h => ?_⟩
  exact absurd h (by decide)
/-- a list that came in, as it can be read -/
theorem see_in {W : World} {x : Addr} {len cap sz : Nat} {xs : List Value} (hs : 0 < sz) (hl : len ≤ cap) (hx : xs.length = len * sz) (h1 : ∀ u ∈ xs, u.oneCell' = true) (hc : ∀ (j : Nat) u, xs[j]? = some u → W.cell? (x.add j) = some u) : See W sz (.slice (some x) len cap) len xs := by
  refine ⟨hx, h1, _, _, rfl, hl, fun e => (by cases e), fun hn => ?_⟩
  obtain ⟨b, off, spot⟩ := x
  have hlt : 0 < xs.length := by rw [hx]; exact Nat.mul_pos hn hs
  have h0 := hc 0 _ (List.getElem?_eq_getElem hlt)
  have hspot : spot = none := by simpa [Addr.add] using World.cell?_spot h0
  subst hspot
  rw [Addr.add_lit] at h0
  refine ⟨b, off, rfl, block_lt_of_cell h0, fun j u hu => ?_⟩
  have := hc j u hu
  rw [Addr.add_lit] at this
  exact this
set_option maxRecDepth 40000 in
/-- rows as they were handed in -/
theorem obs_of {H : Type} {enc : TypeId × Value → H} {W : World} {v : Value} {y : DataW H × List MemPlace} {fuel : Nat} (hf : DataW.trod enc Try.prog W 0 (fun _ => true) true fuel 27 [v] = some y) :
    ∃ (R : List Ob), See W 4 v R.length (obsC R) ∧ (∀ (k : Nat) o, R[k]? = some o → o.nm.size ≤ maxLen ∧ o.tg.size ≤ maxLen) ∧ R.length ≤ Rows.uptoBulk y.1 := by
  rcases open_slice Try.underlying27 hf with ⟨hcs, _⟩ | ⟨x, len, cap, m, n, D, Pl, hcs, _, hl, hm, hmm, hx0, hx⟩
  · simp at hcs
    subst hcs
    exact ⟨[], see_nil W 4, fun k o ho => (by cases ho), Nat.zero_le _⟩
  · simp at hcs
    subst hcs
    simp only [if_true] at hmm
    subst hmm
    have each : ∀ i, i < len → ∃ o : Ob, (∀ j u, (obC o)[j]? = some u → W.cell? (x.add (i * 4 + j)) = some u) ∧ o.nm.size ≤ maxLen ∧ o.tg.size ≤ maxLen := by
      intro i hi
      obtain ⟨cs', h1, h2⟩ := hx i (by omega)
      rw [cellsOb] at h1
      obtain ⟨_, hlen, hcell⟩ := World.cells?_some h1
      obtain ⟨o, rfl, ho⟩ := ob_of hlen h2
      refine ⟨o, fun j u hu => ?_, ho⟩
      have hj := (List.getElem?_eq_some_iff.1 hu).1
      have e := hcell j (by rw [hlen] at hj; exact hj)
      rw [add_add] at e
      rw [e]
      simpa using hu
    haveI : Inhabited Ob := ⟨zOb⟩
    obtain ⟨q, hq⟩ := choose_lt each
    refine ⟨(List.range len).map q, ?_, fun k o ho => ?_, ?_⟩
    · have hL : ((List.range len).map q).length = len := by simp
      rw [hL]
      refine see_in (by decide) hl (by rw [obsC_len, hL]) (obsC_one _) (fun j u hu => ?_)
      have hj := some_lt hu
      rw [obsC_len, hL] at hj
      have hi : j / 4 < len := by omega
      have hqi : ((List.range len).map q)[j / 4]? = some (q (j / 4)) := by rw [List.getElem?_map, List.getElem?_range hi]; rfl
      have hg := flat_get obC 4 obC_len ((List.range len).map q) (j / 4) _ hqi (j % 4) (by omega)
      rw [show j / 4 * 4 + j % 4 = j by omega] at hg
      have e : (obC (q (j / 4)))[j % 4]? = some u := hg.symm.trans hu
      have := (hq (j / 4) hi).1 _ u e
      rw [show j / 4 * 4 + j % 4 = j by omega] at this
      exact this
    · have hi := some_lt ho
      simp at hi
      rw [List.getElem?_map, List.getElem?_range hi] at ho
      obtain rfl : q k = o := Option.some.inj ho
      exact (hq k hi).2
    · rw [hx0]
      simp only [List.length_map, List.length_range]
      exact bulk_slice
set_option maxRecDepth 40000 in
theorem ints_of {H : Type} {enc : TypeId × Value → H} {W : World} {v : Value} {y : DataW H × List MemPlace} {fuel : Nat} (hf : DataW.trod enc Try.prog W 0 (fun _ => true) true fuel 23 [v] = some y) :
    ∃ (Z : List Int), See W 1 v Z.length (zsC Z) ∧ Z.length ≤ Rows.uptoBulk y.1 := by
  rcases open_slice Try.underlying23 hf with ⟨hcs, _⟩ | ⟨x, len, cap, m, n, D, Pl, hcs, _, hl, hm, hmm, hx0, hx⟩
  · simp at hcs
    subst hcs
    exact ⟨[], see_nil W 1, Nat.zero_le _⟩
  · simp at hcs
    subst hcs
    simp only [if_true] at hmm
    subst hmm
    have each : ∀ i, i < len → ∃ z : Int, W.cell? (x.add i) = some (.int .i64 z) := by
      intro i hi
      obtain ⟨cs', h1, h2⟩ := hx i (by omega)
      rw [cells3i] at h1
      obtain ⟨_, hlen, hcell⟩ := World.cells?_some h1
      match cs', hlen with
      | [c], _ =>
        obtain ⟨z, a, _⟩ := DataW.trod_int Try.underlying3 h2
        simp at a
        subst a
        have e := hcell 0 (by decide)
        rw [add_add] at e
        refine ⟨z, ?_⟩
        simpa using e
    obtain ⟨q, hq⟩ := choose_lt each
    have hL : ((List.range len).map q).length = len := by simp
    refine ⟨(List.range len).map q, ?_, ?_⟩
    · rw [hL]
      refine see_in (by decide) hl (by unfold zsC; simp) (zsC_one _) (fun j u hu => ?_)
      have hj := some_lt hu
      unfold zsC at hj hu
      simp at hj
      rw [List.getElem?_map, List.getElem?_map, List.getElem?_range hj] at hu
      simp at hu
      subst hu
      exact hq j hj
    · rw [hx0, hL]
      exact bulk_slice
set_option maxRecDepth 40000 in
/-- a state as it was handed in -/
theorem state_of {H : Type} {enc : TypeId × Value → H} {W : World} {base : Nat} {v : Value} {d : DataW H} {ps : List MemPlace} (hv : Value.okWide Try.prog W .any base 29 v) (h : DataW.Trod enc Try.prog W 0 (fun _ => true) true 29 v d ps) :
    ∃ R Z, Sd W v R Z ∧ (∀ (k : Nat) o, R[k]? = some o → o.nm.size ≤ maxLen ∧ o.tg.size ≤ maxLen) ∧ R.length ≤ Rows.uptoBulk d ∧ Z.length ≤ Rows.uptoBulk d := by
  obtain ⟨cs, rfl, hcs⟩ := okWide_struct Try.underlying29 hv
  rw [cellsPs] at hcs
  obtain ⟨x, y, rfl⟩ : ∃ x y, cs = #[x, y] := by
    obtain ⟨l⟩ := cs
    match l, hcs with
    | [x, y], _ => exact ⟨x, y, rfl⟩
  obtain ⟨fuel, hf⟩ := h
  obtain ⟨y0, y1, k, hxy, _, g0, g1⟩ := trod_struct2 Try.underlying29 hf
  simp [Value.cells, cellsOs, cellsIs] at g0 g1
  obtain ⟨R, s1, s2, s3⟩ := obs_of g0
  obtain ⟨Z, t1, t2⟩ := ints_of g1
  simp only [Prod.mk.injEq] at hxy
  have hd := hxy.1
  subst hd
  refine ⟨R, Z, ⟨_, _, rfl, s1, t1⟩, s2, ?_, ?_⟩
  · simp only [Rows.uptoBulk, Rows.uptoBulkAll]
    omega
  · simp only [Rows.uptoBulk, Rows.uptoBulkAll]
    omega
end Go.Proofs.Ythmjjpaengackaa.Po
