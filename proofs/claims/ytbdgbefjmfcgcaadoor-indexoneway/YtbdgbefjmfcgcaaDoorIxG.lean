import Derived.Test.YtbdgbefjmfcgcaaDoorPaM
namespace Go.Proofs.YtbdgbefjmfcgcaaDoor.Ix
open Go.RowKit Go.Lib

/-! the root -/
def Cn.ns (c : Cn) : List Nat := [c.sl, c.fl, c.dr, c.mf, c.ls, c.pg]
def hedL (c : Cn) (m : Nat) : List UInt8 := [82] ++ (c.ns.flatMap (bgL 4) ++ bgL 2 m)
def rootL (c : Cn) (R : List Rf) : List UInt8 := hedL c R.length ++ R.flatMap refL
def rdCf (s : List UInt8) : Cn := ⟨nuL (seg s 1 4), nuL (seg s 5 4), nuL (seg s 9 4), nuL (seg s 13 4), nuL (seg s 17 4), nuL (seg s 21 4)⟩
def rdRs (s : List UInt8) (m : Nat) : List Rf := (rowsA s 27 32 m).map rdR
def Rok (s : List UInt8) : Prop := 27 ≤ s.length ∧ (rdCf s).cf.May ∧ s.length = 27 + 32 * (rdCf s).pgs
instance (s : List UInt8) : Decidable (Rok s) := by unfold Rok; infer_instance
def derE (c : Cf) (s : List UInt8) : Int := if c.May then (if Rok s ∧ rootL (rdCf s) (rdRs s (rdCf s).pgs) = s then (if (rdCf s).cf.sl = c.sl ∧ (rdCf s).cf.fl = c.fl ∧ (rdCf s).cf.dr = c.dr ∧ (rdCf s).cf.mf = c.mf ∧ (rdCf s).cf.ls = c.ls ∧ (rdCf s).cf.pg = c.pg then 0 else 140) else 141) else 140
theorem cf_ext {c d : Cf} : (c.sl = d.sl ∧ c.fl = d.fl ∧ c.dr = d.dr ∧ c.mf = d.mf ∧ c.ls = d.ls ∧ c.pg = d.pg) ↔ c = d := by
  obtain ⟨a0, a1, a2, a3, a4, a5⟩ := c
  obtain ⟨b0, b1, b2, b3, b4, b5⟩ := d
  simp
def RfF (r : Rf) : Prop := r.nm.size = 16 ∧ r.tg.size = 16
theorem refL_len {r : Rf} (h : RfF r) : (refL r).length = 32 := by
  have h1 : r.nm.data.toList.length = r.nm.size := rfl
  have h2 : r.tg.data.toList.length = r.tg.size := rfl
  simp only [refL, List.length_append, h1, h2, h.1, h.2]
theorem hedL_len (c : Cn) (m : Nat) : (hedL c m).length = 27 := by
  simp [hedL, Cn.ns, bgL_len]
theorem rootL_len {c : Cn} {R : List Rf} (h : ∀ r ∈ R, RfF r) : (rootL c R).length = 27 + 32 * R.length := by
  unfold rootL
  rw [List.length_append, hedL_len, flat_length refL 32 R (fun r hr => refL_len (h r hr))]
theorem rdR_size {s : List UInt8} {m : Nat} (h : s.length = 27 + 32 * m) : ∀ r ∈ rdRs s m, RfF r := by
  intro r hr
  unfold rdRs rowsA at hr
  rw [List.map_map] at hr
  obtain ⟨i, hi, rfl⟩ := List.mem_map.1 hr
  have := List.mem_range.1 hi
  have hl : (seg s (27 + i * 32) 32).length = 32 := seg_len (by omega)
  exact ⟨by show (str (seg (seg s (27 + i * 32) 32) 0 16)).size = 16; rw [str_size, seg_len (by omega)], by show (str (seg (seg s (27 + i * 32) 32) 16 16)).size = 16; rw [str_size, seg_len (by omega)]⟩
theorem rdRs_len (s : List UInt8) (m : Nat) : (rdRs s m).length = m := by simp [rdRs, rowsA]
theorem refL_rdR {l : List UInt8} (h : l.length = 32) : refL (rdR l) = l := by
  unfold refL rdR
  simp only [str_data]
  unfold seg
  rw [List.drop_zero, List.take_of_length_le (l := List.drop 16 l) (by rw [List.length_drop]; omega), List.take_append_drop]
theorem rdR_refL {r : Rf} (h : RfF r) : rdR (refL r) = r := by
  have s1 : r.nm.data.toList.length = 16 := h.1
  have s2 : r.tg.data.toList.length = 16 := h.2
  have e1 : seg (refL r) 0 16 = r.nm.data.toList := seg_mid [] r.nm.data.toList _ 0 16 rfl s1.symm
  have e2 : seg (refL r) 16 16 = r.tg.data.toList := by
    have := seg_mid r.nm.data.toList r.tg.data.toList [] 16 16 s1.symm s2.symm
    rwa [List.append_nil] at this
  unfold rdR
  rw [e1, e2, str_of, str_of]
/-- the head's numbers -/
theorem rdCf_head {c : Cn} {m : Nat} (t : List UInt8) (hc : c.In) : rdCf (hedL c m ++ t) = c := by
  obtain ⟨sl, fl, dr, mf, ls, pg⟩ := c
  simp only [Cn.In] at hc
  have h : ∀ n, n ≤ 65536 → n < 256 ^ 4 := fun n hn => by omega
  have hh : hedL ⟨sl, fl, dr, mf, ls, pg⟩ m ++ t = [82] ++ (bgL 4 sl ++ (bgL 4 fl ++ (bgL 4 dr ++ (bgL 4 mf ++ (bgL 4 ls ++ (bgL 4 pg ++ (bgL 2 m ++ t))))))) := by simp [hedL, Cn.ns]
  have b := bgL_len 4
  have e1 : seg (hedL ⟨sl, fl, dr, mf, ls, pg⟩ m ++ t) 1 4 = bgL 4 sl := by rw [hh]; exact seg_mid [82] _ _ 1 4 rfl (b _).symm
  have e2 : seg (hedL ⟨sl, fl, dr, mf, ls, pg⟩ m ++ t) 5 4 = bgL 4 fl := by
    rw [hh, ← List.append_assoc]
    exact seg_mid _ _ _ 5 4 (by simp [b]) (b _).symm
  have e3 : seg (hedL ⟨sl, fl, dr, mf, ls, pg⟩ m ++ t) 9 4 = bgL 4 dr := by
    rw [hh, ← List.append_assoc, ← List.append_assoc]
    exact seg_mid _ _ _ 9 4 (by simp [b]) (b _).symm
  have e4 : seg (hedL ⟨sl, fl, dr, mf, ls, pg⟩ m ++ t) 13 4 = bgL 4 mf := by
    rw [hh, ← List.append_assoc, ← List.append_assoc, ← List.append_assoc]
    exact seg_mid _ _ _ 13 4 (by simp [b]) (b _).symm
  have e5 : seg (hedL ⟨sl, fl, dr, mf, ls, pg⟩ m ++ t) 17 4 = bgL 4 ls := by
    rw [hh, ← List.append_assoc, ← List.append_assoc, ← List.append_assoc, ← List.append_assoc]
    exact seg_mid _ _ _ 17 4 (by simp [b]) (b _).symm
  have e6 : seg (hedL ⟨sl, fl, dr, mf, ls, pg⟩ m ++ t) 21 4 = bgL 4 pg := by
    rw [hh, ← List.append_assoc, ← List.append_assoc, ← List.append_assoc, ← List.append_assoc, ← List.append_assoc]
    exact seg_mid _ _ _ 21 4 (by simp [b]) (b _).symm
  unfold rdCf
  rw [e1, e2, e3, e4, e5, e6, nuL_bgL 4 _ (h _ (by omega)), nuL_bgL 4 _ (h _ (by omega)), nuL_bgL 4 _ (h _ (by omega)), nuL_bgL 4 _ (h _ (by omega)), nuL_bgL 4 _ (h _ (by omega)), nuL_bgL 4 _ (h _ (by omega))]
theorem rdRs_flat {c : Cn} {m : Nat} (R : List Rf) (h : ∀ r ∈ R, RfF r) : rdRs (hedL c m ++ R.flatMap refL) R.length = R := by
  unfold rdRs
  have := rows_flat refL 32 [] R (hedL c m) (fun r hr => refL_len (h r hr))
  rw [List.append_nil, hedL_len] at this
  rw [this, List.map_map]
  conv => rhs; rw [← List.map_id R]
  apply List.map_congr_left
  intro r hr
  exact rdR_refL (h r hr)
theorem flat_rdRs (A : List UInt8) (hA : A.length = 27) : ∀ (m : Nat) (t : List UInt8), t.length = 32 * m → (rdRs (A ++ t) m).flatMap refL = t
  | m, t, ht => by
    have key : ∀ (m : Nat) (A t : List UInt8), t.length = 32 * m → ((rowsA (A ++ t) A.length 32 m).map rdR).flatMap refL = t := by
      intro m
      induction m with
      | zero =>
        intro A t h
        rw [List.eq_nil_of_length_eq_zero (l := t) (by omega)]
        rfl
      | succ m ih =>
        intro A t h
        have hs : (List.take 32 t).length = 32 := by rw [List.length_take]; omega
        have e : A ++ t = (A ++ t.take 32) ++ t.drop 32 := by rw [List.append_assoc, List.take_append_drop]
        have h1 := ih (A ++ t.take 32) (t.drop 32) (by rw [List.length_drop]; omega)
        have hr : rowsA (A ++ t) A.length 32 (m + 1) = t.take 32 :: rowsA (A ++ t) (A.length + 32) 32 m := by
          unfold rowsA
          rw [List.range_succ_eq_map, List.map_cons, List.map_map]
          congr 1
          · have := seg_mid A (t.take 32) (t.drop 32) (A.length + 0 * 32) 32 (by omega) hs.symm
            rwa [List.take_append_drop] at this
          · apply List.map_congr_left
            intro i _
            show seg (A ++ t) (A.length + (i + 1) * 32) 32 = _
            congr 1
            omega
        rw [hr, List.map_cons, List.flatMap_cons, refL_rdR hs]
        rw [← e, List.length_append, hs] at h1
        rw [h1, List.take_append_drop]
    unfold rdRs
    rw [← hA]
    exact key m A t ht
theorem May.len {c : Cn} (h : c.May) : c.pgs ≤ 1024 := h.2
/-- a root is read as it was written -/
theorem root_back {c : Cn} {R : List Rf} (hc : c.May) (hn : R.length = c.pgs) (h : ∀ r ∈ R, RfF r) : Rok (rootL c R) ∧ rdCf (rootL c R) = c ∧ rdRs (rootL c R) c.pgs = R := by
  have e1 : rdCf (rootL c R) = c := rdCf_head _ hc.1
  have e2 : rdRs (rootL c R) c.pgs = R := by
    rw [← hn]
    exact rdRs_flat R h
  refine ⟨⟨by rw [rootL_len h]; omega, by rw [e1]; exact hc.cf, by rw [e1, rootL_len h, hn]⟩, e1, e2⟩
/-- what is taken is what was written -/
theorem derE_zero {c : Cf} {s : List UInt8} : derE c s = 0 ↔ c.May ∧ Rok s ∧ rootL (rdCf s) (rdRs s (rdCf s).pgs) = s ∧ (rdCf s).cf = c := by
  unfold derE
  by_cases h1 : c.May
  · rw [if_pos h1]
    by_cases h2 : Rok s ∧ rootL (rdCf s) (rdRs s (rdCf s).pgs) = s
    · rw [if_pos h2]
      by_cases h3 : (rdCf s).cf = c
      · rw [if_pos (cf_ext.2 h3)]
        exact ⟨fun _ => ⟨h1, h2.1, h2.2, h3⟩, fun _ => rfl⟩
      · rw [if_neg (fun x => h3 (cf_ext.1 x))]
        exact ⟨fun x => (by cases x), fun x => absurd x.2.2.2 h3⟩
    · rw [if_neg h2]
      exact ⟨fun x => (by cases x), fun x => absurd ⟨x.2.1, x.2.2.1⟩ h2⟩
  · rw [if_neg h1]
    exact ⟨fun x => (by cases x), fun x => absurd x.1 h1⟩
theorem derE_or (c : Cf) (s : List UInt8) : derE c s = 0 ∨ derE c s = 140 ∨ derE c s = 141 := by
  unfold derE
  split
  · split
    · split
      · exact .inl rfl
      · exact .inr (.inl rfl)
    · exact .inr (.inr rfl)
  · exact .inr (.inl rfl)
theorem der_back {c : Cn} {R : List Rf} (hc : c.May) (hn : R.length = c.pgs) (h : ∀ r ∈ R, RfF r) : derE c.cf (rootL c R) = 0 := by
  obtain ⟨h1, h2, h3⟩ := root_back hc hn h
  exact derE_zero.2 ⟨hc.cf, h1, by rw [h2, h3], by rw [h2]⟩
theorem der_other {c : Cn} {d : Cf} {R : List Rf} (hc : c.May) (hn : R.length = c.pgs) (h : ∀ r ∈ R, RfF r) (hd : d.May) (hne : d ≠ c.cf) : derE d (rootL c R) = 140 := by
  obtain ⟨h1, h2, h3⟩ := root_back hc hn h
  unfold derE
  rw [if_pos hd, if_pos ⟨h1, by rw [h2, h3]⟩, if_neg (fun x => hne (by rw [← cf_ext.1 x, h2]))]
/-- another length -/
theorem der_long {c : Cn} {R : List Rf} (hc : c.May) {t : List UInt8} (ht : t.length ≠ 32 * c.pgs) : derE c.cf (hedL c R.length ++ t) = 141 := by
  have e1 : rdCf (hedL c R.length ++ t) = c := rdCf_head _ hc.1
  unfold derE
  rw [if_pos hc.cf, if_neg (fun x => ht ?_)]
  have := x.1.2.2
  rw [e1, List.length_append, hedL_len] at this
  omega
/-- a byte turned -/
theorem der_turn {c : Cn} {R : List Rf} (hc : c.May) (hn : R.length = c.pgs) (h : ∀ r ∈ R, RfF r) {k : Nat} {x : UInt8} (hk : k < (rootL c R).length) (hx : (rootL c R)[k]? ≠ some x) :
    (27 ≤ k → derE c.cf ((rootL c R).set k x) = 0 ∧ rdRs ((rootL c R).set k x) c.pgs ≠ R) ∧ (k < 27 → derE c.cf ((rootL c R).set k x) ≠ 0) := by
  have hl := rootL_len (c := c) h
  have hne : (rootL c R).set k x ≠ rootL c R := fun e => hx (by rw [← e, List.getElem?_set_self hk])
  constructor
  · intro h27
    have e : (rootL c R).set k x = hedL c R.length ++ (R.flatMap refL).set (k - 27) x := by
      unfold rootL
      rw [List.set_append_right _ _ (by rw [hedL_len]; exact h27), hedL_len]
    have ht : ((R.flatMap refL).set (k - 27) x).length = 32 * R.length := by
      rw [List.length_set, flat_length refL 32 R (fun r hr => refL_len (h r hr))]
    have e1 : rdCf ((rootL c R).set k x) = c := by rw [e]; exact rdCf_head _ hc.1
    have e2 : rootL c (rdRs ((rootL c R).set k x) c.pgs) = (rootL c R).set k x := by
      unfold rootL
      rw [rdRs_len]
      rw [show hedL c R.length ++ R.flatMap refL = rootL c R from rfl, e, ← hn, flat_rdRs _ (hedL_len _ _) _ _ ht]
    refine ⟨derE_zero.2 ⟨hc.cf, ⟨by rw [List.length_set, hl]; omega, by rw [e1]; exact hc.cf, by rw [e1, List.length_set, hl, hn]⟩, by rw [e1, e2], by rw [e1]⟩, fun er => ?_⟩
    rw [er] at e2
    exact hne e2.symm
  · intro h27 hz
    obtain ⟨-, -, z1, z2⟩ := derE_zero.1 hz
    have z3 := Cn.cf_inj z2
    rw [z3] at z1
    have e : (rootL c R).set k x = (hedL c R.length).set k x ++ R.flatMap refL := by
      unfold rootL
      rw [List.set_append_left _ _ (by rw [hedL_len]; exact h27)]
    have z4 : hedL c c.pgs ++ (rdRs ((rootL c R).set k x) c.pgs).flatMap refL = (hedL c R.length).set k x ++ R.flatMap refL := by
      rw [← e]
      conv => rhs; rw [← z1]
      unfold rootL
      rw [rdRs_len]
    have z5 := (List.append_inj z4 (by rw [List.length_set, hedL_len, hedL_len])).1
    apply hne
    rw [e, ← z5, ← hn]
    rfl
end Go.Proofs.YtbdgbefjmfcgcaaDoor.Ix
