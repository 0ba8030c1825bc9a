import Derived.Test.YtadhfhfnhcphiaaDoorScJ
namespace Go.Proofs.YtadhfhfnhcphiaaDoor.Sc
open Go.RowKit Go.Lib Go.Deep

/-! rows of the call's own -/
section
variable {w w' : World} {B : Nat} {e : TypeId} {size n : Nat} {v : Value} {xs : List Value}
theorem owns_below (h : w.ownsRow B e size v n xs) (hb : Below w.heap.size w w') : w'.ownsRow B e size v n xs := by
  refine ⟨h.1, ?_⟩
  rcases h.2 with h0 | ⟨g, cap, cur, e1, e2, e3, e4⟩
  · exact .inl h0
  · exact .inr ⟨g, cap, cur, e1, e2, (hb.block _ (heap_lt e3)).trans e3, e4⟩
theorem owns_oth {e' : TypeId} (h : w.ownsRow B e size v n xs) (ho : Oth0 e' w w') (hne : e ≠ e') : w'.ownsRow B e size v n xs := by
  refine ⟨h.1, ?_⟩
  rcases h.2 with h0 | ⟨g, cap, cur, e1, e2, e3, e4⟩
  · exact .inl h0
  · exact .inr ⟨g, cap, cur, e1, e2, ho _ _ (fun cs fr e0 => by injection e0 with _ e2 _; exact hne e2) e3, e4⟩
theorem oth_grown (h : w.ownsRow B e size v n xs) (hg : w.grownBy w' v.ownBlock) : Oth0 e w w' := fun k o ho h0 => by
  refine (hg.block k (heap_lt h0) (fun e1 => ?_)).trans h0
  rcases h.2 with ⟨rfl, _⟩ | ⟨g, cap, cur, rfl, _, hgg, _⟩
  · simp [Value.ownBlock] at e1
  · simp [Value.ownBlock] at e1
    subst e1
    rw [hgg] at h0
    exact ho _ _ (Option.some.inj h0).symm
theorem oth_alloc (w : World) (o : Obj) : Oth0 e w (w.alloc o) := fun k _ _ h0 => (Lib.alloc_old w o k (heap_lt h0)).trans h0
theorem Oth0.trans {w2 : World} (h : Oth0 e w w') (h2 : Oth0 e w' w2) : Oth0 e w w2 := fun k o ho h0 => h2 k o ho (h k o ho h0)
theorem Oth0.cells (h : Oth0 e w w') {k : Nat} {cs : Array Value} {t : TypeId} {fr : Nat × Nat} (ht : t ≠ e) (h0 : w.heap[k]? = some (.cells cs t fr)) : w'.heap[k]? = some (.cells cs t fr) :=
  h k _ (fun cs' fr' e1 => by injection e1 with _ e2 _; exact ht e2) h0
theorem owns_len (h : w.ownsRow B e size v n xs) : ∃ a cap, v = .slice a n cap := by
  rcases h.2 with ⟨h1, h2⟩ | ⟨g, cap, cur, h1, _⟩
  · exact ⟨none, 0, by rw [h2]; exact h1⟩
  · exact ⟨_, cap, h1⟩
theorem owns_pos (h : w.ownsRow B e size v n xs) (hn : 0 < n) : ∃ g cap cur, v = .slice (some ⟨g, 0, none⟩) n cap ∧ B ≤ g ∧ w.heap[g]? = some (.cells cur e (0, 0)) ∧ n ≤ cap ∧ cap ≤ maxLen ∧ cur.size = cap * size ∧ ∀ (j : Nat) (u : Value), xs[j]? = some u → cur[j]? = some u := by
  rcases h.2 with ⟨_, h2⟩ | ⟨g, cap, cur, h1, h2, h3, h4, h5, h6, h7⟩
  · omega
  · refine ⟨g, cap, cur, h1, h2, h3, h4, h5, h6, fun j u hu => ?_⟩
    rw [← h7, List.getElem?_take] at hu
    split at hu
    · rw [← Array.getElem?_toList]; exact hu
    · cases hu
end
theorem infoOf {t : TypeId} {z : Value} {s b : Nat} (h : (Tryd.prog.info? t).map (fun i => (i.zero, i.size, i.bytes)) = some (some z, s, b)) : ∃ i0, Tryd.prog.info? t = some i0 ∧ i0.zero = some z ∧ i0.size = s ∧ i0.bytes = b := by
  cases hq : Tryd.prog.info? t with
  | none => rw [hq] at h; cases h
  | some i =>
    rw [hq] at h
    simp at h
    exact ⟨i, rfl, h.1, h.2.1, h.2.2⟩
def zR : Value := .agg #[.int .i64 0, .string { data := #[] }, .int .i64 0, .slice none 0 0, .int .i64 0, .int .i64 0]
theorem infoS : (Tryd.prog.info? 9).map (fun i => (i.zero, i.size, i.bytes)) = some (some (.string { data := #[] }), 1, 16) := by kernel_rfl
theorem infoL : (Tryd.prog.info? 27).map (fun i => (i.zero, i.size, i.bytes)) = some (some (.slice none 0 0), 1, 24) := by kernel_rfl
theorem infoR : (Tryd.prog.info? 29).map (fun i => (i.zero, i.size, i.bytes)) = some (some zR, 6, 72) := by kernel_rfl

/-- a result as the law has it: with its names in a row of their own -/
structure It where
  r : Rz
  b : Nat
  cap : Nat
def It.row (t : It) : Value := .slice (some ⟨t.b, 0, none⟩) (t.r.names.length + 1) t.cap
def It.nms (t : It) : Value := .slice (some ⟨t.b, 0, none⟩) t.r.names.length t.cap
def It.vals (t : It) : List Value := [.int .i64 t.r.code, .string t.r.data, .int .i64 t.r.n, t.nms, .int .i64 t.r.kind, .int .i64 t.r.size]
def rowsC (L : List It) : List Value := L.map It.row
def valsC (L : List It) : List Value := L.flatMap It.vals
theorem valsC_length (L : List It) : (valsC L).length = L.length * 6 := by
  induction L with
  | nil => rfl
  | cons a t ih =>
    simp only [valsC, List.flatMap_cons, List.length_append, List.length_cons] at ih ⊢
    rw [ih]
    simp [It.vals]
    omega
theorem valsC_at : ∀ (L : List It) (i f : Nat) (t : It), L[i]? = some t → f < 6 → (valsC L)[i * 6 + f]? = (It.vals t)[f]?
  | [], i, f, t, h, _ => by simp at h
  | a :: L, 0, f, t, h, hf => by
    simp at h
    subst h
    simp only [valsC, List.flatMap_cons, Nat.zero_mul, Nat.zero_add]
    rw [List.getElem?_append_left (by simp [It.vals]; omega)]
  | a :: L, i + 1, f, t, h, hf => by
    simp at h
    have ih := valsC_at L i f t h hf
    simp only [valsC, List.flatMap_cons] at ih ⊢
    rw [List.getElem?_append_right (by simp [It.vals]; omega), show (i + 1) * 6 + f - (It.vals a).length = i * 6 + f by simp [It.vals]; omega]
    exact ih
def mark : ByteArray := { data := #[109, 97, 114, 107] }
/-- its names lie there, and the mark behind them -/
def It.Lies (t : It) (B : Nat) (w : World) : Prop := B ≤ t.b ∧ t.r.names.length + 1 ≤ t.cap ∧ ∃ cs : Array Value, w.heap[t.b]? = some (.cells cs 9 (0, 0)) ∧ ∀ (j : Nat) (s : ByteArray), (t.r.names ++ [mark])[j]? = some s → cs[j]? = some (.string s)
theorem It.Lies.below {t : It} {B : Nat} {w w' : World} (h : t.Lies B w) (hb : Below w.heap.size w w') : t.Lies B w' := by
  obtain ⟨h1, h2, cs, h3, h4⟩ := h
  exact ⟨h1, h2, cs, (hb.block _ (heap_lt h3)).trans h3, h4⟩
theorem It.Lies.oth {t : It} {B : Nat} {w w' : World} {e : TypeId} (h : t.Lies B w) (ho : Oth0 e w w') (he : (9 : TypeId) ≠ e) : t.Lies B w' := by
  obtain ⟨h1, h2, cs, h3, h4⟩ := h
  exact ⟨h1, h2, cs, ho.cells he h3, h4⟩
theorem It.Lies.see {t : It} {B : Nat} {w : World} (h : t.Lies B w) : SeeS w t.nms t.r.names := by
  obtain ⟨h1, h2, cs, h3, h4⟩ := h
  refine ⟨_, t.cap, rfl, by omega, fun _ => ⟨t.b, 0, rfl, heap_lt h3, fun i s hs => ?_⟩⟩
  rw [Nat.zero_add, Lib.cell_of_heap h3]
  exact h4 i s (by rw [List.getElem?_append_left (List.getElem?_eq_some_iff.1 hs).1]; exact hs)

/-- the state of the law's first loop -/
structure Lp (A B : Nat) (code : Int) (av fv gv : Value) (L : List It) (w0 w : World) : Prop where
  arg : w.heap[A]? = some (.cells #[.int .i64 code, av] 25 (0, 0))
  giv : w.heap[A + 1]? = some (.cells #[.int .i64 code, gv] 25 (0, 0))
  ful : w.ownsRow B 27 1 fv L.length (rowsC L)
  res : w.ownsRow B 29 6 gv L.length (valsC L)
  its : ∀ t ∈ L, t.Lies B w
  bel : Below A w0 w
theorem Lp.below {A B : Nat} {code : Int} {av fv gv : Value} {L : List It} {w0 w w' : World} (h : Lp A B code av fv gv L w0 w) (hA : A ≤ w.heap.size) (hb : Below w.heap.size w w') : Lp A B code av fv gv L w0 w' :=
  ⟨(hb.block _ (heap_lt h.arg)).trans h.arg, (hb.block _ (heap_lt h.giv)).trans h.giv, owns_below h.ful hb, owns_below h.res hb, fun t ht => (h.its t ht).below hb, h.bel.trans (hb.mono hA)⟩
/-- what was handed on can be read -/
theorem Lp.see {A B : Nat} {code : Int} {av fv gv : Value} {L : List It} {w0 w : World} (h : Lp A B code av fv gv L w0 w) {rs : List Rz} (hL : L.map It.r = rs) : SeeR w gv rs := by
  have hl : rs.length = L.length := by rw [← hL, List.length_map]
  rcases h.res.2 with ⟨h1, h2⟩ | ⟨g, cap, cur, h1, h2, h3, h4, h5, h6, h7⟩
  · have hn : rs = [] := List.eq_nil_of_length_eq_zero (by omega)
    exact ⟨none, 0, by rw [hn]; exact h1, by rw [hn]; exact Nat.le_refl _, fun e => absurd hn e⟩
  · refine ⟨_, cap, by rw [hl]; exact h1, by omega, fun _ => ⟨g, 0, rfl, heap_lt h3, fun i r hr => ?_⟩⟩
    rw [← hL, List.getElem?_map] at hr
    obtain ⟨t, ht, rfl⟩ := Option.map_eq_some_iff.1 hr
    have hc : ∀ f u, f < 6 → (It.vals t)[f]? = some u → w.cell? ⟨g, 0 + i * 6 + f, none⟩ = some u := fun f u hf hu => by
      rw [Nat.zero_add, Lib.cell_of_heap h3]
      have h8 := valsC_at L i f t ht hf
      rw [hu, ← h7, List.getElem?_take] at h8
      split at h8
      · rw [← Array.getElem?_toList]; exact h8
      · cases h8
    exact ⟨t.nms, (h.its t (List.mem_of_getElem? ht)).see, hc 0 _ (by decide) rfl, hc 1 _ (by decide) rfl, hc 2 _ (by decide) rfl, hc 3 _ (by decide) rfl, hc 4 _ (by decide) rfl, hc 5 _ (by decide) rfl⟩
end Go.Proofs.YtadhfhfnhcphiaaDoor.Sc
