import Derived.Test.YtcochbcaillldaaGreatDoorSqV
namespace Go.Proofs.YtcochbcaillldaaGreatDoor.Sc
open Go.RowKit Go.Lib Go.Deep
open Go.Proofs.YtcochbcaillldaaGreatDoor.Sq (See wpList_app see_own see_one owns_form owns_form2 one_new grown_base owns_keep owns_below owns_base owns_block own_cap)

theorem infoAct : (Tryz.prog.info? 36).map (fun i => (i.zero, i.size, i.bytes)) = some (some (.agg #[.int .i64 0, .slice none 0 0, .int .i64 0, .int .i64 0, .int .i64 0, .int .i64 0, .int .i64 0, .string { data := #[] }, .string { data := #[] }]), 9, 104) := by kernel_rfl
theorem infoSl : (Tryz.prog.info? 32).map (fun i => (i.zero, i.size, i.bytes)) = some (some (.slice none 0 0), 1, 24) := by kernel_rfl

/-- blocks of operations stay -/
def KT (w w' : World) : Prop := ∀ (k : Nat) cs, w.heap[k]? = some (.cells cs 54 (0, 0)) → w'.heap[k]? = some (.cells cs 54 (0, 0))
theorem KT.trans {a b c : World} (h : KT a b) (h' : KT b c) : KT a c := fun k cs h0 => h' k cs (h k cs h0)
theorem KT.below {w w' : World} (h : Below w.heap.size w w') : KT w w' := fun k _ h0 => (h.block k (heap_lt h0)).trans h0
theorem owns_type {w : World} {B e sz n B2 e2 sz2 n2 : Nat} {v v2 : Value} {xs xs2 : List Value} (h : w.ownsRow B e sz v n xs) (h2 : w.ownsRow B2 e2 sz2 v2 n2 xs2) (hne : e ≠ e2) {g : Nat} (hg : v.ownBlock = some g) : some g ≠ v2.ownBlock := fun e1 => by
  obtain ⟨c1, q1⟩ := owns_block h hg
  obtain ⟨c2, q2⟩ := owns_block h2 e1.symm
  rw [q1] at q2
  injection q2 with q2
  injection q2 with _ q3 _
  exact hne q3
theorem KT.grown {w w' : World} {B e sz n : Nat} {v : Value} {xs : List Value} (hg : w.grownBy w' v.ownBlock) (h : w.ownsRow B e sz v n xs) (hne : e ≠ 54) : KT w w' := fun k cs h0 => (hg.block k (heap_lt h0) (fun e1 => by
  obtain ⟨c2, q2⟩ := owns_block h e1.symm
  rw [h0] at q2
  injection q2 with q2
  injection q2 with _ q3 _
  exact hne q3.symm)).trans h0
theorem KT.set {w : World} {g i : Nat} {v : Value} {T : TypeId} {cs : Array Value} (hg : w.heap[g]? = some (.cells cs T (0, 0))) (hT : T ≠ 54) : KT w (w.setCell ⟨g, i, none⟩ v) := fun k cs' h0 => (Below.heap_setCell _ _ _ _ (fun e => by
  subst e
  rw [hg] at h0
  injection h0 with h0
  injection h0 with _ q3 _
  exact hT q3)).trans h0
theorem owns_grown {w w' : World} {B e sz n B2 e2 sz2 n2 : Nat} {v v2 : Value} {xs xs2 : List Value} (h : w.ownsRow B e sz v n xs) (hg : w.grownBy w' v2.ownBlock) (h2 : w.ownsRow B2 e2 sz2 v2 n2 xs2) (hne : e ≠ e2) : w'.ownsRow B e sz v n xs :=
  owns_keep h fun g hv => hg.block g (h.lt g hv).2 (owns_type h h2 hne hv)
theorem owns_set {w : World} {B e sz n g i : Nat} {v u : Value} {xs : List Value} {T : TypeId} {cs : Array Value} (h : w.ownsRow B e sz v n xs) (hg : w.heap[g]? = some (.cells cs T (0, 0))) (hT : e ≠ T) : (w.setCell ⟨g, i, none⟩ u).ownsRow B e sz v n xs :=
  owns_keep h fun k hv => Below.heap_setCell _ _ _ _ (fun e1 => by
    subst e1
    obtain ⟨c2, q2⟩ := owns_block h hv
    rw [hg] at q2
    injection q2 with q2
    injection q2 with _ q3 _
    exact hT q3.symm)
theorem owns_kt {w w' : World} {B sz n : Nat} {v : Value} {xs : List Value} (h : w.ownsRow B 54 sz v n xs) (hk : KT w w') : w'.ownsRow B 54 sz v n xs :=
  owns_keep h fun g hv => by
    obtain ⟨c, q⟩ := owns_block h hv
    rw [hk g c q, q]

def hd (x : ActV) (gc : Nat × Nat) : ActR := { x.1 with ops := some ⟨gc.1, 0, none⟩, cops := gc.2 }
def actsC (L : List ActR) : List Value := L.flatMap fun o => o.cells.toList
def slC (V : List ActV) (G : List (Nat × Nat)) : List Value := List.zipWith (fun x gc => Value.slice (some ⟨gc.1, 0, none⟩) (x.2.length + 8) gc.2) V G
theorem zip_snoc {α β γ : Type} (f : α → β → γ) : ∀ (V : List α) (G : List β) (x : α) (g : β), V[G.length]? = some x → List.zipWith f V (G ++ [g]) = List.zipWith f V G ++ [f x g]
  | [], G, x, g, h => by cases h
  | a :: V, [], x, g, h => by
    obtain rfl : a = x := by simpa using h
    simp
  | a :: V, b :: G, x, g, h => by
    have := zip_snoc f V G x g (by simpa using h)
    simp [this]
theorem zip_get {α β γ : Type} (f : α → β → γ) (V : List α) (G : List β) (i : Nat) (x : α) (g : β) (hx : V[i]? = some x) (hg : G[i]? = some g) : (List.zipWith f V G)[i]? = some (f x g) := by
  rw [List.getElem?_zipWith, hx, hg]
theorem actsC_snoc (L : List ActR) (o : ActR) : actsC (L ++ [o]) = actsC L ++ o.cells.toList := by unfold actsC; simp
theorem actsC_one (L : List ActR) : ∀ u ∈ actsC L, u.oneCell' = true := by
  intro u hu
  unfold actsC at hu
  obtain ⟨o, _, ho⟩ := List.mem_flatMap.1 hu
  simp [ActR.cells] at ho
  rcases ho with rfl | rfl | rfl | rfl | rfl | rfl | rfl | rfl | rfl <;> rfl
theorem acells_one (o : ActR) : ∀ u ∈ o.cells.toList, u.oneCell' = true := fun u hu => actsC_one [o] u (by unfold actsC; simpa using hu)
def markA : ActR := ⟨77, none, 0, 0, 0, 0, 0, 0, 0, nil_, nil_⟩
/-- the copy of a play that is handed in -/
def handC (p : PlR) (acts full ops : Value) : Array Value := #[.int .i64 p.s, .int .i64 p.f, .int .i64 p.d, .int .i64 p.m, .int .i64 p.l, .int .i64 p.p, .bool p.ideal, .string p.master, .string p.tape, acts, full, ops]
def HandAt (w : World) (g : Nat) (p : PlR) (acts full ops : Value) : Prop := w.heap[g]? = some (.cells (handC p acts full ops) 39 (0, 0))
theorem HandAt.set9 {w : World} {g : Nat} {p : PlR} {x y z : Value} (h : HandAt w g p x y z) (u : Value) : HandAt (w.setCell ⟨g, 9, none⟩ u) g p u y z := by
  unfold HandAt at h ⊢
  simp [World.setCell, Array.getElem?_modify, h, handC]
theorem HandAt.set10 {w : World} {g : Nat} {p : PlR} {x y z : Value} (h : HandAt w g p x y z) (u : Value) : HandAt (w.setCell ⟨g, 10, none⟩ u) g p x u z := by
  unfold HandAt at h ⊢
  simp [World.setCell, Array.getElem?_modify, h, handC]
theorem HandAt.set11 {w : World} {g : Nat} {p : PlR} {x y z : Value} (h : HandAt w g p x y z) (u : Value) : HandAt (w.setCell ⟨g, 11, none⟩ u) g p x y u := by
  unfold HandAt at h ⊢
  simp [World.setCell, Array.getElem?_modify, h, handC]
/-- what hand's loop has made -/
structure Made (w : World) (B hb : Nat) (p : PlR) (V : List ActV) (G : List (Nat × Nat)) (acts fv ov : Value) (m : Nat) : Prop where
  hand : HandAt w hb p acts fv ov
  lt : hb < B
  full : w.ownsRow B 36 9 fv (G.length + m) (actsC (List.zipWith hd V G ++ List.replicate m markA))
  ops : w.ownsRow B 32 1 ov G.length (slC V G)
  rows : ∀ (i : Nat) x gc, V[i]? = some x → G[i]? = some gc → w.ownsRow B 54 6 (.slice (some ⟨gc.1, 0, none⟩) (x.2.length + 8) gc.2) (x.2.length + 8) (opsC (twinL x.2))
theorem Made.below {w w' : World} {B hb : Nat} {p : PlR} {V : List ActV} {G : List (Nat × Nat)} {acts fv ov : Value} {m : Nat} (h : Made w B hb p V G acts fv ov m) (hb' : Below w.heap.size w w') : Made w' B hb p V G acts fv ov m :=
  ⟨(hb'.block _ (heap_lt h.hand)).trans h.hand, h.lt, owns_below h.full hb', owns_below h.ops hb', fun i x gc hx hg => owns_below (h.rows i x gc hx hg) hb'⟩

theorem hand_grown {w w' : World} {g : Nat} {p : PlR} {x y z : Value} {B e sz n : Nat} {v : Value} {xs : List Value} (h : HandAt w g p x y z) (hg : w.grownBy w' v.ownBlock) (ho : w.ownsRow B e sz v n xs) (hne : e ≠ 39) : HandAt w' g p x y z :=
  (hg.block g (heap_lt h) (fun e1 => by
    obtain ⟨c2, q2⟩ := owns_block ho e1.symm
    have h0 : w.heap[g]? = _ := h
    rw [q2] at h0
    injection h0 with h0
    injection h0 with _ q3 _
    exact hne q3)).trans h
/-- between the two appends of a round -/
structure Half (w : World) (B hb : Nat) (p : PlR) (V : List ActV) (G : List (Nat × Nat)) (gc : Nat × Nat) (acts fv ov : Value) : Prop where
  hand : HandAt w hb p acts fv ov
  lt : hb < B
  full : w.ownsRow B 36 9 fv G.length (actsC (List.zipWith hd V G))
  ops : w.ownsRow B 32 1 ov (G ++ [gc]).length (slC V (G ++ [gc]))
  rows : ∀ (i : Nat) x gc', V[i]? = some x → (G ++ [gc])[i]? = some gc' → w.ownsRow B 54 6 (.slice (some ⟨gc'.1, 0, none⟩) (x.2.length + 8) gc'.2) (x.2.length + 8) (opsC (twinL x.2))
theorem Half.below {w w' : World} {B hb : Nat} {p : PlR} {V : List ActV} {G : List (Nat × Nat)} {gc : Nat × Nat} {acts fv ov : Value} (h : Half w B hb p V G gc acts fv ov) (hb' : Below w.heap.size w w') : Half w' B hb p V G gc acts fv ov :=
  ⟨(hb'.block _ (heap_lt h.hand)).trans h.hand, h.lt, owns_below h.full hb', owns_below h.ops hb', fun i x gc hx hg => owns_below (h.rows i x gc hx hg) hb'⟩
theorem Half.seta {w : World} {B hb ab : Nat} {p : PlR} {V : List ActV} {G : List (Nat × Nat)} {gc : Nat × Nat} {acts fv ov : Value} {o : ActR} (h : Half w B hb p V G gc acts fv ov) (ha : ActAt w ab o) (hf : ∀ g, fv.ownBlock = some g → g ≠ ab) (i : Nat) (u : Value) : Half (w.setCell ⟨ab, i, none⟩ u) B hb p V G gc acts fv ov :=
  ⟨(Below.heap_setCell _ _ _ _ (fun e => by
      subst e
      have h0 : w.heap[_]? = _ := h.hand
      rw [show w.heap[hb]? = _ from ha] at h0
      injection h0 with h0
      injection h0 with _ q3 _
      revert q3
      decide)).trans h.hand, h.lt, owns_keep h.full fun k hv => Below.heap_setCell _ _ _ _ (hf k hv), owns_set h.ops ha (by decide), fun j x gc hx hg => owns_set (h.rows j x gc hx hg) ha (by decide)⟩
theorem Made.step1 {w3 w4 : World} {B hb : Nat} {p : PlR} {V : List ActV} {G : List (Nat × Nat)} {acts fv ov : Value} (h : Made w3 B hb p V G acts fv ov 0) (x : ActV) (hx : V[G.length]? = some x) (g c' : Nat)
    (hrow : w3.ownsRow B 54 6 (.slice (some ⟨g, 0, none⟩) (x.2.length + 8) c') (x.2.length + 8) (opsC (twinL x.2))) (v' : Value)
    (hown : w4.ownsRow B 32 1 v' (G.length + 1) (slC V G ++ [.slice (some ⟨g, 0, none⟩) (x.2.length + 8) c'])) (hg : w3.grownBy w4 ov.ownBlock) : Half (w4.setCell ⟨hb, 11, none⟩ v') B hb p V G (g, c') acts fv v' := by
  have h4 := hand_grown h.hand hg h.ops (by decide)
  have hk := (KT.grown hg h.ops (by decide)).trans (KT.set (i := 11) (v := v') h4 (by decide))
  refine ⟨h4.set11 v', h.lt, owns_set (i := 11) (u := v') ?_ h4 (by decide), owns_set (i := 11) (u := v') ?_ h4 (by decide), fun i y gc hy hgc => owns_kt ?_ hk⟩
  · have := owns_grown h.full hg h.ops (by decide)
    simpa using this
  · have e : slC V (G ++ [(g, c')]) = slC V G ++ [.slice (some ⟨g, 0, none⟩) (x.2.length + 8) c'] := zip_snoc _ V G x (g, c') hx
    rw [e, List.length_append]
    exact hown
  · by_cases hi : i < G.length
    · rw [List.getElem?_append_left hi] at hgc
      exact h.rows i y gc hy hgc
    · have hi2 : i = G.length := by
        have := (List.getElem?_eq_some_iff.1 hgc).1
        rw [List.length_append] at this
        simp only [List.length_cons, List.length_nil] at this
        omega
      subst hi2
      rw [List.getElem?_append_right (Nat.le_refl _), Nat.sub_self] at hgc
      obtain rfl : (g, c') = gc := by simpa using hgc
      rw [hx] at hy
      obtain rfl := Option.some.inj hy
      exact hrow
theorem Half.step2 {w7 w8 : World} {B hb : Nat} {p : PlR} {V : List ActV} {G : List (Nat × Nat)} {gc : Nat × Nat} {acts fv ov : Value} (h : Half w7 B hb p V G gc acts fv ov) (x : ActV) (hx : V[G.length]? = some x) (v' : Value)
    (hown : w8.ownsRow B 36 9 v' (G.length + 1) (actsC (List.zipWith hd V G) ++ (hd x gc).cells.toList)) (hg : w7.grownBy w8 fv.ownBlock) : Made (w8.setCell ⟨hb, 10, none⟩ v') B hb p V (G ++ [gc]) acts v' ov 0 := by
  have h4 := hand_grown h.hand hg h.full (by decide)
  have hk := (KT.grown hg h.full (by decide)).trans (KT.set (i := 10) (v := v') h4 (by decide))
  refine ⟨h4.set10 v', h.lt, owns_set (i := 10) (u := v') ?_ h4 (by decide), owns_set (i := 10) (u := v') (owns_grown h.ops hg h.full (by decide)) h4 (by decide), fun i y gc hy hgc => owns_kt (h.rows i y gc hy hgc) hk⟩
  rw [zip_snoc hd V G x gc hx, List.replicate_zero, List.append_nil, actsC_snoc, List.length_append]
  exact hown
theorem Made.step3 {w7 w8 : World} {B hb : Nat} {p : PlR} {V : List ActV} {G : List (Nat × Nat)} {acts fv ov : Value} {m : Nat} (h : Made w7 B hb p V G acts fv ov m) (v' : Value)
    (hown : w8.ownsRow B 36 9 v' (G.length + m + 1) (actsC (List.zipWith hd V G ++ List.replicate m markA) ++ markA.cells.toList)) (hg : w7.grownBy w8 fv.ownBlock) : Made (w8.setCell ⟨hb, 10, none⟩ v') B hb p V G acts v' ov (m + 1) := by
  have h4 := hand_grown h.hand hg h.full (by decide)
  have hk := (KT.grown hg h.full (by decide)).trans (KT.set (i := 10) (v := v') h4 (by decide))
  refine ⟨h4.set10 v', h.lt, owns_set (i := 10) (u := v') ?_ h4 (by decide), owns_set (i := 10) (u := v') (owns_grown h.ops hg h.full (by decide)) h4 (by decide), fun i y gc hy hgc => owns_kt (h.rows i y gc hy hgc) hk⟩
  rw [List.replicate_succ', ← List.append_assoc, actsC_snoc]
  exact hown
theorem Made.acts {w : World} {B hb : Nat} {p : PlR} {V : List ActV} {G : List (Nat × Nat)} {acts fv ov : Value} {m : Nat} (h : Made w B hb p V G acts fv ov m) (u : Value) : Made (w.setCell ⟨hb, 9, none⟩ u) B hb p V G u fv ov m :=
  ⟨h.hand.set9 u, h.lt, owns_set h.full h.hand (by decide), owns_set h.ops h.hand (by decide), fun i y gc hy hgc => owns_set (h.rows i y gc hy hgc) h.hand (by decide)⟩
end Go.Proofs.YtcochbcaillldaaGreatDoor.Sc
