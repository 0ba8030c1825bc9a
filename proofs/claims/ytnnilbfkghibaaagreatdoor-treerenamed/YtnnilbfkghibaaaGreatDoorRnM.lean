import Derived.Test.YtnnilbfkghibaaaGreatDoorTaM
import Derived.Test.YtnnilbfkghibaaaGreatDoorPgM
import Derived.Test.YtnnilbfkghibaaaGreatDoorLaM
import Derived.Test.YtnnilbfkghibaaaGreatDoorStM
import Derived.Deep.DeepCutAuto
namespace Go.Proofs.YtnnilbfkghibaaaGreatDoor.Tr
open Go.RowKit Go.Lib

/-- names changed one for one -/
structure One (g : ByteArray → ByteArray) : Prop where
  inj : ∀ a b, g a = g b → a = b
  sur : ∀ b, ∃ a, g a = b
  e0 : g e0 = e0
  nm : ∀ a, Pa.nm a = true → Pa.nm (g a) = true
def gD (g : ByteArray → ByteArray) (o : Option (Nat × ByteArray)) : Option (Nat × ByteArray) := o.map fun d => (d.1, g d.2)
def gF (g : ByteArray → ByteArray) (o : Option (Nat × ByteArray × Nat)) : Option (Nat × ByteArray × Nat) := o.map fun d => (d.1, g d.2.1, d.2.2)
/-- a tree and the one with its names changed -/
structure Rn (g : ByteArray → ByteArray) (T U : Ts) : Prop where
  fr : U.fr = T.fr
  dr : U.dr = T.dr
  most : U.most = T.most
  D : U.D = T.D.map (gD g)
  F : U.F = T.F.map (gF g)
  M : ∀ p n, U.M p (ky (g n)) = T.M p (ky n)
def gS (g : ByteArray → ByteArray) (a : Sp) : Sp := ⟨a.par, g a.nm, a.kd, a.no⟩
theorem gS_root {g : ByteArray → ByteArray} (h : One g) : gS g Sp.root = Sp.root := by unfold gS Sp.root; rw [h.e0]
theorem gS_zero {g : ByteArray → ByteArray} (h : One g) : gS g Sp.zero = Sp.zero := by unfold gS Sp.zero; rw [h.e0]
theorem rn_nxt {g : ByteArray → ByteArray} {T U : Ts} (h : Rn g T U) (a : Sp) (n : ByteArray) : nxt U (gS g a) (g n) = gS g (nxt T a n) := by
  unfold nxt gS
  simp only [h.M]
def gA (g : ByteArray → ByteArray) (a : Sp × Int) : Sp × Int := (gS g a.1, a.2)
theorem rn_fnd {g : ByteArray → ByteArray} (hg : One g) {T U : Ts} (h : Rn g T U) : ∀ (L : List ByteArray) (a : Sp), fnd U (gS g a) (L.map g) = gA g (fnd T a L)
  | [], a => rfl
  | n :: L, a => by
    have e1 : fnd U (gS g a) ((n :: L).map g) = if a.kd = 0 then (Sp.zero, 120) else if a.kd = 2 then (Sp.zero, 122) else fnd U (nxt U (gS g a) (g n)) (L.map g) := rfl
    have e2 : fnd T a (n :: L) = if a.kd = 0 then (Sp.zero, 120) else if a.kd = 2 then (Sp.zero, 122) else fnd T (nxt T a n) L := rfl
    rw [e1, e2, rn_nxt h]
    by_cases h1 : a.kd = 0
    · rw [if_pos h1, if_pos h1, gA, gS_zero hg]
    · rw [if_neg h1, if_neg h1]
      by_cases h2 : a.kd = 2
      · rw [if_pos h2, if_pos h2, gA, gS_zero hg]
      · rw [if_neg h2, if_neg h2]
        exact rn_fnd hg h L _
theorem rn_A {g : ByteArray → ByteArray} (hg : One g) {T U : Ts} (h : Rn g T U) (L : List ByteArray) : fndA U (L.map g) = gA g (fndA T L) := by
  unfold fndA
  have := rn_fnd hg h L Sp.root
  rwa [gS_root hg] at this
theorem gA_if {g : ByteArray → ByteArray} (hg : One g) {c : Prop} [Decidable c] (e : Int) (a : Sp × Int) : (if c then (Sp.zero, e) else gA g a) = gA g (if c then (Sp.zero, e) else a) := by
  split
  · rw [gA, gS_zero hg]
  · rfl
theorem rn_S {g : ByteArray → ByteArray} (hg : One g) {T U : Ts} (h : Rn g T U) (L : List ByteArray) : fndS U (L.map g) = gA g (fndS T L) := by
  unfold fndS
  rw [rn_A hg h]
  exact gA_if hg _ _
theorem rn_F {g : ByteArray → ByteArray} (hg : One g) {T U : Ts} (h : Rn g T U) (L : List ByteArray) : fndF U (L.map g) = gA g (fndF T L) := by
  unfold fndF
  rw [rn_S hg h]
  exact gA_if hg _ _
theorem rn_D {g : ByteArray → ByteArray} (hg : One g) {T U : Ts} (h : Rn g T U) (L : List ByteArray) : fndD U (L.map g) = gA g (fndD T L) := by
  unfold fndD
  rw [rn_S hg h]
  exact gA_if hg _ _
theorem rn_N {g : ByteArray → ByteArray} (hg : One g) {T U : Ts} (h : Rn g T U) (L : List ByteArray) : fndN U (L.map g) = gA g (fndN T L) := by
  unfold fndN
  rw [rn_A hg h]
  exact gA_if hg _ _
theorem layL_map {α β : Type} (f : Option α → Option β) (l : List (Option α)) (x : Nat) (v : Option α) : layL (l.map f) x (f v) = (layL l x v).map f := by
  unfold layL
  rw [List.length_map]
  split
  · rw [List.map_set]
  · rw [List.map_append]; rfl
theorem lowL_map {α β : Type} (f : Option α → Option β) (hf : ∀ o, (f o).isNone = o.isNone) (l : List (Option α)) : lowL (l.map f) = lowL l := by
  unfold lowL
  rw [List.findIdx_map]
  congr 1
  funext o
  exact hf o
theorem gD_none (g : ByteArray → ByteArray) (o : Option (Nat × ByteArray)) : (gD g o).isNone = o.isNone := by cases o <;> rfl
theorem gF_none (g : ByteArray → ByteArray) (o : Option (Nat × ByteArray × Nat)) : (gF g o).isNone = o.isNone := by cases o <;> rfl
theorem rn_lowD {g : ByteArray → ByteArray} {T U : Ts} (h : Rn g T U) : lowL U.D = lowL T.D := by rw [h.D, lowL_map _ (gD_none g)]
theorem rn_lowF {g : ByteArray → ByteArray} {T U : Ts} (h : Rn g T U) : lowL U.F = lowL T.F := by rw [h.F, lowL_map _ (gF_none g)]
theorem rn_hang {g : ByteArray → ByteArray} (hg : One g) {T U : Ts} (h : Rn g T U) (p : Nat) (n : ByteArray) (v : Option (Nat × Nat)) : Rn g (hangT T p n v) (hangT U p (g n) v) := by
  refine ⟨h.fr, h.dr, h.most, h.D, h.F, fun q m => ?_⟩
  change putM U.M p (ky (g n)) v q (ky (g m)) = putM T.M p (ky n) v q (ky m)
  unfold putM
  rw [h.M]
  by_cases hc : q = p ∧ ky m = ky n
  · rw [if_pos hc, if_pos ⟨hc.1, by rw [ky_inj hc.2]⟩]
  · rw [if_neg hc, if_neg fun h2 => hc ⟨h2.1, by rw [hg.inj _ _ (ky_inj h2.2)]⟩]
theorem rn_setD {g : ByteArray → ByteArray} {T U : Ts} (h : Rn g T U) (x : Nat) (v : Option (Nat × ByteArray)) : Rn g (setD T x v) (setD U x (gD g v)) :=
  ⟨h.fr, h.dr, h.most, by change layL U.D x (gD g v) = _; rw [h.D]; exact layL_map _ _ _ _, h.F, h.M⟩
theorem rn_setF {g : ByteArray → ByteArray} {T U : Ts} (h : Rn g T U) (x : Nat) (v : Option (Nat × ByteArray × Nat)) : Rn g (setF T x v) (setF U x (gF g v)) :=
  ⟨h.fr, h.dr, h.most, h.D, by change layL U.F x (gF g v) = _; rw [h.F]; exact layL_map _ _ _ _, h.M⟩
theorem rn_szF {g : ByteArray → ByteArray} {T U : Ts} (h : Rn g T U) (x : Nat) : szF U x = szF T x := by
  unfold szF
  rw [h.F, List.getElem?_map]
  cases T.F[x]? with
  | none => rfl
  | some o => cases o <;> rfl
theorem rn_plF {g : ByteArray → ByteArray} (hg : One g) {T U : Ts} (h : Rn g T U) (x : Nat) : plF U x = ((plF T x).1, g (plF T x).2) := by
  unfold plF
  rw [h.F, List.getElem?_map]
  cases T.F[x]? with
  | none => simp only [Option.map_none]; rw [hg.e0]
  | some o => cases o with
    | none => simp only [Option.map_some, gF, Option.map_none]; rw [hg.e0]
    | some r => rfl
theorem rn_size {g : ByteArray → ByteArray} (hg : One g) {T U : Ts} (h : Rn g T U) (x s : Nat) : Rn g (sizeT T x s) (sizeT U x s) := by
  unfold sizeT
  rw [rn_plF hg h]
  exact rn_setF h x _
theorem rn_rch {g : ByteArray → ByteArray} (hg : One g) {T U : Ts} (h : Rn g T U) {p j : Nat} : Rch U p j ↔ Rch T p j := by
  have key : ∀ q (k : Key), ∃ l : Key, U.M q k = T.M q l := fun q k => by
    obtain ⟨n, hn⟩ := hg.sur (str k)
    exact ⟨ky n, by rw [← h.M q n, hn]; rfl⟩
  have key2 : ∀ q (k : Key), ∃ l : Key, T.M q k = U.M q l := fun q k => ⟨ky (g (str k)), by rw [h.M]; rfl⟩
  constructor
  · intro hr
    induction hr with
    | one h1 =>
      obtain ⟨l, hl⟩ := key _ _
      exact .one (hl ▸ h1)
    | more h1 _ ih =>
      obtain ⟨l, hl⟩ := key _ _
      exact .more (hl ▸ h1) ih
  · intro hr
    induction hr with
    | one h1 =>
      obtain ⟨l, hl⟩ := key2 _ _
      exact .one (hl ▸ h1)
    | more h1 _ ih =>
      obtain ⟨l, hl⟩ := key2 _ _
      exact .more (hl ▸ h1) ih
theorem map_inj {g : ByteArray → ByteArray} (hg : One g) {P Q : List ByteArray} : P.map g = Q.map g ↔ P = Q :=
  ⟨fun h => List.map_inj_right (fun a b h => hg.inj a b h) |>.1 h, fun h => h ▸ rfl⟩
theorem map_pre {g : ByteArray → ByteArray} (hg : One g) : ∀ {P Q : List ByteArray}, P.map g <+: Q.map g ↔ P <+: Q
  | [], Q => by simp
  | a :: P, [] => by simp
  | a :: P, b :: Q => by
    rw [List.map_cons, List.map_cons, List.cons_prefix_cons, List.cons_prefix_cons, map_pre hg]
    exact ⟨fun h => ⟨hg.inj _ _ h.1, h.2⟩, fun h => ⟨h.1 ▸ rfl, h.2⟩⟩
theorem ite_iff {α : Type} {c c' : Prop} {i : Decidable c} {i' : Decidable c'} {a b a' b' : α} (hc : c ↔ c') (ha : a = a') (hb : b = b') : @ite _ c i a b = @ite _ c' i' a' b' := by
  subst ha hb
  by_cases h : c
  · rw [if_pos h, if_pos (hc.1 h)]
  · rw [if_neg h, if_neg fun h' => h (hc.2 h')]
theorem rn_tar {g : ByteArray → ByteArray} (hg : One g) {T U : Ts} (h : Rn g T U) (P Q : List ByteArray) (a : Sp) : tarE U (P.map g) (Q.map g) (gS g a) = tarE T P Q a := by
  unfold tarE
  rw [rn_A hg h, List.length_map]
  refine ite_iff (and_congr Iff.rfl (map_pre hg)) rfl (ite_iff Iff.rfl rfl (ite_iff Iff.rfl rfl (ite_iff Iff.rfl rfl (ite_iff (and_congr Iff.rfl ?_) rfl rfl))))
  exact ⟨fun ⟨j, hj⟩ => ⟨j, (rn_rch hg h).1 hj.1, hj.2⟩, fun ⟨j, hj⟩ => ⟨j, (rn_rch hg h).2 hj.1, hj.2⟩⟩
theorem rn_mov {g : ByteArray → ByteArray} (hg : One g) {T U : Ts} (h : Rn g T U) (a b : Sp) : Rn g (movT T a b) (movT U (gS g a) (gS g b)) := by
  unfold movT
  rw [rn_szF h]
  by_cases h1 : a.kd = 1
  · rw [if_pos h1, if_pos (show (gS g a).kd = 1 from h1)]
    exact rn_setD (rn_hang hg (rn_hang hg h _ _ _) _ _ _) _ _
  · rw [if_neg h1, if_neg (show ¬ (gS g a).kd = 1 from h1)]
    exact rn_setF (rn_hang hg (rn_hang hg h _ _ _) _ _ _) _ _

/-- an answer and the one with its names changed -/
structure An (g : ByteArray → ByteArray) (a b : Ans) : Prop where
  code : b.1.code = a.1.code
  n : b.1.n = a.1.n
  kind : b.1.kind = a.1.kind
  size : b.1.size = a.1.size
  len : b.1.names.length = a.1.names.length
  mem : ∀ x ∈ a.1.names, g x ∈ b.1.names
  ef : b.2.1 = a.2.1
  st : Rn g a.2.2 b.2.2
theorem an_ref {g : ByteArray → ByteArray} {T U : Ts} (h : Rn g T U) (e : Int) : An g (ref T e) (ref U e) := ⟨rfl, rfl, rfl, rfl, rfl, fun x hx => (by cases hx), rfl, h⟩
theorem an_mk {g : ByteArray → ByteArray} {T U : Ts} (h : Rn g T U) (c n k s : Int) (e : Ef) : An g (⟨c, n, [], k, s⟩, e, T) (⟨c, n, [], k, s⟩, e, U) := ⟨rfl, rfl, rfl, rfl, rfl, fun x hx => (by cases hx), rfl, h⟩
theorem An.ite {g : ByteArray → ByteArray} {c c' : Prop} [Decidable c] [Decidable c'] {a b a' b' : Ans} (hc : c' ↔ c) (h1 : c → An g a a') (h2 : ¬ c → An g b b') : An g (if c then a else b) (if c' then a' else b') := by
  by_cases h : c
  · rw [if_pos h, if_pos (hc.2 h)]; exact h1 h
  · rw [if_neg h, if_neg (fun h' => h (hc.1 h'))]; exact h2 h
theorem an_mkd {g : ByteArray → ByteArray} (hg : One g) {T U : Ts} (h : Rn g T U) (L : List ByteArray) : An g (mkdT T L) (mkdT U (L.map g)) := by
  unfold mkdT
  rw [rn_N hg h, rn_lowD h, h.dr]
  exact An.ite Iff.rfl (fun _ => an_ref h _) fun _ => An.ite Iff.rfl (fun _ => an_mk (rn_hang hg (rn_setD h _ (some _)) _ _ _) _ _ _ _ _) fun _ => an_ref h _
theorem an_cre {g : ByteArray → ByteArray} (hg : One g) {T U : Ts} (h : Rn g T U) (L : List ByteArray) : An g (creT T L) (creT U (L.map g)) := by
  unfold creT
  rw [rn_N hg h, rn_lowF h, h.fr]
  exact An.ite Iff.rfl (fun _ => an_ref h _) fun _ => An.ite Iff.rfl (fun _ => an_mk (rn_hang hg (rn_setF h _ (some _)) _ _ _) _ _ _ _ _) fun _ => an_ref h _
theorem an_rea {g : ByteArray → ByteArray} (hg : One g) {T U : Ts} (h : Rn g T U) (L : List ByteArray) (o o' : Op) (ha : o'.at_ = o.at_) (hn : o'.n = o.n) : An g (reaT T L o) (reaT U (L.map g) o') := by
  unfold reaT reaN
  rw [rn_F hg h, ha, hn, rn_szF h]
  exact An.ite Iff.rfl (fun _ => an_ref h _) fun _ => an_mk h _ _ _ _ _
theorem an_wri {g : ByteArray → ByteArray} (hg : One g) {T U : Ts} (h : Rn g T U) (L : List ByteArray) (o o' : Op) (ha : o'.at_ = o.at_) (hd : o'.data = o.data) : An g (wriT T L o) (wriT U (L.map g) o') := by
  unfold wriT wriS
  rw [rn_F hg h, ha, hd, h.most, rn_szF h]
  refine An.ite Iff.rfl (fun _ => an_ref h _) fun _ => An.ite Iff.rfl (fun _ => an_ref h _) fun _ => an_mk ?_ _ _ _ _ _
  split
  · exact h
  · exact rn_size hg h _ _
theorem an_cut {g : ByteArray → ByteArray} (hg : One g) {T U : Ts} (h : Rn g T U) (L : List ByteArray) (o o' : Op) (hn : o'.n = o.n) : An g (cutT T L o) (cutT U (L.map g) o') := by
  unfold cutT
  rw [rn_F hg h, hn, h.most]
  exact An.ite Iff.rfl (fun _ => an_ref h _) fun _ => An.ite Iff.rfl (fun _ => an_ref h _) fun _ => an_mk (rn_size hg h _ _) _ _ _ _ _
theorem an_rem {g : ByteArray → ByteArray} (hg : One g) {T U : Ts} (h : Rn g T U) (L : List ByteArray) : An g (remT T L) (remT U (L.map g)) := by
  unfold remT
  rw [rn_F hg h]
  exact An.ite Iff.rfl (fun _ => an_ref h _) fun _ => an_mk (rn_setF (rn_hang hg h _ _ _) _ none) _ _ _ _ _
theorem rn_has {g : ByteArray → ByteArray} (hg : One g) {T U : Ts} (h : Rn g T U) (p : Nat) : (∃ k, (U.M p k).isSome = true) ↔ ∃ k, (T.M p k).isSome = true := by
  constructor
  · rintro ⟨k, hk⟩
    obtain ⟨n, hn⟩ := hg.sur (str k)
    refine ⟨ky n, ?_⟩
    rw [← h.M p n, hn]
    exact hk
  · rintro ⟨k, hk⟩
    exact ⟨ky (g (str k)), by rw [h.M]; exact hk⟩
theorem an_rmd {g : ByteArray → ByteArray} (hg : One g) {T U : Ts} (h : Rn g T U) (L : List ByteArray) : An g (rmdT T L) (rmdT U (L.map g)) := by
  unfold rmdT
  rw [rn_D hg h]
  exact An.ite List.map_eq_nil_iff (fun _ => an_ref h _) fun _ => An.ite Iff.rfl (fun _ => an_ref h _) fun _ => @An.ite _ _ _ (_) (_) _ _ _ _ (rn_has hg h _) (fun _ => an_ref h _) fun _ => an_mk (rn_setD (rn_hang hg h _ _ _) _ none) _ _ _ _ _
theorem an_sta {g : ByteArray → ByteArray} (hg : One g) {T U : Ts} (h : Rn g T U) (L : List ByteArray) : An g (staT T L) (staT U (L.map g)) := by
  unfold staT
  rw [rn_S hg h, rn_szF h]
  exact An.ite Iff.rfl (fun _ => an_ref h _) fun _ => An.ite Iff.rfl (fun _ => an_mk h _ _ _ _ _) fun _ => an_mk h _ _ _ _ _
theorem an_ren {g : ByteArray → ByteArray} (hg : One g) {T U : Ts} (h : Rn g T U) (P Q : List ByteArray) : An g (renT T P Q) (renT U (P.map g) (Q.map g)) := by
  unfold renT
  rw [rn_S hg h, rn_A hg h]
  have e : tarE U (P.map g) (Q.map g) (gA g (fndS T P)).1 = tarE T P Q (fndS T P).1 := rn_tar hg h P Q _
  rw [e]
  refine An.ite Iff.rfl (fun _ => an_ref h _) fun _ => An.ite (map_inj hg) (fun _ => an_mk h _ _ _ _ _) fun _ => An.ite Iff.rfl (fun _ => an_ref h _) fun _ => An.ite Iff.rfl (fun _ => an_mk (rn_mov hg h _ _) _ _ _ _ _) fun _ => ?_
  rw [rn_szF h]
  exact an_mk (rn_setF (rn_mov hg h _ _) _ none) _ _ _ _ _
/-- the names in a directory -/
theorem rises_map {g : ByteArray → ByteArray} (hi : ∀ a b, g a = g b → a = b) (hs : ∀ b, ∃ a, g a = b) {f f' : Key → Option (Nat × Nat)} (h : ∀ n, f' (ky (g n)) = f (ky n)) {ks : List Key} (hk : Rises ks f) : Rises ((ks.map fun k => ky (g (str k))).mergeSort fun x y => decide (x ≤ y)) f' := by
  refine rises_sort ?_ fun k => ?_
  · refine List.pairwise_map.2 (hk.2.1.imp fun hab e => hab ?_)
    have := hi _ _ (ky_inj e)
    exact congrArg ky this
  · rw [List.mem_map]
    obtain ⟨n, hn⟩ := hs (str k)
    have e1 : f' k = f (ky n) := by rw [← h n, hn]; rfl
    rw [e1, ← hk.2.2]
    constructor
    · rintro ⟨l, hl, e⟩
      have e2 : g (str l) = g n := by rw [hn]; exact ky_inj e
      have := hi _ _ e2
      rw [← this]
      exact hl
    · intro hl
      refine ⟨ky n, hl, ?_⟩
      change ky (g n) = k
      rw [hn]
      rfl
theorem keys_map {g : ByteArray → ByteArray} (hg : One g) {f f' : Key → Option (Nat × Nat)} (h : ∀ n, f' (ky (g n)) = f (ky n)) : (keysL f').length = (keysL f).length ∧ ∀ k ∈ keysL f, ky (g (str k)) ∈ keysL f' := by
  by_cases hr : ∃ ks, Rises ks f
  · obtain ⟨ks, hk⟩ := hr
    rw [keysL_eq hk, keysL_eq (rises_map hg.inj hg.sur h hk)]
    refine ⟨by simp, fun k hm => ?_⟩
    rw [(List.mergeSort_perm _ _).mem_iff]
    exact List.mem_map.2 ⟨k, hm, rfl⟩
  · have hr' : ¬ ∃ ks, Rises ks f' := fun ⟨ks, hk⟩ => hr (by
      have hq : ∀ b, g (hg.sur b).choose = b := fun b => (hg.sur b).choose_spec
      refine ⟨_, rises_map (g := fun b => (hg.sur b).choose) (fun a b e => ?_) (fun b => ⟨g b, hg.inj _ _ (hq _)⟩) (f := f') (f' := f) (fun n => ?_) hk⟩
      · rw [← hq a, ← hq b]; exact congrArg g e
      · rw [← h, hq])
    unfold keysL
    rw [dif_neg hr, dif_neg hr']
    exact ⟨rfl, fun k hk => (by cases hk)⟩
theorem an_lis {g : ByteArray → ByteArray} (hg : One g) {T U : Ts} (h : Rn g T U) (L : List ByteArray) : An g (lisT T L) (lisT U (L.map g)) := by
  unfold lisT
  rw [rn_D hg h]
  refine An.ite Iff.rfl (fun _ => an_ref h _) fun _ => ?_
  obtain ⟨k1, k2⟩ := keys_map hg (f := T.M (fndD T L).1.no) (f' := U.M (fndD T L).1.no) (h.M _)
  refine ⟨rfl, rfl, rfl, rfl, by rw [List.length_map, List.length_map]; exact k1, fun x hx => ?_, rfl, h⟩
  obtain ⟨k, hk, rfl⟩ := List.mem_map.1 hx
  exact List.mem_map.2 ⟨_, k2 k hk, rfl⟩
/-- an operation with its names changed -/
structure Opn (g : ByteArray → ByteArray) (o o' : Op) : Prop where
  kind : o'.kind = o.kind
  at_ : o'.at_ = o.at_
  n : o'.n = o.n
  data : o'.data = o.data
  pE : Pa.parseE o'.path = Pa.parseE o.path
  pY : Pa.parseY o'.path = (Pa.parseY o.path).map g
  tE : Pa.parseE o'.to_ = Pa.parseE o.to_
  tY : Pa.parseY o'.to_ = (Pa.parseY o.to_).map g
theorem an_do {g : ByteArray → ByteArray} (hg : One g) {T U : Ts} (h : Rn g T U) {o o' : Op} (ho : Opn g o o') : An g (doT T o) (doT U o') := by
  have he : askE o' = askE o := by unfold askE; rw [ho.kind, ho.at_, ho.n, ho.pE, ho.tE]
  unfold doT
  rw [he, ho.kind, ho.pY, ho.tY]
  exact An.ite Iff.rfl (fun _ => an_ref h _) fun _ => An.ite Iff.rfl (fun _ => an_mkd hg h _) fun _ => An.ite Iff.rfl (fun _ => an_cre hg h _) fun _ => An.ite Iff.rfl (fun _ => an_rea hg h _ _ _ ho.at_ ho.n) fun _ => An.ite Iff.rfl (fun _ => an_wri hg h _ _ _ ho.at_ ho.data) fun _ =>
    An.ite Iff.rfl (fun _ => an_cut hg h _ _ _ ho.n) fun _ => An.ite Iff.rfl (fun _ => an_ren hg h _ _) fun _ => An.ite Iff.rfl (fun _ => an_rem hg h _) fun _ => An.ite Iff.rfl (fun _ => an_rmd hg h _) fun _ => An.ite Iff.rfl (fun _ => an_lis hg h _) fun _ => an_sta hg h _
theorem nd_sub' : ∀ (L M : List Nat), L.Nodup → (∀ x, x ∈ L → x ∈ M) → L.length ≤ M.length
  | [], M, _, _ => Nat.zero_le _
  | a :: L, M, hn, h => by
    have ha : a ∈ M := h a (by simp)
    have h2 := nd_sub' L (M.erase a) (List.nodup_cons.1 hn).2 fun x hx => by
      have hne : x ≠ a := fun e => (List.nodup_cons.1 hn).1 (e ▸ hx)
      exact (List.mem_erase_of_ne hne).2 (h x (by simp [hx]))
    have h3 := List.length_erase_of_mem ha
    have h4 : 0 < M.length := List.length_pos_of_mem ha
    simp only [List.length_cons]
    omega
def cdN (T : Ts) (o : Option (Nat × Nat)) : Nat := match o with
  | none => 0
  | some v => if v.1 = 1 then v.2 else T.D.length + v.2
theorem keys_le {T : Ts} {dp : Nat → Nat} (h : Inv T dp) (p : Nat) : (keysL (T.M p)).length ≤ T.D.length + T.F.length := by
  by_cases hr : ∃ ks, Rises ks (T.M p)
  · obtain ⟨ks, hk⟩ := hr
    rw [keysL_eq hk]
    have hv : ∀ k ∈ ks, ∃ v, T.M p k = some v := fun k hm => Option.isSome_iff_exists.1 ((hk.2.2 k).1 hm)
    have hlt : ∀ k v, T.M p k = some v → (v.1 = 1 ∧ v.2 < T.D.length) ∨ (v.1 = 2 ∧ v.2 < T.F.length) := fun k v hq => by
      rcases (h.hM _ _ _).1 hq with ⟨h1, _, n, h3, _⟩ | ⟨h1, n, s, h3, _⟩
      · exact .inl ⟨h1, some_lt h3⟩
      · exact .inr ⟨h1, some_lt h3⟩
    have := nd_sub' (ks.map fun k => cdN T (T.M p k)) (List.range (T.D.length + T.F.length)) (by
      refine List.pairwise_map.2 (List.Pairwise.imp_of_mem (fun {a b} ha hb hab e => hab ?_) hk.2.1)
      obtain ⟨v, hv1⟩ := hv a ha
      obtain ⟨u, hu1⟩ := hv b hb
      rw [hv1, hu1] at e
      simp only [cdN] at e
      have e2 : v = u := by
        obtain ⟨v1, v2⟩ := v
        obtain ⟨u1, u2⟩ := u
        rcases hlt _ _ hv1 with ⟨c1, c2⟩ | ⟨c1, c2⟩ <;> rcases hlt _ _ hu1 with ⟨d1, d2⟩ | ⟨d1, d2⟩ <;> simp only at c1 d1 c2 d2 e <;> subst c1 d1 <;> simp at e
        · rw [e]
        · omega
        · omega
        · rw [e]
      subst e2
      exact (lies_eq ((h.hM _ _ _).1 hv1) ((h.hM _ _ _).1 hu1)).2) (fun x hx => by
      obtain ⟨k, hm, rfl⟩ := List.mem_map.1 hx
      obtain ⟨v, hv1⟩ := hv k hm
      rw [hv1]
      simp only [cdN, List.mem_range]
      rcases hlt _ _ hv1 with ⟨c1, c2⟩ | ⟨c1, c2⟩
      · rw [if_pos c1]; omega
      · rw [if_neg (by omega)]; omega)
    rw [List.length_map, List.length_range] at this
    exact this
  · unfold keysL
    rw [dif_neg hr]
    exact Nat.zero_le _
theorem names_le {T : Ts} {dp : Nat → Nat} (h : Inv T dp) (o : Op) : (doT T o).1.names.length ≤ T.D.length + T.F.length := by
  unfold doT
  split
  · exact Nat.zero_le _
  split
  · unfold mkdT
    repeat' split
    all_goals exact Nat.zero_le _
  split
  · unfold creT
    repeat' split
    all_goals exact Nat.zero_le _
  split
  · unfold reaT
    repeat' split
    all_goals exact Nat.zero_le _
  split
  · unfold wriT
    repeat' split
    all_goals exact Nat.zero_le _
  split
  · unfold cutT
    repeat' split
    all_goals exact Nat.zero_le _
  split
  · unfold renT
    repeat' split
    all_goals exact Nat.zero_le _
  split
  · unfold remT
    repeat' split
    all_goals exact Nat.zero_le _
  split
  · unfold rmdT
    repeat' split
    all_goals exact Nat.zero_le _
  split
  · unfold lisT
    split
    · exact Nat.zero_le _
    · show ((keysL (T.M (fndD T _).1.no)).map str).length ≤ _
      rw [List.length_map]
      exact keys_le h _
  · unfold staT
    repeat' split
    all_goals exact Nat.zero_le _

end Go.Proofs.YtnnilbfkghibaaaGreatDoor.Tr

namespace Go.Proofs.YtnnilbfkghibaaaGreatDoor.Tr
open Go.RowKit Go.Lib

theorem snoc_ind {α : Type} {P : List α → Prop} (l : List α) (nil : P []) (snoc : ∀ l x, P l → P (l ++ [x])) : P l := by
  have h : ∀ r : List α, P r.reverse := fun r => by
    induction r with
    | nil => exact nil
    | cons x r ih => rw [List.reverse_cons]; exact snoc _ _ ih
  have := h l.reverse
  rwa [List.reverse_reverse] at this
open Classical in
noncomputable def turS (F : List ByteArray) (x : ByteArray) : List ByteArray := if Pa.nm x = true ∧ x ∉ F then F ++ [x] else F
/-- the names that may be, each once -/
noncomputable def turF (l : List ByteArray) : List ByteArray := l.foldl turS []
theorem turF_snoc (l : List ByteArray) (x : ByteArray) : turF (l ++ [x]) = turS (turF l) x := by unfold turF; rw [List.foldl_append]; rfl
theorem turF_ok (l : List ByteArray) : (turF l).Nodup ∧ (∀ x ∈ turF l, Pa.nm x = true) ∧ (turF l).length ≤ l.length := by
  induction l using snoc_ind with
  | nil => exact ⟨List.nodup_nil, fun x hx => (by cases hx), Nat.le_refl _⟩
  | snoc l x ih =>
    rw [turF_snoc]
    unfold turS
    split
    · rename_i h
      refine ⟨List.nodup_append.2 ⟨ih.1, by simp, fun a ha b hb e => ?_⟩, fun y hy => ?_, by simp; exact ih.2.2⟩
      · simp only [List.mem_singleton] at hb
        subst hb e
        exact h.2 ha
      · rcases List.mem_append.1 hy with hy | hy
        · exact ih.2.1 y hy
        · simp only [List.mem_singleton] at hy
          subst hy
          exact h.1
    · refine ⟨ih.1, ih.2.1, by rw [List.length_append]; have := ih.2.2; omega⟩
/-- each in the next one's place -/
def turT (F : List ByteArray) : List ByteArray := (List.range F.length).map fun i => F.getD ((i + 1) % F.length) e0
theorem turT_len (F : List ByteArray) : (turT F).length = F.length := by simp [turT]
theorem nxt_mod {i n : Nat} (h : i < n) : (i + 1) % n = if i + 1 = n then 0 else i + 1 := by
  by_cases h1 : i + 1 = n
  · rw [if_pos h1, h1, Nat.mod_self]
  · rw [if_neg h1, Nat.mod_eq_of_lt (by omega)]
theorem turT_get (F : List ByteArray) {i : Nat} (h : i < F.length) : (turT F)[i]? = F[(i + 1) % F.length]? := by
  unfold turT
  rw [List.getElem?_map, List.getElem?_range h]
  have h2 : (i + 1) % F.length < F.length := Nat.mod_lt _ (by omega)
  rw [Option.map_some, List.getD_eq_getElem?_getD, List.getElem?_eq_getElem h2]
  rfl
theorem turT_take (F : List ByteArray) {k : Nat} (h : k < F.length) {x : ByteArray} (hx : F[(k + 1) % F.length]? = some x) : (turT F).take (k + 1) = (turT F).take k ++ [x] := by
  rw [List.take_add_one, turT_get F h, hx]
  rfl
theorem nodup_idx {F : List ByteArray} (h : F.Nodup) {i j : Nat} {x : ByteArray} (hi : F[i]? = some x) (hj : F[j]? = some x) : i = j := by
  obtain ⟨h1, e1⟩ := List.getElem?_eq_some_iff.1 hi
  obtain ⟨h2, e2⟩ := List.getElem?_eq_some_iff.1 hj
  have hp := List.pairwise_iff_getElem.1 h
  rcases Nat.lt_trichotomy i j with hij | hij | hij
  · exact absurd (e1.trans e2.symm) (hp i j h1 h2 hij)
  · exact hij
  · exact absurd (e2.trans e1.symm) (hp j i h2 h1 hij)
theorem tur_apart {F : List ByteArray} (h : F.Nodup) (L : List ByteArray) : Pa.Apart F (turT F) L := by
  refine ⟨(turT_len F).symm, fun i j x hi hj => nodup_idx h hi hj, fun i j x hi hj => ?_, fun x hx _ => ?_⟩
  · have h1 : i < F.length := by have := (List.getElem?_eq_some_iff.1 hi).1; rwa [turT_len] at this
    have h2 : j < F.length := by have := (List.getElem?_eq_some_iff.1 hj).1; rwa [turT_len] at this
    rw [turT_get F h1] at hi
    rw [turT_get F h2] at hj
    have := nodup_idx h hi hj
    rw [nxt_mod h1, nxt_mod h2] at this
    split at this <;> split at this <;> omega
  · obtain ⟨i, hi⟩ := List.mem_iff_getElem?.1 hx
    have h1 : i < F.length := by have := (List.getElem?_eq_some_iff.1 hi).1; rwa [turT_len] at this
    rw [turT_get F h1] at hi
    exact List.mem_of_getElem? hi
theorem tur_mem {F : List ByteArray} {x : ByteArray} (hx : x ∈ F) : x ∈ turT F := by
  obtain ⟨j, hj⟩ := List.mem_iff_getElem?.1 hx
  have hl := (List.getElem?_eq_some_iff.1 hj).1
  by_cases h0 : j = 0
  · refine List.mem_iff_getElem?.2 ⟨F.length - 1, ?_⟩
    rw [turT_get F (by omega), nxt_mod (by omega), if_pos (by omega), ← h0]
    exact hj
  · refine List.mem_iff_getElem?.2 ⟨j - 1, ?_⟩
    rw [turT_get F (by omega), nxt_mod (by omega), if_neg (by omega), show j - 1 + 1 = j by omega]
    exact hj
theorem tur_back {F : List ByteArray} (h : F.Nodup) (L : List ByteArray) : Pa.Apart (turT F) F L := by
  have ha := tur_apart h L
  exact ⟨ha.len.symm, ha.to_, ha.from_, fun x hx _ => tur_mem hx⟩
theorem tur_one {F : List ByteArray} (h : F.Nodup) (hn : ∀ x ∈ F, Pa.nm x = true) : One (Pa.chg F (turT F)) := by
  refine ⟨fun a b e => Pa.apart_inj (tur_apart h [a]) (tur_apart h [b]) (by simp) (by simp) e, fun b => ⟨Pa.chg (turT F) F b, Pa.apart_back (tur_back h [b]) (by simp)⟩, Pa.chg_miss fun hx => absurd (hn _ hx) (by decide), fun a ha => ?_⟩
  rcases (tur_apart h [a]).cases a (by simp) with ⟨i, hi, u, hu, e⟩ | ⟨_, _, e⟩
  · rw [e]
    exact hn u ((tur_apart h [u]).left u (List.mem_of_getElem? hu) (by simp))
  · rw [e]; exact ha
open Classical in
/-- a path's text with its names changed -/
noncomputable def mapT (s : ByteArray) (F T : List ByteArray) : ByteArray := if Pa.mapE s F T = 0 then Pa.mapY s F T else s
theorem mapT_parse {F : List ByteArray} (h : F.Nodup) (hn : ∀ x ∈ F, Pa.nm x = true) (s : ByteArray) : Pa.parseE (mapT s F (turT F)) = Pa.parseE s ∧ Pa.parseY (mapT s F (turT F)) = (Pa.parseY s).map (Pa.chg F (turT F)) := by
  unfold mapT
  by_cases h0 : Pa.parseE s = 0
  · obtain ⟨h1, h2⟩ := parsed h0
    have hf : Pa.fault ((Pa.parseY s).map (Pa.chg F (turT F))) = 0 := by
      refine Pa.fault_zero.2 ⟨?_, by rw [List.length_map]; exact h2⟩
      rw [List.all_eq_true] at h1 ⊢
      intro x hx
      obtain ⟨y, hy, rfl⟩ := List.mem_map.1 hx
      exact (tur_one h hn).nm y (h1 y hy)
    have hE : Pa.mapE s F (turT F) = 0 := by unfold Pa.mapE; rw [if_pos h0, if_pos (turT_len F).symm]; exact hf
    have hY : Pa.mapY s F (turT F) = Pa.textY ((Pa.parseY s).map (Pa.chg F (turT F))) := by unfold Pa.mapY; rw [if_pos ⟨h0, (turT_len F).symm⟩]
    rw [if_pos hE, hY, h0]
    exact Pa.text_parse hf
  · have hE : ¬ Pa.mapE s F (turT F) = 0 := by unfold Pa.mapE; rw [if_neg h0]; exact h0
    rw [if_neg hE, Pa.parse_nil h0]
    exact ⟨rfl, rfl⟩
theorem map_opn {F : List ByteArray} (h : F.Nodup) (hn : ∀ x ∈ F, Pa.nm x = true) (o : Op) : Opn (Pa.chg F (turT F)) o { o with path := mapT o.path F (turT F), to_ := mapT o.to_ F (turT F) } :=
  ⟨rfl, rfl, rfl, rfl, (mapT_parse h hn _).1, (mapT_parse h hn _).2, (mapT_parse h hn _).1, (mapT_parse h hn _).2⟩
theorem pl_rn {g : ByteArray → ByteArray} (hg : One g) (f d m : Nat) : Rn g ⟨f, d + 1, m, [some (0, e0)], [none], fun _ _ => none⟩ ⟨f, d + 1, m, [some (0, e0)], [none], fun _ _ => none⟩ :=
  ⟨rfl, rfl, rfl, by simp [gD, hg.e0], rfl, fun _ _ => rfl⟩
open Classical in
/-- is a name among these? -/
noncomputable def mem (x : ByteArray) (l : List ByteArray) : Bool := decide (x ∈ l)
theorem mem_nil (x : ByteArray) : mem x [] = false := by simp [mem]
theorem mem_append (x : ByteArray) (a b : List ByteArray) : mem x (a ++ b) = (mem x a || mem x b) := by
  unfold mem
  by_cases h1 : x ∈ a
  · simp [h1]
  · by_cases h2 : x ∈ b
    · simp [h1, h2]
    · simp [h1, h2]
theorem mem_one_self (x : ByteArray) : mem x [x] = true := by simp [mem]
theorem mem_one_ne {x y : ByteArray} (h : ¬ y = x) : mem x [y] = false := by
  unfold mem
  simp only [List.mem_singleton, decide_eq_false_iff_not]
  exact fun e => h e.symm
theorem mem_true {x : ByteArray} {l : List ByteArray} (h : x ∈ l) : mem x l = true := by simp [mem, h]
theorem mem_false {x : ByteArray} {l : List ByteArray} (h : mem x l = false) : x ∉ l := by simpa [mem] using h
theorem mem_of {x : ByteArray} {l : List ByteArray} (h : mem x l = true) : x ∈ l := by simpa [mem] using h

end Go.Proofs.YtnnilbfkghibaaaGreatDoor.Tr

namespace Go.Proofs.YtnnilbfkghibaaaGreatDoor.Tr
open Go.RowKit Go.Lib Go.Deep

/-- two trees side by side -/
structure Two (w : World) (B bt qt nt : Nat) (T : Ts) (bu qu nu : Nat) (U : Ts) : Prop where
  ht : w.heap[bt]? = some (.cells #[.pointer (some ⟨qt, 0, none⟩)] 78 (0, 0))
  hu : w.heap[bu]? = some (.cells #[.pointer (some ⟨qu, 0, none⟩)] 78 (0, 0))
  lay : ∃ F G, Lay w qt F nt T ∧ Lay w qu G nu U ∧ (∀ k, k ∈ F → B ≤ k) ∧ (∀ k, k ∈ G → B ≤ k) ∧ ∀ k, k ∈ F → k ∉ G
theorem Two.swap {w : World} {B bt qt nt bu qu nu : Nat} {T U : Ts} (h : Two w B bt qt nt T bu qu nu U) : Two w B bu qu nu U bt qt nt T := by
  obtain ⟨F, G, h1, h2, h3, h4, h5⟩ := h.lay
  exact ⟨h.hu, h.ht, G, F, h2, h1, h4, h3, fun k hk hk' => h5 k hk' hk⟩
theorem Two.below {w W : World} {B bt qt nt bu qu nu : Nat} {T U : Ts} (h : Two w B bt qt nt T bu qu nu U) (hb : Below w.heap.size w W) : Two W B bt qt nt T bu qu nu U := by
  obtain ⟨F, G, h1, h2, h3, h4, h5⟩ := h.lay
  exact ⟨(hb.block _ (heap_lt h.ht)).trans h.ht, (hb.block _ (heap_lt h.hu)).trans h.hu, F, G, h1.below hb, h2.below hb, h3, h4, h5⟩
theorem two_of {w W : World} {B bt qt nt bu qu nu : Nat} {T U : Ts} (h : Tre w B bt qt nt T) (hB : B ≤ w.heap.size) (hb : Below w.heap.size w W) (h' : Tre W w.heap.size bu qu nu U) : Two W B bt qt nt T bu qu nu U := by
  obtain ⟨F, h1, h2⟩ := h.lay
  obtain ⟨G, h3, h4⟩ := h'.lay
  exact ⟨(hb.block _ (heap_lt h.hb)).trans h.hb, h'.hb, F, G, h1.below hb, h3, h2, fun k hk => Nat.le_trans hB (h4 k hk), fun k hk hk' => by have := h1.lt k hk; have := h4 k hk'; omega⟩
theorem Lay.keep {w W : World} {q : Nat} {F : List Nat} {nn : Nat} {T : Ts} (h : Lay w q F nn T) (h2 : ∀ k, k ∈ F → W.heap[k]? = w.heap[k]?) : Lay W q F nn T := by
  obtain ⟨dv, fv, ld, lf, ms, hFe, hI⟩ := h
  exact ⟨dv, fv, ld, lf, ms, hFe, hI.keep fun k hk => h2 k (by rw [hFe]; exact hk)⟩
theorem do_left (w : World) (B bt qt nt bu qu nu : Nat) (T U : Ts) (dp : Nat → Nat) (o : Op) (h : Two w B bt qt nt T bu qu nu U) (hB : B ≤ w.heap.size) (hv : Inv T dp) (hnn : nt ≤ 8796093022207) (hoa : o.at_ ≤ 9223372036854775807) (hod : o.data.size ≤ 9223372036854775807) :
    Calls Tryz.prog 12 #[.pointer (some ⟨bt, 0, none⟩), .agg #[.int .i64 o.kind, .string o.path, .string o.to_, .int .i64 o.at_, .int .i64 o.n, .string o.data]] w fun e w' => ∃ va vn vc, e = .returned (.tuple #[.agg #[.int .i64 (doT T o).1.code, .string e0, .int .i64 (doT T o).1.n, .slice va vn vc, .int .i64 (doT T o).1.kind, .int .i64 (doT T o).1.size], .agg #[.int .i64 (doT T o).2.1.kind, .int .i64 (doT T o).2.1.file, .int .i64 (doT T o).2.1.gone, .int .i64 (doT T o).2.1.at_, .int .i64 (doT T o).2.1.n, .string (doT T o).2.1.data, .int .i64 (doT T o).2.1.size]]) ∧ Hid (Pa.Own w' w.heap.size (.slice va vn vc) (doT T o).1.names ∧ vn = (doT T o).1.names.length) ∧ Hid (Two w' B bt qt (nt + 1) (doT T o).2.2 bu qu nu U) ∧ Hid (Kp w w') ∧ Hid (Below B w w') := by
  obtain ⟨F, G, hL, hL2, hF, hG, hFG⟩ := h.lay
  refine (do_any w bt qt F nt T dp o h.ht hL hv hnn hoa hod).mono ?_
  rintro e w' ⟨v, rfl, hO, ho, F', hL', hF'⟩
  obtain ⟨a, cap, rfl⟩ := hO.len
  have kp : Kp w w' := fun k c t hk ht => (ho.block k (heap_lt hk) (hL.notin hk ht)).trans hk
  refine ⟨a, _, cap, rfl, ⟨hO, rfl⟩, ⟨kp _ _ _ h.ht (by decide), kp _ _ _ h.hu (by decide), F', G, hL', hL2.keep fun k hk => ho.block k (hL2.lt k hk) (fun e => hFG k e hk), fun k hk => ?_, hG, fun k hk hk' => ?_⟩, kp, ⟨ho.os, ho.tape, ho.output, ho.size, fun k hk => ho.block k (by omega) (fun hm => by have := hF k hm; omega)⟩⟩
  · rcases hF' k hk with h1 | h1
    · exact hF k h1
    · omega
  · rcases hF' k hk with h1 | h1
    · exact hFG k h1 hk'
    · have := hL2.lt k hk'; omega
theorem do_right (w : World) (B bt qt nt bu qu nu : Nat) (T U : Ts) (dp : Nat → Nat) (o : Op) (h : Two w B bt qt nt T bu qu nu U) (hB : B ≤ w.heap.size) (hv : Inv U dp) (hnn : nu ≤ 8796093022207) (hoa : o.at_ ≤ 9223372036854775807) (hod : o.data.size ≤ 9223372036854775807) :
    Calls Tryz.prog 12 #[.pointer (some ⟨bu, 0, none⟩), .agg #[.int .i64 o.kind, .string o.path, .string o.to_, .int .i64 o.at_, .int .i64 o.n, .string o.data]] w fun e w' => ∃ va vn vc, e = .returned (.tuple #[.agg #[.int .i64 (doT U o).1.code, .string e0, .int .i64 (doT U o).1.n, .slice va vn vc, .int .i64 (doT U o).1.kind, .int .i64 (doT U o).1.size], .agg #[.int .i64 (doT U o).2.1.kind, .int .i64 (doT U o).2.1.file, .int .i64 (doT U o).2.1.gone, .int .i64 (doT U o).2.1.at_, .int .i64 (doT U o).2.1.n, .string (doT U o).2.1.data, .int .i64 (doT U o).2.1.size]]) ∧ Hid (Pa.Own w' w.heap.size (.slice va vn vc) (doT U o).1.names ∧ vn = (doT U o).1.names.length) ∧ Hid (Two w' B bt qt nt T bu qu (nu + 1) (doT U o).2.2) ∧ Hid (Kp w w') ∧ Hid (Below B w w') :=
  (do_left w B bu qu nu bt qt nt U T dp o h.swap hB hv hnn hoa hod).mono fun _ _ ⟨va, vn, vc, h1, h2, h3, h4, h5⟩ => ⟨va, vn, vc, h1, h2, h3.out.swap, h4, h5⟩

end Go.Proofs.YtnnilbfkghibaaaGreatDoor.Tr

namespace Go.Proofs.YtnnilbfkghibaaaGreatDoor.Tr
open Go.RowKit Go.Lib Go.Deep

set_option maxRecDepth 20000 in
set_option maxHeartbeats 1000000 in
theorem mapped_any (w : World) (s : ByteArray) (f t : Value) (F T : List ByteArray) (hF : Pa.See w f F) (hT : Pa.See w t T) (hn : F.length ≤ 9223372036854775000) :
    Calls Tryz.prog 21 #[.string s, f, t] w fun e w' => e = .returned (.string (mapT s F T)) ∧ Below w.heap.size w w' := by
  have hm := Pa.rmap_any w s f t F T hF hT hn
  by_cases h0 : Pa.mapE s F T = 0
  · have e : mapT s F T = Pa.mapY s F T := by unfold mapT; rw [if_pos h0]
    rw [e]
    rw [h0] at hm
    go_enter Tryz.func21, Tryz.ntmps21
    go_wp2_with fail
    refine hm.mono ?_
    rintro e w1 ⟨rfl, hb1⟩
    go_wp2
    go_ret
    exact ⟨rfl, hb1⟩
  · have e : mapT s F T = s := by unfold mapT; rw [if_neg h0]
    rw [e]
    have h1 : (Pa.mapE s F T == 0) = false := by simpa using h0
    generalize Pa.mapE s F T = E at *
    go_enter Tryz.func21, Tryz.ntmps21
    go_wp2_with fail
    refine hm.mono ?_
    rintro e w1 ⟨rfl, hb1⟩
    go_wp2
    go_ret
    exact ⟨rfl, hb1⟩
set_option maxRecDepth 20000 in
set_option maxHeartbeats 1000000 in
theorem among_any (w : World) (a b f t : Value) (A B F T : List ByteArray) (hA : Pa.See w a A) (hB : Pa.See w b B) (hF : Pa.See w f F) (hT : Pa.See w t T) (hl : F.length = T.length) (hn : F.length ≤ 9223372036854775000) (hn2 : A.length ≤ 9223372036854775000) (hAB : A.length = B.length) (hm : ∀ x ∈ A, Pa.chg F T x ∈ B) :
    Calls Tryz.prog 22 #[a, b, f, t] w fun e w' => e = .returned (.bool true) ∧ Below w.heap.size w w' := by
  have HA : Hid (∀ W, Below w.heap.size w W → Pa.See W a A) := fun W hb => hA.below hb
  have HB : Hid (∀ W, Below w.heap.size w W → Pa.See W b B) := fun W hb => hB.below hb
  have HCH : Hid (∀ W x, Below w.heap.size w W → Calls Tryz.prog 40 #[.string x, f, t] W fun e w' => e = .returned (.string (Pa.chg F T x)) ∧ Below W.heap.size W w') := fun W x hb => Pa.rchg_any W x f t F T (hF.below hb) (hT.below hb) hl hn
  have HM : Hid (∀ x ∈ A, Pa.chg F T x ∈ B) := hm
  obtain ⟨a1, k1, rfl, -⟩ := hA
  obtain ⟨a2, k2, rfl, -⟩ := hB
  obtain ⟨a3, k3, rfl, -⟩ := hF
  obtain ⟨a4, k4, rfl, -⟩ := hT
  obtain ⟨n, hnn⟩ : ∃ n, A.length = n := ⟨_, rfl⟩
  have HL1 : Hid (A.length = n) := hnn
  have HL2 : Hid (B.length = n) := hAB.symm.trans hnn
  rw [← hAB, hnn] at HB
  rw [hnn] at HA hn2
  rw [← hAB, hnn]
  obtain ⟨G, hG⟩ : ∃ G, Pa.chg F T = G := ⟨_, rfl⟩
  rw [hG] at HCH HM
  clear hAB hnn hm hl hn hG
  generalize F.length = fl at *
  generalize T.length = tl at *
  go_enter Tryz.func22, Tryz.ntmps22
  go_wp2_with fail
  go_loopg [9] n (fun gk iv wr => ∃ i : Nat, i + gk = n ∧ iv = .int .i64 (i : Int) ∧ Hid (Below w.heap.size w wr))
  case atStart => exact ⟨0, by omega, rfl, Below.refl _ _⟩
  case round =>
    obtain ⟨i, hik, rfl, HW⟩ := hrel
    by_cases hlt : i < n
    · have hltI : (i : Int) < (n : Int) := by omega
      have w1' : IntKind.i64.wrap ((i : Int) + 1) = ((i + 1 : Nat) : Int) := by rw [IntKind.wrap_i64]; omega
      obtain ⟨x, hx⟩ : ∃ x, A[i]? = some x := ⟨_, List.getElem?_eq_getElem (by have := HL1.out; omega)⟩
      obtain ⟨b, off, rfl, hc⟩ := (HA.out _ HW.out).cell hx
      have hcl := HCH.out wr x HW.out
      have hmx : G x ∈ B := HM.out x (List.mem_of_getElem? hx)
      generalize G x = y at *
      clear hx
      go_wp2_with fail
      refine hcl.mono ?_
      rintro e w1 ⟨rfl, hb1⟩
      have HW1 : Hid (Below w.heap.size w w1) := HW.out.trans (hb1.mono HW.out.size)
      have HMX : Hid (y ∈ B) := hmx
      clear hb1 hcl hmx
      go_wp2_with fail
      go_loopg [11, 12] n (fun gj tv kv wq => ∃ k : Nat, k + gj = n ∧ kv = .int .i64 (k : Int) ∧ tv = .bool (mem y (B.take k)) ∧ wq = w1)
      case atStart => exact ⟨0, by omega, rfl, by rw [List.take_zero, mem_nil], rfl⟩
      case round =>
        obtain ⟨k, hkj, rfl, rfl, rfl⟩ := hrel
        by_cases hlt2 : k < n
        · have hlt2I : (k : Int) < (n : Int) := by omega
          have w2' : IntKind.i64.wrap ((k : Int) + 1) = ((k + 1 : Nat) : Int) := by rw [IntKind.wrap_i64]; omega
          obtain ⟨z, hz⟩ : ∃ z, B[k]? = some z := ⟨_, List.getElem?_eq_getElem (by have := HL2.out; omega)⟩
          obtain ⟨b2, off2, rfl, hc2⟩ := (HB.out _ HW1.out).cell hz
          have ht : B.take (k + 1) = B.take k ++ [z] := by rw [List.take_add_one, hz]; rfl
          have HT : Hid (mem y (B.take (k + 1)) = (mem y (B.take k) || mem y [z])) := by show _ = _; rw [ht, mem_append]
          clear hz ht
          cases hq : mem y (B.take k) with
          | true =>
            rw [hq] at HT
            clear hq
            go_wp2
            go_roundg (n - (k + 1))
            case measure => omega
            case rel => exact ⟨k + 1, by omega, rfl, by rw [HT.out]; rfl, rfl⟩
          | false =>
            rw [hq] at HT
            clear hq
            by_cases hzy : z = y
            · subst hzy
              go_wp2
              go_roundg (n - (k + 1))
              case measure => omega
              case rel => exact ⟨k + 1, by omega, rfl, by rw [HT.out, mem_one_self]; rfl, rfl⟩
            · have hne := Pa.beq_ne hzy
              rw [mem_one_ne hzy] at HT
              clear hzy
              go_wp2
              go_roundg (n - (k + 1))
              case measure => omega
              case rel => exact ⟨k + 1, by omega, rfl, by rw [HT.out]; rfl, rfl⟩
        · obtain rfl : k = n := by omega
          have hlt2I : ¬ (k : Int) < (k : Int) := by omega
          rw [List.take_of_length_le (by rw [HL2.out]; exact Nat.le_refl _), mem_true HMX.out]
          go_wp2
          go_roundg (k - (i + 1))
          case measure => omega
          case rel => exact ⟨i + 1, by omega, rfl, HW1.out⟩
    · obtain rfl : i = n := by omega
      have hltI : ¬ (i : Int) < (i : Int) := by omega
      go_wp2
      go_ret
      exact ⟨rfl, HW.out⟩

set_option maxRecDepth 20000 in
set_option maxHeartbeats 4000000 in
theorem turned_any (w : World) (v : Value) (L : List ByteArray) (hV : Pa.See w v L) (hn : L.length ≤ 8796093022000) :
    Calls Tryz.prog 20 #[v] w fun e w' => ∃ f t, e = .returned (.tuple #[f, t]) ∧ Hid (Pa.Own w' w.heap.size f (turF L)) ∧ Hid (Pa.Own w' w.heap.size t (turT (turF L))) ∧ Below w.heap.size w w' := by
  have HA : Hid (∀ W, Below w.heap.size w W → Pa.See W v L) := fun W hb => hV.below hb
  obtain ⟨a1, k1, rfl, -⟩ := hV
  obtain ⟨n, hm⟩ : ∃ n, L.length = n := ⟨_, rfl⟩
  have HL : Hid (L.length = n) := hm
  rw [hm] at HA hn ⊢
  clear hm
  go_enter Tryz.func20, Tryz.ntmps20
  go_wp2_with fail
  go_loopg [4, 5] n (fun gk fv iv wr => ∃ i : Nat, i + gk = n ∧ iv = .int .i64 (i : Int) ∧ Hid (Pa.Own wr w.heap.size fv (turF (L.take i))) ∧ Hid (Below w.heap.size w wr))
  case atStart => exact ⟨0, by omega, rfl, Pa.Own.nil _ _, Below.refl _ _⟩
  case round =>
    obtain ⟨i, hik, rfl, HO, HW1⟩ := hrel
    by_cases hlt : i < n
    · have hltI : (i : Int) < (n : Int) := by omega
      have w1' : IntKind.i64.wrap ((i : Int) + 1) = ((i + 1 : Nat) : Int) := by rw [IntKind.wrap_i64]; omega
      obtain ⟨x, hx⟩ : ∃ x, L[i]? = some x := ⟨_, List.getElem?_eq_getElem (by have := HL.out; omega)⟩
      obtain ⟨b, off, rfl, hc⟩ := (HA.out _ HW1.out).cell hx
      have HX : Hid (∀ W, Below wr.heap.size wr W → W.cell? ⟨b, off + i, none⟩ = some (.string x)) := fun W hb => by
        obtain ⟨b', off', e, h⟩ := (HA.out _ (HW1.out.trans (hb.mono HW1.out.size))).cell hx
        injection e with e
        injection e with e1 e2
        subst e1 e2
        exact h
      have HTS : Hid (turF (L.take (i + 1)) = turS (turF (L.take i)) x) := by show _ = _; rw [List.take_add_one, hx]; exact turF_snoc _ _
      have hmi : (turF (L.take i)).length ≤ i := Nat.le_trans (turF_ok _).2.2 (by rw [List.length_take]; omega)
      clear hx
      obtain ⟨M, hM⟩ : ∃ M, turF (L.take i) = M := ⟨_, rfl⟩
      rw [hM] at HO HTS hmi
      clear hM
      obtain ⟨fa, fc, rfl⟩ := HO.out.len
      obtain ⟨m, hm⟩ : ∃ m, M.length = m := ⟨_, rfl⟩
      have HM : Hid (M.length = m) := hm
      rw [hm] at HO hmi ⊢
      clear hm
      have hnm := Pa.rname_any x wr
      by_cases hN : Pa.nm x = true
      · rw [Pa.nameE_ok hN] at hnm
        go_wp2_with fail
        refine hnm.mono ?_
        rintro e w1 ⟨rfl, rfl⟩
        clear hnm hc
        go_wp2_with fail
        go_loopg [6, 7] m (fun gj tv kv wq => ∃ k : Nat, k + gj = m ∧ kv = .int .i64 (k : Int) ∧ tv = .bool (false || mem x (M.take k)) ∧ Hid (wq.heap = w1.heap ∧ Below w1.heap.size w1 wq))
        case atStart => exact ⟨0, by omega, rfl, by rw [List.take_zero, mem_nil]; rfl, rfl, Below.refl _ _⟩
        case round =>
          obtain ⟨k, hkj, rfl, rfl, HQ⟩ := hrel
          by_cases hlt2 : k < m
          · have hlt2I : (k : Int) < (m : Int) := by omega
            have w2' : IntKind.i64.wrap ((k : Int) + 1) = ((k + 1 : Nat) : Int) := by rw [IntKind.wrap_i64]; omega
            obtain ⟨z, hz⟩ : ∃ z, M[k]? = some z := ⟨_, List.getElem?_eq_getElem (by have := HM.out; omega)⟩
            obtain ⟨b2, off2, rfl, hc2⟩ := ((HO.out.see).below HQ.out.2).cell hz
            have hc1 := (HX.out _ HQ.out.2)
            have ht : M.take (k + 1) = M.take k ++ [z] := by rw [List.take_add_one, hz]; rfl
            have HT : Hid ((false || mem x (M.take (k + 1))) = ((false || mem x (M.take k)) || mem x [z])) := by show _ = _; rw [ht, mem_append, Bool.or_assoc]
            clear hz ht
            cases hq : (false || mem x (M.take k)) with
            | true =>
              rw [hq] at HT
              clear hq
              go_wp2_with fail
              go_quiet (fail)
              go_wp2
              go_roundg (m - (k + 1))
              case measure => omega
              case rel => exact ⟨k + 1, by omega, rfl, by rw [HT.out]; rfl, HQ.out.1, bdr HQ.out.2 _⟩
            | false =>
              rw [hq] at HT
              clear hq
              by_cases hzy : z = x
              · subst hzy
                go_wp2_with fail
                go_quiet (fail)
                go_wp2
                go_roundg (m - (k + 1))
                case measure => omega
                case rel => exact ⟨k + 1, by omega, rfl, by rw [HT.out, mem_one_self]; rfl, HQ.out.1, bdr HQ.out.2 _⟩
              · have hne := Pa.beq_ne hzy
                rw [mem_one_ne hzy] at HT
                clear hzy
                go_wp2_with fail
                go_quiet (fail)
                go_wp2
                go_roundg (m - (k + 1))
                case measure => omega
                case rel => exact ⟨k + 1, by omega, rfl, by rw [HT.out]; rfl, HQ.out.1, bdr HQ.out.2 _⟩
          · obtain rfl : k = m := by omega
            have hlt2I : ¬ (k : Int) < (k : Int) := by omega
            rw [List.take_of_length_le (by rw [HM.out]; exact Nat.le_refl _)]
            have hc1 := HX.out _ HQ.out.2
            have HOq := HO.out.below HQ.out.2
            have HBq : Hid (Below w.heap.size w wr) := HW1.out.trans (HQ.out.2.mono HW1.out.size)
            rw [Bool.false_or]
            cases hq : mem x M with
            | true =>
              have HT2 : Hid (turF (L.take (i + 1)) = M) := by show _ = _; rw [HTS.out]; unfold turS; rw [if_neg (fun h => h.2 (mem_of hq))]
              go_wp2
              go_roundg (n - (i + 1))
              case measure => omega
              case rel => exact ⟨i + 1, by omega, rfl, by rw [HT2.out]; exact HOq, HBq.out⟩
            | false =>
              have HT2 : Hid (turF (L.take (i + 1)) = M ++ [x]) := by show _ = _; rw [HTS.out]; unfold turS; rw [if_pos ⟨hN, mem_false hq⟩]
              have HKL : Hid ((M.length + [x].length) * 16 ≤ 140737488355328) := by show _ ≤ _; rw [HM.out]; simp; omega
              have HOW : Hid (Pa.Own wr w.heap.size (.slice fa k fc) M) := HOq
              clear hq HOq
              go_wp2_with (at_builtin; refine Pa.wpList_app rfl _ _ rfl w.heap.size _ _ M [x] rfl (World.ownsRow.alloc HOW.out _) rfl (Pa.see_new wr _ [x] 1 1 rfl rfl (Nat.le_refl _)) HKL.out (by have := HBq.out.size; simp; omega) ?_; intro v3 w3 ho3 hb3)
              go_roundg (n - (i + 1))
              case measure => omega
              case rel => exact ⟨i + 1, by omega, rfl, by rw [HT2.out]; exact ho3, (HBq.out.alloc HBq.out.size _).trans hb3⟩
      · rw [Pa.nameE_of (by simpa using hN)] at hnm
        go_wp2_with fail
        refine hnm.mono ?_
        rintro e w1 ⟨rfl, rfl⟩
        clear hnm hc
        go_wp2_with fail
        go_loopg [6, 7] m (fun gj tv kv wq => ∃ k : Nat, k + gj = m ∧ kv = .int .i64 (k : Int) ∧ tv = .bool (true || mem x (M.take k)) ∧ Hid (wq.heap = w1.heap ∧ Below w1.heap.size w1 wq))
        case atStart => exact ⟨0, by omega, rfl, by rw [List.take_zero, mem_nil]; rfl, rfl, Below.refl _ _⟩
        case round =>
          obtain ⟨k, hkj, rfl, rfl, HQ⟩ := hrel
          by_cases hlt2 : k < m
          · have hlt2I : (k : Int) < (m : Int) := by omega
            have w2' : IntKind.i64.wrap ((k : Int) + 1) = ((k + 1 : Nat) : Int) := by rw [IntKind.wrap_i64]; omega
            obtain ⟨z, hz⟩ : ∃ z, M[k]? = some z := ⟨_, List.getElem?_eq_getElem (by have := HM.out; omega)⟩
            obtain ⟨b2, off2, rfl, hc2⟩ := ((HO.out.see).below HQ.out.2).cell hz
            have hc1 := (HX.out _ HQ.out.2)
            have ht : M.take (k + 1) = M.take k ++ [z] := by rw [List.take_add_one, hz]; rfl
            have HT : Hid ((true || mem x (M.take (k + 1))) = ((true || mem x (M.take k)) || mem x [z])) := by show _ = _; rw [ht, mem_append, Bool.or_assoc]
            clear hz ht
            cases hq : (true || mem x (M.take k)) with
            | true =>
              rw [hq] at HT
              clear hq
              go_wp2_with fail
              go_quiet (fail)
              go_wp2
              go_roundg (m - (k + 1))
              case measure => omega
              case rel => exact ⟨k + 1, by omega, rfl, by rw [HT.out]; rfl, HQ.out.1, bdr HQ.out.2 _⟩
            | false =>
              rw [hq] at HT
              clear hq
              by_cases hzy : z = x
              · subst hzy
                go_wp2_with fail
                go_quiet (fail)
                go_wp2
                go_roundg (m - (k + 1))
                case measure => omega
                case rel => exact ⟨k + 1, by omega, rfl, by rw [HT.out, mem_one_self]; rfl, HQ.out.1, bdr HQ.out.2 _⟩
              · have hne := Pa.beq_ne hzy
                rw [mem_one_ne hzy] at HT
                clear hzy
                go_wp2_with fail
                go_quiet (fail)
                go_wp2
                go_roundg (m - (k + 1))
                case measure => omega
                case rel => exact ⟨k + 1, by omega, rfl, by rw [HT.out]; rfl, HQ.out.1, bdr HQ.out.2 _⟩
          · obtain rfl : k = m := by omega
            have hlt2I : ¬ (k : Int) < (k : Int) := by omega
            rw [List.take_of_length_le (by rw [HM.out]; exact Nat.le_refl _)]
            have hc1 := HX.out _ HQ.out.2
            have HOq := HO.out.below HQ.out.2
            have HBq : Hid (Below w.heap.size w wr) := HW1.out.trans (HQ.out.2.mono HW1.out.size)
            have HT2 : Hid (turF (L.take (i + 1)) = M) := by show _ = _; rw [HTS.out]; unfold turS; rw [if_neg (fun h => hN h.1)]
            rw [Bool.true_or]
            go_wp2
            go_roundg (n - (i + 1))
            case measure => omega
            case rel => exact ⟨i + 1, by omega, rfl, by rw [HT2.out]; exact HOq, HBq.out⟩
    · obtain rfl : i = n := by omega
      have hltI : ¬ (i : Int) < (i : Int) := by omega
      rw [List.take_of_length_le (by rw [HL.out]; exact Nat.le_refl _)] at HO
      obtain ⟨M, hM⟩ : ∃ M, turF L = M := ⟨_, rfl⟩
      have hmi : M.length ≤ i := by rw [← hM]; exact Nat.le_trans (turF_ok _).2.2 (by rw [HL.out]; exact Nat.le_refl _)
      rw [hM] at HO
      have HMM : Hid (turF L = M) := hM
      clear hM
      obtain ⟨fa, fc, rfl⟩ := HO.out.len
      obtain ⟨m, hm⟩ : ∃ m, M.length = m := ⟨_, rfl⟩
      have HM : Hid (M.length = m) := hm
      rw [hm] at HO hmi ⊢
      clear hm
      have HFR : Hid (∀ W, Below wr.heap.size wr W → Pa.See W (.slice fa m fc) M) := fun W hb => HO.out.see.below hb
      have HFO : Hid (∀ W, Below wr.heap.size wr W → Pa.Own W w.heap.size (.slice fa m fc) M) := fun W hb => HO.out.below hb
      obtain ⟨B2, hB2⟩ : ∃ B2, wr.heap.size = B2 := ⟨_, rfl⟩
      have HB2 : Hid (w.heap.size ≤ B2) := by show _ ≤ _; rw [← hB2]; exact HW1.out.size
      have HSZ : Hid (∀ W, Below B2 wr W → B2 ≤ W.heap.size) := fun W hb => by rw [← hB2]; exact hb.size
      have HRF : Hid (Below B2 wr wr) := Below.refl _ _
      rw [hB2] at HFR HFO
      clear hB2
      go_wp2_with fail
      go_loopg [8, 9] m (fun gj tv jv wq => ∃ j : Nat, j + gj = m ∧ jv = .int .i64 (j : Int) ∧ Hid (Pa.Own wq B2 tv ((turT M).take j)) ∧ Hid (Below B2 wr wq))
      case atStart => exact ⟨0, by omega, rfl, Pa.Own.nil _ _, HRF.out⟩
      case round =>
        obtain ⟨j, hjm, rfl, HT, HQ⟩ := hrel
        by_cases hlt2 : j < m
        · have hlt2I : (j : Int) < (m : Int) := by omega
          have w2' : IntKind.i64.wrap ((j : Int) + 1) = ((j + 1 : Nat) : Int) := by rw [IntKind.wrap_i64]; omega
          obtain ⟨q, hq⟩ : ∃ q, (j + 1) % m = q := ⟨_, rfl⟩
          have hqm : q < m := hq ▸ Nat.mod_lt _ (by omega)
          have hqmI : (q : Int) < (m : Int) := by omega
          obtain ⟨z, hz⟩ : ∃ z, M[q]? = some z := ⟨_, List.getElem?_eq_getElem (by have := HM.out; omega)⟩
          obtain ⟨b2, off2, rfl, hc2⟩ := (HFR.out _ HQ.out).cell hz
          have hqn : 0 ≤ ((j : Int) + 1) % (m : Int) ∧ ((j : Int) + 1) % (m : Int) < (m : Int) := ⟨Int.emod_nonneg _ (by omega), Int.emod_lt_of_pos _ (by omega)⟩
          rw [← hq] at hc2
          have hm0 : ¬ (m : Int) = 0 := by omega
          have HTT : Hid ((turT M).take (j + 1) = (turT M).take j ++ [z]) := turT_take M (by rw [HM.out]; exact hlt2) (by rw [HM.out, hq]; exact hz)
          have HKL : Hid ((((turT M).take j).length + [z].length) * 16 ≤ 140737488355328) := by show _ ≤ _; rw [List.length_take]; simp; omega
          obtain ⟨N, hN⟩ : ∃ N, (turT M).take j = N := ⟨_, rfl⟩
          rw [hN] at HT HTT HKL
          clear hz hN hq hqm hqmI
          go_wp2_with (at_builtin; refine Pa.wpList_app rfl _ _ rfl B2 _ _ N [z] rfl (World.ownsRow.alloc HT.out _) rfl (Pa.see_new wr _ [z] 1 1 rfl rfl (Nat.le_refl _)) HKL.out (by have := HSZ.out _ HQ.out; simp; omega) ?_; intro v3 w3 ho3 hb3)
          go_roundg (m - (j + 1))
          case measure => omega
          case rel => exact ⟨j + 1, by omega, rfl, by rw [HTT.out]; exact ho3, (HQ.out.alloc (HSZ.out _ HQ.out) _).trans hb3⟩
        · obtain rfl : j = m := by omega
          have hlt2I : ¬ (j : Int) < (j : Int) := by omega
          rw [List.take_of_length_le (by rw [turT_len, HM.out]; exact Nat.le_refl _)] at HT
          obtain ⟨ta, tc, rfl⟩ := HT.out.len
          have HE : Hid (Below w.heap.size w wr) := HW1.out.trans (HQ.out.mono HB2.out)
          have HF2 : Hid _ := HFO.out _ HQ.out
          have HT2 : Hid _ := HT.out.mono HB2.out
          go_wp2
          go_ret2
          exact ⟨_, _, rfl, by rw [HMM.out]; exact HF2, by rw [HMM.out]; exact HT2, HE.out⟩

end Go.Proofs.YtnnilbfkghibaaaGreatDoor.Tr

namespace Go.Proofs.YtnnilbfkghibaaaGreatDoor.Tr
open Go.RowKit Go.Lib Go.Deep

theorem set_new (w : World) (p j : Nat) (A : Array Value) (t : TypeId) (v : Value) (h : w.heap[p]? = some (.cells A t (0, 0))) : ∃ W, w.setCell ⟨p, j, none⟩ v = W ∧ W.heap[p]? = some (.cells (A.setIfInBounds j v) t (0, 0)) ∧ ∀ B, B ≤ p → Below B w W :=
  ⟨_, rfl, heap_setCell_same _ _ _ _ _ _ h, fun B hB => ⟨rfl, rfl, rfl, by simp, fun k hk => heap_setCell_other _ _ _ _ (by show k ≠ p; omega)⟩⟩
/-- where TreeRenamed is, before its round i -/
def Ren (w wr : World) (g : ByteArray → ByteArray) (bt qt bu qu i : Nat) (fv tv : Value) (F : List ByteArray) : Prop := ∃ (T U : Ts) (dp dp' : Nat → Nat), Two wr w.heap.size bt qt (2 + i) T bu qu (2 + i) U ∧ Inv T dp ∧ Inv U dp' ∧ Rn g T U ∧ Pa.Own wr w.heap.size fv F ∧ Pa.Own wr w.heap.size tv (turT F) ∧ Below w.heap.size w wr
set_option maxRecDepth 20000 in
set_option maxHeartbeats 8000000 in
theorem renamed_walk (w : World) (n0 n1 n2 : Int) (h0 : -9223372036854775808 ≤ n0 ∧ n0 ≤ 9223372036854775807) (h1 : -9223372036854775808 ≤ n1 ∧ n1 ≤ 9223372036854775807) (h2 : -9223372036854775808 ≤ n2 ∧ n2 ≤ 9223372036854775807) (la : Option Addr) (ln lc : Nat) (S : List ByteArray) (hS : Pa.See w (.slice la ln lc) S) (hSn : S.length ≤ 8796093022000) (a : Option Addr) (len c : Nat) (O : List Op) (hO : IsO w a len O) (hlen : len ≤ 8796093022000) :
    Calls Tryz.prog 5 #[.int .i64 n0, .int .i64 n1, .int .i64 n2, .slice la ln lc, .slice a len c] w fun e w' => e = .returned (.bool true) ∧ Below w.heap.size w w' := by
  obtain ⟨f, hf⟩ : ∃ f : Nat, (1 : Int) + n0 % (40 - 1 + 1) = f := ⟨((1 : Int) + n0 % (40 - 1 + 1)).toNat, by omega⟩
  obtain ⟨d, hd⟩ : ∃ d : Nat, (0 : Int) + n1 % (40 - 0 + 1) = d := ⟨((0 : Int) + n1 % (40 - 0 + 1)).toNat, by omega⟩
  obtain ⟨m, hm⟩ : ∃ m : Nat, (0 : Int) + n2 % (1000 - 0 + 1) = m := ⟨((0 : Int) + n2 % (1000 - 0 + 1)).toNat, by omega⟩
  have hc0 := clipped_any n0 1 40 h0 (by omega) (by omega) (by omega) w
  have hc1 := clipped_any n1 0 40 h1 (by omega) (by omega) (by omega) w
  have hc2 := clipped_any n2 0 1000 h2 (by omega) (by omega) (by omega) w
  rw [hf] at hc0
  rw [hd] at hc1
  rw [hm] at hc2
  have HPL : Hid (∀ V : World, Calls Tryz.prog 9 #[.int .i64 (f : Int), .int .i64 (d : Int), .int .i64 (m : Int)] V fun e w' => ∃ (b q : Nat) (T : Ts), e = .returned (.pointer (some ⟨b, 0, none⟩)) ∧ Hid (Tre w' V.heap.size b q 2 T) ∧ Hid (T.fr = f ∧ T.dr = d + 1 ∧ T.most = m ∧ T.F = [none] ∧ ∃ dp, Inv T dp) ∧ Below V.heap.size V w' ∧ Hid (T = plX f d m)) := fun V => planted_at V f d m (by omega) (by omega) (by omega) (by omega)
  have HF1 : Hid (1 ≤ f) := by show 1 ≤ f; omega
  have HOP : Hid (IsO w a len O) := hO
  have HLEN : Hid (O.length = len) := hO.hl
  have HS : Hid (Pa.See w (.slice la ln lc) S ∧ S.length ≤ 8796093022000) := ⟨hS, hSn⟩
  clear hO hf hd hm hS hSn
  go_enter Tryz.func5, Tryz.ntmps5
  go_wp2_with fail
  refine hc0.mono ?_
  rintro e w1 ⟨rfl, rfl⟩
  go_wp2_with fail
  refine hc1.mono ?_
  rintro e w1 ⟨rfl, rfl⟩
  go_wp2_with fail
  refine hc2.mono ?_
  rintro e w1 ⟨rfl, rfl⟩
  go_wp2_with fail
  refine (HPL.out w1).mono ?_
  rintro e w2 ⟨bt, qt, T0, rfl, HT0, HFT, hb2, HPT⟩
  go_wp2_with fail
  refine (HPL.out w2).mono ?_
  rintro e w3 ⟨bu, qu, U0, rfl, HU0, HFU, hb3, HPU⟩
  have hb13 : Below w1.heap.size w1 w3 := below_on hb3 hb2
  have HTW : Hid (Two w3 w1.heap.size bt qt 2 T0 bu qu 2 U0) := two_of HT0.out hb2.size hb3 HU0.out
  have HB3 : Hid (Below w1.heap.size w1 w3) := hb13
  have htu := turned_any w3 (.slice la ln lc) S (HS.out.1.below hb13) HS.out.2
  clear hb2 hb3 hb13 HPL hc0 hc1 hc2 h0 h1 h2 HT0 HU0
  go_wp2_with fail
  refine htu.mono ?_
  rintro e w4 ⟨fv, tv, rfl, HFO, HTO, hb4⟩
  obtain ⟨hnd, hnm, hfl⟩ := turF_ok S
  have hfl2 : (turF S).length ≤ 8796093022000 := Nat.le_trans hfl HS.out.2
  obtain ⟨F, hF⟩ : ∃ F, turF S = F := ⟨_, rfl⟩
  rw [hF] at HFO HTO hnd hnm hfl2
  have HONE : Hid (One (Pa.chg F (turT F))) := tur_one hnd hnm
  have HOPN : Hid (∀ o : Op, Opn (Pa.chg F (turT F)) o { o with path := mapT o.path F (turT F), to_ := mapT o.to_ F (turT F) }) := fun o => map_opn hnd hnm o
  have HFL : Hid (F.length = (turT F).length ∧ F.length ≤ 8796093022000) := ⟨(turT_len F).symm, hfl2⟩
  have HL0 : Hid (Ren w1 w4 (Pa.chg F (turT F)) bt qt bu qu 0 fv tv F) := by
    obtain ⟨_, _, _, _, dp0, hv0⟩ := HFT.out
    obtain ⟨_, _, _, _, dp1, hv1⟩ := HFU.out
    refine ⟨T0, U0, dp0, dp1, HTW.out.below hb4, hv0, hv1, ?_, HFO.out.mono HB3.out.size, HTO.out.mono HB3.out.size, below_on hb4 HB3.out⟩
    rw [HPT.out, HPU.out, plX_is f d m HF1.out]
    exact pl_rn HONE.out f d m
  obtain ⟨fa, fc, rfl⟩ := HFO.out.len
  obtain ⟨ta, tc, rfl⟩ := HTO.out.len
  rw [turT_len] at HL0 ⊢
  obtain ⟨fn, hfn⟩ : ∃ fn, F.length = fn := ⟨_, rfl⟩
  rw [hfn] at HL0 ⊢
  clear hF hb4 hnd hnm hfl hfl2 HFT HFU HPT HPU HFO HTO HTW HB3 htu hfn
  go_wp2_with fail
  go_loopg [18] len (fun gk iv wr => ∃ (i : Nat), i + gk = len ∧ iv = .int .i64 (i : Int) ∧ Hid (Ren w1 wr (Pa.chg F (turT F)) bt qt bu qu i (.slice fa fn fc) (.slice ta fn tc) F))
  case atStart => exact ⟨0, by omega, rfl, HL0.out⟩
  case round =>
    obtain ⟨i, hik, rfl, HL⟩ := hrel
    clear HL0
    by_cases hlt : i < len
    · have hltI : (i : Int) < (len : Int) := by omega
      have w1' : IntKind.i64.wrap ((i : Int) + 1) = ((i + 1 : Nat) : Int) := by rw [IntKind.wrap_i64]; omega
      obtain ⟨T, U, dp, dp', HTW0, hv, hv', HRN0, HOF0, HOT0, hbw⟩ := HL.out
      have HTW : Hid _ := HTW0
      have HBw : Hid _ := hbw
      obtain ⟨o, ho⟩ : ∃ o, O[i]? = some o := ⟨_, List.getElem?_eq_getElem (by have := HLEN.out; omega)⟩
      obtain ⟨pb, po, rfl, hpb0, p0', p1', p2', p3', p4', p5'⟩ := (HOP.out.below hbw).at_ i o ho
      have HP : Hid (∀ V, Below wr.heap.size wr V → V.cell? ⟨pb, po + i * 6, none⟩ = some (.int .i64 o.kind) ∧ V.cell? ⟨pb, po + i * 6 + 1, none⟩ = some (.string o.path) ∧ V.cell? ⟨pb, po + i * 6 + 2, none⟩ = some (.string o.to_) ∧ V.cell? ⟨pb, po + i * 6 + 3, none⟩ = some (.int .i64 o.at_) ∧ V.cell? ⟨pb, po + i * 6 + 4, none⟩ = some (.int .i64 o.n) ∧ V.cell? ⟨pb, po + i * 6 + 5, none⟩ = some (.string o.data)) := fun V hb => ⟨(hb.cell hpb0).trans p0', (hb.cell hpb0).trans p1', (hb.cell hpb0).trans p2', (hb.cell hpb0).trans p3', (hb.cell hpb0).trans p4', (hb.cell hpb0).trans p5'⟩
      have hbd := HOP.out.bd o (List.mem_of_getElem? ho)
      have HMP : Hid (∀ (V : World) (s : ByteArray), Below wr.heap.size wr V → Calls Tryz.prog 21 #[.string s, .slice fa fn fc, .slice ta fn tc] V fun e w' => e = .returned (.string (mapT s F (turT F))) ∧ Below V.heap.size V w') := fun V s hb => mapped_any V s _ _ F (turT F) (HOF0.below hb).see (HOT0.below hb).see (Nat.le_trans HFL.out.2 (by decide))
      have HOF : Hid (Pa.Own wr w1.heap.size (.slice fa fn fc) F) := HOF0
      have HOT : Hid (Pa.Own wr w1.heap.size (.slice ta fn tc) (turT F)) := HOT0
      have HDL : Hid (∀ V, Below wr.heap.size wr V → Calls Tryz.prog 12 #[.pointer (some ⟨bt, 0, none⟩), .agg #[.int .i64 o.kind, .string o.path, .string o.to_, .int .i64 o.at_, .int .i64 o.n, .string o.data]] V fun e w' => ∃ va vn vc, e = .returned (.tuple #[.agg #[.int .i64 (doT T o).1.code, .string e0, .int .i64 (doT T o).1.n, .slice va vn vc, .int .i64 (doT T o).1.kind, .int .i64 (doT T o).1.size], .agg #[.int .i64 (doT T o).2.1.kind, .int .i64 (doT T o).2.1.file, .int .i64 (doT T o).2.1.gone, .int .i64 (doT T o).2.1.at_, .int .i64 (doT T o).2.1.n, .string (doT T o).2.1.data, .int .i64 (doT T o).2.1.size]]) ∧ Hid (Pa.Own w' V.heap.size (.slice va vn vc) (doT T o).1.names ∧ vn = (doT T o).1.names.length) ∧ Hid (Two w' w1.heap.size bt qt (2 + i + 1) (doT T o).2.2 bu qu (2 + i) U) ∧ Hid (Kp V w') ∧ Hid (Below w1.heap.size V w')) := fun V hb => do_left V w1.heap.size bt qt (2 + i) bu qu (2 + i) T U dp o (HTW.out.below hb) (Nat.le_trans HBw.out.size hb.size) hv (by omega) hbd.1 hbd.2
      obtain ⟨m1, hm1⟩ : ∃ m1, mapT o.path F (turT F) = m1 := ⟨_, rfl⟩
      obtain ⟨m2, hm2⟩ : ∃ m2, mapT o.to_ F (turT F) = m2 := ⟨_, rfl⟩
      have HAN : Hid (An (Pa.chg F (turT F)) (doT T o) (doT U { o with path := m1, to_ := m2 })) := by rw [← hm1, ← hm2]; exact an_do HONE.out HRN0 (HOPN.out o)
      have HDR : Hid (∀ (V : World) (X : Ts), w1.heap.size ≤ V.heap.size → Two V w1.heap.size bt qt (2 + i + 1) X bu qu (2 + i) U → Calls Tryz.prog 12 #[.pointer (some ⟨bu, 0, none⟩), .agg #[.int .i64 o.kind, .string m1, .string m2, .int .i64 o.at_, .int .i64 o.n, .string o.data]] V fun e w' => ∃ va vn vc, e = .returned (.tuple #[.agg #[.int .i64 (doT U { o with path := m1, to_ := m2 }).1.code, .string e0, .int .i64 (doT U { o with path := m1, to_ := m2 }).1.n, .slice va vn vc, .int .i64 (doT U { o with path := m1, to_ := m2 }).1.kind, .int .i64 (doT U { o with path := m1, to_ := m2 }).1.size], .agg #[.int .i64 (doT U { o with path := m1, to_ := m2 }).2.1.kind, .int .i64 (doT U { o with path := m1, to_ := m2 }).2.1.file, .int .i64 (doT U { o with path := m1, to_ := m2 }).2.1.gone, .int .i64 (doT U { o with path := m1, to_ := m2 }).2.1.at_, .int .i64 (doT U { o with path := m1, to_ := m2 }).2.1.n, .string (doT U { o with path := m1, to_ := m2 }).2.1.data, .int .i64 (doT U { o with path := m1, to_ := m2 }).2.1.size]]) ∧ Hid (Pa.Own w' V.heap.size (.slice va vn vc) (doT U { o with path := m1, to_ := m2 }).1.names ∧ vn = (doT U { o with path := m1, to_ := m2 }).1.names.length) ∧ Hid (Two w' w1.heap.size bt qt (2 + i + 1) X bu qu (2 + i + 1) (doT U { o with path := m1, to_ := m2 }).2.2) ∧ Hid (Kp V w') ∧ Hid (Below w1.heap.size V w')) := fun V X hV hT => do_right V w1.heap.size bt qt (2 + i + 1) bu qu (2 + i) X U dp' { o with path := m1, to_ := m2 } hT hV hv' (by omega) hbd.1 hbd.2
      have HNL : Hid ((doT T o).1.names.length ≤ 1000000) := by
        obtain ⟨F1, G1, hL1, _⟩ := HTW0.lay
        obtain ⟨dv, fv1, ld, lf, ms, -, hI⟩ := hL1
        have hq1 := names_le hv o
        have hq2 := hI.dl
        have hq3 := hI.fl
        have hq4 := hI.lim
        show _ ≤ _
        omega
      have HVA : Hid (∃ dp, Inv (doT T o).2.2 dp) := inv_do hv o
      have HVB : Hid (∃ dp, Inv (doT U { o with path := m1, to_ := m2 }).2.2 dp) := inv_do hv' _
      obtain ⟨A, hA⟩ : ∃ A, doT T o = A := ⟨_, rfl⟩
      obtain ⟨B, hB⟩ : ∃ B, doT U { o with path := m1, to_ := m2 } = B := ⟨_, rfl⟩
      rw [hA] at HDL HAN HVA HNL
      rw [hB] at HDR HAN HVB
      obtain ⟨⟨cd, rn, rnm, rk, rz⟩, ⟨f0, f1, f2, f3, f4, f5, f6⟩, T1⟩ := A
      obtain ⟨⟨cd', rn', rnm', rk', rz'⟩, ⟨g0, g1, g2, g3, g4, g5, g6⟩, U1⟩ := B
      obtain ⟨a1, a2, a3, a4, a5, a6, a7, a8⟩ := HAN.out
      simp only [Ef.mk.injEq] at a1 a2 a3 a4 a5 a6 a7 a8
      obtain ⟨b0, b1, b2, b3, b4, b5, b6⟩ := a7
      subst a1 a2 a3 a4 b0 b1 b2 b3 b4 b5 b6
      have HLN : Hid (rnm'.length = rnm.length ∧ ∀ x ∈ rnm, Pa.chg F (turT F) x ∈ rnm') := ⟨a5, a6⟩
      have HR1 : Hid (Rn (Pa.chg F (turT F)) T1 U1) := a8
      obtain ⟨ok, op, ot, oa, on, od⟩ := o
      simp only at HDL HDR HP hm1 hm2 HVA HVB p0' p1' p2' p3' p4' p5'
      obtain ⟨W2, hW2, hb2, k2⟩ := one_new wr #[.int .i64 ok, .string op, .string ot, .int .i64 oa, .int .i64 on, .string od] 39
      have HW2 : Hid _ := hW2
      have HB2 : Hid _ := hb2
      have HK2 : Hid _ := k2
      obtain ⟨x0, x1, x2, x3, x4, x5⟩ := cells6 k2
      have hmp1 := HMP.out W2 op hb2
      rw [hm1] at hmp1
      have HM2 : Hid (mapT ot F (turT F) = m2) := hm2
      clear hW2 hb2 k2 hA hB ho hbd hv hv' hbw HTW0 HRN0 HOF0 HOT0 HL hpb0 HAN a5 a6 a8 hm1 hm2
      go_upto_region 13 with fail
      rw [HW2.out]
      clear p0' p1' p2' p3' p4' p5' HW2
      go_wp2_with fail
      refine hmp1.mono ?_
      rintro e w5 ⟨rfl, hb5⟩
      have k5 := (hb5.block _ (heap_lt HK2.out)).trans HK2.out
      obtain ⟨x0, x1, x2, x3, x4, x5⟩ := cells6 k5
      have fz5 : w5.frozen? ⟨wr.heap.size, 1, none⟩ = false := frozen_of_heap k5
      obtain ⟨W6, hW6, k6, hB6⟩ := set_new w5 wr.heap.size 1 _ _ (.string m1) k5
      have HB6 : Hid (Below wr.heap.size wr W6) := (below_on hb5 HB2.out).trans (hB6 _ (Nat.le_refl _))
      have HK6 : Hid (W6.heap[wr.heap.size]? = some (.cells #[.int .i64 ok, .string m1, .string ot, .int .i64 oa, .int .i64 on, .string od] 39 (0, 0))) := k6
      have HW6 : Hid _ := hW6
      clear hW6 k6 hB6 k5 hb5 hmp1
      go_upto_region 14 with fail
      rw [HW6.out]
      clear x0 x1 x2 x3 x4 x5 fz5 HW6 HK2 HB2
      obtain ⟨x0, x1, x2, x3, x4, x5⟩ := cells6 HK6.out
      have hmp2 := HMP.out W6 ot HB6.out
      rw [HM2.out] at hmp2
      go_wp2_with fail
      refine hmp2.mono ?_
      rintro e w7 ⟨rfl, hb7⟩
      clear x0 x1 x2 x3 x4 x5
      have k7 := (hb7.block _ (heap_lt HK6.out)).trans HK6.out
      obtain ⟨x0, x1, x2, x3, x4, x5⟩ := cells6 k7
      have fz7 : w7.frozen? ⟨wr.heap.size, 2, none⟩ = false := frozen_of_heap k7
      obtain ⟨W8, hW8, k8, hB8⟩ := set_new w7 wr.heap.size 2 _ _ (.string m2) k7
      have HB8 : Hid (Below wr.heap.size wr W8) := (below_on hb7 HB6.out).trans (hB8 _ (Nat.le_refl _))
      have HK8 : Hid (W8.heap[wr.heap.size]? = some (.cells #[.int .i64 ok, .string m1, .string m2, .int .i64 oa, .int .i64 on, .string od] 39 (0, 0))) := k8
      have HW8 : Hid _ := hW8
      clear hW8 k8 hB8 k7 hb7 hmp2 HB6 HK6 HMP HM2
      go_upto_region 15 with fail
      rw [HW8.out]
      clear x0 x1 x2 x3 x4 x5 fz7 HW8
      obtain ⟨p0', p1', p2', p3', p4', p5'⟩ := HP.out W8 HB8.out
      have hdl := HDL.out W8 HB8.out
      clear HDL HP
      go_wp2_with fail
      refine hdl.mono ?_
      rintro e w9 ⟨va, vn, vc, rfl, HO9, HT9, HKP9, HB9z⟩
      clear p0' p1' p2' p3' p4' p5' hdl
      obtain ⟨W10, hW10, hb10, k100, k101⟩ := two_new w9 #[.int .i64 cd', .string e0, .int .i64 rn', .slice va vn vc, .int .i64 rk', .int .i64 rz'] #[.int .i64 g0, .int .i64 g1, .int .i64 g2, .int .i64 g3, .int .i64 g4, .string g5, .int .i64 g6] 33 35
      have HB10 : Hid (Below w1.heap.size w1 W10) := ((below_on HB8.out HBw.out).trans HB9z.out).trans (hb10.mono ((below_on HB8.out HBw.out).trans HB9z.out).size)
      have HT10 : Hid _ := HT9.out.below hb10
      have HO10 : Hid (Pa.Own W10 W8.heap.size (.slice va vn vc) rnm ∧ vn = rnm.length) := ⟨HO9.out.1.below hb10, HO9.out.2⟩
      have HKP10 : Hid (Kp W8 W10) := HKP9.out.trans (Kp.of hb10)
      have HKO : Hid (W10.heap[wr.heap.size]? = _) := HKP10.out _ _ _ HK8.out (by decide)
      have HR10 : Hid _ := k100
      have HE10 : Hid _ := k101
      have HW10 : Hid _ := hW10
      clear hW10 hb10 k100 k101 HKP9 HO9 HT9 HB9z
      go_upto_region 16 with fail
      rw [HW10.out]
      clear HW10
      obtain ⟨x0, x1, x2, x3, x4, x5⟩ := cells6 HKO.out
      have hdr := HDR.out W10 T1 HB10.out.size HT10.out
      go_wp2_with fail
      refine hdr.mono ?_
      rintro e w11 ⟨ua, un, uc, rfl, HO11, HT11, HKP11, HB11z⟩
      clear x0 x1 x2 x3 x4 x5 hdr
      obtain ⟨W12, hW12, hb12, k120, k121⟩ := two_new w11 #[.int .i64 cd', .string e0, .int .i64 rn', .slice ua un uc, .int .i64 rk', .int .i64 rz'] #[.int .i64 g0, .int .i64 g1, .int .i64 g2, .int .i64 g3, .int .i64 g4, .string g5, .int .i64 g6] 33 35
      have HB12 : Hid (Below w1.heap.size w1 W12) := (HB10.out.trans HB11z.out).trans (hb12.mono (HB10.out.trans HB11z.out).size)
      have HT12 : Hid _ := HT11.out.below hb12
      have HO12 : Hid (Pa.Own W12 W10.heap.size (.slice ua un uc) rnm' ∧ un = rnm'.length) := ⟨HO11.out.1.below hb12, HO11.out.2⟩
      have HKP12 : Hid (Kp W10 W12) := HKP11.out.trans (Kp.of hb12)
      have HOV : Hid (Pa.Own W12 W8.heap.size (.slice va vn vc) rnm) := owns_kp HO10.out.1 HKP12.out (by decide)
      have HOF12 : Hid (Pa.Own W12 w1.heap.size (.slice fa fn fc) F) := owns_kp (owns_kp (HOF.out.below HB8.out) HKP10.out (by decide)) HKP12.out (by decide)
      have HOT12 : Hid (Pa.Own W12 w1.heap.size (.slice ta fn tc) (turT F)) := owns_kp (owns_kp (HOT.out.below HB8.out) HKP10.out (by decide)) HKP12.out (by decide)
      have ham := among_any W12 (.slice va vn vc) (.slice ua un uc) (.slice fa fn fc) (.slice ta fn tc) rnm rnm' F (turT F) HOV.out.see HO12.out.1.see HOF12.out.see HOT12.out.see HFL.out.1 (Nat.le_trans HFL.out.2 (by decide)) (Nat.le_trans HNL.out (by decide)) HLN.out.1.symm HLN.out.2
      have r10 := HKP12.out _ _ _ HR10.out (by decide)
      have e10 := HKP12.out _ _ _ HE10.out (by decide)
      have HW12 : Hid _ := hW12
      have HR12 : Hid _ := k120
      have HE12 : Hid _ := k121
      have HRR : Hid _ := r10
      have HEE : Hid _ := e10
      clear hW12 hb12 k120 k121 r10 e10 HKP11 HO11 HT11 HB11z HR10 HE10 HT10 HKO HO10 HKP10
      go_upto_region 17 with fail
      rw [HW12.out]
      clear HW12
      obtain ⟨x0, x1, x2, x3, x4, x5⟩ := cells6 HRR.out
      obtain ⟨y0, y1, y2, y3, y4, y5, y6⟩ := cells7 HEE.out
      obtain ⟨z0, z1, z2, z3, z4, z5⟩ := cells6 HR12.out
      obtain ⟨v0, v1, v2, v3, v4, v5, v6⟩ := cells7 HE12.out
      go_wp2_with fail
      refine ham.mono ?_
      rintro e w13 ⟨rfl, hb13⟩
      have HREL : Hid (Ren w1 w13 (Pa.chg F (turT F)) bt qt bu qu (i + 1) (.slice fa fn fc) (.slice ta fn tc) F) := by
        obtain ⟨dpa, hva⟩ := HVA.out
        obtain ⟨dpb, hvb⟩ := HVB.out
        exact ⟨T1, U1, dpa, dpb, HT12.out.below hb13, hva, hvb, HR1.out, HOF12.out.below hb13, HOT12.out.below hb13, below_on hb13 HB12.out⟩
      clear hb13 ham x0 x1 x2 x3 x4 x5 y0 y1 y2 y3 y4 y5 y6 z0 z1 z2 z3 z4 z5 v0 v1 v2 v3 v4 v5 v6
      go_wp2
      go_roundg (len - (i + 1))
      case measure => omega
      case rel => exact ⟨i + 1, by omega, rfl, HREL.out⟩
    · obtain rfl : i = len := by omega
      have hltI : ¬ (i : Int) < (i : Int) := by omega
      obtain ⟨T, U, dp, dp', HTW0, hv, hv', HRN0, HOF0, HOT0, hbw⟩ := HL.out
      have HBw : Hid _ := hbw
      clear HTW0 hv hv' HRN0 HOF0 HOT0 hbw HL
      go_wp2
      go_ret
      exact ⟨rfl, HBw.out⟩

end Go.Proofs.YtnnilbfkghibaaaGreatDoor.Tr
