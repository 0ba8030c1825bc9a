import Derived.Test.YtnnilbfkghibaaaGreatDoorPaX
import Derived.Lib.SlicesS
import Derived.Test.YtnnilbfkghibaaaGreatDoorPbX
namespace Go.Proofs.YtnnilbfkghibaaaGreatDoor.Pa
open Go.RowKit Go.Lib

/-- a name by a table -/
def chg (F T : List ByteArray) (x : ByteArray) : ByteArray := if 0 ≤ idxOfS F x then T.getD (idxOfS F x).toNat ByteArray.empty else x
def mapE (s : ByteArray) (F T : List ByteArray) : Int := if parseE s = 0 then (if F.length = T.length then fault ((parseY s).map (chg F T)) else 1) else parseE s
def mapY (s : ByteArray) (F T : List ByteArray) : ByteArray := if parseE s = 0 ∧ F.length = T.length then textY ((parseY s).map (chg F T)) else str []
theorem idx_full {F : List ByteArray} {x : ByteArray} (k : Nat) (hk : F[k]? = some x) (hne : ∀ j y, j < k → F[j]? = some y → y ≠ x) : idxOfS F x = k := by
  have hkl := (List.getElem?_eq_some_iff.1 hk).1
  have h := idxOfS_hit F F.length k x hkl (Nat.le_refl _) (by rw [List.getD_eq_getElem?_getD, hk]; rfl) (fun j hj => by
    have e : F[j]? = some F[j] := List.getElem?_eq_getElem (by omega)
    rw [List.getD_eq_getElem?_getD, e]
    exact hne j _ hj e)
  rw [List.take_length] at h
  exact h
theorem idx_miss {F : List ByteArray} {x : ByteArray} (h : x ∉ F) : idxOfS F x = -1 := by
  have h2 := idxOfS_miss F F.length x (fun j hj => by
    have e : F[j]? = some F[j] := List.getElem?_eq_getElem hj
    rw [List.getD_eq_getElem?_getD, e]
    intro e2
    exact h (e2 ▸ List.getElem_mem hj))
  rw [List.take_length] at h2
  exact h2
theorem chg_miss {F T : List ByteArray} {x : ByteArray} (h : x ∉ F) : chg F T x = x := by
  unfold chg
  rw [idx_miss h, if_neg (by decide)]
theorem chg_hit {F T : List ByteArray} {x y : ByteArray} (k : Nat) (hk : F[k]? = some x) (hne : ∀ j y, j < k → F[j]? = some y → y ≠ x) (hy : T[k]? = some y) : chg F T x = y := by
  unfold chg
  rw [idx_full k hk hne, if_pos (by omega), Int.toNat_natCast, List.getD_eq_getElem?_getD, hy]
  rfl
/-- the place of a name in a table -/
theorem idx_place {F : List ByteArray} {x : ByteArray} (h : x ∈ F) : ∃ k : Nat, F[k]? = some x ∧ (∀ j y, j < k → F[j]? = some y → y ≠ x) ∧ idxOfS F x = k := by
  induction F with
  | nil => cases h
  | cons z F ih =>
    by_cases hz : z = x
    · subst hz
      exact ⟨0, rfl, fun j y hj => by omega, idx_full 0 rfl (fun j y hj => by omega)⟩
    · have hx : x ∈ F := by
        rcases List.mem_cons.1 h with rfl | h
        · exact absurd rfl hz
        · exact h
      obtain ⟨k, hk, hne, _⟩ := ih hx
      have hne2 : ∀ j y, j < k + 1 → (z :: F)[j]? = some y → y ≠ x := fun j y hj hy => by
        cases j with
        | zero => simp at hy; subst hy; exact hz
        | succ j => exact hne j y (by omega) (by simpa using hy)
      exact ⟨k + 1, by simpa using hk, hne2, idx_full (k + 1) (by simpa using hk) hne2⟩

/-- the table keeps names apart, those of l counted -/
structure Apart (F T L : List ByteArray) : Prop where
  len : F.length = T.length
  from_ : ∀ (i j : Nat) x, F[i]? = some x → F[j]? = some x → i = j
  to_ : ∀ (i j : Nat) x, T[i]? = some x → T[j]? = some x → i = j
  left : ∀ x, x ∈ T → x ∈ L → x ∈ F
theorem Apart.cases {F T L : List ByteArray} (h : Apart F T L) (x : ByteArray) (hx : x ∈ L) : (∃ i : Nat, F[i]? = some x ∧ ∃ y, T[i]? = some y ∧ chg F T x = y) ∨ (x ∉ F ∧ x ∉ T ∧ chg F T x = x) := by
  by_cases hf : x ∈ F
  · obtain ⟨k, hk, hne, _⟩ := idx_place hf
    have hkl := (List.getElem?_eq_some_iff.1 hk).1
    obtain ⟨y, hy⟩ : ∃ y, T[k]? = some y := ⟨_, List.getElem?_eq_getElem (by rw [← h.len]; exact hkl)⟩
    exact .inl ⟨k, hk, y, hy, chg_hit k hk hne hy⟩
  · exact .inr ⟨hf, fun ht => hf (h.left x ht hx), chg_miss hf⟩
/-- no two names become one -/
theorem apart_inj {F T A B : List ByteArray} (ha : Apart F T A) (hb : Apart F T B) {x y : ByteArray} (hx : x ∈ A) (hy : y ∈ B) (h : chg F T x = chg F T y) : x = y := by
  rcases ha.cases x hx with ⟨i, hi, u, hu, e⟩ | ⟨h1, h2, e⟩
  · rcases hb.cases y hy with ⟨j, hj, v, hv, e'⟩ | ⟨h1', h2', e'⟩
    · rw [e, e'] at h
      subst h
      obtain rfl := ha.to_ i j u hu hv
      rw [hi] at hj
      exact Option.some.inj hj
    · rw [e, e'] at h
      exact absurd (h ▸ List.mem_of_getElem? hu) h2'
  · rcases hb.cases y hy with ⟨j, hj, v, hv, e'⟩ | ⟨h1', h2', e'⟩
    · rw [e, e'] at h
      exact absurd (h ▸ List.mem_of_getElem? hv) h2
    · rw [e, e'] at h
      exact h
/-- a table that keeps names apart can be undone -/
theorem apart_back {F T A : List ByteArray} (ha : Apart F T A) {x : ByteArray} (hx : x ∈ A) : chg T F (chg F T x) = x := by
  rcases ha.cases x hx with ⟨i, hi, u, hu, e⟩ | ⟨h1, h2, e⟩
  · rw [e]
    refine chg_hit i hu (fun j y hj hy e2 => ?_) hi
    subst e2
    have := ha.to_ j i y hy hu
    omega
  · rw [e]
    exact chg_miss h2
theorem map_back {F T A : List ByteArray} (ha : Apart F T A) : (A.map (chg F T)).map (chg T F) = A := by
  have : ∀ B : List ByteArray, (∀ x ∈ B, x ∈ A) → (B.map (chg F T)).map (chg T F) = B := by
    intro B
    induction B with
    | nil => intro _; rfl
    | cons b B ih =>
      intro h
      rw [List.map_cons, List.map_cons, ih (fun x hx => h x (List.mem_cons_of_mem _ hx)), apart_back ha (h b (by simp))]
  exact this A (fun _ h => h)
theorem map_prefix {F T A B : List ByteArray} (ha : Apart F T A) (hb : Apart F T B) : A.map (chg F T) <+: B.map (chg F T) ↔ A <+: B := by
  have key : ∀ (A' B' : List ByteArray), (∀ x ∈ A', x ∈ A) → (∀ x ∈ B', x ∈ B) → (A'.map (chg F T) <+: B'.map (chg F T) ↔ A' <+: B') := by
    intro A'
    induction A' with
    | nil => intro B' _ _; simp
    | cons a A' ih =>
      intro B' h1 h2
      cases B' with
      | nil => simp
      | cons b B' =>
        rw [List.map_cons, List.map_cons, List.cons_prefix_cons, List.cons_prefix_cons, ih B' (fun x hx => h1 x (List.mem_cons_of_mem _ hx)) (fun x hx => h2 x (List.mem_cons_of_mem _ hx))]
        constructor
        · rintro ⟨e, h⟩; exact ⟨apart_inj ha hb (h1 a (by simp)) (h2 b (by simp)) e, h⟩
        · rintro ⟨rfl, h⟩; exact ⟨rfl, h⟩
  exact key A B (fun _ h => h) (fun _ h => h)
theorem map_eq {F T A B : List ByteArray} (ha : Apart F T A) (hb : Apart F T B) (h : A.map (chg F T) = B.map (chg F T)) : A = B := by
  have h1 := (map_prefix ha hb).1 (h ▸ List.prefix_refl _)
  have h2 := congrArg List.length h
  rw [List.length_map, List.length_map] at h2
  exact h1.eq_of_length h2
end Go.Proofs.YtnnilbfkghibaaaGreatDoor.Pa

namespace Go.Proofs.YtnnilbfkghibaaaGreatDoor.Pa
open Go.RowKit Go.Lib

theorem slice_part {P : Program} (W : World) (t : TypeId) (ht : P.underlying t = some .string) (s : ByteArray) (a b : Nat) (b' : Int) (r : List UInt8) (hb' : b' = (b : Int)) (hab : a ≤ b) (hb : b ≤ s.size) (hr : (s.data.toList.take b).drop a = r) :
    (Instr.slice t (.string s) (some (.int .i64 (a : Int))) (some (.int .i64 b')) none).run P W = .ok (.string (str r)) W := by
  subst hb'
  rw [run_slice_string (P := P) W t s .i64 .i64 (a : Int) (b : Int) ht (by omega) (by omega) (by omega)]
  congr 2
  rw [← str_of (s.extract _ _), extract_data, Int.toNat_natCast, Int.toNat_natCast, ← hr, List.drop_take]

theorem glue_len (c : UInt8) (ps : List (List UInt8)) : ps.length ≤ (glue c ps).length := by
  induction ps with
  | nil => simp [glue]
  | cons a ps ih => rw [glue_cons]; simp; omega
theorem cut_len (c : UInt8) (l : List UInt8) : (cutS c l).1.length ≤ l.length := by
  have h := (cut_glue c l).1
  have h2 := congrArg List.length h
  have h3 := glue_len c (cutS c l).1
  rw [List.length_append] at h2
  omega
/-- the loop of the document's Parse, behind k bytes -/
def At (t : List UInt8) (k m : Nat) (L : List ByteArray) (a : Nat) : Prop := k ≤ m → ∃ ps r, cutS 47 (t.take k) = (ps, r) ∧ L = ps.map str ∧ a + r.length = k + 1 ∧ r.length ≤ k ∧ ps.length ≤ k
set_option maxRecDepth 20000 in
set_option maxHeartbeats 1000000 in
theorem rparse_any (s : ByteArray) (w : World) : Calls Tryz.prog 59 #[.string s] w fun e w' => (∃ u, e = .returned (.tuple #[u, .int .i64 (parseE s)]) ∧ Own w' w.heap.size u (parseY s)) ∧ Below w.heap.size w w' := by
  have hl : s.data.toList.length = s.size := (size_eq s).symm
  by_cases h1 : s.size < 1
  · have eE : parseE s = 110 := by
      unfold parseE
      rw [if_neg]
      intro h
      have := (rooted_parts h).2.1
      cases hd : s.data.toList with
      | nil => rw [hd] at this; cases this
      | cons x t => rw [hd] at hl; simp at hl; omega
    have eY : parseY s = [] := by unfold parseY; rw [eE]; rfl
    rw [eE, eY]
    have h1I : (s.size : Int) < 1 := by omega
    go_enter Tryz.func59, Tryz.ntmps59
    go_wp2
    go_ret2
    exact ⟨⟨_, rfl, Own.nil _ _⟩, Below.refl _ _⟩
  have h1I : ¬ (s.size : Int) < 1 := by omega
  by_cases h2 : 1024 < s.size
  · have eE : parseE s = 110 := by
      unfold parseE
      rw [if_neg]
      intro h
      have := (rooted_parts h).1
      omega
    have eY : parseY s = [] := by unfold parseY; rw [eE]; rfl
    rw [eE, eY]
    have h2I : (1024 : Int) < (s.size : Int) := by omega
    go_enter Tryz.func59, Tryz.ntmps59
    go_wp2
    go_ret2
    exact ⟨⟨_, rfl, Own.nil _ _⟩, Below.refl _ _⟩
  have h2I : ¬ (1024 : Int) < (s.size : Int) := by omega
  obtain ⟨c0, t, hst⟩ : ∃ c0 t, s.data.toList = c0 :: t := by
    cases hd : s.data.toList with
    | nil => rw [hd] at hl; simp at hl; omega
    | cons x t => exact ⟨x, t, rfl⟩
  have hix0 := fun W => rindex_at (P := Tryz.prog) W 9 s .i64 (0 : Int) 0 c0 Tryz.underlying9 rfl (by rw [hst]; rfl)
  by_cases h3 : c0 = 47
  · subst h3
    have htl : t.length + 1 = s.size := by rw [← hl, hst]; rfl
    by_cases h4 : s.data.toList = [47]
    · have hr : rooted s.data.toList = true := rooted_mk (by omega) (by rw [hst]; rfl) (.inl h4)
      have eE : parseE s = 0 := by unfold parseE; rw [if_pos hr, if_pos h4]
      have eY : parseY s = [] := by unfold parseY; rw [if_pos eE, if_pos h4]
      rw [eE, eY]
      have h4' : (s.toList == [47]) = true := by rw [toList_data, h4]; rfl
      clear hst h4
      go_enter Tryz.func59, Tryz.ntmps59
      go_wp2
      go_ret2
      exact ⟨⟨_, rfl, Own.nil _ _⟩, Below.refl _ _⟩
    have h4' : (s.toList == [47]) = false := by rw [toList_data]; exact beq_eq_false_iff_ne.2 h4
    obtain ⟨cl, hcl⟩ : ∃ cl, s.data.toList.getLast? = some cl := by
      cases hd : s.data.toList.getLast? with
      | none => rw [List.getLast?_eq_none_iff, hst] at hd; cases hd
      | some x => exact ⟨x, rfl⟩
    have hixl := fun W => rindex_at (P := Tryz.prog) W 9 s .i64 ((s.size : Int) - 1) (s.size - 1) cl Tryz.underlying9 (by omega) (by rw [List.getLast?_eq_getElem?, hl] at hcl; exact hcl)
    by_cases h5 : cl = 47
    · subst h5
      have eE : parseE s = 110 := by
        unfold parseE
        rw [if_neg]
        intro h
        rcases (rooted_parts h).2.2 with h | h
        · exact h4 h
        · exact h hcl
      have eY : parseY s = [] := by unfold parseY; rw [eE]; rfl
      rw [eE, eY]
      clear hst h4 hcl
      go_enter Tryz.func59, Tryz.ntmps59
      go_wp2
      go_ret2
      exact ⟨⟨_, rfl, Own.nil _ _⟩, Below.refl _ _⟩
    have h5I : ¬ (cl.toNat : Int) = 47 := fun e => h5 (UInt8.toNat_inj.1 (by have : (((47 : UInt8).toNat : Nat) : Int) = 47 := rfl; omega))
    have hr : rooted s.data.toList = true := rooted_mk (by omega) (by rw [hst]; rfl) (.inr fun h => h5 (by rw [hcl] at h; exact Option.some.inj h))
    have eE : parseE s = fault (pcs s) := by unfold parseE; rw [if_pos hr, if_neg h4]
    have eY : fault (pcs s) = 0 → parseY s = pcs s := fun h => by unfold parseY; rw [eE, if_pos h, if_neg h4]
    have eN : fault (pcs s) ≠ 0 → parseY s = [] := fun h => by unfold parseY; rw [eE, if_neg h]
    rw [eE]
    clear hcl h5 h4 eE hr
    generalize cl.toNat = cln at *
    go_enter Tryz.func59, Tryz.ntmps59
    obtain ⟨m, hm⟩ : ∃ m, t.length = m := ⟨_, rfl⟩
    have hsm : s.size = m + 1 := by omega
    have HT : Hid (s.data.toList = 47 :: t) := hst
    have HM : Hid (t.length = m) := hm
    have HSZ : Hid (s.size = m + 1) := hsm
    have HY : Hid (fault (pcs s) = 0 → parseY s = pcs s) := eY
    have HN : Hid (fault (pcs s) ≠ 0 → parseY s = []) := eN
    have hm1 : m ≤ 1023 := by omega
    clear eY eN hst hl htl hm hsm
    go_wp2
    go_loopg [4, 5, 6] (m + 1) (fun gk v f i wr => ∃ (k : Nat) (L : List ByteArray) (a : Nat), k + gk = m + 1 ∧ i = .int .i64 ((k : Int) + 1) ∧ f = .int .i64 (a : Int) ∧ Own wr w.heap.size v L ∧ Hid (Below w.heap.size w wr) ∧ Hid (At t k m L a) ∧ Hid (k = m + 1 → L = (pieces t).map str))
    case atStart => exact ⟨0, [], 1, by omega, rfl, rfl, Own.nil _ _, Below.refl _ _, fun _ => ⟨[], [], rfl, rfl, by simp, Nat.le_refl _, Nat.le_refl _⟩, fun h => by omega⟩
    case round =>
      obtain ⟨k, L, a, hk, rfl, rfl, hown, HW, HA, HE⟩ := hrel
      have HKG : Hid (k + gk = m + 1) := hk
      have hkm : k ≤ m + 1 := by omega
      clear hk
      by_cases hle : k ≤ m
      · obtain ⟨ps, r, hcut, rfl, hra, hrk, hpk⟩ := HA.out hle
        have hleI : (k : Int) + 1 ≤ (s.size : Int) := by rw [HSZ.out]; omega
        have ha1 : a ≤ k + 1 := by omega
        have HR : Hid ((s.data.toList.take (k + 1)).drop a = r) := by
          show _ = _
          have h := cut_drop 47 (t.take k)
          rw [hcut, List.length_take, HM.out, show min k m = k by omega] at h
          rw [HT.out, List.take_succ_cons, show a = (k - r.length) + 1 by omega, List.drop_succ_cons]
          exact h
        have hsl := fun W => slice_part (P := Tryz.prog) W 9 Tryz.underlying9 s a (k + 1) ((k : Int) + 1) r (by omega) ha1 (by rw [HSZ.out]; omega) HR.out
        have hpl : (ps.map str).length ≤ 2000 := by rw [List.length_map]; omega
        have hpb : ((ps.map str).length + [str r].length) * 16 ≤ 140737488355328 := by simp; omega
        by_cases hlast : k = m
        · subst hlast
          have HP : Hid (ps.map str ++ [str r] = (pieces t).map str) := by
            show _ = _
            rw [List.take_of_length_le (by rw [HM.out]; exact Nat.le_refl _)] at hcut
            unfold pieces
            rw [hcut, List.map_append]
            rfl
          have HO1 : Hid _ := hown
          have hkI : (k : Int) + 1 = (s.size : Int) := by rw [HSZ.out]; omega
          rw [hkI] at hsl
          generalize str r = y at *
          generalize ps.map str = L at *
          clear hown hcut HA HE HR hra hrk hpk
          go_wp2_with (at_builtin; refine wpList_app rfl _ _ rfl w.heap.size _ _ L [y] rfl (World.ownsRow.alloc (Own.below (B := w.heap.size) (L := L) HO1.out (Below.refl _ _)) _) rfl (see_new wr _ [y] 1 1 rfl rfl (Nat.le_refl _)) hpb (by have := HW.out.size; simp; omega) ?_; intro v2 w2 ho2 hb2)
          go_roundg (gk - 1)
          case measure => have := HKG.out; omega
          case rel => exact ⟨k + 1, _, k + 2, by have := HKG.out; omega, by go_num, by go_num, ho2, (HW.out.alloc HW.out.size _).trans hb2, fun h => by omega, fun _ => HP.out⟩
        · have hkI : ¬ (k : Int) + 1 = (s.size : Int) := by rw [HSZ.out]; omega
          obtain ⟨x, hx⟩ : ∃ x, t[k]? = some x := ⟨_, List.getElem?_eq_getElem (by have := HM.out; omega)⟩
          have hix := fun W => rindex_at (P := Tryz.prog) W 9 s .i64 ((k : Int) + 1) (k + 1) x Tryz.underlying9 (by omega) (by rw [HT.out, List.getElem?_cons_succ]; exact hx)
          have hst := cut_take 47 t k x hx
          rw [hcut] at hst
          clear hx
          by_cases hxc : x = 47
          · have HA2 : Hid (At t (k + 1) m (ps.map str ++ [str r]) (k + 2)) := fun _ => ⟨ps ++ [r], [], by rw [hst, step, if_pos hxc], by simp, by simp, by simp, by simp; omega⟩
            have hxI : (x.toNat : Int) = 47 := by rw [hxc]; rfl
            have hkB : ((k : Int) + 1 == (s.size : Int)) = false := beq_eq_false_iff_ne.2 hkI
            have HO1 : Hid _ := hown
            generalize str r = y at *
            generalize ps.map str = L at *
            generalize x.toNat = xn at hix hxI
            clear hown hcut HA HE HR hra hrk hpk hst hxc
            go_wp2_with (at_builtin; refine wpList_app rfl _ _ rfl w.heap.size _ _ L [y] rfl (World.ownsRow.alloc (Own.below (B := w.heap.size) (L := L) HO1.out (Below.refl _ _)) _) rfl (see_new wr _ [y] 1 1 rfl rfl (Nat.le_refl _)) hpb (by have := HW.out.size; simp; omega) ?_; intro v2 w2 ho2 hb2)
            go_roundg (gk - 1)
            case measure => have := HKG.out; omega
            case rel => exact ⟨k + 1, _, k + 2, by have := HKG.out; omega, by go_num, by go_num, ho2, (HW.out.alloc HW.out.size _).trans hb2, HA2, fun h => by omega⟩
          · have HA2 : Hid (At t (k + 1) m (ps.map str) a) := fun _ => ⟨ps, r ++ [x], by rw [hst, step, if_neg hxc], rfl, by simp; omega, by simp; omega, by omega⟩
            have hkB : ((k : Int) + 1 == (s.size : Int)) = false := beq_eq_false_iff_ne.2 hkI
            have hxI : ¬ (x.toNat : Int) = 47 := fun e => hxc (UInt8.toNat_inj.1 (by have : (((47 : UInt8).toNat : Nat) : Int) = 47 := rfl; omega))
            generalize str r = y at *
            generalize ps.map str = L at *
            generalize x.toNat = xn at hix hxI
            clear hcut HA HE HR hra hrk hpk hst hxc
            go_wp2
            go_roundg (gk - 1)
            case measure => have := HKG.out; omega
            case rel => exact ⟨k + 1, _, a, by have := HKG.out; omega, by go_num, rfl, hown, HW, HA2, fun h => by omega⟩
      · obtain rfl : k = m + 1 := by omega
        have hleI : ¬ ((m + 1 : Nat) : Int) + 1 ≤ (s.size : Int) := by rw [HSZ.out]; omega
        have hLE := HE.out rfl
        have hLp : L = pcs s := by rw [hLE]; unfold pcs; rw [HT.out]; rfl
        have hLn : L.length ≤ 9223372036854775000 := by
          rw [hLE, List.length_map]
          unfold pieces
          have h2 := cut_len 47 t
          rw [HM.out] at h2
          rw [List.length_append]
          simp
          omega
        subst hLp
        obtain ⟨a4, c4, rfl⟩ := hown.len
        have hf := rnames_any wr _ _ hown.see hLn
        have HO1 : Hid _ := hown
        clear HA HE hLE hown
        by_cases h0 : fault (pcs s) = 0
        · rw [h0] at hf
          go_wp2_with (go_at_call 93; refine hf.mono ?_; rintro e w1 ⟨rfl, hb1⟩)
          go_ret2
          exact ⟨⟨_, by rw [h0]; rfl, by rw [HY.out h0]; exact Own.below HO1.out hb1⟩, HW.out.trans (hb1.mono HW.out.size)⟩
        · have HNN := HN.out h0
          go_wp2_with (go_at_call 93; refine hf.mono ?_; rintro e w1 ⟨rfl, hb1⟩)
          go_ret2
          exact ⟨⟨_, rfl, by rw [HNN]; exact Own.nil _ _⟩, HW.out.trans (hb1.mono HW.out.size)⟩
  · have eE : parseE s = 110 := by
      unfold parseE
      rw [if_neg]
      intro h
      have := (rooted_parts h).2.1
      rw [hst] at this
      simp at this
      exact h3 this
    have eY : parseY s = [] := by unfold parseY; rw [eE]; rfl
    rw [eE, eY]
    have h3I : ¬ (c0.toNat : Int) = 47 := fun e => h3 (UInt8.toNat_inj.1 (by have : (((47 : UInt8).toNat : Nat) : Int) = 47 := rfl; omega))
    generalize c0.toNat = cn at *
    go_enter Tryz.func59, Tryz.ntmps59
    go_wp2
    go_ret2
    exact ⟨⟨_, rfl, Own.nil _ _⟩, Below.refl _ _⟩
end Go.Proofs.YtnnilbfkghibaaaGreatDoor.Pa

namespace Go.Proofs.YtnnilbfkghibaaaGreatDoor.Pa
open Go.RowKit Go.Lib

theorem str_app (a b : List UInt8) : str a ++ str b = str (a ++ b) := by
  apply ByteArray.ext
  simp [str, ByteArray.data_append]
set_option maxRecDepth 20000 in
set_option maxHeartbeats 1000000 in
theorem rtext_any (w : World) (v : Value) (L : List ByteArray) (h1 : See w v L) (hn : L.length ≤ 9223372036854775000) : Calls Tryz.prog 72 #[v] w fun e w' => e = .returned (.tuple #[.string (textY L), .int .i64 (fault L)]) ∧ Below w.heap.size w w' := by
  have hf := rnames_any w v L h1 hn
  have HA : Hid (∀ W, Below w.heap.size w W → See W v L) := fun W hb => h1.below hb
  by_cases h0 : fault L = 0
  · obtain ⟨Y, hY⟩ : ∃ Y, textY L = Y := ⟨_, rfl⟩
    have HY : Hid (str (textL L) = Y) := (textY_ok h0).symm.trans hY
    rw [h0] at hf ⊢
    rw [hY]
    clear hY
    obtain ⟨a1, k1, rfl, -⟩ := h1
    by_cases hl : L = []
    · subst hl
      rw [← HY.out]
      go_enter Tryz.func72, Tryz.ntmps72
      go_wp2_with (go_at_call 93; refine hf.mono ?_; rintro e w1 ⟨rfl, hb1⟩)
      go_ret2
      exact ⟨rfl, hb1⟩
    have hn16 := (fault_zero.1 h0).2
    obtain ⟨n, hln⟩ : ∃ n, L.length = n := ⟨_, rfl⟩
    have hn0 : ¬ n = 0 := fun e => hl (List.eq_nil_of_length_eq_zero (by omega))
    rw [hln] at HA hf hn hn16 ⊢
    have HL : Hid (L.length = n) := hln
    have HN : Hid (L ≠ []) := hl
    clear hln hl
    go_enter Tryz.func72, Tryz.ntmps72
    go_wp2_with (first | (go_at_call 93; refine hf.mono ?_; rintro e w1 ⟨rfl, hb1⟩))
    go_loopg [5, 6] n (fun gk sv iv wr => ∃ (k : Nat) (S : ByteArray), k + gk = n ∧ iv = .int .i64 (k : Int) ∧ sv = .string S ∧ Hid (S = str (slashed (L.take k))) ∧ Hid (Below w.heap.size w wr))
    case atStart => exact ⟨0, _, by omega, rfl, rfl, rfl, hb1⟩
    case round =>
      obtain ⟨k, S, hk, rfl, rfl, HS, HW⟩ := hrel
      have HKG : Hid (k + gk = n) := hk
      have hkn : k ≤ n := by omega
      clear hk
      by_cases hlt : k < n
      · have hltI : (k : Int) < (n : Int) := by omega
        obtain ⟨x, hx⟩ : ∃ x, L[k]? = some x := ⟨_, List.getElem?_eq_getElem (by have := HL.out; omega)⟩
        obtain ⟨b, off, rfl, hc⟩ := (HA.out _ HW.out).cell hx
        have HS2 : Hid (S ++ { data := #[47] } ++ x = str (slashed (L.take (k + 1)))) := by
          show _ = _
          rw [slashed_take L k x hx, HS.out]
          have e : ({ data := #[47] } : ByteArray) = str [47] := rfl
          rw [e, ← str_of x, str_app, str_app, str_data]
          simp
        have hall := (fault_zero.1 h0).1
        have hz : S.size ≤ 33 * k := by
          rw [HS.out, str_size]
          have h2 := slashed_len (L.take k) (List.all_eq_true.2 fun y hy => List.all_eq_true.1 hall y (List.mem_of_mem_take hy))
          rw [List.length_take] at h2
          have := HL.out
          omega
        have hxz : x.size ≤ 32 := by
          have := (nm_free (List.all_eq_true.1 hall x (List.mem_of_getElem? hx))).2.2
          rw [size_eq x]; exact this
        have hc1 : ¬ 9223372036854775807 < S.size + 1 := by omega
        have hc2 : ¬ 9223372036854775807 < S.size + 1 + x.size := by omega
        clear hx hall hz hxz
        go_wp2
        go_roundg (gk - 1)
        case measure => have := HKG.out; omega
        case rel => exact ⟨k + 1, _, by have := HKG.out; omega, by go_num, rfl, HS2, HW⟩
      · obtain rfl : k = n := by omega
        have hltI : ¬ (k : Int) < (k : Int) := by omega
        obtain rfl : S = Y := by
          rw [← HY.out, HS.out, List.take_of_length_le (by rw [HL.out]; exact Nat.le_refl _)]
          unfold textL
          rw [if_neg HN.out]
        go_wp2
        go_ret2
        exact ⟨rfl, HW.out⟩
  · rcases fault_vals L with h | h | h
    · exact absurd h h0
    all_goals
      rw [h] at hf ⊢
      have HE : Hid (textY L = str []) := by show _ = _; unfold textY; rw [if_neg h0]
      obtain ⟨a1, k1, rfl, -⟩ := h1
      rw [HE.out]
      clear HE
      generalize L.length = n at *
      go_enter Tryz.func72, Tryz.ntmps72
      go_wp2_with (go_at_call 93; refine hf.mono ?_; rintro e w1 ⟨rfl, hb1⟩)
      go_ret2
      exact ⟨rfl, hb1⟩
end Go.Proofs.YtnnilbfkghibaaaGreatDoor.Pa

namespace Go.Proofs.YtnnilbfkghibaaaGreatDoor.Pa
open Go.RowKit Go.Lib

set_option maxRecDepth 20000 in
set_option maxHeartbeats 1000000 in
theorem rchg_any (w : World) (x : ByteArray) (f t : Value) (F T : List ByteArray) (hF : See w f F) (hT : See w t T) (hl : F.length = T.length) (hn : F.length ≤ 9223372036854775000) :
    Calls Tryz.prog 40 #[.string x, f, t] w fun e w' => e = .returned (.string (chg F T x)) ∧ Below w.heap.size w w' := by
  have HA : Hid (∀ W, Below w.heap.size w W → See W f F) := fun W hb => hF.below hb
  have HB : Hid (∀ W, Below w.heap.size w W → See W t T) := fun W hb => hT.below hb
  obtain ⟨a1, k1, rfl, -⟩ := hF
  obtain ⟨a2, k2, rfl, -⟩ := hT
  obtain ⟨n, hm⟩ : ∃ n, F.length = n := ⟨_, rfl⟩
  have HL2 : Hid (T.length = n) := hl.symm.trans hm
  have HL1 : Hid (F.length = n) := hm
  rw [← hl, hm] at HB
  rw [hm] at HA hn
  rw [← hl, hm]
  obtain ⟨R, hR⟩ : ∃ R, chg F T x = R := ⟨_, rfl⟩
  rw [hR]
  have HR : Hid (chg F T x = R) := hR
  clear hm hl hR
  go_enter Tryz.func40, Tryz.ntmps40
  go_wp2_with fail
  go_loopg [7] n (fun gk iv wr => ∃ k : Nat, k + gk = n ∧ iv = .int .i64 (k : Int) ∧ Hid (Below w.heap.size w wr) ∧ Hid (∀ j y, j < k → F[j]? = some y → y ≠ x))
  case atStart => exact ⟨0, by omega, rfl, Below.refl _ _, fun j y h => by omega⟩
  case round =>
    obtain ⟨k, hk, rfl, HW, HZ⟩ := hrel
    have HKG : Hid (k + gk = n) := hk
    have hkn : k ≤ n := by omega
    clear hk
    by_cases hlt : k < n
    · have hltI : (k : Int) < (n : Int) := by omega
      obtain ⟨y, hy⟩ : ∃ y, F[k]? = some y := ⟨_, List.getElem?_eq_getElem (by have := HL1.out; omega)⟩
      obtain ⟨z, hz⟩ : ∃ z, T[k]? = some z := ⟨_, List.getElem?_eq_getElem (by have := HL2.out; omega)⟩
      obtain ⟨b, off, rfl, hc⟩ := (HA.out _ HW.out).cell hy
      obtain ⟨b2, off2, rfl, hc2⟩ := (HB.out _ HW.out).cell hz
      by_cases hxy : y = x
      · subst hxy
        obtain rfl : z = R := by rw [← HR.out]; exact (chg_hit k hy HZ.out hz).symm
        clear hy hz
        go_wp2
        go_ret
        exact ⟨rfl, HW.out⟩
      · have HZ2 : Hid (∀ j y, j < k + 1 → F[j]? = some y → y ≠ x) := fun j y' hj hj' => by
          by_cases h : j = k
          · subst h; rw [hy] at hj'; injection hj' with hj'; subst hj'; exact hxy
          · exact HZ.out j y' (by omega) hj'
        have hne := beq_ne hxy
        clear hy hz hxy
        go_wp2
        go_roundg (gk - 1)
        case measure => have := HKG.out; omega
        case rel => exact ⟨k + 1, by have := HKG.out; omega, by go_num, HW, HZ2⟩
    · obtain rfl : k = n := by omega
      have hltI : ¬ (k : Int) < (k : Int) := by omega
      obtain rfl : x = R := by
        rw [← HR.out]
        refine (chg_miss fun hx => ?_).symm
        obtain ⟨j, hj⟩ := List.mem_iff_getElem?.1 hx
        exact HZ.out j x (by have := (List.getElem?_eq_some_iff.1 hj).1; have := HL1.out; omega) hj rfl
      go_wp2
      go_ret
      exact ⟨rfl, HW.out⟩
set_option maxRecDepth 20000 in
set_option maxHeartbeats 1000000 in
theorem rmap_any (w : World) (s : ByteArray) (f t : Value) (F T : List ByteArray) (hF : See w f F) (hT : See w t T) (hn : F.length ≤ 9223372036854775000) :
    Calls Tryz.prog 39 #[.string s, f, t] w fun e w' => e = .returned (.tuple #[.string (mapY s F T), .int .i64 (mapE s F T)]) ∧ Below w.heap.size w w' := by
  have hp := rparse_any s w
  by_cases h0 : parseE s = 0
  · rw [h0] at hp
    by_cases hl : F.length = T.length
    · have eE : mapE s F T = fault ((parseY s).map (chg F T)) := by unfold mapE; rw [if_pos h0, if_pos hl]
      have eY : mapY s F T = textY ((parseY s).map (chg F T)) := by unfold mapY; rw [if_pos ⟨h0, hl⟩]
      rw [eE, eY]
      have hpl := (parse_len s).1
      have HTX : Hid (∀ W v, See W v ((parseY s).map (chg F T)) → Calls Tryz.prog 72 #[v] W fun e w' => e = .returned (.tuple #[.string (textY ((parseY s).map (chg F T))), .int .i64 (fault ((parseY s).map (chg F T)))]) ∧ Below W.heap.size W w') := fun W v hv => rtext_any W v _ hv (by rw [List.length_map]; omega)
      have HCH : Hid (∀ W x, Below w.heap.size w W → Calls Tryz.prog 40 #[.string x, f, t] W fun e w' => e = .returned (.string (chg F T x)) ∧ Below W.heap.size W w') := fun W x hb => rchg_any W x f t F T (hF.below hb) (hT.below hb) hl hn
      obtain ⟨a1, k1, rfl, -⟩ := hF
      obtain ⟨a2, k2, rfl, -⟩ := hT
      obtain ⟨G, hG⟩ : ∃ G, chg F T = G := ⟨_, rfl⟩
      rw [hG] at HTX HCH ⊢
      obtain ⟨m, hm⟩ : ∃ m, F.length = m := ⟨_, rfl⟩
      rw [← hl] at HCH ⊢
      rw [hm] at HCH hn ⊢
      clear eE eY h0 hm hl hG
      generalize parseY s = L at *
      obtain ⟨E, hE⟩ : ∃ E, fault (L.map G) = E := ⟨_, rfl⟩
      obtain ⟨Y, hY⟩ : ∃ Y, textY (L.map G) = Y := ⟨_, rfl⟩
      rw [hE, hY] at HTX ⊢
      clear hE hY
      go_enter Tryz.func39, Tryz.ntmps39
      go_wp2_with (go_at_call 59; refine hp.mono ?_; rintro e w1 ⟨⟨u1, rfl, ho1⟩, hb1⟩; obtain ⟨a3, k3, rfl⟩ := ho1.len)
      have HA : Hid (∀ W, Below w1.heap.size w1 W → See W (.slice a3 L.length k3) L) := fun W hb => (ho1.below hb).see
      obtain ⟨n, hln⟩ : ∃ n, L.length = n := ⟨_, rfl⟩
      rw [hln] at HA hpl ⊢
      have HL : Hid (L.length = n) := hln
      clear hln ho1 hp
      go_loopg [10, 11] n (fun gk ov iv wr => ∃ k : Nat, k + gk = n ∧ iv = .int .i64 (k : Int) ∧ Own wr w1.heap.size ov ((L.take k).map G) ∧ Hid (Below w1.heap.size w1 wr))
      case atStart => exact ⟨0, by omega, rfl, Own.nil _ _, Below.refl _ _⟩
      case round =>
        obtain ⟨k, hk, rfl, hown, HW⟩ := hrel
        have HKG : Hid (k + gk = n) := hk
        have hkn : k ≤ n := by omega
        clear hk
        by_cases hlt : k < n
        · have hltI : (k : Int) < (n : Int) := by omega
          obtain ⟨x, hx⟩ : ∃ x, L[k]? = some x := ⟨_, List.getElem?_eq_getElem (by have := HL.out; omega)⟩
          obtain ⟨b, off, rfl, hc⟩ := (HA.out _ HW.out).cell hx
          have hcl := HCH.out wr x (hb1.trans (HW.out.mono hb1.size))
          have HX : Hid ((L.take (k + 1)).map G = (L.take k).map G ++ [G x]) := by show _ = _; rw [List.take_add_one, hx]; simp
          have HKL : Hid ((((L.take k).map G).length + [G x].length) * 16 ≤ 140737488355328) := by show _ ≤ _; rw [List.length_map, List.length_take, HL.out]; simp; omega
          clear hx
          generalize G x = y at *
          obtain ⟨M, hM⟩ : ∃ M, (L.take k).map G = M := ⟨_, rfl⟩
          rw [hM] at hown HX HKL
          clear hM
          have HO1 : Hid _ := hown
          clear hown
          go_wp2_with (first
            | (go_at_call 40; refine hcl.mono ?_; rintro e w2 ⟨rfl, hb2⟩)
            | (at_builtin; refine wpList_app rfl _ _ rfl w1.heap.size _ _ M [y] rfl (World.ownsRow.alloc (Own.below (B := w1.heap.size) (L := M) HO1.out hb2) _) rfl (see_new w2 _ [y] 1 1 rfl rfl (Nat.le_refl _)) HKL.out (by have := hb2.size; have := HW.out.size; simp; omega) ?_; intro v3 w3 ho3 hb3))
          go_roundg (gk - 1)
          case measure => have := HKG.out; omega
          case rel => exact ⟨k + 1, by have := HKG.out; omega, by go_num, by rw [HX.out]; exact ho3, (HW.out.trans ((hb2.alloc hb2.size _).mono HW.out.size)).trans hb3⟩
        · obtain rfl : k = n := by omega
          have hltI : ¬ (k : Int) < (k : Int) := by omega
          rw [List.take_of_length_le (by rw [HL.out]; exact Nat.le_refl _)] at hown
          have htx := HTX.out _ _ hown.see
          have h1r := hb1.trans (HW.out.mono hb1.size)
          clear hown
          go_wp2_with (go_at_call 72; refine htx.mono ?_; rintro e w4 ⟨rfl, hb4⟩)
          go_ret2
          exact ⟨rfl, h1r.trans (hb4.mono h1r.size)⟩
    · have eE : mapE s F T = 1 := by unfold mapE; rw [if_pos h0, if_neg hl]
      have eY : mapY s F T = str [] := by unfold mapY; rw [if_neg (fun h => hl h.2)]
      rw [eE, eY]
      obtain ⟨a1, k1, rfl, -⟩ := hF
      obtain ⟨a2, k2, rfl, -⟩ := hT
      have hlI : ¬ (F.length : Int) = (T.length : Int) := by omega
      clear eE eY
      generalize F.length = m at *
      generalize T.length = n at *
      go_enter Tryz.func39, Tryz.ntmps39
      go_wp2_with (go_at_call 59; refine hp.mono ?_; rintro e w1 ⟨⟨u1, rfl, ho1⟩, hb1⟩)
      go_ret2
      exact ⟨rfl, hb1⟩
  · have eE : mapE s F T = parseE s := by unfold mapE; rw [if_neg h0]
    have eY : mapY s F T = str [] := by unfold mapY; rw [if_neg (fun h => h0 h.1)]
    rw [eE, eY]
    obtain ⟨a1, k1, rfl, -⟩ := hF
    obtain ⟨a2, k2, rfl, -⟩ := hT
    clear eE eY
    generalize parseE s = E at *
    generalize F.length = m at *
    generalize T.length = n at *
    go_enter Tryz.func39, Tryz.ntmps39
    go_wp2_with (go_at_call 59; refine hp.mono ?_; rintro e w1 ⟨⟨u1, rfl, ho1⟩, hb1⟩)
    go_ret2
    exact ⟨rfl, hb1⟩
end Go.Proofs.YtnnilbfkghibaaaGreatDoor.Pa
