import Derived.Test.YtcbmkijjbkjkpaaGreatDoorTaM
import Derived.Test.YtcbmkijjbkjkpaaGreatDoorLaM
import Derived.Test.YtcbmkijjbkjkpaaGreatDoorTrLd
import Derived.Deep.DeepCutAuto
namespace Go.Proofs.YtcbmkijjbkjkpaaGreatDoor.Tr
open Go.RowKit Go.Lib

/-- a file has this number -/
def tkF (T : Ts) (x : Nat) : Prop := ∃ r, T.F[x]? = some (some r)
/-- what an effect says of the numbers -/
inductive Say (T : Ts) (e : Ef) (T' : Ts) : Prop
  | none : e = Ef.no → (∀ x, tkF T' x ↔ tkF T x) → Say T e T'
  | made : e.kind = 1 → e.file = (lowL T.F : Int) → e.gone = -1 → (∀ x, tkF T' x ↔ x = lowL T.F ∨ tkF T x) → Say T e T'
  | touch (n : Nat) : e.kind = 2 ∨ e.kind = 3 ∨ e.kind = 4 → e.file = (n : Int) → e.gone = -1 → tkF T n → (∀ x, tkF T' x ↔ tkF T x) → Say T e T'
  | gone (n : Nat) : e.kind = 5 → e.file = (n : Int) → tkF T n → (∀ x, tkF T' x ↔ x ≠ n ∧ tkF T x) → Say T e T'
  | over (n g : Nat) : e.kind = 6 → e.file = (n : Int) → e.gone = (g : Int) → tkF T n → tkF T g → n ≠ g → (∀ x, tkF T' x ↔ x ≠ g ∧ tkF T x) → Say T e T'
theorem say_ref {T : Ts} {c : Int} : Say T (ref T c).2.1 (ref T c).2.2 := .none rfl fun _ => Iff.rfl
theorem tkF_set {T : Ts} {x : Nat} {r : Nat × ByteArray × Nat} (hx : x ≤ T.F.length) (y : Nat) : tkF (setF T x (some r)) y ↔ y = x ∨ tkF T y := by
  unfold tkF
  rw [setF_get T x _ hx]
  by_cases h : y = x
  · rw [if_pos h]; exact ⟨fun _ => .inl h, fun _ => ⟨r, rfl⟩⟩
  · rw [if_neg h]; exact ⟨fun h2 => .inr h2, fun h2 => h2.resolve_left h⟩
theorem tkF_del {T : Ts} {x : Nat} (hx : x ≤ T.F.length) (y : Nat) : tkF (setF T x none) y ↔ y ≠ x ∧ tkF T y := by
  unfold tkF
  rw [setF_get T x _ hx]
  by_cases h : y = x
  · rw [if_pos h]; exact ⟨fun ⟨r, hr⟩ => (by cases hr), fun h2 => absurd h h2.1⟩
  · rw [if_neg h]; exact ⟨fun h2 => ⟨h, h2⟩, fun h2 => h2.2⟩
theorem got_file {T : Ts} {dp : Nat → Nat} (h : Inv T dp) {L : List ByteArray} (hL : L.all Pa.nm = true) (he : (fndF T L).2 = 0) : ∃ n s, T.F[(fndF T L).1.no]? = some (some ((fndF T L).1.par, n, s)) := by
  obtain ⟨e1, e2, e3, e4⟩ := fndF_ok he
  rw [e1]
  have g := got h hL e2
  have hL0 : L ≠ [] := ne_of_kd e4
  have sp := g.sp hL0
  have hk : (fndA T L).1.kd = 2 := by
    rcases sp.kd h with k | k | k
    · exact absurd k e3
    · exact absurd k e4
    · exact k
  have hm := sp.there e3
  rw [hk] at hm
  obtain ⟨n, s, h1, _⟩ := h.fileF hm
  exact ⟨n, s, h1⟩
theorem mkd_say {T : Ts} {L : List ByteArray} : Say T (mkdT T L).2.1 (mkdT T L).2.2 := by
  unfold mkdT
  split
  · exact say_ref
  · split
    · exact .none rfl fun _ => Iff.rfl
    · exact say_ref
theorem cre_say {T : Ts} {L : List ByteArray} : Say T (creT T L).2.1 (creT T L).2.2 := by
  unfold creT
  split
  · exact say_ref
  · split
    · exact .made rfl rfl rfl fun x => tkF_set (lowL_le _) x
    · exact say_ref
theorem rea_say {T : Ts} {dp : Nat → Nat} (h : Inv T dp) {L : List ByteArray} (hL : L.all Pa.nm = true) {o : Op} : Say T (reaT T L o).2.1 (reaT T L o).2.2 := by
  unfold reaT
  split
  · exact say_ref
  · rename_i hc
    obtain ⟨n, s, h1⟩ := got_file h hL (Decidable.of_not_not hc)
    exact .touch _ (.inl rfl) rfl rfl ⟨_, h1⟩ fun _ => Iff.rfl
theorem size_say {T : Ts} {x s : Nat} (hx : tkF T x) (y : Nat) : tkF (sizeT T x s) y ↔ tkF T y := by
  obtain ⟨r, hr⟩ := hx
  unfold sizeT
  rw [tkF_set (Nat.le_of_lt (some_lt hr))]
  exact ⟨fun h => h.elim (fun e => e ▸ ⟨r, hr⟩) id, .inr⟩
theorem wri_say {T : Ts} {dp : Nat → Nat} (h : Inv T dp) {L : List ByteArray} (hL : L.all Pa.nm = true) {o : Op} : Say T (wriT T L o).2.1 (wriT T L o).2.2 := by
  unfold wriT
  split
  · exact say_ref
  · rename_i hc
    obtain ⟨n, s, h1⟩ := got_file h hL (Decidable.of_not_not hc)
    split
    · exact say_ref
    · refine .touch _ (.inr (.inl rfl)) rfl rfl ⟨_, h1⟩ fun y => ?_
      dsimp only
      split
      · exact Iff.rfl
      · exact size_say ⟨_, h1⟩ y
theorem cut_say {T : Ts} {dp : Nat → Nat} (h : Inv T dp) {L : List ByteArray} (hL : L.all Pa.nm = true) {o : Op} : Say T (cutT T L o).2.1 (cutT T L o).2.2 := by
  unfold cutT
  split
  · exact say_ref
  · rename_i hc
    obtain ⟨n, s, h1⟩ := got_file h hL (Decidable.of_not_not hc)
    split
    · exact say_ref
    · exact .touch _ (.inr (.inr rfl)) rfl rfl ⟨_, h1⟩ fun y => size_say ⟨_, h1⟩ y
theorem rem_say {T : Ts} {dp : Nat → Nat} (h : Inv T dp) {L : List ByteArray} (hL : L.all Pa.nm = true) : Say T (remT T L).2.1 (remT T L).2.2 := by
  unfold remT
  split
  · exact say_ref
  · rename_i hc
    obtain ⟨n, s, h1⟩ := got_file h hL (Decidable.of_not_not hc)
    exact .gone _ rfl rfl ⟨_, h1⟩ fun x => tkF_del (T := hangT T _ _ none) (Nat.le_of_lt (some_lt h1)) x
theorem rmd_say {T : Ts} {L : List ByteArray} : Say T (rmdT T L).2.1 (rmdT T L).2.2 := by
  unfold rmdT
  split
  · exact say_ref
  · split
    · exact say_ref
    · split
      · exact say_ref
      · exact .none rfl fun _ => Iff.rfl
theorem lis_say {T : Ts} {L : List ByteArray} : Say T (lisT T L).2.1 (lisT T L).2.2 := by
  unfold lisT
  split
  · exact say_ref
  · exact .none rfl fun _ => Iff.rfl
theorem sta_say {T : Ts} {L : List ByteArray} : Say T (staT T L).2.1 (staT T L).2.2 := by
  unfold staT
  split
  · exact say_ref
  · split
    · exact .none rfl fun _ => Iff.rfl
    · exact .none rfl fun _ => Iff.rfl
theorem file_at {T : Ts} {dp : Nat → Nat} (hv : Inv T dp) {L : List ByteArray} {b : Sp} (g : Got T dp L b) (hk : b.kd = 2) : L ≠ [] ∧ ∃ s, T.F[b.no]? = some (some (b.par, b.nm, s)) := by
  have hL : L ≠ [] := fun e => by rw [g.rt e] at hk; cases hk
  have sp := g.sp hL
  have hm := sp.there (by omega)
  rw [hk] at hm
  obtain ⟨n', s, h1, h2⟩ := hv.fileF hm
  obtain rfl := ky_inj h2
  exact ⟨hL, s, h1⟩
theorem mov_tk {T : Ts} {a b : Sp} (ha : a.kd = 1 ∨ tkF T a.no) (x : Nat) : tkF (movT T a b) x ↔ tkF T x := by
  unfold movT
  split
  · exact Iff.rfl
  · rename_i hk
    have ht := ha.resolve_left hk
    obtain ⟨r, hr⟩ := ht
    have := tkF_set (T := hangT (hangT T a.par a.nm none) b.par b.nm (some (a.kd, a.no))) (x := a.no) (r := (b.par, b.nm, szF T a.no)) (Nat.le_of_lt (some_lt hr)) x
    exact this.trans ⟨fun h => h.elim (fun e => e ▸ ⟨r, hr⟩) id, .inr⟩
theorem ren_say {T : Ts} {dp : Nat → Nat} (h : Inv T dp) {P Q : List ByteArray} (hP : P.all Pa.nm = true) (hQ : Q.all Pa.nm = true) : Say T (renT T P Q).2.1 (renT T P Q).2.2 := by
  unfold renT
  by_cases h1 : (fndS T P).2 ≠ 0
  · rw [if_pos h1]; exact say_ref
  rw [if_neg h1]
  by_cases h2 : P = Q
  · rw [if_pos h2]; exact .none rfl fun _ => Iff.rfl
  rw [if_neg h2]
  by_cases h3 : tarE T P Q (fndS T P).1 ≠ 0
  · rw [if_pos h3]; exact say_ref
  rw [if_neg h3]
  obtain ⟨e1, e2, e3⟩ := fndS_ok (Decidable.of_not_not h1)
  obtain ⟨t1, t2, t3, t4, t5⟩ := tarE_ok (Decidable.of_not_not h3)
  rw [e1] at *
  have gP := got h hP e2
  have gQ := got h hQ t2
  have hQ0 := ne_of_kd t3
  have ka : (fndA T P).1.kd = 1 ∨ (fndA T P).1.kd = 2 := by
    by_cases hP0 : P = []
    · rw [hP0]; exact .inl rfl
    · rcases (gP.sp hP0).kd h with k | k | k
      · exact absurd k e3
      · exact .inl k
      · exact .inr k
  have hta : (fndA T P).1.kd = 1 ∨ tkF T (fndA T P).1.no := ka.imp id fun k => by
    obtain ⟨_, s, hs⟩ := file_at h gP k
    exact ⟨_, hs⟩
  by_cases kz : (fndA T Q).1.kd = 0
  · rw [if_pos kz]
    exact .none rfl (mov_tk hta)
  · rw [if_neg kz]
    have kb : (fndA T Q).1.kd = 2 := by
      rcases (gQ.sp hQ0).kd h with k | k | k
      · exact absurd k kz
      · exact absurd k t3
      · exact k
    have ka2 : (fndA T P).1.kd = 2 := ka.resolve_left fun k => t4 ⟨kb, k⟩
    obtain ⟨hP0, s, hs⟩ := file_at h gP ka2
    obtain ⟨_, s', hs'⟩ := file_at h gQ kb
    have hne : (fndA T P).1.no ≠ (fndA T Q).1.no := fun e => by
      rw [e, hs'] at hs
      simp only [Option.some.injEq, Prod.mk.injEq] at hs
      exact h2 (gP.eq h gQ hP0 hQ0 ⟨hs.1, hs.2.1⟩)
    refine .over _ _ rfl rfl rfl ⟨_, hs⟩ ⟨_, hs'⟩ hne fun x => ?_
    have hl : (fndA T Q).1.no ≤ (movT T (fndA T P).1 (fndA T Q).1).F.length := by
      obtain ⟨r, hr⟩ := (mov_tk hta (b := (fndA T Q).1) (fndA T Q).1.no).2 ⟨_, hs'⟩
      exact Nat.le_of_lt (some_lt hr)
    rw [tkF_del hl, mov_tk hta]
/-- what the effects say -/
theorem do_say {T : Ts} {dp : Nat → Nat} (h : Inv T dp) (o : Op) : Say T (doT T o).2.1 (doT T o).2.2 := by
  unfold doT
  by_cases h0 : askE o ≠ 0
  · rw [if_pos h0]; exact say_ref
  rw [if_neg h0]
  obtain ⟨_, _, h3, h4, _, _⟩ := askE_ok (Decidable.of_not_not h0)
  obtain ⟨hP, _⟩ := parsed h3
  split
  · exact mkd_say
  split
  · exact cre_say
  split
  · exact rea_say h hP
  split
  · exact wri_say h hP
  split
  · exact cut_say h hP
  split
  · rename_i hk
    exact ren_say h hP (parsed (h4 hk)).1
  split
  · exact rem_say h hP
  split
  · exact rmd_say
  split
  · exact lis_say
  · exact sta_say

end Go.Proofs.YtcbmkijjbkjkpaaGreatDoor.Tr

namespace Go.Proofs.YtcbmkijjbkjkpaaGreatDoor.Tr
open Go.RowKit Go.Lib Go.Deep

def zsC (L : List Nat) : List Value := L.map fun (n : Nat) => Value.int .i64 (n : Int)
theorem zsC_len (L : List Nat) : (zsC L).length = L.length := by simp [zsC]
theorem zsC_snoc (L : List Nat) (x : Nat) : zsC (L ++ [x]) = zsC L ++ [.int .i64 (x : Int)] := by simp [zsC]
theorem info3i : (Tryz.prog.info? 3).map (fun i => (i.zero, i.size, i.bytes)) = some (some (.int .i64 0), 1, 8) := by kernel_rfl
theorem cells_one (W : World) (v : Value) (t : TypeId) : ∀ (j : Nat) u, [v][j]? = some u → (W.alloc (.cells #[v] t)).cell? ((⟨W.heap.size, 0, none⟩ : Addr).add j) = some u := fun j u h => by
  have e : (⟨W.heap.size, 0, none⟩ : Addr).add j = ⟨W.heap.size, j, none⟩ := by simp [Addr.add]; omega
  rw [e, cell_of_heap (heap_new W _)]
  simpa using h
/-- numbers in a row -/
def Zs (w : World) (B : Nat) (a : Option Addr) (n c : Nat) (L : List Nat) : Prop := w.ownsRow B 3 1 (.slice a n c) n (zsC L) ∧ n = L.length
theorem Zs.cell {w : World} {B : Nat} {a : Option Addr} {n c : Nat} {L : List Nat} (h : Zs w B a n c L) {i x : Nat} (hi : L[i]? = some x) : ∃ g, a = some ⟨g, 0, none⟩ ∧ w.cell? ⟨g, i, none⟩ = some (.int .i64 (x : Int)) := by
  have hl := (List.getElem?_eq_some_iff.1 hi).1
  obtain ⟨h1, rfl⟩ := h
  rcases h1.2 with ⟨e1, e2⟩ | ⟨g, cap, cur, e1, _⟩
  · omega
  · injection e1 with e1 _ e3
    subst e1
    subst e3
    refine ⟨g, rfl, ?_⟩
    rw [h1.cellAt i (by omega)]
    simp [zsC, hi]
theorem zs_form {w : World} {B n : Nat} {v : Value} {L : List Nat} (h : w.ownsRow B 3 1 v n (zsC L)) : ∃ a c, v = .slice a n c := by
  rcases h.2 with ⟨e1, e2⟩ | ⟨g, cap, cur, e1, _⟩
  · exact ⟨none, 0, by rw [e2]; exact e1⟩
  · exact ⟨_, cap, e1⟩
set_option maxRecDepth 20000 in
set_option maxHeartbeats 2000000 in
theorem without_any (w : World) (B : Nat) (a : Option Addr) (n c : Nat) (L : List Nat) (h : Zs w B a n c L) (hn : n ≤ 1000000) (x : Nat) : Calls Tryz.prog 19 #[.slice a n c, .int .i64 (x : Int)] w fun e w' => ∃ a' n' c', e = .returned (.slice a' n' c') ∧ Hid (Zs w' w.heap.size a' n' c' (L.filter fun y => y != x)) ∧ Below w.heap.size w w' := by
  have HC : Hid (∀ V : World, Below w.heap.size w V → ∀ i, i < n → ∃ y g, L[i]? = some y ∧ a = some ⟨g, 0, none⟩ ∧ V.cell? ⟨g, i, none⟩ = some (.int .i64 (y : Int))) := fun V hb i hi => by
    have hx := List.getElem?_eq_getElem (l := L) (i := i) (by rw [← h.2]; exact hi)
    have h' : Zs V B a n c L := ⟨owns_keep h.1 fun g hg => hb.block _ (h.1.lt g hg).2, h.2⟩
    obtain ⟨g, e1, e2⟩ := h'.cell hx
    exact ⟨_, g, hx, e1, e2⟩
  have HN : Hid (n = L.length) := h.2
  obtain ⟨i0, hi, hz0, hz1, hz2⟩ := info_parts info3i
  clear h
  go_enter Tryz.func19, Tryz.ntmps19
  go_wp2_with fail
  go_loopg [5, 6] n (fun gk mv iv wr => ∃ (i : Nat), i + gk = n ∧ iv = .int .i64 (i : Int) ∧ wr.ownsRow w.heap.size 3 1 mv ((L.take i).filter fun y => y != x).length (zsC ((L.take i).filter fun y => y != x)) ∧ Hid (Below w.heap.size w wr))
  case atStart => exact ⟨0, by omega, rfl, World.ownsRow_nil _ _ _ _, Below.refl _ _⟩
  case round =>
    obtain ⟨i, hik, rfl, hown, HB⟩ := hrel
    by_cases hlt : i < n
    · have hltI : (i : Int) < (n : Int) := by omega
      have w1' : IntKind.i64.wrap ((i : Int) + 1) = ((i + 1 : Nat) : Int) := by rw [IntKind.wrap_i64]; omega
      obtain ⟨y, g, hy, rfl, hc⟩ := HC.out wr HB.out i hlt
      have ht : L.take (i + 1) = L.take i ++ [y] := by rw [List.take_add_one, hy]; rfl
      have hpl : ((L.take i).filter fun y => y != x).length ≤ i := Nat.le_trans (List.length_filter_le _ _) (by rw [List.length_take]; omega)
      by_cases hyx : y = x
      · have HF : Hid ((L.take (i + 1)).filter (fun y => y != x) = (L.take i).filter fun y => y != x) := by
          show _ = _
          rw [ht, List.filter_append]
          simp [hyx]
        have hyI : ((y : Int) != (x : Int)) = false := by simp [hyx]
        clear hy ht hyx hpl
        go_wp2
        go_roundg (n - (i + 1))
        case measure => omega
        case rel => exact ⟨i + 1, by omega, rfl, by rw [HF.out]; exact hown, HB.out⟩
      · have HF : Hid ((L.take (i + 1)).filter (fun y => y != x) = ((L.take i).filter fun y => y != x) ++ [y]) := by
          show _ = _
          rw [ht, List.filter_append]
          simp [hyx]
        have hyI : ((y : Int) != (x : Int)) = true := by simp; omega
        obtain ⟨P, hP⟩ : ∃ P, (L.take i).filter (fun y => y != x) = P := ⟨_, rfl⟩
        rw [hP] at hown HF hpl
        clear hy ht hyx hP
        go_wp2_with (at_builtin; refine wpList_append_own _ rfl _ _ 45 rfl w.heap.size 3 i0 (.int .i64 0) 1 8 Tryz.underlying45 hi hz0 hz1 hz2 rfl (by decide) _ _ _ rfl (hown.alloc _) ⟨wr.heap.size, 0, none⟩ 1 1 [.int .i64 (y : Int)] rfl rfl (cells_one wr _ 3) (by simp [Value.oneCell']) (by unfold maxLen; omega) (by omega) (by have := HB.out.size; simp; omega) ?_; intro v' w' hown' hgrow' _)
        go_roundg (n - (i + 1))
        case measure => omega
        case rel => exact ⟨i + 1, by omega, rfl, by rw [HF.out, zsC_snoc, List.length_append]; exact hown', (HB.out.alloc HB.out.size _).grown hgrow' (by have := HB.out.size; simp; omega) (fun k hk => by have := hown.lt k hk; exact this.1)⟩
    · obtain rfl : i = n := by omega
      have hN := HN.out
      rw [List.take_of_length_le (by omega)] at hown
      obtain ⟨a', c', rfl⟩ := zs_form hown
      have HO : Hid _ := hown
      clear hN hown
      go_wp2
      go_ret
      exact ⟨a', _, c', rfl, ⟨HO.out, rfl⟩, HB.out⟩
set_option maxRecDepth 20000 in
set_option maxHeartbeats 1000000 in
theorem holds_any (w : World) (B : Nat) (a : Option Addr) (n c : Nat) (L : List Nat) (h : Zs w B a n c L) (hn : n ≤ 1000000) (x : Nat) : Calls Tryz.prog 18 #[.slice a n c, .int .i64 (x : Int)] w fun e w' => e = .returned (.bool (decide (x ∈ L))) ∧ Below w.heap.size w w' := by
  have hw := without_any w B a n c L h hn x
  have HL : Hid (((L.filter fun y => y != x).length < n) ↔ x ∈ L) := by
    show _ ↔ _
    rw [h.2, List.length_filter_lt_length_iff_exists]
    simp
  have hle : (L.filter fun y => y != x).length ≤ 1000000 := Nat.le_trans (List.length_filter_le _ _) (by rw [← h.2]; exact hn)
  obtain ⟨k, hk⟩ : ∃ k, (L.filter fun y => y != x).length = k := ⟨_, rfl⟩
  rw [hk] at HL hle
  have HK : Hid ((L.filter fun y => y != x).length = k) := hk
  clear h hk
  go_enter Tryz.func18, Tryz.ntmps18
  go_wp2_with fail
  refine hw.mono ?_
  rintro e w' ⟨a', n', c', rfl, HZ, hb⟩
  obtain rfl : n' = k := HZ.out.2.trans HK.out
  go_wp2
  go_ret
  refine ⟨?_, hb⟩
  have := HL.out
  by_cases hx : x ∈ L
  · simp [hx, this.2 hx]
  · have h2 : ¬ n' < n := fun h => hx (this.1 h)
    simp [hx, h2]

end Go.Proofs.YtcbmkijjbkjkpaaGreatDoor.Tr

namespace Go.Proofs.YtcbmkijjbkjkpaaGreatDoor.Tr
open Go.RowKit Go.Lib Go.Deep

def IsMex (L : List Nat) (m : Nat) : Prop := m ∉ L ∧ ∀ y, y < m → y ∈ L
theorem all_le : ∀ (m : Nat) (L : List Nat), (∀ y, y < m → y ∈ L) → m ≤ L.length
  | 0, _, _ => Nat.zero_le _
  | m + 1, L, h => by
    have hm := h m (by omega)
    have := all_le m (L.erase m) fun y hy => (List.mem_erase_of_ne (by omega)).2 (h y (by omega))
    rw [List.length_erase_of_mem hm] at this
    have := List.length_pos_of_mem hm
    omega
set_option maxRecDepth 20000 in
set_option maxHeartbeats 2000000 in
theorem lowest_any (w : World) (B : Nat) (a : Option Addr) (n c : Nat) (L : List Nat) (h : Zs w B a n c L) (hn : n ≤ 1000000) (m : Nat) (hm : IsMex L m) : Calls Tryz.prog 17 #[.slice a n c] w fun e w' => e = .returned (.int .i64 (m : Int)) ∧ w' = w := by
  have HC : Hid (∀ i, i < n → ∃ y g, L[i]? = some y ∧ a = some ⟨g, 0, none⟩ ∧ w.cell? ⟨g, i, none⟩ = some (.int .i64 (y : Int))) := fun i hi => by
    have hx := List.getElem?_eq_getElem (l := L) (i := i) (by rw [← h.2]; exact hi)
    obtain ⟨g, e1, e2⟩ := h.cell hx
    exact ⟨_, g, hx, e1, e2⟩
  have HM : Hid (IsMex L m ∧ m ≤ n ∧ L.length = n) := ⟨hm, by rw [h.2]; exact all_le m L hm.2, h.2.symm⟩
  have hmn : m ≤ n := HM.out.2.1
  clear h hm
  go_enter Tryz.func17, Tryz.ntmps17
  go_wp2_with fail
  go_loopg [3, 4] (n + 1) (fun gk nv iv wr => ∃ (i k : Nat), i + gk = n + 1 ∧ iv = .int .i64 (i : Int) ∧ nv = .int .i64 (k : Int) ∧ Hid (k ≤ m ∧ (k = m ∨ i ≤ k)) ∧ Hid (wr = w))
  case atStart => exact ⟨0, 0, by omega, rfl, rfl, ⟨Nat.zero_le _, .inr (Nat.zero_le _)⟩, rfl⟩
  case round =>
    obtain ⟨i, k, hik, rfl, rfl, HK, HW⟩ := hrel
    have hkm := HK.out.1
    by_cases hlt : i ≤ n
    · have hltI : (i : Int) ≤ (n : Int) := by omega
      have w1' : IntKind.i64.wrap ((i : Int) + 1) = ((i + 1 : Nat) : Int) := by rw [IntKind.wrap_i64]; omega
      go_wp2_with fail
      go_loopg [3, 5] n (fun gj nv jv wz => ∃ (j k' : Nat), j + gj = n ∧ jv = .int .i64 (j : Int) ∧ nv = .int .i64 (k' : Int) ∧ Hid (k ≤ k' ∧ k' ≤ m ∧ (k = m ∨ k < k' ∨ k ∉ L.take j)) ∧ Hid (wz = w))
      case atStart => exact ⟨0, k, by omega, rfl, rfl, ⟨Nat.le_refl _, hkm, .inr (.inr (by simp))⟩, HW.out⟩
      case round =>
        obtain ⟨j, k', hjk, rfl, rfl, HK', HW'⟩ := hrel
        have hk'm := HK'.out.2.1
        by_cases hjlt : j < n
        · have hjI : (j : Int) < (n : Int) := by omega
          have w2' : IntKind.i64.wrap ((j : Int) + 1) = ((j + 1 : Nat) : Int) := by rw [IntKind.wrap_i64]; omega
          obtain ⟨y, g, hy, rfl, hc⟩ := HC.out j hjlt
          obtain rfl := HW'.out
          have HT : Hid (L.take (j + 1) = L.take j ++ [y] ∧ y ∈ L) := ⟨by rw [List.take_add_one, hy]; rfl, List.mem_of_getElem? hy⟩
          clear hy
          by_cases hyk : y = k'
          · subst hyk
            have w3' : IntKind.i64.wrap ((y : Int) + 1) = ((y + 1 : Nat) : Int) := by rw [IntKind.wrap_i64]; omega
            have HS : Hid (k ≤ y + 1 ∧ y + 1 ≤ m ∧ (k = m ∨ k < y + 1 ∨ k ∉ L.take (j + 1))) := by
              have h1 := HK'.out
              have hne : y ≠ m := fun e => HM.out.1.1 (e ▸ HT.out.2)
              exact ⟨by omega, by omega, .inr (.inl (by omega))⟩
            go_wp2
            go_roundg (n - (j + 1))
            case measure => omega
            case rel => exact ⟨j + 1, y + 1, by omega, rfl, rfl, HS.out, rfl⟩
          · have hyI : ¬ (y : Int) = (k' : Int) := by omega
            have HS : Hid (k ≤ k' ∧ k' ≤ m ∧ (k = m ∨ k < k' ∨ k ∉ L.take (j + 1))) := by
              obtain ⟨h1, h2, h3⟩ := HK'.out
              refine ⟨h1, h2, ?_⟩
              rcases h3 with h3 | h3 | h3
              · exact .inl h3
              · exact .inr (.inl h3)
              · by_cases hkk : k < k'
                · exact .inr (.inl hkk)
                · right; right
                  rw [HT.out.1]
                  simp only [List.mem_append, List.mem_singleton, not_or]
                  exact ⟨h3, by omega⟩
            clear hyk
            go_wp2
            go_roundg (n - (j + 1))
            case measure => omega
            case rel => exact ⟨j + 1, k', by omega, rfl, rfl, HS.out, rfl⟩
        · obtain rfl : j = n := by omega
          have HS : Hid (k' ≤ m ∧ (k' = m ∨ i + 1 ≤ k')) := by
            obtain ⟨h1, h2, h3⟩ := HK'.out
            have hK := HK.out
            refine ⟨h2, ?_⟩
            rcases h3 with h3 | h3 | h3
            · left; omega
            · rcases hK.2 with h | h
              · left; omega
              · right; omega
            · have hM := HM.out
              rw [List.take_of_length_le (by omega)] at h3
              left
              have : ¬ k < m := fun hlt => h3 (hM.1.2 k hlt)
              omega
          obtain rfl := HW'.out
          go_wp2
          go_roundg (j + 1 - (i + 1))
          case measure => omega
          case rel => exact ⟨i + 1, k', by omega, rfl, rfl, HS.out, rfl⟩
    · obtain rfl := HW.out
      have hkk : k = m := by
        rcases HK.out.2 with h | h
        · exact h
        · omega
      subst hkk
      have hltI : ¬ (i : Int) ≤ (n : Int) := by omega
      go_wp2
      go_ret
      exact ⟨rfl, rfl⟩

end Go.Proofs.YtcbmkijjbkjkpaaGreatDoor.Tr

namespace Go.Proofs.YtcbmkijjbkjkpaaGreatDoor.Tr
open Go.RowKit Go.Lib Go.Deep

theorem nd_sub : ∀ (L M : List Nat), L.Nodup → (∀ x, x ∈ L → x ∈ M) → L.length ≤ M.length
  | [], _, _, _ => Nat.zero_le _
  | a :: t, M, hn, h => by
    have ha := h a (by simp)
    have hn' := List.nodup_cons.1 hn
    have h1 := nd_sub t (M.erase a) hn'.2 fun x hx => (List.mem_erase_of_ne (a := x) (b := a) (fun e => hn'.1 (by rw [← e]; exact hx))).2 (h x (by simp [hx]))
    rw [List.length_erase_of_mem ha] at h1
    have h2 := List.length_pos_of_mem ha
    simp only [List.length_cons]
    omega
theorem nd_same {L M : List Nat} (h1 : L.Nodup) (h2 : M.Nodup) (h : ∀ x, x ∈ L ↔ x ∈ M) : L.length = M.length :=
  Nat.le_antisymm (nd_sub L M h1 fun x => (h x).1) (nd_sub M L h2 fun x => (h x).2)
/-- the numbers that are there -/
structure Nos (T : Ts) (L : List Nat) : Prop where
  nd : L.Nodup
  mem : ∀ x, x ∈ L ↔ tkF T x
theorem Nos.le {T : Ts} {dp : Nat → Nat} {L : List Nat} (h : Nos T L) (hv : Inv T dp) : L.length ≤ T.fr := by
  have := nd_sub L (List.range T.fr) h.nd fun x hx => by
    obtain ⟨r, hr⟩ := (h.mem x).1 hx
    have := some_lt hr
    have := hv.fl
    simp only [List.mem_range]
    omega
  rwa [List.length_range] at this
theorem low_not (F : List (Option (Nat × ByteArray × Nat))) (r : Nat × ByteArray × Nat) : F[lowL F]? ≠ some (some r) := fun h => by
  have hl := some_lt h
  have h1 : (F[lowL F]'hl).isNone = true := by
    unfold lowL at hl ⊢
    exact List.findIdx_getElem (xs := F) (p := fun o => o.isNone) (w := hl)
  rw [List.getElem?_eq_getElem hl] at h
  injection h with h
  rw [h] at h1
  cases h1
theorem low_lt (F : List (Option (Nat × ByteArray × Nat))) (y : Nat) (h : y < lowL F) : ∃ r, F[y]? = some (some r) := by
  have hl : y < F.length := Nat.lt_of_lt_of_le h (lowL_le F)
  have h1 : (F[y]'hl).isSome = true := by
    have h2 := List.not_of_lt_findIdx (xs := F) (p := fun (o : Option (Nat × ByteArray × Nat)) => o.isNone) h
    simpa using h2
  rw [List.getElem?_eq_getElem hl]
  cases hq : F[y]'hl with
  | none => rw [hq] at h1; cases h1
  | some r => exact ⟨r, rfl⟩
theorem Nos.mex {T : Ts} {L : List Nat} (h : Nos T L) : IsMex L (lowL T.F) :=
  ⟨fun hx => by obtain ⟨r, hr⟩ := (h.mem _).1 hx; exact low_not _ r hr, fun y hy => (h.mem y).2 (low_lt _ y hy)⟩
theorem Nos.same {T T' : Ts} {L : List Nat} (h : Nos T L) (e : ∀ x, tkF T' x ↔ tkF T x) : Nos T' L := ⟨h.nd, fun x => (h.mem x).trans (e x).symm⟩
theorem Nos.made {T T' : Ts} {L : List Nat} (h : Nos T L) (e : ∀ x, tkF T' x ↔ x = lowL T.F ∨ tkF T x) : Nos T' (L ++ [lowL T.F]) :=
  ⟨by
    rw [List.nodup_append]
    refine ⟨h.nd, by simp, fun a ha b hb => ?_⟩
    simp only [List.mem_singleton] at hb
    subst hb
    exact fun e => h.mex.1 (e ▸ ha), fun x => by
    rw [e x, List.mem_append, List.mem_singleton, h.mem x]
    exact Or.comm⟩
theorem Nos.gone {T T' : Ts} {L : List Nat} {n : Nat} (h : Nos T L) (e : ∀ x, tkF T' x ↔ x ≠ n ∧ tkF T x) : Nos T' (L.filter fun y => y != n) :=
  ⟨h.nd.filter _, fun x => by
    rw [e x, List.mem_filter, h.mem x]
    simp only [bne_iff_ne, ne_eq]
    exact And.comm⟩
/-- the numbers of the files that State tells -/
theorem nums_at : ∀ (F : List (Option (Nat × ByteArray × Nat))) (k : Nat), (((F.zipIdx k).filterMap fun r => r.1.map fun f => (⟨2, r.2, f.1, f.2.1, f.2.2⟩ : Nd)).map fun x => x.number).Nodup ∧ ∀ x, x ∈ ((F.zipIdx k).filterMap fun r => r.1.map fun f => (⟨2, r.2, f.1, f.2.1, f.2.2⟩ : Nd)).map (fun x => x.number) ↔ ∃ j r, x = k + j ∧ F[j]? = some (some r)
  | [], k => ⟨by simp, fun x => by simp⟩
  | a :: t, k => by
    obtain ⟨h1, h2⟩ := nums_at t (k + 1)
    have h3 : ∀ x, (∃ j r, x = k + j ∧ (a :: t)[j]? = some (some r)) ↔ ((x = k ∧ ∃ r, a = some r) ∨ ∃ j r, x = k + 1 + j ∧ t[j]? = some (some r)) := fun x => by
      constructor
      · rintro ⟨j, r, e, h⟩
        cases j with
        | zero => left; refine ⟨by omega, r, ?_⟩; simpa using h
        | succ j => right; exact ⟨j, r, by omega, by simpa using h⟩
      · rintro (⟨e, r, h⟩ | ⟨j, r, e, h⟩)
        · exact ⟨0, r, by omega, by simp [h]⟩
        · exact ⟨j + 1, r, by omega, by simpa using h⟩
    cases a with
    | none =>
      refine ⟨by simpa [List.zipIdx_cons] using h1, fun x => ?_⟩
      rw [h3 x, ← h2 x]
      simp [List.zipIdx_cons]
    | some f =>
      have e : (((some f :: t).zipIdx k).filterMap fun r => r.1.map fun f => (⟨2, r.2, f.1, f.2.1, f.2.2⟩ : Nd)).map (fun x => x.number) = k :: ((t.zipIdx (k + 1)).filterMap fun r => r.1.map fun f => (⟨2, r.2, f.1, f.2.1, f.2.2⟩ : Nd)).map (fun x => x.number) := by simp [List.zipIdx_cons]
      rw [e]
      refine ⟨List.nodup_cons.2 ⟨fun hk => ?_, h1⟩, fun x => ?_⟩
      · obtain ⟨j, r, e, _⟩ := (h2 k).1 hk
        omega
      · rw [h3 x, List.mem_cons, h2 x]
        exact ⟨fun h => h.elim (fun e => .inl ⟨e, f, rfl⟩) .inr, fun h => h.elim (fun e => .inl e.1) .inr⟩
theorem Nos.len {T : Ts} {L : List Nat} (h : Nos T L) : (toldF T.F).length = L.length := by
  obtain ⟨h1, h2⟩ := nums_at T.F 0
  have := nd_same h1 h.nd fun x => by
    rw [h2 x, h.mem x]
    exact ⟨fun ⟨j, r, e, hr⟩ => ⟨r, by rw [e, Nat.zero_add]; exact hr⟩, fun ⟨r, hr⟩ => ⟨x, r, by omega, hr⟩⟩
  rw [← this, List.length_map]
  rfl
/-- a node that is a file -/
def isFl (x : Nd) : Bool := x.kind == 2
theorem kind_D {T : Ts} {x : Nd} (h : x ∈ toldD T.D) : x.kind = 1 := by
  unfold toldD at h
  obtain ⟨r, _, h2⟩ := List.mem_filterMap.1 h
  cases hr : r.1 with
  | none => rw [hr] at h2; cases h2
  | some d => rw [hr] at h2; injection h2 with h2; rw [← h2]
theorem kind_F {T : Ts} {x : Nd} (h : x ∈ toldF T.F) : x.kind = 2 ∧ tkF T x.number := by
  unfold toldF at h
  obtain ⟨r, hr1, h2⟩ := List.mem_filterMap.1 h
  cases hr : r.1 with
  | none => rw [hr] at h2; cases h2
  | some d =>
    rw [hr] at h2
    injection h2 with h2
    rw [← h2]
    refine ⟨rfl, d, ?_⟩
    have := List.mem_zipIdx_iff_getElem?.1 hr1
    rw [hr] at this
    exact this
theorem Nos.node {T : Ts} {L : List Nat} (h : Nos T L) {x : Nd} (hx : x ∈ told T) : (x.kind = 1) ∨ (x.kind = 2 ∧ x.number ∈ L) := by
  rcases List.mem_append.1 hx with h1 | h1
  · exact .inl (kind_D h1)
  · exact .inr ⟨(kind_F h1).1, (h.mem _).2 (kind_F h1).2⟩
theorem Nos.count {T : Ts} {L : List Nat} (h : Nos T L) : (told T).countP isFl = L.length := by
  unfold told
  rw [List.countP_append, ← h.len]
  have h1 : (toldD T.D).countP isFl = 0 := List.countP_eq_zero.2 fun x hx => by unfold isFl; rw [kind_D hx]; decide
  have h2 : (toldF T.F).countP isFl = (toldF T.F).length := List.countP_eq_length.2 fun x hx => by unfold isFl; rw [(kind_F hx).1]; decide
  omega

end Go.Proofs.YtcbmkijjbkjkpaaGreatDoor.Tr

namespace Go.Proofs.YtcbmkijjbkjkpaaGreatDoor.Tr
open Go.RowKit Go.Lib Go.Deep

theorem Tre.grow {w W : World} {B b q nn B2 n : Nat} {T : Ts} {v : Value} {xs : List Value} (h : Tre w B b q nn T) (ho : w.ownsRow B2 3 1 v n xs) (hg : w.grownBy W v.ownBlock) : Tre W B b q nn T := by
  obtain ⟨F, hL, hF⟩ := h.lay
  refine ⟨(hg.block b (heap_lt h.hb) (fun e => ?_)).trans h.hb, h.hB, F, ?_, hF⟩
  · obtain ⟨cur, hc⟩ := owns_block ho e.symm
    rw [h.hb] at hc
    injection hc with hc
    injection hc with _ hc _
    exact absurd hc (by decide)
  · have h2 : ∀ k, k ∈ F → W.heap[k]? = w.heap[k]? := fun k hk => hg.block k (hL.lt k hk) (fun e => by
      obtain ⟨cur, hc⟩ := owns_block ho e.symm
      exact hL.notin hc (by decide) hk)
    obtain ⟨dv, fv, ld, lf, ms, hFe, hI⟩ := hL
    exact ⟨dv, fv, ld, lf, ms, hFe, hI.keep fun k hk => h2 k (by rw [hFe]; exact hk)⟩
/-- where TreeNumbers is, before its round i -/
def Nm (w wr : World) (b q fr dr i : Nat) (tv : Value) : Prop := ∃ (T : Ts) (dp : Nat → Nat) (a : Option Addr) (n c : Nat) (L : List Nat), tv = .slice a n c ∧ Tre wr w.heap.size b q (2 + i) T ∧ Inv T dp ∧ T.fr = fr ∧ T.dr = dr ∧ Zs wr w.heap.size a n c L ∧ Nos T L ∧ Below w.heap.size w wr
theorem Zs.below {w W : World} {B n c : Nat} {a : Option Addr} {L : List Nat} (h : Zs w B a n c L) (hb : Below w.heap.size w W) : Zs W B a n c L := ⟨owns_keep h.1 fun g hg => hb.block _ (h.1.lt g hg).2, h.2⟩
theorem Zs.base {w : World} {B B2 n c : Nat} {a : Option Addr} {L : List Nat} (h : Zs w B a n c L) (hb : B2 ≤ B) : Zs w B2 a n c L := ⟨owns_base h.1 hb, h.2⟩
set_option maxRecDepth 20000 in
set_option maxHeartbeats 8000000 in
theorem numbers_walk (w : World) (n0 n1 n2 : Int) (h0 : -9223372036854775808 ≤ n0 ∧ n0 ≤ 9223372036854775807) (h1 : -9223372036854775808 ≤ n1 ∧ n1 ≤ 9223372036854775807) (h2 : -9223372036854775808 ≤ n2 ∧ n2 ≤ 9223372036854775807) (a : Option Addr) (len c : Nat) (O : List Op) (hO : IsO w a len O) (hlen : len ≤ 8796093022000) :
    Calls Tryz.prog 4 #[.int .i64 n0, .int .i64 n1, .int .i64 n2, .slice a len c] w fun e w' => e = .returned (.bool true) ∧ Below w.heap.size w w' := by
  obtain ⟨f, hf⟩ : ∃ f : Nat, (1 : Int) + n0 % (40 - 1 + 1) = f := ⟨((1 : Int) + n0 % (40 - 1 + 1)).toNat, by omega⟩
  obtain ⟨d, hd⟩ : ∃ d : Nat, (0 : Int) + n1 % (40 - 0 + 1) = d := ⟨((0 : Int) + n1 % (40 - 0 + 1)).toNat, by omega⟩
  obtain ⟨m, hm⟩ : ∃ m : Nat, (0 : Int) + n2 % (1000 - 0 + 1) = m := ⟨((0 : Int) + n2 % (1000 - 0 + 1)).toNat, by omega⟩
  have hc0 := clipped_any n0 1 40 h0 (by omega) (by omega) (by omega) w
  have hc1 := clipped_any n1 0 40 h1 (by omega) (by omega) (by omega) w
  have hc2 := clipped_any n2 0 1000 h2 (by omega) (by omega) (by omega) w
  rw [hf] at hc0
  rw [hd] at hc1
  rw [hm] at hc2
  have hpl := planted_any w f d m (by omega) (by omega) (by omega) (by omega)
  have HOP : Hid (IsO w a len O) := hO
  have HLEN : Hid (O.length = len) := hO.hl
  have hf40 : f ≤ 40 := by omega
  clear hO hf hd hm
  obtain ⟨i0, hi, hz0, hz1, hz2⟩ := info_parts info3i
  go_enter Tryz.func4, Tryz.ntmps4
  go_wp2_with fail
  refine hc0.mono ?_
  rintro e w1 ⟨rfl, rfl⟩
  go_wp2_with fail
  refine hc1.mono ?_
  rintro e w1 ⟨rfl, rfl⟩
  go_wp2_with fail
  refine hc2.mono ?_
  rintro e w1 ⟨rfl, rfl⟩
  go_wp2_with fail
  refine hpl.mono ?_
  rintro e w2 ⟨b, q, T0, rfl, HT0, HF0, hb2⟩
  obtain ⟨e1, e2, e3, e4, dp0, hv0⟩ := HF0.out
  obtain ⟨fr, hfr⟩ : ∃ fr, T0.fr = fr := ⟨_, rfl⟩
  obtain ⟨dr, hdr⟩ : ∃ dr, T0.dr = dr := ⟨_, rfl⟩
  have HDR1 : Hid (1 ≤ dr) := by show 1 ≤ dr; omega
  have hfr40 : fr ≤ 40 := by omega
  have HL0 : Hid (Nm w1 w2 b q fr dr 0 (.slice none 0 0)) := ⟨T0, dp0, none, 0, 0, [], rfl, HT0.out, hv0, hfr, hdr, ⟨World.ownsRow_nil _ _ _ _, rfl⟩, ⟨List.nodup_nil, fun x => ⟨fun h => (by cases h), fun ⟨r, hr⟩ => by
    rw [e4] at hr
    cases x with
    | zero => cases hr
    | succ x => cases hr⟩⟩, hb2⟩
  clear e1 e2 e3 e4 hv0 hfr hdr hb2 hc0 hc1 hc2 hpl HF0 h0 h1 h2 HT0 hf40
  obtain ⟨w, hww⟩ : ∃ w, w1 = w := ⟨_, rfl⟩
  subst hww
  go_wp2_with fail
  go_loopg [10, 11] len (fun gk tv iv wr => ∃ (i : Nat), i + gk = len ∧ iv = .int .i64 (i : Int) ∧ Hid (Nm w1 wr b q fr dr i tv))
  case atStart => exact ⟨0, by omega, rfl, HL0.out⟩
  case round =>
    obtain ⟨i, hik, rfl, HL⟩ := hrel
    by_cases hlt : i < len
    · have hltI : (i : Int) < (len : Int) := by omega
      have w1' : IntKind.i64.wrap ((i : Int) + 1) = ((i + 1 : Nat) : Int) := by rw [IntKind.wrap_i64]; omega
      obtain ⟨T, dp, ta, tn, tc, L, rfl, HT, hv, HFR0, HDR0, HZ0, HNS0, hbw⟩ := HL.out
      have HNS : Hid (Nos T L) := HNS0
      have HZ : Hid _ := HZ0
      have htn : tn ≤ 1000000 := by
        have h1 := HNS0.le hv
        have h2 := HZ0.2
        omega
      have HBw : Hid _ := hbw
      obtain ⟨o, ho⟩ : ∃ o, O[i]? = some o := ⟨_, List.getElem?_eq_getElem (by have := HLEN.out; omega)⟩
      obtain ⟨pb, po, rfl, hpb0, p0', p1', p2', p3', p4', p5'⟩ := (HOP.out.below hbw).at_ i o ho
      have hbd := HOP.out.bd o (List.mem_of_getElem? ho)
      have hdo := do_tre wr w1.heap.size b q (2 + i) T dp o HT hbw.size hv (by omega) hbd.1 hbd.2
      have HSAY : Hid (Say T (doT T o).2.1 (doT T o).2.2) := do_say hv o
      have HV1 : Hid (∃ dp', Inv (doT T o).2.2 dp') := inv_do hv o
      have HRM := do_room (T := T) (o := o)
      obtain ⟨A, hA⟩ : ∃ A, doT T o = A := ⟨_, rfl⟩
      rw [hA] at hdo HSAY HV1 HRM
      obtain ⟨ok, op, ot, oa, on, od⟩ := o
      simp only at hdo p0' p1' p2' p3' p4' p5'
      have HFR : Hid (A.2.2.fr = fr) := HRM.1.trans HFR0
      have HDR : Hid (A.2.2.dr = dr) := HRM.2.1.trans HDR0
      clear hA ho hbd hv HRM HFR0 HDR0 hbw HT HL hpb0 HZ0 HNS0
      go_wp2_with fail
      refine hdo.mono ?_
      rintro e w1z ⟨va, vn, vc, rfl, HO1, HT1, HK1, HB1z⟩
      have HB1 : Hid (Below w1.heap.size w1 w1z) := HBw.out.trans HB1z.out
      clear hdo HB1z p0' p1' p2' p3' p4' p5'
      obtain ⟨⟨cd, rn, rnm, rk, rz⟩, ⟨f0, f1, f2, f3, f4, f5, f6⟩, T1⟩ := A
      simp only at HO1 HT1 HSAY HV1 HFR HDR ⊢
      obtain ⟨W2, hW2, hb2, k20, k21⟩ := two_new w1z #[.int .i64 cd, .string e0, .int .i64 rn, .slice va vn vc, .int .i64 rk, .int .i64 rz] #[.int .i64 f0, .int .i64 f1, .int .i64 f2, .int .i64 f3, .int .i64 f4, .string f5, .int .i64 f6] 33 35
      have HW2 : Hid _ := hW2
      have HT2 : Hid _ := HT1.out.below hb2
      have HK2 : Hid (Kp wr W2) := HK1.out.trans (Kp.of hb2)
      have HBW2 : Hid (Below w1.heap.size w1 W2) := HB1.out.trans (hb2.mono HB1.out.size)
      have HZ2 : Hid (Zs W2 w1.heap.size ta tn tc L) := ⟨owns_kp HZ.out.1 HK2.out (by decide), HZ.out.2⟩
      have H21 : Hid _ := k21
      obtain ⟨x0, x1, x2, x3, x4, x5, x6⟩ := cells7 k21
      have HGO : Hid (∀ (X : World) (tv : Value) (L' : List Nat) (a' : Option Addr) (n' c' : Nat), tv = .slice a' n' c' → Tre X w1.heap.size b q (2 + i + 1) T1 → Zs X w1.heap.size a' n' c' L' → Nos T1 L' → Below w1.heap.size w1 X → Nm w1 X b q fr dr (i + 1) tv) := fun X tv L' a' n' c' e1 e2 e3 e4 e5 => by
        obtain ⟨dp', hv'⟩ := HV1.out
        exact ⟨T1, dp', a', n', c', L', e1, e2, hv', HFR.out, HDR.out, e3, e4, e5⟩
      clear hW2 hb2 k20 k21 HV1 HFR HDR HO1 HT1 HK1 HB1 HZ HBw HK2
      go_upto_region 9 with fail
      rw [HW2.out]
      clear HW2
      rcases HSAY.out with ⟨s1, s2⟩ | ⟨s1, s2, s3, s4⟩ | ⟨n, s1, s2, s3, s4, s5⟩ | ⟨n, s1, s2, s4, s5⟩ | ⟨n, g, s1, s2, s3, s4, s5, s6, s7⟩
      · unfold Ef.no at s1
        simp only [Ef.mk.injEq] at s1
        obtain ⟨rfl, rfl, rfl, rfl, rfl, rfl, rfl⟩ := s1
        have HS : Hid _ := s2
        clear s2 HSAY
        go_wp2_with fail
        refine (quiet12_any W2).mono ?_
        rintro e w6 ⟨rfl, hb6⟩
        have HREL : Hid (Nm w1 w6 b q fr dr (i + 1) (.slice ta tn tc)) := HGO.out _ _ L _ _ _ rfl (HT2.out.below hb6) (HZ2.out.below hb6) (HNS.out.same HS.out) (below_on hb6 HBW2.out)
        clear hb6
        go_wp2
        go_roundg (len - (i + 1))
        case measure => omega
        case rel => exact ⟨i + 1, by omega, rfl, HREL.out⟩
      · skip
        simp only at s1 s2 s3
        subst s1
        subst s2
        subst s3
        have HS : Hid _ := s4
        obtain ⟨lo, hlo'⟩ : ∃ lo, lowL T.F = lo := ⟨_, rfl⟩
        have HLO : Hid (lowL T.F = lo) := hlo'
        have HLC : Hid (∀ V, Below W2.heap.size W2 V → Calls Tryz.prog 17 #[.slice ta tn tc] V fun e w' => e = .returned (.int .i64 (lo : Int)) ∧ Below V.heap.size V w') := fun V hb => (lowest_any V w1.heap.size ta tn tc L (HZ2.out.below hb) htn lo (hlo' ▸ HNS.out.mex)).mono fun e w' ⟨e1, e2⟩ => ⟨e1, by rw [e2]; exact Below.refl _ _⟩
        rw [hlo'] at x1
        have HS0 : Hid (∀ V, Below W2.heap.size W2 V → V.cell? ⟨w1z.heap.size + 1, 1, none⟩ = some (.int .i64 (lo : Int))) := fun V hb => by
          have h1 := (cell_of_heap ((hb.block _ (heap_lt H21.out)).trans H21.out) : V.cell? ⟨w1z.heap.size + 1, 1, none⟩ = _).trans rfl
          rw [← hlo']
          exact h1
        clear s4 HSAY hlo'
        go_wp2_with fail
        refine wp_region_held_drew (S := fun V => V.cell? ⟨w1z.heap.size + 1, 1, none⟩ = some (.int .i64 (lo : Int))) (by kernel_rfl) (HS0.out _ (Below.refl _ _).drew) ?_
        intro hS
        refine wpAnyH_take (i := 0) (oi := { dst := some 60, op := .fieldAddr 35 (.tmp 13) 1, type := _, pos := _, after := _, guard := none }) (v := .pointer (some ⟨(w1z.heap.size + 1), 1, none⟩)) rfl (by kernel_rfl) (by kernel_rfl) (by kernel_rfl) (fun _ _ _ h => h) (Or.inl ⟨by rfl, by intro x _; go_simp⟩) hS ?_
        (try simp only [Act.put, List.setIfInBounds_toArray, List.set_cons_zero, List.set_cons_succ])
        refine wpAnyH_take (i := 1) (oi := { dst := some 61, op := .load 3 (.tmp 60), type := _, pos := _, after := _, guard := none }) (v := .int .i64 (lo : Int)) rfl (by kernel_rfl) (by kernel_rfl) (by kernel_rfl) (fun _ _ _ h => h) (Or.inl ⟨by rfl, by intro x hx; have h1 := hx; go_simp⟩) hS ?_
        (try simp only [Act.put, List.setIfInBounds_toArray, List.set_cons_zero, List.set_cons_succ])
        refine wpAnyH_take (i := 2) (oi := { dst := some 62, op := .move (.tmp 10), type := _, pos := _, after := _, guard := none }) (v := .slice ta tn tc) rfl (by kernel_rfl) (by kernel_rfl) (by kernel_rfl) (fun _ _ _ h => h) (Or.inl ⟨by rfl, by intro x _; go_simp⟩) hS ?_
        (try simp only [Act.put, List.setIfInBounds_toArray, List.set_cons_zero, List.set_cons_succ])
        refine wpAnyH_ready (rs := [3]) (by kernel_rfl) (by simp) ?_
        refine AllReadyH.cons (o := { dst := some 63, op := .call { callee := .value (.func 17), args := #[.tmp 62], argTypes := #[45] }, type := _, pos := _, after := _, guard := none }) rfl (fun K hK => ?_) AllReadyH.nil
        go_simp
        refine (HLC.out _ (Below.refl _ _).drew).mono ?_
        rintro e w6 ⟨rfl, hb6⟩
        have hb46 : Below W2.heap.size W2 w6 := ((Below.refl W2.heap.size W2).drew).trans hb6
        have HB46 : Hid _ := hb46
        replace hS := HS0.out _ hb46
        clear hb6 hb46
        refine hK.out _ _ hS (fun _ => ?_)
        clear hK K
        (try simp only [Act.put, List.setIfInBounds_toArray, List.set_cons_zero, List.set_cons_succ])
        refine wpAnyH_take (i := 4) (oi := { dst := some 64, op := .binOp .neq 3 (.tmp 61) (.tmp 63) 3, type := _, pos := _, after := _, guard := none }) (v := .bool false) rfl (by kernel_rfl) (by kernel_rfl) (by kernel_rfl) (fun _ _ _ h => h) (Or.inl ⟨by rfl, by intro x _; go_simp⟩) hS ?_
        (try simp only [Act.put, List.setIfInBounds_toArray, List.set_cons_zero, List.set_cons_succ])
        refine wpAnyH_done (by kernel_rfl) ?_ _
        skip
        have hown : w6.ownsRow w1.heap.size 3 1 (.slice ta tn tc) tn (zsC L) := (HZ2.out.below HB46.out).1
        have hsz6 : w1.heap.size ≤ w6.heap.size := (below_on HB46.out HBW2.out).size
        have z1 := HS0.out _ HB46.out
        go_wp2_with (at_builtin; refine wpList_append_own _ rfl _ _ 45 rfl w1.heap.size 3 i0 (.int .i64 0) 1 8 Tryz.underlying45 hi hz0 hz1 hz2 rfl (by decide) _ _ _ rfl (hown.alloc _) ⟨w6.heap.size, 0, none⟩ 1 1 [.int .i64 (lo : Int)] rfl rfl (cells_one w6 _ 3) (by simp [Value.oneCell']) (by unfold maxLen; omega) (by omega) (by simp; omega) ?_; intro v' w' hown' hgrow' _)
        go_roundg (len - (i + 1))
        case measure => omega
        case rel =>
          refine ⟨i + 1, by omega, rfl, ?_⟩
          rw [← zsC_snoc] at hown'
          obtain ⟨a', c', rfl⟩ := zs_form hown'
          have hbA : Below w6.heap.size w6 (w6.alloc (.cells #[.int .i64 (lo : Int)] 3)) := (Below.refl _ _).alloc (Nat.le_refl _) _
          refine HGO.out _ _ (L ++ [lo]) a' _ c' rfl ((((HT2.out.below HB46.out)).below hbA).grow (hown.alloc _) hgrow') ⟨hown', by rw [List.length_append, ← HZ2.out.2]; rfl⟩ (by rw [← HLO.out]; exact HNS.out.made HS.out) ?_
          exact ((below_on HB46.out HBW2.out).alloc hsz6 _).grown hgrow' (by simp; omega) (fun k hk => by have := hown.lt k hk; exact this.1)
      · simp only at s1 s2 s3
        subst s2
        subst s3
        have HS : Hid _ := s5
        have hh := holds_any W2 w1.heap.size ta tn tc L HZ2.out htn n
        rw [decide_eq_true ((HNS.out.mem n).2 s4)] at hh
        have b0 : (f0 == 0) = false := by rcases s1 with rfl | rfl | rfl <;> rfl
        have b1 : (f0 == 1) = false := by rcases s1 with rfl | rfl | rfl <;> rfl
        have b5 : (f0 == 5) = false := by rcases s1 with rfl | rfl | rfl <;> rfl
        have b6 : (f0 == 6) = false := by rcases s1 with rfl | rfl | rfl <;> rfl
        clear s1 s4 s5 HSAY
        go_wp2_with fail
        refine hh.mono ?_
        rintro e w6 ⟨rfl, hb6⟩
        have H61 : Hid (w6.heap[w1z.heap.size + 1]? = _) := (hb6.block _ (heap_lt H21.out)).trans H21.out
        obtain ⟨z0, z1, z2, z3, z4, z5, z6⟩ := cells7 H61.out
        have HREL : Hid (Nm w1 w6 b q fr dr (i + 1) (.slice ta tn tc)) := HGO.out _ _ L _ _ _ rfl (HT2.out.below hb6) (HZ2.out.below hb6) (HNS.out.same HS.out) (below_on hb6 HBW2.out)
        clear hb6
        go_wp2
        go_roundg (len - (i + 1))
        case measure => omega
        case rel => exact ⟨i + 1, by omega, rfl, HREL.out⟩
      · simp only at s1 s2
        subst s1
        subst s2
        have HS : Hid _ := s5
        have hh := holds_any W2 w1.heap.size ta tn tc L HZ2.out htn n
        rw [decide_eq_true ((HNS.out.mem n).2 s4)] at hh
        clear s4 s5 HSAY
        go_wp2_with fail
        refine hh.mono ?_
        rintro e w6 ⟨rfl, hb6⟩
        have H61 : Hid (w6.heap[w1z.heap.size + 1]? = _) := (hb6.block _ (heap_lt H21.out)).trans H21.out
        obtain ⟨z0, z1, z2, z3, z4, z5, z6⟩ := cells7 H61.out
        have hwo := without_any w6 w1.heap.size ta tn tc L (HZ2.out.below hb6) htn n
        go_wp2_with fail
        refine hwo.mono ?_
        rintro e w7 ⟨a7, n7, c7, rfl, HZ7, hb7⟩
        have HREL : Hid (Nm w1 w7 b q fr dr (i + 1) (.slice a7 n7 c7)) := by
          have hb26 : Below w1.heap.size w1 w6 := below_on hb6 HBW2.out
          exact HGO.out _ _ _ _ _ _ rfl ((HT2.out.below hb6).below hb7) (HZ7.out.base hb26.size) (HNS.out.gone HS.out) (below_on hb7 hb26)
        clear hb6 hb7
        go_wp2
        go_roundg (len - (i + 1))
        case measure => omega
        case rel => exact ⟨i + 1, by omega, rfl, HREL.out⟩
      · simp only at s1 s2 s3
        subst s1
        subst s2
        subst s3
        have HS : Hid _ := s7
        have hng : ((n : Int) == (g : Int)) = false := by simp; omega
        have hh := holds_any W2 w1.heap.size ta tn tc L HZ2.out htn n
        rw [decide_eq_true ((HNS.out.mem n).2 s4)] at hh
        have hg : g ∈ L := (HNS.out.mem g).2 s5
        clear s4 s5 s6 s7 HSAY
        go_wp2_with fail
        refine hh.mono ?_
        rintro e w6 ⟨rfl, hb6⟩
        have H61 : Hid (w6.heap[w1z.heap.size + 1]? = _) := (hb6.block _ (heap_lt H21.out)).trans H21.out
        obtain ⟨z0, z1, z2, z3, z4, z5, z6⟩ := cells7 H61.out
        have hh2 := holds_any w6 w1.heap.size ta tn tc L (HZ2.out.below hb6) htn g
        rw [decide_eq_true hg] at hh2
        clear hg
        go_wp2_with fail
        refine hh2.mono ?_
        rintro e w7 ⟨rfl, hb7⟩
        have hb67 : Below W2.heap.size W2 w7 := below_on hb7 hb6
        have H71 : Hid (w7.heap[w1z.heap.size + 1]? = _) := (hb67.block _ (heap_lt H21.out)).trans H21.out
        obtain ⟨y0, y1, y2, y3, y4, y5, y6⟩ := cells7 H71.out
        have hwo := without_any w7 w1.heap.size ta tn tc L (HZ2.out.below hb67) htn g
        go_wp2_with fail
        refine hwo.mono ?_
        rintro e w8 ⟨a8, n8, c8, rfl, HZ8, hb8⟩
        have HREL : Hid (Nm w1 w8 b q fr dr (i + 1) (.slice a8 n8 c8)) := by
          have hb27 : Below w1.heap.size w1 w7 := below_on hb67 HBW2.out
          exact HGO.out _ _ _ _ _ _ rfl ((HT2.out.below hb67).below hb8) (HZ8.out.base hb27.size) (HNS.out.gone HS.out) (below_on hb8 hb27)
        clear hb6 hb7 hb8 hb67
        go_wp2
        go_roundg (len - (i + 1))
        case measure => omega
        case rel => exact ⟨i + 1, by omega, rfl, HREL.out⟩
    · obtain rfl : i = len := by omega
      obtain ⟨T, dp, ta, tn, tc, L, rfl, HT, hv, HFR0, HDR0, HZ0, HNS0, hbw⟩ := HL.out
      have HNS : Hid (Nos T L) := HNS0
      have htn : tn ≤ 1000000 := by
        have h1 := HNS0.le hv
        have h2 := HZ0.2
        omega
      have hst := state_tre wr w1.heap.size b q _ T HT (by rw [HDR0]; exact HDR1.out)
      rw [HFR0, HDR0] at hst
      obtain ⟨NN, hNN⟩ : ∃ NN, (told T).length = NN := ⟨_, rfl⟩
      have HNN : Hid ((told T).length = NN) := hNN
      rw [hNN] at hst
      have HZ : Hid (Zs wr w1.heap.size ta tn tc L) := HZ0
      have HBw : Hid _ := hbw
      clear hv HFR0 HDR0 HZ0 HNS0 hbw HT HL hNN HL0 hi hz0 hz1 hz2
      go_wp2_with fail
      refine hst.mono ?_
      rintro e w3 ⟨a0, c0, rfl, HS0, hb3, hle0⟩
      obtain ⟨W4, hW4, hb4, k4⟩ := one_new w3 #[.int .i64 (fr : Int), .int .i64 ((dr : Int) - 1), .slice a0 NN c0] 28
      have HW4 : Hid _ := hW4
      have hb34 : Below wr.heap.size wr W4 := below_on hb4 hb3
      have HB4 : Hid (Below w1.heap.size w1 W4) := below_on hb34 HBw.out
      have HC : Hid (∀ V, Below W4.heap.size W4 V → V.cell? ⟨w3.heap.size, 2, none⟩ = some (.slice a0 NN c0) ∧ Zs V w1.heap.size ta tn tc L ∧ ∀ j, j < NN → ∃ (x : Nd) (g : Nat), (told T)[j]? = some x ∧ a0 = some ⟨g, 0, none⟩ ∧ V.cell? ⟨g, j * 5, none⟩ = some (.int .i64 (x.kind : Int)) ∧ V.cell? ⟨g, j * 5 + 1, none⟩ = some (.int .i64 (x.number : Int))) := fun V hb => by
        refine ⟨(cells3t ((hb.block _ (heap_lt k4)).trans k4)).2.2, (HZ.out.below hb34).below hb, fun j hj => ?_⟩
        have hA4 := owns_keep HS0.out (fun g hg => hb4.block _ (HS0.out.lt g hg).2)
        have hA := owns_keep hA4 (fun g hg => hb.block _ (hA4.lt g hg).2)
        have e1 : ∃ g, a0 = some ⟨g, 0, none⟩ := by
          rcases hA.2 with ⟨h1, h2⟩ | ⟨g, cap, cur, h1, _⟩
          · omega
          · injection h1 with h1 _ _; exact ⟨g, h1⟩
        obtain ⟨g, rfl⟩ := e1
        have hx := List.getElem?_eq_getElem (l := told T) (i := j) (by rw [HNN.out]; exact hj)
        have hc := nd_cells hA HNN.out.symm hx
        exact ⟨_, g, hx, rfl, hc.1, hc.2.1⟩
      clear hst hb3 hb4 k4 hW4 HS0 hb34 HZ HBw
      go_upto_region 28 with fail
      rw [HW4.out]
      clear HW4
      obtain ⟨gs, hgs⟩ : ∃ gs, w3.heap.size = gs := ⟨_, rfl⟩
      rw [hgs] at HC ⊢
      clear hgs
      go_wp2_with fail
      go_loopg [15, 16] NN (fun gj nv jv wq => ∃ (j k : Nat), j + gj = NN ∧ jv = .int .i64 (j : Int) ∧ nv = .int .i64 (k : Int) ∧ k ≤ j ∧ Hid (((told T).take j).countP isFl = k) ∧ Hid (Below W4.heap.size W4 wq))
      case atStart => exact ⟨0, 0, by omega, rfl, rfl, Nat.le_refl _, rfl, Below.refl _ _⟩
      case round =>
        obtain ⟨j, k, hjk, rfl, rfl, hkj, HCT, HBq⟩ := hrel
        obtain ⟨v2, hZq, hnodes⟩ := HC.out wr HBq.out
        by_cases hlt : j < NN
        · have hltI : (j : Int) < (NN : Int) := by omega
          have w1' : IntKind.i64.wrap ((j : Int) + 1) = ((j + 1 : Nat) : Int) := by rw [IntKind.wrap_i64]; omega
          have w2' : IntKind.i64.wrap ((k : Int) + 1) = ((k + 1 : Nat) : Int) := by rw [IntKind.wrap_i64]; omega
          obtain ⟨x, g, hx, rfl, y0, y1⟩ := hnodes j hlt
          have hnd := HNS.out.node (List.mem_of_getElem? hx)
          have ht : (told T).take (j + 1) = (told T).take j ++ [x] := by rw [List.take_add_one, hx]; rfl
          rcases hnd with hk1 | ⟨hk2, hin⟩
          · have HCT' : Hid (((told T).take (j + 1)).countP isFl = k) := by
              show _ = _
              rw [ht, List.countP_append, HCT.out]
              simp [isFl, hk1]
            rw [hk1] at y0
            clear hnodes hx ht hk1 hZq HCT
            go_wp2
            go_roundg (NN - (j + 1))
            case measure => omega
            case rel => exact ⟨j + 1, k, by omega, rfl, rfl, by omega, HCT'.out, HBq.out⟩
          · have HCT' : Hid (((told T).take (j + 1)).countP isFl = k + 1) := by
              show _ = _
              rw [ht, List.countP_append, HCT.out]
              simp [isFl, hk2]
            rw [hk2] at y0
            have hh := holds_any wr w1.heap.size ta tn tc L hZq htn x.number
            rw [decide_eq_true hin] at hh
            clear hnodes hx ht hk2 hZq HCT hin
            go_wp2_with fail
            refine hh.mono ?_
            rintro e w6 ⟨rfl, hb6⟩
            have HB6 : Hid (Below W4.heap.size W4 w6) := below_on hb6 HBq.out
            clear hb6 hh
            go_wp2
            go_roundg (NN - (j + 1))
            case measure => omega
            case rel => exact ⟨j + 1, k + 1, by omega, rfl, rfl, by omega, HCT'.out, HB6.out⟩
        · obtain rfl : j = NN := by omega
          have hkn : k = tn := by
            have h1 := HCT.out
            rw [List.take_of_length_le (by rw [HNN.out]; exact Nat.le_refl _), HNS.out.count] at h1
            rw [← h1, ← hZq.2]
          subst hkn
          clear hnodes hZq
          go_wp2
          go_ret
          exact ⟨rfl, below_on HBq.out HB4.out⟩

end Go.Proofs.YtcbmkijjbkjkpaaGreatDoor.Tr
