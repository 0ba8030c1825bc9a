import Derived.Test.YtnfddiabhpandaaGreatDoorLaM
import Derived.Test.YtnfddiabhpandaaGreatDoorJgM
import Derived.Test.YtnfddiabhpandaaGreatDoorTaM
import Derived.Deep.DeepCutAuto
namespace Go.Proofs.YtnfddiabhpandaaGreatDoor.Tr
open Go.RowKit Go.Lib Go.Deep

set_option maxRecDepth 20000 in
set_option maxHeartbeats 1000000 in
theorem sameNames_any (w : World) (v u : Value) (L : List ByteArray) (h1 : Pa.See w v L) (h2 : Pa.See w u L) (hn : L.length ≤ 9223372036854775000) : Calls Tryz.prog 51 #[v, u] w fun e w' => e = .returned (.bool true) ∧ Below w.heap.size w w' := by
  have HA : Hid (∀ W, Below w.heap.size w W → Pa.See W v L) := fun W hb => h1.below hb
  have HB : Hid (∀ W, Below w.heap.size w W → Pa.See W u L) := fun W hb => h2.below hb
  obtain ⟨a1, k1, rfl, -⟩ := h1
  obtain ⟨a2, k2, rfl, -⟩ := h2
  obtain ⟨n, hl⟩ : ∃ n, L.length = n := ⟨_, rfl⟩
  rw [hl] at HA HB hn ⊢
  have HL : Hid (L.length = n) := hl
  clear hl
  go_enter Tryz.func51, Tryz.ntmps51
  go_wp2_with fail
  go_loopg [5] n (fun gk iv wr => ∃ k : Nat, k + gk = n ∧ iv = .int .i64 (k : Int) ∧ Hid (Below w.heap.size w wr))
  case atStart => exact ⟨0, by omega, rfl, Below.refl _ _⟩
  case round =>
    obtain ⟨k, hk, rfl, HW⟩ := hrel
    have HKG : Hid (k + gk = n) := hk
    have hkn : k ≤ n := by omega
    clear hk
    by_cases hlt : k < n
    · have hltI : (k : Int) < (n : Int) := by omega
      obtain ⟨x, hx⟩ : ∃ x, L[k]? = some x := ⟨_, List.getElem?_eq_getElem (by have := HL.out; omega)⟩
      obtain ⟨y1, z1, e1, -, -, h1⟩ := HA.out _ HW.out
      obtain ⟨y2, z2, e2, -, -, h2⟩ := HB.out _ HW.out
      injection e1 with e1 _ e1'
      injection e2 with e2 _ e2'
      subst e1 e1' e2 e2'
      obtain ⟨g1, o1, rfl, _, c0⟩ := h1 (fun e => by rw [e] at hx; cases hx)
      obtain ⟨g2, o2, rfl, _, d0⟩ := h2 (fun e => by rw [e] at hx; cases hx)
      have c1 := c0 k x hx
      have d1 := d0 k x hx
      have HWN : Hid (∀ j, Below w.heap.size w (wr.drewN j)) := fun j => HW.out.trans ((Pa.bdN wr j).mono HW.out.size)
      clear hx h1 h2 c0 d0
      go_wp2_with fail
      go_quiet (fail)
      go_wp2_with fail
      go_roundg (gk - 1)
      case measure => have := HKG.out; omega
      case rel => exact ⟨k + 1, by have := HKG.out; omega, by go_num, HWN.out _⟩
    · obtain rfl : k = n := by omega
      have hltI : ¬ (k : Int) < (k : Int) := by omega
      go_wp2
      go_ret
      exact ⟨rfl, HW.out⟩
set_option maxRecDepth 20000 in
set_option maxHeartbeats 1000000 in
theorem sameResult_any (w : World) (c n k s : Int) (x : ByteArray) (va ua : Option Addr) (vn vc un uc : Nat) (L : List ByteArray) (h1 : Pa.See w (.slice va vn vc) L) (h2 : Pa.See w (.slice ua un uc) L) (hn : L.length ≤ 9223372036854775000) :
    Calls Tryz.prog 26 #[.agg #[.int .i64 c, .string x, .int .i64 n, .slice va vn vc, .int .i64 k, .int .i64 s], .agg #[.int .i64 c, .string x, .int .i64 n, .slice ua un uc, .int .i64 k, .int .i64 s]] w fun e w' => e = .returned (.bool true) ∧ Below w.heap.size w w' := by
  obtain ⟨W, hW, hb, k0, k1⟩ := two_new w #[.int .i64 c, .string x, .int .i64 n, .slice va vn vc, .int .i64 k, .int .i64 s] #[.int .i64 c, .string x, .int .i64 n, .slice ua un uc, .int .i64 k, .int .i64 s] 33 33
  have hsn := sameNames_any W _ _ L (h1.below hb) (h2.below hb) hn
  have HB : Hid (Below w.heap.size w W) := hb
  obtain ⟨x0, x1, x2, x3, x4, x5⟩ := cells6 k0
  obtain ⟨y0, y1, y2, y3, y4, y5⟩ := cells6 k1
  clear h1 h2 hb k0 k1
  go_enter Tryz.func26, Tryz.ntmps26
  go_wp2_with fail
  refine hsn.mono ?_
  rintro e w1 ⟨rfl, hb1⟩
  have HB1 : Hid _ := below_on hb1 HB.out
  clear hb1 hsn
  go_wp2
  go_ret
  exact ⟨rfl, HB1.out⟩

end Go.Proofs.YtnfddiabhpandaaGreatDoor.Tr

namespace Go.Proofs.YtnfddiabhpandaaGreatDoor.Tr
open Go.RowKit Go.Lib Go.Deep

theorem Tre.mfr {w w' : World} {B b q nn Bm bm : Nat} {T : Ts} {A : Array Value} (h : Tre w B b q nn T) (hm : w.heap[bm]? = some (.cells A 62 (0, 0))) (hf : Mfr Bm w w' bm) : Tre w' B b q nn T := by
  obtain ⟨F, hL, hF⟩ := h.lay
  have hb : b ≠ bm := fun e => by
    have h1 := h.hb
    rw [e, hm] at h1
    injection h1 with h1
    injection h1 with _ h1 _
    exact absurd h1 (by decide)
  have hne : ∀ k, k ∈ F → w'.heap[k]? = w.heap[k]? := fun k hk => by
    have hkb : k ≠ bm := fun e => hL.notin hm (by decide) (e ▸ hk)
    obtain ⟨dv, fv, ld, lf, ms, rfl, hI⟩ := hL
    rcases hI.kinds hk with ⟨es, cl, hc⟩ | ⟨cur, e, hc, he⟩
    · rw [hc]
      exact hf.block k _ hc hkb (.inl fun c fr e => (by cases e))
    · rw [hc]
      refine hf.block k _ hc hkb (.inl fun c fr e2 => ?_)
      injection e2 with _ e2 _
      rcases he with rfl | rfl | rfl <;> exact absurd e2 (by decide)
  refine ⟨hf.block b _ h.hb hb (.inl fun c fr e => ?_), h.hB, F, ?_, hF⟩
  · injection e with _ e _
    exact absurd e (by decide)
  · obtain ⟨dv, fv, ld, lf, ms, hFe, hI⟩ := hL
    exact ⟨dv, fv, ld, lf, ms, hFe, hI.keep fun k hk => hne k (by rw [hFe]; exact hk)⟩
theorem Mdl.kp {w w' : World} {B b f d m : Nat} {L : List En} (h : Mdl w B b f d m L) (k : Kp w w') : Mdl w' B b f d m L := by
  obtain ⟨a, c, h1, h2⟩ := h.row
  exact ⟨⟨a, c, k _ _ _ h1 (by decide), owns_kp h2 k (by decide)⟩, h.vd, h.nb⟩
theorem Mfr.low {w w' : World} {B b : Nat} (h : Mfr B w w' b) (hB : B ≤ b) (hs : B ≤ w.heap.size) : Below B w w' := ⟨h.os, h.tape, h.output, h.size, fun k hk => by
  have hlt : k < w.heap.size := by omega
  rw [Array.getElem?_eq_getElem hlt]
  exact h.block k _ (Array.getElem?_eq_getElem hlt) (by omega) (.inr hk)⟩
theorem see_mfr {w w' : World} {B b B2 : Nat} {v : Value} {L : List ByteArray} (h : Pa.Own w B2 v L) (hf : Mfr B w w' b) {A : Array Value} (hm : w.heap[b]? = some (.cells A 62 (0, 0))) : Pa.Own w' B2 v L := owns_keep h fun g hg => by
  obtain ⟨c, hc⟩ := owns_block h hg
  rw [hc]
  refine hf.block g _ hc (fun e => ?_) (.inl fun c fr e => ?_)
  · rw [e, hm] at hc
    injection hc with hc
    injection hc with _ hc _
    exact absurd hc (by decide)
  · injection e with _ e _
    exact absurd e (by decide)
theorem cell_mfr {w w' : World} {B b g : Nat} {C A : Array Value} {t : TypeId} (h : w.heap[g]? = some (.cells C t (0, 0))) (hf : Mfr B w w' b) (hm : w.heap[b]? = some (.cells A 62 (0, 0))) (h1 : t ≠ 62) (h2 : t ≠ 66) : w'.heap[g]? = some (.cells C t (0, 0)) := by
  refine hf.block g _ h (fun e => ?_) (.inl fun c fr e => ?_)
  · rw [e, hm] at h
    injection h with h
    injection h with _ h _
    exact h1 h.symm
  · injection e with _ e _
    exact h2 e
theorem mo_len {T : Ts} {dp : Nat → Nat} (hI : Inv T dp) {L : List En} (hM : Mo T L) : L.length + 1 = cntL T.D + cntL T.F := by
  have hk : ∀ e ∈ L, e.kd = 1 ∨ e.kd = 2 := fun e he => by
    obtain ⟨no, ⟨P, n, x, _, _, h3⟩, _⟩ := (hM.mem e).1 he
    exact hI.kinds h3
  have : ∀ M : List En, (∀ e ∈ M, e.kd = 1 ∨ e.kd = 2) → M.length = M.countP (isK 1) + M.countP (isK 2) := by
    intro M
    induction M with
    | nil => intro _; rfl
    | cons a l ih =>
      intro h
      have := ih fun e he => h e (List.mem_cons_of_mem _ he)
      rw [List.countP_cons, List.countP_cons, List.length_cons]
      rcases h a (List.mem_cons_self ..) with e | e <;> simp [isK, e] <;> omega
  have h1 := this L hk
  have h2 := hM.cD
  have h3 := hM.cF
  omega
theorem cnt_len {α : Type} (l : List (Option α)) : cntL l ≤ l.length := List.countP_le_length
theorem fm_cnt {α β : Type} (f : α → Nat → β) : ∀ (l : List (Option α)) (k : Nat), ((l.zipIdx k).filterMap fun r => r.1.map fun d => f d r.2).length = cntL l
  | [], k => rfl
  | none :: l, k => by
    rw [List.zipIdx_cons, List.filterMap_cons_none (by rfl), fm_cnt f l (k + 1)]
    simp [cntL]
  | some a :: l, k => by
    rw [List.zipIdx_cons, List.filterMap_cons_some (b := f a k) (by rfl), List.length_cons, fm_cnt f l (k + 1)]
    simp [cntL]
theorem told_cnt {T : Ts} {dp : Nat → Nat} (hI : Inv T dp) : (told T).length + 1 = cntL T.D + cntL T.F := by
  unfold told toldD toldF
  rw [List.length_append, fm_cnt (fun (f : Nat × ByteArray × Nat) k => (⟨2, k, f.1, f.2.1, f.2.2⟩ : Nd)) T.F 0]
  have hr := hI.root
  cases hD : T.D with
  | nil => rw [hD] at hr; cases hr
  | cons a l =>
    rw [hD] at hr
    simp only [List.getElem?_cons_zero, Option.some.injEq] at hr
    subst hr
    rw [List.zipIdx_cons, List.drop_succ_cons, List.drop_zero, fm_cnt (fun (d : Nat × ByteArray) k => (⟨1, k, d.1, d.2, 0⟩ : Nd)) l (0 + 1)]
    simp [cntL]
    omega
theorem mo_new (f d m : Nat) : Mo ⟨f, d + 1, m, [some (0, e0)], [none], fun _ _ => none⟩ [] := by
  refine ⟨List.nodup_nil, fun e => ⟨fun h => (by cases h), ?_⟩, rfl, rfl⟩
  rintro ⟨no, ⟨P, n, x, _, _, h3⟩, _⟩
  cases h3
/-- Stat of an entry -/
theorem stat_do {T : Ts} {dp : Nat → Nat} (hI : Inv T dp) {L : List En} (hM : Mo T L) {e : En} (he : e ∈ L) (hv : Vd e.p) : doT T ⟨10, tx e.p, e0, 0, 0, e0⟩ = (⟨0, 0, [], (e.kd : Int), (e.sz : Int)⟩, Ef.no, T) := by
  obtain ⟨h1, h2, h3⟩ := mem_kd hM he
  obtain ⟨p1, p2⟩ := Pa.text_parse hv
  have ha : askE ⟨10, tx e.p, e0, 0, 0, e0⟩ = 0 := by
    unfold askE
    rw [if_neg (show ¬ ((10 : Int) < 1 ∨ (10 : Int) < 10) by decide), if_neg (fun x => x p1), if_neg (fun x => absurd (show (10 : Int) = 6 from x.1) (by decide)), if_neg (show ¬ ((((10 : Int) = 3 ∨ (10 : Int) = 4) ∧ (0 : Int) < 0) ∨ (((10 : Int) = 3 ∨ (10 : Int) = 5) ∧ (0 : Int) < 0)) by decide)]
  have hd : doT T ⟨10, tx e.p, e0, 0, 0, e0⟩ = staT T e.p := by
    unfold doT
    rw [if_neg (fun x => x ha)]
    show staT T (Pa.parseY (tx e.p)) = _
    rw [show Pa.parseY (tx e.p) = e.p from p2]
  have hk : e.kd = 1 ∨ e.kd = 2 := by
    obtain ⟨no, ⟨P, n, x, _, _, h3⟩, _⟩ := (hM.mem e).1 he
    exact hI.kinds h3
  have hs := fndS_some h2 (by omega : kdT T e.p ≠ 0)
  rw [hd]
  unfold staT
  rw [hs, if_neg (fun x => x h2), kd_eq h2, h1]
  rcases hk with hk | hk
  · rw [if_pos hk, h3, hk]
    rfl
  · rw [if_neg (by omega), h3, hk]
    rfl

end Go.Proofs.YtnfddiabhpandaaGreatDoor.Tr

namespace Go.Proofs.YtnfddiabhpandaaGreatDoor.Tr
open Go.RowKit Go.Lib

theorem nd_sub' : ∀ (L M : List Nat), L.Nodup → (∀ x, x ∈ L → x ∈ M) → L.length ≤ M.length
  | [], M, _, _ => Nat.zero_le _
  | a :: L, M, hn, h => by
    have ha : a ∈ M := h a (by simp)
    have h2 := nd_sub' L (M.erase a) (List.nodup_cons.1 hn).2 fun x hx => by
      have hne : x ≠ a := fun e => (List.nodup_cons.1 hn).1 (e ▸ hx)
      exact (List.mem_erase_of_ne hne).2 (h x (by simp [hx]))
    have h3 := List.length_erase_of_mem ha
    have h4 : 0 < M.length := List.length_pos_of_mem ha
    simp only [List.length_cons]
    omega
def cdN (T : Ts) (o : Option (Nat × Nat)) : Nat := match o with
  | none => 0
  | some v => if v.1 = 1 then v.2 else T.D.length + v.2
theorem keys_le {T : Ts} {dp : Nat → Nat} (h : Inv T dp) (p : Nat) : (keysL (T.M p)).length ≤ T.D.length + T.F.length := by
  by_cases hr : ∃ ks, Rises ks (T.M p)
  · obtain ⟨ks, hk⟩ := hr
    rw [keysL_eq hk]
    have hv : ∀ k ∈ ks, ∃ v, T.M p k = some v := fun k hm => Option.isSome_iff_exists.1 ((hk.2.2 k).1 hm)
    have hlt : ∀ k v, T.M p k = some v → (v.1 = 1 ∧ v.2 < T.D.length) ∨ (v.1 = 2 ∧ v.2 < T.F.length) := fun k v hq => by
      rcases (h.hM _ _ _).1 hq with ⟨h1, _, n, h3, _⟩ | ⟨h1, n, s, h3, _⟩
      · exact .inl ⟨h1, some_lt h3⟩
      · exact .inr ⟨h1, some_lt h3⟩
    have := nd_sub' (ks.map fun k => cdN T (T.M p k)) (List.range (T.D.length + T.F.length)) (by
      refine List.pairwise_map.2 (List.Pairwise.imp_of_mem (fun {a b} ha hb hab e => hab ?_) hk.2.1)
      obtain ⟨v, hv1⟩ := hv a ha
      obtain ⟨u, hu1⟩ := hv b hb
      rw [hv1, hu1] at e
      simp only [cdN] at e
      have e2 : v = u := by
        obtain ⟨v1, v2⟩ := v
        obtain ⟨u1, u2⟩ := u
        rcases hlt _ _ hv1 with ⟨c1, c2⟩ | ⟨c1, c2⟩ <;> rcases hlt _ _ hu1 with ⟨d1, d2⟩ | ⟨d1, d2⟩ <;> simp only at c1 d1 c2 d2 e <;> subst c1 d1 <;> simp at e
        · rw [e]
        · omega
        · omega
        · rw [e]
      subst e2
      exact (lies_eq ((h.hM _ _ _).1 hv1) ((h.hM _ _ _).1 hu1)).2) (fun x hx => by
      obtain ⟨k, hm, rfl⟩ := List.mem_map.1 hx
      obtain ⟨v, hv1⟩ := hv k hm
      rw [hv1]
      simp only [cdN, List.mem_range]
      rcases hlt _ _ hv1 with ⟨c1, c2⟩ | ⟨c1, c2⟩
      · rw [if_pos c1]; omega
      · rw [if_neg (by omega)]; omega)
    rw [List.length_map, List.length_range] at this
    exact this
  · unfold keysL
    rw [dif_neg hr]
    exact Nat.zero_le _
theorem names_le {T : Ts} {dp : Nat → Nat} (h : Inv T dp) (o : Op) : (doT T o).1.names.length ≤ T.D.length + T.F.length := by
  unfold doT
  split
  · exact Nat.zero_le _
  split
  · unfold mkdT
    repeat' split
    all_goals exact Nat.zero_le _
  split
  · unfold creT
    repeat' split
    all_goals exact Nat.zero_le _
  split
  · unfold reaT
    repeat' split
    all_goals exact Nat.zero_le _
  split
  · unfold wriT
    repeat' split
    all_goals exact Nat.zero_le _
  split
  · unfold cutT
    repeat' split
    all_goals exact Nat.zero_le _
  split
  · unfold renT
    repeat' split
    all_goals exact Nat.zero_le _
  split
  · unfold remT
    repeat' split
    all_goals exact Nat.zero_le _
  split
  · unfold rmdT
    repeat' split
    all_goals exact Nat.zero_le _
  split
  · unfold lisT
    split
    · exact Nat.zero_le _
    · show ((keysL (T.M (fndD T _).1.no)).map str).length ≤ _
      rw [List.length_map]
      exact keys_le h _
  · unfold staT
    repeat' split
    all_goals exact Nat.zero_le _

end Go.Proofs.YtnfddiabhpandaaGreatDoor.Tr

namespace Go.Proofs.YtnfddiabhpandaaGreatDoor.Tr
open Go.RowKit Go.Lib Go.Deep

/-- where TreeModel is, while it looks at every entry -/
structure Mds (w wr : World) (b q bm f d m N : Nat) (T : Ts) (L : List En) : Prop where
  tre : Tre wr w.heap.size b q N T
  mdl : Mdl wr w.heap.size bm f d m L
  bel : Below w.heap.size w wr
/-- where TreeModel is, before its round i -/
def Mdw (w wr : World) (b q bm f d m i : Nat) : Prop := ∃ (T : Ts) (dp : Nat → Nat) (L : List En), Tre wr w.heap.size b q (2 + i) T ∧ Inv T dp ∧ Mdl wr w.heap.size bm f d m L ∧ Mo T L ∧ T.fr = f ∧ T.dr = d + 1 ∧ T.most = m ∧ Below w.heap.size w wr
theorem Tre.base {w : World} {B B' b q nn : Nat} {T : Ts} (h : Tre w B b q nn T) (hB : B' ≤ B) : Tre w B' b q nn T := by
  obtain ⟨F, h1, h2⟩ := h.lay
  exact ⟨h.hb, Nat.le_trans hB h.hB, F, h1, fun k hk => Nat.le_trans hB (h2 k hk)⟩
theorem mdl_new {w : World} {B b f d m : Nat} (h : w.heap[b]? = some (.cells #[.int .i64 (f : Int), .int .i64 (d : Int), .int .i64 (m : Int), .slice none 0 0] 62 (0, 0))) : Mdl w B b f d m [] := ⟨⟨none, 0, h, World.ownsRow_nil _ _ _ _⟩, fun e he => (by cases he), by decide⟩
set_option maxRecDepth 20000 in
set_option maxHeartbeats 8000000 in
theorem model_walk (w : World) (n0 n1 n2 : Int) (h0 : -9223372036854775808 ≤ n0 ∧ n0 ≤ 9223372036854775807) (h1 : -9223372036854775808 ≤ n1 ∧ n1 ≤ 9223372036854775807) (h2 : -9223372036854775808 ≤ n2 ∧ n2 ≤ 9223372036854775807) (a : Option Addr) (len c : Nat) (O : List Op) (hO : IsO w a len O) (hlen : len ≤ 8796093022000) :
    Calls Tryz.prog 7 #[.int .i64 n0, .int .i64 n1, .int .i64 n2, .slice a len c] w fun e w' => e = .returned (.bool true) ∧ Below w.heap.size w w' := by
  obtain ⟨f, hf⟩ : ∃ f : Nat, (1 : Int) + n0 % (40 - 1 + 1) = f := ⟨((1 : Int) + n0 % (40 - 1 + 1)).toNat, by omega⟩
  obtain ⟨d, hd⟩ : ∃ d : Nat, (0 : Int) + n1 % (40 - 0 + 1) = d := ⟨((0 : Int) + n1 % (40 - 0 + 1)).toNat, by omega⟩
  obtain ⟨m, hm⟩ : ∃ m : Nat, (0 : Int) + n2 % (1000 - 0 + 1) = m := ⟨((0 : Int) + n2 % (1000 - 0 + 1)).toNat, by omega⟩
  have HC0 : Hid (∀ V, Calls Tryz.prog 10 #[.int .i64 n0, .int .i64 1, .int .i64 40] V fun e w' => e = .returned (.int .i64 (f : Int)) ∧ w' = V) := fun V => by have := clipped_any n0 1 40 h0 (by omega) (by omega) (by omega) V; rw [hf] at this; exact this
  have HC1 : Hid (∀ V, Calls Tryz.prog 10 #[.int .i64 n1, .int .i64 0, .int .i64 40] V fun e w' => e = .returned (.int .i64 (d : Int)) ∧ w' = V) := fun V => by have := clipped_any n1 0 40 h1 (by omega) (by omega) (by omega) V; rw [hd] at this; exact this
  have HC2 : Hid (∀ V, Calls Tryz.prog 10 #[.int .i64 n2, .int .i64 0, .int .i64 1000] V fun e w' => e = .returned (.int .i64 (m : Int)) ∧ w' = V) := fun V => by have := clipped_any n2 0 1000 h2 (by omega) (by omega) (by omega) V; rw [hm] at this; exact this
  have HPL : Hid (∀ V : World, Calls Tryz.prog 9 #[.int .i64 (f : Int), .int .i64 (d : Int), .int .i64 (m : Int)] V fun e w' => ∃ (b q : Nat) (T : Ts), e = .returned (.pointer (some ⟨b, 0, none⟩)) ∧ Hid (Tre w' V.heap.size b q 2 T) ∧ Hid (T.fr = f ∧ T.dr = d + 1 ∧ T.most = m ∧ T.F = [none] ∧ ∃ dp, Inv T dp) ∧ Below V.heap.size V w' ∧ Hid (T = plX f d m)) := fun V => planted_at V f d m (by omega) (by omega) (by omega) (by omega)
  have HF1 : Hid (1 ≤ f ∧ f ≤ 40 ∧ d ≤ 40 ∧ m ≤ 1000) := by refine ⟨?_, ?_, ?_, ?_⟩ <;> omega
  have HOP : Hid (IsO w a len O) := hO
  have HLEN : Hid (O.length = len) := hO.hl
  clear hO hf hd hm h0 h1 h2
  go_enter Tryz.func7, Tryz.ntmps7
  go_wp2_with fail
  refine (HC0.out _).mono ?_
  rintro e w1 ⟨rfl, rfl⟩
  go_wp2_with fail
  refine (HC1.out _).mono ?_
  rintro e w1 ⟨rfl, rfl⟩
  go_wp2_with fail
  refine (HC2.out _).mono ?_
  rintro e w1 ⟨rfl, rfl⟩
  go_wp2_with fail
  obtain ⟨W, hW, hbW, k0⟩ := one_new w1 #[.int .i64 (f : Int), .int .i64 (d : Int), .int .i64 (m : Int), .slice none 0 0] 62
  rw [hW]
  have c0 : W.drew.cell? ⟨w1.heap.size, 0, none⟩ = some (.int .i64 (f : Int)) := (cell_of_heap k0).trans rfl
  have c1 : W.drew.cell? ⟨w1.heap.size, 1, none⟩ = some (.int .i64 (d : Int)) := (cell_of_heap k0).trans rfl
  have c2 : W.drew.cell? ⟨w1.heap.size, 2, none⟩ = some (.int .i64 (m : Int)) := (cell_of_heap k0).trans rfl
  have HB0 : Hid (Below w1.heap.size w1 W.drew) := hbW.drew
  have HK0 : Hid (Unit → W.drew.heap[w1.heap.size]? = _) := fun _ => k0
  obtain ⟨g, hg⟩ : ∃ g, w1.heap.size = g := ⟨_, rfl⟩
  have HG : Hid (w1.heap.size = g) := hg
  rw [hg] at c0 c1 c2 HK0
  simp only [hg]
  clear hW hbW k0 hg HC0 HC1 HC2
  have HSK : Hid (∀ V, Below W.drew.heap.size W.drew V → V.cell? ⟨g, 0, none⟩ = some (.int .i64 (f : Int)) ∧ V.cell? ⟨g, 1, none⟩ = some (.int .i64 (d : Int)) ∧ V.cell? ⟨g, 2, none⟩ = some (.int .i64 (m : Int))) := fun V hb => by
    have k1 := (hb.block _ (heap_lt (HK0.out ()))).trans (HK0.out ())
    exact ⟨(cell_of_heap k1).trans rfl, (cell_of_heap k1).trans rfl, (cell_of_heap k1).trans rfl⟩
  go_region_held_law (fun V => V.cell? ⟨g, 0, none⟩ = some (.int .i64 (f : Int)) ∧ V.cell? ⟨g, 1, none⟩ = some (.int .i64 (d : Int)) ∧ V.cell? ⟨g, 2, none⟩ = some (.int .i64 (m : Int))) (first | exact ⟨c0, c1, c2⟩ | exact HSK.out _ hb2) (first | (go_at_call 9; refine (HPL.out _).mono ?_; rintro e w2 ⟨b, q, T0, rfl, HT0, HFT, hb2, HPT⟩))
  clear c0 c1 c2 HSK
  go_wp2_with fail
  have HL0 : Hid (Mdw w1 w2 b q g f d m 0) := by
    obtain ⟨e1, e2, e3, _, dp, hv⟩ := HFT.out
    have hbb := below_on hb2 HB0.out
    refine ⟨T0, dp, [], HT0.out.base HB0.out.size, hv, mdl_new ((hb2.block _ (heap_lt (HK0.out ()))).trans (HK0.out ())), ?_, e1, e2, e3, hbb⟩
    rw [HPT.out, plX_is f d m HF1.out.1]
    exact mo_new f d m
  have HGW : Hid (w1.heap.size ≤ g) := by rw [HG.out]; exact Nat.le_refl _
  clear hb2 HFT HPT HT0 HPL HB0 HK0 HG
  go_loopg [11] len (fun gk iv wr => ∃ (i : Nat), i + gk = len ∧ iv = .int .i64 (i : Int) ∧ Hid (Mdw w1 wr b q g f d m i))
  case atStart => exact ⟨0, by omega, rfl, HL0.out⟩
  case round =>
    obtain ⟨i, hik, rfl, HL⟩ := hrel
    clear HL0
    by_cases hlt : i < len
    · have hltI : (i : Int) < (len : Int) := by omega
      have w1' : IntKind.i64.wrap ((i : Int) + 1) = ((i + 1 : Nat) : Int) := by rw [IntKind.wrap_i64]; omega
      obtain ⟨T, dp, L, HT0, hv, HM0, HMO0, hfr, hdr, hms, hbw⟩ := HL.out
      have HT : Hid _ := HT0
      have HM : Hid (Mdl wr w1.heap.size g f d m L) := HM0
      have HBw : Hid _ := hbw
      obtain ⟨o, ho⟩ : ∃ o, O[i]? = some o := ⟨_, List.getElem?_eq_getElem (by have := HLEN.out; omega)⟩
      obtain ⟨pb, po, rfl, hpb0, p0', p1', p2', p3', p4', p5'⟩ := (HOP.out.below hbw).at_ i o ho
      have hpbw : pb < w1.heap.size := by
        obtain ⟨pb2, po2, e, hp, _⟩ := HOP.out.at_ i o ho
        injection e with e
        injection e with e _
        omega
      have HP : Hid (∀ V, Below w1.heap.size wr V → V.cell? ⟨pb, po + i * 6, none⟩ = some (.int .i64 o.kind) ∧ V.cell? ⟨pb, po + i * 6 + 1, none⟩ = some (.string o.path) ∧ V.cell? ⟨pb, po + i * 6 + 2, none⟩ = some (.string o.to_) ∧ V.cell? ⟨pb, po + i * 6 + 3, none⟩ = some (.int .i64 o.at_) ∧ V.cell? ⟨pb, po + i * 6 + 4, none⟩ = some (.int .i64 o.n) ∧ V.cell? ⟨pb, po + i * 6 + 5, none⟩ = some (.string o.data)) := fun V hb => ⟨(hb.cell hpbw).trans p0', (hb.cell hpbw).trans p1', (hb.cell hpbw).trans p2', (hb.cell hpbw).trans p3', (hb.cell hpbw).trans p4', (hb.cell hpbw).trans p5'⟩
      have hbd := HOP.out.bd o (List.mem_of_getElem? ho)
      have hdo := do_tre wr w1.heap.size b q (2 + i) T dp o HT0 hbw.size hv (by omega) hbd.1 hbd.2
      have HDS : Hid (∀ V, Mdl V w1.heap.size g f d m L → w1.heap.size ≤ V.heap.size → Calls Tryz.prog 25 #[.pointer (some ⟨g, 0, none⟩), .agg #[.int .i64 o.kind, .string o.path, .string o.to_, .int .i64 o.at_, .int .i64 o.n, .string o.data]] V (Done (doT T o) V w1.heap.size g f d m)) := fun V h1 h2 => by
        have hb4 := HF1.out
        have hl := mo_len hv HMO0
        have hl1 := cnt_len T.D
        have hl2 := cnt_len T.F
        have hl3 := hv.dl
        have hl4 := hv.fl
        exact does_any V w1.heap.size g f d m L h1 h2 hv HMO0 o ⟨by omega, by omega⟩ (by omega) hdr hfr hms (by omega)
      have HNL : Hid ((doT T o).1.names.length ≤ 1000000) := by
        obtain ⟨F1, hL1, _⟩ := HT0.lay
        obtain ⟨dv, fv1, ld, lf, ms, -, hI⟩ := hL1
        have hq1 := names_le hv o
        have hq2 := hI.dl
        have hq3 := hI.fl
        have hq4 := hI.lim
        show _ ≤ _
        omega
      have HVA : Hid (∃ dp, Inv (doT T o).2.2 dp) := inv_do hv o
      have HRM : Hid ((doT T o).2.2.fr = f ∧ (doT T o).2.2.dr = d + 1 ∧ (doT T o).2.2.most = m) := by
        obtain ⟨r1, r2, r3⟩ := do_room (T := T) (o := o)
        exact ⟨r1.trans hfr, r2.trans hdr, r3.trans hms⟩
      obtain ⟨A, hA⟩ : ∃ A, doT T o = A := ⟨_, rfl⟩
      rw [hA] at hdo HDS HVA HNL HRM
      obtain ⟨⟨cd, rn, rnm, rk, rz⟩, ⟨f0, f1, f2, f3, f4, f5, f6⟩, T1⟩ := A
      obtain ⟨ok, op, ot, oa, on, od⟩ := o
      simp only at hdo HDS HP p0' p1' p2' p3' p4' p5' HNL HVA HRM
      clear hA ho hbd hv hbw HT0 HM0 HMO0 HL hpb0 hpbw hfr hdr hms
      go_wp2_with fail
      refine hdo.mono ?_
      rintro e w3 ⟨va, vn, vc, rfl, HO3, HT3, HKP3, HB3⟩
      clear p0' p1' p2' p3' p4' p5' hdo
      obtain ⟨W4, hW4, hb4, k40, k41⟩ := two_new w3 #[.int .i64 cd, .string e0, .int .i64 rn, .slice va vn vc, .int .i64 rk, .int .i64 rz] #[.int .i64 f0, .int .i64 f1, .int .i64 f2, .int .i64 f3, .int .i64 f4, .string f5, .int .i64 f6] 33 35
      have HB4 : Hid (Below w1.heap.size wr W4) := HB3.out.trans (hb4.mono (Nat.le_trans HBw.out.size HB3.out.size))
      have HT4 : Hid (Tre W4 w1.heap.size b q (2 + i + 1) T1) := HT3.out.below hb4
      have HM4 : Hid (Mdl W4 w1.heap.size g f d m L) := (HM.out.kp HKP3.out).below hb4
      have HO4 : Hid (Pa.Own W4 wr.heap.size (.slice va vn vc) rnm) := HO3.out.1.below hb4
      have HR4 : Hid _ := k40
      have HW4 : Hid _ := hW4
      have hs4 : w1.heap.size ≤ W4.heap.size := Nat.le_trans HBw.out.size HB4.out.size
      have hdoes := HDS.out W4 HM4.out hs4
      clear hW4 hb4 k40 k41 HKP3 HO3 HT3 HB3 HDS HM HT
      go_upto_region 9 with fail
      rw [HW4.out]
      clear HW4
      obtain ⟨p0', p1', p2', p3', p4', p5'⟩ := HP.out W4 HB4.out
      go_wp2_with fail
      refine hdoes.mono ?_
      rintro e w5 ⟨u, rfl, hu5, L', hm5, hmo5, hf5⟩
      simp only at hu5 hmo5 ⊢
      obtain ⟨ua, uc, rfl⟩ := owns_form3 (show w5.ownsRow _ _ _ _ _ _ from hu5)
      obtain ⟨nn, hnn⟩ : ∃ nn, rnm.length = nn := ⟨_, rfl⟩
      rw [hnn] at hu5
      rw [hnn]
      obtain ⟨W6, hW6, hb6, k6⟩ := one_new w5 #[.int .i64 cd, .string { data := #[] }, .int .i64 rn, .slice ua nn uc, .int .i64 rk, .int .i64 rz] 33
      obtain ⟨ma, mc, hgm, -⟩ := HM4.out.row
      have HR6 : Hid (Unit → W6.heap[w3.heap.size]? = some (.cells #[.int .i64 cd, .string e0, .int .i64 rn, .slice va vn vc, .int .i64 rk, .int .i64 rz] 33 (0, 0))) := fun _ => by
        have h1 := cell_mfr HR4.out hf5 hgm (by decide) (by decide)
        exact (hb6.block _ (heap_lt h1)).trans h1
      have HS6 : Hid (Unit → W6.heap[w5.heap.size]? = _) := fun _ => k6
      have hsr : Calls Tryz.prog 26 #[.agg #[.int .i64 cd, .string e0, .int .i64 rn, .slice va vn vc, .int .i64 rk, .int .i64 rz], .agg #[.int .i64 cd, .string { data := #[] }, .int .i64 rn, .slice ua nn uc, .int .i64 rk, .int .i64 rz]] W6 fun e w' => e = .returned (.bool true) ∧ Below W6.heap.size W6 w' := sameResult_any W6 cd rn rk rz e0 va ua vn vc nn uc rnm ((see_mfr HO4.out hf5 hgm).below hb6).see (Pa.Own.below hu5 hb6).see (Nat.le_trans HNL.out (by decide))
      have HREL : Hid (∀ V, Below W6.heap.size W6 V → Mdw w1 V b q g f d m (i + 1)) := fun V hb => by
        obtain ⟨dpa, hva⟩ := HVA.out
        obtain ⟨r1, r2, r3⟩ := HRM.out
        have hb5 : Below w1.heap.size w1 w5 := (HBw.out.trans (HB4.out)).trans (hf5.low HGW.out hs4)
        exact ⟨T1, dpa, L', (((HT4.out.mfr hgm hf5).below hb6).below hb), hva, (hm5.below hb6).below hb, hmo5, r1, r2, r3, below_on hb (below_on hb6 hb5)⟩
      have HW6 : Hid _ := hW6
      clear hW6 hb6 k6 hgm hu5 hm5 hmo5 hf5 HO4 HR4 HM4 HT4 HVA HRM HNL hnn p0' p1' p2' p3' p4' p5' hdoes HP HB4 hs4
      go_upto_region 10 with fail
      rw [HW6.out]
      clear HW6
      obtain ⟨x0, x1, x2, x3, x4, x5⟩ := cells6 (HR6.out ())
      obtain ⟨y0, y1, y2, y3, y4, y5⟩ := cells6 (HS6.out ())
      go_wp2_with fail
      refine hsr.mono ?_
      rintro e w7 ⟨rfl, hb7⟩
      have HREL7 : Hid _ := HREL.out _ hb7
      clear x0 x1 x2 x3 x4 x5 y0 y1 y2 y3 y4 y5 hsr hb7 HREL
      go_wp2
      go_roundg (len - (i + 1))
      case measure => omega
      case rel => exact ⟨i + 1, by omega, rfl, HREL7.out⟩
    · obtain rfl : i = len := by omega
      have hltI : ¬ (i : Int) < (i : Int) := by omega
      obtain ⟨T, dp, L, HT0, hv, HM0, HMO0, hfr, hdr, hms, hbw⟩ := HL.out
      have HMS0 : Hid (Mds w1 wr b q g f d m (2 + i + 0) T L) := ⟨HT0, HM0, hbw⟩
      have HMO : Hid (Mo T L) := HMO0
      have HV : Hid (Inv T dp) := hv
      have hnb : L.length ≤ 80 := by
        have hl := mo_len hv HMO0
        have hl1 := cnt_len T.D
        have hl2 := cnt_len T.F
        have hl3 := hv.dl
        have hl4 := hv.fl
        have hl5 := HF1.out
        omega
      obtain ⟨n, hn⟩ : ∃ n, L.length = n := ⟨_, rfl⟩
      have HN : Hid (L.length = n) := hn
      rw [hn] at hnb
      have HDR : Hid (1 ≤ T.dr ∧ T.fr = f ∧ T.dr = d + 1) := ⟨by omega, hfr, hdr⟩
      have HQ : Hid (∀ V : World, Calls Tryz.prog 15 #[.agg #[.int .i64 0, .int .i64 (-1), .int .i64 (-1), .int .i64 0, .int .i64 0, .string { data := #[] }, .int .i64 0]] V fun e w' => e = .returned (.bool true) ∧ Below V.heap.size V w') := fun V => quiet12_any V
      clear HL HT0 hv HM0 HMO0 hfr hdr hms hbw hn hik
      go_wp2_with fail
      go_loopg [15] n (fun gj jv wq => ∃ (j : Nat), j + gj = n ∧ jv = .int .i64 (j : Int) ∧ Hid (Mds w1 wq b q g f d m (2 + i + j) T L))
      case atStart => exact ⟨0, by omega, rfl, HMS0.out⟩
      case round =>
        obtain ⟨j, hjk, rfl, HMS⟩ := hrel
        clear HMS0
        obtain ⟨ra, rc, hrd⟩ := HMS.out.mdl.rd
        have hc3 := hrd.c3
        rw [HN.out] at hc3
        by_cases hltj : j < n
        · have hltJ : (j : Int) < (n : Int) := by omega
          have w1' : IntKind.i64.wrap ((j : Int) + 1) = ((j + 1 : Nat) : Int) := by rw [IntKind.wrap_i64]; omega
          obtain ⟨en, hen⟩ : ∃ en, L[j]? = some en := ⟨_, List.getElem?_eq_getElem (by have := HN.out; omega)⟩
          obtain ⟨ge, rfl, y0, y1, y2⟩ := hrd.at_ j en hen
          have hmem := List.mem_of_getElem? hen
          have hdo := do_tre wr w1.heap.size b q (2 + i + j) T dp ⟨10, tx en.p, e0, 0, 0, e0⟩ HMS.out.tre HMS.out.bel.size HV.out (by omega) (show (0 : Int) ≤ 9223372036854775807 by decide) (show ({ data := #[] } : ByteArray).size ≤ 9223372036854775807 by decide)
          rw [stat_do HV.out HMO.out hmem (HMS.out.mdl.vd en hmem)] at hdo
          simp only [Ef.no] at hdo
          clear hmem hen
          obtain ⟨ep, ek, ez⟩ := en
          simp only at hdo y0 y1 y2
          generalize tx ep = et at hdo y0
          go_wp2_with fail
          refine hdo.mono ?_
          rintro e w3 ⟨va, vn, vc, rfl, HO3, HT3, HKP3, HB3⟩
          clear hdo
          obtain ⟨W4, hW4, hb4, k40, k41⟩ := two_new w3 #[.int .i64 0, .string { data := #[] }, .int .i64 0, .slice va vn vc, .int .i64 (ek : Int), .int .i64 (ez : Int)] #[.int .i64 0, .int .i64 (-1), .int .i64 (-1), .int .i64 0, .int .i64 0, .string { data := #[] }, .int .i64 0] 33 35
          have HMS4 : Hid (∀ V, Below W4.heap.size W4 V → Mds w1 V b q g f d m (2 + i + (j + 1)) T L) := fun V hb => by
            have hb5 : Below w1.heap.size w1 w3 := HMS.out.bel.trans HB3.out
            exact ⟨(HT3.out.below hb4).below hb, ((HMS.out.mdl.kp HKP3.out).below hb4).below hb, below_on hb (below_on hb4 hb5)⟩
          have HKE : Hid (Unit → W4.heap[w3.heap.size]? = _) := fun _ => k40
          have HKF : Hid (Unit → W4.heap[w3.heap.size + 1]? = _) := fun _ => k41
          have HY : Hid (∀ V, Below W4.heap.size W4 V → V.cell? ⟨g, 3, none⟩ = some (.slice (some ⟨ge, 0, none⟩) n rc) ∧ V.cell? ⟨ge, j * 3 + 1, none⟩ = some (.int .i64 (ek : Int)) ∧ V.cell? ⟨ge, j * 3 + 2, none⟩ = some (.int .i64 (ez : Int)) ∧ V.cell? ⟨w3.heap.size, 0, none⟩ = some (.int .i64 0) ∧ V.cell? ⟨w3.heap.size, 4, none⟩ = some (.int .i64 (ek : Int)) ∧ V.cell? ⟨w3.heap.size, 5, none⟩ = some (.int .i64 (ez : Int)) ∧ V.cell? ⟨w3.heap.size + 1, 0, none⟩ = some (.int .i64 0) ∧ V.cell? ⟨w3.heap.size + 1, 1, none⟩ = some (.int .i64 (-1)) ∧ V.cell? ⟨w3.heap.size + 1, 2, none⟩ = some (.int .i64 (-1)) ∧ V.cell? ⟨w3.heap.size + 1, 3, none⟩ = some (.int .i64 0) ∧ V.cell? ⟨w3.heap.size + 1, 4, none⟩ = some (.int .i64 0) ∧ V.cell? ⟨w3.heap.size + 1, 5, none⟩ = some (.string { data := #[] }) ∧ V.cell? ⟨w3.heap.size + 1, 6, none⟩ = some (.int .i64 0)) := fun V hb => by
            have k0 := (hb.block _ (heap_lt (HKE.out ()))).trans (HKE.out ())
            have k1 := (hb.block _ (heap_lt (HKF.out ()))).trans (HKF.out ())
            obtain ⟨a', c', r1, r2⟩ := HMS.out.mdl.row
            have r3 := HKP3.out _ _ _ r1 (by decide)
            have r4 := owns_kp r2 HKP3.out (by decide)
            have c4 : wr.cell? ⟨g, 3, none⟩ = some (.slice a' L.length c') := (cell_of_heap r1).trans rfl
            rw [hrd.c3] at c4
            injection c4 with c4
            injection c4 with e1 _ e2
            subst e1 e2
            obtain ⟨cur, hcur⟩ := owns_block r2 (k := ge) rfl
            have hcur3 := HKP3.out _ _ _ hcur (by decide)
            have hgV : V.heap[g]? = _ := (hb.block _ (heap_lt ((hb4.block _ (heap_lt r3)).trans r3))).trans ((hb4.block _ (heap_lt r3)).trans r3)
            have hcV : V.heap[ge]? = _ := (hb.block _ (heap_lt ((hb4.block _ (heap_lt hcur3)).trans hcur3))).trans ((hb4.block _ (heap_lt hcur3)).trans hcur3)
            refine ⟨?_, ?_, ?_, (cell_of_heap k0).trans rfl, (cell_of_heap k0).trans rfl, (cell_of_heap k0).trans rfl, (cell_of_heap k1).trans rfl, (cell_of_heap k1).trans rfl, (cell_of_heap k1).trans rfl, (cell_of_heap k1).trans rfl, (cell_of_heap k1).trans rfl, (cell_of_heap k1).trans rfl, (cell_of_heap k1).trans rfl⟩
            · rw [← HN.out]
              exact (cell_of_heap hgV).trans rfl
            · rw [cell_of_heap hcV, ← cell_of_heap hcur]
              exact y1
            · rw [cell_of_heap hcV, ← cell_of_heap hcur]
              exact y2
          have HW4 : Hid _ := hW4
          obtain ⟨z3, z1, z2, r0, r4, r5, f0, f1, f2, f3, f4, f5, f6⟩ := HY.out W4 (Below.refl _ _)
          clear hW4 hb4 k40 k41 HO3 HT3 HKP3 HB3
          go_upto_region 16 with fail
          rw [HW4.out]
          clear HW4 y0 y1 y2 hc3 hrd
          go_wp2_with fail
          have hbd : Below W4.heap.size W4 W4.drew := (Below.refl _ _).drew
          go_region_held_law (fun V => V.cell? ⟨g, 3, none⟩ = some (.slice (some ⟨ge, 0, none⟩) n rc) ∧ V.cell? ⟨ge, j * 3 + 1, none⟩ = some (.int .i64 (ek : Int)) ∧ V.cell? ⟨ge, j * 3 + 2, none⟩ = some (.int .i64 (ez : Int)) ∧ V.cell? ⟨w3.heap.size, 0, none⟩ = some (.int .i64 0) ∧ V.cell? ⟨w3.heap.size, 4, none⟩ = some (.int .i64 (ek : Int)) ∧ V.cell? ⟨w3.heap.size, 5, none⟩ = some (.int .i64 (ez : Int)) ∧ V.cell? ⟨w3.heap.size + 1, 0, none⟩ = some (.int .i64 0) ∧ V.cell? ⟨w3.heap.size + 1, 1, none⟩ = some (.int .i64 (-1)) ∧ V.cell? ⟨w3.heap.size + 1, 2, none⟩ = some (.int .i64 (-1)) ∧ V.cell? ⟨w3.heap.size + 1, 3, none⟩ = some (.int .i64 0) ∧ V.cell? ⟨w3.heap.size + 1, 4, none⟩ = some (.int .i64 0) ∧ V.cell? ⟨w3.heap.size + 1, 5, none⟩ = some (.string { data := #[] }) ∧ V.cell? ⟨w3.heap.size + 1, 6, none⟩ = some (.int .i64 0)) (first | exact HY.out _ hb6 | exact HY.out _ hbd) (first | (go_at_call 15; refine (HQ.out _).mono ?_; rintro e w6 ⟨rfl, hb6'⟩; have hb6 := below_on hb6' hbd) | (go_at_call 13; refine (num_any 0 _).mono ?_; rintro e w5 ⟨rfl, hw5⟩; subst w5))
          have HN6 : Hid _ := HMS4.out _ hb6
          clear z3 z1 z2 r0 r4 r5 f0 f1 f2 f3 f4 f5 f6 HY hb6 hb6' hbd
          go_wp2
          go_roundg (n - (j + 1))
          case measure => omega
          case rel => exact ⟨j + 1, by omega, rfl, HN6.out⟩
        · obtain rfl : j = n := by omega
          have hltJ : ¬ (j : Int) < (j : Int) := by omega
          have hst := state_tre wr w1.heap.size b q _ T HMS.out.tre HDR.out.1
          have hNN : (told T).length = j := by
            have e1 := told_cnt HV.out
            have e2 := mo_len HV.out HMO.out
            have e3 := HN.out
            omega
          rw [HDR.out.2.1, HDR.out.2.2, hNN, show ((d + 1 : Nat) : Int) - 1 = (d : Int) by omega] at hst
          have HBQ : Hid (Below w1.heap.size w1 wr) := HMS.out.bel
          have HCG : Hid (∀ V, Below wr.heap.size wr V → V.cell? ⟨g, 3, none⟩ = some (.slice ra j rc)) := fun V hb => by
            obtain ⟨a', c', r1, r2⟩ := HMS.out.mdl.row
            have c4 : wr.cell? ⟨g, 3, none⟩ = some (.slice a' L.length c') := (cell_of_heap r1).trans rfl
            rw [hrd.c3] at c4
            rw [← HN.out]
            have hgV := (hb.block _ (heap_lt r1)).trans r1
            exact ((cell_of_heap hgV).trans rfl : V.cell? ⟨g, 3, none⟩ = some (.slice a' L.length c')).trans c4.symm
          clear hNN hjk hrd HMS
          go_wp2_with fail
          refine hst.mono ?_
          rintro e w3 ⟨a0, c0, rfl, HS0, hb3, hle0⟩
          obtain ⟨W4, hW4, hb4, k4⟩ := one_new w3 #[.int .i64 (f : Int), .int .i64 (d : Int), .slice a0 j c0] 28
          have HW4 : Hid _ := hW4
          have hb34 : Below wr.heap.size wr W4 := below_on hb4 hb3
          have HB4 : Hid (Below w1.heap.size w1 W4) := below_on hb34 HBQ.out
          have z2 : W4.cell? ⟨w3.heap.size, 2, none⟩ = some (.slice a0 j c0) := (cell_of_heap k4).trans rfl
          have z3 := HCG.out W4 hb34
          have HK4 : Hid (Unit → _) := fun _ => k4
          clear hb3 hb4 k4 hW4 HS0 hc3 hst hb34 HCG
          go_upto_region 19 with fail
          rw [HW4.out]
          clear HW4
          go_wp2_with fail
          have HBN : Hid (∀ k, Below w1.heap.size w1 (W4.drewN k)) := fun k => below_on (bdN W4 k) HB4.out
          go_quiet (fail)
          go_wp2
          go_ret
          exact ⟨rfl, HBN.out _⟩

end Go.Proofs.YtnfddiabhpandaaGreatDoor.Tr
