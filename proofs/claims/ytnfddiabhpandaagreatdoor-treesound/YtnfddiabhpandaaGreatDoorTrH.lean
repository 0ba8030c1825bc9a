import Derived.Test.YtnfddiabhpandaaGreatDoorLyM
import Derived.Sort.KeysCollected
namespace Go.Proofs.YtnfddiabhpandaaGreatDoor.Tr
open Go.RowKit Go.Lib Go.Deep

/-- how many names the deepest node below a directory has -/
def IsH (T : Ts) (x h : Nat) : Prop := (h = 0 ∨ Rch T x h) ∧ ∀ j, Rch T x j → j ≤ h
theorem rch_le {T : Ts} {dp : Nat → Nat} (hv : Inv T dp) {x j : Nat} (h : Rch T x j) : dp x + j ≤ 16 := by
  induction h with
  | one hm => exact (hv.d1 _ _ _ hm).1
  | more hm _ ih =>
    have := (hv.d1 _ _ _ hm).2 rfl
    simp only at this
    omega
/-- what has been gone through: h is the greatest of it -/
structure Gone (T : Ts) (x : Nat) (Dt : DataW Unit) (left : Lit → Bool) (h : Nat) : Prop where
  sub : ∀ kl, left kl = true → Maps.has Dt kl = true
  top : h = 0 ∨ Rch T x h
  all : ∀ k v, T.M x k = some v → left (.string k) = false → 1 ≤ h ∧ (v.1 = 1 → ∀ j, Rch T v.2 j → j + 1 ≤ h)
theorem Gone.isH {T : Ts} {x h : Nat} {Dt : DataW Unit} {left : Lit → Bool} (g : Gone T x Dt left h) (hl : ∀ kl, left kl = false) : IsH T x h := by
  refine ⟨g.top, fun j hj => ?_⟩
  cases hj with
  | one hm => exact (g.all _ _ hm (hl _)).1
  | more hm hr => exact (g.all _ _ hm (hl _)).2 rfl _ hr
theorem Gone.step {T : Ts} {x h h' c1 c2 : Nat} {Dt : DataW Unit} {left : Lit → Bool} {k : Key} (g : Gone T x Dt left h) (hM : T.M x k = some (c1, c2)) (hle : h ≤ h') (h1 : 1 ≤ h') (h2 : c1 = 1 → ∀ j, Rch T c2 j → j + 1 ≤ h') (ht : h' = h ∨ Rch T x h') : Gone T x Dt (fun z => left z && !z.sameKey (.string k)) h' := by
  refine ⟨fun kl hk => g.sub kl (by simp only [Bool.and_eq_true] at hk; exact hk.1), ?_, fun k' v hv hk => ?_⟩
  · rcases ht with rfl | ht
    · exact g.top
    · exact .inr ht
  · by_cases hkk : k' = k
    · subst hkk
      rw [hM] at hv
      cases hv
      exact ⟨h1, h2⟩
    · have hl : left (.string k') = false := by
        simp only [Bool.and_eq_false_iff] at hk
        rcases hk with hk | hk
        · exact hk
        · simp [Lit.sameKey, hkk] at hk
      obtain ⟨a, b⟩ := g.all k' v hv hl
      exact ⟨by omega, fun e j hj => Nat.le_trans (b e j hj) hle⟩
theorem grown_of {w W : World} (h : Below w.heap.size w W) : w.grownBy W none := ⟨h.os, h.tape, h.output, h.size, fun k hk _ => h.block k hk⟩
set_option maxRecDepth 20000 in
set_option maxHeartbeats 4000000 in
theorem height_any (T : Ts) (dp : Nat → Nat) (hv : Inv T dp) (q : Nat) (F : List Nat) (nn : Nat) : ∀ (fuel x : Nat) (d : Nat × ByteArray), T.D[x]? = some (some d) → fuel = 16 - dp x → ∀ w, Lay w q F nn T →
    Calls Tryz.prog 163 #[.pointer (some ⟨q, 0, none⟩), .int .i64 (x : Int)] w fun e w' => ∃ h : Nat, e = .returned (.int .i64 (h : Int)) ∧ Hid (IsH T x h) ∧ h ≤ 16 ∧ Below w.heap.size w w' := by
  intro fuel
  induction fuel using Nat.strongRecOn with
  | ind fuel ih =>
  intro x d hd hf w hL
  obtain ⟨dv, fv, ld, lf, ms, hFe, hI⟩ := id hL
  have hin := inside_any w q dv fv ld lf ms nn T hI x d hd
  have HIH : Hid (∀ (y : Nat) (k : Key) (W : World), T.M x k = some (1, y) → Below w.heap.size w W → Calls Tryz.prog 163 #[.pointer (some ⟨q, 0, none⟩), .int .i64 (y : Int)] W fun e w' => ∃ h : Nat, e = .returned (.int .i64 (h : Int)) ∧ Hid (IsH T y h) ∧ h ≤ 16 ∧ Below W.heap.size W w') := fun y k W hy hb => by
    obtain ⟨_, n', h6, _⟩ := hv.dirD hy
    have h7 := hv.d1 _ _ _ hy
    have h8 := h7.2 rfl
    simp only at h8
    exact ih (16 - dp y) (by omega) y _ h6 rfl W (hL.below hb)
  have HOM : Hid (∀ W, Below w.heap.size w W → ∃ Dt, W.ownsMap Tryz.prog 9 nodeR (ms x) nn Dt ∧ Tab Dt (T.M x)) := fun W hb => (hI.below hb).hm x d hd
  have HR1 : Hid (∀ k v, T.M x k = some v → Rch T x 1) := fun k v h => .one h
  have HR2 : Hid (∀ k y j, T.M x k = some (1, y) → Rch T y j → Rch T x (j + 1)) := fun k y j h h2 => .more h h2
  have HLE : Hid (∀ j, Rch T x j → j ≤ 16) := fun j hj => by have := rch_le hv hj; omega
  generalize ms x = m at *
  clear hI hFe hd hf ih hL
  go_enter Tryz.func163, Tryz.ntmps163
  go_wp2_with fail
  refine hin.mono ?_
  rintro e w2 ⟨rfl, hb2⟩
  obtain ⟨Dt, hown, hT⟩ := HOM.out w2 hb2
  have hbl := hown.lt
  have HT : Hid (Tab Dt (T.M x)) := hT
  have HB2 : Hid (Below w.heap.size w w2) := hb2
  clear hin HOM hT hb2
  go_wp2_with (first
    | (at_range; refine wpList_range_own _ rfl _ 129 rfl 9 149 keyLaw Tryz.underlying129 _ m nn _ rfl hown ?_; intro w0 hrg0 hg0 hs0)
    | go_in)
  go_frame
  go_loopw [5] (fun v wr => ∃ (left : Lit → Bool) (cnt h : Nat), v = .int .i64 (h : Int) ∧ wr.ranges Tryz.prog 9 nodeR m w2.heap.size nn Dt left cnt ∧ Hid (Gone T x Dt left h) ∧ h ≤ 16 ∧ Hid (Below w2.heap.size w2 wr))
    (fun _ wr => wr.rangeLeft m w2.heap.size)
  case atStart =>
    exact ⟨_, _, 0, rfl, hrg0, ⟨fun _ h => h, .inl rfl, fun k v hv hl => by rw [HT.out.has k, hv] at hl; cases hl⟩, by omega, (Below.refl _ _).grown hg0 (Nat.le_refl _) (fun j hj => by cases hj)⟩
  case round =>
    obtain ⟨left, cnt, h, rfl, hrg, HG, hh, HB⟩ := hrel
    go_wp2_with (first
      | (at_next; refine wpList_next_ranges _ rfl _ rfl 9 keyLaw nodeR encStr (fun p : Nat × Nat => .agg #[.int .i64 (p.1 : Int), .int .i64 (p.2 : Int)]) (fun key kl hk => by obtain ⟨x, hx, _⟩ := Maps.keyOf_str Tryz.underlying9 hk; exact ⟨x, hx⟩) (fun v y hv => by obtain ⟨a, b, rfl, _⟩ := nodeR_inv hv; exact ⟨(a, b), rfl⟩) m w2.heap.size nn _ _ _ rfl hrg ?_ ?_)
      | go_in)
    · intro hc0 hl0
      go_wp2_with fail
      go_ret
      exact ⟨h, rfl, HG.out.isH hl0, hh, HB2.out.trans (HB.out.mono HB2.out.size)⟩
    · intro y c1 c2 kl yd yp w3 cnt2 hkey hlk hvv hat hrg2 hlt hg2 hs2 hen
      obtain ⟨y', ey, rfl, _⟩ := Maps.keyOf_str Tryz.underlying9 hkey
      obtain rfl : y = y' := encStr_inj ey
      have hM : T.M x y = some (c1, c2) := by
        have e1 : nodeD (c1, c2) = yd := by
          rw [nodeR_mk] at hvv
          simp only [Option.some.injEq, Prod.mk.injEq] at hvv
          exact hvv.1
        have h1 := HG.out.sub _ hlk
        rw [HT.out.has y] at h1
        cases hq : T.M x y with
        | none => rw [hq] at h1; cases h1
        | some v =>
          have h2 := HT.out.at_ y v hq (.map [])
          rw [hat, ← e1] at h2
          rw [nodeD_inj h2]
      have hB3 : Below w2.heap.size w2 w3 := HB.out.grown hg2 HB.out.size (fun j hj => by cases hj; exact Nat.le_refl _)
      obtain ⟨W4, hW4, hb4, k4⟩ := one_new w3 #[.int .i64 (c1 : Int), .int .i64 (c2 : Int)] 149
      have n0 : W4.cell? ⟨w3.heap.size, 0, none⟩ = some (.int .i64 (c1 : Int)) := (cell_of_heap k4).trans rfl
      have n1 : W4.cell? ⟨w3.heap.size, 1, none⟩ = some (.int .i64 (c2 : Int)) := (cell_of_heap k4).trans rfl
      have hrg4 : W4.ranges Tryz.prog 9 nodeR m w2.heap.size nn Dt (fun z => left z && !z.sameKey (Lit.string y)) cnt2 := hW4 ▸ hrg2.alloc _
      have hB4 : Below w2.heap.size w2 W4 := hB3.trans (hb4.mono hB3.size)
      have HB4 : Hid _ := hB4
      have HM : Hid _ := hM
      by_cases hc : c1 = 1
      · subst hc
        have hih := HIH.out c2 y W4 hM (HB2.out.trans (hB4.mono HB2.out.size))
        have hW4' : w3.alloc (.cells #[.int .i64 1, .int .i64 (c2 : Int)] 149) = W4 := hW4
        have n0' : W4.cell? ⟨w3.heap.size, 0, none⟩ = some (.int .i64 1) := n0
        clear hW4 n0 hs2 hg2 hrg2 hat hvv hlk hB3 hB4 hb4 k4 hM hkey ey
        go_wp2_with fail
        refine hih.mono ?_
        rintro e w5 ⟨h5, rfl, HH5, h5le, hb5⟩
        have hrg5 := hrg4.kept (grown_of hb5) (by simp) (by simp)
        have HB5 : Hid (Below w2.heap.size w2 w5) := HB4.out.trans (hb5.mono HB4.out.size)
        have HS : Hid (∀ h', (h' = h ∨ h' = h5 + 1) → h ≤ h' → h5 + 1 ≤ h' → Gone T x Dt (fun z => left z && !z.sameKey (Lit.string y)) h' ∧ h' ≤ 16) := fun h' h1 h2 h3 => by
          have ht : h' = h ∨ Rch T x h' := by
            rcases h1 with rfl | rfl
            · exact .inl rfl
            · right
              rcases HH5.out.1 with h4 | h4
              · subst h4; exact HR1.out _ _ HM.out
              · exact HR2.out _ _ _ HM.out h4
          refine ⟨HG.out.step HM.out h2 (by omega) (fun _ j hj => by have := HH5.out.2 j hj; omega) ht, ?_⟩
          rcases ht with rfl | ht
          · exact hh
          · exact HLE.out _ ht
        clear hb5 hih hrg4
        go_wp2_with fail
        all_goals
          go_roundw
          case rel =>
            by_cases hl5 : (h : Int) < 1 + (h5 : Int)
            · refine ⟨_, cnt2, h5 + 1, ?_, hrg5, (HS.out (h5 + 1) (.inr rfl) (by omega) (Nat.le_refl _)).1, (HS.out (h5 + 1) (.inr rfl) (by omega) (Nat.le_refl _)).2, HB5.out⟩
              first
                | (rw [if_pos hl5]; congr 1; omega)
                | (congr 1; omega)
            · refine ⟨_, cnt2, h, ?_, hrg5, (HS.out h (.inl rfl) (Nat.le_refl _) (by omega)).1, hh, HB5.out⟩
              first
                | (rw [if_neg hl5])
                | (congr 1; omega)
          case measure => rw [hrg5.left_eq, hrg.left_eq]; exact hlt
      · have hcI : ¬ (c1 : Int) = 1 := by omega
        have HS : Hid (∀ h', (h' = h ∨ h' = 1) → h ≤ h' → 1 ≤ h' → Gone T x Dt (fun z => left z && !z.sameKey (Lit.string y)) h') := fun h' h1 h2 h3 => by
          refine HG.out.step HM.out h2 h3 (fun e => absurd e hc) ?_
          rcases h1 with rfl | rfl
          · exact .inl rfl
          · exact .inr (HR1.out _ _ HM.out)
        clear hs2 hg2 hrg2 hat hvv hlk hB3 hB4 hb4 k4 hM hkey ey hc
        go_wp2_with fail
        all_goals
          go_roundw
          case rel =>
            by_cases hl5 : (h : Int) < 1
            · refine ⟨_, cnt2, 1, ?_, hrg4, HS.out 1 (.inr rfl) (by omega) (Nat.le_refl _), by omega, HB4.out⟩
              first
                | (rw [if_pos hl5]; rfl)
                | (congr 1; omega)
            · refine ⟨_, cnt2, h, ?_, hrg4, HS.out h (.inl rfl) (Nat.le_refl _) (by omega), hh, HB4.out⟩
              first
                | (rw [if_neg hl5])
                | (congr 1; omega)
          case measure => rw [hrg4.left_eq, hrg.left_eq]; exact hlt

end Go.Proofs.YtnfddiabhpandaaGreatDoor.Tr
