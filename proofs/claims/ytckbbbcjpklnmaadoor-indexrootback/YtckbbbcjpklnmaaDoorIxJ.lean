import Derived.Test.YtckbbbcjpklnmaaDoorIxI
import Derived.Test.YtckbbbcjpklnmaaDoorCfM
import Derived.Test.YtckbbbcjpklnmaaDoorIxV2
namespace Go.Proofs.YtckbbbcjpklnmaaDoor.Ix
open Go.RowKit Go.Lib Go.Deep

set_option maxRecDepth 20000 in
set_option maxHeartbeats 1000000 in
theorem refs_any (c : Cn) (hc : c.May) (Z : List Int) (w : World) (hT : RT w) (av : Option Addr) (n k0 : Nat) (hS : See w 1 (.slice av n k0) n (zsC Z)) (hn : Z.length = n) (hn2 : n ≤ 1099511627776000) :
    Calls Tryd.prog 15 #[cfV c.cf, .slice av n k0] w fun e w' => ∃ R a k', R.length = c.pgs ∧ (∀ r ∈ R, RfF r) ∧ e = .returned (.slice a c.pgs k') ∧ w'.ownsRow w.heap.size 48 2 (.slice a c.pgs k') c.pgs (rfsC R) ∧ Below w.heap.size w w' := by
  obtain ⟨i0, hi, hz0, hz1, hz2⟩ := info_parts info48
  have KP := fun X hX => pages_any c.cf X hX
  rw [show chkE c.cf = 0 from if_pos hc.cf, show pgsY c.cf = (c.pgs : Int) by unfold pgsY; rw [if_pos hc.cf, Cn.cf_n]] at KP
  obtain ⟨M, hM⟩ : ∃ M, c.pgs = M := ⟨_, rfl⟩
  have hM2 : M ≤ 1024 := by rw [← hM]; exact hc.2
  rw [hM] at KP ⊢
  clear hc hM
  obtain ⟨sl, fl, dr, mf, ls, pg⟩ := c
  obtain ⟨V, hV, hbV, hVs, hVC⟩ := cf_new w sl fl dr mf ls pg
  obtain ⟨-, y0, y1, y2, y3, y4, y5⟩ := hVC V (Below.refl _ _)
  have KP1 := KP V (hT.next hbV)
  unfold cfV cfA Cn.cf at *
  simp only at *
  have HS : Hid (∀ X, Below w.heap.size w X → See X 1 (.slice av n k0) n (zsC Z)) := fun X hX => hS.below hX
  have HBV : Hid (∀ X, Below V.heap.size V X → Below w.heap.size w X) := fun X hX => hbV.trans (hX.mono hbV.size)
  clear hVC hbV hS KP hT
  go_enter Tryd.func15, Tryd.ntmps15
  go_wp2_with fail
  refine KP1.mono ?_
  rintro e w1 ⟨rfl, hb1'⟩
  have HB1 : Hid (Below w.heap.size w w1) := HBV.out w1 hb1'
  clear KP1 hb1' HBV y0 y1 y2 y3 y4 y5
  go_wp2_with fail
  go_loopg [7, 8] M (fun gk lv kv wr => ∃ (k : Nat) (R : List Rf), k + gk = M ∧ R.length = k ∧ kv = .int .i64 (k : Int) ∧ Hid (∀ r ∈ R, RfF r) ∧ Hid (wr.ownsRow w.heap.size 48 2 lv k (rfsC R)) ∧ Hid (Below w.heap.size w wr))
  case atStart => exact ⟨0, [], by omega, rfl, rfl, fun r hr => by simp at hr, World.ownsRow_nil _ _ _ _, HB1.out⟩
  case round =>
    obtain ⟨k, R, hk, hR, rfl, hRf, hO, hB⟩ := hrel
    by_cases hlt : k < M
    · have hltI : (k : Int) < (M : Int) := by omega
      have hltJ : (k : Int) < 1024 := by omega
      have HEND : Hid (∀ w3 w' v' t1 t2 (o : Obj), Below w.heap.size w w3 → w3.ownsRow w.heap.size 48 2 u7 k (rfsC R) → (w3.alloc o).grownBy w' u7.ownBlock → w'.ownsRow w.heap.size 48 2 v' (k + 1) (rfsC R ++ [.string t1, .string t2]) → ByteArray.size t1 = 16 → ByteArray.size t2 = 16 → Hid (∀ r ∈ R ++ [⟨t1, t2⟩], RfF r) ∧ Hid (w'.ownsRow w.heap.size 48 2 v' (k + 1) (rfsC (R ++ [⟨t1, t2⟩]))) ∧ Hid (Below w.heap.size w w')) := fun w3 w' v' t1 t2 o h3 h4 hg ho e1 e2 => by
        refine ⟨fun r hr => ?_, ?_, ?_⟩
        · rcases List.mem_append.1 hr with hr | hr
          · exact hRf.out r hr
          · simp at hr
            rw [hr]
            exact ⟨e1, e2⟩
        · show w'.ownsRow _ _ _ _ _ _
          rw [show rfsC (R ++ [⟨t1, t2⟩]) = rfsC R ++ [.string t1, .string t2] by simp [rfsC, rfC]]
          exact ho
        · have h5 : Below w.heap.size w (w3.alloc o) := h3.alloc h3.size o
          exact h5.trans (grown_below hg h5.size (owns_below h4 ((Below.refl w3.heap.size w3).alloc (Nat.le_refl _) o)))
      have KS := fun (x : Int) (X : World) => sixteen_any x X
      have h1c : ∀ t1 t2 : ByteArray, ∀ u ∈ [Value.string t1, Value.string t2], u.oneCell' = true := by simp [Value.oneCell']
      by_cases h0 : n = 0
      · have h0I : ¬ (0 : Int) < (n : Int) := by omega
        clear h0
        go_wp2_with fail
        refine (KS _ _).mono ?_
        rintro e w2 ⟨t1, e1, rfl, hb2⟩
        go_wp2_with fail
        refine (KS _ _).mono ?_
        rintro e w3 ⟨t2, e2, rfl, hb3⟩
        have hBw := hB.out
        have h3 : Below w.heap.size w w3 := (hBw.trans (hb2.mono hBw.size)).trans (hb3.mono (Nat.le_trans hBw.size hb2.size))
        have h4 := owns_below (owns_below hO.out hb2) hb3
        have hsz := h3.size
        have ho := fun o => owns_below h4 ((Below.refl w3.heap.size w3).alloc (Nat.le_refl _) o)
        have HE : Hid _ := fun w' v' o => HEND.out w3 w' v' t1 t2 o h3 h4
        clear hb2 hb3 h3 h4 hBw HEND hO hB
        go_wp2_with (first | (at_builtin; refine wpList_append_own _ rfl _ _ 35 rfl w.heap.size 48 i0 (.agg #[.string { data := #[] }, .string { data := #[] }]) 2 32 Tryd.underlying35 hi hz0 hz1 hz2 rfl (by decide) _ _ _ rfl (ho _) ⟨_, 0, none⟩ 1 1 [.string t1, .string t2] rfl rfl (by intro i u h; exact cells_new _ #[.string t1, .string t2] 48 i u (by simpa using h)) (h1c t1 t2) (by unfold maxLen; omega) (by omega) (by simp; omega) ?_; intro v' w' hown' hgrow' _; have HR : Hid _ := HE.out w' v' _ hgrow' hown' e1 e2; clear hown' hgrow'))
        go_roundg (gk - 1)
        case measure => omega
        case rel => exact ⟨k + 1, _, by omega, by rw [List.length_append, hR]; rfl, rfl, HR.out.1, HR.out.2.1, HR.out.2.2⟩
      · have h0I : (0 : Int) < (n : Int) := by omega
        have h0J : ¬ (n : Int) = 0 := by omega
        obtain ⟨j, hj⟩ : ∃ j, k % n = j := ⟨_, rfl⟩
        have hjl : j < n := by rw [← hj]; exact Nat.mod_lt _ (by omega)
        have hmd : (k : Int) % (n : Int) = (j : Int) := by rw [← hj]; simp
        have hjI : (j : Int) < (n : Int) := by omega
        obtain ⟨z, hz⟩ : ∃ z, Z[j]? = some z := ⟨_, List.getElem?_eq_getElem (by omega)⟩
        obtain ⟨b, off, rfl, hbl, hcz⟩ := (HS.out wr hB.out).z hz
        clear hj hz
        go_wp2_with fail
        refine (KS _ _).mono ?_
        rintro e w2 ⟨t1, e1, rfl, hb2⟩
        go_wp2_with fail
        refine (KS _ _).mono ?_
        rintro e w3 ⟨t2, e2, rfl, hb3⟩
        have hBw := hB.out
        have h3 : Below w.heap.size w w3 := (hBw.trans (hb2.mono hBw.size)).trans (hb3.mono (Nat.le_trans hBw.size hb2.size))
        have h4 := owns_below (owns_below hO.out hb2) hb3
        have hsz := h3.size
        have ho := fun o => owns_below h4 ((Below.refl w3.heap.size w3).alloc (Nat.le_refl _) o)
        have HE : Hid _ := fun w' v' o => HEND.out w3 w' v' t1 t2 o h3 h4
        clear hb2 hb3 h3 h4 hBw HEND hO hB hcz
        go_wp2_with (first | (at_builtin; refine wpList_append_own _ rfl _ _ 35 rfl w.heap.size 48 i0 (.agg #[.string { data := #[] }, .string { data := #[] }]) 2 32 Tryd.underlying35 hi hz0 hz1 hz2 rfl (by decide) _ _ _ rfl (ho _) ⟨_, 0, none⟩ 1 1 [.string t1, .string t2] rfl rfl (by intro i u h; exact cells_new _ #[.string t1, .string t2] 48 i u (by simpa using h)) (h1c t1 t2) (by unfold maxLen; omega) (by omega) (by simp; omega) ?_; intro v' w' hown' hgrow' _; have HR : Hid _ := HE.out w' v' _ hgrow' hown' e1 e2; clear hown' hgrow'))
        go_roundg (gk - 1)
        case measure => omega
        case rel => exact ⟨k + 1, _, by omega, by rw [List.length_append, hR]; rfl, rfl, HR.out.1, HR.out.2.1, HR.out.2.2⟩
    · obtain rfl : k = M := by omega
      have hltI : ¬ (k : Int) < (k : Int) := by omega
      obtain ⟨a, cap, hv⟩ := owns_form hO.out
      subst hv
      go_wp2
      go_ret
      exact ⟨R, hR, hRf.out, a, cap, rfl, hO.out, hB.out⟩
end Go.Proofs.YtckbbbcjpklnmaaDoor.Ix
