import Derived.Test.YtcochbcaillldaaGreatDoorSqA
namespace Go.Proofs.YtcochbcaillldaaGreatDoor.Sc
open Go.RowKit Go.Lib Go.Deep

set_option maxRecDepth 20000 in
set_option maxHeartbeats 1000000 in
theorem isKindA_any (f : Fm) (kind : Int) (kb : Nat) (w : World) (hk : w.cell? ⟨kb, 0, none⟩ = some (.int .i64 kind)) :
    Calls Tryz.prog 51 #[f.val, .pointer (some ⟨kb, 0, none⟩)] w fun e w' => e = .returned (.bool (f.kind == kind)) ∧ Below w.heap.size w w' := by
  obtain ⟨k, wd, c, a, b⟩ := f
  unfold Fm.val
  have hA := fun o => (Below.refl w.heap.size w).alloc (Nat.le_refl _) o
  have hk2 : ∀ o, (w.alloc o).cell? ⟨kb, 0, none⟩ = some (.int .i64 kind) := fun o => ((hA o).cell (p := ⟨kb, 0, none⟩) (block_lt_of_cell hk)).trans hk
  go_enter Tryz.func51, Tryz.ntmps51
  go_wp2
  go_ret
  exact ⟨rfl, hA _⟩

set_option maxRecDepth 20000 in
set_option maxHeartbeats 1000000 in
theorem indexFuncA_any (L : List Fm) (n : Nat) (hn : L.length = n) (hn1 : n ≤ 1000) (kind : Int) (kb g : Nat) (w : World) (hk : w.cell? ⟨kb, 0, none⟩ = some (.int .i64 kind)) (hg : w.heap[g]? = some (.cells (tabC L) 110 (0, 0))) :
    Calls Tryz.prog 50 #[.slice (some ⟨g, 0, none⟩) n n, .func (.func 51) #[] #[.pointer (some ⟨kb, 0, none⟩)]] w fun e w' => Idx L kind e ∧ Below w.heap.size w w' := by
  go_enter Tryz.func50, Tryz.ntmps50
  go_wp2
  go_loopg [8] n (fun gk i wr => ∃ k : Nat, k + gk = n ∧ i = .int .i64 (k : Int) ∧ Hid ((∀ (j : Nat) (f : Fm), j < k → L[j]? = some f → f.kind ≠ kind) ∧ Below w.heap.size w wr))
  case atStart => exact ⟨0, by omega, rfl, fun j f h => by omega, Below.refl _ _⟩
  case round =>
    obtain ⟨k, hk0, rfl, HI⟩ := hrel
    by_cases hlt : k < n
    · have hltI : (k : Int) < (n : Int) := by omega
      obtain ⟨f, hf⟩ : ∃ f, L[k]? = some f := ⟨_, List.getElem?_eq_getElem (by omega)⟩
      obtain ⟨c0, c1, c2, c3, c4⟩ := tab_cell ((HI.out.2.block _ (Array.getElem?_eq_some_iff.1 hg).1).trans hg) hf
      have h1 := isKindA_any f kind kb wr ((HI.out.2.cell (p := ⟨kb, 0, none⟩) (block_lt_of_cell hk)).trans hk)
      unfold Fm.val at h1
      by_cases he : f.kind = kind
      · have heb : (f.kind == kind) = true := by simpa using he
        rw [heb] at h1
        have HE : Hid (L[k]? = some f ∧ f.kind = kind) := ⟨hf, he⟩
        clear heb he hf
        go_wp2_with (go_at_call 51; refine h1.mono ?_; rintro e w1 ⟨rfl, hb1⟩; clear h1)
        go_ret
        exact ⟨.inl ⟨k, f, HE.out.1, HE.out.2, rfl⟩, HI.out.2.trans (hb1.mono HI.out.2.size)⟩
      · have heb : (f.kind == kind) = false := by simpa using he
        rw [heb] at h1
        have HF : Hid (L[k]? = some f ∧ f.kind ≠ kind) := ⟨hf, he⟩
        clear hf he heb
        go_wp2_with (go_at_call 51; refine h1.mono ?_; rintro e w1 ⟨rfl, hb1⟩; clear h1)
        go_roundg (gk - 1)
        case measure => omega
        case rel =>
          refine ⟨k + 1, by omega, by go_num, fun j f' hj hf' => ?_, HI.out.2.trans (hb1.mono HI.out.2.size)⟩
          by_cases hjk : j = k
          · subst hjk
            rw [HF.out.1] at hf'
            rw [← Option.some.inj hf']
            exact HF.out.2
          · exact HI.out.1 j f' (by omega) hf'
    · obtain rfl : k = n := by omega
      have hltI : ¬ (k : Int) < (k : Int) := by omega
      go_wp2
      go_ret
      refine ⟨.inr ⟨fun f hf => ?_, rfl⟩, HI.out.2⟩
      obtain ⟨i, hi⟩ := List.mem_iff_getElem?.1 hf
      exact HI.out.1 i f (by have := (List.getElem?_eq_some_iff.1 hi).1; omega) hi
end Go.Proofs.YtcochbcaillldaaGreatDoor.Sc
