import Derived.Test.YtebhmebldemndaaDoorChM1
import Derived.Test.YtebhmebldemndaaDoorTabsC
import Derived.Test.YtebhmebldemndaaDoorBaseM
namespace Go.Proofs.YtebhmebldemndaaDoor.Cha
open Go.RowKit Go.Lib Go.Deep

theorem info3 : (Tryd.prog.info? 3).map (fun i => (i.zero, i.size, i.bytes)) = some (some (.int .i64 0), 1, 8) := by kernel_rfl

theorem owns_kept {w w' : World} {B : Nat} {e : TypeId} {s n : Nat} {v : Value} {xs : List Value} (h : w.ownsRow B e s v n xs) (hk : ∀ k, k < w.heap.size → w'.heap[k]? = w.heap[k]?) : w'.ownsRow B e s v n xs := by
  refine ⟨h.1, ?_⟩
  rcases h.2 with h | ⟨g, cap, cur, rfl, h1, h2, h3⟩
  · exact .inl h
  · exact .inr ⟨g, cap, cur, rfl, h1, (hk g (heap_lt h2)).trans h2, h3⟩

/-- a list of numbers in a row of its own -/
theorem owns_range {w : World} {B n : Nat} {v : Value} {ws : List Nat} (h : w.ownsRow B 3 1 v n (i64L ws)) (hn : 0 < n) : ∃ g cap, v = .slice (some ⟨g, 0, none⟩) n cap ∧ B ≤ g ∧ n ≤ cap ∧ cap ≤ maxLen ∧ g < w.heap.size ∧ w.rangeAt g 0 (i64L ws) := by
  rcases h.2 with ⟨_, h0⟩ | ⟨g, cap, cur, rfl, h1, h2, h3, h4, h5, h6⟩
  · omega
  · refine ⟨g, cap, rfl, h1, h3, h4, heap_lt h2, ?_⟩
    have hl : (i64L ws).length = n := by have := h.1; omega
    intro j u hu
    have hj := (List.getElem?_eq_some_iff.1 hu).1
    rw [Nat.zero_add, cell_of_heap h2]
    have e : (cur.toList.take (n * 1))[j]? = some u := by rw [h6]; exact hu
    rw [List.getElem?_take, if_pos (by omega), Array.getElem?_toList] at e
    exact e
theorem cells_range {w : World} {g : Nat} {ws : List Nat} (h : w.rangeAt g 0 (i64L ws)) : ∀ j u, (i64L ws)[j]? = some u → w.cell? ((⟨g, 0, none⟩ : Addr).add j) = some u := by
  intro j u hu
  rw [Addr.add_lit, Nat.zero_add]
  have := h j u hu
  rwa [Nat.zero_add] at this
theorem range_kept {w w' : World} {g : Nat} {xs : List Value} (h : w.rangeAt g 0 xs) (hk : w'.heap[g]? = w.heap[g]?) : w'.rangeAt g 0 xs := by
  intro j u hu
  rw [World.cell?_of_block hk]
  exact h j u hu

theorem i64L_append (a b : List Nat) : i64L (a ++ b) = i64L a ++ i64L b := by simp [i64L]

set_option maxRecDepth 20000 in
set_option maxHeartbeats 800000 in
theorem wordsOf_any (s : ByteArray) (n : Nat) (hs : s.size = 4 * n) (hn : n ≤ 8) (w : World) :
    Calls Tryd.prog 67 #[.string s] w fun e w' => ∃ v, e = .returned v ∧ w'.ownsRow w.heap.size 3 1 v n (i64L (wordsL s.data.toList n)) ∧ Below w.heap.size w w' := by
  obtain ⟨i0, hi, hz0, hz1, hz2⟩ := info_parts info3
  have hl : s.data.toList.length = s.size := (size_eq s).symm
  go_enter Tryd.func67, Tryd.ntmps67
  go_wp2
  go_loopg [3, 4] n (fun gk v i wr => ∃ k : Nat, k + gk = n ∧ i = .int .i64 (4 * (k : Int)) ∧ wr.ownsRow w.heap.size 3 1 v k (i64L (wordsL s.data.toList k)) ∧ Below w.heap.size w wr)
  case atStart => exact ⟨0, by omega, rfl, World.ownsRow_nil _ _ _ _, Below.refl _ _⟩
  case round =>
    obtain ⟨k, hkk, rfl, hown, hbel⟩ := hrel
    have HK : Hid (k + gk = n) := hkk
    have hk' : k ≤ n := by omega
    clear hkk
    have a3 : IntKind.i64.wrap (4 * (k : Int) + 3) = 4 * (k : Int) + 3 := by rw [IntKind.wrap_i64]; omega
    by_cases hlt : k < n
    · have hltI : 4 * (k : Int) + 3 < (s.size : Int) := by omega
      have g : ∀ j, j < 4 → s.data.toList[4 * k + j]? = some (s.data.toList.getD (4 * k + j) 0) := fun j hj => by
        rw [List.getD_eq_getElem?_getD, List.getElem?_eq_getElem (by omega)]
        rfl
      have h0 := fun W => rindex_at (P := Tryd.prog) W 9 s .i64 (4 * (k : Int)) (4 * k) _ Tryd.underlying9 (by omega) (g 0 (by omega))
      have h1 := fun W => rindex_at (P := Tryd.prog) W 9 s .i64 (4 * (k : Int) + 1) (4 * k + 1) _ Tryd.underlying9 (by omega) (g 1 (by omega))
      have h2 := fun W => rindex_at (P := Tryd.prog) W 9 s .i64 (4 * (k : Int) + 2) (4 * k + 2) _ Tryd.underlying9 (by omega) (g 2 (by omega))
      have h3 := fun W => rindex_at (P := Tryd.prog) W 9 s .i64 (4 * (k : Int) + 3) (4 * k + 3) _ Tryd.underlying9 (by omega) (g 3 (by omega))
      have HF : Hid (wordL s.data.toList (4 * k) = (s.data.toList.getD (4 * k + 0) 0).toNat + 256 * (s.data.toList.getD (4 * k + 1) 0).toNat + 65536 * (s.data.toList.getD (4 * k + 2) 0).toNat + 16777216 * (s.data.toList.getD (4 * k + 3) 0).toNat) := rfl
      have l0 := (s.data.toList.getD (4 * k + 0) 0).toNat_lt
      have l1 := (s.data.toList.getD (4 * k + 1) 0).toNat_lt
      have l2 := (s.data.toList.getD (4 * k + 2) 0).toNat_lt
      have l3 := (s.data.toList.getD (4 * k + 3) 0).toNat_lt
      clear g
      revert h0 h1 h2 h3 HF l0 l1 l2 l3
      generalize (s.data.toList.getD (4 * k + 0) 0).toNat = x0
      generalize (s.data.toList.getD (4 * k + 1) 0).toNat = x1
      generalize (s.data.toList.getD (4 * k + 2) 0).toNat = x2
      generalize (s.data.toList.getD (4 * k + 3) 0).toNat = x3
      intro h0 h1 h2 h3 HF l0 l1 l2 l3
      have HS : Hid (i64L (wordsL s.data.toList (k + 1)) = i64L (wordsL s.data.toList k) ++ [.int .i64 ((x0 : Int) + 256 * (x1 : Int) + 65536 * (x2 : Int) + 16777216 * (x3 : Int))]) := by
        show _ = _
        rw [wordsL_succ, i64L_append, HF.out]
        rfl
      clear HF
      have a1 : IntKind.i64.wrap (4 * (k : Int) + 1) = 4 * (k : Int) + 1 := by rw [IntKind.wrap_i64]; omega
      have a2 : IntKind.i64.wrap (4 * (k : Int) + 2) = 4 * (k : Int) + 2 := by rw [IntKind.wrap_i64]; omega
      have e0 : IntKind.i64.wrap (x0 : Int) = (x0 : Int) := by rw [IntKind.wrap_i64]; omega
      have e1 : IntKind.i64.wrap (x1 : Int) = (x1 : Int) := by rw [IntKind.wrap_i64]; omega
      have e2 : IntKind.i64.wrap (x2 : Int) = (x2 : Int) := by rw [IntKind.wrap_i64]; omega
      have e3 : IntKind.i64.wrap (x3 : Int) = (x3 : Int) := by rw [IntKind.wrap_i64]; omega
      have f1 : IntKind.i64.wrap (256 * (x1 : Int)) = 256 * (x1 : Int) := by rw [IntKind.wrap_i64]; omega
      have f2 : IntKind.i64.wrap ((x0 : Int) + 256 * (x1 : Int)) = (x0 : Int) + 256 * (x1 : Int) := by rw [IntKind.wrap_i64]; omega
      have f3 : IntKind.i64.wrap (65536 * (x2 : Int)) = 65536 * (x2 : Int) := by rw [IntKind.wrap_i64]; omega
      have f4 : IntKind.i64.wrap ((x0 : Int) + 256 * (x1 : Int) + 65536 * (x2 : Int)) = (x0 : Int) + 256 * (x1 : Int) + 65536 * (x2 : Int) := by rw [IntKind.wrap_i64]; omega
      have f5 : IntKind.i64.wrap (16777216 * (x3 : Int)) = 16777216 * (x3 : Int) := by rw [IntKind.wrap_i64]; omega
      have f6 : IntKind.i64.wrap ((x0 : Int) + 256 * (x1 : Int) + 65536 * (x2 : Int) + 16777216 * (x3 : Int)) = (x0 : Int) + 256 * (x1 : Int) + 65536 * (x2 : Int) + 16777216 * (x3 : Int) := by rw [IntKind.wrap_i64]; omega
      have hml : k + 1 ≤ maxLen := by unfold maxLen; omega
      have hone : ∀ u ∈ [Value.int .i64 ((x0 : Int) + 256 * (x1 : Int) + 65536 * (x2 : Int) + 16777216 * (x3 : Int))], u.oneCell' = true := by
        intro u hu
        obtain rfl := List.mem_singleton.1 hu
        rfl
      have hownV : wr.drew.ownsRow w.heap.size 3 1 u3 k (i64L (wordsL s.data.toList k)) := owns_kept hown (fun _ _ => rfl)
      have hbelV : Below w.heap.size w wr.drew := hbel.drew
      clear hown hbel
      go_wp2_with fail
      refine wp_region_held_drew (S := fun _ => True) (by kernel_rfl) trivial ?_
      intro _
      revert hownV hbelV
      generalize wr.drew = V
      intro hownV hbelV
      refine wpAnyH_take (i := 0) (oi := { dst := some 12, op := .move (.tmp 3), type := _, pos := _, after := _, guard := none }) (v := u3) rfl (by kernel_rfl) (by kernel_rfl) (by kernel_rfl) (fun _ _ _ h => h) (Or.inl ⟨by rfl, by intro x _; go_simp⟩) trivial ?_
      (try simp only [Act.put, List.setIfInBounds_toArray, List.set_cons_zero, List.set_cons_succ])
      refine wpAnyH_take (i := 1) (oi := { dst := some 13, op := .move (.tmp 0), type := _, pos := _, after := _, guard := none }) (v := .string s) rfl (by kernel_rfl) (by kernel_rfl) (by kernel_rfl) (fun _ _ _ h => h) (Or.inl ⟨by rfl, by intro x _; go_simp⟩) trivial ?_
      (try simp only [Act.put, List.setIfInBounds_toArray, List.set_cons_zero, List.set_cons_succ])
      refine wpAnyH_take (i := 2) (oi := { dst := some 14, op := .move (.tmp 4), type := _, pos := _, after := _, guard := none }) (v := .int .i64 (4 * (k : Int))) rfl (by kernel_rfl) (by kernel_rfl) (by kernel_rfl) (fun _ _ _ h => h) (Or.inl ⟨by rfl, by intro x _; go_simp⟩) trivial ?_
      (try simp only [Act.put, List.setIfInBounds_toArray, List.set_cons_zero, List.set_cons_succ])
      refine wpAnyH_take (i := 3) (oi := { dst := some 15, op := .index 9 (.tmp 13) (.tmp 14), type := _, pos := _, after := _, guard := none }) (v := .int .u8 (x0 : Int)) rfl (by kernel_rfl) (by kernel_rfl) (by kernel_rfl) (fun _ _ _ h => h) (Or.inl ⟨by rfl, by intro x _; go_simp⟩) trivial ?_
      (try simp only [Act.put, List.setIfInBounds_toArray, List.set_cons_zero, List.set_cons_succ])
      refine wpAnyH_take (i := 4) (oi := { dst := some 16, op := .convert 5 3 (.tmp 15), type := _, pos := _, after := _, guard := none }) (v := .int .i64 (x0 : Int)) rfl (by kernel_rfl) (by kernel_rfl) (by kernel_rfl) (fun _ _ _ h => h) (Or.inl ⟨by rfl, by intro x _; go_simp⟩) trivial ?_
      (try simp only [Act.put, List.setIfInBounds_toArray, List.set_cons_zero, List.set_cons_succ])
      refine wpAnyH_take (i := 5) (oi := { dst := some 17, op := .move (.tmp 0), type := _, pos := _, after := _, guard := none }) (v := .string s) rfl (by kernel_rfl) (by kernel_rfl) (by kernel_rfl) (fun _ _ _ h => h) (Or.inl ⟨by rfl, by intro x _; go_simp⟩) trivial ?_
      (try simp only [Act.put, List.setIfInBounds_toArray, List.set_cons_zero, List.set_cons_succ])
      refine wpAnyH_take (i := 6) (oi := { dst := some 18, op := .move (.tmp 4), type := _, pos := _, after := _, guard := none }) (v := .int .i64 (4 * (k : Int))) rfl (by kernel_rfl) (by kernel_rfl) (by kernel_rfl) (fun _ _ _ h => h) (Or.inl ⟨by rfl, by intro x _; go_simp⟩) trivial ?_
      (try simp only [Act.put, List.setIfInBounds_toArray, List.set_cons_zero, List.set_cons_succ])
      refine wpAnyH_take (i := 7) (oi := { dst := some 19, op := .binOp .add 3 (.tmp 18) (.const (.int .i64 1)) 3, type := _, pos := _, after := _, guard := none }) (v := .int .i64 (4 * (k : Int) + 1)) rfl (by kernel_rfl) (by kernel_rfl) (by kernel_rfl) (fun _ _ _ h => h) (Or.inl ⟨by rfl, by intro x _; go_simp⟩) trivial ?_
      (try simp only [Act.put, List.setIfInBounds_toArray, List.set_cons_zero, List.set_cons_succ])
      refine wpAnyH_take (i := 8) (oi := { dst := some 20, op := .index 9 (.tmp 17) (.tmp 19), type := _, pos := _, after := _, guard := none }) (v := .int .u8 (x1 : Int)) rfl (by kernel_rfl) (by kernel_rfl) (by kernel_rfl) (fun _ _ _ h => h) (Or.inl ⟨by rfl, by intro x _; go_simp⟩) trivial ?_
      (try simp only [Act.put, List.setIfInBounds_toArray, List.set_cons_zero, List.set_cons_succ])
      refine wpAnyH_take (i := 9) (oi := { dst := some 21, op := .convert 5 3 (.tmp 20), type := _, pos := _, after := _, guard := none }) (v := .int .i64 (x1 : Int)) rfl (by kernel_rfl) (by kernel_rfl) (by kernel_rfl) (fun _ _ _ h => h) (Or.inl ⟨by rfl, by intro x _; go_simp⟩) trivial ?_
      (try simp only [Act.put, List.setIfInBounds_toArray, List.set_cons_zero, List.set_cons_succ])
      refine wpAnyH_take (i := 10) (oi := { dst := some 22, op := .binOp .mul 3 (.const (.int .i64 256)) (.tmp 21) 3, type := _, pos := _, after := _, guard := none }) (v := .int .i64 (256 * (x1 : Int))) rfl (by kernel_rfl) (by kernel_rfl) (by kernel_rfl) (fun _ _ _ h => h) (Or.inl ⟨by rfl, by intro x _; go_simp⟩) trivial ?_
      (try simp only [Act.put, List.setIfInBounds_toArray, List.set_cons_zero, List.set_cons_succ])
      refine wpAnyH_take (i := 11) (oi := { dst := some 23, op := .binOp .add 3 (.tmp 16) (.tmp 22) 3, type := _, pos := _, after := _, guard := none }) (v := .int .i64 ((x0 : Int) + 256 * (x1 : Int))) rfl (by kernel_rfl) (by kernel_rfl) (by kernel_rfl) (fun _ _ _ h => h) (Or.inl ⟨by rfl, by intro x _; go_simp⟩) trivial ?_
      (try simp only [Act.put, List.setIfInBounds_toArray, List.set_cons_zero, List.set_cons_succ])
      refine wpAnyH_take (i := 12) (oi := { dst := some 24, op := .move (.tmp 0), type := _, pos := _, after := _, guard := none }) (v := .string s) rfl (by kernel_rfl) (by kernel_rfl) (by kernel_rfl) (fun _ _ _ h => h) (Or.inl ⟨by rfl, by intro x _; go_simp⟩) trivial ?_
      (try simp only [Act.put, List.setIfInBounds_toArray, List.set_cons_zero, List.set_cons_succ])
      refine wpAnyH_take (i := 13) (oi := { dst := some 25, op := .move (.tmp 4), type := _, pos := _, after := _, guard := none }) (v := .int .i64 (4 * (k : Int))) rfl (by kernel_rfl) (by kernel_rfl) (by kernel_rfl) (fun _ _ _ h => h) (Or.inl ⟨by rfl, by intro x _; go_simp⟩) trivial ?_
      (try simp only [Act.put, List.setIfInBounds_toArray, List.set_cons_zero, List.set_cons_succ])
      refine wpAnyH_take (i := 14) (oi := { dst := some 26, op := .binOp .add 3 (.tmp 25) (.const (.int .i64 2)) 3, type := _, pos := _, after := _, guard := none }) (v := .int .i64 (4 * (k : Int) + 2)) rfl (by kernel_rfl) (by kernel_rfl) (by kernel_rfl) (fun _ _ _ h => h) (Or.inl ⟨by rfl, by intro x _; go_simp⟩) trivial ?_
      (try simp only [Act.put, List.setIfInBounds_toArray, List.set_cons_zero, List.set_cons_succ])
      refine wpAnyH_take (i := 15) (oi := { dst := some 27, op := .index 9 (.tmp 24) (.tmp 26), type := _, pos := _, after := _, guard := none }) (v := .int .u8 (x2 : Int)) rfl (by kernel_rfl) (by kernel_rfl) (by kernel_rfl) (fun _ _ _ h => h) (Or.inl ⟨by rfl, by intro x _; go_simp⟩) trivial ?_
      (try simp only [Act.put, List.setIfInBounds_toArray, List.set_cons_zero, List.set_cons_succ])
      refine wpAnyH_take (i := 16) (oi := { dst := some 28, op := .convert 5 3 (.tmp 27), type := _, pos := _, after := _, guard := none }) (v := .int .i64 (x2 : Int)) rfl (by kernel_rfl) (by kernel_rfl) (by kernel_rfl) (fun _ _ _ h => h) (Or.inl ⟨by rfl, by intro x _; go_simp⟩) trivial ?_
      (try simp only [Act.put, List.setIfInBounds_toArray, List.set_cons_zero, List.set_cons_succ])
      refine wpAnyH_take (i := 17) (oi := { dst := some 29, op := .binOp .mul 3 (.const (.int .i64 65536)) (.tmp 28) 3, type := _, pos := _, after := _, guard := none }) (v := .int .i64 (65536 * (x2 : Int))) rfl (by kernel_rfl) (by kernel_rfl) (by kernel_rfl) (fun _ _ _ h => h) (Or.inl ⟨by rfl, by intro x _; go_simp⟩) trivial ?_
      (try simp only [Act.put, List.setIfInBounds_toArray, List.set_cons_zero, List.set_cons_succ])
      refine wpAnyH_take (i := 18) (oi := { dst := some 30, op := .binOp .add 3 (.tmp 23) (.tmp 29) 3, type := _, pos := _, after := _, guard := none }) (v := .int .i64 ((x0 : Int) + 256 * (x1 : Int) + 65536 * (x2 : Int))) rfl (by kernel_rfl) (by kernel_rfl) (by kernel_rfl) (fun _ _ _ h => h) (Or.inl ⟨by rfl, by intro x _; go_simp⟩) trivial ?_
      (try simp only [Act.put, List.setIfInBounds_toArray, List.set_cons_zero, List.set_cons_succ])
      refine wpAnyH_take (i := 19) (oi := { dst := some 31, op := .move (.tmp 0), type := _, pos := _, after := _, guard := none }) (v := .string s) rfl (by kernel_rfl) (by kernel_rfl) (by kernel_rfl) (fun _ _ _ h => h) (Or.inl ⟨by rfl, by intro x _; go_simp⟩) trivial ?_
      (try simp only [Act.put, List.setIfInBounds_toArray, List.set_cons_zero, List.set_cons_succ])
      refine wpAnyH_take (i := 20) (oi := { dst := some 32, op := .move (.tmp 4), type := _, pos := _, after := _, guard := none }) (v := .int .i64 (4 * (k : Int))) rfl (by kernel_rfl) (by kernel_rfl) (by kernel_rfl) (fun _ _ _ h => h) (Or.inl ⟨by rfl, by intro x _; go_simp⟩) trivial ?_
      (try simp only [Act.put, List.setIfInBounds_toArray, List.set_cons_zero, List.set_cons_succ])
      refine wpAnyH_take (i := 21) (oi := { dst := some 33, op := .binOp .add 3 (.tmp 32) (.const (.int .i64 3)) 3, type := _, pos := _, after := _, guard := none }) (v := .int .i64 (4 * (k : Int) + 3)) rfl (by kernel_rfl) (by kernel_rfl) (by kernel_rfl) (fun _ _ _ h => h) (Or.inl ⟨by rfl, by intro x _; go_simp⟩) trivial ?_
      (try simp only [Act.put, List.setIfInBounds_toArray, List.set_cons_zero, List.set_cons_succ])
      refine wpAnyH_take (i := 22) (oi := { dst := some 34, op := .index 9 (.tmp 31) (.tmp 33), type := _, pos := _, after := _, guard := none }) (v := .int .u8 (x3 : Int)) rfl (by kernel_rfl) (by kernel_rfl) (by kernel_rfl) (fun _ _ _ h => h) (Or.inl ⟨by rfl, by intro x _; go_simp⟩) trivial ?_
      (try simp only [Act.put, List.setIfInBounds_toArray, List.set_cons_zero, List.set_cons_succ])
      refine wpAnyH_take (i := 23) (oi := { dst := some 35, op := .convert 5 3 (.tmp 34), type := _, pos := _, after := _, guard := none }) (v := .int .i64 (x3 : Int)) rfl (by kernel_rfl) (by kernel_rfl) (by kernel_rfl) (fun _ _ _ h => h) (Or.inl ⟨by rfl, by intro x _; go_simp⟩) trivial ?_
      (try simp only [Act.put, List.setIfInBounds_toArray, List.set_cons_zero, List.set_cons_succ])
      refine wpAnyH_take (i := 24) (oi := { dst := some 36, op := .binOp .mul 3 (.const (.int .i64 16777216)) (.tmp 35) 3, type := _, pos := _, after := _, guard := none }) (v := .int .i64 (16777216 * (x3 : Int))) rfl (by kernel_rfl) (by kernel_rfl) (by kernel_rfl) (fun _ _ _ h => h) (Or.inl ⟨by rfl, by intro x _; go_simp⟩) trivial ?_
      (try simp only [Act.put, List.setIfInBounds_toArray, List.set_cons_zero, List.set_cons_succ])
      refine wpAnyH_take (i := 25) (oi := { dst := some 37, op := .binOp .add 3 (.tmp 30) (.tmp 36) 3, type := _, pos := _, after := _, guard := none }) (v := .int .i64 ((x0 : Int) + 256 * (x1 : Int) + 65536 * (x2 : Int) + 16777216 * (x3 : Int))) rfl (by kernel_rfl) (by kernel_rfl) (by kernel_rfl) (fun _ _ _ h => h) (Or.inl ⟨by rfl, by intro x _; go_simp⟩) trivial ?_
      (try simp only [Act.put, List.setIfInBounds_toArray, List.set_cons_zero, List.set_cons_succ])
      refine wpAnyH_ready (rs := [26]) (by kernel_rfl) (by simp) ?_
      refine AllReadyH.cons (o := { dst := some 38, op := .buildSlice 98 1 #[(0, .tmp 37)], type := _, pos := _, after := _, guard := none }) rfl (fun K hK => ?_) AllReadyH.nil
      go_simp
      refine hK.out _ _ trivial (fun _ => ?_)
      clear hK K
      (try simp only [Act.put, List.setIfInBounds_toArray, List.set_cons_zero, List.set_cons_succ])
      refine wpAnyH_ready (rs := [27]) (by kernel_rfl) (by simp) ?_
      refine AllReadyH.cons (o := { dst := some 39, op := .call { callee := .builtin .append, args := #[.tmp 12, .tmp 38], argTypes := #[98, 98] }, type := _, pos := _, after := _, guard := none }) rfl (fun K hK => ?_) AllReadyH.nil
      refine step_append_own rfl (.tmp 12) (.tmp 38) 98 rfl w.heap.size 3 i0 (.int .i64 0) 1 8 Tryd.underlying98 hi hz0 hz1 hz2 rfl (by decide) _ _ _ (by simp [Act.eval]) (hownV.alloc _) ⟨V.heap.size, 0, none⟩ 1 1 [.int .i64 ((x0 : Int) + 256 * (x1 : Int) + 65536 * (x2 : Int) + 16777216 * (x3 : Int))] (by simp [Act.eval]) rfl (by intro j u h; exact cells_new V #[.int .i64 ((x0 : Int) + 256 * (x1 : Int) + 65536 * (x2 : Int) + 16777216 * (x3 : Int))] 3 j u (by simpa using h)) hone hml (by omega) (by have := hbelV.size; simp; omega) ?_
      intro v' w' hown' hgrow'
      refine hK.out _ _ trivial (fun _ => ?_)
      clear hK K
      (try simp only [Act.put, List.setIfInBounds_toArray, List.set_cons_zero, List.set_cons_succ])
      refine wpAnyH_take (i := 28) (oi := { dst := some 3, op := .assign (.tmp 39), type := _, pos := _, after := _, guard := none }) (v := v') rfl (by kernel_rfl) (by kernel_rfl) (by kernel_rfl) (fun _ _ _ h => h) (Or.inl ⟨by rfl, by intro x _; go_simp⟩) trivial ?_
      (try simp only [Act.put, List.setIfInBounds_toArray, List.set_cons_zero, List.set_cons_succ])
      refine wpAnyH_done (by kernel_rfl) ?_ _
      have R : w'.ownsRow w.heap.size 3 1 v' (k + 1) (i64L (wordsL s.data.toList (k + 1))) := by rw [HS.out]; exact hown'
      have hb' : Below w.heap.size w w' := by
        have h1 := hbelV.alloc hbelV.size (.cells #[.int .i64 ((x0 : Int) + 256 * (x1 : Int) + 65536 * (x2 : Int) + 16777216 * (x3 : Int))] 3)
        exact h1.trans (grown_below hgrow' h1.size (hownV.alloc _))
      clear hown' hgrow' hownV
      go_wp2
      go_roundg (gk - 1)
      case measure => have := HK.out; omega
      case rel => exact ⟨k + 1, by have := HK.out; omega, by go_num, R, hb'⟩
    · have hltI : ¬ 4 * (k : Int) + 3 < (s.size : Int) := by omega
      obtain rfl : k = n := by omega
      go_wp2
      go_ret
      exact ⟨_, rfl, hown, hbel⟩

end Go.Proofs.YtebhmebldemndaaDoor.Cha
