import Derived.Test.YtpoipgmphhfgeabDoorPaB
namespace Go.Proofs.YtpoipgmphhfgeabDoor.Pa
open Go.RowKit Go.Lib

theorem nm_short {s : ByteArray} (h : s.size < 1) : nm s = false := by
  have hl : s.data.toList.length = s.size := (size_eq s).symm
  simp [nm, isN, hl]
  omega
theorem nm_long {s : ByteArray} (h : 32 < s.size) : nm s = false := by
  have hl : s.data.toList.length = s.size := (size_eq s).symm
  simp [nm, isN, hl]
  omega
theorem nameE_of {s : ByteArray} (h : nm s = false) : nameE s = 111 := by unfold nameE; rw [h]; rfl
theorem nameE_ok {s : ByteArray} (h : nm s = true) : nameE s = 0 := by unfold nameE; rw [h]; rfl
theorem rindex_at {P : Program} (w : World) (t : TypeId) (s : ByteArray) (k : IntKind) (z : Int) (i : Nat) (c : UInt8) (h : P.underlying t = some .string) (hz : z = (i : Int)) (hc : s.data.toList[i]? = some c) :
    (Instr.index t (.string s) (.int k z)).run P w = .ok (.int .u8 (c.toNat : Int)) w := by
  subst hz
  exact index_at w t s k i c h hc

set_option maxRecDepth 20000 in
set_option maxHeartbeats 1000000 in
theorem rname_any (s : ByteArray) (w : World) : Calls Tryd.prog 46 #[.string s] w fun e w' => e = .returned (.int .i64 (nameE s)) ∧ w' = w := by
  have hl : s.data.toList.length = s.size := (size_eq s).symm
  by_cases h0 : s.size < 1
  · rw [nameE_of (nm_short h0)]
    have h0I : (s.size : Int) < 1 := by omega
    go_enter Tryd.func46, Tryd.ntmps46
    go_wp2
    go_ret
    exact ⟨rfl, rfl⟩
  have h0I : ¬ (s.size : Int) < 1 := by omega
  by_cases h3 : 32 < s.size
  · rw [nameE_of (nm_long h3)]
    have h3I : (32 : Int) < (s.size : Int) := by omega
    go_enter Tryd.func46, Tryd.ntmps46
    go_wp2
    go_ret
    exact ⟨rfl, rfl⟩
  have h3I : ¬ (32 : Int) < (s.size : Int) := by omega
  by_cases h1 : s.toList = [46]
  · rw [nameE_of (by rw [toList_data] at h1; simp [nm, isN, h1])]
    have he : (s.toList == [46]) = true := by rw [h1]; rfl
    clear h1
    go_enter Tryd.func46, Tryd.ntmps46
    go_wp2
    go_ret
    exact ⟨rfl, rfl⟩
  have he1 : (s.toList == [46]) = false := beq_eq_false_iff_ne.2 h1
  by_cases h2 : s.toList = [46, 46]
  · rw [nameE_of (by rw [toList_data] at h2; simp [nm, isN, h2])]
    have he : (s.toList == [46, 46]) = true := by rw [h2]; rfl
    clear h2 h1
    go_enter Tryd.func46, Tryd.ntmps46
    go_wp2
    go_ret
    exact ⟨rfl, rfl⟩
  have he2 : (s.toList == [46, 46]) = false := beq_eq_false_iff_ne.2 h2
  have hN := nm_iff (s := s) (by rw [toList_data]; intro e; rw [e] at hl; simp at hl; omega) h1 h2 (by omega)
  obtain ⟨R, hR⟩ : ∃ R, nameE s = R := ⟨_, rfl⟩
  rw [hR]
  have HR : Hid (nameE s = R) := hR
  have HN : Hid (nm s = s.data.toList.all nb) := hN
  clear hR hN h1 h2
  obtain ⟨n, hn⟩ : ∃ n, s.size = n := ⟨_, rfl⟩
  rw [hn] at hl h3 h3I h0 h0I
  go_enter Tryd.func46, Tryd.ntmps46
  go_wp2
  go_loopg [3] n (fun gk i wr => ∃ k : Nat, k + gk = n ∧ i = .int .i64 (k : Int) ∧ wr = w ∧ Hid (∀ i x, i < k → s.data.toList[i]? = some x → nb x = true))
  case atStart => exact ⟨0, by omega, rfl, rfl, fun i x h => by omega⟩
  case round =>
    obtain ⟨k, hk, rfl, rfl, HZ⟩ := hrel
    by_cases hlt : k < n
    · have hltI : (k : Int) < (n : Int) := by omega
      obtain ⟨x, hx⟩ : ∃ x, s.data.toList[k]? = some x := ⟨_, List.getElem?_eq_getElem (by omega)⟩
      have hix := fun W => rindex_at (P := Tryd.prog) W 9 s .i64 (k : Int) k x Tryd.underlying9 rfl hx
      by_cases hb : nb x = true
      · obtain ⟨b1, b2, b3⟩ := (nb_iff x).1 hb
        have c1 : ¬ (x.toNat : Int) < 33 := by omega
        have c2 : ¬ (126 : Int) < (x.toNat : Int) := by omega
        have c3 : ¬ (x.toNat : Int) = 47 := by omega
        have HZ2 : Hid (∀ i x, i < k + 1 → s.data.toList[i]? = some x → nb x = true) := fun i y hi hy => by
          by_cases h : i = k
          · subst h; rw [hx] at hy; injection hy with hy; subst hy; exact hb
          · exact HZ.out i y (by omega) hy
        clear hx hb b1 b2 b3
        generalize x.toNat = xn at *
        go_wp2
        go_roundg (gk - 1)
        case measure => omega
        case rel => exact ⟨k + 1, by omega, by go_num, rfl, HZ2⟩
      · obtain rfl : R = 111 := by
          rw [← HR.out]
          refine nameE_of ?_
          rw [HN.out]
          apply Bool.eq_false_iff.2
          intro h
          exact hb (List.all_eq_true.1 h x (List.mem_of_getElem? hx))
        have hh : ¬ (33 ≤ x.toNat ∧ x.toNat ≤ 126 ∧ x.toNat ≠ 47) := fun h => hb ((nb_iff x).2 h)
        clear hx hb
        generalize x.toNat = r at *
        by_cases r1 : r < 33
        · have r1' : (r : Int) < 33 := by omega
          clear hh
          go_wp2
          go_ret
          exact ⟨rfl, rfl⟩
        have r1' : ¬ (r : Int) < 33 := by omega
        by_cases r2 : 126 < r
        · have r2' : (126 : Int) < (r : Int) := by omega
          clear hh
          go_wp2
          go_ret
          exact ⟨rfl, rfl⟩
        have r2' : ¬ (126 : Int) < (r : Int) := by omega
        have r3' : (r : Int) = 47 := by omega
        clear hh
        go_wp2
        go_ret
        exact ⟨rfl, rfl⟩
    · have hltI : ¬ (k : Int) < (n : Int) := by omega
      obtain rfl : R = 0 := by
        rw [← HR.out]
        refine nameE_ok ?_
        rw [HN.out, List.all_eq_true]
        intro c hc
        obtain ⟨i, hi⟩ := List.mem_iff_getElem?.1 hc
        have h1 := (List.getElem?_eq_some_iff.1 hi).1
        exact HZ.out i c (by omega) hi
      go_wp2
      go_ret
      exact ⟨rfl, rfl⟩
end Go.Proofs.YtpoipgmphhfgeabDoor.Pa
