import Derived.Test.YtggfeppphhigdabDoorMacR
namespace Go.Proofs.YtggfeppphhigdabDoor
open Go.RowKit Go.Lib Go.Deep

theorem run_slice_l {P : Program} (W : World) (x : ByteArray) (m : Nat) (hm : m ≤ x.size) (h9 : P.underlying 9 = some .string) (_h63 : x.size ≤ 9223372036854775807) : (Instr.slice 9 (.string x) (some (.int .i64 (m : Int))) none none).run P W = .ok (.string (x.extract m x.size)) W :=
  run_slice_string_l (P := P) W 9 x h9 .i64 (m : Int) (by omega) (by omega)

set_option maxRecDepth 20000 in
set_option maxHeartbeats 2000000 in
theorem take_any (p r s : Nat) (l : List UInt8) (data : ByteArray) (w : World) (hM : Mac w p r s l) (hr : r < 1361129467683753853853498429727072845824) (h63 : data.size ≤ 9223372036854775807) :
    Calls Tryd.prog 13 #[.pointer (some ⟨p, 0, none⟩), .string data] w fun e w' => e = .returned (.tuple #[]) ∧ Mac w' p r s (l ++ data.data.toList) ∧ Only [p] w w' := by
  go_enter Tryd.func13, Tryd.ntmps13
  go_wp2
  go_loopg [1] data.size (fun gk tx wr => ∃ (x : ByteArray) (done : List UInt8), tx = .string x ∧ x.size = gk ∧ done ++ x.data.toList = data.data.toList ∧ Mac wr p r s (l ++ done) ∧ Only [p] w wr)
  case atStart => exact ⟨data, [], rfl, rfl, rfl, by rw [List.append_nil]; exact hM, Only.refl _ _⟩
  case round =>
    clear hM
    obtain ⟨x, done, rfl, hx, hdn, hM, hO⟩ := hrel
    have HX : Hid (x.size = gk) := hx
    have HDN : Hid (done ++ x.data.toList = data.data.toList) := hdn
    have hxs : x.size ≤ data.size := by
      have := congrArg List.length hdn
      rw [List.length_append, ← size_eq, ← size_eq] at this
      omega
    clear hdn
    by_cases hpos : 0 < x.size
    · have hposI : (0 : Int) < (x.size : Int) := by omega
      obtain ⟨A, hA1, hA2, hP⟩ := hM.ex
      obtain ⟨cur, hcur⟩ : ∃ cur, l ++ done = cur := ⟨_, rfl⟩
      rw [hcur] at hA2 hP
      obtain ⟨rest, hrest⟩ : ∃ rest, cur.drop (16 * (cur.length / 16)) = rest := ⟨_, rfl⟩
      obtain ⟨q, hq⟩ : ∃ q, cur.length % 16 = q := ⟨_, rfl⟩
      rw [hrest, hq] at hP
      have hq16 : q < 16 := by omega
      have hrq : rest.length = q := by rw [← hrest, List.length_drop]; omega
      obtain ⟨m, hm⟩ : ∃ m, Nat.min x.size (16 - q) = m := ⟨_, rfl⟩
      have hm1 : m ≤ x.size := by rw [← hm]; exact Nat.min_le_left _ _
      have hm2 : q + m ≤ 16 := by have : m ≤ 16 - q := by rw [← hm]; exact Nat.min_le_right _ _
                                  omega
      have hm3 : 0 < m := by rw [← hm]; exact Nat.lt_min.2 ⟨hpos, by omega⟩
      have hym : (x.data.toList.take m).length = m := by rw [List.length_take, ← size_eq]; omega
      have hcs := copyB (lim r) (lim s) (lim A) rest (x.data.toList.take m) q q m (lim_length _) (lim_length _) (lim_length _) hrq hym hm2
      have hfit : 16 + q + m ≤ (mcells (lim r) (lim s) (lim A) (fill 17 (nat8 rest)) q).toArray.size := by rw [hP.size]; omega
      have hP1 : Pm (wr.drew.setRow p (mcells (lim r) (lim s) (lim A) (fill 17 (nat8 (rest ++ x.data.toList.take m))) q).toArray) p (lim r) (lim s) (lim A) (fill 17 (nat8 (rest ++ x.data.toList.take m))) q :=
        ⟨setRow_heap _ _ _ _ _ _ hP.drew.heap, hP.lr, hP.ls, hP.la, fill_length _ _ (by rw [nat8_length, List.length_append, hrq, hym]; omega)⟩
      have hO1 : Only [p] w (wr.drew.setRow p (mcells (lim r) (lim s) (lim A) (fill 17 (nat8 (rest ++ x.data.toList.take m))) q).toArray) := hO.drew.setRow (by simp) _
      have hg := hP.drew.heap
      have c33 := hP.full
      have c33d : wr.drew.cell? ⟨p, 33, none⟩ = some (.int .i64 (q : Int)) := c33
      have q0 : (0 : Int) ≤ (q : Int) := by omega
      have q1 : (q : Int) ≤ 16 := by omega
      have q2 : ¬ 17 = q := by omega
      clear hP hO hM
      revert hcs hfit hP1 hO1 hg
      generalize (mcells (lim r) (lim s) (lim A) (fill 17 (nat8 rest)) q).toArray = C0
      generalize hC1 : mcells (lim r) (lim s) (lim A) (fill 17 (nat8 (rest ++ x.data.toList.take m))) q = C1
      intro hcs hfit hP1 hO1 hg
      go_wp2_with fail
      go_region_law (refine step_copy_string rfl (.tmp 15) (.tmp 16) 48 9 rfl 5 Tryd.underlying48 size5 p (16 + q) (16 - q) (17 - q) m x (by simp [Act.eval, Act.put]) (by simp [Act.eval, Act.put]) C0 57 hg hm hfit C1 hcs ?_)
      refine with_world (R := fun W => Exit.then _ _ _ _ W) (Q := fun W => Pm W p (lim r) (lim s) (lim A) (fill 17 (nat8 (rest ++ x.data.toList.take m))) q ∧ Only [p] w W) _ ⟨hP1, hO1⟩ ?_
      clear hcs hfit hP1 hO1 hg c33 c33d hC1
      rintro w1 ⟨hP1, hO1⟩
      have hsl := fun W => run_slice_l (P := Tryd.prog) W x m hm1 Tryd.underlying9 (by omega)
      obtain ⟨hy1, hy2⟩ := slice_rest hm1
      have HE : Hid ((done ++ x.data.toList.take m) ++ (x.extract m x.size).data.toList = data.data.toList) := by
        show _ = _
        rw [hy1, List.append_assoc, List.take_append_drop]
        exact HDN.out
      revert hsl hy2 HE
      clear hy1
      generalize x.extract m x.size = y
      intro hsl hy2 HE
      have c33 := hP1.full
      have f33 := hP1.frozen 33
      have hP2 := hP1.setN (q + m)
      have hO2 : Only [p] w (w1.setCell ⟨p, 33, none⟩ (.int .i64 ((q + m : Nat) : Int))) := hO1.setCell (by simp) _
      rw [Int.natCast_add] at hP2 hO2
      have HMC : Hid (l ++ (done ++ x.data.toList.take m) = cur ++ x.data.toList.take m) := by show _ = _; rw [← List.append_assoc, hcur]
      clear hcur hP1 hO1
      by_cases h16 : q + m = 16
      · have h16I : (q : Int) + (m : Int) = 16 := by omega
        obtain ⟨a1, a2, a3, a4⟩ := acc_full r cur (x.data.toList.take m) (by omega)
        rw [hrest] at a4
        have hnb := num_block (rest ++ x.data.toList.take m) (by rw [List.length_append]; omega)
        have hsb := set_block (rest ++ x.data.toList.take m) (by rw [List.length_append]; omega)
        rw [List.length_append, hrq, hym, h16, Nat.sub_self, List.replicate_zero, List.append_nil] at hsb
        have hbl : (rest ++ x.data.toList.take m ++ [1]).length = 17 := by rw [List.length_append, List.length_append, hrq, hym, h16]; rfl
        rw [h16I] at hP2 hO2
        have hP2' : Pm (w1.setCell ⟨p, 33, none⟩ (.int .i64 16)) p (lim r) (lim s) (lim A) (fill 17 (nat8 (rest ++ x.data.toList.take m))) 16 := by rw [← h16]; exact hP2
        have hend := endBlock_any hP2' (by omega) hr hA1 _ hbl hsb hnb
        have HF : Hid (∀ W X, X < 1361129467683753853853498429727072845824 → X % Pp = (A + numL (rest ++ x.data.toList.take m ++ [1])) * r % Pp → Pm W p (lim r) (lim s) (lim X) (List.replicate 17 0) 0 → Mac W p r s (l ++ (done ++ x.data.toList.take m))) := fun W X h1 h2 h3 => by
          rw [HMC.out]
          refine ⟨X, h1, ?_, ?_⟩
          · rw [h2, a4, step_mod A _ r _ hA2]
          · rw [a3, a2]
            exact h3
        clear hP2 hP2' a1 a2 a3 a4 hnb hsb hbl hA2
        go_wp2_with (go_at_call 23; refine hend.mono ?_; rintro e w3 ⟨rfl, ⟨X, hX1, hX2, hX3⟩, hO3⟩)
        have hMf := HF.out w3 X hX1 hX2 hX3
        have hOf := hO2.trans hO3
        clear HF hX1 hX2 hX3 hend hO2 hO3
        go_roundg y.size
        case measure => have := HX.out; omega
        case rel => exact ⟨y, done ++ x.data.toList.take m, rfl, rfl, HE.out, hMf, hOf⟩
      · have h16I : ¬ (q : Int) + (m : Int) = 16 := by omega
        obtain ⟨a1, a2, a3, a4⟩ := acc_some r cur (x.data.toList.take m) (by omega)
        have hMf : Mac (w1.setCell ⟨p, 33, none⟩ (.int .i64 ((q : Int) + (m : Int)))) p r s (l ++ (done ++ x.data.toList.take m)) := by
          rw [HMC.out]
          refine ⟨A, hA1, by rw [a4, hA2], ?_⟩
          rw [a3, a2, hrest, hq, hym]
          exact hP2
        clear hP2 a1 a2 a3 a4 hA2
        go_wp2
        go_roundg y.size
        case measure => have := HX.out; omega
        case rel => exact ⟨y, done ++ x.data.toList.take m, rfl, rfl, HE.out, hMf, hO2⟩
    · have hposI : ¬ (0 : Int) < (x.size : Int) := by omega
      have hx0 : x.data.toList = [] := List.eq_nil_of_length_eq_zero (by rw [← size_eq]; omega)
      have HD : Hid (l ++ data.data.toList = l ++ done) := by show _ = _; rw [← HDN.out, hx0, List.append_nil]
      clear hx0
      go_wp2
      go_end0
      rw [HD.out]
      exact ⟨rfl, hM, hO⟩

end Go.Proofs.YtggfeppphhigdabDoor
