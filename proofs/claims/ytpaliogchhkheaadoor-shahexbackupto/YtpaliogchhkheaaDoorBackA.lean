import Derived.Test.YtpaliogchhkheaaDoorHexC
import Derived.Test.YtpaliogchhkheaaDoorShaN
namespace Go.Proofs.YtpaliogchhkheaaDoor
open Go.RowKit Go.Lib Go.Deep

theorem num_any (n : Int) (w : World) : Calls Tryd.prog 12 #[.int .i64 n] w fun e w' => e = .returned (.int .i64 n) ∧ w = w' := by
  go_enter Tryd.func12, Tryd.ntmps12
  go_wp2
  go_ret
  exact ⟨rfl, rfl⟩

theorem unOK_hex (l : List UInt8) : unOK (hexL l) = true := by
  have h1 : (hexL l).all isDig = true := List.all_eq_true.2 (hexL_isDig l)
  simp [unOK, h1, hexL_length]
theorem unS_hexS (s : ByteArray) : unS (hexS s) = s := by
  unfold unS hexS
  rw [str_data, unOK_hex, unL_hexL, str_of]
  rfl
theorem unE_hexS (s : ByteArray) : unE (hexS s) = 0 := by
  unfold unE hexS
  rw [str_data, unOK_hex]
  rfl
theorem hexS_size (s : ByteArray) : (hexS s).size = 2 * s.size := by
  unfold hexS
  rw [str_size, hexL_length]
  simp
theorem unhex_back (s : ByteArray) (w : World) (hs : s.size ≤ 4194304) :
    Calls Tryd.prog 11 #[.string (hexS s)] w fun e w' => e = .returned (.tuple #[.string s, .int .i64 0]) ∧ Below w.heap.size w w' := by
  refine (unhex_any (hexS s) w (by rw [hexS_size]; omega)).mono ?_
  rintro e w' ⟨rfl, hb⟩
  rw [unS_hexS, unE_hexS]
  exact ⟨rfl, hb⟩

/-- a text that Unhex refuses -/
theorem unhex_no (s : ByteArray) (w : World) (hs : s.size ≤ 16777216) (h : unOK s.data.toList = false) :
    Calls Tryd.prog 11 #[.string s] w fun e w' => e = .returned (.tuple #[.string ByteArray.empty, .int .i64 20]) ∧ Below w.heap.size w w' := by
  refine (unhex_any s w hs).mono ?_
  rintro e w' ⟨rfl, hb⟩
  unfold unS unE
  rw [h]
  exact ⟨rfl, hb⟩
theorem unhex_yes (s : ByteArray) (w : World) (hs : s.size ≤ 16777216) (h : unOK s.data.toList = true) :
    Calls Tryd.prog 11 #[.string s] w fun e w' => e = .returned (.tuple #[.string (str (unL s.data.toList)), .int .i64 0]) ∧ Below w.heap.size w w' := by
  refine (unhex_any s w hs).mono ?_
  rintro e w' ⟨rfl, hb⟩
  unfold unS unE
  rw [h]
  exact ⟨rfl, hb⟩
theorem hex_unL (s : ByteArray) (h : unOK s.data.toList = true) : hexS (str (unL s.data.toList)) = s := by
  simp only [unOK, Bool.and_eq_true, decide_eq_true_eq, List.all_eq_true] at h
  unfold hexS
  rw [str_data, hexL_unL _ h.1 h.2, str_of]

theorem no_capital (l : List UInt8) : unOK (l ++ [65, 48]) = false := by
  have : (l ++ [65, 48]).all isDig = false := List.all_eq_false.2 ⟨65, by simp, by decide⟩
  simp only [unOK, this, Bool.and_false]
theorem no_odd (l : List UInt8) (h : l.length % 2 = 0) : unOK (l ++ [48]) = false := by
  have : ¬ (l ++ [48]).length % 2 = 0 := by rw [List.length_append]; simp only [List.length_cons, List.length_nil]; omega
  simp only [unOK, this, decide_false, Bool.false_and]

theorem add_data (a b : ByteArray) : (a ++ b).data.toList = a.data.toList ++ b.data.toList := by simp
theorem add_size (a b : ByteArray) : (a ++ b).size = a.size + b.size := by simp

set_option maxRecDepth 20000 in
set_option maxHeartbeats 2000000 in
theorem hexBack_walk (s : ByteArray) (w : World) (hs : s.size ≤ 2097152) (ht : Tabs w) (h4 : 4 ≤ w.heap.size) :
    Calls Tryd.prog 4 #[.string s] w fun e w' => e = .returned (.bool true) ∧ Below w.heap.size w w' := by
  have hhx := fun W => hex_any s W (by omega)
  have hbk := fun W => unhex_back s W (by omega)
  have hsz := hexS_size s
  have HD : Hid (∀ c ∈ (hexS s).data.toList, isDig c = true) := by
    show ∀ c ∈ (hexS s).data.toList, isDig c = true
    unfold hexS
    rw [str_data]
    exact hexL_isDig _
  have HC : Hid (unOK ((hexS s).data.toList ++ [65, 48]) = false ∧ unOK ((hexS s).data.toList ++ [48]) = false) :=
    ⟨no_capital _, no_odd _ (by rw [← size_eq, hsz]; omega)⟩
  revert hhx hbk hsz HD HC
  generalize hexS s = h
  intro hhx hbk hsz HD HC
  have hszI : (h.size : Int) = 2 * (s.size : Int) := by omega
  have a1 : ∀ W : World, (Op.stringOp .add h { data := #[65, 48] }).run Tryd.prog W = .ok (.string (h ++ { data := #[65, 48] })) W := fun W => run_string_add_sum W h _ (by show h.size + 2 ≤ _; omega)
  have a2 : ∀ W : World, (Op.stringOp .add h { data := #[48] }).run Tryd.prog W = .ok (.string (h ++ { data := #[48] })) W := fun W => run_string_add_sum W h _ (by show h.size + 1 ≤ _; omega)
  have hn1 := fun W => unhex_no (h ++ { data := #[65, 48] }) W (by rw [add_size]; show h.size + 2 ≤ _; omega) (by rw [add_data]; exact HC.out.1)
  have hn2 := fun W => unhex_no (h ++ { data := #[48] }) W (by rw [add_size]; show h.size + 1 ≤ _; omega) (by rw [add_data]; exact HC.out.2)
  obtain ⟨x1, hx1⟩ : ∃ x, h ++ { data := #[65, 48] } = x := ⟨_, rfl⟩
  obtain ⟨x2, hx2⟩ : ∃ x, h ++ { data := #[48] } = x := ⟨_, rfl⟩
  rw [hx1] at a1 hn1
  rw [hx2] at a2 hn2
  have HX : Hid (x1 ≠ x2 ∨ True) := Or.inr trivial
  clear hx1 hx2 HC HX
  go_enter Tryd.func4, Tryd.ntmps4
  go_wp2_with (go_at_call 9; refine (hhx _).mono ?_; rintro e w1 ⟨rfl, hb1⟩)
  refine (hbk w1).mono ?_
  rintro e w2 ⟨rfl, hb2'⟩
  have hb2 : Below w.heap.size w w2 := hb1.trans (hb2'.mono hb1.size)
  clear hb2' hb1
  go_wp2_with (go_at_call 12; refine (num_any _ _).mono ?_; rintro e w' ⟨rfl, rfl⟩)
  have z2 := hb2.size
  go_loopg [6] (2 * s.size) (fun gk i wr => ∃ k : Nat, k + gk = 2 * s.size ∧ i = .int .i64 k ∧ w2 = wr)
  case atStart => exact ⟨0, by omega, rfl, rfl⟩
  case round =>
    obtain ⟨k, hk, rfl, rfl⟩ := hrel
    have HK : Hid (k + gk = 2 * s.size) := hk
    have hk' : k ≤ 2 * s.size := by omega
    clear hk
    by_cases hlt : k < 2 * s.size
    · have hltI : (k : Int) < 2 * (s.size : Int) := by omega
      obtain ⟨c, hc⟩ : ∃ c, h.data.toList[k]? = some c := ⟨_, List.getElem?_eq_getElem (by rw [← size_eq]; omega)⟩
      have hix := fun W => index_at (P := Tryd.prog) W 9 h .i64 k c Tryd.underlying9 hc
      have hd := HD.out c (List.mem_of_getElem? hc)
      simp only [isDig, decide_eq_true_eq] at hd
      have hn := c.toNat_lt
      rcases hd with hd | hd
      · have t1 : (48 : Int) ≤ (c.toNat : Int) := by omega
        have t2 : (c.toNat : Int) ≤ 57 := by omega
        clear hd
        go_wp2
        go_roundg (gk - 1)
        case measure => have := HK.out; omega
        case rel => exact ⟨k + 1, by have := HK.out; omega, by go_num, rfl⟩
      · have t1 : (48 : Int) ≤ (c.toNat : Int) := by omega
        have t2 : ¬ (c.toNat : Int) ≤ 57 := by omega
        have t3 : (97 : Int) ≤ (c.toNat : Int) := by omega
        have t4 : (c.toNat : Int) ≤ 102 := by omega
        clear hd
        go_wp2
        go_roundg (gk - 1)
        case measure => have := HK.out; omega
        case rel => exact ⟨k + 1, by have := HK.out; omega, by go_num, rfl⟩
    · have hltI : ¬ (k : Int) < 2 * (s.size : Int) := by omega
      by_cases hu : unOK s.data.toList = true
      · have hux := fun W => unhex_yes s W (by omega) hu
        have hxx : ∀ W : World, Calls Tryd.prog 9 #[.string (str (unL s.data.toList))] W fun e w' => e = .returned (.string s) ∧ Below W.heap.size W w' := fun W => by
          refine (hex_any (str (unL s.data.toList)) W (by rw [str_size, unL_length, ← size_eq]; omega)).mono ?_
          rintro e w' ⟨rfl, hb⟩
          rw [hex_unL s hu]
          exact ⟨rfl, hb⟩
        revert hux hxx
        generalize str (unL s.data.toList) = u
        intro hux hxx
        go_wp2_with (first | (go_at_call 12; refine (num_any _ _).mono ?_; rintro e w' ⟨rfl, rfl⟩) | (go_at_call_of 11 s; refine (hux _).mono ?_; rintro e w3 ⟨rfl, hb3'⟩))
        have hb3 : Below w.heap.size w w3 := hb2.trans (hb3'.mono z2)
        clear hb3'
        go_wp2_with (first | (go_at_call 12; refine (num_any _ _).mono ?_; rintro e w' ⟨rfl, rfl⟩) | (go_at_call 9; refine (hxx _).mono ?_; rintro e w4 ⟨rfl, hb4'⟩))
        have hb4 : Below w.heap.size w w4 := hb3.trans (hb4'.mono hb3.size)
        clear hb4'
        go_wp2_with (first | (go_at_call 12; refine (num_any _ _).mono ?_; rintro e w' ⟨rfl, rfl⟩) | (go_at_call_of 11 x1; refine (hn1 _).mono ?_; rintro e w5 ⟨rfl, hb5'⟩))
        have hb5 : Below w.heap.size w w5 := hb4.trans (hb5'.mono hb4.size)
        clear hb5'
        go_wp2_with (first | (go_at_call 12; refine (num_any _ _).mono ?_; rintro e w' ⟨rfl, rfl⟩) | (go_at_call_of 11 x2; refine (hn2 _).mono ?_; rintro e w6 ⟨rfl, hb6'⟩))
        have hb6 : Below w.heap.size w w6 := hb5.trans (hb6'.mono hb5.size)
        clear hb6'
        have z6 := hb6.size
        go_wp2_with (first | (go_at_call 12; refine (num_any _ _).mono ?_; rintro e w' ⟨rfl, rfl⟩) | (go_at_call 8; refine (known_any w6 (ht.below hb6 (by omega)) (by omega)).mono ?_; rintro e w7 ⟨rfl, hb7⟩))
        go_ret
        exact ⟨rfl, hb6.trans (hb7.mono z6)⟩
      · have hu' : unOK s.data.toList = false := by simpa using hu
        have hux := fun W => unhex_no s W (by omega) hu'
        go_wp2_with (first | (go_at_call 12; refine (num_any _ _).mono ?_; rintro e w' ⟨rfl, rfl⟩) | (go_at_call_of 11 s; refine (hux _).mono ?_; rintro e w3 ⟨rfl, hb3'⟩))
        have hb3 : Below w.heap.size w w3 := hb2.trans (hb3'.mono z2)
        clear hb3'
        go_wp2_with (first | (go_at_call 12; refine (num_any _ _).mono ?_; rintro e w' ⟨rfl, rfl⟩) | (go_at_call_of 11 x1; refine (hn1 _).mono ?_; rintro e w5 ⟨rfl, hb5'⟩))
        have hb5 : Below w.heap.size w w5 := hb3.trans (hb5'.mono hb3.size)
        clear hb5'
        go_wp2_with (first | (go_at_call 12; refine (num_any _ _).mono ?_; rintro e w' ⟨rfl, rfl⟩) | (go_at_call_of 11 x2; refine (hn2 _).mono ?_; rintro e w6 ⟨rfl, hb6'⟩))
        have hb6 : Below w.heap.size w w6 := hb5.trans (hb6'.mono hb5.size)
        clear hb6'
        have z6 := hb6.size
        go_wp2_with (first | (go_at_call 12; refine (num_any _ _).mono ?_; rintro e w' ⟨rfl, rfl⟩) | (go_at_call 8; refine (known_any w6 (ht.below hb6 (by omega)) (by omega)).mono ?_; rintro e w7 ⟨rfl, hb7⟩))
        go_ret
        exact ⟨rfl, hb6.trans (hb7.mono z6)⟩

end Go.Proofs.YtpaliogchhkheaaDoor
