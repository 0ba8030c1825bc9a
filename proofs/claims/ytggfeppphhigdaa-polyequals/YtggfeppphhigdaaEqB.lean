import Derived.Test.YtggfeppphhigdaaEqA
import Derived.Deep.Cut
namespace Go.Proofs.Ytggfeppphhigdaa
open Go.RowKit Go.Lib Go.Deep

theorem beq_no (a b : ByteArray) (h : a.data.toList ≠ b.data.toList) : (a.toList == b.toList) = false := by
  rw [toList_data, toList_data]
  exact beq_eq_false_iff_ne.2 h
theorem data_append (a b : ByteArray) : (a ++ b).data.toList = a.data.toList ++ b.data.toList := by
  have : (a ++ b).data = a.data ++ b.data := by simp
  rw [this, Array.toList_append]
theorem xor_ne (x m : UInt8) (hm : m ≠ 0) : x ^^^ m ≠ x := by
  intro h
  apply hm
  apply UInt8.toNat_inj.1
  have h1 := congrArg UInt8.toNat h
  rw [UInt8.toNat_xor] at h1
  have h2 : x.toNat ^^^ (x.toNat ^^^ m.toNat) = m.toNat := by rw [← Nat.xor_assoc, Nat.xor_self, Nat.zero_xor]
  rw [h1, Nat.xor_self] at h2
  exact h2.symm

set_option maxRecDepth 20000 in
set_option maxHeartbeats 2000000 in
theorem polyEquals_walk (a b : ByteArray) (at0 by0 : Int) (ha : a.size ≤ 140737488351232) (hb : b.size ≤ 140737488351232) (w : World) :
    Calls Try.prog 3 #[.string a, .string b, .int .i64 at0, .int .i64 by0] w fun e w' => e = .returned (.bool true) ∧ Below w.heap.size w w' := by
  have hal : a.data.toList.length = a.size := (size_eq a).symm
  have hz0 : (a ++ ({ data := #[0] } : ByteArray)).size = a.size + 1 := by rw [size_eq, data_append, List.length_append, hal]; rfl
  have k1 := fun W => equal_any a b (by omega) (by omega) W
  have k2 := fun W => equal_any a a (by omega) (by omega) W
  have k3 := fun W => equal_any { data := #[] } { data := #[] } (by decide) (by decide) W
  have k4 := fun W => equal_any a (a ++ ({ data := #[0] } : ByteArray)) (by omega) (by omega) W
  rw [show (a.toList == a.toList) = true from beq_self_eq_true _] at k2
  rw [show (({ data := #[] } : ByteArray).toList == ({ data := #[] } : ByteArray).toList) = true from beq_self_eq_true _] at k3
  rw [beq_no a _ (by rw [data_append]; intro h; have := congrArg List.length h; rw [List.length_append] at this; simp at this)] at k4
  have hadd0 : a.size + 1 ≤ 9223372036854775807 := by omega
  have hz1 : ({ data := #[0] } : ByteArray).size = 1 := rfl
  generalize hya : a ++ ({ data := #[0] } : ByteArray) = ya at *
  by_cases h0 : a.size = 0
  · have he : a.toList.isEmpty = true := by rw [toList_data, List.isEmpty_iff]; exact List.eq_nil_of_length_eq_zero (by omega)
    go_enter Try.func3, Try.ntmps3
    go_wp2_with fail
    refine (k1 w).mono ?_
    rintro e w1 ⟨rfl, hb1⟩
    go_wp2_with fail
    refine (k2 w1).mono ?_
    rintro e w2 ⟨rfl, hb2'⟩
    have hb2 := hb1.trans (hb2'.mono hb1.size)
    clear hb2' hb1 k1 k2
    go_wp2_with fail
    refine (k3 w2).mono ?_
    rintro e w3 ⟨rfl, hb3'⟩
    have hb3 := hb2.trans (hb3'.mono hb2.size)
    clear hb3' hb2 k3
    go_wp2_with fail
    refine (k4 w3).mono ?_
    rintro e w4 ⟨rfl, hb4'⟩
    have hb4 := hb3.trans (hb4'.mono hb3.size)
    clear hb4' hb3 k4
    go_wp2
    go_ret
    exact ⟨rfl, hb4⟩
  · have he : a.toList.isEmpty = false := by
      rw [toList_data, List.isEmpty_eq_false_iff]
      intro h
      rw [h] at hal
      exact h0 hal.symm
    have hpos : (0 : Int) < (a.size : Int) := by omega
    have hne : ¬ (a.size : Int) = 0 := by omega
    have hq1 : at0.tmod (a.size : Int) < (a.size : Int) := Int.tmod_lt_of_pos at0 hpos
    have hq2 : -(a.size : Int) < at0.tmod (a.size : Int) := by
      have h := Int.tmod_lt_of_pos (-at0) hpos
      rw [Int.neg_tmod] at h
      omega
    have hr1 : by0.tmod 255 < 255 := Int.tmod_lt_of_pos by0 (by omega)
    have hr2 : -255 < by0.tmod 255 := by
      have h := Int.tmod_lt_of_pos (-by0) (show (0 : Int) < 255 by omega)
      rw [Int.neg_tmod] at h
      omega
    generalize hq : at0.tmod (a.size : Int) = q at *
    generalize hr : by0.tmod 255 = r at *
    obtain ⟨i, hi⟩ : ∃ i : Nat, (q + (a.size : Int)) % (a.size : Int) = (i : Int) := ⟨((q + (a.size : Int)) % (a.size : Int)).toNat, (Int.toNat_of_nonneg (Int.emod_nonneg _ hne)).symm⟩
    have hit : (q + (a.size : Int)).tmod (a.size : Int) = (i : Int) := by rw [Int.tmod_eq_emod_of_nonneg (by omega)]; exact hi
    have hil : i < a.size := by
      have := Int.emod_lt_of_pos (q + (a.size : Int)) hpos
      omega
    obtain ⟨c, hc⟩ : ∃ c : Nat, (r + 255) % 255 = (c : Int) := ⟨((r + 255) % 255).toNat, by omega⟩
    have hct : (r + 255).tmod 255 = (c : Int) := by rw [Int.tmod_eq_emod_of_nonneg (by omega)]; exact hc
    have hcl : c < 255 := by omega
    have hwq : IntKind.i64.wrap (q + (a.size : Int)) = q + (a.size : Int) := by rw [IntKind.wrap_i64]; omega
    have hwq2 : wrap64 (q + (a.size : Int)) = q + (a.size : Int) := by unfold wrap64; omega
    have hcv0 : (1 + (c : Int)) % 256 = ((c + 1 : Nat) : Int) := by omega
    have hcv1 : IntKind.u8.wrap (1 + (c : Int)) = ((c + 1 : Nat) : Int) := by rw [IntKind.wrap_u8]; omega
    obtain ⟨x, hx⟩ : ∃ x, a.data.toList[i]? = some x := ⟨_, List.getElem?_eq_getElem (by omega)⟩
    have hix := fun W => rindex_at (P := Try.prog) W 9 a .i64 (i : Int) i x Try.underlying9 rfl hx
    have hm0 : UInt8.ofNat (c + 1) ≠ 0 := by
      intro h
      have := congrArg UInt8.toNat h
      rw [UInt8.toNat_ofNat'] at this
      simp at this
      omega
    have hmn : (UInt8.ofNat (c + 1)).toNat = c + 1 := by rw [UInt8.toNat_ofNat']; omega
    have hxor : bits .xor .u8 (x.toNat : Int) ((c : Int) + 1) = ((x ^^^ UInt8.ofNat (c + 1)).toNat : Int) := by
      have h := u8_xor_nat x.toNat (c + 1) x.toNat_lt (by omega)
      rw [show x.toNat ^^^ (c + 1) = (x ^^^ UInt8.ofNat (c + 1)).toNat by rw [UInt8.toNat_xor, hmn]] at h
      exact h
    have hxne := xor_ne x _ hm0
    generalize x ^^^ UInt8.ofNat (c + 1) = xo at *
    have hs1 : ∀ W : World, (Instr.slice 9 (.string a) none (some (.int .i64 (i : Int))) none).run Try.prog W = .ok (.string (str (a.data.toList.take i))) W := fun W => by
      have h := run_slice_string_h (P := Try.prog) W 9 a Try.underlying9 .i64 (i : Int) (by omega) (by omega)
      rw [← str_of (a.extract _ _), Int.toNat_natCast] at h
      have e : (a.extract 0 i).data.toList = a.data.toList.take i := by simp [List.extract]
      rw [e] at h
      exact h
    have hdrop : ∀ m, (a.extract m a.size).data.toList = a.data.toList.drop m := fun m => by
      have h1 : (a.extract m a.size).data = a.data.extract m a.size := by simp
      rw [h1, Array.toList_extract]
      simp only [List.extract]
      rw [List.take_of_length_le]
      rw [List.length_drop, hal]
      exact Nat.le_refl _
    have hs2 : ∀ W : World, (Instr.slice 9 (.string a) (some (.int .i64 ((i : Int) + 1))) none none).run Try.prog W = .ok (.string (str (a.data.toList.drop (i + 1)))) W := fun W => by
      have h := run_slice_string_l (P := Try.prog) W 9 a Try.underlying9 .i64 ((i : Int) + 1) (by omega) (by omega)
      rw [← str_of (a.extract _ _), show ((i : Int) + 1).toNat = i + 1 by omega, hdrop] at h
      exact h
    have hs3 : ∀ W : World, (Instr.slice 9 (.string a) none (some (.int .i64 ((a.size : Int) - 1))) none).run Try.prog W = .ok (.string (str (a.data.toList.take (a.size - 1)))) W := fun W => by
      have h := run_slice_string_h (P := Try.prog) W 9 a Try.underlying9 .i64 ((a.size : Int) - 1) (by omega) (by omega)
      rw [← str_of (a.extract _ _), show ((a.size : Int) - 1).toNat = a.size - 1 by omega] at h
      have e : (a.extract 0 (a.size - 1)).data.toList = a.data.toList.take (a.size - 1) := by
        have h1 : (a.extract 0 (a.size - 1)).data = a.data.extract 0 (a.size - 1) := ByteArray.data_extract
        rw [h1, Array.toList_extract]
        simp only [List.extract, List.drop_zero, Nat.sub_zero]
      rw [e] at h
      exact h
    have hs4 : ∀ W : World, (Instr.slice 9 (.string a) (some (.int .i64 1)) none none).run Try.prog W = .ok (.string (str (a.data.toList.drop 1))) W := fun W => by
      have h := run_slice_string_l (P := Try.prog) W 9 a Try.underlying9 .i64 1 (by omega) (by omega)
      rw [← str_of (a.extract _ _), show (1 : Int).toNat = 1 from rfl, hdrop] at h
      exact h
    have hcv : ∀ W : World, (convert 23 9 (.slice (some ⟨W.heap.size, 0, none⟩) 1 1)).run Try.prog (W.alloc (.cells #[.int .u8 (xo.toNat : Int)] 5)).drew = .ok (.string (str [xo])) (W.alloc (.cells #[.int .u8 (xo.toNat : Int)] 5)).drew := fun W =>
      run_convert_bytes_back (P := Try.prog) _ 23 9 5 ⟨W.heap.size, 0, none⟩ 1 [xo] Try.underlying23 Try.underlying5 Try.underlying9 (fun j hj => by
        obtain rfl : j = 0 := by simpa using hj
        rw [Addr.add_lit, Nat.zero_add]
        exact (cell_of_heap (heap_new W (.cells #[.int .u8 (xo.toNat : Int)] 5))).trans rfl)
    have hc1 : str (a.data.toList.take i) ++ str [xo] = str (a.data.toList.take i ++ [xo]) := by apply ByteArray.ext; simp [str]
    have hc2 : str (a.data.toList.take i ++ [xo]) ++ str (a.data.toList.drop (i + 1)) = str (a.data.toList.take i ++ [xo] ++ a.data.toList.drop (i + 1)) := by apply ByteArray.ext; simp [str]
    have hn1 : (str (a.data.toList.take i)).size = i := by rw [str_size, List.length_take]; omega
    have hn2 : (str [xo]).size = 1 := by rw [str_size]; rfl
    have hn3 : (str (a.data.toList.take i ++ [xo])).size = i + 1 := by rw [str_size, List.length_append, List.length_take]; simp; omega
    have hn4 : (str (a.data.toList.drop (i + 1))).size = a.size - (i + 1) := by rw [str_size, List.length_drop, hal]
    have hnc : (str (a.data.toList.take i ++ [xo] ++ a.data.toList.drop (i + 1))).size = a.size := by rw [str_size, List.length_append, List.length_append, List.length_take, List.length_drop, hal]; simp; omega
    have hcne : a.data.toList ≠ a.data.toList.take i ++ [xo] ++ a.data.toList.drop (i + 1) := by
      intro h
      have h1 := congrArg (fun l => l[i]?) h
      simp only [hx, List.append_assoc] at h1
      rw [List.getElem?_append_right (by rw [List.length_take]; omega), List.length_take, Nat.min_eq_left (by omega), Nat.sub_self] at h1
      simp at h1
      exact hxne h1.symm
    have m1 := fun W => equal_any a (str (a.data.toList.take i ++ [xo] ++ a.data.toList.drop (i + 1))) (by omega) (by omega) W
    have m2 := fun W => equal_any (str (a.data.toList.take i ++ [xo] ++ a.data.toList.drop (i + 1))) a (by omega) (by omega) W
    have m3 := fun W => equal_any a (str (a.data.toList.take (a.size - 1))) (by omega) (by rw [str_size, List.length_take]; omega) W
    have m4 := fun W => equal_any (str (a.data.toList.drop 1)) a (by rw [str_size, List.length_drop]; omega) (by omega) W
    rw [beq_no _ _ (by rw [str_data]; exact hcne)] at m1
    rw [beq_no _ _ (by rw [str_data]; exact Ne.symm hcne)] at m2
    rw [beq_no _ _ (by rw [str_data]; intro h; have := congrArg List.length h; rw [List.length_take] at this; omega)] at m3
    rw [beq_no _ _ (by rw [str_data]; intro h; have := congrArg List.length h; rw [List.length_drop] at this; omega)] at m4
    clear hcne hdrop hx hm0 hmn hxne hi hc
    have hx8 := x.toNat_lt
    have ho8 := xo.toNat_lt
    revert hix hxor hcv hc1 hc2 hn1 hn2 hn3 hn4 hnc m1 m2 m3 m4 hs1 hs2 hs3 hs4 hx8 ho8
    generalize str (a.data.toList.take i ++ [xo] ++ a.data.toList.drop (i + 1)) = yc
    generalize str (a.data.toList.take i ++ [xo]) = y3
    generalize str (a.data.toList.take i) = y1
    generalize str [xo] = y2
    generalize str (a.data.toList.drop (i + 1)) = y4
    generalize str (a.data.toList.take (a.size - 1)) = y5
    generalize str (a.data.toList.drop 1) = y6
    generalize xo.toNat = on
    generalize x.toNat = xn
    intro hix hxor hs1 hs2 hs3 hs4 hcv hc1 hc2 hn1 hn2 hn3 hn4 hnc m1 m2 m3 m4 hx8 ho8
    go_enter Try.func3, Try.ntmps3
    go_wp2_with fail
    refine (k1 w).mono ?_
    rintro e w1 ⟨rfl, hb1⟩
    go_wp2_with fail
    refine (k2 w1).mono ?_
    rintro e w2 ⟨rfl, hb2'⟩
    have hb2 := hb1.trans (hb2'.mono hb1.size)
    clear hb2' hb1 k1 k2
    go_wp2_with fail
    refine (k3 w2).mono ?_
    rintro e w3 ⟨rfl, hb3'⟩
    have hb3 := hb2.trans (hb3'.mono hb2.size)
    clear hb3' hb2 k3
    go_wp2_with fail
    refine (k4 w3).mono ?_
    rintro e w4 ⟨rfl, hb4'⟩
    have hb4 := hb3.trans (hb4'.mono hb3.size)
    clear hb4' hb3 k4
    go_upto_region 7 with fail
    go_region
    refine with_world (R := fun W => Exit.then _ _ _ _ W) (Q := fun W => Below w.heap.size w W) _ (hb4.alloc hb4.size _).drew ?_
    clear hb4 hcv hix hxor hs1 hs2 hc1 hc2 hn1 hn2 hn3 hn4
    intro w5 hb5
    go_wp2_with fail
    refine (m1 w5).mono ?_
    rintro e w6 ⟨rfl, hb6'⟩
    have hb6 := hb5.trans (hb6'.mono hb5.size)
    clear hb6' hb5 m1
    go_wp2_with fail
    refine (m2 w6).mono ?_
    rintro e w7 ⟨rfl, hb7'⟩
    have hb7 := hb6.trans (hb7'.mono hb6.size)
    clear hb7' hb6 m2
    go_wp2_with fail
    refine (m3 w7).mono ?_
    rintro e w8 ⟨rfl, hb8'⟩
    have hb8 := hb7.trans (hb8'.mono hb7.size)
    clear hb8' hb7 m3
    go_wp2_with fail
    refine (m4 w8).mono ?_
    rintro e w9 ⟨rfl, hb9'⟩
    have hb9 := hb8.trans (hb9'.mono hb8.size)
    clear hb9' hb8 m4
    go_wp2
    go_ret
    exact ⟨rfl, hb9⟩

end Go.Proofs.Ytggfeppphhigdaa
