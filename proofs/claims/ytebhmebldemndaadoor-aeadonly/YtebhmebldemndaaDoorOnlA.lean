import Derived.Test.YtebhmebldemndaaDoorAe6S
import Derived.Test.YtebhmebldemndaaDoorAe6O
import Derived.Test.YtebhmebldemndaaDoorAeC
import Derived.Test.YtebhmebldemndaaDoorSz6B
namespace Go.Proofs.YtebhmebldemndaaDoor.Ae
open Go.RowKit Go.Lib Go.Deep

theorem openE_wrong {key nonce aad box : ByteArray} (h1 : key.size = 32) (h2 : nonce.size = 12 ∨ nonce.size = 24) (h3 : aad.size ≤ 1048576) (h4 : 16 ≤ box.size) (h5 : box.size ≤ 1048592) (h : right key.data.toList nonce.data.toList aad.data.toList box.data.toList = false) : openE key nonce aad box = 61 ∧ openY key nonce aad box = { data := #[] } := by
  have e : openE key nonce aad box = 61 := by
    unfold openE
    rw [askN_ok h1 h2, if_neg (by simp), if_neg (by omega), if_neg (by omega), h, if_neg (by simp)]
  exact ⟨e, by unfold openY; rw [e, if_neg (by decide)]⟩
theorem openE_right {key nonce aad box : ByteArray} (h1 : key.size = 32) (h2 : nonce.size = 12 ∨ nonce.size = 24) (h3 : aad.size ≤ 1048576) (h4 : 16 ≤ box.size) (h5 : box.size ≤ 1048592) (h : right key.data.toList nonce.data.toList aad.data.toList box.data.toList = true) : openE key nonce aad box = 0 ∧ openY key nonce aad box = str (openL key.data.toList nonce.data.toList box.data.toList) := by
  have e : openE key nonce aad box = 0 := by
    unfold openE
    rw [askN_ok h1 h2, if_neg (by simp), if_neg (by omega), if_neg (by omega), h, if_pos rfl]
  exact ⟨e, by unfold openY; rw [e, if_pos rfl]⟩
/-- another tag behind the same text is not right -/
theorem right_tag (key nonce aad plain t : List UInt8) (ht : t.length = 16) : right key nonce aad (Cha.overL (keyL key nonce) 1 (nonL nonce) plain ++ t) = (tagA (keyL key nonce) (nonL nonce) aad (Cha.overL (keyL key nonce) 1 (nonL nonce) plain) == t) := by
  have h : (Cha.overL (keyL key nonce) 1 (nonL nonce) plain ++ t).length - 16 = (Cha.overL (keyL key nonce) 1 (nonL nonce) plain).length := by rw [List.length_append, ht]; omega
  unfold right
  rw [h, List.take_left' rfl, List.drop_left' rfl]

/-- what the second half asks: a box, opened and sealed again -/
theorem only_box (hS : SealC) (hO : OpenC) (yk yn aad box : ByteArray) (sk : yk.size = 32) (sn : yn.size = 12 ∨ yn.size = 24) (ha : aad.size ≤ 100000) (hb : box.size ≤ 100000) :
    (∃ g : Int, (g = 61 ∨ g = 60 ∧ box.size < 16) ∧ ∀ W, ATabs W → Calls Tryd.prog 13 #[.string yk, .string yn, .string aad, .string box] W fun e w' => e = .returned (.tuple #[.string { data := #[] }, .int .i64 g]) ∧ Below W.heap.size W w') ∨
    (∃ q : ByteArray, (∀ W, ATabs W → Calls Tryd.prog 13 #[.string yk, .string yn, .string aad, .string box] W fun e w' => e = .returned (.tuple #[.string q, .int .i64 0]) ∧ Below W.heap.size W w') ∧
      ∀ W, ATabs W → Calls Tryd.prog 12 #[.string yk, .string yn, .string aad, .string q] W fun e w' => e = .returned (.tuple #[.string box, .int .i64 0]) ∧ Below W.heap.size W w') := by
  have ho := fun W k => hO yk yn aad box W (by omega) (by omega) (by omega) (by omega) k
  by_cases h16 : box.size < 16
  · rw [(openE_short sk sn (by omega) h16).1, (openE_short sk sn (by omega) h16).2] at ho
    exact .inl ⟨60, .inr ⟨rfl, h16⟩, ho⟩
  · cases hr : right yk.data.toList yn.data.toList aad.data.toList box.data.toList with
    | false =>
      rw [(openE_wrong sk sn (by omega) (by omega) (by omega) hr).1, (openE_wrong sk sn (by omega) (by omega) (by omega) hr).2] at ho
      exact .inl ⟨61, .inl rfl, ho⟩
    | true =>
      rw [(openE_right sk sn (by omega) (by omega) (by omega) hr).1, (openE_right sk sn (by omega) (by omega) (by omega) hr).2] at ho
      refine .inr ⟨_, ho, fun W k => ?_⟩
      have hl : (openL yk.data.toList yn.data.toList box.data.toList).length ≤ 100000 := by
        unfold openL
        rw [Cha.overL_length, List.length_take, ← size_eq]
        omega
      have hs := hS yk yn aad (str (openL yk.data.toList yn.data.toList box.data.toList)) W (by omega) (by omega) (by omega) (by rw [str_size]; omega) k
      rw [(sealE_yes sk sn (by omega) (by rw [str_size]; omega)).1, (sealE_yes sk sn (by omega) (by rw [str_size]; omega)).2, str_data, seal_open (by rw [← size_eq]; omega) hr, str_of] at hs
      exact hs

set_option maxRecDepth 20000 in
set_option maxHeartbeats 4000000 in
theorem aeadOnly_walk (hS : SealC) (hO : OpenC) (key nonce : ByteArray) (long : Bool) (aad box tag : ByteArray) (w : World) (b0 : key.size ≤ 140737488351232) (b1 : nonce.size ≤ 140737488351232) (b2 : aad.size ≤ 140737488351232) (b3 : box.size ≤ 140737488351232) (b4 : tag.size ≤ 140737488351232) (hT : ATabs w) :
    Calls Tryd.prog 6 #[.string key, .string nonce, .bool long, .string aad, .string box, .string tag] w fun e w' => e = .returned (.bool true) ∧ Below w.heap.size w w' := by
  have HTT : Hid (∀ W, Below w.heap.size w W → ATabs W) := fun W h => hT.below h
  have hk := fun W => sized6_any key 32 (by omega) b0 W
  have hn := fun W => nonced_any nonce long b1 W
  have ht := fun W => sized6_any tag 16 (by omega) b4 W
  obtain ⟨yk, hyk⟩ : ∃ y, str (szZ key.data.toList 32) = y := ⟨_, rfl⟩
  obtain ⟨yn, hyn⟩ : ∃ y, str (szZ nonce.data.toList (if long then 24 else 12)) = y := ⟨_, rfl⟩
  obtain ⟨yt, hyt⟩ : ∃ y, str (szZ tag.data.toList 16) = y := ⟨_, rfl⟩
  have sk : yk.size = 32 := by rw [← hyk, str_size, szZ_length]
  have sn : yn.size = 12 ∨ yn.size = 24 := by rw [← hyn, str_size, szZ_length]; cases long <;> simp
  have st : yt.size = 16 := by rw [← hyt, str_size, szZ_length]
  rw [hyk] at hk
  rw [hyn] at hn
  rw [hyt] at ht
  clear hyk hyn hyt hT
  by_cases h1 : 100000 < aad.size
  · have i1 : (100000 : Int) < (aad.size : Int) := by omega
    go_enter Tryd.func6, Tryd.ntmps6
    go_wp2_with fail
    refine (hk w).mono ?_
    rintro e w1 ⟨rfl, hb1⟩
    go_wp2_with fail
    refine (hn w1).mono ?_
    rintro e w2 ⟨rfl, hb2'⟩
    have hb2 := hb1.trans (hb2'.mono hb1.size)
    go_wp2
    go_ret
    exact ⟨rfl, hb2⟩
  have i1 : ¬ (100000 : Int) < (aad.size : Int) := by omega
  by_cases h2 : 100000 < box.size
  · have i2 : (100000 : Int) < (box.size : Int) := by omega
    go_enter Tryd.func6, Tryd.ntmps6
    go_wp2_with fail
    refine (hk w).mono ?_
    rintro e w1 ⟨rfl, hb1⟩
    go_wp2_with fail
    refine (hn w1).mono ?_
    rintro e w2 ⟨rfl, hb2'⟩
    have hb2 := hb1.trans (hb2'.mono hb1.size)
    go_wp2
    go_ret
    exact ⟨rfl, hb2⟩
  have i2 : ¬ (100000 : Int) < (box.size : Int) := by omega
  have hse := fun W k => hS yk yn aad box W (by omega) (by omega) (by omega) (by omega) k
  rw [(sealE_yes sk sn (by omega) (by omega)).1, (sealE_yes sk sn (by omega) (by omega)).2] at hse
  obtain ⟨S, hSS⟩ : ∃ y, str (sealL yk.data.toList yn.data.toList aad.data.toList box.data.toList) = y := ⟨_, rfl⟩
  have hSd : S.data.toList = sealL yk.data.toList yn.data.toList aad.data.toList box.data.toList := by rw [← hSS, str_data]
  have hSz : S.size = box.size + 16 := by rw [size_eq, hSd, sealL_length, ← size_eq]
  have hpl : S.data.toList.length - 16 = box.size := by rw [← size_eq]; omega
  have hC : (S.extract 0 box.size).data.toList = Cha.overL (keyL yk.data.toList yn.data.toList) 1 (nonL yn.data.toList) box.data.toList := by
    rw [extract_data, List.drop_zero, Nat.sub_zero, ← hpl, hSd]
    exact (sealL_parts _ _ _ _).1
  have hTt : (S.extract box.size (box.size + 16)).data.toList = tagA (keyL yk.data.toList yn.data.toList) (nonL yn.data.toList) aad.data.toList (Cha.overL (keyL yk.data.toList yn.data.toList) 1 (nonL yn.data.toList) box.data.toList) := by
    rw [extract_data, List.take_of_length_le (by rw [List.length_drop, ← size_eq]; omega), ← hpl, hSd]
    exact (sealL_parts _ _ _ _).2
  rw [hSS] at hse
  obtain ⟨X, hX⟩ : ∃ X, S.extract 0 box.size ++ yt = X := ⟨_, rfl⟩
  have hXd : X.data.toList = Cha.overL (keyL yk.data.toList yn.data.toList) 1 (nonL yn.data.toList) box.data.toList ++ yt.data.toList := by rw [← hX, ByteArray.data_append, Array.toList_append, hC]
  have hXs : X.size = box.size + 16 := by rw [size_eq, hXd, List.length_append, Cha.overL_length, ← size_eq, ← size_eq, st]
  have hri := right_tag yk.data.toList yn.data.toList aad.data.toList box.data.toList yt.data.toList (by rw [← size_eq]; exact st)
  rw [← hXd] at hri
  obtain ⟨yT, hyT⟩ : ∃ y, S.extract box.size (box.size + 16) = y := ⟨_, rfl⟩
  rw [hyT] at hTt
  rw [← hTt] at hri
  have u1 : yk.size ≤ 140737488355328 := by omega
  have u2 : yn.size ≤ 140737488355328 := by omega
  have u3 : aad.size ≤ 140737488355328 := by omega
  have u4 : X.size ≤ 140737488355328 := by rw [hXs]; omega
  have hoX : ∀ W, ATabs W → Calls Tryd.prog 13 #[.string yk, .string yn, .string aad, .string X] W fun e w' => e = .returned (.tuple #[.string (openY yk yn aad X), .int .i64 (openE yk yn aad X)]) ∧ Below W.heap.size W w' := fun W k => hO yk yn aad X W u1 u2 u3 u4 k
  obtain ⟨f, p, hop, hfp⟩ : ∃ (f : Int) (p : ByteArray), (∀ W, ATabs W → Calls Tryd.prog 13 #[.string yk, .string yn, .string aad, .string X] W fun e w' => e = .returned (.tuple #[.string p, .int .i64 f]) ∧ Below W.heap.size W w') ∧ (yt = yT ∧ f = 0 ∧ p = box ∨ ¬ yt = yT ∧ f = 61 ∧ p = { data := #[] }) := by
    by_cases he : yt = yT
    · have hSX : X.data.toList = sealL yk.data.toList yn.data.toList aad.data.toList box.data.toList := by rw [hXd, he, hTt]; rfl
      rw [(open_seal sk sn (by omega) (by omega) X hSX).1, (open_seal sk sn (by omega) (by omega) X hSX).2] at hoX
      exact ⟨0, box, hoX, .inl ⟨he, rfl, rfl⟩⟩
    · have hne : (yT.data.toList == yt.data.toList) = false := by
        apply beq_eq_false_iff_ne.2
        intro e
        apply he
        rw [← str_of yt, ← str_of yT, e]
      rw [hne] at hri
      rw [(openE_wrong sk sn (by omega) (by omega) (by omega) hri).1, (openE_wrong sk sn (by omega) (by omega) (by omega) hri).2] at hoX
      exact ⟨61, { data := #[] }, hoX, .inr ⟨he, rfl, rfl⟩⟩
  have hszI : (S.size : Int) = (box.size : Int) + 16 := by omega
  have hwz : IntKind.i64.wrap ((box.size : Int) + 16) = (box.size : Int) + 16 := by rw [IntKind.wrap_i64]; omega
  have hes : (S.extract 0 box.size).size = box.size := by simp; omega
  have hadd : (S.extract 0 box.size).size + yt.size ≤ 9223372036854775807 := by omega
  have HBX := only_box hS hO yk yn aad box sk sn (by omega) (by omega)
  clear hSS hSd hS hO hpl hC hXd hXs hri hTt hoX u1 u2 u3 u4
  rcases hfp with ⟨hee, hf0, hp0⟩ | ⟨hee, hf0, hp0⟩
  · rw [hf0, hp0] at hop
    clear hf0 hp0 f p
    subst hee
    rcases HBX with ⟨g, rfl | ⟨rfl, hsh⟩, hob⟩ | ⟨q, hob, hsb⟩
    · go_enter Tryd.func6, Tryd.ntmps6
      go_wp2_with fail
      refine (hk w).mono ?_
      rintro e w1 ⟨rfl, hb1⟩
      go_wp2_with fail
      refine (hn w1).mono ?_
      rintro e w2 ⟨rfl, hb2'⟩
      have hb2 := hb1.trans (hb2'.mono hb1.size)
      have q1 := hse w2 (HTT.out _ hb2)
      clear hb1 hb2'
      go_wp2_with fail
      refine q1.mono ?_
      rintro e w3 ⟨rfl, hb3'⟩
      have hb3 := hb2.trans (hb3'.mono hb2.size)
      clear hb2 hb3' q1
      have q1 := ht w3
      go_wp2_with (first | (go_at_call 11; refine (lnum_any _ _).mono ?_; rintro e w' ⟨rfl, rfl⟩) | (go_at_call 9; fail))
      refine q1.mono ?_
      rintro e w4 ⟨rfl, hb4'⟩
      have hb4 := hb3.trans (hb4'.mono hb3.size)
      clear hb3 hb4' q1
      have q1 := hop w4 (HTT.out _ hb4)
      go_wp2_with fail
      refine q1.mono ?_
      rintro e w5 ⟨rfl, hb5'⟩
      have hb5 := hb4.trans (hb5'.mono hb4.size)
      clear hb4 hb5' q1
      have q1 := hob w5 (HTT.out _ hb5)
      go_wp2_with (first | (go_at_call 11; refine (lnum_any _ _).mono ?_; rintro e w' ⟨rfl, rfl⟩) | (go_at_call 13; fail))
      refine q1.mono ?_
      rintro e w6 ⟨rfl, hb6'⟩
      have hb6 := hb5.trans (hb6'.mono hb5.size)
      clear hb5 hb6' q1
      go_wp2_with (go_at_call 11; refine (lnum_any _ _).mono ?_; rintro e w' ⟨rfl, rfl⟩)
      go_ret
      exact ⟨rfl, hb6⟩
    · have hshI : (box.size : Int) < 16 := by omega
      go_enter Tryd.func6, Tryd.ntmps6
      go_wp2_with fail
      refine (hk w).mono ?_
      rintro e w1 ⟨rfl, hb1⟩
      go_wp2_with fail
      refine (hn w1).mono ?_
      rintro e w2 ⟨rfl, hb2'⟩
      have hb2 := hb1.trans (hb2'.mono hb1.size)
      have q1 := hse w2 (HTT.out _ hb2)
      clear hb1 hb2'
      go_wp2_with fail
      refine q1.mono ?_
      rintro e w3 ⟨rfl, hb3'⟩
      have hb3 := hb2.trans (hb3'.mono hb2.size)
      clear hb2 hb3' q1
      have q1 := ht w3
      go_wp2_with (first | (go_at_call 11; refine (lnum_any _ _).mono ?_; rintro e w' ⟨rfl, rfl⟩) | (go_at_call 9; fail))
      refine q1.mono ?_
      rintro e w4 ⟨rfl, hb4'⟩
      have hb4 := hb3.trans (hb4'.mono hb3.size)
      clear hb3 hb4' q1
      have q1 := hop w4 (HTT.out _ hb4)
      go_wp2_with fail
      refine q1.mono ?_
      rintro e w5 ⟨rfl, hb5'⟩
      have hb5 := hb4.trans (hb5'.mono hb4.size)
      clear hb4 hb5' q1
      have q1 := hob w5 (HTT.out _ hb5)
      go_wp2_with (first | (go_at_call 11; refine (lnum_any _ _).mono ?_; rintro e w' ⟨rfl, rfl⟩) | (go_at_call 13; fail))
      refine q1.mono ?_
      rintro e w6 ⟨rfl, hb6'⟩
      have hb6 := hb5.trans (hb6'.mono hb5.size)
      clear hb5 hb6' q1
      go_wp2_with (go_at_call 11; refine (lnum_any _ _).mono ?_; rintro e w' ⟨rfl, rfl⟩)
      go_ret
      exact ⟨rfl, hb6⟩
    · go_enter Tryd.func6, Tryd.ntmps6
      go_wp2_with fail
      refine (hk w).mono ?_
      rintro e w1 ⟨rfl, hb1⟩
      go_wp2_with fail
      refine (hn w1).mono ?_
      rintro e w2 ⟨rfl, hb2'⟩
      have hb2 := hb1.trans (hb2'.mono hb1.size)
      have q1 := hse w2 (HTT.out _ hb2)
      clear hb1 hb2'
      go_wp2_with fail
      refine q1.mono ?_
      rintro e w3 ⟨rfl, hb3'⟩
      have hb3 := hb2.trans (hb3'.mono hb2.size)
      clear hb2 hb3' q1
      have q1 := ht w3
      go_wp2_with (first | (go_at_call 11; refine (lnum_any _ _).mono ?_; rintro e w' ⟨rfl, rfl⟩) | (go_at_call 9; fail))
      refine q1.mono ?_
      rintro e w4 ⟨rfl, hb4'⟩
      have hb4 := hb3.trans (hb4'.mono hb3.size)
      clear hb3 hb4' q1
      have q1 := hop w4 (HTT.out _ hb4)
      go_wp2_with fail
      refine q1.mono ?_
      rintro e w5 ⟨rfl, hb5'⟩
      have hb5 := hb4.trans (hb5'.mono hb4.size)
      clear hb4 hb5' q1
      have q1 := hob w5 (HTT.out _ hb5)
      go_wp2_with (first | (go_at_call 11; refine (lnum_any _ _).mono ?_; rintro e w' ⟨rfl, rfl⟩) | (go_at_call 13; fail))
      refine q1.mono ?_
      rintro e w6 ⟨rfl, hb6'⟩
      have hb6 := hb5.trans (hb6'.mono hb5.size)
      clear hb5 hb6' q1
      have q1 := hsb w6 (HTT.out _ hb6)
      go_wp2_with (first | (go_at_call 11; refine (lnum_any _ _).mono ?_; rintro e w' ⟨rfl, rfl⟩) | (go_at_call 12; refine q1.mono ?_; rintro e w7 ⟨rfl, hb7⟩))
      go_ret
      exact ⟨rfl, hb6.trans (hb7.mono hb6.size)⟩
  · rw [hf0, hp0] at hop
    clear hf0 hp0 f p
    have hnb : (yt.toList == yT.toList) = false := by
      apply beq_eq_false_iff_ne.2
      intro e
      apply hee
      rw [toList_data, toList_data] at e
      rw [← str_of yt, ← str_of yT, e]
    rcases HBX with ⟨g, rfl | ⟨rfl, hsh⟩, hob⟩ | ⟨q, hob, hsb⟩
    · go_enter Tryd.func6, Tryd.ntmps6
      go_wp2_with fail
      refine (hk w).mono ?_
      rintro e w1 ⟨rfl, hb1⟩
      go_wp2_with fail
      refine (hn w1).mono ?_
      rintro e w2 ⟨rfl, hb2'⟩
      have hb2 := hb1.trans (hb2'.mono hb1.size)
      have q1 := hse w2 (HTT.out _ hb2)
      clear hb1 hb2'
      go_wp2_with fail
      refine q1.mono ?_
      rintro e w3 ⟨rfl, hb3'⟩
      have hb3 := hb2.trans (hb3'.mono hb2.size)
      clear hb2 hb3' q1
      have q1 := ht w3
      go_wp2_with (first | (go_at_call 11; refine (lnum_any _ _).mono ?_; rintro e w' ⟨rfl, rfl⟩) | (go_at_call 9; fail))
      refine q1.mono ?_
      rintro e w4 ⟨rfl, hb4'⟩
      have hb4 := hb3.trans (hb4'.mono hb3.size)
      clear hb3 hb4' q1
      have q1 := hop w4 (HTT.out _ hb4)
      go_wp2_with fail
      refine q1.mono ?_
      rintro e w5 ⟨rfl, hb5'⟩
      have hb5 := hb4.trans (hb5'.mono hb4.size)
      clear hb4 hb5' q1
      have q1 := hob w5 (HTT.out _ hb5)
      go_wp2_with (first | (go_at_call 11; refine (lnum_any _ _).mono ?_; rintro e w' ⟨rfl, rfl⟩) | (go_at_call 13; fail))
      refine q1.mono ?_
      rintro e w6 ⟨rfl, hb6'⟩
      have hb6 := hb5.trans (hb6'.mono hb5.size)
      clear hb5 hb6' q1
      go_wp2_with (go_at_call 11; refine (lnum_any _ _).mono ?_; rintro e w' ⟨rfl, rfl⟩)
      go_ret
      exact ⟨rfl, hb6⟩
    · have hshI : (box.size : Int) < 16 := by omega
      go_enter Tryd.func6, Tryd.ntmps6
      go_wp2_with fail
      refine (hk w).mono ?_
      rintro e w1 ⟨rfl, hb1⟩
      go_wp2_with fail
      refine (hn w1).mono ?_
      rintro e w2 ⟨rfl, hb2'⟩
      have hb2 := hb1.trans (hb2'.mono hb1.size)
      have q1 := hse w2 (HTT.out _ hb2)
      clear hb1 hb2'
      go_wp2_with fail
      refine q1.mono ?_
      rintro e w3 ⟨rfl, hb3'⟩
      have hb3 := hb2.trans (hb3'.mono hb2.size)
      clear hb2 hb3' q1
      have q1 := ht w3
      go_wp2_with (first | (go_at_call 11; refine (lnum_any _ _).mono ?_; rintro e w' ⟨rfl, rfl⟩) | (go_at_call 9; fail))
      refine q1.mono ?_
      rintro e w4 ⟨rfl, hb4'⟩
      have hb4 := hb3.trans (hb4'.mono hb3.size)
      clear hb3 hb4' q1
      have q1 := hop w4 (HTT.out _ hb4)
      go_wp2_with fail
      refine q1.mono ?_
      rintro e w5 ⟨rfl, hb5'⟩
      have hb5 := hb4.trans (hb5'.mono hb4.size)
      clear hb4 hb5' q1
      have q1 := hob w5 (HTT.out _ hb5)
      go_wp2_with (first | (go_at_call 11; refine (lnum_any _ _).mono ?_; rintro e w' ⟨rfl, rfl⟩) | (go_at_call 13; fail))
      refine q1.mono ?_
      rintro e w6 ⟨rfl, hb6'⟩
      have hb6 := hb5.trans (hb6'.mono hb5.size)
      clear hb5 hb6' q1
      go_wp2_with (go_at_call 11; refine (lnum_any _ _).mono ?_; rintro e w' ⟨rfl, rfl⟩)
      go_ret
      exact ⟨rfl, hb6⟩
    · go_enter Tryd.func6, Tryd.ntmps6
      go_wp2_with fail
      refine (hk w).mono ?_
      rintro e w1 ⟨rfl, hb1⟩
      go_wp2_with fail
      refine (hn w1).mono ?_
      rintro e w2 ⟨rfl, hb2'⟩
      have hb2 := hb1.trans (hb2'.mono hb1.size)
      have q1 := hse w2 (HTT.out _ hb2)
      clear hb1 hb2'
      go_wp2_with fail
      refine q1.mono ?_
      rintro e w3 ⟨rfl, hb3'⟩
      have hb3 := hb2.trans (hb3'.mono hb2.size)
      clear hb2 hb3' q1
      have q1 := ht w3
      go_wp2_with (first | (go_at_call 11; refine (lnum_any _ _).mono ?_; rintro e w' ⟨rfl, rfl⟩) | (go_at_call 9; fail))
      refine q1.mono ?_
      rintro e w4 ⟨rfl, hb4'⟩
      have hb4 := hb3.trans (hb4'.mono hb3.size)
      clear hb3 hb4' q1
      have q1 := hop w4 (HTT.out _ hb4)
      go_wp2_with fail
      refine q1.mono ?_
      rintro e w5 ⟨rfl, hb5'⟩
      have hb5 := hb4.trans (hb5'.mono hb4.size)
      clear hb4 hb5' q1
      have q1 := hob w5 (HTT.out _ hb5)
      go_wp2_with (first | (go_at_call 11; refine (lnum_any _ _).mono ?_; rintro e w' ⟨rfl, rfl⟩) | (go_at_call 13; fail))
      refine q1.mono ?_
      rintro e w6 ⟨rfl, hb6'⟩
      have hb6 := hb5.trans (hb6'.mono hb5.size)
      clear hb5 hb6' q1
      have q1 := hsb w6 (HTT.out _ hb6)
      go_wp2_with (first | (go_at_call 11; refine (lnum_any _ _).mono ?_; rintro e w' ⟨rfl, rfl⟩) | (go_at_call 12; refine q1.mono ?_; rintro e w7 ⟨rfl, hb7⟩))
      go_ret
      exact ⟨rfl, hb6.trans (hb7.mono hb6.size)⟩

end Go.Proofs.YtebhmebldemndaaDoor.Ae
