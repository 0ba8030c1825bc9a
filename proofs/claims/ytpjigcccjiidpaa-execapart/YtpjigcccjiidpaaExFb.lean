import Derived.Test.YtpjigcccjiidpaaExF
namespace Go.Proofs.Ytpjigcccjiidpaa.Ex
open Go.RowKit Go.Lib Go.Deep

theorem take_rev {E : List Ef} {k : Nat} {x : Ef} (h : E[k]? = some x) : (E.take (k + 1)).reverse = x :: (E.take k).reverse := by
  rw [List.take_add_one, h]
  simp
set_option maxRecDepth 20000 in
set_option maxHeartbeats 2000000 in
theorem byteAt_any (s : List UInt8) (E : List Ef) (w : World) (a1 : Option Addr) (n c1 : Nat) (hS : See w 7 (.slice a1 n c1) n (efsC E)) (hl : E.length = n) (hn : n ≤ 1000) (_hs : s.length ≤ 9223372036854775807) (hE : ∀ e ∈ E, (e.kd = 3 ∨ e.kd = 4) ∧ (0 ≤ e.at_ ∧ e.at_ ≤ 200) ∧ (0 ≤ e.n ∧ e.n ≤ 200) ∧ e.da.length ≤ 60) (i : Nat) (hi : i ≤ 1000) :
    Calls Try.prog 15 #[.string (str s), .slice a1 n c1, .int .i64 (i : Int)] w fun e w' => e = .returned (.int .u8 ((bya s E.reverse i).toNat : Int)) ∧ Below w.heap.size w w' := by
  obtain ⟨Z, hZ⟩ : ∃ Z, bya s E.reverse i = Z := ⟨_, rfl⟩
  rw [hZ]
  have HZ : Hid (bya s (E.take n).reverse i = Z) := by rw [← hl, List.take_length]; exact hZ
  have HS : Hid (See w 7 (.slice a1 n c1) n (efsC E)) := hS
  have HE : Hid _ := hE
  have HL : Hid _ := hl
  have w0 : IntKind.i64.wrap ((n : Int) - 1) = (n : Int) - 1 := by rw [IntKind.wrap_i64]; omega
  clear hS hE hl hZ
  go_enter Try.func15, Try.ntmps15
  go_wp2_with fail
  go_loopg [7] n (fun gk iv wr => ∃ k : Int, iv = .int .i64 k ∧ k = (gk : Int) - 1 ∧ gk ≤ n ∧ Hid (bya s (E.take gk).reverse i = Z) ∧ Hid (Below w.heap.size w wr))
  case atStart => exact ⟨_, rfl, rfl, Nat.le_refl _, HZ.out, Below.refl _ _⟩
  case round =>
    obtain ⟨k', rfl, hk', hgn, HZ2, HW⟩ := hrel
    clear HZ w0
    by_cases h0 : gk = 0
    · subst h0
      obtain rfl : k' = -1 := by omega
      have hz := HZ2.out
      rw [List.take_zero, List.reverse_nil, bya] at hz
      clear HZ2 hk' hgn HS HE HL
      by_cases hlt : i < s.length
      · have hltI : (i : Int) < ((str s).size : Int) := by rw [str_size]; omega
        rw [List.getElem?_eq_getElem hlt] at hz
        have hix := index_at (P := Try.prog) wr 9 (str s) .i64 i Z Try.underlying9 (by rw [str_data, List.getElem?_eq_getElem hlt, ← hz]; rfl)
        generalize str s = S at *
        clear hz hlt
        go_wp2
        go_ret
        exact ⟨rfl, HW.out⟩
      · have hltI : ¬ (i : Int) < ((str s).size : Int) := by rw [str_size]; omega
        rw [List.getElem?_eq_none (by omega)] at hz
        subst hz
        generalize str s = S at *
        clear hlt
        go_wp2
        go_ret
        exact ⟨rfl, HW.out⟩
    · obtain ⟨k, rfl⟩ : ∃ k, gk = k + 1 := ⟨gk - 1, by omega⟩
      obtain rfl : k' = (k : Int) := by omega
      obtain ⟨x, hx⟩ : ∃ x, E[k]? = some x := ⟨_, List.getElem?_eq_getElem (by have := HL.out; omega)⟩
      obtain ⟨hkd, ha, hnn, hd⟩ := HE.out x (List.mem_of_getElem? hx)
      obtain ⟨g1, o1, rfl, r0, r1, r2, r3, r4, r5, r6⟩ := (HS.out.below HW.out).ef hx
      have hz := HZ2.out
      rw [take_rev hx, bya] at hz
      obtain ⟨kd, fl, gn, at_, en, da, ez⟩ := x
      dsimp only at *
      obtain ⟨U, hU, hbU, kU⟩ := one_new wr #[.int .i64 kd, .int .i64 fl, .int .i64 gn, .int .i64 at_, .int .i64 en, .string (str da), .int .i64 ez] 26
      obtain ⟨u0, -, -, u3, u4, u5, -⟩ := cells7 kU
      have HU : Hid (Below w.heap.size w U) := HW.out.trans (hbU.mono HW.out.size)
      have hltI : (k : Int) < (n : Int) := by omega
      have hge : 0 ≤ (k : Int) := by omega
      have wk : IntKind.i64.wrap ((k : Int) - 1) = (k : Int) - 1 := by rw [IntKind.wrap_i64]; omega
      have e1 : (str da).size = da.length := str_size da
      clear HZ2 HW hbU kU hk' h0 hx
      rcases hkd with rfl | rfl
      · by_cases h1 : at_ ≤ (i : Int)
        · obtain ⟨q, hq⟩ : ∃ q, at_ + (da.length : Int) = q := ⟨_, rfl⟩
          have w1 : IntKind.i64.wrap (at_ + ((str da).size : Int)) = q := by rw [IntKind.wrap_i64, e1]; omega
          rw [hq] at hz
          by_cases h2 : (i : Int) < q
          · rw [if_pos ⟨rfl, h1, h2⟩] at hz
            obtain ⟨j, hj⟩ : ∃ j : Nat, (i : Int) - at_ = j := ⟨((i : Int) - at_).toNat, by omega⟩
            rw [hj, Int.toNat_natCast] at hz
            have hjl : j < da.length := by omega
            have w2 : IntKind.i64.wrap ((i : Int) - at_) = (j : Int) := by rw [IntKind.wrap_i64]; omega
            have hix := index_at (P := Try.prog) U 9 (str da) .i64 j Z Try.underlying9 (by rw [str_data, List.getElem?_eq_getElem hjl]; rw [List.getElem?_eq_getElem hjl] at hz; rw [← hz]; rfl)
            clear hz hq hjl hj e1 hd
            generalize str da = D at *
            go_wp2
            go_ret
            exact ⟨rfl, HU.out⟩
          · rw [if_neg (fun x => h2 x.2.2), if_neg (by simp)] at hz
            have HP : Hid _ := hz
            clear hz hq e1 hd
            generalize str da = D at *
            go_wp2
            go_roundg k
            case measure => omega
            case rel => exact ⟨_, rfl, rfl, by omega, HP.out, HU.out⟩
        · rw [if_neg (fun x => h1 x.2.1), if_neg (by simp)] at hz
          have HP : Hid _ := hz
          clear hz e1 hd
          generalize str da = D at *
          go_wp2
          go_roundg k
          case measure => omega
          case rel => exact ⟨_, rfl, rfl, by omega, HP.out, HU.out⟩
      · rw [if_neg (by simp)] at hz
        by_cases h1 : en ≤ (i : Int)
        · rw [if_pos ⟨rfl, h1⟩] at hz
          subst hz
          clear e1 hd
          generalize str da = D at *
          go_wp2
          go_ret
          exact ⟨rfl, HU.out⟩
        · rw [if_neg (fun x => h1 x.2)] at hz
          have HP : Hid _ := hz
          clear hz e1 hd
          generalize str da = D at *
          go_wp2
          go_roundg k
          case measure => omega
          case rel => exact ⟨_, rfl, rfl, by omega, HP.out, HU.out⟩
end Go.Proofs.Ytpjigcccjiidpaa.Ex
