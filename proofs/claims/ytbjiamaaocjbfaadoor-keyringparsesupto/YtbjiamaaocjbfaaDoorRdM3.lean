import Derived.Test.YtbjiamaaocjbfaaDoorRdM2
namespace Go.Proofs.YtbjiamaaocjbfaaDoor.Kp
open Go.RowKit Go.Lib Go.Deep Kr

theorem rd_below {w w' : World} {p : Nat} {T rest : List UInt8} (h : Rd w p T rest) (hb : Below w.heap.size w w') : Rd w' p T rest := by
  obtain ⟨pre, h1, h2⟩ := h
  exact ⟨pre, h1, (hb.block p (Array.getElem?_eq_some_iff.1 h2).1).trans h2⟩
theorem rd_only {w w' : World} {p q : Nat} {T rest : List UInt8} (h : Rd w p T rest) (hb : Only [q] w w') (hne : p ≠ q) : Rd w' p T rest := by
  obtain ⟨pre, h1, h2⟩ := h
  exact ⟨pre, h1, (hb.block p (Array.getElem?_eq_some_iff.1 h2).1 (by simp [hne])).trans h2⟩
theorem rd_len {w : World} {p : Nat} {T rest : List UInt8} (h : Rd w p T rest) : rest.length ≤ T.length ∧ p < w.heap.size := by
  obtain ⟨pre, rfl, h2⟩ := h
  exact ⟨by rw [List.length_append]; omega, (Array.getElem?_eq_some_iff.1 h2).1⟩
theorem word_len {rest wd r : List UInt8} (h : wordR rest = some (wd, r)) : wd.length ≤ rest.length := by
  obtain ⟨rfl, _⟩ := (word_iff _ _ _).1 h
  rw [List.length_append]
  omega

set_option maxRecDepth 20000 in
set_option maxHeartbeats 1000000 in
theorem bytes_any (p : Nat) (T rest : List UInt8) (w : World) (hR : Rd w p T rest) (hT : T.length ≤ 4194304) :
    Calls Tryd.prog 41 #[.pointer (some ⟨p, 0, none⟩)] w (RdPost p T ((bytR rest).map fun x => (.string (str x.1), x.2)) w) := by
  have hwd := word_any p T rest w hR hT
  have hle := (rd_len hR).1
  cases hw : wordR rest with
  | none =>
    have e : bytR rest = none := by unfold bytR; rw [hw]
    rw [hw] at hwd
    rw [e]
    clear hR hw e
    go_enter Tryd.func41, Tryd.ntmps41
    go_wp2_with fail
    refine hwd.mono ?_
    rintro e w1 ⟨ho, rfl⟩
    exact ⟨rfl, RdPost.none ho rfl⟩
  | some x =>
    obtain ⟨wd, r⟩ := x
    have hwl := word_len hw
    have hun := fun W => unhex_any (str wd) W (by rw [str_size]; omega)
    have hbr : bytR rest = if unOK wd = true then some (unL wd, r) else none := by unfold bytR; rw [hw]
    rw [hw] at hwd
    rw [hbr]
    cases hok : unOK wd with
    | false =>
      have e1 : unE (str wd) = 20 := by unfold unE; rw [str_data, hok]; rfl
      rw [if_neg (by decide)]
      show Calls _ _ _ _ (RdPost p T none w)
      revert hwd hun
      rw [e1]
      generalize unS (str wd) = uS
      show Calls _ _ _ _ (RdPost p T (some (.string (str wd), r)) w) → _
      generalize str wd = wS
      intro hwd hun
      clear e1 hok hbr hw hR
      go_enter Tryd.func41, Tryd.ntmps41
      go_wp2_with fail
      refine hwd.mono ?_
      rintro e w1 ⟨ho, rfl, hr1⟩
      have HO : Hid _ := ho
      have HR : Hid _ := hr1
      clear ho hr1 hwd
      go_wp2_with fail
      refine (hun _).mono ?_
      rintro e w2 ⟨rfl, hb2⟩
      have HO2 : Hid _ := only_below HO.out hb2
      clear hun
      go_wp2_with fail
      refine (throw_any 70 _).mono ?_
      rintro e w' ⟨rfl, rfl⟩
      exact ⟨rfl, RdPost.none HO2.out rfl⟩
    | true =>
      have e1 : unE (str wd) = 0 := by unfold unE; rw [str_data, hok]; rfl
      have e2 : unS (str wd) = str (unL wd) := by unfold unS; rw [str_data, hok]; rfl
      rw [if_pos rfl]
      show Calls _ _ _ _ (RdPost p T (some (.string (str (unL wd)), r)) w)
      revert hwd hun
      rw [e1, e2]
      generalize str (unL wd) = uS
      show Calls _ _ _ _ (RdPost p T (some (.string (str wd), r)) w) → _
      generalize str wd = wS
      intro hwd hun
      clear e1 e2 hok hbr hw hR
      go_enter Tryd.func41, Tryd.ntmps41
      go_wp2_with fail
      refine hwd.mono ?_
      rintro e w1 ⟨ho, rfl, hr1⟩
      have HO : Hid _ := ho
      have HR : Hid _ := hr1
      clear ho hr1 hwd
      go_wp2_with fail
      refine (hun _).mono ?_
      rintro e w2 ⟨rfl, hb2⟩
      have HO2 : Hid _ := only_below HO.out hb2
      have HR2 : Hid _ := rd_below HR.out hb2
      clear hun
      go_wp2
      go_ret
      exact RdPost.some HO2.out rfl HR2.out

set_option maxRecDepth 20000 in
set_option maxHeartbeats 1000000 in
theorem done_any (p : Nat) (T pre rest : List UInt8) (w : World) (hT : T = pre ++ rest) (hh : w.heap[p]? = some (.cells #[.string (str T), .int .i64 (pre.length : Int)] 74 (0, 0))) :
    Calls Tryd.prog 45 #[.pointer (some ⟨p, 0, none⟩)] w fun e w' => e = .returned (.string (str pre)) ∧ Below w.heap.size w w' := by
  have x0 : w.cell? ⟨p, 0, none⟩ = some (.string (str T)) := by rw [cell_of_heap hh]; rfl
  have x1 : w.cell? ⟨p, 1, none⟩ = some (.int .i64 (pre.length : Int)) := by rw [cell_of_heap hh]; rfl
  have hst := fun W => Ae.slice_take (P := Tryd.prog) W 9 Tryd.underlying9 T pre.length (by rw [hT, List.length_append]; omega)
  rw [show T.take pre.length = pre by rw [hT, List.take_left]] at hst
  have KW : Hid (∀ n, (w.drewN n).cell? ⟨p, 0, none⟩ = some (.string (str T)) ∧ (w.drewN n).cell? ⟨p, 1, none⟩ = some (.int .i64 (pre.length : Int))) := fun n => ⟨x0, x1⟩
  clear hh hT
  revert x0 hst KW
  generalize str T = tS
  generalize str pre = pS
  intro x0 hst KW
  go_enter Tryd.func45, Tryd.ntmps45
  go_wp2_with fail
  go_region_held_law (fun W => W.cell? ⟨p, 0, none⟩ = some (.string tS) ∧ W.cell? ⟨p, 1, none⟩ = some (.int .i64 (pre.length : Int))) (first | exact KW.out _ | go_keep) (first | fail)
  all_goals
    go_wp2
    go_ret
    exact ⟨rfl, ⟨rfl, rfl, rfl, Nat.le_refl _, fun _ _ => rfl⟩⟩

set_option maxRecDepth 20000 in
set_option maxHeartbeats 1000000 in
theorem end_any (p : Nat) (T rest : List UInt8) (w : World) (hR : Rd w p T rest) :
    Calls Tryd.prog 46 #[.pointer (some ⟨p, 0, none⟩)] w (RdPost p T (if rest = [] then some (.tuple #[], []) else none) w) := by
  obtain ⟨pre, hpre, hh⟩ := hR
  have x0 : w.cell? ⟨p, 0, none⟩ = some (.string (str T)) := by rw [cell_of_heap hh]; rfl
  have x1 : w.cell? ⟨p, 1, none⟩ = some (.int .i64 (pre.length : Int)) := by rw [cell_of_heap hh]; rfl
  have KW : Hid (∀ n, (w.drewN n).cell? ⟨p, 0, none⟩ = some (.string (str T)) ∧ (w.drewN n).cell? ⟨p, 1, none⟩ = some (.int .i64 (pre.length : Int))) := fun n => ⟨x0, x1⟩
  have HR : Hid (Rd w.drew p T rest) := ⟨pre, hpre, hh⟩
  have HO : Hid (Only [p] w w.drew) := only_drew _ _
  have hsz : (str T).size = pre.length + rest.length := by rw [str_size, hpre, List.length_append]
  by_cases hr : rest = []
  · rw [if_pos hr]
    have hne : ((pre.length : Int) != ((str T).size : Int)) = false := by rw [hsz, hr]; simp
    rw [hr] at HR
    clear hh hpre hsz
    revert x0 KW hne
    generalize str T = tS
    intro x0 KW hne
    go_enter Tryd.func46, Tryd.ntmps46
    go_wp2_with fail
    go_region_held_law (fun W => W.cell? ⟨p, 0, none⟩ = some (.string tS) ∧ W.cell? ⟨p, 1, none⟩ = some (.int .i64 (pre.length : Int))) (first | exact KW.out _ | go_keep) (first | fail)
    all_goals
      go_wp2
      go_end0
      exact RdPost.some HO.out rfl HR.out
  · rw [if_neg hr]
    have hne : ((pre.length : Int) != ((str T).size : Int)) = true := by
      have : rest.length ≠ 0 := fun e => hr (List.length_eq_zero_iff.1 e)
      rw [hsz]
      simp
      omega
    clear hh hpre hsz
    revert x0 KW hne
    generalize str T = tS
    intro x0 KW hne
    go_enter Tryd.func46, Tryd.ntmps46
    go_wp2_with fail
    go_region_held_law (fun W => W.cell? ⟨p, 0, none⟩ = some (.string tS) ∧ W.cell? ⟨p, 1, none⟩ = some (.int .i64 (pre.length : Int))) (first | exact KW.out _ | go_keep) (first | fail)
    all_goals
      go_wp2_with fail
      refine (throw_any 70 _).mono ?_
      rintro e w' ⟨rfl, rfl⟩
      exact ⟨rfl, RdPost.none HO.out rfl⟩

end Go.Proofs.YtbjiamaaocjbfaaDoor.Kp

namespace Go.Proofs.YtbjiamaaocjbfaaDoor.Kp
open Go.RowKit Go.Lib Go.Deep Kr

set_option maxRecDepth 20000 in
set_option maxHeartbeats 1000000 in
theorem number_any (p : Nat) (T rest : List UInt8) (w : World) (hR : Rd w p T rest) (hT : T.length ≤ 4194304) :
    Calls Tryd.prog 43 #[.pointer (some ⟨p, 0, none⟩)] w (RdPost p T ((numR rest).map fun x => (.int .i64 (x.1 : Int), x.2)) w) := by
  have hwd := word_any p T rest w hR hT
  have hle := (rd_len hR).1
  cases hw : wordR rest with
  | none =>
    have e : numR rest = none := by unfold numR; rw [hw]
    rw [hw] at hwd
    rw [e]
    clear hR hw e
    go_enter Tryd.func43, Tryd.ntmps43
    go_wp2_with fail
    refine hwd.mono ?_
    rintro e w1 ⟨ho, rfl⟩
    exact ⟨rfl, RdPost.none ho rfl⟩
  | some x =>
    obtain ⟨wd, r⟩ := x
    have hwl := word_len hw
    have hbr : numR rest = if numOK wd = true then some (valL wd, r) else none := by unfold numR; rw [hw]
    rw [hw] at hwd
    rw [hbr]
    by_cases hsh : 1 ≤ wd.length ∧ wd.length ≤ 4 ∧ ¬ (1 < wd.length ∧ wd[0]? = some 48)
    · have hnok : numOK wd = wd.all num1 := by unfold numOK; rw [decide_eq_true hsh, Bool.true_and]
      rw [hnok]
      obtain ⟨o, hoo⟩ : ∃ o, Option.map (fun x : Nat × List UInt8 => (Value.int .i64 (x.1 : Int), x.2)) (if wd.all num1 = true then some (valL wd, r) else none) = o := ⟨_, rfl⟩
      have HP1 : Hid (wd.all num1 = true → o = some (.int .i64 (valL wd : Int), r)) := fun h => by rw [← hoo, if_pos h]; rfl
      have HP0 : Hid (wd.all num1 = false → o = none) := fun h => by rw [← hoo, if_neg (by rw [h]; decide)]; rfl
      rw [hoo]
      clear hoo
      clear hnok hbr hw hR
      obtain ⟨l1, l2, l3⟩ := hsh
      obtain ⟨n, hn⟩ : ∃ n, wd.length = n := ⟨_, rfl⟩
      have hsz : ((str wd).size : Int) = (n : Int) := by rw [str_size, hn]
      have hix := fun (k : Nat) (x : UInt8) (h : wd[k]? = some x) W => index_at' (P := Tryd.prog) W 9 (str wd) .i64 (k : Int) k x Tryd.underlying9 rfl (by rw [str_data]; exact h)
      have HIX : Hid _ := hix
      have h0 : ∃ c, wd[0]? = some c := ⟨_, List.getElem?_eq_getElem (by omega)⟩
      obtain ⟨c0, hc0⟩ := h0
      have hi0 := hix 0 c0 hc0
      rw [show ((0 : Nat) : Int) = 0 from rfl] at hi0
      clear hix
      rw [hn] at l1 l2 l3
      have m1 : ¬ ((n : Int) < 1) := by omega
      have m2 : ¬ ((4 : Int) < (n : Int)) := by omega
      have HV0 : Hid (∀ k x, wd[k]? = some x → num1 x = false → wd.all num1 = false) := fun k x h1 h2 => by
        cases e : wd.all num1 with
        | false => rfl
        | true => rw [List.all_eq_true.1 e x (List.mem_of_getElem? h1)] at h2; cases h2
      have HT : Hid (wd.take n = wd) := by rw [← hn]; exact List.take_length
      have HL : Hid (∀ k, k < n → ∃ x, wd[k]? = some x) := fun k hk => ⟨_, List.getElem?_eq_getElem (by omega)⟩
      have hwd2 : Calls Tryd.prog 61 #[.pointer (some ⟨p, 0, none⟩)] w (RdPost p T (some (.string (str wd), r)) w) := hwd
      clear hwd
      generalize str wd = wS at hwd2 hsz HIX hi0
      by_cases h1 : 1 < n
      · have m3 : (1 : Int) < (n : Int) := by omega
        have hne : ((c0.toNat : Int) == 48) = false := beq_eq_false_iff_ne.2 (fun e => l3 ⟨h1, by rw [hc0]; congr 1; exact UInt8.toNat_inj.1 (show c0.toNat = 48 by omega)⟩)
        clear hc0 l3
        go_enter Tryd.func43, Tryd.ntmps43
        go_wp2_with fail
        refine hwd2.mono ?_
        rintro e w1 ⟨ho, rfl, hr1⟩
        have HO : Hid _ := ho
        have HR : Hid _ := hr1
        clear ho hr1 hwd2
        go_wp2_with fail
        go_loopg [4, 5, 29] n (fun gk v _ i wr => ∃ (k a : Nat), k + gk = n ∧ i = .int .i64 (k : Int) ∧ a + 1 ≤ 10 ^ k ∧ Hid (a = valL (wd.take k) ∧ (wd.take k).all num1 = true) ∧ v = .int .i64 (a : Int) ∧ wr = w1)
        case atStart => exact ⟨0, 0, by omega, rfl, by simp, ⟨by simp [valL], by simp⟩, rfl, rfl⟩
        case round =>
          obtain ⟨k, a, hk, rfl, ha, HV, rfl, rfl⟩ := hrel
          have HK : Hid (k + gk = n) := hk
          have hk' : k ≤ n := by omega
          clear hk
          have hk4 : 10 ^ k ≤ 10 ^ 4 := Nat.pow_le_pow_right (by omega) (by omega)
          have HA : Hid (a + 1 ≤ 10 ^ k) := ha
          have ha4 : a ≤ 10000 := Nat.le_trans (Nat.le_succ a) (Nat.le_trans ha hk4)
          clear hk4 ha
          by_cases hlt : k < n
          · have hltI : (k : Int) < (n : Int) := by omega
            obtain ⟨x, hx⟩ := HL.out k hlt
            have hix := HIX.out k x hx
            have hxlt := x.toNat_lt
            by_cases hd : num1 x = true
            · have h1 := of_decide_eq_true hd
              have j1 : ¬ (x.toNat : Int) < 48 := by omega
              have j2 : ¬ (57 : Int) < (x.toNat : Int) := by omega
              have HV2 : Hid (10 * a + (x.toNat - 48) = valL (wd.take (k + 1)) ∧ (wd.take (k + 1)).all num1 = true) := by
                refine ⟨by rw [List.take_add_one, hx]; show _ = valL (_ ++ [x]); rw [valL_snoc, ← HV.out.1], ?_⟩
                rw [List.take_add_one, hx, List.all_append, HV.out.2]
                simp [hd]
              clear hx hd
              have HX : Hid (x.toNat - 48 ≤ 9) := by show _ ≤ _; omega
              generalize x.toNat = xn at hix j1 j2 HV2 h1 HX
              have w0 : IntKind.u8.wrap ((xn : Int) - 48) = (xn : Int) - 48 := by rw [IntKind.wrap_u8]; omega
              have w1 : IntKind.i64.wrap (10 * (a : Int)) = 10 * (a : Int) := by rw [IntKind.wrap_i64]; omega
              have w2 : IntKind.i64.wrap (10 * (a : Int) + ((xn : Int) - 48)) = 10 * (a : Int) + ((xn : Int) - 48) := by rw [IntKind.wrap_i64]; omega
              go_wp2
              go_roundg (gk - 1)
              case measure => have := HK.out; omega
              case rel => exact ⟨k + 1, 10 * a + (xn - 48), by have := HK.out; omega, by go_num, by have := HA.out; have := HX.out; rw [Nat.pow_succ]; omega, HV2, by first | rfl | (rw [show ((10 * a + (xn - 48) : Nat) : Int) = 10 * (a : Int) + ((xn : Int) - 48) by omega]), rfl⟩
            · have hd' : num1 x = false := by simpa using hd
              have e0 := HP0.out (HV0.out k x hx hd')
              have h1 : ¬ (48 ≤ x.toNat ∧ x.toNat ≤ 57) := fun h => hd (decide_eq_true h)
              clear hx hd hd'
              by_cases j1 : (x.toNat : Int) < 48
              · generalize x.toNat = xn at hix j1 h1
                go_wp2_with fail
                refine (throw_any 70 _).mono ?_
                rintro e w' ⟨rfl, rfl⟩
                exact ⟨rfl, RdPost.none HO.out rfl⟩
              · have j2 : (57 : Int) < (x.toNat : Int) := by omega
                generalize x.toNat = xn at hix j1 j2 h1
                go_wp2_with fail
                refine (throw_any 70 _).mono ?_
                rintro e w' ⟨rfl, rfl⟩
                exact ⟨rfl, RdPost.none HO.out rfl⟩
          · have hnlt : ¬ ((k : Int) < (n : Int)) := by omega
            obtain rfl : k = n := by omega
            have e1 := HP1.out (by have := HV.out.2; rw [HT.out] at this; exact this)
            rw [← HT.out, ← HV.out.1] at e1
            go_wp2
            go_ret
            exact RdPost.some HO.out rfl HR.out
      · have m3 : ¬ (1 : Int) < (n : Int) := by omega
        clear hc0 l3 hi0
        go_enter Tryd.func43, Tryd.ntmps43
        go_wp2_with fail
        refine hwd2.mono ?_
        rintro e w1 ⟨ho, rfl, hr1⟩
        have HO : Hid _ := ho
        have HR : Hid _ := hr1
        clear ho hr1 hwd2
        go_wp2_with fail
        go_loopg [4, 5, 29] n (fun gk v _ i wr => ∃ (k a : Nat), k + gk = n ∧ i = .int .i64 (k : Int) ∧ a + 1 ≤ 10 ^ k ∧ Hid (a = valL (wd.take k) ∧ (wd.take k).all num1 = true) ∧ v = .int .i64 (a : Int) ∧ wr = w1)
        case atStart => exact ⟨0, 0, by omega, rfl, by simp, ⟨by simp [valL], by simp⟩, rfl, rfl⟩
        case round =>
          obtain ⟨k, a, hk, rfl, ha, HV, rfl, rfl⟩ := hrel
          have HK : Hid (k + gk = n) := hk
          have hk' : k ≤ n := by omega
          clear hk
          have hk4 : 10 ^ k ≤ 10 ^ 4 := Nat.pow_le_pow_right (by omega) (by omega)
          have HA : Hid (a + 1 ≤ 10 ^ k) := ha
          have ha4 : a ≤ 10000 := Nat.le_trans (Nat.le_succ a) (Nat.le_trans ha hk4)
          clear hk4 ha
          by_cases hlt : k < n
          · have hltI : (k : Int) < (n : Int) := by omega
            obtain ⟨x, hx⟩ := HL.out k hlt
            have hix := HIX.out k x hx
            have hxlt := x.toNat_lt
            by_cases hd : num1 x = true
            · have h1 := of_decide_eq_true hd
              have j1 : ¬ (x.toNat : Int) < 48 := by omega
              have j2 : ¬ (57 : Int) < (x.toNat : Int) := by omega
              have HV2 : Hid (10 * a + (x.toNat - 48) = valL (wd.take (k + 1)) ∧ (wd.take (k + 1)).all num1 = true) := by
                refine ⟨by rw [List.take_add_one, hx]; show _ = valL (_ ++ [x]); rw [valL_snoc, ← HV.out.1], ?_⟩
                rw [List.take_add_one, hx, List.all_append, HV.out.2]
                simp [hd]
              clear hx hd
              have HX : Hid (x.toNat - 48 ≤ 9) := by show _ ≤ _; omega
              generalize x.toNat = xn at hix j1 j2 HV2 h1 HX
              have w0 : IntKind.u8.wrap ((xn : Int) - 48) = (xn : Int) - 48 := by rw [IntKind.wrap_u8]; omega
              have w1 : IntKind.i64.wrap (10 * (a : Int)) = 10 * (a : Int) := by rw [IntKind.wrap_i64]; omega
              have w2 : IntKind.i64.wrap (10 * (a : Int) + ((xn : Int) - 48)) = 10 * (a : Int) + ((xn : Int) - 48) := by rw [IntKind.wrap_i64]; omega
              go_wp2
              go_roundg (gk - 1)
              case measure => have := HK.out; omega
              case rel => exact ⟨k + 1, 10 * a + (xn - 48), by have := HK.out; omega, by go_num, by have := HA.out; have := HX.out; rw [Nat.pow_succ]; omega, HV2, by first | rfl | (rw [show ((10 * a + (xn - 48) : Nat) : Int) = 10 * (a : Int) + ((xn : Int) - 48) by omega]), rfl⟩
            · have hd' : num1 x = false := by simpa using hd
              have e0 := HP0.out (HV0.out k x hx hd')
              have h1 : ¬ (48 ≤ x.toNat ∧ x.toNat ≤ 57) := fun h => hd (decide_eq_true h)
              clear hx hd hd'
              by_cases j1 : (x.toNat : Int) < 48
              · generalize x.toNat = xn at hix j1 h1
                go_wp2_with fail
                refine (throw_any 70 _).mono ?_
                rintro e w' ⟨rfl, rfl⟩
                exact ⟨rfl, RdPost.none HO.out rfl⟩
              · have j2 : (57 : Int) < (x.toNat : Int) := by omega
                generalize x.toNat = xn at hix j1 j2 h1
                go_wp2_with fail
                refine (throw_any 70 _).mono ?_
                rintro e w' ⟨rfl, rfl⟩
                exact ⟨rfl, RdPost.none HO.out rfl⟩
          · have hnlt : ¬ ((k : Int) < (n : Int)) := by omega
            obtain rfl : k = n := by omega
            have e1 := HP1.out (by have := HV.out.2; rw [HT.out] at this; exact this)
            rw [← HT.out, ← HV.out.1] at e1
            go_wp2
            go_ret
            exact RdPost.some HO.out rfl HR.out
    · have hnok : numOK wd = false := by unfold numOK; rw [decide_eq_false hsh, Bool.false_and]
      rw [hnok, if_neg (by decide)]
      show Calls _ _ _ _ (RdPost p T none w)
      clear hnok hbr hw hR
      have hsz : ((str wd).size : Int) = (wd.length : Int) := by rw [str_size]
      have hwd2 : Calls Tryd.prog 61 #[.pointer (some ⟨p, 0, none⟩)] w (RdPost p T (some (.string (str wd), r)) w) := hwd
      clear hwd
      have HIX : Hid (∀ W : World, wd[0]? = some 48 → (Instr.index 9 (.string (str wd)) (.int .i64 0)).run Tryd.prog W = .ok (.int .u8 48) W) := fun W h => index_at' (P := Tryd.prog) W 9 (str wd) .i64 0 0 48 Tryd.underlying9 rfl (by rw [str_data]; exact h)
      by_cases m1 : (wd.length : Int) < 1
      · clear HIX
        generalize str wd = wS at hwd2 hsz
        go_enter Tryd.func43, Tryd.ntmps43
        go_wp2_with fail
        refine hwd2.mono ?_
        rintro e w1 ⟨ho, rfl, hr1⟩
        have HO : Hid _ := ho
        clear ho hr1 hwd2
        go_wp2_with fail
        refine (throw_any 70 _).mono ?_
        rintro e w' ⟨rfl, rfl⟩
        exact ⟨rfl, RdPost.none HO.out rfl⟩
      · by_cases m2 : (4 : Int) < (wd.length : Int)
        · clear HIX
          generalize str wd = wS at hwd2 hsz
          go_enter Tryd.func43, Tryd.ntmps43
          go_wp2_with fail
          refine hwd2.mono ?_
          rintro e w1 ⟨ho, rfl, hr1⟩
          have HO : Hid _ := ho
          clear ho hr1 hwd2
          go_wp2_with fail
          refine (throw_any 70 _).mono ?_
          rintro e w' ⟨rfl, rfl⟩
          exact ⟨rfl, RdPost.none HO.out rfl⟩
        · have hz : 1 < wd.length ∧ wd[0]? = some 48 := by
            by_cases h : 1 < wd.length ∧ wd[0]? = some 48
            · exact h
            · exact absurd ⟨by omega, by omega, h⟩ hsh
          have m3 : (1 : Int) < (wd.length : Int) := by omega
          have hi0 := fun W => HIX.out W hz.2
          clear HIX hz
          generalize str wd = wS at hwd2 hsz hi0
          go_enter Tryd.func43, Tryd.ntmps43
          go_wp2_with fail
          refine hwd2.mono ?_
          rintro e w1 ⟨ho, rfl, hr1⟩
          have HO : Hid _ := ho
          clear ho hr1 hwd2
          go_wp2_with fail
          refine (throw_any 70 _).mono ?_
          rintro e w' ⟨rfl, rfl⟩
          exact ⟨rfl, RdPost.none HO.out rfl⟩

set_option maxRecDepth 20000 in
set_option maxHeartbeats 1000000 in
theorem fieldS_any (ahead behind : ByteArray) (p : Nat) (T rest : List UInt8) (w : World) (hR : Rd w p T rest) (hT : T.length ≤ 4194304) :
    Calls Tryd.prog 40 #[.pointer (some ⟨p, 0, none⟩), .string ahead, .func (.func 41) #[.pointer (some ⟨p, 0, none⟩)] #[], .string behind] w
      (RdPost p T ((fieldR ahead.data.toList bytR behind.data.toList rest).map fun x => (.string (str x.1), x.2)) w) := by
  have hf0 := fixed_any ahead p T rest w hR hT
  cases e0 : fixR ahead.data.toList rest with
  | none =>
    have e : fieldR ahead.data.toList bytR behind.data.toList rest = none := by unfold fieldR; rw [e0]
    rw [e0] at hf0
    rw [e]
    clear e e0
    go_enter Tryd.func40, Tryd.ntmps40
    go_wp2_with fail
    refine hf0.mono ?_
    rintro e w1 ⟨ho, rfl⟩
    exact ⟨rfl, RdPost.none ho rfl⟩
  | some r0 =>
    rw [e0] at hf0
    cases e1 : bytR r0 with
    | none =>
      have e : fieldR ahead.data.toList bytR behind.data.toList rest = none := by unfold fieldR; rw [e0]; simp only [e1]
      rw [e]
      clear e e0
      go_enter Tryd.func40, Tryd.ntmps40
      go_wp2_with fail
      refine hf0.mono ?_
      rintro e w1 ⟨ho, rfl, hr1⟩
      have hb1 := bytes_any p T r0 w1 hr1 hT
      rw [e1] at hb1
      have HO : Hid _ := ho
      clear ho hr1 e1
      go_wp2_with fail
      refine hb1.mono ?_
      rintro e w2 ⟨ho2, rfl⟩
      exact ⟨rfl, RdPost.none (HO.out.trans ho2) rfl⟩
    | some x =>
      obtain ⟨v, r1⟩ := x
      cases e2 : fixR behind.data.toList r1 with
      | none =>
        have e : fieldR ahead.data.toList bytR behind.data.toList rest = none := by unfold fieldR; rw [e0]; simp only [e1, e2]
        rw [e]
        clear e e0
        go_enter Tryd.func40, Tryd.ntmps40
        go_wp2_with fail
        refine hf0.mono ?_
        rintro e w1 ⟨ho, rfl, hr1⟩
        have hb1 := bytes_any p T r0 w1 hr1 hT
        rw [e1] at hb1
        have HO : Hid _ := ho
        clear ho hr1 e1
        go_wp2_with fail
        refine hb1.mono ?_
        rintro e w2 ⟨ho2, rfl, hr2⟩
        have hf2 := fixed_any behind p T r1 w2 hr2 hT
        rw [e2] at hf2
        have HO2 : Hid _ := HO.out.trans ho2
        clear ho2 hr2 e2 HO
        generalize str v = vS
        go_wp2_with fail
        refine hf2.mono ?_
        rintro e w3 ⟨ho3, rfl⟩
        exact ⟨rfl, RdPost.none (HO2.out.trans ho3) rfl⟩
      | some r2 =>
        have e : fieldR ahead.data.toList bytR behind.data.toList rest = some (v, r2) := by unfold fieldR; rw [e0]; simp only [e1, e2]
        rw [e]
        show Calls _ _ _ _ (RdPost p T (some (.string (str v), r2)) w)
        clear e e0
        go_enter Tryd.func40, Tryd.ntmps40
        go_wp2_with fail
        refine hf0.mono ?_
        rintro e w1 ⟨ho, rfl, hr1⟩
        have hb1 := bytes_any p T r0 w1 hr1 hT
        rw [e1] at hb1
        have HO : Hid _ := ho
        clear ho hr1 e1
        go_wp2_with fail
        refine hb1.mono ?_
        rintro e w2 ⟨ho2, rfl, hr2⟩
        have hf2 := fixed_any behind p T r1 w2 hr2 hT
        rw [e2] at hf2
        have HO2 : Hid _ := HO.out.trans ho2
        clear ho2 hr2 e2 HO
        go_wp2_with fail
        refine hf2.mono ?_
        rintro e w3 ⟨ho3, rfl, hr3⟩
        have HO3 : Hid _ := HO2.out.trans ho3
        have HR3 : Hid _ := hr3
        clear ho3 hr3
        go_wp2
        go_ret
        exact RdPost.some HO3.out rfl HR3.out

set_option maxRecDepth 20000 in
set_option maxHeartbeats 1000000 in
theorem fieldI_any (ahead behind : ByteArray) (p : Nat) (T rest : List UInt8) (w : World) (hR : Rd w p T rest) (hT : T.length ≤ 4194304) :
    Calls Tryd.prog 42 #[.pointer (some ⟨p, 0, none⟩), .string ahead, .func (.func 43) #[.pointer (some ⟨p, 0, none⟩)] #[], .string behind] w
      (RdPost p T ((fieldR ahead.data.toList numR behind.data.toList rest).map fun x => (.int .i64 (x.1 : Int), x.2)) w) := by
  have hf0 := fixed_any ahead p T rest w hR hT
  cases e0 : fixR ahead.data.toList rest with
  | none =>
    have e : fieldR ahead.data.toList numR behind.data.toList rest = none := by unfold fieldR; rw [e0]
    rw [e0] at hf0
    rw [e]
    clear e e0
    go_enter Tryd.func42, Tryd.ntmps42
    go_wp2_with fail
    refine hf0.mono ?_
    rintro e w1 ⟨ho, rfl⟩
    exact ⟨rfl, RdPost.none ho rfl⟩
  | some r0 =>
    rw [e0] at hf0
    cases e1 : numR r0 with
    | none =>
      have e : fieldR ahead.data.toList numR behind.data.toList rest = none := by unfold fieldR; rw [e0]; simp only [e1]
      rw [e]
      clear e e0
      go_enter Tryd.func42, Tryd.ntmps42
      go_wp2_with fail
      refine hf0.mono ?_
      rintro e w1 ⟨ho, rfl, hr1⟩
      have hb1 := number_any p T r0 w1 hr1 hT
      rw [e1] at hb1
      have HO : Hid _ := ho
      clear ho hr1 e1
      go_wp2_with fail
      refine hb1.mono ?_
      rintro e w2 ⟨ho2, rfl⟩
      exact ⟨rfl, RdPost.none (HO.out.trans ho2) rfl⟩
    | some x =>
      obtain ⟨v, r1⟩ := x
      cases e2 : fixR behind.data.toList r1 with
      | none =>
        have e : fieldR ahead.data.toList numR behind.data.toList rest = none := by unfold fieldR; rw [e0]; simp only [e1, e2]
        rw [e]
        clear e e0
        go_enter Tryd.func42, Tryd.ntmps42
        go_wp2_with fail
        refine hf0.mono ?_
        rintro e w1 ⟨ho, rfl, hr1⟩
        have hb1 := number_any p T r0 w1 hr1 hT
        rw [e1] at hb1
        have HO : Hid _ := ho
        clear ho hr1 e1
        go_wp2_with fail
        refine hb1.mono ?_
        rintro e w2 ⟨ho2, rfl, hr2⟩
        have hf2 := fixed_any behind p T r1 w2 hr2 hT
        rw [e2] at hf2
        have HO2 : Hid _ := HO.out.trans ho2
        clear ho2 hr2 e2 HO
        go_wp2_with fail
        refine hf2.mono ?_
        rintro e w3 ⟨ho3, rfl⟩
        exact ⟨rfl, RdPost.none (HO2.out.trans ho3) rfl⟩
      | some r2 =>
        have e : fieldR ahead.data.toList numR behind.data.toList rest = some (v, r2) := by unfold fieldR; rw [e0]; simp only [e1, e2]
        rw [e]
        show Calls _ _ _ _ (RdPost p T (some (.int .i64 (v : Int), r2)) w)
        clear e e0
        go_enter Tryd.func42, Tryd.ntmps42
        go_wp2_with fail
        refine hf0.mono ?_
        rintro e w1 ⟨ho, rfl, hr1⟩
        have hb1 := number_any p T r0 w1 hr1 hT
        rw [e1] at hb1
        have HO : Hid _ := ho
        clear ho hr1 e1
        go_wp2_with fail
        refine hb1.mono ?_
        rintro e w2 ⟨ho2, rfl, hr2⟩
        have hf2 := fixed_any behind p T r1 w2 hr2 hT
        rw [e2] at hf2
        have HO2 : Hid _ := HO.out.trans ho2
        clear ho2 hr2 e2 HO
        go_wp2_with fail
        refine hf2.mono ?_
        rintro e w3 ⟨ho3, rfl, hr3⟩
        have HO3 : Hid _ := HO2.out.trans ho3
        have HR3 : Hid _ := hr3
        clear ho3 hr3
        go_wp2
        go_ret
        exact RdPost.some HO3.out rfl HR3.out

end Go.Proofs.YtbjiamaaocjbfaaDoor.Kp
