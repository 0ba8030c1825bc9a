import Derived.Test.YtcoddgpfdcjnaaaFrG
import Derived.Test.YtcoddgpfdcjnaaaFrL
import Derived.Test.YtcoddgpfdcjnaaaBufA
namespace Go.Proofs.Ytcoddgpfdcjnaaa.Fr
open Go.RowKit Go.Lib Go.Deep

theorem wp_merge {P : Program} {c : Code} {Q : Exit → Act → World → Prop} {a : Act} {w : World} {A : Act} {W : World} (h1 : Code.wp P c (fun e a' w' => match e with | .normal => a' = A ∧ w' = W | _ => False) a w) (h2 : Q .normal A W) : Code.wp P c Q a w :=
  Code.wp_mono (fun e a w h => by
    cases e with
    | normal => obtain ⟨rfl, rfl⟩ := h; exact h2
    | _ => exact h.elim) h1
/-- one byte turned never says the same body -/
theorem spoilt (b : ByteArray) (n i : Nat) (x xo : UInt8) (hb : 5 + b.size ≤ n) (hx : (frL 1 b.data.toList n)[i]? = some x) (hne : xo ≠ x) :
    unpE 1 (str ((frL 1 b.data.toList n).set i xo)) ≠ 0 ∨ unpY 1 (str ((frL 1 b.data.toList n).set i xo)) ≠ b := by
  apply Classical.byContradiction
  intro h
  have h1 : unpE 1 (str ((frL 1 b.data.toList n).set i xo)) = 0 := Classical.byContradiction fun h1 => h (.inl h1)
  have h2 : unpY 1 (str ((frL 1 b.data.toList n).set i xo)) = b := Classical.byContradiction fun h2 => h (.inr h2)
  have h3 := pack_unp 1 _ h1
  have hl : (frL 1 b.data.toList n).length = n := frL_length 1 _ n (by rw [← size_eq]; omega)
  have hs : (str ((frL 1 b.data.toList n).set i xo)).size = n := by rw [str_size, List.length_set, hl]
  rw [h2, hs] at h3
  have h4 : packY 1 b (n : Int) = str (frL 1 b.data.toList n) := by unfold packY; rw [if_pos h3.1, Int.toNat_natCast]; rfl
  have h5 := h3.2
  rw [h4] at h5
  have h6 : frL 1 b.data.toList n = (frL 1 b.data.toList n).set i xo := by
    have := congrArg (fun s : ByteArray => s.data.toList) h5
    simp only [str_data] at this
    exact this
  have hi := (List.getElem?_eq_some_iff.1 hx).1
  have h7 : ((frL 1 b.data.toList n).set i xo)[i]? = some xo := by rw [List.getElem?_set_self hi]
  rw [← h6, hx] at h7
  injection h7 with h7
  exact hne h7.symm

set_option maxHeartbeats 1000000 in
set_option maxRecDepth 20000 in
theorem spoilt_walk (b : ByteArray) (size at' by' : Int) (hb : b.size ≤ 140737488351232) (w1 : -9223372036854775808 ≤ size ∧ size ≤ 9223372036854775807) (w2 : -9223372036854775808 ≤ at' ∧ at' ≤ 9223372036854775807) (w3 : -9223372036854775808 ≤ by' ∧ by' ≤ 9223372036854775807) (w : World) :
    Calls Try.prog 8 #[.string b, .int .i64 size, .int .i64 at', .int .i64 by'] w fun e w' => e = .returned (.bool true) ∧ Below w.heap.size w w' := by
  by_cases h0 : 100000 < b.size
  · have h0' : (100000 : Int) < (b.size : Int) := by omega
    go_enter Try.func8, Try.ntmps8
    go_wp2
    go_ret
    exact ⟨rfl, Below.refl _ _⟩
  · have h0' : ¬ (100000 : Int) < (b.size : Int) := by omega
    have hbl : b.data.toList.length = b.size := (size_eq b).symm
    have c1 := clipped_any size ((b.size : Int) + 5) 200000 w1 (by omega) (by omega) (by omega)
    obtain ⟨n, hn, hn1, hn2⟩ : ∃ n : Nat, (b.size : Int) + 5 + size % (200000 - ((b.size : Int) + 5) + 1) = (n : Int) ∧ 5 + b.size ≤ n ∧ n ≤ 200000 := by
      have h1 := Int.emod_nonneg size (show 200000 - ((b.size : Int) + 5) + 1 ≠ 0 by omega)
      have h2 := Int.emod_lt_of_pos size (show (0 : Int) < 200000 - ((b.size : Int) + 5) + 1 by omega)
      exact ⟨((b.size : Int) + 5 + size % (200000 - ((b.size : Int) + 5) + 1)).toNat, by omega, by omega, by omega⟩
    rw [hn] at c1
    have c2 := pack_any 1 b (n : Int) hb
    have e1 : packE 1 b (n : Int) = 0 := packE_of ⟨by omega, by omega, by omega, by omega⟩
    have e2 : packY 1 b (n : Int) = str (frL 1 b.data.toList n) := by unfold packY; rw [if_pos e1, Int.toNat_natCast]; rfl
    rw [e1, e2] at c2
    have hl : (frL 1 b.data.toList n).length = n := frL_length 1 _ n (by omega)
    have c3 := clipped_any at' 0 ((n : Int) - 1) w2 (by omega) (by omega) (by omega)
    obtain ⟨i, hi, hin⟩ : ∃ i : Nat, (0 : Int) + at' % ((n : Int) - 1 - 0 + 1) = (i : Int) ∧ i < n := by
      have h1 := Int.emod_nonneg at' (show (n : Int) - 1 - 0 + 1 ≠ 0 by omega)
      have h2 := Int.emod_lt_of_pos at' (show (0 : Int) < (n : Int) - 1 - 0 + 1 by omega)
      exact ⟨((0 : Int) + at' % ((n : Int) - 1 - 0 + 1)).toNat, by omega, by omega⟩
    rw [hi] at c3
    have c4 := clipped_any by' 1 255 w3 (by omega) (by omega) (by omega)
    obtain ⟨X, hX, hX1, hX2⟩ : ∃ X : Nat, (1 : Int) + by' % (255 - 1 + 1) = (X : Int) ∧ 1 ≤ X ∧ X ≤ 255 := ⟨((1 : Int) + by' % (255 - 1 + 1)).toNat, by omega, by omega, by omega⟩
    rw [hX] at c4
    obtain ⟨x, hx⟩ : ∃ x, (frL 1 b.data.toList n)[i]? = some x := ⟨_, List.getElem?_eq_getElem (by omega)⟩
    have hXn : (UInt8.ofNat X).toNat = X := ofNat_toNat X (by omega)
    have hxor : bits .xor .u8 (x.toNat : Int) (X : Int) = ((x ^^^ UInt8.ofNat X).toNat : Int) := by
      have h := u8_xor_nat x.toNat X x.toNat_lt (by omega)
      rw [show x.toNat ^^^ X = (x ^^^ UInt8.ofNat X).toNat by rw [UInt8.toNat_xor, hXn]] at h
      exact h
    have hne : x ^^^ UInt8.ofNat X ≠ x := by
      intro h
      have h1 := congrArg UInt8.toNat h
      rw [UInt8.toNat_xor, hXn] at h1
      have h2 : x.toNat ^^^ (x.toNat ^^^ X) = x.toNat ^^^ x.toNat := by rw [h1]
      rw [← Nat.xor_assoc, Nat.xor_self, Nat.zero_xor] at h2
      omega
    have HSP := spoilt b n i x (x ^^^ UInt8.ofNat X) hn1 hx hne
    have c5 := unpack_any 1 (str ((frL 1 b.data.toList n).set i (x ^^^ UInt8.ofNat X)))
    generalize unpE 1 (str ((frL 1 b.data.toList n).set i (x ^^^ UInt8.ofNat X))) = E at c5 HSP
    generalize unpY 1 (str ((frL 1 b.data.toList n).set i (x ^^^ UInt8.ofNat X))) = Y at c5 HSP
    have hlen : ((frL 1 b.data.toList n).set i (x ^^^ UInt8.ofNat X)).length = n := by rw [List.length_set]; exact hl
    have hbyt := bytes_any (str (frL 1 b.data.toList n)) (by rw [str_size, hl]; unfold maxLen; omega)
    rw [str_data] at hbyt
    generalize x ^^^ UInt8.ofNat X = xo at *
    have hss : (str (frL 1 b.data.toList n)).size = n := by rw [str_size, hl]
    generalize frL 1 b.data.toList n = F at *
    generalize str F = fS at *
    have hnum := num_any 0
    have hnumE := num_any E
    clear hn hi hX hne hXn e1 e2 hbl w1 w2 w3
    go_enter Try.func8, Try.ntmps8
    go_wp2_with fail
    refine (c1 _).mono ?_
    rintro e w' ⟨rfl, rfl⟩
    go_wp2_with fail
    refine (c2 _).mono ?_
    rintro e w2 ⟨rfl, hb2⟩
    go_wp2_with fail
    refine (hnum _).mono ?_
    rintro e w3 ⟨rfl, rfl⟩
    go_wp2_with fail
    refine (c3 _).mono ?_
    rintro e w3 ⟨rfl, rfl⟩
    obtain ⟨v4, w4, hrun, hrow, hb4'⟩ := hbyt w3
    obtain ⟨g, cap, rfl, hg, hcap, hcm, hbuf⟩ := Buf.of_rowF hrow
    have k0 := hbuf.cell i x hx
    have f0 := hbuf.frozen i (by omega)
    have hb4 := hb2.trans (hb4'.mono hb2.size)
    have hgw : w'.heap.size ≤ g := by have := hb2.size; omega
    have hbuf5 := hbuf.put i xo
    have hb5 := hb4.setCell (p := ⟨g, i, none⟩) hgw (.int .u8 (xo.toNat : Int))
    have hxl := x.toNat_lt
    have hxol := xo.toNat_lt
    generalize x.toNat = xn at *
    have hiI : (i : Int) < (n : Int) := by omega
    have HS : Hid (∀ W, Buf W g (F.set i xo) → (convert 40 9 (.slice (some ⟨g, 0, none⟩) n cap)).run Try.prog W = .ok (.string (str (F.set i xo))) W) := fun W h => by
      have h1 := h.text (P := Try.prog) 40 9 cap Try.underlying40 Try.underlying5 Try.underlying9
      rw [hlen] at h1
      exact h1
    generalize xo.toNat = xon at *
    have hXu : IntKind.u8.wrap (X : Int) = (X : Int) := by rw [IntKind.wrap_u8]; omega
    go_wp2_with fail
    have k0' : w4.drew.cell? ⟨g, i, none⟩ = some (.int .u8 (xn : Int)) := k0
    have f0' : w4.drew.frozen? ⟨g, i, none⟩ = false := f0
    apply wp_merge
    · go_region_with (go_at_call 12; refine (c4 _).mono ?_; rintro e w6 ⟨rfl, rfl⟩)
      all_goals exact ⟨rfl, rfl⟩
    refine with_world (R := fun W => Exit.then _ _ _ _ W) (Q := fun W => Buf W g (F.set i xo) ∧ Below w'.heap.size w' W) _ ⟨hbuf5.kept rfl, hb5.drew⟩ ?_
    rintro W5 ⟨hbuf6, hb6⟩
    have hcv := HS.out W5 hbuf6
    clear k0 f0 k0' f0' hbuf5 hb5 hbuf hbuf6 HS hrun hrow hb4' hb4
    by_cases hE : E = 0
    · subst hE
      have hY : Y ≠ b := HSP.resolve_left (fun h => h rfl)
      have hYb : (Y.toList == b.toList) = false := by
        rw [beq_eq_false_iff_ne, toList_data, toList_data]
        intro h
        exact hY (by rw [← str_of Y, ← str_of b, h])
      go_wp2_with fail
      refine (c5 _).mono ?_
      rintro e w7 ⟨rfl, hb7⟩
      have hb7' := hb6.trans (hb7.mono hb6.size)
      go_wp2_with fail
      refine (hnum _).mono ?_
      rintro e w8 ⟨rfl, rfl⟩
      go_wp2
      go_ret
      exact ⟨rfl, hb7'⟩
    · go_wp2_with fail
      refine (c5 _).mono ?_
      rintro e w7 ⟨rfl, hb7⟩
      have hb7' := hb6.trans (hb7.mono hb6.size)
      go_wp2_with fail
      refine (hnumE _).mono ?_
      rintro e w8 ⟨rfl, rfl⟩
      go_wp2
      go_ret
      exact ⟨rfl, hb7'⟩
end Go.Proofs.Ytcoddgpfdcjnaaa.Fr
