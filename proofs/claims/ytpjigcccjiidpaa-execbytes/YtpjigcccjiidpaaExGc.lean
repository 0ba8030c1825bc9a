import Derived.Test.YtpjigcccjiidpaaExGb
namespace Go.Proofs.Ytpjigcccjiidpaa.Ex
open Go.RowKit Go.Lib Go.Deep

set_option maxRecDepth 20000 in
set_option maxHeartbeats 2000000 in
theorem bytes_walk (s0 : List UInt8) (hs0 : s0.length ≤ maxLen) (A0 : List Ed) (w : World) (a0 : Option Addr) (n0 c0 : Nat) (hA : See w 4 (.slice a0 n0 c0) n0 (edsC A0)) (hl : A0.length = n0) (hn0 : n0 ≤ 9223372036854775807) (hw : ∀ e ∈ A0, EdW e) (at_ n : Int) (ha : -9223372036854775808 ≤ at_ ∧ at_ ≤ 9223372036854775807) (hn : -9223372036854775808 ≤ n ∧ n ≤ 9223372036854775807) :
    Calls Try.prog 6 #[.string (str s0), .slice a0 n0 c0, .int .i64 at_, .int .i64 n] w fun e w' => e = .returned (.bool true) ∧ Below w.heap.size w w' := by
  have hwk := works_any w
  obtain ⟨s, hs⟩ : ∃ s, s0.take 300 = s := ⟨_, rfl⟩
  have hsl : s.length ≤ 300 := by rw [← hs, List.length_take]; omega
  obtain ⟨A, hA6⟩ : ∃ A, A0.take 60 = A := ⟨_, rfl⟩
  have hAl : A.length = min n0 60 := by rw [← hA6, List.length_take, hl]; omega
  obtain ⟨M, hM⟩ : ∃ M, min n0 60 = M := ⟨_, rfl⟩
  rw [hM] at hAl
  have hM60 : M ≤ 60 := by omega
  obtain ⟨Z, hZ⟩ : ∃ Z, edsZ 9 s.length A = Z := ⟨_, rfl⟩
  have hZ3 : Z ≤ 300 := by have := edsZ_le 9 A s.length; omega
  have hf0 : 0 ≤ at_ % ((Z : Int) + 1) := Int.emod_nonneg _ (by omega)
  have hf1 : at_ % ((Z : Int) + 1) < (Z : Int) + 1 := Int.emod_lt_of_pos _ (by omega)
  obtain ⟨f, hf⟩ : ∃ f : Nat, at_ % ((Z : Int) + 1) = f := ⟨(at_ % ((Z : Int) + 1)).toNat, by omega⟩
  obtain ⟨D0, hD0⟩ : ∃ D : Nat, Z - f = D := ⟨_, rfl⟩
  have hk0 : 0 ≤ n % ((D0 : Int) + 1) := Int.emod_nonneg _ (by omega)
  have hk1 : n % ((D0 : Int) + 1) < (D0 : Int) + 1 := Int.emod_lt_of_pos _ (by omega)
  obtain ⟨k, hk⟩ : ∃ k : Nat, n % ((D0 : Int) + 1) = k := ⟨(n % ((D0 : Int) + 1)).toNat, by omega⟩
  have hfk : f + k ≤ Z := by omega
  have HSH : Hid (∀ V, Calls Try.prog 8 #[.string (str s0), .int .i64 300] V fun x w' => x = .returned (.string (str s)) ∧ w' = V) := fun V => by
    have := short_any s0 300 V hs0
    rw [hs] at this
    exact this
  have HEF : Hid (∀ V, Below w.heap.size w V → Calls Try.prog 13 #[.int .i64 9, .int .i64 (s.length : Int), .slice a0 n0 c0] V fun e w2 => ∃ a c, e = .returned (.tuple #[.slice a M c, .int .i64 (Z : Int)]) ∧ Hid (See w2 7 (.slice a M c) M (efsC (edsE 9 s.length A)) ∧ Below w.heap.size w w2)) := fun V hV => by
    refine (effects_any V 9 s.length a0 n0 c0 A0 (hA.below hV) hl hsl hw hn0).mono ?_
    rintro e w2 ⟨a, c, rfl, ho, hb⟩
    rw [hM, hA6] at ho
    rw [hM, hA6, hZ]
    exact ⟨a, c, rfl, see_own ho (efs_one _), hV.trans (hb.mono hV.size)⟩
  have HC1 : Hid (∀ V, Calls Try.prog 14 #[.int .i64 at_, .int .i64 0, .int .i64 (Z : Int)] V fun e w' => e = .returned (.int .i64 (f : Int)) ∧ w' = V) := fun V => by
    have := clipped_any at_ 0 (Z : Int) ha (by omega) (by omega) (by omega) V
    rw [Int.zero_add, Int.sub_zero, hf] at this
    exact this
  have HC2 : Hid (∀ V, Calls Try.prog 14 #[.int .i64 n, .int .i64 0, .int .i64 (D0 : Int)] V fun e w' => e = .returned (.int .i64 (k : Int)) ∧ w' = V) := fun V => by
    have := clipped_any n 0 (D0 : Int) hn (by omega) (by omega) (by omega) V
    rw [Int.zero_add, Int.sub_zero, hk] at this
    exact this
  have wZ : IntKind.i64.wrap ((Z : Int) - (f : Int)) = (D0 : Int) := by rw [IntKind.wrap_i64]; omega
  have HAP : Hid (∀ w2 a1 c1, Below w.heap.size w w2 → See w2 7 (.slice a1 M c1) M (efsC (edsE 9 s.length A)) → _) := fun w2 a1 c1 hb hE => bytes_apply w w2 hb s hsl A (by omega) a1 M c1 hAl hE f k (by omega)
  rw [hZ] at HAP
  have htl : (runs s (edsE 9 s.length A)).length = Z := by rw [runs_len, hZ]
  have hby := bya_runs s (edsE 9 s.length A).reverse (fun e he => by
    have := eds_by 9 A s e (List.mem_reverse.1 he)
    exact ⟨this.1, this.2.1.1, this.2.2.1.1⟩)
  rw [List.reverse_reverse] at hby
  have HBY : Hid (∀ (V : World) (a1 : Option Addr) (c1 i : Nat) (x : UInt8), See V 7 (.slice a1 M c1) M (efsC (edsE 9 s.length A)) → (runs s (edsE 9 s.length A))[i]? = some x → Calls Try.prog 15 #[.string (str s), .slice a1 M c1, .int .i64 (i : Int)] V fun e w' => e = .returned (.int .u8 (x.toNat : Int)) ∧ Below V.heap.size V w') := fun V a1 c1 i x hE hx => by
    have hil := some_lt hx
    have := byteAt_any s (edsE 9 s.length A) V a1 M c1 hE (by rw [edsE_len]; exact hAl) (by omega) (by omega) (eds_by 9 A s) i (by omega)
    rw [hby i, hx] at this
    exact this
  generalize hE : edsE 9 s.length A = E at *
  obtain ⟨t, ht⟩ : ∃ t, runs s E = t := ⟨_, rfl⟩
  rw [ht] at htl HAP HBY
  have hsS : (str s).size = s.length := str_size s
  have hsd : ((str t).size : Int) = (Z : Int) := by rw [str_size, htl]
  have hxt : (str t).extract f (f + k) = str ((t.drop f).take k) := by rw [extract_str, Nat.add_sub_cancel_left]
  have HIX : Hid (∀ i, i < Z → ∃ x : UInt8, t[i]? = some x ∧ ∀ V : World, (Instr.index 9 (.string (str t)) (.int .i64 (i : Int))).run Try.prog V = .ok (.int .u8 (x.toNat : Int)) V) := fun i hi => by
    have hil : i < t.length := by omega
    exact ⟨_, List.getElem?_eq_getElem hil, fun V => index_at V 9 (str t) .i64 i _ Try.underlying9 (by rw [str_data, List.getElem?_eq_getElem hil])⟩
  generalize str ((t.drop f).take k) = DD at *
  generalize str t = TT at *
  generalize s.length = sl at *
  generalize str s = SS at *
  clear hf0 hf1 hf hk0 hk1 hk hD0 hs hA6 hAl hM hby hE ht htl hA hl hw ha hn
  go_enter Try.func6, Try.ntmps6
  go_wp2_with fail
  refine hwk.mono ?_
  rintro e w1 ⟨rfl, hb1⟩
  go_wp2_with fail
  refine (HSH.out _).mono ?_
  rintro e w9 ⟨rfl, hw9⟩
  subst hw9
  go_wp2_with fail
  refine (HEF.out _ hb1).mono ?_
  rintro e w2 ⟨a1, c1, rfl, HW2⟩
  have hst := HAP.out w2 a1 c1 HW2.out.2 HW2.out.1
  clear HEF HAP HSH hwk hb1
  go_wp2_with fail
  refine (HC1.out _).mono ?_
  rintro e w9 ⟨rfl, hw9⟩
  subst hw9
  clear HC1
  go_wp2_with fail
  refine (HC2.out _).mono ?_
  rintro e w9 ⟨rfl, hw9⟩
  subst hw9
  clear HC2
  go_wp2_with fail
  refine hst.mono ?_
  rintro e w3 ⟨a3, c3, rfl, W8, hW8, HO8, HN8, hz8, HX8⟩
  clear hst
  go_wp2_with (first
    | (at_builtin; (try rw [hW8]); refine wpList_app rfl _ _ 37 58 rfl _ 13 136 Try.underlying37 infoS rfl (by decide) w9.heap.size _ _ M 1 _ _ rfl HO8.out rfl HN8.out hz8.1 hz8.2.1 hz8.2.2 ?_; intro v' w4 hown4 hgrow4; obtain ⟨a4, c4, rfl⟩ := owns_form hown4; obtain ⟨W9, hW9, W10, hW10, hap⟩ := HX8.out w4 a4 c4 hown4 hgrow4; clear hown4 hgrow4 HX8)
    | fail)
  refine hap.mono ?_
  rintro e w5 ⟨q, g, c, rfl, U, hU, HU⟩
  obtain ⟨u0, u1, u2, u3, u4, HS⟩ := HU.out U (Below.refl _ _)
  clear hap HO8 HN8 hz8 hW8 hW9 hW10 HW2
  have wM : IntKind.i64.wrap ((M : Int) + 1) = ((M + 1 : Nat) : Int) := by rw [IntKind.wrap_i64]; omega
  go_wp2_with (go_at_call 11; refine (num_any _ _).mono ?_; rintro e w9 ⟨rfl, hw9⟩; subst w9)
  go_loopg [18] Z (fun gk iv wr => ∃ i : Nat, i + gk = Z ∧ iv = .int .i64 (i : Int) ∧ Hid (Below U.heap.size U wr))
  case atStart => exact ⟨0, by omega, rfl, Below.refl _ _⟩
  case round =>
    obtain ⟨i, hik, rfl, HB⟩ := hrel
    clear u0 u1 u2 u3 u4 HS hU
    obtain ⟨v0, v1, v2, v3, v4, HS⟩ := HU.out wr HB.out
    by_cases hlt : i < Z
    · have hltI : (i : Int) < (Z : Int) := by omega
      have w1' : IntKind.i64.wrap ((i : Int) + 1) = ((i + 1 : Nat) : Int) := by rw [IntKind.wrap_i64]; omega
      obtain ⟨x, hx, hix⟩ := HIX.out i hlt
      have HBV : Hid (∀ V, Below wr.heap.size wr V → Calls Try.prog 15 #[.string SS, .slice a1 M c1, .int .i64 (i : Int)] V fun e w' => e = .returned (.int .u8 (x.toNat : Int)) ∧ Hid (Below U.heap.size U w') ∧ w'.cell? ⟨w5.heap.size, 1, none⟩ = some (.slice (some ⟨g, 0, none⟩) 1 c) ∧ w'.cell? ⟨g, 0, none⟩ = some (.string TT)) := fun V hV => by
        refine (HBY.out V a1 c1 i x (HS.out.1.below hV) hx).mono ?_
        rintro e w' ⟨rfl, hb'⟩
        have hbV := HB.out.trans (hV.mono HB.out.size)
        have hbw := hbV.trans (hb'.mono hbV.size)
        obtain ⟨-, y1, y2, -⟩ := HU.out w' hbw
        exact ⟨rfl, hbw, y1, y2⟩
      have HD : Hid (∀ j, (wr.drewN j).cell? ⟨w5.heap.size, 1, none⟩ = some (.slice (some ⟨g, 0, none⟩) 1 c) ∧ (wr.drewN j).cell? ⟨g, 0, none⟩ = some (.string TT)) := fun j => ⟨v1, v2⟩
      clear hx HIX HBY HS v0 v3 v4 HU
      go_wp2_with fail
      go_region_held_law (fun V => V.cell? ⟨w5.heap.size, 1, none⟩ = some (.slice (some ⟨g, 0, none⟩) 1 c) ∧ V.cell? ⟨g, 0, none⟩ = some (.string TT)) (first | exact HD.out _ | exact ⟨y1, y2⟩ | go_keep) (first | (go_at_call 15; refine (HBV.out _ (bdN _ _)).mono ?_; rintro e w8 ⟨rfl, HB8, y1, y2⟩))
      all_goals
        go_wp2
        go_roundg (Z - (i + 1))
        case measure => omega
        case rel => exact ⟨i + 1, by omega, rfl, HB8.out⟩
    · obtain rfl : i = Z := by omega
      have hltI : ¬ (i : Int) < (i : Int) := by omega
      have wq : IntKind.i64.wrap ((f : Int) + (k : Int)) = ((f + k : Nat) : Int) := by rw [IntKind.wrap_i64]; omega
      have hb1 : f ≤ f + k := by omega
      have hb2 : f + k ≤ TT.size := by omega
      clear HIX HBY HU wM
      generalize hN : M + 1 = N at *
      have hMI : (M : Int) < (N : Int) := by omega
      clear hN
      generalize hQ : f + k = Q at *
      clear hQ
      go_wp2_with fail
      go_quiet (fail)
      go_wp2
      go_ret
      exact ⟨rfl, bdr HS.out.2 _⟩
end Go.Proofs.Ytpjigcccjiidpaa.Ex
