import Derived.Test.YtnfddiabhpandaaGreatDoorHfM
import Derived.Test.YtnfddiabhpandaaGreatDoorHmM
namespace Go.Proofs.YtnfddiabhpandaaGreatDoor.Tr
open Go.RowKit Go.Lib Go.Deep

theorem some_kd {T : Ts} {dp : Nat → Nat} (hI : Inv T dp) {P : List ByteArray} (hP : Vd P) (h0 : (fndS T P).2 = 0) : fndS T P = fndA T P ∧ (fndA T P).2 = 0 ∧ (fndA T P).1.kd = kdT T P ∧ (kdT T P = 1 ∨ kdT T P = 2) := by
  have hn : ¬ ((fndA T P).2 = 0 ∧ (fndA T P).1.kd = 0) := fun e => by
    unfold fndS at h0
    rw [if_pos e] at h0
    exact absurd h0 (by decide)
  have hs : fndS T P = fndA T P := by unfold fndS; rw [if_neg hn]
  rw [hs] at h0
  have hk : kdT T P = (fndA T P).1.kd := by unfold kdT; rw [if_pos h0]
  refine ⟨hs, h0, hk.symm, ?_⟩
  rcases kdT_vals hI hP.nm with h | h | h
  · exact absurd ⟨h0, hk.symm.trans h⟩ hn
  · exact .inl h
  · exact .inr h
/-- the error of a rename, by what lies at the paths -/
theorem tar_cases {T : Ts} {dp : Nat → Nat} (hI : Inv T dp) {L : List En} (hM : Mo T L) {P Q : List ByteArray} (hP : Vd P) (h0 : (fndS T P).2 = 0) (hPQ : P ≠ Q) :
    (kdT T P = 1 → Blw Q P → tarE T P Q (fndS T P).1 = 126) ∧ (¬ (kdT T P = 1 ∧ Blw Q P) → (Q = [] → tarE T P Q (fndS T P).1 = 121) ∧ ((fndA T Q).2 ≠ 0 → tarE T P Q (fndS T P).1 = (fndA T Q).2) ∧ ((fndA T Q).2 = 0 → kdT T Q = 1 → tarE T P Q (fndS T P).1 = 121) ∧ ((fndA T Q).2 = 0 → kdT T Q = 2 → kdT T P = 1 → tarE T P Q (fndS T P).1 = 122) ∧
      ((fndA T Q).2 = 0 → kdT T Q ≠ 1 → ¬ (kdT T Q = 2 ∧ kdT T P = 1) → (kdT T P = 1 → (∃ e ∈ L, Blw e.p P ∧ 16 < e.p.length - P.length + Q.length) → tarE T P Q (fndS T P).1 = 112) ∧ (¬ (kdT T P = 1 ∧ ∃ e ∈ L, Blw e.p P ∧ 16 < e.p.length - P.length + Q.length) → tarE T P Q (fndS T P).1 = 0))) := by
  obtain ⟨e1, e2, e3, e4⟩ := some_kd hI hP h0
  rw [e1]
  have hb : ∀ {p : Prop}, (p ∧ P <+: Q) ↔ (p ∧ Blw Q P) := ⟨fun h => ⟨h.1, h.2, fun e => hPQ e.symm⟩, fun h => ⟨h.1, h.2.1⟩⟩
  refine ⟨fun h1 h2 => by unfold tarE; rw [if_pos (hb.2 ⟨e3.trans h1, h2⟩)], fun hn => ?_⟩
  have hn' : ¬ ((fndA T P).1.kd = 1 ∧ P <+: Q) := fun e => hn ⟨e3.symm.trans e.1, (hb.1 e).2⟩
  have kq : (fndA T Q).2 = 0 → kdT T Q = (fndA T Q).1.kd := fun e => by unfold kdT; rw [if_pos e]
  refine ⟨fun hq => ?_, fun hq => ?_, fun hq h2 => ?_, fun hq h2 h3 => ?_, fun hq h2 h3 => ⟨fun h4 h5 => ?_, fun h4 => ?_⟩⟩
  · subst hq
    unfold tarE
    rw [if_neg hn', if_neg (by intro e; exact e rfl), if_pos (show (fndA T []).1.kd = 1 from rfl)]
  · unfold tarE
    rw [if_neg hn', if_pos hq]
  · unfold tarE
    rw [if_neg hn', if_neg (fun e => e hq), if_pos ((kq hq).symm.trans h2)]
  · have h2' := (kq hq).symm.trans h2
    unfold tarE
    rw [if_neg hn', if_neg (fun e => e hq), if_neg (by omega), if_pos ⟨h2', e3.trans h3⟩]
  · have hD : Lds T P (fndA T P).1.no := (dir_is hI hP.nm (by
      unfold fndD
      rw [if_neg (by rw [e1]; rintro ⟨_, e⟩; omega), e1]
      exact e2)).2.2.2
    have hk := kq hq
    unfold tarE
    rw [if_neg hn', if_neg (fun e => e hq), if_neg (by omega), if_neg (by rintro ⟨a, b⟩; exact h3 ⟨hk.trans a, e3.symm.trans b⟩), if_pos ⟨e3.trans h4, (deep_iff hM hD Q.length).2 h5⟩]
  · have hk := kq hq
    unfold tarE
    rw [if_neg hn', if_neg (fun e => e hq), if_neg (by omega), if_neg (by rintro ⟨a, b⟩; exact h3 ⟨hk.trans a, e3.symm.trans b⟩), if_neg ?_]
    rintro ⟨a, b⟩
    have hk1 : kdT T P = 1 := e3.symm.trans a
    have hD : Lds T P (fndA T P).1.no := (dir_is hI hP.nm (by
      unfold fndD
      rw [if_neg (by rw [e1]; rintro ⟨_, e⟩; omega), e1]
      exact e2)).2.2.2
    exact h4 ⟨hk1, (deep_iff hM hD Q.length).1 b⟩

end Go.Proofs.YtnfddiabhpandaaGreatDoor.Tr

namespace Go.Proofs.YtnfddiabhpandaaGreatDoor.Tr
open Go.RowKit Go.Lib Go.Deep

set_option maxRecDepth 20000 in
set_option maxHeartbeats 4000000 in
theorem may1_any (w : World) (B b f d m : Nat) (L : List En) (h : Mdl w B b f d m L) {T : Ts} {dp : Nat → Nat} (hI : Inv T dp) (hM : Mo T L) (P Q : List ByteArray) (hP : Vd P) (hQ : Vd Q) (h0 : (fndS T P).2 = 0) (hPQ : P ≠ Q) (hf : kdT T P = 1) :
    Calls Tryz.prog 82 #[.pointer (some ⟨b, 0, none⟩), .string (tx P), .string (tx Q)] w fun e w' => e = .returned (.int .i64 (tarE T P Q (fndS T P).1)) ∧ w' = w := by
  have hkP := kind_any w B b f d m L h hI hM P hP
  have hkQ := kind_any w B b f d m L h hI hM Q hQ
  have hwQ := way_any w B b f d m L h hI hM Q hQ
  have hbl := below_any w Q P hQ hP
  have HBL : Hid (∀ e ∈ L, Calls Tryz.prog 84 #[.string (tx e.p), .string (tx P)] w fun x w' => x = .returned (.bool (blwB e.p P)) ∧ w' = w) := fun e he => below_any w e.p P (h.vd e he) hP
  have HDE : Hid (∀ e ∈ L, Calls Tryz.prog 129 #[.string (tx e.p)] w fun x w' => x = .returned (.int .i64 (e.p.length : Int)) ∧ w' = w) := fun e he => depth_any w e.p (h.vd e he)
  have hdP := depth_any w P hP
  have hdQ := depth_any w Q hQ
  have HLE : Hid (∀ e ∈ L, e.p.length ≤ 16 ∧ (Blw e.p P → P.length ≤ e.p.length)) := fun e he => ⟨(h.vd e he).len, fun hb => hb.1.length_le⟩
  have hlP := hP.len
  have hlQ := hQ.len
  obtain ⟨T1, T2⟩ := tar_cases hI hM hP h0 hPQ
  have HT1 : Hid _ := T1
  have HT2 : Hid _ := T2
  have HV := kdT_vals hI hQ.nm
  obtain ⟨a, c, hr⟩ := h.rd
  have c3 := hr.c3
  have HR : Hid (Rd w b f d m L.length a c L) := hr
  have hnb := h.nb
  obtain ⟨n, hn⟩ : ∃ n, L.length = n := ⟨_, rfl⟩
  rw [hn] at c3 HR hnb
  have HRN : Hid (Q ≠ [] → ((tx Q).toList == [47]) = false) := fun hn => root_ne hQ hn
  have HRT : Hid (Q = [] → tx Q = { data := #[47] }) := fun hn => (tx_nil hQ).2 hn
  obtain ⟨Z, hZ⟩ : ∃ Z, tarE T P Q (fndS T P).1 = Z := ⟨_, rfl⟩
  rw [hZ] at HT1 HT2 ⊢
  clear hr h hn hZ T1 T2 hI hM hP hQ h0
  have hf1 := hf
  rw [hf1] at hkP
  clear hf1
  by_cases hbQ : Blw Q P
  · obtain rfl : Z = 126 := HT1.out hf hbQ
    rw [blwB_true hbQ] at hbl
    clear HT2 HT1 HV HBL HDE hdP hdQ hbQ hf
    generalize tx P = tP at *
    generalize tx Q = tQ at *
    generalize kdT T Q = kq at *
    generalize (fndA T Q).2 = E at *
    go_enter Tryz.func82, Tryz.ntmps82
    go_wp2_with fail
    refine hkP.mono ?_
    rintro e w1 ⟨rfl, hw1⟩
    subst w1
    go_wp2_with fail
    refine hkQ.mono ?_
    rintro e w1 ⟨rfl, hw1⟩
    subst w1
    go_wp2_with fail
    refine hwQ.mono ?_
    rintro e w1 ⟨rfl, hw1⟩
    subst w1
    go_wp2_with fail
    refine hbl.mono ?_
    rintro e w1 ⟨rfl, hw1⟩
    subst w1
    go_wp2
    go_ret
    exact ⟨rfl, rfl⟩
  have HX : Hid _ := HT2.out fun e => hbQ e.2
  rw [blwB_false hbQ] at hbl
  clear HT2 HT1 hbQ
  by_cases hq : Q = []
  · obtain rfl : Z = 121 := HX.out.1 hq
    have ht := HRT.out hq
    rw [ht] at hkQ hwQ hbl ⊢
    clear HX HV HBL HDE hdP hdQ hq ht
    generalize tx P = tP at *
    generalize kdT T Q = kq at *
    generalize (fndA T Q).2 = E at *
    go_enter Tryz.func82, Tryz.ntmps82
    go_wp2_with fail
    refine hkP.mono ?_
    rintro e w1 ⟨rfl, hw1⟩
    subst w1
    go_wp2_with fail
    refine hkQ.mono ?_
    rintro e w1 ⟨rfl, hw1⟩
    subst w1
    go_wp2_with fail
    refine hwQ.mono ?_
    rintro e w1 ⟨rfl, hw1⟩
    subst w1
    go_wp2_with fail
    refine hbl.mono ?_
    rintro e w1 ⟨rfl, hw1⟩
    subst w1
    go_wp2
    go_ret
    exact ⟨rfl, rfl⟩
  have hrn := HRN.out hq
  by_cases hE : ¬ (fndA T Q).2 = 0
  · obtain rfl : Z = (fndA T Q).2 := HX.out.2.1 hE
    have heb : ((fndA T Q).2 == 0) = false := by simpa using hE
    clear HX HV HBL HDE hdP hdQ hq
    generalize tx P = tP at *
    generalize tx Q = tQ at *
    generalize kdT T Q = kq at *
    generalize (fndA T Q).2 = E at *
    go_enter Tryz.func82, Tryz.ntmps82
    go_wp2_with fail
    refine hkP.mono ?_
    rintro e w1 ⟨rfl, hw1⟩
    subst w1
    go_wp2_with fail
    refine hkQ.mono ?_
    rintro e w1 ⟨rfl, hw1⟩
    subst w1
    go_wp2_with fail
    refine hwQ.mono ?_
    rintro e w1 ⟨rfl, hw1⟩
    subst w1
    go_wp2_with fail
    refine hbl.mono ?_
    rintro e w1 ⟨rfl, hw1⟩
    subst w1
    go_wp2
    go_ret
    exact ⟨rfl, rfl⟩
  replace hE := Classical.not_not.1 hE
  rw [hE] at hwQ
  rcases HV with hv | hv | hv
  · have HZ1 : Hid ((∃ e ∈ L, Blw e.p P ∧ 16 < e.p.length - P.length + Q.length) → Z = 112) := (HX.out.2.2.2.2 hE (by omega) (by rintro ⟨e, _⟩; omega)).1 hf
    have HZ0 : Hid ((¬ ∃ e ∈ L, Blw e.p P ∧ 16 < e.p.length - P.length + Q.length) → Z = 0) := fun h => (HX.out.2.2.2.2 hE (by omega) (by rintro ⟨e, _⟩; omega)).2 fun e => h e.2
    rw [hv] at hkQ
    clear HX hq hE hv
    generalize tx P = tP at *
    generalize tx Q = tQ at *
    go_enter Tryz.func82, Tryz.ntmps82
    go_wp2_with fail
    refine hkP.mono ?_
    rintro e w1 ⟨rfl, hw1⟩
    subst w1
    go_wp2_with fail
    refine hkQ.mono ?_
    rintro e w1 ⟨rfl, hw1⟩
    subst w1
    go_wp2_with fail
    refine hwQ.mono ?_
    rintro e w1 ⟨rfl, hw1⟩
    subst w1
    go_wp2_with fail
    refine hbl.mono ?_
    rintro e w1 ⟨rfl, hw1⟩
    subst w1
    go_wp2_with fail
    go_loopg [10] n (fun gk iv wr => ∃ k : Nat, k + gk = n ∧ iv = .int .i64 (k : Int) ∧ wr = w ∧ Hid (∀ j e, j < k → L[j]? = some e → ¬ (Blw e.p P ∧ 16 < e.p.length - P.length + Q.length)))
    case atStart => exact ⟨0, by omega, rfl, rfl, fun j e h => by omega⟩
    case round =>
      obtain ⟨k, hk, rfl, rfl, HY⟩ := hrel
      by_cases hlt : k < n
      · have hltI : (k : Int) < (n : Int) := by omega
        obtain ⟨e, he⟩ : ∃ e, L[k]? = some e := ⟨_, List.getElem?_eq_getElem (by have := HR.out.hn; omega)⟩
        obtain ⟨g, rfl, y0, y1, y2⟩ := HR.out.at_ k e he
        have hem := List.mem_of_getElem? he
        have hbe := HBL.out e hem
        have hde := HDE.out e hem
        obtain ⟨hle, hlb⟩ := HLE.out e hem
        have HNX : Hid (¬ (Blw e.p P ∧ 16 < e.p.length - P.length + Q.length) → ∀ j e, j < k + 1 → L[j]? = some e → ¬ (Blw e.p P ∧ 16 < e.p.length - P.length + Q.length)) := fun hno j e' hj hj' => by
          by_cases h : j = k
          · subst h; rw [he] at hj'; injection hj' with hj'; subst hj'; exact hno
          · exact HY.out j e' (by omega) hj'
        by_cases hb : Blw e.p P
        · rw [blwB_true hb] at hbe
          have hlp := hlb hb
          by_cases hd16 : 16 < e.p.length - P.length + Q.length
          · obtain rfl : Z = 112 := HZ1.out ⟨e, hem, hb, hd16⟩
            clear he hb y1 y2 hem HNX HY hlb
            generalize tx e.p = y at *
            generalize e.p.length = le at *
            generalize P.length = lp at *
            generalize Q.length = lq at *
            have q1 : IntKind.i64.wrap ((le : Int) - (lp : Int)) = ((le - lp : Nat) : Int) := by rw [IntKind.wrap_i64]; omega
            have q2 : IntKind.i64.wrap (((le - lp : Nat) : Int) + (lq : Int)) = ((le - lp + lq : Nat) : Int) := by rw [IntKind.wrap_i64]; omega
            have q3 : (16 : Int) < ((le - lp + lq : Nat) : Int) := by omega
            go_wp2_with fail
            refine hbe.mono ?_
            rintro x w1 ⟨rfl, hw1⟩
            subst w1
            go_wp2_with fail
            refine hde.mono ?_
            rintro x w1 ⟨rfl, hw1⟩
            subst w1
            go_wp2_with fail
            refine hdP.mono ?_
            rintro x w1 ⟨rfl, hw1⟩
            subst w1
            go_wp2_with fail
            refine hdQ.mono ?_
            rintro x w1 ⟨rfl, hw1⟩
            subst w1
            go_wp2
            go_ret
            exact ⟨rfl, rfl⟩
          · have HY2 : Hid _ := HNX.out fun e => hd16 e.2
            clear he hb y1 y2 hem HNX HY hlb
            generalize tx e.p = y at *
            obtain ⟨le, hLe⟩ : ∃ le, e.p.length = le := ⟨_, rfl⟩
            obtain ⟨lp, hLp⟩ : ∃ le, P.length = le := ⟨_, rfl⟩
            obtain ⟨lq, hLq⟩ : ∃ le, Q.length = le := ⟨_, rfl⟩
            rw [hLe] at hde hle hlp hd16
            rw [hLp] at hdP hlP hlp hd16
            rw [hLq] at hdQ hlQ hd16
            clear hLe hLp hLq
            have q1 : IntKind.i64.wrap ((le : Int) - (lp : Int)) = ((le - lp : Nat) : Int) := by rw [IntKind.wrap_i64]; omega
            have q2 : IntKind.i64.wrap (((le - lp : Nat) : Int) + (lq : Int)) = ((le - lp + lq : Nat) : Int) := by rw [IntKind.wrap_i64]; omega
            have q3 : ¬ (16 : Int) < ((le - lp + lq : Nat) : Int) := by omega
            go_wp2_with fail
            refine hbe.mono ?_
            rintro x w1 ⟨rfl, hw1⟩
            subst w1
            go_wp2_with fail
            refine hde.mono ?_
            rintro x w1 ⟨rfl, hw1⟩
            subst w1
            go_wp2_with fail
            refine hdP.mono ?_
            rintro x w1 ⟨rfl, hw1⟩
            subst w1
            go_wp2_with fail
            refine hdQ.mono ?_
            rintro x w1 ⟨rfl, hw1⟩
            subst w1
            go_wp2
            go_roundg (gk - 1)
            case measure => omega
            case rel => exact ⟨k + 1, by omega, by go_num, rfl, HY2⟩
        · have HY2 : Hid _ := HNX.out fun e => hb e.1
          rw [blwB_false hb] at hbe
          clear he hb y1 y2 hem HNX HY hlb
          generalize tx e.p = y at *
          go_wp2_with fail
          refine hbe.mono ?_
          rintro x w1 ⟨rfl, hw1⟩
          subst w1
          go_wp2
          go_roundg (gk - 1)
          case measure => omega
          case rel => exact ⟨k + 1, by omega, by go_num, rfl, HY2⟩
      · obtain rfl : k = n := by omega
        have hltI : ¬ (k : Int) < (k : Int) := by omega
        obtain rfl : Z = 0 := HZ0.out fun ⟨e, he, hh⟩ => by
          obtain ⟨j, hj⟩ := List.mem_iff_getElem?.1 he
          exact HY.out j e (by have := (List.getElem?_eq_some_iff.1 hj).1; have := HR.out.hn; omega) hj hh
        clear HY
        go_wp2
        go_ret
        exact ⟨rfl, rfl⟩
  · obtain rfl : Z = 121 := HX.out.2.2.1 hE hv
    rw [hv] at hkQ
    clear HX HBL HDE hdP hdQ hq hE hv
    generalize tx P = tP at *
    generalize tx Q = tQ at *
    go_enter Tryz.func82, Tryz.ntmps82
    go_wp2_with fail
    refine hkP.mono ?_
    rintro e w1 ⟨rfl, hw1⟩
    subst w1
    go_wp2_with fail
    refine hkQ.mono ?_
    rintro e w1 ⟨rfl, hw1⟩
    subst w1
    go_wp2_with fail
    refine hwQ.mono ?_
    rintro e w1 ⟨rfl, hw1⟩
    subst w1
    go_wp2_with fail
    refine hbl.mono ?_
    rintro e w1 ⟨rfl, hw1⟩
    subst w1
    go_wp2
    go_ret
    exact ⟨rfl, rfl⟩
  · obtain rfl : Z = 122 := HX.out.2.2.2.1 hE hv hf
    rw [hv] at hkQ
    clear HX HBL HDE hdP hdQ hq hE hv
    generalize tx P = tP at *
    generalize tx Q = tQ at *
    go_enter Tryz.func82, Tryz.ntmps82
    go_wp2_with fail
    refine hkP.mono ?_
    rintro e w1 ⟨rfl, hw1⟩
    subst w1
    go_wp2_with fail
    refine hkQ.mono ?_
    rintro e w1 ⟨rfl, hw1⟩
    subst w1
    go_wp2_with fail
    refine hwQ.mono ?_
    rintro e w1 ⟨rfl, hw1⟩
    subst w1
    go_wp2_with fail
    refine hbl.mono ?_
    rintro e w1 ⟨rfl, hw1⟩
    subst w1
    go_wp2
    go_ret
    exact ⟨rfl, rfl⟩

end Go.Proofs.YtnfddiabhpandaaGreatDoor.Tr

namespace Go.Proofs.YtnfddiabhpandaaGreatDoor.Tr
open Go.RowKit Go.Lib Go.Deep

set_option maxRecDepth 20000 in
set_option maxHeartbeats 4000000 in
theorem may2_any (w : World) (B b f d m : Nat) (L : List En) (h : Mdl w B b f d m L) {T : Ts} {dp : Nat → Nat} (hI : Inv T dp) (hM : Mo T L) (P Q : List ByteArray) (hP : Vd P) (hQ : Vd Q) (h0 : (fndS T P).2 = 0) (hPQ : P ≠ Q) (hf : kdT T P = 2) :
    Calls Tryz.prog 82 #[.pointer (some ⟨b, 0, none⟩), .string (tx P), .string (tx Q)] w fun e w' => e = .returned (.int .i64 (tarE T P Q (fndS T P).1)) ∧ w' = w := by
  have hkP := kind_any w B b f d m L h hI hM P hP
  have hkQ := kind_any w B b f d m L h hI hM Q hQ
  have hwQ := way_any w B b f d m L h hI hM Q hQ
  have hbl := below_any w Q P hQ hP
  have HBL : Hid (∀ e ∈ L, Calls Tryz.prog 84 #[.string (tx e.p), .string (tx P)] w fun x w' => x = .returned (.bool (blwB e.p P)) ∧ w' = w) := fun e he => below_any w e.p P (h.vd e he) hP
  have HDE : Hid (∀ e ∈ L, Calls Tryz.prog 129 #[.string (tx e.p)] w fun x w' => x = .returned (.int .i64 (e.p.length : Int)) ∧ w' = w) := fun e he => depth_any w e.p (h.vd e he)
  have hdP := depth_any w P hP
  have hdQ := depth_any w Q hQ
  have HLE : Hid (∀ e ∈ L, e.p.length ≤ 16 ∧ (Blw e.p P → P.length ≤ e.p.length)) := fun e he => ⟨(h.vd e he).len, fun hb => hb.1.length_le⟩
  have hlP := hP.len
  have hlQ := hQ.len
  obtain ⟨T1, T2⟩ := tar_cases hI hM hP h0 hPQ
  have HT1 : Hid _ := T1
  have HT2 : Hid _ := T2
  have HV := kdT_vals hI hQ.nm
  obtain ⟨a, c, hr⟩ := h.rd
  have c3 := hr.c3
  have HR : Hid (Rd w b f d m L.length a c L) := hr
  have hnb := h.nb
  obtain ⟨n, hn⟩ : ∃ n, L.length = n := ⟨_, rfl⟩
  rw [hn] at c3 HR hnb
  have HRN : Hid (Q ≠ [] → ((tx Q).toList == [47]) = false) := fun hn => root_ne hQ hn
  have HRT : Hid (Q = [] → tx Q = { data := #[47] }) := fun hn => (tx_nil hQ).2 hn
  obtain ⟨Z, hZ⟩ : ∃ Z, tarE T P Q (fndS T P).1 = Z := ⟨_, rfl⟩
  rw [hZ] at HT1 HT2 ⊢
  clear hr h hn hZ T1 T2 hI hM hP hQ h0
  have hf1 := hf
  rw [hf1] at hkP
  clear hf1
  have HX : Hid _ := HT2.out fun e => by have := e.1; omega
  clear HT2 HT1
  by_cases hq : Q = []
  · obtain rfl : Z = 121 := HX.out.1 hq
    have ht := HRT.out hq
    rw [ht] at hkQ hwQ hbl ⊢
    clear HX HV HBL HDE hdP hdQ hq ht
    generalize tx P = tP at *
    generalize kdT T Q = kq at *
    generalize (fndA T Q).2 = E at *
    go_enter Tryz.func82, Tryz.ntmps82
    go_wp2_with fail
    refine hkP.mono ?_
    rintro e w1 ⟨rfl, hw1⟩
    subst w1
    go_wp2_with fail
    refine hkQ.mono ?_
    rintro e w1 ⟨rfl, hw1⟩
    subst w1
    go_wp2_with fail
    refine hwQ.mono ?_
    rintro e w1 ⟨rfl, hw1⟩
    subst w1
    go_wp2
    go_ret
    exact ⟨rfl, rfl⟩
  have hrn := HRN.out hq
  by_cases hE : ¬ (fndA T Q).2 = 0
  · obtain rfl : Z = (fndA T Q).2 := HX.out.2.1 hE
    have heb : ((fndA T Q).2 == 0) = false := by simpa using hE
    clear HX HV HBL HDE hdP hdQ hq
    generalize tx P = tP at *
    generalize tx Q = tQ at *
    generalize kdT T Q = kq at *
    generalize (fndA T Q).2 = E at *
    go_enter Tryz.func82, Tryz.ntmps82
    go_wp2_with fail
    refine hkP.mono ?_
    rintro e w1 ⟨rfl, hw1⟩
    subst w1
    go_wp2_with fail
    refine hkQ.mono ?_
    rintro e w1 ⟨rfl, hw1⟩
    subst w1
    go_wp2_with fail
    refine hwQ.mono ?_
    rintro e w1 ⟨rfl, hw1⟩
    subst w1
    go_wp2
    go_ret
    exact ⟨rfl, rfl⟩
  replace hE := Classical.not_not.1 hE
  rw [hE] at hwQ
  rcases HV with hv | hv | hv
  · have HZ0 : Hid (Z = 0) := (HX.out.2.2.2.2 hE (by omega) (by rintro ⟨_, e⟩; omega)).2 fun e => by have := e.1; omega
    rw [hv] at hkQ
    clear HX hq hE hv
    generalize tx P = tP at *
    generalize tx Q = tQ at *
    go_enter Tryz.func82, Tryz.ntmps82
    go_wp2_with fail
    refine hkP.mono ?_
    rintro e w1 ⟨rfl, hw1⟩
    subst w1
    go_wp2_with fail
    refine hkQ.mono ?_
    rintro e w1 ⟨rfl, hw1⟩
    subst w1
    go_wp2_with fail
    refine hwQ.mono ?_
    rintro e w1 ⟨rfl, hw1⟩
    subst w1
    go_wp2_with fail
    go_loopg [10] n (fun gk iv wr => ∃ k : Nat, k + gk = n ∧ iv = .int .i64 (k : Int) ∧ wr = w)
    case atStart => exact ⟨0, by omega, rfl, rfl⟩
    case round =>
      obtain ⟨k, hk, rfl, rfl⟩ := hrel
      by_cases hlt : k < n
      · have hltI : (k : Int) < (n : Int) := by omega
        obtain ⟨e, he⟩ : ∃ e, L[k]? = some e := ⟨_, List.getElem?_eq_getElem (by have := HR.out.hn; omega)⟩
        obtain ⟨g, rfl, y0, y1, y2⟩ := HR.out.at_ k e he
        clear he y1 y2
        generalize tx e.p = y at *
        go_wp2
        go_roundg (gk - 1)
        case measure => omega
        case rel => exact ⟨k + 1, by omega, by go_num, rfl⟩
      · obtain rfl : k = n := by omega
        have hltI : ¬ (k : Int) < (k : Int) := by omega
        obtain rfl : Z = 0 := HZ0.out
        go_wp2
        go_ret
        exact ⟨rfl, rfl⟩
  · obtain rfl : Z = 121 := HX.out.2.2.1 hE hv
    rw [hv] at hkQ
    clear HX HBL HDE hdP hdQ hq hE hv
    generalize tx P = tP at *
    generalize tx Q = tQ at *
    go_enter Tryz.func82, Tryz.ntmps82
    go_wp2_with fail
    refine hkP.mono ?_
    rintro e w1 ⟨rfl, hw1⟩
    subst w1
    go_wp2_with fail
    refine hkQ.mono ?_
    rintro e w1 ⟨rfl, hw1⟩
    subst w1
    go_wp2_with fail
    refine hwQ.mono ?_
    rintro e w1 ⟨rfl, hw1⟩
    subst w1
    go_wp2
    go_ret
    exact ⟨rfl, rfl⟩
  · have HZ0 : Hid (Z = 0) := (HX.out.2.2.2.2 hE (by omega) (by rintro ⟨_, e⟩; omega)).2 fun e => by have := e.1; omega
    rw [hv] at hkQ
    clear HX hq hE hv
    generalize tx P = tP at *
    generalize tx Q = tQ at *
    go_enter Tryz.func82, Tryz.ntmps82
    go_wp2_with fail
    refine hkP.mono ?_
    rintro e w1 ⟨rfl, hw1⟩
    subst w1
    go_wp2_with fail
    refine hkQ.mono ?_
    rintro e w1 ⟨rfl, hw1⟩
    subst w1
    go_wp2_with fail
    refine hwQ.mono ?_
    rintro e w1 ⟨rfl, hw1⟩
    subst w1
    go_wp2_with fail
    go_loopg [10] n (fun gk iv wr => ∃ k : Nat, k + gk = n ∧ iv = .int .i64 (k : Int) ∧ wr = w)
    case atStart => exact ⟨0, by omega, rfl, rfl⟩
    case round =>
      obtain ⟨k, hk, rfl, rfl⟩ := hrel
      by_cases hlt : k < n
      · have hltI : (k : Int) < (n : Int) := by omega
        obtain ⟨e, he⟩ : ∃ e, L[k]? = some e := ⟨_, List.getElem?_eq_getElem (by have := HR.out.hn; omega)⟩
        obtain ⟨g, rfl, y0, y1, y2⟩ := HR.out.at_ k e he
        clear he y1 y2
        generalize tx e.p = y at *
        go_wp2
        go_roundg (gk - 1)
        case measure => omega
        case rel => exact ⟨k + 1, by omega, by go_num, rfl⟩
      · obtain rfl : k = n := by omega
        have hltI : ¬ (k : Int) < (k : Int) := by omega
        obtain rfl : Z = 0 := HZ0.out
        go_wp2
        go_ret
        exact ⟨rfl, rfl⟩

end Go.Proofs.YtnfddiabhpandaaGreatDoor.Tr

namespace Go.Proofs.YtnfddiabhpandaaGreatDoor.Tr
open Go.RowKit Go.Lib Go.Deep

set_option maxRecDepth 20000 in
set_option maxHeartbeats 4000000 in
theorem may_any (w : World) (B b f d m : Nat) (L : List En) (h : Mdl w B b f d m L) {T : Ts} {dp : Nat → Nat} (hI : Inv T dp) (hM : Mo T L) (P Q : List ByteArray) (hP : Vd P) (hQ : Vd Q) (h0 : (fndS T P).2 = 0) (hPQ : P ≠ Q) :
    Calls Tryz.prog 82 #[.pointer (some ⟨b, 0, none⟩), .string (tx P), .string (tx Q)] w fun e w' => e = .returned (.int .i64 (tarE T P Q (fndS T P).1)) ∧ w' = w := by
  rcases (some_kd hI hP h0).2.2.2 with hf | hf
  · exact may1_any w B b f d m L h hI hM P Q hP hQ h0 hPQ hf
  · exact may2_any w B b f d m L h hI hM P Q hP hQ h0 hPQ hf

end Go.Proofs.YtnfddiabhpandaaGreatDoor.Tr

namespace Go.Proofs.YtnfddiabhpandaaGreatDoor.Tr
open Go.RowKit Go.Lib Go.Deep

theorem en_set {w : World} {B e n sz : Nat} {g c j : Nat} {xs : List Value} (v' : Value) (h : w.ownsRow B e sz (.slice (some ⟨g, 0, none⟩) n c) n xs) : (w.setCell ⟨g, j, none⟩ v').ownsRow B e sz (.slice (some ⟨g, 0, none⟩) n c) n (xs.set j v') := by
  refine ⟨by rw [List.length_set]; exact h.1, ?_⟩
  rcases h.2 with ⟨h1, h2⟩ | ⟨g1, cap, cur, h1, h2, h3, h4, h5, h6, h7⟩
  · cases h1
  · injection h1 with e1 _ e2
    injection e1 with e1
    injection e1 with e1 _ _
    subst e1 e2
    refine .inr ⟨_, _, cur.setIfInBounds j v', rfl, h2, heap_setCell_same _ _ j _ _ v' h3, h4, by simpa using h5, by simpa using h6, ?_⟩
    rw [← h7, Array.toList_setIfInBounds, List.take_set]
theorem ensC_set : ∀ (L : List En) (i : Nat) (e e' : En) (j : Nat) (v : Value), L[i]? = some e → j < 3 → (enC e).set j v = enC e' → (ensC L).set (i * 3 + j) v = ensC (L.set i e')
  | [], _, _, _, _, _, h, _, _ => by cases h
  | a :: l, 0, e, e', j, v, h, hj, hv => by
    simp only [List.getElem?_cons_zero, Option.some.injEq] at h
    subst h
    rw [Nat.zero_mul, Nat.zero_add]
    show (enC a ++ ensC l).set j v = enC e' ++ ensC l
    rw [List.set_append_left _ _ (by simpa [enC] using hj), hv]
  | a :: l, i + 1, e, e', j, v, h, hj, hv => by
    rw [List.getElem?_cons_succ] at h
    show (enC a ++ ensC l).set ((i + 1) * 3 + j) v = enC a ++ ensC (l.set i e')
    rw [List.set_append_right _ _ (by simp [enC]; omega), show (i + 1) * 3 + j - (enC a).length = i * 3 + j by simp [enC]; omega]
    rw [ensC_set l i e e' j v h hj hv]
/-- a cell of a model's row is written over -/
theorem mdl_cell {w : World} {B b f d m g c : Nat} {L : List En} (h : Mdl w B b f d m L) (h3 : w.cell? ⟨b, 3, none⟩ = some (.slice (some ⟨g, 0, none⟩) L.length c)) {i : Nat} {e e' : En} (hi : L[i]? = some e) {j : Nat} {v : Value} (hj : j < 3) (hv : (enC e).set j v = enC e') (hV : Vd e'.p) :
    Mdl (w.setCell ⟨g, i * 3 + j, none⟩ v) B b f d m (L.set i e') ∧ Mfr B w (w.setCell ⟨g, i * 3 + j, none⟩ v) b ∧ w.frozen? ⟨g, i * 3 + j, none⟩ = false := by
  obtain ⟨a, k, h1, h2⟩ := h.row
  have h4 : w.cell? ⟨b, 3, none⟩ = some (.slice a L.length k) := (cell_of_heap h1).trans rfl
  rw [h3] at h4
  injection h4 with h4
  injection h4 with e1 _ e2
  subst e1 e2
  obtain ⟨cur, hg⟩ := owns_block h2 (k := g) rfl
  have hgb : b ≠ g := fun e => by
    rw [← e, h1] at hg
    injection hg with hg
    injection hg with _ hg _
    exact absurd hg (by decide)
  refine ⟨⟨⟨some ⟨g, 0, none⟩, c, ?_, ?_⟩, fun x hx => ?_, ?_⟩, ⟨rfl, rfl, rfl, by simp, fun q o hq _ ho => ?_⟩, frozen_of_heap hg⟩
  · rw [List.length_set]
    exact (heap_setCell_other _ _ _ _ (by show b ≠ g; exact hgb)).trans h1
  · rw [List.length_set, ← ensC_set L i e e' j v hi hj hv]
    exact en_set v h2
  · rcases List.mem_or_eq_of_mem_set hx with hx | hx
    · exact h.vd x hx
    · rw [hx]; exact hV
  · rw [List.length_set]; exact h.nb
  · refine (heap_setCell_other _ _ _ _ fun e => ?_).trans hq
    have e : q = g := e
    rcases ho with ho | ho
    · rw [e, hg] at hq
      injection hq with hq
      exact ho _ _ hq.symm
    · have := (h2.lt g rfl).1
      omega
/-- the first k entries are moved -/
noncomputable def mixE (P Q : List ByteArray) (k : Nat) (M : List En) : List En := (M.take k).map (mvE P Q) ++ M.drop k
theorem mix_zero (P Q : List ByteArray) (M : List En) : mixE P Q 0 M = M := by simp [mixE]
theorem mix_all (P Q : List ByteArray) (M : List En) : mixE P Q M.length M = M.map (mvE P Q) := by simp [mixE]
theorem mix_len (P Q : List ByteArray) (k : Nat) (M : List En) : (mixE P Q k M).length = M.length := by simp [mixE]; omega
theorem mix_at (P Q : List ByteArray) {k : Nat} {M : List En} {e : En} (h : M[k]? = some e) : (mixE P Q k M)[k]? = some e := by
  have hk := (List.getElem?_eq_some_iff.1 h).1
  unfold mixE
  rw [List.getElem?_append_right (by simp; omega)]
  simp only [List.length_map, List.length_take, List.getElem?_drop]
  rw [show k + (k - min k M.length) = k by omega]
  exact h
theorem mix_next (P Q : List ByteArray) {k : Nat} {M : List En} {e : En} (h : M[k]? = some e) : (mixE P Q k M).set k (mvE P Q e) = mixE P Q (k + 1) M := by
  have hk := (List.getElem?_eq_some_iff.1 h).1
  have h2 := (List.getElem?_eq_some_iff.1 h).2
  have hl : ((M.take k).map (mvE P Q)).length = k := by simp; omega
  unfold mixE
  rw [List.set_append_right _ _ (by omega), hl, Nat.sub_self, List.drop_eq_getElem_cons hk, List.set_cons_zero, List.take_add_one, h, List.map_append, List.append_assoc]
  rfl
theorem set_self {α : Type} : ∀ {l : List α} {i : Nat} {x : α}, l[i]? = some x → l.set i x = l
  | [], _, _, h => by cases h
  | a :: l, 0, x, h => by simp only [List.getElem?_cons_zero, Option.some.injEq] at h; rw [h]; rfl
  | a :: l, i + 1, x, h => by rw [List.getElem?_cons_succ] at h; rw [List.set_cons_succ, set_self h]
theorem mv_same {P Q : List ByteArray} {e : En} (h : ¬ P <+: e.p) : mvE P Q e = e := by unfold mvE; rw [if_neg h]
theorem mv_move {P Q R : List ByteArray} {e : En} (h : e.p = P ++ R) : mvE P Q e = ⟨Q ++ R, e.kd, e.sz⟩ := by
  unfold mvE
  rw [if_pos (h ▸ List.prefix_append _ _), h, mvP_app]
/-- what a rename wants of its paths -/
theorem mv_paths {T : Ts} {dp : Nat → Nat} (hI : Inv T dp) {L : List En} (hM : Mo T L) {P Q : List ByteArray} (hP : Vd P) (hQ : Vd Q) (h0 : (fndS T P).2 = 0) (ht : tarE T P Q (fndS T P).1 = 0) : P ≠ [] ∧ Q ≠ [] ∧ ∀ e ∈ L, ∀ R, e.p = P ++ R → Vd (Q ++ R) := by
  obtain ⟨e1, e2, e3⟩ := fndS_ok h0
  rw [e1] at ht
  obtain ⟨t1, t2, t3, t4, t5⟩ := tarE_ok ht
  have hPn : P ≠ [] := fun e => by
    subst e
    exact t1 ⟨rfl, List.nil_prefix⟩
  refine ⟨hPn, ne_of_kd t3, fun e he R hR => ?_⟩
  by_cases hR0 : R = []
  · subst hR0
    rw [List.append_nil]
    exact hQ
  obtain ⟨no, h1, _⟩ := (hM.mem e).1 he
  have hall := (is_ok hI h1).1
  rw [hR] at h1 hall
  obtain ⟨y, hy⟩ := is_under h1 hR0 hPn
  obtain ⟨f1, f2, f3⟩ := is_fnd hy
  have hr := is_rch R hR0 (is_lds hy) h1
  refine vd_of ?_ ?_
  · rw [List.all_append] at hall ⊢
    simp only [Bool.and_eq_true] at hall ⊢
    exact ⟨hQ.nm, hall.2⟩
  · rw [List.length_append]
    exact t5 f2 R.length (by rw [f3]; exact hr)
/-- the text of a moved path -/
theorem mv_text {P Q R : List ByteArray} (hPn : P ≠ []) (hQn : Q ≠ []) (h1 : Vd (P ++ R)) (h2 : Vd P) (h3 : Vd Q) (h4 : Vd (Q ++ R)) : (tx P).size ≤ (tx (P ++ R)).size ∧ tx Q ++ (tx (P ++ R)).extract (tx P).size (tx (P ++ R)).size = tx (Q ++ R) := by
  have hle : (tx P).size ≤ (tx (P ++ R)).size := by
    rw [size_eq, size_eq, tx_data h2, tx_data h1, textL_ne hPn, textL_ne (by simp [hPn]), Pa.slashed_append, List.length_append]
    omega
  refine ⟨hle, ky_inj ?_⟩
  unfold ky
  rw [ByteArray.data_append, Array.toList_append, ByteArray.data_extract, Array.toList_extract, ← tx_move hPn hQn h1 h2 h3 h4]
  congr 1
  rw [List.extract_eq_take_drop, List.take_of_length_le]
  rw [List.length_drop, ← size_eq]
  omega

end Go.Proofs.YtnfddiabhpandaaGreatDoor.Tr
