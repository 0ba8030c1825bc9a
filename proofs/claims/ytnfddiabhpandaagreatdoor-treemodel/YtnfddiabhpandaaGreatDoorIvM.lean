import Derived.Test.YtnfddiabhpandaaGreatDoorIcM
import Derived.Test.YtnfddiabhpandaaGreatDoorIiM
import Derived.Test.YtnfddiabhpandaaGreatDoorIaM
import Derived.Test.YtnfddiabhpandaaGreatDoorInM
namespace Go.Proofs.YtnfddiabhpandaaGreatDoor.Tr
open Go.RowKit Go.Lib Go.Deep

/-- what touches answers of a tree -/
def Touched (A : Ans) (w : World) (B b f d m : Nat) (e : Ending) (w' : World) : Prop := e = .returned (.tuple #[.agg #[.int .i64 0, .string { data := #[] }, .int .i64 A.1.n, .slice none 0 0, .int .i64 0, .int .i64 0], .int .i64 A.1.code]) ∧ ∃ L', Mdl w' B b f d m L' ∧ Mo A.2.2 L' ∧ Mfr B w w' b
theorem touch3_do (w : World) (B b f d m : Nat) (L : List En) (h : Mdl w B b f d m L) (hB : B ≤ w.heap.size) {T : Ts} {dp : Nat → Nat} (hI : Inv T dp) (hM : Mo T L) (P : List ByteArray) (hP : Vd P) (o : Op) (hs : ∀ x, szF T x ≤ 100000) (ha : 0 ≤ o.at_) (hn : 0 ≤ o.n) :
    Calls Tryz.prog 50 #[.pointer (some ⟨b, 0, none⟩), .agg #[.int .i64 3, .string (tx P), .string o.to_, .int .i64 o.at_, .int .i64 o.n, .string o.data]] w (Touched (reaT T P o) w B b f d m) := by
  by_cases h0 : (fndF T P).2 = 0
  · refine (touch3_any w B b f d m L h hB hI hM P hP o.at_ o.n o.to_ o.data h0 (hs _) ha hn).mono ?_
    rintro e w' ⟨rfl, h1, h2⟩
    unfold Touched reaT
    rw [if_neg (fun e => e h0)]
    exact ⟨rfl, L, h1.out, hM, h2.out⟩
  · refine (touchE_any w B b f d m L h hI hM P hP 3 o.at_ o.n o.to_ o.data h0).mono ?_
    rintro e w' ⟨rfl, h1, h2⟩
    unfold Touched reaT
    rw [if_pos h0]
    exact ⟨rfl, L, h1.out, hM, h2.out⟩
theorem touch7_do (w : World) (B b f d m : Nat) (L : List En) (h : Mdl w B b f d m L) (hB : B ≤ w.heap.size) {T : Ts} {dp : Nat → Nat} (hI : Inv T dp) (hM : Mo T L) (P : List ByteArray) (hP : Vd P) (o : Op) :
    Calls Tryz.prog 50 #[.pointer (some ⟨b, 0, none⟩), .agg #[.int .i64 7, .string (tx P), .string o.to_, .int .i64 o.at_, .int .i64 o.n, .string o.data]] w (Touched (remT T P) w B b f d m) := by
  by_cases h0 : (fndF T P).2 = 0
  · refine (touch7_any w B b f d m L h hB hI hM P hP o.at_ o.n o.to_ o.data h0).mono ?_
    rintro e w' ⟨rfl, h1, h2⟩
    have hm := mo_rem hI hM hP.nm h0
    refine ⟨?_, wo P L, h1.out, hm, h2.out⟩
    unfold remT
    rw [if_neg (fun e => e h0)]
    rfl
  · refine (touchE_any w B b f d m L h hI hM P hP 7 o.at_ o.n o.to_ o.data h0).mono ?_
    rintro e w' ⟨rfl, h1, h2⟩
    unfold Touched remT
    rw [if_pos h0]
    exact ⟨rfl, L, h1.out, hM, h2.out⟩
theorem touch5_do (w : World) (B b f d m : Nat) (L : List En) (h : Mdl w B b f d m L) (hB : B ≤ w.heap.size) {T : Ts} {dp : Nat → Nat} (hI : Inv T dp) (hM : Mo T L) (P : List ByteArray) (hP : Vd P) (o : Op) (hm : T.most = m) (hn : 0 ≤ o.n) :
    Calls Tryz.prog 50 #[.pointer (some ⟨b, 0, none⟩), .agg #[.int .i64 5, .string (tx P), .string o.to_, .int .i64 o.at_, .int .i64 o.n, .string o.data]] w (Touched (cutT T P o) w B b f d m) := by
  by_cases h0 : (fndF T P).2 = 0
  · by_cases hbig : (m : Int) < o.n
    · refine (touch5a_any w B b f d m L h hB hI hM P hP o.at_ o.n o.to_ o.data h0 hbig).mono ?_
      rintro e w' ⟨rfl, h1, h2⟩
      unfold Touched cutT
      rw [if_neg (fun e => e h0), hm, if_pos hbig]
      exact ⟨rfl, L, h1.out, hM, h2.out⟩
    · refine (touch5b_any w B b f d m L h hB hI hM P hP o.at_ o.n o.to_ o.data h0 o.n.toNat (by omega) hbig).mono ?_
      rintro e w' ⟨rfl, h1, h2⟩
      have hmo := mo_siz hI hM hP.nm h0 o.n.toNat
      unfold Touched cutT
      rw [if_neg (fun e => e h0), hm, if_neg hbig]
      exact ⟨rfl, _, h1.out, hmo, h2.out⟩
  · refine (touchE_any w B b f d m L h hI hM P hP 5 o.at_ o.n o.to_ o.data h0).mono ?_
    rintro e w' ⟨rfl, h1, h2⟩
    unfold Touched cutT
    rw [if_pos h0]
    exact ⟨rfl, L, h1.out, hM, h2.out⟩
theorem touch4_do (w : World) (B b f d m : Nat) (L : List En) (h : Mdl w B b f d m L) (hB : B ≤ w.heap.size) {T : Ts} {dp : Nat → Nat} (hI : Inv T dp) (hM : Mo T L) (P : List ByteArray) (hP : Vd P) (o : Op) (hs : ∀ x, szF T x ≤ 100000) (hmb : m ≤ 100000) (hm : T.most = m) (ha : 0 ≤ o.at_) :
    Calls Tryz.prog 50 #[.pointer (some ⟨b, 0, none⟩), .agg #[.int .i64 4, .string (tx P), .string o.to_, .int .i64 o.at_, .int .i64 o.n, .string o.data]] w (Touched (wriT T P o) w B b f d m) := by
  by_cases h0 : (fndF T P).2 = 0
  · have hq : o.at_ = (o.at_.toNat : Int) := by omega
    by_cases hqm : (m : Int) < (o.at_.toNat : Int)
    · refine (touch4a_any w B b f d m L h hB hI hM P hP o.at_ o.n o.to_ o.data h0 o.at_.toNat hq (hs _) hmb hqm).mono ?_
      rintro e w' ⟨rfl, h1, h2⟩
      unfold Touched wriT
      rw [if_neg (fun e => e h0), hm, if_pos (by omega)]
      exact ⟨rfl, L, h1.out, hM, h2.out⟩
    by_cases hbig : (m : Int) - (o.at_.toNat : Int) < (o.data.size : Int)
    · refine (touch4b_any w B b f d m L h hB hI hM P hP o.at_ o.n o.to_ o.data h0 o.at_.toNat hq (hs _) hmb hqm hbig).mono ?_
      rintro e w' ⟨rfl, h1, h2⟩
      unfold Touched wriT
      rw [if_neg (fun e => e h0), hm, if_pos (by omega)]
      exact ⟨rfl, L, h1.out, hM, h2.out⟩
    by_cases hz : (0 : Int) < (o.data.size : Int)
    · have hz0 : ¬ o.data.size = 0 := by omega
      by_cases hcs : (szF T (fndF T P).1.no : Int) < ((o.at_.toNat + o.data.size : Nat) : Int)
      · refine (touch4e_any w B b f d m L h hB hI hM P hP o.at_ o.n o.to_ o.data h0 o.at_.toNat hq (hs _) hmb hqm hbig hz hcs).mono ?_
        rintro e w' ⟨rfl, h1, h2⟩
        have hw : wriS T (fndF T P).1.no o = o.at_.toNat + o.data.size := by unfold wriS; rw [if_neg hz0]; omega
        have hmo := mo_siz hI hM hP.nm h0 (o.at_.toNat + o.data.size)
        unfold Touched wriT
        rw [if_neg (fun e => e h0), hm, if_neg (by omega), if_neg hz0, hw]
        exact ⟨rfl, _, h1.out, hmo, h2.out⟩
      · refine (touch4d_any w B b f d m L h hB hI hM P hP o.at_ o.n o.to_ o.data h0 o.at_.toNat hq (hs _) hmb hqm hbig hz hcs).mono ?_
        rintro e w' ⟨rfl, h1, h2⟩
        have hw : wriS T (fndF T P).1.no o = szF T (fndF T P).1.no := by unfold wriS; rw [if_neg hz0]; omega
        have hmo := mo_siz hI hM hP.nm h0 (szF T (fndF T P).1.no)
        have hsame : szL P (szF T (fndF T P).1.no) L = L := by
          obtain ⟨f1, f2, f3⟩ := file_en hI hM hP h0
          obtain ⟨e1, e2, e3, e4⟩ := file_is hI hP.nm h0
          have hk : kdT T P = 2 := by unfold kdT; rw [if_pos f2, e3]
          obtain ⟨i, hi⟩ := List.mem_iff_getElem?.1 (kd_mem hI hM hP.nm f1 (by omega)).1
          obtain ⟨j, e, _, hj, hp, _, hsz⟩ := f3 (i : Int) (.inr ⟨i, _, rfl, hi, rfl⟩)
          exact szL_same P _ L hM.nd hj hp hsz
        change Mo _ (szL P (szF T (fndF T P).1.no) L) at hmo
        rw [hsame] at hmo
        unfold Touched wriT
        rw [if_neg (fun e => e h0), hm, if_neg (by omega), if_neg hz0, hw]
        exact ⟨rfl, L, h1.out, hmo, h2.out⟩
    · refine (touch4c_any w B b f d m L h hB hI hM P hP o.at_ o.n o.to_ o.data h0 o.at_.toNat hq (hs _) hmb hqm hbig hz).mono ?_
      rintro e w' ⟨rfl, h1, h2⟩
      unfold Touched wriT
      rw [if_neg (fun e => e h0), hm, if_neg (by omega), if_pos (show o.data.size = 0 by omega)]
      exact ⟨rfl, L, h1.out, hM, h2.out⟩
  · refine (touchE_any w B b f d m L h hI hM P hP 4 o.at_ o.n o.to_ o.data h0).mono ?_
    rintro e w' ⟨rfl, h1, h2⟩
    unfold Touched wriT
    rw [if_pos h0]
    exact ⟨rfl, L, h1.out, hM, h2.out⟩

end Go.Proofs.YtnfddiabhpandaaGreatDoor.Tr

namespace Go.Proofs.YtnfddiabhpandaaGreatDoor.Tr
open Go.RowKit Go.Lib Go.Deep

/-- what make and move answer of a tree -/
def Coded (A : Ans) (w : World) (B b f d m : Nat) (e : Ending) (w' : World) : Prop := e = .returned (.int .i64 A.1.code) ∧ ∃ L', Mdl w' B b f d m L' ∧ Mo A.2.2 L' ∧ Mfr B w w' b
theorem make1_do (w : World) (B b f d m : Nat) (L : List En) (h : Mdl w B b f d m L) (hB : B ≤ w.heap.size) {T : Ts} {dp : Nat → Nat} (hI : Inv T dp) (hM : Mo T L) (P : List ByteArray) (hP : Vd P) (hfb : f ≤ 65536 ∧ d ≤ 65536) (hLb : L.length ≤ 90000) (hd : T.dr = d + 1) :
    Calls Tryz.prog 47 #[.pointer (some ⟨b, 0, none⟩), .int .i64 1, .string (tx P)] w (Coded (mkdT T P) w B b f d m) := by
  have hlow : (L.countP (isK 1) < d) ↔ lowL T.D < T.dr := by
    rw [low_cnt _ _ hI.dl, ← hM.cD, hd]
    omega
  refine (make1_any w B b f d m L h hB hI hM P hP hfb hLb).mono ?_
  rintro e w' ⟨rfl, h1, h2⟩
  by_cases h0 : (fndN T P).2 = 0
  · by_cases hx : lowL T.D < T.dr
    · have hc : mkC T P (decide (L.countP (isK 1) < d)) = 0 := by unfold mkC; rw [if_neg (fun e => e h0), if_pos (decide_eq_true (hlow.2 hx))]
      have h1 := h1.out
      rw [if_pos hc] at h1
      refine ⟨?_, _, h1, mo_mkd hI hM hP.nm h0 hx, h2.out⟩
      rw [hc]
      unfold mkdT
      rw [if_neg (fun e => e h0), if_pos hx]
      rfl
    · have hc : mkC T P (decide (L.countP (isK 1) < d)) = 125 := by unfold mkC; rw [if_neg (fun e => e h0), if_neg (fun e => hx (hlow.1 (of_decide_eq_true e)))]
      have h1 := h1.out
      rw [if_neg (by rw [hc]; decide)] at h1
      unfold Coded mkdT
      rw [if_neg (fun e => e h0), if_neg hx, hc]
      exact ⟨rfl, _, h1, hM, h2.out⟩
  · have hc : mkC T P (decide (L.countP (isK 1) < d)) = (fndN T P).2 := by unfold mkC; rw [if_pos h0]
    have h1 := h1.out
    rw [if_neg (by rw [hc]; exact h0)] at h1
    unfold Coded mkdT
    rw [if_pos h0, hc]
    exact ⟨rfl, _, h1, hM, h2.out⟩
theorem make2_do (w : World) (B b f d m : Nat) (L : List En) (h : Mdl w B b f d m L) (hB : B ≤ w.heap.size) {T : Ts} {dp : Nat → Nat} (hI : Inv T dp) (hM : Mo T L) (P : List ByteArray) (hP : Vd P) (hfb : f ≤ 65536 ∧ d ≤ 65536) (hLb : L.length ≤ 90000) (hd : T.fr = f) :
    Calls Tryz.prog 47 #[.pointer (some ⟨b, 0, none⟩), .int .i64 2, .string (tx P)] w (Coded (creT T P) w B b f d m) := by
  have hlow : (L.countP (isK 2) < f) ↔ lowL T.F < T.fr := by
    rw [low_cnt _ _ hI.fl, ← hM.cF, hd]
  refine (make2_any w B b f d m L h hB hI hM P hP hfb hLb).mono ?_
  rintro e w' ⟨rfl, h1, h2⟩
  by_cases h0 : (fndN T P).2 = 0
  · by_cases hx : lowL T.F < T.fr
    · have hc : mkC T P (decide (L.countP (isK 2) < f)) = 0 := by unfold mkC; rw [if_neg (fun e => e h0), if_pos (decide_eq_true (hlow.2 hx))]
      have h1 := h1.out
      rw [if_pos hc] at h1
      refine ⟨?_, _, h1, mo_cre hI hM hP.nm h0 hx, h2.out⟩
      rw [hc]
      unfold creT
      rw [if_neg (fun e => e h0), if_pos hx]
      rfl
    · have hc : mkC T P (decide (L.countP (isK 2) < f)) = 125 := by unfold mkC; rw [if_neg (fun e => e h0), if_neg (fun e => hx (hlow.1 (of_decide_eq_true e)))]
      have h1 := h1.out
      rw [if_neg (by rw [hc]; decide)] at h1
      unfold Coded creT
      rw [if_neg (fun e => e h0), if_neg hx, hc]
      exact ⟨rfl, _, h1, hM, h2.out⟩
  · have hc : mkC T P (decide (L.countP (isK 2) < f)) = (fndN T P).2 := by unfold mkC; rw [if_pos h0]
    have h1 := h1.out
    rw [if_neg (by rw [hc]; exact h0)] at h1
    unfold Coded creT
    rw [if_pos h0, hc]
    exact ⟨rfl, _, h1, hM, h2.out⟩
theorem move_do (w : World) (B b f d m : Nat) (L : List En) (h : Mdl w B b f d m L) (hB : B ≤ w.heap.size) {T : Ts} {dp : Nat → Nat} (hI : Inv T dp) (hM : Mo T L) (P Q : List ByteArray) (hP : Vd P) (hQ : Vd Q) :
    Calls Tryz.prog 48 #[.pointer (some ⟨b, 0, none⟩), .string (tx P), .string (tx Q)] w (Coded (renT T P Q) w B b f d m) := by
  by_cases hc : (fndS T P).2 = 0 ∧ P ≠ Q ∧ tarE T P Q (fndS T P).1 = 0
  · obtain ⟨h0, hPQ, ht⟩ := hc
    refine (moveK_any w B b f d m L h hB hI hM P Q hP hQ h0 hPQ ht).mono ?_
    rintro e w' ⟨rfl, h1, h2⟩
    refine ⟨?_, _, h1.out, mo_ren hI hM hP.nm hQ.nm h0 hPQ ht, h2.out⟩
    unfold renT
    rw [if_neg (fun e => e h0), if_neg hPQ, if_neg (fun e => e ht)]
    split <;> rfl
  · refine (moveE_any w B b f d m L h hI hM P Q hP hQ hc).mono ?_
    rintro e w' ⟨rfl, rfl⟩
    have hf : Mfr B w' w' b := mfr_below (Below.refl _ _)
    unfold Coded renT renC
    by_cases h0 : (fndS T P).2 ≠ 0
    · rw [if_pos h0, if_pos h0]
      exact ⟨rfl, L, h, hM, hf⟩
    rw [if_neg h0, if_neg h0]
    by_cases hPQ : P = Q
    · rw [if_pos hPQ, if_pos hPQ]
      exact ⟨rfl, L, h, hM, hf⟩
    rw [if_neg hPQ, if_neg hPQ, if_pos (fun e => hc ⟨Classical.not_not.1 h0, hPQ, e⟩)]
    exact ⟨rfl, L, h, hM, hf⟩
/-- what looks answers of a tree -/
def Looked (A : Ans) (w : World) (B b f d m : Nat) (e : Ending) (w' : World) : Prop := ∃ u, e = .returned (.tuple #[.agg #[.int .i64 0, .string { data := #[] }, .int .i64 0, u, .int .i64 A.1.kind, .int .i64 A.1.size], .int .i64 A.1.code]) ∧ Pa.Own w' w.heap.size u A.1.names ∧ ∃ L', Mdl w' B b f d m L' ∧ Mo A.2.2 L' ∧ Mfr B w w' b
theorem own_nil (w : World) (B : Nat) : Pa.Own w B (.slice none 0 0) [] := World.ownsRow_nil _ _ _ _

end Go.Proofs.YtnfddiabhpandaaGreatDoor.Tr

namespace Go.Proofs.YtnfddiabhpandaaGreatDoor.Tr
open Go.RowKit Go.Lib Go.Deep

theorem kd_eq {T : Ts} {P : List ByteArray} (he : (fndA T P).2 = 0) : (fndA T P).1.kd = kdT T P := by unfold kdT; rw [if_pos he]
theorem fndS_err {T : Ts} {P : List ByteArray} (he : ¬ (fndA T P).2 = 0) : fndS T P = fndA T P := by unfold fndS; rw [if_neg (fun e => he e.1)]
theorem fndS_none {T : Ts} {P : List ByteArray} (he : (fndA T P).2 = 0) (hk : kdT T P = 0) : fndS T P = (Sp.zero, 120) := by unfold fndS; rw [if_pos ⟨he, (kd_eq he).trans hk⟩]
theorem fndS_some {T : Ts} {P : List ByteArray} (he : (fndA T P).2 = 0) (hk : kdT T P ≠ 0) : fndS T P = fndA T P := by unfold fndS; rw [if_neg (fun e => hk ((kd_eq he).symm.trans e.2))]
theorem fndD_err {T : Ts} {P : List ByteArray} (he : ¬ (fndA T P).2 = 0) : (fndD T P).2 = (fndA T P).2 := by unfold fndD; rw [fndS_err he, if_neg (fun e => he e.1)]
theorem fndD_none {T : Ts} {P : List ByteArray} (he : (fndA T P).2 = 0) (hk : kdT T P = 0) : (fndD T P).2 = 120 := by unfold fndD; rw [fndS_none he hk]; rfl
theorem fndD_file {T : Ts} {P : List ByteArray} (he : (fndA T P).2 = 0) (hk : kdT T P = 2) : (fndD T P).2 = 122 := by unfold fndD; rw [fndS_some he (by omega), if_pos ⟨he, (kd_eq he).trans hk⟩]
theorem fndD_dir {T : Ts} {P : List ByteArray} (he : (fndA T P).2 = 0) (hk : kdT T P = 1) : fndD T P = fndA T P := by unfold fndD; rw [fndS_some he (by omega), if_neg (fun e => by have := (kd_eq he).symm.trans e.2; omega)]
theorem full_iff {T : Ts} {L : List En} (hM : Mo T L) {P : List ByteArray} {x : Nat} (hD : Lds T P x) : (∃ e ∈ L, Blw e.p P) ↔ ∃ k, (T.M x k).isSome = true := by
  constructor
  · rintro ⟨e, he, hb⟩
    obtain ⟨R, hR, hp⟩ := blw_iff.1 hb
    obtain ⟨no, h1, _⟩ := (hM.mem e).1 he
    rw [hp] at h1
    have hr := is_rch R hR hD h1
    generalize R.length = j at hr
    cases hr with
    | one h => exact ⟨_, by rw [h]; rfl⟩
    | more h _ => exact ⟨_, by rw [h]; rfl⟩
  · rintro ⟨k, hk⟩
    obtain ⟨v, hv⟩ := Option.isSome_iff_exists.1 hk
    obtain ⟨R, u, _, hR, hi⟩ := rch_is (.one hv) hD
    exact ⟨⟨P ++ R, u.1, szE T u⟩, (hM.mem _).2 ⟨u.2, hi, rfl⟩, blw_iff.2 ⟨R, hR, rfl⟩⟩
open Classical in
theorem look8_do (w : World) (B b f d m : Nat) (L : List En) (h : Mdl w B b f d m L) (hB : B ≤ w.heap.size) {T : Ts} {dp : Nat → Nat} (hI : Inv T dp) (hM : Mo T L) (P : List ByteArray) (hP : Vd P) (o : Op) :
    Calls Tryz.prog 49 #[.pointer (some ⟨b, 0, none⟩), .agg #[.int .i64 8, .string (tx P), .string o.to_, .int .i64 o.at_, .int .i64 o.n, .string o.data]] w (Looked (rmdT T P) w B b f d m) := by
  by_cases hr : P = []
  · refine (look8R_any w B b f d m L h hB hI hM P hP o.at_ o.n o.to_ o.data hr).mono ?_
    rintro e w' ⟨rfl, h1, h2⟩
    unfold Looked rmdT
    rw [if_pos hr]
    exact ⟨_, rfl, own_nil _ _, L, h1.out, hM, h2.out⟩
  by_cases he : ¬ (fndA T P).2 = 0
  · refine (look8E_any w B b f d m L h hB hI hM P hP o.at_ o.n o.to_ o.data he).mono ?_
    rintro e w' ⟨rfl, h1, h2⟩
    unfold Looked rmdT
    rw [if_neg hr, if_pos (by rw [fndD_err he]; exact he), fndD_err he]
    exact ⟨_, rfl, own_nil _ _, L, h1.out, hM, h2.out⟩
  replace he := Classical.not_not.1 he
  rcases kdT_vals hI hP.nm with hk | hk | hk
  · refine (look8N_any w B b f d m L h hB hI hM P hP o.at_ o.n o.to_ o.data he hk hr).mono ?_
    rintro e w' ⟨rfl, h1, h2⟩
    unfold Looked rmdT
    rw [if_neg hr, if_pos (by rw [fndD_none he hk]; decide), fndD_none he hk]
    exact ⟨_, rfl, own_nil _ _, L, h1.out, hM, h2.out⟩
  · have hD0 : (fndD T P).2 = 0 := by rw [fndD_dir he hk]; exact he
    obtain ⟨d1, _, _, hLd⟩ := dir_is hI hP.nm hD0
    have hfu := full_iff hM hLd
    rw [← d1] at hfu
    by_cases hx : ∀ e ∈ L, ¬ Blw e.p P
    · refine (look8G_any w B b f d m L h hB hI hM P hP o.at_ o.n o.to_ o.data he hk hr hx).mono ?_
      rintro e w' ⟨rfl, h1, h2⟩
      have hem : ¬ ∃ k, (T.M (fndD T P).1.no k).isSome = true := fun e => by
        obtain ⟨x, hx1, hx2⟩ := hfu.2 e
        exact hx x hx1 hx2
      have hmo := mo_rmd hI hM hP.nm hr hD0 hem
      refine ⟨.slice none 0 0, ?_, ?_, wo P L, h1.out, hmo, h2.out⟩
      · unfold rmdT
        rw [if_neg hr, if_neg (fun e => e hD0), if_neg hem]
        rfl
      · unfold rmdT
        rw [if_neg hr, if_neg (fun e => e hD0), if_neg hem]
        exact own_nil _ _
    · refine (look8X_any w B b f d m L h hB hI hM P hP o.at_ o.n o.to_ o.data he hk hr hx).mono ?_
      rintro e w' ⟨rfl, h1, h2⟩
      have hem : ∃ k, (T.M (fndD T P).1.no k).isSome = true := hfu.1 (by
        refine Classical.byContradiction fun hn => hx fun e he hb => hn ⟨e, he, hb⟩)
      unfold Looked rmdT
      rw [if_neg hr, if_neg (fun e => e hD0), if_pos hem]
      exact ⟨_, rfl, own_nil _ _, L, h1.out, hM, h2.out⟩
  · refine (look8F_any w B b f d m L h hB hI hM P hP o.at_ o.n o.to_ o.data he hk hr).mono ?_
    rintro e w' ⟨rfl, h1, h2⟩
    unfold Looked rmdT
    rw [if_neg hr, if_pos (by rw [fndD_file he hk]; decide), fndD_file he hk]
    exact ⟨_, rfl, own_nil _ _, L, h1.out, hM, h2.out⟩
theorem look9_do (w : World) (B b f d m : Nat) (L : List En) (h : Mdl w B b f d m L) (hB : B ≤ w.heap.size) {T : Ts} {dp : Nat → Nat} (hI : Inv T dp) (hM : Mo T L) (P : List ByteArray) (hP : Vd P) (o : Op) :
    Calls Tryz.prog 49 #[.pointer (some ⟨b, 0, none⟩), .agg #[.int .i64 9, .string (tx P), .string o.to_, .int .i64 o.at_, .int .i64 o.n, .string o.data]] w (Looked (lisT T P) w B b f d m) := by
  by_cases he : ¬ (fndA T P).2 = 0
  · refine (look9E_any w B b f d m L h hB hI hM P hP o.at_ o.n o.to_ o.data he).mono ?_
    rintro e w' ⟨rfl, h1, h2⟩
    unfold Looked lisT
    rw [if_pos (by rw [fndD_err he]; exact he), fndD_err he]
    exact ⟨_, rfl, own_nil _ _, L, h1.out, hM, h2.out⟩
  replace he := Classical.not_not.1 he
  rcases kdT_vals hI hP.nm with hk | hk | hk
  · refine (look9N_any w B b f d m L h hB hI hM P hP o.at_ o.n o.to_ o.data he hk).mono ?_
    rintro e w' ⟨rfl, h1, h2⟩
    unfold Looked lisT
    rw [if_pos (by rw [fndD_none he hk]; decide), fndD_none he hk]
    exact ⟨_, rfl, own_nil _ _, L, h1.out, hM, h2.out⟩
  · have hD0 : (fndD T P).2 = 0 := by rw [fndD_dir he hk]; exact he
    obtain ⟨d1, _, _, hLd⟩ := dir_is hI hP.nm hD0
    have hnm := nms_keys hM hLd
    rw [← d1] at hnm
    refine (look9L_any w B b f d m L h hI hM P hP o.at_ o.n o.to_ o.data he hk).mono ?_
    rintro e w' ⟨u, rfl, h0, h1, h2⟩
    unfold Looked lisT
    rw [if_neg (fun e => e hD0)]
    refine ⟨u, rfl, ?_, L, h1.out, hM, h2.out⟩
    rw [hnm]
    exact owns_base h0.out (Nat.le_add_right _ _)
  · refine (look9F_any w B b f d m L h hB hI hM P hP o.at_ o.n o.to_ o.data he hk).mono ?_
    rintro e w' ⟨rfl, h1, h2⟩
    unfold Looked lisT
    rw [if_pos (by rw [fndD_file he hk]; decide), fndD_file he hk]
    exact ⟨_, rfl, own_nil _ _, L, h1.out, hM, h2.out⟩

end Go.Proofs.YtnfddiabhpandaaGreatDoor.Tr

namespace Go.Proofs.YtnfddiabhpandaaGreatDoor.Tr
open Go.RowKit Go.Lib Go.Deep

theorem look10_do (w : World) (B b f d m : Nat) (L : List En) (h : Mdl w B b f d m L) (hB : B ≤ w.heap.size) {T : Ts} {dp : Nat → Nat} (hI : Inv T dp) (hM : Mo T L) (P : List ByteArray) (hP : Vd P) (o : Op) :
    Calls Tryz.prog 49 #[.pointer (some ⟨b, 0, none⟩), .agg #[.int .i64 10, .string (tx P), .string o.to_, .int .i64 o.at_, .int .i64 o.n, .string o.data]] w (Looked (staT T P) w B b f d m) := by
  by_cases he : ¬ (fndA T P).2 = 0
  · refine (look10E_any w B b f d m L h hB hI hM P hP o.at_ o.n o.to_ o.data he).mono ?_
    rintro e w' ⟨rfl, h1, h2⟩
    unfold Looked staT
    rw [fndS_err he, if_pos he]
    exact ⟨_, rfl, own_nil _ _, L, h1.out, hM, h2.out⟩
  replace he := Classical.not_not.1 he
  rcases kdT_vals hI hP.nm with hk | hk | hk
  · refine (look10N_any w B b f d m L h hB hI hM P hP o.at_ o.n o.to_ o.data he hk).mono ?_
    rintro e w' ⟨rfl, h1, h2⟩
    unfold Looked staT
    rw [fndS_none he hk, if_pos (by decide)]
    exact ⟨_, rfl, own_nil _ _, L, h1.out, hM, h2.out⟩
  · refine (look10D_any w B b f d m L h hB hI hM P hP o.at_ o.n o.to_ o.data he hk).mono ?_
    rintro e w' ⟨rfl, h1, h2⟩
    unfold Looked staT
    rw [fndS_some he (by omega), if_neg (fun e => e he), if_pos ((kd_eq he).trans hk)]
    exact ⟨_, rfl, own_nil _ _, L, h1.out, hM, h2.out⟩
  · refine (look10F_any w B b f d m L h hB hI hM P hP o.at_ o.n o.to_ o.data he hk).mono ?_
    rintro e w' ⟨rfl, h1, h2⟩
    unfold Looked staT
    rw [fndS_some he (by omega), if_neg (fun e => e he), if_neg (fun e => by have := (kd_eq he).symm.trans e; omega)]
    exact ⟨_, rfl, own_nil _ _, L, h1.out, hM, h2.out⟩

end Go.Proofs.YtnfddiabhpandaaGreatDoor.Tr

namespace Go.Proofs.YtnfddiabhpandaaGreatDoor.Tr
open Go.RowKit Go.Lib Go.Deep

set_option maxRecDepth 20000 in
set_option maxHeartbeats 2000000 in
theorem doesE_any (w : World) (B b f d m : Nat) (L : List En) (h : Mdl w B b f d m L) (o : Op) (ha : ¬ askE o = 0) :
    Calls Tryz.prog 25 #[.pointer (some ⟨b, 0, none⟩), .agg #[.int .i64 o.kind, .string o.path, .string o.to_, .int .i64 o.at_, .int .i64 o.n, .string o.data]] w fun e w' => e = .returned (.agg #[.int .i64 (askE o), .string { data := #[] }, .int .i64 0, .slice none 0 0, .int .i64 0, .int .i64 0]) ∧ Hid (Mdl w' B b f d m L) ∧ Hid (Mfr B w w' b) := by
  obtain ⟨W, hW, hb, k0, k1⟩ := op_new w #[.int .i64 o.kind, .string o.path, .string o.to_, .int .i64 o.at_, .int .i64 o.n, .string o.data]
  have hWs : W.heap.size = w.heap.size + 2 := by rw [← hW]; simp
  obtain ⟨V, hV, hbV, kV⟩ := one_new W #[.int .i64 0, .string { data := #[] }, .int .i64 0, .slice none 0 0, .int .i64 0, .int .i64 0] 33
  rw [hWs] at kV
  have hbV' : Below w.heap.size w V := hb.trans (hbV.mono hb.size)
  obtain ⟨v0, v1, v2, v3, v4, v5⟩ := cells6 kV
  have fzV : ∀ j, V.frozen? ⟨w.heap.size + 2, j, none⟩ = false := fun j => frozen_of_heap kV
  have j0 := (hbV.block _ (heap_lt k0)).trans k0
  have j1 := (hbV.block _ (heap_lt k1)).trans k1
  obtain ⟨x0, x1, x2, x3, x4, x5⟩ := cells6 j0
  have HWR : Hid (∀ X : World, Calls Tryz.prog 46 #[.agg #[.int .i64 o.kind, .string o.path, .string o.to_, .int .i64 o.at_, .int .i64 o.n, .string o.data]] X fun e w' => e = .returned (.int .i64 (askE o)) ∧ Below X.heap.size X w') := fun X => wrong_any X o
  have HX : Hid (∀ w1, Below (put6 V (w.heap.size + 2) (.int .i64 0) (.string { data := #[] }) (.int .i64 0) (.slice none 0 0) (.int .i64 0) (.int .i64 0)).heap.size (put6 V (w.heap.size + 2) (.int .i64 0) (.string { data := #[] }) (.int .i64 0) (.slice none 0 0) (.int .i64 0) (.int .i64 0)) w1 → w1.heap[w.heap.size + 1]? = some (.cells #[.int .i64 0, .string { data := #[] }, .int .i64 0, .slice none 0 0, .int .i64 0, .int .i64 0] 33 (0, 0)) ∧ w1.heap[w.heap.size + 2]? = some (.cells #[.int .i64 0, .string { data := #[] }, .int .i64 0, .slice none 0 0, .int .i64 0, .int .i64 0] 33 (0, 0)) ∧ Mdl w1 B b f d m L ∧ Mfr B w w1 b) := fun w1 hb1 => by
    obtain ⟨u1, u2, u3⟩ := put6_all (h.below hbV') (mfr_below (b := b) hbV') (show w.heap.size ≤ w.heap.size + 2 by omega) kV (.int .i64 0) (.string { data := #[] }) (.int .i64 0) (.slice none 0 0) (.int .i64 0) (.int .i64 0)
    have hne : ∀ (X : World) (j : Nat) (y : Value), (X.setCell ⟨w.heap.size + 2, j, none⟩ y).heap[w.heap.size + 1]? = X.heap[w.heap.size + 1]? := fun X j y => heap_setCell_other _ _ _ _ (by show w.heap.size + 1 ≠ w.heap.size + 2; omega)
    have hk : (put6 V (w.heap.size + 2) (.int .i64 0) (.string { data := #[] }) (.int .i64 0) (.slice none 0 0) (.int .i64 0) (.int .i64 0)).heap[w.heap.size + 1]? = some (.cells #[.int .i64 0, .string { data := #[] }, .int .i64 0, .slice none 0 0, .int .i64 0, .int .i64 0] 33 (0, 0)) := by
      simp only [put6, hne]
      exact j1
    exact ⟨(hb1.block _ (heap_lt hk)).trans hk, (hb1.block _ (heap_lt u1)).trans u1, u2.below hb1, u3.trans (mfr_below hb1)⟩
  clear k0 k1 hb hbV hbV' j0 j1 kV h
  generalize askE o = E at *
  have heb : (E == 0) = false := by simpa using ha
  go_enter Tryz.func25, Tryz.ntmps25
  go_wp2_with fail
  refine (HWR.out _).mono ?_
  rintro e w1 ⟨rfl, hb1⟩
  obtain ⟨q1, q2, hm1, hf1⟩ := HX.out w1 hb1
  have q3 : (w1.setCell ⟨w.heap.size + 2, 0, none⟩ (.int .i64 E)).heap[w.heap.size + 1]? = _ := (heap_setCell_other _ _ _ _ (by show w.heap.size + 1 ≠ w.heap.size + 2; omega)).trans q1
  obtain ⟨u1, u2, u3⟩ := put6_all (V := w1.setCell ⟨w.heap.size + 2, 0, none⟩ (.int .i64 E)) (mdl_fresh hm1 q2) (mfr_fresh hf1 (by omega)) (show w.heap.size ≤ w.heap.size + 1 by omega) q3 (.int .i64 E) (.string { data := #[] }) (.int .i64 0) (.slice none 0 0) (.int .i64 0) (.int .i64 0)
  have HU1 : Hid (Unit → _) := fun _ => u1
  have HU2 : Hid _ := u2
  have HU3 : Hid _ := u3
  obtain ⟨s0, s1, s2, s3, s4, s5⟩ := cells6 q1
  obtain ⟨t0, t1, t2, t3, t4, t5⟩ := cells6 q2
  have fz1 : ∀ j, w1.frozen? ⟨w.heap.size + 1, j, none⟩ = false := fun j => frozen_of_heap q1
  have fz2 : ∀ j, w1.frozen? ⟨w.heap.size + 2, j, none⟩ = false := fun j => frozen_of_heap q2
  clear u1 u2 u3 q1 q2 q3 hm1 hf1 hb1 v0 v1 v2 v3 v4 v5 x0 x1 x2 x3 x4 x5 fzV hV hW hWs
  go_wp2
  refine bodyPost_ret (results_cell1 rfl _ _ (w.heap.size + 1) 33 _ (0, 0) _ rfl (HU1.out ()) Tryz.underlying33 rfl sizeRes) rfl ?_
  exact ⟨rfl, HU2, HU3⟩

end Go.Proofs.YtnfddiabhpandaaGreatDoor.Tr

namespace Go.Proofs.YtnfddiabhpandaaGreatDoor.Tr
open Go.RowKit Go.Lib Go.Deep

/-- what does answers of a tree -/
def Done (A : Ans) (w : World) (B b f d m : Nat) (e : Ending) (w' : World) : Prop := ∃ u, e = .returned (.agg #[.int .i64 A.1.code, .string { data := #[] }, .int .i64 A.1.n, u, .int .i64 A.1.kind, .int .i64 A.1.size]) ∧ Pa.Own w' w.heap.size u A.1.names ∧ ∃ L', Mdl w' B b f d m L' ∧ Mo A.2.2 L' ∧ Mfr B w w' b

end Go.Proofs.YtnfddiabhpandaaGreatDoor.Tr
