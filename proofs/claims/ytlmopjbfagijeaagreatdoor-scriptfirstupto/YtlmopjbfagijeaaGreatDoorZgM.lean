import Derived.Test.YtlmopjbfagijeaaGreatDoorZfM
namespace Go.Proofs.YtlmopjbfagijeaaGreatDoor.Sc
open Go.RowKit Go.Lib Go.Deep
open Go.Proofs.YtlmopjbfagijeaaGreatDoor.Sq (owns_keep owns_below owns_base owns_block owns_form2)

theorem moved_last {V V0 : List ActV} {y : ActV} (h : Moved V (V0 ++ [y])) : ∃ U x, V = U ++ [x] ∧ Moved U V0 ∧ y.1.nops = x.1.nops ∧ y.2 = x.2 ∧ ∃ a c, y = ({ x.1 with ops := a, cops := c }, x.2) := by
  obtain ⟨h1, h2⟩ := h
  have hV : V ≠ [] := by
    intro e
    rw [e] at h1
    simp at h1
  obtain ⟨U, x, rfl⟩ : ∃ U x, V = U ++ [x] := ⟨_, _, (List.dropLast_concat_getLast hV).symm⟩
  have hUl : U.length = V0.length := by simpa using h1.symm
  refine ⟨U, x, rfl, ⟨hUl.symm, fun i z hz => ?_⟩, ?_⟩
  · have hi := (List.getElem?_eq_some_iff.1 hz).1
    obtain ⟨a, c, e⟩ := h2 i z (by rw [List.getElem?_append_left hi]; exact hz)
    rw [List.getElem?_append_left (by omega)] at e
    exact ⟨a, c, e⟩
  · obtain ⟨a, c, e⟩ := h2 U.length x (by rw [List.getElem?_append_right (Nat.le_refl _)]; simp)
    rw [List.getElem?_append_right (by omega), hUl, Nat.sub_self] at e
    obtain rfl : y = _ := Option.some.inj e
    exact ⟨rfl, rfl, a, c, rfl⟩
theorem only_below {S : List Nat} {w w' : World} (h : Only S w w') {B : Nat} (hB : B ≤ w.heap.size) (hS : ∀ k ∈ S, B ≤ k) : Below B w w' :=
  ⟨h.os, h.tape, h.output, h.size, fun k hk => h.block k (Nat.lt_of_lt_of_le hk hB) (fun hm => by have := hS k hm; omega)⟩
/-- rows stay where the reader's own block alone changes -/
theorem only_row {rb : Nat} {pl sd : Int} {q : PlR} {p v : Value} {w w' : World} (hR : Rb rb pl sd q p v w) (h : Only [rb] w w') {B e sz n : Nat} {y : Value} {xs : List Value} (ho : w.ownsRow B e sz y n xs) (hne : e ≠ 83) : w'.ownsRow B e sz y n xs :=
  owns_keep ho fun g hg => h.block g (ho.lt g hg).2 (by simpa using hR.no5 ho hne hg)
theorem MemV.only {B rb : Nat} {S S' : St} {sd N : Int} {V : List ActV} {ao : Option Addr} {ac : Nat} {p v : Value} {w w' : World} (M : MemV B rb S sd N V ao ac p v w) (h : Only [rb] w w') (hR : Rb rb S'.pl sd (S'.q ao V.length ac) p v w') (hV : S'.V = S.V) (ht : S'.tape = S.tape) (h4 : S'.pl = 4 → V ≠ []) (h5 : 0 ≤ S'.pl ∧ S'.pl ≤ 4) : Mem B rb S' sd (N + 1) w' := by
  have k : ∀ {B e sz n : Nat} {y : Value} {xs : List Value}, w.ownsRow B e sz y n xs → e ≠ 83 → w'.ownsRow B e sz y n xs := fun ho hne => only_row M.rd h ho hne
  refine ⟨V, ao, ac, p, v, M.hB, hR, M.pp, ?_, ?_, ?_, k M.row (by decide), fun x hx => k (M.ops x hx) (by decide), M.apart, by have := M.sd0; omega, by have := M.len; omega, fun x hx => by have := M.lens x hx; omega, ?_, h4, h5⟩
  · rw [ht]
    exact k M.tp (by decide)
  · rw [ht]
    exact M.tn
  · rw [hV]
    exact M.mv
  · rw [ht]
    have := M.tlen
    omega
theorem op_step (B rb : Nat) (S : St) (sd N : Int) (x : ByteArray) (r : List ByteArray) (hpl : S.pl = 4) (hs : ∀ y ∈ x :: r, y.size ≤ 8388608) (hlen : (x :: r).length ≤ 8388608) (hN : N ≤ 20000) (b off c : Nat) (w : World) (hm : Mem B rb S sd N w) (hl : Ls (x :: r) b off c w) (hG : GlB B w) :
    Calls Tryz.prog 118 #[.pointer (some ⟨rb, 0, none⟩), .slice (some ⟨b, off, none⟩) (x :: r).length c] w fun e w' => ∃ cd, e = .returned (.int .i64 cd) ∧ Aft B rb sd N w (stepS S (x :: r)) e w' := by
  obtain ⟨V, ao, ac, p, v, M⟩ := hm
  have hn3 : ¬ S.pl = 3 := by omega
  have hst : stepS S (x :: r) = if x = endW then toS S r else if (tellO (x :: r)).2.2 ≠ 0 then (S, (tellO (x :: r)).2.2) else ({ S with V := addOp S.V { (tellO (x :: r)).2.1 with kind := (tellO (x :: r)).1 } }, 0) := by
    show (if S.pl = 3 then _ else if S.pl = 4 then _ else _) = _
    rw [if_neg hn3, if_pos hpl]
  rw [hst]
  by_cases hx : x = endW
  · subst hx
    rw [if_pos rfl]
    have hE := rop_end rb S.pl sd (S.q ao V.length ac) p v r b off c w M.rd hl
    by_cases hr : r = []
    · subst hr
      show Calls _ _ _ _ fun e w' => ∃ cd, e = .returned (.int .i64 cd) ∧ Aft B rb sd N w ({ S with pl := 3 }, 0) e w'
      refine hE.mono ?_
      rintro e w' ⟨rfl, hR, ho⟩
      exact ⟨0, rfl, rfl, only_below ho hG.le (by simpa using M.hB), fun _ => M.only ho hR rfl rfl (fun h => absurd (show (3 : Int) = 4 from h) (by decide)) ⟨show (0 : Int) ≤ 3 by decide, show (3 : Int) ≤ 4 by decide⟩⟩
    · rw [toS_no S hr]
      have h1 : ¬ (endW :: r).length = 1 := fun e => hr (List.length_eq_zero_iff.1 (by simpa using e))
      rw [if_neg h1] at hE
      refine hE.mono ?_
      rintro e w' ⟨rfl, hR, ho⟩
      exact ⟨223, rfl, rfl, only_below ho hG.le (by simpa using M.hB), fun h => absurd h (show (223 : Int) ≠ 0 by decide)⟩
  rw [if_neg hx]
  have ht := toldOV_tell x r
  obtain ⟨hc0, hc1⟩ := tellO_code (x :: r)
  generalize tellO (x :: r) = t at *
  obtain ⟨kd, o, cd⟩ := t
  dsimp only at hst ht hc0 hc1 ⊢
  by_cases hcd : cd = 0
  · subst hcd
    rw [if_neg (by simp)]
    obtain ⟨V0, y, hVy⟩ : ∃ V0 y, V = V0 ++ [y] := ⟨_, _, (List.dropLast_concat_getLast (M.in4 hpl)).symm⟩
    have hap := M.apart V0 y hVy
    have hlen2 := M.lens y (by rw [hVy]; simp)
    have hopy := M.ops y (by rw [hVy]; simp)
    have hlenV := M.len
    have hVl : V.length = V0.length + 1 := by rw [hVy]; simp
    obtain ⟨ab, ac', hao⟩ := owns_form2 M.row (by omega)
    injection hao with e1 _ _
    have hmap : (V.map fun z : ActV => z.1) = (V0.map fun z : ActV => z.1) ++ [y.1] := by rw [hVy, List.map_append]; rfl
    have hrow := M.row
    rw [hmap] at hrow
    refine (rop_ok B rb ab V0.length S.pl sd (S.q ao V.length ac) p v (V0.map fun z : ActV => z.1) y.1 y.2 x r hx hs hlen kd o ht b off c w M.rd (by simp) (by omega) e1 hVl (by omega) hrow hopy hl hG).mono ?_
    rintro e w' ⟨a', c', rfl, hR, hrow', hop', hF, hW⟩
    have hrl := World.ownsRow.lt M.row
    subst e1
    refine ⟨0, rfl, rfl, hF.below hG.le (hrl ab rfl).1 (fun g hg => (World.ownsRow.lt hopy g hg).1), fun _ => ?_⟩
    obtain ⟨U, u, hU, hmv, hnu, hlu, ou, cu, hyu⟩ := moved_last (show Moved S.V (V0 ++ [y]) by rw [← hVy]; exact M.mv)
    have hq : S.q (some ⟨ab, 0, none⟩) (V0 ++ [({ y.1 with ops := a', nops := y.1.nops + 1, cops := c' }, y.2 ++ [{ o with kind := kd }])]).length ac = S.q (some ⟨ab, 0, none⟩) V.length ac := by rw [hVl]; simp
    have hnb : ∀ {B e sz n : Nat} {z : Value} {xs : List Value}, w.ownsRow B e sz z n xs → e ≠ 36 → e ≠ 54 → w'.ownsRow B e sz z n xs := fun {B e sz n z xs} ho h1 h2 =>
      hF.row ho fun g hg => ⟨fun e1 => row_ne ho M.row h1 hg (by rw [e1]; rfl), row_ne ho hopy h2 hg⟩
    refine ⟨V0 ++ [({ y.1 with ops := a', nops := y.1.nops + 1, cops := c' }, y.2 ++ [{ o with kind := kd }])], some ⟨ab, 0, none⟩, ac, p, v, M.hB, ?_, M.pp, hnb M.tp (by decide) (by decide), M.tn, ?_, ?_, ?_, ?_, by have := M.sd0; omega, ?_, ?_, ?_, ?_, M.plr⟩
    · show Rb rb S.pl sd (S.q _ _ _) p v w'
      rw [hq]
      exact hR
    · show Moved (addOp S.V _) _
      rw [hU, addOp_snoc]
      refine moved_snoc hmv ⟨a', c', ?_⟩
      rw [hyu]
    · rw [List.map_append, List.length_append]
      have h := hrow'
      rw [show (S.q (some ⟨ab, 0, none⟩) V.length ac).nacts = V0.length + 1 from hVl] at h
      exact h
    · intro z hz
      rcases List.mem_append.1 hz with hz | hz
      · have hzo := M.ops z (by rw [hVy]; exact List.mem_append_left _ hz)
        exact hF.row hzo fun g hg => ⟨fun e1 => row_ne hzo M.row (by decide) hg (by rw [e1]; rfl), hap z hz g hg⟩
      · rw [List.mem_singleton] at hz
        subst hz
        exact hop'
    · intro V1 z hz y1 hy1 g hg hg2
      obtain ⟨h1, h2⟩ := List.append_inj' hz rfl
      obtain rfl := (List.cons.inj h2).1
      subst h1
      have hzo := M.ops y1 (by rw [hVy]; exact List.mem_append_left _ hy1)
      exact hap y1 hy1 g hg (hW g hg2 (World.ownsRow.lt hzo g hg).2)
    · rw [List.length_append]
      simp only [List.length_singleton]
      omega
    · intro z hz
      rcases List.mem_append.1 hz with hz | hz
      · have := M.lens z (by rw [hVy]; exact List.mem_append_left _ hz)
        omega
      · rw [List.mem_singleton] at hz
        subst hz
        show ((y.1.nops + 1 : Nat) : Int) ≤ _
        omega
    · have := M.tlen
      show (S.tape.length : Int) ≤ _
      omega
    · intro _
      simp
  · rw [if_pos hcd]
    refine (rop_no B rb S.pl sd (S.q ao V.length ac) p v x r hx hs hlen kd o cd ht hcd ⟨hc0, hc1⟩ b off c w M.rd hl hG).mono ?_
    rintro e w' ⟨rfl, -, hb⟩
    exact ⟨cd, rfl, rfl, hb.mono hG.le, fun h => absurd h hcd⟩
end Go.Proofs.YtlmopjbfagijeaaGreatDoor.Sc

namespace Go.Proofs.YtlmopjbfagijeaaGreatDoor.Sc
open Go.RowKit Go.Lib Go.Deep
open Go.Proofs.YtlmopjbfagijeaaGreatDoor.Sq (owns_keep owns_below owns_base owns_block owns_form2)

section
variable {B rb : Nat} {S : St} {sd N : Int} {V : List ActV} {ao : Option Addr} {ac : Nat} {p v : Value} {w : World} {r : List ByteArray} {b off c : Nat}
theorem cfg_step (M : MemV B rb S sd N V ao ac p v w) (hs : ∀ y ∈ r, y.size ≤ 262144) (hl : Ls (cfgW :: r) b off c w) (hG : GlB B w) :
    Calls Tryz.prog 143 #[.pointer (some ⟨rb, 0, none⟩), .slice (some ⟨b, off, none⟩) (r.length + 1) c] w fun e w' => ∃ cd, e = .returned (.int .i64 cd) ∧ Aft B rb sd N w (cfgS S r) e w' := by
  by_cases h6 : r.length = 6
  · obtain ⟨x1, x2, x3, x4, x5, x6, rfl⟩ := len6 h6
    have h : ∀ y ∈ [x1, x2, x3, x4, x5, x6], y.size ≤ 8388608 := fun y hy => Nat.le_trans (hs y hy) (by decide)
    refine (config7_any B rb S.pl sd (S.q ao V.length ac) p v cfgW x1 x2 x3 x4 x5 x6 (h x1 (by simp)) (h x2 (by simp)) (h x3 (by simp)) (h x4 (by simp)) (h x5 (by simp)) (h x6 (by simp)) b off c w M.rd hl hG).mono ?_
    rintro e w' ⟨rfl, hR, ho⟩
    exact ⟨_, rfl, rfl, only_below ho hG.le (by simpa using M.hB), fun _ => M.only ho hR rfl rfl (fun h => absurd (show (1 : Int) = 4 from h) (by decide)) ⟨show (0 : Int) ≤ 1 by decide, show (1 : Int) ≤ 4 by decide⟩⟩
  · rw [cfgS_no S h6]
    refine (config_no rb (some ⟨b, off, none⟩) (r.length + 1) c (by omega) w).mono ?_
    rintro e w' ⟨rfl, rfl⟩
    exact ⟨223, rfl, rfl, Below.refl _ _, fun h => absurd h (show (223 : Int) ≠ 0 by decide)⟩
theorem seal_step (M : MemV B rb S sd N V ao ac p v w) (hs : ∀ y ∈ r, y.size ≤ 262144) (hl : Ls (sealW :: r) b off c w) (hG : GlB B w) :
    Calls Tryz.prog 144 #[.pointer (some ⟨rb, 0, none⟩), .slice (some ⟨b, off, none⟩) (r.length + 1) c] w fun e w' => ∃ cd, e = .returned (.int .i64 cd) ∧ Aft B rb sd N w (sealS S r) e w' := by
  have hB := M.hB
  by_cases h1 : r.length = 1
  · obtain ⟨x1, rfl⟩ := len1 h1
    by_cases h : x1 = idealW
    · rw [show sealS S [x1] = ({ S with pl := 2, ideal := true }, 0) from if_pos h]
      subst h
      refine (seal_ideal rb S.pl sd (S.q ao V.length ac) p v sealW b off c w M.rd hl).mono ?_
      rintro e w' ⟨rfl, hR, ho⟩
      exact ⟨_, rfl, rfl, only_below ho hG.le (by simpa using M.hB), fun _ => M.only ho hR rfl rfl (fun h => absurd (show (2 : Int) = 4 from h) (by decide)) ⟨show (0 : Int) ≤ 2 by decide, show (2 : Int) ≤ 4 by decide⟩⟩
    · rw [show sealS S [x1] = (S, 224) from if_neg h]
      refine (seal_bad rb S.pl sd (S.q ao V.length ac) p v [sealW, x1] 2 rfl x1 rfl b off c (.inl ⟨rfl, h⟩) w M.rd hl).mono ?_
      rintro e w' ⟨rfl, -, ho⟩
      exact ⟨224, rfl, rfl, only_below ho hG.le (by simpa using hB), fun h => absurd h (show (224 : Int) ≠ 0 by decide)⟩
  by_cases h2 : r.length = 2
  · obtain ⟨x1, x2, rfl⟩ := len2 h2
    by_cases h : x1 = realW
    · rw [show sealS S [x1, x2] = ({ S with pl := 2, master := rH x2 }, if (false || bH x2) = true then 224 else 0) from if_pos h]
      subst h
      refine (seal_real rb S.pl sd (S.q ao V.length ac) p v sealW x2 (Nat.le_trans (hs x2 (by simp)) (by decide)) b off c w M.rd hl).mono ?_
      rintro e w' ⟨rfl, hR, ho⟩
      exact ⟨_, rfl, rfl, only_below ho hG.le (by simpa using M.hB), fun _ => M.only ho hR rfl rfl (fun h => absurd (show (2 : Int) = 4 from h) (by decide)) ⟨show (0 : Int) ≤ 2 by decide, show (2 : Int) ≤ 4 by decide⟩⟩
    · rw [show sealS S [x1, x2] = (S, 224) from if_neg h]
      refine (seal_bad rb S.pl sd (S.q ao V.length ac) p v [sealW, x1, x2] 3 rfl x1 rfl b off c (.inr ⟨rfl, h⟩) w M.rd hl).mono ?_
      rintro e w' ⟨rfl, -, ho⟩
      exact ⟨224, rfl, rfl, only_below ho hG.le (by simpa using hB), fun h => absurd h (show (224 : Int) ≠ 0 by decide)⟩
  · rw [sealS_no S h1 h2]
    refine (seal_len rb S.pl sd (S.q ao V.length ac) p v (some ⟨b, off, none⟩) (r.length + 1) c (by omega) (by omega) w M.rd).mono ?_
    rintro e w' ⟨rfl, -, ho⟩
    exact ⟨223, rfl, rfl, only_below ho hG.le (by simpa using hB), fun h => absurd h (show (223 : Int) ≠ 0 by decide)⟩
theorem acts_step (M : MemV B rb S sd N V ao ac p v w) (hG : GlB B w) :
    Calls Tryz.prog 141 #[.pointer (some ⟨rb, 0, none⟩), .slice (some ⟨b, off, none⟩) (r.length + 1) c] w fun e w' => ∃ cd, e = .returned (.int .i64 cd) ∧ Aft B rb sd N w (toS S r) e w' := by
  have hT := toActs_any rb S.pl sd (S.q ao V.length ac) p v (some ⟨b, off, none⟩) (r.length + 1) c w M.rd
  by_cases hr : r = []
  · subst hr
    refine hT.mono ?_
    rintro e w' ⟨rfl, hR, ho⟩
    exact ⟨0, rfl, rfl, only_below ho hG.le (by simpa using M.hB), fun _ => M.only ho hR rfl rfl (fun h => absurd (show (3 : Int) = 4 from h) (by decide)) ⟨show (0 : Int) ≤ 3 by decide, show (3 : Int) ≤ 4 by decide⟩⟩
  · rw [toS_no S hr]
    have h1 : ¬ r.length + 1 = 1 := fun e => hr (List.length_eq_zero_iff.1 (by omega))
    rw [if_neg h1] at hT
    refine hT.mono ?_
    rintro e w' ⟨rfl, hR, ho⟩
    exact ⟨223, rfl, rfl, only_below ho hG.le (by simpa using M.hB), fun h => absurd h (show (223 : Int) ≠ 0 by decide)⟩
theorem row_oth {w' : World} (ho : Oth rb w w') (M : MemV B rb S sd N V ao ac p v w) {B' e sz n : Nat} {y : Value} {xs : List Value} (hy : w.ownsRow B' e sz y n xs) (h5 : e ≠ 5) (hr : e ≠ 83) : w'.ownsRow B' e sz y n xs :=
  owns_keep hy fun g hg => by
    obtain ⟨cur, hc⟩ := owns_block hy hg
    rw [hc]
    exact ho.cells (M.rd.no5 hy hr hg) h5 hc
theorem tape_step (M : MemV B rb S sd N V ao ac p v w) (hs : ∀ y ∈ r, y.size ≤ 262144) (hl : Ls (tapeW :: r) b off c w) (hG : GlB B w) (hN : N ≤ 20000) :
    Calls Tryz.prog 145 #[.pointer (some ⟨rb, 0, none⟩), .slice (some ⟨b, off, none⟩) (r.length + 1) c] w fun e w' => ∃ cd, e = .returned (.int .i64 cd) ∧ Aft B rb sd N w (tapeS S r) e w' := by
  by_cases h1 : r.length = 1
  · obtain ⟨x1, rfl⟩ := len1 h1
    have hx1 := hs x1 (by simp)
    have hne : v.ownBlock ≠ some rb := fun e => M.rd.no5 M.tp (by decide) e rfl
    have hz : Bz S.pl sd (S.q ao V.length ac) B rb S.tape w := by
      have h : BzAt S.pl sd (S.q ao V.length ac) B rb p S.tape w := ⟨M.hB, v, M.rd, M.tp, hne, M.tn⟩
      rcases M.pp with e | e
      · rw [e] at h; exact .inl h
      · rw [e] at h; exact .inr h
    have ht := M.tlen
    refine (piece2_any B rb S.pl sd (S.q ao V.length ac) S.tape tapeW x1 (Nat.le_trans hx1 (by decide)) (by omega) b off c w hz hl hG.le).mono ?_
    rintro e w' ⟨rfl, hz', hb, ho⟩
    refine ⟨_, rfl, rfl, hb, fun _ => ?_⟩
    have hrs := rH_size x1
    have key : ∀ p', (p' = .pointer none ∨ p' = .pointer (some ⟨rb, 12, none⟩)) → BzAt S.pl sd (S.q ao V.length ac) B rb p' (S.tape ++ (rH x1).data.toList) w' → Mem B rb { S with tape := S.tape ++ (rH x1).data.toList } sd (N + 1) w' := fun p' hp' h => by
      obtain ⟨hB, v', hbk, hown, hne', hn0⟩ := h
      refine ⟨V, ao, ac, p', v', M.hB, hbk, hp', hown, hn0, M.mv, row_oth ho M M.row (by decide) (by decide), fun x hx => row_oth ho M (M.ops x hx) (by decide) (by decide), M.apart, by have := M.sd0; omega, by have := M.len; omega, fun x hx => by have := M.lens x hx; omega, ?_, M.in4, M.plr⟩
      show (((S.tape ++ (rH x1).data.toList).length : Nat) : Int) ≤ _
      rw [List.length_append, ← size_eq]
      omega
    rcases hz' with h | h
    · exact key _ (.inl rfl) h
    · exact key _ (.inr rfl) h
  · rw [tapeS_no S h1]
    refine (piece_no rb (some ⟨b, off, none⟩) (r.length + 1) c (by omega) w).mono ?_
    rintro e w' ⟨rfl, rfl⟩
    exact ⟨223, rfl, rfl, Below.refl _ _, fun h => absurd h (show (223 : Int) ≠ 0 by decide)⟩
end
end Go.Proofs.YtlmopjbfagijeaaGreatDoor.Sc

namespace Go.Proofs.YtlmopjbfagijeaaGreatDoor.Sc
open Go.RowKit Go.Lib Go.Deep
open Go.Proofs.YtlmopjbfagijeaaGreatDoor.Sq (owns_keep owns_below owns_base owns_block owns_form2)
open Go.Proofs.YtlmopjbfagijeaaGreatDoor.Pa (glue cutS cut_glue glue_cons)

theorem head_step (B rb : Nat) (S : St) (sd N : Int) (x : ByteArray) (r : List ByteArray) (h3 : S.pl ≠ 3) (h4 : S.pl ≠ 4) (hs : ∀ y ∈ x :: r, y.size ≤ 262144) (hN : N ≤ 20000) (b off c : Nat) (w : World) (hm : Mem B rb S sd N w) (hl : Ls (x :: r) b off c w) (hG : GlB B w) :
    Calls Tryz.prog 119 #[.pointer (some ⟨rb, 0, none⟩), .slice (some ⟨b, off, none⟩) (r.length + 1) c] w fun e w' => ∃ cd, e = .returned (.int .i64 cd) ∧ Aft B rb sd N w (stepS S (x :: r)) e w' := by
  obtain ⟨V, ao, ac, p, v, M⟩ := hm
  have hst : stepS S (x :: r) = if S.pl = 0 then (if x = cfgW then cfgS S r else (S, 220)) else if S.pl = 1 then (if x = sealW then sealS S r else (S, 220)) else if x = tapeW then tapeS S r else if x = actsW then toS S r else (S, 220) := by
    show (if S.pl = 3 then _ else if S.pl = 4 then _ else _) = _
    rw [if_neg h3, if_neg h4]
  rw [hst]
  have hr : ∀ y ∈ r, y.size ≤ 262144 := fun y hy => hs y (List.mem_cons_of_mem _ hy)
  have k0 := M.rd.cells.1
  have x0 : w.cell? ⟨b, off, none⟩ = some (.string x) := hl.at_ 0 _ rfl
  have hno : ∀ (t : St × Int) (e : Ending) (w' : World), t = (S, 220) → e = .returned (.int .i64 220) ∧ w' = w → ∃ cd, e = .returned (.int .i64 cd) ∧ Aft B rb sd N w t e w' := by
    rintro t e w' rfl ⟨rfl, rfl⟩
    exact ⟨220, rfl, rfl, Below.refl _ _, fun h => absurd h (show (220 : Int) ≠ 0 by decide)⟩
  have plr := M.plr
  have hwr : ∀ {f : FuncId} {a : Array Value} {t : St × Int}, Calls Tryz.prog f a w (fun e w' => ∃ cd, e = .returned (.int .i64 cd) ∧ Aft B rb sd N w t e w') → Calls Tryz.prog f a w (fun e w' => ∃ cd, e = .returned (.int .i64 cd) ∧ ∃ cd, e = .returned (.int .i64 cd) ∧ Aft B rb sd N w t e w') := fun h => h.mono fun e w' ⟨cd, e1, e2⟩ => ⟨cd, e1, cd, e1, e2⟩
  by_cases h0 : S.pl = 0
  · rw [if_pos h0]
    rw [h0] at k0
    by_cases hx : x = cfgW
    · rw [if_pos hx]
      subst hx
      exact head_cfg k0 x0 (hwr (cfg_step M hr hl hG))
    · rw [if_neg hx]
      exact (head_no0 hx k0 x0).mono fun e w' h => hno _ e w' rfl h
  rw [if_neg h0]
  by_cases h1 : S.pl = 1
  · rw [if_pos h1]
    rw [h1] at k0
    by_cases hx : x = sealW
    · rw [if_pos hx]
      subst hx
      exact head_seal k0 x0 (hwr (seal_step M hr hl hG))
    · rw [if_neg hx]
      exact (head_no1 hx k0 x0).mono fun e w' h => hno _ e w' rfl h
  rw [if_neg h1]
  have h2 : S.pl = 2 := by omega
  rw [h2] at k0
  by_cases hx : x = tapeW
  · rw [if_pos hx]
    subst hx
    exact head_tape k0 x0 (hwr (tape_step M hr hl hG hN))
  rw [if_neg hx]
  by_cases hy : x = actsW
  · rw [if_pos hy]
    subst hy
    exact head_acts k0 x0 (hwr (acts_step M hG))
  · rw [if_neg hy]
    exact (head_no2 hx hy k0 x0).mono fun e w' h => hno _ e w' rfl h
/-- a line: the state, the lines that said something, the code -/
noncomputable def lineS (S : St) (N : Int) (s : ByteArray) : St × Int × Int :=
  if 262144 < s.size then (S, N, 221) else match s.data.toList with
  | [] => (S, N, 0)
  | x :: _ => if x = 35 then (S, N, 0) else if N = 20000 then (S, N, 226) else ((stepS S (wordsB s)).1, N + 1, (stepS S (wordsB s)).2)
theorem glue_mem (d : UInt8) (ps : List (List UInt8)) : ∀ q ∈ ps, q.length ≤ (glue d ps).length := by
  induction ps with
  | nil => intro q hq; cases hq
  | cons a ps ih =>
    intro q hq
    rw [glue_cons]
    simp only [List.length_append, List.length_singleton]
    rcases List.mem_cons.1 hq with rfl | hq
    · omega
    · have := ih q hq
      omega
theorem wordsB_size (s : ByteArray) : ∀ y ∈ wordsB s, y.size ≤ s.size := by
  intro y hy
  unfold wordsB prts at hy
  obtain ⟨q, hq, rfl⟩ := List.mem_map.1 hy
  rw [str_size]
  have h := (cut_glue 32 s.data.toList).1
  have hl : (glue 32 (cutS 32 s.data.toList).1).length + (cutS 32 s.data.toList).2.length = s.size := by
    rw [← List.length_append, h, ← size_eq]
  rcases List.mem_append.1 hq with hq | hq
  · have := glue_mem 32 _ q hq
    omega
  · rw [List.mem_singleton] at hq
    subst hq
    omega
theorem MemV.said {B rb : Nat} {S : St} {sd N : Int} {V : List ActV} {ao : Option Addr} {ac : Nat} {p v : Value} {w : World} (M : MemV B rb S sd N V ao ac p v w) (x : Int) (o : Obj) : MemV B rb S x N V ao ac p v ((w.setCell ⟨rb, 1, none⟩ (.int .i64 x)).alloc o) := by
  have k : ∀ {B e sz n : Nat} {y : Value} {xs : List Value}, w.ownsRow B e sz y n xs → e ≠ 83 → ((w.setCell ⟨rb, 1, none⟩ (.int .i64 x)).alloc o).ownsRow B e sz y n xs := fun ho hne => (M.rd.keeps ho hne 1 _).alloc o
  exact ⟨M.hB, (M.rd.set1 x).alloc o, M.pp, k M.tp (by decide), M.tn, M.mv, k M.row (by decide), fun y hy => k (M.ops y hy) (by decide), M.apart, M.sd0, M.len, M.lens, M.tlen, M.in4, M.plr⟩
theorem line_step (B rb : Nat) (S : St) (N : Int) (s : ByteArray) (hN : 0 ≤ N ∧ N ≤ 20000) (w : World) (hm : Mem B rb S N N w) (hG : GlB B w) :
    Calls Tryz.prog 74 #[.pointer (some ⟨rb, 0, none⟩), .string s] w fun e w' => e = .returned (.int .i64 (lineS S N s).2.2) ∧ Below B w w' ∧ ((lineS S N s).2.2 = 0 → Mem B rb (lineS S N s).1 (lineS S N s).2.1 (lineS S N s).2.1 w') := by
  unfold lineS
  by_cases h1 : 262144 < s.size
  · rw [if_pos h1]
    refine (line_long h1).mono ?_
    rintro e w' ⟨rfl, rfl⟩
    exact ⟨rfl, Below.refl _ _, fun h => absurd h (show (221 : Int) ≠ 0 by decide)⟩
  rw [if_neg h1]
  have h1' : s.size ≤ 262144 := by omega
  cases hs : s.data.toList with
  | nil =>
    dsimp only
    refine (line_none (ByteArray.ext (Array.toList_inj.1 hs))).mono ?_
    rintro e w' ⟨rfl, rfl⟩
    exact ⟨rfl, Below.refl _ _, fun _ => hm⟩
  | cons x l =>
    dsimp only
    by_cases hx : x = 35
    · rw [if_pos hx]
      subst hx
      refine (line_said h1' hs).mono ?_
      rintro e w' ⟨rfl, rfl⟩
      exact ⟨rfl, Below.refl _ _, fun _ => hm⟩
    rw [if_neg hx]
    obtain ⟨V, ao, ac, p, v, M⟩ := hm
    by_cases h2 : N = 20000
    · rw [if_pos h2]
      obtain ⟨-, k1, -, -, -, -, -, -, -, -, -, kf⟩ := M.rd.cells
      refine (line_many h1' hs hx k1 kf h2).mono ?_
      rintro e w' ⟨rfl, ho⟩
      exact ⟨rfl, only_below ho hG.le (by simpa using M.hB), fun h => absurd h (show (226 : Int) ≠ 0 by decide)⟩
    rw [if_neg h2]
    have hwl := wordsB_len s
    have hwz := wordsB_size s
    have hcl : s.data.toList.count 32 ≤ s.size := by
      rw [size_eq s]
      exact List.count_le_length
    have M2 := M.said (N + 1) (.cells ((wordsB s).map Value.string).toArray 9)
    have hL := ls_new (wordsB s) (w.setCell ⟨rb, 1, none⟩ (.int .i64 (N + 1)))
    rw [show (w.setCell ⟨rb, 1, none⟩ (.int .i64 (N + 1))).heap.size = w.heap.size by simp] at hL
    have hb : Below B w ((w.setCell ⟨rb, 1, none⟩ (.int .i64 (N + 1))).alloc (.cells ((wordsB s).map Value.string).toArray 9)) := ((Below.refl B w).setCell (p := ⟨rb, 1, none⟩) M.hB _).alloc (by simpa using hG.le) _
    have hG2 := hG.to hb
    have key : ∀ (t : St × Int) (e : Ending) (w' : World), (∃ cd, e = .returned (.int .i64 cd) ∧ Aft B rb (N + 1) N ((w.setCell ⟨rb, 1, none⟩ (.int .i64 (N + 1))).alloc (.cells ((wordsB s).map Value.string).toArray 9)) t e w') → ∃ cd, e = .returned (.int .i64 cd) ∧ (e = .returned (.int .i64 t.2) ∧ Below B w w' ∧ (t.2 = 0 → Mem B rb t.1 (N + 1) (N + 1) w')) := by
      rintro t e w' ⟨cd, he, h2, h3, h4⟩
      exact ⟨cd, he, h2, hb.trans h3, h4⟩
    obtain ⟨y, r, hyr⟩ : ∃ y r, wordsB s = y :: r := by
      cases h : wordsB s with
      | nil => rw [h] at hwl; simp at hwl
      | cons y r => exact ⟨y, r, rfl⟩
    have hrl : (y :: r).length ≤ 8388608 := by rw [← hyr]; omega
    have hsz : ∀ z ∈ y :: r, z.size ≤ 262144 := fun z hz => Nat.le_trans (hwz z (by rw [hyr]; exact hz)) h1'
    by_cases h3 : S.pl = 3
    · have hR : Rb rb 3 N (S.q ao V.length ac) p v w := by have h := M.rd; rw [h3] at h; exact h
      refine line_act h1' hs hx hR ⟨hN.1, by omega⟩ ?_
      have h := act_step B rb S (N + 1) N y r h3 (fun z hz => Nat.le_trans (hsz z hz) (by decide)) hrl hN.2 w.heap.size 0 (wordsB s).length _ ⟨V, ao, ac, p, v, M2⟩ (by rw [← hyr]; exact hL) hG2
      rw [← hyr] at h
      exact h.mono (key _)
    by_cases h4 : S.pl = 4
    · have hR : Rb rb 4 N (S.q ao V.length ac) p v w := by have h := M.rd; rw [h4] at h; exact h
      refine line_op h1' hs hx hR ⟨hN.1, by omega⟩ ?_
      have h := op_step B rb S (N + 1) N y r h4 (fun z hz => Nat.le_trans (hsz z hz) (by decide)) hrl hN.2 w.heap.size 0 (wordsB s).length _ ⟨V, ao, ac, p, v, M2⟩ (by rw [← hyr]; exact hL) hG2
      rw [← hyr] at h
      exact h.mono (key _)
    · refine line_head h1' hs hx h3 h4 M.rd ⟨hN.1, by omega⟩ ?_
      have h := head_step B rb S (N + 1) N y r h3 h4 hsz hN.2 w.heap.size 0 (wordsB s).length _ ⟨V, ao, ac, p, v, M2⟩ (by rw [← hyr]; exact hL) hG2
      rw [show r.length + 1 = (wordsB s).length by rw [hyr]; rfl, ← hyr] at h
      exact h.mono (key _)
end Go.Proofs.YtlmopjbfagijeaaGreatDoor.Sc
