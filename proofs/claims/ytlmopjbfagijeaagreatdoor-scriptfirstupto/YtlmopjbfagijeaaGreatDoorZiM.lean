import Derived.Test.YtlmopjbfagijeaaGreatDoorZhM
import Derived.Test.YtlmopjbfagijeaaGreatDoorYnM
import Derived.Test.YtlmopjbfagijeaaGreatDoorYoM
import Derived.Test.YtlmopjbfagijeaaGreatDoorSyH
namespace Go.Proofs.YtlmopjbfagijeaaGreatDoor.Sc
open Go.RowKit Go.Lib Go.Deep

theorem dig_toNat {u : Nat} (h : u < 10) : (UInt8.ofNat (48 + u)).toNat = 48 + u := by
  rw [UInt8.toNat_ofNat']
  omega
theorem dec_small {u : Nat} (h : u < 10) : Lib.decDigits u = [UInt8.ofNat (48 + u)] := by rw [Lib.decDigits, dif_pos h]
theorem dec_big {u : Nat} (h : ¬ u < 10) : Lib.decDigits u = Lib.decDigits (u / 10) ++ [UInt8.ofNat (48 + u % 10)] := by rw [Lib.decDigits, dif_neg h]
theorem parse_one {acc d : Nat} (hd : d < 10) (ha : acc * 10 + d < 18446744073709551616) (r : List UInt8) : Lib.parseUint10 acc (UInt8.ofNat (48 + d) :: r) = Lib.parseUint10 (acc * 10 + d) r := by
  rw [Lib.parseUint10, dig_toNat hd, if_pos (by omega), if_neg (by omega), if_neg (by omega), Nat.add_sub_cancel_left]
theorem parse_dec (u : Nat) : u < 18446744073709551616 → ∀ r, Lib.parseUint10 0 (Lib.decDigits u ++ r) = Lib.parseUint10 u r := by
  induction u using Nat.strongRecOn with
  | _ u ih =>
    intro hu r
    by_cases h : u < 10
    · rw [dec_small h]
      show Lib.parseUint10 0 (UInt8.ofNat (48 + u) :: r) = _
      rw [parse_one h (by omega)]
      simp
    · rw [dec_big h, List.append_assoc, ih (u / 10) (by omega) (by omega)]
      show Lib.parseUint10 (u / 10) (UInt8.ofNat (48 + u % 10) :: r) = _
      rw [parse_one (by omega) (by omega)]
      congr 1
      omega
theorem dec_digits (u : Nat) : ∀ c ∈ Lib.decDigits u, 48 ≤ c.toNat ∧ c.toNat ≤ 57 := by
  induction u using Nat.strongRecOn with
  | _ u ih =>
    intro c hc
    by_cases h : u < 10
    · rw [dec_small h, List.mem_singleton] at hc
      subst hc
      rw [dig_toNat h]
      omega
    · rw [dec_big h] at hc
      rcases List.mem_append.1 hc with hc | hc
      · exact ih (u / 10) (by omega) c hc
      · rw [List.mem_singleton] at hc
        subst hc
        rw [dig_toNat (by omega)]
        omega
theorem dec_ne (u : Nat) : Lib.decDigits u ≠ [] := by
  by_cases h : u < 10
  · rw [dec_small h]; simp
  · rw [dec_big h]; simp
theorem mag_dec {u : Nat} (h : u < 18446744073709551616) : Lib.parseMag (Lib.decDigits u) = .ok u := by
  unfold Lib.parseMag
  rw [if_neg (dec_ne u)]
  have := parse_dec u h []
  rw [List.append_nil] at this
  rw [this]
  rfl
/-- a number's own word says it -/
theorem rdN_itoa {n : Int} (h : I64 n) : rdN (itoa n) = some n := by
  have ha : Lib.atoiAll (itoa n) = .ok n := by
    unfold itoa
    obtain ⟨h1, h2⟩ := h
    by_cases hn : n < 0
    · rw [if_pos hn]
      unfold Lib.atoiAll
      dsimp only
      rw [if_pos (.inr (by decide)), mag_dec (by omega)]
      dsimp only
      have e45 : (45 : UInt8).toNat = 45 := rfl
      rw [if_neg (by simp [e45]), if_neg (by omega), if_pos e45]
      congr 1
      omega
    · rw [if_neg hn]
      cases hd : Lib.decDigits n.toNat with
      | nil => exact absurd hd (dec_ne _)
      | cons c r =>
        have hc := dec_digits n.toNat c (by rw [hd]; simp)
        unfold Lib.atoiAll
        dsimp only
        rw [if_neg (by omega), ← hd, mag_dec (by omega)]
        dsimp only
        rw [if_neg (by omega), if_neg (by omega), if_neg (by omega)]
        congr 1
        omega
  unfold rdN
  rw [ha]
  exact if_pos rfl
/-- no blank and no line feed in a number's word -/
theorem itoa_byte (n : Int) : ∀ c ∈ itoa n, 45 ≤ c.toNat ∧ c.toNat ≤ 57 := by
  intro c hc
  unfold itoa at hc
  split at hc
  · rcases List.mem_cons.1 hc with rfl | hc
    · decide
    · have := dec_digits _ c hc
      omega
  · have := dec_digits _ c hc
    omega
end Go.Proofs.YtlmopjbfagijeaaGreatDoor.Sc

namespace Go.Proofs.YtlmopjbfagijeaaGreatDoor.Sc
open Go.RowKit Go.Lib Go.Deep
open Go.Proofs.YtlmopjbfagijeaaGreatDoor.Pa (glue cutS cut_glue glue_cons cut_of)

theorem prts_free {d : UInt8} {l : List UInt8} (h : d ∉ l) : prts d l = [l] := by
  have e := cut_of d [] l (by simp) h
  rw [show glue d [] ++ l = l by simp [glue]] at e
  unfold prts
  rw [e]
  rfl
theorem prts_cut {d : UInt8} {a b : List UInt8} (h : d ∉ a) : prts d (a ++ d :: b) = a :: prts d b := by
  have hb := cut_glue d b
  have e := cut_of d (a :: (cutS d b).1) (cutS d b).2 (fun p hp => by
    rcases List.mem_cons.1 hp with rfl | hp
    · exact h
    · exact hb.2.1 p hp) hb.2.2
  rw [glue_cons, List.append_assoc, hb.1, List.append_assoc] at e
  unfold prts
  rw [show a ++ d :: b = a ++ ([d] ++ b) from rfl, e]
  rfl
/-- words, a blank ahead of each -/
def argL (ws : List (List UInt8)) : List UInt8 := ws.flatMap fun w => 32 :: w
theorem prts_args (ws : List (List UInt8)) : ∀ a : List UInt8, (32 : UInt8) ∉ a → (∀ w ∈ ws, (32 : UInt8) ∉ w) → prts 32 (a ++ argL ws) = a :: ws := by
  induction ws with
  | nil =>
    intro a ha _
    show prts 32 (a ++ []) = _
    rw [List.append_nil, prts_free ha]
  | cons w ws ih =>
    intro a ha hw
    show prts 32 (a ++ 32 :: (w ++ argL ws)) = _
    rw [prts_cut ha, ih w (hw w (by simp)) (fun x hx => hw x (List.mem_cons_of_mem _ hx))]
theorem words_args (a : List UInt8) (ws : List (List UInt8)) (ha : (32 : UInt8) ∉ a) (hw : ∀ w ∈ ws, (32 : UInt8) ∉ w) : wordsB (str (a ++ argL ws)) = str a :: ws.map str := by
  unfold wordsB
  rw [str_data, prts_args ws a ha hw]
  rfl
def Bl (l : List UInt8) : Prop := (32 : UInt8) ∉ l
theorem dig_bl : ∀ n, n < 16 → dig n ≠ 32 := by decide
theorem two_bl (c : UInt8) : Bl (two c) := fun hm => by
  have := c.toNat_lt
  rcases List.mem_cons.1 hm with h | h
  · exact dig_bl _ (by omega) h.symm
  · rcases List.mem_cons.1 h with h | h
    · exact dig_bl _ (by omega) h.symm
    · cases h
theorem one_bl (c : UInt8) : Bl (one c) := by
  unfold one
  split
  · rename_i h
    intro hm
    rw [List.mem_singleton] at hm
    subst hm
    revert h
    decide
  · intro hm
    rcases List.mem_cons.1 hm with h | h
    · exact absurd h (by decide)
    · exact two_bl c h
theorem flat_bl {f : UInt8 → List UInt8} (h : ∀ c, Bl (f c)) (l : List UInt8) : Bl (l.flatMap f) := fun hm => by
  obtain ⟨c, _, hc⟩ := List.mem_flatMap.1 hm
  exact h c hc
theorem byL_bl (s : ByteArray) : Bl (byL s) := fun hm => by
  rcases List.mem_cons.1 hm with h | h
  · exact absurd h (by decide)
  · exact flat_bl one_bl _ h
theorem hexL_bl (l : List UInt8) : Bl (hexL l) := flat_bl two_bl l
theorem itoa_bl (n : Int) : Bl (itoa n) := fun hm => by
  have := (itoa_byte n 32 hm).1
  exact absurd this (by decide)
theorem rB_byL (s : ByteArray) : rB (str (byL s)) = s ∧ bB (str (byL s)) = false := by
  unfold rB bB
  rw [str_data, rdB_byL]
  exact ⟨str_of s, rfl⟩
theorem rN_itoa {n : Int} (h : I64 n) : rN (str (itoa n)) = n ∧ bN (str (itoa n)) = false := by
  unfold rN bN
  rw [str_data, rdN_itoa h]
  exact ⟨rfl, rfl⟩
theorem rH_hexL (s : ByteArray) : rH (str (hexL s.data.toList)) = s ∧ bH (str (hexL s.data.toList)) = false := by
  unfold rH bH
  rw [str_data, rdH_hexL]
  exact ⟨str_of s, rfl⟩
/-- an operation's words behind the first -/
def opArgs (f : FuncId) (o : OpR) : List (List UInt8) :=
  if f = 77 then [byL o.path]
  else if f = 79 then [byL o.path, itoa o.at_, itoa o.n]
  else if f = 81 then [byL o.path, itoa o.at_, byL o.data]
  else if f = 83 then [byL o.path, itoa o.n]
  else [byL o.path, byL o.to]
theorem stB_ok {x : Bool × List UInt8} {s : ByteArray} (h : (stB x s).1 = false) : x.1 = false ∧ (stB x s).2 = x.2 ++ argL [byL s] := by
  unfold stB at h ⊢
  split at h
  · cases h
  · rename_i h1
    rw [if_neg h1]
    exact ⟨h, by simp [argL]⟩
theorem nm_args (L : List Int) : nmL L = argL (L.map itoa) := by
  unfold nmL argL
  rw [List.flatMap_map]
theorem args_app (a b : List (List UInt8)) : argL a ++ argL b = argL (a ++ b) := by simp [argL]
theorem shG_args (f : FuncId) (o : OpR) (x : List UInt8) (h : (shG f o (false, x)).1 = false) : (shG f o (false, x)).2 = x ++ argL (opArgs f o) := by
  unfold shG opArgs at *
  by_cases h1 : f = 77
  · rw [if_pos h1] at h ⊢
    rw [if_pos h1]
    exact (stB_ok h).2
  rw [if_neg h1] at h ⊢
  rw [if_neg h1]
  by_cases h2 : f = 79
  · rw [if_pos h2] at h ⊢
    rw [if_pos h2]
    have e := (stB_ok (x := (false, x)) (s := o.path) h).2
    show (stB (false, x) o.path).2 ++ nmL [o.at_, o.n] = _
    rw [e, nm_args, List.append_assoc, args_app]
    rfl
  rw [if_neg h2] at h ⊢
  rw [if_neg h2]
  by_cases h3 : f = 81
  · rw [if_pos h3] at h ⊢
    rw [if_pos h3]
    obtain ⟨e1, e2⟩ := stB_ok h
    have e := (stB_ok (x := (false, x)) (s := o.path) e1).2
    show (stB (stN (stB (false, x) o.path) [o.at_]) o.data).2 = _
    rw [e2]
    show (stB (false, x) o.path).2 ++ nmL [o.at_] ++ _ = _
    rw [e, nm_args, List.append_assoc, List.append_assoc, args_app, args_app]
    rfl
  rw [if_neg h3] at h ⊢
  rw [if_neg h3]
  by_cases h4 : f = 83
  · rw [if_pos h4] at h ⊢
    rw [if_pos h4]
    have e := (stB_ok (x := (false, x)) (s := o.path) h).2
    show (stB (false, x) o.path).2 ++ nmL [o.n] = _
    rw [e, nm_args, List.append_assoc, args_app]
    rfl
  rw [if_neg h4] at h ⊢
  rw [if_neg h4]
  obtain ⟨e1, e2⟩ := stB_ok h
  have e := (stB_ok (x := (false, x)) (s := o.path) e1).2
  show (stB (stB (false, x) o.path) o.to).2 = _
  rw [e2, e, List.append_assoc, args_app]
  rfl
theorem opArgs_bl (f : FuncId) (o : OpR) : ∀ w ∈ opArgs f o, (32 : UInt8) ∉ w := by
  intro w hw
  unfold opArgs at hw
  repeat' split at hw
  all_goals
    simp only [List.mem_cons, List.not_mem_nil, or_false] at hw
    rcases hw with rfl | hw
    · exact byL_bl _
    try rcases hw with rfl | rfl
    try subst hw
    all_goals first | exact byL_bl _ | exact itoa_bl _
end Go.Proofs.YtlmopjbfagijeaaGreatDoor.Sc

namespace Go.Proofs.YtlmopjbfagijeaaGreatDoor.Sc
open Go.RowKit Go.Lib Go.Deep

theorem empty_of {s : ByteArray} (h : s.toList.isEmpty = true) : s = nil_ := by
  rw [ByteArray.toList_eq] at h
  have h2 : s.data.toList = [] := by simpa using h
  exact ByteArray.ext (Array.toList_inj.1 h2)
theorem bare_facts {p : OpR} {k : Int} (h : bare p k ≠ false) : p.path = nil_ ∧ p.to = nil_ ∧ p.at_ = 0 ∧ p.n = 0 ∧ p.data = nil_ := by
  have h : bare p k = true := by simpa using h
  unfold bare at h
  simp only [Bool.and_eq_true, beq_iff_eq] at h
  obtain ⟨⟨⟨⟨⟨-, h1⟩, h2⟩, h3⟩, h4⟩, h5⟩ := h
  exact ⟨empty_of h1, empty_of h2, h3, h4, empty_of h5⟩
theorem fm_self : ∀ f ∈ opTab, fmOf opTab f.word = some f := by
  intro f hf
  unfold opTab at hf
  simp only [List.mem_cons, List.not_mem_nil, or_false] at hf
  rcases hf with rfl | rfl | rfl | rfl | rfl | rfl | rfl | rfl | rfl | rfl
  all_goals kernel_rfl
theorem tellO_back (f : Fm) (hf : f ∈ opTab) (o : OpR) (h1 : I64 o.at_) (h2 : I64 o.n) (hb : bare (shR f.wr o) o.kind ≠ false) : tellO (f.word :: (opArgs f.wr o).map str) = (f.kind, { o with kind := 0 }, 0) := by
  obtain ⟨-, q2, q3, q4, q5⟩ := bare_facts hb
  show tellOF _ (fmOf opTab f.word) = _
  rw [fm_self f hf]
  obtain ⟨ok, op, ot, oa, on, od⟩ := o
  clear hb
  unfold opTab at hf
  simp only [List.mem_cons, List.not_mem_nil, or_false] at hf
  rcases hf with rfl | rfl | rfl | rfl | rfl | rfl | rfl | rfl | rfl | rfl
  all_goals
    simp [shR] at q2 q3 q4 q5
    simp [tellOF, opArgs, rdO, zeroP, (rB_byL _).1, (rB_byL _).2, (rN_itoa h1).1, (rN_itoa h1).2, (rN_itoa h2).1, (rN_itoa h2).2, q2, q3, q4, q5]
/-- an act's words behind the first -/
def actArgs (f : FuncId) (a : ActR) : List (List UInt8) :=
  if f = 57 then [itoa a.i]
  else if f = 59 then [itoa a.before, itoa a.ek, itoa a.put, itoa a.frm, byL a.name, byL a.blob]
  else []
theorem shGA_args (f : FuncId) (a : ActR) (x : List UInt8) (h : (shGA f a (false, x)).1 = false) : (shGA f a (false, x)).2 = x ++ argL (actArgs f a) := by
  unfold shGA actArgs at *
  by_cases h1 : f = 57
  · rw [if_pos h1] at h ⊢
    rw [if_pos h1]
    show x ++ nmL [a.i] = _
    rw [nm_args]
    rfl
  rw [if_neg h1] at h ⊢
  rw [if_neg h1]
  by_cases h2 : f = 59
  · rw [if_pos h2] at h ⊢
    rw [if_pos h2]
    obtain ⟨e1, e2⟩ := stB_ok h
    have e := (stB_ok e1).2
    show (stB (stB (stN (false, x) [a.before, a.ek, a.put, a.frm]) a.name) a.blob).2 = _
    rw [e2, e]
    show x ++ nmL [a.before, a.ek, a.put, a.frm] ++ _ ++ _ = _
    rw [nm_args, List.append_assoc, List.append_assoc, args_app, args_app]
    rfl
  rw [if_neg h2] at h ⊢
  rw [if_neg h2]
  simp [argL]
theorem actArgs_bl (f : FuncId) (a : ActR) : ∀ w ∈ actArgs f a, (32 : UInt8) ∉ w := by
  intro w hw
  unfold actArgs at hw
  split at hw
  · rw [List.mem_singleton] at hw
    subst hw
    exact itoa_bl _
  · split at hw
    · simp only [List.mem_cons, List.not_mem_nil, or_false] at hw
      rcases hw with rfl | rfl | rfl | rfl | rfl | rfl
      all_goals first | exact byL_bl _ | exact itoa_bl _
    · cases hw
theorem bareA_facts {p : ActR} (h : bareA p ≠ false) : p.nops = 0 ∧ p.i = 0 ∧ p.before = 0 ∧ p.ek = 0 ∧ p.put = 0 ∧ p.frm = 0 ∧ p.name = nil_ ∧ p.blob = nil_ := by
  have h : bareA p = true := by simpa using h
  unfold bareA at h
  simp only [Bool.and_eq_true, beq_iff_eq] at h
  obtain ⟨⟨⟨⟨⟨⟨⟨h0, h1⟩, h2⟩, h3⟩, h4⟩, h5⟩, h6⟩, h7⟩ := h
  exact ⟨h0, h1, h2, h3, h4, h5, empty_of h6, empty_of h7⟩
theorem fmA_self : ∀ f ∈ actTab, fmOf actTab f.word = some f := by
  intro f hf
  unfold actTab at hf
  simp only [List.mem_cons, List.not_mem_nil, or_false] at hf
  rcases hf with rfl | rfl | rfl | rfl | rfl | rfl
  all_goals kernel_rfl
theorem tellA_back (f : Fm) (hf : f ∈ actTab) (a : ActR) (ha : a.Ok) (hb : bareA (shRA f.wr a) ≠ false) : tellA (f.word :: (actArgs f.wr a).map str) = (f.kind, { a with kind := 0, ops := none, nops := 0, cops := 0 }, 0) := by
  obtain ⟨-, q1, q2, q3, q4, q5, q6, q7⟩ := bareA_facts hb
  have i1 := ha.i
  have i2 := ha.before
  have i3 := ha.ek
  have i4 := ha.put
  have i5 := ha.frm
  show tellAF _ (fmOf actTab f.word) = _
  rw [fmA_self f hf]
  obtain ⟨ak, ao, an, ac, ai, ab, ae, ap, af, am, al⟩ := a
  clear hb ha
  unfold actTab at hf
  simp only [List.mem_cons, List.not_mem_nil, or_false] at hf
  dsimp only at i1 i2 i3 i4 i5
  rcases hf with rfl | rfl | rfl | rfl | rfl | rfl
  all_goals
    simp [shRA, ActR.noEdit] at q1 q2 q3 q4 q5 q6 q7
    simp [tellAF, actArgs, rdAc, zA, (rB_byL _).1, (rB_byL _).2, (rN_itoa i1).1, (rN_itoa i1).2, (rN_itoa i2).1, (rN_itoa i2).2, (rN_itoa i3).1, (rN_itoa i3).2, (rN_itoa i4).1, (rN_itoa i4).2, (rN_itoa i5).1, (rN_itoa i5).2, q1, q2, q3, q4, q5, q6, q7]
end Go.Proofs.YtlmopjbfagijeaaGreatDoor.Sc

namespace Go.Proofs.YtlmopjbfagijeaaGreatDoor.Sc
open Go.RowKit Go.Lib Go.Deep

theorem lineS_go (S : St) (N : Int) (l : List UInt8) (hl : l.length ≤ 262144) {x : UInt8} {r : List UInt8} (hx : l = x :: r) (h35 : x ≠ 35) (hN : N ≠ 20000) : lineS S N (str l) = ((stepS S (wordsB (str l))).1, N + 1, (stepS S (wordsB (str l))).2) := by
  unfold lineS
  rw [str_size, if_neg (by omega), str_data]
  subst hx
  dsimp only
  rw [if_neg h35, if_neg hN]
theorem op_word : ∀ f ∈ opTab, (∃ x r, f.word.data.toList = x :: r ∧ x ≠ 35) ∧ (32 : UInt8) ∉ f.word.data.toList ∧ f.word ≠ endW := by
  intro f hf
  unfold opTab at hf
  simp only [List.mem_cons, List.not_mem_nil, or_false] at hf
  rcases hf with rfl | rfl | rfl | rfl | rfl | rfl | rfl | rfl | rfl | rfl
  all_goals exact ⟨⟨_, _, rfl, by decide⟩, by decide, by decide⟩
theorem act_word : ∀ f ∈ actTab, (∃ x r, f.word.data.toList = x :: r ∧ x ≠ 35) ∧ (32 : UInt8) ∉ f.word.data.toList := by
  intro f hf
  unfold actTab at hf
  simp only [List.mem_cons, List.not_mem_nil, or_false] at hf
  rcases hf with rfl | rfl | rfl | rfl | rfl | rfl
  all_goals exact ⟨⟨_, _, rfl, by decide⟩, by decide⟩
/-- an operation's line, read back within a batch -/
theorem opline_back (S : St) (N : Int) (f : Fm) (hf : f ∈ opTab) (o : OpR) (ho : o.Ok) (hk : f.kind = o.kind) (hb : bare (shR f.wr o) o.kind ≠ false) (h1 : (shG f.wr o (false, f.word.data.toList)).1 = false) (h2 : (shG f.wr o (false, f.word.data.toList)).2.length ≤ 262144) (hpl : S.pl = 4) (hN : N ≠ 20000) :
    lineS S N (str (shG f.wr o (false, f.word.data.toList)).2) = ({ S with V := addOp S.V o }, N + 1, 0) := by
  have e := shG_args f.wr o f.word.data.toList h1
  obtain ⟨⟨x, r, hx, h35⟩, hbl, hend⟩ := op_word f hf
  have hst : stepS S (wordsB (str (f.word.data.toList ++ argL (opArgs f.wr o)))) = ({ S with V := addOp S.V o }, 0) := by
    rw [words_args _ _ hbl (opArgs_bl f.wr o), str_of]
    have hn3 : ¬ S.pl = 3 := by omega
    show (if S.pl = 3 then _ else if S.pl = 4 then _ else _) = _
    rw [if_neg hn3, if_pos hpl, if_neg hend, tellO_back f hf o ho.at_ ho.n hb]
    rw [if_neg (by simp)]
    rw [hk]
  rw [lineS_go S N _ h2 (x := x) (r := r ++ argL (opArgs f.wr o)) (by rw [e, hx]; rfl) h35 hN, e, hst]
/-- an act's line, read back among acts -/
theorem actline_back (S : St) (N : Int) (f : Fm) (hf : f ∈ actTab) (a : ActR) (ha : a.Ok) (hk : f.kind = a.kind) (hb : bareA (shRA f.wr a) ≠ false) (h1 : (shGA f.wr a (false, f.word.data.toList)).1 = false) (h2 : (shGA f.wr a (false, f.word.data.toList)).2.length ≤ 262144) (hpl : S.pl = 3) (hN : N ≠ 20000) :
    lineS S N (str (shGA f.wr a (false, f.word.data.toList)).2) = ({ S with pl := if a.kind = 3 then 4 else 3, V := S.V ++ [({ a with ops := none, nops := 0, cops := 0 }, [])] }, N + 1, 0) := by
  have e := shGA_args f.wr a f.word.data.toList h1
  obtain ⟨⟨x, r, hx, h35⟩, hbl⟩ := act_word f hf
  have hst : stepS S (wordsB (str (f.word.data.toList ++ argL (actArgs f.wr a)))) = ({ S with pl := if a.kind = 3 then 4 else 3, V := S.V ++ [({ a with ops := none, nops := 0, cops := 0 }, [])] }, 0) := by
    rw [words_args _ _ hbl (actArgs_bl f.wr a), str_of]
    show (if S.pl = 3 then _ else _) = _
    rw [if_pos hpl, tellA_back f hf a ha hb]
    rw [if_neg (by simp)]
    rw [hk]
  rw [lineS_go S N _ h2 (x := x) (r := r ++ argL (actArgs f.wr a)) (by rw [e, hx]; rfl) h35 hN, e, hst]
/-- the end of a batch -/
theorem endline_back (S : St) (N : Int) (hpl : S.pl = 4) (hN : N ≠ 20000) : lineS S N (str [101, 110, 100]) = ({ S with pl := 3 }, N + 1, 0) := by
  have hst : stepS S (wordsB (str [101, 110, 100])) = ({ S with pl := 3 }, 0) := by
    have h := words_args [101, 110, 100] [] (by decide) (by simp)
    rw [show ([101, 110, 100] : List UInt8) ++ argL [] = [101, 110, 100] from rfl] at h
    rw [h]
    have hn3 : ¬ S.pl = 3 := by omega
    show (if S.pl = 3 then _ else if S.pl = 4 then _ else _) = _
    rw [if_neg hn3, if_pos hpl, if_pos (show str [101, 110, 100] = endW from rfl)]
    rfl
  rw [lineS_go S N _ (by decide) rfl (by decide) hN, hst]
theorem stepS_head (S : St) (x : ByteArray) (r : List ByteArray) (h3 : S.pl ≠ 3) (h4 : S.pl ≠ 4) : stepS S (x :: r) = if S.pl = 0 then (if x = cfgW then cfgS S r else (S, 220)) else if S.pl = 1 then (if x = sealW then sealS S r else (S, 220)) else if x = tapeW then tapeS S r else if x = actsW then toS S r else (S, 220) := by
  show (if S.pl = 3 then _ else if S.pl = 4 then _ else _) = _
  rw [if_neg h3, if_neg h4]
/-- the line of the config -/
theorem cfgline_back (S : St) (N : Int) (p : PlR) (hs : I64 p.s) (hf : I64 p.f) (hd : I64 p.d) (hm : I64 p.m) (hl : I64 p.l) (hp : I64 p.p) (hpl : S.pl = 0) (hN : N ≠ 20000) : lineS S N (str (cfgL p)) = ({ S with pl := 1, s := p.s, f := p.f, d := p.d, m := p.m, l := p.l, p := p.p }, N + 1, 0) := by
  have e : cfgL p = [99, 111, 110, 102, 105, 103] ++ argL ([p.s, p.f, p.d, p.m, p.l, p.p].map itoa) := by
    unfold cfgL
    rw [nm_args]
  have hlen : (cfgL p).length ≤ 262144 := by
    have := nmL_len [p.s, p.f, p.d, p.m, p.l, p.p] (by simp; exact ⟨hs, hf, hd, hm, hl, hp⟩)
    unfold cfgL
    simp at this ⊢
    omega
  have hst : stepS S (wordsB (str (cfgL p))) = ({ S with pl := 1, s := p.s, f := p.f, d := p.d, m := p.m, l := p.l, p := p.p }, 0) := by
    rw [e, words_args _ _ (by decide) (by
      intro w hw
      obtain ⟨n, _, rfl⟩ := List.mem_map.1 hw
      exact itoa_bl n), stepS_head S _ _ (by omega) (by omega), if_pos hpl, if_pos (show str [99, 111, 110, 102, 105, 103] = cfgW from rfl)]
    show cfgS S [str (itoa p.s), str (itoa p.f), str (itoa p.d), str (itoa p.m), str (itoa p.l), str (itoa p.p)] = _
    unfold cfgS
    dsimp only
    rw [(rN_itoa hs).1, (rN_itoa hf).1, (rN_itoa hd).1, (rN_itoa hm).1, (rN_itoa hl).1, (rN_itoa hp).1, (rN_itoa hs).2, (rN_itoa hf).2, (rN_itoa hd).2, (rN_itoa hm).2, (rN_itoa hl).2, (rN_itoa hp).2]
    rfl
  rw [lineS_go S N _ hlen (by rw [e]; rfl) (by decide) hN, hst]
theorem sealS_ideal (S : St) : sealS S [idealW] = ({ S with pl := 2, ideal := true }, 0) := by
  unfold sealS
  dsimp only
  rw [if_pos rfl]
theorem sealS_real (S : St) (x2 : ByteArray) : sealS S [realW, x2] = ({ S with pl := 2, master := rH x2 }, if (false || bH x2) = true then 224 else 0) := by
  unfold sealS
  dsimp only
  rw [if_pos rfl]
theorem ideal_back (S : St) (N : Int) (hpl : S.pl = 1) (hN : N ≠ 20000) : lineS S N (str ([115, 101, 97, 108] ++ 32 :: [105, 100, 101, 97, 108])) = ({ S with pl := 2, ideal := true }, N + 1, 0) := by
  have e : ([115, 101, 97, 108] ++ 32 :: [105, 100, 101, 97, 108] : List UInt8) = [115, 101, 97, 108] ++ argL [[105, 100, 101, 97, 108]] := rfl
  have hst : stepS S (wordsB (str ([115, 101, 97, 108] ++ 32 :: [105, 100, 101, 97, 108]))) = ({ S with pl := 2, ideal := true }, 0) := by
    rw [e, words_args _ _ (by decide) (by decide), stepS_head S _ _ (by omega) (by omega), if_neg (by omega), if_pos hpl, if_pos (show str [115, 101, 97, 108] = sealW from rfl)]
    exact sealS_ideal S
  rw [lineS_go S N ([115, 101, 97, 108] ++ 32 :: [105, 100, 101, 97, 108]) (by decide) rfl (by decide) hN, hst]
theorem real_back (S : St) (N : Int) (m : ByteArray) (hlen : ([115, 101, 97, 108] ++ 32 :: [114, 101, 97, 108] ++ 32 :: hexL m.data.toList).length ≤ 262144) (hpl : S.pl = 1) (hN : N ≠ 20000) : lineS S N (str ([115, 101, 97, 108] ++ 32 :: [114, 101, 97, 108] ++ 32 :: hexL m.data.toList)) = ({ S with pl := 2, master := m }, N + 1, 0) := by
  have e : ([115, 101, 97, 108] ++ 32 :: [114, 101, 97, 108] ++ 32 :: hexL m.data.toList : List UInt8) = [115, 101, 97, 108] ++ argL [[114, 101, 97, 108], hexL m.data.toList] := by simp [argL]
  have hst : stepS S (wordsB (str ([115, 101, 97, 108] ++ 32 :: [114, 101, 97, 108] ++ 32 :: hexL m.data.toList))) = ({ S with pl := 2, master := m }, 0) := by
    rw [e, words_args _ _ (by decide) (by
      intro w hw
      simp only [List.mem_cons, List.not_mem_nil, or_false] at hw
      rcases hw with rfl | rfl
      · decide
      · exact hexL_bl _), stepS_head S _ _ (by omega) (by omega), if_neg (by omega), if_pos hpl, if_pos (show str [115, 101, 97, 108] = sealW from rfl)]
    refine (sealS_real S (str (hexL m.data.toList))).trans ?_
    rw [(rH_hexL m).1, (rH_hexL m).2]
    rfl
  rw [lineS_go S N _ hlen (by rw [e]; rfl) (by decide) hN, hst]
theorem tape_back (S : St) (N : Int) (l : List UInt8) (hlen : l.length ≤ 64) (hpl : S.pl = 2) (hN : N ≠ 20000) : lineS S N (str ([116, 97, 112, 101, 32] ++ hexL l)) = ({ S with tape := S.tape ++ l }, N + 1, 0) := by
  have e : ([116, 97, 112, 101, 32] ++ hexL l : List UInt8) = [116, 97, 112, 101] ++ argL [hexL l] := by simp [argL]
  have hl := hexL_len l
  have hr := rH_hexL (str l)
  rw [str_data] at hr
  have hst : stepS S (wordsB (str ([116, 97, 112, 101, 32] ++ hexL l))) = ({ S with tape := S.tape ++ l }, 0) := by
    rw [e, words_args _ _ (by decide) (by
      intro w hw
      rw [List.mem_singleton] at hw
      subst hw
      exact hexL_bl _), stepS_head S _ _ (by omega) (by omega), if_neg (by omega), if_neg (by omega), if_pos (show str [116, 97, 112, 101] = tapeW from rfl)]
    show tapeS S [str (hexL l)] = _
    show (({ S with tape := S.tape ++ (rH (str (hexL l))).data.toList }, if (false || bH (str (hexL l))) = true then 224 else 0) : St × Int) = _
    rw [hr.1, hr.2, str_data]
    rfl
  rw [lineS_go S N ([116, 97, 112, 101, 32] ++ hexL l) (by rw [List.length_append, hl]; simp; omega) rfl (by decide) hN, hst]
theorem acts_back (S : St) (N : Int) (hpl : S.pl = 2) (hN : N ≠ 20000) : lineS S N (str [97, 99, 116, 115]) = ({ S with pl := 3 }, N + 1, 0) := by
  have hst : stepS S (wordsB (str [97, 99, 116, 115])) = ({ S with pl := 3 }, 0) := by
    have h := words_args [97, 99, 116, 115] [] (by decide) (by simp)
    rw [show ([97, 99, 116, 115] : List UInt8) ++ argL [] = [97, 99, 116, 115] from rfl] at h
    rw [h, stepS_head S _ _ (by omega) (by omega), if_neg (by omega), if_neg (by omega), if_neg (show str [97, 99, 116, 115] ≠ tapeW by decide), if_pos (show str [97, 99, 116, 115] = actsW from rfl)]
    rfl
  rw [lineS_go S N _ (by decide) rfl (by decide) hN, hst]
end Go.Proofs.YtlmopjbfagijeaaGreatDoor.Sc
