import Derived.Test.YtpjigcccjiidpaaExDd
namespace Go.Proofs.Ytpjigcccjiidpaa.Ex
open Go.RowKit Go.Lib Go.Deep

set_option maxRecDepth 20000 in
theorem clone_any (w : World) (a : Option Addr) (n c : Nat) (nm : List ByteArray) (hS : See w 1 (.slice a n c) n (scC nm)) (hn : n ≤ 8796093022207) :
    Calls Try.prog 22 #[.slice a n c] w fun e w' => ∃ a' c', e = .returned (.slice a' n c') ∧ w'.ownsRow w.heap.size 9 1 (.slice a' n c') n (scC nm) ∧ Below w.heap.size w w' := by
  have hq : ∀ (w : World) (a : Option Addr) (n c : Nat), (binOp .eql 28 (.slice a n c) (.slice none 0 0)).run Try.prog w = .ok (.bool a.isNone) w := fun w a n c => run_eql_slice_nil w _ _ a n c Try.underlying28
  cases a with
  | none =>
    obtain ⟨h0, h5, a', c', h1, h2, h3, h4⟩ := hS
    injection h1 with e1 _ e2
    subst e1 e2
    obtain rfl := h3 rfl
    obtain rfl : n = 0 := by omega
    have hnm : nm = [] := List.eq_nil_of_length_eq_zero (by simpa [scC] using h0)
    subst hnm
    clear h0 h2 h3 h4 h5
    go_enter Try.func22, Try.ntmps22
    go_wp2
    go_ret
    exact ⟨_, _, rfl, ⟨rfl, .inl ⟨rfl, rfl⟩⟩, Below.refl _ _⟩
  | some g =>
    obtain ⟨W1, hW1⟩ : ∃ W, w.alloc (.cells #[] 9) = W := ⟨_, rfl⟩
    have hb1 : Below w.heap.size w W1 := by rw [← hW1]; exact (Below.refl _ _).alloc (Nat.le_refl _) _
    have HO : Hid (W1.ownsRow w.heap.size 9 1 (.slice (some ⟨w.heap.size, 0, none⟩) 0 0) 0 []) := ⟨rfl, .inr ⟨w.heap.size, 0, #[], rfl, Nat.le_refl _, by rw [← hW1]; exact heap_new _ _, Nat.le_refl _, Nat.zero_le _, rfl, rfl⟩⟩
    have HS : Hid (See W1 1 (.slice (some g) n c) n (scC nm)) := hS.below hb1
    have hz : 0 + n ≤ maxLen ∧ (0 + n) * 16 ≤ 140737488355328 ∧ w.heap.size ≤ W1.heap.size := ⟨by unfold maxLen; omega, by omega, hb1.size⟩
    clear hS
    go_enter Try.func22, Try.ntmps22
    go_wp2_with (first | (at_builtin; (try rw [hW1]); refine wpList_app rfl _ _ 28 9 rfl (.string { data := #[] }) 1 16 Try.underlying28 info9 rfl (by decide) w.heap.size _ _ 0 n [] (scC nm) rfl HO.out rfl HS.out hz.1 hz.2.1 hz.2.2 ?_; intro v' w2 hown hgrow) | go_in)
    rw [Nat.zero_add, List.nil_append] at hown
    obtain ⟨a, c, rfl⟩ := owns_form hown
    go_ret
    exact ⟨a, c, rfl, hown, hb1.trans (grown_below hgrow hz.2.2 HO.out)⟩
theorem cf_mayBeMade (args : Array Value) (w : World) : (callFunc 24 args).run Try.prog w = .ok (.enter 24 args) w := by kernel_rfl
theorem cf_create (args : Array Value) (w : World) : (callFunc 25 args).run Try.prog w = .ok (.enter 25 args) w := by kernel_rfl
theorem cf_mayBeRead (args : Array Value) (w : World) : (callFunc 26 args).run Try.prog w = .ok (.enter 26 args) w := by kernel_rfl
theorem cf_read (args : Array Value) (w : World) : (callFunc 27 args).run Try.prog w = .ok (.enter 27 args) w := by kernel_rfl
theorem cf_mayBeWritten (args : Array Value) (w : World) : (callFunc 28 args).run Try.prog w = .ok (.enter 28 args) w := by kernel_rfl
theorem cf_write (args : Array Value) (w : World) : (callFunc 29 args).run Try.prog w = .ok (.enter 29 args) w := by kernel_rfl
theorem cf_mayBeCut (args : Array Value) (w : World) : (callFunc 30 args).run Try.prog w = .ok (.enter 30 args) w := by kernel_rfl
theorem cf_cut (args : Array Value) (w : World) : (callFunc 31 args).run Try.prog w = .ok (.enter 31 args) w := by kernel_rfl
theorem cf_mayBeGone (args : Array Value) (w : World) : (callFunc 32 args).run Try.prog w = .ok (.enter 32 args) w := by kernel_rfl
theorem cf_remove (args : Array Value) (w : World) : (callFunc 33 args).run Try.prog w = .ok (.enter 33 args) w := by kernel_rfl
theorem cf_mayBeReplaced (args : Array Value) (w : World) : (callFunc 34 args).run Try.prog w = .ok (.enter 34 args) w := by kernel_rfl
theorem cf_replace (args : Array Value) (w : World) : (callFunc 35 args).run Try.prog w = .ok (.enter 35 args) w := by kernel_rfl

/-- all contents are small -/
def Sm (L : Fl) : Prop := ∀ k s, fnd L k = some s → s.length ≤ 549755813888
theorem sm_wo {L : Fl} (h : Sm L) (k : Int) : Sm (wo L k) := fun j s hj => by
  rw [fnd_wo] at hj
  split at hj
  · cases hj
  · exact h j s hj
theorem sm_wi {L : Fl} (h : Sm L) (k : Int) (t : List UInt8) (ht : t.length ≤ 549755813888) : Sm (wi L k t) := fun j s hj => by
  rw [fnd_wi] at hj
  split at hj
  · obtain rfl := Option.some.inj hj; exact ht
  · exact h j s hj
theorem may3 {L : Fl} {e : Ef} (hk : e.kd = 3) (hm : may L e = true) : ∃ s, fnd L e.fl = some s ∧ 0 ≤ e.at_ ∧ e.at_ ≤ 65536 - (e.da.length : Int) ∧ e.sz = szI s e.at_ e.da := by
  unfold may at hm
  rw [if_neg (by omega), if_neg (by omega), if_pos hk] at hm
  cases hs : fnd L e.fl with
  | none => rw [hs] at hm; cases hm
  | some s =>
    rw [hs] at hm
    simp only [decide_eq_true_eq] at hm
    exact ⟨s, rfl, hm⟩
theorem may4 {L : Fl} {e : Ef} (hk : e.kd = 4) (hm : may L e = true) : ∃ s, fnd L e.fl = some s ∧ 0 ≤ e.n ∧ e.n ≤ 65536 ∧ e.sz = e.n := by
  unfold may at hm
  rw [if_neg (by omega), if_neg (by omega), if_neg (by omega), if_pos hk] at hm
  simp only [decide_eq_true_eq] at hm
  obtain ⟨s, hs⟩ := Option.isSome_iff_exists.1 hm.1
  exact ⟨s, hs, hm.2⟩
theorem may2 {L : Fl} {e : Ef} (hk : e.kd = 2) (hm : may L e = true) : ∃ s, fnd L e.fl = some s ∧ (s.length : Int) = e.sz ∧ 0 ≤ e.at_ ∧ 0 ≤ e.n ∧ (e.n = 0 ∨ e.n ≤ e.sz - e.at_) := by
  unfold may at hm
  rw [if_neg (by omega), if_pos hk] at hm
  cases hs : fnd L e.fl with
  | none => rw [hs] at hm; cases hm
  | some s =>
    rw [hs] at hm
    simp only [decide_eq_true_eq] at hm
    exact ⟨s, rfl, hm⟩
theorem sm_beh {L : Fl} (h : Sm L) (e : Ef) (hm : may L e = true) : Sm (beh L e) := by
  unfold beh
  split
  · exact sm_wi h _ _ (Nat.zero_le _)
  · split
    · rename_i _ hk
      obtain ⟨s, hs, h0, h1, -⟩ := may3 hk hm
      refine sm_wi h _ _ ?_
      rw [wrt_len]
      have hl := h _ _ hs
      unfold ctt szw
      rw [hs]
      simp only [Option.getD_some]
      split <;> omega
    · split
      · rename_i _ _ hk
        obtain ⟨s, hs, h0, h1, -⟩ := may4 hk hm
        refine sm_wi h _ _ ?_
        rw [resz_len]
        omega
      · split
        · exact sm_wo h _
        · split
          · exact sm_wo h _
          · exact h
/-- an effect whose numbers are Go's -/
structure EfW (e : Ef) : Prop where
  fl : wf e.fl
  gn : wf e.gn
  at_ : e.at_ ≤ 9223372036854775807
  da : e.da.length ≤ 1152921504606846976
/-- what stands in the table for a kind -/
theorem deed_any (e : Ef) (hw : EfW e) (h1 : 1 ≤ e.kd) (h6 : e.kd ≤ 6) : ∃ (k : Nat) (fa fd : Nat), e.kd = (k : Int) ∧ 1 ≤ k ∧ k ≤ 6 ∧ dA[k * 2]? = some (.func (.func fa) #[] #[]) ∧ dA[k * 2 + 1]? = some (.func (.func fd) #[] #[]) ∧
    (∀ args w, (callFunc fa args).run Try.prog w = .ok (.enter fa args) w) ∧ (∀ args w, (callFunc fd args).run Try.prog w = .ok (.enter fd args) w) ∧
    (∀ (V : World) (m nn : Nat) (F : Nat → Prop) (L : Fl), Liv V m nn F L → nn < maxLen → Sm L → Calls Try.prog fa #[.map (some m), efV e] V fun x w' => x = .returned (.bool (may L e)) ∧ Below V.heap.size V w') ∧
    (∀ (V : World) (m nn : Nat) (F : Nat → Prop) (L : Fl) (cd n kd sz : Int) (da : List UInt8) (na : Option Addr) (nl nc : Nat), Liv V m nn F L → nn < maxLen → Sm L → may L e = true → Calls Try.prog fd #[.map (some m), efV e, .agg #[.int .i64 cd, .string (str da), .int .i64 n, .slice na nl nc, .int .i64 kd, .int .i64 sz]] V fun x w' => DoP F V m (nn + 1) (beh L e) #[.int .i64 cd, .string (str (rdD L e da)), .int .i64 n, .slice na nl nc, .int .i64 kd, .int .i64 sz] x w') := by
  have up : ∀ {F : Nat → Prop} {V w' : World} {m nn : Nat} {L : Fl}, Dn F V w' m nn L → Dn F V w' m (nn + 1) L := fun {F V w' m nn L} h => by
    obtain ⟨t, F', hl, hF⟩ := h
    exact ⟨t, F', hl.mono (by omega), hF⟩
  have hrd : e.kd ≠ 2 → ∀ L da, rdD L e da = da := fun h L da => by unfold rdD; rw [if_neg h]
  rcases (show e.kd = 1 ∨ e.kd = 2 ∨ e.kd = 3 ∨ e.kd = 4 ∨ e.kd = 5 ∨ e.kd = 6 by omega) with hk | hk | hk | hk | hk | hk
  · refine ⟨1, _, _, hk, by omega, by omega, rfl, rfl, cf_mayBeMade, cf_create, fun V m nn F L h hnn _ => mayMade_any V m nn F L h hnn e hk hw.fl, fun V m nn F L cd n kd sz da na nl nc h hnn _ hm => ?_⟩
    have hb : beh L e = wi L e.fl [] := by unfold beh; rw [if_pos hk]
    rw [hb, hrd (by omega)]
    exact create_any V m nn F L h hnn e hw.fl cd n kd sz (str da) na nl nc
  · refine ⟨2, _, _, hk, by omega, by omega, rfl, rfl, cf_mayBeRead, cf_read, fun V m nn F L h hnn hs => mayRead_any V m nn F L h hnn e hk hw.fl hw.at_ (fun s x => by have := hs _ s x; omega), fun V m nn F L cd n kd sz da na nl nc h hnn hs hm => ?_⟩
    have hb : beh L e = L := by unfold beh; rw [if_neg (by omega), if_neg (by omega), if_neg (by omega), if_neg (by omega), if_neg (by omega)]
    obtain ⟨s, hf, q1, q2, q3, q4⟩ := may2 hk hm
    have hr : rdD L e da = (s.drop e.at_.toNat).take e.n.toNat := by unfold rdD ctt; rw [if_pos hk, hf]; rfl
    rw [hb, hr]
    refine (read_any V m nn F L h hnn e hw.fl e.n.toNat (by omega) s hf (by have := hs _ s hf; omega) (by omega) cd n kd sz (str da) na nl nc).mono ?_
    rintro x w' ⟨rfl, hd⟩
    exact ⟨rfl, up hd⟩
  · refine ⟨3, _, _, hk, by omega, by omega, rfl, rfl, cf_mayBeWritten, cf_write, fun V m nn F L h hnn hs => mayWrite_any V m nn F L h hnn e hk hw.fl hw.da (fun s x => by have := hs _ s x; omega), fun V m nn F L cd n kd sz da na nl nc h hnn hs hm => ?_⟩
    obtain ⟨s, hf, q1, q2, q3⟩ := may3 hk hm
    have hb : beh L e = wi L e.fl (wrt s e.at_.toNat e.da) := by unfold beh ctt; rw [if_neg (by omega), if_pos hk, hf]; rfl
    rw [hb, hrd (by omega)]
    exact write_any V m nn F L h hnn e hw.fl e.at_.toNat (by omega) (by omega) s hf (by have := hs _ s hf; omega) cd n kd sz (str da) na nl nc
  · refine ⟨4, _, _, hk, by omega, by omega, rfl, rfl, cf_mayBeCut, cf_cut, fun V m nn F L h hnn _ => mayCut_any V m nn F L h hnn e hk hw.fl, fun V m nn F L cd n kd sz da na nl nc h hnn hs hm => ?_⟩
    obtain ⟨s, hf, q1, q2, q3⟩ := may4 hk hm
    have hb : beh L e = wi L e.fl (resz s e.n.toNat) := by unfold beh ctt; rw [if_neg (by omega), if_neg (by omega), if_pos hk, hf]; rfl
    rw [hb, hrd (by omega)]
    exact cut_any V m nn F L h hnn e hw.fl e.n.toNat (by omega) (by omega) s hf cd n kd sz (str da) na nl nc
  · refine ⟨5, _, _, hk, by omega, by omega, rfl, rfl, cf_mayBeGone, cf_remove, fun V m nn F L h hnn _ => mayGone_any V m nn F L h hnn e hk hw.fl, fun V m nn F L cd n kd sz da na nl nc h hnn hs hm => ?_⟩
    have hb : beh L e = wo L e.fl := by unfold beh; rw [if_neg (by omega), if_neg (by omega), if_neg (by omega), if_pos hk]
    rw [hb, hrd (by omega)]
    refine (remove_any V m nn F L h e hw.fl cd n kd sz (str da) na nl nc).mono ?_
    rintro x w' ⟨rfl, hd⟩
    exact ⟨rfl, up hd⟩
  · refine ⟨6, _, _, hk, by omega, by omega, rfl, rfl, cf_mayBeReplaced, cf_replace, fun V m nn F L h hnn _ => mayOver_any V m nn F L h hnn e hk hw.gn, fun V m nn F L cd n kd sz da na nl nc h hnn hs hm => ?_⟩
    have hb : beh L e = wo L e.gn := by unfold beh; rw [if_neg (by omega), if_neg (by omega), if_neg (by omega), if_neg (by omega), if_pos hk]
    rw [hb, hrd (by omega)]
    refine (replace_any V m nn F L h e hw.gn cd n kd sz (str da) na nl nc).mono ?_
    rintro x w' ⟨rfl, hd⟩
    exact ⟨rfl, up hd⟩
end Go.Proofs.Ytpjigcccjiidpaa.Ex
