import Derived.Test.YtgbkalflpgghnaaDoorKqA
namespace Go.Proofs.YtgbkalflpgghnaaDoor

theorem kk_end : kk.drop 64 = [] := by decide
theorem rF_eq {α : Type} (K : Nat → Nat → Nat → Nat → Nat → Nat → Nat → Nat → α) (s : W8) (hs : s.OK) (w : List Nat) (hw : w.length = 16) (hl : ∀ x ∈ w, x < 4294967296) (R : W8) (hR : R = roundN s (schedN w 48) 64) (n : Nat) : ∀ i, i + n = 64 → ∀ s' : W8, s' = roundN s (schedN w 48) i → ∀ v : Nat → Nat, v = wd w →
    rF K (kk.drop i) s'.a s'.b s'.c s'.d s'.e s'.f s'.g s'.h (v i) (v (i + 1)) (v (i + 2)) (v (i + 3)) (v (i + 4)) (v (i + 5)) (v (i + 6)) (v (i + 7)) (v (i + 8)) (v (i + 9)) (v (i + 10)) (v (i + 11)) (v (i + 12)) (v (i + 13)) (v (i + 14)) (v (i + 15)) = K R.a R.b R.c R.d R.e R.f R.g R.h := by
  induction n with
  | zero =>
    intro i hi s' hs' v _
    obtain rfl : i = 64 := by omega
    rw [hR, ← hs', kk_end, rF_nil]
  | succ n ih =>
    intro i hi s' hs' v hv
    have hk : kk.drop i = kk.getD i 0 :: kk.drop (i + 1) := by
      rw [List.drop_eq_getElem_cons (by rw [kk_length]; omega), List.getD_eq_getElem?_getD, List.getElem?_eq_getElem (by rw [kk_length]; omega), Option.getD_some]
    have ok : s'.OK := by rw [hs']; exact roundN_OK hs _ _
    have h := ih (i + 1) (by omega) (s'.step (kk.getD i 0) (v i)) (by rw [hs', roundN, wd_at w hw 48 i (by omega), hv]) v hv
    have hm : (ql1 (v (i + 14)) + v (i + 9) + ql0 (v (i + 1)) + v i) % 4294967296 = v (i + 16) := by
      rw [hv, ql1_eq _ (wd_lt w hl _), ql0_eq _ (wd_lt w hl _), wd_more w hw]
    rw [hk, rF_cons, hm, qb1_eq _ ok.e, qb0_eq _ ok.a]
    simp only [W8.step, W8.tt, W8.uu, Nat.add_assoc, Nat.reduceAdd] at h ⊢
    exact h

/-- a block of sixteen words mixed in -/
noncomputable def mixF {α : Type} (xa xb xc xd xe xf xg xh w0 w1 w2 w3 w4 w5 w6 w7 w8 w9 w10 w11 w12 w13 w14 w15 : Nat) (K : Nat → Nat → Nat → Nat → Nat → Nat → Nat → Nat → α) : α := rF (fun a b c d e f g h =>
    frc (Nat.mod (Nat.add xa a) (nat_lit 4294967296)) fun a => frc (Nat.mod (Nat.add xb b) (nat_lit 4294967296)) fun b => frc (Nat.mod (Nat.add xc c) (nat_lit 4294967296)) fun c => frc (Nat.mod (Nat.add xd d) (nat_lit 4294967296)) fun d => frc (Nat.mod (Nat.add xe e) (nat_lit 4294967296)) fun e => frc (Nat.mod (Nat.add xf f) (nat_lit 4294967296)) fun f => frc (Nat.mod (Nat.add xg g) (nat_lit 4294967296)) fun g => frc (Nat.mod (Nat.add xh h) (nat_lit 4294967296)) fun h => K a b c d e f g h) kq xa xb xc xd xe xf xg xh w0 w1 w2 w3 w4 w5 w6 w7 w8 w9 w10 w11 w12 w13 w14 w15
theorem mixF_def {α : Type} (xa xb xc xd xe xf xg xh w0 w1 w2 w3 w4 w5 w6 w7 w8 w9 w10 w11 w12 w13 w14 w15 : Nat) (K : Nat → Nat → Nat → Nat → Nat → Nat → Nat → Nat → α) : mixF xa xb xc xd xe xf xg xh w0 w1 w2 w3 w4 w5 w6 w7 w8 w9 w10 w11 w12 w13 w14 w15 K = rF (fun a b c d e f g h =>
    frc ((xa + a) % 4294967296) fun a => frc ((xb + b) % 4294967296) fun b => frc ((xc + c) % 4294967296) fun c => frc ((xd + d) % 4294967296) fun d => frc ((xe + e) % 4294967296) fun e => frc ((xf + f) % 4294967296) fun f => frc ((xg + g) % 4294967296) fun g => frc ((xh + h) % 4294967296) fun h => K a b c d e f g h) kk xa xb xc xd xe xf xg xh w0 w1 w2 w3 w4 w5 w6 w7 w8 w9 w10 w11 w12 w13 w14 w15 := rfl
theorem mixF_words {α : Type} (K : Nat → Nat → Nat → Nat → Nat → Nat → Nat → Nat → α) (s : W8) (hs : s.OK) (w : List Nat) (hw : w.length = 16) (hl : ∀ x ∈ w, x < 4294967296) (r : W8) (hr : r = s.add (roundN s (schedN w 48) 64)) : mixF s.a s.b s.c s.d s.e s.f s.g s.h (w.getD 0 0) (w.getD 1 0) (w.getD 2 0) (w.getD 3 0) (w.getD 4 0) (w.getD 5 0) (w.getD 6 0) (w.getD 7 0) (w.getD 8 0) (w.getD 9 0) (w.getD 10 0) (w.getD 11 0) (w.getD 12 0) (w.getD 13 0) (w.getD 14 0) (w.getD 15 0) K = K r.a r.b r.c r.d r.e r.f r.g r.h := by
  have e : ∀ i, i < 16 → w.getD i 0 = wd w i := fun i h => wd_at w hw 0 i h
  rw [e 0 (by omega), e 1 (by omega), e 2 (by omega), e 3 (by omega), e 4 (by omega), e 5 (by omega), e 6 (by omega), e 7 (by omega), e 8 (by omega), e 9 (by omega), e 10 (by omega), e 11 (by omega), e 12 (by omega), e 13 (by omega), e 14 (by omega), e 15 (by omega)]
  obtain ⟨R, hR⟩ : ∃ R, R = roundN s (schedN w 48) 64 := ⟨_, rfl⟩
  have h := rF_eq (fun a b c d e f g h => frc ((s.a + a) % 4294967296) fun a => frc ((s.b + b) % 4294967296) fun b => frc ((s.c + c) % 4294967296) fun c => frc ((s.d + d) % 4294967296) fun d => frc ((s.e + e) % 4294967296) fun e => frc ((s.f + f) % 4294967296) fun f => frc ((s.g + g) % 4294967296) fun g => frc ((s.h + h) % 4294967296) fun h => K a b c d e f g h) s hs w hw hl R hR 64 0 rfl s rfl (wd w) rfl
  rw [List.drop_zero] at h
  simp only [Nat.zero_add, frc_eq] at h
  rw [hr, ← hR]
  rw [mixF_def]
  simp only [frc_eq]
  exact h
theorem mix_quick {α : Type} (K : Nat → Nat → Nat → Nat → Nat → Nat → Nat → Nat → α) (s : W8) (hs : s.OK) (b : List UInt8) (r : W8) (hr : r = mix s b) : mixF s.a s.b s.c s.d s.e s.f s.g s.h (word b 0) (word b 1) (word b 2) (word b 3) (word b 4) (word b 5) (word b 6) (word b 7) (word b 8) (word b 9) (word b 10) (word b 11) (word b 12) (word b 13) (word b 14) (word b 15) K = K r.a r.b r.c r.d r.e r.f r.g r.h := by
  have h := mixF_words K s hs (wordsN b 16) (wordsN_length b 16) (wordsN_lt b 16) r hr
  have e : ∀ i, i < 16 → (wordsN b 16).getD i 0 = word b i := fun i hi => by simp [wordsN, List.getD_eq_getElem?_getD, List.getElem?_range hi]
  rw [e 0 (by omega), e 1 (by omega), e 2 (by omega), e 3 (by omega), e 4 (by omega), e 5 (by omega), e 6 (by omega), e 7 (by omega), e 8 (by omega), e 9 (by omega), e 10 (by omega), e 11 (by omega), e 12 (by omega), e 13 (by omega), e 14 (by omega), e 15 (by omega)] at h
  exact h

end Go.Proofs.YtgbkalflpgghnaaDoor
