import Derived.Test.YtgbkalflpgghnaaDoorKqB
import Derived.Test.YtgbkalflpgghnaaDoorShaM
namespace Go.Proofs.YtgbkalflpgghnaaDoor

theorem wtext_len (s : W8) : (wtext s).length = 32 := by rw [wtext, be4s_length]; rfl
theorem be4_back (x : Nat) (h : x < 4294967296) : 16777216 * (UInt8.ofNat (x / 16777216)).toNat + 65536 * (UInt8.ofNat (x / 65536)).toNat + 256 * (UInt8.ofNat (x / 256)).toNat + (UInt8.ofNat x).toNat = x := by
  simp only [UInt8.toNat_ofNat']
  omega
/-- a sum of two blocks: the first of 64 bytes, then 32 bytes -/
theorem sha_two (p u : List UInt8) (hp : p.length = 64) (hu : u.length = 32) : shaL (p ++ u) = wtext (mix (mix first p) (u ++ endL 96)) := by
  have he : (endL 96).length = 32 := by decide
  have hl : (p ++ u).length = 96 := by rw [List.length_append, hp, hu]
  unfold shaL
  rw [hl, List.append_assoc, eat_block _ _ (by rw [List.length_append, hp]; omega), List.take_left' hp, List.drop_left' hp]
  have h2 : (u ++ endL 96).length = 64 := by rw [List.length_append, hu, he]
  rw [eat_block _ _ (by omega), List.take_of_length_le (by omega), List.drop_of_length_le (by omega), eat_short _ _ (by simp)]
/-- one link -/
def stepW (I O v : W8) : W8 := mix O (wtext (mix I (wtext v ++ endL 96)) ++ endL 96)
theorem stepW_OK (I O v : W8) : (stepW I O v).OK := mix_OK _ _
theorem word_a (v : W8) (h : v.OK) : word (wtext v ++ endL 96) 0 = v.a := be4_back v.a h.a
theorem word_b (v : W8) (h : v.OK) : word (wtext v ++ endL 96) 1 = v.b := be4_back v.b h.b
theorem word_c (v : W8) (h : v.OK) : word (wtext v ++ endL 96) 2 = v.c := be4_back v.c h.c
theorem word_d (v : W8) (h : v.OK) : word (wtext v ++ endL 96) 3 = v.d := be4_back v.d h.d
theorem word_e (v : W8) (h : v.OK) : word (wtext v ++ endL 96) 4 = v.e := be4_back v.e h.e
theorem word_f (v : W8) (h : v.OK) : word (wtext v ++ endL 96) 5 = v.f := be4_back v.f h.f
theorem word_g (v : W8) (h : v.OK) : word (wtext v ++ endL 96) 6 = v.g := be4_back v.g h.g
theorem word_h (v : W8) (h : v.OK) : word (wtext v ++ endL 96) 7 = v.h := be4_back v.h h.h
theorem word_8 (v : W8) : word (wtext v ++ endL 96) 8 = 2147483648 := by kernel_rfl
theorem word_9 (v : W8) : word (wtext v ++ endL 96) 9 = 0 := by kernel_rfl
theorem word_10 (v : W8) : word (wtext v ++ endL 96) 10 = 0 := by kernel_rfl
theorem word_11 (v : W8) : word (wtext v ++ endL 96) 11 = 0 := by kernel_rfl
theorem word_12 (v : W8) : word (wtext v ++ endL 96) 12 = 0 := by kernel_rfl
theorem word_13 (v : W8) : word (wtext v ++ endL 96) 13 = 0 := by kernel_rfl
theorem word_14 (v : W8) : word (wtext v ++ endL 96) 14 = 0 := by kernel_rfl
theorem word_15 (v : W8) : word (wtext v ++ endL 96) 15 = 768 := by kernel_rfl

set_option maxRecDepth 20000 in
theorem mix_link {α : Type} (K : Nat → Nat → Nat → Nat → Nat → Nat → Nat → Nat → α) (s : W8) (hs : s.OK) (v : W8) (hv : v.OK) (r : W8) (hr : r = mix s (wtext v ++ endL 96)) : mixF s.a s.b s.c s.d s.e s.f s.g s.h v.a v.b v.c v.d v.e v.f v.g v.h 2147483648 0 0 0 0 0 0 768 K = K r.a r.b r.c r.d r.e r.f r.g r.h := by
  have h := mix_quick K s hs (wtext v ++ endL 96) r hr
  rw [word_a v hv, word_b v hv, word_c v hv, word_d v hv, word_e v hv, word_f v hv, word_g v hv, word_h v hv, word_8 v, word_9 v, word_10 v, word_11 v, word_12 v, word_13 v, word_14 v, word_15 v] at h
  exact h

/-- words crossed with words -/
def W8.xor (s t : W8) : W8 := ⟨s.a ^^^ t.a, s.b ^^^ t.b, s.c ^^^ t.c, s.d ^^^ t.d, s.e ^^^ t.e, s.f ^^^ t.f, s.g ^^^ t.g, s.h ^^^ t.h⟩
/-- n links more, and what has been crossed -/
def it (I O : W8) : Nat → W8 → W8 → W8 × W8
  | 0, v, x => (v, x)
  | n + 1, v, x => it I O n (stepW I O v) (x.xor (stepW I O v))
theorem it_add (I O : W8) (m : Nat) : ∀ n v x, it I O (n + m) v x = it I O m (it I O n v x).1 (it I O n v x).2
  | 0, v, x => by rw [Nat.zero_add]; rfl
  | n + 1, v, x => by rw [Nat.add_right_comm, it, it, it_add I O m n]

noncomputable def goF {α : Type} (K : Nat → Nat → Nat → Nat → Nat → Nat → Nat → Nat → Nat → Nat → Nat → Nat → Nat → Nat → Nat → Nat → α) (pa pb pc pd pe pf pg ph qa qb qc qd qe qf qg qh : Nat) (n : Nat) : Nat → Nat → Nat → Nat → Nat → Nat → Nat → Nat → Nat → Nat → Nat → Nat → Nat → Nat → Nat → Nat → α :=
  Nat.rec (motive := fun _ => Nat → Nat → Nat → Nat → Nat → Nat → Nat → Nat → Nat → Nat → Nat → Nat → Nat → Nat → Nat → Nat → α) K
    (fun _ ih va vb vc vd ve vf vg vh xa xb xc xd xe xf xg xh => mixF pa pb pc pd pe pf pg ph va vb vc vd ve vf vg vh (nat_lit 2147483648) (nat_lit 0) (nat_lit 0) (nat_lit 0) (nat_lit 0) (nat_lit 0) (nat_lit 0) (nat_lit 768) fun a b c d e f g h => mixF qa qb qc qd qe qf qg qh a b c d e f g h (nat_lit 2147483648) (nat_lit 0) (nat_lit 0) (nat_lit 0) (nat_lit 0) (nat_lit 0) (nat_lit 0) (nat_lit 768) fun ya yb yc yd ye yf yg yh =>
      frc (Nat.xor xa ya) fun xa => frc (Nat.xor xb yb) fun xb => frc (Nat.xor xc yc) fun xc => frc (Nat.xor xd yd) fun xd => frc (Nat.xor xe ye) fun xe => frc (Nat.xor xf yf) fun xf => frc (Nat.xor xg yg) fun xg => frc (Nat.xor xh yh) fun xh => ih ya yb yc yd ye yf yg yh xa xb xc xd xe xf xg xh) n
theorem goF_succ {α : Type} (K : Nat → Nat → Nat → Nat → Nat → Nat → Nat → Nat → Nat → Nat → Nat → Nat → Nat → Nat → Nat → Nat → α) (pa pb pc pd pe pf pg ph qa qb qc qd qe qf qg qh : Nat) (n : Nat) (va vb vc vd ve vf vg vh xa xb xc xd xe xf xg xh : Nat) : goF K pa pb pc pd pe pf pg ph qa qb qc qd qe qf qg qh (n + 1) va vb vc vd ve vf vg vh xa xb xc xd xe xf xg xh =
    mixF pa pb pc pd pe pf pg ph va vb vc vd ve vf vg vh 2147483648 0 0 0 0 0 0 768 fun a b c d e f g h => mixF qa qb qc qd qe qf qg qh a b c d e f g h 2147483648 0 0 0 0 0 0 768 fun ya yb yc yd ye yf yg yh =>
      frc (xa ^^^ ya) fun xa => frc (xb ^^^ yb) fun xb => frc (xc ^^^ yc) fun xc => frc (xd ^^^ yd) fun xd => frc (xe ^^^ ye) fun xe => frc (xf ^^^ yf) fun xf => frc (xg ^^^ yg) fun xg => frc (xh ^^^ yh) fun xh => goF K pa pb pc pd pe pf pg ph qa qb qc qd qe qf qg qh n ya yb yc yd ye yf yg yh xa xb xc xd xe xf xg xh := rfl
theorem goF_eq {α : Type} (K : Nat → Nat → Nat → Nat → Nat → Nat → Nat → Nat → Nat → Nat → Nat → Nat → Nat → Nat → Nat → Nat → α) (I O : W8) (hI : I.OK) (hO : O.OK) : ∀ n (v x : W8), v.OK → goF K I.a I.b I.c I.d I.e I.f I.g I.h O.a O.b O.c O.d O.e O.f O.g O.h n v.a v.b v.c v.d v.e v.f v.g v.h x.a x.b x.c x.d x.e x.f x.g x.h = K (it I O n v x).1.a (it I O n v x).1.b (it I O n v x).1.c (it I O n v x).1.d (it I O n v x).1.e (it I O n v x).1.f (it I O n v x).1.g (it I O n v x).1.h (it I O n v x).2.a (it I O n v x).2.b (it I O n v x).2.c (it I O n v x).2.d (it I O n v x).2.e (it I O n v x).2.f (it I O n v x).2.g (it I O n v x).2.h
  | 0, v, x, _ => rfl
  | n + 1, v, x, hv => by
    have ih := goF_eq K I O hI hO n (stepW I O v) (x.xor (stepW I O v)) (stepW_OK _ _ _)
    rw [goF_succ, mix_link _ I hI v hv _ rfl, mix_link _ O hO _ (mix_OK _ _) (stepW I O v) rfl]
    simp only [frc_eq]
    exact ih
/-- what the kernel works out, as links -/
theorem it_of (I O v x v' x' : W8) (hI : I.OK) (hO : O.OK) (hv : v.OK) (n : Nat) (h : goF (fun va vb vc vd ve vf vg vh xa xb xc xd xe xf xg xh => ((⟨va, vb, vc, vd, ve, vf, vg, vh⟩ : W8), (⟨xa, xb, xc, xd, xe, xf, xg, xh⟩ : W8))) I.a I.b I.c I.d I.e I.f I.g I.h O.a O.b O.c O.d O.e O.f O.g O.h n v.a v.b v.c v.d v.e v.f v.g v.h x.a x.b x.c x.d x.e x.f x.g x.h = (v', x')) : it I O n v x = (v', x') := by
  rw [goF_eq _ I O hI hO n v x hv] at h
  exact h

end Go.Proofs.YtgbkalflpgghnaaDoor
