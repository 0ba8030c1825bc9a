import Derived.Test.YtgbkalflpgghnaaDoorShaA
import Derived.KernelRfl
namespace Go.Proofs.YtgbkalflpgghnaaDoor

/-- a number worked out ahead of what is done with it -/
def frc {α : Type} (n : Nat) (k : Nat → α) : α := Nat.rec (k (nat_lit 0)) (fun m _ => k (Nat.succ m)) n
theorem frc_eq {α : Type} (n : Nat) (k : Nat → α) : frc n k = k n := by cases n <;> rfl

def qb1 (x : Nat) : Nat := frc (Nat.mul x (nat_lit 4294967297)) fun y => (Nat.mod (Nat.xor (Nat.xor (Nat.div y (nat_lit 64)) (Nat.div y (nat_lit 2048))) (Nat.div y (nat_lit 33554432))) (nat_lit 4294967296))
def qb0 (x : Nat) : Nat := frc (Nat.mul x (nat_lit 4294967297)) fun y => (Nat.mod (Nat.xor (Nat.xor (Nat.div y (nat_lit 4)) (Nat.div y (nat_lit 8192))) (Nat.div y (nat_lit 4194304))) (nat_lit 4294967296))
def ql0 (x : Nat) : Nat := frc (Nat.mul x (nat_lit 4294967297)) fun y => (Nat.xor (Nat.mod (Nat.xor (Nat.div y (nat_lit 128)) (Nat.div y (nat_lit 262144))) (nat_lit 4294967296)) (Nat.div x (nat_lit 8)))
def ql1 (x : Nat) : Nat := frc (Nat.mul x (nat_lit 4294967297)) fun y => (Nat.xor (Nat.mod (Nat.xor (Nat.div y (nat_lit 131072)) (Nat.div y (nat_lit 524288))) (nat_lit 4294967296)) (Nat.div x (nat_lit 1024)))

theorem rot_quick (x s : Nat) (hx : x < 4294967296) (h1 : 1 ≤ s) (h2 : s ≤ 31) : x * 4294967297 / 2 ^ s % 4294967296 = rot x s := by
  have hl := rot_lt x s hx h1 h2
  have e : 2 ^ s * 2 ^ (32 - s) = 4294967296 := by rw [← Nat.pow_add, show s + (32 - s) = 32 by omega]
  have p : 0 < 2 ^ s := Nat.pow_pos (by omega)
  unfold rot at hl ⊢
  revert hl e p
  generalize 2 ^ s = P
  generalize 2 ^ (32 - s) = Q
  intro hl e p
  have h3 : x * 4294967297 = x + x * Q * P := by rw [Nat.mul_assoc, Nat.mul_comm Q, e]; omega
  have h4 : x * Q = x % P * Q + x / P * 4294967296 := by
    rw [← e]
    conv => lhs; rw [← Nat.mod_add_div x P]
    rw [Nat.add_mul, Nat.mul_comm P (x / P), Nat.mul_assoc]
  rw [h3, Nat.add_mul_div_right _ _ p, h4, ← Nat.add_assoc, Nat.add_mul_mod_self_right, Nat.mod_eq_of_lt hl]
theorem xor_mod (a b : Nat) : (a ^^^ b) % 4294967296 = a % 4294967296 ^^^ b % 4294967296 := Nat.xor_mod_two_pow (n := 32)
theorem qb1_eq (x : Nat) (h : x < 4294967296) : qb1 x = big1 x := by
  unfold qb1 big1
  rw [frc_eq]
  show (x * 4294967297 / 64 ^^^ x * 4294967297 / 2048 ^^^ x * 4294967297 / 33554432) % 4294967296 = _
  have r6 : x * 4294967297 / 64 % 4294967296 = rot x 6 := rot_quick x 6 h (by omega) (by omega)
  have r11 : x * 4294967297 / 2048 % 4294967296 = rot x 11 := rot_quick x 11 h (by omega) (by omega)
  have r25 : x * 4294967297 / 33554432 % 4294967296 = rot x 25 := rot_quick x 25 h (by omega) (by omega)
  rw [xor_mod, xor_mod, r6, r11, r25]
theorem qb0_eq (x : Nat) (h : x < 4294967296) : qb0 x = big0 x := by
  unfold qb0 big0
  rw [frc_eq]
  show (x * 4294967297 / 4 ^^^ x * 4294967297 / 8192 ^^^ x * 4294967297 / 4194304) % 4294967296 = _
  have r2 : x * 4294967297 / 4 % 4294967296 = rot x 2 := rot_quick x 2 h (by omega) (by omega)
  have r13 : x * 4294967297 / 8192 % 4294967296 = rot x 13 := rot_quick x 13 h (by omega) (by omega)
  have r22 : x * 4294967297 / 4194304 % 4294967296 = rot x 22 := rot_quick x 22 h (by omega) (by omega)
  rw [xor_mod, xor_mod, r2, r13, r22]
theorem ql0_eq (x : Nat) (h : x < 4294967296) : ql0 x = little0 x := by
  unfold ql0 little0
  rw [frc_eq]
  show (x * 4294967297 / 128 ^^^ x * 4294967297 / 262144) % 4294967296 ^^^ x / 8 = _
  have r7 : x * 4294967297 / 128 % 4294967296 = rot x 7 := rot_quick x 7 h (by omega) (by omega)
  have r18 : x * 4294967297 / 262144 % 4294967296 = rot x 18 := rot_quick x 18 h (by omega) (by omega)
  rw [xor_mod, r7, r18]
theorem ql1_eq (x : Nat) (h : x < 4294967296) : ql1 x = little1 x := by
  unfold ql1 little1
  rw [frc_eq]
  show (x * 4294967297 / 131072 ^^^ x * 4294967297 / 524288) % 4294967296 ^^^ x / 1024 = _
  have r17 : x * 4294967297 / 131072 % 4294967296 = rot x 17 := rot_quick x 17 h (by omega) (by omega)
  have r19 : x * 4294967297 / 524288 % 4294967296 = rot x 19 := rot_quick x 19 h (by omega) (by omega)
  rw [xor_mod, r17, r19]

/-- the constants as the kernel has them -/
def kq : List Nat := [nat_lit 1116352408, nat_lit 1899447441, nat_lit 3049323471, nat_lit 3921009573, nat_lit 961987163, nat_lit 1508970993, nat_lit 2453635748, nat_lit 2870763221, nat_lit 3624381080, nat_lit 310598401, nat_lit 607225278, nat_lit 1426881987, nat_lit 1925078388, nat_lit 2162078206, nat_lit 2614888103, nat_lit 3248222580, nat_lit 3835390401, nat_lit 4022224774, nat_lit 264347078, nat_lit 604807628, nat_lit 770255983, nat_lit 1249150122, nat_lit 1555081692, nat_lit 1996064986, nat_lit 2554220882, nat_lit 2821834349, nat_lit 2952996808, nat_lit 3210313671, nat_lit 3336571891, nat_lit 3584528711, nat_lit 113926993, nat_lit 338241895, nat_lit 666307205, nat_lit 773529912, nat_lit 1294757372, nat_lit 1396182291, nat_lit 1695183700, nat_lit 1986661051, nat_lit 2177026350, nat_lit 2456956037, nat_lit 2730485921, nat_lit 2820302411, nat_lit 3259730800, nat_lit 3345764771, nat_lit 3516065817, nat_lit 3600352804, nat_lit 4094571909, nat_lit 275423344, nat_lit 430227734, nat_lit 506948616, nat_lit 659060556, nat_lit 883997877, nat_lit 958139571, nat_lit 1322822218, nat_lit 1537002063, nat_lit 1747873779, nat_lit 1955562222, nat_lit 2024104815, nat_lit 2227730452, nat_lit 2361852424, nat_lit 2428436474, nat_lit 2756734187, nat_lit 3204031479, nat_lit 3329325298]
theorem kq_eq : kq = kk := rfl
noncomputable def rF {α : Type} (K : Nat → Nat → Nat → Nat → Nat → Nat → Nat → Nat → α) (l : List Nat) : Nat → Nat → Nat → Nat → Nat → Nat → Nat → Nat → Nat → Nat → Nat → Nat → Nat → Nat → Nat → Nat → Nat → Nat → Nat → Nat → Nat → Nat → Nat → Nat → α :=
  List.rec (motive := fun _ => Nat → Nat → Nat → Nat → Nat → Nat → Nat → Nat → Nat → Nat → Nat → Nat → Nat → Nat → Nat → Nat → Nat → Nat → Nat → Nat → Nat → Nat → Nat → Nat → α) (fun a b c d e f g h _ _ _ _ _ _ _ _ _ _ _ _ _ _ _ _ => K a b c d e f g h)
    (fun k _ ih a b c d e f g h w0 w1 w2 w3 w4 w5 w6 w7 w8 w9 w10 w11 w12 w13 w14 w15 =>
    frc (Nat.mod (Nat.add (Nat.add (Nat.add (Nat.add h (qb1 e)) (Nat.xor (Nat.land e f) (Nat.land (Nat.sub (nat_lit 4294967295) e) g))) k) w0) (nat_lit 4294967296)) fun t =>
    frc (Nat.mod (Nat.add t (Nat.mod (Nat.add (qb0 a) (Nat.xor (Nat.xor (Nat.land a b) (Nat.land a c)) (Nat.land b c))) (nat_lit 4294967296))) (nat_lit 4294967296)) fun a' =>
    frc (Nat.mod (Nat.add d t) (nat_lit 4294967296)) fun e' =>
    frc (Nat.mod (Nat.add (Nat.add (Nat.add (ql1 w14) w9) (ql0 w1)) w0) (nat_lit 4294967296)) fun w16 =>
    ih a' a b c e' e f g w1 w2 w3 w4 w5 w6 w7 w8 w9 w10 w11 w12 w13 w14 w15 w16) l
theorem rF_nil {α : Type} (K : Nat → Nat → Nat → Nat → Nat → Nat → Nat → Nat → α) (a b c d e f g h w0 w1 w2 w3 w4 w5 w6 w7 w8 w9 w10 w11 w12 w13 w14 w15 : Nat) : rF K [] a b c d e f g h w0 w1 w2 w3 w4 w5 w6 w7 w8 w9 w10 w11 w12 w13 w14 w15 = K a b c d e f g h := rfl
theorem rF_cons {α : Type} (K : Nat → Nat → Nat → Nat → Nat → Nat → Nat → Nat → α) (k : Nat) (l : List Nat) (a b c d e f g h w0 w1 w2 w3 w4 w5 w6 w7 w8 w9 w10 w11 w12 w13 w14 w15 : Nat) : rF K (k :: l) a b c d e f g h w0 w1 w2 w3 w4 w5 w6 w7 w8 w9 w10 w11 w12 w13 w14 w15 =
    rF K l ((((h + qb1 e + ((e &&& f) ^^^ ((4294967295 - e) &&& g)) + k + w0) % 4294967296) + (qb0 a + ((a &&& b) ^^^ (a &&& c) ^^^ (b &&& c))) % 4294967296) % 4294967296) a b c ((d + ((h + qb1 e + ((e &&& f) ^^^ ((4294967295 - e) &&& g)) + k + w0) % 4294967296)) % 4294967296) e f g w1 w2 w3 w4 w5 w6 w7 w8 w9 w10 w11 w12 w13 w14 w15 ((ql1 w14 + w9 + ql0 w1 + w0) % 4294967296) := by
  refine Eq.trans (b := frc ((h + qb1 e + ((e &&& f) ^^^ ((4294967295 - e) &&& g)) + k + w0) % 4294967296) fun t =>
    frc ((t + (qb0 a + ((a &&& b) ^^^ (a &&& c) ^^^ (b &&& c))) % 4294967296) % 4294967296) fun a' =>
    frc ((d + t) % 4294967296) fun e' =>
    frc ((ql1 w14 + w9 + ql0 w1 + w0) % 4294967296) fun w16 =>
    rF K l a' a b c e' e f g w1 w2 w3 w4 w5 w6 w7 w8 w9 w10 w11 w12 w13 w14 w15 w16) rfl ?_
  simp only [frc_eq]

/-- the words of the schedule, without an end -/
def wd (w : List Nat) (i : Nat) : Nat := (schedN w i).getD i 0
theorem schedN_getD (w : List Nat) (n i : Nat) (h : i < w.length + n) : ∀ m, (schedN w (n + m)).getD i 0 = (schedN w n).getD i 0
  | 0 => rfl
  | m + 1 => by
    rw [← schedN_getD w n i h m, ← Nat.add_assoc, schedN, List.getD_eq_getElem?_getD, List.getD_eq_getElem?_getD, List.getElem?_append_left (by rw [schedN_length]; omega)]
theorem wd_at (w : List Nat) (hw : w.length = 16) (n i : Nat) (h : i < 16 + n) : (schedN w n).getD i 0 = wd w i := by
  unfold wd
  rcases Nat.le_total n i with hle | hle
  · obtain ⟨m, rfl⟩ := Nat.exists_eq_add_of_le hle
    exact (schedN_getD w n _ (by omega) m).symm
  · obtain ⟨m, rfl⟩ := Nat.exists_eq_add_of_le hle
    exact schedN_getD w i i (by omega) m
theorem more_at (ws : List Nat) (i : Nat) (h : ws.length = 16 + i) : more ws = (little1 (ws.getD (i + 14) 0) + ws.getD (i + 9) 0 + little0 (ws.getD (i + 1) 0) + ws.getD i 0) % 4294967296 := by
  have e1 : ws.length - 2 = i + 14 := by omega
  have e2 : ws.length - 7 = i + 9 := by omega
  have e3 : ws.length - 15 = i + 1 := by omega
  have e4 : ws.length - 16 = i := by omega
  unfold more
  rw [e1, e2, e3, e4]
theorem getD_last (l : List Nat) (x n : Nat) (h : l.length = n) : (l ++ [x]).getD n 0 = x := by
  subst h
  simp
theorem wd_next (w : List Nat) (hw : w.length = 16) (i : Nat) : wd w (i + 16) = more (schedN w i) := by
  rw [← wd_at w hw (i + 1) (i + 16) (by omega), schedN]
  exact getD_last _ _ _ (by rw [schedN_length, hw]; omega)
theorem wd_more (w : List Nat) (hw : w.length = 16) (i : Nat) : wd w (i + 16) = (little1 (wd w (i + 14)) + wd w (i + 9) + little0 (wd w (i + 1)) + wd w i) % 4294967296 := by
  have e1 := wd_at w hw i (i + 14) (by omega)
  have e2 := wd_at w hw i (i + 9) (by omega)
  have e3 := wd_at w hw i (i + 1) (by omega)
  have e4 := wd_at w hw i i (by omega)
  have h := (wd_next w hw i).trans (more_at (schedN w i) i (by rw [schedN_length, hw]))
  rw [e1, e2, e3, e4] at h
  exact h
theorem wd_lt (w : List Nat) (h : ∀ x ∈ w, x < 4294967296) (i : Nat) : wd w i < 4294967296 := getD_lt (schedN_lt w h i) i

end Go.Proofs.YtgbkalflpgghnaaDoor
