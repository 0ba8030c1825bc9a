import Derived.Test.YtjjabkimmgcejaaDoorLawsB
namespace Go.Proofs.YtjjabkimmgcejaaDoor
open Go.RowKit Go.Lib

/-- 32 bits turned towards the low end -/
def rot (x s : Nat) : Nat := x / 2 ^ s + x % 2 ^ s * 2 ^ (32 - s)
def little0 (x : Nat) : Nat := (rot x 7 ^^^ rot x 18) ^^^ x / 8
def little1 (x : Nat) : Nat := (rot x 17 ^^^ rot x 19) ^^^ x / 1024
def big0 (x : Nat) : Nat := (rot x 2 ^^^ rot x 13) ^^^ rot x 22
def big1 (x : Nat) : Nat := (rot x 6 ^^^ rot x 11) ^^^ rot x 25

theorem rot_lt (x s : Nat) (hx : x < 4294967296) (h1 : 1 ≤ s) (h2 : s ≤ 31) : rot x s < 4294967296 := by
  unfold rot
  have e : 2 ^ s * 2 ^ (32 - s) = 4294967296 := by rw [← Nat.pow_add, show s + (32 - s) = 32 by omega]
  have p : 0 < 2 ^ s := Nat.pow_pos (by omega)
  have a : x / 2 ^ s < 2 ^ (32 - s) := by
    rw [Nat.div_lt_iff_lt_mul p, Nat.mul_comm, e]
    exact hx
  have b : x % 2 ^ s + 1 ≤ 2 ^ s := Nat.mod_lt _ p
  have c : (x % 2 ^ s + 1) * 2 ^ (32 - s) ≤ 2 ^ s * 2 ^ (32 - s) := Nat.mul_le_mul_right _ b
  rw [e, Nat.add_mul] at c
  omega

theorem xor_lt (x y : Nat) (hx : x < 4294967296) (hy : y < 4294967296) : x ^^^ y < 4294967296 := Nat.xor_lt_two_pow (n := 32) hx hy
theorem and_lt (x y : Nat) (hx : x < 4294967296) : x &&& y < 4294967296 := Nat.lt_of_le_of_lt Nat.and_le_left hx

theorem little0_lt (x : Nat) (h : x < 4294967296) : little0 x < 4294967296 := xor_lt _ _ (xor_lt _ _ (rot_lt x 7 h (by omega) (by omega)) (rot_lt x 18 h (by omega) (by omega))) (by omega)
theorem little1_lt (x : Nat) (h : x < 4294967296) : little1 x < 4294967296 := xor_lt _ _ (xor_lt _ _ (rot_lt x 17 h (by omega) (by omega)) (rot_lt x 19 h (by omega) (by omega))) (by omega)
theorem big0_lt (x : Nat) (h : x < 4294967296) : big0 x < 4294967296 := xor_lt _ _ (xor_lt _ _ (rot_lt x 2 h (by omega) (by omega)) (rot_lt x 13 h (by omega) (by omega))) (rot_lt x 22 h (by omega) (by omega))
theorem big1_lt (x : Nat) (h : x < 4294967296) : big1 x < 4294967296 := xor_lt _ _ (xor_lt _ _ (rot_lt x 6 h (by omega) (by omega)) (rot_lt x 11 h (by omega) (by omega))) (rot_lt x 25 h (by omega) (by omega))

/-- one word more of the schedule -/
def more (ws : List Nat) : Nat := (little1 (ws.getD (ws.length - 2) 0) + ws.getD (ws.length - 7) 0 + little0 (ws.getD (ws.length - 15) 0) + ws.getD (ws.length - 16) 0) % 4294967296
def schedN (ws : List Nat) : Nat → List Nat
  | 0 => ws
  | n + 1 => schedN ws n ++ [more (schedN ws n)]

/-- four bytes of a block, the highest first -/
def word (b : List UInt8) (i : Nat) : Nat := 16777216 * (b.getD (4 * i) 0).toNat + 65536 * (b.getD (4 * i + 1) 0).toNat + 256 * (b.getD (4 * i + 2) 0).toNat + (b.getD (4 * i + 3) 0).toNat
def wordsN (b : List UInt8) (n : Nat) : List Nat := (List.range n).map (word b)
/-- the 64 words of a block -/
def sched (b : List UInt8) : List Nat := schedN (wordsN b 16) 48

theorem word_lt (b : List UInt8) (i : Nat) : word b i < 4294967296 := by
  unfold word
  have h0 := (b.getD (4 * i) 0).toNat_lt
  have h1 := (b.getD (4 * i + 1) 0).toNat_lt
  have h2 := (b.getD (4 * i + 2) 0).toNat_lt
  have h3 := (b.getD (4 * i + 3) 0).toNat_lt
  omega
theorem wordsN_length (b : List UInt8) (n : Nat) : (wordsN b n).length = n := by simp [wordsN]
theorem wordsN_lt (b : List UInt8) (n : Nat) : ∀ x ∈ wordsN b n, x < 4294967296 := by
  intro x h
  obtain ⟨i, _, rfl⟩ := List.mem_map.1 h
  exact word_lt b i
theorem wordsN_succ (b : List UInt8) (n : Nat) : wordsN b (n + 1) = wordsN b n ++ [word b n] := by simp [wordsN, List.range_succ]
theorem schedN_length (ws : List Nat) (n : Nat) : (schedN ws n).length = ws.length + n := by
  induction n with
  | zero => rfl
  | succ n ih => simp [schedN, ih]; omega
theorem more_lt (ws : List Nat) : more ws < 4294967296 := Nat.mod_lt _ (by omega)
theorem schedN_lt (ws : List Nat) (h : ∀ x ∈ ws, x < 4294967296) (n : Nat) : ∀ x ∈ schedN ws n, x < 4294967296 := by
  induction n with
  | zero => exact h
  | succ n ih =>
    intro x hx
    simp only [schedN, List.mem_append, List.mem_cons, List.not_mem_nil, or_false] at hx
    rcases hx with hx | rfl
    · exact ih x hx
    · exact more_lt _
theorem sched_length (b : List UInt8) : (sched b).length = 64 := by simp [sched, schedN_length, wordsN_length]
theorem sched_lt (b : List UInt8) : ∀ x ∈ sched b, x < 4294967296 := schedN_lt _ (wordsN_lt b 16) 48
theorem getD_lt {ws : List Nat} (h : ∀ x ∈ ws, x < 4294967296) (i : Nat) : ws.getD i 0 < 4294967296 := by
  rw [List.getD_eq_getElem?_getD]
  cases hi : ws[i]? with
  | none => simp
  | some x => exact h x (List.mem_of_getElem? hi)

/-- the eight words -/
structure W8 where
  a : Nat
  b : Nat
  c : Nat
  d : Nat
  e : Nat
  f : Nat
  g : Nat
  h : Nat

def W8.tt (s : W8) (k w : Nat) : Nat := (s.h + big1 s.e + ((s.e &&& s.f) ^^^ ((4294967295 - s.e) &&& s.g)) + k + w) % 4294967296
def W8.uu (s : W8) : Nat := (big0 s.a + (((s.a &&& s.b) ^^^ (s.a &&& s.c)) ^^^ (s.b &&& s.c))) % 4294967296
def W8.step (s : W8) (k w : Nat) : W8 := ⟨(s.tt k w + s.uu) % 4294967296, s.a, s.b, s.c, (s.d + s.tt k w) % 4294967296, s.e, s.f, s.g⟩
def W8.add (s t : W8) : W8 := ⟨(s.a + t.a) % 4294967296, (s.b + t.b) % 4294967296, (s.c + t.c) % 4294967296, (s.d + t.d) % 4294967296, (s.e + t.e) % 4294967296, (s.f + t.f) % 4294967296, (s.g + t.g) % 4294967296, (s.h + t.h) % 4294967296⟩
structure W8.OK (s : W8) : Prop where
  a : s.a < 4294967296
  b : s.b < 4294967296
  c : s.c < 4294967296
  d : s.d < 4294967296
  e : s.e < 4294967296
  f : s.f < 4294967296
  g : s.g < 4294967296
  h : s.h < 4294967296

theorem W8.OK.step {s : W8} (h : s.OK) (k w : Nat) : (s.step k w).OK := ⟨Nat.mod_lt _ (by omega), h.a, h.b, h.c, Nat.mod_lt _ (by omega), h.e, h.f, h.g⟩
theorem W8.add_OK (s t : W8) : (s.add t).OK := ⟨Nat.mod_lt _ (by omega), Nat.mod_lt _ (by omega), Nat.mod_lt _ (by omega), Nat.mod_lt _ (by omega), Nat.mod_lt _ (by omega), Nat.mod_lt _ (by omega), Nat.mod_lt _ (by omega), Nat.mod_lt _ (by omega)⟩

/-- the 64 constants -/
def kk : List Nat := [1116352408, 1899447441, 3049323471, 3921009573, 961987163, 1508970993, 2453635748, 2870763221, 3624381080, 310598401, 607225278, 1426881987, 1925078388, 2162078206, 2614888103, 3248222580, 3835390401, 4022224774, 264347078, 604807628, 770255983, 1249150122, 1555081692, 1996064986, 2554220882, 2821834349, 2952996808, 3210313671, 3336571891, 3584528711, 113926993, 338241895, 666307205, 773529912, 1294757372, 1396182291, 1695183700, 1986661051, 2177026350, 2456956037, 2730485921, 2820302411, 3259730800, 3345764771, 3516065817, 3600352804, 4094571909, 275423344, 430227734, 506948616, 659060556, 883997877, 958139571, 1322822218, 1537002063, 1747873779, 1955562222, 2024104815, 2227730452, 2361852424, 2428436474, 2756734187, 3204031479, 3329325298]
theorem kk_length : kk.length = 64 := by decide
theorem kk_lt : ∀ x ∈ kk, x < 4294967296 := by decide

def roundN (s : W8) (ws : List Nat) : Nat → W8
  | 0 => s
  | n + 1 => (roundN s ws n).step (kk.getD n 0) (ws.getD n 0)
theorem roundN_OK {s : W8} (h : s.OK) (ws : List Nat) (n : Nat) : (roundN s ws n).OK := by
  induction n with
  | zero => exact h
  | succ n ih => exact ih.step _ _

/-- the words behind one more block -/
def mix (s : W8) (b : List UInt8) : W8 := s.add (roundN s (sched b) 64)
theorem mix_OK (s : W8) (b : List UInt8) : (mix s b).OK := W8.add_OK _ _

def W8.list (s : W8) : List Nat := [s.a, s.b, s.c, s.d, s.e, s.f, s.g, s.h]
def first : W8 := ⟨1779033703, 3144134277, 1013904242, 2773480762, 1359893119, 2600822924, 528734635, 1541459225⟩
theorem first_OK : first.OK := ⟨by decide, by decide, by decide, by decide, by decide, by decide, by decide, by decide⟩

end Go.Proofs.YtjjabkimmgcejaaDoor
