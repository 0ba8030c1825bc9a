import Derived.Test.YtjcmpfnndjlpkabDoorShaA
import Derived.Test.YtjcmpfnndjlpkabDoorHexA
namespace Go.Proofs.YtjcmpfnndjlpkabDoor
open Go.RowKit Go.Lib

/-- four words -/
structure Q4 where
  a : Nat
  b : Nat
  c : Nat
  d : Nat
structure Q4.OK (q : Q4) : Prop where
  a : q.a < 4294967296
  b : q.b < 4294967296
  c : q.c < 4294967296
  d : q.d < 4294967296

/-- half a quarter round: turned by s and t towards the low end -/
def Q4.half (s t : Nat) (q : Q4) : Q4 :=
  ⟨(q.a + q.b) % 4294967296, rot (q.b ^^^ ((q.c + rot (q.d ^^^ ((q.a + q.b) % 4294967296)) s) % 4294967296)) t, (q.c + rot (q.d ^^^ ((q.a + q.b) % 4294967296)) s) % 4294967296, rot (q.d ^^^ ((q.a + q.b) % 4294967296)) s⟩
/-- a quarter round -/
def qr (q : Q4) : Q4 := (q.half 16 20).half 24 25

theorem half_OK {q : Q4} (h : q.OK) (s t : Nat) (h1 : 1 ≤ s) (h2 : s ≤ 31) (h3 : 1 ≤ t) (h4 : t ≤ 31) : (q.half s t).OK :=
  ⟨Nat.mod_lt _ (by omega), rot_lt _ _ (xor_lt _ _ h.b (Nat.mod_lt _ (by omega))) h3 h4, Nat.mod_lt _ (by omega), rot_lt _ _ (xor_lt _ _ h.d (Nat.mod_lt _ (by omega))) h1 h2⟩
theorem qr_OK {q : Q4} (h : q.OK) : (qr q).OK := half_OK (half_OK h 16 20 (by omega) (by omega) (by omega) (by omega)) 24 25 (by omega) (by omega) (by omega) (by omega)

/-- the places of the eight quarter rounds -/
def plc : List Nat := [0, 4, 8, 12, 1, 5, 9, 13, 2, 6, 10, 14, 3, 7, 11, 15, 0, 5, 10, 15, 1, 6, 11, 12, 2, 7, 8, 13, 3, 4, 9, 14]
theorem plc_length : plc.length = 32 := rfl
theorem plc_lt (i : Nat) : plc.getD i 0 < 16 := by
  by_cases h : i < 32
  · revert i; decide
  · rw [List.getD_eq_getElem?_getD, List.getElem?_eq_none (by rw [plc_length]; omega)]; decide

def four (s : List Nat) (i j k l : Nat) : Q4 := ⟨s.getD i 0, s.getD j 0, s.getD k 0, s.getD l 0⟩
def put4 (s : List Nat) (i j k l : Nat) (q : Q4) : List Nat := (((s.set i q.a).set j q.b).set k q.c).set l q.d
/-- one quarter round of a state -/
def qstep (s : List Nat) (n : Nat) : List Nat :=
  put4 s (plc.getD (4 * n) 0) (plc.getD (4 * n + 1) 0) (plc.getD (4 * n + 2) 0) (plc.getD (4 * n + 3) 0) (qr (four s (plc.getD (4 * n) 0) (plc.getD (4 * n + 1) 0) (plc.getD (4 * n + 2) 0) (plc.getD (4 * n + 3) 0)))
def qsteps (s : List Nat) : Nat → List Nat
  | 0 => s
  | n + 1 => qstep (qsteps s n) n
def doubles (s : List Nat) : Nat → List Nat
  | 0 => s
  | n + 1 => qsteps (doubles s n) 8
def mixedL (s : List Nat) : List Nat := doubles s 10

/-- sixteen words -/
structure St (s : List Nat) : Prop where
  len : s.length = 16
  lt : ∀ x ∈ s, x < 4294967296
theorem St.at_lt {s : List Nat} (h : St s) (i : Nat) : s.getD i 0 < 4294967296 := getD_lt h.lt i
theorem St.set {s : List Nat} (h : St s) (i x : Nat) (hx : x < 4294967296) : St (s.set i x) :=
  ⟨by rw [List.length_set]; exact h.len, fun y hy => by
    rcases List.mem_or_eq_of_mem_set hy with h1 | rfl
    · exact h.lt y h1
    · exact hx⟩
theorem St.four {s : List Nat} (h : St s) (i j k l : Nat) : (four s i j k l).OK := ⟨h.at_lt i, h.at_lt j, h.at_lt k, h.at_lt l⟩
theorem St.put4 {s : List Nat} (h : St s) (i j k l : Nat) {q : Q4} (hq : q.OK) : St (put4 s i j k l q) := (((h.set i _ hq.a).set j _ hq.b).set k _ hq.c).set l _ hq.d
theorem St.qstep {s : List Nat} (h : St s) (n : Nat) : St (qstep s n) := h.put4 _ _ _ _ (qr_OK (h.four _ _ _ _))
theorem St.qsteps {s : List Nat} (h : St s) : ∀ n, St (qsteps s n)
  | 0 => h
  | n + 1 => (h.qsteps n).qstep n
theorem St.doubles {s : List Nat} (h : St s) : ∀ n, St (doubles s n)
  | 0 => h
  | n + 1 => (h.doubles n).qsteps 8
theorem St.mixed {s : List Nat} (h : St s) : St (mixedL s) := h.doubles 10

/-- words added up -/
def addN (a b : List Nat) (n : Nat) : List Nat := (List.range n).map fun i => (a.getD i 0 + b.getD i 0) % 4294967296
def addL (a b : List Nat) : List Nat := addN a b 16
theorem addN_length (a b : List Nat) (n : Nat) : (addN a b n).length = n := by simp [addN]
theorem addN_succ (a b : List Nat) (n : Nat) : addN a b (n + 1) = addN a b n ++ [(a.getD n 0 + b.getD n 0) % 4294967296] := by simp [addN, List.range_succ]
theorem addN_lt (a b : List Nat) (n : Nat) : ∀ x ∈ addN a b n, x < 4294967296 := by
  intro x hx
  obtain ⟨i, _, rfl⟩ := List.mem_map.1 hx
  exact Nat.mod_lt _ (by omega)
theorem addL_st (a b : List Nat) : St (addL a b) := ⟨addN_length _ _ _, addN_lt _ _ _⟩

/-- four bytes, the lowest first -/
def wordL (b : List UInt8) (i : Nat) : Nat := (b.getD i 0).toNat + 256 * (b.getD (i + 1) 0).toNat + 65536 * (b.getD (i + 2) 0).toNat + 16777216 * (b.getD (i + 3) 0).toNat
theorem wordL_lt (b : List UInt8) (i : Nat) : wordL b i < 4294967296 := by
  unfold wordL
  have h0 := (b.getD i 0).toNat_lt
  have h1 := (b.getD (i + 1) 0).toNat_lt
  have h2 := (b.getD (i + 2) 0).toNat_lt
  have h3 := (b.getD (i + 3) 0).toNat_lt
  omega
def wordsL (b : List UInt8) (n : Nat) : List Nat := (List.range n).map fun i => wordL b (4 * i)
theorem wordsL_length (b : List UInt8) (n : Nat) : (wordsL b n).length = n := by simp [wordsL]
theorem wordsL_succ (b : List UInt8) (n : Nat) : wordsL b (n + 1) = wordsL b n ++ [wordL b (4 * n)] := by simp [wordsL, List.range_succ]
theorem wordsL_lt (b : List UInt8) (n : Nat) : ∀ x ∈ wordsL b n, x < 4294967296 := by
  intro x hx
  obtain ⟨i, _, rfl⟩ := List.mem_map.1 hx
  exact wordL_lt _ _

def byteAt (x i : Nat) : UInt8 := UInt8.ofNat (x / 256 ^ i % 256)
def bytes4 (x : Nat) : List UInt8 := [byteAt x 0, byteAt x 1, byteAt x 2, byteAt x 3]
/-- words as bytes, each the lowest first -/
def textL : List Nat → List UInt8
  | [] => []
  | x :: r => bytes4 x ++ textL r
theorem textL_append (a b : List Nat) : textL (a ++ b) = textL a ++ textL b := by
  induction a with
  | nil => rfl
  | cons x r ih => simp [textL, ih]
theorem textL_length (a : List Nat) : (textL a).length = 4 * a.length := by
  induction a with
  | nil => rfl
  | cons x r ih => simp [textL, bytes4, ih]; omega
theorem byteAt_toNat (x i : Nat) : (byteAt x i).toNat = x / 256 ^ i % 256 := by
  unfold byteAt
  rw [UInt8.toNat_ofNat']
  omega
theorem wordL_bytes4 (x : Nat) (r : List UInt8) (hx : x < 4294967296) : wordL (bytes4 x ++ r) 0 = x := by
  have e : wordL (bytes4 x ++ r) 0 = (byteAt x 0).toNat + 256 * (byteAt x 1).toNat + 65536 * (byteAt x 2).toNat + 16777216 * (byteAt x 3).toNat := rfl
  rw [e, byteAt_toNat, byteAt_toNat, byteAt_toNat, byteAt_toNat]
  simp only [Nat.pow_zero, Nat.pow_one, Nat.div_one, show 256 ^ 2 = 65536 from rfl, show 256 ^ 3 = 16777216 from rfl]
  omega

/-- the first four words -/
def con4 : List Nat := [1634760805, 857760878, 2036477234, 1797285236]
/-- a state of a key and sixteen bytes -/
def stateL (key last : List UInt8) : List Nat := con4 ++ wordsL key 8 ++ wordsL last 4
theorem stateL_st (key last : List UInt8) : St (stateL key last) := by
  refine ⟨by simp [stateL, wordsL_length, con4], fun x hx => ?_⟩
  simp only [stateL, List.mem_append] at hx
  rcases hx with (hx | hx) | hx
  · revert x; decide
  · exact wordsL_lt _ _ x hx
  · exact wordsL_lt _ _ x hx
/-- a state of the stream -/
def streamL (key : List UInt8) (c : Nat) (nonce : List UInt8) : List Nat := stateL key (bytes4 c ++ nonce)
def blockOf (s : List Nat) : List UInt8 := textL (addL (mixedL s) s)
/-- a block -/
def blockL (key : List UInt8) (c : Nat) (nonce : List UInt8) : List UInt8 := blockOf (streamL key c nonce)
theorem blockOf_length (s : List Nat) : (blockOf s).length = 64 := by rw [blockOf, textL_length, (addL_st _ _).len]
theorem blockL_length (key : List UInt8) (c : Nat) (nonce : List UInt8) : (blockL key c nonce).length = 64 := blockOf_length _

/-- the hash -/
def pick (s : List Nat) : List Nat := [s.getD 0 0, s.getD 1 0, s.getD 2 0, s.getD 3 0, s.getD 12 0, s.getD 13 0, s.getD 14 0, s.getD 15 0]
def hchL (key nonce : List UInt8) : List UInt8 := textL (pick (mixedL (stateL key nonce)))
theorem hchL_length (key nonce : List UInt8) : (hchL key nonce).length = 32 := by rw [hchL, textL_length]; rfl

theorem getD_append_left (a b : List UInt8) (i : Nat) (h : i < a.length) : (a ++ b).getD i 0 = a.getD i 0 := by
  rw [List.getD_eq_getElem?_getD, List.getD_eq_getElem?_getD, List.getElem?_append_left h]
theorem getD_append_right (a b : List UInt8) (i : Nat) : (a ++ b).getD (a.length + i) 0 = b.getD i 0 := by
  rw [List.getD_eq_getElem?_getD, List.getD_eq_getElem?_getD, List.getElem?_append_right (by omega), show a.length + i - a.length = i by omega]
theorem wordL_behind (x : Nat) (r : List UInt8) (i : Nat) : wordL (bytes4 x ++ r) (4 + i) = wordL r i := by
  have h := fun j => getD_append_right (bytes4 x) r j
  have hl : (bytes4 x).length = 4 := rfl
  rw [hl] at h
  unfold wordL
  rw [h i, show 4 + i + 1 = 4 + (i + 1) by omega, h (i + 1), show 4 + i + 2 = 4 + (i + 2) by omega, h (i + 2), show 4 + i + 3 = 4 + (i + 3) by omega, h (i + 3)]
theorem wordsL_behind (c : Nat) (nonce : List UInt8) : wordsL (bytes4 c ++ nonce) 4 = wordL (bytes4 c) 0 :: wordsL nonce 3 := by
  have e : wordsL (bytes4 c ++ nonce) 4 = [wordL (bytes4 c ++ nonce) 0, wordL (bytes4 c ++ nonce) (4 + 0), wordL (bytes4 c ++ nonce) (4 + 4), wordL (bytes4 c ++ nonce) (4 + 8)] := rfl
  rw [e, wordL_behind, wordL_behind, wordL_behind]
  rfl

/-- the next state of the stream -/
theorem streamL_eq (key : List UInt8) (c : Nat) (nonce : List UInt8) (hc : c < 4294967296) : streamL key c nonce = con4 ++ wordsL key 8 ++ (c :: wordsL nonce 3) := by
  have := wordL_bytes4 c [] hc
  rw [List.append_nil] at this
  rw [streamL, stateL, wordsL_behind, this]
theorem streamL_at (key : List UInt8) (c : Nat) (nonce : List UInt8) (hc : c < 4294967296) : (streamL key c nonce).getD 12 0 = c := by
  rw [streamL_eq key c nonce hc, List.getD_eq_getElem?_getD, List.getElem?_append_right (by simp [con4, wordsL_length])]
  simp [con4, wordsL_length]
theorem streamL_next (key : List UInt8) (c : Nat) (nonce : List UInt8) (hc : c + 1 < 4294967296) : (streamL key c nonce).set 12 (c + 1) = streamL key (c + 1) nonce := by
  rw [streamL_eq key c nonce (by omega), streamL_eq key (c + 1) nonce hc, List.set_append_right _ _ (by simp [con4, wordsL_length])]
  simp [con4, wordsL_length]

/-- the stream's byte at a place -/
def streamB (key : List UInt8) (c : Nat) (nonce : List UInt8) (i : Nat) : UInt8 := (blockL key (c + i / 64) nonce).getD (i % 64) 0
/-- the first n bytes laid over -/
def overN (key : List UInt8) (c : Nat) (nonce data : List UInt8) (n : Nat) : List UInt8 := (List.range n).map fun i => data.getD i 0 ^^^ streamB key c nonce i
def overL (key : List UInt8) (c : Nat) (nonce data : List UInt8) : List UInt8 := overN key c nonce data data.length
theorem overN_length (key : List UInt8) (c : Nat) (nonce data : List UInt8) (n : Nat) : (overN key c nonce data n).length = n := by simp [overN]
theorem overN_succ (key : List UInt8) (c : Nat) (nonce data : List UInt8) (n : Nat) : overN key c nonce data (n + 1) = overN key c nonce data n ++ [data.getD n 0 ^^^ streamB key c nonce n] := by simp [overN, List.range_succ]
theorem overL_length (key : List UInt8) (c : Nat) (nonce data : List UInt8) : (overL key c nonce data).length = data.length := overN_length _ _ _ _ _
theorem overL_getD (key : List UInt8) (c : Nat) (nonce data : List UInt8) (i : Nat) (h : i < data.length) : (overL key c nonce data).getD i 0 = data.getD i 0 ^^^ streamB key c nonce i := by
  simp [overL, overN, List.getD_eq_getElem?_getD, h]

end Go.Proofs.YtjcmpfnndjlpkabDoor
