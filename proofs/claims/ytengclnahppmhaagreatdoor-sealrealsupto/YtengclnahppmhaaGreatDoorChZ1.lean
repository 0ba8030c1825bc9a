import Derived.Test.YtengclnahppmhaaGreatDoorBaseM
import Derived.Test.YtengclnahppmhaaGreatDoorRows
import Derived.OwnWalk
import Derived.BigQuiet
import Derived.BigRegion
import Derived.Deep.RegionHeldLaw
namespace Go.Proofs.YtengclnahppmhaaGreatDoor.Cha
open Go.RowKit Go.Lib

/-- four words -/
structure Q4 where
  a : Nat
  b : Nat
  c : Nat
  d : Nat
structure Q4.OK (q : Q4) : Prop where
  a : q.a < 4294967296
  b : q.b < 4294967296
  c : q.c < 4294967296
  d : q.d < 4294967296

/-- half a quarter round: turned by s and t towards the low end -/
def Q4.half (s t : Nat) (q : Q4) : Q4 :=
  ⟨(q.a + q.b) % 4294967296, rot (q.b ^^^ ((q.c + rot (q.d ^^^ ((q.a + q.b) % 4294967296)) s) % 4294967296)) t, (q.c + rot (q.d ^^^ ((q.a + q.b) % 4294967296)) s) % 4294967296, rot (q.d ^^^ ((q.a + q.b) % 4294967296)) s⟩
/-- a quarter round -/
def qr (q : Q4) : Q4 := (q.half 16 20).half 24 25

theorem half_OK {q : Q4} (h : q.OK) (s t : Nat) (h1 : 1 ≤ s) (h2 : s ≤ 31) (h3 : 1 ≤ t) (h4 : t ≤ 31) : (q.half s t).OK :=
  ⟨Nat.mod_lt _ (by omega), rot_lt _ _ (xor_lt _ _ h.b (Nat.mod_lt _ (by omega))) h3 h4, Nat.mod_lt _ (by omega), rot_lt _ _ (xor_lt _ _ h.d (Nat.mod_lt _ (by omega))) h1 h2⟩
theorem qr_OK {q : Q4} (h : q.OK) : (qr q).OK := half_OK (half_OK h 16 20 (by omega) (by omega) (by omega) (by omega)) 24 25 (by omega) (by omega) (by omega) (by omega)

/-- the places of the eight quarter rounds -/
def plc : List Nat := [0, 4, 8, 12, 1, 5, 9, 13, 2, 6, 10, 14, 3, 7, 11, 15, 0, 5, 10, 15, 1, 6, 11, 12, 2, 7, 8, 13, 3, 4, 9, 14]
theorem plc_length : plc.length = 32 := rfl
theorem plc_lt (i : Nat) : plc.getD i 0 < 16 := by
  by_cases h : i < 32
  · revert i; decide
  · rw [List.getD_eq_getElem?_getD, List.getElem?_eq_none (by rw [plc_length]; omega)]; decide

def four (s : List Nat) (i j k l : Nat) : Q4 := ⟨s.getD i 0, s.getD j 0, s.getD k 0, s.getD l 0⟩
def put4 (s : List Nat) (i j k l : Nat) (q : Q4) : List Nat := (((s.set i q.a).set j q.b).set k q.c).set l q.d
/-- one quarter round of a state -/
def qstep (s : List Nat) (n : Nat) : List Nat :=
  put4 s (plc.getD (4 * n) 0) (plc.getD (4 * n + 1) 0) (plc.getD (4 * n + 2) 0) (plc.getD (4 * n + 3) 0) (qr (four s (plc.getD (4 * n) 0) (plc.getD (4 * n + 1) 0) (plc.getD (4 * n + 2) 0) (plc.getD (4 * n + 3) 0)))
def qsteps (s : List Nat) : Nat → List Nat
  | 0 => s
  | n + 1 => qstep (qsteps s n) n
def doubles (s : List Nat) : Nat → List Nat
  | 0 => s
  | n + 1 => qsteps (doubles s n) 8
def mixedL (s : List Nat) : List Nat := doubles s 10

/-- sixteen words -/
structure St (s : List Nat) : Prop where
  len : s.length = 16
  lt : ∀ x ∈ s, x < 4294967296
theorem St.at_lt {s : List Nat} (h : St s) (i : Nat) : s.getD i 0 < 4294967296 := getD_lt h.lt i
theorem St.set {s : List Nat} (h : St s) (i x : Nat) (hx : x < 4294967296) : St (s.set i x) :=
  ⟨by rw [List.length_set]; exact h.len, fun y hy => by
    rcases List.mem_or_eq_of_mem_set hy with h1 | rfl
    · exact h.lt y h1
    · exact hx⟩
theorem St.four {s : List Nat} (h : St s) (i j k l : Nat) : (four s i j k l).OK := ⟨h.at_lt i, h.at_lt j, h.at_lt k, h.at_lt l⟩
theorem St.put4 {s : List Nat} (h : St s) (i j k l : Nat) {q : Q4} (hq : q.OK) : St (put4 s i j k l q) := (((h.set i _ hq.a).set j _ hq.b).set k _ hq.c).set l _ hq.d
theorem St.qstep {s : List Nat} (h : St s) (n : Nat) : St (qstep s n) := h.put4 _ _ _ _ (qr_OK (h.four _ _ _ _))
theorem St.qsteps {s : List Nat} (h : St s) : ∀ n, St (qsteps s n)
  | 0 => h
  | n + 1 => (h.qsteps n).qstep n
theorem St.doubles {s : List Nat} (h : St s) : ∀ n, St (doubles s n)
  | 0 => h
  | n + 1 => (h.doubles n).qsteps 8
theorem St.mixed {s : List Nat} (h : St s) : St (mixedL s) := h.doubles 10

/-- words added up -/
def addN (a b : List Nat) (n : Nat) : List Nat := (List.range n).map fun i => (a.getD i 0 + b.getD i 0) % 4294967296
def addL (a b : List Nat) : List Nat := addN a b 16
theorem addN_length (a b : List Nat) (n : Nat) : (addN a b n).length = n := by simp [addN]
theorem addN_succ (a b : List Nat) (n : Nat) : addN a b (n + 1) = addN a b n ++ [(a.getD n 0 + b.getD n 0) % 4294967296] := by simp [addN, List.range_succ]
theorem addN_lt (a b : List Nat) (n : Nat) : ∀ x ∈ addN a b n, x < 4294967296 := by
  intro x hx
  obtain ⟨i, _, rfl⟩ := List.mem_map.1 hx
  exact Nat.mod_lt _ (by omega)
theorem addL_st (a b : List Nat) : St (addL a b) := ⟨addN_length _ _ _, addN_lt _ _ _⟩

/-- four bytes, the lowest first -/
def wordL (b : List UInt8) (i : Nat) : Nat := (b.getD i 0).toNat + 256 * (b.getD (i + 1) 0).toNat + 65536 * (b.getD (i + 2) 0).toNat + 16777216 * (b.getD (i + 3) 0).toNat
theorem wordL_lt (b : List UInt8) (i : Nat) : wordL b i < 4294967296 := by
  unfold wordL
  have h0 := (b.getD i 0).toNat_lt
  have h1 := (b.getD (i + 1) 0).toNat_lt
  have h2 := (b.getD (i + 2) 0).toNat_lt
  have h3 := (b.getD (i + 3) 0).toNat_lt
  omega
def wordsL (b : List UInt8) (n : Nat) : List Nat := (List.range n).map fun i => wordL b (4 * i)
theorem wordsL_length (b : List UInt8) (n : Nat) : (wordsL b n).length = n := by simp [wordsL]
theorem wordsL_succ (b : List UInt8) (n : Nat) : wordsL b (n + 1) = wordsL b n ++ [wordL b (4 * n)] := by simp [wordsL, List.range_succ]
theorem wordsL_lt (b : List UInt8) (n : Nat) : ∀ x ∈ wordsL b n, x < 4294967296 := by
  intro x hx
  obtain ⟨i, _, rfl⟩ := List.mem_map.1 hx
  exact wordL_lt _ _

def byteAt (x i : Nat) : UInt8 := UInt8.ofNat (x / 256 ^ i % 256)
def bytes4 (x : Nat) : List UInt8 := [byteAt x 0, byteAt x 1, byteAt x 2, byteAt x 3]
/-- words as bytes, each the lowest first -/
def textL : List Nat → List UInt8
  | [] => []
  | x :: r => bytes4 x ++ textL r
theorem textL_append (a b : List Nat) : textL (a ++ b) = textL a ++ textL b := by
  induction a with
  | nil => rfl
  | cons x r ih => simp [textL, ih]
theorem textL_length (a : List Nat) : (textL a).length = 4 * a.length := by
  induction a with
  | nil => rfl
  | cons x r ih => simp [textL, bytes4, ih]; omega
theorem byteAt_toNat (x i : Nat) : (byteAt x i).toNat = x / 256 ^ i % 256 := by
  unfold byteAt
  rw [UInt8.toNat_ofNat']
  omega
theorem wordL_bytes4 (x : Nat) (r : List UInt8) (hx : x < 4294967296) : wordL (bytes4 x ++ r) 0 = x := by
  have e : wordL (bytes4 x ++ r) 0 = (byteAt x 0).toNat + 256 * (byteAt x 1).toNat + 65536 * (byteAt x 2).toNat + 16777216 * (byteAt x 3).toNat := rfl
  rw [e, byteAt_toNat, byteAt_toNat, byteAt_toNat, byteAt_toNat]
  simp only [Nat.pow_zero, Nat.pow_one, Nat.div_one, show 256 ^ 2 = 65536 from rfl, show 256 ^ 3 = 16777216 from rfl]
  omega

/-- the first four words -/
def con4 : List Nat := [1634760805, 857760878, 2036477234, 1797285236]
/-- a state of a key and sixteen bytes -/
def stateL (key last : List UInt8) : List Nat := con4 ++ wordsL key 8 ++ wordsL last 4
theorem stateL_st (key last : List UInt8) : St (stateL key last) := by
  refine ⟨by simp [stateL, wordsL_length, con4], fun x hx => ?_⟩
  simp only [stateL, List.mem_append] at hx
  rcases hx with (hx | hx) | hx
  · revert x; decide
  · exact wordsL_lt _ _ x hx
  · exact wordsL_lt _ _ x hx
/-- a state of the stream -/
def streamL (key : List UInt8) (c : Nat) (nonce : List UInt8) : List Nat := stateL key (bytes4 c ++ nonce)
def blockOf (s : List Nat) : List UInt8 := textL (addL (mixedL s) s)
/-- a block -/
def blockL (key : List UInt8) (c : Nat) (nonce : List UInt8) : List UInt8 := blockOf (streamL key c nonce)
theorem blockOf_length (s : List Nat) : (blockOf s).length = 64 := by rw [blockOf, textL_length, (addL_st _ _).len]
theorem blockL_length (key : List UInt8) (c : Nat) (nonce : List UInt8) : (blockL key c nonce).length = 64 := blockOf_length _

/-- the hash -/
def pick (s : List Nat) : List Nat := [s.getD 0 0, s.getD 1 0, s.getD 2 0, s.getD 3 0, s.getD 12 0, s.getD 13 0, s.getD 14 0, s.getD 15 0]
def hchL (key nonce : List UInt8) : List UInt8 := textL (pick (mixedL (stateL key nonce)))
theorem hchL_length (key nonce : List UInt8) : (hchL key nonce).length = 32 := by rw [hchL, textL_length]; rfl

theorem getD_append_left (a b : List UInt8) (i : Nat) (h : i < a.length) : (a ++ b).getD i 0 = a.getD i 0 := by
  rw [List.getD_eq_getElem?_getD, List.getD_eq_getElem?_getD, List.getElem?_append_left h]
theorem getD_append_right (a b : List UInt8) (i : Nat) : (a ++ b).getD (a.length + i) 0 = b.getD i 0 := by
  rw [List.getD_eq_getElem?_getD, List.getD_eq_getElem?_getD, List.getElem?_append_right (by omega), show a.length + i - a.length = i by omega]
theorem wordL_behind (x : Nat) (r : List UInt8) (i : Nat) : wordL (bytes4 x ++ r) (4 + i) = wordL r i := by
  have h := fun j => getD_append_right (bytes4 x) r j
  have hl : (bytes4 x).length = 4 := rfl
  rw [hl] at h
  unfold wordL
  rw [h i, show 4 + i + 1 = 4 + (i + 1) by omega, h (i + 1), show 4 + i + 2 = 4 + (i + 2) by omega, h (i + 2), show 4 + i + 3 = 4 + (i + 3) by omega, h (i + 3)]
theorem wordsL_behind (c : Nat) (nonce : List UInt8) : wordsL (bytes4 c ++ nonce) 4 = wordL (bytes4 c) 0 :: wordsL nonce 3 := by
  have e : wordsL (bytes4 c ++ nonce) 4 = [wordL (bytes4 c ++ nonce) 0, wordL (bytes4 c ++ nonce) (4 + 0), wordL (bytes4 c ++ nonce) (4 + 4), wordL (bytes4 c ++ nonce) (4 + 8)] := rfl
  rw [e, wordL_behind, wordL_behind, wordL_behind]
  rfl

/-- the next state of the stream -/
theorem streamL_eq (key : List UInt8) (c : Nat) (nonce : List UInt8) (hc : c < 4294967296) : streamL key c nonce = con4 ++ wordsL key 8 ++ (c :: wordsL nonce 3) := by
  have := wordL_bytes4 c [] hc
  rw [List.append_nil] at this
  rw [streamL, stateL, wordsL_behind, this]
theorem streamL_at (key : List UInt8) (c : Nat) (nonce : List UInt8) (hc : c < 4294967296) : (streamL key c nonce).getD 12 0 = c := by
  rw [streamL_eq key c nonce hc, List.getD_eq_getElem?_getD, List.getElem?_append_right (by simp [con4, wordsL_length])]
  simp [con4, wordsL_length]
theorem streamL_next (key : List UInt8) (c : Nat) (nonce : List UInt8) (hc : c + 1 < 4294967296) : (streamL key c nonce).set 12 (c + 1) = streamL key (c + 1) nonce := by
  rw [streamL_eq key c nonce (by omega), streamL_eq key (c + 1) nonce hc, List.set_append_right _ _ (by simp [con4, wordsL_length])]
  simp [con4, wordsL_length]

/-- the stream's byte at a place -/
def streamB (key : List UInt8) (c : Nat) (nonce : List UInt8) (i : Nat) : UInt8 := (blockL key (c + i / 64) nonce).getD (i % 64) 0
/-- the first n bytes laid over -/
def overN (key : List UInt8) (c : Nat) (nonce data : List UInt8) (n : Nat) : List UInt8 := (List.range n).map fun i => data.getD i 0 ^^^ streamB key c nonce i
def overL (key : List UInt8) (c : Nat) (nonce data : List UInt8) : List UInt8 := overN key c nonce data data.length
theorem overN_length (key : List UInt8) (c : Nat) (nonce data : List UInt8) (n : Nat) : (overN key c nonce data n).length = n := by simp [overN]
theorem overN_succ (key : List UInt8) (c : Nat) (nonce data : List UInt8) (n : Nat) : overN key c nonce data (n + 1) = overN key c nonce data n ++ [data.getD n 0 ^^^ streamB key c nonce n] := by simp [overN, List.range_succ]
theorem overL_length (key : List UInt8) (c : Nat) (nonce data : List UInt8) : (overL key c nonce data).length = data.length := overN_length _ _ _ _ _
theorem overL_getD (key : List UInt8) (c : Nat) (nonce data : List UInt8) (i : Nat) (h : i < data.length) : (overL key c nonce data).getD i 0 = data.getD i 0 ^^^ streamB key c nonce i := by
  simp [overL, overN, List.getD_eq_getElem?_getD, h]

end Go.Proofs.YtengclnahppmhaaGreatDoor.Cha

namespace Go.Proofs.YtengclnahppmhaaGreatDoor.Cha
open Go.RowKit Go.Lib

theorem xor_twice (a b : UInt8) : (a ^^^ b) ^^^ b = a := by rw [UInt8.xor_assoc, UInt8.xor_self, UInt8.xor_zero]

/-- what was laid over comes off again -/
theorem overL_twice (key : List UInt8) (c : Nat) (nonce data : List UInt8) : overL key c nonce (overL key c nonce data) = data := by
  apply List.ext_getElem
  · rw [overL_length, overL_length]
  · intro i h1 h2
    have e : (overL key c nonce data).getD i 0 = data.getD i 0 ^^^ streamB key c nonce i := overL_getD key c nonce data i h2
    have e2 := overL_getD key c nonce (overL key c nonce data) i (by rw [overL_length]; exact h2)
    rw [e, xor_twice, List.getD_eq_getElem?_getD, List.getElem?_eq_getElem h1, List.getD_eq_getElem?_getD, List.getElem?_eq_getElem h2] at e2
    exact e2

theorem getD_left (a b : List UInt8) (i : Nat) (h : i < a.length) : (a ++ b).getD i 0 = a.getD i 0 := getD_append_left a b i h

/-- the stream goes by blocks -/
theorem overL_append (key : List UInt8) (c : Nat) (nonce a b : List UInt8) (k : Nat) (hk : a.length = 64 * k) : overL key c nonce (a ++ b) = overL key c nonce a ++ overL key (c + k) nonce b := by
  unfold overL overN
  rw [List.length_append, List.range_add, List.map_append, List.map_map]
  congr 1
  · apply List.map_congr_left
    intro i hi
    rw [getD_append_left a b i (List.mem_range.1 hi)]
  · apply List.map_congr_left
    intro i hi
    show (a ++ b).getD (a.length + i) 0 ^^^ streamB key c nonce (a.length + i) = b.getD i 0 ^^^ streamB key (c + k) nonce i
    rw [getD_append_right a b i]
    unfold streamB
    rw [hk, show (64 * k + i) / 64 = k + i / 64 by omega, show (64 * k + i) % 64 = i % 64 by omega, Nat.add_assoc]

/-- so many blocks -/
def catN (key : List UInt8) (c : Nat) (nonce : List UInt8) : Nat → List UInt8
  | 0 => []
  | n + 1 => catN key c nonce n ++ blockL key (c + n) nonce
theorem catN_length (key : List UInt8) (c : Nat) (nonce : List UInt8) : ∀ n, (catN key c nonce n).length = 64 * n
  | 0 => rfl
  | n + 1 => by rw [catN, List.length_append, catN_length key c nonce n, blockL_length]; omega
theorem map_range_getD (l : List UInt8) : (List.range l.length).map (fun i => l.getD i 0) = l := by
  apply List.ext_getElem
  · simp
  · intro i h1 h2
    simp [List.getD_eq_getElem?_getD, h2]
theorem catN_eq (key : List UInt8) (c : Nat) (nonce : List UInt8) : ∀ n, catN key c nonce n = (List.range (64 * n)).map (streamB key c nonce)
  | 0 => rfl
  | n + 1 => by
    rw [catN, catN_eq key c nonce n, show 64 * (n + 1) = 64 * n + 64 by omega, List.range_add, List.map_append, List.map_map]
    congr 1
    have h := map_range_getD (blockL key (c + n) nonce)
    rw [blockL_length] at h
    rw [← h]
    apply List.map_congr_left
    intro i hi
    have hi' := List.mem_range.1 hi
    show (blockL key (c + n) nonce).getD i 0 = streamB key c nonce (64 * n + i)
    unfold streamB
    rw [show (64 * n + i) / 64 = n by omega, show (64 * n + i) % 64 = i by omega]
theorem over_zeros (key : List UInt8) (c : Nat) (nonce : List UInt8) (l n : Nat) (h : l ≤ 64 * n) : overL key c nonce (List.replicate l 0) = (catN key c nonce n).take l := by
  rw [catN_eq, ← List.map_take, List.take_range, Nat.min_eq_left h]
  unfold overL overN
  rw [List.length_replicate]
  apply List.map_congr_left
  intro i hi
  have hi' := List.mem_range.1 hi
  have e : (List.replicate l (0 : UInt8)).getD i 0 = 0 := by
    rw [List.getD_eq_getElem?_getD, List.getElem?_replicate, if_pos hi']
    rfl
  rw [e, UInt8.zero_xor]

end Go.Proofs.YtengclnahppmhaaGreatDoor.Cha

namespace Go.Proofs.YtengclnahppmhaaGreatDoor.Cha
open Go.RowKit Go.Lib Go.Deep

theorem results_tmp4 {fn : Func} {t u v x : Tmp} (h : fn.results = #[.tmp t, .tmp u, .tmp v, .tmp x]) (tmps : Array Value) (P : Program) (w : World) :
    (results fn tmps).run P w = .ok (.tuple #[tmps.getD t undef, tmps.getD u undef, tmps.getD v undef, tmps.getD x undef]) w := by
  simp [results, h]
theorem results_tmp5 {fn : Func} {t u v x y : Tmp} (h : fn.results = #[.tmp t, .tmp u, .tmp v, .tmp x, .tmp y]) (tmps : Array Value) (P : Program) (w : World) :
    (results fn tmps).run P w = .ok (.tuple #[tmps.getD t undef, tmps.getD u undef, tmps.getD v undef, tmps.getD x undef, tmps.getD y undef]) w := by
  simp [results, h]

theorem rot_or (x n : Nat) (hx : x < 4294967296) (h1 : 1 ≤ n) (h2 : n ≤ 31) :
    bits .or .u32 ((x : Int) * 2 ^ n % 4294967296) ((x : Int) / 2 ^ (32 - n)) = (rot x (32 - n) : Int) := by
  obtain ⟨s, hs⟩ : ∃ s, 32 - n = s := ⟨_, rfl⟩
  obtain rfl : n = 32 - s := by omega
  rw [hs]
  have e : 2 ^ s * 2 ^ (32 - s) = 4294967296 := by rw [← Nat.pow_add, show s + (32 - s) = 32 by omega]
  have p : 0 < 2 ^ s := Nat.pow_pos (by omega)
  have a : x / 2 ^ s < 2 ^ (32 - s) := by
    rw [Nat.div_lt_iff_lt_mul p, Nat.mul_comm, e]
    exact hx
  have m : x * 2 ^ (32 - s) % 4294967296 = x % 2 ^ s * 2 ^ (32 - s) := by rw [← e, Nat.mul_mod_mul_right]
  have q : x / 2 ^ s < 4294967296 := Nat.lt_of_le_of_lt (Nat.div_le_self _ _) hx
  have r : x % 2 ^ s * 2 ^ (32 - s) < 4294967296 := by rw [← m]; exact Nat.mod_lt _ (by omega)
  have eA : (x : Int) * 2 ^ (32 - s) % 4294967296 = ((x % 2 ^ s * 2 ^ (32 - s) : Nat) : Int) := by rw [← m, Int.natCast_emod, Int.natCast_mul, Int.natCast_pow]; rfl
  have eB : (x : Int) / 2 ^ s = ((x / 2 ^ s : Nat) : Int) := by rw [Int.natCast_ediv, Int.natCast_pow]; rfl
  rw [eA, eB, u32_or_nat _ _ r q, nat_join (32 - s) _ _ (Nat.mul_mod_left _ _) a, Nat.add_comm]
  rfl

set_option maxHeartbeats 1000000 in
theorem rotl_any (x n : Nat) (w : World) (hx : x < 4294967296) (h1 : 1 ≤ n) (h2 : n ≤ 31) :
    Calls Tryz.prog 159 #[.int .u32 (x : Int), .int .i64 (n : Int)] w fun e w' => e = .returned (.int .u32 (rot x (32 - n) : Int)) ∧ w = w' := by
  have HR : Hid (bits .or .u32 ((x : Int) * 2 ^ n % 4294967296) ((x : Int) / 2 ^ (32 - n)) = (rot x (32 - n) : Int)) := rot_or x n hx h1 h2
  have hcv : (n : Int) % 18446744073709551616 = (n : Int) := by omega
  have hcw : IntKind.u64.wrap (n : Int) = (n : Int) := by rw [IntKind.wrap_u64]; omega
  have han : bits .and .u64 (n : Int) 31 = (n : Int) := by
    have := u64_and_nat n 31 (by omega) (by omega)
    rw [nat_mask5] at this
    exact this.trans (by omega)
  go_enter Tryz.func159, Tryz.ntmps159
  go_wp2
  go_ret
  exact ⟨by simp [HR.out], rfl⟩

set_option maxRecDepth 20000 in
set_option maxHeartbeats 1000000 in
theorem quarter_any (q : Q4) (hq : q.OK) (w : World) :
    Calls Tryz.prog 165 #[.int .u32 (q.a : Int), .int .u32 (q.b : Int), .int .u32 (q.c : Int), .int .u32 (q.d : Int)] w fun e w' => e = .returned (.tuple #[.int .u32 ((qr q).a : Int), .int .u32 ((qr q).b : Int), .int .u32 ((qr q).c : Int), .int .u32 ((qr q).d : Int)]) ∧ w = w' := by
  obtain ⟨a, b, c, d⟩ := q
  obtain ⟨ha, hb, hc, hd⟩ := hq
  dsimp only at ha hb hc hd
  obtain ⟨a1, ea1⟩ : ∃ y, (a + b) % 4294967296 = y := ⟨_, rfl⟩
  obtain ⟨d1, ed1⟩ : ∃ y, rot (d ^^^ a1) 16 = y := ⟨_, rfl⟩
  obtain ⟨c1, ec1⟩ : ∃ y, (c + d1) % 4294967296 = y := ⟨_, rfl⟩
  obtain ⟨b1, eb1⟩ : ∃ y, rot (b ^^^ c1) 20 = y := ⟨_, rfl⟩
  obtain ⟨a2, ea2⟩ : ∃ y, (a1 + b1) % 4294967296 = y := ⟨_, rfl⟩
  obtain ⟨d2, ed2⟩ : ∃ y, rot (d1 ^^^ a2) 24 = y := ⟨_, rfl⟩
  obtain ⟨c2, ec2⟩ : ∃ y, (c1 + d2) % 4294967296 = y := ⟨_, rfl⟩
  obtain ⟨b2, eb2⟩ : ∃ y, rot (b1 ^^^ c2) 25 = y := ⟨_, rfl⟩
  have HQ : Hid (qr ⟨a, b, c, d⟩ = ⟨a2, b2, c2, d2⟩) := by
    show _ = _
    simp only [qr, Q4.half, ea1, ed1, ec1, eb1, ea2, ed2, ec2, eb2]
  have la1 : a1 < 4294967296 := by omega
  have ld1 : d1 < 4294967296 := by rw [← ed1]; exact rot_lt _ _ (xor_lt _ _ hd la1) (by omega) (by omega)
  have lc1 : c1 < 4294967296 := by omega
  have lb1 : b1 < 4294967296 := by rw [← eb1]; exact rot_lt _ _ (xor_lt _ _ hb lc1) (by omega) (by omega)
  have la2 : a2 < 4294967296 := by omega
  have ld2 : d2 < 4294967296 := by rw [← ed2]; exact rot_lt _ _ (xor_lt _ _ ld1 la2) (by omega) (by omega)
  have lc2 : c2 < 4294967296 := by omega
  have w1 : ((a : Int) + (b : Int)) % 4294967296 = (a1 : Int) := by omega
  have w2 : ((c : Int) + (d1 : Int)) % 4294967296 = (c1 : Int) := by omega
  have w3 : ((a1 : Int) + (b1 : Int)) % 4294967296 = (a2 : Int) := by omega
  have w4 : ((c1 : Int) + (d2 : Int)) % 4294967296 = (c2 : Int) := by omega
  have x1 := u32_xor_nat d a1 hd la1
  have x2 := u32_xor_nat b c1 hb lc1
  have x3 := u32_xor_nat d1 a2 ld1 la2
  have x4 := u32_xor_nat b1 c2 lb1 lc2
  have k1 := fun W => rotl_any (d ^^^ a1) 16 W (xor_lt _ _ hd la1) (by omega) (by omega)
  have k2 := fun W => rotl_any (b ^^^ c1) 12 W (xor_lt _ _ hb lc1) (by omega) (by omega)
  have k3 := fun W => rotl_any (d1 ^^^ a2) 8 W (xor_lt _ _ ld1 la2) (by omega) (by omega)
  have k4 := fun W => rotl_any (b1 ^^^ c2) 7 W (xor_lt _ _ lb1 lc2) (by omega) (by omega)
  rw [show 32 - 16 = 16 from rfl, ed1] at k1
  rw [show 32 - 12 = 20 from rfl, eb1] at k2
  rw [show 32 - 8 = 24 from rfl, ed2] at k3
  rw [show 32 - 7 = 25 from rfl, eb2] at k4
  clear ed1 eb1 ed2 eb2 ea1 ec1 ea2 ec2
  revert x1 x2 x3 x4 k1 k2 k3 k4
  generalize d ^^^ a1 = y1
  generalize b ^^^ c1 = y2
  generalize d1 ^^^ a2 = y3
  generalize b1 ^^^ c2 = y4
  intro x1 x2 x3 x4 k1 k2 k3 k4
  go_enter Tryz.func165, Tryz.ntmps165
  go_wp2_with fail
  refine (k1 _).mono ?_
  rintro e w' ⟨rfl, rfl⟩
  go_wp2_with fail
  refine (k2 _).mono ?_
  rintro e w' ⟨rfl, rfl⟩
  go_wp2_with fail
  refine (k3 _).mono ?_
  rintro e w' ⟨rfl, rfl⟩
  go_wp2_with fail
  refine (k4 _).mono ?_
  rintro e w' ⟨rfl, rfl⟩
  go_wp2
  (try simp only [Exit.inBlock, Exit.then])
  refine bodyPost_ret (results_tmp4 rfl _ _ _) rfl ?_
  rw [HQ.out]
  exact ⟨rfl, rfl⟩

end Go.Proofs.YtengclnahppmhaaGreatDoor.Cha

namespace Go.Proofs.YtengclnahppmhaaGreatDoor.Cha
open Go.RowKit Go.Lib Go.Deep

def u32L (l : List Nat) : List Value := l.map fun (n : Nat) => Value.int .u32 (n : Int)
def u32s (l : List Nat) : Array Value := (u32L l).toArray
def i64L (l : List Nat) : List Value := l.map fun (n : Nat) => Value.int .i64 (n : Int)
def i64s (l : List Nat) : Array Value := (i64L l).toArray
theorem u32L_at (l : List Nat) (i : Nat) (h : i < l.length) : (u32L l)[i]? = some (.int .u32 ((l.getD i 0 : Nat) : Int)) := by
  simp [u32L, List.getD_eq_getElem?_getD, h]
theorem u32s_at (l : List Nat) (i : Nat) (h : i < l.length) : (u32s l)[i]? = some (.int .u32 ((l.getD i 0 : Nat) : Int)) := by
  rw [u32s, List.getElem?_toArray]
  exact u32L_at l i h
theorem i64L_at (l : List Nat) (i : Nat) (h : i < l.length) : (i64L l)[i]? = some (.int .i64 ((l.getD i 0 : Nat) : Int)) := by
  simp [i64L, List.getD_eq_getElem?_getD, h]
theorem i64s_at (l : List Nat) (i : Nat) (h : i < l.length) : (i64s l)[i]? = some (.int .i64 ((l.getD i 0 : Nat) : Int)) := by
  rw [i64s, List.getElem?_toArray]
  exact i64L_at l i h
theorem u32s_size (l : List Nat) : (u32s l).size = l.length := by simp [u32s, u32L]
theorem i64s_size (l : List Nat) : (i64s l).size = l.length := by simp [i64s, i64L]
theorem u32L_length (l : List Nat) : (u32L l).length = l.length := by simp [u32L]
theorem i64L_length (l : List Nat) : (i64L l).length = l.length := by simp [i64L]
theorem u32L_one (l : List Nat) : ∀ v ∈ u32L l, v.oneCell' = true := by
  intro v hv
  obtain ⟨n, _, rfl⟩ := List.mem_map.1 hv
  rfl
theorem i64L_one (l : List Nat) : ∀ v ∈ i64L l, v.oneCell' = true := by
  intro v hv
  obtain ⟨n, _, rfl⟩ := List.mem_map.1 hv
  rfl
theorem u32s_set (l : List Nat) (i x : Nat) : (u32s l).setIfInBounds i (.int .u32 (x : Int)) = u32s (l.set i x) := by
  simp [u32s, u32L]
theorem i64s_set (l : List Nat) (i x : Nat) : (i64s l).setIfInBounds i (.int .i64 (x : Int)) = i64s (l.set i x) := by
  simp [i64s, i64L]

/-- the program's two tables -/
structure CTabs (w : World) : Prop where
  fw : w.rangeAt 5 0 (u32L con4)
  dr : w.rangeAt 6 0 (i64L plc)
theorem CTabs.kept {w w' : World} (h : CTabs w) (hb : ∀ k, k < 8 → w'.heap[k]? = w.heap[k]?) : CTabs w' := by
  constructor
  · intro j v hv
    rw [World.cell?_of_block (hb 5 (by omega))]
    exact h.fw j v hv
  · intro j v hv
    rw [World.cell?_of_block (hb 6 (by omega))]
    exact h.dr j v hv
theorem CTabs.below {w w' : World} {B : Nat} (h : CTabs w) (hb : Below B w w') (hB : 8 ≤ B) : CTabs w' := h.kept fun k hk => hb.block k (by omega)

theorem below_drewN (w : World) (n : Nat) : Below w.heap.size w (w.drewN n) := ⟨rfl, rfl, rfl, Nat.le_refl _, fun _ _ => rfl⟩

theorem sizeSt : (Tryz.prog.info? 181).map (·.size) = some 16 := by kernel_rfl
theorem size1 : (Tryz.prog.info? 141).map (·.size) = some 1 := by kernel_rfl

theorem rindex_at {P : Program} (w : World) (t : TypeId) (s : ByteArray) (k : IntKind) (z : Int) (i : Nat) (c : UInt8) (h : P.underlying t = some .string) (hz : z = (i : Int)) (hc : s.data.toList[i]? = some c) :
    (Instr.index t (.string s) (.int k z)).run P w = .ok (.int .u8 (c.toNat : Int)) w := by
  subst hz
  exact index_at w t s k i c h hc

theorem word_orL (x0 x1 x2 x3 : Nat) (h0 : x0 < 256) (h1 : x1 < 256) (h2 : x2 < 256) (h3 : x3 < 256) :
    bits .or .u32 (bits .or .u32 (bits .or .u32 (x0 : Int) ((x1 : Int) * 256)) ((x2 : Int) * 65536)) ((x3 : Int) * 16777216) = ((x0 + 256 * x1 + 65536 * x2 + 16777216 * x3 : Nat) : Int) := by
  rw [show (x3 : Int) * 16777216 = ((16777216 * x3 : Nat) : Int) by omega, show (x2 : Int) * 65536 = ((65536 * x2 : Nat) : Int) by omega, show (x1 : Int) * 256 = ((256 * x1 : Nat) : Int) by omega]
  rw [u32_or_nat _ _ (by omega) (by omega), Nat.or_comm, nat_join 8 (256 * x1) x0 (by omega) (by omega), u32_or_nat _ _ (by omega) (by omega), Nat.or_comm, nat_join 16 (65536 * x2) (256 * x1 + x0) (by omega) (by omega),
    u32_or_nat _ _ (by omega) (by omega), Nat.or_comm, nat_join 24 (16777216 * x3) (65536 * x2 + (256 * x1 + x0)) (by omega) (by omega)]
  omega

set_option maxRecDepth 20000 in
set_option maxHeartbeats 1000000 in
theorem wordAt_any (s : ByteArray) (i : Nat) (h : i + 4 ≤ s.size) (hs : s.size ≤ 9223372036854775807) (w : World) :
    Calls Tryz.prog 164 #[.string s, .int .i64 (i : Int)] w fun e w' => e = .returned (.int .u32 (wordL s.data.toList i : Int)) ∧ Below w.heap.size w w' := by
  have hl : s.data.toList.length = s.size := (size_eq s).symm
  have g : ∀ j, j < 4 → s.data.toList[i + j]? = some (s.data.toList.getD (i + j) 0) := fun j hj => by
    rw [List.getD_eq_getElem?_getD, List.getElem?_eq_getElem (by omega)]
    rfl
  have h0 := fun W => rindex_at (P := Tryz.prog) W 9 s .i64 (i : Int) i _ Tryz.underlying9 rfl (g 0 (by omega))
  have h1 := fun W => rindex_at (P := Tryz.prog) W 9 s .i64 ((i : Int) + 1) (i + 1) _ Tryz.underlying9 (by omega) (g 1 (by omega))
  have h2 := fun W => rindex_at (P := Tryz.prog) W 9 s .i64 ((i : Int) + 2) (i + 2) _ Tryz.underlying9 (by omega) (g 2 (by omega))
  have h3 := fun W => rindex_at (P := Tryz.prog) W 9 s .i64 ((i : Int) + 3) (i + 3) _ Tryz.underlying9 (by omega) (g 3 (by omega))
  have HF : Hid (wordL s.data.toList i = (s.data.toList.getD (i + 0) 0).toNat + 256 * (s.data.toList.getD (i + 1) 0).toNat + 65536 * (s.data.toList.getD (i + 2) 0).toNat + 16777216 * (s.data.toList.getD (i + 3) 0).toNat) := rfl
  have l0 := (s.data.toList.getD (i + 0) 0).toNat_lt
  have l1 := (s.data.toList.getD (i + 1) 0).toNat_lt
  have l2 := (s.data.toList.getD (i + 2) 0).toNat_lt
  have l3 := (s.data.toList.getD (i + 3) 0).toNat_lt
  clear g
  revert h0 h1 h2 h3 HF l0 l1 l2 l3
  generalize (s.data.toList.getD (i + 0) 0).toNat = x0
  generalize (s.data.toList.getD (i + 1) 0).toNat = x1
  generalize (s.data.toList.getD (i + 2) 0).toNat = x2
  generalize (s.data.toList.getD (i + 3) 0).toNat = x3
  intro h0 h1 h2 h3 HF l0 l1 l2 l3
  have w1 : IntKind.i64.wrap ((i : Int) + 1) = (i : Int) + 1 := by rw [IntKind.wrap_i64]; omega
  have w2 : IntKind.i64.wrap ((i : Int) + 2) = (i : Int) + 2 := by rw [IntKind.wrap_i64]; omega
  have w3 : IntKind.i64.wrap ((i : Int) + 3) = (i : Int) + 3 := by rw [IntKind.wrap_i64]; omega
  have HE : Hid (bits .or .u32 (bits .or .u32 (bits .or .u32 (x0 : Int) ((x1 : Int) * 256)) ((x2 : Int) * 65536)) ((x3 : Int) * 16777216) = (wordL s.data.toList i : Int)) := by
    show _ = _
    rw [HF.out]
    exact word_orL x0 x1 x2 x3 l0 l1 l2 l3
  rw [← HE.out]
  clear HF HE hl
  go_enter Tryz.func164, Tryz.ntmps164
  go_wp2_with fail
  go_quiet (fail)
  go_wp2
  go_ret
  refine ⟨?_, below_drewN w nq⟩
  congr 2

end Go.Proofs.YtengclnahppmhaaGreatDoor.Cha

namespace Go.Proofs.YtengclnahppmhaaGreatDoor.Cha
open Go.RowKit Go.Lib Go.Deep

theorem bytes4_cells (x : Nat) (hx : x < 4294967296) : byteCells (bytes4 x) = [.int .u8 ((x : Int) % 256), .int .u8 ((x : Int) / 256 % 256), .int .u8 ((x : Int) / 65536 % 256), .int .u8 ((x : Int) / 16777216)] := by
  have e : byteCells (bytes4 x) = [.int .u8 ((byteAt x 0).toNat : Int), .int .u8 ((byteAt x 1).toNat : Int), .int .u8 ((byteAt x 2).toNat : Int), .int .u8 ((byteAt x 3).toNat : Int)] := rfl
  rw [e, byteAt_toNat, byteAt_toNat, byteAt_toNat, byteAt_toNat]
  have h3 : x / 16777216 % 256 = x / 16777216 := Nat.mod_eq_of_lt (by omega)
  simp [h3]

theorem byteCells_one (l : List UInt8) : ∀ v ∈ byteCells l, v.oneCell' = true := by
  intro v hv
  obtain ⟨n, _, rfl⟩ := List.mem_map.1 hv
  rfl

theorem textL_take (ws : List Nat) (k x : Nat) (h : ws[k]? = some x) : textL (ws.take (k + 1)) = textL (ws.take k) ++ bytes4 x := by
  rw [List.take_add_one, h, textL_append]
  simp [textL]

set_option maxRecDepth 20000 in
set_option maxHeartbeats 1000000 in
theorem textOf_any (ws : List Nat) (hlt : ∀ x ∈ ws, x < 4294967296) (hl : ws.length ≤ 16) (b cap : Nat) (w : World) (hb : b < w.heap.size) (hc : w.rangeAt b 0 (u32L ws)) :
    Calls Tryz.prog 157 #[.slice (some ⟨b, 0, none⟩) ws.length cap] w fun e w' => e = .returned (.string (str (textL ws))) ∧ Below w.heap.size w w' := by
  obtain ⟨i0, hi, hz0, hz1, hz2⟩ := info_parts info5
  go_enter Tryz.func157, Tryz.ntmps157
  go_wp2_with (at_make; refine wpList_make_own _ rfl _ _ 96 rfl w.heap.size 5 i0 (.int .u8 0) 1 Tryz.underlying96 hi hz0 hz1 .i64 .i64 64 64 rfl rfl rfl (by rw [hz2]; omega) (by unfold maxLen; omega) (Nat.le_refl _) ?_; intro w1 hown1 hg1)
  have hb1 : Below w.heap.size w w1 := Below.grown (Below.refl _ _) hg1 (Nat.le_refl _) (by simp)
  go_loopg [3, 9] ws.length (fun gk v i wr => ∃ k : Nat, k + gk = ws.length ∧ i = .int .i64 k ∧ wr.ownsRow w.heap.size 5 1 v (textL (ws.take k)).length (byteCells (textL (ws.take k))) ∧ Below w.heap.size w wr)
  case atStart => exact ⟨0, by omega, rfl, hown1, hb1⟩
  case round =>
    clear hown1 hb1 hg1
    obtain ⟨k, hk, rfl, hown, hbel⟩ := hrel
    have HK : Hid (k + gk = ws.length) := hk
    have hk' : k ≤ ws.length := by omega
    clear hk
    by_cases hkl : k < ws.length
    · have hkI : (k : Int) < (ws.length : Int) := by omega
      obtain ⟨x, hx⟩ : ∃ x, ws[k]? = some x := ⟨_, List.getElem?_eq_getElem hkl⟩
      have hxl := hlt x (List.mem_of_getElem? hx)
      have hcell : wr.cell? ⟨b, k, none⟩ = some (.int .u32 (x : Int)) := by
        rw [hbel.cell (p := ⟨b, k, none⟩) hb]
        have := hc k (.int .u32 (x : Int)) (by simp [u32L, hx])
        simpa using this
      have HS : Hid (byteCells (textL (ws.take (k + 1))) = byteCells (textL (ws.take k)) ++ [.int .u8 ((x : Int) % 256), .int .u8 ((x : Int) / 256 % 256), .int .u8 ((x : Int) / 65536 % 256), .int .u8 ((x : Int) / 16777216)]) := by
        show _ = _
        rw [textL_take ws k x hx, byteCells_append, bytes4_cells x hxl]
      have HL : Hid ((textL (ws.take (k + 1))).length = (textL (ws.take k)).length + 4) := by
        show _ = _
        rw [textL_take ws k x hx, List.length_append]
        rfl
      have hlen : (textL (ws.take k)).length ≤ 64 := by rw [textL_length, List.length_take]; omega
      have hml : (textL (ws.take k)).length + 4 ≤ maxLen := by unfold maxLen; omega
      have hone : ∀ u ∈ [Value.int .u8 ((x : Int) % 256), .int .u8 ((x : Int) / 256 % 256), .int .u8 ((x : Int) / 65536 % 256), .int .u8 ((x : Int) / 16777216)], u.oneCell' = true := by
        rw [← bytes4_cells x hxl]
        exact byteCells_one _
      clear hx
      revert hown HS HL hlen hml
      generalize (textL (ws.take k)).length = m
      generalize byteCells (textL (ws.take k)) = cs
      intro hown HS HL hlen hml
      go_wp2_with (at_builtin; refine wpList_append_own _ rfl _ _ 96 rfl w.heap.size 5 i0 (.int .u8 0) 1 1 Tryz.underlying96 hi hz0 hz1 hz2 rfl (by decide) _ _ _ rfl (hown.alloc _) ⟨wr.heap.size, 0, none⟩ 4 4 [.int .u8 ((x : Int) % 256), .int .u8 ((x : Int) / 256 % 256), .int .u8 ((x : Int) / 65536 % 256), .int .u8 ((x : Int) / 16777216)] rfl rfl (by intro j u h; exact cells_new wr #[.int .u8 ((x : Int) % 256), .int .u8 ((x : Int) / 256 % 256), .int .u8 ((x : Int) / 65536 % 256), .int .u8 ((x : Int) / 16777216)] 5 j u (by simpa using h)) hone hml (by omega) (by have := hbel.size; simp; omega) ?_; intro v' w' hown' hgrow' _)
      have R : w'.ownsRow w.heap.size 5 1 v' (textL (ws.take (k + 1))).length (byteCells (textL (ws.take (k + 1)))) := by rw [HS.out, HL.out]; exact hown'
      have hb' : Below w.heap.size w w' := by
        have h1 := hbel.alloc hbel.size (.cells #[.int .u8 ((x : Int) % 256), .int .u8 ((x : Int) / 256 % 256), .int .u8 ((x : Int) / 65536 % 256), .int .u8 ((x : Int) / 16777216)] 5)
        exact h1.trans (grown_below hgrow' h1.size (hown.alloc _))
      clear hown' hgrow' hown
      go_wp2
      go_roundg (gk - 1)
      case measure => have := HK.out; omega
      case rel => exact ⟨k + 1, by have := HK.out; omega, by go_num, R, hb'⟩
    · have hkI : ¬ (k : Int) < (ws.length : Int) := by omega
      obtain rfl : k = ws.length := by omega
      rw [List.take_length] at hown
      have hcv := convert_own (P := Tryz.prog) wr 96 9 5 w.heap.size _ (textL ws) Tryz.underlying96 Tryz.underlying5 Tryz.underlying9 hown
      clear hown
      go_wp2
      go_ret
      exact ⟨rfl, hbel⟩

end Go.Proofs.YtengclnahppmhaaGreatDoor.Cha

namespace Go.Proofs.YtengclnahppmhaaGreatDoor.Cha
open Go.RowKit Go.Lib Go.Deep

theorem isWord_yes (n : Nat) (h : n < 4294967296) (w : World) : Calls Tryz.prog 136 #[.int .i64 (n : Int)] w fun e w' => e = .returned (.bool true) ∧ w = w' := by
  have h1 : (0 : Int) ≤ (n : Int) := by omega
  have h2 : (n : Int) < 4294967296 := by omega
  go_enter Tryz.func136, Tryz.ntmps136
  go_wp2
  go_ret
  exact ⟨rfl, rfl⟩
theorem isWord_no (n : Int) (h : ¬ (0 ≤ n ∧ n < 4294967296)) (w : World) : Calls Tryz.prog 136 #[.int .i64 n] w fun e w' => e = .returned (.bool false) ∧ w = w' := by
  by_cases h1 : 0 ≤ n
  · have h2 : ¬ n < 4294967296 := by omega
    clear h
    go_enter Tryz.func136, Tryz.ntmps136
    go_wp2
    go_ret
    exact ⟨rfl, rfl⟩
  · clear h
    go_enter Tryz.func136, Tryz.ntmps136
    go_wp2
    go_ret
    exact ⟨rfl, rfl⟩

end Go.Proofs.YtengclnahppmhaaGreatDoor.Cha
