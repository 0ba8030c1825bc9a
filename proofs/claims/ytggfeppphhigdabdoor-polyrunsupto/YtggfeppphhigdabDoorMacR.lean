import Derived.Test.YtggfeppphhigdabDoorMacQ
import Derived.Test.YtggfeppphhigdabDoorInfoA
namespace Go.Proofs.YtggfeppphhigdabDoor
open Go.RowKit Go.Lib Go.Deep

theorem fill_drop (m : Nat) (l : List Nat) : (fill m l).drop l.length = List.replicate (m - l.length) 0 := by simp [fill]
theorem nsL_take (kd : IntKind) (l : List Nat) (k : Nat) : (nsL kd l).take k = nsL kd (l.take k) := by simp [nsL]
theorem nsL_drop (kd : IntKind) (l : List Nat) (k : Nat) : (nsL kd l).drop k = nsL kd (l.drop k) := by simp [nsL]

/-- bytes laid behind those that make no whole block yet -/
theorem copyB (R S A : List Nat) (rest y : List UInt8) (n q m : Nat) (h1 : R.length = 5) (h2 : S.length = 5) (h3 : A.length = 5) (hq : rest.length = q) (hm : y.length = m) (hl : q + m ≤ 16) :
    (mcells R S A (fill 17 (nat8 rest)) n).toArray.toList.take (16 + q) ++ byteCells y ++ (mcells R S A (fill 17 (nat8 rest)) n).toArray.toList.drop (16 + q + m) = mcells R S A (fill 17 (nat8 (rest ++ y))) n := by
  have e1 : mcells R S A (fill 17 (nat8 rest)) n = ((.bool true :: (nsL .u64 R ++ nsL .u64 S ++ nsL .u64 A)) ++ nsL .u8 (nat8 rest)) ++ (nsL .u8 (List.replicate m 0) ++ (nsL .u8 (List.replicate (17 - q - m) 0) ++ [.int .i64 (n : Int)])) := by
    have : List.replicate (17 - q) 0 = List.replicate m 0 ++ List.replicate (17 - q - m) (0 : Nat) := by rw [List.replicate_append_replicate]; congr 1; omega
    simp only [mcells, fill, nat8_length, hq, this, nsL_append, List.cons_append, List.append_assoc]
  have l1 : (((Value.bool true :: (nsL .u64 R ++ nsL .u64 S ++ nsL .u64 A)) ++ nsL .u8 (nat8 rest))).length = 16 + q := by simp [nsL_length, nat8_length, h1, h2, h3, hq]; omega
  have l2 : (nsL .u8 (List.replicate m 0)).length = m := by simp [nsL_length]
  rw [List.toList_toArray, e1, List.take_left' l1, ← List.drop_drop, List.drop_left' l1, List.drop_left' l2, ← nat8_cells y]
  have : 17 - (nat8 rest ++ nat8 y).length = 17 - q - m := by rw [List.length_append, nat8_length, nat8_length, hq, hm]; omega
  simp only [mcells, fill, this, nat8_append, nsL_append, List.cons_append, List.append_assoc]

/-- a tag that took a text -/
structure Mac (w : World) (p r s : Nat) (l : List UInt8) : Prop where
  ex : ∃ A, A < 1361129467683753853853498429727072845824 ∧ A % Pp = accN r l (l.length / 16) ∧ Pm w p (lim r) (lim s) (lim A) (fill 17 (nat8 (l.drop (16 * (l.length / 16))))) (l.length % 16)
theorem Mac.lt {w : World} {p r s : Nat} {l : List UInt8} (h : Mac w p r s l) : p < w.heap.size := by
  obtain ⟨A, _, _, hP⟩ := h.ex
  exact hP.lt
theorem Mac.kept {w w' : World} {p r s : Nat} {l : List UInt8} (h : Mac w p r s l) (hk : w'.heap[p]? = w.heap[p]?) : Mac w' p r s l := by
  obtain ⟨A, h1, h2, hP⟩ := h.ex
  exact ⟨A, h1, h2, hP.kept hk⟩
theorem Mac.below {w w' : World} {B p r s : Nat} {l : List UInt8} (h : Mac w p r s l) (hb : Below B w w') (hp : p < B) : Mac w' p r s l := h.kept (hb.block p hp)
theorem Mac.only {w w' : World} {S : List Nat} {p r s : Nat} {l : List UInt8} (h : Mac w p r s l) (hb : Only S w w') (hp : p ∉ S) : Mac w' p r s l := h.kept (hb.block p h.lt hp)
theorem Mac.made {w : World} {p r s : Nat} {l : List UInt8} (h : Mac w p r s l) : w.cell? ⟨p, 0, none⟩ = some (.bool true) := by
  obtain ⟨A, _, _, hP⟩ := h.ex
  exact hP.made

theorem step_mod (A N r acc : Nat) (h : A % Pp = acc) : (A + N) * r % Pp = (acc + N) * r % Pp := by
  subst h
  rw [Nat.mul_mod, Nat.mul_mod (A % Pp + N), Nat.mod_add_mod]
theorem acc_full (r : Nat) (l y : List UInt8) (h : l.length % 16 + y.length = 16) :
    (l ++ y).length / 16 = l.length / 16 + 1 ∧ (l ++ y).length % 16 = 0 ∧ (l ++ y).drop (16 * ((l ++ y).length / 16)) = [] ∧
      accN r (l ++ y) ((l ++ y).length / 16) = (accN r l (l.length / 16) + numL (l.drop (16 * (l.length / 16)) ++ y ++ [1])) * r % Pp := by
  have e1 : (l ++ y).length / 16 = l.length / 16 + 1 := by rw [List.length_append]; omega
  have e3 : (l ++ y).drop (16 * (l.length / 16)) = l.drop (16 * (l.length / 16)) ++ y := List.drop_append_of_le_length (by omega)
  refine ⟨e1, by rw [List.length_append]; omega, List.drop_eq_nil_of_le (by rw [List.length_append]; omega), ?_⟩
  rw [e1, accN, accN_append _ _ _ _ (by omega), e3, List.take_of_length_le (by rw [List.length_append, List.length_drop]; omega), pstep]
theorem acc_some (r : Nat) (l y : List UInt8) (h : l.length % 16 + y.length < 16) :
    (l ++ y).length / 16 = l.length / 16 ∧ (l ++ y).length % 16 = l.length % 16 + y.length ∧ (l ++ y).drop (16 * ((l ++ y).length / 16)) = l.drop (16 * (l.length / 16)) ++ y ∧ accN r (l ++ y) ((l ++ y).length / 16) = accN r l (l.length / 16) := by
  have e1 : (l ++ y).length / 16 = l.length / 16 := by rw [List.length_append]; omega
  refine ⟨e1, by rw [List.length_append]; omega, ?_, ?_⟩
  · rw [e1]
    exact List.drop_append_of_le_length (by omega)
  · rw [e1, accN_append _ _ _ _ (by omega)]
/-- the tag's last block -/
theorem acc_end (r : Nat) (l : List UInt8) : accN r l ((l.length + 15) / 16) = if l.length % 16 = 0 then accN r l (l.length / 16) else (accN r l (l.length / 16) + numL (l.drop (16 * (l.length / 16)) ++ [1])) * r % Pp := by
  by_cases h : l.length % 16 = 0
  · rw [if_pos h, show (l.length + 15) / 16 = l.length / 16 by omega]
  · rw [if_neg h, show (l.length + 15) / 16 = l.length / 16 + 1 by omega, accN, List.take_of_length_le (by rw [List.length_drop]; omega), pstep]
theorem num_block (x : List UInt8) (h : x.length ≤ 16) : numL (x ++ [1]) < 1361129467683753853853498429727072845824 := by
  have h1 := numL_lt (x ++ [1])
  have h2 : numL (x ++ [1]) = numL x + 256 ^ x.length * 1 := by rw [numL_append]; rfl
  have h3 := numL_lt x
  have h4 : 256 ^ x.length ≤ 256 ^ 16 := Nat.pow_le_pow_right (by omega) h
  simp only [Nat.reducePow] at h4
  omega
theorem set_block (x : List UInt8) (h : x.length ≤ 16) : nat8 (x ++ [1] ++ List.replicate (16 - x.length) 0) = (fill 17 (nat8 x)).set x.length 1 := by
  have := fill_set 17 x.length (nat8 x) 1 (nat8_length x) (by omega)
  rw [this]
  simp [fill, nat8]

theorem size5 : (Tryd.prog.info? 5).map (·.size) = some 1 := by kernel_rfl
theorem slice_rest {x : ByteArray} {m : Nat} (_hm : m ≤ x.size) : (x.extract m x.size).data.toList = x.data.toList.drop m ∧ (x.extract m x.size).size = x.size - m := by
  refine ⟨?_, ?_⟩
  · have : (x.extract m x.size).data = x.data.extract m x.size := by simp
    rw [this, Array.toList_extract]
    simp [List.extract]
    have e : x.data.toList.length = x.size := by rw [Array.length_toList]; rfl
    rw [List.take_of_length_le]
    rw [List.length_drop, e]
    exact Nat.le_refl _
  · simp

end Go.Proofs.YtggfeppphhigdabDoor
