import Derived.Test.YtggfeppphhigdaaDoorPlB
import Derived.Deep.RegionHeldLaw
namespace Go.Proofs.YtggfeppphhigdaaDoor
open Go.RowKit Go.Lib Go.Deep

theorem slice_head {P : Program} (W : World) (t : TypeId) (ht : P.underlying t = some .string) (l a : List UInt8) (n : Nat) (hn : n ≤ l.length) (h : l.take n = a) : (Instr.slice t (.string (str l)) none (some (.int .i64 (n : Int))) none).run P W = .ok (.string (str a)) W := by
  rw [run_slice_string_h (P := P) W t (str l) ht .i64 (n : Int) (by omega) (by rw [str_size]; omega), Int.toNat_natCast]
  congr 2
  have e : ((str l).extract 0 n).data.toList = l.take n := by simp [str, List.extract]
  rw [← str_of ((str l).extract 0 n), e, h]
theorem slice_tail {P : Program} (W : World) (t : TypeId) (ht : P.underlying t = some .string) (l a : List UInt8) (n : Nat) (hn : n ≤ l.length) (h : l.drop n = a) : (Instr.slice t (.string (str l)) (some (.int .i64 (n : Int))) none none).run P W = .ok (.string (str a)) W := by
  rw [run_slice_string_l (P := P) W t (str l) ht .i64 (n : Int) (by omega) (by rw [str_size]; omega), Int.toNat_natCast]
  congr 2
  have e := (slice_rest (x := str l) (m := n) (by rw [str_size]; exact hn)).1
  rw [str_data, h] at e
  rw [← str_of ((str l).extract n (str l).size), e]
theorem cat_strs (a b : List UInt8) : str a ++ str b = str (a ++ b) := by
  simp [str]
  rfl

/-- a digit's value, as the laws' digit tells it -/
theorem digit_any (c : UInt8) (h : isDig c = true) (w : World) : Calls Tryd.prog 26 #[.int .u8 (c.toNat : Int)] w fun e w' => e = .returned (.int .i64 (digVal c : Int)) ∧ w = w' := by
  simp only [isDig, decide_eq_true_eq] at h
  have hc := c.toNat_lt
  by_cases h97 : 97 ≤ c.toNat
  · have h1 : (97 : Int) ≤ (c.toNat : Int) := by omega
    have e : (digVal c : Int) = (c.toNat : Int) - 97 + 10 := by unfold digVal; rw [if_neg (by omega)]; omega
    rw [e]
    clear e
    revert h1 h hc
    generalize c.toNat = n
    intro hc h h1
    go_enter Tryd.func26, Tryd.ntmps26
    go_wp2
    go_ret
    exact ⟨rfl, rfl⟩
  · have h1 : ¬ (97 : Int) ≤ (c.toNat : Int) := by omega
    have e : (digVal c : Int) = (c.toNat : Int) - 48 := by unfold digVal; rw [if_pos (by omega)]; omega
    rw [e]
    clear e
    have h2 : 48 ≤ c.toNat := by omega
    revert h1 h2 h hc
    generalize c.toNat = n
    intro hc h h1 h2
    go_enter Tryd.func26, Tryd.ntmps26
    go_wp2
    go_ret
    exact ⟨rfl, rfl⟩

end Go.Proofs.YtggfeppphhigdaaDoor
