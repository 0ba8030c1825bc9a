import Derived.Test.YtbjiamaaocjbfaaDoorBaseM
namespace Go.Proofs.YtbjiamaaocjbfaaDoor.Ae
open Go.RowKit Go.Lib Go.Deep

theorem slice_take {P : Program} (W : World) (t : TypeId) (ht : P.underlying t = some .string) (l : List UInt8) (n : Nat) (hn : n ≤ l.length) : (Instr.slice t (.string (str l)) none (some (.int .i64 (n : Int))) none).run P W = .ok (.string (str (l.take n))) W := by
  rw [run_slice_string_h (P := P) W t (str l) ht .i64 (n : Int) (by omega) (by rw [str_size]; omega), Int.toNat_natCast]
  congr 2
  rw [← str_of ((str l).extract 0 n), extract_data, str_data, List.drop_zero, Nat.sub_zero]
theorem slice_drop {P : Program} (W : World) (t : TypeId) (ht : P.underlying t = some .string) (l : List UInt8) (n : Nat) (hn : n ≤ l.length) : (Instr.slice t (.string (str l)) (some (.int .i64 (n : Int))) none none).run P W = .ok (.string (str (l.drop n))) W := by
  rw [run_slice_string_l (P := P) W t (str l) ht .i64 (n : Int) (by omega) (by rw [str_size]; omega), Int.toNat_natCast]
  congr 2
  rw [← str_of ((str l).extract n (str l).size), extract_data, str_data, str_size, List.take_of_length_le (by rw [List.length_drop]; omega)]

end Go.Proofs.YtbjiamaaocjbfaaDoor.Ae
