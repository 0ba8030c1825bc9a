import Derived.Test.YtcfmcjdgdpignaaDoorShaU
import Derived.Laws.StructEq
namespace Go.Proofs.YtcfmcjdgdpignaaDoor
open Go.RowKit Go.Lib Go.Deep

theorem guardW : Tryd.prog.eqGuardType Tryd.prog.depth 48 = false := by kernel_rfl

set_option maxHeartbeats 1000000 in
theorem eq_words (a b c d e f g h a' b' c' d' e' f' g' h' : Int) (w : World) :
    (Op.equalIn 10000 48 (.agg #[.int .u32 a, .int .u32 b, .int .u32 c, .int .u32 d, .int .u32 e, .int .u32 f, .int .u32 g, .int .u32 h]) (.agg #[.int .u32 a', .int .u32 b', .int .u32 c', .int .u32 d', .int .u32 e', .int .u32 f', .int .u32 g', .int .u32 h'])).run Tryd.prog w =
      .ok (a == a' && (b == b' && (c == c' && (d == d' && (e == e' && (f == f' && (g == g' && h == h'))))))) w := by
  have u3 := Tryd.underlying46
  have a3 : ∀ w, (isAgg 46).run Tryd.prog w = .ok false w := fun w => by
    unfold isAgg
    rw [Sem.run_bind, run_underlying Tryd.underlying46 w]
    rfl
  have z3 : ∀ w, (Go.sizeOf 46).run Tryd.prog w = .ok 1 w := fun w => by
    have hs := size1
    cases hq : Tryd.prog.info? 46 with
    | none => simp [hq] at hs
    | some q =>
      have hz : q.size = 1 := by simpa [hq] using hs
      simp [Go.sizeOf, typeInfo, hq, hz]
  rw [show (10000 : Nat) = 9999 + 1 from rfl, Op.equalIn]
  simp only [Sem.run_bind, run_underlying Tryd.underlying48, Result.andThen_ok]
  simp only [Std.Legacy.Range.forIn_eq_forIn_range', Std.Legacy.Range.size, Nat.sub_zero, Nat.add_sub_cancel, Nat.div_one, List.range'_succ, List.range'_zero, List.forIn_cons, List.forIn_nil]
  go_simp
  by_cases h1 : a = a' <;> by_cases h2 : b = b' <;> by_cases h3 : c = c' <;> by_cases h4 : d = d' <;> by_cases h5 : e = e' <;> by_cases h6 : f = f' <;> by_cases h7 : g = g' <;> by_cases h8 : h = h' <;> simp [h1, h2, h3, h4, h5, h6, h7, h8]

end Go.Proofs.YtcfmcjdgdpignaaDoor
