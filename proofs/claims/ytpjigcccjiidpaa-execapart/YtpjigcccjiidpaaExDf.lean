import Derived.Test.YtpjigcccjiidpaaExDe
namespace Go.Proofs.Ytpjigcccjiidpaa.Ex
open Go.RowKit Go.Lib Go.Deep

/-- a list of names, as a value -/
structure Nv where
  a : Option Addr
  l : Nat
  c : Nat
def Nv.v (u : Nv) : Value := .slice u.a u.l u.c
/-- a step as it lies there -/
structure St where
  s : Sp
  v : Nv
  nm : List ByteArray
/-- a result as it lies there -/
structure Rr where
  r : Rs
  v : Nv
  nm : List ByteArray
def rrC (x : Rr) : List Value := [.int .i64 x.r.cd, .string (str x.r.da), .int .i64 x.r.n, .slice x.v.a x.v.l x.v.c, .int .i64 x.r.kd, .int .i64 x.r.sz]
def rrsC (l : List Rr) : List Value := l.flatMap rrC
theorem rrC_len (x : Rr) : (rrC x).length = 6 := rfl
theorem rrs_len (l : List Rr) : (rrsC l).length = l.length * 6 := flat_len rrC 6 rrC_len l
def stC (x : St) : List Value := [.int .i64 x.s.r.cd, .string (str x.s.r.da), .int .i64 x.s.r.n, .slice x.v.a x.v.l x.v.c, .int .i64 x.s.r.kd, .int .i64 x.s.r.sz, .int .i64 x.s.e.kd, .int .i64 x.s.e.fl, .int .i64 x.s.e.gn, .int .i64 x.s.e.at_, .int .i64 x.s.e.n, .string (str x.s.e.da), .int .i64 x.s.e.sz]
def stsC (l : List St) : List Value := l.flatMap stC
theorem stC_len (x : St) : (stC x).length = 13 := rfl
def zR : Rr := ⟨⟨0, [], 0, 0, 0⟩, ⟨none, 0, 0⟩, []⟩
/-- six cells written over -/
def P6 (V : World) (b o : Nat) (x0 x1 x2 x3 x4 x5 : Value) : World := (((((V.setCell ⟨b, o, none⟩ x0).setCell ⟨b, o + 1, none⟩ x1).setCell ⟨b, o + 2, none⟩ x2).setCell ⟨b, o + 3, none⟩ x3).setCell ⟨b, o + 4, none⟩ x4).setCell ⟨b, o + 5, none⟩ x5
def P6r (V : World) (b o : Nat) (x : Rr) : World := P6 V b o (.int .i64 x.r.cd) (.string (str x.r.da)) (.int .i64 x.r.n) (.slice x.v.a x.v.l x.v.c) (.int .i64 x.r.kd) (.int .i64 x.r.sz)
theorem grown_trans {a b c : World} {r : Option Nat} (h : a.grownBy b r) (k : b.grownBy c r) : a.grownBy c r := ⟨k.os.trans h.os, k.tape.trans h.tape, k.output.trans h.output, Nat.le_trans h.size k.size, fun i hi hr => (k.block i (Nat.lt_of_lt_of_le hi h.size) hr).trans (h.block i hi hr)⟩
theorem rrs_put {w : World} {B g cap N : Nat} {l : List Rr} (h : w.ownsRow B 56 6 (.slice (some ⟨g, 0, none⟩) N cap) N (rrsC l)) {i : Nat} {was : Rr} (hi : l[i]? = some was) (x : Rr) :
    (P6r w g (i * 6) x).ownsRow B 56 6 (.slice (some ⟨g, 0, none⟩) N cap) N (rrsC (l.set i x)) ∧ w.grownBy (P6r w g (i * 6) x) (some g) := by
  have hl := some_lt hi
  obtain ⟨⟨w0, w1, w2, w4, w5⟩, wv, wn⟩ := was
  obtain ⟨⟨x0, x1, x2, x4, x5⟩, ⟨xa, xl, xc⟩, xn⟩ := x
  have h1 := h.stored (i * 6) (.int .i64 x0)
  rw [show rrsC l = l.flatMap rrC from rfl, show i * 6 = i * 6 + 0 by omega, flat_set rrC 6 rrC_len l i _ ⟨⟨x0, w1, w2, w4, w5⟩, wv, wn⟩ hi 0 (.int .i64 x0) (by omega) rfl] at h1
  have h2 := h1.1.stored (i * 6 + 1) (.string (str x1))
  rw [flat_set rrC 6 rrC_len _ i ⟨⟨x0, w1, w2, w4, w5⟩, wv, wn⟩ ⟨⟨x0, x1, w2, w4, w5⟩, wv, wn⟩ (by rw [List.getElem?_set_self hl]) 1 (.string (str x1)) (by omega) rfl, List.set_set] at h2
  have h3 := h2.1.stored (i * 6 + 2) (.int .i64 x2)
  rw [flat_set rrC 6 rrC_len _ i ⟨⟨x0, x1, w2, w4, w5⟩, wv, wn⟩ ⟨⟨x0, x1, x2, w4, w5⟩, wv, wn⟩ (by rw [List.getElem?_set_self hl]) 2 (.int .i64 x2) (by omega) rfl, List.set_set] at h3
  have h4 := h3.1.stored (i * 6 + 3) (.slice xa xl xc)
  rw [flat_set rrC 6 rrC_len _ i ⟨⟨x0, x1, x2, w4, w5⟩, wv, wn⟩ ⟨⟨x0, x1, x2, w4, w5⟩, ⟨xa, xl, xc⟩, xn⟩ (by rw [List.getElem?_set_self hl]) 3 (.slice xa xl xc) (by omega) rfl, List.set_set] at h4
  have h5 := h4.1.stored (i * 6 + 4) (.int .i64 x4)
  rw [flat_set rrC 6 rrC_len _ i ⟨⟨x0, x1, x2, w4, w5⟩, ⟨xa, xl, xc⟩, xn⟩ ⟨⟨x0, x1, x2, x4, w5⟩, ⟨xa, xl, xc⟩, xn⟩ (by rw [List.getElem?_set_self hl]) 4 (.int .i64 x4) (by omega) rfl, List.set_set] at h5
  have h6 := h5.1.stored (i * 6 + 5) (.int .i64 x5)
  rw [flat_set rrC 6 rrC_len _ i ⟨⟨x0, x1, x2, x4, w5⟩, ⟨xa, xl, xc⟩, xn⟩ ⟨⟨x0, x1, x2, x4, x5⟩, ⟨xa, xl, xc⟩, xn⟩ (by rw [List.getElem?_set_self hl]) 5 (.int .i64 x5) (by omega) rfl, List.set_set] at h6
  exact ⟨h6.1, grown_trans (grown_trans (grown_trans (grown_trans (grown_trans h1.2 h2.2) h3.2) h4.2) h5.2) h6.2⟩
/-- the names of one result written over -/
theorem rrs_nm {w : World} {B g cap N : Nat} {l : List Rr} (h : w.ownsRow B 56 6 (.slice (some ⟨g, 0, none⟩) N cap) N (rrsC l)) {i : Nat} {was : Rr} (hi : l[i]? = some was) (u : Nv) (nm : List ByteArray) :
    (w.setCell ⟨g, i * 6 + 3, none⟩ (.slice u.a u.l u.c)).ownsRow B 56 6 (.slice (some ⟨g, 0, none⟩) N cap) N (rrsC (l.set i ⟨was.r, u, nm⟩)) ∧ w.grownBy (w.setCell ⟨g, i * 6 + 3, none⟩ (.slice u.a u.l u.c)) (some g) := by
  have h1 := h.stored (i * 6 + 3) (.slice u.a u.l u.c)
  rw [show rrsC l = l.flatMap rrC from rfl, flat_set rrC 6 rrC_len l i _ ⟨was.r, u, nm⟩ hi 3 (.slice u.a u.l u.c) (by omega) rfl] at h1
  exact h1
theorem infoR : (Try.prog.info? 56).map (fun i => (i.zero, i.size, i.bytes)) = some (some (.agg #[.int .i64 0, .string { data := #[] }, .int .i64 0, .slice none 0 0, .int .i64 0, .int .i64 0]), 6, 72) := by kernel_rfl
theorem make_res (n : Nat) (hn : n ≤ 1099511627776) (w : World) : (Instr.makeSlice 27 (.int .i64 (n : Int)) (.int .i64 (n : Int))).run Try.prog w = .ok (.slice (some ⟨w.heap.size, 0, none⟩) n n) (w.alloc (.cells (madeCells #[.int .i64 0, .string { data := #[] }, .int .i64 0, .slice none 0 0, .int .i64 0, .int .i64 0] (n * 6)) 56)) := by
  obtain ⟨i0, hi, hz0, hz1, hz2⟩ := info_parts infoR
  have h := run_make (P := Try.prog) w 27 56 i0 (.agg #[.int .i64 0, .string { data := #[] }, .int .i64 0, .slice none 0 0, .int .i64 0, .int .i64 0]) Try.underlying27 hi hz0 .i64 .i64 n n (by omega) (by omega) (by rw [hz2]; omega) (by omega)
  simpa [hz1, Value.cells] using h
theorem made_res (n : Nat) (hn : n ≤ 1099511627776) (w : World) : World.ownsRow (w.alloc (.cells (madeCells #[.int .i64 0, .string { data := #[] }, .int .i64 0, .slice none 0 0, .int .i64 0, .int .i64 0] (n * 6)) 56)) w.heap.size 56 6 (.slice (some ⟨w.heap.size, 0, none⟩) n n) n (rrsC (List.replicate n zR)) := by
  have e : (madeCells #[.int .i64 0, .string { data := #[] }, .int .i64 0, .slice none 0 0, .int .i64 0, .int .i64 0] (n * 6)).toList = rrsC (List.replicate n zR) := by
    apply List.ext_getElem
    · rw [Array.length_toList, size_madeCells, rrs_len, List.length_replicate]
    · intro i h1 h2
      have h3 : i < n * 6 := by rw [rrs_len] at h2; simpa using h2
      have hg := flat_get rrC 6 rrC_len (List.replicate n zR) (i / 6) zR (by rw [List.getElem?_replicate, if_pos (by omega)]) (i % 6) (by omega)
      rw [show i / 6 * 6 + i % 6 = i by omega] at hg
      have e1 : (rrsC (List.replicate n zR))[i]? = (rrC zR)[i % 6]? := hg
      rw [List.getElem?_eq_getElem h2] at e1
      have e2 : (rrC zR)[i % 6]? = some ((#[.int .i64 0, .string { data := #[] }, .int .i64 0, .slice none 0 0, .int .i64 0, .int .i64 0] : Array Value).getD (i % 6) default) := by
        rcases (show i % 6 = 0 ∨ i % 6 = 1 ∨ i % 6 = 2 ∨ i % 6 = 3 ∨ i % 6 = 4 ∨ i % 6 = 5 by omega) with h | h | h | h | h | h <;> rw [h] <;> rfl
      rw [e2] at e1
      rw [Option.some.inj e1]
      simp [madeCells]
  refine ⟨by rw [rrs_len, List.length_replicate], .inr ⟨w.heap.size, n, _, rfl, Nat.le_refl _, heap_new w _, Nat.le_refl _, by unfold maxLen; omega, ?_, ?_⟩⟩
  · rw [← Array.length_toList, e, rrs_len, List.length_replicate]
  · rw [e]
    exact List.take_of_length_le (by rw [rrs_len, List.length_replicate]; omega)
end Go.Proofs.Ytpjigcccjiidpaa.Ex
