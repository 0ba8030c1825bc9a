import Derived.Test.YtckbbbcjpklnmaaDoorIxJ
import Derived.Test.YtckbbbcjpklnmaaDoorIxK
import Derived.Test.YtckbbbcjpklnmaaDoorIxV5
namespace Go.Proofs.YtckbbbcjpklnmaaDoor.Ix
open Go.RowKit Go.Lib Go.Deep

theorem sl_to {P : Program} (w : World) (t : TypeId) (s : ByteArray) (z : Int) (L : Nat) (h : P.underlying t = some .string) (hz : z = (L : Int)) (hL : L ≤ s.size) : (Instr.slice t (.string s) none (some (.int .i64 z)) none).run P w = .ok (.string (s.extract 0 L)) w := by
  subst hz
  have hj : 0 ≤ (L : Int) ∧ (L : Int) ≤ (s.size : Int) := ⟨by omega, by omega⟩
  simp [Instr.slice, Instr.sliceBounds, Instr.sliceBound, asIntOf, run_underlying h, hj]
  omega
theorem sl_of {P : Program} (w : World) (t : TypeId) (s : ByteArray) (z : Int) (L : Nat) (h : P.underlying t = some .string) (hz : z = (L : Int)) (hL : L ≤ s.size) : (Instr.slice t (.string s) (some (.int .i64 z)) none none).run P w = .ok (.string (s.extract L s.size)) w := by
  subst hz
  have hj : 0 ≤ (L : Int) ∧ (L : Int) ≤ (s.size : Int) := ⟨by omega, by omega⟩
  simp [Instr.slice, Instr.sliceBounds, Instr.sliceBound, asIntOf, run_underlying h, hj]
  omega
theorem below_alloc {w X : World} (h : Below w.heap.size w X) (o : Obj) : Below w.heap.size w (X.alloc o) := h.alloc h.size o
theorem below_on {w X Y : World} (h : Below X.heap.size X Y) (hX : Below w.heap.size w X) : Below w.heap.size w Y := hX.trans (h.mono hX.size)
theorem heap_drew {X : World} {g : Nat} {o : Obj} (h : X.heap[g]? = some o) : X.drew.heap[g]? = some o := h
theorem heap_at {X : World} {g : Nat} {o : Obj} (h : g = X.heap.size) : (X.alloc o).heap[g]? = some o := by subst h; exact heap_new X o
theorem heap_keep {X : World} {g : Nat} {o o' : Obj} (h : X.heap[g]? = some o) : (X.alloc o').heap[g]? = some o := (Below.heap_alloc X o' g (heap_lt h)).trans h
/-- a byte turned, as a string -/
theorem turn_cat (s : ByteArray) (l : List UInt8) (h : s.data.toList = l) (k : Nat) (hk : k < l.length) (z : UInt8) : s.extract 0 k ++ str [z] ++ s.extract (k + 1) s.size = str (l.set k z) := by
  have hs : s.size = l.length := by rw [size_eq, h]
  have e : (s.extract 0 k ++ str [z] ++ s.extract (k + 1) s.size).data.toList = (str (l.set k z)).data.toList := by
    rw [ByteArray.data_append, ByteArray.data_append, Array.toList_append, Array.toList_append, str_data, str_data, ByteArray.data_extract, ByteArray.data_extract, Array.toList_extract, Array.toList_extract, h, List.set_eq_take_append_cons_drop, if_pos hk, hs]
    simp [List.extract]
    rw [List.take_of_length_le (by rw [List.length_drop]; exact Nat.le_refl _)]
  exact ByteArray.ext (Array.toList_inj.1 e)
theorem turn_byte (y : UInt8) (q : Nat) (h0 : 0 < q) (h1 : q < 256) : bits .xor .u8 (y.toNat : Int) (q : Int) = ((y ^^^ UInt8.ofNat q).toNat : Int) ∧ y ^^^ UInt8.ofNat q ≠ y := by
  have hmn : (UInt8.ofNat q).toNat = q := by rw [UInt8.toNat_ofNat']; omega
  constructor
  · have h := u8_xor_nat y.toNat q y.toNat_lt (by omega)
    rw [show y.toNat ^^^ q = (y ^^^ UInt8.ofNat q).toNat by rw [UInt8.toNat_xor, hmn]] at h
    exact h
  · intro e
    have e1 := congrArg UInt8.toNat e
    rw [UInt8.toNat_xor, hmn] at e1
    have e2 : y.toNat ^^^ (y.toNat ^^^ q) = q := by rw [← Nat.xor_assoc, Nat.xor_self, Nat.zero_xor]
    rw [e1, Nat.xor_self] at e2
    omega
theorem byte_str {X : World} {g : Nat} {z : UInt8} (h : X.cell? ⟨g, 0, none⟩ = some (.int .u8 (z.toNat : Int))) : (convert 45 9 (.slice (some ⟨g, 0, none⟩) 1 1)).run Tryd.prog X = .ok (.string (str [z])) X :=
  run_convert_bytes_back (P := Tryd.prog) _ 45 9 5 ⟨g, 0, none⟩ 1 [z] Tryd.underlying45 Tryd.underlying5 Tryd.underlying9 (fun j hj => by
    obtain rfl : j = 0 := by simpa using hj
    rw [Addr.add_lit, Nat.zero_add]
    exact h)
/-- what is told of the turned root -/
def Gv (c : Cn) (R : List Rf) (kk B : Nat) (X : World) (i0 i1 i2 i3 i4 i5 : Int) (a : Option Addr) (n k : Nat) (z : Int) : Prop :=
  (27 ≤ kk ∧ z = 0 ∧ Cf.mk i0 i1 i2 i3 i4 i5 = c.cf ∧ n = c.pgs ∧ ∃ Q, X.ownsRow B 48 2 (.slice a c.pgs k) c.pgs (rfsC Q) ∧ Q ≠ R ∧ Q.length = c.pgs) ∨ (kk < 27 ∧ (z = 140 ∨ z = 141) ∧ n = 0)
def Rst (c : Cn) (R : List Rf) (kk : Nat) (wc wx : World) (g : Nat) (z : Int) : Prop :=
  Below wc.heap.size wc wx ∧ ∃ i0 i1 i2 i3 i4 i5 a n k, wx.heap[g]? = some (.cells #[.int .i64 i0, .int .i64 i1, .int .i64 i2, .int .i64 i3, .int .i64 i4, .int .i64 i5, .slice a n k] 38 (0, 0)) ∧ ∃ B, Gv c R kk B wx i0 i1 i2 i3 i4 i5 a n k z
theorem Gv.keep {c : Cn} {R : List Rf} {kk B : Nat} {X Y : World} {i0 i1 i2 i3 i4 i5 : Int} {a : Option Addr} {n k : Nat} {z : Int} (h : Gv c R kk B X i0 i1 i2 i3 i4 i5 a n k z) (hk : ∀ g, B ≤ g → g < X.heap.size → Y.heap[g]? = X.heap[g]?) : Gv c R kk B Y i0 i1 i2 i3 i4 i5 a n k z := by
  rcases h with ⟨h1, h2, h3, h4, Q, h5, h6⟩ | h
  · exact .inl ⟨h1, h2, h3, h4, Q, owns_keep h5 (fun g hg => hk g (h5.lt g hg).1 (h5.lt g hg).2), h6⟩
  · exact .inr h
theorem putg {c : Cn} {R : List Rf} {kk : Nat} {wc X w8 : World} {g : Nat} {i0 i1 i2 i3 i4 i5 : Int} {a : Option Addr} {n k : Nat} {z : Int} (h8 : Below X.heap.size X w8) (hX : Below wc.heap.size wc X) (hg : wc.heap.size ≤ g) (hz : X.heap[g]? = some (.cells #[.int .i64 0, .int .i64 0, .int .i64 0, .int .i64 0, .int .i64 0, .int .i64 0, .slice none 0 0] 38 (0, 0))) (HG : Gv c R kk X.heap.size w8 i0 i1 i2 i3 i4 i5 a n k z) :
    w8.heap[g]? = some (.cells #[.int .i64 0, .int .i64 0, .int .i64 0, .int .i64 0, .int .i64 0, .int .i64 0, .slice none 0 0] 38 (0, 0)) ∧ Rst c R kk wc (put7 w8 g (.int .i64 i0) (.int .i64 i1) (.int .i64 i2) (.int .i64 i3) (.int .i64 i4) (.int .i64 i5) (.slice a n k)) g z := by
  have hl := heap_lt hz
  have gz := (h8.block _ hl).trans hz
  obtain ⟨e1, e2⟩ := put7_res gz (below_on h8 hX) hg (.int .i64 i0) (.int .i64 i1) (.int .i64 i2) (.int .i64 i3) (.int .i64 i4) (.int .i64 i5) (.slice a n k)
  refine ⟨gz, e2, i0, i1, i2, i3, i4, i5, a, n, k, e1, X.heap.size, HG.keep fun h hh _ => ?_⟩
  have hne : h ≠ g := by omega
  unfold put7
  rw [heap_setCell_other _ _ _ _ hne, heap_setCell_other _ _ _ _ hne, heap_setCell_other _ _ _ _ hne, heap_setCell_other _ _ _ _ hne, heap_setCell_other _ _ _ _ hne, heap_setCell_other _ _ _ _ hne, heap_setCell_other _ _ _ _ hne]
theorem newg {c : Cn} {R : List Rf} {kk B : Nat} {wc w8 : World} {i0 i1 i2 i3 i4 i5 : Int} {a : Option Addr} {n k : Nat} {z : Int} (h8 : Below wc.heap.size wc w8) (HG : Gv c R kk B w8 i0 i1 i2 i3 i4 i5 a n k z) :
    Rst c R kk wc (w8.alloc (.cells #[.int .i64 i0, .int .i64 i1, .int .i64 i2, .int .i64 i3, .int .i64 i4, .int .i64 i5, .slice a n k] 38)) w8.heap.size z :=
  ⟨below_alloc h8 _, i0, i1, i2, i3, i4, i5, a, n, k, heap_new _ _, B, HG.keep fun _ _ hh => Below.heap_alloc _ _ _ hh⟩
theorem turn_any {c : Cn} {R : List Rf} (hc : c.May) (hn : R.length = c.pgs) (h : ∀ r ∈ R, RfF r) {k : Nat} {x : UInt8} (hk : k < (rootL c R).length) (hx : (rootL c R)[k]? ≠ some x) (w : World) (hT : RT w) :
    Calls Tryd.prog 17 #[cfV c.cf, .string (str ((rootL c R).set k x))] w fun e w' => ∃ i0 i1 i2 i3 i4 i5 a n kp z, e = .returned (.tuple #[.agg #[.int .i64 i0, .int .i64 i1, .int .i64 i2, .int .i64 i3, .int .i64 i4, .int .i64 i5, .slice a n kp], .int .i64 z]) ∧ Gv c R k w.heap.size w' i0 i1 i2 i3 i4 i5 a n kp z ∧ Below w.heap.size w w' := by
  obtain ⟨t1, t2⟩ := der_turn hc hn h hk hx
  by_cases h27 : 27 ≤ k
  · obtain ⟨e1, e2⟩ := t1 h27
    refine (decRoot_good c (str ((rootL c R).set k x)) (by rw [str_data]; exact e1) w hT).mono ?_
    rintro e w' ⟨a, kp, rfl, ho, hb⟩
    rw [str_data] at ho
    exact ⟨c.cf.sl, c.cf.fl, c.cf.dr, c.cf.mf, c.cf.ls, c.cf.pg, a, c.pgs, kp, 0, rfl, .inl ⟨h27, rfl, rfl, rfl, _, ho, e2, rdRs_len _ _⟩, hb⟩
  · have e1 := t2 (by omega)
    have hl := rootL_len (c := c) h
    have h3 := hc.2
    refine (decRoot_bad c.cf (str ((rootL c R).set k x)) (by rw [str_size, List.length_set, hl, hn]; omega) (by rw [str_data]; exact e1) w hT).mono ?_
    rintro e w' ⟨rfl, hb⟩
    rw [str_data]
    refine ⟨0, 0, 0, 0, 0, 0, none, 0, 0, _, rfl, .inr ⟨by omega, ?_, rfl⟩, hb⟩
    rcases derE_or c.cf ((rootL c R).set k x) with q | q | q
    · exact absurd q e1
    · exact .inl q
    · exact .inr q
end Go.Proofs.YtckbbbcjpklnmaaDoor.Ix
