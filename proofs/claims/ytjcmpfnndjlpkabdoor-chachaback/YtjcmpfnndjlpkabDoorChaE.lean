import Derived.Test.YtjcmpfnndjlpkabDoorChaB
import Derived.Test.YtjcmpfnndjlpkabDoorLawsF
import Derived.BigQuiet
import Derived.BigRegion
import Derived.Deep.RegionHeldLaw
namespace Go.Proofs.YtjcmpfnndjlpkabDoor
open Go.RowKit Go.Lib Go.Deep

def u32L (l : List Nat) : List Value := l.map fun (n : Nat) => Value.int .u32 (n : Int)
def u32s (l : List Nat) : Array Value := (u32L l).toArray
def i64L (l : List Nat) : List Value := l.map fun (n : Nat) => Value.int .i64 (n : Int)
def i64s (l : List Nat) : Array Value := (i64L l).toArray
theorem u32L_at (l : List Nat) (i : Nat) (h : i < l.length) : (u32L l)[i]? = some (.int .u32 ((l.getD i 0 : Nat) : Int)) := by
  simp [u32L, List.getD_eq_getElem?_getD, h]
theorem u32s_at (l : List Nat) (i : Nat) (h : i < l.length) : (u32s l)[i]? = some (.int .u32 ((l.getD i 0 : Nat) : Int)) := by
  rw [u32s, List.getElem?_toArray]
  exact u32L_at l i h
theorem i64L_at (l : List Nat) (i : Nat) (h : i < l.length) : (i64L l)[i]? = some (.int .i64 ((l.getD i 0 : Nat) : Int)) := by
  simp [i64L, List.getD_eq_getElem?_getD, h]
theorem i64s_at (l : List Nat) (i : Nat) (h : i < l.length) : (i64s l)[i]? = some (.int .i64 ((l.getD i 0 : Nat) : Int)) := by
  rw [i64s, List.getElem?_toArray]
  exact i64L_at l i h
theorem u32s_size (l : List Nat) : (u32s l).size = l.length := by simp [u32s, u32L]
theorem i64s_size (l : List Nat) : (i64s l).size = l.length := by simp [i64s, i64L]
theorem u32L_length (l : List Nat) : (u32L l).length = l.length := by simp [u32L]
theorem i64L_length (l : List Nat) : (i64L l).length = l.length := by simp [i64L]
theorem u32L_one (l : List Nat) : ∀ v ∈ u32L l, v.oneCell' = true := by
  intro v hv
  obtain ⟨n, _, rfl⟩ := List.mem_map.1 hv
  rfl
theorem i64L_one (l : List Nat) : ∀ v ∈ i64L l, v.oneCell' = true := by
  intro v hv
  obtain ⟨n, _, rfl⟩ := List.mem_map.1 hv
  rfl
theorem u32s_set (l : List Nat) (i x : Nat) : (u32s l).setIfInBounds i (.int .u32 (x : Int)) = u32s (l.set i x) := by
  simp [u32s, u32L]
theorem i64s_set (l : List Nat) (i x : Nat) : (i64s l).setIfInBounds i (.int .i64 (x : Int)) = i64s (l.set i x) := by
  simp [i64s, i64L]

/-- the program's two tables -/
structure CTabs (w : World) : Prop where
  fw : w.rangeAt 0 0 (u32L con4)
  dr : w.rangeAt 1 0 (i64L plc)
theorem CTabs.kept {w w' : World} (h : CTabs w) (hb : ∀ k, k < 3 → w'.heap[k]? = w.heap[k]?) : CTabs w' := by
  constructor
  · intro j v hv
    rw [World.cell?_of_block (hb 0 (by omega))]
    exact h.fw j v hv
  · intro j v hv
    rw [World.cell?_of_block (hb 1 (by omega))]
    exact h.dr j v hv
theorem CTabs.below {w w' : World} {B : Nat} (h : CTabs w) (hb : Below B w w') (hB : 3 ≤ B) : CTabs w' := h.kept fun k hk => hb.block k (by omega)

theorem below_drewN (w : World) (n : Nat) : Below w.heap.size w (w.drewN n) := ⟨rfl, rfl, rfl, Nat.le_refl _, fun _ _ => rfl⟩

theorem sizeSt : (Tryd.prog.info? 46).map (·.size) = some 16 := by kernel_rfl
theorem size1 : (Tryd.prog.info? 44).map (·.size) = some 1 := by kernel_rfl

theorem rindex_at {P : Program} (w : World) (t : TypeId) (s : ByteArray) (k : IntKind) (z : Int) (i : Nat) (c : UInt8) (h : P.underlying t = some .string) (hz : z = (i : Int)) (hc : s.data.toList[i]? = some c) :
    (Instr.index t (.string s) (.int k z)).run P w = .ok (.int .u8 (c.toNat : Int)) w := by
  subst hz
  exact index_at w t s k i c h hc

theorem word_orL (x0 x1 x2 x3 : Nat) (h0 : x0 < 256) (h1 : x1 < 256) (h2 : x2 < 256) (h3 : x3 < 256) :
    bits .or .u32 (bits .or .u32 (bits .or .u32 (x0 : Int) ((x1 : Int) * 256)) ((x2 : Int) * 65536)) ((x3 : Int) * 16777216) = ((x0 + 256 * x1 + 65536 * x2 + 16777216 * x3 : Nat) : Int) := by
  rw [show (x3 : Int) * 16777216 = ((16777216 * x3 : Nat) : Int) by omega, show (x2 : Int) * 65536 = ((65536 * x2 : Nat) : Int) by omega, show (x1 : Int) * 256 = ((256 * x1 : Nat) : Int) by omega]
  rw [u32_or_nat _ _ (by omega) (by omega), Nat.or_comm, nat_join 8 (256 * x1) x0 (by omega) (by omega), u32_or_nat _ _ (by omega) (by omega), Nat.or_comm, nat_join 16 (65536 * x2) (256 * x1 + x0) (by omega) (by omega),
    u32_or_nat _ _ (by omega) (by omega), Nat.or_comm, nat_join 24 (16777216 * x3) (65536 * x2 + (256 * x1 + x0)) (by omega) (by omega)]
  omega

set_option maxRecDepth 20000 in
set_option maxHeartbeats 1000000 in
theorem wordAt_any (s : ByteArray) (i : Nat) (h : i + 4 ≤ s.size) (hs : s.size ≤ 9223372036854775807) (w : World) :
    Calls Tryd.prog 39 #[.string s, .int .i64 (i : Int)] w fun e w' => e = .returned (.int .u32 (wordL s.data.toList i : Int)) ∧ Below w.heap.size w w' := by
  have hl : s.data.toList.length = s.size := (size_eq s).symm
  have g : ∀ j, j < 4 → s.data.toList[i + j]? = some (s.data.toList.getD (i + j) 0) := fun j hj => by
    rw [List.getD_eq_getElem?_getD, List.getElem?_eq_getElem (by omega)]
    rfl
  have h0 := fun W => rindex_at (P := Tryd.prog) W 9 s .i64 (i : Int) i _ Tryd.underlying9 rfl (g 0 (by omega))
  have h1 := fun W => rindex_at (P := Tryd.prog) W 9 s .i64 ((i : Int) + 1) (i + 1) _ Tryd.underlying9 (by omega) (g 1 (by omega))
  have h2 := fun W => rindex_at (P := Tryd.prog) W 9 s .i64 ((i : Int) + 2) (i + 2) _ Tryd.underlying9 (by omega) (g 2 (by omega))
  have h3 := fun W => rindex_at (P := Tryd.prog) W 9 s .i64 ((i : Int) + 3) (i + 3) _ Tryd.underlying9 (by omega) (g 3 (by omega))
  have HF : Hid (wordL s.data.toList i = (s.data.toList.getD (i + 0) 0).toNat + 256 * (s.data.toList.getD (i + 1) 0).toNat + 65536 * (s.data.toList.getD (i + 2) 0).toNat + 16777216 * (s.data.toList.getD (i + 3) 0).toNat) := rfl
  have l0 := (s.data.toList.getD (i + 0) 0).toNat_lt
  have l1 := (s.data.toList.getD (i + 1) 0).toNat_lt
  have l2 := (s.data.toList.getD (i + 2) 0).toNat_lt
  have l3 := (s.data.toList.getD (i + 3) 0).toNat_lt
  clear g
  revert h0 h1 h2 h3 HF l0 l1 l2 l3
  generalize (s.data.toList.getD (i + 0) 0).toNat = x0
  generalize (s.data.toList.getD (i + 1) 0).toNat = x1
  generalize (s.data.toList.getD (i + 2) 0).toNat = x2
  generalize (s.data.toList.getD (i + 3) 0).toNat = x3
  intro h0 h1 h2 h3 HF l0 l1 l2 l3
  have w1 : IntKind.i64.wrap ((i : Int) + 1) = (i : Int) + 1 := by rw [IntKind.wrap_i64]; omega
  have w2 : IntKind.i64.wrap ((i : Int) + 2) = (i : Int) + 2 := by rw [IntKind.wrap_i64]; omega
  have w3 : IntKind.i64.wrap ((i : Int) + 3) = (i : Int) + 3 := by rw [IntKind.wrap_i64]; omega
  have HE : Hid (bits .or .u32 (bits .or .u32 (bits .or .u32 (x0 : Int) ((x1 : Int) * 256)) ((x2 : Int) * 65536)) ((x3 : Int) * 16777216) = (wordL s.data.toList i : Int)) := by
    show _ = _
    rw [HF.out]
    exact word_orL x0 x1 x2 x3 l0 l1 l2 l3
  rw [← HE.out]
  clear HF HE hl
  go_enter Tryd.func39, Tryd.ntmps39
  go_wp2_with fail
  go_quiet (fail)
  go_wp2
  go_ret
  refine ⟨?_, below_drewN w nq⟩
  congr 2

end Go.Proofs.YtjcmpfnndjlpkabDoor
