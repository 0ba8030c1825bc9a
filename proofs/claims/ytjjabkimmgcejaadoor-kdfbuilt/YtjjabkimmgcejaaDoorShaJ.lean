import Derived.Test.YtjjabkimmgcejaaDoorShaI
import Derived.Test.YtjjabkimmgcejaaDoorInfoA
namespace Go.Proofs.YtjjabkimmgcejaaDoor
open Go.RowKit Go.Lib Go.Deep

/-- a word as four bytes, the highest first -/
def be4 (x : Nat) : List UInt8 := [UInt8.ofNat (x / 16777216), UInt8.ofNat (x / 65536), UInt8.ofNat (x / 256), UInt8.ofNat x]
def be4s : List Nat → List UInt8
  | [] => []
  | x :: r => be4 x ++ be4s r
def wtext (s : W8) : List UInt8 := be4s s.list

theorem be4s_append (l r : List Nat) : be4s (l ++ r) = be4s l ++ be4s r := by
  induction l with
  | nil => rfl
  | cons x l ih => simp [be4s, ih]
theorem be4s_length (l : List Nat) : (be4s l).length = 4 * l.length := by
  induction l with
  | nil => rfl
  | cons x l ih => simp [be4s, be4, ih]; omega
theorem be4_cells (x : Nat) (h : x < 4294967296) : byteCells (be4 x) = [.int .u8 ((x : Int) / 16777216), .int .u8 ((x : Int) / 65536 % 256), .int .u8 ((x : Int) / 256 % 256), .int .u8 ((x : Int) % 256)] := by
  simp [byteCells, be4, UInt8.toNat_ofNat']
  omega

theorem four_cells (w : World) (a b c d : Value) : ∀ j u, [a, b, c, d][j]? = some u → (w.alloc (.cells #[a, b, c, d] 5)).cell? ((⟨w.heap.size, 0, none⟩ : Addr).add j) = some u := by
  intro j u h
  exact cells_new w #[a, b, c, d] 5 j u (by simpa using h)

theorem make32 (w : World) : (Instr.makeSlice 42 (.int .i64 0) (.int .i64 32)).run Tryd.prog w = .ok (.slice (some ⟨w.heap.size, 0, none⟩) 0 32) (w.alloc (.cells (madeCells #[.int .u8 0] 32) 5)) := by
  obtain ⟨i0, hi, hz0, hz1, hz2⟩ := info_parts info5
  have h := run_make (P := Tryd.prog) w 42 5 i0 (.int .u8 0) Tryd.underlying42 hi hz0 .i64 .i64 0 32 (by omega) (by omega) (by rw [hz2]; omega) (by omega)
  simpa [hz1, Value.cells] using h

theorem text_rel {w wr w' : World} {v v' : Value} {l : List Nat} {k x : Nat} (hx4 : x < 4294967296) (hx : l[k]? = some x) (hb : Below w.heap.size w wr) (ho : wr.ownsRow w.heap.size 5 1 v (be4s (l.take k)).length (byteCells (be4s (l.take k))))
    (ho' : w'.ownsRow w.heap.size 5 1 v' ((be4s (l.take k)).length + 4) (byteCells (be4s (l.take k)) ++ [.int .u8 ((x : Int) / 16777216), .int .u8 ((x : Int) / 65536 % 256), .int .u8 ((x : Int) / 256 % 256), .int .u8 ((x : Int) % 256)]))
    (cs : Array Value) (hg : (wr.alloc (.cells cs 5)).grownBy w' v.ownBlock) :
    w'.ownsRow w.heap.size 5 1 v' (be4s (l.take (k + 1))).length (byteCells (be4s (l.take (k + 1)))) ∧ Below w.heap.size w w' := by
  have e : be4s (l.take (k + 1)) = be4s (l.take k) ++ be4 x := by rw [List.take_add_one, hx, be4s_append]; simp [be4s]
  rw [e, byteCells_append, be4_cells x hx4]
  refine ⟨by simpa [be4] using ho', ?_⟩
  have h1 : Below w.heap.size w (wr.alloc (.cells cs 5)) := hb.alloc hb.size _
  exact h1.trans (grown_below hg h1.size (ho.alloc _))

set_option maxRecDepth 20000 in
set_option maxHeartbeats 1000000 in
theorem text_any (s : W8) (hs : s.OK) (w : World) :
    Calls Tryd.prog 48 #[.agg (u32s s.list)] w fun e w' => e = .returned (.string (str (wtext s))) ∧ Below w.heap.size w w' := by
  obtain ⟨i0, hi, hz0, hz1, hz2⟩ := info_parts info5
  have hl8 : ∀ x ∈ s.list, x < 4294967296 := by
    intro x hx
    simp only [W8.list, List.mem_cons, List.not_mem_nil, or_false] at hx
    obtain ⟨h1, h2, h3, h4, h5, h6, h7, h8⟩ := hs
    rcases hx with rfl | rfl | rfl | rfl | rfl | rfl | rfl | rfl <;> assumption
  have hlen8 : s.list.length = 8 := rfl
  have HW : Hid (wtext s = be4s s.list) := rfl
  revert hl8 hlen8 HW
  generalize s.list = l
  intro hl8 hlen8 HW
  have hmk := make32
  have hst : (Tryd.prog.info? 64).map (·.size) = some (u32s l).size := by rw [u32s_size, hlen8]; exact size8
  have hheap : ((w.alloc (.cells (u32s l) 64)).alloc (.cells (madeCells #[.int .u8 0] 32) 5)).heap[w.heap.size]? = some (.cells (u32s l) 64 (0, 0)) := by
    rw [Below.heap_alloc _ _ _ (by simp)]
    exact heap_new _ _
  go_enter Tryd.func48, Tryd.ntmps48
  go_wp2_with (refine wpList_load_row rfl 64 (.tmp 1) rfl w.heap.size rfl 64 _ (0, 0) _ hheap Tryd.underlying64 rfl hst ?_)
  have hown1 : ((w.alloc (.cells (u32s l) 64)).alloc (.cells (madeCells #[.int .u8 0] 32) 5)).ownsRow w.heap.size 5 1 (.slice (some ⟨w.heap.size + 1, 0, none⟩) 0 32) 0 [] :=
    ⟨rfl, .inr ⟨w.heap.size + 1, 32, madeCells #[.int .u8 0] 32, rfl, by omega, by have h := heap_new (w.alloc (.cells (u32s l) 64)) (.cells (madeCells #[.int .u8 0] 32) 5); simpa using h, by omega, by unfold maxLen; omega, by simp [size_madeCells], rfl⟩⟩
  have hb1 : Below w.heap.size w ((w.alloc (.cells (u32s l) 64)).alloc (.cells (madeCells #[.int .u8 0] 32) 5)) := ((Below.refl _ _).alloc (Nat.le_refl _) _).alloc (by simp) _
  go_loopg [3, 8] 8 (fun gk v i wr => ∃ k : Nat, k + gk = 8 ∧ i = .int .i64 k ∧ wr.ownsRow w.heap.size 5 1 v (be4s (l.take k)).length (byteCells (be4s (l.take k))) ∧ Below w.heap.size w wr)
  case atStart => exact ⟨0, by omega, rfl, by simpa [be4s, byteCells] using hown1, hb1⟩
  case round =>
    clear hown1 hb1 hmk hheap
    obtain ⟨k, hk, rfl, hown, hbel⟩ := hrel
    have HK : Hid (k + gk = 8) := hk
    have hk' : k ≤ 8 := by omega
    clear hk
    by_cases hlt : k < 8
    · obtain ⟨x, hx⟩ : ∃ x, l[k]? = some x := ⟨_, List.getElem?_eq_getElem (by omega)⟩
      have hx' : x < 4294967296 := hl8 x (List.mem_of_getElem? hx)
      have hix := fun W => index_agg (P := Tryd.prog) W 64 62 8 (u32s l) .i64 .u32 k (.int .u32 (x : Int)) Tryd.underlying64 Tryd.underlying62 size1 hlt (by simp [u32s, u32L, hx])
      have hone : ∀ u ∈ [Value.int .u8 ((x : Int) / 16777216), .int .u8 ((x : Int) / 65536 % 256), .int .u8 ((x : Int) / 256 % 256), .int .u8 ((x : Int) % 256)], u.oneCell' = true := by
        intro u hu
        simp only [List.mem_cons, List.not_mem_nil, or_false] at hu
        rcases hu with rfl | rfl | rfl | rfl <;> rfl
      have hlen : (be4s (l.take k)).length ≤ 32 := by rw [be4s_length]; simp; omega
      have hml : (be4s (l.take k)).length + 4 ≤ maxLen := by unfold maxLen; omega
      go_wp2_with (at_builtin; refine wpList_append_own _ rfl _ _ 42 rfl w.heap.size 5 i0 (.int .u8 0) 1 1 Tryd.underlying42 hi hz0 hz1 hz2 rfl (by decide) _ _ _ rfl (hown.alloc _) ⟨wr.heap.size, 0, none⟩ 4 4 [.int .u8 ((x : Int) / 16777216), .int .u8 ((x : Int) / 65536 % 256), .int .u8 ((x : Int) / 256 % 256), .int .u8 ((x : Int) % 256)] rfl rfl (four_cells wr _ _ _ _) hone hml (by omega) (by have := hbel.size; simp; omega) ?_; intro v' w' hown' hgrow' _)
      have R := text_rel hx' hx hbel hown hown' _ hgrow'
      clear hown' hgrow' hown hix
      go_wp2
      go_roundg (gk - 1)
      case measure => have := HK.out; omega
      case rel => exact ⟨k + 1, by have := HK.out; omega, by go_num, R.1, R.2⟩
    · have e8 : k = 8 := by omega
      subst e8
      rw [List.take_of_length_le (by omega)] at hown
      have hcv := convert_own (P := Tryd.prog) wr 42 9 5 w.heap.size _ (be4s l) Tryd.underlying42 Tryd.underlying5 Tryd.underlying9 hown
      go_wp2
      go_ret
      rw [HW.out]
      exact ⟨rfl, hbel⟩

/-- a number as eight bytes, the highest first -/
def be8 (n : Nat) : List UInt8 := [UInt8.ofNat (n / 2 ^ 56), UInt8.ofNat (n / 2 ^ 48), UInt8.ofNat (n / 2 ^ 40), UInt8.ofNat (n / 2 ^ 32), UInt8.ofNat (n / 2 ^ 24), UInt8.ofNat (n / 2 ^ 16), UInt8.ofNat (n / 2 ^ 8), UInt8.ofNat (n / 2 ^ 0)]
theorem be8_take (n i : Nat) (h : i < 8) : (be8 n).take (8 - i) = (be8 n).take (8 - (i + 1)) ++ [UInt8.ofNat (n / 2 ^ (8 * i))] := by
  match i, h with
  | 0, _ => rfl
  | 1, _ => rfl
  | 2, _ => rfl
  | 3, _ => rfl
  | 4, _ => rfl
  | 5, _ => rfl
  | 6, _ => rfl
  | 7, _ => rfl

theorem number_rel {w wr w' : World} {B : Nat} {v v' : Value} {pre : List UInt8} {n i : Nat} (hi : i < 8) (hb : Below B w wr) (hB : B ≤ wr.heap.size) (ho : wr.ownsRow B 5 1 v (pre ++ (be8 n).take (8 - (i + 1))).length (byteCells (pre ++ (be8 n).take (8 - (i + 1)))))
    (ho' : w'.ownsRow B 5 1 v' ((pre ++ (be8 n).take (8 - (i + 1))).length + 1) (byteCells (pre ++ (be8 n).take (8 - (i + 1))) ++ [.int .u8 ((n : Int) / 2 ^ (8 * i) % 256)]))
    (cs : Array Value) (hg : (wr.alloc (.cells cs 5)).grownBy w' v.ownBlock) :
    w'.ownsRow B 5 1 v' (pre ++ (be8 n).take (8 - i)).length (byteCells (pre ++ (be8 n).take (8 - i))) ∧ Below B w w' := by
  have e : byteCells (pre ++ (be8 n).take (8 - i)) = byteCells (pre ++ (be8 n).take (8 - (i + 1))) ++ [.int .u8 ((n : Int) / 2 ^ (8 * i) % 256)] := by
    rw [be8_take n i hi, ← List.append_assoc, byteCells_append]
    congr 1
  have e2 : (pre ++ (be8 n).take (8 - i)).length = (pre ++ (be8 n).take (8 - (i + 1))).length + 1 := by
    rw [be8_take n i hi, ← List.append_assoc, List.length_append]
    rfl
  rw [e, e2]
  refine ⟨ho', ?_⟩
  have h1 : Below B w (wr.alloc (.cells cs 5)) := hb.alloc hB _
  exact h1.trans (grown_below hg (by simp; omega) (ho.alloc _))

set_option maxRecDepth 20000 in
set_option maxHeartbeats 1000000 in
theorem number_any (B : Nat) (v : Value) (pre : List UInt8) (n : Nat) (w : World) (hB : B ≤ w.heap.size) (ho : w.ownsRow B 5 1 v pre.length (byteCells pre)) (hp : pre.length ≤ 1048576) (_hn : n < 18446744073709551616) :
    Calls Tryd.prog 56 #[v, .int .u64 (n : Int)] w fun e w' => ∃ v', e = .returned v' ∧ w'.ownsRow B 5 1 v' (pre ++ be8 n).length (byteCells (pre ++ be8 n)) ∧ Below B w w' := by
  obtain ⟨i0, hi, hz0, hz1, hz2⟩ := info_parts info5
  go_enter Tryd.func56, Tryd.ntmps56
  go_wp2
  go_loopg [0, 5] 8 (fun gk u i wr => i = .int .i64 (8 * (gk : Int) - 8) ∧ gk ≤ 8 ∧ wr.ownsRow B 5 1 u (pre ++ (be8 n).take (8 - gk)).length (byteCells (pre ++ (be8 n).take (8 - gk))) ∧ Below B w wr)
  case atStart => exact ⟨rfl, by omega, by simpa using ho, Below.refl _ _⟩
  case round =>
    clear ho
    obtain ⟨rfl, hg8, hown, hbel⟩ := hrel
    cases gk with
    | zero =>
      have hneg : ¬ (0 : Int) ≤ 8 * ((0 : Nat) : Int) - 8 := by omega
      have HO : wr.ownsRow B 5 1 _ (pre ++ be8 n).length (byteCells (pre ++ be8 n)) := hown
      go_wp2
      go_ret
      refine ⟨_, rfl, ?_, hbel⟩
      rw [← List.length_append]
      exact HO
    | succ i =>
      have e1 : 8 * ((i + 1 : Nat) : Int) - 8 = 8 * (i : Int) := by omega
      rw [e1]
      have hpos : (0 : Int) ≤ 8 * (i : Int) := by omega
      have hle : 8 * (i : Int) ≤ 64 := by omega
      have htn : (8 * (i : Int)).toNat = 8 * i := by omega
      have hone : ∀ u ∈ [Value.int .u8 ((n : Int) / 2 ^ (8 * i) % 256)], u.oneCell' = true := by
        intro u hu
        simp only [List.mem_cons, List.not_mem_nil, or_false] at hu
        subst hu
        rfl
      have hlen : (pre ++ (be8 n).take (8 - (i + 1))).length ≤ 1048584 := by rw [List.length_append, List.length_take]; omega
      have hml : (pre ++ (be8 n).take (8 - (i + 1))).length + 1 ≤ maxLen := by unfold maxLen; omega
      go_wp2_with (at_builtin; refine wpList_append_own _ rfl _ _ 42 rfl B 5 i0 (.int .u8 0) 1 1 Tryd.underlying42 hi hz0 hz1 hz2 rfl (by decide) _ _ _ rfl (hown.alloc _) ⟨wr.heap.size, 0, none⟩ 1 1 [.int .u8 ((n : Int) / 2 ^ (8 * i) % 256)] rfl rfl (by intro j u h; exact cells_new wr #[.int .u8 ((n : Int) / 2 ^ (8 * i) % 256)] 5 j u (by simpa using h)) hone hml (by omega) (by have := hbel.size; simp; omega) ?_; intro v' w' hown' hgrow' _)
      have R := number_rel (by omega) hbel (by have := hbel.size; omega) hown hown' _ hgrow'
      clear hown' hgrow' hown
      go_roundg i
      case measure => omega
      case rel => exact ⟨rfl, by omega, R.1, R.2⟩

end Go.Proofs.YtjjabkimmgcejaaDoor
