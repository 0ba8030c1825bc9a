import Derived.Test.YtcfmcjdgdpignaaDoorShaQ
import Derived.Test.YtcfmcjdgdpignaaDoorLawsG
namespace Go.Proofs.YtcfmcjdgdpignaaDoor
open Go.RowKit Go.Lib Go.Deep

theorem wpList_append_rowF {P : Program} {ops : Array Oper} {rest : List Oper} {o : Oper} {a : Act} {w : World} {Q : Exit → Act → World → Prop} (hgd : o.guard = none) (s x : Operand) (t : TypeId)
    (ho : o.op = .call { callee := .builtin .append, args := #[s, x], argTypes := #[t, t] })
    (base : Nat) (e : TypeId) (i : TypeInfo) (z : Value) (bytes : Nat) (ht : P.underlying t = some (.slice e)) (hi : P.info? e = some i) (hz : i.zero = some z)
    (hsize : i.size = 1) (hby : i.bytes = bytes) (hzs : z.cells.size = 1) (v : Value) (xs : List Value) (hs : a.eval s = v) (hv : RowF w base e v xs)
    (ad : Addr) (m c : Nat) (news : List Value) (hx : a.eval x = .slice (some ad) m c) (hl : news.length = m) (hnews : ∀ j u, news[j]? = some u → w.cell? (ad.add j) = some u) (h1 : ∀ u ∈ news, u.oneCell' = true)
    (h63 : xs.length + m ≤ maxLen) (hbytes : (xs.length + m) * bytes ≤ 140737488355328) (hbase : base ≤ w.heap.size)
    (h : ∀ v' w', RowF w' base e v' (xs ++ news) → Below base w w' → wpList P ops Q rest (a.put o.dst v') w') : wpList P ops Q (o :: rest) a w := by
  obtain ⟨v', w', hr, h2, h3⟩ := run_append_rowF (P := P) w base t o.type e i z bytes ht hi hz hsize hby hzs v xs hv ad m c news hl hnews h1 h63 hbytes hbase
  refine wpList_plain hgd fun K hK => ?_
  unfold Oper.wp execOp
  simp only [ho, resolve, invoke, builtin, Sem.run_bind, Sem.run_pure, Result.andThen_ok, List.map_toArray, List.map_cons, List.map_nil, hs, hx, hr]
  exact hK _ _ (h v' w' h2 h3)

theorem step_append_rowF {P : Program} {ops : Array Oper} {o : Oper} {a : Act} {w : World} {K : Act → World → Prop} {Q : Exit → Act → World → Prop} {E : Prop} (hgd : o.guard = none) (s x : Operand) (t : TypeId)
    (ho : o.op = .call { callee := .builtin .append, args := #[s, x], argTypes := #[t, t] })
    (base : Nat) (e : TypeId) (i : TypeInfo) (z : Value) (bytes : Nat) (ht : P.underlying t = some (.slice e)) (hi : P.info? e = some i) (hz : i.zero = some z)
    (hsize : i.size = 1) (hby : i.bytes = bytes) (hzs : z.cells.size = 1) (v : Value) (xs : List Value) (hs : a.eval s = v) (hv : RowF w base e v xs)
    (ad : Addr) (m c : Nat) (news : List Value) (hx : a.eval x = .slice (some ad) m c) (hl : news.length = m) (hnews : ∀ j u, news[j]? = some u → w.cell? (ad.add j) = some u) (h1 : ∀ u ∈ news, u.oneCell' = true)
    (h63 : xs.length + m ≤ maxLen) (hbytes : (xs.length + m) * bytes ≤ 140737488355328) (hbase : base ≤ w.heap.size)
    (h : ∀ v' w', RowF w' base e v' (xs ++ news) → Below base w w' → K (a.put o.dst v') w') : if Region.wanted o (yielded ops a.tmps) = true then Oper.wp P o a w K Q else E := by
  have hw : Region.wanted o (yielded ops a.tmps) = true := by simp [Region.wanted, hgd]
  rw [if_pos hw]
  obtain ⟨v', w', hr, h2, h3⟩ := run_append_rowF (P := P) w base t o.type e i z bytes ht hi hz hsize hby hzs v xs hv ad m c news hl hnews h1 h63 hbytes hbase
  unfold Oper.wp execOp
  simp only [ho, resolve, invoke, builtin, Sem.run_bind, Sem.run_pure, Result.andThen_ok, List.map_toArray, List.map_cons, List.map_nil, hs, hx, hr]
  exact h v' w' h2 h3

theorem RowF.alloc {w : World} {base : Nat} {e : TypeId} {v : Value} {xs : List Value} (h : RowF w base e v xs) (o : Obj) : RowF (w.alloc o) base e v xs := by
  obtain ⟨g, cap, cur, fr, r1, r2, r3, r4, r5, r6, r7, r8⟩ := h
  have hlt := heap_lt r3
  refine ⟨g, cap, cur, fr, r1, r2, ?_, fun j hj => ?_, r5, r6, r7, r8⟩
  · rw [Below.heap_alloc _ _ _ hlt]
    exact r3
  · rw [World.frozen?_of_block (Below.heap_alloc w o g hlt)]
    exact r4 j hj

set_option maxHeartbeats 1000000 in
theorem numberF_any (B : Nat) (v : Value) (pre : List UInt8) (n : Nat) (w : World) (hB : B ≤ w.heap.size) (ho : RowF w B 5 v (byteCells pre)) (hp : pre.length ≤ 1048576) :
    Calls Tryd.prog 19 #[v, .int .u64 (n : Int)] w fun e w' => ∃ v', e = .returned v' ∧ RowF w' B 5 v' (byteCells (pre ++ be8 n)) ∧ Below B w w' := by
  obtain ⟨i0, hi, hz0, hz1, hz2⟩ := info_parts info5
  go_enter Tryd.func19, Tryd.ntmps19
  go_wp2
  go_loopg [0, 5] 8 (fun gk u i wr => i = .int .i64 (8 * (gk : Int) - 8) ∧ gk ≤ 8 ∧ RowF wr B 5 u (byteCells (pre ++ (be8 n).take (8 - gk))) ∧ Below B w wr)
  case atStart => exact ⟨rfl, by omega, by simpa using ho, Below.refl _ _⟩
  case round =>
    clear ho
    obtain ⟨rfl, hg8, hown, hbel⟩ := hrel
    cases gk with
    | zero =>
      have hneg : ¬ (0 : Int) ≤ 8 * ((0 : Nat) : Int) - 8 := by omega
      have HO : RowF wr B 5 _ (byteCells (pre ++ be8 n)) := hown
      go_wp2
      go_ret
      exact ⟨_, rfl, HO, hbel⟩
    | succ i =>
      have e1 : 8 * ((i + 1 : Nat) : Int) - 8 = 8 * (i : Int) := by omega
      rw [e1]
      have hpos : (0 : Int) ≤ 8 * (i : Int) := by omega
      have hle : 8 * (i : Int) ≤ 64 := by omega
      have htn : (8 * (i : Int)).toNat = 8 * i := by omega
      have hone : ∀ u ∈ [Value.int .u8 ((n : Int) / 2 ^ (8 * i) % 256)], u.oneCell' = true := by
        intro u hu
        simp only [List.mem_cons, List.not_mem_nil, or_false] at hu
        subst hu
        rfl
      have hlen : (byteCells (pre ++ (be8 n).take (8 - (i + 1)))).length ≤ 1048584 := by rw [byteCells_length, List.length_append, List.length_take]; omega
      have hml : (byteCells (pre ++ (be8 n).take (8 - (i + 1)))).length + 1 ≤ maxLen := by unfold maxLen; omega
      have hBr : B ≤ wr.heap.size := by have := hbel.size; omega
      have HE : Hid (byteCells (pre ++ (be8 n).take (8 - i)) = byteCells (pre ++ (be8 n).take (8 - (i + 1))) ++ [.int .u8 ((n : Int) / 2 ^ (8 * i) % 256)]) := by
        show _ = _
        rw [be8_take n i (by omega), ← List.append_assoc, byteCells_append]
        congr 1
      go_wp2_with (at_builtin; refine wpList_append_rowF rfl _ _ 57 rfl B 5 i0 (.int .u8 0) 1 Tryd.underlying57 hi hz0 hz1 hz2 rfl _ _ rfl (hown.alloc _) ⟨wr.heap.size, 0, none⟩ 1 1 [.int .u8 ((n : Int) / 2 ^ (8 * i) % 256)] rfl rfl (by intro j u h; exact cells_new wr #[.int .u8 ((n : Int) / 2 ^ (8 * i) % 256)] 5 j u (by simpa using h)) hone hml (by omega) (by simp; omega) ?_; intro v' w' hown' hbel')
      have R : RowF w' B 5 v' (byteCells (pre ++ (be8 n).take (8 - i))) := by rw [HE.out]; exact hown'
      have hb' : Below B w w' := (hbel.alloc hBr _).trans hbel'
      clear hown' hown hbel'
      go_roundg i
      case measure => omega
      case rel => exact ⟨rfl, by omega, R, hb'⟩

end Go.Proofs.YtcfmcjdgdpignaaDoor
