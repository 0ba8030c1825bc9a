import Derived.Test.YtpoipgmphhfgeabDoorPaLn
namespace Go.Proofs.YtpoipgmphhfgeabDoor.Pa
open Go.RowKit Go.Lib

/-- one text more behind a list: the list itself stays -/
theorem wpList_lng {ops : Array Oper} {rest : List Oper} {o : Oper} {a : Act} {Q : Exit → Act → World → Prop} (hgd : o.guard = none) (s' x' : Operand)
    (ho : o.op = .call { callee := .builtin .append, args := #[s', x'], argTypes := #[22, 22] })
    (W u : World) (B : Nat) (v x : Value) (M X : List ByteArray) (y : ByteArray) (hL : Lng W B v M u x X) (hs : a.eval s' = x) (hx : a.eval x' = .slice (some ⟨u.heap.size, 0, none⟩) 1 1)
    (hp : M <+: X) (hB : B ≤ W.heap.size) (hn : (X.length + 1) * 16 ≤ 140737488355328)
    (h : ∀ x2 w2, Lng W B v M w2 x2 (X ++ [y]) → wpList Tryd.prog ops Q rest (a.put o.dst x2) w2) : wpList Tryd.prog ops Q (o :: rest) a (u.alloc (.cells #[.string y] 9)) := by
  obtain ⟨i0, hi, hz0, hz1, hz2⟩ := info_9
  have hA := hL.alloc (.cells #[.string y] 9)
  refine wpList_append_keep _ hgd s' x' 22 ho B 9 i0 (.string { data := #[] }) 1 16 Tryd.underlying22 hi hz0 hz1 hz2 rfl (by decide) x X.length (sc X) hs hA.new ⟨u.heap.size, 0, none⟩ 1 1 [.string y] hx rfl
    (fun j q hq => cells_new u #[.string y] 9 j q (by simpa using hq)) (fun q hq => by simp at hq; subst hq; rfl) (Nat.le_refl _) (by unfold maxLen; omega) hn (Nat.le_trans hB hA.frame.size) (fun x2 w2 ho2 hg hk => h x2 w2 ?_)
  refine hA.step hp ?_ hg hk
  unfold Own
  rw [List.length_append, sc_append]
  exact ho2
end Go.Proofs.YtpoipgmphhfgeabDoor.Pa
