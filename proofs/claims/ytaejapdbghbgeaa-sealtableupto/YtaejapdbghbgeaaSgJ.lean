import Derived.Test.YtaejapdbghbgeaaSgI
import Derived.Test.YtaejapdbghbgeaaSgH
namespace Go.Proofs.Ytaejapdbghbgeaa.Se
open Go.RowKit Go.Lib Go.Deep

/-- two sealers have nothing in common -/
def Sep (pb : Nat) (F : List Nat) (qb : Nat) (G : List Nat) : Prop := ∀ x, x ∈ pb :: F → x ∉ qb :: G
theorem Sep.symm {pb qb : Nat} {F G : List Nat} (h : Sep pb F qb G) : Sep qb G pb F := fun x hx hy => h x hy hx
/-- a seal of the one leaves the other alone -/
theorem Sep.seal {w w' : World} {pb qb : Nat} {F F' G : List Nat} {R : List Row} (h : Sep pb F qb G) (hI : Idl w qb G R) (ho : Only F w w') (hF : ∀ x, x ∈ F' → x ∈ F ∨ w.heap.size ≤ x) : Idl w' qb G R ∧ Sep pb F' qb G := by
  refine ⟨hI.keep (fun k hk => ho.block k (hI.lt k hk) (fun hm => h k (List.mem_cons_of_mem _ hm) hk)), fun x hx hy => ?_⟩
  rcases List.mem_cons.1 hx with rfl | hx
  · exact h _ (List.mem_cons_self) hy
  · rcases hF x hx with h1 | h1
    · exact h x (List.mem_cons_of_mem _ h1) hy
    · have := hI.lt x hy
      omega
/-- the rows of boxes may all be -/
theorem newE_rows (bs : List Box) (hn : bs.length ≤ 4294967296) : ∀ k, k ≤ bs.length → newE ((rowsOf bs).take (bs.length - k)) ((rowsOf bs).drop (bs.length - k)) = 0
  | 0, _ => by
    rw [Nat.sub_zero, List.drop_of_length_le (by rw [rowsOf_length]; exact Nat.le_refl _)]
    rfl
  | k + 1, hk => by
    have hlt : bs.length - (k + 1) < bs.length := by omega
    have hb := List.getElem?_eq_getElem hlt
    have hr := rowsOf_at hb
    have ih := newE_rows bs hn k (by omega)
    have hs : sealE ((rowsOf bs).take (bs.length - (k + 1))) (rowOf (bs.length - (k + 1)) bs[bs.length - (k + 1)]).kind (rowOf (bs.length - (k + 1)) bs[bs.length - (k + 1)]).name (rowOf (bs.length - (k + 1)) bs[bs.length - (k + 1)]).text (rowOf (bs.length - (k + 1)) bs[bs.length - (k + 1)]).blob = 0 := by
      unfold sealE
      rw [if_neg (by rw [row_ask]; simp), if_neg (by rw [rows_fresh hn hb]; simp)]
    rw [newE_at hr, if_neg (by rw [hs]; simp), ← take_snoc hr, show bs.length - (k + 1) + 1 = bs.length - k by omega]
    exact ih
theorem newE_all (bs : List Box) (hn : bs.length ≤ 4294967296) : newE [] (rowsOf bs) = 0 := by
  have h := newE_rows bs hn bs.length (Nat.le_refl _)
  rw [Nat.sub_self] at h
  exact h
end Go.Proofs.Ytaejapdbghbgeaa.Se
