import Derived.Test.YthmjjpaengackaaPoK
namespace Go.Proofs.Ythmjjpaengackaa.Po
open Go.RowKit Go.Lib Go.Deep

theorem wf_ow {n : Int} (h : -1 ≤ n ∧ n ≤ 65600) : (Lit.int .i64 n).wf = true := by
  simp [Lit.wf, IntKind.min, IntKind.max, IntKind.signed, IntKind.bits]
  omega
/-- four cells of a row written over -/
def put4 (W : World) (g o : Nat) (x : Ob) : World := (((W.setCell ⟨g, o, none⟩ (.string x.nm)).setCell ⟨g, o + 1, none⟩ (.string x.tg)).setCell ⟨g, o + 2, none⟩ (.int .i64 x.bk)).setCell ⟨g, o + 3, none⟩ (.int .i64 x.ow)
theorem rows_put {w : World} {B g cap N : Nat} {rs : List (Ob × Bool)} (h : w.ownsRow B 76 5 (.slice (some ⟨g, 0, none⟩) N cap) N (rwsC rs)) {i : Nat} {was : Ob} {b : Bool} (hi : rs[i]? = some (was, b)) (x : Ob) :
    (put4 w g (i * 5) x).ownsRow B 76 5 (.slice (some ⟨g, 0, none⟩) N cap) N (rwsC (rs.set i (x, b))) ∧ w.grownBy (put4 w g (i * 5) x) (some g) := by
  have hl := some_lt hi
  have h1 := h.stored (i * 5) (.string x.nm)
  rw [show rwsC rs = rs.flatMap rwC from rfl, show i * 5 = i * 5 + 0 by omega, flat_set rwC 5 rwC_len rs i _ (⟨x.nm, was.tg, was.bk, was.ow⟩, b) hi 0 (.string x.nm) (by omega) rfl] at h1
  have h2 := h1.1.stored (i * 5 + 1) (.string x.tg)
  rw [flat_set rwC 5 rwC_len _ i (⟨x.nm, was.tg, was.bk, was.ow⟩, b) (⟨x.nm, x.tg, was.bk, was.ow⟩, b) (by rw [List.getElem?_set_self hl]) 1 (.string x.tg) (by omega) rfl, List.set_set] at h2
  have h3 := h2.1.stored (i * 5 + 2) (.int .i64 x.bk)
  rw [flat_set rwC 5 rwC_len _ i (⟨x.nm, x.tg, was.bk, was.ow⟩, b) (⟨x.nm, x.tg, x.bk, was.ow⟩, b) (by rw [List.getElem?_set_self hl]) 2 (.int .i64 x.bk) (by omega) rfl, List.set_set] at h3
  have h4 := h3.1.stored (i * 5 + 3) (.int .i64 x.ow)
  rw [flat_set rwC 5 rwC_len _ i (⟨x.nm, x.tg, x.bk, was.ow⟩, b) (x, b) (by rw [List.getElem?_set_self hl]) 3 (.int .i64 x.ow) (by omega) rfl, List.set_set] at h4
  exact ⟨h4.1, ((h1.2.trans h2.2).trans h3.2).trans h4.2⟩
/-- a state whose row, and tables, have turned -/
theorem Inn.lay {w w3 w4 : World} {q g cap : Nat} {mv : Value} {oa na : Nat} {room : List Nat} {h nn : Nat} {S : Ps} (hI : Inn w q (.slice (some ⟨g, 0, none⟩) S.R.length cap) mv oa na room h nn S) {i : Nat} {was next : Ob} (hi : S.R[i]? = some was) {V U : World} (hV : Below w.heap.size w V)
    {Do Dn : DataW Unit} {fo : Int → Option Nat} {fn : List UInt8 → Option Nat} (h3 : w3.ownsMap Try.prog 3 intR oa (nn + 1) Do) (t3 : Tab litI Do fo) (i3 : Is Ob.ow (-1) (S.R.set i next) fo) (g3 : V.grownBy w3 (some oa))
    (h4 : w4.ownsMap Try.prog 9 intR na (nn + 1) Dn) (t4 : Tab litS Dn fn) (i4 : Is kyN [] (S.R.set i next) fn) (g4 : w3.grownBy w4 (some na)) (hU : U = put4 w4 g (i * 5) next) : Turn (fp q (.slice (some ⟨g, 0, none⟩) S.R.length cap) mv oa na) w U q (nn + 1) (putP S i next) := by
  obtain ⟨hgq, hgo, hgn, hgm⟩ := hI.qr (g := g) rfl
  obtain ⟨hoq, hnq, hon⟩ := hI.qo
  have hIV := hI.below hV
  have same4 : ∀ k, k ∈ fp q (.slice (some ⟨g, 0, none⟩) S.R.length cap) mv oa na → k ≠ oa → k ≠ na → w4.heap[k]? = V.heap[k]? := fun k hk h1 h2 => by
    have hlt := hIV.lt hk
    exact (g4.block k (Nat.lt_of_lt_of_le hlt g3.size) (fun e => h2 (by injection e))).trans (g3.block k hlt (fun e => h1 (by injection e)))
  have hr4 : w4.ownsRow 0 76 5 (.slice (some ⟨g, 0, none⟩) S.R.length cap) S.R.length (rwsC (rowsL S)) := owns_keep hIV.hr fun k hk => by
    simp [Value.ownBlock] at hk
    subst hk
    exact same4 _ (mem_fp.2 (.inr (.inr (.inr (.inl rfl))))) hgo hgn
  have hg : (rowsL S)[i]? = some (was, decide (i ∈ S.Q)) := by rw [rowsL_get, hi]; rfl
  obtain ⟨hp, gp⟩ := rows_put hr4 hg next
  rw [← rowsL_put] at hp
  subst hU
  have same : ∀ k, k < w4.heap.size → k ≠ g → (put4 w4 g (i * 5) next).heap[k]? = w4.heap[k]? := fun k hk hne => gp.block k hk (fun e => hne (by injection e))
  have lt4 : ∀ k, k ∈ fp q (.slice (some ⟨g, 0, none⟩) S.R.length cap) mv oa na → k < w4.heap.size := fun k hk => Nat.lt_of_lt_of_le (hIV.lt hk) (Nat.le_trans g3.size g4.size)
  refine ⟨?_, _, ⟨_, mv, oa, na, room, h, rfl, ?_, ?_, ?_, ⟨Do, fo, ?_, t3, i3⟩, ⟨Dn, fn, ?_, t4, i4⟩, hI.ne, hI.rg, ?_, ?_⟩, fun k hk => .inl hk⟩
  · refine only_grown (only_grown (only_grown (only_below (Only.refl _ _) hV) g3 fun k e => .inl ?_) g4 fun k e => .inl ?_) gp fun k e => .inl ?_
    · injection e with e; subst e; exact mem_fp.2 (.inr (.inl rfl))
    · injection e with e; subst e; exact mem_fp.2 (.inr (.inr (.inl rfl)))
    · injection e with e; subst e; exact mem_fp.2 (.inr (.inr (.inr (.inl rfl))))
  · have hm : q ∈ fp q (.slice (some ⟨g, 0, none⟩) S.R.length cap) mv oa na := mem_fp.2 (.inl rfl)
    rw [same q (lt4 q hm) (fun e => hgq e.symm), same4 q hm (fun e => hoq e.symm) (fun e => hnq e.symm)]
    exact hIV.hq
  · rw [len_put]; exact hp
  · refine owns_keep hIV.hm fun k hk => ?_
    have hm : k ∈ fp q (.slice (some ⟨g, 0, none⟩) S.R.length cap) mv oa na := mem_fp.2 (.inr (.inr (.inr (.inr hk))))
    obtain ⟨m1, m2, m3, m4⟩ := hI.qm hk
    rw [same k (lt4 k hm) (fun e => m4 (by rw [e]; rfl)), same4 k hm m2 m3]
  · refine map_keep h3 ?_
    have hm : oa ∈ fp q (.slice (some ⟨g, 0, none⟩) S.R.length cap) mv oa na := mem_fp.2 (.inr (.inl rfl))
    rw [same oa (lt4 oa hm) (fun e => hgo e.symm), g4.block oa h3.lt (fun e => hon (by injection e))]
  · refine map_keep h4 ?_
    have hm : na ∈ fp q (.slice (some ⟨g, 0, none⟩) S.R.length cap) mv oa na := mem_fp.2 (.inr (.inr (.inl rfl)))
    rw [same na (lt4 na hm) (fun e => hgn e.symm)]
  · rw [len_put]; exact hI.ml
  · rw [len_put]; exact hI.lim
end Go.Proofs.Ythmjjpaengackaa.Po
