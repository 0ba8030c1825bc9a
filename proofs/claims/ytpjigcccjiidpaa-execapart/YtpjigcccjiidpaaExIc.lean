import Derived.Test.YtpjigcccjiidpaaExIb
import Derived.Maps.AppendAt
namespace Go.Proofs.Ytpjigcccjiidpaa.Ex
open Go.RowKit Go.Lib Go.Deep

/-- an append to an own row: where the row lies behind it -/
theorem wpList_app_at {w : World} {ops : Array Oper} {rest : List Oper} {o : Oper} {a : Act} {Q : Exit → Act → World → Prop} (hgd : o.guard = none) (s x : Operand) (t e : TypeId)
    (ho : o.op = .call { callee := .builtin .append, args := #[s, x], argTypes := #[t, t] }) (z : Value) (sz by_ : Nat) (ht : Try.prog.underlying t = some (.slice e)) (hinf : (Try.prog.info? e).map (fun i => (i.zero, i.size, i.bytes)) = some (some z, sz, by_)) (hzs : z.cells.size = sz) (hsz : 0 < sz)
    (B : Nat) (v xv : Value) (nA nL : Nat) (A L : List Value) (hs : a.eval s = v) (hown : w.ownsRow B e sz v nA A) (hx : a.eval x = xv) (hL : See w sz xv nL L) (hnL : 0 < nL) (h63 : nA + nL ≤ maxLen) (hb : (nA + nL) * by_ ≤ 140737488355328) (hB : B ≤ w.heap.size)
    (h : ∀ v' w', w'.ownsRow B e sz v' (nA + nL) (A ++ L) → w.grownBy w' v.ownBlock → (v'.ownBlock = v.ownBlock ∨ v'.ownBlock = some w.heap.size) → wpList Try.prog ops Q rest (a.put o.dst v') w') : wpList Try.prog ops Q (o :: rest) a w := by
  obtain ⟨i0, hi, hz0, hz1, hz2⟩ := info_parts hinf
  obtain ⟨hlen, hone, ad, c, rfl, hc, hnil, hcell⟩ := hL
  obtain ⟨b, off, rfl, _, hcc⟩ := hcell hnL
  refine wpList_append_own_at w hgd s x t ho B e i0 z sz by_ ht hi hz0 hz1 hz2 hzs hsz v nA A hs hown ⟨b, off, none⟩ nL c L hx hlen
    (fun j u hu => ?_) hone h63 hb hB (fun v' w' ho' hg _ hat => h v' w' ho' hg hat)
  rw [Addr.add_lit]
  exact hcc j u hu
/-- three rows of effects, none in another's block -/
structure Thr (B : Nat) (v1 v2 v3 : Value) (n1 n2 n3 : Nat) (X1 X2 X3 : List Value) (W : World) : Prop where
  o1 : W.ownsRow B 26 7 v1 n1 X1
  o2 : W.ownsRow B 26 7 v2 n2 X2
  o3 : W.ownsRow B 26 7 v3 n3 X3
  d12 : ∀ g, v1.ownBlock = some g → v2.ownBlock ≠ some g
  d13 : ∀ g, v1.ownBlock = some g → v3.ownBlock ≠ some g
  d23 : ∀ g, v2.ownBlock = some g → v3.ownBlock ≠ some g
theorem Thr.below {B : Nat} {v1 v2 v3 : Value} {n1 n2 n3 : Nat} {X1 X2 X3 : List Value} {W W' : World} (h : Thr B v1 v2 v3 n1 n2 n3 X1 X2 X3 W) (hb : Below W.heap.size W W') : Thr B v1 v2 v3 n1 n2 n3 X1 X2 X3 W' :=
  ⟨owns_below h.o1 hb, owns_below h.o2 hb, owns_below h.o3 hb, h.d12, h.d13, h.d23⟩
theorem apart_l {W : World} {B : Nat} {v v' u : Value} {n : Nat} {X : List Value} (hd : ∀ g, u.ownBlock = some g → v.ownBlock ≠ some g) (hu : W.ownsRow B 26 7 u n X) (hat : v'.ownBlock = v.ownBlock ∨ v'.ownBlock = some W.heap.size) : ∀ g, u.ownBlock = some g → v'.ownBlock ≠ some g := fun g hg => by
  rcases hat with e | e
  · rw [e]; exact hd g hg
  · rw [e]
    intro e2
    injection e2 with e2
    have := (hu.lt g hg).2
    omega
theorem apart_r {W : World} {B : Nat} {v v' u : Value} {n : Nat} {X : List Value} (hd : ∀ g, v.ownBlock = some g → u.ownBlock ≠ some g) (hu : W.ownsRow B 26 7 u n X) (hat : v'.ownBlock = v.ownBlock ∨ v'.ownBlock = some W.heap.size) : ∀ g, v'.ownBlock = some g → u.ownBlock ≠ some g := fun g hg => by
  rcases hat with e | e
  · rw [e] at hg; exact hd g hg
  · rw [e] at hg
    injection hg with e2
    intro hx
    have := (hu.lt g hx).2
    omega
theorem keep_l {W W' : World} {B : Nat} {v u : Value} {n : Nat} {X : List Value} (hd : ∀ g, u.ownBlock = some g → v.ownBlock ≠ some g) (hu : W.ownsRow B 26 7 u n X) (hg : W.grownBy W' v.ownBlock) : W'.ownsRow B 26 7 u n X :=
  owns_keep hu fun g h => hg.block g (hu.lt g h).2 fun e => hd g h e.symm
theorem keep_r {W W' : World} {B : Nat} {v u : Value} {n : Nat} {X : List Value} (hd : ∀ g, v.ownBlock = some g → u.ownBlock ≠ some g) (hu : W.ownsRow B 26 7 u n X) (hg : W.grownBy W' v.ownBlock) : W'.ownsRow B 26 7 u n X :=
  owns_keep hu fun g h => hg.block g (hu.lt g h).2 fun e => hd g e.symm h
theorem Thr.app1 {B : Nat} {v1 v2 v3 v' : Value} {n1 n2 n3 n' : Nat} {X1 X2 X3 X' : List Value} {W W' : World} (h : Thr B v1 v2 v3 n1 n2 n3 X1 X2 X3 W) (ho : W'.ownsRow B 26 7 v' n' X') (hg : W.grownBy W' v1.ownBlock) (hat : v'.ownBlock = v1.ownBlock ∨ v'.ownBlock = some W.heap.size) : Thr B v' v2 v3 n' n2 n3 X' X2 X3 W' :=
  ⟨ho, keep_r h.d12 h.o2 hg, keep_r h.d13 h.o3 hg, apart_r h.d12 h.o2 hat, apart_r h.d13 h.o3 hat, h.d23⟩
theorem Thr.app2 {B : Nat} {v1 v2 v3 v' : Value} {n1 n2 n3 n' : Nat} {X1 X2 X3 X' : List Value} {W W' : World} (h : Thr B v1 v2 v3 n1 n2 n3 X1 X2 X3 W) (ho : W'.ownsRow B 26 7 v' n' X') (hg : W.grownBy W' v2.ownBlock) (hat : v'.ownBlock = v2.ownBlock ∨ v'.ownBlock = some W.heap.size) : Thr B v1 v' v3 n1 n' n3 X1 X' X3 W' :=
  ⟨keep_l h.d12 h.o1 hg, ho, keep_r h.d23 h.o3 hg, apart_l h.d12 h.o1 hat, h.d13, apart_r h.d23 h.o3 hat⟩
theorem Thr.app3 {B : Nat} {v1 v2 v3 v' : Value} {n1 n2 n3 n' : Nat} {X1 X2 X3 X' : List Value} {W W' : World} (h : Thr B v1 v2 v3 n1 n2 n3 X1 X2 X3 W) (ho : W'.ownsRow B 26 7 v' n' X') (hg : W.grownBy W' v3.ownBlock) (hat : v'.ownBlock = v3.ownBlock ∨ v'.ownBlock = some W.heap.size) : Thr B v1 v2 v' n1 n2 n' X1 X2 X' W' :=
  ⟨keep_l h.d13 h.o1 hg, keep_l h.d23 h.o2 hg, ho, h.d12, apart_l h.d13 h.o1 hat, apart_l h.d23 h.o2 hat⟩
/-- the effect, boxed for an append -/
theorem thr_new {B : Nat} {v1 v2 v3 : Value} {n1 n2 n3 : Nat} {X1 X2 X3 : List Value} {W : World} (h : Thr B v1 v2 v3 n1 n2 n3 X1 X2 X3 W) (hB : B ≤ W.heap.size) (e : Ef) : ∃ W8, W.alloc (.cells #[.int .i64 e.kd, .int .i64 e.fl, .int .i64 e.gn, .int .i64 e.at_, .int .i64 e.n, .string (str e.da), .int .i64 e.sz] 26) = W8 ∧ Hid (Thr B v1 v2 v3 n1 n2 n3 X1 X2 X3 W8) ∧ Hid (See W8 7 (.slice (some ⟨W.heap.size, 0, none⟩) 1 1) 1 (efC e)) ∧ B ≤ W8.heap.size ∧ Hid (Below W.heap.size W W8) := by
  obtain ⟨W8, hW8, hb8, k8⟩ := one_new W #[.int .i64 e.kd, .int .i64 e.fl, .int .i64 e.gn, .int .i64 e.at_, .int .i64 e.n, .string (str e.da), .int .i64 e.sz] 26
  exact ⟨W8, hW8, h.below hb8, see_blk k8 rfl (efC_one e), Nat.le_trans hB hb8.size, hb8⟩
end Go.Proofs.Ytpjigcccjiidpaa.Ex
