import Derived.Test.YtnfddiabhpandaaGreatDoorTrKh
import Derived.Test.YtnfddiabhpandaaGreatDoorTrKi
import Derived.Test.YtnfddiabhpandaaGreatDoorKpM
namespace Go.Proofs.YtnfddiabhpandaaGreatDoor.Tr
open Go.RowKit Go.Lib Go.Deep Go.Shelf

/-- where fill is while it lays the nodes into their places -/
structure Hg (w X W : World) (q : Nat) (dv fv : Value) (ld lf : Nat) (ms : Nat → Nat) (D0 : List (Option (Nat × ByteArray))) (nn : Nat) (U : Ts) : Prop where
  inn : Inn W q dv fv ld lf ms nn U
  only : Only (fp q dv fv D0 ms) X W
  box : W.heap[w.heap.size]? = some (.cells #[.pointer (some ⟨q, 0, none⟩)] 76 (0, 0))
  res : W.heap[w.heap.size + 1]? = some (.cells #[.bool false] 4 (0, 0))
theorem Inn.up {w : World} {q : Nat} {dv fv : Value} {ld lf : Nat} {ms : Nat → Nat} {nn N : Nat} {T : Ts} (hI : Inn w q dv fv ld lf ms nn T) (hN : nn ≤ N) : Inn w q dv fv ld lf ms N T :=
  ⟨hI.hq, hI.hd, hI.hf, fun i d hd => by
    obtain ⟨Dt, h2, h3⟩ := hI.hm i d hd
    exact ⟨Dt, h2.mono hN, h3⟩, hI.hi, hI.hld, hI.hlf, hI.ldl, hI.lfl, hI.dl, hI.fl, hI.lim⟩
theorem Hg.up {w X W : World} {q : Nat} {dv fv : Value} {ld lf : Nat} {ms : Nat → Nat} {D0 : List (Option (Nat × ByteArray))} {nn N : Nat} {U : Ts} (h : Hg w X W q dv fv ld lf ms D0 nn U) (hN : nn ≤ N) : Hg w X W q dv fv ld lf ms D0 N U := ⟨h.inn.up hN, h.only, h.box, h.res⟩
theorem Hg.step {w X W W' : World} {q : Nat} {dv fv : Value} {ld lf : Nat} {ms : Nat → Nat} {D0 : List (Option (Nat × ByteArray))} {nn N : Nat} {U U' : Ts} (h : Hg w X W q dv fv ld lf ms D0 nn U) (hUD : U.D = D0) {p : Nat} {dd : Nat × ByteArray} (hp : U.D[p]? = some (some dd)) (hI : Inn W' q dv fv ld lf ms N U') (hg : W.grownBy W' (some (ms p))) (hlt : ∀ k, k ∈ fp q dv fv D0 ms → k < X.heap.size) :
    Hg w X W' q dv fv ld lf ms D0 N U' ∧ KeepsFrom X.heap.size W W' ∧ ∀ g, dv.ownBlock = some g ∨ fv.ownBlock = some g → Kg q g W W' := by
  have hmem : ms p ∈ fp q dv fv D0 ms := mem_fp.2 (.inr (.inr (.inr ⟨p, dd, by rw [← hUD]; exact hp, rfl⟩)))
  obtain ⟨b1, b2, b3, b4⟩ := h.inn.blocks
  obtain ⟨c1, c2, c3⟩ := b4 p dd hp
  obtain ⟨Dt, hm, -⟩ := h.inn.hm p dd hp
  obtain ⟨es, cl, hmap⟩ := map_block hm
  have hne : ∀ {k : Nat} {A : Array Value} {t : TypeId}, W.heap[k]? = some (.cells A t (0, 0)) → W'.heap[k]? = W.heap[k]? := fun {k A t} hk => hg.block k (heap_lt hk) (fun e => by
    injection e with e
    rw [e, hmap] at hk
    cases hk)
  refine ⟨⟨hI, ⟨hg.os.trans h.only.os, hg.tape.trans h.only.tape, hg.output.trans h.only.output, Nat.le_trans h.only.size hg.size, fun k hk hkF => (hg.block k (Nat.lt_of_lt_of_le hk h.only.size) (fun e => by injection e with e; subst e; exact hkF hmem)).trans (h.only.block k hk hkF)⟩, (hne h.box).trans h.box, (hne h.res).trans h.res⟩, KeepsFrom.of_grownBy hg (fun j e => by injection e with e; rw [← e]; exact hlt _ hmem), fun g hgo => ?_⟩
  refine ⟨hg.size, hne h.inn.hq, ?_⟩
  rcases hgo with hgo | hgo
  · obtain ⟨c, hc⟩ := owns_block h.inn.hd hgo
    exact hne hc
  · obtain ⟨c, hc⟩ := owns_block h.inn.hf hgo
    exact hne hc
theorem Hg.grow {w X W W' : World} {q : Nat} {dv fv : Value} {ld lf : Nat} {ms : Nat → Nat} {D0 : List (Option (Nat × ByteArray))} {nn : Nat} {U : Ts} {row : Option Nat} (h : Hg w X W q dv fv ld lf ms D0 nn U) (hUD : U.D = D0) (hlt : ∀ k, k ∈ fp q dv fv D0 ms → k < X.heap.size) (hx : w.heap.size + 1 < X.heap.size) (hg : W.grownBy W' row) (hr : ∀ r, row = some r → X.heap.size ≤ r) : Hg w X W' q dv fv ld lf ms D0 nn U := by
  have hk : ∀ k, k < X.heap.size → W'.heap[k]? = W.heap[k]? := fun k hk => hg.block k (Nat.lt_of_lt_of_le hk h.only.size) (fun e => by have := hr k e.symm; omega)
  refine ⟨h.inn.keep fun k hkf => hk k (hlt k (by rw [← hUD]; exact hkf)), ⟨hg.os.trans h.only.os, hg.tape.trans h.only.tape, hg.output.trans h.only.output, Nat.le_trans h.only.size hg.size, fun k hk1 hkF => (hk k hk1).trans (h.only.block k hk1 hkF)⟩, (hk _ (by omega)).trans h.box, (hk _ hx).trans h.res⟩
theorem Hg.own {w X : World} {q : Nat} {dv fv : Value} {ld lf : Nat} {ms : Nat → Nat} {D0 : List (Option (Nat × ByteArray))} {β : Type} (nn : β → Nat) (U : β → Ts) (hUD : ∀ b, (U b).D = D0) (hlt : ∀ k, k ∈ fp q dv fv D0 ms → k < X.heap.size) (hx : w.heap.size + 1 < X.heap.size) : OwnFrom X.heap.size (fun b W => Hg w X W q dv fv ld lf ms D0 (nn b) (U b)) :=
  fun b _ _ _ h hg hr => h.grow (hUD b) hlt hx hg fun r e => (hr r e).1
/-- settle of a node whose parent is there -/
theorem settle_hg (w X W : World) (q : Nat) (dv fv : Value) (ld lf : Nat) (ms : Nat → Nat) (D0 : List (Option (Nat × ByteArray))) (nn : Nat) (U : Ts) (h : Hg w X W q dv fv ld lf ms D0 nn U) (kd no p : Nat) (n : ByteArray) (h0 : tk U 0) (hn : n.size ≤ maxLen) (hnn : nn < maxLen) (hr : rootd U 16 p = true) (hkd : ∀ v, U.M p (ky n) = some v → v.1 ≠ 0) (V : World) (hV : Below W.heap.size W V) :
    Calls Tryz.prog 78 #[.pointer (some ⟨q, 0, none⟩), .agg #[.int .i64 (kd : Int), .int .i64 (no : Int)], .agg #[.int .i64 (p : Int), .string n]] V fun e w' => (e = .returned (.bool true) ∧ U.M p (ky n) = none ∧ Inn w' q dv fv ld lf ms (nn + 1) (hangT U p n (some (kd, no))) ∧ V.grownBy w' (some (ms p))) ∨ (e = .returned (.bool false) ∧ U.M p (ky n) ≠ none ∧ Below V.heap.size V w') := by
  have hI := h.inn.below hV
  cases hm : U.M p (ky n) with
  | none =>
    refine (settleI_any V q dv fv ld lf ms nn U hI kd no p n h0 hn hnn hr hm).mono ?_
    rintro e w' ⟨h1, h2, h3⟩
    exact .inl ⟨h1, rfl, h2, h3⟩
  | some v =>
    refine (settleT_any V q _ nn U ⟨dv, fv, ld, lf, ms, rfl, hI⟩ kd no p n h0 hn hr v hm (hkd v hm)).mono ?_
    rintro e w' ⟨h1, h2⟩
    exact .inr ⟨h1, by simp, h2⟩

end Go.Proofs.YtnfddiabhpandaaGreatDoor.Tr
