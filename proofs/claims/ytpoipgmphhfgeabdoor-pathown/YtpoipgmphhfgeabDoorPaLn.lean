import Derived.Test.YtpoipgmphhfgeabDoorPaL
import Derived.Maps.AppendAt
namespace Go.Proofs.YtpoipgmphhfgeabDoor.Pa
open Go.RowKit Go.Lib Go.Deep

/-- an append to a row of the call's own: the row itself with room, or a new one and nothing old is touched -/
theorem append_keep {P : Program} (w : World) (base : Nat) (t ty e : TypeId) (i : TypeInfo) (z : Value) (size bytes : Nat) (ht : P.underlying t = some (.slice e)) (hi : P.info? e = some i) (hz : i.zero = some z)
    (hsize : i.size = size) (hby : i.bytes = bytes) (hzs : z.cells.size = size) (hsz : 0 < size) (v : Value) (n : Nat) (xs : List Value) (hown : w.ownsRow base e size v n xs)
    (a : Addr) (m c : Nat) (news : List Value) (hl : news.length = m * size) (hnews : ∀ j u, news[j]? = some u → w.cell? (a.add j) = some u) (h1 : ∀ u ∈ news, u.oneCell' = true) (hm : 1 ≤ m)
    (h63 : n + m ≤ maxLen) (hbytes : (n + m) * bytes ≤ 140737488355328) (hbase : base ≤ w.heap.size) :
    ∃ v' w', (Builtin.append_ #[t, t] ty #[v, .slice (some a) m c]).run P w = .ok v' w' ∧ w'.ownsRow base e size v' (n + m) (xs ++ news) ∧ w.grownBy w' v.ownBlock ∧
      ((∃ g cap, v = .slice (some ⟨g, 0, none⟩) n cap ∧ v' = .slice (some ⟨g, 0, none⟩) (n + m) cap) ∨ (v'.ownBlock = some w.heap.size ∧ ∀ k, k < w.heap.size → w'.heap[k]? = w.heap[k]?)) := by
  obtain ⟨v', w', hr, h2, h3, _, h5⟩ := run_append_own_at (P := P) w base t ty e i z size bytes ht hi hz hsize hby hzs hsz v n xs hown a m c news hl hnews h1 h63 hbytes hbase
  refine ⟨v', w', hr, h2, h3, ?_⟩
  rcases hown.2 with ⟨rfl, rfl⟩ | ⟨g, cap, cur, rfl, hbg, hg, hnc, hcm, hcs, htake⟩
  · right
    refine ⟨?_, fun k hk => h3.block k hk (by simp [Value.ownBlock])⟩
    rcases h5 with h5 | h5
    · rcases h2.2 with ⟨_, h⟩ | ⟨g, cap, cur, rfl, _⟩
      · omega
      · simp [Value.ownBlock] at h5
    · exact h5
  · subst hsize
    by_cases hroom : n + m ≤ cap
    · left
      have hfit : n * i.size + news.length ≤ cur.size := by rw [hl, hcs, ← Nat.add_mul]; exact Nat.mul_le_mul_right _ hroom
      have hr2 := run_append_room (P := P) w t ty e i ht hi g n cap cur hg a m c news hl hnews h1 hroom hfit
      rw [hr] at hr2
      injection hr2 with e1 _
      exact ⟨g, cap, rfl, e1⟩
    · right
      subst hby
      have hr2 := run_append_grow (P := P) w t ty e i z ht hi hz ⟨g, 0, none⟩ n cap xs hown.1 (hown.cells (g := g) rfl) a m c news hl hnews (by omega) (by simp only [maxLen] at h63; omega) (growslice_fits (by omega) hbytes)
      rw [hr] at hr2
      injection hr2 with e1 e2
      subst e1 e2
      exact ⟨rfl, fun k hk => Below.heap_alloc w.drew _ k hk⟩

theorem wpList_append_keep {P : Program} (w : World) {ops : Array Oper} {rest : List Oper} {o : Oper} {a : Act} {Q : Exit → Act → World → Prop} (hgd : o.guard = none) (s x : Operand) (t : TypeId)
    (ho : o.op = .call { callee := .builtin .append, args := #[s, x], argTypes := #[t, t] })
    (base : Nat) (e : TypeId) (i : TypeInfo) (z : Value) (size bytes : Nat) (ht : P.underlying t = some (.slice e)) (hi : P.info? e = some i) (hz : i.zero = some z)
    (hsize : i.size = size) (hby : i.bytes = bytes) (hzs : z.cells.size = size) (hsz : 0 < size)
    (v : Value) (n : Nat) (xs : List Value) (hs : a.eval s = v) (hown : w.ownsRow base e size v n xs)
    (ad : Addr) (m c : Nat) (news : List Value) (hx : a.eval x = .slice (some ad) m c) (hl : news.length = m * size) (hnews : ∀ j u, news[j]? = some u → w.cell? (ad.add j) = some u) (h1 : ∀ u ∈ news, u.oneCell' = true) (hm : 1 ≤ m)
    (h63 : n + m ≤ maxLen) (hbytes : (n + m) * bytes ≤ 140737488355328) (hbase : base ≤ w.heap.size)
    (h : ∀ v' w', w'.ownsRow base e size v' (n + m) (xs ++ news) → w.grownBy w' v.ownBlock → ((∃ g cap, v = .slice (some ⟨g, 0, none⟩) n cap ∧ v' = .slice (some ⟨g, 0, none⟩) (n + m) cap) ∨ (v'.ownBlock = some w.heap.size ∧ ∀ k, k < w.heap.size → w'.heap[k]? = w.heap[k]?)) → wpList P ops Q rest (a.put o.dst v') w') :
    wpList P ops Q (o :: rest) a w := by
  refine wpList_plain hgd fun K hK => ?_
  obtain ⟨v', w', hr, h2, h3, h4⟩ := append_keep (P := P) w base t o.type e i z size bytes ht hi hz hsize hby hzs hsz v n xs hown ad m c news hl hnews h1 hm h63 hbytes hbase
  unfold Oper.wp execOp
  simp only [ho, resolve, invoke, builtin, Sem.run_bind, Sem.run_pure, Result.andThen_ok, List.map_toArray, List.map_cons, List.map_nil, hs, hx, hr]
  exact hK _ _ (h v' w' h2 h3 h4)

/-- a list with marks behind it, and the list itself -/
structure Lng (W : World) (B : Nat) (v : Value) (ss : List ByteArray) (w' : World) (x : Value) (xs : List ByteArray) : Prop where
  new : Own w' B x xs
  old : Own w' B v ss
  frame : W.grownBy w' v.ownBlock
  blk : (∃ a n n' c, v = .slice a n c ∧ x = .slice a n' c) ∨ ∀ g, x.ownBlock = some g → W.heap.size ≤ g
  lt : ∀ g, v.ownBlock = some g → g < W.heap.size

theorem grown_trans {a b c : World} {r s : Option Nat} (h1 : a.grownBy b r) (h2 : b.grownBy c s) (hs : ∀ k, s = some k → r = some k ∨ a.heap.size ≤ k) : a.grownBy c r :=
  ⟨h2.os.trans h1.os, h2.tape.trans h1.tape, h2.output.trans h1.output, Nat.le_trans h1.size h2.size, fun k hk hne => by
    refine (h2.block k (Nat.lt_of_lt_of_le hk h1.size) (fun e => ?_)).trans (h1.block k hk hne)
    rcases hs k e.symm with h | h
    · exact hne h.symm
    · omega⟩

theorem Lng.start {W : World} {B : Nat} {v : Value} {ss : List ByteArray} (h : Own W B v ss) : Lng W B v ss W v ss := by
  obtain ⟨a, c, rfl⟩ := h.len
  exact ⟨h, h, ⟨rfl, rfl, rfl, Nat.le_refl _, fun _ _ _ => rfl⟩, .inl ⟨a, _, _, c, rfl, rfl⟩, fun g hg => (World.ownsRow.lt h g hg).2⟩
theorem Lng.alloc {W : World} {B : Nat} {v : Value} {ss : List ByteArray} {w' : World} {x : Value} {xs : List ByteArray} (h : Lng W B v ss w' x xs) (o : Obj) : Lng W B v ss (w'.alloc o) x xs :=
  ⟨h.new.below ((Below.refl _ _).alloc (Nat.le_refl _) _), h.old.below ((Below.refl _ _).alloc (Nat.le_refl _) _), grown_trans h.frame (World.grownBy_alloc w' o none) (fun k e => by cases e), h.blk, h.lt⟩
theorem Lng.step {W : World} {B : Nat} {v : Value} {ss : List ByteArray} {w1 : World} {x : Value} {xs : List ByteArray} {w2 : World} {y : Value} {s : ByteArray} (h : Lng W B v ss w1 x xs) (hp : ss <+: xs)
    (ho : Own w2 B y (xs ++ [s])) (hg : w1.grownBy w2 x.ownBlock) (hk : (∃ g cap, x = .slice (some ⟨g, 0, none⟩) xs.length cap ∧ y = .slice (some ⟨g, 0, none⟩) (xs.length + 1) cap) ∨ (y.ownBlock = some w1.heap.size ∧ ∀ k, k < w1.heap.size → w2.heap[k]? = w1.heap[k]?)) :
    Lng W B v ss w2 y (xs ++ [s]) := by
  have hxb : ∀ k, x.ownBlock = some k → v.ownBlock = some k ∨ W.heap.size ≤ k := fun k hk => by
    rcases h.blk with ⟨a, n, n', c, rfl, rfl⟩ | hh
    · left
      cases a with
      | none => simp [Value.ownBlock] at hk
      | some a => simpa [Value.ownBlock] using hk
    · exact .inr (hh k hk)
  have hfr := grown_trans h.frame hg hxb
  rcases hk with ⟨g, cap, e1, e2⟩ | ⟨e1, e2⟩
  · subst e1 e2
    rcases h.blk with ⟨a, n, n', c, e3, e4⟩ | hh
    · subst e3
      injection e4 with f1 f2 f3
      subst f1 f3
      refine ⟨ho, ?_, hfr, .inl ⟨_, _, _, _, rfl, rfl⟩, h.lt⟩
      rcases h.old.2 with ⟨q, _⟩ | ⟨g1, cap1, cur1, q1, q2, q3, q4, q5, q6, q7⟩
      · cases q
      · injection q1 with r1 r2 r3
        injection r1 with r1
        injection r1 with r1 _ _
        subst r1 r3
        rcases ho.2 with ⟨q, _⟩ | ⟨g2, cap2, cur2, p1, p2, p3, p4, p5, p6, p7⟩
        · cases q
        · injection p1 with r4 r5 r6
          injection r4 with r4
          injection r4 with r4 _ _
          subst r4 r6
          refine ⟨h.old.1, .inr ⟨g, cap, cur2, by rw [r2], q2, p3, q4, q5, p6, ?_⟩⟩
          obtain ⟨tl, rfl⟩ := hp
          have hle : ss.length * 1 ≤ (ss ++ tl ++ [s]).length * 1 := by simp
          have e : cur2.toList.take (ss.length * 1) = (cur2.toList.take ((ss ++ tl ++ [s]).length * 1)).take (ss.length * 1) := by rw [List.take_take, Nat.min_eq_left hle]
          rw [e, p7, sc_append, sc_append, List.append_assoc]
          exact List.take_left' ((sc_length ss).trans (Nat.mul_one _).symm)
    · refine ⟨ho, ?_, hfr, .inr fun k hk => ?_, h.lt⟩
      · obtain ⟨q0, q⟩ := h.old
        refine ⟨q0, ?_⟩
        rcases q with q | ⟨g1, cap1, cur1, q1, q2, q3, q4⟩
        · exact .inl q
        · have hlt := h.lt g1 (by rw [q1]; rfl)
          have hge := hh g rfl
          exact .inr ⟨g1, cap1, cur1, q1, q2, (hg.block _ (heap_lt q3) (by simp [Value.ownBlock]; omega)).trans q3, q4⟩
      · exact hh k (by simpa [Value.ownBlock] using hk)
  · refine ⟨ho, ?_, hfr, .inr fun k hk => ?_, h.lt⟩
    · obtain ⟨q0, q⟩ := h.old
      refine ⟨q0, ?_⟩
      rcases q with q | ⟨g1, cap1, cur1, q1, q2, q3, q4⟩
      · exact .inl q
      · exact .inr ⟨g1, cap1, cur1, q1, q2, (e2 _ (heap_lt q3)).trans q3, q4⟩
    · rw [e1] at hk
      injection hk with hk
      have := h.frame.size
      omega

end Go.Proofs.YtpoipgmphhfgeabDoor.Pa
