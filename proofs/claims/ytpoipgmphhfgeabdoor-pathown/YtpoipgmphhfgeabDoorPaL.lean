import Derived.Test.YtpoipgmphhfgeabDoorPaA
import Derived.Test.YtpoipgmphhfgeabDoorBaseM
import Derived.Laws.AppendOwnNone
import Derived.OwnWalk
import Derived.BigQuiet
namespace Go.Proofs.YtpoipgmphhfgeabDoor.Pa
open Go.RowKit Go.Lib

def sc (L : List ByteArray) : List Value := L.map Value.string
theorem sc_length (L : List ByteArray) : (sc L).length = L.length := by simp [sc]
theorem sc_at (L : List ByteArray) (j : Nat) (s : ByteArray) (h : L[j]? = some s) : (sc L)[j]? = some (.string s) := by simp [sc, h]
theorem sc_back {L : List ByteArray} {j : Nat} {u : Value} (h : (sc L)[j]? = some u) : ∃ s, L[j]? = some s ∧ u = .string s := by
  unfold sc at h
  rw [List.getElem?_map] at h
  obtain ⟨s, hs, rfl⟩ := Option.map_eq_some_iff.1 h
  exact ⟨s, hs, rfl⟩
theorem sc_one (L : List ByteArray) : ∀ u ∈ sc L, u.oneCell' = true := fun u hu => by
  obtain ⟨s, _, rfl⟩ := List.mem_map.1 hu
  rfl
theorem sc_append (a b : List ByteArray) : sc (a ++ b) = sc a ++ sc b := by simp [sc]
theorem bdN (w : World) (n : Nat) : Below w.heap.size w (w.drewN n) := ⟨rfl, rfl, rfl, Nat.le_refl _, fun _ _ => rfl⟩
theorem info9 : (Tryd.prog.info? 9).map (fun i => (i.zero, i.size, i.bytes)) = some (some (.string { data := #[] }), 1, 16) := by kernel_rfl
theorem info_9 : ∃ i0, Tryd.prog.info? 9 = some i0 ∧ i0.zero = some (.string { data := #[] }) ∧ i0.size = 1 ∧ i0.bytes = 16 := by
  have h := info9
  cases hq : Tryd.prog.info? 9 with
  | none => rw [hq] at h; cases h
  | some i =>
    rw [hq] at h
    simp at h
    exact ⟨i, rfl, h.1, h.2.1, h.2.2⟩

/-- texts in a row of the call's own -/
def Own (w : World) (B : Nat) (v : Value) (L : List ByteArray) : Prop := w.ownsRow B 9 1 v L.length (sc L)
/-- texts that can be read -/
def See (w : World) (v : Value) (L : List ByteArray) : Prop :=
  ∃ a c, v = .slice a L.length c ∧ L.length ≤ c ∧ (a = none → c = 0) ∧ (L ≠ [] → ∃ b off, a = some ⟨b, off, none⟩ ∧ b < w.heap.size ∧ ∀ (i : Nat) s, L[i]? = some s → w.cell? ⟨b, off + i, none⟩ = some (.string s))
theorem See.nil (w : World) : See w (.slice none 0 0) [] := ⟨none, 0, rfl, Nat.le_refl _, fun _ => rfl, fun h => absurd rfl h⟩
theorem See.below {w w' : World} {v : Value} {L : List ByteArray} (h : See w v L) (hb : Below w.heap.size w w') : See w' v L := by
  obtain ⟨a, c, h1, h2, h3, h4⟩ := h
  refine ⟨a, c, h1, h2, h3, fun hn => ?_⟩
  obtain ⟨b, off, e, hlt, hc⟩ := h4 hn
  exact ⟨b, off, e, Nat.lt_of_lt_of_le hlt hb.size, fun i s hs => (hb.cell (p := ⟨b, off + i, none⟩) hlt).trans (hc i s hs)⟩
theorem Own.nil (w : World) (B : Nat) : Own w B (.slice none 0 0) [] := World.ownsRow_nil _ _ _ _
theorem Own.len {w : World} {B : Nat} {v : Value} {L : List ByteArray} (h : Own w B v L) : ∃ a cap, v = .slice a L.length cap := by
  rcases h.2 with ⟨h1, h2⟩ | ⟨g, cap, cur, h1, _⟩
  · exact ⟨none, 0, by rw [h2]; exact h1⟩
  · exact ⟨_, cap, h1⟩
theorem Own.see {w : World} {B : Nat} {v : Value} {L : List ByteArray} (h : Own w B v L) : See w v L := by
  rcases h.2 with ⟨h1, h2⟩ | ⟨g, cap, cur, h1, h2, h3, h4, h5, h6, h7⟩
  · exact ⟨none, 0, by rw [h2]; exact h1, by omega, fun _ => rfl, fun h => absurd (List.eq_nil_of_length_eq_zero h2) h⟩
  · refine ⟨_, cap, h1, h4, fun e => (by cases e), fun _ => ⟨g, 0, rfl, heap_lt h3, fun i s hs => ?_⟩⟩
    have hi := (List.getElem?_eq_some_iff.1 hs).1
    have hu := sc_at L i s hs
    rw [← h7, List.getElem?_take, if_pos (by omega), Array.getElem?_toList] at hu
    rw [Nat.zero_add, cell_of_heap h3]
    exact hu
theorem Own.below {w w' : World} {B : Nat} {v : Value} {L : List ByteArray} (h : Own w B v L) (hb : Below w.heap.size w w') : Own w' B v L := by
  obtain ⟨h1, h2⟩ := h
  refine ⟨h1, ?_⟩
  rcases h2 with h0 | ⟨g, cap, cur, e1, e2, e3, e4⟩
  · exact .inl h0
  · exact .inr ⟨g, cap, cur, e1, e2, (hb.block _ (heap_lt e3)).trans e3, e4⟩
theorem Own.mono {w : World} {B B' : Nat} {v : Value} {L : List ByteArray} (h : Own w B v L) (hB : B' ≤ B) : Own w B' v L := by
  obtain ⟨h1, h2⟩ := h
  refine ⟨h1, ?_⟩
  rcases h2 with h0 | ⟨g, cap, cur, e1, e2, e3⟩
  · exact .inl h0
  · exact .inr ⟨g, cap, cur, e1, by omega, e3⟩
/-- the first texts of a list -/
theorem See.take {w : World} {a : Option Addr} {c n : Nat} {L : List ByteArray} (h : See w (.slice a L.length c) L) (hn : n ≤ L.length) : See w (.slice a n c) (L.take n) := by
  obtain ⟨a', c', h1, h2, h3, h4⟩ := h
  injection h1 with e1 _ e2
  subst e1 e2
  have hl : (L.take n).length = n := by rw [List.length_take]; omega
  refine ⟨a, c, by rw [hl], by omega, h3, fun hne => ?_⟩
  obtain ⟨b, off, e, hlt, hc⟩ := h4 (fun e => hne (by rw [e]; simp))
  refine ⟨b, off, e, hlt, fun i s hs => hc i s ?_⟩
  rw [List.getElem?_take] at hs
  by_cases hi : i < n
  · rw [if_pos hi] at hs; exact hs
  · rw [if_neg hi] at hs; cases hs

/-- a list that can be read is appended to a row of the call's own -/
theorem wpList_app {w : World} {ops : Array Oper} {rest : List Oper} {o : Oper} {a : Act} {Q : Exit → Act → World → Prop} (hgd : o.guard = none) (s x : Operand)
    (ho : o.op = .call { callee := .builtin .append, args := #[s, x], argTypes := #[22, 22] })
    (B : Nat) (v xv : Value) (A L : List ByteArray) (hs : a.eval s = v) (hown : Own w B v A) (hx : a.eval x = xv) (hL : See w xv L) (hb : (A.length + L.length) * 16 ≤ 140737488355328) (hB : B ≤ w.heap.size)
    (h : ∀ v' w', Own w' B v' (A ++ L) → Below B w w' → wpList Tryd.prog ops Q rest (a.put o.dst v') w') : wpList Tryd.prog ops Q (o :: rest) a w := by
  obtain ⟨i0, hi, hz0, hz1, hz2⟩ := info_9
  obtain ⟨ad, c, rfl, hc, hnil, hcell⟩ := hL
  cases ad with
  | none =>
    have hL0 : L = [] := by
      by_cases hn : L = []
      · exact hn
      · obtain ⟨b, off, e, _⟩ := hcell hn
        cases e
    subst hL0
    obtain rfl := hnil rfl
    refine wpList_append_own_none hgd s x 22 ho B 9 i0 1 Tryd.underlying22 hi v A.length (sc A) hs hown hx ?_
    exact h v w (by rw [List.append_nil]; exact hown) (Below.refl _ _)
  | some ad =>
    refine wpList_append_own w hgd s x 22 ho B 9 i0 (.string { data := #[] }) 1 16 Tryd.underlying22 hi hz0 hz1 hz2 rfl (by decide) v A.length (sc A) hs hown ad L.length c (sc L) hx (by rw [sc_length]; omega)
      (fun j u hu => ?_) (sc_one L) (by unfold maxLen; omega) hb hB (fun v' w' ho' hg _ => ?_)
    · obtain ⟨t, ht, rfl⟩ := sc_back hu
      obtain ⟨b, off, e, _, hcc⟩ := hcell (fun e => by rw [e] at ht; cases ht)
      injection e with e
      subst e
      rw [Addr.add_lit]
      exact hcc j t ht
    · refine h v' w' ?_ (grown_below hg hB hown)
      unfold Own
      rw [sc_append, List.length_append]
      exact ho'

/-- texts in a new block -/
theorem see_new (w : World) (cs : Array Value) (L : List ByteArray) (n c : Nat) (h : cs = (sc L).toArray) (hn : n = L.length) (hc : n ≤ c) : See (w.alloc (.cells cs 9)) (.slice (some ⟨w.heap.size, 0, none⟩) n c) L := by
  subst h hn
  refine ⟨_, _, rfl, hc, fun e => (by cases e), fun _ => ⟨w.heap.size, 0, rfl, by simp, fun i s hs => ?_⟩⟩
  rw [Nat.zero_add, cell_of_heap (heap_new w _)]
  simpa using sc_at L i s hs
set_option maxRecDepth 20000 in
set_option maxHeartbeats 1000000 in
theorem same_any (w : World) (v u : Value) (L : List ByteArray) (h1 : See w v L) (h2 : See w u L) (hn : L.length ≤ 9223372036854775000) : Calls Tryd.prog 8 #[v, u] w fun e w' => e = .returned (.bool true) ∧ Below w.heap.size w w' := by
  have HA : Hid (∀ W, Below w.heap.size w W → See W v L) := fun W hb => h1.below hb
  have HB : Hid (∀ W, Below w.heap.size w W → See W u L) := fun W hb => h2.below hb
  obtain ⟨a1, k1, rfl, -⟩ := h1
  obtain ⟨a2, k2, rfl, -⟩ := h2
  obtain ⟨n, hl⟩ : ∃ n, L.length = n := ⟨_, rfl⟩
  rw [hl] at HA HB hn ⊢
  have HL : Hid (L.length = n) := hl
  clear hl
  go_enter Tryd.func8, Tryd.ntmps8
  go_wp2_with fail
  go_loopg [5] n (fun gk iv wr => ∃ k : Nat, k + gk = n ∧ iv = .int .i64 (k : Int) ∧ Hid (Below w.heap.size w wr))
  case atStart => exact ⟨0, by omega, rfl, Below.refl _ _⟩
  case round =>
    obtain ⟨k, hk, rfl, HW⟩ := hrel
    have HKG : Hid (k + gk = n) := hk
    have hkn : k ≤ n := by omega
    clear hk
    by_cases hlt : k < n
    · have hltI : (k : Int) < (n : Int) := by omega
      obtain ⟨x, hx⟩ : ∃ x, L[k]? = some x := ⟨_, List.getElem?_eq_getElem (by have := HL.out; omega)⟩
      obtain ⟨y1, z1, e1, -, -, h1⟩ := HA.out _ HW.out
      obtain ⟨y2, z2, e2, -, -, h2⟩ := HB.out _ HW.out
      injection e1 with e1 _ e1'
      injection e2 with e2 _ e2'
      subst e1 e1' e2 e2'
      obtain ⟨g1, o1, rfl, _, c0⟩ := h1 (fun e => by rw [e] at hx; cases hx)
      obtain ⟨g2, o2, rfl, _, d0⟩ := h2 (fun e => by rw [e] at hx; cases hx)
      have c1 := c0 k x hx
      have d1 := d0 k x hx
      have HWN : Hid (∀ j, Below w.heap.size w (wr.drewN j)) := fun j => HW.out.trans ((bdN wr j).mono HW.out.size)
      clear hx h1 h2 c0 d0
      go_wp2_with fail
      go_quiet (fail)
      go_wp2_with fail
      go_roundg (gk - 1)
      case measure => have := HKG.out; omega
      case rel => exact ⟨k + 1, by have := HKG.out; omega, by go_num, HWN.out _⟩
    · obtain rfl : k = n := by omega
      have hltI : ¬ (k : Int) < (k : Int) := by omega
      go_wp2
      go_ret
      exact ⟨rfl, HW.out⟩

end Go.Proofs.YtpoipgmphhfgeabDoor.Pa
