import Derived.Test.YthfpodbbmeannaaDoorRnA
import Derived.Test.YthfpodbbmeannaaDoorKcA
namespace Go.Proofs.YthfpodbbmeannaaDoor
open Go.RowKit Go.Lib

theorem Rn.more {w wr : World} {A B : Nat} {P Q : Nat → Nat} {k t k' u : Nat → ByteArray} {n : Nat} (h : Rn w wr A B P Q k t k' u n) (m : Nat) : Rn w wr A B P Q k t k' u (n + m) :=
  ⟨h.own, h.ref, h.mc, h.rm, fun j hj => by obtain ⟨h1, h2, h3, h4⟩ := h.ks j hj; exact ⟨h1, h2, by omega, by omega⟩, h.pd, h.qd, h.bs, h.bel⟩

/-- the step at hand, in a block of its own -/
def Ob (w : World) (o : Nat) (K A : Int) (s : ByteArray) : Prop := w.heap[o]? = some (.cells #[.int .i64 K, .int .i64 A, .string s] 39 (0, 0))
section
variable {w w' : World} {o : Nat} {K A : Int} {s : ByteArray}
theorem Ob.c0 (h : Ob w o K A s) : w.cell? ⟨o, 0, none⟩ = some (.int .i64 K) := (cell_of_heap h).trans rfl
theorem Ob.c1 (h : Ob w o K A s) : w.cell? ⟨o, 1, none⟩ = some (.int .i64 A) := (cell_of_heap h).trans rfl
theorem Ob.c2 (h : Ob w o K A s) : w.cell? ⟨o, 2, none⟩ = some (.string s) := (cell_of_heap h).trans rfl
theorem Ob.below (h : Ob w o K A s) (hb : Below w.heap.size w w') : Ob w' o K A s := (hb.block _ (heap_lt h)).trans h
theorem Ob.only {S : List Nat} (h : Ob w o K A s) (hb : Only S w w') (hp : o ∉ S) : Ob w' o K A s := (hb.block _ (heap_lt h) hp).trans h
theorem Ob.ne (h : Ob w o K A s) {b : Nat} {c : Array Value} {ty : TypeId} {f : Nat × Nat} (hb : w.heap[b]? = some (.cells c ty f)) (ht : 39 ≠ ty) : o ≠ b := ne_of_types h hb ht
end

theorem sizeA2 : (Tryd.prog.info? 34).map (·.size) = some 2 := by kernel_rfl
theorem sizeB2 : (Tryd.prog.info? 37).map (·.size) = some 2 := by kernel_rfl
theorem size3op : (Tryd.prog.info? 39).map (·.size) = some 3 := by kernel_rfl

/-- the loop of KdfRuns: a step by any of its kinds -/
def Turn (w : World) (A B : Nat) (S : Nat → ByteArray) (b0 : Nat) (i : Nat) (wr : World) : Prop := ∃ P Q k t, Rn w wr A B P Q k t k t (b0 + sumS S i)

set_option maxRecDepth 40000 in
set_option maxHeartbeats 8000000 in
theorem kdfRuns_walk (key1 key2 : ByteArray) (b0 : key1.size ≤ 1048576) (b1 : key2.size ≤ 1048576) (w : World) (ht : Tabs w) (hr : RTabs w) (h4 : 4 ≤ w.heap.size) (a : Option Addr) (len cap : Nat) (K AA : Nat → Int) (S : Nat → ByteArray) (hops : IsOps w a len K AA S) (hlen : len ≤ 9223372036854775807) (hsm : sumS S len + len ≤ 1048576) :
    Calls Tryd.prog 4 #[.string key1, .string key2, .slice a len cap] w fun e w' => e = .returned (.bool true) ∧ Below w.heap.size w w' := by
  have HTT : Hid (∀ W, Below w.heap.size w W → Tabs W ∧ RTabs W ∧ 4 ≤ W.heap.size) := fun W h => ⟨ht.below h (by omega), hr.below h h4, by have := h.size; omega⟩
  have HOPS : Hid (IsOps w a len K AA S) := hops
  have hn1 := newmac_any key1 b0 w ht h4
  clear ht hr hops
  go_enter Tryd.func4, Tryd.ntmps4
  go_wp2_with fail
  refine hn1.mono ?_
  rintro e w1 ⟨⟨p0, rfl, hp0, hM1⟩, hb1⟩
  clear hn1
  have hn2 := newmac_any key2 b1 w1 (HTT.out w1 hb1).1 (HTT.out w1 hb1).2.2
  go_wp2_with fail
  refine hn2.mono ?_
  rintro e w2 ⟨⟨p1, rfl, hp1, hM2⟩, hb2'⟩
  clear hn2
  have hb2 := hb1.trans (hb2'.mono hb1.size)
  have HM2 : Hid (Mc w2 p0 key1.data.toList [] ∧ Mc w2 p1 key2.data.toList [] ∧ p0 ≠ p1 ∧ w.heap.size ≤ p0 ∧ w.heap.size ≤ p1) := ⟨hM1.below hb2' hM1.lt, hM2, by have := hM1.lt; omega, hp0, by have := hb1.size; omega⟩
  clear hM1 hM2 hb2' hb1 hp0 hp1
  obtain ⟨P, hP⟩ : ∃ P : Nat → Nat, P = fun i => if i = 0 then p0 else p1 := ⟨_, rfl⟩
  have hP2 : #[Value.pointer (some ⟨p0, 0, none⟩), .pointer (some ⟨p1, 0, none⟩)] = ptr2 P := by rw [hP]; rfl
  have hthA : ∀ z : Array Value, z.size = 2 → (w2.alloc (.cells z 34)).there w2.heap.size 0 (#[Value.pointer (some ⟨p0, 0, none⟩), .pointer (some ⟨p1, 0, none⟩)] : Array Value).size := fun z hz => there_of_heap (heap_new _ _) (by rw [hz]; exact Nat.le_refl 2)
  have honeA : (#[Value.pointer (some ⟨p0, 0, none⟩), .pointer (some ⟨p1, 0, none⟩)] : Array Value).all (·.oneCell') = true := all_oneCell_toArray (cs := [Value.pointer (some ⟨p0, 0, none⟩), .pointer (some ⟨p1, 0, none⟩)]) (by intro v hv; simp at hv; rcases hv with rfl | rfl <;> rfl)
  have hrA : ∀ z : Array Value, z.size = 2 → ((w2.alloc (.cells z 34)).setCells w2.heap.size 0 [Value.pointer (some ⟨p0, 0, none⟩), .pointer (some ⟨p1, 0, none⟩)]).heap[w2.heap.size]? = some (.cells (ptr2 P) 34 (0, 0)) := fun z hz => by
    have h := heap_setCells w2.heap.size 34 [Value.pointer (some ⟨p0, 0, none⟩), .pointer (some ⟨p1, 0, none⟩)] 0 z _ (heap_new w2 (.cells z 34))
    rw [setMany_all _ _ (by rw [hz]; rfl)] at h
    rw [← hP2]
    exact h
  have hbA : ∀ z : Array Value, Below w2.heap.size w2 ((w2.alloc (.cells z 34)).setCells w2.heap.size 0 [Value.pointer (some ⟨p0, 0, none⟩), .pointer (some ⟨p1, 0, none⟩)]) := fun z => Below.setCells ((Below.refl _ _).alloc (Nat.le_refl _) _) (Nat.le_refl _) _ _
  go_upto_region 2 with (refine wpList_store_mid rfl 34 (.tmp 7) (.tmp 21) rfl w2.heap.size 0 #[Value.pointer (some ⟨p0, 0, none⟩), .pointer (some ⟨p1, 0, none⟩)] rfl rfl (hthA _ rfl) sizeA2 honeA ?_)
  refine with_world (R := fun W => Code.wp _ _ _ _ W) (Q := fun W => W.heap[w2.heap.size]? = some (.cells (ptr2 P) 34 (0, 0)) ∧ Below w2.heap.size w2 W) _ ⟨hrA _ rfl, hbA _⟩ ?_
  clear hrA hbA hthA honeA
  have hAb := hb2.size
  have hp0 := HM2.out.1.lt
  have hp1 := HM2.out.2.1.lt
  have HBA : Hid (∀ W, Below w2.heap.size w2 W → Below w.heap.size w W ∧ Mc W p0 key1.data.toList [] ∧ Mc W p1 key2.data.toList []) := fun W h => ⟨hb2.trans (h.mono hAb), HM2.out.1.below h hp0, HM2.out.2.1.below h hp1⟩
  obtain ⟨A, hA⟩ : ∃ A, w2.heap.size = A := ⟨_, rfl⟩
  have HA : Hid (w2.heap.size = A) := hA
  rw [hA] at hAb hp0 hp1 HBA ⊢
  clear hA
  rintro w3 ⟨hA3, hb3⟩
  have hlA := heap_lt hA3
  go_wp2_with fail
  refine (rnew_any key1 w3).mono ?_
  rintro e w4 ⟨rfl, hm4, hb4'⟩
  go_wp2_with fail
  refine (rnew_any key2 w4).mono ?_
  rintro e w5 ⟨rfl, hm5, hb5'⟩
  have z3 : A ≤ w3.heap.size := by have := hb3.size; have := HA.out; omega
  have z4 := hb4'.size
  have hl4 := hm4.lt
  have hb4 := hb3.trans (hb4'.mono z3)
  have hb5 : Below A w2 w5 := hb4.trans (hb5'.mono (by have := hb4.size; have := HA.out; omega))
  have hA5 : w5.heap[A]? = some (.cells (ptr2 P) 34 (0, 0)) := (hb5'.block A (by omega)).trans ((hb4'.block A hlA).trans hA3)
  have hm45 := hm4.below hb5' hl4
  obtain ⟨q0, hq0⟩ : ∃ q, w3.heap.size = q := ⟨_, rfl⟩
  obtain ⟨q1, hq1⟩ : ∃ q, w4.heap.size = q := ⟨_, rfl⟩
  rw [hq0] at hm45 hl4 z3 z4 ⊢
  rw [hq1] at hm5 hl4 z4 ⊢
  clear hm4 hb4' hb5' hb4 hb3 hA3 hq0 hq1 hlA
  obtain ⟨Q, hQ⟩ : ∃ Q : Nat → Nat, Q = fun i => if i = 0 then q0 else q1 := ⟨_, rfl⟩
  have hQ2 : #[Value.pointer (some ⟨q0, 0, none⟩), .pointer (some ⟨q1, 0, none⟩)] = ptr2 Q := by rw [hQ]; rfl
  have hthB : ∀ z : Array Value, z.size = 2 → (w5.alloc (.cells z 37)).there w5.heap.size 0 (#[Value.pointer (some ⟨q0, 0, none⟩), .pointer (some ⟨q1, 0, none⟩)] : Array Value).size := fun z hz => there_of_heap (heap_new _ _) (by rw [hz]; exact Nat.le_refl 2)
  have honeB : (#[Value.pointer (some ⟨q0, 0, none⟩), .pointer (some ⟨q1, 0, none⟩)] : Array Value).all (·.oneCell') = true := all_oneCell_toArray (cs := [Value.pointer (some ⟨q0, 0, none⟩), .pointer (some ⟨q1, 0, none⟩)]) (by intro v hv; simp at hv; rcases hv with rfl | rfl <;> rfl)
  obtain ⟨k, hk⟩ : ∃ k : Nat → ByteArray, k = fun i => if i = 0 then key1 else key2 := ⟨_, rfl⟩
  obtain ⟨t, htt⟩ : ∃ t : Nat → ByteArray, t = fun _ => { data := #[] } := ⟨_, rfl⟩
  have hrB : ∀ z : Array Value, z.size = 2 → Rn w ((w5.alloc (.cells z 37)).setCells w5.heap.size 0 [Value.pointer (some ⟨q0, 0, none⟩), .pointer (some ⟨q1, 0, none⟩)]) A w5.heap.size P Q k t k t 0 := fun z hz => by
    have h := heap_setCells w5.heap.size 37 [Value.pointer (some ⟨q0, 0, none⟩), .pointer (some ⟨q1, 0, none⟩)] 0 z _ (heap_new w5 (.cells z 37))
    rw [setMany_all _ _ (by rw [hz]; rfl)] at h
    have hbB : Below w5.heap.size w5 ((w5.alloc (.cells z 37)).setCells w5.heap.size 0 [Value.pointer (some ⟨q0, 0, none⟩), .pointer (some ⟨q1, 0, none⟩)]) := Below.setCells ((Below.refl _ _).alloc (Nat.le_refl _) _) (Nat.le_refl _) _ _
    obtain ⟨e1, e2, e3⟩ := HBA.out _ (hb5.trans (hbB.mono (by have := hb5.size; have := heap_lt hA5; omega)))
    have hl5 := hm45.lt
    have hl6 := hm5.lt
    have hA6 := heap_lt hA5
    subst hk htt
    refine ⟨(hbB.block A hA6).trans hA5, by rw [← hQ2]; exact h, fun j hj => ?_, fun j hj => ?_, fun j hj => ?_, ?_, ?_, ⟨hAb, by omega, fun j hj => ?_⟩, e1⟩
    · rcases (show j = 0 ∨ j = 1 by omega) with rfl | rfl
      · rw [hP]; exact e2
      · rw [hP]; exact e3
    · rcases (show j = 0 ∨ j = 1 by omega) with rfl | rfl
      · rw [hQ]; exact hm45.below hbB hl5
      · rw [hQ]; exact hm5.below hbB hl6
    · rcases (show j = 0 ∨ j = 1 by omega) with rfl | rfl
      · exact ⟨b0, b0, by simp [ByteArray.size], by simp [ByteArray.size]⟩
      · exact ⟨b1, b1, by simp [ByteArray.size], by simp [ByteArray.size]⟩
    · rw [hP]; exact HM2.out.2.2.1
    · rw [hQ]; show q0 ≠ q1; omega
    · have h1 := HM2.out.2.2.2
      rcases (show j = 0 ∨ j = 1 by omega) with rfl | rfl
      · rw [hP, hQ]; exact ⟨h1.1, by show w.heap.size ≤ q0; omega⟩
      · rw [hP, hQ]; exact ⟨h1.2, by show w.heap.size ≤ q1; omega⟩
  go_upto_region 3 with (refine wpList_store_mid rfl 37 (.tmp 8) (.tmp 26) rfl w5.heap.size 0 #[Value.pointer (some ⟨q0, 0, none⟩), .pointer (some ⟨q1, 0, none⟩)] rfl rfl (hthB _ rfl) sizeB2 honeB ?_)
  refine with_world (R := fun W => Code.wp _ _ _ _ W) (Q := fun W => Rn w W A w5.heap.size P Q k t k t 0) _ (hrB _ rfl) ?_
  clear HA hrB hthB honeB hm45 hm5 hA5 hb5 HBA HM2 hP2 hQ2 hP hQ hk htt hb2 hAb hp0 hp1 z3 z4 hl4
  obtain ⟨B, hB⟩ : ∃ B, w5.heap.size = B := ⟨_, rfl⟩
  rw [hB]
  clear hB
  intro w6 hN6
  have HN : Hid (Rn w w6 A B P Q k t k t 0) := hN6
  have c0 := hN6.ownAt 0 (by omega)
  have c1 := hN6.ownAt 1 (by omega)
  clear hN6
  go_wp2_with (first | (go_at_call 6; refine (mwrite_nil _ _).mono ?_; rintro e w' ⟨rfl, rfl⟩) | (go_at_call 8; refine (msum_nil _).mono ?_; rintro e w' ⟨rfl, rfl⟩) | (go_at_call 7; refine (cnum_any _ _).mono ?_; rintro e w' ⟨rfl, rfl⟩))
  clear c0 c1
  go_loopg [10] len (fun gk iv wr => ∃ (i : Nat) (P Q : Nat → Nat) (k t : Nat → ByteArray), i + gk = len ∧ iv = .int .i64 i ∧ Rn w wr A B P Q k t k t (sumS S i))
  case atStart => exact ⟨0, P, Q, k, t, by omega, rfl, HN.out⟩
  case round =>
    clear HN
    obtain ⟨i, P, Q, k, t, hii, rfl, hN⟩ := hrel
    have HK : Hid (i + gk = len) := hii
    have hi' : i ≤ len := by omega
    clear hii
    by_cases hlt : i < len
    · obtain ⟨b, off, rfl, hbl, h0, h1, h2⟩ := HOPS.out i hlt
      have hmono := sumS_mono S (show i + 1 ≤ len by omega)
      obtain ⟨s, hs⟩ : ∃ s, S i = s := ⟨_, rfl⟩
      obtain ⟨K1, hK0⟩ : ∃ x, K i = x := ⟨_, rfl⟩
      obtain ⟨A1, hA0⟩ : ∃ x, AA i = x := ⟨_, rfl⟩
      have HSi : Hid ((S i).size = s.size) := by show _ = _; rw [hs]
      rw [sumS, hs] at hmono
      rw [hs] at h2
      rw [hK0] at h0
      rw [hA0] at h1
      obtain ⟨n, hn⟩ : ∃ n, sumS S i = n := ⟨_, rfl⟩
      have HSn : Hid (sumS S i = n) := hn
      rw [hn] at hN hmono
      clear hs hK0 hA0 hn
      have hss : s.size ≤ 1048576 := by omega
      have hn1m : n + s.size ≤ 1048576 := by omega
      have hrg : wr.rangeAt b (off + i * 3) [.int .i64 K1, .int .i64 A1, .string s] := by
        intro d v hv
        have hb := hN.bel
        rcases d with _ | _ | _ | d
        · simp at hv
          subst hv
          exact (hb.cell (p := ⟨b, off + i * 3, none⟩) hbl).trans h0
        · simp at hv
          subst hv
          exact (hb.cell (p := ⟨b, off + i * 3 + 1, none⟩) hbl).trans h1
        · simp at hv
          subst hv
          exact (hb.cell (p := ⟨b, off + i * 3 + 2, none⟩) hbl).trans h2
        · simp at hv
      have hth : ∀ z : Array Value, z.size = 3 → (wr.alloc (.cells z 39)).there wr.heap.size 0 (#[Value.int .i64 K1, .int .i64 A1, .string s] : Array Value).size := fun z hz => there_of_heap (heap_new _ _) (by rw [hz]; exact Nat.le_refl 3)
      have hone3 : (#[Value.int .i64 K1, .int .i64 A1, .string s] : Array Value).all (·.oneCell') = true := all_oneCell_toArray (cs := [Value.int .i64 K1, .int .i64 A1, .string s]) (by intro v hv; simp at hv; rcases hv with rfl | rfl | rfl <;> rfl)
      have hr3 : ∀ z : Array Value, z.size = 3 → Ob ((wr.alloc (.cells z 39)).setCells wr.heap.size 0 [Value.int .i64 K1, .int .i64 A1, .string s]) wr.heap.size K1 A1 s := fun z hz => by
        have h := heap_setCells wr.heap.size 39 [Value.int .i64 K1, .int .i64 A1, .string s] 0 z _ (heap_new wr (.cells z 39))
        rw [setMany_all _ _ (by rw [hz]; rfl)] at h
        exact h
      have hbz : ∀ z : Array Value, Below wr.heap.size wr ((wr.alloc (.cells z 39)).setCells wr.heap.size 0 [Value.int .i64 K1, .int .i64 A1, .string s]) := fun z => Below.setCells ((Below.refl _ _).alloc (Nat.le_refl _) _) (Nat.le_refl _) _ _
      have HN : Hid (Rn w wr A B P Q k t k t n) := hN
      clear hN h0 h1 h2 hbl
      go_upto_region 10 with (first | (refine wpList_load_mid rfl 39 (.tmp 54) rfl b (off + i * 3) rfl _ _ hrg Tryd.underlying39 rfl size3op ?_) | (refine wpList_store_mid rfl 39 (.tmp 11) (.tmp 55) rfl wr.heap.size 0 #[Value.int .i64 K1, .int .i64 A1, .string s] rfl rfl (hth _ rfl) size3op hone3 ?_))
      refine with_world (R := fun W => Code.wp _ _ _ _ W) (Q := fun W => Rn w W A B P Q k t k t n ∧ Ob W wr.heap.size K1 A1 s) _ ⟨HN.out.below (hbz _), hr3 _ rfl⟩ ?_
      clear hth hone3 hr3 hbz hrg HN
      obtain ⟨o, ho⟩ : ∃ o, wr.heap.size = o := ⟨_, rfl⟩
      rw [ho]
      clear ho
      rintro w4 ⟨hN4, hO4⟩
      have HN : Hid (Rn w w4 A B P Q k t k t n) := hN4
      have HO : Hid (Ob w4 o K1 A1 s) := hO4
      have c0 := hO4.c0
      have c1 := hO4.c1
      clear hN4 hO4
      go_wp2_with fail
      refine (place_any A1 _).mono ?_
      rintro e w' ⟨⟨j, rfl, hj⟩, rfl⟩
      have hjI : (j : Int) < 2 := by omega
      by_cases hK1 : K1 = 1
      · have hn1 : K1 = 1 := hK1
        subst hn1
        have hwb : (innerL (k j).data.toList ++ (t j).data.toList).length + s.size ≤ 1099511627776 := by
          have h1 := (HN.out.ks j hj).2.2.1
          rw [List.length_append, innerL_length, ← size_eq]
          omega
        have hrb : (t j).size + s.size ≤ 1099511627712 := by have h1 := (HN.out.ks j hj).2.2.1; omega
        have hrn : (t j).size + s.size ≤ n + s.size := by have h1 := (HN.out.ks j hj).2.2.1; omega
        go_upto_region 13 with fail
        refine wp_region_held_drew (S := fun W => W.cell? ⟨A, j, none⟩ = some (.pointer (some ⟨P j, 0, none⟩)) ∧ W.cell? ⟨o, 2, none⟩ = some (.string s)) (by kernel_rfl) (show _ from ⟨(HN.out.below (Below.refl _ _).drew).ownAt j hj, (HO.out.below (Below.refl _ _).drew).c2⟩) ?_
        intro hS
        have HN' := HN.out.below (Below.refl _ _).drew
        have HO' := HO.out.below (Below.refl _ _).drew
        clear HN HO
        revert hS HN' HO'
        generalize World.drew _ = V
        intro hS HN' HO'
        have HN : Hid (Rn w V A B P Q k t k t n) := HN'
        have HO : Hid (Ob V o (1 : Int) A1 s) := HO'
        clear HN' HO'
        refine wpAnyH_take (i := 0) (oi := { dst := some 63, op := .move (.tmp 12), type := _, pos := _, after := _, guard := none }) (v := .int .i64 (j : Int)) rfl (by kernel_rfl) (by kernel_rfl) (by kernel_rfl) (fun _ _ _ h => h) (Or.inl ⟨by rfl, by intro x _; go_simp⟩) hS ?_
        (try simp only [Act.put, List.setIfInBounds_toArray, List.set_cons_zero, List.set_cons_succ])
        refine wpAnyH_take (i := 1) (oi := { dst := some 64, op := .indexAddr 34 (.tmp 7) (.tmp 63), type := _, pos := _, after := _, guard := none }) (v := .pointer (some ⟨A, j, none⟩)) rfl (by kernel_rfl) (by kernel_rfl) (by kernel_rfl) (fun _ _ _ h => h) (Or.inl ⟨by rfl, by intro x _; go_simp⟩) hS ?_
        (try simp only [Act.put, List.setIfInBounds_toArray, List.set_cons_zero, List.set_cons_succ])
        refine wpAnyH_take (i := 2) (oi := { dst := some 65, op := .load 23 (.tmp 64), type := _, pos := _, after := _, guard := none }) (v := .pointer (some ⟨P j, 0, none⟩)) rfl (by kernel_rfl) (by kernel_rfl) (by kernel_rfl) (fun _ _ _ h => h) (Or.inl ⟨by rfl, by intro x hx; have h1 := hx.1; go_simp⟩) hS ?_
        (try simp only [Act.put, List.setIfInBounds_toArray, List.set_cons_zero, List.set_cons_succ])
        refine wpAnyH_take (i := 3) (oi := { dst := some 66, op := .fieldAddr 39 (.tmp 11) 2, type := _, pos := _, after := _, guard := none }) (v := .pointer (some ⟨o, 2, none⟩)) rfl (by kernel_rfl) (by kernel_rfl) (by kernel_rfl) (fun _ _ _ h => h) (Or.inl ⟨by rfl, by intro x _; go_simp⟩) hS ?_
        (try simp only [Act.put, List.setIfInBounds_toArray, List.set_cons_zero, List.set_cons_succ])
        refine wpAnyH_take (i := 4) (oi := { dst := some 67, op := .load 9 (.tmp 66), type := _, pos := _, after := _, guard := none }) (v := .string s) rfl (by kernel_rfl) (by kernel_rfl) (by kernel_rfl) (fun _ _ _ h => h) (Or.inl ⟨by rfl, by intro x hx; have h1 := hx.2; go_simp⟩) hS ?_
        (try simp only [Act.put, List.setIfInBounds_toArray, List.set_cons_zero, List.set_cons_succ])
        refine wpAnyH_ready (rs := [5]) (by kernel_rfl) (by simp) ?_
        refine AllReadyH.cons (o := { dst := some 68, op := .call { callee := .value (.func 6), args := #[.tmp 65, .tmp 67], argTypes := #[23, 9] }, type := _, pos := _, after := _, guard := none }) rfl (fun K hK => ?_) AllReadyH.nil
        go_simp
        refine (mwrite_any (HN.out.mc j hj) (HTT.out _ HN.out.bel).1 s hwb).mono ?_
        rintro e w5 ⟨rfl, hm5, ho5, _⟩
        have HN5 : Hid (Rn w w5 A B P Q k (upd t j (t j ++ s)) k t (n + s.size)) := HN.out.wroteOwn j hj s hm5 ho5
        have hO5 : Ob w5 o (1 : Int) A1 s := HO.out.only ho5 (by have := HO.out.ne (HN.out.mc j hj).heap (by decide); simp; omega)
        have hS5 : w5.cell? ⟨A, j, none⟩ = some (.pointer (some ⟨P j, 0, none⟩)) ∧ w5.cell? ⟨o, 2, none⟩ = some (.string s) := ⟨HN5.out.ownAt j hj, hO5.c2⟩
        refine hK.out _ _ hS5 (fun _ => ?_)
        clear hK K hm5 ho5
        (try simp only [Act.put, List.setIfInBounds_toArray, List.set_cons_zero, List.set_cons_succ])
        refine wpAnyH_take (i := 6) (oi := { dst := some 13, op := .assign (.tmp 68), type := _, pos := _, after := _, guard := none }) (v := .int .i64 0) rfl (by kernel_rfl) (by kernel_rfl) (by kernel_rfl) (fun _ _ _ h => h) (Or.inl ⟨by rfl, by intro x _; go_simp⟩) hS5 ?_
        (try simp only [Act.put, List.setIfInBounds_toArray, List.set_cons_zero, List.set_cons_succ])
        refine wpAnyH_done (by kernel_rfl) ?_ _
        clear HN HO hS hS5
        have HN : Hid (Rn w w5 A B P Q k (upd t j (t j ++ s)) k t (n + s.size)) := HN5
        have HO : Hid (Ob w5 o (1 : Int) A1 s) := hO5
        clear HN5 hO5
        go_upto_region 14 with fail
        refine wp_region_held_drew (S := fun W => W.cell? ⟨B, j, none⟩ = some (.pointer (some ⟨Q j, 0, none⟩)) ∧ W.cell? ⟨o, 2, none⟩ = some (.string s)) (by kernel_rfl) (show _ from ⟨(HN.out.below (Below.refl _ _).drew).refAt j hj, (HO.out.below (Below.refl _ _).drew).c2⟩) ?_
        intro hS
        have HN' := HN.out.below (Below.refl _ _).drew
        have HO' := HO.out.below (Below.refl _ _).drew
        clear HN HO
        revert hS HN' HO'
        generalize World.drew _ = V2
        intro hS HN' HO'
        have HN : Hid (Rn w V2 A B P Q k (upd t j (t j ++ s)) k t (n + s.size)) := HN'
        have HO : Hid (Ob V2 o (1 : Int) A1 s) := HO'
        clear HN' HO'
        refine wpAnyH_take (i := 0) (oi := { dst := some 69, op := .move (.tmp 12), type := _, pos := _, after := _, guard := none }) (v := .int .i64 (j : Int)) rfl (by kernel_rfl) (by kernel_rfl) (by kernel_rfl) (fun _ _ _ h => h) (Or.inl ⟨by rfl, by intro x _; go_simp⟩) hS ?_
        (try simp only [Act.put, List.setIfInBounds_toArray, List.set_cons_zero, List.set_cons_succ])
        refine wpAnyH_take (i := 1) (oi := { dst := some 70, op := .indexAddr 37 (.tmp 8) (.tmp 69), type := _, pos := _, after := _, guard := none }) (v := .pointer (some ⟨B, j, none⟩)) rfl (by kernel_rfl) (by kernel_rfl) (by kernel_rfl) (fun _ _ _ h => h) (Or.inl ⟨by rfl, by intro x _; go_simp⟩) hS ?_
        (try simp only [Act.put, List.setIfInBounds_toArray, List.set_cons_zero, List.set_cons_succ])
        refine wpAnyH_take (i := 2) (oi := { dst := some 71, op := .load 35 (.tmp 70), type := _, pos := _, after := _, guard := none }) (v := .pointer (some ⟨Q j, 0, none⟩)) rfl (by kernel_rfl) (by kernel_rfl) (by kernel_rfl) (fun _ _ _ h => h) (Or.inl ⟨by rfl, by intro x hx; have h1 := hx.1; go_simp⟩) hS ?_
        (try simp only [Act.put, List.setIfInBounds_toArray, List.set_cons_zero, List.set_cons_succ])
        refine wpAnyH_take (i := 3) (oi := { dst := some 72, op := .fieldAddr 39 (.tmp 11) 2, type := _, pos := _, after := _, guard := none }) (v := .pointer (some ⟨o, 2, none⟩)) rfl (by kernel_rfl) (by kernel_rfl) (by kernel_rfl) (fun _ _ _ h => h) (Or.inl ⟨by rfl, by intro x _; go_simp⟩) hS ?_
        (try simp only [Act.put, List.setIfInBounds_toArray, List.set_cons_zero, List.set_cons_succ])
        refine wpAnyH_take (i := 4) (oi := { dst := some 73, op := .load 9 (.tmp 72), type := _, pos := _, after := _, guard := none }) (v := .string s) rfl (by kernel_rfl) (by kernel_rfl) (by kernel_rfl) (fun _ _ _ h => h) (Or.inl ⟨by rfl, by intro x hx; have h1 := hx.2; go_simp⟩) hS ?_
        (try simp only [Act.put, List.setIfInBounds_toArray, List.set_cons_zero, List.set_cons_succ])
        refine wpAnyH_ready (rs := [5]) (by kernel_rfl) (by simp) ?_
        refine AllReadyH.cons (o := { dst := some 74, op := .call { callee := .value (.func 14), args := #[.tmp 71, .tmp 73], argTypes := #[35, 9] }, type := _, pos := _, after := _, guard := none }) rfl (fun K hK => ?_) AllReadyH.nil
        go_simp
        refine (rwrite_any (HN.out.rm j hj) s hrb).mono ?_
        rintro e w7 ⟨rfl, hm7, ho7⟩
        have HN7 : Hid (Rn w w7 A B P Q k (upd t j (t j ++ s)) k (upd t j (t j ++ s)) (n + s.size)) := HN.out.wroteRef j hj s hm7 ho7 hrn
        have hO7 : Ob w7 o (1 : Int) A1 s := HO.out.only ho7 (by have := HO.out.ne (HN.out.rm j hj) (by decide); simp; omega)
        have hS7 : w7.cell? ⟨B, j, none⟩ = some (.pointer (some ⟨Q j, 0, none⟩)) ∧ w7.cell? ⟨o, 2, none⟩ = some (.string s) := ⟨HN7.out.refAt j hj, hO7.c2⟩
        refine hK.out _ _ hS7 (fun _ => ?_)
        clear hK K hm7 ho7
        (try simp only [Act.put, List.setIfInBounds_toArray, List.set_cons_zero, List.set_cons_succ])
        refine wpAnyH_take (i := 6) (oi := { dst := some 14, op := .assign (.tmp 74), type := _, pos := _, after := _, guard := none }) (v := .int .i64 0) rfl (by kernel_rfl) (by kernel_rfl) (by kernel_rfl) (fun _ _ _ h => h) (Or.inl ⟨by rfl, by intro x _; go_simp⟩) hS7 ?_
        (try simp only [Act.put, List.setIfInBounds_toArray, List.set_cons_zero, List.set_cons_succ])
        refine wpAnyH_done (by kernel_rfl) ?_ _
        clear HN HO hS hS7 hO7
        go_wp2_with (go_at_call 7; refine (cnum_any _ _).mono ?_; rintro e w' ⟨rfl, rfl⟩)
        go_roundg (gk - 1)
        case measure => have := HK.out; omega
        case rel => exact ⟨i + 1, P, Q, k, _, by have := HK.out; omega, by go_num, by rw [sumS, HSi.out, HSn.out]; exact HN7.out⟩
      · have hk1 := hK1
        clear hK1
        by_cases hK1 : K1 = 2
        · have hn1 : K1 = 2 := hK1
          subst hn1
          have c3 := HN.out.ownAt j hj
          have hm := msum_any (HN.out.mc j hj) (HTT.out _ HN.out.bel).1 (by have h1 := (HN.out.ks j hj).2.2.1; rw [List.length_append, innerL_length, ← size_eq]; omega)
          go_wp2_with fail
          refine hm.mono ?_
          rintro e w5 ⟨rfl, hb5⟩
          have HN5 : Hid (Rn w w5 A B P Q k t k t n) := HN.out.below hb5
          clear HN hb5 hm c3
          have c4 := HN5.out.refAt j hj
          have hr := rmsum_any (HN5.out.rm j hj) (HTT.out _ HN5.out.bel).2.1 (HTT.out _ HN5.out.bel).2.2 (HN5.out.ks j hj).2.1 (by have h1 := (HN5.out.ks j hj).2.2.1; omega)
          go_wp2_with fail
          refine hr.mono ?_
          rintro e w6 ⟨rfl, hb6⟩
          have HN6 : Hid (Rn w w6 A B P Q k t k t n) := HN5.out.below hb6
          clear HN5 hb6 hr c4
          go_wp2
          go_roundg (gk - 1)
          case measure => have := HK.out; omega
          case rel => exact ⟨i + 1, P, Q, k, t, by have := HK.out; omega, by go_num, by rw [sumS, HSi.out, HSn.out]; exact HN6.out.more _⟩
        · have hk2 := hK1
          clear hK1
          by_cases hK1 : K1 = 3
          · have hn1 : K1 = 3 := hK1
            subst hn1
            have c2 := HO.out.c2
            have hnm := newmac_any s hss _ (HTT.out _ HN.out.bel).1 (HTT.out _ HN.out.bel).2.2
            go_wp2_with fail
            refine hnm.mono ?_
            rintro e w5 ⟨⟨p', rfl, hp', hM5⟩, hb5⟩
            have HN5 : Hid (Rn w w5 A B P Q k t k t n) := HN.out.below hb5
            have hO5 : Ob w5 o 3 A1 s := HO.out.below hb5
            have HPP : Hid ((∀ i, i < 2 → P i ≠ p') ∧ w.heap.size ≤ p') := ⟨fun i hi => by have := (HN.out.mc i hi).lt; omega, by have := HN.out.bel.size; omega⟩
            clear HN HO hb5 hnm c2 hp'
            have f5 : w5.frozen? ⟨A, j, none⟩ = false := frozen_of_heap HN5.out.own
            have HN6 : Hid (Rn w (w5.setCell ⟨A, j, none⟩ (.pointer (some ⟨p', 0, none⟩))) A B (upd P j p') Q (upd k j s) (upd t j { data := #[] }) k t n) := HN5.out.newOwn j hj s hss HPP.out.1 HPP.out.2 hM5
            have HO6 : Hid (Ob (w5.setCell ⟨A, j, none⟩ (.pointer (some ⟨p', 0, none⟩))) o 3 A1 s) := (Below.heap_setCell _ _ _ _ (by have := hO5.ne HN5.out.own (by decide); simp; omega)).trans hO5
            have c3 := HN5.out.ownAt j hj
            clear hM5 hO5 HN5 HPP
            go_upto_region 24 with fail
            refine with_world (R := fun W => Code.wp _ _ _ _ W) (Q := fun W => Rn w W A B (upd P j p') Q (upd k j s) (upd t j { data := #[] }) k t n ∧ Ob W o 3 A1 s) _ ⟨HN6.out, HO6.out⟩ ?_
            clear HN6 HO6 f5 c3
            rintro w6 ⟨hN6, hO6⟩
            have HN6 : Hid (Rn w w6 A B (upd P j p') Q (upd k j s) (upd t j { data := #[] }) k t n) := hN6
            have c2 := hO6.c2
            clear hN6
            go_wp2_with fail
            refine (rnew_any s w6).mono ?_
            rintro e w7 ⟨rfl, hm7, hb7⟩
            have HN7 : Hid (Rn w w7 A B (upd P j p') Q (upd k j s) (upd t j { data := #[] }) k t n) := HN6.out.below hb7
            have HPP : Hid ((∀ i, i < 2 → Q i ≠ w6.heap.size) ∧ w.heap.size ≤ w6.heap.size) := ⟨fun i hi => by have := (HN6.out.rm i hi).lt; omega, HN6.out.bel.size⟩
            have f7 : w7.frozen? ⟨B, j, none⟩ = false := frozen_of_heap HN7.out.ref
            have HN8 : Hid (Rn w (w7.setCell ⟨B, j, none⟩ (.pointer (some ⟨w6.heap.size, 0, none⟩))) A B (upd P j p') (upd Q j w6.heap.size) (upd k j s) (upd t j { data := #[] }) (upd k j s) (upd t j { data := #[] }) n) := HN7.out.newRef j hj s hss HPP.out.1 HPP.out.2 hm7
            have c3 := HN7.out.refAt j hj
            clear hm7 HN7 HPP hb7 HN6 hO6 c2
            go_upto_region 25 with fail
            refine with_world (R := fun W => Code.wp _ _ _ _ W) (Q := fun W => Rn w W A B (upd P j p') (upd Q j w6.heap.size) (upd k j s) (upd t j { data := #[] }) (upd k j s) (upd t j { data := #[] }) n) _ HN8.out ?_
            clear HN8 f7 c3
            intro w8 hN8
            have HN8 : Hid (Rn w w8 A B (upd P j p') (upd Q j w6.heap.size) (upd k j s) (upd t j { data := #[] }) (upd k j s) (upd t j { data := #[] }) n) := hN8
            clear hN8
            have c5 := HN8.out.ownAt j hj
            go_wp2
            go_roundg (gk - 1)
            case measure => have := HK.out; omega
            case rel => exact ⟨i + 1, _, _, _, _, by have := HK.out; omega, by go_num, by rw [sumS, HSi.out, HSn.out]; exact HN8.out.more _⟩
          · have hk3 := hK1
            have hq1 : (K1 == 1) = false := by simp [hk1]
            have hq2 : (K1 == 2) = false := by simp [hk2]
            have hq3 : (K1 == 3) = false := by simp [hk3]
            go_wp2
            go_roundg (gk - 1)
            case measure => have := HK.out; omega
            case rel => exact ⟨i + 1, P, Q, k, t, by have := HK.out; omega, by go_num, by rw [sumS, HSi.out, HSn.out]; exact HN.out.more _⟩
    · obtain rfl : i = len := by omega
      have HSM : Hid (∀ j, j < 2 → ∀ W, Rn w W A B P Q k t k t (sumS S i) → Calls Tryd.prog 8 #[.pointer (some ⟨P j, 0, none⟩)] W fun e w' => e = .returned (.string (str (hmacL (k j).data.toList (t j).data.toList))) ∧ Below W.heap.size W w') := fun j hj W h => msum_any (h.mc j hj) (HTT.out _ h.bel).1 (by have h1 := (h.ks j hj).2.2.1; rw [List.length_append, innerL_length, ← size_eq]; omega)
      have HSR : Hid (∀ j, j < 2 → ∀ W, Rn w W A B P Q k t k t (sumS S i) → Calls Tryd.prog 15 #[.pointer (some ⟨Q j, 0, none⟩)] W fun e w' => e = .returned (.string (str (hmacL (k j).data.toList (t j).data.toList))) ∧ Below W.heap.size W w') := fun j hj W h => rmsum_any (h.rm j hj) (HTT.out _ h.bel).2.1 (HTT.out _ h.bel).2.2 (h.ks j hj).2.1 (by have h1 := (h.ks j hj).2.2.1; omega)
      go_upto_region 27 with fail
      refine wp_region_held_drew (S := fun W => Rn w W A B P Q k t k t (sumS S i)) (by kernel_rfl) (hN.below (Below.refl _ _).drew) ?_
      intro hS
      clear hN
      revert hS
      generalize World.drew _ = V
      intro hS
      refine wpAnyH_take (i := 0) (oi := { dst := some 108, op := .indexAddr 34 (.tmp 7) (.const (.int .i64 0)), type := _, pos := _, after := _, guard := none }) (v := .pointer (some ⟨A, 0, none⟩)) rfl (by kernel_rfl) (by kernel_rfl) (by kernel_rfl) (fun _ _ _ h => h) (Or.inl ⟨by rfl, by intro x _; go_simp⟩) hS ?_
      (try simp only [Act.put, List.setIfInBounds_toArray, List.set_cons_zero, List.set_cons_succ])
      refine wpAnyH_take (i := 1) (oi := { dst := some 109, op := .load 23 (.tmp 108), type := _, pos := _, after := _, guard := none }) (v := .pointer (some ⟨P 0, 0, none⟩)) rfl (by kernel_rfl) (by kernel_rfl) (by kernel_rfl) (fun _ _ _ h => h) (Or.inl ⟨by rfl, by intro x hx; have h1 := hx.ownAt 0 (by omega); go_simp⟩) hS ?_
      (try simp only [Act.put, List.setIfInBounds_toArray, List.set_cons_zero, List.set_cons_succ])
      refine wpAnyH_take (i := 3) (oi := { dst := some 111, op := .indexAddr 37 (.tmp 8) (.const (.int .i64 0)), type := _, pos := _, after := _, guard := none }) (v := .pointer (some ⟨B, 0, none⟩)) rfl (by kernel_rfl) (by kernel_rfl) (by kernel_rfl) (fun _ _ _ h => h) (Or.inl ⟨by rfl, by intro x _; go_simp⟩) hS ?_
      (try simp only [Act.put, List.setIfInBounds_toArray, List.set_cons_zero, List.set_cons_succ])
      refine wpAnyH_take (i := 4) (oi := { dst := some 112, op := .load 35 (.tmp 111), type := _, pos := _, after := _, guard := none }) (v := .pointer (some ⟨Q 0, 0, none⟩)) rfl (by kernel_rfl) (by kernel_rfl) (by kernel_rfl) (fun _ _ _ h => h) (Or.inl ⟨by rfl, by intro x hx; have h1 := hx.refAt 0 (by omega); go_simp⟩) hS ?_
      (try simp only [Act.put, List.setIfInBounds_toArray, List.set_cons_zero, List.set_cons_succ])
      refine wpAnyH_ready (rs := [2]) (by kernel_rfl) (by simp) ?_
      refine AllReadyH.cons (o := { dst := some 110, op := .call { callee := .value (.func 8), args := #[.tmp 109], argTypes := #[23] }, type := _, pos := _, after := _, guard := none }) rfl (fun K hK => ?_) AllReadyH.nil
      go_simp
      refine (HSM.out 0 (by omega) _ hS).mono ?_
      rintro e v1 ⟨rfl, hb'⟩
      have hS' := hS.below hb'
      refine hK.out _ _ hS' (fun _ => ?_)
      clear hK K hb' hS
      have hS := hS'
      clear hS'
      (try simp only [Act.put, List.setIfInBounds_toArray, List.set_cons_zero, List.set_cons_succ])
      refine wpAnyH_ready (rs := [5]) (by kernel_rfl) (by simp) ?_
      refine AllReadyH.cons (o := { dst := some 113, op := .call { callee := .value (.func 15), args := #[.tmp 112], argTypes := #[35] }, type := _, pos := _, after := _, guard := none }) rfl (fun K hK => ?_) AllReadyH.nil
      go_simp
      refine (HSR.out 0 (by omega) _ hS).mono ?_
      rintro e v2 ⟨rfl, hb'⟩
      have hS' := hS.below hb'
      refine hK.out _ _ hS' (fun _ => ?_)
      clear hK K hb' hS
      have hS := hS'
      clear hS'
      (try simp only [Act.put, List.setIfInBounds_toArray, List.set_cons_zero, List.set_cons_succ])
      refine wpAnyH_take (i := 6) (oi := { dst := some 114, op := .binOp .eql 9 (.tmp 110) (.tmp 113) 9, type := _, pos := _, after := _, guard := none }) (v := .bool true) rfl (by kernel_rfl) (by kernel_rfl) (by kernel_rfl) (fun _ _ _ h => h) (Or.inl ⟨by rfl, by intro x _; go_simp⟩) hS ?_
      (try simp only [Act.put, List.setIfInBounds_toArray, List.set_cons_zero, List.set_cons_succ])
      refine wpAnyH_take (i := 7) (oi := { dst := some 115, op := .move (.tmp 114), type := _, pos := _, after := _, guard := none }) (v := .bool true) rfl (by kernel_rfl) (by kernel_rfl) (by kernel_rfl) (fun _ _ _ h => h) (Or.inl ⟨by rfl, by intro x _; go_simp⟩) hS ?_
      (try simp only [Act.put, List.setIfInBounds_toArray, List.set_cons_zero, List.set_cons_succ])
      refine wpAnyH_take (i := 8) (oi := { dst := some 116, op := .indexAddr 34 (.tmp 7) (.const (.int .i64 1)), type := _, pos := _, after := _, guard := some (7, true) }) (v := .pointer (some ⟨A, 1, none⟩)) rfl (by kernel_rfl) (by kernel_rfl) (by kernel_rfl) (fun _ _ _ h => h) (Or.inl ⟨by rfl, by intro x _; go_simp⟩) hS ?_
      (try simp only [Act.put, List.setIfInBounds_toArray, List.set_cons_zero, List.set_cons_succ])
      refine wpAnyH_take (i := 9) (oi := { dst := some 117, op := .load 23 (.tmp 116), type := _, pos := _, after := _, guard := some (7, true) }) (v := .pointer (some ⟨P 1, 0, none⟩)) rfl (by kernel_rfl) (by kernel_rfl) (by kernel_rfl) (fun _ _ _ h => h) (Or.inl ⟨by rfl, by intro x hx; have h1 := hx.ownAt 1 (by omega); go_simp⟩) hS ?_
      (try simp only [Act.put, List.setIfInBounds_toArray, List.set_cons_zero, List.set_cons_succ])
      refine wpAnyH_take (i := 11) (oi := { dst := some 119, op := .indexAddr 37 (.tmp 8) (.const (.int .i64 1)), type := _, pos := _, after := _, guard := some (7, true) }) (v := .pointer (some ⟨B, 1, none⟩)) rfl (by kernel_rfl) (by kernel_rfl) (by kernel_rfl) (fun _ _ _ h => h) (Or.inl ⟨by rfl, by intro x _; go_simp⟩) hS ?_
      (try simp only [Act.put, List.setIfInBounds_toArray, List.set_cons_zero, List.set_cons_succ])
      refine wpAnyH_take (i := 12) (oi := { dst := some 120, op := .load 35 (.tmp 119), type := _, pos := _, after := _, guard := some (7, true) }) (v := .pointer (some ⟨Q 1, 0, none⟩)) rfl (by kernel_rfl) (by kernel_rfl) (by kernel_rfl) (fun _ _ _ h => h) (Or.inl ⟨by rfl, by intro x hx; have h1 := hx.refAt 1 (by omega); go_simp⟩) hS ?_
      (try simp only [Act.put, List.setIfInBounds_toArray, List.set_cons_zero, List.set_cons_succ])
      refine wpAnyH_ready (rs := [10]) (by kernel_rfl) (by simp) ?_
      refine AllReadyH.cons (o := { dst := some 118, op := .call { callee := .value (.func 8), args := #[.tmp 117], argTypes := #[23] }, type := _, pos := _, after := _, guard := some (7, true) }) rfl (fun K hK => ?_) AllReadyH.nil
      go_simp
      refine (HSM.out 1 (by omega) _ hS).mono ?_
      rintro e v3 ⟨rfl, hb'⟩
      have hS' := hS.below hb'
      refine hK.out _ _ hS' (fun _ => ?_)
      clear hK K hb' hS
      have hS := hS'
      clear hS'
      (try simp only [Act.put, List.setIfInBounds_toArray, List.set_cons_zero, List.set_cons_succ])
      refine wpAnyH_ready (rs := [13]) (by kernel_rfl) (by simp) ?_
      refine AllReadyH.cons (o := { dst := some 121, op := .call { callee := .value (.func 15), args := #[.tmp 120], argTypes := #[35] }, type := _, pos := _, after := _, guard := some (7, true) }) rfl (fun K hK => ?_) AllReadyH.nil
      go_simp
      refine (HSR.out 1 (by omega) _ hS).mono ?_
      rintro e v4 ⟨rfl, hb'⟩
      have hS' := hS.below hb'
      refine hK.out _ _ hS' (fun _ => ?_)
      clear hK K hb' hS
      have hS := hS'
      clear hS'
      (try simp only [Act.put, List.setIfInBounds_toArray, List.set_cons_zero, List.set_cons_succ])
      refine wpAnyH_take (i := 14) (oi := { dst := some 122, op := .binOp .eql 9 (.tmp 118) (.tmp 121) 9, type := _, pos := _, after := _, guard := some (7, true) }) (v := .bool true) rfl (by kernel_rfl) (by kernel_rfl) (by kernel_rfl) (fun _ _ _ h => h) (Or.inl ⟨by rfl, by intro x _; go_simp⟩) hS ?_
      (try simp only [Act.put, List.setIfInBounds_toArray, List.set_cons_zero, List.set_cons_succ])
      refine wpAnyH_take (i := 15) (oi := { dst := some 123, op := .pick (.tmp 115) (.tmp 122) (.const (.bool false)), type := _, pos := _, after := _, guard := none }) (v := .bool true) rfl (by kernel_rfl) (by kernel_rfl) (by kernel_rfl) (fun _ _ _ h => h) (Or.inl ⟨by rfl, by intro x _; go_simp⟩) hS ?_
      (try simp only [Act.put, List.setIfInBounds_toArray, List.set_cons_zero, List.set_cons_succ])
      refine wpAnyH_take (i := 16) (oi := { dst := some 6, op := .assign (.tmp 123), type := _, pos := _, after := _, guard := none }) (v := .bool true) rfl (by kernel_rfl) (by kernel_rfl) (by kernel_rfl) (fun _ _ _ h => h) (Or.inl ⟨by rfl, by intro x _; go_simp⟩) hS ?_
      (try simp only [Act.put, List.setIfInBounds_toArray, List.set_cons_zero, List.set_cons_succ])
      refine wpAnyH_done (by kernel_rfl) ?_ _
      go_wp2
      go_ret
      exact ⟨rfl, hS.bel⟩

end Go.Proofs.YthfpodbbmeannaaDoor
