import Derived.Test.YtbjiamaaocjbfaaDoorLwF
namespace Go.Proofs.YtbjiamaaocjbfaaDoor.Kl
open Go.RowKit Go.Lib Go.Deep Kr Kp

def tx (t : List UInt8) (i : Nat) : List UInt8 := if i = 2 then anL else t
theorem tx_le {t : List UInt8} (h : t.length ≤ 4194304) (i : Nat) : (tx t i).length ≤ 4194304 := by
  unfold tx
  split
  · have := an_le; omega
  · exact h
noncomputable def LL (t : List UInt8) (i : Nat) : List Slot := parseS (tx t i)
theorem LL_le (t : List UInt8) (i : Nat) : (LL t i).length ≤ 8 := by
  unfold LL
  by_cases h : parseE (tx t i) = 0
  · exact (right_sizes (print_parse h).2).2.2.1
  · unfold parseS
    split
    · simp
    · rw [if_neg h]
      simp
def woL : List UInt8 := [119, 114, 105, 116, 116, 101, 110, 32, 111, 118, 101, 114]
def ov (i k : Nat) : Slot := ⟨woL, -1000 * ((i : Int) + 1) - (k : Int), []⟩
def over (i n : Nat) : List Slot := (List.range n).map (ov i)
def mixO (i k : Nat) (ss : List Slot) : List Slot := (over i ss.length).take k ++ ss.drop k
theorem over_length (i n : Nat) : (over i n).length = n := by simp [over]
theorem over_at (i n k : Nat) (h : k < n) : (over i n)[k]? = some (ov i k) := by
  unfold over
  rw [List.getElem?_map, List.getElem?_range h]
  rfl
theorem mix_length (i k : Nat) (ss : List Slot) (h : k ≤ ss.length) : (mixO i k ss).length = ss.length := by
  unfold mixO
  rw [List.length_append, List.length_take, over_length, List.length_drop]
  omega
theorem mix_zero (i : Nat) (ss : List Slot) : mixO i 0 ss = ss := by simp [mixO]
theorem mix_all (i : Nat) (ss : List Slot) : mixO i ss.length ss = over i ss.length := by
  unfold mixO
  rw [List.take_of_length_le (by rw [over_length]; omega), List.drop_length, List.append_nil]
theorem mix_set (i k : Nat) (ss : List Slot) (h : k < ss.length) : (mixO i k ss).set k (ov i k) = mixO i (k + 1) ss := by
  unfold mixO
  have hl : ((over i ss.length).take k).length = k := by rw [List.length_take, over_length]; omega
  rw [List.set_append_right _ _ (by omega), hl, Nat.sub_self, List.take_add_one, over_at i _ k h, List.append_assoc]
  congr 1
  rw [List.drop_eq_getElem_cons h, List.set_cons_zero]
  rfl
noncomputable def L3 (t : List UInt8) (i j : Nat) : List Slot := if j < i then over j (LL t j).length else LL t j
noncomputable def L3k (t : List UInt8) (i k j : Nat) : List Slot := if j = i then mixO i k (LL t i) else L3 t i j
theorem L3_zero (t : List UInt8) : L3 t 0 = LL t := by funext j; simp [L3]
theorem L3k_zero (t : List UInt8) (i : Nat) : L3k t i 0 = L3 t i := by
  funext j
  unfold L3k
  split
  · next h => subst h; rw [mix_zero]; simp [L3]
  · rfl
theorem L3k_all (t : List UInt8) (i : Nat) : L3k t i (LL t i).length = L3 t (i + 1) := by
  funext j
  unfold L3k L3
  by_cases h : j = i
  · subst h
    rw [if_pos rfl, if_pos (by omega), mix_all]
  · rw [if_neg h]
    by_cases h2 : j < i
    · rw [if_pos h2, if_pos (by omega)]
    · rw [if_neg h2, if_neg (by omega)]

/-- the lists, and the list of them -/
structure St (W0 W : World) (gl : Nat) (hs : List Hd) (L : Nat → List Slot) : Prop where
  h : Hnd W W0.heap.size hs L
  c : ∀ (j : Nat) x, hs[j]? = some x → W.cell? ⟨gl, j, none⟩ = some (.slice x.1 x.2.1 x.2.2)
  t : ∃ cur, W.heap[gl]? = some (.cells cur 22 (0, 0))
  b : Below W0.heap.size W0 W
theorem St.lt {W0 W : World} {gl : Nat} {hs : List Hd} {L : Nat → List Slot} (h : St W0 W gl hs L) : gl < W.heap.size := by
  obtain ⟨cur, hc⟩ := h.t
  exact heap_lt hc
theorem St.ne {W0 W : World} {gl : Nat} {hs : List Hd} {L : Nat → List Slot} (h : St W0 W gl hs L) {j : Nat} {x : Hd} (hj : hs[j]? = some x) {g : Nat} (hg : (sl x).ownBlock = some g) : gl ≠ g := fun e => by
  subst e
  obtain ⟨cur, hc⟩ := h.t
  obtain ⟨cur', hc'⟩ := own_type (h.h.own j x hj) gl hg
  rw [hc] at hc'
  injection hc' with q
  injection q with _ q _
  exact absurd q (by decide)
theorem St.below {W0 W W' : World} {gl : Nat} {hs : List Hd} {L : Nat → List Slot} (h : St W0 W gl hs L) (hb : Below W.heap.size W W') : St W0 W' gl hs L := by
  obtain ⟨cur, hc⟩ := h.t
  exact ⟨h.h.below hb, fun j x hx => (hb.cell (p := ⟨gl, j, none⟩) h.lt).trans (h.c j x hx), ⟨cur, (hb.block _ h.lt).trans hc⟩, h.b.trans (hb.mono h.b.size)⟩
theorem St.put {W0 W : World} {gl : Nat} {hs : List Hd} {L : Nat → List Slot} (S : St W0 W gl hs L) {i : Nat} {x : Hd} (hi : hs[i]? = some x) {g : Nat} (hg : x.1 = some ⟨g, 0, none⟩) (hB : W0.heap.size ≤ g) (u : Nat) (s : Slot)
    (ho : OwnS (((W.setCell ⟨g, u * 3, none⟩ (.string (str s.salt))).setCell ⟨g, u * 3 + 1, none⟩ (.int .i64 s.rounds)).setCell ⟨g, u * 3 + 2, none⟩ (.string (str s.wrapped))) W0.heap.size (sl x) ((L i).set u s)) (L' : Nat → List Slot) (hL : ∀ j, j ≠ i → L' j = L j) (hLi : L' i = (L i).set u s) :
    St W0 (((W.setCell ⟨g, u * 3, none⟩ (.string (str s.salt))).setCell ⟨g, u * 3 + 1, none⟩ (.int .i64 s.rounds)).setCell ⟨g, u * 3 + 2, none⟩ (.string (str s.wrapped))) gl hs L' := by
  have hgb : (sl x).ownBlock = some g := by unfold sl; rw [hg]; rfl
  have hne := S.ne hi hgb
  obtain ⟨cur, hc⟩ := S.t
  exact ⟨S.h.put hi hg u s ho L' hL hLi, fun j y hy => (World.cell?_of_block (w := W) (heap_put3 hne _ _ _ _ _ _)).trans (S.c j y hy), ⟨cur, (heap_put3 hne _ _ _ _ _ _).trans hc⟩, ((S.b.setCell hB _).setCell hB _).setCell hB _⟩

def mkL (i : Nat) : List UInt8 := [98, 101, 104, 105, 110, 100, 32] ++ dec i
theorem mk_add (i : Nat) : ({ data := #[98, 101, 104, 105, 110, 100, 32] } : ByteArray) ++ str (dec i) = str (mkL i) := by
  rw [show ({ data := #[98, 101, 104, 105, 110, 100, 32] } : ByteArray) = str [98, 101, 104, 105, 110, 100, 32] by rfl, strs_append]
  rfl
theorem dec_small (i : Nat) (h : i < 3) : (str (dec i)).size ≤ 30 := by
  rw [str_size, (dec_length i).1 (by omega)]
  omega
noncomputable def L4 (t : List UInt8) (j : Nat) : List Slot := L3 t 3 j ++ List.replicate 64 ⟨mkL j, 0, []⟩
/-- the longer lists -/
structure Xt (W0 W : World) (hs xs : List Hd) (t : List UInt8) : Prop where
  o : ∀ (j : Nat) x, xs[j]? = some x → OwnS W W0.heap.size (sl x) (L4 t j)
  ne : ∀ (j k : Nat) x h, j ≠ k → xs[j]? = some x → hs[k]? = some h → ∀ g, (sl x).ownBlock = some g → (sl h).ownBlock ≠ some g
theorem Xt.below {W0 W W' : World} {hs xs : List Hd} {t : List UInt8} (h : Xt W0 W hs xs t) (hb : Below W.heap.size W W') : Xt W0 W' hs xs t := ⟨fun j x hx => (h.o j x hx).below hb, h.ne⟩
theorem Xt.grown {W0 W W' : World} {hs xs : List Hd} {t : List UInt8} {B' n : Nat} {lv : Value} {ys : List Value} (h : Xt W0 W hs xs t) (hl : W.ownsRow B' 22 1 lv n ys) (hg : W.grownBy W' lv.ownBlock) : Xt W0 W' hs xs t := ⟨fun j x hx => own_grown (h.o j x hx) hl hg, h.ne⟩
theorem lng_below {W w' : World} {B B0 : Nat} {v x : Value} {ss xs : List Slot} (h : Lng W B v ss w' x xs) (hB : B0 ≤ B) (hW : B0 ≤ W.heap.size) : Below B0 W w' :=
  ⟨h.frame.os, h.frame.tape, h.frame.output, h.frame.size, fun k hk => h.frame.block k (by omega) (fun e => by
    have := (own_lt h.old k e.symm).1
    omega)⟩
theorem St.longer {W0 W w' : World} {gl : Nat} {hs : List Hd} {L : Nat → List Slot} {i : Nat} {h : Hd} {x : Value} {xs : List Slot} (S : St W0 W gl hs L) (hi : hs[i]? = some h) (hl : Lng W W0.heap.size (sl h) (L i) w' x xs) : St W0 w' gl hs L := by
  obtain ⟨cur, hc⟩ := S.t
  have hk : w'.heap[gl]? = W.heap[gl]? := hl.frame.block gl S.lt (fun e => S.ne hi e.symm rfl)
  exact ⟨S.h.longer hi hl, fun j y hy => (World.cell?_of_block (w := W) hk).trans (S.c j y hy), ⟨cur, hk.trans hc⟩, S.b.trans (lng_below hl (Nat.le_refl _) S.b.size)⟩
theorem Xt.longer {W0 W w' : World} {gl : Nat} {hs xs : List Hd} {t : List UInt8} {h y : Hd} (S : St W0 W gl hs (L3 t 3)) (X : Xt W0 W hs xs t) (hi : hs[xs.length]? = some h) (hl : Lng W W0.heap.size (sl h) (L3 t 3 xs.length) w' (sl y) (L4 t xs.length)) : Xt W0 w' hs (xs ++ [y]) t := by
  have at_ : ∀ (j : Nat) z, (xs ++ [y])[j]? = some z → (j < xs.length ∧ xs[j]? = some z) ∨ (j = xs.length ∧ z = y) := fun j z hz => by
    by_cases hj : j < xs.length
    · rw [List.getElem?_append_left hj] at hz
      exact .inl ⟨hj, hz⟩
    · rw [List.getElem?_append_right (by omega)] at hz
      have h0 : j - xs.length = 0 := by
        have := (List.getElem?_eq_some_iff.1 hz).1
        simp at this
        omega
      rw [h0] at hz
      exact .inr ⟨by omega, (Option.some.inj hz).symm⟩
  refine ⟨fun j z hz => ?_, fun j k z h' hjk hz hh' g hg hg' => ?_⟩
  · rcases at_ j z hz with ⟨hj, h1⟩ | ⟨rfl, rfl⟩
    · exact own_kept (X.o j z h1) (fun g hg => hl.frame.block g (own_lt (X.o j z h1) g hg).2 (fun e => X.ne j xs.length z h (by omega) h1 hi g hg e.symm))
    · exact hl.new
  · rcases at_ j z hz with ⟨hj, h1⟩ | ⟨rfl, rfl⟩
    · exact X.ne j k z h' hjk h1 hh' g hg hg'
    · rcases hl.blk with ⟨a, n, n', c, e1, e2⟩ | hh
      · refine S.h.ne xs.length k h h' hjk hi hh' g ?_ hg'
        rw [e1]
        rw [e2] at hg
        cases a with
        | none => simp [Value.ownBlock] at hg
        | some a => simpa [Value.ownBlock] using hg
      · have a := hh g hg
        have b := (own_lt (S.h.own k h' hh') g hg').2
        omega
theorem St.grownM {W0 W W' : World} {gl : Nat} {hs : List Hd} {L : Nat → List Slot} {B' n : Nat} {lv : Value} {ys : List Value} (S : St W0 W gl hs L) (hl : W.ownsRow B' 22 1 lv n ys) (hB : gl < B') (h0 : W0.heap.size ≤ B') (hW : B' ≤ W.heap.size) (hg : W.grownBy W' lv.ownBlock) : St W0 W' gl hs L := by
  obtain ⟨cur, hc⟩ := S.t
  have hk : W'.heap[gl]? = W.heap[gl]? := hg.block gl S.lt (fun e => by have := (World.ownsRow.lt hl gl e.symm).1; omega)
  exact ⟨S.h.grown hl hg, fun j y hy => (World.cell?_of_block (w := W) hk).trans (S.c j y hy), ⟨cur, hk.trans hc⟩, S.b.trans ((grown_below hg hW hl).mono h0)⟩
theorem rowM_longer {W w' : World} {B B' n : Nat} {v x lv : Value} {ss xs : List Slot} {ys : List Value} (hr : W.ownsRow B' 22 1 lv n ys) (ho : OwnS W B v ss) (hl : Lng W B v ss w' x xs) : w'.ownsRow B' 22 1 lv n ys :=
  row_kept hr fun g cs hc => hl.frame.block g (heap_lt hc) (fun e => by
    obtain ⟨cur, hc'⟩ := own_type ho g e.symm
    rw [hc] at hc'
    injection hc' with q
    injection q with _ q _
    exact absurd q (by decide))
theorem L3_le (t : List UInt8) (i j : Nat) : (L3 t i j).length ≤ 8 := by
  have := LL_le t j
  unfold L3
  split
  · rw [over_length]; exact this
  · exact this

set_option maxRecDepth 20000 in
set_option maxHeartbeats 4000000 in
theorem apart_any (t : List UInt8) (w : World) (ht : t.length ≤ 4194304) (hT : Tabs w) (hRT : RTabs w) (hI : ITab w) (h4 : 8 ≤ w.heap.size) :
    Calls Tryd.prog 25 #[.string (str t)] w fun e w' => e = .returned (.bool true) ∧ Below w.heap.size w w' := by
  have ca := another_any w hI hRT h4
  go_enter Tryd.func25, Tryd.ntmps25
  go_wp2_with fail
  refine ca.mono ?_
  clear ca
  rintro e w1 ⟨rfl, hb1⟩
  obtain ⟨W0, hW0⟩ : ∃ W, w1.alloc (.cells #[.string (str t), .string (str t), .string (str anL)] 80) = W := ⟨_, rfl⟩
  have hb0 : Below w.heap.size w W0 := by rw [← hW0]; exact hb1.alloc hb1.size _
  have hs0 : W0.heap.size = w1.heap.size + 1 := by rw [← hW0]; simp
  have hh0 : W0.heap[w1.heap.size]? = some (.cells #[.string (str t), .string (str t), .string (str anL)] 80 (0, 0)) := by rw [← hW0]; exact heap_new _ _
  obtain ⟨X, hX⟩ : ∃ X, w1.heap.size = X := ⟨_, rfl⟩
  rw [hX] at hs0 hh0
  have hX0 : w.heap.size ≤ X := by have := hb1.size; omega
  have HW : Hid (∀ W, Below W0.heap.size W0 W → (∀ i, i < 3 → W.cell? ⟨X, i, none⟩ = some (.string (str (tx t i)))) ∧ Below w.heap.size w W) := fun W hb => by
    have hh := (hb.block X (by omega)).trans hh0
    refine ⟨fun i hi => ?_, hb0.trans (hb.mono (by omega))⟩
    rcases (by omega : i = 0 ∨ i = 1 ∨ i = 2) with rfl | rfl | rfl <;> exact (cell_of_heap hh).trans rfl
  have KP : Hid (∀ W i, Below W0.heap.size W0 W → Calls Tryd.prog 10 #[.string (str (tx t i))] W fun e w' => (∃ a n c, e = .returned (.tuple #[.agg #[.string (str (parseI (tx t i))), .slice a n c], .int .i64 (parseE (tx t i))]) ∧ OwnS w' W.heap.size (sl (a, n, c)) (LL t i)) ∧ Below W.heap.size W w') := fun W i hb => by
    have hb' := (HW.out W hb).2
    have h := parse_any (str (tx t i)) W (by rw [str_data]; exact tx_le ht i) (hT.below hb' (by omega)) (by have := hb'.size; omega)
    rw [str_data] at h
    exact h
  have KR : Hid (∀ W i, Below W0.heap.size W0 W → Calls Tryd.prog 26 #[.string (str (tx t i))] W (ParsePost (tx t i) W)) := fun W i hb => by
    have hb' := (HW.out W hb).2
    have h := rparse_any (str (tx t i)) (by rw [str_size]; exact tx_le ht i) W (hI.below hb' (by omega)) (hRT.below hb' (by omega)) (by have := hb'.size; omega)
    rw [str_data] at h
    exact h
  have HTb : Hid (Tabs w ∧ RTabs w ∧ ITab w) := ⟨hT, hRT, hI⟩
  clear hb1 hh0 hT hRT hI hb0
  obtain ⟨i1, hi1, h10, h11, h12⟩ := info_L
  go_wp2_with fail
  clear hX hW0
  go_loopg [4, 5] 3 (fun gk v iv wr => ∃ (i : Nat) (hs : List Hd), i + gk = 3 ∧ iv = .int .i64 (i : Int) ∧ hs.length = i ∧ Hid (wr.ownsRow W0.heap.size 22 1 v i (hs.map sl)) ∧ Hid (Hnd wr W0.heap.size hs (LL t)) ∧ Hid (Below W0.heap.size W0 wr))
  case atStart => exact ⟨0, [], by omega, rfl, rfl, World.ownsRow_nil _ _ _ _, ⟨(fun j h e => by cases e), (fun j k h h' _ e => by cases e)⟩, Below.refl _ _⟩
  case round =>
    obtain ⟨i, hs, hi, rfl, hsl, HO, HH, HB⟩ := hrel
    have HK : Hid (i + gk = 3) := hi
    have hi3 : i ≤ 3 := by omega
    clear hi
    by_cases hlt : i < 3
    · have hltI : (i : Int) < 3 := by omega
      have x0 := (HW.out _ HB.out).1 i hlt
      have c1 := KP.out wr i HB.out
      obtain ⟨pe, hpe⟩ : ∃ pe, parseE (tx t i) = pe := ⟨_, rfl⟩
      rw [hpe] at c1
      generalize str (parseI (tx t i)) = pid at c1
      go_wp2_with fail
      refine c1.mono ?_
      clear c1
      rintro e w2 ⟨⟨a, n, c, rfl, ho2⟩, hb2⟩
      obtain ⟨W2, hW2⟩ : ∃ W, w2.alloc (.cells #[.string pid, .slice a n c] 24) = W := ⟨_, rfl⟩
      have hbW2 : Below wr.heap.size wr W2 := by rw [← hW2]; exact hb2.alloc hb2.size _
      have hb02 : Below W0.heap.size W0 W2 := HB.out.trans (hbW2.mono HB.out.size)
      have hr2 : W2.heap[w2.heap.size]? = some (.cells #[.string pid, .slice a n c] 24 (0, 0)) := by rw [← hW2]; exact heap_new _ _
      have hH2 : Hnd W2 W0.heap.size (hs ++ [(a, n, c)]) (LL t) := by
        have h := (HH.out.snoc hb2 (by rw [hsl]; exact ho2) HB.out.size).below ((Below.refl _ _).alloc (Nat.le_refl _) (.cells #[.string pid, .slice a n c] 24))
        rw [hW2] at h
        exact h
      have hO2 : W2.ownsRow W0.heap.size 22 1 _ i (hs.map sl) := owns_bel HO.out hbW2
      have x2 := (HW.out _ hb02).1 i hlt
      have c2 := KR.out W2 i hb02
      have HH2 : Hid _ := hH2
      have HO2 : Hid _ := hO2
      have HB2 : Hid _ := hb02
      have HR2 : Hid _ := hr2
      clear x0 hH2 hO2 hb02 hr2 ho2 hb2 hbW2 HH HO
      go_wp2_with fail
      refine c2.mono ?_
      clear c2
      rintro e w3 ⟨⟨v, rfl, ho3⟩, hb3⟩
      obtain ⟨a3, c3, rfl⟩ := ho3.len
      rw [hpe]
      generalize (parseS (tx t i)).length = n3 at *
      generalize str (parseI (tx t i)) = pid3
      obtain ⟨W3, hW3⟩ : ∃ W, w3.alloc (.cells #[.string pid3, .slice a3 n3 c3] 24) = W := ⟨_, rfl⟩
      have hbW3 : Below W2.heap.size W2 W3 := by rw [← hW3]; exact hb3.alloc hb3.size _
      have x3 : W3.cell? ⟨w2.heap.size, 1, none⟩ = some (.slice a n c) := (cell_of_heap ((hbW3.block _ (heap_lt HR2.out)).trans HR2.out)).trans rfl
      have hb4 : Below W2.heap.size W2 (W3.alloc (.cells #[.slice a n c] 22)) := hbW3.alloc hbW3.size _
      have HO4 : Hid ((W3.alloc (.cells #[.slice a n c] 22)).ownsRow W0.heap.size 22 1 _ i (hs.map sl)) := owns_bel HO2.out hb4
      have HH4 : Hid (Hnd (W3.alloc (.cells #[.slice a n c] 22)) W0.heap.size (hs ++ [(a, n, c)]) (LL t)) := HH2.out.below hb4
      have HB4 : Hid (Below W0.heap.size W0 (W3.alloc (.cells #[.slice a n c] 22))) := HB2.out.trans (hb4.mono HB2.out.size)
      have HN4 : Hid (∀ (j : Nat) q, ([.slice a n c] : List Value)[j]? = some q → (W3.alloc (.cells #[.slice a n c] 22)).cell? (Addr.add ⟨W3.heap.size, 0, none⟩ j) = some q) := fun j q h => cells_new W3 #[.slice a n c] 22 j q (by simpa using h)
      have hone : ∀ q ∈ ([.slice a n c] : List Value), q.oneCell' = true := fun q hq => by
        simp at hq
        subst hq
        rfl
      clear x2 HO2 HH2 HB2 HR2 hb3 hb4 hbW3 ho3 hW2 HB
      go_wp2_with (first | (go_at_call 7; refine (lnum7 _ _).mono ?_; rintro e wn ⟨rfl, rfl⟩) | (at_builtin; refine wpList_append_own _ rfl _ _ 81 rfl W0.heap.size 22 i1 (.slice none 0 0) 1 24 Tryd.underlying81 hi1 h10 h11 h12 rfl (by decide) _ i (hs.map sl) rfl HO4.out ⟨W3.heap.size, 0, none⟩ 1 1 [.slice a n c] rfl rfl HN4.out hone (by unfold maxLen; omega) (by omega) HB4.out.size ?_; intro v' w5 hown' hgrow' _; refine Hid.out ?_))
      unfold Hid
      have HH5 : Hid (Hnd w5 W0.heap.size (hs ++ [(a, n, c)]) (LL t)) := HH4.out.grown HO4.out hgrow'
      have HB5 : Hid (Below W0.heap.size W0 w5) := HB4.out.trans (grown_below hgrow' HB4.out.size HO4.out)
      have HO5 : Hid (w5.ownsRow W0.heap.size 22 1 v' (i + 1) ((hs ++ [(a, n, c)]).map sl)) := by
        show World.ownsRow _ _ _ _ _ _ _
        rw [List.map_append]
        exact hown'
      clear hown' hgrow' HO4 HH4 HB4 HN4 hW3
      go_wp2
      go_roundg (gk - 1)
      case measure => have := HK.out; omega
      case rel => exact ⟨i + 1, hs ++ [(a, n, c)], by have := HK.out; omega, by go_num, by rw [List.length_append, hsl]; rfl, HO5, HH5, HB5⟩
    · obtain rfl : i = 3 := by omega
      have hltI : ¬ ((3 : Nat) : Int) < 3 := by omega
      obtain ⟨al, cl, rfl⟩ := owns_len HO.out
      obtain ⟨gl, rfl, hgl, hglT, hcl⟩ := rowL HO.out (by omega)
      obtain ⟨U, hUe⟩ : ∃ U, U = wr := ⟨_, rfl⟩
      subst hUe
      have hS : ∀ j, j < 3 → ∃ x, hs[j]? = some x := fun j hj => ⟨_, List.getElem?_eq_getElem (by omega)⟩
      have HLc : Hid (∀ W, Below U.heap.size U W → ∀ (j : Nat) x, hs[j]? = some x → W.cell? ⟨gl, j, none⟩ = some (.slice x.1 x.2.1 x.2.2)) := fun W hb j x hx => (hb.cell (p := ⟨gl, j, none⟩) hgl).trans (hcl j x hx)
      have HSS : Hid _ := hS
      have HLT : Hid _ := hglT
      clear hcl hglT hS
      go_wp2
      go_loopg [10] 3 (fun gk iv wr => ∃ i : Nat, i + gk = 3 ∧ iv = .int .i64 (i : Int) ∧ Hid (Below U.heap.size U wr))
      case atStart => exact ⟨0, by omega, rfl, Below.refl _ _⟩
      case round =>
        obtain ⟨i, hi, rfl, HBr⟩ := hrel
        have HK2 : Hid (i + gk = 3) := hi
        have hi3 : i ≤ 3 := by omega
        clear hi
        by_cases hlt : i < 3
        · have hltI : (i : Int) < 3 := by omega
          have hb0 : Below W0.heap.size W0 wr := HB.out.trans (HBr.out.mono HB.out.size)
          have x0 := (HW.out _ hb0).1 i hlt
          have c2 := KR.out wr i hb0
          clear hb0
          go_wp2_with fail
          refine c2.mono ?_
          clear c2
          rintro e w3 ⟨⟨v, rfl, ho3⟩, hb3⟩
          obtain ⟨a3, c3, rfl⟩ := ho3.len
          obtain ⟨n3, hn3⟩ : ∃ n3, (parseS (tx t i)).length = n3 := ⟨_, rfl⟩
          rw [hn3] at ho3
          rw [hn3]
          generalize str (parseI (tx t i)) = pid3
          generalize parseE (tx t i) = pe3
          obtain ⟨W3, hW3⟩ : ∃ W, w3.alloc (.cells #[.string pid3, .slice a3 n3 c3] 24) = W := ⟨_, rfl⟩
          have hbW3 : Below wr.heap.size wr W3 := by rw [← hW3]; exact hb3.alloc hb3.size _
          have hb3' : Below U.heap.size U W3 := HBr.out.trans (hbW3.mono HBr.out.size)
          have hr3 : W3.heap[w3.heap.size]? = some (.cells #[.string pid3, .slice a3 n3 c3] 24 (0, 0)) := by rw [← hW3]; exact heap_new _ _
          have y1 : W3.cell? ⟨w3.heap.size, 1, none⟩ = some (.slice a3 n3 c3) := (cell_of_heap hr3).trans rfl
          obtain ⟨x, hx⟩ := HSS.out i hlt
          have y2 := HLc.out _ hb3' i x hx
          have hsee1 : SeeS W3 (.slice x.1 x.2.1 x.2.2) (LL t i) := SeeS.of_own ((HH.out.own i x hx).below hb3')
          have hsee2 : SeeS W3 (.slice a3 n3 c3) (LL t i) := by
            have h := (SeeS.of_own ho3).below ((Below.refl _ _).alloc (Nat.le_refl _) (.cells #[.string pid3, .slice a3 n3 c3] 24))
            rw [hW3] at h
            exact h
          have hll : (LL t i).length ≤ 9223372036854775807 := by
            have h := own_at (HH.out.own i x hx) rfl
            rcases h.2 with ⟨_, q⟩ | ⟨_, _, _, _, _, _, q1, q2, _⟩
            · omega
            · have : maxLen = 9223372036854775807 := rfl
              omega
          have K6 : Hid (∀ k, Calls Tryd.prog 8 #[.agg #[.string { data := #[] }, .slice x.1 x.2.1 x.2.2], .agg #[.string { data := #[] }, .slice a3 n3 c3]] (W3.drewN k) fun e w4 => e = .returned (.bool true) ∧ Below W3.heap.size W3 w4) := fun k => by
            have h := sameRing_any [] [] (.slice x.1 x.2.1 x.2.2) (.slice a3 n3 c3) (LL t i) (LL t i) (W3.drewN k) (hsee1.below (bdN _ _)) (hsee2.below (bdN _ _)) hll hll
            rw [show decide (([] : List UInt8) = [] ∧ LL t i = LL t i) = true by simp] at h
            refine h.mono ?_
            rintro e w4 ⟨rfl, h'⟩
            exact ⟨rfl, (bdN _ _).trans h'⟩
          have K6' := K6.out 0
          have HB3 : Hid _ := hb3'
          clear x0 hsee1 hsee2 hll ho3 hb3 hbW3 hb3' hr3 hn3
          generalize x.1 = xa at *
          generalize x.2.1 = xn at *
          generalize x.2.2 = xc at *
          go_wp2_with fail
          have KW : Hid (∀ k, (W3.drewN k).cell? ⟨gl, i, none⟩ = some (.slice xa xn xc) ∧ (W3.drewN k).cell? ⟨w3.heap.size, 1, none⟩ = some (.slice a3 n3 c3)) := fun _ => ⟨y2, y1⟩
          have KV : Hid (∀ W, Below W3.heap.size W3 W → W.cell? ⟨gl, i, none⟩ = some (.slice xa xn xc) ∧ W.cell? ⟨w3.heap.size, 1, none⟩ = some (.slice a3 n3 c3)) := fun W hb => ⟨(hb.cell (p := ⟨gl, i, none⟩) (Nat.lt_of_lt_of_le hgl HB3.out.size)).trans y2, (hb.cell (p := ⟨w3.heap.size, 1, none⟩) (by rw [← hW3]; simp)).trans y1⟩
          clear hW3 K6'
          go_region_held_law (fun W => W.cell? ⟨gl, i, none⟩ = some (.slice xa xn xc) ∧ W.cell? ⟨w3.heap.size, 1, none⟩ = some (.slice a3 n3 c3)) (first | exact KW.out _ | exact KV.out _ hb4 | go_keep) (first | (go_at_call 8; refine (K6.out _).mono ?_; rintro e w4 ⟨rfl, hb4⟩))
          have HB4 : Hid (Below U.heap.size U w4) := HB3.out.trans (hb4.mono HB3.out.size)
          clear hb4 K6 KW KV y1 y2
          go_wp2
          go_roundg (gk - 1)
          case measure => have := HK2.out; omega
          case rel => exact ⟨i + 1, by have := HK2.out; omega, by go_num, HB4⟩
        · obtain rfl : i = 3 := by omega
          have hltI : ¬ ((3 : Nat) : Int) < 3 := by omega
          obtain ⟨U2, hUe⟩ : ∃ U2, U2 = wr := ⟨_, rfl⟩
          subst hUe
          have HH2 : Hid (Hnd U2 W0.heap.size hs (L3 t 0)) := by
            show Hnd _ _ _ _
            rw [L3_zero]
            exact HH.out.below HBr.out
          have HC2 : Hid (∀ (j : Nat) x, hs[j]? = some x → U2.cell? ⟨gl, j, none⟩ = some (.slice x.1 x.2.1 x.2.2)) := HLc.out U2 HBr.out
          have HT2 : Hid (∃ cur, U2.heap[gl]? = some (.cells cur 22 (0, 0))) := by
            obtain ⟨cur, hc⟩ := HLT.out
            exact ⟨cur, (HBr.out.block _ hgl).trans hc⟩
          have HB2 : Hid (Below W0.heap.size W0 U2) := HB.out.trans (HBr.out.mono HB.out.size)
          clear HLc HLT HH HO HBr HB KP KR
          have HS2 : Hid (St W0 U2 gl hs (L3 t 0)) := ⟨HH2.out, HC2.out, HT2.out, HB2.out⟩
          clear HH2 HC2 HT2 HB2 hgl
          go_wp2
          go_loopg [14] 3 (fun gk iv wr => ∃ i : Nat, i + gk = 3 ∧ iv = .int .i64 (i : Int) ∧ Hid (St W0 wr gl hs (L3 t i)))
          case atStart => exact ⟨0, by omega, rfl, HS2⟩
          case round =>
            clear HS2
            obtain ⟨i, hi, rfl, HSi⟩ := hrel
            have HK3 : Hid (i + gk = 3) := hi
            have hi3 : i ≤ 3 := by omega
            clear hi
            by_cases hlt : i < 3
            · have hltI : (i : Int) < 3 := by omega
              obtain ⟨x, hx⟩ := HSS.out i hlt
              have HX : Hid (hs[i]? = some x) := hx
              have hxn : (LL t i).length = x.2.1 := by
                have h := own_sl (HSi.out.h.own i x hx)
                unfold L3 at h
                rw [if_neg (by omega)] at h
                exact h
              have hx8 : x.2.1 ≤ 8 := by have := LL_le t i; omega
              have HS0 : Hid (St W0 wr gl hs (L3k t i 0)) := by
                show St _ _ _ _ _
                rw [L3k_zero]
                exact HSi.out
              have y0 := HSi.out.c i x hx
              clear hx HSi
              obtain ⟨xa, xn, xc⟩ := x
              simp only at hxn hx8 y0
              have HXN : Hid ((LL t i).length = xn) := hxn
              clear hxn
              go_wp2
              go_loopg [15] xn (fun gk kv wr => ∃ k : Nat, k + gk = xn ∧ kv = .int .i64 (k : Int) ∧ Hid (St W0 wr gl hs (L3k t i k)))
              case atStart => exact ⟨0, by omega, rfl, HS0⟩
              case round =>
                clear HS0 y0
                obtain ⟨k, hk, rfl, HSk⟩ := hrel
                have HKK : Hid (k + gk = xn) := hk
                have hk' : k ≤ xn := by omega
                clear hk
                have y0 := HSk.out.c i (xa, xn, xc) HX.out
                simp only at y0
                by_cases hkn : k < xn
                · have hkI : (k : Int) < (xn : Int) := by omega
                  have hli : L3k t i k i = mixO i k (LL t i) := by unfold L3k; rw [if_pos rfl]
                  have hoi := HSk.out.h.own i (xa, xn, xc) HX.out
                  have hml : (L3k t i k i).length = xn := by rw [hli, mix_length i k _ (by rw [HXN.out]; exact hk'), HXN.out]
                  obtain ⟨g, hg, hBg, hcs, hput⟩ := own_rowH hoi (by omega)
                  simp only at hg
                  subst hg
                  obtain ⟨s0, hs0'⟩ : ∃ s0, (L3k t i k i)[k]? = some s0 := ⟨_, List.getElem?_eq_getElem (by omega)⟩
                  obtain ⟨⟨c0, c1, c2⟩, f0, f1, f2⟩ := hcs k s0 hs0'
                  have HP : Hid _ := HSk.out.put HX.out rfl hBg k (ov i k) (hput k (ov i k) (by omega)) (L3k t i (k + 1)) (fun j hj => by unfold L3k; rw [if_neg hj, if_neg hj]) (by rw [hli, mix_set i k _ (by rw [HXN.out]; exact hkn)]; unfold L3k; rw [if_pos rfl])
                  rw [show str (ov i k).salt = { data := #[119, 114, 105, 116, 116, 101, 110, 32, 111, 118, 101, 114] } by rfl, show str (ov i k).wrapped = { data := #[] } by rfl, show (ov i k).rounds = -1000 * ((i : Int) + 1) - (k : Int) by rfl] at HP
                  clear hcs hput hoi hs0' hli hml HSk
                  generalize str s0.salt = z0 at *
                  generalize str s0.wrapped = z2 at *
                  generalize s0.rounds = z1 at *
                  go_wp2
                  go_roundg (gk - 1)
                  case measure => have := HKK.out; omega
                  case rel => exact ⟨k + 1, by have := HKK.out; omega, by go_num, HP.out⟩
                · obtain rfl : k = xn := by omega
                  have hkI : ¬ (k : Int) < (k : Int) := by omega
                  have HSn : Hid (St W0 wr gl hs (L3 t (i + 1))) := by
                    show St _ _ _ _ _
                    rw [← L3k_all, HXN.out]
                    exact HSk.out
                  clear HSk
                  go_wp2
                  go_roundg (3 - (i + 1))
                  case measure => have := HK3.out; omega
                  case rel => exact ⟨i + 1, by have := HK3.out; omega, by go_num, HSn⟩
            · obtain rfl : i = 3 := by omega
              have hltI : ¬ ((3 : Nat) : Int) < 3 := by omega
              obtain ⟨U3, hUe⟩ : ∃ U3, U3 = wr := ⟨_, rfl⟩
              subst hUe
              have hglU : gl < U3.heap.size := HSi.out.lt
              have hW0U : W0.heap.size ≤ U3.heap.size := HSi.out.b.size
              have HIT : Hid (∀ W, Below W0.heap.size W0 W → ITab W) := fun W hb => by
                have hb' := (HW.out W hb).2
                exact HTb.out.2.2.below hb' (by omega)
              go_wp2
              go_loopg [13, 16] 3 (fun gk mv iv wr => ∃ (i : Nat) (xs : List Hd), i + gk = 3 ∧ iv = .int .i64 (i : Int) ∧ xs.length = i ∧ Hid (wr.ownsRow U3.heap.size 22 1 mv i (xs.map sl)) ∧ Hid (St W0 wr gl hs (L3 t 3)) ∧ Hid (Xt W0 wr hs xs t) ∧ Hid (U3.heap.size ≤ wr.heap.size))
              case atStart => exact ⟨0, [], by omega, rfl, rfl, World.ownsRow_nil _ _ _ _, HSi, ⟨(fun j x e => by cases e), (fun j k x h _ e => by cases e)⟩, Nat.le_refl _⟩
              case round =>
                clear HSi
                obtain ⟨i, xs, hi, rfl, hxl, HM, HS4, HX4, HZ4⟩ := hrel
                have HK4 : Hid (i + gk = 3) := hi
                have hi3' : i ≤ 3 := by omega
                clear hi
                by_cases hlt4 : i < 3
                · have hltI4 : (i : Int) < 3 := by omega
                  obtain ⟨x, hx⟩ := HSS.out i hlt4
                  have HXx : Hid (hs[i]? = some x) := hx
                  have y0 := HS4.out.c i x hx
                  have hxn : (L3 t 3 i).length = x.2.1 := own_sl (HS4.out.h.own i x hx)
                  have hx8 : x.2.1 ≤ 8 := by have := L3_le t 3 i; omega
                  have KI : Hid (∀ k, Calls Tryd.prog 15 #[.int .i64 (i : Int)] (wr.drewN k) fun e w5 => e = .returned (.string (str (dec i))) ∧ Below wr.heap.size wr w5) := fun k => by
                    refine (itoa_any i (by omega) (wr.drewN k) (HIT.out _ (HS4.out.b.trans ((bdN _ _).mono HS4.out.b.size)))).mono ?_
                    rintro e w5 ⟨rfl, h⟩
                    exact ⟨rfl, (bdN _ _).trans h⟩
                  have KLn : Hid (∀ W, Below wr.heap.size wr W → Calls Tryd.prog 27 #[.slice x.1 x.2.1 x.2.2, .string (str (mkL i))] W fun e w6 => ∃ a' c', e = .returned (.slice a' (x.2.1 + 64) c') ∧ Lng W W0.heap.size (sl x) (L3 t 3 i) w6 (sl (a', x.2.1 + 64, c')) (L4 t i)) := fun W hb => by
                    have h := longer_any W W0.heap.size x.1 x.2.1 x.2.2 (L3 t 3 i) ((HS4.out.h.own i x hx).below hb) hxn (by omega) (Nat.le_trans HS4.out.b.size hb.size) (mkL i)
                    exact h
                  have KC : Hid (∀ W, Below wr.heap.size wr W → W.cell? ⟨gl, i, none⟩ = some (.slice x.1 x.2.1 x.2.2)) := fun W hb => (hb.cell (p := ⟨gl, i, none⟩) HS4.out.lt).trans y0
                  have hadd := mk_add i
                  have hdz := dec_small i hlt4
                  clear hx
                  obtain ⟨mk, hmk⟩ : ∃ mk, str (mkL i) = mk := ⟨_, rfl⟩
                  rw [hmk] at hadd KLn
                  generalize str (dec i) = dd at *
                  clear hmk
                  obtain ⟨xa, xn, xc⟩ := x
                  simp only at y0 hxn hx8 KLn KC
                  go_wp2_with fail
                  go_region_held_law (fun W => W.cell? ⟨gl, i, none⟩ = some (.slice xa xn xc)) (first | exact KC.out _ (bdN _ _) | exact KC.out _ hb5 | exact KCx | go_keep) (first | (go_at_call 15; refine (KI.out _).mono ?_; rintro e w5 ⟨rfl, hb5⟩) | (go_at_call 27; refine (KLn.out _ hb5).mono ?_; rintro e w6 ⟨a', c', rfl, hlng⟩; have KCx := ((HS4.out.below hb5).longer HXx.out hlng).c i _ HXx.out))
                  have hS6 := (HS4.out.below hb5).longer HXx.out hlng
                  have hX6 : Xt W0 w6 hs (xs ++ [(a', xn + 64, c')]) t := by
                    have h := hlng
                    rw [← hxl] at h
                    exact (HX4.out.below hb5).longer (HS4.out.below hb5) (by rw [hxl]; exact HXx.out) h
                  have hM6 := rowM_longer (owns_bel HM.out hb5) ((HS4.out.below hb5).h.own i _ HXx.out) hlng
                  have hz6 : U3.heap.size ≤ w6.heap.size := Nat.le_trans HZ4.out (Nat.le_trans hb5.size hlng.frame.size)
                  have hbA : Below w6.heap.size w6 (w6.alloc (.cells #[.slice a' (xn + 64) c'] 22)) := (Below.refl _ _).alloc (Nat.le_refl _) _
                  have HSA : Hid _ := hS6.below hbA
                  have HXA : Hid _ := hX6.below hbA
                  have HMA : Hid _ := owns_bel hM6 hbA
                  have HZA : Hid (U3.heap.size ≤ (w6.alloc (.cells #[.slice a' (xn + 64) c'] 22)).heap.size) := Nat.le_trans hz6 hbA.size
                  have HNA : Hid (∀ (j : Nat) q, ([.slice a' (xn + 64) c'] : List Value)[j]? = some q → (w6.alloc (.cells #[.slice a' (xn + 64) c'] 22)).cell? (Addr.add ⟨w6.heap.size, 0, none⟩ j) = some q) := fun j q h => cells_new w6 #[.slice a' (xn + 64) c'] 22 j q (by simpa using h)
                  have hone : ∀ q ∈ ([.slice a' (xn + 64) c'] : List Value), q.oneCell' = true := fun q hq => by
                    simp at hq
                    subst hq
                    rfl
                  clear hlng hS6 hX6 hM6 hz6 hbA KI KLn KC KCx HM HX4 HS4 HZ4 hb5 y0 hadd hdz
                  go_wp2_with (at_builtin; refine wpList_append_own _ rfl _ _ 81 rfl U3.heap.size 22 i1 (.slice none 0 0) 1 24 Tryd.underlying81 hi1 h10 h11 h12 rfl (by decide) _ i (xs.map sl) rfl HMA.out ⟨w6.heap.size, 0, none⟩ 1 1 [.slice a' (xn + 64) c'] rfl rfl HNA.out hone (by unfold maxLen; omega) (by omega) HZA.out ?_; intro v' w7 hown' hgrow' _; refine Hid.out ?_)
                  unfold Hid
                  have HS7 : Hid (St W0 w7 gl hs (L3 t 3)) := HSA.out.grownM HMA.out hglU hW0U HZA.out hgrow'
                  have HX7 : Hid (Xt W0 w7 hs (xs ++ [(a', xn + 64, c')]) t) := HXA.out.grown HMA.out hgrow'
                  have HZ7 : Hid (U3.heap.size ≤ w7.heap.size) := Nat.le_trans HZA.out hgrow'.size
                  have HM7 : Hid (w7.ownsRow U3.heap.size 22 1 v' (i + 1) ((xs ++ [(a', xn + 64, c')]).map sl)) := by
                    show World.ownsRow _ _ _ _ _ _ _
                    rw [List.map_append]
                    exact hown'
                  clear hown' hgrow' HSA HXA HMA HZA HNA
                  go_wp2
                  go_roundg (gk - 1)
                  case measure => have := HK4.out; omega
                  case rel => exact ⟨i + 1, xs ++ [(a', xn + 64, c')], by have := HK4.out; omega, by go_num, by rw [List.length_append, hxl]; rfl, HM7, HS7, HX7, HZ7⟩
                · obtain rfl : i = 3 := by omega
                  have hltI4 : ¬ ((3 : Nat) : Int) < 3 := by omega
                  obtain ⟨am, cm, rfl⟩ := owns_len HM.out
                  obtain ⟨gm, rfl, hgm, _, hcm⟩ := rowL HM.out (by omega)
                  obtain ⟨U4, hUe⟩ : ∃ U4, U4 = wr := ⟨_, rfl⟩
                  subst hUe
                  have HMc : Hid (∀ W, Below U4.heap.size U4 W → ∀ (j : Nat) x, xs[j]? = some x → W.cell? ⟨gm, j, none⟩ = some (.slice x.1 x.2.1 x.2.2)) := fun W hb j x hx => (hb.cell (p := ⟨gm, j, none⟩) hgm).trans (hcm j x hx)
                  have HXS : Hid (∀ j, j < 3 → ∃ x, xs[j]? = some x) := fun j hj => ⟨_, List.getElem?_eq_getElem (by omega)⟩
                  clear hcm hgm HM HZ4 hglU hW0U
                  go_wp2
                  go_loopg [18] 3 (fun gk iv wr => ∃ i : Nat, i + gk = 3 ∧ iv = .int .i64 (i : Int) ∧ Hid (Below U4.heap.size U4 wr))
                  case atStart => exact ⟨0, by omega, rfl, Below.refl _ _⟩
                  case round =>
                    obtain ⟨i, hi, rfl, HB5⟩ := hrel
                    have HK5 : Hid (i + gk = 3) := hi
                    have hi5 : i ≤ 3 := by omega
                    clear hi
                    by_cases hlt5 : i < 3
                    · have hltI5 : (i : Int) < 3 := by omega
                      obtain ⟨x, hx⟩ := HSS.out i hlt5
                      obtain ⟨y, hy⟩ := HXS.out i hlt5
                      have hxn : (L3 t 3 i).length = x.2.1 := own_sl (HS4.out.h.own i x hx)
                      have hyn : (L4 t i).length = y.2.1 := own_sl (HX4.out.o i y hy)
                      have hyx : y.2.1 = x.2.1 + 64 := by rw [← hyn, ← hxn]; simp [L4]
                      have hx8 : x.2.1 ≤ 8 := by have := L3_le t 3 i; omega
                      have HL3 : Hid (L3 t 3 i = over i x.2.1) := by
                        show _ = _
                        unfold L3
                        rw [if_pos hlt5]
                        congr 1
                        have h := hxn
                        unfold L3 at h
                        rw [if_pos hlt5, over_length] at h
                        exact h
                      obtain ⟨gy, hgy, _, hcy, _⟩ := own_rowH (HX4.out.o i y hy) (by omega)
                      have hgyl : gy < U4.heap.size := (own_lt (HX4.out.o i y hy) gy (by unfold sl; rw [hgy]; rfl)).2
                      have HCy : Hid (∀ W, Below U4.heap.size U4 W → ∀ (u : Nat) s, (L4 t i)[u]? = some s → W.cell? ⟨gy, u * 3, none⟩ = some (.string (str s.salt)) ∧ W.cell? ⟨gy, u * 3 + 1, none⟩ = some (.int .i64 s.rounds) ∧ W.cell? ⟨gy, u * 3 + 2, none⟩ = some (.string (str s.wrapped))) := fun W hb u s hs => by
                        obtain ⟨⟨q0, q1, q2⟩, _⟩ := hcy u s hs
                        exact ⟨(hb.cell (p := ⟨gy, u * 3, none⟩) hgyl).trans q0, (hb.cell (p := ⟨gy, u * 3 + 1, none⟩) hgyl).trans q1, (hb.cell (p := ⟨gy, u * 3 + 2, none⟩) hgyl).trans q2⟩
                      have HCl : Hid (∀ W, Below U4.heap.size U4 W → W.cell? ⟨gl, i, none⟩ = some (.slice x.1 x.2.1 x.2.2) ∧ W.cell? ⟨gm, i, none⟩ = some (.slice y.1 y.2.1 y.2.2)) := fun W hb => ⟨(HS4.out.below hb).c i x hx, HMc.out W hb i y hy⟩
                      have HOx : Hid (OwnS U4 W0.heap.size (sl x) (L3 t 3 i)) := HS4.out.h.own i x hx
                      clear hcy hxn hyn hgyl hx hy
                      obtain ⟨xa, xn, xc⟩ := x
                      obtain ⟨ya, yn, yc⟩ := y
                      simp only at hyx hx8 HL3 hgy HCl
                      subst hgy hyx
                      obtain ⟨y0, _⟩ := HCl.out _ HB5.out
                      go_wp2
                      go_loopg [19] xn (fun gk kv wr => ∃ k : Nat, k + gk = xn ∧ kv = .int .i64 (k : Int) ∧ Hid (Below U4.heap.size U4 wr))
                      case atStart => exact ⟨0, by omega, rfl, HB5⟩
                      case round =>
                        clear y0
                        obtain ⟨k, hk, rfl, HB6⟩ := hrel
                        have HKK : Hid (k + gk = xn) := hk
                        have hk' : k ≤ xn := by omega
                        clear hk
                        obtain ⟨y0, y1⟩ := HCl.out _ HB6.out
                        by_cases hkn : k < xn
                        · have hkI : (k : Int) < (xn : Int) := by omega
                          have hkI2 : (k : Int) < (xn : Int) + 64 := by omega
                          obtain ⟨gx, hgx, _, hcx, _⟩ := own_rowH (HOx.out.below HB6.out) (by rw [HL3.out, over_length]; omega)
                          simp only at hgx
                          subst hgx
                          obtain ⟨⟨c0, c1, c2⟩, _⟩ := hcx k (ov i k) (by rw [HL3.out]; exact over_at i xn k hkn)
                          obtain ⟨d0, d1, d2⟩ := HCy.out _ HB6.out k (ov i k) (by unfold L4; rw [List.getElem?_append_left (by rw [HL3.out, over_length]; exact hkn), HL3.out]; exact over_at i xn k hkn)
                          rw [show str (ov i k).salt = { data := #[119, 114, 105, 116, 116, 101, 110, 32, 111, 118, 101, 114] } by rfl] at c0 d0
                          rw [show (ov i k).rounds = -1000 * ((i : Int) + 1) - (k : Int) by rfl] at c1 d1
                          rw [show str (ov i k).wrapped = { data := #[] } by rfl] at c2 d2
                          clear hcx
                          go_wp2_with fail
                          go_quiet (fail)
                          go_wp2
                          go_roundg (gk - 1)
                          case measure => have := HKK.out; omega
                          case rel => exact ⟨k + 1, by have := HKK.out; omega, by go_num, HB6.out.trans ((bdN _ _).mono HB6.out.size)⟩
                        · obtain rfl : k = xn := by omega
                          have hkI : ¬ (k : Int) < (k : Int) := by omega
                          go_wp2
                          go_loopg [20] 64 (fun gk kv wr => ∃ k : Nat, k + gk = 64 ∧ kv = .int .i64 (k : Int) ∧ Hid (Below U4.heap.size U4 wr))
                          case atStart => exact ⟨0, by omega, rfl, HB6⟩
                          case round =>
                            clear y0 y1
                            obtain ⟨r, hr, rfl, HB7⟩ := hrel
                            have HKR : Hid (r + gk = 64) := hr
                            have hr' : r ≤ 64 := by omega
                            clear hr
                            by_cases hrn : r < 64
                            · have hrI : (r : Int) < 64 := by omega
                              have hix : (k : Int) + (r : Int) < (k : Int) + 64 := by omega
                              have KI : Hid (∀ q, Calls Tryd.prog 15 #[.int .i64 (i : Int)] (wr.drewN q) fun e w5 => e = .returned (.string (str (dec i))) ∧ Below wr.heap.size wr w5) := fun q => by
                                refine (itoa_any i (by omega) (wr.drewN q) (HIT.out _ (HS4.out.b.trans ((HB7.out.trans ((bdN _ _).mono HB7.out.size)).mono HS4.out.b.size)))).mono ?_
                                rintro e w5 ⟨rfl, h⟩
                                exact ⟨rfl, (bdN _ _).trans h⟩
                              have KC : Hid (∀ W, Below wr.heap.size wr W → W.cell? ⟨gl, i, none⟩ = some (.slice xa k xc) ∧ W.cell? ⟨gm, i, none⟩ = some (.slice (some ⟨gy, 0, none⟩) (k + 64) yc) ∧ W.cell? ⟨gy, (k + r) * 3, none⟩ = some (.string (str (mkL i)))) := fun W hb => by
                                have hbu := HB7.out.trans (hb.mono HB7.out.size)
                                obtain ⟨q0, q1⟩ := HCl.out W hbu
                                refine ⟨q0, q1, (HCy.out W hbu (k + r) ⟨mkL i, 0, []⟩ ?_).1⟩
                                unfold L4
                                have hl3 : (L3 t 3 i).length = k := by rw [HL3.out, over_length]
                                rw [List.getElem?_append_right (by omega), hl3, show k + r - k = r by omega, List.getElem?_replicate, if_pos hrn]
                              have hadd := mk_add i
                              have hdz := dec_small i hlt5
                              obtain ⟨mk, hmk⟩ : ∃ mk, str (mkL i) = mk := ⟨_, rfl⟩
                              rw [hmk] at hadd KC
                              generalize str (dec i) = dd at *
                              obtain ⟨ny, hny⟩ : ∃ ny, k + 64 = ny := ⟨_, rfl⟩
                              rw [hny] at KC
                              obtain ⟨q, hq⟩ : ∃ q, k + r = q := ⟨_, rfl⟩
                              rw [hq] at KC
                              have hqI : (k : Int) + (r : Int) = (q : Int) := by omega
                              have hqw : IntKind.i64.wrap ((k : Int) + (r : Int)) = (q : Int) := by rw [IntKind.wrap_i64]; omega
                              have hqv : IntKind.i64.wrap (q : Int) = (q : Int) := by rw [IntKind.wrap_i64]; omega
                              have hq1 : (q : Int) < (ny : Int) := by omega
                              have hq0 : (0 : Int) ≤ (q : Int) := by omega
                              have hq2 : q < ny := by omega
                              have hq3 : q ≤ 100 := by omega
                              clear hmk hix hny hq
                              go_wp2_with fail
                              go_region_held_law (fun W => W.cell? ⟨gl, i, none⟩ = some (.slice xa k xc) ∧ W.cell? ⟨gm, i, none⟩ = some (.slice (some ⟨gy, 0, none⟩) ny yc) ∧ W.cell? ⟨gy, q * 3, none⟩ = some (.string mk)) (first | exact KC.out _ (bdN _ _) | exact KC.out _ hb5 | go_keep) (first | (go_at_call 15; refine (KI.out _).mono ?_; rintro e w5 ⟨rfl, hb5⟩))
                              have HB8 : Hid (Below U4.heap.size U4 w5) := HB7.out.trans (hb5.mono HB7.out.size)
                              clear hb5 KI KC hadd hdz hqI hq1 hq2 hq3 hqw hqv hq0
                              go_wp2
                              go_roundg (gk - 1)
                              case measure => have := HKR.out; omega
                              case rel => exact ⟨r + 1, by have := HKR.out; omega, by go_num, HB8⟩
                            · obtain rfl : r = 64 := by omega
                              have hrI : ¬ ((64 : Nat) : Int) < 64 := by omega
                              go_wp2
                              go_roundg (3 - (i + 1))
                              case measure => have := HK5.out; omega
                              case rel => exact ⟨i + 1, by have := HK5.out; omega, by go_num, HB7⟩
                    · obtain rfl : i = 3 := by omega
                      have hltI5 : ¬ ((3 : Nat) : Int) < 3 := by omega
                      have HBF : Hid (Below w.heap.size w wr) := (HW.out _ (HS4.out.b.trans (HB5.out.mono HS4.out.b.size))).2
                      go_wp2
                      go_ret
                      exact ⟨rfl, HBF.out⟩

end Go.Proofs.YtbjiamaaocjbfaaDoor.Kl
