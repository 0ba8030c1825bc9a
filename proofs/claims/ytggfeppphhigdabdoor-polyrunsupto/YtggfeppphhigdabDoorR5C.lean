import Derived.Test.YtggfeppphhigdabDoorR5B
namespace Go.Proofs.YtggfeppphhigdabDoor
open Go.RowKit Go.Lib Go.Deep

/-- what modulo holds -/
structure Mo (w wr : World) (g h : Nat) (n lo hi : List Nat) : Prop where
  own : Nb .i64 43 wr w.heap.size n
  nl : n.length = 24
  res : Nb .i64 43 wr (w.heap.size + 1) (List.replicate 24 0)
  low : Nb .i64 43 wr g lo
  high : Nb .i64 43 wr h hi
  gg : w.heap.size + 1 < g
  gh : w.heap.size + 1 < h
  ne : g ≠ h
  bel : Below w.heap.size w wr
theorem Mo.below {w wr W : World} {g h : Nat} {n lo hi : List Nat} (H : Mo w wr g h n lo hi) (hb : Below wr.heap.size wr W) : Mo w W g h n lo hi :=
  ⟨H.own.below hb H.own.lt, H.nl, H.res.below hb H.res.lt, H.low.below hb H.low.lt, H.high.below hb H.high.lt, H.gg, H.gh, H.ne, H.bel.trans (hb.mono H.bel.size)⟩
theorem Mo.drew {w wr : World} {g h : Nat} {n lo hi : List Nat} (H : Mo w wr g h n lo hi) : Mo w wr.drew g h n lo hi := ⟨H.own, H.nl, H.res, H.low, H.high, H.gg, H.gh, H.ne, H.bel.drew⟩
theorem Mo.there {w wr : World} {g h : Nat} {n lo hi : List Nat} (H : Mo w wr g h n lo hi) (l : List Nat) (hl : l.length = 24) : wr.there w.heap.size 0 (ns .i64 l).size := H.own.there _ (by rw [ns_size, hl, H.nl])
theorem Mo.storeN {w wr : World} {g h : Nat} {n lo hi : List Nat} (H : Mo w wr g h n lo hi) (l : List Nat) (hl : l.length = 24) : Mo w (wr.setCells w.heap.size 0 (ns .i64 l).toList) g h l lo hi :=
  ⟨H.own.store l (by rw [hl, H.nl]), hl, H.res.aside (by simp) _ _, H.low.aside (by have := H.gg; omega) _ _, H.high.aside (by have := H.gh; omega) _ _, H.gg, H.gh, H.ne, Below.setCells H.bel (Nat.le_refl _) _ _⟩
theorem Mo.storeL {w wr : World} {g h : Nat} {n lo hi : List Nat} (H : Mo w wr g h n lo hi) (l : List Nat) (hl : l.length = 24) (hlo : lo.length = 24) : wr.there g 0 (ns .i64 l).size ∧ Mo w (wr.setCells g 0 (ns .i64 l).toList) g h n l hi :=
  ⟨H.low.there _ (by rw [ns_size, hl, hlo]), H.own.aside (by have := H.gg; omega) _ _, H.nl, H.res.aside (by have := H.gg; omega) _ _, H.low.store l (by rw [hl, hlo]), H.high.aside (Ne.symm H.ne) _ _, H.gg, H.gh, H.ne, Below.setCells H.bel (by have := H.gg; omega) _ _⟩
theorem Mo.storeH {w wr : World} {g h : Nat} {n lo hi : List Nat} (H : Mo w wr g h n lo hi) (l : List Nat) (hl : l.length = 24) (hhi : hi.length = 24) : wr.there h 0 (ns .i64 l).size ∧ Mo w (wr.setCells h 0 (ns .i64 l).toList) g h n lo l :=
  ⟨H.high.there _ (by rw [ns_size, hl, hhi]), H.own.aside (by have := H.gh; omega) _ _, H.nl, H.res.aside (by have := H.gh; omega) _ _, H.low.aside H.ne _ _, H.high.store l (by rw [hl, hhi]), H.gg, H.gh, H.ne, Below.setCells H.bel (by have := H.gh; omega) _ _⟩

/-- a number and the result's place -/
structure Le24 (w wr : World) (L : List Nat) : Prop where
  own : Nb .i64 43 wr w.heap.size L
  res : Nb .i64 43 wr (w.heap.size + 1) (List.replicate 24 0)
  bel : Below w.heap.size w wr
theorem Le24.below {w wr W : World} {L : List Nat} (h : Le24 w wr L) (hb : Below wr.heap.size wr W) : Le24 w W L := ⟨h.own.below hb h.own.lt, h.res.below hb h.res.lt, h.bel.trans (hb.mono h.bel.size)⟩

theorem d24_le (v i : Nat) : (d24 v).getD i 0 ≤ 65536 := by have := d24_at v i; omega

set_option maxRecDepth 20000 in
set_option maxHeartbeats 2000000 in
theorem modulo_any (v0 : Nat) (hv0 : v0 < 65536 ^ 18) (w : World) :
    Calls Tryd.prog 16 #[.agg (ns .i64 (d24 v0))] w fun e w' => e = .returned (.agg (ns .i64 (d24 (v0 % Pp)))) ∧ Below w.heap.size w w' := by
  have hp18 : (65536 : Nat) ^ 18 ≤ 65536 ^ 24 := Nat.pow_le_pow_right (by omega) (by omega)
  have HPA : Hid (∀ v, v < 65536 ^ 18 → ∀ W, Calls Tryd.prog 28 #[.agg (ns .i64 (d24 v))] W fun e w' => e = .returned (.tuple #[.agg (ns .i64 (d24 (v % 1361129467683753853853498429727072845824))), .agg (ns .i64 (d24 (v / 1361129467683753853853498429727072845824)))]) ∧ Below W.heap.size W w') := fun v hv W => parted_any v (Nat.lt_of_lt_of_le hv hp18) W
  have HZE : Hid (∀ v, v < 65536 ^ 18 → ∀ W, Calls Tryd.prog 29 #[.agg (ns .i64 (d24 v))] W fun e w' => e = .returned (.bool (decide (v = 0))) ∧ Below W.heap.size W w') := fun v hv W => zero_any v (Nat.lt_of_lt_of_le hv hp18) W
  have HFI : Hid (∀ v, v < 65536 ^ 18 → ∀ W, Calls Tryd.prog 30 #[.agg (ns .i64 (d24 v))] W fun e w' => e = .returned (.agg (ns .i64 (d24 (5 * v)))) ∧ Below W.heap.size W w') := fun v hv W => by
    have h := five_any (d24 v) (d24_length v) (d24_le v) W
    rw [vl_d24 v (Nat.lt_of_lt_of_le hv hp18)] at h
    exact h
  have HAD : Hid (∀ a b, a < 65536 ^ 20 → b < 65536 ^ 20 → ∀ W, Calls Tryd.prog 18 #[.agg (ns .i64 (d24 a)), .agg (ns .i64 (d24 b))] W fun e w' => e = .returned (.agg (ns .i64 (d24 (a + b)))) ∧ Below W.heap.size W w') := fun a b ha hb W => by
    have hp : (65536 : Nat) ^ 20 ≤ 65536 ^ 24 := Nat.pow_le_pow_right (by omega) (by omega)
    have h := add_any (d24 a) (d24 b) (d24_length a) (d24_length b) (d24_le a) (d24_le b) W
    rw [vl_d24 a (by omega), vl_d24 b (by omega)] at h
    exact h
  simp only [Nat.reducePow] at hv0 HPA HZE HFI HAD
  clear hp18
  have HLN : Hid (∀ v, (d24 v).length = 24) := d24_length
  have hpa := HPA.out v0 hv0
  have hl1 := d24_length v0
  have hl2 := d24_length (v0 % 1361129467683753853853498429727072845824)
  have hl3 := d24_length (v0 / 1361129467683753853853498429727072845824)
  have HS0 : Hid (Le24 w ((w.alloc (.cells (ns .i64 (d24 v0)) 43)).alloc (.cells (ns .i64 (List.replicate 24 0)) 43)) (d24 v0)) :=
    ⟨(Nb.new _ _ _ _).alloc _, Nb.newN _ _ _ _ _ (by simp), ((Below.refl _ _).alloc (Nat.le_refl _) _).alloc (by simp) _⟩
  rw [zeros24] at HS0
  have HD : Hid (d24 (v0 % 1361129467683753853853498429727072845824) = d24 (v0 % 1361129467683753853853498429727072845824) ∧ d24 (v0 / 1361129467683753853853498429727072845824) = d24 (v0 / 1361129467683753853853498429727072845824)) := ⟨rfl, rfl⟩
  revert hpa hl1 hl2 hl3 HS0
  generalize hLO : d24 (v0 % 1361129467683753853853498429727072845824) = LO
  generalize hHI : d24 (v0 / 1361129467683753853853498429727072845824) = HI
  generalize d24 v0 = N0
  intro hpa hl1 hl2 hl3 HS0
  clear HD
  have HD : Hid (d24 (v0 % 1361129467683753853853498429727072845824) = LO ∧ d24 (v0 / 1361129467683753853853498429727072845824) = HI) := ⟨hLO, hHI⟩
  clear hLO hHI
  have hsz0 := ns24 N0 hl1
  have hszL := ns24 LO hl2
  have hszH := ns24 HI hl3
  have honL := ns_one .i64 LO
  have honH := ns_one .i64 HI
  have hsl : (ns .i64 LO).size = 24 := by rw [ns_size, hl2]
  have hsh : (ns .i64 HI).size = 24 := by rw [ns_size, hl3]
  go_enter Tryd.func16, Tryd.ntmps16
  go_upto_region 1 with fail
  refine with_world (R := fun W => Code.wp _ _ _ _ W) (Q := fun W => Le24 w W N0) _ HS0.out ?_
  clear HS0
  intro w1 H1
  have hpa1 := hpa w1
  go_wp2_with (refine wpList_load_row rfl 43 (.tmp 1) rfl w.heap.size rfl 43 _ (0, 0) _ H1.own Tryd.underlying43 rfl hsz0 ?_)
  refine hpa1.mono ?_
  rintro e w2 ⟨rfl, hb2⟩
  have H2 := H1.below hb2
  clear H1 hb2 hpa1 hpa
  have HM0 : Hid (∀ z : Array Value, z.size = 24 → ((w2.alloc (.cells z 43)).alloc (.cells z 43)).there w2.heap.size 0 (ns .i64 LO).size ∧ (((w2.alloc (.cells z 43)).alloc (.cells z 43)).setCells w2.heap.size 0 (ns .i64 LO).toList).there (w2.heap.size + 1) 0 (ns .i64 HI).size
      ∧ Mo w ((((w2.alloc (.cells z 43)).alloc (.cells z 43)).setCells w2.heap.size 0 (ns .i64 LO).toList).setCells (w2.heap.size + 1) 0 (ns .i64 HI).toList) w2.heap.size (w2.heap.size + 1) N0 LO HI) := fun z hz => by
    have hlt := H2.res.lt
    have g1 : ((w2.alloc (.cells z 43)).alloc (.cells z 43)).heap[w2.heap.size]? = some (.cells z 43 (0, 0)) := (Below.heap_alloc _ _ _ (by simp)).trans (heap_new _ _)
    have g2 : ((w2.alloc (.cells z 43)).alloc (.cells z 43)).heap[w2.heap.size + 1]? = some (.cells z 43 (0, 0)) := by
      have h := heap_new (w2.alloc (.cells z 43)) (.cells z 43)
      simpa using h
    have g3 := heap_setCells w2.heap.size 43 (ns .i64 LO).toList 0 z _ g1
    rw [setMany_all _ _ (by rw [Array.length_toList, hsl, hz]), Array.toArray_toList] at g3
    have g4 := (heap_setCells_other w2.heap.size (w2.heap.size + 1) (by omega) (ns .i64 LO).toList 0 ((w2.alloc (.cells z 43)).alloc (.cells z 43))).trans g2
    have g5 := heap_setCells (w2.heap.size + 1) 43 (ns .i64 HI).toList 0 z _ g4
    rw [setMany_all _ _ (by rw [Array.length_toList, hsh, hz]), Array.toArray_toList] at g5
    refine ⟨there_of_heap g1 (by rw [hsl, hz]; decide), there_of_heap g4 (by rw [hsh, hz]; decide), ?_⟩
    refine ⟨(((H2.own.alloc _).alloc _).aside (by have := H2.own.lt; omega) _ _).aside (by have := H2.own.lt; omega) _ _, hl1, (((H2.res.alloc _).alloc _).aside (by omega) _ _).aside (by omega) _ _, ?_, g5, by omega, by omega, by omega, ?_⟩
    · exact (heap_setCells_other (w2.heap.size + 1) w2.heap.size (by omega) (ns .i64 HI).toList 0 _).trans g3
    · have hz2 := H2.bel.size
      exact Below.setCells (Below.setCells ((H2.bel.alloc hz2 _).alloc (by simp; omega) _) hz2 _ _) (by omega) _ _
  go_wp2_with (first | (refine wpList_store_mid rfl 43 (.tmp 3) (.tmp 11) rfl w2.heap.size 0 _ rfl rfl (HM0.out _ rfl).1 hszL honL ?_) | (refine wpList_store_mid rfl 43 (.tmp 4) (.tmp 12) rfl (w2.heap.size + 1) 0 _ rfl rfl (HM0.out _ rfl).2.1 hszH honH ?_))
  refine with_world (R := fun W => Code.wp _ _ _ _ W) (Q := fun W => Mo w W w2.heap.size (w2.heap.size + 1) N0 LO HI) _ (HM0.out _ rfl).2.2 ?_
  clear HM0 H2 hsl hsh honL honH hszL hszH hsz0
  generalize w2.heap.size + 1 = h
  generalize w2.heap.size = g
  intro w3 HM0
  (try simp only [put_none])
  go_loopg [] v0 (fun gk wr => ∃ n : List Nat, gk % Pp = v0 % Pp ∧ gk ≤ v0 ∧ Mo w wr g h n (d24 (gk % 1361129467683753853853498429727072845824)) (d24 (gk / 1361129467683753853853498429727072845824)))
  case atStart => exact ⟨N0, rfl, Nat.le_refl _, by rw [HD.out.1, HD.out.2]; exact HM0⟩
  case round =>
    clear HM0 HD hl1 hl2 hl3
    obtain ⟨n, hmod, hle, HS⟩ := hrel
    have hvl : gk < 497323236409786642155382248146820840100456150797347717440463976893159497012533375533056 := by omega
    have hql : gk / 1361129467683753853853498429727072845824 < 497323236409786642155382248146820840100456150797347717440463976893159497012533375533056 := by omega
    have hze := HZE.out _ hql wr
    have hlH := d24_length (gk / 1361129467683753853853498429727072845824)
    have hlL := d24_length (gk % 1361129467683753853853498429727072845824)
    by_cases hq : gk / 1361129467683753853853498429727072845824 = 0
    · have hgl : gk < 1361129467683753853853498429727072845824 := by omega
      rw [decide_eq_true hq] at hze
      have hr : gk % 1361129467683753853853498429727072845824 = gk := Nat.mod_eq_of_lt hgl
      rw [hr] at HS hlL
      have had := HAD.out gk 5 (by omega) (by omega)
      have hpt := HPA.out (gk + 5) (by omega)
      have hz2 := HZE.out ((gk + 5) / 1361129467683753853853498429727072845824) (by omega)
      have hend := modulo_end gk hgl
      rw [hmod] at hend
      have HEND : Hid (d24 (v0 % Pp) = d24 (if (gk + 5) / 1361129467683753853853498429727072845824 = 0 then gk else (gk + 5) % 1361129467683753853853498429727072845824)) := by show _ = _; rw [hend]
      have hlA := d24_length ((gk + 5) % 1361129467683753853853498429727072845824)
      have hlB := d24_length ((gk + 5) / 1361129467683753853853498429727072845824)
      have hlS := d24_length (gk + 5)
      have hK5 : (#[.int .i64 5, .int .i64 0, .int .i64 0, .int .i64 0, .int .i64 0, .int .i64 0, .int .i64 0, .int .i64 0, .int .i64 0, .int .i64 0, .int .i64 0, .int .i64 0, .int .i64 0, .int .i64 0, .int .i64 0, .int .i64 0, .int .i64 0, .int .i64 0, .int .i64 0, .int .i64 0, .int .i64 0, .int .i64 0, .int .i64 0, .int .i64 0] : Array Value) = ns .i64 (d24 5) := by kernel_rfl
      have hl5 := d24_length 5
      clear hend hmod hle hql hvl hgl hr HPA HZE HFI HAD
      generalize hQ : (gk + 5) / 1361129467683753853853498429727072845824 = Q at *
      clear hQ
      generalize hLA : d24 ((gk + 5) % 1361129467683753853853498429727072845824) = LA at *
      generalize hLB : d24 Q = LB at *
      generalize d24 (gk + 5) = LS at *
      generalize d24 5 = L5 at *
      generalize hHI : d24 (gk / 1361129467683753853853498429727072845824) = HI at *
      generalize hLO : d24 gk = LO at *
      have HLA : Hid (d24 ((gk + 5) % 1361129467683753853853498429727072845824) = LA ∧ d24 gk = LO) := ⟨hLA, hLO⟩
      clear hLA hLB hHI hLO
      have hszH := ns24 HI hlH
      have hszL := ns24 LO hlL
      have hsz5 := ns24 L5 hl5
      have hszA := ns24 LA hlA
      have hszB := ns24 LB hlB
      have hoA := ns_one .i64 LA
      have hoB := ns_one .i64 LB
      have hoL := ns_one .i64 LO
      have hsA : (ns .i64 LA).size = 24 := by rw [ns_size, hlA]
      have hsB : (ns .i64 LB).size = 24 := by rw [ns_size, hlB]
      have hhg := HS.high
      unfold Nb at hhg
      go_wp2_with (refine wpList_load_row rfl 43 (.tmp 4) rfl h rfl 43 _ (0, 0) _ hhg Tryd.underlying43 rfl hszH ?_)
      refine hze.mono ?_
      rintro e w4 ⟨rfl, hb4⟩
      have H4 := HS.below hb4
      clear HS hb4 hhg hze
      have HK : Hid (∀ z, z = ns .i64 L5 → Nb .i64 43 (w4.alloc (.cells z 43)) w4.heap.size L5 ∧ Mo w (w4.alloc (.cells z 43)) g h n LO HI) := fun z hz => by
        subst hz
        exact ⟨Nb.new _ _ _ _, ⟨H4.own.alloc _, H4.nl, H4.res.alloc _, H4.low.alloc _, H4.high.alloc _, H4.gg, H4.gh, H4.ne, H4.bel.alloc H4.bel.size _⟩⟩
      go_upto_region 7 with fail
      refine with_world (R := fun W => Code.wp _ _ _ _ W) (Q := fun W => Nb .i64 43 W w4.heap.size L5 ∧ Mo w W g h n LO HI) _ (HK.out _ rfl) ?_
      clear HK H4 hK5
      generalize w4.heap.size = g5
      rintro w5 ⟨hn5, H5⟩
      have hlw := H5.low
      unfold Nb at hlw hn5
      have had5 := had w5
      go_wp2_with (first | (refine wpList_load_row rfl 43 (.tmp 3) rfl g rfl 43 _ (0, 0) _ hlw Tryd.underlying43 rfl hszL ?_) | (refine wpList_load_row rfl 43 (.tmp 5) rfl g5 rfl 43 _ (0, 0) _ hn5 Tryd.underlying43 rfl hsz5 ?_))
      refine had5.mono ?_
      rintro e w6 ⟨rfl, hb6⟩
      have H6 := H5.below hb6
      clear H5 hb6 hn5 hlw had5 had
      have hpt6 := hpt w6
      go_wp2_with fail
      refine hpt6.mono ?_
      rintro e w7 ⟨rfl, hb7⟩
      have H7 := H6.below hb7
      clear H6 hb7 hpt6 hpt
      have HW : Hid (∀ z : Array Value, z.size = 24 → ((w7.alloc (.cells z 43)).alloc (.cells z 43)).there w7.heap.size 0 (ns .i64 LA).size ∧ (((w7.alloc (.cells z 43)).alloc (.cells z 43)).setCells w7.heap.size 0 (ns .i64 LA).toList).there (w7.heap.size + 1) 0 (ns .i64 LB).size
          ∧ Nb .i64 43 ((((w7.alloc (.cells z 43)).alloc (.cells z 43)).setCells w7.heap.size 0 (ns .i64 LA).toList).setCells (w7.heap.size + 1) 0 (ns .i64 LB).toList) w7.heap.size LA
          ∧ Nb .i64 43 ((((w7.alloc (.cells z 43)).alloc (.cells z 43)).setCells w7.heap.size 0 (ns .i64 LA).toList).setCells (w7.heap.size + 1) 0 (ns .i64 LB).toList) (w7.heap.size + 1) LB
          ∧ Mo w ((((w7.alloc (.cells z 43)).alloc (.cells z 43)).setCells w7.heap.size 0 (ns .i64 LA).toList).setCells (w7.heap.size + 1) 0 (ns .i64 LB).toList) g h n LO HI) := fun z hz => by
        have g1 : ((w7.alloc (.cells z 43)).alloc (.cells z 43)).heap[w7.heap.size]? = some (.cells z 43 (0, 0)) := (Below.heap_alloc _ _ _ (by simp)).trans (heap_new _ _)
        have g2 : ((w7.alloc (.cells z 43)).alloc (.cells z 43)).heap[w7.heap.size + 1]? = some (.cells z 43 (0, 0)) := by
          have h := heap_new (w7.alloc (.cells z 43)) (.cells z 43)
          simpa using h
        have g3 := heap_setCells w7.heap.size 43 (ns .i64 LA).toList 0 z _ g1
        rw [setMany_all _ _ (by rw [Array.length_toList, hsA, hz]), Array.toArray_toList] at g3
        have g4 := (heap_setCells_other w7.heap.size (w7.heap.size + 1) (by omega) (ns .i64 LA).toList 0 ((w7.alloc (.cells z 43)).alloc (.cells z 43))).trans g2
        have g5' := heap_setCells (w7.heap.size + 1) 43 (ns .i64 LB).toList 0 z _ g4
        rw [setMany_all _ _ (by rw [Array.length_toList, hsB, hz]), Array.toArray_toList] at g5'
        refine ⟨there_of_heap g1 (by rw [hsA, hz]; decide), there_of_heap g4 (by rw [hsB, hz]; decide), (heap_setCells_other (w7.heap.size + 1) w7.heap.size (by omega) (ns .i64 LB).toList 0 _).trans g3, g5', ?_⟩
        have k1 := H7.own.lt
        have k2 := H7.res.lt
        have k3 := H7.low.lt
        have k4 := H7.high.lt
        have hz2 := H7.bel.size
        exact ⟨(((H7.own.alloc _).alloc _).aside (by omega) _ _).aside (by omega) _ _, H7.nl, (((H7.res.alloc _).alloc _).aside (by omega) _ _).aside (by omega) _ _, (((H7.low.alloc _).alloc _).aside (by omega) _ _).aside (by omega) _ _, (((H7.high.alloc _).alloc _).aside (by omega) _ _).aside (by omega) _ _, H7.gg, H7.gh, H7.ne,
          Below.setCells (Below.setCells ((H7.bel.alloc hz2 _).alloc (by simp; omega) _) hz2 _ _) (by omega) _ _⟩
      go_upto_region 8 with (first | (refine wpList_store_mid rfl 43 (.tmp 6) (.tmp 31) rfl w7.heap.size 0 _ rfl rfl (HW.out _ rfl).1 hszA hoA ?_) | (refine wpList_store_mid rfl 43 (.tmp 7) (.tmp 32) rfl (w7.heap.size + 1) 0 _ rfl rfl (HW.out _ rfl).2.1 hszB hoB ?_))
      refine with_world (R := fun W => Code.wp _ _ _ _ W) (Q := fun W => Nb .i64 43 W w7.heap.size LA ∧ Nb .i64 43 W (w7.heap.size + 1) LB ∧ Mo w W g h n LO HI) _ (HW.out _ rfl).2.2 ?_
      clear HW H7
      generalize w7.heap.size + 1 = g7
      generalize w7.heap.size = g6
      rintro w8 ⟨hnA, hnB, H8⟩
      (try simp only [put_none])
      have hz8 := hz2 w8
      have hnB' := hnB
      unfold Nb at hnB
      go_wp2_with (refine wpList_load_row rfl 43 (.tmp 7) rfl g7 rfl 43 _ (0, 0) _ hnB Tryd.underlying43 rfl hszB ?_)
      refine hz8.mono ?_
      rintro e w9 ⟨rfl, hb9⟩
      have H9 := H8.below hb9
      have hnA9 := hnA.below hb9 hnA.lt
      clear H8 hb9 hnA hnB hnB' hz8 hz2
      by_cases hQ0 : Q = 0
      · rw [decide_eq_true hQ0]
        rw [if_pos hQ0] at HEND
        have hlw := H9.low
        have HT := H9.res.store LO (by rw [hlL]; rfl)
        have hth := H9.res.there (ns .i64 LO).size (by rw [ns_size, hlL]; rfl)
        have hbf : Below w.heap.size w (w9.setCells (w.heap.size + 1) 0 (ns .i64 LO).toList) := Below.setCells H9.bel (by simp) _ _
        unfold Nb at hlw HT
        go_wp2_with (first | (refine wpList_load_row rfl 43 (.tmp 3) rfl g rfl 43 _ (0, 0) _ hlw Tryd.underlying43 rfl hszL ?_) | (refine wpList_store_mid rfl 43 (.tmp 2) (.tmp 37) rfl (w.heap.size + 1) 0 _ rfl rfl hth hszL hoL ?_))
        refine bodyPost_ret (results_cell_row rfl _ _ (w.heap.size + 1) 43 _ (0, 0) _ rfl HT Tryd.underlying43 rfl hszL) rfl ?_
        rw [HEND.out, HLA.out.2]
        exact ⟨rfl, hbf⟩
      · rw [decide_eq_false hQ0]
        rw [if_neg hQ0] at HEND
        have HT := H9.res.store LA (by rw [hlA]; rfl)
        have hth := H9.res.there (ns .i64 LA).size (by rw [ns_size, hlA]; rfl)
        have hbf : Below w.heap.size w (w9.setCells (w.heap.size + 1) 0 (ns .i64 LA).toList) := Below.setCells H9.bel (by simp) _ _
        unfold Nb at hnA9 HT
        go_wp2_with (first | (refine wpList_load_row rfl 43 (.tmp 6) rfl g6 rfl 43 _ (0, 0) _ hnA9 Tryd.underlying43 rfl hszA ?_) | (refine wpList_store_mid rfl 43 (.tmp 2) (.tmp 36) rfl (w.heap.size + 1) 0 _ rfl rfl hth hszA hoA ?_))
        refine bodyPost_ret (results_cell_row rfl _ _ (w.heap.size + 1) 43 _ (0, 0) _ rfl HT Tryd.underlying43 rfl hszA) rfl ?_
        rw [HEND.out, HLA.out.1]
        exact ⟨rfl, hbf⟩
    · have hge : 1361129467683753853853498429727072845824 ≤ gk := by omega
      rw [decide_eq_false hq] at hze
      have hless := fd_less gk hge
      have HFL : Hid (fd gk < gk ∧ fd gk % Pp = v0 % Pp ∧ fd gk ≤ v0) := ⟨hless, (fd_mod gk).trans hmod, by omega⟩
      have hfd : gk % 1361129467683753853853498429727072845824 + 5 * (gk / 1361129467683753853853498429727072845824) = fd gk := rfl
      have hfi := HFI.out _ hql
      have had := HAD.out (gk % 1361129467683753853853498429727072845824) (5 * (gk / 1361129467683753853853498429727072845824)) (by omega) (by omega)
      rw [hfd] at had
      have hpt := HPA.out (fd gk) (by omega)
      have hnw := d24_length (fd gk)
      have hlA := d24_length (fd gk % 1361129467683753853853498429727072845824)
      have hlB := d24_length (fd gk / 1361129467683753853853498429727072845824)
      clear hless hfd hmod hle hql hvl HPA HZE
      clear HFI HAD
      generalize hLA : d24 (fd gk % 1361129467683753853853498429727072845824) = LA at *
      generalize hLB : d24 (fd gk / 1361129467683753853853498429727072845824) = LB at *
      have HLA : Hid (d24 (fd gk % 1361129467683753853853498429727072845824) = LA ∧ d24 (fd gk / 1361129467683753853853498429727072845824) = LB) := ⟨hLA, hLB⟩
      clear hLA hLB
      generalize d24 (fd gk) = NW at *
      generalize d24 (5 * (gk / 1361129467683753853853498429727072845824)) = F5 at *
      generalize d24 (gk / 1361129467683753853853498429727072845824) = HI at *
      generalize d24 (gk % 1361129467683753853853498429727072845824) = LO at *
      have HFI : Hid _ := hfi
      have HAD : Hid _ := had
      clear hfi had
      have hszH := ns24 HI hlH
      have hszN := ns24 NW hnw
      have hszA := ns24 LA hlA
      have hszB := ns24 LB hlB
      have hoA := ns_one .i64 LA
      have hoB := ns_one .i64 LB
      have hzL : (Tryd.prog.info? 43).map (·.size) = some (nsL .i64 LO).length := by rw [nsL_length, hlL]; exact size43
      have hzH : (Tryd.prog.info? 43).map (·.size) = some (nsL .i64 HI).length := by rw [nsL_length, hlH]; exact size43
      have hhg := HS.high
      unfold Nb at hhg
      go_wp2_with (refine wpList_load_row rfl 43 (.tmp 4) rfl h rfl 43 _ (0, 0) _ hhg Tryd.underlying43 rfl hszH ?_)
      refine hze.mono ?_
      rintro e w4 ⟨rfl, hb4⟩
      have H4 := HS.below hb4
      clear HS hb4 hhg hze
      go_upto_region 3 with fail
      refine wp_region_held_drew (S := fun W => W.rangeAt g 0 (nsL .i64 LO) ∧ W.rangeAt h 0 (nsL .i64 HI)) (by kernel_rfl) ⟨H4.drew.low.rng, H4.drew.high.rng⟩ ?_
      intro hS
      have HV := H4.drew
      clear H4
      revert HV hS
      generalize w4.drew = V
      intro hS HV
      refine wpAnyH_take (i := 0) (oi := { dst := some 16, op := .load 43 (.tmp 3), type := _, pos := _, after := _, guard := none }) (v := .agg (nsL .i64 LO).toArray) rfl (by kernel_rfl) (by kernel_rfl) (by kernel_rfl) (fun _ _ _ h => h) (yieldsIf_load_mid (by rfl) 43 (.tmp 3) rfl g 0 (by simp [Act.eval]) (nsL .i64 LO) _ (fun x hx => hx.1) Tryd.underlying43 rfl hzL) hS ?_
      (try simp only [Act.put, List.setIfInBounds_toArray, List.set_cons_zero, List.set_cons_succ])
      refine wpAnyH_take (i := 1) (oi := { dst := some 17, op := .load 43 (.tmp 4), type := _, pos := _, after := _, guard := none }) (v := .agg (nsL .i64 HI).toArray) rfl (by kernel_rfl) (by kernel_rfl) (by kernel_rfl) (fun _ _ _ h => h) (yieldsIf_load_mid (by rfl) 43 (.tmp 4) rfl h 0 (by simp [Act.eval]) (nsL .i64 HI) _ (fun x hx => hx.2) Tryd.underlying43 rfl hzH) hS ?_
      (try simp only [Act.put, List.setIfInBounds_toArray, List.set_cons_zero, List.set_cons_succ])
      refine wpAnyH_ready (rs := [2]) (by kernel_rfl) (by simp) ?_
      refine AllReadyH.cons (o := { dst := some 18, op := .call { callee := .value (.func 30), args := #[.tmp 17], argTypes := #[43] }, type := _, pos := _, after := _, guard := none }) rfl (fun K hK => ?_) AllReadyH.nil
      go_simp
      refine (HFI.out V).mono ?_
      rintro e W2 ⟨rfl, hbc⟩
      have HV2 := HV.below hbc
      have hS2 : W2.rangeAt g 0 (nsL .i64 LO) ∧ W2.rangeAt h 0 (nsL .i64 HI) := ⟨HV2.low.rng, HV2.high.rng⟩
      refine hK.out _ _ hS2 (fun _ => ?_)
      clear hK K
      (try simp only [Act.put, List.setIfInBounds_toArray, List.set_cons_zero, List.set_cons_succ])
      revert HV2 hS2
      clear HV hbc hS
      generalize W2 = V
      intro HV hS
      refine wpAnyH_ready (rs := [3]) (by kernel_rfl) (by simp) ?_
      refine AllReadyH.cons (o := { dst := some 19, op := .call { callee := .value (.func 18), args := #[.tmp 16, .tmp 18], argTypes := #[43, 43] }, type := _, pos := _, after := _, guard := none }) rfl (fun K hK => ?_) AllReadyH.nil
      go_simp
      refine (HAD.out V).mono ?_
      rintro e W2 ⟨rfl, hbc⟩
      have HV2 := HV.below hbc
      have hS2 : W2.rangeAt g 0 (nsL .i64 LO) ∧ W2.rangeAt h 0 (nsL .i64 HI) := ⟨HV2.low.rng, HV2.high.rng⟩
      refine hK.out _ _ hS2 (fun _ => ?_)
      clear hK K
      (try simp only [Act.put, List.setIfInBounds_toArray, List.set_cons_zero, List.set_cons_succ])
      revert HV2 hS2
      clear HV hbc hS
      generalize W2 = V
      intro HV hS
      refine wpAnyH_ready (rs := [4]) (by kernel_rfl) (by simp) ?_
      refine AllReadyH.cons (o := { dst := none, op := .store 43 (.tmp 1) (.tmp 19), type := _, pos := _, after := _, guard := none }) rfl (fun K hK => ?_) AllReadyH.nil
      refine step_store_mid rfl 43 (.tmp 1) (.tmp 19) rfl w.heap.size 0 (ns .i64 NW) (by simp [Act.eval]) (by simp [Act.eval, ns]) (HV.there NW hnw) (ns24 NW hnw) (ns_one .i64 NW) ?_
      have H2 := HV.storeN NW hnw
      refine hK.out _ _ ⟨H2.low.rng, H2.high.rng⟩ (fun _ => ?_)
      clear hK K hS
      (try simp only [Act.put])
      refine wpAnyH_done (by kernel_rfl) ?_ _
      revert H2
      generalize V.setCells w.heap.size 0 (ns .i64 NW).toList = w5
      intro H5
      have hpt5 := hpt w5
      have hnn := H5.own
      unfold Nb at hnn
      go_wp2_with (refine wpList_load_row rfl 43 (.tmp 1) rfl w.heap.size rfl 43 _ (0, 0) _ hnn Tryd.underlying43 rfl hszN ?_)
      refine hpt5.mono ?_
      rintro e w6 ⟨rfl, hb6⟩
      have H6 := H5.below hb6
      clear H5 hb6 hnn hpt5 hpt
      obtain ⟨t1, H7⟩ := H6.storeL LA hlA hlL
      obtain ⟨t2, H8⟩ := H7.storeH LB hlB hlH
      clear H6 H7
      go_wp2_with (first | (refine wpList_store_mid rfl 43 (.tmp 3) (.tmp 23) rfl g 0 _ rfl rfl t1 hszA hoA ?_) | (refine wpList_store_mid rfl 43 (.tmp 4) (.tmp 24) rfl h 0 _ rfl rfl t2 hszB hoB ?_))
      (try simp only [put_none])
      go_roundg (fd gk)
      case measure => exact HFL.out.1
      case rel => exact ⟨NW, HFL.out.2.1, HFL.out.2.2, by rw [HLA.out.1, HLA.out.2]; exact H8⟩

end Go.Proofs.YtggfeppphhigdabDoor
