import Derived.Test.YtbjiamaaocjbfaaGreatDoorLfA
import Derived.Test.YtbjiamaaocjbfaaGreatDoorCaP
namespace Go.Proofs.YtbjiamaaocjbfaaGreatDoor.Kp
open Go.RowKit Go.Lib Go.Deep Kr

/-- where a slot stands behind a step -/
def kf (turned : Int) (dropped : Bool) (i : Nat) : Nat := if dropped = true ∧ turned < (i : Int) then i - 1 else i
/-- the slots of two rings agree but for one -/
structure Oth (xs ys : List Slot) (turned : Int) (dropped : Bool) (more : Nat) : Prop where
  t0 : dropped = true → 0 ≤ turned
  at_ : ∀ (i : Nat) s, xs[i]? = some s → ((i : Int) = turned ∧ dropped = true) ∨ ∃ s', ys[kf turned dropped i]? = some s' ∧ ((i : Int) ≠ turned → s = s')
  len : ys.length = kf turned dropped xs.length + more

theorem kf_le (turned : Int) (dropped : Bool) (i : Nat) : kf turned dropped i ≤ i := by
  unfold kf
  split <;> omega
theorem kf_skip (j : Nat) : kf (j : Int) true (j + 1) = kf (j : Int) true j := by
  unfold kf
  rw [if_pos ⟨rfl, by omega⟩, if_neg (by omega)]
  omega
theorem kf_next (turned : Int) (dropped : Bool) (j : Nat) (h0 : dropped = true → 0 ≤ turned) (h : ¬ ((j : Int) = turned ∧ dropped = true)) : kf turned dropped (j + 1) = kf turned dropped j + 1 := by
  unfold kf
  cases dropped with
  | false => rfl
  | true =>
    have h1 : (j : Int) ≠ turned := fun e => h ⟨e, rfl⟩
    have h2 := h0 rfl
    by_cases hlt : turned < (j : Int)
    · rw [if_pos ⟨rfl, by omega⟩, if_pos ⟨rfl, hlt⟩]
      omega
    · rw [if_neg (by omega), if_neg (by omega)]

set_option maxRecDepth 20000 in
set_option maxHeartbeats 2000000 in
theorem others_any (was is : List UInt8) (turned : Int) (dropped : Bool) (more : Nat) (w : World) (h1 : parseE was = 0) (h2 : parseE is = 0) (hid : parseI was = parseI is) (hO : Oth (parseS was) (parseS is) turned dropped more) (hl1 : was.length ≤ 5000) (hl2 : is.length ≤ 5000) (hT : KT w) :
    Calls Tryz.prog 37 #[.string (str was), .string (str is), .int .i64 turned, .bool dropped, .int .i64 (more : Int)] w fun e w' => e = .returned (.bool true) ∧ Below w.heap.size w w' := by
  have c1 := parseC (str was) w (by rw [str_size]; omega) hT
  rw [str_data, h1] at c1
  go_enter Tryz.func37, Tryz.ntmps37
  go_wp2_with fail
  refine c1.mono ?_
  clear c1
  rintro e w1 ⟨⟨a1, n1, k1, rfl, ho1⟩, hb1⟩
  obtain ⟨W1, hW1⟩ : ∃ W, w1.alloc (.cells #[.string (str (parseI was)), .slice a1 n1 k1] 32) = W := ⟨_, rfl⟩
  have hb2 : Below w.heap.size w W1 := by rw [← hW1]; exact hb1.alloc hb1.size _
  have hp1 : W1.heap[w1.heap.size]? = some (.cells #[.string (str (parseI was)), .slice a1 n1 k1] 32 (0, 0)) := by rw [← hW1]; exact heap_new _ _
  have hs1 : SeeS W1 (.slice a1 n1 k1) (parseS was) := by rw [← hW1]; exact (SeeS.of_own ho1).below ((Below.refl _ _).alloc (Nat.le_refl _) _)
  have c2 := parseC (str is) W1 (by rw [str_size]; omega) (hT.below hb2)
  rw [str_data, h2, ← hid] at c2
  obtain ⟨i1, hi1⟩ : ∃ i1, str (parseI was) = i1 := ⟨_, rfl⟩
  rw [hi1] at c2 hp1 hW1
  rw [hi1]
  clear hb1 ho1
  go_wp2_with fail
  refine c2.mono ?_
  clear c2 hW1
  rintro e w3 ⟨⟨a2, n2, k2, rfl, ho3⟩, hb3⟩
  obtain ⟨W3, hW3⟩ : ∃ W, w3.alloc (.cells #[.string i1, .slice a2 n2 k2] 32) = W := ⟨_, rfl⟩
  have hb4 : Below W1.heap.size W1 W3 := by rw [← hW3]; exact hb3.alloc hb3.size _
  have hp3 : W3.heap[w3.heap.size]? = some (.cells #[.string i1, .slice a2 n2 k2] 32 (0, 0)) := by rw [← hW3]; exact heap_new _ _
  have hp1' : W3.heap[w1.heap.size]? = _ := (hb4.block _ (heap_lt hp1)).trans hp1
  have hs3 : SeeS W3 (.slice a2 n2 k2) (parseS is) := by rw [← hW3]; exact (SeeS.of_own ho3).below ((Below.refl _ _).alloc (Nat.le_refl _) _)
  have hs1' : SeeS W3 (.slice a1 n1 k1) (parseS was) := hs1.below hb4
  have hbw : Below w.heap.size w W3 := hb2.trans (hb4.mono hb2.size)
  have x0 : W3.cell? ⟨w1.heap.size, 0, none⟩ = some (.string i1) := (cell_of_heap hp1').trans rfl
  have x1 : W3.cell? ⟨w1.heap.size, 1, none⟩ = some (.slice a1 n1 k1) := (cell_of_heap hp1').trans rfl
  have x2 : W3.cell? ⟨w3.heap.size, 0, none⟩ = some (.string i1) := (cell_of_heap hp3).trans rfl
  have x3 : W3.cell? ⟨w3.heap.size, 1, none⟩ = some (.slice a2 n2 k2) := (cell_of_heap hp3).trans rfl
  obtain ⟨_, b1, o1, q1, hv1, hr1, H1⟩ := hs1'.ex
  injection hv1 with e1 e2 e3
  subst e1 e3
  obtain ⟨_, b2, o2, q2, hv2, hr2, H2⟩ := hs3.ex
  injection hv2 with f1 f2 f3
  subst f1 f3
  have HH1 : Hid (∀ j u, (ringCells (parseS was))[j]? = some u → W3.cell? ⟨b1, o1 + j, none⟩ = some u) := H1
  have HH2 : Hid (∀ j u, (ringCells (parseS is))[j]? = some u → W3.cell? ⟨b2, o2 + j, none⟩ = some u) := H2
  rw [← e2] at hr1
  rw [← f2] at hr2
  have HL : Hid (n1 = (parseS was).length ∧ n2 = (parseS is).length) := ⟨e2, f2⟩
  have h8 : n1 ≤ 8 ∧ n2 ≤ 8 := by
    obtain ⟨_, _, h, _⟩ := right_parts (print_parse h1).2
    obtain ⟨_, _, h', _⟩ := right_parts (print_parse h2).2
    omega
  have HO : Hid _ := hO
  have HBW : Hid _ := hbw
  have HX : Hid (∀ W, Below W3.heap.size W3 W → W.cell? ⟨w1.heap.size, 1, none⟩ = some (.slice a1 n1 k1) ∧ W.cell? ⟨w3.heap.size, 1, none⟩ = some (.slice a2 n2 k2)) := fun W hb => ⟨(hb.cell (p := ⟨w1.heap.size, 1, none⟩) (heap_lt hp1')).trans x1, (hb.cell (p := ⟨w3.heap.size, 1, none⟩) (heap_lt hp3)).trans x3⟩
  clear hs1 hs1' hs3 hp1 hp1' hp3 hb2 hb3 hb4 hbw H1 H2 hO e2 f2 ho3 hT hid h1 h2 hl1 hl2 hi1
  go_wp2_with (go_at_call 10; refine (knum_any _ _).mono ?_; rintro e wn ⟨rfl, rfl⟩)
  go_loopg [15, 16] n1 (fun gk kv iv wr => ∃ j : Nat, j + gk = n1 ∧ iv = .int .i64 (j : Int) ∧ kv = .int .i64 (kf turned dropped j : Int) ∧ Below W3.heap.size W3 wr)
  case atStart => exact ⟨0, by omega, rfl, by rw [Nat.le_zero.1 (kf_le turned dropped 0)]; rfl, Below.refl _ _⟩
  case round =>
    clear x0 x1 x2 x3 hW3
    obtain ⟨j, hj, rfl, rfl, hbel⟩ := hrel
    have HK : Hid (j + gk = n1) := hj
    have hj' : j ≤ n1 := by omega
    clear hj
    obtain ⟨r1, r2⟩ := HX.out _ hbel
    have HB9 : Hid _ := hbel
    by_cases hlt : j < n1
    · have hltI : (j : Int) < (n1 : Int) := by omega
      obtain ⟨s, hs⟩ : ∃ s, (parseS was)[j]? = some s := ⟨_, List.getElem?_eq_getElem (by have := HL.out.1; omega)⟩
      by_cases hsk : (j : Int) = turned ∧ dropped = true
      · obtain ⟨ht, hd⟩ := hsk
        subst ht hd
        have hk := kf_skip j
        clear hs hbel
        go_wp2
        go_roundg (gk - 1)
        case measure => have := HK.out; omega
        case rel => exact ⟨j + 1, by have := HK.out; omega, by go_num, by rw [hk], HB9.out⟩
      · have hnx := kf_next turned dropped j HO.out.t0 hsk
        rcases HO.out.at_ j s hs with h | ⟨s', hs', hss⟩
        · exact absurd h hsk
        have hk2 : kf turned dropped j < n2 := by
          have := (List.getElem?_eq_some_iff.1 hs').1
          have := HL.out.2
          omega
        have hnx' : ((kf turned dropped (j + 1) : Nat) : Int) = (kf turned dropped j : Int) + 1 := by rw [hnx]; rfl
        generalize hkk : kf turned dropped j = k at *
        have hk2I : (k : Int) < (n2 : Int) := by omega
        have hkge : ¬ (n2 : Int) ≤ (k : Int) := by omega
        have hkgN : ¬ n2 ≤ k := by omega
        have hkgD : decide (n2 ≤ k) = false := decide_eq_false hkgN
        have hkgI : decide ((n2 : Int) ≤ (k : Int)) = false := decide_eq_false hkge
        obtain ⟨rfl, hb1⟩ := hr1 (by omega)
        obtain ⟨rfl, hb2⟩ := hr2 (by omega)
        obtain ⟨a0, a1, a2⟩ := ring_at (parseS was) j s hs
        obtain ⟨d0, d1, d2⟩ := ring_at (parseS is) k s' hs'
        have c0 := (hbel.cell (p := ⟨b1, o1 + j * 3, none⟩) hb1).trans (HH1.out _ _ a0)
        have c1 := (hbel.cell (p := ⟨b1, o1 + (j * 3 + 1), none⟩) hb1).trans (HH1.out _ _ a1)
        have c2 := (hbel.cell (p := ⟨b1, o1 + (j * 3 + 2), none⟩) hb1).trans (HH1.out _ _ a2)
        have g0 := (hbel.cell (p := ⟨b2, o2 + k * 3, none⟩) hb2).trans (HH2.out _ _ d0)
        have g1 := (hbel.cell (p := ⟨b2, o2 + (k * 3 + 1), none⟩) hb2).trans (HH2.out _ _ d1)
        have g2 := (hbel.cell (p := ⟨b2, o2 + (k * 3 + 2), none⟩) hb2).trans (HH2.out _ _ d2)
        rw [← Nat.add_assoc] at c1 c2 g1 g2
        clear a0 a1 a2 d0 d1 d2 hs hbel hs'
        by_cases htn : (j : Int) = turned
        · have hdf : dropped = false := by
            cases dropped with
            | false => rfl
            | true => exact absurd ⟨htn, rfl⟩ hsk
          subst htn hdf
          clear hss hsk
          generalize str s.salt = xa at c0
          generalize str s.wrapped = xc at c2
          generalize s.rounds = xb at c1
          generalize str s'.salt = ya at g0
          generalize str s'.wrapped = yc at g2
          generalize s'.rounds = yb at g1
          go_wp2_with fail
          go_quiet (fail)
          go_wp2
          go_roundg (gk - 1)
          case measure => have := HK.out; omega
          case rel => exact ⟨j + 1, by have := HK.out; omega, by go_num, by rw [hnx'], HB9.out.trans ((bdN _ _).mono HB9.out.size)⟩
        · have hst := hss htn
          subst hst
          have htb : ((j : Int) == turned) = false := by simpa using htn
          have htc : ((j : Int) != turned) = true := by simpa using htn
          clear hss hsk
          generalize str s.salt = xa at c0 g0
          generalize str s.wrapped = xc at c2 g2
          generalize s.rounds = xb at c1 g1
          have KW : Hid (∀ n, (wr.drewN n).cell? ⟨w1.heap.size, 1, none⟩ = some (.slice (some ⟨b1, o1, none⟩) n1 k1) ∧ (wr.drewN n).cell? ⟨w3.heap.size, 1, none⟩ = some (.slice (some ⟨b2, o2, none⟩) n2 k2) ∧ (wr.drewN n).cell? ⟨b1, o1 + j * 3, none⟩ = some (.string xa) ∧ (wr.drewN n).cell? ⟨b1, o1 + j * 3 + 1, none⟩ = some (.int .i64 xb) ∧ (wr.drewN n).cell? ⟨b1, o1 + j * 3 + 2, none⟩ = some (.string xc) ∧ (wr.drewN n).cell? ⟨b2, o2 + k * 3, none⟩ = some (.string xa) ∧ (wr.drewN n).cell? ⟨b2, o2 + k * 3 + 1, none⟩ = some (.int .i64 xb) ∧ (wr.drewN n).cell? ⟨b2, o2 + k * 3 + 2, none⟩ = some (.string xc)) := fun n => ⟨r1, r2, c0, c1, c2, g0, g1, g2⟩
          go_wp2_with fail
          go_region_held_law (fun W => W.cell? ⟨w1.heap.size, 1, none⟩ = some (.slice (some ⟨b1, o1, none⟩) n1 k1) ∧ W.cell? ⟨w3.heap.size, 1, none⟩ = some (.slice (some ⟨b2, o2, none⟩) n2 k2) ∧ W.cell? ⟨b1, o1 + j * 3, none⟩ = some (.string xa) ∧ W.cell? ⟨b1, o1 + j * 3 + 1, none⟩ = some (.int .i64 xb) ∧ W.cell? ⟨b1, o1 + j * 3 + 2, none⟩ = some (.string xc) ∧ W.cell? ⟨b2, o2 + k * 3, none⟩ = some (.string xa) ∧ W.cell? ⟨b2, o2 + k * 3 + 1, none⟩ = some (.int .i64 xb) ∧ W.cell? ⟨b2, o2 + k * 3 + 2, none⟩ = some (.string xc)) (first | exact KW.out _ | go_keep) (first | fail)
          go_wp2
          go_roundg (gk - 1)
          case measure => have := HK.out; omega
          case rel => exact ⟨j + 1, by have := HK.out; omega, by go_num, by rw [hnx'], HB9.out.trans ((bdN _ _).mono HB9.out.size)⟩
    · obtain rfl : j = n1 := by omega
      have hltI : ¬ (j : Int) < (j : Int) := by omega
      have hfin : (n2 : Int) = (kf turned dropped j : Int) + (more : Int) := by
        have := HO.out.len
        have h1 := HL.out.1
        have h2 := HL.out.2
        rw [← h1, ← h2] at this
        omega
      have hk8 : (kf turned dropped j : Int) + (more : Int) ≤ 8 := by omega
      have HB8 : Hid (Below w.heap.size w wr) := HBW.out.trans (hbel.mono HBW.out.size)
      clear hbel
      generalize kf turned dropped j = k at *
      go_wp2
      go_ret
      exact ⟨rfl, HB8.out⟩

end Go.Proofs.YtbjiamaaocjbfaaGreatDoor.Kp
