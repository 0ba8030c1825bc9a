import Derived.Test.YtbdgbefjmfcgcaaDoorIxMh
import Derived.Test.YtbdgbefjmfcgcaaDoorIxZd
import Derived.Test.YtbdgbefjmfcgcaaDoorIxO
import Derived.Test.YtbdgbefjmfcgcaaDoorIxP
namespace Go.Proofs.YtbdgbefjmfcgcaaDoor.Ix
open Go.RowKit Go.Lib Go.Deep
set_option maxRecDepth 20000 in
set_option maxHeartbeats 1000000 in
/-- a tree's state held against itself -/
theorem sameTree_any (f d : Int) (T : List Nd) (w : World) (a a2 : Option Addr) (n k k2 : Nat) (h1 : See w 5 (.slice a n k) n (ndsC T)) (h2 : See w 5 (.slice a2 n k2) n (ndsC T)) (hn : T.length = n) (hnb : n ≤ 1000000) :
    Calls Tryd.prog 11 #[.agg #[.int .i64 f, .int .i64 d, .slice a n k], .agg #[.int .i64 f, .int .i64 d, .slice a2 n k2]] w fun e w' => e = .returned (.bool true) ∧ Below w.heap.size w w' := by
  obtain ⟨V, hV, hbV, g0, g1⟩ := two_new w #[.int .i64 f, .int .i64 d, .slice a n k] #[.int .i64 f, .int .i64 d, .slice a2 n k2] 28 28
  have HX : Hid (∀ X, Below V.heap.size V X → (X.cell? ⟨w.heap.size, 0, none⟩ = some (.int .i64 f) ∧ X.cell? ⟨w.heap.size, 1, none⟩ = some (.int .i64 d) ∧ X.cell? ⟨w.heap.size, 2, none⟩ = some (.slice a n k)) ∧ (X.cell? ⟨w.heap.size + 1, 0, none⟩ = some (.int .i64 f) ∧ X.cell? ⟨w.heap.size + 1, 1, none⟩ = some (.int .i64 d) ∧ X.cell? ⟨w.heap.size + 1, 2, none⟩ = some (.slice a2 n k2)) ∧ See X 5 (.slice a n k) n (ndsC T) ∧ See X 5 (.slice a2 n k2) n (ndsC T) ∧ Below w.heap.size w X) := fun X hX => by
    have hb := below_on hX hbV
    exact ⟨cells3 ((hX.block _ (heap_lt g0)).trans g0), cells3 ((hX.block _ (heap_lt g1)).trans g1), h1.below hb, h2.below hb, hb⟩
  obtain ⟨⟨x0, x1, x2⟩, ⟨y0, y1, y2⟩, -, -, -⟩ := HX.out V (Below.refl _ _)
  clear h1 h2 g0 g1 hbV
  go_enter Tryd.func11, Tryd.ntmps11
  go_wp2_with fail
  clear x0 x1 x2 y0 y1 y2
  go_loopg [5] n (fun gk iv wr => ∃ i : Nat, i + gk = n ∧ iv = .int .i64 (i : Int) ∧ Hid (Below V.heap.size V wr))
  case atStart => exact ⟨0, by omega, rfl, Below.refl _ _⟩
  case round =>
    obtain ⟨i, hik, rfl, HB⟩ := hrel
    obtain ⟨⟨x0, x1, x2⟩, ⟨y0, y1, y2⟩, hs1, hs2, hbw⟩ := HX.out wr HB.out
    by_cases hlt : i < n
    · have hltI : (i : Int) < (n : Int) := by omega
      obtain ⟨x, hx⟩ : ∃ x, T[i]? = some x := ⟨_, List.getElem?_eq_getElem (by omega)⟩
      obtain ⟨b, off, rfl, hbl, hc⟩ := hs1.row ndC_len (by decide) hx
      obtain ⟨b2, off2, rfl, hbl2, hc2⟩ := hs2.row ndC_len (by decide) hx
      obtain ⟨kd, nu, pa, nm, sz⟩ := x
      have c0 : wr.cell? ⟨b, off + i * 5, none⟩ = some (.int .i64 kd) := hc 0 _ rfl
      have c1 : wr.cell? ⟨b, off + i * 5 + 1, none⟩ = some (.int .i64 nu) := hc 1 _ rfl
      have c2 : wr.cell? ⟨b, off + i * 5 + 2, none⟩ = some (.int .i64 pa) := hc 2 _ rfl
      have c3 : wr.cell? ⟨b, off + i * 5 + 3, none⟩ = some (.string nm) := hc 3 _ rfl
      have c4 : wr.cell? ⟨b, off + i * 5 + 4, none⟩ = some (.int .i64 sz) := hc 4 _ rfl
      have d0 : wr.cell? ⟨b2, off2 + i * 5, none⟩ = some (.int .i64 kd) := hc2 0 _ rfl
      have d1 : wr.cell? ⟨b2, off2 + i * 5 + 1, none⟩ = some (.int .i64 nu) := hc2 1 _ rfl
      have d2 : wr.cell? ⟨b2, off2 + i * 5 + 2, none⟩ = some (.int .i64 pa) := hc2 2 _ rfl
      have d3 : wr.cell? ⟨b2, off2 + i * 5 + 3, none⟩ = some (.string nm) := hc2 3 _ rfl
      have d4 : wr.cell? ⟨b2, off2 + i * 5 + 4, none⟩ = some (.int .i64 sz) := hc2 4 _ rfl
      clear hc hc2 hx hs1 hs2 hbw
      go_wp2_with fail
      go_quiet (fail)
      go_wp2
      go_roundg (gk - 1)
      case measure => omega
      case rel => exact ⟨i + 1, by omega, rfl, bdr HB.out _⟩
    · obtain rfl : i = n := by omega
      have hltI : ¬ (i : Int) < (i : Int) := by omega
      have HE : Hid _ := hbw
      clear hs1 hs2 hbw
      go_wp2
      go_ret
      exact ⟨rfl, HE.out⟩
set_option maxRecDepth 20000 in
set_option maxHeartbeats 1000000 in
/-- a table's state held against itself -/
theorem samePool_any (O : List Ob) (Q : List Int) (w : World) (a a2 q q2 : Option Addr) (n m k k2 j j2 : Nat) (h1 : See w 4 (.slice a n k) n (obsC O)) (h2 : See w 4 (.slice a2 n k2) n (obsC O)) (h3 : See w 1 (.slice q m j) m (zsC Q)) (h4 : See w 1 (.slice q2 m j2) m (zsC Q)) (hn : O.length = n) (hm : Q.length = m) (hnb : n ≤ 1000000) (hmb : m ≤ 1000000) :
    Calls Tryd.prog 12 #[.agg #[.slice a n k, .slice q m j], .agg #[.slice a2 n k2, .slice q2 m j2]] w fun e w' => e = .returned (.bool true) ∧ Below w.heap.size w w' := by
  obtain ⟨V, hV, hbV, g0, g1⟩ := two_new w #[.slice a n k, .slice q m j] #[.slice a2 n k2, .slice q2 m j2] 32 32
  have HX : Hid (∀ X, Below V.heap.size V X → (X.cell? ⟨w.heap.size, 0, none⟩ = some (.slice a n k) ∧ X.cell? ⟨w.heap.size, 1, none⟩ = some (.slice q m j)) ∧ (X.cell? ⟨w.heap.size + 1, 0, none⟩ = some (.slice a2 n k2) ∧ X.cell? ⟨w.heap.size + 1, 1, none⟩ = some (.slice q2 m j2)) ∧ See X 4 (.slice a n k) n (obsC O) ∧ See X 4 (.slice a2 n k2) n (obsC O) ∧ See X 1 (.slice q m j) m (zsC Q) ∧ See X 1 (.slice q2 m j2) m (zsC Q) ∧ Below w.heap.size w X) := fun X hX => by
    have hb := below_on hX hbV
    exact ⟨cells2 ((hX.block _ (heap_lt g0)).trans g0), cells2 ((hX.block _ (heap_lt g1)).trans g1), h1.below hb, h2.below hb, h3.below hb, h4.below hb, hb⟩
  obtain ⟨⟨x0, x1⟩, ⟨y0, y1⟩, -⟩ := HX.out V (Below.refl _ _)
  clear h1 h2 h3 h4 g0 g1 hbV
  go_enter Tryd.func12, Tryd.ntmps12
  go_wp2_with fail
  clear x0 x1 y0 y1
  go_loopg [5] n (fun gk iv wr => ∃ i : Nat, i + gk = n ∧ iv = .int .i64 (i : Int) ∧ Hid (Below V.heap.size V wr))
  case atStart => exact ⟨0, by omega, rfl, Below.refl _ _⟩
  case round =>
    obtain ⟨i, hik, rfl, HB⟩ := hrel
    obtain ⟨⟨x0, x1⟩, ⟨y0, y1⟩, hs1, hs2, -, -, -⟩ := HX.out wr HB.out
    by_cases hlt : i < n
    · have hltI : (i : Int) < (n : Int) := by omega
      obtain ⟨x, hx⟩ : ∃ x, O[i]? = some x := ⟨_, List.getElem?_eq_getElem (by omega)⟩
      obtain ⟨b, off, rfl, hbl, hc⟩ := hs1.row obC_len (by decide) hx
      obtain ⟨b2, off2, rfl, hbl2, hc2⟩ := hs2.row obC_len (by decide) hx
      obtain ⟨nm, tg, bk, ow⟩ := x
      have c0 : wr.cell? ⟨b, off + i * 4, none⟩ = some (.string nm) := hc 0 _ rfl
      have c1 : wr.cell? ⟨b, off + i * 4 + 1, none⟩ = some (.string tg) := hc 1 _ rfl
      have c2 : wr.cell? ⟨b, off + i * 4 + 2, none⟩ = some (.int .i64 bk) := hc 2 _ rfl
      have c3 : wr.cell? ⟨b, off + i * 4 + 3, none⟩ = some (.int .i64 ow) := hc 3 _ rfl
      have d0 : wr.cell? ⟨b2, off2 + i * 4, none⟩ = some (.string nm) := hc2 0 _ rfl
      have d1 : wr.cell? ⟨b2, off2 + i * 4 + 1, none⟩ = some (.string tg) := hc2 1 _ rfl
      have d2 : wr.cell? ⟨b2, off2 + i * 4 + 2, none⟩ = some (.int .i64 bk) := hc2 2 _ rfl
      have d3 : wr.cell? ⟨b2, off2 + i * 4 + 3, none⟩ = some (.int .i64 ow) := hc2 3 _ rfl
      clear hc hc2 hx hs1 hs2
      go_wp2_with fail
      go_quiet (fail)
      go_wp2
      go_roundg (gk - 1)
      case measure => omega
      case rel => exact ⟨i + 1, by omega, rfl, bdr HB.out _⟩
    · obtain rfl : i = n := by omega
      have hltI : ¬ (i : Int) < (i : Int) := by omega
      clear hs1 hs2
      go_wp2_with fail
      clear x0 x1 y0 y1
      go_loopg [6] m (fun gk iv wr => ∃ e : Nat, e + gk = m ∧ iv = .int .i64 (e : Int) ∧ Hid (Below V.heap.size V wr))
      case atStart => exact ⟨0, by omega, rfl, HB.out⟩
      case round =>
        obtain ⟨e, hek, rfl, HB2⟩ := hrel
        obtain ⟨⟨x0, x1⟩, ⟨y0, y1⟩, -, -, hs3, hs4, hbw⟩ := HX.out wr HB2.out
        by_cases hlt2 : e < m
        · have hltI2 : (e : Int) < (m : Int) := by omega
          obtain ⟨z, hz⟩ : ∃ z, Q[e]? = some z := ⟨_, List.getElem?_eq_getElem (by omega)⟩
          obtain ⟨b, off, rfl, hbl, hc⟩ := hs3.z hz
          obtain ⟨b2, off2, rfl, hbl2, hc2⟩ := hs4.z hz
          clear hz hs3 hs4 hbw
          go_wp2_with fail
          go_quiet (fail)
          go_wp2
          go_roundg (gk - 1)
          case measure => omega
          case rel => exact ⟨e + 1, by omega, rfl, bdr HB2.out _⟩
        · obtain rfl : e = m := by omega
          have hltI2 : ¬ (e : Int) < (e : Int) := by omega
          have HE : Hid _ := hbw
          clear hs3 hs4 hbw
          go_wp2
          go_ret
          exact ⟨rfl, HE.out⟩
end Go.Proofs.YtbdgbefjmfcgcaaDoor.Ix
