import Derived.Test.YtadhfhfnhcphiaaDoorScK
import Derived.Deep.Cut
import Derived.Deep.RegionHeldLaw
import Derived.BigQuiet
namespace Go.Proofs.YtadhfhfnhcphiaaDoor.Sc
open Go.RowKit Go.Lib Go.Deep

theorem bdN (w : World) (n : Nat) : Below w.heap.size w (w.drewN n) := ⟨rfl, rfl, rfl, Nat.le_refl _, fun _ _ => rfl⟩
theorem two_of {w : World} {g : Nat} {t : TypeId} {a b : Value} (h : w.heap[g]? = some (.cells #[a, b] t (0, 0))) : w.cell? ⟨g, 0, none⟩ = some a ∧ w.cell? ⟨g, 1, none⟩ = some b := by
  constructor <;> (rw [Lib.cell_of_heap h]; rfl)
theorem tel7 : str (telL 7 []) = ({ data := #[99, 111, 100, 101, 32, 55, 10] } : ByteArray) := by
  have h : itoa 7 = [55] := by
    unfold itoa
    rw [if_neg (by decide), show (7 : Int).toNat = 7 from rfl, decDigits, dif_pos (by decide)]
    rfl
  unfold telL
  rw [h]
  rfl
def scS (L : List ByteArray) : List Value := L.map Value.string
theorem scS_take (L : List ByteArray) (k : Nat) (s : ByteArray) (h : L[k]? = some s) : scS (L.take (k + 1)) = scS (L.take k) ++ [.string s] := by
  have e : L.take (k + 1) = L.take k ++ [s] := by
    rw [List.take_add_one, h]
    rfl
  rw [e]
  simp [scS]
theorem cellA (w : World) (x : Value) (e : TypeId) : ∀ j u, [x][j]? = some u → (w.alloc (.cells #[x] e)).cell? ((⟨w.heap.size, 0, none⟩ : Addr).add j) = some u := by
  intro j u h
  exact cells_new w #[x] e j u (by simpa using h)

theorem oth_set {w : World} {g i : Nat} {v : Value} {cs : Array Value} {t : TypeId} {fr : Nat × Nat} (h : w.heap[g]? = some (.cells cs t fr)) : Oth0 t w (w.setCell ⟨g, i, none⟩ v) := fun k o ho h0 => by
  by_cases hk : k = g
  · subst hk
    rw [h] at h0
    exact absurd (Option.some.inj h0).symm (ho _ _)
  · exact (Below.heap_setCell _ _ _ _ hk).trans h0
theorem set3 {w : World} {g : Nat} {t : TypeId} {a b c d e f x : Value} (h : w.heap[g]? = some (.cells #[a, b, c, d, e, f] t (0, 0))) : (w.setCell ⟨g, 3, none⟩ x).heap[g]? = some (.cells #[a, b, c, x, e, f] t (0, 0)) := by
  simp [World.setCell, Array.getElem?_modify, h]
theorem set1 {w : World} {g : Nat} {t : TypeId} {a b x : Value} (h : w.heap[g]? = some (.cells #[a, b] t (0, 0))) : (w.setCell ⟨g, 1, none⟩ x).heap[g]? = some (.cells #[a, x] t (0, 0)) := by
  simp [World.setCell, Array.getElem?_modify, h]
theorem cellV (w : World) (t : It) (e : TypeId) : ∀ j u, (It.vals t)[j]? = some u → (w.alloc (.cells #[.int .i64 t.r.code, .string t.r.data, .int .i64 t.r.n, t.nms, .int .i64 t.r.kind, .int .i64 t.r.size] e)).cell? ((⟨w.heap.size, 0, none⟩ : Addr).add j) = some u := by
  intro j u h
  exact cells_new w _ e j u (by simpa [It.vals] using h)

set_option maxRecDepth 20000 in
set_option maxHeartbeats 4000000 in
theorem tells_walk (code : Int) (hc : I64 code) (rs : List Rz) (hrs : ∀ r ∈ rs, r.Ok) (hrl : rs.length ≤ 1048576) (rv : Value) (w : World) (hs : SeeR w rv rs) (ht : ITab w) :
    Calls Tryd.prog 3 #[.agg #[.int .i64 code, rv]] w fun e w' => e = .returned (.bool true) ∧ Below w.heap.size w w' := by
  obtain ⟨iS, iS0, iS1, iS2, iS3⟩ := infoOf infoS
  obtain ⟨iL, iL0, iL1, iL2, iL3⟩ := infoOf infoL
  obtain ⟨iR, iR0, iR1, iR2, iR3⟩ := infoOf infoR
  have HSEE : Hid (SeeR w rv rs) := hs
  obtain ⟨a, c, rfl, hac, hcell⟩ := hs
  have HC : Hid (rs ≠ [] → ∃ b off, a = some ⟨b, off, none⟩ ∧ b < w.heap.size ∧ ∀ (i : Nat) r, rs[i]? = some r → ResAt w b (off + i * 6) r) := hcell
  have HR : Hid (∀ r ∈ rs, r.Ok) := hrs
  have HT : Hid (ITab w) := ht
  have HL0 : Hid (Lp w.heap.size (w.heap.size + 2) code (.slice a rs.length c) (.slice none 0 0) (.slice none 0 0) [] w ((w.alloc (.cells #[.int .i64 code, .slice a rs.length c] 25)).alloc (.cells #[.int .i64 code, .slice none 0 0] 25))) := by
    refine ⟨(Lib.alloc_old _ _ _ (by simp)).trans (heap_alloc_new _ _), ?_, World.ownsRow_nil _ _ _ _, World.ownsRow_nil _ _ _ _, (fun t ht => by cases ht), ((Below.refl _ _).alloc (Nat.le_refl _) _).alloc (by simp) _⟩
    have h := heap_alloc_new (w.alloc (.cells #[.int .i64 code, .slice a rs.length c] 25)) (.cells #[.int .i64 code, .slice none 0 0] 25)
    rw [show (w.alloc (.cells #[.int .i64 code, .slice a rs.length c] 25)).heap.size = w.heap.size + 1 by simp] at h
    exact h
  clear hcell hrs ht
  go_enter Tryd.func3, Tryd.ntmps3
  go_wp2_with fail
  go_loopg [4, 5] rs.length (fun gk fv i wr => ∃ (k : Nat) (gv : Value) (L : List It), k + gk = rs.length ∧ i = .int .i64 (k : Int) ∧ Hid (L.map It.r = rs.take k) ∧ Hid (Lp w.heap.size (w.heap.size + 2) code (.slice a rs.length c) fv gv L w wr))
  case atStart => exact ⟨0, _, [], by omega, rfl, rfl, HL0.out⟩
  case round =>
    obtain ⟨k, gv, L, hk, rfl, HM, HP⟩ := hrel
    have k1 : wr.cell? ⟨w.heap.size, 1, none⟩ = some (.slice a rs.length c) := by rw [Lib.cell_of_heap HP.out.arg]; rfl
    have hkl : k ≤ rs.length := by omega
    have hLk : L.length = k := by
      have := congrArg List.length HM.out
      rw [List.length_map, List.length_take] at this
      omega
    by_cases hlk : k < rs.length
    · have hltI : (k : Int) < (rs.length : Int) := by omega
      obtain ⟨r, hrk⟩ : ∃ r, rs[k]? = some r := ⟨_, List.getElem?_eq_getElem hlk⟩
      obtain ⟨b, off, rfl, hbb, hcl⟩ := HC.out (fun e => by rw [e] at hrk; simp at hrk)
      have HOK : Hid r.Ok := HR.out r (List.mem_of_getElem? hrk)
      obtain ⟨nv, hsn, d0, d1, d2, d3, d4, d5⟩ := hcl k r hrk
      have hcb := fun j => HP.out.bel.cell (p := ⟨b, j, none⟩) hbb
      have c0 := (hcb _).trans d0
      have c1 := (hcb _).trans d1
      have c2 := (hcb _).trans d2
      have c3 := (hcb _).trans d3
      have c4 := (hcb _).trans d4
      have c5 := (hcb _).trans d5
      clear d0 d1 d2 d3 d4 d5 hcb
      obtain ⟨na, nc, hnv⟩ : ∃ na nc, nv = .slice na r.names.length nc := by obtain ⟨na, nc, h, _⟩ := hsn; exact ⟨na, nc, h⟩
      subst hnv
      have HSN : Hid (SeeS w (.slice na r.names.length nc) r.names) := hsn
      have hnl : r.names.length ≤ 1048576 := Nat.le_trans (len_sum _) HOK.out.all
      have HM2 : Hid (L.map It.r ++ [r] = rs.take (k + 1)) := by
        show _ = _
        rw [HM.out, List.take_add_one, hrk]
        rfl
      have hA0 : w.heap.size + 1 < wr.heap.size := heap_lt HP.out.giv
      have hGB : ∀ k, gv.ownBlock = some k → k < wr.heap.size := fun k hk => (HP.out.res.lt k hk).2
      have hgU := heap_alloc_new wr (.cells #[.int .i64 r.code, .string r.data, .int .i64 r.n, .slice na r.names.length nc, .int .i64 r.kind, .int .i64 r.size] 29)
      have hPU := HP.out.below (by omega) ((Below.refl wr.heap.size wr).alloc (Nat.le_refl _) (.cells #[.int .i64 r.code, .string r.data, .int .i64 r.n, .slice na r.names.length nc, .int .i64 r.kind, .int .i64 r.size] 29))
      clear hcl hrk hsn HM
      go_wp2_with fail
      revert hgU hPU
      generalize wr.alloc (.cells #[.int .i64 r.code, .string r.data, .int .i64 r.n, .slice na r.names.length nc, .int .i64 r.kind, .int .i64 r.size] 29) = U
      intro hgU hPU
      clear HP k1 c0 c1 c2 c3 c4 c5
      generalize wr.heap.size = g at hgU hA0 hGB ⊢
      have HGB : Hid (∀ k, gv.ownBlock = some k → k < g) := hGB
      clear hGB
      have hgU : U.heap[g]? = some (.cells #[.int .i64 r.code, .string r.data, .int .i64 r.n, .slice na r.names.length nc, .int .i64 r.kind, .int .i64 r.size] 29 (0, 0)) := hgU
      have HGU : Hid (U.heap[g]? = some (.cells #[.int .i64 r.code, .string r.data, .int .i64 r.n, .slice na r.names.length nc, .int .i64 r.kind, .int .i64 r.size] 29 (0, 0))) := hgU
      have HPU : Hid (Lp w.heap.size (w.heap.size + 2) code (.slice (some ⟨b, off, none⟩) rs.length c) u4 gv L w U) := hPU
      have hUA : w.heap.size + 2 ≤ U.heap.size := by have := heap_lt hgU; omega
      clear hgU hPU
      go_loopg [7, 8] r.names.length (fun gk v i wq => ∃ m : Nat, m + gk = r.names.length ∧ i = .int .i64 (m : Int) ∧ wq.ownsRow U.heap.size 9 1 v m (scS (r.names.take m)) ∧ Hid (Below U.heap.size U wq))
      case atStart => exact ⟨0, by omega, rfl, by rw [List.take_zero]; exact World.ownsRow_nil _ _ _ _, Below.refl _ _⟩
      case round =>
        obtain ⟨m, hm, rfl, hown, HB⟩ := hrel
        have hgq := (HB.out.block _ (heap_lt HGU.out)).trans HGU.out
        have k3 := (res_cells hgq).2.2.2.1
        have hsm : (scS (r.names.take m)).length = m := by simp [scS]; omega
        by_cases hlm : m < r.names.length
        · have hltm : (m : Int) < (r.names.length : Int) := by omega
          obtain ⟨s, hs⟩ : ∃ s, r.names[m]? = some s := ⟨_, List.getElem?_eq_getElem hlm⟩
          obtain ⟨na', nc', hsl, _, hcellN⟩ := HSN.out
          obtain ⟨bn, on, hna, hbn, hcn⟩ := hcellN (fun e => by rw [e] at hs; simp at hs)
          injection hsl with hsl1 _ hsl3
          subst hsl1
          subst hsl3
          subst hna
          have hBw : Below w.heap.size w wr := HPU.out.bel.trans (HB.out.mono (by omega))
          have cN : wr.cell? ⟨bn, on + m, none⟩ = some (.string s) := (hBw.cell (p := ⟨bn, on + m, none⟩) hbn).trans (hcn m s hs)
          have hst := scS_take r.names m s hs
          have hone : ∀ u ∈ [Value.string s], u.oneCell' = true := by simp [Value.oneCell']
          have hBs := HB.out.size
          clear hs hcn hBw
          go_wp2_with (at_builtin; refine wpList_append_own _ rfl _ _ 27 rfl U.heap.size 9 iS (.string { data := #[] }) 1 16 Tryd.underlying27 iS0 iS1 iS2 iS3 rfl (by decide) _ _ _ rfl (hown.alloc _) ⟨wr.heap.size, 0, none⟩ 1 1 [.string s] rfl rfl (cellA wr _ 9) hone (by unfold maxLen; omega) (by omega) (by simp; omega) ?_)
          intro v6 w6 hown6 hgr6 _
          have HB6 : Hid (Below U.heap.size U w6) := by
            have hbA := HB.out.alloc (by omega) (.cells #[.string s] 9)
            exact hbA.grown hgr6 (by simp; omega) (fun k hk => (hown.lt k hk).1)
          have HO6 : Hid (w6.ownsRow U.heap.size 9 1 v6 (m + 1) (scS (r.names.take (m + 1)))) := by
            show World.ownsRow _ _ _ _ _ _ _
            rw [hst]
            exact hown6
          clear hown6 hgr6 hown hgq k3 cN
          go_wp2
          go_roundg (gk - 1)
          case measure => omega
          case rel => exact ⟨m + 1, by omega, by go_num, HO6.out, HB6⟩
        · obtain rfl : m = r.names.length := by omega
          have hltm : ¬ (r.names.length : Int) < (r.names.length : Int) := by omega
          rw [List.take_length] at hown hsm
          have hone : ∀ u ∈ [Value.string mark], u.oneCell' = true := by simp [Value.oneCell']
          have hBs := HB.out.size
          go_wp2_with (at_builtin; refine wpList_append_own _ rfl _ _ 27 rfl U.heap.size 9 iS (.string { data := #[] }) 1 16 Tryd.underlying27 iS0 iS1 iS2 iS3 rfl (by decide) _ _ _ rfl (hown.alloc _) ⟨wr.heap.size, 0, none⟩ 1 1 [.string mark] rfl rfl (cellA wr _ 9) hone (by unfold maxLen; omega) (by omega) (by simp; omega) ?_)
          intro v6 w6 hown6 hgr6 _
          have HB6 : Hid (Below U.heap.size U w6) := by
            have hbA := HB.out.alloc (by omega) (.cells #[.string mark] 9)
            exact hbA.grown hgr6 (by simp; omega) (fun k hk => (hown.lt k hk).1)
          obtain ⟨bl, cap, cur, rfl, hbl, hblh, hcap, hcapm, hcs, hcat⟩ := owns_pos hown6 (by omega)
          have HL1 : Hid ((It.mk r bl cap).Lies (w.heap.size + 2) w6) := ⟨by show w.heap.size + 2 ≤ bl; omega, hcap, cur, hblh, fun j s hj => hcat j _ (by
            show (scS r.names ++ [Value.string mark])[j]? = _
            rw [show scS r.names ++ [Value.string mark] = (r.names ++ [mark]).map Value.string by simp [scS]]
            rw [List.getElem?_map]
            show (((It.mk r bl cap).r.names ++ [mark])[j]?).map _ = _
            rw [hj]
            rfl)⟩
          clear hown6 hgr6 hown hgq k3 hcat hblh hcs
          have HL6 : Hid (Lp w.heap.size (w.heap.size + 2) code (.slice (some ⟨b, off, none⟩) rs.length c) u4 gv L w w6) := HPU.out.below (by omega) HB6.out
          have HG6 : Hid (w6.heap[g]? = some (.cells #[.int .i64 r.code, .string r.data, .int .i64 r.n, .slice na r.names.length nc, .int .i64 r.kind, .int .i64 r.size] 29 (0, 0))) := (HB6.out.block _ (heap_lt HGU.out)).trans HGU.out
          have h6s := HB6.out.size
          have hone2 : ∀ u ∈ [Value.slice (some ⟨bl, 0, none⟩) (r.names.length + 1) cap], u.oneCell' = true := by simp [Value.oneCell']
          have hfl := HL6.out.ful
          rw [hLk] at hfl
          clear HB HPU HGU hBs hsm
          go_wp2_with (at_builtin; refine wpList_append_own _ rfl _ _ 26 rfl (w.heap.size + 2) 27 iL (.slice none 0 0) 1 24 Tryd.underlying26 iL0 iL1 iL2 iL3 rfl (by decide) _ _ _ rfl (hfl.alloc _) ⟨w6.heap.size, 0, none⟩ 1 1 [.slice (some ⟨bl, 0, none⟩) (r.names.length + 1) cap] rfl rfl (cellA w6 _ 27) hone2 (by unfold maxLen; omega) (by omega) (by simp; omega) ?_)
          intro v7 w7 hown7 hgr7 _
          have hO7 : Oth0 27 w6 w7 := (oth_alloc w6 _).trans (oth_grown (hfl.alloc _) hgr7)
          have hb7 : Below w.heap.size w w7 := by
            have hbA := HL6.out.bel.alloc (by omega) (.cells #[.slice (some ⟨bl, 0, none⟩) (r.names.length + 1) cap] 27)
            exact hbA.grown hgr7 (by have := hbA.size; omega) (fun k hk => by have := (hfl.lt k hk).1; omega)
          have HB7 : Hid (Below w.heap.size w w7) := hb7
          have HF7 : Hid (w7.ownsRow (w.heap.size + 2) 27 1 v7 (L ++ [It.mk r bl cap]).length (rowsC (L ++ [It.mk r bl cap]))) := by
            show World.ownsRow _ _ _ _ _ _ _
            rw [List.length_append, hLk, show rowsC (L ++ [It.mk r bl cap]) = rowsC L ++ [.slice (some ⟨bl, 0, none⟩) (r.names.length + 1) cap] by simp [rowsC, It.row]]
            exact hown7
          have HR7 : Hid (w7.ownsRow (w.heap.size + 2) 29 6 gv L.length (valsC L)) := owns_oth HL6.out.res hO7 (by decide)
          have HI7 : Hid (∀ t ∈ L ++ [It.mk r bl cap], t.Lies (w.heap.size + 2) w7) := fun t ht => by
            rcases List.mem_append.1 ht with h | h
            · exact (HL6.out.its t h).oth hO7 (by decide)
            · rw [List.mem_singleton.1 h]
              exact HL1.out.oth hO7 (by decide)
          have HA7 : Hid (w7.heap[w.heap.size]? = some (.cells #[.int .i64 code, .slice (some ⟨b, off, none⟩) rs.length c] 25 (0, 0))) := hO7.cells (by decide) HL6.out.arg
          have HV7 : Hid (w7.heap[w.heap.size + 1]? = some (.cells #[.int .i64 code, gv] 25 (0, 0))) := hO7.cells (by decide) HL6.out.giv
          have hg7 : w7.heap[g]? = some (.cells #[.int .i64 r.code, .string r.data, .int .i64 r.n, .slice na r.names.length nc, .int .i64 r.kind, .int .i64 r.size] 29 (0, 0)) := hO7.cells (by decide) HG6.out
          clear hown7 hgr7 hO7 hb7 hfl HL6 HG6 HL1 HB6
          obtain ⟨q0, q1, q2, q3, q4, q5⟩ := res_cells hg7
          have hf7 : w7.frozen? ⟨g, 3, none⟩ = false := Lib.frozen_of_heap hg7 3
          have hcap0 : ¬ cap = 0 := by omega
          have hcapI : (r.names.length : Int) ≤ (cap : Int) := by omega
          obtain ⟨W8, hW8⟩ : ∃ W8, w7.setCell ⟨g, 3, none⟩ (.slice (some ⟨bl, 0, none⟩) r.names.length cap) = W8 := ⟨_, rfl⟩
          have hg8 := set3 (x := .slice (some ⟨bl, 0, none⟩) r.names.length cap) hg7
          rw [hW8] at hg8
          have HO8 : Hid (Oth0 29 w7 W8) := by show Oth0 _ _ _; rw [← hW8]; exact oth_set hg7
          have HB8 : Hid (Below w.heap.size w W8) := by show Below _ _ _; rw [← hW8]; exact HB7.out.setCell (p := ⟨g, 3, none⟩) (by show w.heap.size ≤ g; omega) _
          have HR8 : W8.ownsRow (w.heap.size + 2) 29 6 gv L.length (valsC L) := by
            rw [← hW8]
            exact HR7.out.kept (row := some g) ⟨rfl, rfl, rfl, by simp [World.setCell], fun k _ hk => Below.heap_setCell _ _ _ _ (fun e => hk (by simp [e]))⟩ (Or.inr fun e => Nat.lt_irrefl _ (HGB.out _ e))
          have HV8 : Hid (W8.heap[w.heap.size + 1]? = some (.cells #[.int .i64 code, gv] 25 (0, 0))) := HO8.out.cells (by decide) HV7.out
          have v1 : W8.cell? ⟨w.heap.size + 1, 1, none⟩ = some gv := by rw [Lib.cell_of_heap HV8.out]; rfl
          obtain ⟨p0, p1, p2, p3, p4, p5⟩ := res_cells hg8
          have hv7 : ∃ af cf, v7 = .slice af (k + 1) cf := by
            have h := owns_len HF7.out
            rw [List.length_append, hLk] at h
            exact h
          obtain ⟨af, cf, rfl⟩ := hv7
          have hW8s : w.heap.size + 2 ≤ W8.heap.size := by have := heap_lt hg8; omega
          have hone3 : ∀ u ∈ (It.mk r bl cap).vals, u.oneCell' = true := by simp [It.vals, It.nms, Value.oneCell']
          have hrl8 : W8.ownsRow (w.heap.size + 2) 29 6 gv L.length (valsC L) := HR8
          go_wp2_with (at_builtin; refine wpList_append_own _ rfl _ _ 23 rfl (w.heap.size + 2) 29 iR zR 6 72 Tryd.underlying23 iR0 iR1 iR2 iR3 rfl (by decide) _ _ _ rfl (hrl8.alloc _) ⟨W8.heap.size, 0, none⟩ 1 1 (It.mk r bl cap).vals rfl rfl (cellV W8 (It.mk r bl cap) 29) hone3 (by unfold maxLen; omega) (by omega) (by simp; omega) ?_)
          intro v9 w9 hown9 hgr9 _
          have hO9 : Oth0 29 w7 w9 := HO8.out.trans ((oth_alloc W8 _).trans (oth_grown (hrl8.alloc _) hgr9))
          have hb9 : Below w.heap.size w w9 := by
            have hbA := HB8.out.alloc (by omega) (.cells #[.int .i64 r.code, .string r.data, .int .i64 r.n, .slice (some ⟨bl, 0, none⟩) r.names.length cap, .int .i64 r.kind, .int .i64 r.size] 29)
            exact hbA.grown hgr9 (by have := hbA.size; omega) (fun k hk => by have := (hrl8.lt k hk).1; omega)
          obtain ⟨ga, gc, rfl⟩ := owns_len hown9
          have hv9 : w9.heap[w.heap.size + 1]? = some (.cells #[.int .i64 code, gv] 25 (0, 0)) := hO9.cells (by decide) HV7.out
          have hq9 := set1 (x := .slice ga (k + 1) gc) hv9
          have hO10 : Oth0 25 w9 (w9.setCell ⟨w.heap.size + 1, 1, none⟩ (.slice ga (k + 1) gc)) := oth_set hv9
          have HLP : Hid (Lp w.heap.size (w.heap.size + 2) code (.slice (some ⟨b, off, none⟩) rs.length c) (.slice af (k + 1) cf) (.slice ga (k + 1) gc) (L ++ [It.mk r bl cap]) w (w9.setCell ⟨w.heap.size + 1, 1, none⟩ (.slice ga (k + 1) gc))) := by
            refine ⟨?_, hq9, owns_oth (owns_oth HF7.out hO9 (by decide)) hO10 (by decide), ?_, fun t ht => ((HI7.out t ht).oth hO9 (by decide)).oth hO10 (by decide), hb9.setCell (p := ⟨w.heap.size + 1, 1, none⟩) (Nat.le_succ _) _⟩
            · exact (Below.heap_setCell _ _ _ _ (Nat.ne_of_lt (Nat.lt_succ_self _))).trans (hO9.cells (by decide) HA7.out)
            · refine owns_oth ?_ hO10 (by decide)
              rw [List.length_append, hLk, show valsC (L ++ [It.mk r bl cap]) = valsC L ++ (It.mk r bl cap).vals by simp [valsC]]
              exact hown9
          have u1 : w9.cell? ⟨w.heap.size + 1, 1, none⟩ = some gv := by rw [Lib.cell_of_heap hv9]; rfl
          have f1 : w9.frozen? ⟨w.heap.size + 1, 1, none⟩ = false := Lib.frozen_of_heap hv9 1
          have HM3 : Hid ((L ++ [It.mk r bl cap]).map It.r = rs.take (k + 1)) := by
            show _ = _
            rw [List.map_append]
            exact HM2.out
          clear hown9 hgr9 hrl8 hO9 hO10 hq9 hv9 HF7 HI7 HA7 HV7 HR7 HB7 HB8 HO8 HV8 hg7 hg8 hb9 q0 q1 q2 q3 q4 q5 p0 p1 p2 p3 p4 p5 v1 hf7 HM2
          go_wp2
          go_roundg (rs.length - (k + 1))
          case measure => omega
          case rel => exact ⟨k + 1, _, _, by omega, by go_num, HM3, HLP⟩
    · obtain rfl : k = rs.length := by omega
      have hltI : ¬ (rs.length : Int) < (rs.length : Int) := by omega
      have HM1 : Hid (L.map It.r = rs) := by
        show _ = _
        rw [HM.out, List.take_length]
      clear HM HL0
      obtain ⟨ga, gc, rfl⟩ := owns_len HP.out.res
      obtain ⟨af, cf, rfl⟩ := owns_len HP.out.ful
      have hA0 : w.heap.size + 1 < wr.heap.size := heap_lt HP.out.giv
      have HS : Hid (∀ V, Below wr.heap.size wr V → (V.cell? ⟨w.heap.size, 0, none⟩ = some (.int .i64 code) ∧ V.cell? ⟨w.heap.size, 1, none⟩ = some (.slice a rs.length c)) ∧ V.cell? ⟨w.heap.size + 1, 0, none⟩ = some (.int .i64 code) ∧ V.cell? ⟨w.heap.size + 1, 1, none⟩ = some (.slice ga L.length gc)) := fun V hb =>
        ⟨two_of ((hb.block _ (heap_lt HP.out.arg)).trans HP.out.arg), two_of ((hb.block _ (heap_lt HP.out.giv)).trans HP.out.giv)⟩
      have HT1 : Hid (ITab wr) := HT.out.below HP.out.bel HT.out.lt
      have hSE := HP.out.see HM1.out
      have HTL : Hid (∀ V, Below wr.heap.size wr V → Calls Tryd.prog 4 #[.agg #[.int .i64 code, .slice ga L.length gc]] V fun e w' => e = .returned (.string (str (telL code rs))) ∧ Below V.heap.size V w') := fun V hb =>
        tell_any code hc rs HR.out hrl _ V (hSE.below hb) (HT1.out.below hb HT1.out.lt)
      have HRL : Hid (∀ V, Below wr.heap.size wr V → Calls Tryd.prog 5 #[.agg #[.int .i64 code, .slice a rs.length c]] V fun e w' => e = .returned (.string (str (telL code rs))) ∧ Below V.heap.size V w') := fun V hb =>
        rTell_any code hc rs HR.out hrl _ V ((HSEE.out.below HP.out.bel).below hb) (HT1.out.below hb HT1.out.lt)
      have hLr : L.length = rs.length := hLk
      rw [hLr] at HS HTL
      clear hSE hLk
      go_wp2_with fail
      have hs0 := HS.out wr (Below.refl _ _)
      go_region_held_law (fun V => (V.cell? ⟨w.heap.size, 0, none⟩ = some (.int .i64 code) ∧ V.cell? ⟨w.heap.size, 1, none⟩ = some (.slice a rs.length c)) ∧ V.cell? ⟨w.heap.size + 1, 0, none⟩ = some (.int .i64 code) ∧ V.cell? ⟨w.heap.size + 1, 1, none⟩ = some (.slice ga rs.length gc)) (first | exact HS.out _ (bdN _ _) | exact HS.out _ hb1x | exact HS.out _ hb2x | go_keep) (first | (go_at_call 5; refine (HRL.out _ hb1x).mono ?_; rintro e w2 ⟨rfl, hb2⟩; have hb2x := hb1x.trans (hb2.mono hb1x.size)) | (go_at_call 4; refine (HTL.out _ (bdN _ _)).mono ?_; rintro e w1 ⟨rfl, hb1⟩; have hb1x := (bdN wr 1).trans hb1))
      have HP2 : Hid (Lp w.heap.size (w.heap.size + 2) code (.slice a rs.length c) (.slice af rs.length cf) (.slice ga rs.length gc) L w w2) := by
        have h := HP.out.below (by omega) hb2x
        rw [hLr] at h
        exact h
      clear HS HT1 HTL HRL hs0 hb1 hb1x hb2 hb2x HP k1
      go_wp2_with fail
      go_loopg [9] rs.length (fun gk i wr => ∃ k : Nat, k + gk = rs.length ∧ i = .int .i64 (k : Int) ∧ Hid (Lp w.heap.size (w.heap.size + 2) code (.slice a rs.length c) (.slice af rs.length cf) (.slice ga rs.length gc) L w wr))
      case atStart => exact ⟨0, by omega, rfl, HP2.out⟩
      case round =>
        obtain ⟨k, hk, rfl, HP⟩ := hrel
        have k1 : wr.cell? ⟨w.heap.size, 1, none⟩ = some (.slice a rs.length c) := (two_of HP.out.arg).2
        have hA1 : w.heap.size + 1 < wr.heap.size := heap_lt HP.out.giv
        by_cases hlk : k < rs.length
        · have hltI : (k : Int) < (rs.length : Int) := by omega
          obtain ⟨r, hrk⟩ : ∃ r, rs[k]? = some r := ⟨_, List.getElem?_eq_getElem hlk⟩
          obtain ⟨t, ht, htr⟩ : ∃ t, L[k]? = some t ∧ t.r = r := by
            have h := hrk
            rw [← HM1.out, List.getElem?_map] at h
            exact Option.map_eq_some_iff.1 h
          subst htr
          obtain ⟨b, off, rfl, hbb, hcl⟩ := HC.out (fun e => by rw [e] at hrk; simp at hrk)
          obtain ⟨nv, hsn, d0, d1, d2, d3, d4, d5⟩ := hcl k t.r hrk
          obtain ⟨na, nc, hnv⟩ : ∃ na nc, nv = .slice na t.r.names.length nc := by obtain ⟨na, nc, h, _⟩ := hsn; exact ⟨na, nc, h⟩
          subst hnv
          have HSN : Hid (SeeS w (.slice na t.r.names.length nc) t.r.names) := hsn
          have hnl : t.r.names.length ≤ 1048576 := Nat.le_trans (len_sum _) (HR.out _ (List.mem_of_getElem? hrk)).all
          have hfull := HP.out.ful
          rw [hLr] at hfull
          obtain ⟨fb, fcap, fcur, hfv, _, hfh, _, _, _, hfc⟩ := owns_pos hfull (by omega)
          injection hfv with hfv1 _ hfv2
          subst hfv1
          subst hfv2
          have hres := HP.out.res
          rw [hLr] at hres
          obtain ⟨gb, gcap, gcur, hgv, _, hgh, _, _, _, hgc⟩ := owns_pos hres (by omega)
          injection hgv with hgv1 _ hgv2
          subst hgv1
          subst hgv2
          have x0 : wr.cell? ⟨gb, k * 6, none⟩ = some (.int .i64 t.r.code) := by rw [Lib.cell_of_heap hgh]; exact hgc _ _ (valsC_at L k 0 t ht (by decide))
          have x1 : wr.cell? ⟨gb, k * 6 + 1, none⟩ = some (.string t.r.data) := by rw [Lib.cell_of_heap hgh]; exact hgc _ _ (valsC_at L k 1 t ht (by decide))
          have x2 : wr.cell? ⟨gb, k * 6 + 2, none⟩ = some (.int .i64 t.r.n) := by rw [Lib.cell_of_heap hgh]; exact hgc _ _ (valsC_at L k 2 t ht (by decide))
          have x3 : wr.cell? ⟨gb, k * 6 + 3, none⟩ = some (.slice (some ⟨t.b, 0, none⟩) t.r.names.length t.cap) := by rw [Lib.cell_of_heap hgh]; exact hgc _ _ (valsC_at L k 3 t ht (by decide))
          have x4 : wr.cell? ⟨gb, k * 6 + 4, none⟩ = some (.int .i64 t.r.kind) := by rw [Lib.cell_of_heap hgh]; exact hgc _ _ (valsC_at L k 4 t ht (by decide))
          have x5 : wr.cell? ⟨gb, k * 6 + 5, none⟩ = some (.int .i64 t.r.size) := by rw [Lib.cell_of_heap hgh]; exact hgc _ _ (valsC_at L k 5 t ht (by decide))
          have g1 : wr.cell? ⟨w.heap.size + 1, 1, none⟩ = some (.slice (some ⟨gb, 0, none⟩) rs.length gc) := (two_of HP.out.giv).2
          have hbA : ∀ o, Below w.heap.size w (wr.alloc o) := fun o => HP.out.bel.alloc (by omega) o
          have y0 := fun o => ((hbA o).cell (p := ⟨b, _, none⟩) hbb).trans d0
          have y1 := fun o => ((hbA o).cell (p := ⟨b, _, none⟩) hbb).trans d1
          have y2 := fun o => ((hbA o).cell (p := ⟨b, _, none⟩) hbb).trans d2
          have y3 := fun o => ((hbA o).cell (p := ⟨b, _, none⟩) hbb).trans d3
          have y4 := fun o => ((hbA o).cell (p := ⟨b, _, none⟩) hbb).trans d4
          have y5 := fun o => ((hbA o).cell (p := ⟨b, _, none⟩) hbb).trans d5
          have m1 : ∀ o, (wr.alloc o).cell? ⟨w.heap.size, 1, none⟩ = some (.slice (some ⟨b, off, none⟩) rs.length c) := fun o => (two_of ((Lib.alloc_old wr o _ (heap_lt HP.out.arg)).trans HP.out.arg)).2
          clear d0 d1 d2 d3 d4 d5 hcl hrk hsn hgc hgh hres
          have hX := heap_alloc_new wr (.cells #[.int .i64 t.r.code, .string t.r.data, .int .i64 t.r.n, .slice (some ⟨t.b, 0, none⟩) t.r.names.length t.cap, .int .i64 t.r.kind, .int .i64 t.r.size] 29)
          have hXU := (Lib.alloc_old (wr.alloc (.cells #[.int .i64 t.r.code, .string t.r.data, .int .i64 t.r.n, .slice (some ⟨t.b, 0, none⟩) t.r.names.length t.cap, .int .i64 t.r.kind, .int .i64 t.r.size] 29)) (.cells #[.int .i64 t.r.code, .string t.r.data, .int .i64 t.r.n, .slice na t.r.names.length nc, .int .i64 t.r.kind, .int .i64 t.r.size] 29) _ (heap_lt hX)).trans hX
          have hYU := heap_alloc_new (wr.alloc (.cells #[.int .i64 t.r.code, .string t.r.data, .int .i64 t.r.n, .slice (some ⟨t.b, 0, none⟩) t.r.names.length t.cap, .int .i64 t.r.kind, .int .i64 t.r.size] 29)) (.cells #[.int .i64 t.r.code, .string t.r.data, .int .i64 t.r.n, .slice na t.r.names.length nc, .int .i64 t.r.kind, .int .i64 t.r.size] 29)
          rw [show (wr.alloc (.cells #[.int .i64 t.r.code, .string t.r.data, .int .i64 t.r.n, .slice (some ⟨t.b, 0, none⟩) t.r.names.length t.cap, .int .i64 t.r.kind, .int .i64 t.r.size] 29)).heap.size = wr.heap.size + 1 by simp] at hYU
          have hBU : Below wr.heap.size wr ((wr.alloc (.cells #[.int .i64 t.r.code, .string t.r.data, .int .i64 t.r.n, .slice (some ⟨t.b, 0, none⟩) t.r.names.length t.cap, .int .i64 t.r.kind, .int .i64 t.r.size] 29)).alloc (.cells #[.int .i64 t.r.code, .string t.r.data, .int .i64 t.r.n, .slice na t.r.names.length nc, .int .i64 t.r.kind, .int .i64 t.r.size] 29)) := ((Below.refl _ _).alloc (Nat.le_refl _) _).alloc (by simp) _
          have hPU := HP.out.below (by omega) hBU
          go_wp2_with fail
          revert hXU hYU hPU
          clear hBU hX
          generalize (wr.alloc (.cells #[.int .i64 t.r.code, .string t.r.data, .int .i64 t.r.n, .slice (some ⟨t.b, 0, none⟩) t.r.names.length t.cap, .int .i64 t.r.kind, .int .i64 t.r.size] 29)).alloc (.cells #[.int .i64 t.r.code, .string t.r.data, .int .i64 t.r.n, .slice na t.r.names.length nc, .int .i64 t.r.kind, .int .i64 t.r.size] 29) = U
          intro hXU hYU hPU
          clear HP k1 x0 x1 x2 x3 x4 x5 y0 y1 y2 y3 y4 y5 m1 g1 hbA hfh hfull
          generalize wr.heap.size = g at hXU hYU hA1 ⊢
          have hXU : U.heap[g]? = some (.cells #[.int .i64 t.r.code, .string t.r.data, .int .i64 t.r.n, .slice (some ⟨t.b, 0, none⟩) t.r.names.length t.cap, .int .i64 t.r.kind, .int .i64 t.r.size] 29 (0, 0)) := hXU
          have hYU : U.heap[g + 1]? = some (.cells #[.int .i64 t.r.code, .string t.r.data, .int .i64 t.r.n, .slice na t.r.names.length nc, .int .i64 t.r.kind, .int .i64 t.r.size] 29 (0, 0)) := hYU
          have HXU : Hid (U.heap[g]? = some (.cells #[.int .i64 t.r.code, .string t.r.data, .int .i64 t.r.n, .slice (some ⟨t.b, 0, none⟩) t.r.names.length t.cap, .int .i64 t.r.kind, .int .i64 t.r.size] 29 (0, 0))) := hXU
          have HYU : Hid (U.heap[g + 1]? = some (.cells #[.int .i64 t.r.code, .string t.r.data, .int .i64 t.r.n, .slice na t.r.names.length nc, .int .i64 t.r.kind, .int .i64 t.r.size] 29 (0, 0))) := hYU
          have HP : Hid (Lp w.heap.size (w.heap.size + 2) code (.slice (some ⟨b, off, none⟩) rs.length c) (.slice (some ⟨fb, 0, none⟩) rs.length cf) (.slice (some ⟨gb, 0, none⟩) rs.length gc) L w U) := hPU
          obtain ⟨x0, x1, x2, x3, x4, x5⟩ := res_cells hXU
          obtain ⟨y0, y1, y2, y3, y4, y5⟩ := res_cells hYU
          have hfull := hPU.ful
          rw [hLr] at hfull
          obtain ⟨fb', fcap, fcur, hfv, _, hfh, _, _, _, hfc⟩ := owns_pos hfull (by omega)
          injection hfv with hfv1 _ hfv2
          injection hfv1 with hfv1
          injection hfv1 with hfv1 _ _
          subst hfv1
          have z0 : U.cell? ⟨fb, k, none⟩ = some (.slice (some ⟨t.b, 0, none⟩) (t.r.names.length + 1) t.cap) := by
            rw [Lib.cell_of_heap hfh]
            refine hfc k _ ?_
            rw [rowsC, List.getElem?_map, ht]
            rfl
          obtain ⟨_, _, lcs, hlh, hlc⟩ := hPU.its t (List.mem_of_getElem? ht)
          have z1 : U.cell? ⟨t.b, t.r.names.length, none⟩ = some (.string mark) := by
            rw [Lib.cell_of_heap hlh]
            exact hlc _ _ (by rw [List.getElem?_append_right (Nat.le_refl _), Nat.sub_self]; rfl)
          have hnI : (t.r.names.length : Int) < (t.r.names.length : Int) + 1 := by omega
          clear hXU hYU hPU hfull hfc hfh hlc hlh hfv2
          have hmk : (mark.toList == [109, 97, 114, 107]) = true := by rw [toList_data]; rfl
          go_quiet (first | fail)
          have HBQ : Hid (Below U.heap.size U (U.drewN nq)) := bdN _ _
          clear x0 x1 x2 x3 x4 x5 y0 y1 y2 y3 y4 y5 z0 z1
          go_wp2_with fail
          go_loopg [12] t.r.names.length (fun gk i wq => ∃ m : Nat, m + gk = t.r.names.length ∧ i = .int .i64 (m : Int) ∧ Hid (Below U.heap.size U wq))
          case atStart => exact ⟨0, by omega, rfl, HBQ⟩
          case round =>
            obtain ⟨m, hm, rfl, HB⟩ := hrel
            have y3 := (res_cells ((HB.out.block _ (heap_lt HYU.out)).trans HYU.out)).2.2.2.1
            have hLq := HP.out.below (by have := heap_lt HP.out.giv; omega) HB.out
            by_cases hlm : m < t.r.names.length
            · have hltm : (m : Int) < (t.r.names.length : Int) := by omega
              have hltm2 : (m : Int) < (t.r.names.length : Int) + 1 := by omega
              obtain ⟨s, hs⟩ : ∃ s, t.r.names[m]? = some s := ⟨_, List.getElem?_eq_getElem hlm⟩
              obtain ⟨na', nc', hsl, _, hcellN⟩ := HSN.out
              obtain ⟨bn, on, hna, hbn, hcn⟩ := hcellN (fun e => by rw [e] at hs; simp at hs)
              injection hsl with hsl1 _ hsl3
              subst hsl1
              subst hsl3
              subst hna
              have cN := (hLq.bel.cell (p := ⟨bn, on + m, none⟩) hbn).trans (hcn m s hs)
              have hfull := hLq.ful
              rw [hLr] at hfull
              obtain ⟨fb', fcap, fcur, hfv, _, hfh, _, _, _, hfc⟩ := owns_pos hfull (by omega)
              injection hfv with hfv1 _ hfv2
              injection hfv1 with hfv1
              injection hfv1 with hfv1 _ _
              subst hfv1
              have z0 : wr.cell? ⟨fb, k, none⟩ = some (.slice (some ⟨t.b, 0, none⟩) (t.r.names.length + 1) t.cap) := by
                rw [Lib.cell_of_heap hfh]
                refine hfc k _ ?_
                rw [rowsC, List.getElem?_map, ht]
                rfl
              obtain ⟨_, _, lcs, hlh, hlc⟩ := hLq.its t (List.mem_of_getElem? ht)
              have z1 : wr.cell? ⟨t.b, m, none⟩ = some (.string s) := by
                rw [Lib.cell_of_heap hlh]
                exact hlc _ _ (by rw [List.getElem?_append_left hlm]; exact hs)
              clear hfull hfc hfh hlc hlh hs hcn hLq hfv2
              go_wp2_with fail
              go_quiet (first | fail)
              clear y3 cN z0 z1
              go_wp2_with fail
              go_roundg (gk - 1)
              case measure => omega
              case rel => exact ⟨m + 1, by omega, by go_num, HB.out.trans ((bdN _ _).mono HB.out.size)⟩
            · obtain rfl : m = t.r.names.length := by omega
              have hltm : ¬ (t.r.names.length : Int) < (t.r.names.length : Int) := by omega
              go_wp2
              go_roundg (rs.length - (k + 1))
              case measure => omega
              case rel => exact ⟨k + 1, by omega, by go_num, hLq⟩
        · obtain rfl : k = rs.length := by omega
          have hltI : ¬ (rs.length : Int) < (rs.length : Int) := by omega
          have HT2 : Hid (ITab wr) := HT.out.below HP.out.bel HT.out.lt
          have HB2 : Hid (Below w.heap.size w wr) := HP.out.bel
          have HTE : Hid (∀ V, Below wr.heap.size wr V → Calls Tryd.prog 4 #[.agg #[.int .i64 7, .slice none 0 0]] V fun e w' => e = .returned (.string (str (telL 7 []))) ∧ Below V.heap.size V w') := fun V hb =>
            tell_any 7 ⟨by omega, by omega⟩ [] (fun r hr => by cases hr) (by decide) _ V ⟨none, 0, rfl, Nat.le_refl _, fun e => absurd rfl e⟩ (HT2.out.below hb HT2.out.lt)
          clear HP
          have h7 := HTE.out wr (Below.refl _ _)
          rw [tel7] at h7
          go_wp2_with (go_at_call 4; refine h7.mono ?_)
          rintro e w3 he hb3
          subst he
          go_wp2
          go_ret
          exact ⟨rfl, HB2.out.trans (hb3.mono HB2.out.size)⟩
end Go.Proofs.YtadhfhfnhcphiaaDoor.Sc
