import Derived.Test.YtaejapdbghbgeaaSgD
namespace Go.Proofs.Ytaejapdbghbgeaa.Se
open Go.RowKit Go.Lib Go.Deep

theorem mCoins (pb : Nat) (w : World) : (method 196 23 (.pointer (some ⟨pb, 0, none⟩)) "Coins").run Try.prog w = .ok (20, .pointer (some ⟨pb, 0, none⟩)) w := by kernel_rfl
theorem mFresh (pb : Nat) (w : World) : (method 196 23 (.pointer (some ⟨pb, 0, none⟩)) "Fresh").run Try.prog w = .ok (9, .pointer (some ⟨pb, 0, none⟩)) w := by kernel_rfl
theorem mSeal (pb : Nat) (w : World) : (method 196 23 (.pointer (some ⟨pb, 0, none⟩)) "Seal").run Try.prog w = .ok (10, .pointer (some ⟨pb, 0, none⟩)) w := by kernel_rfl
theorem mOpen (pb : Nat) (w : World) : (method 196 23 (.pointer (some ⟨pb, 0, none⟩)) "Open").run Try.prog w = .ok (21, .pointer (some ⟨pb, 0, none⟩)) w := by kernel_rfl

theorem nOpen (pb : Nat) (w : World) : (nilAhead 196 23 (.pointer (some ⟨pb, 0, none⟩)) "Open").run Try.prog w = .ok (some false) w := by kernel_rfl
structure Lay where
  row : Row
  seed : Int
def layC (l : Lay) : List Value := [.int .i64 l.row.kind, .string l.row.name, .string l.row.text, .int .i64 l.seed, .string l.row.blob]
def layCells (ls : List Lay) : List Value := fc layC ls
def rowOf (i : Nat) (b : Box) : Row := ⟨(withinB b).kind, (withinB b).name, coinS ((withinB b).text.size + 40) b.seed i, (withinB b).text⟩
def lays : Nat → List Box → List Lay
  | _, [] => []
  | i, b :: bs => ⟨rowOf i b, b.seed⟩ :: lays (i + 1) bs
theorem lays_length : ∀ (bs : List Box) (i : Nat), (lays i bs).length = bs.length
  | [], _ => rfl
  | b :: bs, i => by
    unfold lays
    rw [List.length_cons, List.length_cons, lays_length bs]
theorem lays_at : ∀ (bs : List Box) (i k : Nat) (b : Box), bs[k]? = some b → (lays i bs)[k]? = some ⟨rowOf (i + k) b, b.seed⟩
  | [], _, _, _, h => by cases h
  | c :: bs, i, 0, b, h => by
    obtain rfl : c = b := Option.some.inj h
    rfl
  | c :: bs, i, k + 1, b, h => by
    have := lays_at bs (i + 1) k b h
    unfold lays
    rw [List.getElem?_cons_succ, this, show i + 1 + k = i + (k + 1) by omega]
def rowsOf (bs : List Box) : List Row := (lays 0 bs).map Lay.row
theorem rowsOf_at {bs : List Box} {k : Nat} {b : Box} (h : bs[k]? = some b) : (rowsOf bs)[k]? = some (rowOf k b) := by
  unfold rowsOf
  rw [List.getElem?_map, lays_at bs 0 k b h, Nat.zero_add]
  rfl
theorem rowsOf_length (bs : List Box) : (rowsOf bs).length = bs.length := by unfold rowsOf; rw [List.length_map, lays_length]
theorem within_size (b : Box) : (withinB b).text.size ≤ 4096 ∧ (withinB b).name.size ≤ 64 ∧ 1 ≤ (withinB b).kind ∧ (withinB b).kind ≤ 3 := by
  refine ⟨(cutS_size 4096 b.text).1, (cutS_size 64 b.name).1, ?_, ?_⟩
  · show 1 ≤ 1 + b.kind % 3; omega
  · show 1 + b.kind % 3 ≤ 3; omega
theorem rows_fresh {bs : List Box} (hn : bs.length ≤ 4294967296) {k : Nat} {b : Box} (h : bs[k]? = some b) : gave ((rowsOf bs).take k) (rowOf k b).blob = false := by
  apply Bool.eq_false_iff.2
  intro hg
  obtain ⟨j, r, hr, ht⟩ := gave_at hg
  have hk := (List.getElem?_eq_some_iff.1 h).1
  have hj := (List.getElem?_eq_some_iff.1 hr).1
  rw [List.length_take] at hj
  rw [List.getElem?_take, if_pos (by omega)] at hr
  have hjl : j < bs.length := by omega
  rw [rowsOf_at (List.getElem?_eq_getElem hjl)] at hr
  obtain rfl := Option.some.inj hr
  have := coin_tag (n := _) (n' := _) (by omega) (by omega) (by omega) (by omega) (by omega) (by omega) ht
  omega
theorem row_ask (k : Nat) (b : Box) : askE (rowOf k b).kind (rowOf k b).name (rowOf k b).text (rowOf k b).blob = 0 := by
  obtain ⟨h1, h2, h3, h4⟩ := within_size b
  have hp : placeE (withinB b).kind (withinB b).name = 0 := by unfold placeE; rw [if_neg (by omega), if_neg (by omega)]
  unfold rowOf askE
  dsimp only
  rw [if_neg (by simp [hp]), if_neg (by omega), if_neg (by rw [coinS_size]; omega)]
theorem only_step {F0 F : List Nat} {a w w' : World} (h : Only F0 a w) (k : Only F w w') (hF : ∀ x, x ∈ F → x ∈ F0 ∨ a.heap.size ≤ x) : Only F0 a w' :=
  ⟨k.os.trans h.os, k.tape.trans h.tape, k.output.trans h.output, Nat.le_trans h.size k.size, fun i hi hS => (k.block i (Nat.lt_of_lt_of_le hi h.size) (fun hm => by
    rcases hF i hm with h1 | h1
    · exact hS h1
    · omega)).trans (h.block i hi hS)⟩
theorem infoL0 : (Try.prog.info? 46).map (fun i => (i.zero, i.size, i.bytes)) = some (some (.agg #[.int .i64 0, .string { data := #[] }, .string { data := #[] }, .int .i64 0, .string { data := #[] }]), 5, 64) := by kernel_rfl
theorem info_L : ∃ i0, Try.prog.info? 46 = some i0 ∧ i0.zero = some (.agg #[.int .i64 0, .string { data := #[] }, .string { data := #[] }, .int .i64 0, .string { data := #[] }]) ∧ i0.size = 5 ∧ i0.bytes = 64 := by
  have h := infoL0
  cases hq : Try.prog.info? 46 with
  | none => rw [hq] at h; cases h
  | some i =>
    rw [hq] at h
    simp at h
    exact ⟨i, rfl, h.1, h.2.1, h.2.2⟩
/-- what laid leaves -/
def LaidP (w : World) (pb : Nat) (F0 : List Nat) (bs : List Box) (e : Ending) (w' : World) : Prop :=
  ∃ v F, e = .returned (.tuple #[v, .bool true]) ∧ w'.ownsRow w.heap.size 46 5 v bs.length (layCells (lays 0 bs)) ∧ Idl w' pb F (rowsOf bs) ∧ Only F0 w w' ∧ ∀ x, x ∈ F → x ∈ F0 ∨ w.heap.size ≤ x

set_option maxRecDepth 20000 in
set_option maxHeartbeats 4000000 in
theorem laid_any (pb : Nat) (F0 : List Nat) (bs : List Box) (n cap : Nat) (a : Option Addr) (w : World) (hn : bs.length = n) (hn2 : n ≤ 2097152) (hk : ∀ b ∈ bs, (-9223372036854775808 ≤ b.kind ∧ b.kind ≤ 9223372036854775807) ∧ (-9223372036854775808 ≤ b.seed ∧ b.seed ≤ 9223372036854775807)) (hI : Idl w pb F0 [])
    (hS : ∀ W, Only F0 w W → See W (.slice a n cap) n (boxCells bs)) :
    Calls Try.prog 13 #[.iface 23 (.pointer (some ⟨pb, 0, none⟩)), .slice a n cap] w (LaidP w pb F0 bs) := by
  have m1 := mCoins pb
  have m2 := mFresh pb
  have m3 := mSeal pb
  have hnum := fun W x => snum_any x W
  obtain ⟨i0, hi, hz0, hz1, hz2⟩ := info_L
  have HB : Hid (∀ (k : Nat) (b : Box), bs[k]? = some b → ∃ bb off, a = some ⟨bb, off, none⟩ ∧ ∀ W, Only F0 w W → W.cell? ⟨bb, off + k * 4, none⟩ = some (.int .i64 b.kind) ∧ W.cell? ⟨bb, off + k * 4 + 1, none⟩ = some (.string b.name) ∧ W.cell? ⟨bb, off + k * 4 + 2, none⟩ = some (.string b.text) ∧ W.cell? ⟨bb, off + k * 4 + 3, none⟩ = some (.int .i64 b.seed)) := fun k b hb => by
    have hkl := (List.getElem?_eq_some_iff.1 hb).1
    have at_ := fun j (hj : j < 4) => fc_at (f := boxC) (s := 4) (fun _ => rfl) bs k b hb j hj
    obtain ⟨a', bb, off, cap', hv, h2, _, h3⟩ := (hS w (Only.refl _ _)).ex
    injection hv with hv1 _ hv2
    obtain ⟨e1, e2⟩ := h2 (by omega)
    refine ⟨bb, off, hv1.trans e1, fun W ho => ?_⟩
    obtain ⟨a2, bb2, off2, cap2, hv', h2', _, h3'⟩ := (hS W ho).ex
    injection hv' with hv1' _ _
    obtain ⟨e1', e2'⟩ := h2' (by omega)
    have e5 := e1'.symm.trans (hv1'.symm.trans (hv1.trans e1))
    injection e5 with e5
    injection e5 with e6 e7
    subst e6 e7
    refine ⟨h3' _ _ (at_ 0 (by omega)), ?_, ?_, ?_⟩
    · rw [Nat.add_assoc]; exact h3' _ _ (at_ 1 (by omega))
    · rw [Nat.add_assoc]; exact h3' _ _ (at_ 2 (by omega))
    · rw [Nat.add_assoc]; exact h3' _ _ (at_ 3 (by omega))
  have HK : Hid (∀ b ∈ bs, (-9223372036854775808 ≤ b.kind ∧ b.kind ≤ 9223372036854775807) ∧ (-9223372036854775808 ≤ b.seed ∧ b.seed ≤ 9223372036854775807)) := hk
  have HN : Hid (bs.length = n) := hn
  have HI0 : Hid (Idl w pb F0 []) := hI
  clear hk hn hI hS
  go_enter Try.func13, Try.ntmps13
  go_wp2_with fail
  go_loopg [6, 7] n (fun gk lv iv wr => ∃ (k : Nat) (F : List Nat) (av : Option Addr) (cv : Nat), k + gk = n ∧ iv = .int .i64 (k : Int) ∧ lv = .slice av k cv ∧ Hid (wr.ownsRow w.heap.size 46 5 (.slice av k cv) k (layCells ((lays 0 bs).take k))) ∧ Hid (Idl wr pb F ((rowsOf bs).take k)) ∧ Hid (Only F0 w wr) ∧ Hid (∀ x, x ∈ F → x ∈ F0 ∨ w.heap.size ≤ x))
  case atStart => exact ⟨0, F0, none, 0, by omega, rfl, rfl, ⟨rfl, .inl ⟨rfl, rfl⟩⟩, HI0, Only.refl _ _, fun x hx => .inl hx⟩
  case round =>
    obtain ⟨k, F, av, cv, hk, rfl, rfl, HO, HI, HW, HF⟩ := hrel
    have HKG : Hid (k + gk = n) := hk
    have hkn : k ≤ n := by omega
    clear hk HI0
    by_cases hlt : k < n
    · have hltI : (k : Int) < (n : Int) := by omega
      obtain ⟨b, hb⟩ : ∃ b, bs[k]? = some b := ⟨_, List.getElem?_eq_getElem (by have := HN.out; omega)⟩
      obtain ⟨bb, off, rfl, hcl⟩ := HB.out k b hb
      obtain ⟨c0, c1, c2, c3⟩ := hcl _ HW.out
      have hkb := HK.out b (List.mem_of_getElem? hb)
      have hwi := fun W => within_any b hkb.1 W
      have HBK : Hid (bs[k]? = some b) := hb
      unfold boxV at hwi
      have HWS : Hid _ := within_size b
      have hsd : (withinB b).seed = b.seed := rfl
      obtain ⟨⟨kd', nm', tx', sd'⟩, hB'⟩ : ∃ B', withinB b = B' := ⟨_, rfl⟩
      rw [hB'] at hwi hsd
      have HB' : Hid (withinB b = ⟨kd', nm', tx', sd'⟩) := hB'
      dsimp only at hwi hsd
      subst hsd
      clear hb hcl hB'
      go_wp2_with fail
      refine (hwi _).mono ?_
      rintro e w2 ⟨rfl, hb2⟩
      have hb1 : Below wr.heap.size wr w2 := hb2
      have HB2 : Hid (wr.heap.size ≤ w2.heap.size) := hb2.size
      obtain ⟨W3, hW3⟩ : ∃ W, w2.alloc (.cells #[.int .i64 kd', .string nm', .string tx', .int .i64 b.seed] 44) = W := ⟨_, rfl⟩
      have hb3 : Below wr.heap.size wr W3 := by rw [← hW3]; exact hb1.alloc hb1.size _
      have hq3 : W3.heap[w2.heap.size]? = some (.cells #[.int .i64 kd', .string nm', .string tx', .int .i64 b.seed] 44 (0, 0)) := by rw [← hW3]; exact heap_new _ _
      have HC3 : Hid (∀ W, Below W3.heap.size W3 W → W.cell? ⟨w2.heap.size, 0, none⟩ = some (.int .i64 kd') ∧ W.cell? ⟨w2.heap.size, 1, none⟩ = some (.string nm') ∧ W.cell? ⟨w2.heap.size, 2, none⟩ = some (.string tx') ∧ W.cell? ⟨w2.heap.size, 3, none⟩ = some (.int .i64 b.seed)) := fun W hb =>
        have hh := (hb.block _ (heap_lt hq3)).trans hq3
        ⟨(cell_of_heap hh).trans rfl, (cell_of_heap hh).trans rfl, (cell_of_heap hh).trans rfl, (cell_of_heap hh).trans rfl⟩
      have hts : tx'.size ≤ 4096 := by have := HWS.out.1; rw [HB'.out] at this; exact this
      have HI3 : Hid (Idl W3 pb F ((rowsOf bs).take k)) := HI.out.below hb3
      have hcn : coinsN (tx'.size : Int) = ((tx'.size + 40 : Nat) : Int) := by unfold coinsN; rw [if_neg (by omega)]; omega
      have HK1 : Hid (∀ W, Below W3.heap.size W3 W → Calls Try.prog 20 #[.pointer (some ⟨pb, 0, none⟩), .int .i64 (tx'.size : Int)] W fun e w' => e = .returned (.int .i64 ((tx'.size + 40 : Nat) : Int)) ∧ Below W3.heap.size W3 w') := fun W hb => (coins_any W pb F _ (tx'.size : Int) (HI3.out.below hb)).mono (by
        rintro e w' ⟨rfl, hb'⟩
        exact ⟨by rw [hcn], hb.trans (hb'.mono hb.size)⟩)
      have HK2 : Hid (∀ W, Below W3.heap.size W3 W → Calls Try.prog 19 #[.int .i64 ((tx'.size + 40 : Nat) : Int), .int .i64 b.seed, .int .i64 (k : Int)] W fun e w' => e = .returned (.string (coinS (tx'.size + 40) b.seed k)) ∧ Below W3.heap.size W3 w') := fun W hb => (coinsC_any (tx'.size + 40) (by omega) b.seed k hkb.2 (by omega) W).mono (by
        rintro e w' ⟨rfl, hb'⟩
        exact ⟨rfl, hb.trans (hb'.mono hb.size)⟩)
      clear hcn hq3 hb1 hb2 hwi c0 c1 c2 c3
      obtain ⟨cS, hcS⟩ : ∃ cS, coinS (tx'.size + 40) b.seed k = cS := ⟨_, rfl⟩
      have HCS : Hid (coinS (tx'.size + 40) b.seed k = cS) := hcS
      have hcz : cS.size = tx'.size + 40 := by rw [← hcS, coinS_size]
      rw [hcS] at HK2
      have HCZ : Hid (cS.size = tx'.size + 40) := hcz
      obtain ⟨sz, hsz⟩ : ∃ sz : Nat, tx'.size + 40 = sz := ⟨_, rfl⟩
      rw [hsz] at HK1 HK2
      clear hcS hcz hsz
      go_wp2_with fail
      go_region_held_law (fun W => W.cell? ⟨w2.heap.size, 2, none⟩ = some (.string tx') ∧ W.cell? ⟨w2.heap.size, 3, none⟩ = some (.int .i64 b.seed)) (first | exact (HC3.out _ (bdN _ _)).2.2 | exact (HC3.out _ hb5).2.2 | exact (HC3.out _ hb6).2.2 | go_keep) (first | (go_at_call 20; refine (HK1.out _ (bdN _ _)).mono ?_; rintro e w5 ⟨rfl, hb5⟩) | (go_at_call 19; refine (HK2.out _ hb5).mono ?_; rintro e w6 ⟨rfl, hb6⟩))
      have HRF : Hid (gave ((rowsOf bs).take k) cS = false) := by
        have h := rows_fresh (by have := HN.out; omega) HBK.out
        have e : (rowOf k b).blob = cS := by unfold rowOf; dsimp only; rw [HB'.out]; exact HCS.out
        rw [e] at h
        exact h
      have HR : Hid (rowOf k b = ⟨kd', nm', cS, tx'⟩) := by
        show _ = _
        unfold rowOf
        rw [HB'.out]
        dsimp only
        rw [HCS.out]
      have hask : askE kd' nm' tx' cS = 0 := by
        have h := row_ask k b
        rw [HR.out] at h
        exact h
      have hfr := fresh_any w6 pb F _ cS (by have := HCZ.out; omega) (HI3.out.below hb6)
      rw [show freshB ((rowsOf bs).take k) cS = true by unfold freshB; rw [decide_eq_true (by have := HCZ.out; omega), HRF.out]; rfl] at hfr
      go_wp2_with fail
      refine hfr.mono ?_
      rintro e w7 ⟨rfl, hb7⟩
      have hb37 : Below W3.heap.size W3 w7 := hb6.trans (hb7.mono hb6.size)
      obtain ⟨d0, d1, d2, d3⟩ := HC3.out _ hb37
      have hsl := seal_any w7 pb F _ kd' nm' tx' cS (by have := HCZ.out; omega) (by rw [List.length_take]; omega) (HI3.out.below hb37)
      have e1 : sealE ((rowsOf bs).take k) kd' nm' tx' cS = 0 := by unfold sealE; rw [if_neg (by simp [hask]), if_neg (by rw [HRF.out]; simp)]
      have e2 : sealY ((rowsOf bs).take k) kd' nm' tx' cS = cS := by unfold sealY; rw [if_pos e1]
      have e3 : sealR ((rowsOf bs).take k) kd' nm' tx' cS = (rowsOf bs).take (k + 1) := by unfold sealR; rw [if_pos e1, take_snoc (rowsOf_at HBK.out), HR.out]
      rw [e1, e2, e3] at hsl
      have HB7 : Hid (Below wr.heap.size wr w7) := hb3.trans (hb37.mono hb3.size)
      clear e1 e2 e3 hask hfr hb5 hb6 hb7 hb37 HK1 HK2 HRF
      go_wp2_with fail
      refine hsl.mono ?_
      rintro e w8 ⟨rfl, ho8, F', hI', hF'⟩
      clear hsl
      have hFlt : ∀ x, x ∈ F → x < wr.heap.size := fun x hx => HI.out.lt x (List.mem_cons_of_mem _ hx)
      have hbk : w2.heap.size ∉ F := fun hm => by
        have h1 := hFlt _ hm
        have h2 : wr.heap.size ≤ w2.heap.size := HB2.out
        omega
      have hbl7 : w2.heap.size < w7.heap.size := World.block_lt_of_cell? w7 ⟨w2.heap.size, 0, none⟩ d0
      have HC8 : Hid (∀ W, Below w8.heap.size w8 W → W.cell? ⟨w2.heap.size, 0, none⟩ = some (.int .i64 kd') ∧ W.cell? ⟨w2.heap.size, 1, none⟩ = some (.string nm') ∧ W.cell? ⟨w2.heap.size, 2, none⟩ = some (.string tx') ∧ W.cell? ⟨w2.heap.size, 3, none⟩ = some (.int .i64 b.seed)) := fun W hb => by
        have hh : W.heap[w2.heap.size]? = w7.heap[w2.heap.size]? := (hb.block _ (Nat.lt_of_lt_of_le hbl7 ho8.size)).trans (ho8.block _ hbl7 hbk)
        exact ⟨(World.cell?_of_block (a := ⟨w2.heap.size, 0, none⟩) hh).trans d0, (World.cell?_of_block (a := ⟨w2.heap.size, 1, none⟩) hh).trans d1, (World.cell?_of_block (a := ⟨w2.heap.size, 2, none⟩) hh).trans d2, (World.cell?_of_block (a := ⟨w2.heap.size, 3, none⟩) hh).trans d3⟩
      have HI8 : Hid (Idl w8 pb F' ((rowsOf bs).take (k + 1))) := hI'
      have HO8 : Hid (w8.ownsRow w.heap.size 46 5 (.slice av k cv) k (layCells ((lays 0 bs).take k))) := by
        have h7 : w7.ownsRow w.heap.size 46 5 (.slice av k cv) k (layCells ((lays 0 bs).take k)) := owns_keep HO.out (fun g hg => HB7.out.block g (World.ownsRow.lt HO.out g hg).2)
        exact own_frame h7 ho8 (fun g hg hm => HI.out.notin HO.out (by decide) g hg (List.mem_cons_of_mem _ hm))
      have HW8 : Hid (Only F0 w w8) := only_step (only_below HW.out HB7.out) ho8 HF.out
      have HF8 : Hid (∀ x, x ∈ F' → x ∈ F0 ∨ w.heap.size ≤ x) := fun x hx => by
        rcases hF' x hx with h | h
        · exact HF.out x h
        · exact .inr (Nat.le_trans HW.out.size (Nat.le_trans HB7.out.size h))
      clear d0 d1 d2 d3 ho8 hI' hF' hFlt hbk hbl7 hb3 HI3 HC3 HB2 HB7 HI HO HW HF
      have HTC : Hid (tagS cS = cS.extract (cS.size - 16) cS.size) := by show _ = _; unfold tagS; rw [if_neg (by have := HCZ.out; omega)]
      obtain ⟨tg, htg⟩ : ∃ tg, cS.extract (cS.size - 16) cS.size = tg := ⟨_, rfl⟩
      have HKT : Hid (∀ W, Below w8.heap.size w8 W → Calls Try.prog 11 #[.string cS] W fun e w' => e = .returned (.string tg) ∧ Below w8.heap.size w8 w') := fun W hb => (tag_any cS W (by have := HCZ.out; omega)).mono (by
        rintro e w' ⟨rfl, hb'⟩
        exact ⟨by rw [HTC.out, htg], hb.trans (hb'.mono hb.size)⟩)
      have r6 : IntKind.i64.wrap ((cS.size : Int) - 16) = ((cS.size - 16 : Nat) : Int) := by have := HCZ.out; rw [IntKind.wrap_i64]; omega
      have r7 : (0 : Int) ≤ ((cS.size - 16 : Nat) : Int) ∧ ((cS.size - 16 : Nat) : Int) ≤ (cS.size : Int) := by have := HCZ.out; omega
      have r8 : IntKind.i64.wrap ((tx'.size : Int) + 40) = (cS.size : Int) := by have := HCZ.out; rw [IntKind.wrap_i64]; omega
      go_wp2_with fail
      go_region_held_law (fun W => W.cell? ⟨w2.heap.size, 2, none⟩ = some (.string tx')) (first | exact (HC8.out _ (bdN _ _)).2.2.1 | exact (HC8.out _ hb9).2.2.1 | go_keep) (first | (go_at_call 7; refine (hnum _ _).mono ?_; rintro e w9 ⟨rfl, rfl⟩) | (go_at_call 11; refine (HKT.out _ (bdN _ _)).mono ?_; rintro e w9 ⟨rfl, hb9⟩))
      obtain ⟨d0, d1, d2, d3⟩ := HC8.out _ hb9
      obtain ⟨W10, hW10⟩ : ∃ W, w9.alloc (.cells #[.int .i64 kd', .string nm', .string tx', .int .i64 b.seed, .string cS] 46) = W := ⟨_, rfl⟩
      have hb10 : Below w8.heap.size w8 W10 := by rw [← hW10]; exact hb9.alloc hb9.size _
      have HO10 : Hid (W10.ownsRow w.heap.size 46 5 (.slice av k cv) k (layCells ((lays 0 bs).take k))) := owns_keep HO8.out (fun g hg => hb10.block g (World.ownsRow.lt HO8.out g hg).2)
      have HI10 : Hid (Idl W10 pb F' ((rowsOf bs).take (k + 1))) := HI8.out.below hb10
      have HW10 : Hid (Only F0 w W10) := only_below HW8.out hb10
      have HC10 : Hid (∀ j u, ([.int .i64 kd', .string nm', .string tx', .int .i64 b.seed, .string cS] : List Value)[j]? = some u → W10.cell? ((⟨w9.heap.size, 0, none⟩ : Addr).add j) = some u) := fun j u hj => by rw [← hW10]; exact cells_new w9 #[.int .i64 kd', .string nm', .string tx', .int .i64 b.seed, .string cS] 46 j u (by simpa using hj)
      have hz9 : k + 1 ≤ maxLen ∧ (k + 1) * 64 ≤ 140737488355328 ∧ w.heap.size ≤ W10.heap.size := ⟨by unfold maxLen; omega, by omega, HW10.out.size⟩
      clear hb9 hb10 HO8 HI8 HW8 HKT r6 r7 r8 htg
      go_wp2_with (first | (at_builtin; (try rw [hW10]); refine wpList_append_own _ rfl _ _ 39 rfl w.heap.size 46 i0 _ 5 64 Try.underlying39 hi hz0 hz1 hz2 rfl (by decide) _ _ _ rfl HO10.out _ _ _ [.int .i64 kd', .string nm', .string tx', .int .i64 b.seed, .string cS] rfl rfl HC10.out (by simp [Value.oneCell']) hz9.1 hz9.2.1 hz9.2.2 ?_; intro v' w11 hown hgrow _) | fail)
      obtain ⟨a11, c11, rfl⟩ := own_len hown
      have HI11 : Hid (Idl w11 pb F' ((rowsOf bs).take (k + 1))) := HI10.out.keep (fun x hx => hgrow.block x (HI10.out.lt x hx) (fun e => HI10.out.notin HO10.out (by decide) x e.symm hx))
      have HW11 : Hid (Only F0 w w11) := only_grown HW10.out hgrow (fun x hx => .inr (World.ownsRow.lt HO10.out x hx).1)
      have HO11 : Hid (w11.ownsRow w.heap.size 46 5 (.slice a11 (k + 1) c11) (k + 1) (layCells ((lays 0 bs).take (k + 1)))) := by
        have e : layCells ((lays 0 bs).take (k + 1)) = layCells ((lays 0 bs).take k) ++ [.int .i64 kd', .string nm', .string tx', .int .i64 b.seed, .string cS] := by
          have h := lays_at bs 0 k b HBK.out
          rw [Nat.zero_add, HR.out] at h
          rw [List.take_add_one, h]
          unfold layCells fc
          rw [List.flatMap_append]
          rfl
        rw [e]
        exact hown
      clear hown hgrow
      go_wp2_with fail
      go_roundg (gk - 1)
      case measure => have := HKG.out; omega
      case rel => exact ⟨k + 1, F', a11, c11, by have := HKG.out; omega, by go_num, rfl, HO11, HI11, HW11, HF8⟩
    · obtain rfl : k = n := by omega
      have hltI : ¬ (k : Int) < (k : Int) := by omega
      have HOn : Hid (wr.ownsRow w.heap.size 46 5 (.slice av k cv) bs.length (layCells (lays 0 bs))) := by
        have h := HO.out
        rw [List.take_of_length_le (by rw [lays_length]; have := HN.out; omega)] at h
        have e := HN.out
        show World.ownsRow _ _ _ _ _ _ _
        rw [e]
        exact h
      have HIn : Hid (Idl wr pb F (rowsOf bs)) := by
        have h := HI.out
        rw [List.take_of_length_le (by rw [rowsOf_length]; have := HN.out; omega)] at h
        exact h
      clear HO HI
      go_wp2
      go_ret2
      exact ⟨_, F, rfl, HOn.out, HIn.out, HW.out, HF.out⟩
end Go.Proofs.Ytaejapdbghbgeaa.Se
