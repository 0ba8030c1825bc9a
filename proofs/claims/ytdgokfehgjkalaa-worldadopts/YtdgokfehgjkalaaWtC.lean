import Derived.Test.YtdgokfehgjkalaaWtB
namespace Go.Proofs.Ytdgokfehgjkalaa.Wd
open Go.RowKit Go.Lib Go.Deep

/-- a list of calls that can be read -/
def SeeC (w : World) (v : Value) (n : Nat) (tr : List Cal) : Prop := tr.length = n ∧ ∃ a c, v = .slice a n c ∧ ∀ i (x : Cal), tr[i]? = some x → ∃ g o na nn nc, a = some ⟨g, o, none⟩ ∧ g < w.heap.size ∧ w.cell? ⟨g, o + i * 6, none⟩ = some (.int .i64 x.kind) ∧ w.cell? ⟨g, o + i * 6 + 1, none⟩ = some (.string x.name) ∧ w.cell? ⟨g, o + i * 6 + 2, none⟩ = some (.string x.blob) ∧ w.cell? ⟨g, o + i * 6 + 3, none⟩ = some (.int .i64 x.code) ∧ w.cell? ⟨g, o + i * 6 + 4, none⟩ = some (.string x.reply) ∧ w.cell? ⟨g, o + i * 6 + 5, none⟩ = some (.slice na nn nc)
theorem SeeC.below {w W : World} {v : Value} {n : Nat} {tr : List Cal} (h : SeeC w v n tr) (hb : Below w.heap.size w W) : SeeC W v n tr := by
  obtain ⟨h1, a, c, rfl, h2⟩ := h
  refine ⟨h1, a, c, rfl, fun i x hx => ?_⟩
  obtain ⟨g, o, na, nn, nc, e, hg, c0, c1, c2, c3, c4, c5⟩ := h2 i x hx
  exact ⟨g, o, na, nn, nc, e, Nat.lt_of_lt_of_le hg hb.size, (hb.cell (p := ⟨g, _, none⟩) hg).trans c0, (hb.cell (p := ⟨g, _, none⟩) hg).trans c1, (hb.cell (p := ⟨g, _, none⟩) hg).trans c2, (hb.cell (p := ⟨g, _, none⟩) hg).trans c3, (hb.cell (p := ⟨g, _, none⟩) hg).trans c4, (hb.cell (p := ⟨g, _, none⟩) hg).trans c5⟩
theorem without_take (L : List Bl) (n : ByteArray) (i : Nat) (x : Bl) (h : L[i]? = some x) : withoutL (L.take (i + 1)) n = if x.1 = n then withoutL (L.take i) n else withoutL (L.take i) n ++ [x] := by
  rw [List.take_add_one, h]
  unfold withoutL
  rw [List.filter_append]
  by_cases hx : x.1 = n
  · simp [hx]
  · simp [hx]
theorem without_le (L : List Bl) (n : ByteArray) : (withoutL L n).length ≤ L.length := List.length_filter_le _ _
theorem stepL_le (L : List Bl) (c : Cal) : (stepL L c).length ≤ L.length + 1 := by
  unfold stepL
  split
  · have := without_le L c.name
    simp
    omega
  · split
    · have := without_le L c.name
      omega
    · omega
theorem repL_le (L : List Bl) (tr : List Cal) : (repL L tr).length ≤ L.length + tr.length := by
  induction tr generalizing L with
  | nil => simp [repL]
  | cons c tr ih =>
    have h1 := ih (stepL L c)
    have h2 := stepL_le L c
    unfold repL at h1 ⊢
    rw [List.foldl_cons]
    simp
    omega
set_option maxRecDepth 10000 in
set_option maxHeartbeats 2000000 in
theorem replayed_any (w : World) (v u : Value) (n m : Nat) (bs : List Bl) (tr : List Cal) (h1 : SeeB w v n bs) (h2 : SeeC w u m tr) (hn : n + m ≤ 4398046510000) : Calls Try.prog 23 #[v, u] w fun e w' => ∃ a c, e = .returned (.slice a (repL bs tr).length c) ∧ w'.ownsRow w.heap.size 56 2 (.slice a (repL bs tr).length c) (repL bs tr).length (bCells (repL bs tr)) ∧ Below w.heap.size w w' := by
  have ht := twin_any w v n bs h1 (by omega)
  have HB : Hid (∀ W, Below w.heap.size w W → SeeC W u m tr) := fun W hb => h2.below hb
  obtain ⟨hlb, -⟩ := h1
  obtain ⟨hl, ua, uc, rfl, -⟩ := h2
  obtain ⟨i0, hi, hz0, hz1, hz2⟩ := info_parts infoBlob
  have HL : Hid (tr.length = m ∧ bs.length = n) := ⟨hl, hlb⟩
  clear hl hlb
  go_enter Try.func23, Try.ntmps23
  go_wp2_with fail
  refine ht.mono ?_
  rintro e w1 ⟨a1, c1, rfl, ho1, hb1⟩
  have HO1 : Hid (w1.ownsRow w.heap.size 56 2 (.slice a1 n c1) n (bCells bs)) := ho1
  have HB1 : Hid (Below w.heap.size w w1) := hb1
  clear ht ho1 hb1
  go_wp2_with fail
  go_loopg [5, 6] m (fun gk lv iv wr => ∃ (k : Nat) (la : Option Addr) (ln lc : Nat), k + gk = m ∧ iv = .int .i64 (k : Int) ∧ lv = .slice la ln lc ∧ Hid (ln = (repL bs (tr.take k)).length) ∧ Hid (wr.ownsRow w.heap.size 56 2 (.slice la ln lc) ln (bCells (repL bs (tr.take k)))) ∧ Hid (Below w.heap.size w wr))
  case atStart => exact ⟨0, a1, n, c1, by omega, rfl, rfl, (show n = (repL bs (tr.take 0)).length by have := HL.out.2; simpa [repL] using this.symm), (show w1.ownsRow w.heap.size 56 2 (.slice a1 n c1) n (bCells (repL bs (tr.take 0))) by simpa [repL] using HO1.out), HB1.out⟩
  case round =>
    obtain ⟨k, la, ln, lc, hk, rfl, rfl, HLn, HLo, HW⟩ := hrel
    have HKG : Hid (k + gk = m) := hk
    have hkn : k ≤ m := by omega
    clear hk HO1 HB1
    by_cases hlt : k < m
    · have hltI : (k : Int) < (m : Int) := by omega
      obtain ⟨x, hx⟩ : ∃ x, tr[k]? = some x := ⟨_, List.getElem?_eq_getElem (by have := HL.out.1; omega)⟩
      have HTk : Hid (repL bs (tr.take (k + 1)) = stepL (repL bs (tr.take k)) x) := by
        have e : tr.take (k + 1) = tr.take k ++ [x] := by rw [List.take_add_one, hx]; rfl
        show repL bs (tr.take (k + 1)) = stepL (repL bs (tr.take k)) x
        rw [e, repL_snoc]
      have HNb : Hid ((repL bs (tr.take k)).length ≤ n + k) := by
        have h := repL_le bs (tr.take k)
        have h2 : (tr.take k).length ≤ k := List.length_take_le _ _
        have := HL.out.2
        show (repL bs (tr.take k)).length ≤ n + k
        omega
      obtain ⟨-, y1, z1, e1, h1⟩ := HB.out _ HW.out
      injection e1 with e1 _ e1'
      subst e1 e1'
      obtain ⟨g1, o1, na, nn, nc, rfl, _, c0, c1, c2, c3, c4, c5⟩ := h1 k x hx
      clear hx h1
      obtain ⟨L, hL⟩ : ∃ L, repL bs (tr.take k) = L := ⟨_, rfl⟩
      rw [hL] at HLn HLo HTk HNb
      clear hL
      obtain ⟨kd, nm, bl, co, re, ns⟩ := x
      dsimp only at *
      obtain ⟨W0, hW0⟩ : ∃ W, wr.alloc (.cells #[.int .i64 kd, .string nm, .string bl, .int .i64 co, .string re, .slice na nn nc] 90) = W := ⟨_, rfl⟩
      have hb0 : Below wr.heap.size wr W0 := by rw [← hW0]; exact (Below.refl _ _).alloc (Nat.le_refl _) _
      have hcl : W0.heap[wr.heap.size]? = some (.cells #[.int .i64 kd, .string nm, .string bl, .int .i64 co, .string re, .slice na nn nc] 90 (0, 0)) := by rw [← hW0]; exact heap_new _ _
      have HW0 : Hid (Below w.heap.size w W0) := HW.out.trans (hb0.mono HW.out.size)
      have HLo0 : Hid (W0.ownsRow w.heap.size 56 2 (.slice la ln lc) ln (bCells L)) := owns_keep HLo.out (fun g hg => hb0.block g (World.ownsRow.lt HLo.out g hg).2)
      by_cases hkd : kd = 2 ∨ kd = 3
      · have HL2 : Hid (ln ≤ n + k) := by show ln ≤ n + k; rw [HLn.out]; exact HNb.out
        have hlnb : ln ≤ 4398046510000 := by have := HL2.out; omega
        have HSL := see_own HLo0.out HLn.out.symm
        have HSL : Hid (SeeB W0 (.slice la ln lc) ln L) := HSL
        obtain ⟨G, hG⟩ : ∃ G, gk - 1 = G := ⟨_, rfl⟩
        have HGG : Hid (gk - 1 = G ∧ k + gk = m) := ⟨hG, HKG.out⟩
        have HKD : Hid (kd = 2 ∨ kd = 3) := hkd
        have HPc : Hid (∀ W, Below W0.heap.size W0 W → W.cell? ⟨wr.heap.size, 0, none⟩ = some (.int .i64 kd) ∧ W.cell? ⟨wr.heap.size, 1, none⟩ = some (.string nm) ∧ W.cell? ⟨wr.heap.size, 2, none⟩ = some (.string bl)) := fun W hb => by
          have h := (hb.block _ (heap_lt hcl)).trans hcl
          exact ⟨(cell_of_heap h).trans rfl, (cell_of_heap h).trans rfl, (cell_of_heap h).trans rfl⟩
        obtain ⟨p0, p1, p2⟩ := HPc.out _ (Below.refl _ _)
        clear hb0 hcl hG hkd
        go_upto_region 6 with fail
        go_cut [29] (fun s wx => s = .bool false ∧ W0 = wx)
        case first =>
          rcases HKD.out with rfl | rfl
          all_goals
            go_wp2_with fail
            go_meet
            exact ⟨rfl, rfl⟩
        case rest =>
        obtain ⟨rfl, rfl⟩ := hcut
        clear c0 c1 c2 c3 c4 c5 hW0
        obtain ⟨p, hp⟩ : ∃ p, wr.heap.size = p := ⟨_, rfl⟩
        rw [hp] at HPc p0 p1 p2 ⊢
        clear hp
        go_wp2_with fail
        go_loopg [8, 9] ln (fun gk2 nv iv wi => ∃ (i : Nat) (na' : Option Addr) (nn' nc' : Nat), i + gk2 = ln ∧ iv = .int .i64 (i : Int) ∧ nv = .slice na' nn' nc' ∧ Hid (nn' = (withoutL (L.take i) nm).length) ∧ Hid (wi.ownsRow W0.heap.size 56 2 (.slice na' nn' nc') nn' (bCells (withoutL (L.take i) nm))) ∧ Hid (Below W0.heap.size W0 wi))
        case atStart => exact ⟨0, none, 0, 0, by omega, rfl, rfl, (show 0 = (withoutL (L.take 0) nm).length by simp [withoutL]), (show World.ownsRow _ _ _ _ _ _ _ from ⟨by simp [withoutL, bCells], .inl ⟨rfl, rfl⟩⟩), Below.refl _ _⟩
        case round =>
          obtain ⟨i, na', nn', nc', hii, rfl, rfl, HNn, HNo, HWi⟩ := hrel
          have HIG : Hid (i + gk = ln) := hii
          have hin : i ≤ ln := by omega
          clear hii p0 p1 p2
          obtain ⟨p0, p1, p2⟩ := HPc.out _ HWi.out
          have hnb : nn' ≤ n + k := by
            have h1 := HNn.out
            have h2 := without_le (L.take i) nm
            have h3 : (L.take i).length ≤ L.length := List.length_take_le' _ _
            have h4 := HLn.out
            have h5 := HL2.out
            omega
          by_cases hilt : i < ln
          · have hiI : (i : Int) < (ln : Int) := by omega
            obtain ⟨G2, hG2⟩ : ∃ G2, gk - 1 = G2 := ⟨_, rfl⟩
            have HIG : Hid (gk - 1 = G2 ∧ i + gk = ln ∧ i < ln) := ⟨hG2, HIG.out, hilt⟩
            clear hG2
            obtain ⟨x, hx⟩ : ∃ x, L[i]? = some x := ⟨_, List.getElem?_eq_getElem (by have := HLn.out; omega)⟩
            obtain ⟨-, y1, z1, e1, h1⟩ := HSL.out.below HWi.out
            injection e1 with e1 _ e1'
            subst e1 e1'
            obtain ⟨g2, o2, rfl, hg2, d0, d1⟩ := h1 i x hx
            have HX := without_take L nm i x hx
            have HX : Hid (withoutL (L.take (i + 1)) nm = if x.1 = nm then withoutL (L.take i) nm else withoutL (L.take i) nm ++ [x]) := HX
            obtain ⟨n1, b1⟩ := x
            dsimp only at *
            obtain ⟨X, hX⟩ : ∃ X, withoutL (L.take i) nm = X := ⟨_, rfl⟩
            rw [hX] at HNn HNo HX
            obtain ⟨cc, hcc⟩ : ∃ c, decide (¬ n1 = nm) = c := ⟨_, rfl⟩
            have HCC : Hid (decide (¬ n1 = nm) = cc) := hcc
            have HDD : Hid (∀ W, Below wr.heap.size wr W → W.cell? ⟨g2, o2 + i * 2, none⟩ = some (.string n1) ∧ W.cell? ⟨g2, o2 + i * 2 + 1, none⟩ = some (.string b1)) := fun W hb => ⟨(hb.cell (p := ⟨g2, _, none⟩) hg2).trans d0, (hb.cell (p := ⟨g2, _, none⟩) hg2).trans d1⟩
            clear hx h1 hX hcc
            go_upto_region 11 with fail
            go_cut [43] (fun s wx => s = .bool cc ∧ Hid (Below wr.heap.size wr wx))
            case first =>
              by_cases he : n1 = nm
              · subst he
                go_quiet (fail)
                go_wp2_with fail
                go_meet
                exact ⟨by rw [← HCC.out]; simp, bdN _ _⟩
              · have hne := ne_toList he
                go_quiet (fail)
                go_wp2_with fail
                go_meet
                exact ⟨by rw [← HCC.out]; simp [he], bdN _ _⟩
            case rest =>
            obtain ⟨rfl, HWc⟩ := hcut
            obtain ⟨d0, d1⟩ := HDD.out _ HWc.out
            have HNo : Hid (wc.ownsRow W0.heap.size 56 2 (.slice na' nn' nc') nn' (bCells X)) := owns_keep HNo.out (fun g hg => HWc.out.block g (World.ownsRow.lt HNo.out g hg).2)
            have HWi : Hid (Below W0.heap.size W0 wc) := HWi.out.trans (HWc.out.mono HWi.out.size)
            cases cc with
            | true =>
              have hne : ¬ n1 = nm := of_decide_eq_true HCC.out
              have HX2 : Hid (withoutL (L.take (i + 1)) nm = X ++ [(n1, b1)]) := by show withoutL (L.take (i + 1)) nm = _; rw [HX.out, if_neg hne]
              obtain ⟨f1, f2, f3⟩ := app_facts n1 b1 HNo.out
              obtain ⟨W8, hW8⟩ : ∃ W, wc.alloc (.cells #[.string n1, .string b1] 56) = W := ⟨_, rfl⟩
              rw [hW8] at f1 f2 f3
              have HO8 : Hid (W8.ownsRow W0.heap.size 56 2 (.slice na' nn' nc') nn' (bCells X)) := f1
              have HNW : Hid (∀ j u, ([.string n1, .string b1] : List Value)[j]? = some u → W8.cell? ((⟨wc.heap.size, 0, none⟩ : Addr).add j) = some u) := f2
              have hz : nn' + 1 ≤ maxLen ∧ (nn' + 1) * 32 ≤ 140737488355328 ∧ W0.heap.size ≤ W8.heap.size := ⟨by unfold maxLen; omega, by omega, Nat.le_trans HWi.out.size f3.size⟩
              have HBW : Hid (Below W0.heap.size W0 W8) := HWi.out.trans (f3.mono HWi.out.size)
              clear f1 f2 f3
              clear hne
              go_wp2_with (first | (at_builtin; (try rw [hW8]); refine wpList_append_own _ rfl _ _ 30 rfl W0.heap.size 56 i0 _ 2 32 Try.underlying30 hi hz0 hz1 hz2 rfl (by decide) _ _ _ rfl HO8.out _ _ _ _ rfl rfl HNW.out (by simp [Value.oneCell']) hz.1 hz.2.1 hz.2.2 ?_; intro v' w3 hown3 hgrow3 _; obtain ⟨a3, c3, rfl⟩ := own_len hown3; have HO3 : Hid _ := hown3; have HG3 : Hid _ := hgrow3; clear hown3 hgrow3) | go_in)
              go_roundg G2
              case measure => have := HIG.out; omega
              case rel =>
                refine ⟨i + 1, a3, nn' + 1, c3, by have := HIG.out; omega, by go_num, rfl, ?_, ?_, HBW.out.trans (grown_below HG3.out hz.2.2 HO8.out)⟩
                · show nn' + 1 = _
                  rw [HX2.out, List.length_append, ← HNn.out]; rfl
                · show World.ownsRow _ _ _ _ _ _ _
                  rw [HX2.out, bCells_snoc]
                  exact HO3.out
            | false =>
              have hne : n1 = nm := by
                have := of_decide_eq_false HCC.out
                simpa using this
              have HX2 : Hid (withoutL (L.take (i + 1)) nm = X) := by show withoutL (L.take (i + 1)) nm = _; rw [HX.out, if_pos hne]
              clear hne
              go_wp2
              go_roundg G2
              case measure => have := HIG.out; omega
              case rel => exact ⟨i + 1, na', nn', nc', by have := HIG.out; omega, by go_num, rfl, (show nn' = _ by rw [HX2.out]; exact HNn.out), (show World.ownsRow _ _ _ _ _ _ _ by rw [HX2.out]; exact HNo.out), HWi.out⟩
          · obtain rfl : i = ln := by omega
            have hiI : ¬ (i : Int) < (i : Int) := by omega
            obtain ⟨X, hX⟩ : ∃ X, withoutL L nm = X := ⟨_, rfl⟩
            have htk : L.take i = L := by rw [HLn.out]; exact List.take_length
            rw [htk, hX] at HNn HNo
            have HTX : Hid (withoutL L nm = X) := hX
            clear htk hX
            have HBase : Hid (∀ W a' n' c' xs, Below W0.heap.size W0 W → W.ownsRow W0.heap.size 56 2 (.slice a' n' c') n' xs → W.ownsRow w.heap.size 56 2 (.slice a' n' c') n' xs ∧ Below w.heap.size w W) := fun W a' n' c' xs hb ho => ⟨own_base ho HW0.out.size, HW0.out.trans (hb.mono HW0.out.size)⟩
            rcases HKD.out with rfl | rfl
            · have HSt : Hid (repL bs (tr.take (k + 1)) = X ++ [(nm, bl)]) := by
                show repL bs (tr.take (k + 1)) = _
                rw [HTk.out, ← HTX.out]
                rfl
              obtain ⟨f1, f2, f3⟩ := app_facts nm bl HNo.out
              obtain ⟨W8, hW8⟩ : ∃ W, wr.alloc (.cells #[.string nm, .string bl] 56) = W := ⟨_, rfl⟩
              rw [hW8] at f1 f2 f3
              have HO8 : Hid (W8.ownsRow W0.heap.size 56 2 (.slice na' nn' nc') nn' (bCells X)) := f1
              have HNW : Hid (∀ j u, ([.string nm, .string bl] : List Value)[j]? = some u → W8.cell? ((⟨wr.heap.size, 0, none⟩ : Addr).add j) = some u) := f2
              have hz : nn' + 1 ≤ maxLen ∧ (nn' + 1) * 32 ≤ 140737488355328 ∧ W0.heap.size ≤ W8.heap.size := ⟨by unfold maxLen; omega, by omega, Nat.le_trans HWi.out.size f3.size⟩
              have HBW : Hid (Below W0.heap.size W0 W8) := HWi.out.trans (f3.mono HWi.out.size)
              clear f1 f2 f3
              go_wp2_with (first | (at_builtin; (try rw [hW8]); refine wpList_append_own _ rfl _ _ 30 rfl W0.heap.size 56 i0 _ 2 32 Try.underlying30 hi hz0 hz1 hz2 rfl (by decide) _ _ _ rfl HO8.out _ _ _ _ rfl rfl HNW.out (by simp [Value.oneCell']) hz.1 hz.2.1 hz.2.2 ?_; intro v' w3 hown3 hgrow3 _; obtain ⟨a3, c3, rfl⟩ := own_len hown3; have HO3 : Hid _ := hown3; have HG3 : Hid _ := hgrow3; clear hown3 hgrow3) | go_in)
              go_roundg G
              case measure => have := HGG.out; omega
              case rel =>
                obtain ⟨r1, r2⟩ := HBase.out _ _ _ _ _ (HBW.out.trans (grown_below HG3.out hz.2.2 HO8.out)) HO3.out
                refine ⟨k + 1, a3, nn' + 1, c3, by have := HGG.out; omega, by go_num, rfl, ?_, ?_, r2⟩
                · show nn' + 1 = _
                  rw [HSt.out, List.length_append, ← HNn.out]; rfl
                · show World.ownsRow _ _ _ _ _ _ _
                  rw [HSt.out, bCells_snoc]
                  exact r1
            · have HSt : Hid (repL bs (tr.take (k + 1)) = X) := by
                show repL bs (tr.take (k + 1)) = _
                rw [HTk.out, ← HTX.out]
                rfl
              go_wp2
              go_roundg G
              case measure => have := HGG.out; omega
              case rel =>
                obtain ⟨r1, r2⟩ := HBase.out _ _ _ _ _ HWi.out HNo.out
                exact ⟨k + 1, na', nn', nc', by have := HGG.out; omega, by go_num, rfl, (show nn' = _ by rw [HSt.out]; exact HNn.out), (show World.ownsRow _ _ _ _ _ _ _ by rw [HSt.out]; exact r1), r2⟩
      · have h2' : (kd != 2) = true := by simp; omega
        have h3' : (kd != 3) = true := by simp; omega
        have HSt : Hid (repL bs (tr.take (k + 1)) = L) := by
          show repL bs (tr.take (k + 1)) = L
          rw [HTk.out]
          unfold stepL
          rw [if_neg (by dsimp only; omega), if_neg (by dsimp only; omega)]
        have p0 : W0.cell? ⟨wr.heap.size, 0, none⟩ = some (.int .i64 kd) := (cell_of_heap hcl).trans rfl
        clear hkd hb0 hcl
        go_wp2
        go_roundg (gk - 1)
        case measure => have := HKG.out; omega
        case rel => exact ⟨k + 1, la, ln, lc, by have := HKG.out; omega, by go_num, rfl, (show ln = _ by rw [HSt.out]; exact HLn.out), (show World.ownsRow _ _ _ _ _ _ _ by rw [HSt.out]; exact HLo0.out), HW0.out⟩
    · obtain rfl : k = m := by omega
      have hltI : ¬ (k : Int) < (k : Int) := by omega
      go_wp2
      go_ret
      have e : tr.take k = tr := by rw [← HL.out.1]; exact List.take_length
      have h1 := HLn.out
      have h2 := HLo.out
      rw [e] at h1 h2
      subst h1
      exact ⟨_, _, rfl, h2, HW.out⟩

end Go.Proofs.Ytdgokfehgjkalaa.Wd
