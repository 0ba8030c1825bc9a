import Derived.Test.YtdgokfehgjkalaaWtA
import Derived.Deep.DeepCutAuto
namespace Go.Proofs.Ytdgokfehgjkalaa.Wd
open Go.RowKit Go.Lib Go.Deep

theorem bCells_snoc (bs : List Bl) (x : Bl) : bCells (bs ++ [x]) = bCells bs ++ [.string x.1, .string x.2] := by simp [bCells]
theorem app_facts {wr : World} {B k bc : Nat} {ba : Option Addr} {xs : List Value} (x1 x2 : ByteArray) (h : wr.ownsRow B 56 2 (.slice ba k bc) k xs) :
    (wr.alloc (.cells #[.string x1, .string x2] 56)).ownsRow B 56 2 (.slice ba k bc) k xs ∧ (∀ j u, ([.string x1, .string x2] : List Value)[j]? = some u → (wr.alloc (.cells #[.string x1, .string x2] 56)).cell? ((⟨wr.heap.size, 0, none⟩ : Addr).add j) = some u) ∧ Below wr.heap.size wr (wr.alloc (.cells #[.string x1, .string x2] 56)) := by
  refine ⟨h.alloc _, fun j u hj => cells_new wr #[.string x1, .string x2] 56 j u (by simpa using hj), (Below.refl _ _).alloc (Nat.le_refl _) _⟩
set_option maxRecDepth 10000 in
set_option maxHeartbeats 1000000 in
theorem twin_any (w : World) (v : Value) (n : Nat) (bs : List Bl) (h1 : SeeB w v n bs) (hn : n ≤ 4398046511000) : Calls Try.prog 19 #[v] w fun e w' => ∃ a c, e = .returned (.slice a n c) ∧ w'.ownsRow w.heap.size 56 2 (.slice a n c) n (bCells bs) ∧ Below w.heap.size w w' := by
  have HA : Hid (∀ W, Below w.heap.size w W → SeeB W v n bs) := fun W hb => h1.below hb
  obtain ⟨hl, a1, k1, rfl, -⟩ := h1
  obtain ⟨i0, hi, hz0, hz1, hz2⟩ := info_parts infoBlob
  have HL : Hid (bs.length = n) := hl
  clear hl
  go_enter Try.func19, Try.ntmps19
  go_wp2_with fail
  go_loopg [3, 4] n (fun gk bv iv wr => ∃ (k : Nat) (ba : Option Addr) (bc : Nat), k + gk = n ∧ iv = .int .i64 (k : Int) ∧ bv = .slice ba k bc ∧ Hid (wr.ownsRow w.heap.size 56 2 (.slice ba k bc) k (bCells (bs.take k))) ∧ Hid (Below w.heap.size w wr))
  case atStart => exact ⟨0, none, 0, by omega, rfl, rfl, ⟨by simp [bCells], .inl ⟨rfl, rfl⟩⟩, Below.refl _ _⟩
  case round =>
    obtain ⟨k, ba, bc, hk, rfl, rfl, HB, HW⟩ := hrel
    have HKG : Hid (k + gk = n) := hk
    have hkn : k ≤ n := by omega
    clear hk
    by_cases hlt : k < n
    · have hltI : (k : Int) < (n : Int) := by omega
      obtain ⟨x, hx⟩ : ∃ x, bs[k]? = some x := ⟨_, List.getElem?_eq_getElem (by have := HL.out; omega)⟩
      obtain ⟨-, y1, z1, e1, h1⟩ := HA.out _ HW.out
      injection e1 with e1 _ e1'
      subst e1 e1'
      obtain ⟨g1, o1, rfl, _, c0, c1⟩ := h1 k x hx
      have HX : Hid (bs[k]? = some x) := hx
      obtain ⟨n1, b1⟩ := x
      dsimp only at *
      obtain ⟨f1, f2, f3⟩ := app_facts n1 b1 HB.out
      obtain ⟨W8, hW8⟩ : ∃ W, wr.alloc (.cells #[.string n1, .string b1] 56) = W := ⟨_, rfl⟩
      rw [hW8] at f1 f2 f3
      have HO8 : Hid (W8.ownsRow w.heap.size 56 2 (.slice ba k bc) k (bCells (bs.take k))) := f1
      have HNW : Hid (∀ j u, ([.string n1, .string b1] : List Value)[j]? = some u → W8.cell? ((⟨wr.heap.size, 0, none⟩ : Addr).add j) = some u) := f2
      have hz : k + 1 ≤ maxLen ∧ (k + 1) * 32 ≤ 140737488355328 ∧ w.heap.size ≤ W8.heap.size := ⟨by unfold maxLen; omega, by omega, Nat.le_trans HW.out.size f3.size⟩
      have HBW : Hid (Below w.heap.size w W8) := HW.out.trans (f3.mono HW.out.size)
      clear hx h1 f1 f2 f3
      go_wp2_with (first | (at_builtin; (try rw [hW8]); refine wpList_append_own _ rfl _ _ 30 rfl w.heap.size 56 i0 _ 2 32 Try.underlying30 hi hz0 hz1 hz2 rfl (by decide) _ _ _ rfl HO8.out _ _ _ _ rfl rfl HNW.out (by simp [Value.oneCell']) hz.1 hz.2.1 hz.2.2 ?_; intro v' w3 hown3 hgrow3 _; obtain ⟨a3, c3, rfl⟩ := own_len hown3; have HO3 : Hid _ := hown3; have HG3 : Hid _ := hgrow3; clear hown3 hgrow3) | go_in)
      go_roundg (gk - 1)
      case measure => have := HKG.out; omega
      case rel =>
        refine ⟨k + 1, a3, c3, by have := HKG.out; omega, by go_num, rfl, ?_, HBW.out.trans (grown_below HG3.out hz.2.2 HO8.out)⟩
        have e : bs.take (k + 1) = bs.take k ++ [(n1, b1)] := by rw [List.take_add_one, HX.out]; rfl
        rw [e, bCells_snoc]
        exact HO3.out
    · obtain rfl : k = n := by omega
      have hltI : ¬ (k : Int) < (k : Int) := by omega
      go_wp2
      go_ret
      refine ⟨_, _, rfl, ?_, HW.out⟩
      have := HB.out
      rw [← HL.out, List.take_length, HL.out] at this
      exact this
theorem fidx_at {bs : List Bl} {nm : ByteArray} {k : Nat} {x : Bl} (hno : ∀ i y, i < k → bs[i]? = some y → y.1 ≠ nm) (hx : bs[k]? = some x) (he : x.1 = nm) : fidx bs nm = some k := by
  unfold fidx
  rw [List.findIdx?_eq_some_iff_getElem]
  obtain ⟨hk, e⟩ := List.getElem?_eq_some_iff.1 hx
  refine ⟨hk, by rw [e]; simp [he], fun j hj => ?_⟩
  have := hno j _ hj (List.getElem?_eq_getElem (by omega))
  simpa using this
theorem fidx_no {bs : List Bl} {nm : ByteArray} (hno : ∀ i y, i < bs.length → bs[i]? = some y → y.1 ≠ nm) : fidx bs nm = none := by
  unfold fidx
  rw [List.findIdx?_eq_none_iff]
  intro x hx
  obtain ⟨i, hi⟩ := List.mem_iff_getElem?.1 hx
  have := hno i x (List.getElem?_eq_some_iff.1 hi).1 hi
  simpa using this
theorem ne_toList {a b : ByteArray} (h : ¬ a = b) : (a.toList == b.toList) = false := by
  rw [beq_eq_false_iff_ne]
  intro e
  apply h
  rw [toList_data, toList_data] at e
  exact ByteArray.ext (Array.toList_inj.1 e)
set_option maxRecDepth 10000 in
set_option maxHeartbeats 1000000 in
theorem find_any (w : World) (v : Value) (n : Nat) (bs : List Bl) (nm : ByteArray) (h1 : SeeB w v n bs) (hn : n ≤ 4398046511000) : Calls Try.prog 48 #[v, .string nm] w fun e w' => e = .returned (.int .i64 (((fidx bs nm).map fun (i : Nat) => (i : Int)).getD (-1))) ∧ Below w.heap.size w w' := by
  have HA : Hid (∀ W, Below w.heap.size w W → SeeB W v n bs) := fun W hb => h1.below hb
  obtain ⟨hl, a1, k1, rfl, -⟩ := h1
  have HL : Hid (bs.length = n) := hl
  clear hl
  obtain ⟨r, hr⟩ : ∃ r : Int, ((fidx bs nm).map fun (i : Nat) => (i : Int)).getD (-1) = r := ⟨_, rfl⟩
  have HR : Hid (((fidx bs nm).map fun (i : Nat) => (i : Int)).getD (-1) = r) := hr
  rw [hr]
  clear hr
  go_enter Try.func48, Try.ntmps48
  go_wp2_with fail
  go_loopg [5] n (fun gk iv wr => ∃ k : Nat, k + gk = n ∧ iv = .int .i64 (k : Int) ∧ Hid (Below w.heap.size w wr) ∧ Hid (∀ i y, i < k → bs[i]? = some y → y.1 ≠ nm))
  case atStart => exact ⟨0, by omega, rfl, Below.refl _ _, fun i y hi => by omega⟩
  case round =>
    obtain ⟨k, hk, rfl, HW, HNo⟩ := hrel
    have HKG : Hid (k + gk = n) := hk
    have hkn : k ≤ n := by omega
    clear hk
    by_cases hlt : k < n
    · have hltI : (k : Int) < (n : Int) := by omega
      obtain ⟨x, hx⟩ : ∃ x, bs[k]? = some x := ⟨_, List.getElem?_eq_getElem (by have := HL.out; omega)⟩
      obtain ⟨-, y1, z1, e1, h1⟩ := HA.out _ HW.out
      injection e1 with e1 _ e1'
      subst e1 e1'
      obtain ⟨g1, o1, rfl, _, c0, c1⟩ := h1 k x hx
      have HX : Hid (bs[k]? = some x) := hx
      obtain ⟨n1, b1⟩ := x
      dsimp only at *
      clear hx h1
      by_cases he : n1 = nm
      · subst he
        have hrk : r = (k : Int) := by
          rw [← HR.out, fidx_at HNo.out HX.out rfl]
          rfl
        subst hrk
        go_wp2
        go_ret
        exact ⟨rfl, HW.out⟩
      · have hne := ne_toList he
        have HNE : Hid (n1 ≠ nm) := he
        clear he
        go_wp2_with fail
        go_roundg (gk - 1)
        case measure => have := HKG.out; omega
        case rel =>
          refine ⟨k + 1, by have := HKG.out; omega, by go_num, HW.out, fun i y hi hy => ?_⟩
          by_cases h : i < k
          · exact HNo.out i y h hy
          · obtain rfl : i = k := by omega
            rw [HX.out] at hy
            obtain rfl := Option.some.inj hy
            exact HNE.out
    · obtain rfl : k = n := by omega
      have hltI : ¬ (k : Int) < (k : Int) := by omega
      have hrk : r = -1 := by
        rw [← HR.out, fidx_no (fun i y hi hy => HNo.out i y (by have := HL.out; omega) hy)]
        rfl
      subst hrk
      go_wp2
      go_ret
      exact ⟨rfl, HW.out⟩
theorem wrap_small {x : Int} (h : -9223372036854775808 ≤ x ∧ x ≤ 9223372036854775807) : IntKind.i64.wrap x = x := by
  simp [IntKind.wrap, IntKind.bits, IntKind.signed]
  omega
set_option maxRecDepth 10000 in
set_option maxHeartbeats 1000000 in
theorem alike_any (w : World) (v u : Value) (n : Nat) (ks : List (List UInt8)) (f : Sto) (L : List Bl) (hR : Rises ks f) (_hN : ND L) (hc : cont L = f) (hl1 : ks.length = n) (hl2 : L.length = n) (h1 : SeeB w v n (dumpL f ks)) (h2 : SeeB w u n L) (hn : n ≤ 4398046511000) : Calls Try.prog 22 #[v, u] w fun e w' => e = .returned (.bool true) ∧ Below w.heap.size w w' := by
  have HA : Hid (∀ W, Below w.heap.size w W → SeeB W v n (dumpL f ks)) := fun W hb => h1.below hb
  have HB : Hid (∀ W, Below w.heap.size w W → SeeB W u n L) := fun W hb => h2.below hb
  obtain ⟨-, a1, k1, rfl, -⟩ := h1
  obtain ⟨-, a2, k2, rfl, -⟩ := h2
  have HF : Hid (∀ W nm, Below w.heap.size w W → Calls Try.prog 48 #[.slice a2 n k2, .string nm] W fun e w' => e = .returned (.int .i64 (((fidx L nm).map fun (i : Nat) => (i : Int)).getD (-1))) ∧ Below w.heap.size w w') := fun W nm hb => (find_any W _ n L nm (HB.out W hb) hn).mono (by
    rintro e w' ⟨rfl, hb'⟩
    exact ⟨rfl, hb.trans (hb'.mono hb.size)⟩)
  have HAll : Hid (∀ k x, ks[k]? = some x → ∃ j b, (dumpL f ks)[k]? = some (str x, b) ∧ fidx L (str x) = some j ∧ L[j]? = some (str x, b)) := fun k x hx => by
    have hs : (f x).isSome = true := (hR.2.2 x).1 (List.mem_of_getElem? hx)
    obtain ⟨b, hb⟩ := Option.isSome_iff_exists.1 hs
    obtain ⟨j, h1, h2⟩ := fidx_some (L := L) (n := str x) (b := b) (by rw [ky_str, hc]; exact hb)
    refine ⟨j, b, ?_, h1, h2⟩
    unfold dumpL
    rw [List.getElem?_map, hx]
    simp [hb]
  have HLt : Hid (∀ k x y, ks[k]? = some x → ks[k + 1]? = some y → x < y) := fun k x y hx hy => by
    obtain ⟨hk, ex⟩ := List.getElem?_eq_some_iff.1 hx
    obtain ⟨hk1, ey⟩ := List.getElem?_eq_some_iff.1 hy
    have hle : leB x y = true := by
      rw [← ex, ← ey]
      exact List.pairwise_iff_getElem.1 hR.1 k (k + 1) hk hk1 (by omega)
    have hne : x ≠ y := by
      rw [← ex, ← ey]
      exact List.pairwise_iff_getElem.1 hR.2.1 k (k + 1) hk hk1 (by omega)
    simp only [leB, decide_eq_true_eq] at hle
    by_cases h : x < y
    · exact h
    · exact absurd (List.le_antisymm hle (by simpa using h)) hne
  have HL : Hid (ks.length = n ∧ L.length = n) := ⟨hl1, hl2⟩
  clear hR hc hl1 hl2
  go_enter Try.func22, Try.ntmps22
  go_wp2_with fail
  go_loopg [5] n (fun gk iv wr => ∃ k : Nat, k + gk = n ∧ iv = .int .i64 (k : Int) ∧ Hid (Below w.heap.size w wr))
  case atStart => exact ⟨0, by omega, rfl, Below.refl _ _⟩
  case round =>
    obtain ⟨k, hk, rfl, HW⟩ := hrel
    have HKG : Hid (k + gk = n) := hk
    have hkn : k ≤ n := by omega
    clear hk
    by_cases hlt : k < n
    · have hltI : (k : Int) < (n : Int) := by omega
      obtain ⟨x, hx⟩ : ∃ x, ks[k]? = some x := ⟨_, List.getElem?_eq_getElem (by have := HL.out.1; omega)⟩
      obtain ⟨j, b, hd, hf, hL⟩ := HAll.out k x hx
      have hjn : j < n := by have := (List.getElem?_eq_some_iff.1 hL).1; rw [HL.out.2] at this; exact this
      have hjI : (j : Int) < (n : Int) := by omega
      have hj0 : ¬ (j : Int) < 0 := by omega
      have hfi := HF.out _ (str x) HW.out
      rw [hf] at hfi
      simp only [Option.map_some, Option.getD_some] at hfi
      have HC : Hid (∀ W, Below w.heap.size w W → (∃ g o, a1 = some ⟨g, o, none⟩ ∧ W.cell? ⟨g, o + k * 2, none⟩ = some (.string (str x)) ∧ W.cell? ⟨g, o + k * 2 + 1, none⟩ = some (.string b)) ∧ ∃ g o, a2 = some ⟨g, o, none⟩ ∧ W.cell? ⟨g, o + j * 2 + 1, none⟩ = some (.string b)) := fun W hb => by
        obtain ⟨-, y1, z1, e1, h1⟩ := HA.out _ hb
        obtain ⟨-, y2, z2, e2, h2⟩ := HB.out _ hb
        injection e1 with e1 _ _
        injection e2 with e2 _ _
        subst e1 e2
        obtain ⟨g1, o1, r1, _, c0, c1⟩ := h1 k _ hd
        obtain ⟨g2, o2, r2, _, d0, d1⟩ := h2 j _ hL
        exact ⟨⟨g1, o1, r1, c0, c1⟩, g2, o2, r2, d1⟩
      obtain ⟨⟨g1, o1, rfl, c0, c1⟩, g2, o2, rfl, d1⟩ := HC.out _ HW.out
      have HX : Hid (ks[k]? = some x) := hx
      have HCC : Hid (∀ W, Below w.heap.size w W → W.cell? ⟨g1, o1 + k * 2, none⟩ = some (.string (str x)) ∧ W.cell? ⟨g1, o1 + k * 2 + 1, none⟩ = some (.string b) ∧ W.cell? ⟨g2, o2 + j * 2 + 1, none⟩ = some (.string b)) := fun W hb => by
        obtain ⟨⟨g1', o1', q1, r0, r1⟩, g2', o2', q2, r2⟩ := HC.out W hb
        injection q1 with q1
        injection q1 with q1 q1' _
        injection q2 with q2
        injection q2 with q2 q2' _
        subst q1 q1' q2 q2'
        exact ⟨r0, r1, r2⟩
      clear hx hd hf hL d1 c1 HC
      go_wp2_with fail
      refine hfi.mono ?_
      rintro e w2 ⟨rfl, hb2⟩
      obtain ⟨c0, c1, d1⟩ := HCC.out _ hb2
      have HW2 : Hid (Below w.heap.size w w2) := hb2
      clear hb2 hfi
      go_upto_region 7 with fail
      go_cut [57] (fun s wx => s = .bool false ∧ Hid (Below w.heap.size w wx))
      case first =>
        have hjd : decide ((j : Int) < 0) = false := by rw [decide_eq_false_iff_not]; omega
        by_cases hk0 : 0 < k
        · obtain ⟨p, hp⟩ : ∃ p, k = p + 1 := ⟨k - 1, by omega⟩
          obtain ⟨y, hy⟩ : ∃ y, ks[p]? = some y := ⟨_, List.getElem?_eq_getElem (by have := HL.out.1; omega)⟩
          have hlt2 : y < x := HLt.out p y x hy (by rw [← hp]; exact HX.out)
          have hA : (str y).toList < (str x).toList := by rw [str_toList, str_toList]; exact hlt2
          have hA2 : decide ((str y).toList < (str x).toList) = true := decide_eq_true hA
          have hA3 : ¬ ((str x).toList ≤ (str y).toList) := fun h => h hA
          have hA5 : Op.bytesLess (str y).toList (str x).toList = true := by rw [bytesLess_eq]; exact hA2
          have hA4 : decide ((str x).toList ≤ (str y).toList) = false := decide_eq_false hA3
          obtain ⟨j2, b2, hd2, _, _⟩ := HAll.out p y hy
          have cp : w2.cell? ⟨g1, o1 + p * 2, none⟩ = some (.string (str y)) := by
            obtain ⟨-, y1, z1, e1, h1⟩ := HA.out _ HW2.out
            injection e1 with e1 _ _
            obtain ⟨g', o', r1, _, c0', _⟩ := h1 p _ hd2
            rw [← e1] at r1
            injection r1 with r1
            injection r1 with q1 q2 _
            rw [q1, q2]
            exact c0'
          have hsub : IntKind.i64.wrap ((k : Int) - 1) = (p : Int) := by
            have e : (k : Int) - 1 = (p : Int) := by omega
            rw [e]
            exact wrap_small (by omega)
          have hpI : (p : Int) < (n : Int) := by omega
          have hpn : p < n := by omega
          have hk1 : (0 : Int) < (k : Int) := by omega
          have hk2 : decide ((0 : Int) < (k : Int)) = true := decide_eq_true hk1
          have hk3 : decide (0 < k) = true := decide_eq_true hk0
          clear hp hy hlt2 hd2
          go_quiet (fail)
          go_wp2_with fail
          go_meet
          exact ⟨rfl, HW2.out.trans ((bdN _ _).mono HW2.out.size)⟩
        · have hk1 : ¬ ((0 : Int) < (k : Int)) := by omega
          have hk2 : decide ((0 : Int) < (k : Int)) = false := decide_eq_false hk1
          have hk3 : decide (0 < k) = false := decide_eq_false hk0
          go_quiet (fail)
          go_wp2_with fail
          go_meet
          exact ⟨rfl, HW2.out.trans ((bdN _ _).mono HW2.out.size)⟩
      case rest =>
      obtain ⟨rfl, HW3⟩ := hcut
      go_wp2_with fail
      go_roundg (gk - 1)
      case measure => have := HKG.out; omega
      case rel => exact ⟨k + 1, by have := HKG.out; omega, by go_num, HW3.out⟩
    · obtain rfl : k = n := by omega
      have hltI : ¬ (k : Int) < (k : Int) := by omega
      go_wp2
      go_ret
      exact ⟨rfl, HW.out⟩

end Go.Proofs.Ytdgokfehgjkalaa.Wd
