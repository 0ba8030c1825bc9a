import Derived.Test.YtnfddiabhpandaaGreatDoorHaM
import Derived.Test.YtnfddiabhpandaaGreatDoorLaM
import Derived.Test.YtnfddiabhpandaaGreatDoorPbX
import Derived.Sort.Walk0
namespace Go.Proofs.YtnfddiabhpandaaGreatDoor.Tr
open Go.RowKit Go.Lib Go.Deep

def enC (e : En) : List Value := [.string (tx e.p), .int .i64 (e.kd : Int), .int .i64 (e.sz : Int)]
def ensC (L : List En) : List Value := L.flatMap enC
theorem ensC_app (L M : List En) : ensC (L ++ M) = ensC L ++ ensC M := by simp [ensC]
theorem ensC_len (L : List En) : (ensC L).length = L.length * 3 := by
  induction L with
  | nil => rfl
  | cons a l ih => show (enC a ++ ensC l).length = _; rw [List.length_append, ih]; simp [enC]; omega
theorem ensC_get : ∀ (l : List En) (i : Nat) (x : En), l[i]? = some x → ∀ j, j < 3 → (ensC l)[i * 3 + j]? = (enC x)[j]?
  | [], i, x, h, j, hj => by cases h
  | a :: l, 0, x, h, j, hj => by
    simp only [List.getElem?_cons_zero, Option.some.injEq] at h
    subst h
    rw [Nat.zero_mul, Nat.zero_add]
    show (enC a ++ ensC l)[j]? = _
    rw [List.getElem?_append_left (by simpa [enC] using hj)]
  | a :: l, i + 1, x, h, j, hj => by
    rw [List.getElem?_cons_succ] at h
    show (enC a ++ ensC l)[(i + 1) * 3 + j]? = _
    rw [List.getElem?_append_right (by simp [enC]; omega), show (i + 1) * 3 + j - (enC a).length = i * 3 + j by simp [enC]; omega]
    exact ensC_get l i x h j hj
/-- a model in memory -/
structure Mdl (w : World) (B b f d m : Nat) (L : List En) : Prop where
  row : ∃ a c, w.heap[b]? = some (.cells #[.int .i64 (f : Int), .int .i64 (d : Int), .int .i64 (m : Int), .slice a L.length c] 62 (0, 0)) ∧ w.ownsRow B 66 3 (.slice a L.length c) L.length (ensC L)
  vd : ∀ e ∈ L, Vd e.p
  nb : L.length ≤ 100000
theorem Mdl.below {w W : World} {B b f d m : Nat} {L : List En} (h : Mdl w B b f d m L) (hb : Below w.heap.size w W) : Mdl W B b f d m L := by
  obtain ⟨a, c, h1, h2⟩ := h.row
  exact ⟨⟨a, c, (hb.block _ (heap_lt h1)).trans h1, owns_keep h2 fun g hg => hb.block _ (h2.lt g hg).2⟩, h.vd, h.nb⟩
/-- what can be read of a model -/
structure Rd (w : World) (b f d m n : Nat) (a : Option Addr) (c : Nat) (L : List En) : Prop where
  c0 : w.cell? ⟨b, 0, none⟩ = some (.int .i64 (f : Int))
  c1 : w.cell? ⟨b, 1, none⟩ = some (.int .i64 (d : Int))
  c2 : w.cell? ⟨b, 2, none⟩ = some (.int .i64 (m : Int))
  c3 : w.cell? ⟨b, 3, none⟩ = some (.slice a n c)
  hn : L.length = n
  at_ : ∀ i e, L[i]? = some e → ∃ g, a = some ⟨g, 0, none⟩ ∧ w.cell? ⟨g, i * 3, none⟩ = some (.string (tx e.p)) ∧ w.cell? ⟨g, i * 3 + 1, none⟩ = some (.int .i64 (e.kd : Int)) ∧ w.cell? ⟨g, i * 3 + 2, none⟩ = some (.int .i64 (e.sz : Int))
theorem Mdl.rd {w : World} {B b f d m : Nat} {L : List En} (h : Mdl w B b f d m L) : ∃ a c, Rd w b f d m L.length a c L := by
  obtain ⟨a, c, h1, h2⟩ := h.row
  refine ⟨a, c, (cell_of_heap h1).trans rfl, (cell_of_heap h1).trans rfl, (cell_of_heap h1).trans rfl, (cell_of_heap h1).trans rfl, rfl, fun i e hi => ?_⟩
  have hl := (List.getElem?_eq_some_iff.1 hi).1
  rcases h2.2 with ⟨e1, e2⟩ | ⟨g, cap, cur, e1, _⟩
  · omega
  · injection e1 with e1 _ e3
    subst e1 e3
    refine ⟨g, rfl, ?_, ?_, ?_⟩
    · rw [h2.cellAt (i * 3) (by omega)]; exact ensC_get L i e hi 0 (by omega)
    · rw [h2.cellAt (i * 3 + 1) (by omega)]; exact ensC_get L i e hi 1 (by omega)
    · rw [h2.cellAt (i * 3 + 2) (by omega)]; exact ensC_get L i e hi 2 (by omega)
/-- where a path stands in a list -/
def AtR (L : List En) (P : List ByteArray) (r : Int) : Prop := (r = -1 ∧ ∀ e ∈ L, e.p ≠ P) ∨ ∃ (i : Nat) (e : En), r = (i : Int) ∧ L[i]? = some e ∧ e.p = P
set_option maxRecDepth 20000 in
set_option maxHeartbeats 1000000 in
theorem at_any (w : World) (B b f d m : Nat) (L : List En) (h : Mdl w B b f d m L) (P : List ByteArray) (hP : Vd P) :
    Calls Tryz.prog 85 #[.pointer (some ⟨b, 0, none⟩), .string (tx P)] w fun e w' => (∃ r, e = .returned (.int .i64 r) ∧ AtR L P r) ∧ w' = w := by
  obtain ⟨a, c, hr⟩ := h.rd
  have c3 := hr.c3
  have HR : Hid (Rd w b f d m L.length a c L) := hr
  have hnb := h.nb
  have HNE : Hid (∀ e ∈ L, e.p ≠ P → tx e.p ≠ tx P) := fun e he hne h2 => hne (tx_inj (h.vd e he) hP h2)
  obtain ⟨n, hn⟩ : ∃ n, L.length = n := ⟨_, rfl⟩
  rw [hn] at c3 HR hnb
  clear hr h hn
  go_enter Tryz.func85, Tryz.ntmps85
  go_wp2_with fail
  go_loopg [5] n (fun gk iv wr => ∃ k : Nat, k + gk = n ∧ iv = .int .i64 (k : Int) ∧ wr = w ∧ Hid (∀ j e, j < k → L[j]? = some e → e.p ≠ P))
  case atStart => exact ⟨0, by omega, rfl, rfl, fun j e h => by omega⟩
  case round =>
    obtain ⟨k, hk, rfl, rfl, HZ⟩ := hrel
    by_cases hlt : k < n
    · have hltI : (k : Int) < (n : Int) := by omega
      obtain ⟨e, he⟩ : ∃ e, L[k]? = some e := ⟨_, List.getElem?_eq_getElem (by have := HR.out.hn; omega)⟩
      obtain ⟨g, rfl, y0, y1, y2⟩ := HR.out.at_ k e he
      by_cases hep : e.p = P
      · have HA : Hid (AtR L P (k : Int)) := .inr ⟨k, e, rfl, he, hep⟩
        rw [hep] at y0
        clear he hep y1 y2
        generalize tx P = t at *
        go_wp2
        go_ret
        exact ⟨⟨_, rfl, HA.out⟩, rfl⟩
      · have hne := Pa.beq_ne (HNE.out e (List.mem_of_getElem? he) hep)
        have HZ2 : Hid (∀ j e, j < k + 1 → L[j]? = some e → e.p ≠ P) := fun j e' hj hj' => by
          by_cases h : j = k
          · subst h; rw [he] at hj'; injection hj' with hj'; subst hj'; exact hep
          · exact HZ.out j e' (by omega) hj'
        clear he hep y1 y2
        generalize tx e.p = y at *
        go_wp2
        go_roundg (gk - 1)
        case measure => omega
        case rel => exact ⟨k + 1, by omega, by go_num, rfl, HZ2⟩
    · obtain rfl : k = n := by omega
      have hltI : ¬ (k : Int) < (k : Int) := by omega
      have HA : Hid (AtR L P (-1)) := .inl ⟨rfl, fun e he => by
        obtain ⟨j, hj⟩ := List.mem_iff_getElem?.1 he
        exact HZ.out j e (by have := (List.getElem?_eq_some_iff.1 hj).1; have := HR.out.hn; omega) hj⟩
      go_wp2
      go_ret
      exact ⟨⟨_, rfl, HA.out⟩, rfl⟩
set_option maxRecDepth 20000 in
set_option maxHeartbeats 1000000 in
theorem count_any (w : World) (B b f d m : Nat) (L : List En) (h : Mdl w B b f d m L) (q : Nat) (_hq : q ≤ 2) :
    Calls Tryz.prog 81 #[.pointer (some ⟨b, 0, none⟩), .int .i64 (q : Int)] w fun e w' => e = .returned (.int .i64 (L.countP (isK q) : Int)) ∧ w' = w := by
  obtain ⟨a, c, hr⟩ := h.rd
  have c3 := hr.c3
  have HR : Hid (Rd w b f d m L.length a c L) := hr
  have hnb := h.nb
  obtain ⟨n, hn⟩ : ∃ n, L.length = n := ⟨_, rfl⟩
  rw [hn] at c3 HR hnb
  clear hr h hn
  obtain ⟨C, hC⟩ : ∃ C, L.countP (isK q) = C := ⟨_, rfl⟩
  have HCC : Hid (L.countP (isK q) = C) := hC
  rw [hC]
  clear hC
  go_enter Tryz.func81, Tryz.ntmps81
  go_wp2_with fail
  go_loopg [5, 6] n (fun gk nv iv wr => ∃ k s : Nat, k + gk = n ∧ iv = .int .i64 (k : Int) ∧ nv = .int .i64 (s : Int) ∧ s ≤ k ∧ wr = w ∧ Hid ((L.take k).countP (isK q) = s))
  case atStart => exact ⟨0, 0, by omega, rfl, rfl, Nat.le_refl _, rfl, rfl⟩
  case round =>
    obtain ⟨k, s, hk, rfl, rfl, hsk, rfl, HS⟩ := hrel
    by_cases hlt : k < n
    · have hltI : (k : Int) < (n : Int) := by omega
      obtain ⟨e, he⟩ : ∃ e, L[k]? = some e := ⟨_, List.getElem?_eq_getElem (by have := HR.out.hn; omega)⟩
      obtain ⟨g, rfl, y0, y1, y2⟩ := HR.out.at_ k e he
      have ht : L.take (k + 1) = L.take k ++ [e] := by rw [List.take_add_one, he]; rfl
      by_cases hkd : e.kd = q
      · have HS2 : Hid ((L.take (k + 1)).countP (isK q) = s + 1) := by
          show _ = _
          rw [ht, List.countP_append, HS.out]
          simp [isK, hkd]
        rw [hkd] at y1
        clear he ht y0 y2 hkd
        go_wp2
        go_roundg (gk - 1)
        case measure => omega
        case rel => exact ⟨k + 1, s + 1, by omega, by go_num, by go_num, by omega, rfl, HS2⟩
      · have HS2 : Hid ((L.take (k + 1)).countP (isK q) = s) := by
          show _ = _
          rw [ht, List.countP_append, HS.out]
          simp [isK, hkd]
        have hne : ((e.kd : Int) == (q : Int)) = false := by simp; omega
        clear he ht y0 y2 hkd
        generalize e.kd = ek at *
        go_wp2
        go_roundg (gk - 1)
        case measure => omega
        case rel => exact ⟨k + 1, s, by omega, by go_num, rfl, by omega, rfl, HS2⟩
    · obtain rfl : k = n := by omega
      have hltI : ¬ (k : Int) < (k : Int) := by omega
      obtain rfl : s = C := by
        have := HS.out
        rw [List.take_of_length_le (by rw [HR.out.hn]; exact Nat.le_refl _)] at this
        exact this.symm.trans HCC.out
      go_wp2
      go_ret
      exact ⟨rfl, rfl⟩
theorem root_str : ({ data := #[47] } : ByteArray) = tx [] := rfl
set_option maxRecDepth 20000 in
set_option maxHeartbeats 1000000 in
theorem kind_any (w : World) (B b f d m : Nat) (L : List En) (h : Mdl w B b f d m L) {T : Ts} {dp : Nat → Nat} (hI : Inv T dp) (hM : Mo T L) (P : List ByteArray) (hP : Vd P) :
    Calls Tryz.prog 80 #[.pointer (some ⟨b, 0, none⟩), .string (tx P)] w fun e w' => e = .returned (.int .i64 (kdT T P : Int)) ∧ w' = w := by
  by_cases hn : P = []
  · subst hn
    have e1 : kdT T [] = 1 := rfl
    rw [e1]
    have e2 : tx [] = ({ data := #[47] } : ByteArray) := rfl
    rw [e2]
    go_enter Tryz.func80, Tryz.ntmps80
    go_wp2
    go_ret
    exact ⟨rfl, rfl⟩
  · have hat := at_any w B b f d m L h P hP
    obtain ⟨a, c, hr⟩ := h.rd
    have c3 := hr.c3
    have HR : Hid (Rd w b f d m L.length a c L) := hr
    have hne : ((tx P).toList == [47]) = false := by
      have := Pa.beq_ne (x := tx P) (y := { data := #[47] }) (fun e => hn ((tx_nil hP).1 e))
      rwa [show ({ data := #[47] } : ByteArray).toList = [47] from by rw [toList_data]] at this
    have HK : Hid (∀ e ∈ L, e.p = P → kdT T P = e.kd) := fun e he hp => by rw [← hp]; exact (mem_kd hM he).1
    have HK0 : Hid ((∀ e ∈ L, e.p ≠ P) → kdT T P = 0) := fun h0 => by
      refine Classical.byContradiction fun hk => ?_
      exact h0 _ (kd_mem hI hM hP.nm hn hk).1 rfl
    have hnb := h.nb
    obtain ⟨n, hn⟩ : ∃ n, L.length = n := ⟨_, rfl⟩
    rw [hn] at c3 HR hnb
    clear hr h hn hP
    obtain ⟨z, hz⟩ : ∃ z, kdT T P = z := ⟨_, rfl⟩
    rw [hz] at HK HK0 ⊢
    clear hz
    generalize tx P = t at *
    go_enter Tryz.func80, Tryz.ntmps80
    go_wp2_with fail
    refine hat.mono ?_
    rintro e w1 ⟨⟨r, rfl, har⟩, rfl⟩
    clear hat
    rcases har with ⟨rfl, h0⟩ | ⟨i, e, rfl, hi, hp⟩
    · obtain rfl : z = 0 := HK0.out h0
      clear h0
      go_wp2
      go_ret
      exact ⟨rfl, rfl⟩
    · have hin := (List.getElem?_eq_some_iff.1 hi).1
      rw [HR.out.hn] at hin
      have hinI : (i : Int) < (n : Int) := by omega
      have hi0 : ¬ (i : Int) < 0 := by omega
      obtain ⟨g, rfl, y0, y1, y2⟩ := HR.out.at_ i e hi
      have hz : e.kd = z := (HK.out e (List.mem_of_getElem? hi) hp).symm
      rw [hz] at y1
      clear hi hp y0 y2 HK HK0 hz
      go_wp2
      go_ret
      exact ⟨rfl, rfl⟩
set_option maxRecDepth 20000 in
set_option maxHeartbeats 1000000 in
theorem way_any (w : World) (B b f d m : Nat) (L : List En) (h : Mdl w B b f d m L) {T : Ts} {dp : Nat → Nat} (hI : Inv T dp) (hM : Mo T L) (P : List ByteArray) (hP : Vd P) :
    Calls Tryz.prog 79 #[.pointer (some ⟨b, 0, none⟩), .string (tx P)] w fun e w' => e = .returned (.int .i64 (fndA T P).2) ∧ w' = w := by
  have HK : Hid (∀ j, Calls Tryz.prog 80 #[.pointer (some ⟨b, 0, none⟩), .string (tx (P.take j))] w fun e w' => e = .returned (.int .i64 (kdT T (P.take j) : Int)) ∧ w' = w) := fun j => kind_any w B b f d m L h hI hM _ (vd_take hP j)
  have HV : Hid (∀ j, kdT T (P.take j) = 0 ∨ kdT T (P.take j) = 1 ∨ kdT T (P.take j) = 2) := fun j => kdT_vals hI (vd_take hP j).nm
  obtain ⟨hz1, hz2⟩ := tx_size hP
  have HSP : Hid (∀ i, 1 ≤ i → (tx P).data.toList[i]? = some 47 → ∃ j, 1 ≤ j ∧ j < P.length ∧ i = (Pa.slashed (P.take j)).length ∧ (tx P).data.toList.take i = (tx (P.take j)).data.toList) := fun i h1 h2 => slash_pos hP h1 h2
  have HMON : Hid (∀ j, j < P.length → ∀ k, k < j → (Pa.slashed (P.take k)).length < (Pa.slashed (P.take j)).length) := fun j hj k hk => by
    have e : P.take j = P.take k ++ (P.drop k).take (j - k) := by
      rw [← List.take_append_drop k (P.take j), List.take_take, Nat.min_eq_left (by omega), List.drop_take]
    rw [e, Pa.slashed_append, List.length_append]
    have : 0 < (Pa.slashed ((P.drop k).take (j - k))).length := sl_pos fun e2 => by
      have := congrArg List.length e2
      rw [List.length_take, List.length_drop, List.length_nil] at this
      omega
    omega
  have HSS : Hid (∀ i, (∃ j, 1 ≤ j ∧ j < P.length ∧ i = (Pa.slashed (P.take j)).length) → (tx P).data.toList[i]? = some 47) := fun i ⟨j, h1, h2, h3⟩ => by
    have hne : P ≠ [] := fun e => by subst e; simp at h2
    rw [tx_data hP, textL_ne hne]
    exact (slash_at P hP.nm i).2 ⟨j, h2, h3⟩
  have HLT : Hid (∀ j, j < P.length → (Pa.slashed (P.take j)).length < (tx P).size) := fun j h2 => by
    have hne : P ≠ [] := fun e => by subst e; simp at h2
    rw [size_eq, tx_data hP, textL_ne hne]
    have e : Pa.slashed P = Pa.slashed (P.take j) ++ Pa.slashed (P.drop j) := by rw [← Pa.slashed_append, List.take_append_drop]
    rw [e, List.length_append]
    have : 0 < (Pa.slashed (P.drop j)).length := sl_pos fun e2 => by
      have := congrArg List.length e2
      rw [List.length_drop, List.length_nil] at this
      omega
    omega
  have HEX : Hid (∀ i (s' : ByteArray), i ≤ (tx P).size → (tx P).data.toList.take i = s'.data.toList → (tx P).extract 0 i = s') := fun i s' hi he => by
    refine ky_inj ?_
    unfold ky
    rw [ByteArray.data_extract, Array.toList_extract, ← he]
    simp [List.extract]
  have HIX : Hid (∀ (i : Nat) c, (tx P).data.toList[i]? = some c → ∀ W, (Instr.index 9 (.string (tx P)) (.int .i64 (i : Int))).run Tryz.prog W = .ok (.int .u8 (c.toNat : Int)) W) := fun i c hc W => Pa.rindex_at W 9 (tx P) .i64 (i : Int) i c Tryz.underlying9 rfl hc
  have hlen : (tx P).data.toList.length = (tx P).size := (size_eq _).symm
  have HSL : Hid (∀ (i : Nat) (s' : ByteArray), i ≤ (tx P).size → (tx P).extract 0 i = s' → ∀ W, (Instr.slice 9 (.string (tx P)) none (some (.int .i64 (i : Int))) none).run Tryz.prog W = .ok (.string s') W) := fun i s' hi he W => by
    have hj : 0 ≤ (i : Int) ∧ (i : Int) ≤ ((tx P).size : Int) := ⟨by omega, by omega⟩
    rw [← he]
    simp [Instr.slice, Instr.sliceBounds, Instr.sliceBound, asIntOf, run_underlying Tryz.underlying9, hj]
    omega
  obtain ⟨n, hn⟩ : ∃ n, (tx P).size = n := ⟨_, rfl⟩
  rw [hn] at hz1 hz2 HEX HSL hlen HLT
  have HN : Hid ((tx P).size = n) := hn
  have hLen : Hid ((tx P).data.toList.length = n) := hlen
  clear h hn hlen
  generalize hT : tx P = t at *
  clear hT
  obtain ⟨E, hE⟩ : ∃ E, (fndA T P).2 = E := ⟨_, rfl⟩
  have HEE : Hid ((fndA T P).2 = E) := hE
  rw [hE]
  clear hE
  go_enter Tryz.func79, Tryz.ntmps79
  have htn : (t.size : Int) = (n : Int) := by have := HN.out; omega
  go_wp2_with fail
  go_loopg [5] n (fun gk iv wr => ∃ k : Nat, k + gk = n + 1 ∧ 1 ≤ k ∧ k ≤ n ∧ iv = .int .i64 (k : Int) ∧ wr = w ∧ Hid (∀ j, 1 ≤ j → j < P.length → (Pa.slashed (P.take j)).length < k → kdT T (P.take j) = 1))
  case atStart => exact ⟨1, by omega, by omega, by omega, rfl, rfl, fun j h1 h2 h3 => by
    have := HMON.out j h2 0 (by omega)
    rw [List.take_zero] at this
    have e : (Pa.slashed []).length = 0 := rfl
    omega⟩
  case round =>
    obtain ⟨k, hk, hk1, hkn, rfl, rfl, HZ⟩ := hrel
    by_cases hlt : k < n
    · have hltI : (k : Int) < (n : Int) := by omega
      have w1' : IntKind.i64.wrap ((k : Int) + 1) = ((k + 1 : Nat) : Int) := by rw [IntKind.wrap_i64]; omega
      obtain ⟨x, hx⟩ : ∃ x, t.data.toList[k]? = some x := ⟨_, List.getElem?_eq_getElem (by have := hLen.out; omega)⟩
      have hix := HIX.out k x hx
      by_cases hx47 : x = 47
      · subst hx47
        obtain ⟨j, hj1, hj2, hj3, hj4⟩ := HSP.out k hk1 hx
        have hsl := HSL.out k _ (by omega) (HEX.out k _ (by omega) hj4)
        have hkc := HK.out j
        have HPRE : Hid (∀ i, 1 ≤ i → i < j → kdT T (P.take i) = 1) := fun i h1 h2 => HZ.out i h1 (by omega) (by rw [hj3]; exact HMON.out j hj2 i h2)
        have HJ : Hid (j < P.length ∧ k = (Pa.slashed (P.take j)).length) := ⟨hj2, hj3⟩
        have e47 : ((47 : UInt8).toNat : Int) = 47 := rfl
        rw [e47] at hix
        generalize tx (P.take j) = tj at *
        rcases HV.out j with hv | hv | hv
        · obtain rfl : E = 120 := HEE.out.symm.trans (by
            have := way_stop HJ.out.1 HPRE.out (.inl hv)
            rw [if_pos hv] at this
            exact this)
          rw [hv] at hkc
          clear hx hj4 hj1 hj2 hj3
          go_wp2_with fail
          refine hkc.mono ?_
          rintro e w1 ⟨rfl, rfl⟩
          go_wp2
          go_ret
          exact ⟨rfl, rfl⟩
        · rw [hv] at hkc
          have HZ2 : Hid (∀ i, 1 ≤ i → i < P.length → (Pa.slashed (P.take i)).length < k + 1 → kdT T (P.take i) = 1) := fun i h1 h2 h3 => by
            rcases Nat.lt_trichotomy i j with hij | hij | hij
            · exact HPRE.out i h1 hij
            · rw [hij]; exact hv
            · have := HMON.out i h2 j hij
              have := HJ.out.2
              omega
          clear hx hj4 hj1 hj2 hj3
          go_wp2_with fail
          refine hkc.mono ?_
          rintro e w1 ⟨rfl, rfl⟩
          go_wp2
          go_roundg (gk - 1)
          case measure => omega
          case rel => exact ⟨k + 1, by omega, by omega, by omega, by go_num, rfl, HZ2⟩
        · obtain rfl : E = 122 := HEE.out.symm.trans (by
            have := way_stop HJ.out.1 HPRE.out (.inr hv)
            rw [if_neg (by omega)] at this
            exact this)
          rw [hv] at hkc
          clear hx hj4 hj1 hj2 hj3
          go_wp2_with fail
          refine hkc.mono ?_
          rintro e w1 ⟨rfl, rfl⟩
          go_wp2
          go_ret
          exact ⟨rfl, rfl⟩
      · have hne : ((x.toNat : Int) == 47) = false := by
          simp only [beq_eq_false_iff_ne, ne_eq]
          intro e
          exact hx47 (UInt8.toNat_inj.1 (by have : x.toNat = 47 := by omega
                                            exact this))
        have HZ2 : Hid (∀ i, 1 ≤ i → i < P.length → (Pa.slashed (P.take i)).length < k + 1 → kdT T (P.take i) = 1) := fun i h1 h2 h3 => by
          by_cases hq : (Pa.slashed (P.take i)).length = k
          · exact absurd (HSS.out k ⟨i, h1, h2, hq.symm⟩) (by rw [hx]; intro e; injection e with e; exact hx47 e)
          · exact HZ.out i h1 h2 (by omega)
        clear hx
        generalize x.toNat = xn at *
        go_wp2
        go_roundg (gk - 1)
        case measure => omega
        case rel => exact ⟨k + 1, by omega, by omega, by omega, by go_num, rfl, HZ2⟩
    · obtain rfl : k = n := by omega
      have hltI : ¬ (k : Int) < (k : Int) := by omega
      obtain rfl : E = 0 := HEE.out.symm.trans (way_ok fun j h1 h2 => HZ.out j h1 h2 (HLT.out j h2))
      go_wp2
      go_ret
      exact ⟨rfl, rfl⟩

end Go.Proofs.YtnfddiabhpandaaGreatDoor.Tr

namespace Go.Proofs.YtnfddiabhpandaaGreatDoor.Tr
open Go.RowKit Go.Lib Go.Deep

open Classical in
noncomputable def blwB (P D : List ByteArray) : Bool := decide (Blw P D)
open Classical in
theorem blwB_true {P D : List ByteArray} (h : Blw P D) : blwB P D = true := decide_eq_true h
open Classical in
theorem blwB_false {P D : List ByteArray} (h : ¬ Blw P D) : blwB P D = false := decide_eq_false h
open Classical in
theorem blwB_iff {P D : List ByteArray} : blwB P D = true ↔ Blw P D := decide_eq_true_iff
theorem root_ne {P : List ByteArray} (h : Vd P) (hn : P ≠ []) : ((tx P).toList == [47]) = false := by
  have := Pa.beq_ne (x := tx P) (y := { data := #[47] }) (fun e => hn ((tx_nil h).1 e))
  rwa [show ({ data := #[47] } : ByteArray).toList = [47] from by rw [toList_data]] at this
set_option maxRecDepth 20000 in
set_option maxHeartbeats 1000000 in
theorem below_any (w : World) (P D : List ByteArray) (hP : Vd P) (hD : Vd D) :
    Calls Tryz.prog 84 #[.string (tx P), .string (tx D)] w fun e w' => e = .returned (.bool (blwB P D)) ∧ w' = w := by
  by_cases hd : D = []
  · subst hd
    have e2 : tx [] = ({ data := #[47] } : ByteArray) := rfl
    by_cases hp : P = []
    · subst hp
      rw [blwB_false (fun h => h.2 rfl), e2]
      go_enter Tryz.func84, Tryz.ntmps84
      go_wp2
      go_ret
      exact ⟨rfl, rfl⟩
    · rw [blwB_true ⟨List.nil_prefix, hp⟩, e2]
      have hne := root_ne hP hp
      generalize tx P = t at *
      go_enter Tryz.func84, Tryz.ntmps84
      go_wp2
      go_ret
      exact ⟨by simp, rfl⟩
  · have hne := root_ne hD hd
    have hb := blw_tx hP hD hd
    obtain ⟨_, zP⟩ := tx_size hP
    obtain ⟨_, zD⟩ := tx_size hD
    obtain ⟨z, hz⟩ : ∃ z, blwB P D = z := ⟨_, rfl⟩
    have HZ : Hid (z = true ↔ Blw P D) := hz ▸ blwB_iff
    rw [hz]
    clear hz
    by_cases hlt : (tx D).size < (tx P).size
    · have hy : (tx P).extract 0 ((tx D).size + 1) = tx D ++ { data := #[47] } ↔ (tx P).data.toList.take ((tx D).size + 1) = (tx D).data.toList ++ [47] := by
        constructor
        · intro e
          have := congrArg (fun s => s.data.toList) e
          simp only [ByteArray.data_extract, Array.toList_extract, ByteArray.data_append, Array.toList_append] at this
          simpa [List.extract] using this
        · intro e
          refine ky_inj ?_
          unfold ky
          rw [ByteArray.data_extract, Array.toList_extract, ByteArray.data_append, Array.toList_append, ← e]
          simp [List.extract]
      have HB : Hid (z = true ↔ (tx P).extract 0 ((tx D).size + 1) = tx D ++ { data := #[47] }) := HZ.out.trans (hb.trans ⟨fun h => hy.2 h.2, fun h => ⟨hlt, hy.1 h⟩⟩)
      have hsl : ∀ W, (Instr.slice 9 (.string (tx P)) none (some (.int .i64 (((tx D).size : Int) + 1))) none).run Tryz.prog W = .ok (.string ((tx P).extract 0 ((tx D).size + 1))) W := fun W => by
        have hj : 0 ≤ (((tx D).size : Int) + 1) ∧ (((tx D).size : Int) + 1) ≤ ((tx P).size : Int) := ⟨by omega, by omega⟩
        simp [Instr.slice, Instr.sliceBounds, Instr.sliceBound, asIntOf, run_underlying Tryz.underlying9, hj]
      obtain ⟨y, hye⟩ : ∃ y, (tx P).extract 0 ((tx D).size + 1) = y := ⟨_, rfl⟩
      obtain ⟨q, hqe⟩ : ∃ q, tx D ++ { data := #[47] } = q := ⟨_, rfl⟩
      have HQ : Hid (tx D ++ { data := #[47] } = q) := hqe
      rw [hye] at hsl HB
      rw [hqe] at HB
      have hltI : ((tx D).size : Int) < ((tx P).size : Int) := by omega
      have hg : ¬ 9223372036854775807 < (tx D).size + 1 := by omega
      have hw : IntKind.i64.wrap (((tx D).size : Int) + 1) = ((tx D).size : Int) + 1 := by rw [IntKind.wrap_i64]; omega
      clear hy hye hb HZ
      generalize tx P = tP at *
      generalize tx D = tD at *
      by_cases hyq : y = q
      · obtain rfl : z = true := HB.out.2 hyq
        subst hyq
        clear HB
        go_enter Tryz.func84, Tryz.ntmps84
        go_wp2
        go_ret
        exact ⟨by simp, rfl⟩
      · obtain rfl : z = false := by
          cases hzz : z with
          | false => rfl
          | true => exact absurd (HB.out.1 hzz) hyq
        have hne2 := Pa.beq_ne hyq
        have HNQ : Hid ((y.toList == (tD ++ { data := #[47] }).toList) = false) := by show _ = _; rw [HQ.out]; exact hne2
        clear HB hyq
        go_enter Tryz.func84, Tryz.ntmps84
        go_wp2
        go_ret
        refine ⟨?_, rfl⟩
        have := HNQ.out
        simp_all
    · obtain rfl : z = false := by
        cases hzz : z with
        | false => rfl
        | true => exact absurd (hb.1 (HZ.out.1 hzz)).1 hlt
      have hltI : ¬ ((tx D).size : Int) < ((tx P).size : Int) := by omega
      clear hb HZ
      generalize tx P = tP at *
      generalize tx D = tD at *
      go_enter Tryz.func84, Tryz.ntmps84
      go_wp2
      go_ret
      exact ⟨rfl, rfl⟩
set_option maxRecDepth 20000 in
set_option maxHeartbeats 1000000 in
theorem depth_any (w : World) (P : List ByteArray) (hP : Vd P) :
    Calls Tryz.prog 129 #[.string (tx P)] w fun e w' => e = .returned (.int .i64 (P.length : Int)) ∧ w' = w := by
  obtain ⟨_, hz2⟩ := tx_size hP
  have HIX : Hid (∀ (i : Nat) c, (tx P).data.toList[i]? = some c → ∀ W, (Instr.index 9 (.string (tx P)) (.int .i64 (i : Int))).run Tryz.prog W = .ok (.int .u8 (c.toNat : Int)) W) := fun i c hc W => Pa.rindex_at W 9 (tx P) .i64 (i : Int) i c Tryz.underlying9 rfl hc
  have hlen : (tx P).data.toList.length = (tx P).size := (size_eq _).symm
  have HC : Hid (P ≠ [] → (tx P).data.toList.count 47 = P.length) := fun hn => tx_count hP hn
  have HR : Hid (P ≠ [] → ((tx P).toList == [47]) = false) := fun hn => root_ne hP hn
  have HR0 : Hid (P = [] → tx P = { data := #[47] }) := fun hn => (tx_nil hP).2 hn
  have hLen : Hid ((tx P).data.toList.length = (tx P).size) := hlen
  obtain ⟨q, hq⟩ : ∃ q, P.length = q := ⟨_, rfl⟩
  have HQ : Hid (P.length = q) := hq
  rw [hq]
  clear hq hlen
  generalize tx P = t at *
  go_enter Tryz.func129, Tryz.ntmps129
  go_wp2_with fail
  go_loopg [3, 4] t.size (fun gk nv iv wr => ∃ k s : Nat, k + gk = t.size ∧ iv = .int .i64 (k : Int) ∧ nv = .int .i64 (s : Int) ∧ s ≤ k ∧ wr = w ∧ Hid ((t.data.toList.take k).count 47 = s))
  case atStart => exact ⟨0, 0, by omega, rfl, rfl, Nat.le_refl _, rfl, rfl⟩
  case round =>
    obtain ⟨k, s, hk, rfl, rfl, hsk, rfl, HS⟩ := hrel
    by_cases hlt : k < t.size
    · have hltI : (k : Int) < (t.size : Int) := by omega
      obtain ⟨x, hx⟩ : ∃ x, t.data.toList[k]? = some x := ⟨_, List.getElem?_eq_getElem (by have := hLen.out; omega)⟩
      have hix := HIX.out k x hx
      have ht : t.data.toList.take (k + 1) = t.data.toList.take k ++ [x] := by rw [List.take_add_one, hx]; rfl
      by_cases hx47 : x = 47
      · subst hx47
        have HS2 : Hid ((t.data.toList.take (k + 1)).count 47 = s + 1) := by show _ = _; rw [ht, List.count_append, HS.out]; rfl
        have e47 : ((47 : UInt8).toNat : Int) = 47 := rfl
        rw [e47] at hix
        clear hx ht
        go_wp2
        go_roundg (gk - 1)
        case measure => omega
        case rel => exact ⟨k + 1, s + 1, by omega, by go_num, by go_num, by omega, rfl, HS2⟩
      · have HS2 : Hid ((t.data.toList.take (k + 1)).count 47 = s) := by
          show _ = _
          have hc0 : [x].count 47 = 0 := List.count_eq_zero.2 fun h => hx47 (List.mem_singleton.1 h).symm
          rw [ht, List.count_append, HS.out, hc0]
          rfl
        have hne : ((x.toNat : Int) == 47) = false := by
          simp only [beq_eq_false_iff_ne, ne_eq]
          intro e
          have h47 : x.toNat = 47 := by omega
          exact hx47 (UInt8.toNat_inj.1 h47)
        clear hx ht
        generalize x.toNat = xn at *
        go_wp2
        go_roundg (gk - 1)
        case measure => omega
        case rel => exact ⟨k + 1, s, by omega, by go_num, rfl, by omega, rfl, HS2⟩
    · have hkt : k = t.size := by omega
      have hltI : ¬ (k : Int) < (t.size : Int) := by omega
      have HSF : Hid (t.data.toList.count 47 = s) := by
        have := HS.out
        rwa [List.take_of_length_le (by rw [hLen.out]; omega)] at this
      clear hkt
      by_cases hn : P = []
      · have ht := HR0.out hn
        obtain rfl : q = 0 := by rw [← HQ.out, hn]; rfl
        have ht2 : (t.toList == [47]) = true := by rw [ht, toList_data]; rfl
        clear hn ht
        go_wp2
        go_ret
        exact ⟨rfl, rfl⟩
      · have ht := HR.out hn
        obtain rfl : s = q := by rw [← HSF.out, HC.out hn, HQ.out]
        clear hn
        go_wp2
        go_ret
        exact ⟨rfl, rfl⟩
set_option maxRecDepth 20000 in
set_option maxHeartbeats 1000000 in
theorem empty_any (w : World) (B b f d m : Nat) (L : List En) (h : Mdl w B b f d m L) (D : List ByteArray) (hD : Vd D) (z : Bool) (hz : z = true ↔ ∀ e ∈ L, ¬ Blw e.p D) :
    Calls Tryz.prog 87 #[.pointer (some ⟨b, 0, none⟩), .string (tx D)] w fun e w' => e = .returned (.bool z) ∧ w' = w := by
  obtain ⟨a, c, hr⟩ := h.rd
  have c3 := hr.c3
  have HR : Hid (Rd w b f d m L.length a c L) := hr
  have hnb := h.nb
  have HB : Hid (∀ e ∈ L, Calls Tryz.prog 84 #[.string (tx e.p), .string (tx D)] w fun x w' => x = .returned (.bool (blwB e.p D)) ∧ w' = w) := fun e he => below_any w e.p D (h.vd e he) hD
  have HZ : Hid (z = true ↔ ∀ e ∈ L, ¬ Blw e.p D) := hz
  obtain ⟨n, hn⟩ : ∃ n, L.length = n := ⟨_, rfl⟩
  rw [hn] at c3 HR hnb
  clear hr h hn hz
  go_enter Tryz.func87, Tryz.ntmps87
  go_wp2_with fail
  go_loopg [5] n (fun gk iv wr => ∃ k : Nat, k + gk = n ∧ iv = .int .i64 (k : Int) ∧ wr = w ∧ Hid (∀ j e, j < k → L[j]? = some e → ¬ Blw e.p D))
  case atStart => exact ⟨0, by omega, rfl, rfl, fun j e h => by omega⟩
  case round =>
    obtain ⟨k, hk, rfl, rfl, HY⟩ := hrel
    by_cases hlt : k < n
    · have hltI : (k : Int) < (n : Int) := by omega
      obtain ⟨e, he⟩ : ∃ e, L[k]? = some e := ⟨_, List.getElem?_eq_getElem (by have := HR.out.hn; omega)⟩
      obtain ⟨g, rfl, y0, y1, y2⟩ := HR.out.at_ k e he
      have hbl := HB.out e (List.mem_of_getElem? he)
      by_cases hb : Blw e.p D
      · obtain rfl : z = false := by
          cases hzz : z with
          | false => rfl
          | true => exact absurd hb (HZ.out.1 hzz e (List.mem_of_getElem? he))
        rw [blwB_true hb] at hbl
        clear he hb y1 y2
        generalize tx e.p = y at *
        go_wp2_with fail
        refine hbl.mono ?_
        rintro x w1 ⟨rfl, rfl⟩
        go_wp2
        go_ret
        exact ⟨rfl, rfl⟩
      · have HY2 : Hid (∀ j e, j < k + 1 → L[j]? = some e → ¬ Blw e.p D) := fun j e' hj hj' => by
          by_cases h : j = k
          · subst h; rw [he] at hj'; injection hj' with hj'; subst hj'; exact hb
          · exact HY.out j e' (by omega) hj'
        rw [blwB_false hb] at hbl
        clear he hb y1 y2
        generalize tx e.p = y at *
        go_wp2_with fail
        refine hbl.mono ?_
        rintro x w1 ⟨rfl, rfl⟩
        go_wp2
        go_roundg (gk - 1)
        case measure => omega
        case rel => exact ⟨k + 1, by omega, by go_num, rfl, HY2⟩
    · obtain rfl : k = n := by omega
      have hltI : ¬ (k : Int) < (k : Int) := by omega
      obtain rfl : z = true := HZ.out.2 fun e he => by
        obtain ⟨j, hj⟩ := List.mem_iff_getElem?.1 he
        exact HY.out j e (by have := (List.getElem?_eq_some_iff.1 hj).1; have := HR.out.hn; omega) hj
      go_wp2
      go_ret
      exact ⟨rfl, rfl⟩

end Go.Proofs.YtnfddiabhpandaaGreatDoor.Tr

namespace Go.Proofs.YtnfddiabhpandaaGreatDoor.Tr
open Go.RowKit Go.Lib Go.Deep

theorem infoE : (Tryz.prog.info? 66).map (fun i => (i.zero, i.size, i.bytes)) = some (some (.agg #[.string { data := #[] }, .int .i64 0, .int .i64 0]), 3, 32) := by kernel_rfl
theorem cells_en (W : World) (e : En) : ∀ (j : Nat) u, (enC e)[j]? = some u → (W.alloc (.cells #[.string (tx e.p), .int .i64 (e.kd : Int), .int .i64 (e.sz : Int)] 66)).cell? ((⟨W.heap.size, 0, none⟩ : Addr).add j) = some u := fun j u h => by
  have e : (⟨W.heap.size, 0, none⟩ : Addr).add j = ⟨W.heap.size, j, none⟩ := by simp [Addr.add]; omega
  rw [e, cell_of_heap (heap_new W _)]
  simpa [enC] using h
theorem enC_one (e : En) : ∀ u ∈ enC e, u.oneCell' = true := fun u hu => by
  simp [enC] at hu
  rcases hu with rfl | rfl | rfl <;> rfl
/-- only a model has turned -/
structure Mfr (B : Nat) (w w' : World) (b : Nat) : Prop where
  os : w'.os = w.os
  tape : w'.tape = w.tape
  output : w'.output = w.output
  size : w.heap.size ≤ w'.heap.size
  block : ∀ k o, w.heap[k]? = some o → k ≠ b → ((∀ c fr, o ≠ .cells c 66 fr) ∨ k < B) → w'.heap[k]? = some o
theorem Mfr.trans {a w w' : World} {B b : Nat} (h : Mfr B a w b) (h' : Mfr B w w' b) : Mfr B a w' b := ⟨h'.os.trans h.os, h'.tape.trans h.tape, h'.output.trans h.output, Nat.le_trans h.size h'.size, fun k o hk hb ho => h'.block k o (h.block k o hk hb ho) hb ho⟩
theorem mfr_below {w w' : World} {B b : Nat} (h : Below w.heap.size w w') : Mfr B w w' b := ⟨h.os, h.tape, h.output, h.size, fun k _o hk _ _ => (h.block k (heap_lt hk)).trans hk⟩
theorem mfr_set (w : World) {B : Nat} (b j : Nat) (v : Value) : Mfr B w (w.setCell ⟨b, j, none⟩ v) b := ⟨rfl, rfl, rfl, by simp, fun k _o hk hb _ => (heap_setCell_other _ _ _ _ (by show k ≠ b; exact hb)).trans hk⟩
/-- a model with another list -/
theorem mdl_set {w : World} {B b f d m n c : Nat} {a : Option Addr} {v : Value} {L : List En} (h1 : w.heap[b]? = some (.cells #[.int .i64 (f : Int), .int .i64 (d : Int), .int .i64 (m : Int), v] 62 (0, 0))) (h2 : w.ownsRow B 66 3 (.slice a n c) n (ensC L)) (hn : n = L.length) (hv : ∀ e ∈ L, Vd e.p) (hb : L.length ≤ 100000) : Mdl (w.setCell ⟨b, 3, none⟩ (.slice a n c)) B b f d m L := by
  subst hn
  refine ⟨⟨a, c, heap_setCell_same _ _ 3 _ _ _ h1, owns_keep h2 fun g hg => heap_setCell_other _ _ _ _ fun e => ?_⟩, hv, hb⟩
  obtain ⟨cur, hc⟩ := owns_block h2 hg
  have e : g = b := e
  rw [e, h1] at hc
  injection hc with hc
  injection hc with _ hc _
  exact absurd hc (by decide)
theorem owns_form3 {w : World} {B e sz n : Nat} {v : Value} {xs : List Value} (h : w.ownsRow B e sz v n xs) : ∃ a c, v = .slice a n c := by
  rcases h.2 with ⟨e1, e2⟩ | ⟨g, cap, cur, e1, _⟩
  · exact ⟨none, 0, by rw [e2]; exact e1⟩
  · exact ⟨_, cap, e1⟩
open Classical in
noncomputable def wo (P : List ByteArray) (L : List En) : List En := L.filter fun e => decide (e.p ≠ P)
open Classical in
theorem wo_snoc_eq (P : List ByteArray) (L : List En) (e : En) (h : e.p = P) : wo P (L ++ [e]) = wo P L := by unfold wo; rw [List.filter_append]; simp [h]
open Classical in
theorem wo_snoc_ne (P : List ByteArray) (L : List En) (e : En) (h : e.p ≠ P) : wo P (L ++ [e]) = wo P L ++ [e] := by unfold wo; rw [List.filter_append]; simp [h]
open Classical in
theorem wo_len (P : List ByteArray) (L : List En) : (wo P L).length ≤ L.length := List.length_filter_le _ _
open Classical in
theorem wo_mem {P : List ByteArray} {L : List En} {e : En} (h : e ∈ wo P L) : e ∈ L := (List.mem_filter.1 h).1
set_option maxRecDepth 20000 in
set_option maxHeartbeats 2000000 in
theorem gone_any (w : World) (B b f d m : Nat) (L : List En) (h : Mdl w B b f d m L) (hB : B ≤ w.heap.size) (P : List ByteArray) (hP : Vd P) :
    Calls Tryz.prog 83 #[.pointer (some ⟨b, 0, none⟩), .string (tx P)] w fun e w' => e = .returned (.tuple #[]) ∧ Hid (Mdl w' B b f d m (wo P L)) ∧ Hid (Mfr B w w' b) := by
  have HD : Hid (Mdl w B b f d m L) := h
  have HNE : Hid (∀ e ∈ L, e.p ≠ P → tx e.p ≠ tx P) := fun e he hne h2 => hne (tx_inj (h.vd e he) hP h2)
  have hnb := h.nb
  obtain ⟨a, c, hrow⟩ := h.row
  obtain ⟨n, hn⟩ : ∃ n, L.length = n := ⟨_, rfl⟩
  have HRR : Hid (∀ W, Below w.heap.size w W → Rd W b f d m n a c L) := fun W hb => by
    have h1 := (hb.block _ (heap_lt hrow.1)).trans hrow.1
    have h2 : W.ownsRow B 66 3 (.slice a L.length c) L.length (ensC L) := owns_keep hrow.2 fun g hg => hb.block _ (hrow.2.lt g hg).2
    have := (⟨⟨a, c, h1, h2⟩, h.vd, h.nb⟩ : Mdl W B b f d m L)
    rw [hn] at h1 h2
    refine ⟨(cell_of_heap h1).trans rfl, (cell_of_heap h1).trans rfl, (cell_of_heap h1).trans rfl, (cell_of_heap h1).trans rfl, hn, fun i e hi => ?_⟩
    have hl := (List.getElem?_eq_some_iff.1 hi).1
    rcases h2.2 with ⟨e1, e2⟩ | ⟨g, cap, cur, e1, _⟩
    · omega
    · injection e1 with e1 _ e3
      subst e1 e3
      refine ⟨g, rfl, ?_, ?_, ?_⟩
      · rw [h2.cellAt (i * 3) (by omega)]; exact ensC_get L i e hi 0 (by omega)
      · rw [h2.cellAt (i * 3 + 1) (by omega)]; exact ensC_get L i e hi 1 (by omega)
      · rw [h2.cellAt (i * 3 + 2) (by omega)]; exact ensC_get L i e hi 2 (by omega)
  have HBK : Hid (∀ W, Below w.heap.size w W → W.heap[b]? = some (.cells #[.int .i64 (f : Int), .int .i64 (d : Int), .int .i64 (m : Int), .slice a n c] 62 (0, 0))) := fun W hb => by rw [← hn]; exact (hb.block _ (heap_lt hrow.1)).trans hrow.1
  rw [hn] at hnb
  obtain ⟨i0, hi, hz0, hz1, hz2⟩ := info_parts infoE
  have HN : Hid (L.length = n) := hn
  clear h hrow hn
  obtain ⟨t, hT⟩ : ∃ t, tx P = t := ⟨_, rfl⟩
  have HTE : Hid (tx P = t) := hT
  rw [hT] at HNE ⊢
  clear hT
  go_enter Tryz.func83, Tryz.ntmps83
  go_wp2_with fail
  go_loopg [4, 5] n (fun gk lv iv wr => ∃ k : Nat, k + gk = n ∧ iv = .int .i64 (k : Int) ∧ Hid (wr.ownsRow w.heap.size 66 3 lv (wo P (L.take k)).length (ensC (wo P (L.take k)))) ∧ Hid (Below w.heap.size w wr))
  case atStart => exact ⟨0, by omega, rfl, World.ownsRow_nil _ _ _ _, Below.refl _ _⟩
  case round =>
    obtain ⟨k, hk, rfl, HO, HW⟩ := hrel
    have hr := HRR.out _ HW.out
    have c3 := hr.c3
    by_cases hlt : k < n
    · have hltI : (k : Int) < (n : Int) := by omega
      obtain ⟨e, he⟩ : ∃ e, L[k]? = some e := ⟨_, List.getElem?_eq_getElem (by have := HN.out; omega)⟩
      obtain ⟨g, rfl, y0, y1, y2⟩ := hr.at_ k e he
      have ht : L.take (k + 1) = L.take k ++ [e] := by rw [List.take_add_one, he]; rfl
      have hpl : (wo P (L.take k)).length ≤ k := Nat.le_trans (wo_len _ _) (by rw [List.length_take]; omega)
      clear hr
      by_cases hep : e.p = P
      · have HT2 : Hid (wo P (L.take (k + 1)) = wo P (L.take k)) := by show _ = _; rw [ht, wo_snoc_eq _ _ _ hep]
        rw [hep, HTE.out] at y0
        clear he hep ht
        go_wp2
        go_roundg (gk - 1)
        case measure => omega
        case rel => exact ⟨k + 1, by omega, by go_num, by rw [HT2.out]; exact HO, HW⟩
      · have HT2 : Hid (wo P (L.take (k + 1)) = wo P (L.take k) ++ [e]) := by show _ = _; rw [ht, wo_snoc_ne _ _ _ hep]
        have hne := Pa.beq_ne (HNE.out e (List.mem_of_getElem? he) hep)
        obtain ⟨M, hM⟩ : ∃ M, wo P (L.take k) = M := ⟨_, rfl⟩
        rw [hM] at HO HT2 hpl
        obtain ⟨la, lc, rfl⟩ := owns_form3 HO.out
        have hown := HO.out
        clear he hep ht hM
        go_wp2_with (at_builtin; refine wpList_append_own _ rfl _ _ 60 rfl w.heap.size 66 i0 _ 3 32 Tryz.underlying60 hi hz0 hz1 hz2 rfl (by decide) _ _ _ rfl (hown.alloc _) ⟨wr.heap.size, 0, none⟩ 1 1 (enC e) rfl rfl (cells_en wr e) (enC_one e) (by unfold maxLen; omega) (by omega) (by have := HW.out.size; simp; omega) ?_; intro v' w' hown' hgrow' _)
        go_roundg (gk - 1)
        case measure => omega
        case rel =>
          have HO2 : w'.ownsRow w.heap.size 66 3 v' (wo P (L.take (k + 1))).length (ensC (wo P (L.take (k + 1)))) := by
            rw [HT2.out, ensC_app, List.length_append]
            simpa [ensC] using hown'
          exact ⟨k + 1, by omega, by go_num, HO2, (HW.out.alloc HW.out.size _).grown hgrow' (by have := HW.out.size; simp; omega) (fun k hk => by have := hown.lt k hk; exact this.1)⟩
    · obtain rfl : k = n := by omega
      have hltI : ¬ (k : Int) < (k : Int) := by omega
      rw [List.take_of_length_le (by rw [HN.out]; exact Nat.le_refl _)] at HO
      obtain ⟨la, lc, rfl⟩ := owns_form3 HO.out
      have hbk := HBK.out _ HW.out
      have fz : wr.frozen? ⟨b, 3, none⟩ = false := frozen_of_heap hbk
      have HEND : Hid (Mdl (wr.setCell ⟨b, 3, none⟩ (.slice la (wo P L).length lc)) B b f d m (wo P L) ∧ Mfr B w (wr.setCell ⟨b, 3, none⟩ (.slice la (wo P L).length lc)) b) := ⟨mdl_set hbk (owns_base HO.out hB) rfl (fun e he => HD.out.vd e (wo_mem he)) (Nat.le_trans (wo_len _ _) HD.out.nb), (mfr_below HW.out).trans (mfr_set _ _ _ _)⟩
      clear hr hbk
      go_wp2
      go_end0
      exact ⟨rfl, HEND.out.1, HEND.out.2⟩

end Go.Proofs.YtnfddiabhpandaaGreatDoor.Tr

namespace Go.Proofs.YtnfddiabhpandaaGreatDoor.Tr
open Go.RowKit Go.Lib Go.Deep

theorem insN_here {x y : ByteArray} : ∀ {A : List ByteArray}, (∀ z ∈ A, ¬ x.data.toList < z.data.toList) → x.data.toList < y.data.toList → insN x (A ++ [y]) = A ++ [x] ++ [y]
  | [], _, h => by simp [insN, h]
  | z :: A, hA, h => by
    have h1 := hA z (by simp)
    show insN x (z :: (A ++ [y])) = _
    unfold insN
    rw [if_neg h1, insN_here (fun u hu => hA u (by simp [hu])) h]
    rfl
theorem insN_end {x : ByteArray} : ∀ {A : List ByteArray}, (∀ z ∈ A, ¬ x.data.toList < z.data.toList) → insN x A = A ++ [x]
  | [], _ => rfl
  | z :: A, hA => by
    have h1 := hA z (by simp)
    unfold insN
    rw [if_neg h1, insN_end (fun u hu => hA u (by simp [hu]))]
    rfl
theorem insN_past {x y : ByteArray} : ∀ {A : List ByteArray}, (∃ z ∈ A, x.data.toList < z.data.toList) → insN x (A ++ [y]) = insN x A ++ [y]
  | [], h => by obtain ⟨z, hz, _⟩ := h; cases hz
  | z :: A, h => by
    show insN x (z :: (A ++ [y])) = _
    unfold insN
    by_cases h1 : x.data.toList < z.data.toList
    · rw [if_pos h1, if_pos h1]; rfl
    · rw [if_neg h1, if_neg h1, insN_past]
      · rfl
      · obtain ⟨u, hu, hu2⟩ := h
        rcases List.mem_cons.1 hu with rfl | hu
        · exact absurd hu2 h1
        · exact ⟨u, hu, hu2⟩
set_option maxRecDepth 20000 in
set_option maxHeartbeats 2000000 in
theorem sortN_any (w : World) (v : Value) (S : List ByteArray) (hS : Pa.See w v S) (x : ByteArray) (hn : S.length ≤ 100000) :
    Calls Tryz.prog 130 #[v, .string x] w fun e w' => ∃ u, e = .returned u ∧ Hid (Pa.Own w' w.heap.size u (insN x S)) ∧ Below w.heap.size w w' := by
  have HA : Hid (∀ W, Below w.heap.size w W → Pa.See W v S) := fun W hb => hS.below hb
  obtain ⟨a1, k1, rfl, -⟩ := hS
  obtain ⟨n, hm⟩ : ∃ n, S.length = n := ⟨_, rfl⟩
  have HL : Hid (S.length = n) := hm
  rw [hm] at HA hn ⊢
  clear hm
  go_enter Tryz.func130, Tryz.ntmps130
  go_wp2_with fail
  go_loopg [5, 6, 7] n (fun gk ov pv iv wr => ∃ (k : Nat) (M : List ByteArray) (z : Bool), k + gk = n ∧ iv = .int .i64 (k : Int) ∧ pv = .bool z ∧ M.length ≤ k + 1 ∧ Hid (Pa.Own wr w.heap.size ov M) ∧ Hid (Below w.heap.size w wr) ∧ Hid ((z = false ∧ M = S.take k ∧ ∀ y ∈ S.take k, ¬ x.data.toList < y.data.toList) ∨ (z = true ∧ M = insN x (S.take k) ∧ ∃ y ∈ S.take k, x.data.toList < y.data.toList)))
  case atStart => exact ⟨0, [], false, by omega, rfl, rfl, by simp, Pa.Own.nil _ _, Below.refl _ _, .inl ⟨rfl, rfl, fun y hy => by simp at hy⟩⟩
  case round =>
    obtain ⟨k, M, z, hk, rfl, rfl, hMl, HO, HW, HZ⟩ := hrel
    by_cases hlt : k < n
    · have hltI : (k : Int) < (n : Int) := by omega
      obtain ⟨y, hy⟩ : ∃ y, S[k]? = some y := ⟨_, List.getElem?_eq_getElem (by have := HL.out; omega)⟩
      obtain ⟨g, off, rfl, hc⟩ := (HA.out _ HW.out).cell hy
      have ht : S.take (k + 1) = S.take k ++ [y] := by rw [List.take_add_one, hy]; rfl
      obtain ⟨ma, mc, rfl⟩ := HO.out.len
      rcases HZ.out with ⟨rfl, hM, hz⟩ | ⟨rfl, hM, hz⟩
      · by_cases hxy : x.data.toList < y.data.toList
        · have hls : Op.bytesLess x.toList y.toList = true := by rw [Go.Proofs.bytesLess_eq, toList_data, toList_data]; exact decide_eq_true hxy
          have HR : Hid (M ++ [x] ++ [y] = insN x (S.take (k + 1)) ∧ ∃ y ∈ S.take (k + 1), x.data.toList < y.data.toList) := ⟨by rw [ht, hM, insN_here hz hxy], y, by rw [ht]; simp, hxy⟩
          have HM1 : Hid (M.length ≤ k) := by show _ ≤ _; rw [hM, List.length_take]; omega
          have HY : Hid (∀ W, Below w.heap.size w W → W.cell? ⟨g, off + k, none⟩ = some (.string y)) := fun W hb => by
            obtain ⟨g', off', e, h⟩ := (HA.out _ hb).cell hy
            injection e with e
            injection e with e1 e2
            subst e1 e2
            exact h
          clear hM hz hxy HZ hy ht
          obtain ⟨ml, hml⟩ : ∃ ml, M.length = ml := ⟨_, rfl⟩
          have HML : Hid (M.length = ml) := hml
          have hmk : ml ≤ k := by have := HM1.out; omega
          rw [hml] at HO ⊢
          clear hml
          go_upto_region 8 with (at_builtin; refine Pa.wpList_app rfl _ _ rfl w.heap.size _ _ M [x] rfl (World.ownsRow.alloc HO.out _) rfl (Pa.see_new wr _ [x] 1 1 rfl rfl (Nat.le_refl _)) (by rw [HML.out]; simp; omega) (by have := HW.out.size; simp; omega) ?_; intro v3 w3 ho3 hb3)
          have hb3w : Below w.heap.size w w3 := (HW.out.alloc HW.out.size _).trans hb3
          have HW3 : Hid (Below w.heap.size w w3) := hb3w
          have hc3 := HY.out _ hb3w
          obtain ⟨a3, c3, rfl⟩ := ho3.len
          have HO3 : Hid (Pa.Own w3 w.heap.size (.slice a3 (M ++ [x]).length c3) (M ++ [x])) := ho3
          clear hb3 hb3w ho3 hc
          go_wp2_with (at_builtin; refine Pa.wpList_app rfl _ _ rfl w.heap.size _ _ (M ++ [x]) [y] rfl (World.ownsRow.alloc HO3.out _) rfl (Pa.see_new w3 _ [y] 1 1 rfl rfl (Nat.le_refl _)) (by rw [List.length_append, HML.out]; simp; omega) (by have := HW3.out.size; simp; omega) ?_; intro v4 w4 ho4 hb4)
          go_roundg (gk - 1)
          case measure => omega
          case rel => exact ⟨k + 1, M ++ [x] ++ [y], true, by omega, by go_num, rfl, by rw [List.length_append, List.length_append, HML.out]; simp; omega, ho4, (HW3.out.alloc HW3.out.size _).trans hb4, .inr ⟨rfl, HR.out.1, HR.out.2⟩⟩
        · have hls : Op.bytesLess x.toList y.toList = false := by rw [Go.Proofs.bytesLess_eq, toList_data, toList_data]; exact decide_eq_false hxy
          have HR : Hid (M ++ [y] = S.take (k + 1) ∧ ∀ y ∈ S.take (k + 1), ¬ x.data.toList < y.data.toList) := ⟨by rw [ht, hM], fun u hu => by
            rw [ht] at hu
            rcases List.mem_append.1 hu with hu | hu
            · exact hz u hu
            · rw [List.mem_singleton.1 hu]; exact hxy⟩
          have HM1 : Hid (M.length ≤ k) := by show _ ≤ _; rw [hM, List.length_take]; omega
          obtain ⟨ml, hml⟩ : ∃ ml, M.length = ml := ⟨_, rfl⟩
          have HML : Hid (M.length = ml) := hml
          have hmk : ml ≤ k := by have := HM1.out; omega
          clear hM hz hxy HZ hy ht
          rw [hml] at HO ⊢
          clear hml
          go_wp2_with (at_builtin; refine Pa.wpList_app rfl _ _ rfl w.heap.size _ _ M [y] rfl (World.ownsRow.alloc HO.out _) rfl (Pa.see_new wr _ [y] 1 1 rfl rfl (Nat.le_refl _)) (by rw [HML.out]; simp; omega) (by have := HW.out.size; simp; omega) ?_; intro v4 w4 ho4 hb4)
          go_roundg (gk - 1)
          case measure => omega
          case rel => exact ⟨k + 1, M ++ [y], false, by omega, by go_num, rfl, by rw [List.length_append, HML.out]; simp; omega, ho4, (HW.out.alloc HW.out.size _).trans hb4, .inl ⟨rfl, HR.out.1, HR.out.2⟩⟩
      · have HR : Hid (M ++ [y] = insN x (S.take (k + 1)) ∧ ∃ y ∈ S.take (k + 1), x.data.toList < y.data.toList) := ⟨by rw [ht, hM, insN_past hz], by
          obtain ⟨u, hu, hu2⟩ := hz
          exact ⟨u, by rw [ht]; exact List.mem_append_left _ hu, hu2⟩⟩
        obtain ⟨ml, hml⟩ : ∃ ml, M.length = ml := ⟨_, rfl⟩
        have HML : Hid (M.length = ml) := hml
        clear hM hz HZ hy ht
        rw [hml] at HO hMl ⊢
        clear hml
        go_wp2_with (at_builtin; refine Pa.wpList_app rfl _ _ rfl w.heap.size _ _ M [y] rfl (World.ownsRow.alloc HO.out _) rfl (Pa.see_new wr _ [y] 1 1 rfl rfl (Nat.le_refl _)) (by rw [HML.out]; simp; omega) (by have := HW.out.size; simp; omega) ?_; intro v4 w4 ho4 hb4)
        go_roundg (gk - 1)
        case measure => omega
        case rel => exact ⟨k + 1, M ++ [y], true, by omega, by go_num, rfl, by rw [List.length_append, HML.out]; simp; omega, ho4, (HW.out.alloc HW.out.size _).trans hb4, .inr ⟨rfl, HR.out.1, HR.out.2⟩⟩
    · obtain rfl : k = n := by omega
      have hltI : ¬ (k : Int) < (k : Int) := by omega
      have hS : S.take k = S := List.take_of_length_le (by rw [HL.out]; exact Nat.le_refl _)
      obtain ⟨ml, hml⟩ : ∃ ml, M.length = ml := ⟨_, rfl⟩
      have HML : Hid (M.length = ml) := hml
      obtain ⟨ma, mc, rfl⟩ := HO.out.len
      rw [hml] at HO hMl ⊢
      clear hml
      rcases HZ.out with ⟨rfl, hM, hz⟩ | ⟨rfl, hM, hz⟩
      · have HR : Hid (M ++ [x] = insN x S) := by show _ = _; rw [hS] at hM hz; rw [hM, insN_end hz]
        clear hM hz HZ hS
        go_wp2_with (at_builtin; refine Pa.wpList_app rfl _ _ rfl w.heap.size _ _ M [x] rfl (World.ownsRow.alloc HO.out _) rfl (Pa.see_new wr _ [x] 1 1 rfl rfl (Nat.le_refl _)) (by rw [HML.out]; simp; omega) (by have := HW.out.size; simp; omega) ?_; intro v4 w4 ho4 hb4)
        go_ret
        exact ⟨_, rfl, by rw [← HR.out]; exact ho4, (HW.out.alloc HW.out.size _).trans hb4⟩
      · have HR : Hid (M = insN x S) := by show _ = _; rw [hS] at hM; exact hM
        clear hM hz HZ hS
        go_wp2
        go_ret
        exact ⟨_, rfl, by rw [← HR.out]; exact HO, HW.out⟩

end Go.Proofs.YtnfddiabhpandaaGreatDoor.Tr

namespace Go.Proofs.YtnfddiabhpandaaGreatDoor.Tr
open Go.RowKit Go.Lib Go.Deep

theorem insN_len (x : ByteArray) : ∀ l, (insN x l).length = l.length + 1
  | [] => rfl
  | y :: l => by
    unfold insN
    split
    · rfl
    · rw [List.length_cons, insN_len x l, List.length_cons]
theorem nms_len (D : List ByteArray) (L : List En) : (nmsL D L).length ≤ L.length := by
  suffices h : ∀ R : List En, (nmsL D R.reverse).length ≤ R.length by
    have := h L.reverse
    rwa [List.reverse_reverse, List.length_reverse] at this
  intro R
  induction R with
  | nil => exact Nat.le_refl _
  | cons e R ih =>
    rw [List.reverse_cons, nms_snoc]
    split
    · rw [insN_len, List.length_cons]; omega
    · rw [List.length_cons]; omega
theorem direct_iff {P D : List ByteArray} : (Blw P D ∧ P.length = D.length + 1) ↔ (D = P.dropLast ∧ P ≠ []) := by
  constructor
  · rintro ⟨h1, h2⟩
    obtain ⟨R, hR, rfl⟩ := blw_iff.1 h1
    rw [List.length_append] at h2
    obtain ⟨r, rfl⟩ : ∃ r, R = [r] := List.length_eq_one_iff.1 (by omega)
    exact ⟨by simp, by simp⟩
  · rintro ⟨rfl, h⟩
    obtain ⟨L, n, rfl⟩ : ∃ L n, P = L ++ [n] := ⟨_, _, (List.dropLast_concat_getLast h).symm⟩
    refine ⟨blw_iff.2 ⟨[n], by simp, by simp⟩, by simp⟩
theorem mdl_rds {w : World} {B b f d m : Nat} {L : List En} (h : Mdl w B b f d m L) : ∃ a c, ∀ W, Below w.heap.size w W → Rd W b f d m L.length a c L := by
  obtain ⟨a, c, hrow⟩ := h.row
  refine ⟨a, c, fun W hb => ?_⟩
  have h1 := (hb.block _ (heap_lt hrow.1)).trans hrow.1
  have h2 : W.ownsRow B 66 3 (.slice a L.length c) L.length (ensC L) := owns_keep hrow.2 fun g hg => hb.block _ (hrow.2.lt g hg).2
  refine ⟨(cell_of_heap h1).trans rfl, (cell_of_heap h1).trans rfl, (cell_of_heap h1).trans rfl, (cell_of_heap h1).trans rfl, rfl, fun i e hi => ?_⟩
  have hl := (List.getElem?_eq_some_iff.1 hi).1
  rcases h2.2 with ⟨e1, e2⟩ | ⟨g, cap, cur, e1, _⟩
  · omega
  · injection e1 with e1 _ e3
    subst e1 e3
    refine ⟨g, rfl, ?_, ?_, ?_⟩
    · rw [h2.cellAt (i * 3) (by omega)]; exact ensC_get L i e hi 0 (by omega)
    · rw [h2.cellAt (i * 3 + 1) (by omega)]; exact ensC_get L i e hi 1 (by omega)
    · rw [h2.cellAt (i * 3 + 2) (by omega)]; exact ensC_get L i e hi 2 (by omega)
set_option maxRecDepth 20000 in
set_option maxHeartbeats 2000000 in
theorem names_any (w : World) (B b f d m : Nat) (L : List En) (h : Mdl w B b f d m L) (D : List ByteArray) (hD : Vd D) :
    Calls Tryz.prog 86 #[.pointer (some ⟨b, 0, none⟩), .string (tx D)] w fun e w' => ∃ u, e = .returned u ∧ Hid (Pa.Own w' w.heap.size u (nmsL D L)) ∧ Below w.heap.size w w' := by
  obtain ⟨a, c, hrd⟩ := mdl_rds h
  obtain ⟨n, hn⟩ : ∃ n, L.length = n := ⟨_, rfl⟩
  have HRR : Hid (∀ W, Below w.heap.size w W → Rd W b f d m n a c L) := by rw [← hn]; exact hrd
  have hnb := h.nb
  rw [hn] at hnb
  have HN : Hid (L.length = n) := hn
  have HBL : Hid (∀ e ∈ L, ∀ W, Calls Tryz.prog 84 #[.string (tx e.p), .string (tx D)] W fun x w' => x = .returned (.bool (blwB e.p D)) ∧ w' = W) := fun e he W => below_any W e.p D (h.vd e he) hD
  have HDP : Hid (∀ e ∈ L, ∀ W, Calls Tryz.prog 129 #[.string (tx e.p)] W fun x w' => x = .returned (.int .i64 (e.p.length : Int)) ∧ w' = W) := fun e he W => depth_any W e.p (h.vd e he)
  have HDD : Hid (∀ W, Calls Tryz.prog 129 #[.string (tx D)] W fun x w' => x = .returned (.int .i64 (D.length : Int)) ∧ w' = W) := fun W => depth_any W D hD
  obtain ⟨NN, hNN⟩ : ∃ NN, (if D = [] then 1 else (tx D).size + 1) = NN := ⟨_, rfl⟩
  have HLST : Hid (∀ e ∈ L, (D = e.p.dropLast ∧ e.p ≠ []) → NN ≤ (tx e.p).size ∧ (tx e.p).extract NN (tx e.p).size = e.p.getLastD e0) := fun e he hc => by
    have hp : e.p = D ++ [e.p.getLastD e0] := by
      obtain ⟨m, hm⟩ : ∃ m, e.p = D ++ [m] := ⟨_, by rw [hc.1]; exact (List.dropLast_concat_getLast hc.2).symm⟩
      rw [hm, last_app]
    have hv := h.vd e he
    rw [hp] at hv
    have h1 := tx_last hv hD
    rw [hNN, ← hp] at h1
    have hnn : Pa.nm (e.p.getLastD e0) = true := List.all_eq_true.1 hv.nm _ (by simp)
    have hl0 := (Pa.nm_free hnn).2.1
    have hsz : (tx e.p).data.toList.length = (tx e.p).size := (size_eq _).symm
    constructor
    · refine Classical.byContradiction fun hc2 => hl0 ?_
      rw [← h1]
      exact List.drop_eq_nil_of_le (by omega)
    · refine ky_inj ?_
      unfold ky
      rw [ByteArray.data_extract, Array.toList_extract, ← h1]
      simp only [List.extract]
      rw [List.take_of_length_le (by rw [List.length_drop]; omega)]
  obtain ⟨zD1, zD2⟩ := tx_size hD
  have HSZ : Hid (∀ e ∈ L, (tx e.p).size ≤ 529) := fun e he => (tx_size (h.vd e he)).2
  have hDl := hD.len
  have HRT : Hid (D = [] → tx D = { data := #[47] }) := fun e => (tx_nil hD).2 e
  have HRN : Hid (D ≠ [] → ((tx D).toList == [47]) = false) := fun e => root_ne hD e
  have HLP : Hid (∀ e ∈ L, e.p.length ≤ 16) := fun e he => (h.vd e he).len
  clear hrd h hn hD
  obtain ⟨tD, htD⟩ : ∃ tD, tx D = tD := ⟨_, rfl⟩
  rw [htD] at HBL HDD hNN zD1 zD2 HRT HRN ⊢
  clear htD
  obtain ⟨q, hq⟩ : ∃ q, D.length = q := ⟨_, rfl⟩
  rw [hq] at HDD hDl
  have HQ : Hid (D.length = q) := hq
  clear hq
  by_cases hd : D = []
  · have ht := HRT.out hd
    rw [if_pos hd] at hNN
    subst hNN
    subst ht
    clear hd HRN HRT
    go_enter Tryz.func86, Tryz.ntmps86
    go_wp2_with fail
    go_loopg [5, 7] n (fun gk lv iv wr => ∃ k : Nat, k + gk = n ∧ iv = .int .i64 (k : Int) ∧ Hid (Pa.Own wr w.heap.size lv (nmsL D (L.take k))) ∧ Hid (Below w.heap.size w wr))
    case atStart => exact ⟨0, by omega, rfl, Pa.Own.nil _ _, Below.refl _ _⟩
    case round =>
      obtain ⟨k, hk, rfl, HO, HW⟩ := hrel
      have hr := HRR.out _ HW.out
      have c3 := hr.c3
      by_cases hlt : k < n
      · have hltI : (k : Int) < (n : Int) := by omega
        obtain ⟨e, he⟩ : ∃ e, L[k]? = some e := ⟨_, List.getElem?_eq_getElem (by have := HN.out; omega)⟩
        have hem := List.mem_of_getElem? he
        obtain ⟨g, rfl, y0, y1, y2⟩ := hr.at_ k e he
        have ht : L.take (k + 1) = L.take k ++ [e] := by rw [List.take_add_one, he]; rfl
        have hpl : (nmsL D (L.take k)).length ≤ k := Nat.le_trans (nms_len _ _) (by rw [List.length_take]; omega)
        obtain ⟨M, hM⟩ : ∃ M, nmsL D (L.take k) = M := ⟨_, rfl⟩
        have hstep : nmsL D (L.take (k + 1)) = if D = e.p.dropLast ∧ e.p ≠ [] then insN (e.p.getLastD e0) M else M := by rw [ht, nms_snoc, hM]
        rw [hM] at HO hpl
        obtain ⟨ma, mc, rfl⟩ := HO.out.len
        have hsrt := sortN_any wr _ M HO.out.see (e.p.getLastD e0) (by omega)
        have hbl := HBL.out e hem wr
        have hdp := HDP.out e hem wr
        have hdd := HDD.out wr
        have hlp := HLP.out e hem
        have hsz := HSZ.out e hem
        have hlst := HLST.out e hem
        clear hr hM ht y1 y2
        by_cases hb : Blw e.p D
        · rw [blwB_true hb] at hbl
          by_cases hl : e.p.length = D.length + 1
          · have hdir := direct_iff.1 ⟨hb, hl⟩
            rw [if_pos hdir] at hstep
            obtain ⟨l1, l2⟩ := hlst hdir
            have HST : Hid _ := hstep
            rw [hl, HQ.out] at hdp
            have hdp : Calls Tryz.prog 129 #[.string (tx e.p)] wr fun x w' => x = .returned (.int .i64 ((q : Int) + 1)) ∧ w' = wr := hdp
            have hwq : IntKind.i64.wrap ((q : Int) + 1) = (q : Int) + 1 := by rw [IntKind.wrap_i64]; omega
            have hsl : ∀ W, (Instr.slice 9 (.string (tx e.p)) (some (.int .i64 (1 : Int))) none none).run Tryz.prog W = .ok (.string ((tx e.p).extract 1 (tx e.p).size)) W := fun W => by
              have hj : 0 ≤ (1 : Int) ∧ (1 : Int) ≤ ((tx e.p).size : Int) := ⟨by omega, by omega⟩
              simp [Instr.slice, Instr.sliceBounds, Instr.sliceBound, asIntOf, run_underlying Tryz.underlying9, hj]
            rw [l2] at hsl
            clear hb hl hdir l1 l2 hlst he hstep hsz hem
            generalize tx e.p = y at *
            generalize e.p.getLastD e0 = nm0 at *
            obtain ⟨ml, hml⟩ : ∃ ml, M.length = ml := ⟨_, rfl⟩
            rw [hml] at HO hsrt hpl ⊢
            clear hml
            go_wp2_with fail
            refine hbl.mono ?_
            rintro x w1 ⟨rfl, rfl⟩
            go_wp2_with fail
            refine hdp.mono ?_
            rintro x w1 ⟨rfl, rfl⟩
            go_wp2_with fail
            refine hdd.mono ?_
            rintro x w1 ⟨rfl, rfl⟩
            go_wp2_with fail
            refine hsrt.mono ?_
            rintro x w2 ⟨u, rfl, HO2, hb2⟩
            have HW2 : Hid (Below w.heap.size w w2) := below_on hb2 HW.out
            have HO3 : Hid (Pa.Own w2 w.heap.size u (nmsL D (L.take (k + 1)))) := by rw [HST.out]; exact HO2.out.mono HW.out.size
            clear hb2
            go_wp2
            go_roundg (gk - 1)
            case measure => omega
            case rel => exact ⟨k + 1, by omega, by go_num, HO3, HW2⟩
          · have hdir : ¬ (D = e.p.dropLast ∧ e.p ≠ []) := fun hc => hl (direct_iff.2 hc).2
            rw [if_neg hdir] at hstep
            have HST : Hid _ := hstep
            have hwq : IntKind.i64.wrap ((q : Int) + 1) = (q : Int) + 1 := by rw [IntKind.wrap_i64]; omega
            have hne : ((e.p.length : Int) == (q : Int) + 1) = false := by
              have := HQ.out
              simp
              omega
            clear hb hl hdir hlst he hstep hsz hem hsrt
            generalize tx e.p = y at *
            generalize e.p.length = el at *
            go_wp2_with fail
            refine hbl.mono ?_
            rintro x w1 ⟨rfl, rfl⟩
            go_wp2_with fail
            refine hdp.mono ?_
            rintro x w1 ⟨rfl, rfl⟩
            go_wp2_with fail
            refine hdd.mono ?_
            rintro x w1 ⟨rfl, rfl⟩
            go_wp2
            go_roundg (gk - 1)
            case measure => omega
            case rel => exact ⟨k + 1, by omega, by go_num, by rw [HST.out]; exact HO, HW⟩
        · have hdir : ¬ (D = e.p.dropLast ∧ e.p ≠ []) := fun hc => hb (direct_iff.2 hc).1
          rw [if_neg hdir] at hstep
          have HST : Hid _ := hstep
          rw [blwB_false hb] at hbl
          clear hb hdir hlst he hstep hsz hem hsrt
          generalize tx e.p = y at *
          go_wp2_with fail
          refine hbl.mono ?_
          rintro x w1 ⟨rfl, rfl⟩
          go_wp2
          go_roundg (gk - 1)
          case measure => omega
          case rel => exact ⟨k + 1, by omega, by go_num, by rw [HST.out]; exact HO, HW⟩
      · obtain rfl : k = n := by omega
        have hltI : ¬ (k : Int) < (k : Int) := by omega
        rw [List.take_of_length_le (by rw [HN.out]; exact Nat.le_refl _)] at HO
        obtain ⟨ma, mc, rfl⟩ := HO.out.len
        clear hr
        go_wp2
        go_ret
        exact ⟨_, rfl, HO, HW.out⟩
  · have ht := HRN.out hd
    rw [if_neg hd] at hNN
    have hNI : (tD.size : Int) + 1 = (NN : Int) := by omega
    have hwN : IntKind.i64.wrap (NN : Int) = (NN : Int) := by rw [IntKind.wrap_i64]; omega
    have HNN : Hid (tD.size + 1 = NN) := hNN
    clear hd HRN HRT hNN
    go_enter Tryz.func86, Tryz.ntmps86
    go_wp2_with fail
    go_loopg [5, 7] n (fun gk lv iv wr => ∃ k : Nat, k + gk = n ∧ iv = .int .i64 (k : Int) ∧ Hid (Pa.Own wr w.heap.size lv (nmsL D (L.take k))) ∧ Hid (Below w.heap.size w wr))
    case atStart => exact ⟨0, by omega, rfl, Pa.Own.nil _ _, Below.refl _ _⟩
    case round =>
      obtain ⟨k, hk, rfl, HO, HW⟩ := hrel
      have hr := HRR.out _ HW.out
      have c3 := hr.c3
      by_cases hlt : k < n
      · have hltI : (k : Int) < (n : Int) := by omega
        obtain ⟨e, he⟩ : ∃ e, L[k]? = some e := ⟨_, List.getElem?_eq_getElem (by have := HN.out; omega)⟩
        have hem := List.mem_of_getElem? he
        obtain ⟨g, rfl, y0, y1, y2⟩ := hr.at_ k e he
        have ht : L.take (k + 1) = L.take k ++ [e] := by rw [List.take_add_one, he]; rfl
        have hpl : (nmsL D (L.take k)).length ≤ k := Nat.le_trans (nms_len _ _) (by rw [List.length_take]; omega)
        obtain ⟨M, hM⟩ : ∃ M, nmsL D (L.take k) = M := ⟨_, rfl⟩
        have hstep : nmsL D (L.take (k + 1)) = if D = e.p.dropLast ∧ e.p ≠ [] then insN (e.p.getLastD e0) M else M := by rw [ht, nms_snoc, hM]
        rw [hM] at HO hpl
        obtain ⟨ma, mc, rfl⟩ := HO.out.len
        have hsrt := sortN_any wr _ M HO.out.see (e.p.getLastD e0) (by omega)
        have hbl := HBL.out e hem wr
        have hdp := HDP.out e hem wr
        have hdd := HDD.out wr
        have hlp := HLP.out e hem
        have hsz := HSZ.out e hem
        have hlst := HLST.out e hem
        clear hr hM ht y1 y2
        by_cases hb : Blw e.p D
        · rw [blwB_true hb] at hbl
          by_cases hl : e.p.length = D.length + 1
          · have hdir := direct_iff.1 ⟨hb, hl⟩
            rw [if_pos hdir] at hstep
            obtain ⟨l1, l2⟩ := hlst hdir
            have HST : Hid _ := hstep
            rw [hl, HQ.out] at hdp
            have hdp : Calls Tryz.prog 129 #[.string (tx e.p)] wr fun x w' => x = .returned (.int .i64 ((q : Int) + 1)) ∧ w' = wr := hdp
            have hwq : IntKind.i64.wrap ((q : Int) + 1) = (q : Int) + 1 := by rw [IntKind.wrap_i64]; omega
            have hsl : ∀ W, (Instr.slice 9 (.string (tx e.p)) (some (.int .i64 (NN : Int))) none none).run Tryz.prog W = .ok (.string ((tx e.p).extract NN (tx e.p).size)) W := fun W => by
              have hj : 0 ≤ (NN : Int) ∧ (NN : Int) ≤ ((tx e.p).size : Int) := ⟨by omega, by omega⟩
              simp [Instr.slice, Instr.sliceBounds, Instr.sliceBound, asIntOf, run_underlying Tryz.underlying9, hj]
              omega
            rw [l2] at hsl
            clear hb hl hdir l1 l2 hlst he hstep hsz hem
            generalize tx e.p = y at *
            generalize e.p.getLastD e0 = nm0 at *
            obtain ⟨ml, hml⟩ : ∃ ml, M.length = ml := ⟨_, rfl⟩
            rw [hml] at HO hsrt hpl ⊢
            clear hml
            go_wp2_with fail
            refine hbl.mono ?_
            rintro x w1 ⟨rfl, rfl⟩
            go_wp2_with fail
            refine hdp.mono ?_
            rintro x w1 ⟨rfl, rfl⟩
            go_wp2_with fail
            refine hdd.mono ?_
            rintro x w1 ⟨rfl, rfl⟩
            go_wp2_with fail
            refine hsrt.mono ?_
            rintro x w2 ⟨u, rfl, HO2, hb2⟩
            have HW2 : Hid (Below w.heap.size w w2) := below_on hb2 HW.out
            have HO3 : Hid (Pa.Own w2 w.heap.size u (nmsL D (L.take (k + 1)))) := by rw [HST.out]; exact HO2.out.mono HW.out.size
            clear hb2
            go_wp2
            go_roundg (gk - 1)
            case measure => omega
            case rel => exact ⟨k + 1, by omega, by go_num, HO3, HW2⟩
          · have hdir : ¬ (D = e.p.dropLast ∧ e.p ≠ []) := fun hc => hl (direct_iff.2 hc).2
            rw [if_neg hdir] at hstep
            have HST : Hid _ := hstep
            have hwq : IntKind.i64.wrap ((q : Int) + 1) = (q : Int) + 1 := by rw [IntKind.wrap_i64]; omega
            have hne : ((e.p.length : Int) == (q : Int) + 1) = false := by
              have := HQ.out
              simp
              omega
            clear hb hl hdir hlst he hstep hsz hem hsrt
            generalize tx e.p = y at *
            generalize e.p.length = el at *
            go_wp2_with fail
            refine hbl.mono ?_
            rintro x w1 ⟨rfl, rfl⟩
            go_wp2_with fail
            refine hdp.mono ?_
            rintro x w1 ⟨rfl, rfl⟩
            go_wp2_with fail
            refine hdd.mono ?_
            rintro x w1 ⟨rfl, rfl⟩
            go_wp2
            go_roundg (gk - 1)
            case measure => omega
            case rel => exact ⟨k + 1, by omega, by go_num, by rw [HST.out]; exact HO, HW⟩
        · have hdir : ¬ (D = e.p.dropLast ∧ e.p ≠ []) := fun hc => hb (direct_iff.2 hc).1
          rw [if_neg hdir] at hstep
          have HST : Hid _ := hstep
          rw [blwB_false hb] at hbl
          clear hb hdir hlst he hstep hsz hem hsrt
          generalize tx e.p = y at *
          go_wp2_with fail
          refine hbl.mono ?_
          rintro x w1 ⟨rfl, rfl⟩
          go_wp2
          go_roundg (gk - 1)
          case measure => omega
          case rel => exact ⟨k + 1, by omega, by go_num, by rw [HST.out]; exact HO, HW⟩
      · obtain rfl : k = n := by omega
        have hltI : ¬ (k : Int) < (k : Int) := by omega
        rw [List.take_of_length_le (by rw [HN.out]; exact Nat.le_refl _)] at HO
        obtain ⟨ma, mc, rfl⟩ := HO.out.len
        clear hr
        go_wp2
        go_ret
        exact ⟨_, rfl, HO, HW.out⟩

end Go.Proofs.YtnfddiabhpandaaGreatDoor.Tr
