import Derived.Test.YtpjigcccjiidpaaExDc
namespace Go.Proofs.Ytpjigcccjiidpaa.Ex
open Go.RowKit Go.Lib Go.Deep

theorem owns_set {w : World} {B e n sz : Nat} {g c j : Nat} {xs : List Value} (v' : Value) (h : w.ownsRow B e sz (.slice (some ⟨g, 0, none⟩) n c) n xs) : (w.setCell ⟨g, j, none⟩ v').ownsRow B e sz (.slice (some ⟨g, 0, none⟩) n c) n (xs.set j v') := by
  refine ⟨by rw [List.length_set]; exact h.1, ?_⟩
  rcases h.2 with ⟨h1, h2⟩ | ⟨g1, cap, cur, h1, h2, h3, h4, h5, h6, h7⟩
  · cases h1
  · injection h1 with e1 _ e2
    injection e1 with e1
    injection e1 with e1 _ _
    subst e1 e2
    refine .inr ⟨_, _, cur.setIfInBounds j v', rfl, h2, heap_setCell_same _ _ j _ _ v' h3, h4, by simpa using h5, by simpa using h6, ?_⟩
    rw [← h7, Array.toList_setIfInBounds, List.take_set]
theorem owns_cell {w : World} {B e n sz : Nat} {g c j : Nat} {xs : List Value} {u : Value} (h : w.ownsRow B e sz (.slice (some ⟨g, 0, none⟩) n c) n xs) (hj : xs[j]? = some u) : w.cell? ⟨g, j, none⟩ = some u ∧ w.frozen? ⟨g, j, none⟩ = false := by
  rcases h.2 with ⟨h1, h2⟩ | ⟨g1, cap, cur, h1, h2, h3, h4, h5, h6, h7⟩
  · cases h1
  · injection h1 with e1 _ e2
    injection e1 with e1
    injection e1 with e1 _ _
    subst e1 e2
    refine ⟨?_, frozen_of_heap h3⟩
    rw [cell_of_heap h3]
    rw [← h7, List.getElem?_take] at hj
    split at hj
    · rw [Array.getElem?_toList] at hj; exact hj
    · cases hj
theorem info9 : (Try.prog.info? 9).map (fun i => (i.zero, i.size, i.bytes)) = some (some (.string { data := #[] }), 1, 16) := by kernel_rfl
theorem make_strs (n : Nat) (hn : n ≤ 1099511627776) (w : World) : (Instr.makeSlice 28 (.int .i64 (n : Int)) (.int .i64 (n : Int))).run Try.prog w = .ok (.slice (some ⟨w.heap.size, 0, none⟩) n n) (w.alloc (.cells (madeCells #[.string { data := #[] }] n) 9)) := by
  obtain ⟨i0, hi, hz0, hz1, hz2⟩ := info_parts info9
  have h := run_make (P := Try.prog) w 28 9 i0 (.string { data := #[] }) Try.underlying28 hi hz0 .i64 .i64 n n (by omega) (by omega) (by rw [hz2]; omega) (by omega)
  simpa [hz1, Value.cells] using h
theorem made_strs (n : Nat) (hn : n ≤ 1099511627776) (w : World) : World.ownsRow (w.alloc (.cells (madeCells #[.string { data := #[] }] n) 9)) w.heap.size 9 1 (.slice (some ⟨w.heap.size, 0, none⟩) n n) n (scC (List.replicate n { data := #[] })) := by
  have e : (madeCells #[.string { data := #[] }] n).toList = scC (List.replicate n { data := #[] }) := by
    apply List.ext_getElem
    · rw [Array.length_toList, size_madeCells]
      simp [scC]
    · intro i h1 h2
      simp [madeCells, scC, Nat.mod_one]
  refine ⟨by simp [scC], .inr ⟨w.heap.size, n, _, rfl, Nat.le_refl _, heap_new w _, Nat.le_refl _, by unfold maxLen; omega, ?_, ?_⟩⟩
  · rw [← Array.length_toList, e]
    simp [scC]
  · rw [e]
    exact List.take_of_length_le (by simp [scC])
theorem scC_set (l : List ByteArray) (i : Nat) (x : ByteArray) : (scC l).set i (.string x) = scC (l.set i x) := by unfold scC; rw [List.map_set]
theorem cell_same_heap {w w' : World} {b j : Nat} (h : w'.heap[b]? = w.heap[b]?) : w'.cell? ⟨b, j, none⟩ = w.cell? ⟨b, j, none⟩ := by simp [World.cell?, h]
/-- contents that are filled out of the files -/
structure Io (w : World) (m n nn : Nat) (F : Nat → Prop) (L : Fl) (D : List (List UInt8)) (V : World) : Prop where
  tr : Trn F w V
  lv : Liv V m nn F L
  row : V.ownsRow w.heap.size 9 1 (.slice (some ⟨w.heap.size, 0, none⟩) n n) n (scC (D.map str))
  dl : D.length = n
theorem Io.lt {w V : World} {m n nn : Nat} {F : Nat → Prop} {L : Fl} {D : List (List UInt8)} (h : Io w m n nn F L D V) : w.heap.size < V.heap.size := (h.row.lt w.heap.size rfl).2
theorem Io.below {w V V' : World} {m n nn : Nat} {F : Nat → Prop} {L : Fl} {D : List (List UInt8)} (h : Io w m n nn F L D V) (hb : Below V.heap.size V V') : Io w m n nn F L D V' :=
  ⟨h.tr.trans (Trn.of_below hb (F := F)) (fun _ _ x => x), h.lv.below hb, owns_below h.row hb, h.dl⟩
/-- what intoSlots answers -/
def IoP (F : Nat → Prop) (w : World) (n : Nat) (Z : Option (List (List UInt8))) (e : Ending) (w' : World) : Prop :=
  Trn F w w' ∧ ∃ a l c, e = .returned (.tuple #[.slice a l c, .bool Z.isSome]) ∧ ∀ D, Z = some D → w'.ownsRow w.heap.size 9 1 (.slice a l c) n (scC (D.map str)) ∧ l = n
set_option maxRecDepth 20000 in
set_option maxHeartbeats 2000000 in
theorem intoSlots_any (sl : List Sl) (w : World) (m nn : Nat) (F : Nat → Prop) (L0 : Fl) (h : Liv w m nn F L0) (hnn : nn < maxLen) (a1 : Option Addr) (n c1 : Nat) (hS : See w 4 (.slice a1 n c1) n (slsC sl)) (hSF : ∀ b off, a1 = some ⟨b, off, none⟩ → 0 < n → ¬ F b) (hn : sl.length = n) (hbd : n ≤ 1099511627776) (hwf : ∀ s ∈ sl, wf s.fi) :
    Calls Try.prog 18 #[.map (some m), .slice a1 n c1] w fun e w' => IoP F w n (cls L0 sl) e w' := by
  have hmk := make_strs n hbd w
  have hrow := made_strs n hbd w
  obtain ⟨W, hW⟩ : ∃ W, w.alloc (.cells (madeCells #[.string { data := #[] }] n) 9) = W := ⟨_, rfl⟩
  rw [hW] at hmk hrow
  have hbW : Below w.heap.size w W := by rw [← hW]; exact (Below.refl _ _).alloc (Nat.le_refl _) _
  have I0 : Io w m n nn F L0 (List.replicate n []) W := by
    refine ⟨Trn.of_below hbW, h.below hbW, ?_, by simp⟩
    rw [List.map_replicate]
    exact hrow
  have HI0 : Hid _ := I0
  have hF := h.lt
  obtain ⟨Z, hZ⟩ : ∃ Z, cls L0 sl = Z := ⟨_, rfl⟩
  rw [hZ]
  have HZ : Hid ((cls L0 (sl.drop 0)).map (fun r => (List.replicate n ([] : List UInt8)).take 0 ++ r) = Z) := by
    have : (cls L0 (sl.drop 0)).map (fun r => (List.replicate n ([] : List UInt8)).take 0 ++ r) = cls L0 sl := by simp
    exact this.trans hZ
  have hSk : ∀ V, Trn F w V → ∀ i s, sl[i]? = some s → ∃ b off, a1 = some ⟨b, off, none⟩ ∧ b < w.heap.size ∧ ∀ j u, (slC s)[j]? = some u → V.cell? ⟨b, off + i * 4 + j, none⟩ = some u := fun V hV i s hs => by
    obtain ⟨b, off, e1, hbl, hcc⟩ := hS.row slC_len (by decide) hs
    refine ⟨b, off, e1, hbl, fun j u hu => ?_⟩
    have hk := hV.block b hbl (hSF b off e1 (by have := some_lt hs; omega))
    have := hcc j u hu
    rw [← this]
    exact cell_same_heap hk
  have HR : Hid (∀ (wr : World) (i : Nat) (L : Fl) (D : List (List UInt8)), Io w m n nn F L D wr → i < n → (∀ j, i ≤ j → j < n → D[j]? = some []) → (cls L (sl.drop i)).map (fun r => D.take i ++ r) = Z →
      ∃ ob wa fi bu b off, a1 = some ⟨b, off, none⟩ ∧ wr.cell? ⟨b, off + i * 4, none⟩ = some (.int .i64 ob) ∧ wr.cell? ⟨b, off + i * 4 + 1, none⟩ = some (.int .i64 wa) ∧ wr.cell? ⟨b, off + i * 4 + 2, none⟩ = some (.int .i64 fi) ∧ wr.cell? ⟨b, off + i * 4 + 3, none⟩ = some (.int .i64 bu) ∧
      ∃ U, wr.alloc (.cells #[.int .i64 ob, .int .i64 wa, .int .i64 fi, .int .i64 bu] 35) = U ∧ U.cell? ⟨wr.heap.size, 2, none⟩ = some (.int .i64 fi) ∧ Hid (Io w m n nn F L D U) ∧
      ((fi = -1 ∧ (∀ j, i + 1 ≤ j → j < n → D[j]? = some []) ∧ (cls L (sl.drop (i + 1))).map (fun r => D.take (i + 1) ++ r) = Z) ∨ (fi ≠ -1 ∧ ∃ X, U.alloc (.cells #[.slice none 0 0] 72) = X ∧ X.cell? ⟨U.heap.size, 0, none⟩ = some (.slice none 0 0) ∧ X.frozen? ⟨U.heap.size, 0, none⟩ = false ∧
        ((Z = none ∧ (Instr.lookup 62 (.map (some m)) (.int .i64 fi) true).run Try.prog U = .ok (.tuple #[.agg #[.slice none 0 0], .bool false]) U ∧ Hid (Trn F w (X.setCell ⟨U.heap.size, 0, none⟩ (.slice none 0 0)))) ∨
         ∃ c g cp, (Instr.lookup 62 (.map (some m)) (.int .i64 fi) true).run Try.prog U = .ok (.tuple #[.agg #[.slice (some ⟨g, 0, none⟩) (c : List UInt8).length cp], .bool true]) U ∧
           Calls Try.prog 23 #[.agg #[.slice (some ⟨g, 0, none⟩) c.length cp]] (X.setCell ⟨U.heap.size, 0, none⟩ (.slice (some ⟨g, 0, none⟩) c.length cp)) fun e w3 => e = .returned (.string (str c)) ∧ w3.cell? ⟨w.heap.size, i, none⟩ = some (.string { data := #[] }) ∧ w3.frozen? ⟨w.heap.size, i, none⟩ = false ∧
             ∃ Y, w3.setCell ⟨w.heap.size, i, none⟩ (.string (str c)) = Y ∧ Y.cell? ⟨wr.heap.size, 2, none⟩ = some (.int .i64 fi) ∧ ∃ w6, (Builtin.delete_ #[62, 3] 0 #[.map (some m), .int .i64 fi]).run Try.prog Y = .ok (.tuple #[]) w6 ∧
               Hid (∃ L' D', Io w m n nn F L' D' w6 ∧ (∀ j, i + 1 ≤ j → j < n → D'[j]? = some []) ∧ (cls L' (sl.drop (i + 1))).map (fun r => D'.take (i + 1) ++ r) = Z))))) := fun wr i L D hI hi hD hp => by
    obtain ⟨s, hs⟩ : ∃ s, sl[i]? = some s := ⟨_, List.getElem?_eq_getElem (by omega)⟩
    have hsw := hwf s (List.mem_of_getElem? hs)
    obtain ⟨b, off, e1, hbl, hcc⟩ := hSk wr hI.tr i s hs
    rw [drop_at hs, cls] at hp
    obtain ⟨ob, wa, fi, bu⟩ := s
    dsimp only at hp hsw
    obtain ⟨U, hU, hbU, kU⟩ := one_new wr #[.int .i64 ob, .int .i64 wa, .int .i64 fi, .int .i64 bu] 35
    have hIU := hI.below hbU
    have hdi : D[i]? = some [] := hD i (Nat.le_refl _) hi
    have htk : D.take (i + 1) = D.take i ++ [[]] := by rw [List.take_add_one, hdi]; rfl
    refine ⟨ob, wa, fi, bu, b, off, e1, hcc 0 _ rfl, hcc 1 _ rfl, hcc 2 _ rfl, hcc 3 _ rfl, U, hU, (cells4 kU).2.2.1, hIU, ?_⟩
    by_cases h1 : fi = -1
    · rw [if_pos h1] at hp
      refine .inl ⟨h1, fun j hj hj2 => hD j (by omega) hj2, ?_⟩
      rw [← hp, htk, Option.map_map]
      congr 1
      funext r
      simp
    · rw [if_neg h1] at hp
      obtain ⟨X, hX, hbX, kX⟩ := one_new U #[.slice none 0 0] 72
      refine .inr ⟨h1, X, hX, (cell_of_heap kX).trans rfl, frozen_of_heap kX, ?_⟩
      have hXs : ∀ u, Below U.heap.size U (X.setCell ⟨U.heap.size, 0, none⟩ u) := fun u => hbX.setCell (Nat.le_refl _) _
      cases hf : fnd L fi with
      | none =>
        rw [hf] at hp
        refine .inl ⟨hp.symm, hIU.lv.none_ hsw hf U rfl, (hIU.below (hXs _)).tr⟩
      | some c =>
        rw [hf] at hp
        obtain ⟨g, cp, hFg, hB, hq, -⟩ := hIU.lv.some_ hnn hsw hf
        refine .inr ⟨c, g, cp, (hq U rfl).1, ?_⟩
        have hbS := hXs (.slice (some ⟨g, 0, none⟩) c.length cp)
        refine (ctext_any g cp c _ (hB.keep (hbS.block _ hB.lt))).mono ?_
        rintro e w3 ⟨rfl, hb3⟩
        have hb3' := hbS.trans (hb3.mono hbS.size)
        have hI3 := hIU.below hb3'
        have hrc := owns_cell hI3.row (j := i) (u := .string (str [])) (by unfold scC; rw [List.map_map, List.getElem?_map, hdi]; rfl)
        refine ⟨rfl, hrc.1, hrc.2, _, rfl, ?_, ?_⟩
        · have k3 : w3.heap[wr.heap.size]? = some (.cells #[.int .i64 ob, .int .i64 wa, .int .i64 fi, .int .i64 bu] 35 (0, 0)) := (hb3'.block _ (heap_lt kU)).trans kU
          have hne : wr.heap.size ≠ w.heap.size := by have := hI.lt; omega
          exact (cells4 ((heap_setCell_other _ _ _ _ hne).trans k3)).2.2.1
        · have hno : ¬ F w.heap.size := fun x => by have := hF _ x; omega
          have hlY : Liv (w3.setCell ⟨w.heap.size, i, none⟩ (.string (str c))) m nn F L := hI3.lv.keep (by simp) (fun k hk => heap_setCell_other _ _ _ _ (fun e => hno (by subst e; exact hk)))
          obtain ⟨w6, hrun, ht, hl6, hsz⟩ := hlY.del hsw 0
          refine ⟨w6, hrun, wo L fi, D.set i c, ⟨?_, hl6, ?_, by rw [List.length_set]; exact hI.dl⟩, fun j hj hj2 => ?_, ?_⟩
          · refine Trn.trans (F' := F) (b := w3.setCell ⟨w.heap.size, i, none⟩ (.string (str c))) ⟨hI3.tr.os, hI3.tr.tape, hI3.tr.output, by simpa using hI3.tr.size, fun k hk hk2 => (heap_setCell_other _ _ _ _ (by show k ≠ w.heap.size; omega)).trans (hI3.tr.block k hk hk2)⟩ ht (fun _ _ x => x)
          · have ho := owns_set (j := i) (.string (str c)) hI3.row
            rw [scC_set, ← List.map_set] at ho
            refine owns_keep ho fun g' hg' => ?_
            have hlt := (ho.lt g' hg').2
            have : g' = w.heap.size := by simp [Value.ownBlock] at hg'; exact hg'.symm
            subst this
            exact ht.block _ hlt hno
          · rw [List.getElem?_set_ne (by omega)]
            exact hD j (by omega) hj2
          · rw [← hp]
            have e2 : (D.set i c).take (i + 1) = D.take i ++ [c] := by
              have hil : i < D.length := some_lt hdi
              rw [List.take_add_one, List.getElem?_set_self hil, List.take_set_of_le (Nat.le_refl _)]
              rfl
            rw [e2, Option.bind_some, Option.map_map]
            congr 1
            funext r
            simp
  clear hS hSF hwf hrow I0 hSk hF hZ h hbW
  go_enter Try.func18, Try.ntmps18
  go_wp2_with fail
  go_loopg [16] n (fun gk iv wr => ∃ (i : Nat) (L : Fl) (D : List (List UInt8)), i + gk = n ∧ iv = .int .i64 (i : Int) ∧ Hid (Io w m n nn F L D wr) ∧ Hid ((∀ j, i ≤ j → j < n → D[j]? = some []) ∧ (cls L (sl.drop i)).map (fun r => D.take i ++ r) = Z))
  case atStart => exact ⟨0, L0, _, by omega, rfl, HI0.out, fun j _ hj => by rw [List.getElem?_replicate, if_pos hj], HZ.out⟩
  case round =>
    obtain ⟨i, L, D, hik, rfl, hI, hp⟩ := hrel
    by_cases hlt : i < n
    · have hltI : (i : Int) < (n : Int) := by omega
      have w1' : IntKind.i64.wrap ((i : Int) + 1) = ((i + 1 : Nat) : Int) := by rw [IntKind.wrap_i64]; omega
      obtain ⟨ob, wa, fi, bu, b, off, rfl, r0, r1, r2, r3, U, hU, u2, HIU, hcase⟩ := HR.out wr i L D hI.out hlt hp.out.1 hp.out.2
      clear HR hI hp HI0 HZ
      rcases hcase with ⟨h1, hD, hp⟩ | ⟨h1, X, hX, x0, xf, ⟨hZn, hr, HT⟩ | ⟨c, g, cp, hr, htx⟩⟩
      · subst h1
        have HP : Hid _ := hp
        have HD : Hid _ := hD
        clear hp hD
        go_wp2
        go_roundg (n - (i + 1))
        case measure => omega
        case rel => exact ⟨i + 1, L, D, by omega, rfl, HIU.out, HD.out, HP.out⟩
      · subst hZn
        have e0 : (fi == -1) = false := by simp [h1]
        clear h1
        go_wp2
        go_ret2
        exact ⟨HT.out, _, _, _, rfl, fun D h => by cases h⟩
      · have e0 : (fi == -1) = false := by simp [h1]
        clear h1
        generalize hC : str c = C at *
        generalize c.length = cl at *
        go_wp2_with (go_at_call 23; refine htx.mono ?_; rintro e w3 ⟨rfl, v1, v2, Y, hY, y2, w6, hrun, HE⟩)
        go_roundg (n - (i + 1))
        case measure => omega
        case rel =>
          obtain ⟨L', D', hI', hD', hp'⟩ := HE.out
          exact ⟨i + 1, L', D', by omega, rfl, hI', hD', hp'⟩
    · obtain rfl : i = n := by omega
      have hltI : ¬ (i : Int) < (i : Int) := by omega
      have hlen := hI.out.lv.len 3
      have hp' := hp.out.2
      rw [List.drop_of_length_le (by omega), cls, List.take_of_length_le (by have := hI.out.dl; omega)] at hp'
      have hI' := hI.out
      clear hp HR HI0 HZ
      by_cases h0 : L.length = 0
      · rw [if_pos h0] at hp'
        rw [h0] at hlen
        have HP : Hid _ := hp'
        clear hp' hI' h0
        go_wp2
        go_ret2
        have e : Z = some D := by rw [← HP.out]; simp
        refine ⟨hI.out.tr, _, _, _, by rw [e]; rfl, fun D' hD' => ?_⟩
        rw [e] at hD'
        obtain rfl := Option.some.inj hD'
        exact ⟨hI.out.row, rfl⟩
      · rw [if_neg h0] at hp'
        have h0' : ((L.length : Int) == 0) = false := by simp; exact fun e => h0 (by simp [e])
        have HP : Hid _ := hp'
        clear hp' hI'
        go_wp2
        go_ret2
        have e : Z = none := by rw [← HP.out]; rfl
        exact ⟨hI.out.tr, _, _, _, by rw [e]; rfl, fun D' hD' => by rw [e] at hD'; cases hD'⟩
end Go.Proofs.Ytpjigcccjiidpaa.Ex
