import Derived.Test.YtdgokfehgjkalaaWdE
namespace Go.Proofs.Ytdgokfehgjkalaa.Wd
open Go.RowKit Go.Lib Go.Deep

theorem info9 : (Try.prog.info? 9).map (fun i => (i.zero, i.size, i.bytes)) = some (some (.string { data := #[] }), 1, 16) := by kernel_rfl
theorem apply_drop (w : World) (q cb : Nat) (F : List Nat) (S : Wst) (nm bl : ByteArray) (la : Option Addr) (hn : nm.size ≤ maxLen) (hs : St w q F S) (hla : w.cell? ⟨q, 1, none⟩ = some (.pointer la)) (hcb : w.heap[cb]? = some (.cells #[.string nm, .string bl, .bool true, .pointer la] 111 (0, 0))) :
    Calls Try.prog 64 #[.pointer (some ⟨q, 0, none⟩), .pointer (some ⟨cb, 0, none⟩)] w fun e w' => e = .returned (.tuple #[]) ∧ Turn F w w' q (dropS S nm) := by
  obtain ⟨m, pl, la', tv, av, uv, D, al, nv, hF, hI⟩ := id hs
  obtain ⟨c0, c1, -, -, -, -, -, -, -, -, -, -⟩ := hI.cells
  obtain rfl : la' = la := by
    rw [c1] at hla
    injection hla with hla
    injection hla
  have k0 : w.cell? ⟨cb, 0, none⟩ = some (.string nm) := (cell_of_heap hcb).trans rfl
  have k1 : w.cell? ⟨cb, 1, none⟩ = some (.string bl) := (cell_of_heap hcb).trans rfl
  have k2 : w.cell? ⟨cb, 2, none⟩ = some (.bool true) := (cell_of_heap hcb).trans rfl
  have c0' : w.drew.cell? ⟨q, 0, none⟩ = some (.map (some m)) := c0
  have k0' : w.drew.cell? ⟨cb, 0, none⟩ = some (.string nm) := k0
  have hqm : q ≠ m := fun e => by
    obtain ⟨es, cl, hk⟩ := map_block hI.hm
    rw [← e, hI.hq] at hk
    cases hk
  have hqc : cb ≠ q := fun e => by
    rw [e, hI.hq] at hcb
    injection hcb with hcb
    injection hcb with _ hcb _
    cases hcb
  have hmc : cb ≠ m := fun e => by
    obtain ⟨es, cl, hk⟩ := map_block hI.hm
    rw [← e, hcb] at hk
    cases hk
  have gen : ∀ W : World, W.heap = w.heap → W.os = w.os → W.tape = w.tape → W.output = w.output → ∀ ty, ∃ w6, (Builtin.delete_ #[66, 9] ty #[.map (some m), .string nm]).run Try.prog W = .ok (.tuple #[]) w6 ∧ w6.cell? ⟨q, 1, none⟩ = some (.pointer la') ∧ w6.frozen? ⟨q, 1, none⟩ = false ∧ Turn F w (w6.setCell ⟨q, 1, none⟩ (.pointer (some ⟨cb, 0, none⟩))) q (dropS S nm) := fun W eh e1 e2 e3 ty => by
    have hmW : W.ownsMap Try.prog 9 blobR m S.nn D := by
      obtain ⟨es, clock, h1, h2⟩ := hI.hm
      exact ⟨es, clock, by rw [eh]; exact h1, h2⟩
    obtain ⟨w6, hX1, hX2, hX3'⟩ := hmW.drop (t := 66) keyLaw Try.underlying66 (WideMaps.keyOf_string_mk Try.underlying9 hn) ty
    have hX3 := hX3'.grown
    have hq6 : w6.heap[q]? = some (.cells (stA m la' S tv av uv pl) 76 (0, 0)) := (hX3.block q (by rw [eh]; exact heap_lt hI.hq) (by simpa using hqm)).trans (by rw [eh]; exact hI.hq)
    refine ⟨w6, hX1, (cell_of_heap hq6).trans rfl, frozen_of_heap hq6, ?_⟩
    have ho : Only [q, m] w (w6.setCell ⟨q, 1, none⟩ (.pointer (some ⟨cb, 0, none⟩))) := by
      have h1 : Only [q, m] w w6 := ⟨hX3.os.trans e1, hX3.tape.trans e2, hX3.output.trans e3, by rw [← eh]; exact hX3.size, fun k hk hn => (hX3.block k (by rw [eh]; exact hk) (fun e => hn (by simp [Option.some.inj e]))).trans (by rw [eh])⟩
      exact h1.trans ((only_set _).mono (by intro k hk; simp at hk; simp [hk]))
    have hcb6 : (w6.setCell ⟨q, 1, none⟩ (.pointer (some ⟨cb, 0, none⟩))).heap[cb]? = some (.cells #[.string nm, .string bl, .bool true, .pointer la'] 111 (0, 0)) := (ho.block cb (heap_lt hcb) (by simp [hqc, hmc])).trans hcb
    subst hF
    refine ⟨ho.mono (by intro k hk; simp at hk; rcases hk with rfl | rfl <;> exact mem_fp.2 (by simp)), _, ⟨m, pl, some ⟨cb, 0, none⟩, tv, av, uv, _, al, nv, rfl, hI.turn2 ?_ ho (map_keep hX2 (heap_setCell_other _ _ _ _ (fun e => hqm e.symm))) (hI.hD.del nm) (fun hch => .drop hcb6 (hch hI.hc)) rfl rfl rfl hI.hle⟩, fun k hk => .inl hk⟩
    rw [put12 1 _ hq6]
    rfl
  have G1 : Hid _ := gen w.drew rfl rfl rfl rfl
  have G0 : Hid _ := gen w rfl rfl rfl rfl
  clear hI hs hcb hF hla hn gen
  obtain ⟨w6, hX1, d1, f1, hT⟩ := G1.out 0
  have HT : Hid _ := hT
  clear hT G0
  go_enter Try.func64, Try.ntmps64
  go_wp2_with fail
  go_region
  all_goals
    go_wp2
    go_end0
    exact ⟨rfl, HT.out⟩
theorem lay_any (w : World) (q : Nat) (F : List Nat) (S : Wst) (nm bl : ByteArray) (hn : nm.size ≤ maxLen) (hs : St w q F S) (hnn : S.nn < maxLen) :
    Calls Try.prog 44 #[.pointer (some ⟨q, 0, none⟩), .agg #[.string nm, .string bl]] w fun e w' => e = .returned (.tuple #[]) ∧ Turn F w w' q (layS S nm bl) := by
  obtain ⟨m, pl, la, tv, av, uv, D, al, nv, hF, hI⟩ := id hs
  obtain ⟨c0, c1, -, -, -, -, -, -, -, -, -, -⟩ := hI.cells
  have hb0 : Below w.heap.size w (w.alloc (.cells #[.string nm, .string bl] 56)) := (Below.refl _ _).alloc (Nat.le_refl _) _
  have e1 : (w.alloc (.cells #[.string nm, .string bl] 56)).cell? ⟨q, 1, none⟩ = some (.pointer la) := (hI.below hb0).cells.2.1
  have e1' : (w.alloc (.cells #[.string nm, .string bl] 56)).drew.cell? ⟨q, 1, none⟩ = some (.pointer la) := e1
  obtain ⟨W2, hW2⟩ : ∃ W, ((w.alloc (.cells #[.string nm, .string bl] 56)).alloc (.cells #[.string nm, .string bl, .bool false, .pointer la] 111)).drew = W := ⟨_, rfl⟩
  have hb2 : Below w.heap.size w W2 := by rw [← hW2]; exact (hb0.alloc (by simp) _).drew
  have hA := apply_lay W2 q (w.heap.size + 1) F S nm bl la hn (hs.below hb2) (hI.below hb2).cells.2.1 (by
    rw [← hW2]
    have := heap_new (w.alloc (.cells #[.string nm, .string bl] 56)) (.cells #[.string nm, .string bl, .bool false, .pointer la] 111)
    rw [show (w.alloc (.cells #[.string nm, .string bl] 56)).heap.size = w.heap.size + 1 by simp] at this
    exact this) hnn
  have HB : Hid (Below w.heap.size w W2) := hb2
  clear hI hF hs hb2 hb0 hn hnn
  go_enter Try.func44, Try.ntmps44
  go_wp2_with fail
  go_region_with (go_at_call 64; (try rw [hW2]); refine hA.mono ?_; rintro e w5 ⟨rfl, hT⟩)
  all_goals
    go_end0
    exact ⟨rfl, Turn.ahead HB.out hT⟩
theorem dropS_none {S : Wst} {n : ByteArray} (h : S.f (ky n) = none) : dropS S n = S := by
  have : delF S.f n = S.f := by
    funext k
    unfold delF
    split
    · rename_i e; rw [e, h]
    · rfl
  unfold dropS
  rw [this]
set_option maxRecDepth 10000 in
theorem drop_any (w : World) (q : Nat) (F : List Nat) (S : Wst) (nm : ByteArray) (hn : nm.size ≤ maxLen) (hs : St w q F S) :
    Calls Try.prog 60 #[.pointer (some ⟨q, 0, none⟩), .string nm] w fun e w' => e = .returned (.tuple #[]) ∧ Turn F w w' q (dropS S nm) := by
  have ho := object_any w q F S nm hn hs
  cases hf : (S.f (ky nm)).isSome with
  | false =>
    rw [hf] at ho
    rw [dropS_none (by simpa using hf)]
    generalize objN S.f nm = on at ho
    generalize objB S.f nm = ob at ho
    have HS : Hid (St w q F S) := hs
    clear hs hf
    go_enter Try.func60, Try.ntmps60
    go_wp2_with fail
    refine ho.mono ?_
    rintro e w2 ⟨rfl, hb⟩
    go_wp2
    go_end0
    exact ⟨rfl, HS.out.turn (hb.alloc hb.size _)⟩
  | true =>
    rw [hf] at ho
    obtain ⟨m, pl, la, tv, av, uv, D, al, nv, hF, hI⟩ := id hs
    have HK : Hid (∀ w2, Below w.heap.size w w2 → w2.cell? ⟨q, 1, none⟩ = some (.pointer la)) := fun w2 hb => (hI.below hb).cells.2.1
    have HA : Hid (∀ w2, Below w.heap.size w w2 → ∀ on ob : ByteArray, Calls Try.prog 64 #[.pointer (some ⟨q, 0, none⟩), .pointer (some ⟨w2.heap.size + 1, 0, none⟩)] ((w2.alloc (.cells #[.string on, .string ob] 56)).alloc (.cells #[.string nm, .string { data := #[] }, .bool true, .pointer la] 111)) fun e w' => e = .returned (.tuple #[]) ∧ Turn F w w' q (dropS S nm)) := fun w2 hb on ob => by
      have hb1 : Below w.heap.size w (w2.alloc (.cells #[.string on, .string ob] 56)) := hb.alloc hb.size _
      have hb2 : Below w.heap.size w ((w2.alloc (.cells #[.string on, .string ob] 56)).alloc (.cells #[.string nm, .string { data := #[] }, .bool true, .pointer la] 111)) := hb1.alloc hb1.size _
      have hh := heap_new (w2.alloc (.cells #[.string on, .string ob] 56)) (.cells #[.string nm, .string { data := #[] }, .bool true, .pointer la] 111)
      rw [show (w2.alloc (.cells #[.string on, .string ob] 56)).heap.size = w2.heap.size + 1 by simp] at hh
      refine (apply_drop _ q (w2.heap.size + 1) F S nm _ la hn (hs.below hb2) (hI.below hb2).cells.2.1 hh).mono ?_
      rintro e w' ⟨rfl, hT⟩
      exact ⟨rfl, Turn.ahead hb2 hT⟩
    generalize objN S.f nm = on at ho
    generalize objB S.f nm = ob at ho
    clear hs hf hI hF hn
    go_enter Try.func60, Try.ntmps60
    go_wp2_with fail
    refine ho.mono ?_
    rintro e w2 ⟨rfl, hb⟩
    have e1 := HK.out _ (hb.alloc hb.size (.cells #[.string on, .string ob] 56))
    have hA := HA.out w2 hb on ob
    clear hb
    go_wp2_with fail
    refine hA.mono ?_
    rintro e w5 ⟨rfl, hT⟩
    have HT : Hid (Turn F w w5 q (dropS S nm)) := hT
    clear hT
    go_wp2
    go_end0
    exact ⟨rfl, HT.out⟩
set_option maxRecDepth 10000 in
set_option maxHeartbeats 1000000 in
theorem names_any (w : World) (q : Nat) (F : List Nat) (S : Wst) (hs : St w q F S) (hnn : S.nn ≤ 8796093022207) :
    Calls Try.prog 34 #[.pointer (some ⟨q, 0, none⟩)] w fun e w' => ∃ v ks, e = .returned v ∧ Rises ks S.f ∧ ks.length ≤ S.nn ∧ w'.ownsRow w.heap.size 9 1 v ks.length (ks.map encStr) ∧ Below w.heap.size w w' := by
  obtain ⟨m, pl, la, tv, av, uv, D, al, nv, hF, hI⟩ := id hs
  have c0 := hI.cells.1
  have hown := hI.hm
  have hD := hI.hD
  have hbl := hown.lt
  obtain ⟨i0, hi, hz0, hz1, hz2⟩ := info_parts info9
  have hsz := hown.size_le
  have hso := fun blk off cap (ss : List (List UInt8)) (w : World) hH hb hl => Any.slices_Sort_string sortLays blk off cap ss w hH hb hl
  change ∀ blk off cap (ss : List (List UInt8)) (w : World) _ _ _, Calls Try.prog 61 _ _ _ at hso
  have hsn := fun (w : World) => Any.slices_Sort_string_none sortLays none 0 w
  change ∀ w : World, Calls Try.prog 61 _ _ _ at hsn
  have HSO : Hid _ := hso
  have HSN : Hid _ := hsn
  have HD : Hid (Tab D S.f) := hD
  clear hs hI hF hso hsn hD
  go_enter Try.func34, Try.ntmps34
  go_wp2_with (first
    | (at_range; refine wpList_range_own _ rfl _ 66 rfl 9 56 keyLaw Try.underlying66 _ m S.nn _ rfl hown ?_; intro w0 hrg0 hg0 hs0)
    | go_in)
  go_frame
  go_loopw [3] (fun v wr => ∃ (left : Lit → Bool) (cnt : Nat) (ss : List (List UInt8)), wr.ranges Try.prog 9 blobR m w.heap.size S.nn D left cnt ∧ ss.length + cnt ≤ Maps.size D ∧
      wr.ownsRow w.heap.size 9 1 v ss.length (ss.map encStr) ∧ Collected D left ss ∧ Below w.heap.size w wr)
    (fun _ wr => wr.rangeLeft m w.heap.size)
  case atStart =>
    exact ⟨_, _, [], hrg0, by simp, ⟨rfl, .inl ⟨rfl, rfl⟩⟩, Collected.start D, (Below.refl _ _).grown hg0 (Nat.le_refl _) (fun j hj => by cases hj)⟩
  case round =>
    obtain ⟨left, cnt, ss, hrg, hcs, hrow, hC, hnx⟩ := hrel
    go_wp2_with (first
      | (at_next; refine wpList_next_ranges _ rfl _ rfl 9 keyLaw blobR encStr (fun p : ByteArray × ByteArray => .agg #[.string p.1, .string p.2]) (fun key kl hk => by obtain ⟨x, hx, _⟩ := Maps.keyOf_str Try.underlying9 hk; exact ⟨x, hx⟩) (fun v y hv => by obtain ⟨a, b, rfl, _⟩ := blobR_inv hv; exact ⟨(a, b), rfl⟩) m w.heap.size S.nn _ _ _ rfl hrg ?_ ?_)
      | go_in)
    · intro hc0 hl0
      have hRs : Rises (ss.mergeSort fun x y => decide (x ≤ y)) S.f := rises_sort hC.1 (fun k => by
        rw [hC.2 k, hl0, ← HD.out.has k]
        simp)
      have HR : Hid (Rises (ss.mergeSort fun x y => decide (x ≤ y)) S.f) := hRs
      have hml : (ss.mergeSort fun x y => decide (x ≤ y)).length = ss.length := by simp
      have HN : Hid (Below w.heap.size w wr) := hnx
      rcases hrow.2 with ⟨hnil, hlen⟩ | ⟨g, cap, cur, rfl, hbase, hb, h1, h2, h3, h4⟩
      · subst hnil
        obtain rfl : ss = [] := List.eq_nil_of_length_eq_zero hlen
        have hc := HSN.out wr
        clear hRs hnx hrow hC hrg hl0
        go_wp2_with (go_at_call 61; refine hc.mono ?_; rintro e w' ⟨rfl, rfl⟩)
        go_ret
        exact ⟨_, [], rfl, by simpa using HR.out, Nat.zero_le _, ⟨rfl, .inl ⟨rfl, rfl⟩⟩, HN.out⟩
      · have hH : Go.Sort.Holds encStr wr g 0 ss.toArray := holds_of_block hb (by simpa using h4)
        have hgl : g < wr.heap.size := (Array.getElem?_eq_some_iff.1 hb).1
        have hc := HSO.out g 0 cap ss wr hH hgl (by omega)
        have HX : Hid (∀ nn os, (Go.Sort.grow (Go.Sort.putRow encStr (Go.Sort.ahead wr nn) g 0 (ss.mergeSort fun x y => decide (x ≤ y)).toArray) os).ownsRow w.heap.size 9 1 (.slice (some ⟨g, 0, none⟩) ss.length cap) ss.length ((ss.mergeSort fun x y => decide (x ≤ y)).map encStr) ∧ Below w.heap.size w (Go.Sort.grow (Go.Sort.putRow encStr (Go.Sort.ahead wr nn) g 0 (ss.mergeSort fun x y => decide (x ≤ y)).toArray) os)) := fun nn os =>
          ⟨ownsRow_sorted (by simp) hbase hb h1 h2 h3, hnx.grown (grownBy_sorted _) hnx.size (fun j hj => by cases hj; exact hbase)⟩
        clear hRs hnx hrow hC hrg hl0 hH hb h4 h3 h2
        go_wp2_with (go_at_call 61; refine hc.mono ?_; rintro e w' ⟨rfl, nn, os, rfl⟩)
        go_ret
        refine ⟨_, _, rfl, HR.out, by rw [hml]; omega, ?_, (HX.out nn os).2⟩
        rw [hml]
        exact (HX.out nn os).1
    · intro x c1 c2 kl yd yp w2 cnt2 hkey hlk hv hat hrg2 hlt hg2 hs2 hen
      obtain ⟨x', ex, rfl, _⟩ := Maps.keyOf_str Try.underlying9 hkey
      obtain rfl : x = x' := encStr_inj ex
      have hrow2 := hrow.kept hg2 (Or.inr (row_ne_iter hrow hrg).symm)
      clear hs2
      go_wp2_with (first
        | (at_builtin; refine wpList_append_own _ rfl _ _ 50 rfl w.heap.size 9 i0 (.string ⟨#[]⟩) 1 16 Try.underlying50 hi hz0 hz1 hz2 rfl (by decide) _ _ _ rfl (hrow2.alloc _) ⟨w2.heap.size, 0, none⟩ 1 1 [encStr x] rfl rfl (cell_one_new _ _ _) (by simp [Value.oneCell', encStr]) (by unfold maxLen at *; omega) (by omega) (by have := hnx.size; have := hg2.size; simp; omega) ?_; intro v' w3 hown' hg3 hnil3; go_frame)
        | go_in)
      have hrg3 := (hrg2.alloc _).kept hg3 (row_ne_low hrow2 hbl) (row_ne_iter hrow2 hrg2)
      go_roundw
      case rel =>
        refine ⟨_, cnt2, ss ++ [x], hrg3, by simp; omega, by simpa using hown', hC.step hlk hat, ?_⟩
        exact ((hnx.grown hg2 hnx.size (fun j hj => by cases hj; exact Nat.le_refl _)).alloc (by have := hnx.size; have := hg2.size; omega) _).grown hg3 (by have := hnx.size; have := hg2.size; simp; omega) (fun j hj => (hrow2.lt j hj).1)
      case measure => rw [hrg3.left_eq, hrg.left_eq]; exact hlt

end Go.Proofs.Ytdgokfehgjkalaa.Wd
