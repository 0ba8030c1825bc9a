import Derived.Test.YtcoddgpfdcjnaabFrF
namespace Go.Proofs.Ytcoddgpfdcjnaab.Fr
open Go.RowKit Go.Lib Go.Deep

theorem ext_data (r : List UInt8) (bh : ByteArray) (c : Nat) (h : str r = bh) (_hc : c ≤ r.length) : (bh.extract c bh.size).data.toList = r.drop c := by
  subst h
  rw [ByteArray.data_extract, Array.toList_extract, str_data, List.extract_eq_take_drop, str_size]
  exact List.take_of_length_le (by rw [List.length_drop]; exact Nat.le_refl _)
theorem ext_head (r : List UInt8) (bh : ByteArray) (c : Nat) (h : str r = bh) : str (r.take c) = bh.extract 0 c := by
  subst h
  apply ByteArray.ext
  apply Array.ext'
  rw [ByteArray.data_extract, Array.toList_extract, str_data, str_data, List.extract_eq_take_drop]
  simp
theorem hdd_row {w0 : World} {p a0 a1 a2 a3 a4 : Nat} (W : World) (h : W.heap[p]? = some (.cells #[.int .u8 (a0 : Int), .int .u8 (a1 : Int), .int .u8 (a2 : Int), .int .u8 (a3 : Int), .int .u8 (a4 : Int)] 38 (0, 0))) (hb : Below w0.heap.size w0 W) (hp : w0.heap.size ≤ p) (n0 n1 n2 n3 n4 : Nat) :
    (((((W.setCell ⟨p, 0, none⟩ (.int .u8 (n0 : Int))).setCell ⟨p, 1, none⟩ (.int .u8 (n1 : Int))).setCell ⟨p, 2, none⟩ (.int .u8 (n2 : Int))).setCell ⟨p, 3, none⟩ (.int .u8 (n3 : Int))).setCell ⟨p, 4, none⟩ (.int .u8 (n4 : Int))).heap[p]? = some (.cells #[.int .u8 (n0 : Int), .int .u8 (n1 : Int), .int .u8 (n2 : Int), .int .u8 (n3 : Int), .int .u8 (n4 : Int)] 38 (0, 0)) ∧
    Below w0.heap.size w0 (((((W.setCell ⟨p, 0, none⟩ (.int .u8 (n0 : Int))).setCell ⟨p, 1, none⟩ (.int .u8 (n1 : Int))).setCell ⟨p, 2, none⟩ (.int .u8 (n2 : Int))).setCell ⟨p, 3, none⟩ (.int .u8 (n3 : Int))).setCell ⟨p, 4, none⟩ (.int .u8 (n4 : Int))) := by
  have h1 := heap_setCell_fr W p 0 _ _ _ (.int .u8 (n0 : Int)) h
  have h2 := heap_setCell_fr _ p 1 _ _ _ (.int .u8 (n1 : Int)) h1
  have h3 := heap_setCell_fr _ p 2 _ _ _ (.int .u8 (n2 : Int)) h2
  have h4 := heap_setCell_fr _ p 3 _ _ _ (.int .u8 (n3 : Int)) h3
  have h5 := heap_setCell_fr _ p 4 _ _ _ (.int .u8 (n4 : Int)) h4
  exact ⟨h5, ((((hb.setCell hp _).setCell hp _).setCell hp _).setCell hp _).setCell hp _⟩
/-- a head lies there, and each of its calls -/
structure Hdd (w0 : World) (p n0 n1 n2 n3 n4 : Nat) (W : World) : Prop where
  row : W.heap[p]? = some (.cells #[.int .u8 (n0 : Int), .int .u8 (n1 : Int), .int .u8 (n2 : Int), .int .u8 (n3 : Int), .int .u8 (n4 : Int)] 38 (0, 0))
  bel : Below w0.heap.size w0 W
theorem Hdd.below {w0 : World} {p n0 n1 n2 n3 n4 : Nat} {W W' : World} (h : Hdd w0 p n0 n1 n2 n3 n4 W) (hb : Below W.heap.size W W') : Hdd w0 p n0 n1 n2 n3 n4 W' :=
  ⟨(hb.block _ (heap_lt h.row)).trans h.row, h.bel.trans (hb.mono h.bel.size)⟩
theorem Hdd.cells {w0 : World} {p n0 n1 n2 n3 n4 : Nat} {W : World} (h : Hdd w0 p n0 n1 n2 n3 n4 W) :
    W.cell? ⟨p, 0, none⟩ = some (.int .u8 (n0 : Int)) ∧ W.cell? ⟨p, 1, none⟩ = some (.int .u8 (n1 : Int)) ∧ W.cell? ⟨p, 2, none⟩ = some (.int .u8 (n2 : Int)) ∧ W.cell? ⟨p, 3, none⟩ = some (.int .u8 (n3 : Int)) ∧ W.cell? ⟨p, 4, none⟩ = some (.int .u8 (n4 : Int)) :=
  ⟨(cell_of_heap h.row).trans rfl, (cell_of_heap h.row).trans rfl, (cell_of_heap h.row).trans rfl, (cell_of_heap h.row).trans rfl, (cell_of_heap h.row).trans rfl⟩

theorem hdd_set (w0 W : World) (a0 a1 a2 a3 a4 n0 n1 n2 n3 n4 : Nat) (h : Hdd w0 w0.heap.size a0 a1 a2 a3 a4 W) : Hdd w0 w0.heap.size n0 n1 n2 n3 n4 (((((W.setCell ⟨w0.heap.size, 0, none⟩ (.int .u8 (n0 : Int))).setCell ⟨w0.heap.size, 1, none⟩ (.int .u8 (n1 : Int))).setCell ⟨w0.heap.size, 2, none⟩ (.int .u8 (n2 : Int))).setCell ⟨w0.heap.size, 3, none⟩ (.int .u8 (n3 : Int))).setCell ⟨w0.heap.size, 4, none⟩ (.int .u8 (n4 : Int))) :=
  ⟨(hdd_row W h.row h.bel (Nat.le_refl _) n0 n1 n2 n3 n4).1, (hdd_row W h.row h.bel (Nat.le_refl _) n0 n1 n2 n3 n4).2⟩

set_option maxHeartbeats 1000000 in
set_option maxRecDepth 20000 in
theorem unpack_any (k : Int) (t : ByteArray) (w : World) : Calls Try.prog 9 #[.int .i64 k, .string t] w fun e w' => e = .returned (.tuple #[.string (unpY k t), .int .i64 (unpE k t)]) ∧ Below w.heap.size w w' := by
  have hk := isKind_any k
  by_cases h1 : 1048576 < t.size
  · have h1' : (1048576 : Int) < (t.size : Int) := by omega
    have e1 : unpE k t = 3 := if_pos h1
    have e2 : unpY k t = { data := #[] } := if_neg (by rw [e1]; decide)
    rw [e1, e2]
    clear e1 e2
    go_enter Try.func9, Try.ntmps9
    go_wp2
    go_ret2
    exact ⟨rfl, Below.refl _ _⟩
  · have h1' : ¬ (1048576 : Int) < (t.size : Int) := by omega
    by_cases h2 : 1 ≤ k ∧ k ≤ 255
    · rw [decide_eq_true h2] at hk
      by_cases h3 : t.size < 5
      · have h3' : (t.size : Int) < 5 := by omega
        have e1 : unpE k t = 92 := by unfold unpE; rw [if_neg h1, if_pos (by omega)]
        have e2 : unpY k t = { data := #[] } := if_neg (by rw [e1]; decide)
        rw [e1, e2]
        clear e1 e2
        go_enter Try.func9, Try.ntmps9
        go_wp2_with fail
        refine (hk _).mono ?_
        rintro e w' ⟨rfl, rfl⟩
        go_wp2
        go_ret2
        exact ⟨rfl, Below.refl _ _⟩
      · have h3' : ¬ (t.size : Int) < 5 := by omega
        have hl : t.data.toList.length = t.size := (size_eq t).symm
        obtain ⟨x0, x1, x2, x3, x4, r, hx⟩ := five_of t.data.toList (by omega)
        have hin := headIn_any t x0 x1 x2 x3 x4 r hx
        have b0 := x0.toNat_lt; have b1 := x1.toNat_lt; have b2 := x2.toNat_lt; have b3 := x3.toNat_lt; have b4 := x4.toNat_lt
        have hki := kind_any x0.toNat x1.toNat x2.toNat x3.toNat x4.toNat b0
        have hco := count_any x0.toNat x1.toNat x2.toNat x3.toNat x4.toNat b1 b2 b3 b4
        have hrl : r.length = t.size - 5 := by have := hl; rw [hx] at this; simp at this; omega
        have hcn : cnt t.data.toList = x1.toNat * 16777216 + x2.toNat * 65536 + x3.toNat * 256 + x4.toNat := by rw [hx]; rfl
        have hun : unpE k t = if (x0.toNat : Int) ≠ k then 92 else if r.length < cnt t.data.toList then 90 else if (r.drop (cnt t.data.toList)).all (· == 0) = true then 0 else 91 := by
          have hg0 : (t.data.toList.getD 0 0).toNat = x0.toNat := by rw [hx]; rfl
          have hdr : ∀ m, t.data.toList.drop (5 + m) = r.drop m := fun m => by rw [hx, Nat.add_comm]; rfl
          unfold unpE
          rw [if_neg h1, hg0, hdr, hrl]
          by_cases h0 : (x0.toNat : Int) ≠ k
          · rw [if_pos h0, if_pos (.inr (.inr (.inr h0)))]
          · rw [if_neg h0, if_neg (by rintro (h | h | h | h) <;> first | omega | exact h0 h)]
        have huy : unpY k t = if unpE k t = 0 then str (r.take (cnt t.data.toList)) else { data := #[] } := by
          unfold unpY
          rw [hx]
          rfl
        have hbh : t.extract 5 t.size = str r := by
          apply ByteArray.ext
          apply Array.ext'
          rw [str_data, ByteArray.data_extract, Array.toList_extract, hx]
          simp [List.extract_eq_take_drop]
          exact List.take_of_length_le (by omega)
        rw [← hcn] at hco
        have hb32 : cnt t.data.toList < 4294967296 := by omega
        unfold hdA at hin hki hco
        obtain ⟨Y, E, n0, n1, n2, n3, n4, c, hY, hE, HU, HUY, hc32, hin', hki', hco'⟩ : ∃ (Y : ByteArray) (E : Int) (n0 n1 n2 n3 n4 c : Nat), unpY k t = Y ∧ unpE k t = E ∧ Hid (E = if (n0 : Int) ≠ k then 92 else if r.length < c then 90 else if (r.drop c).all (· == 0) = true then 0 else 91) ∧
            Hid (Y = if E = 0 then str (r.take c) else { data := #[] }) ∧ c < 4294967296 ∧
            (∀ w, Calls Try.prog 16 #[.string t] w fun e w' => e = .returned (.agg #[.int .u8 (n0 : Int), .int .u8 (n1 : Int), .int .u8 (n2 : Int), .int .u8 (n3 : Int), .int .u8 (n4 : Int)]) ∧ Below w.heap.size w w') ∧
            (∀ w, Calls Try.prog 17 #[.agg #[.int .u8 (n0 : Int), .int .u8 (n1 : Int), .int .u8 (n2 : Int), .int .u8 (n3 : Int), .int .u8 (n4 : Int)]] w fun e w' => e = .returned (.int .i64 (n0 : Int)) ∧ Below w.heap.size w w') ∧
            (∀ w, Calls Try.prog 18 #[.agg #[.int .u8 (n0 : Int), .int .u8 (n1 : Int), .int .u8 (n2 : Int), .int .u8 (n3 : Int), .int .u8 (n4 : Int)]] w fun e w' => e = .returned (.int .u32 (c : Int)) ∧ Below w.heap.size w w') :=
          ⟨_, _, _, _, _, _, _, _, rfl, rfl, hun, huy, hb32, hin, hki, hco⟩
        rw [hY, hE]
        obtain ⟨bh, hbe⟩ : ∃ bh, str r = bh := ⟨_, rfl⟩
        rw [hbe] at hbh
        have hbs : bh.size = r.length := by rw [← hbe, str_size]
        have HRL : Hid (bh.size = r.length) := hbs
        have hbs2 : bh.size ≤ 1048576 := by omega
        have HBE : Hid (str r = bh) := hbe
        clear hY hE hun huy hin hki hco b0 b1 b2 b3 b4 hcn hl hx hb32 hrl hbs hbe
        have KA : Hid (∀ j, Calls Try.prog 16 #[.string t] ((w.drewN j).alloc (.cells #[.int .u8 0, .int .u8 0, .int .u8 0, .int .u8 0, .int .u8 0] 38)) fun e w' => e = .returned (.agg #[.int .u8 (n0 : Int), .int .u8 (n1 : Int), .int .u8 (n2 : Int), .int .u8 (n3 : Int), .int .u8 (n4 : Int)]) ∧ Hdd w w.heap.size 0 0 0 0 0 w') := fun j => by
          refine (hin' _).mono ?_
          rintro e w2 ⟨rfl, hb⟩
          exact ⟨rfl, Hdd.below ⟨heap_new (w.drewN j) _, (bdN w j).alloc (Nat.le_refl _) _⟩ hb⟩
        have KB : Hid (∀ j, Calls Try.prog 16 #[.string t] (w.drewN j) fun e w' => e = .returned (.agg #[.int .u8 (n0 : Int), .int .u8 (n1 : Int), .int .u8 (n2 : Int), .int .u8 (n3 : Int), .int .u8 (n4 : Int)]) ∧ Below w.heap.size w w') := fun j => by
          refine (hin' _).mono ?_
          rintro e w2 ⟨rfl, hb⟩
          exact ⟨rfl, (bdN w j).trans hb⟩
        go_enter Try.func9, Try.ntmps9
        go_wp2_with fail
        refine (hk _).mono ?_
        rintro e w' ⟨rfl, rfl⟩
        go_wp2_with fail
        go_region_held_law (fun _ => True) (first | exact trivial | go_keep) (first | (go_at_call 16; refine (KA.out 1).mono ?_; rintro e w6 ⟨rfl, hd6⟩; obtain ⟨y0, y1, y2, y3, y4⟩ := hd6.cells; have f0 : w6.frozen? ⟨w'.heap.size, 0, none⟩ = false := frozen_of_heap hd6.row; have f1 : w6.frozen? ⟨w'.heap.size, 1, none⟩ = false := frozen_of_heap hd6.row; have f2 : w6.frozen? ⟨w'.heap.size, 2, none⟩ = false := frozen_of_heap hd6.row; have f3 : w6.frozen? ⟨w'.heap.size, 3, none⟩ = false := frozen_of_heap hd6.row; have f4 : w6.frozen? ⟨w'.heap.size, 4, none⟩ = false := frozen_of_heap hd6.row) | (go_at_call 16; refine (KB.out 1).mono ?_; rintro e w6 ⟨rfl, hb6⟩))
        · -- first
          refine with_world (R := fun W => Exit.then _ _ _ _ W) (Q := fun W => Hdd w' w6.heap.size n0 n1 n2 n3 n4 W) _ ⟨heap_new w6 _, hb6.alloc hb6.size _⟩ ?_
          intro W1 hd
          have HD : Hid (Hdd w' w6.heap.size n0 n1 n2 n3 n4 W1) := hd
          obtain ⟨g0, g1, g2, g3, g4⟩ := hd.cells
          clear hd
          by_cases q0 : (n0 : Int) = k
          · subst q0
            go_wp2_with fail
            refine (hki' _).mono ?_
            rintro e W2 ⟨rfl, hb2⟩
            have HD2 : Hid (Hdd w' w6.heap.size n0 n1 n2 n3 n4 W2) := HD.out.below hb2
            obtain ⟨g0, g1, g2, g3, g4⟩ := HD2.out.cells
            clear hb2
            by_cases q1 : bh.size < c
            · have q1' : (bh.size : Int) < (c : Int) := by omega
              obtain rfl : E = 90 := by have := HRL.out; rw [HU.out, if_neg (fun h => h rfl), if_pos (by omega)]
              obtain rfl : Y = { data := #[] } := HUY.out.trans (if_neg (by decide))
              go_wp2_with fail
              refine (hco' _).mono ?_
              rintro e W3 ⟨rfl, hb3⟩
              have HD3 : Hid (Hdd w' w6.heap.size n0 n1 n2 n3 n4 W3) := HD2.out.below hb3
              clear hb3
              go_wp2
              go_ret2
              exact ⟨rfl, HD3.out.bel⟩
            · have q1' : ¬ (bh.size : Int) < (c : Int) := by omega
              go_wp2_with fail
              refine (hco' _).mono ?_
              rintro e W3 ⟨rfl, hb3⟩
              have HD3 : Hid (Hdd w' w6.heap.size n0 n1 n2 n3 n4 W3) := HD2.out.below hb3
              obtain ⟨g0, g1, g2, g3, g4⟩ := HD3.out.cells
              clear hb3
              go_wp2_with fail
              refine (hco' _).mono ?_
              rintro e W4 ⟨rfl, hb4⟩
              have HD4 : Hid (Hdd w' w6.heap.size n0 n1 n2 n3 n4 W4) := HD3.out.below hb4
              obtain ⟨g0, g1, g2, g3, g4⟩ := HD4.out.cells
              clear hb4
              go_wp2_with fail
              have hz := zeros_any (bh.extract c bh.size)
              rw [ext_data r bh c HBE.out (by have := HRL.out; omega)] at hz
              by_cases q2 : (r.drop c).all (· == 0) = true
              · rw [q2] at hz
                obtain rfl : E = 0 := by have := HRL.out; rw [HU.out, if_neg (fun h => h rfl), if_neg (by omega), if_pos q2]
                obtain rfl : Y = bh.extract 0 c := by rw [HUY.out, if_pos rfl, ext_head r bh c HBE.out]
                refine (hz _).mono ?_
                rintro e W5 ⟨rfl, hb5⟩
                have HD5 : Hid (Hdd w' w6.heap.size n0 n1 n2 n3 n4 W5) := HD4.out.below hb5
                obtain ⟨g0, g1, g2, g3, g4⟩ := HD5.out.cells
                clear hb5 hz q2
                go_wp2_with fail
                refine (hco' _).mono ?_
                rintro e W6 ⟨rfl, hb6⟩
                have HD6 : Hid (Hdd w' w6.heap.size n0 n1 n2 n3 n4 W6) := HD5.out.below hb6
                clear hb6
                have hcl := fun W => clone_any (bh.extract 0 c) W (by rw [ByteArray.size_extract]; omega)
                go_wp2_with fail
                refine (hcl _).mono ?_
                rintro e W7 ⟨rfl, hb7⟩
                have HD7 : Hid (Hdd w' w6.heap.size n0 n1 n2 n3 n4 W7) := HD6.out.below hb7
                clear hb7
                go_wp2
                go_ret2
                exact ⟨rfl, HD7.out.bel⟩
              · obtain rfl : E = 91 := by have := HRL.out; rw [HU.out, if_neg (fun h => h rfl), if_neg (by omega), if_neg q2]
                rw [Bool.eq_false_iff.2 q2] at hz
                obtain rfl : Y = { data := #[] } := HUY.out.trans (if_neg (by decide))
                refine (hz _).mono ?_
                rintro e W5 ⟨rfl, hb5⟩
                have HD5 : Hid (Hdd w' w6.heap.size n0 n1 n2 n3 n4 W5) := HD4.out.below hb5
                clear hb5 hz q2
                go_wp2
                go_ret2
                exact ⟨rfl, HD5.out.bel⟩
          · obtain rfl : E = 92 := HU.out.trans (if_pos q0)
            obtain rfl : Y = { data := #[] } := HUY.out.trans (if_neg (by decide))
            go_wp2_with fail
            refine (hki' _).mono ?_
            rintro e W2 ⟨rfl, hb2⟩
            have HD2 : Hid (Hdd w' w6.heap.size n0 n1 n2 n3 n4 W2) := HD.out.below hb2
            clear hb2
            go_wp2
            go_ret2
            exact ⟨rfl, HD2.out.bel⟩
        · -- second
          refine with_world (R := fun W => Exit.then _ _ _ _ W) (Q := fun W => Hdd w' w'.heap.size n0 n1 n2 n3 n4 W) _ (hdd_set w' w6 0 0 0 0 0 n0 n1 n2 n3 n4 hd6) ?_
          intro W1 hd
          have HD : Hid (Hdd w' w'.heap.size n0 n1 n2 n3 n4 W1) := hd
          obtain ⟨g0, g1, g2, g3, g4⟩ := hd.cells
          clear hd
          by_cases q0 : (n0 : Int) = k
          · subst q0
            go_wp2_with fail
            refine (hki' _).mono ?_
            rintro e W2 ⟨rfl, hb2⟩
            have HD2 : Hid (Hdd w' w'.heap.size n0 n1 n2 n3 n4 W2) := HD.out.below hb2
            obtain ⟨g0, g1, g2, g3, g4⟩ := HD2.out.cells
            clear hb2
            by_cases q1 : bh.size < c
            · have q1' : (bh.size : Int) < (c : Int) := by omega
              obtain rfl : E = 90 := by have := HRL.out; rw [HU.out, if_neg (fun h => h rfl), if_pos (by omega)]
              obtain rfl : Y = { data := #[] } := HUY.out.trans (if_neg (by decide))
              go_wp2_with fail
              refine (hco' _).mono ?_
              rintro e W3 ⟨rfl, hb3⟩
              have HD3 : Hid (Hdd w' w'.heap.size n0 n1 n2 n3 n4 W3) := HD2.out.below hb3
              clear hb3
              go_wp2
              go_ret2
              exact ⟨rfl, HD3.out.bel⟩
            · have q1' : ¬ (bh.size : Int) < (c : Int) := by omega
              go_wp2_with fail
              refine (hco' _).mono ?_
              rintro e W3 ⟨rfl, hb3⟩
              have HD3 : Hid (Hdd w' w'.heap.size n0 n1 n2 n3 n4 W3) := HD2.out.below hb3
              obtain ⟨g0, g1, g2, g3, g4⟩ := HD3.out.cells
              clear hb3
              go_wp2_with fail
              refine (hco' _).mono ?_
              rintro e W4 ⟨rfl, hb4⟩
              have HD4 : Hid (Hdd w' w'.heap.size n0 n1 n2 n3 n4 W4) := HD3.out.below hb4
              obtain ⟨g0, g1, g2, g3, g4⟩ := HD4.out.cells
              clear hb4
              go_wp2_with fail
              have hz := zeros_any (bh.extract c bh.size)
              rw [ext_data r bh c HBE.out (by have := HRL.out; omega)] at hz
              by_cases q2 : (r.drop c).all (· == 0) = true
              · rw [q2] at hz
                obtain rfl : E = 0 := by have := HRL.out; rw [HU.out, if_neg (fun h => h rfl), if_neg (by omega), if_pos q2]
                obtain rfl : Y = bh.extract 0 c := by rw [HUY.out, if_pos rfl, ext_head r bh c HBE.out]
                refine (hz _).mono ?_
                rintro e W5 ⟨rfl, hb5⟩
                have HD5 : Hid (Hdd w' w'.heap.size n0 n1 n2 n3 n4 W5) := HD4.out.below hb5
                obtain ⟨g0, g1, g2, g3, g4⟩ := HD5.out.cells
                clear hb5 hz q2
                go_wp2_with fail
                refine (hco' _).mono ?_
                rintro e W6 ⟨rfl, hb6⟩
                have HD6 : Hid (Hdd w' w'.heap.size n0 n1 n2 n3 n4 W6) := HD5.out.below hb6
                clear hb6
                have hcl := fun W => clone_any (bh.extract 0 c) W (by rw [ByteArray.size_extract]; omega)
                go_wp2_with fail
                refine (hcl _).mono ?_
                rintro e W7 ⟨rfl, hb7⟩
                have HD7 : Hid (Hdd w' w'.heap.size n0 n1 n2 n3 n4 W7) := HD6.out.below hb7
                clear hb7
                go_wp2
                go_ret2
                exact ⟨rfl, HD7.out.bel⟩
              · obtain rfl : E = 91 := by have := HRL.out; rw [HU.out, if_neg (fun h => h rfl), if_neg (by omega), if_neg q2]
                rw [Bool.eq_false_iff.2 q2] at hz
                obtain rfl : Y = { data := #[] } := HUY.out.trans (if_neg (by decide))
                refine (hz _).mono ?_
                rintro e W5 ⟨rfl, hb5⟩
                have HD5 : Hid (Hdd w' w'.heap.size n0 n1 n2 n3 n4 W5) := HD4.out.below hb5
                clear hb5 hz q2
                go_wp2
                go_ret2
                exact ⟨rfl, HD5.out.bel⟩
          · obtain rfl : E = 92 := HU.out.trans (if_pos q0)
            obtain rfl : Y = { data := #[] } := HUY.out.trans (if_neg (by decide))
            go_wp2_with fail
            refine (hki' _).mono ?_
            rintro e W2 ⟨rfl, hb2⟩
            have HD2 : Hid (Hdd w' w'.heap.size n0 n1 n2 n3 n4 W2) := HD.out.below hb2
            clear hb2
            go_wp2
            go_ret2
            exact ⟨rfl, HD2.out.bel⟩
    · rw [decide_eq_false h2] at hk
      have e1 : unpE k t = 92 := by unfold unpE; rw [if_neg h1, if_pos (by omega)]
      have e2 : unpY k t = { data := #[] } := if_neg (by rw [e1]; decide)
      rw [e1, e2]
      clear e1 e2
      go_enter Try.func9, Try.ntmps9
      go_wp2_with fail
      refine (hk _).mono ?_
      rintro e w' ⟨rfl, rfl⟩
      go_wp2
      go_ret2
      exact ⟨rfl, Below.refl _ _⟩
end Go.Proofs.Ytcoddgpfdcjnaab.Fr
