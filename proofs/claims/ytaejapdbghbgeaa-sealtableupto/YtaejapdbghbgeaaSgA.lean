import Derived.Test.YtaejapdbghbgeaaSeE
namespace Go.Proofs.Ytaejapdbghbgeaa.Se
open Go.RowKit Go.Lib Go.Deep

theorem snum_any (n : Int) (w : World) : Calls Try.prog 7 #[.int .i64 n] w fun e w' => e = .returned (.int .i64 n) ∧ w' = w := by
  go_enter Try.func7, Try.ntmps7
  go_wp2
  go_ret
  exact ⟨rfl, rfl⟩

theorem smod_any (n m : Int) (_hn : -9223372036854775808 ≤ n ∧ n ≤ 9223372036854775807) (hm : 1 ≤ m ∧ m ≤ 4611686018427387904) (w : World) : Calls Try.prog 8 #[.int .i64 n, .int .i64 m] w fun e w' => e = .returned (.int .i64 (n % m)) ∧ w' = w := by
  have h0 : m ≠ 0 := by omega
  have h1 : -m < n.tmod m ∧ n.tmod m < m := ⟨Int.lt_tmod_of_pos n (by omega), Int.tmod_lt_of_pos n (by omega)⟩
  have h2 : IntKind.i64.wrap (n.tmod m) = n.tmod m := by rw [IntKind.wrap_i64]; omega
  have h3 : IntKind.i64.wrap (n.tmod m + m) = n.tmod m + m := by rw [IntKind.wrap_i64]; omega
  have h4 : (n.tmod m + m).tmod m = n % m := by
    rw [Int.tmod_eq_emod_of_nonneg (by omega), Int.add_emod_right]
    have := Int.tmod_add_mul_tdiv n m
    rw [← this, Int.add_mul_emod_self_left]
    simp [this]
  have h5 : IntKind.i64.wrap (n % m) = n % m := by
    have := Int.emod_nonneg n h0
    have := Int.emod_lt_of_pos n (show (0:Int) < m by omega)
    rw [IntKind.wrap_i64]; omega
  go_enter Try.func8, Try.ntmps8
  go_wp2
  go_ret
  exact ⟨rfl, rfl⟩
def zB (n : Nat) : Array Value := (Lib.byteCells (List.replicate n 0)).toArray
def zS (n : Nat) : ByteArray := str (List.replicate n 0)
theorem zS_size (n : Nat) : (zS n).size = n := by unfold zS; rw [str_size, List.length_replicate]
theorem made_z (n : Nat) : madeCells #[Value.int .u8 0] n = zB n := by
  unfold zB
  apply Array.ext'
  rw [List.toList_toArray]
  apply List.ext_getElem?
  intro i
  simp [madeCells, Lib.byteCells, Nat.mod_one]
  by_cases hi : i < n
  · simp [hi]
  · simp [hi]
theorem smake (n : Nat) (hn : n ≤ 1048576) (w : World) : (Instr.makeSlice 28 (.int .i64 (n : Int)) (.int .i64 (n : Int))).run Try.prog w = .ok (.slice (some ⟨w.heap.size, 0, none⟩) n n) (w.alloc (.cells (zB n) 5)) := by
  obtain ⟨i0, hi, hz0, hz1, hz2⟩ := info_parts info5
  have h := run_make (P := Try.prog) w 28 5 i0 (.int .u8 0) Try.underlying28 hi hz0 .i64 .i64 n n (by omega) (by omega) (by rw [hz2]; omega) (by omega)
  rw [← made_z]
  simpa [hz1, Value.cells] using h
theorem zconv (n b : Nat) (w : World) (h : w.heap[b]? = some (.cells (zB n) 5 (0, 0))) : (convert 28 9 (.slice (some ⟨b, 0, none⟩) n n)).run Try.prog w = .ok (.string (zS n)) w := by
  have := run_convert_bytes_back (P := Try.prog) w 28 9 5 ⟨b, 0, none⟩ n (List.replicate n 0) Try.underlying28 Try.underlying5 Try.underlying9 (fun j hj => by
    rw [Addr.add_lit, Nat.zero_add, cell_of_heap h]
    unfold zB
    rw [List.getElem?_toArray]
    rw [List.length_replicate] at hj
    simp [Lib.byteCells, hj])
  rw [List.length_replicate] at this
  exact this

/-- the given tags -/
def tagsG (R : List Row) : List ByteArray := R.map fun r => tagS r.blob
def sCells (ss : List ByteArray) : List Value := ss.map Value.string
theorem gave_tags (R : List Row) (c : ByteArray) : gave R c = (tagsG R).any fun g => decide (g = tagS c) := by
  unfold gave tagsG
  rw [List.any_map]
  rfl
theorem infoStr : (Try.prog.info? 9).map (fun i => (i.zero, i.size, i.bytes)) = some (some (.string { data := #[] }), 1, 16) := by kernel_rfl
theorem own_at {w : World} {B n e : Nat} {v : Value} {xs : List Value} (h : w.ownsRow B e 1 v n xs) {i : Nat} {x : Value} (hx : xs[i]? = some x) : ∃ g cap, v = .slice (some ⟨g, 0, none⟩) n cap ∧ g < w.heap.size ∧ w.cell? ⟨g, i, none⟩ = some x := by
  have hi := (List.getElem?_eq_some_iff.1 hx).1
  have hl := h.1
  rcases h.2 with ⟨h1, h2⟩ | ⟨g, cap, cur, h1, h2, h3, h4, h5, h6, h7⟩
  · omega
  · refine ⟨g, cap, h1, heap_lt h3, ?_⟩
    rw [← h7, List.getElem?_take, if_pos (by omega), Array.getElem?_toList] at hx
    rw [cell_of_heap h3]
    exact hx
theorem own_frame {W : World} {B n size e : Nat} {v : Value} {xs : List Value} (h : W.ownsRow B e size v n xs) {F : List Nat} {W' : World} (ho : Only F W W') (hF : ∀ g, v.ownBlock = some g → g ∉ F) : W'.ownsRow B e size v n xs :=
  owns_keep h (fun g hg => ho.block g (World.ownsRow.lt h g hg).2 (hF g hg))
/-- a row of texts is no block of a sealer -/
theorem Idl.notin {w : World} {pb : Nat} {F : List Nat} {R : List Row} (h : Idl w pb F R) {B n size e : Nat} {v : Value} {xs : List Value} (ho : w.ownsRow B e size v n xs) (he : e ≠ 63 ∧ e ≠ 72 ∧ e ≠ 65) : ∀ g, v.ownBlock = some g → g ∉ pb :: F := fun g hg hm => by
  rcases ho.2 with ⟨q1, _⟩ | ⟨g1, cap1, cur1, q1, q2, q3, q4⟩
  · rw [q1] at hg; cases hg
  · rw [q1] at hg
    simp [Value.ownBlock] at hg
    subst hg
    obtain ⟨q, m, v', D, hF, h1, h2, h3, ⟨es, cl, h4, _⟩, h5⟩ := h.ex
    subst hF
    simp only [List.cons_append, List.nil_append, List.mem_cons, Option.mem_toList] at hm
    rcases hm with rfl | rfl | rfl | hm
    · rw [q3] at h1; injection h1 with h1; injection h1 with _ h1; exact he.1 h1
    · rw [q3] at h2; injection h2 with h2; injection h2 with _ h2; exact he.2.1 h2
    · rw [q3] at h4; cases h4
    · rcases h3.2 with ⟨p1, _⟩ | ⟨g2, cap2, cur2, p1, p2, p3, p4⟩
      · rw [p1] at hm; cases hm
      · rw [p1] at hm
        simp [Value.ownBlock] at hm
        subst hm
        rw [q3] at p3
        injection p3 with p3
        injection p3 with _ p3
        exact he.2.2 p3

/-- all orders come to one end -/
theorem wp_merge {P : Program} {c : Code} {Q : Exit → Act → World → Prop} {a : Act} {w : World} {A : Act} {W : World} (h1 : Code.wp P c (fun e a' w' => match e with | .normal => a' = A ∧ w' = W | _ => False) a w) (h2 : Q .normal A W) : Code.wp P c Q a w :=
  Code.wp_mono (fun e a w h => by
    cases e with
    | normal => obtain ⟨rfl, rfl⟩ := h; exact h2
    | _ => exact h.elim) h1

end Go.Proofs.Ytaejapdbghbgeaa.Se
