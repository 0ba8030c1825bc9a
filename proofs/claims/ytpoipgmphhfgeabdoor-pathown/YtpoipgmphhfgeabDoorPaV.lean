import Derived.Test.YtpoipgmphhfgeabDoorPaS
namespace Go.Proofs.YtpoipgmphhfgeabDoor.Pa
open Go.RowKit Go.Lib

theorem slice_tail {P : Program} (W : World) (t : TypeId) (ht : P.underlying t = some .string) (s : ByteArray) (h : 1 ≤ s.size) :
    (Instr.slice t (.string s) (some (.int .i64 1)) none none).run P W = .ok (.string (str s.data.toList.tail)) W := by
  rw [run_slice_string_l (P := P) W t s ht .i64 1 (by omega) (by omega)]
  congr 2
  rw [← str_of (s.extract _ _), extract_data, show (1 : Int).toNat = 1 from rfl, List.take_of_length_le (by rw [List.length_drop, size_eq s]; omega), List.drop_one]
set_option maxRecDepth 20000 in
set_option maxHeartbeats 1000000 in
theorem parse_any (s : ByteArray) (w : World) : Calls Tryd.prog 6 #[.string s] w fun e w' => (∃ u, e = .returned (.tuple #[u, .int .i64 (parseE s)]) ∧ Own w' w.heap.size u (parseY s)) ∧ Below w.heap.size w w' := by
  have hr := rooted_any s
  by_cases h1 : rooted s.data.toList = true
  · rw [h1] at hr
    by_cases h2 : s.data.toList = [47]
    · have eE : parseE s = 0 := by unfold parseE; rw [if_pos h1, if_pos h2]
      have eY : parseY s = [] := by unfold parseY; rw [if_pos eE, if_pos h2]
      rw [eE, eY]
      have h2' : (s.toList == [47]) = true := by rw [toList_data, h2]; rfl
      clear h1 h2
      go_enter Tryd.func6, Tryd.ntmps6
      go_wp2_with (go_at_call 16; refine (hr _).mono ?_; rintro e w1 ⟨rfl, rfl⟩)
      go_ret2
      exact ⟨⟨_, rfl, Own.nil _ _⟩, Below.refl _ _⟩
    · have h2' : (s.toList == [47]) = false := by rw [toList_data]; exact beq_eq_false_iff_ne.2 h2
      have hsz : s.size ≤ 1024 := by have := (rooted_parts h1).1; rw [size_eq s]; exact this
      have hs1 : 1 ≤ s.size := by
        have := (rooted_parts h1).2.1
        rw [size_eq s]
        cases hd : s.data.toList with
        | nil => rw [hd] at this; cases this
        | cons x t => simp
      have hsl := fun W => slice_tail (P := Tryd.prog) W 9 Tryd.underlying9 s hs1
      have hsp := split_any (str s.data.toList.tail) (by rw [str_size, List.length_tail, ← size_eq s]; omega)
      rw [str_data] at hsp
      have hpl : ((pieces s.data.toList.tail).map str).length ≤ 9223372036854775000 := by
        rw [List.length_map, pieces_len]
        have : s.data.toList.tail.count 47 ≤ s.data.toList.tail.length := List.count_le_length
        rw [List.length_tail, ← size_eq s] at this
        omega
      have HF : Hid (∀ W v, See W v (pcs s) → Calls Tryd.prog 18 #[v] W fun e w' => e = .returned (.int .i64 (fault (pcs s))) ∧ Below W.heap.size W w') := fun W v hv => fault_any W v _ hv hpl
      have eE : parseE s = fault (pcs s) := by unfold parseE; rw [if_pos h1, if_neg h2]
      rw [eE]
      generalize str s.data.toList.tail = tl at *
      change ∀ w, Calls Tryd.prog 17 #[.string tl, .string { data := #[47] }] w fun e w' => (∃ u, e = .returned u ∧ See w' u (pcs s)) ∧ Below w.heap.size w w' at hsp
      by_cases hf : fault (pcs s) = 0
      · have eY : parseY s = pcs s := by unfold parseY; rw [eE, if_pos hf, if_neg h2]
        have HEa : Hid (∀ W v, See W v (pcs s) → Calls Tryd.prog 19 #[v, .func (.func 20) #[] #[]] W fun e w' => (∃ u, e = .returned u ∧ Own w' W.heap.size u (pcs s)) ∧ Below W.heap.size W w') := fun W v hv => by
          obtain ⟨ha, hn⟩ := fault_zero.1 hf
          exact each_any W v _ hv hn (fun x hx => by have := (nm_free (List.all_eq_true.1 ha x hx)).2.2; rw [size_eq x]; exact this)
        rw [eY, hf]
        rw [hf] at HF
        clear h1 h2 hf eE eY hpl
        generalize pcs s = L at *
        go_enter Tryd.func6, Tryd.ntmps6
        go_wp2_with (first
          | (go_at_call 16; refine (hr _).mono ?_; rintro e w1 ⟨rfl, rfl⟩)
          | (go_at_call 17; refine (hsp _).mono ?_; rintro e w2 ⟨⟨v2, rfl, hv2⟩, hb2⟩)
          | (go_at_call 18; refine (HF.out _ _ hv2).mono ?_; rintro e w3 ⟨rfl, hb3⟩)
          | (go_at_call 19; refine (HEa.out _ _ (hv2.below hb3)).mono ?_; rintro e w4 ⟨⟨v4, rfl, ho4⟩, hb4⟩))
        go_ret2
        have h13 := hb2.trans (hb3.mono hb2.size)
        exact ⟨⟨_, rfl, ho4.mono h13.size⟩, h13.trans (hb4.mono h13.size)⟩
      · have eY : parseY s = [] := by unfold parseY; rw [eE, if_neg hf]
        rw [eY]
        have hfI : ¬ fault (pcs s) = (0 : Int) := hf
        clear h1 h2 eE eY hpl hf
        generalize fault (pcs s) = E at *
        generalize pcs s = L at *
        go_enter Tryd.func6, Tryd.ntmps6
        go_wp2_with (first
          | (go_at_call 16; refine (hr _).mono ?_; rintro e w1 ⟨rfl, rfl⟩)
          | (go_at_call 17; refine (hsp _).mono ?_; rintro e w2 ⟨⟨v2, rfl, hv2⟩, hb2⟩)
          | (go_at_call 18; refine (HF.out _ _ hv2).mono ?_; rintro e w3 ⟨rfl, hb3⟩))
        go_ret2
        exact ⟨⟨_, rfl, Own.nil _ _⟩, hb2.trans (hb3.mono hb2.size)⟩
  · have h1' : rooted s.data.toList = false := Bool.eq_false_iff.2 h1
    rw [h1'] at hr
    have eE : parseE s = 110 := by unfold parseE; rw [if_neg h1]
    have eY : parseY s = [] := by unfold parseY; rw [eE]; rfl
    rw [eE, eY]
    clear h1 h1'
    go_enter Tryd.func6, Tryd.ntmps6
    go_wp2_with (go_at_call 16; refine (hr _).mono ?_; rintro e w1 ⟨rfl, rfl⟩)
    go_ret2
    exact ⟨⟨_, rfl, Own.nil _ _⟩, Below.refl _ _⟩
end Go.Proofs.YtpoipgmphhfgeabDoor.Pa
