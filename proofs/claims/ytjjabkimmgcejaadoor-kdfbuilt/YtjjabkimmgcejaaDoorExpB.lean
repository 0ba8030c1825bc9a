import Derived.Test.YtjjabkimmgcejaaDoorExpP
namespace Go.Proofs.YtjjabkimmgcejaaDoor
open Go.RowKit Go.Lib

/-- the block that holds the two blocks of the key -/
def Kb (w : World) (p : Nat) (yi yo : ByteArray) : Prop := w.heap[p]? = some (.cells #[.string yi, .string yo] 57 (0, 0))
theorem Kb.below {w w' : World} {B p : Nat} {yi yo : ByteArray} (h : Kb w p yi yo) (hb : Below B w w') (hp : p < B) : Kb w' p yi yo := (hb.block p hp).trans h

set_option maxRecDepth 20000 in
set_option maxHeartbeats 2000000 in
theorem kexpand_any (key info : ByteArray) (n : Int) (hk : key.size ≤ 140737488351232) (hin : info.size ≤ 140737488351232) (h1 : 0 ≤ n) (h2 : n ≤ 8160) (w : World) (ht : Tabs w) (h4 : 4 ≤ w.heap.size) :
    Calls Tryd.prog 19 #[.string key, .string info, .int .i64 n] w fun e w' => e = .returned (.tuple #[.string (str (expL key.data.toList info.data.toList n.toNat)), .int .i64 0]) ∧ Below w.heap.size w w' := by
  obtain ⟨i0, hi, hz0, hz1, hz2⟩ := info_parts info5
  obtain ⟨N, rfl⟩ := Int.eq_ofNat_of_zero_le h1
  rw [Int.toNat_natCast]
  have e1 : ¬ (N : Int) < 0 := by omega
  have e2 : ¬ (8160 : Int) < (N : Int) := by omega
  have HN : Hid (expL key.data.toList info.data.toList N = (expAll key.data.toList info.data.toList ((N + 31) / 32)).take N) := rfl
  have hbl := blocksOf_any key (by omega) w ht h4
  have HI : Hid ((str (innerL key.data.toList)).size = 64 ∧ (str (outerL key.data.toList)).size = 64) := ⟨by rw [str_size, innerL_length], by rw [str_size, outerL_length]⟩
  have HH : Hid (∀ t, hmacL key.data.toList t = shaL ((str (outerL key.data.toList)).data.toList ++ shaL ((str (innerL key.data.toList)).data.toList ++ t))) := fun t => by rw [str_data, str_data]; rfl
  revert hbl HI HH
  generalize str (innerL key.data.toList) = yi
  generalize str (outerL key.data.toList) = yo
  intro hbl HI HH
  go_enter Tryd.func19, Tryd.ntmps19
  go_wp2_with fail
  refine hbl.mono ?_
  clear hbl
  rintro e w1 ⟨rfl, hb1⟩
  have z1 := hb1.size
  have hth : ∀ z : Array Value, z.size = 2 → (w1.alloc (.cells z 57)).there w1.heap.size 0 (#[Value.string yi, .string yo] : Array Value).size := fun z hz => there_of_heap (heap_new _ _) (by rw [hz]; exact Nat.le_refl 2)
  have hone2 : (#[Value.string yi, .string yo] : Array Value).all (·.oneCell') = true := all_oneCell_toArray (cs := [Value.string yi, .string yo]) (strCells_one [yi, yo])
  have hr2 : ∀ z : Array Value, z.size = 2 → Kb ((w1.alloc (.cells z 57)).setCells w1.heap.size 0 [Value.string yi, .string yo]) w1.heap.size yi yo := fun z hz => by
    have h := heap_setCells w1.heap.size 57 [Value.string yi, .string yo] 0 z _ (heap_new w1 (.cells z 57))
    rw [setMany_all _ _ (by rw [hz]; rfl)] at h
    exact h
  have hbz : ∀ z : Array Value, Below w.heap.size w ((w1.alloc (.cells z 57)).setCells w1.heap.size 0 [Value.string yi, .string yo]) := fun z => Below.setCells (hb1.alloc z1 _) z1 _ _
  go_wp2_with (refine wpList_store_mid rfl 57 (.tmp 8) (.tmp 19) rfl w1.heap.size 0 #[Value.string yi, .string yo] rfl rfl (hth _ rfl) size2 hone2 ?_)
  refine with_world (R := fun W => Code.wp _ _ _ _ W) (Q := fun W => Kb W w1.heap.size yi yo ∧ Below w.heap.size w W) _ ⟨hr2 _ rfl, hbz _⟩ ?_
  clear hth hone2 hr2 hbz hb1
  obtain ⟨p, hp⟩ : ∃ p, w1.heap.size = p := ⟨_, rfl⟩
  rw [hp] at z1 ⊢
  clear hp
  rintro w2 ⟨HK2, hb2⟩
  go_loopg [9, 10, 11] ((N + 31) / 32) (fun gk ov lv i wr => ∃ k : Nat, k + gk = (N + 31) / 32 ∧ i = .int .i64 ((k : Int) + 1) ∧ wr.ownsRow (p + 1) 5 1 ov (expAll key.data.toList info.data.toList k).length (Lib.byteCells (expAll key.data.toList info.data.toList k)) ∧ lv = .string (str (expLast key.data.toList info.data.toList k)) ∧ Kb wr p yi yo ∧ Below w.heap.size w wr)
  case atStart => exact ⟨0, by omega, rfl, World.ownsRow_nil _ _ _ _, rfl, HK2, hb2⟩
  case round =>
    clear HK2 hb2
    obtain ⟨k, hk', rfl, hown, rfl, HKb, hbel⟩ := hrel
    have HK : Hid (k + gk = (N + 31) / 32) := hk'
    have hk'' : k ≤ (N + 31) / 32 := by omega
    clear hk'
    have hlA := expAll_length key.data.toList info.data.toList k
    have hplt : p < wr.heap.size := heap_lt HKb
    rw [hlA] at hown
    obtain ⟨sl, cp, hov⟩ : ∃ sl cp, u9 = Value.slice sl (32 * k) cp := by
      rcases hown.2 with ⟨e, h0⟩ | ⟨g, cp, cur, e, _⟩
      · exact ⟨none, 0, by rw [e, h0]⟩
      · exact ⟨_, cp, e⟩
    subst hov
    by_cases hlt : k < (N + 31) / 32
    · have hsl : 32 * (k : Int) < (N : Int) := by omega
      have hlast := expLast_le key.data.toList info.data.toList k
      have hob := one_byte (k + 1) wr
      rw [show ((k + 1 : Nat) : Int) = (k : Int) + 1 by omega, show ((k : Int) + 1) % 256 = (k : Int) + 1 by omega] at hob
      have hbA : Below w.heap.size w (wr.alloc (.cells #[.int .u8 ((k : Int) + 1)] 5)) := hbel.alloc hbel.size _
      have hJ : joinL [str (expLast key.data.toList info.data.toList k), info, str [UInt8.ofNat (k + 1)]] = expLast key.data.toList info.data.toList k ++ (info.data.toList ++ [UInt8.ofNat (k + 1)]) := by simp [joinL, str_data]
      have hbB : Below w.heap.size w ((wr.alloc (.cells #[.int .u8 ((k : Int) + 1)] 5)).alloc (.cells #[.string (str (expLast key.data.toList info.data.toList k)), .string info, .string (str [UInt8.ofNat (k + 1)])] 9)) := hbA.alloc hbA.size _
      have hks := ksum_any yi yo (by have := HI.out.2; omega) ((wr.alloc (.cells #[.int .u8 ((k : Int) + 1)] 5)).alloc (.cells #[.string (str (expLast key.data.toList info.data.toList k)), .string info, .string (str [UInt8.ofNat (k + 1)])] 9)) (ht.below hbB (by omega)) (by have := hbB.size; omega) (some ⟨(wr.alloc (.cells #[.int .u8 ((k : Int) + 1)] 5)).heap.size, 0, none⟩) 3 3 _ (lst_three _ _ _ (wr.alloc (.cells #[.int .u8 ((k : Int) + 1)] 5))) (fun h => by cases h) (by omega) (by rw [hJ]; simp only [List.length_append, List.length_cons, List.length_nil]; rw [← size_eq]; have := HI.out.1; omega)
      rw [hJ, ← HH.out] at hks
      have HL1 : Hid (expLast key.data.toList info.data.toList (k + 1) = hmacL key.data.toList (expLast key.data.toList info.data.toList k ++ (info.data.toList ++ [UInt8.ofNat (k + 1)]))) := rfl
      rw [← HL1.out] at hks
      simp only [World.size_alloc] at hks
      have HKbB : Hid (∀ W, Below (wr.heap.size + 1 + 1) ((wr.alloc (.cells #[.int .u8 ((k : Int) + 1)] 5)).alloc (.cells #[.string (str (expLast key.data.toList info.data.toList k)), .string info, .string (str [UInt8.ofNat (k + 1)])] 9)) W → Kb W p yi yo ∧ Below w.heap.size w W ∧ W.ownsRow (p + 1) 5 1 (.slice sl (32 * k) cp) (32 * k) (Lib.byteCells (expAll key.data.toList info.data.toList k)) ∧ p + 1 ≤ W.heap.size) := fun W hb => by
        have hb : Below ((wr.alloc (.cells #[.int .u8 ((k : Int) + 1)] 5)).alloc (.cells #[.string (str (expLast key.data.toList info.data.toList k)), .string info, .string (str [UInt8.ofNat (k + 1)])] 9)).heap.size ((wr.alloc (.cells #[.int .u8 ((k : Int) + 1)] 5)).alloc (.cells #[.string (str (expLast key.data.toList info.data.toList k)), .string info, .string (str [UInt8.ofNat (k + 1)])] 9)) W := by simp only [World.size_alloc]; exact hb
        have hs := hb.size
        simp only [World.size_alloc] at hs
        refine ⟨?_, hbB.trans (hb.mono hbB.size), ?_, by omega⟩
        · exact (hb.block p (by simp; omega)).trans ((Below.heap_alloc _ _ _ (by simp; omega)).trans ((Below.heap_alloc _ _ _ hplt).trans HKb))
        · have ho := (hown.alloc (.cells #[.int .u8 ((k : Int) + 1)] 5)).alloc (.cells #[.string (str (expLast key.data.toList info.data.toList k)), .string info, .string (str [UInt8.ofNat (k + 1)])] 9)
          obtain ⟨h1, h2⟩ := ho
          refine ⟨h1, ?_⟩
          rcases h2 with h0 | ⟨g', cap', cur', f1, f2, f3, f4⟩
          · exact .inl h0
          · exact .inr ⟨g', cap', cur', f1, f2, (hb.block _ (heap_lt f3)).trans f3, f4⟩
      obtain ⟨yL', hL'⟩ : ∃ y, str (expLast key.data.toList info.data.toList (k + 1)) = y := ⟨_, rfl⟩
      have HL' : Hid (str (expLast key.data.toList info.data.toList (k + 1)) = yL') := hL'
      have hsL : yL'.size = 32 := by rw [← hL', str_size, HL1.out, hmacL_length]
      have hdL : yL'.data.toList = expLast key.data.toList info.data.toList (k + 1) := by rw [← hL', str_data]
      rw [hL'] at hks
      clear hL' HL1
      have hld : wr.heap[p]? = some (.cells #[.string yi, .string yo] 57 (0, 0)) := HKb
      revert hob hks HKbB
      generalize str (expLast key.data.toList info.data.toList k) = yL
      generalize str [UInt8.ofNat (k + 1)] = yb
      intro hob HKbB hks
      have w1' : IntKind.i64.wrap ((k : Int) + 1 + 1) = (k : Int) + 1 + 1 := by rw [IntKind.wrap_i64]; omega
      have hml : 32 * k + yL'.size ≤ maxLen := by unfold maxLen; omega
      clear hbB hbA hJ HKb hown
      go_wp2_with (refine wpList_load_row rfl 57 (.tmp 8) rfl p rfl 57 _ (0, 0) _ hld Tryd.underlying57 rfl size2 ?_)
      refine hks.mono ?_
      rintro e w3 ⟨rfl, hb3⟩
      obtain ⟨R1, R2, R3, R4⟩ := HKbB.out w3 hb3
      go_wp2_with (at_builtin; refine Go.Lib.wpList_append_own_string _ rfl _ _ 42 9 rfl (p + 1) 5 i0 Tryd.underlying42 Tryd.underlying9 hi hz0 hz1 hz2 _ _ _ rfl R3 yL' rfl hml (by omega) R4 ?_; intro v' w' hown' hgrow' _)
      have hgb := grown_below hgrow' R4 R3
      have hnext : expAll key.data.toList info.data.toList (k + 1) = expAll key.data.toList info.data.toList k ++ expLast key.data.toList info.data.toList (k + 1) := rfl
      have R5 : w'.ownsRow (p + 1) 5 1 v' (expAll key.data.toList info.data.toList (k + 1)).length (Lib.byteCells (expAll key.data.toList info.data.toList (k + 1))) := by
        rw [hnext, List.length_append, hlA, ← hdL, ← size_eq, byteCells_append]
        exact hown'
      have R6 : Kb w' p yi yo := R1.below hgb (Nat.lt_succ_self p)
      have R7 : Below w.heap.size w w' := R2.trans (hgb.mono (by omega))
      clear hown' hgrow' R1 R2 R3 R4 hgb hnext hks HKbB hob hld
      go_wp2
      go_roundg (gk - 1)
      case measure => have := HK.out; omega
      case rel => exact ⟨k + 1, by have := HK.out; omega, by go_num, R5, by rw [HL'.out], R6, R7⟩
    · have HKE : Hid (k = (N + 31) / 32) := by show _ = _; omega
      have hsl : ¬ 32 * (k : Int) < (N : Int) := by omega
      have HR : Hid (expL key.data.toList info.data.toList N = (expAll key.data.toList info.data.toList k).take N) := by show _ = _; rw [HN.out, ← HKE.out]
      have htl : ((expAll key.data.toList info.data.toList k).take N).length = N := by rw [List.length_take, hlA]; omega
      rcases hown.2 with ⟨e, h0⟩ | ⟨g, cp', cur, e, _, hg2, hg3, _, _, hg6⟩
      · simp only [Value.slice.injEq] at e
        obtain ⟨rfl, _, rfl⟩ := e
        have hk0 : k = 0 := by omega
        have hN0 : N = 0 := by omega
        subst hN0
        have HE : Hid ((expAll key.data.toList info.data.toList k).take 0 = []) := rfl
        have hcvn := convert_own (P := Tryd.prog) wr 42 9 5 0 (.slice none 0 0) [] Tryd.underlying42 Tryd.underlying5 Tryd.underlying9 (World.ownsRow_nil _ _ _ _)
        clear hown HKb
        subst hk0
        go_wp2
        go_ret2
        rw [HR.out, HE.out]
        exact ⟨rfl, hbel⟩
      · simp only [Value.slice.injEq] at e
        obtain ⟨rfl, _, rfl⟩ := e
        have hcv : ∀ cc, (convert 42 9 (.slice (some ⟨g, 0, none⟩) N cc)).run Tryd.prog wr = .ok (.string (str ((expAll key.data.toList info.data.toList k).take N))) wr := fun cc => by
          have h := run_convert_bytes_back (P := Tryd.prog) wr 42 9 5 ⟨g, 0, none⟩ cc ((expAll key.data.toList info.data.toList k).take N) Tryd.underlying42 Tryd.underlying5 Tryd.underlying9 (fun j hj => by
            have hjN : j < N := by rw [htl] at hj; exact hj
            rw [Addr.add_lit, Nat.zero_add, hown.cellAt j (by omega), Lib.byteCells, List.getElem?_map, List.getElem?_eq_getElem (by rw [hlA]; omega)]
            simp)
          rw [htl] at h
          exact h
        have hNc : (N : Int) ≤ (cp : Int) := by omega
        clear hown HKb
        revert hcv HR
        generalize (expAll key.data.toList info.data.toList k).take N = T
        intro HR hcv
        go_wp2
        go_ret2
        rw [HR.out]
        exact ⟨rfl, hbel⟩

end Go.Proofs.YtjjabkimmgcejaaDoor
