import Derived.Test.YtjjabkimmgcejaaDoorPasE
import Derived.Test.YtjjabkimmgcejaaDoorPasD
import Derived.Test.YtjjabkimmgcejaaDoorMkA
import Derived.Test.YtjjabkimmgcejaaDoorExpB
import Derived.Deep.RegionHeldLaw
namespace Go.Proofs.YtjjabkimmgcejaaDoor
open Go.RowKit Go.Lib

set_option maxRecDepth 20000 in
set_option maxHeartbeats 4000000 in
theorem kpbkdf_any (key salt : ByteArray) (rounds n : Int) (hk : key.size ≤ 140737488351232) (hsa : salt.size ≤ 140737488351232) (r1 : 1 ≤ rounds) (r2 : rounds ≤ 4096) (h1 : 0 ≤ n) (h2 : n ≤ 1024) (w : World) (ht : Tabs w) (h4 : 4 ≤ w.heap.size) :
    Calls Tryd.prog 20 #[.string key, .string salt, .int .i64 rounds, .int .i64 n] w fun e w' => e = .returned (.tuple #[.string (str (pasL key.data.toList salt.data.toList (rounds.toNat - 1) n.toNat)), .int .i64 0]) ∧ Below w.heap.size w w' := by
  obtain ⟨i0, hi, hz0, hz1, hz2⟩ := info_parts info5
  obtain ⟨N, rfl⟩ := Int.eq_ofNat_of_zero_le h1
  obtain ⟨R, rfl⟩ : ∃ R : Nat, rounds = (R : Int) + 1 := ⟨(rounds - 1).toNat, by omega⟩
  rw [Int.toNat_natCast, show ((R : Int) + 1).toNat - 1 = R by omega]
  have e1 : ¬ (N : Int) < 0 := by omega
  have e2 : ¬ (1024 : Int) < (N : Int) := by omega
  have e3 : ¬ (R : Int) + 1 < 1 := by omega
  have e4 : ¬ (4096 : Int) < (R : Int) + 1 := by omega
  have HT : Hid (Tabs w) := ht
  have HN : Hid (pasL key.data.toList salt.data.toList R N = (pasAll key.data.toList salt.data.toList R ((N + 31) / 32)).take N) := rfl
  have hbl := blocksOf_any key (by omega) w ht h4
  clear ht
  have HX : Hid (∀ (s : ByteArray) (p q : Nat) (W : World), s.size ≤ 281474976710656 → 4 ≤ q → Tabs W → Chn W p q (str (innerL key.data.toList)) (str (outerL key.data.toList)) s → Calls Tryd.prog 37 #[.int .i64 ((R : Int) + 1), .func (.func 49) #[] #[.pointer (some ⟨p, 0, none⟩), .pointer (some ⟨q, 0, none⟩)]] W fun e w' => ∃ g cap, e = .returned (.slice (some ⟨g, 0, none⟩) 32 cap) ∧ W.heap.size ≤ g ∧ Buf w' g (pasF key.data.toList s.data.toList R) ∧ Only [q] W w') := fun s p q W hs hq hT hc => xorOf_any key s R (by omega) hk hs p q W hq hT hc
  revert hbl HX
  generalize str (innerL key.data.toList) = yi
  generalize str (outerL key.data.toList) = yo
  intro hbl HX
  go_enter Tryd.func20, Tryd.ntmps20
  go_wp2_with fail
  refine hbl.mono ?_
  clear hbl
  rintro e w1 ⟨rfl, hb1⟩
  have z1 := hb1.size
  have hth : ∀ z : Array Value, z.size = 2 → (w1.alloc (.cells z 57)).there w1.heap.size 0 (#[Value.string yi, .string yo] : Array Value).size := fun z hz => there_of_heap (heap_new _ _) (by rw [hz]; exact Nat.le_refl 2)
  have hone2 : (#[Value.string yi, .string yo] : Array Value).all (·.oneCell') = true := all_oneCell_toArray (cs := [Value.string yi, .string yo]) (strCells_one [yi, yo])
  have hr2 : ∀ z : Array Value, z.size = 2 → Kb ((w1.alloc (.cells z 57)).setCells w1.heap.size 0 [Value.string yi, .string yo]) w1.heap.size yi yo := fun z hz => by
    have h := heap_setCells w1.heap.size 57 [Value.string yi, .string yo] 0 z _ (heap_new w1 (.cells z 57))
    rw [setMany_all _ _ (by rw [hz]; rfl)] at h
    exact h
  have hbz : ∀ z : Array Value, Below w.heap.size w ((w1.alloc (.cells z 57)).setCells w1.heap.size 0 [Value.string yi, .string yo]) := fun z => Below.setCells (hb1.alloc z1 _) z1 _ _
  go_wp2_with (refine wpList_store_mid rfl 57 (.tmp 10) (.tmp 26) rfl w1.heap.size 0 #[Value.string yi, .string yo] rfl rfl (hth _ rfl) size2 hone2 ?_)
  refine with_world (R := fun W => Code.wp _ _ _ _ W) (Q := fun W => Kb W w1.heap.size yi yo ∧ Below w.heap.size w W) _ ⟨hr2 _ rfl, hbz _⟩ ?_
  clear hth hone2 hr2 hbz hb1
  obtain ⟨p, hp⟩ : ∃ p, w1.heap.size = p := ⟨_, rfl⟩
  rw [hp] at z1 ⊢
  clear hp
  rintro w2 ⟨HK2, hb2⟩
  go_loopg [11, 12] ((N + 31) / 32) (fun gk ov i wr => ∃ k : Nat, k + gk = (N + 31) / 32 ∧ i = .int .u32 ((k : Int) + 1) ∧ wr.ownsRow (p + 1) 5 1 ov (pasAll key.data.toList salt.data.toList R k).length (Lib.byteCells (pasAll key.data.toList salt.data.toList R k)) ∧ Kb wr p yi yo ∧ Below w.heap.size w wr)
  case atStart => exact ⟨0, by omega, rfl, World.ownsRow_nil _ _ _ _, HK2, hb2⟩
  case round =>
    clear HK2 hb2
    obtain ⟨k, hk', rfl, hown, HKb, hbel⟩ := hrel
    have HK : Hid (k + gk = (N + 31) / 32) := hk'
    have hk'' : k ≤ (N + 31) / 32 := by omega
    clear hk'
    have hlA := pasAll_length key.data.toList salt.data.toList R k
    have hplt : p < wr.heap.size := heap_lt HKb
    rw [hlA] at hown
    obtain ⟨sl, cp, hov⟩ : ∃ sl cp, u11 = Value.slice sl (32 * k) cp := by
      rcases hown.2 with ⟨e, h0⟩ | ⟨g, cp, cur, e, _⟩
      · exact ⟨none, 0, by rw [e, h0]⟩
      · exact ⟨_, cp, e⟩
    subst hov
    by_cases hlt : k < (N + 31) / 32
    · have hsl : 32 * (k : Int) < (N : Int) := by omega
      have hf4 := fun W => fourBytes_any (k + 1) (by omega) W
      rw [show ((k + 1 : Nat) : Int) = (k : Int) + 1 by omega] at hf4
      have s4 : (str [0, 0, 0, UInt8.ofNat (k + 1)]).size = 4 := by rw [str_size]; rfl
      have a1 : salt.size + (str [0, 0, 0, UInt8.ofNat (k + 1)]).size ≤ 9223372036854775807 := by omega
      have HF : Hid ((salt ++ str [0, 0, 0, UInt8.ofNat (k + 1)]).data.toList = salt.data.toList ++ [0, 0, 0, UInt8.ofNat (k + 1)] ∧ (salt ++ str [0, 0, 0, UInt8.ofNat (k + 1)]).size ≤ 281474976710656) := by
        have e : (salt ++ str [0, 0, 0, UInt8.ofNat (k + 1)]).data.toList = salt.data.toList ++ [0, 0, 0, UInt8.ofNat (k + 1)] := by rw [ByteArray.data_append, Array.toList_append, str_data]
        refine ⟨e, ?_⟩
        rw [size_eq, e, List.length_append, ← size_eq]
        simp only [List.length_cons, List.length_nil]
        omega
      obtain ⟨F, hF⟩ : ∃ F, salt ++ str [0, 0, 0, UInt8.ofNat (k + 1)] = F := ⟨_, rfl⟩
      rw [hF] at HF
      clear s4
      revert hf4 a1 hF
      generalize str [0, 0, 0, UInt8.ofNat (k + 1)] = y4
      intro hf4 a1 hF
      have HA : Hid (pasAll key.data.toList salt.data.toList R (k + 1) = pasAll key.data.toList salt.data.toList R k ++ pasF key.data.toList F.data.toList R) := by
        show _ = _
        rw [HF.out.1]
        rfl
      obtain ⟨l, hl⟩ : ∃ l, pasF key.data.toList F.data.toList R = l := ⟨_, rfl⟩
      have hll : l.length = 32 := by rw [← hl, pasF_length]
      have zr := hbel.size
      have KT : Hid (∀ W W', Below wr.heap.size wr W → Below W.heap.size W W' → Below wr.heap.size wr W') := fun W W' h1 h2 => h1.trans (h2.mono h1.size)
      have KS : Hid (∀ W, Below wr.heap.size wr W → W.cell? ⟨p, 0, none⟩ = some (.string yi) ∧ W.cell? ⟨p, 1, none⟩ = some (.string yo)) := fun W h => by
        have e := (h.block p hplt).trans HKb
        exact ⟨by rw [cell_of_heap e]; rfl, by rw [cell_of_heap e]; rfl⟩
      have KS8 : Hid (∀ W W', Below wr.heap.size wr W → Below (p + 1) W W' → W'.cell? ⟨p, 0, none⟩ = some (.string yi) ∧ W'.cell? ⟨p, 1, none⟩ = some (.string yo)) := fun W W' h h' => by
        have e := (h'.block p (Nat.lt_succ_self p)).trans ((h.block p hplt).trans HKb)
        exact ⟨by rw [cell_of_heap e]; rfl, by rw [cell_of_heap e]; rfl⟩
      have KX : Hid (∀ W5 W6, Below wr.heap.size wr W5 → Below W5.heap.size W5 W6 → Chn W6 W5.heap.size (W5.heap.size + 1) yi yo F → Calls Tryd.prog 37 #[.int .i64 ((R : Int) + 1), .func (.func 49) #[] #[.pointer (some ⟨W5.heap.size, 0, none⟩), .pointer (some ⟨W5.heap.size + 1, 0, none⟩)]] W6 fun e w' => ∃ g cap, e = .returned (.slice (some ⟨g, 0, none⟩) 32 cap) ∧ Buf w' g l ∧ Below wr.heap.size wr w' ∧ w'.ownsRow (p + 1) 5 1 (.slice sl (32 * k) cp) (32 * k) (Lib.byteCells (pasAll key.data.toList salt.data.toList R k))) := fun W5 W6 h5 h6 hc => by
        have z5 := h5.size
        have h06 := h5.trans (h6.mono z5)
        refine (HX.out F _ _ W6 HF.out.2 (by omega) ((HT.out.below hbel (by omega)).below h06 (by omega)) hc).mono ?_
        rintro e w' ⟨g, cap, rfl, _, hbuf, ho⟩
        have hb : Below wr.heap.size wr w' := h06.trans (ho.below (B := wr.heap.size) h06.size (by simp; omega))
        exact ⟨g, cap, rfl, hl ▸ hbuf, hb, owns_below hown (fun j _ hj => hb.block j hj)⟩
      have HBU : Hid (∀ W g, Buf W g l → ∀ j u, (Lib.byteCells l)[j]? = some u → W.cell? ((⟨g, 0, none⟩ : Addr).add j) = some u) := fun W g hb j u hu => by
        rw [Addr.add_lit, Nat.zero_add]
        rw [Lib.byteCells, List.getElem?_map] at hu
        obtain ⟨x, hx, rfl⟩ := Option.map_eq_some_iff.1 hu
        exact hb.cell j x hx
      have hln : (Lib.byteCells l).length = 32 := by simp [Lib.byteCells, hll]
      have HS : Hid (Lib.byteCells (pasAll key.data.toList salt.data.toList R (k + 1)) = Lib.byteCells (pasAll key.data.toList salt.data.toList R k) ++ Lib.byteCells l ∧ (pasAll key.data.toList salt.data.toList R (k + 1)).length = 32 * k + 32) := by
        rw [hl] at HA
        exact ⟨by rw [HA.out, byteCells_append], by rw [pasAll_length]; omega⟩
      have hone : ∀ u ∈ Lib.byteCells l, u.oneCell' = true := byteCells_one l
      have hml : 32 * k + 32 ≤ maxLen := by unfold maxLen; omega
      have w1' : IntKind.u32.wrap ((k : Int) + 1 + 1) = (k : Int) + 1 + 1 := by rw [IntKind.wrap_u32]; omega
      have KB : Hid (Kb wr p yi yo) := HKb
      have hplt1 : p + 1 ≤ wr.heap.size := hplt
      obtain ⟨x0, x1⟩ := KS.out wr (Below.refl _ _)
      have KD : Hid (∀ n, Below wr.heap.size wr (wr.drewN n)) := fun _ => ⟨rfl, rfl, rfl, Nat.le_refl _, fun _ _ => rfl⟩
      clear HA hl hown HKb
      go_wp2_with fail
      go_region_held_law (fun W => W.cell? ⟨p, 0, none⟩ = some (.string yi) ∧ W.cell? ⟨p, 1, none⟩ = some (.string yo)) (first | exact KS.out _ (KD.out _) | exact KS.out _ hb5 | exact KS.out _ hb6 | exact KS.out _ hb7 | exact hs8 | go_keep)
        (first | (go_at_call 39; refine (hf4 _).mono ?_; rintro e w5 ⟨rfl, hb5'⟩; have hb5 := KT.out _ _ (KD.out _) hb5') | (go_at_call 38; refine (chain_any yi yo F w5).mono ?_; rintro e w6 ⟨rfl, hc6, hb6'⟩; have hb6 := KT.out _ _ hb5 hb6') | (go_at_call 37; refine (KX.out w5 w6 hb5 hb6' hc6).mono ?_; rintro e w7 ⟨g, cap, rfl, hbuf7, hb7, hown7⟩) | (refine step_append_own rfl (.tmp 33) (.tmp 41) 42 rfl (p + 1) 5 i0 (.int .u8 0) 1 1 Tryd.underlying42 hi hz0 hz1 hz2 rfl (by decide) _ _ _ (by simp [Act.eval]) hown7 ⟨g, 0, none⟩ 32 cap (Lib.byteCells l) (by simp [Act.eval]) hln (HBU.out _ _ hbuf7) hone hml (by omega) (Nat.le_trans hplt1 hb7.size) ?_; intro v8 w8 hown8 hgrow8; have hg8 := grown_below hgrow8 (Nat.le_trans hplt1 hb7.size) hown7; have hs8 := KS8.out _ _ hb7 hg8))
      all_goals
        have R5 : w8.ownsRow (p + 1) 5 1 v8 (pasAll key.data.toList salt.data.toList R (k + 1)).length (Lib.byteCells (pasAll key.data.toList salt.data.toList R (k + 1))) := by
          rw [HS.out.1, HS.out.2]
          exact hown8
        have R6 : Kb w8 p yi yo := (KB.out.below hb7 hplt).below hg8 (Nat.lt_succ_self p)
        have R7 : Below w.heap.size w w8 := (hbel.trans (hb7.mono zr)).trans (hg8.mono (by omega))
        clear hown8 hgrow8 hg8 hown7 hb7 hbuf7 hf4 x0 x1
        go_wp2
        go_roundg (gk - 1)
        case measure => have := HK.out; omega
        case rel => exact ⟨k + 1, by have := HK.out; omega, by go_num, R5, R6, R7⟩
    · have HKE : Hid (k = (N + 31) / 32) := by show _ = _; omega
      have hsl : ¬ 32 * (k : Int) < (N : Int) := by omega
      have HR : Hid (pasL key.data.toList salt.data.toList R N = (pasAll key.data.toList salt.data.toList R k).take N) := by show _ = _; rw [HN.out, ← HKE.out]
      have htl : ((pasAll key.data.toList salt.data.toList R k).take N).length = N := by rw [List.length_take, hlA]; omega
      rcases hown.2 with ⟨e, h0⟩ | ⟨g, cp', cur, e, _, hg2, hg3, _, _, hg6⟩
      · simp only [Value.slice.injEq] at e
        obtain ⟨rfl, _, rfl⟩ := e
        have hk0 : k = 0 := by omega
        have hN0 : N = 0 := by omega
        subst hN0
        have HE : Hid ((pasAll key.data.toList salt.data.toList R k).take 0 = []) := rfl
        have hcvn := convert_own (P := Tryd.prog) wr 42 9 5 0 (.slice none 0 0) [] Tryd.underlying42 Tryd.underlying5 Tryd.underlying9 (World.ownsRow_nil _ _ _ _)
        clear hown HKb
        subst hk0
        go_wp2
        go_ret2
        rw [HR.out, HE.out]
        exact ⟨rfl, hbel⟩
      · simp only [Value.slice.injEq] at e
        obtain ⟨rfl, _, rfl⟩ := e
        have hcv : ∀ cc, (convert 42 9 (.slice (some ⟨g, 0, none⟩) N cc)).run Tryd.prog wr = .ok (.string (str ((pasAll key.data.toList salt.data.toList R k).take N))) wr := fun cc => by
          have h := run_convert_bytes_back (P := Tryd.prog) wr 42 9 5 ⟨g, 0, none⟩ cc ((pasAll key.data.toList salt.data.toList R k).take N) Tryd.underlying42 Tryd.underlying5 Tryd.underlying9 (fun j hj => by
            have hjN : j < N := by rw [htl] at hj; exact hj
            rw [Addr.add_lit, Nat.zero_add, hown.cellAt j (by omega), Lib.byteCells, List.getElem?_map, List.getElem?_eq_getElem (by rw [hlA]; omega)]
            simp)
          rw [htl] at h
          exact h
        have hNc : (N : Int) ≤ (cp : Int) := by omega
        clear hown HKb
        revert hcv HR
        generalize (pasAll key.data.toList salt.data.toList R k).take N = T
        intro HR hcv
        go_wp2
        go_ret2
        rw [HR.out]
        exact ⟨rfl, hbel⟩

theorem kpbkdf_rounds (key salt : ByteArray) (rounds n : Int) (h : rounds < 1 ∨ 4096 < rounds) (w : World) :
    Calls Tryd.prog 20 #[.string key, .string salt, .int .i64 rounds, .int .i64 n] w fun e w' => e = .returned (.tuple #[.string { data := #[] }, .int .i64 30]) ∧ Below w.heap.size w w' := by
  by_cases h1 : rounds < 1
  · go_enter Tryd.func20, Tryd.ntmps20
    go_wp2
    go_ret2
    exact ⟨rfl, Below.refl _ _⟩
  · have h2 : (4096 : Int) < rounds := by omega
    go_enter Tryd.func20, Tryd.ntmps20
    go_wp2
    go_ret2
    exact ⟨rfl, Below.refl _ _⟩

theorem kpbkdf_long (key salt : ByteArray) (rounds n : Int) (r1 : 1 ≤ rounds) (r2 : rounds ≤ 4096) (h : n < 0 ∨ 1024 < n) (w : World) :
    Calls Tryd.prog 20 #[.string key, .string salt, .int .i64 rounds, .int .i64 n] w fun e w' => e = .returned (.tuple #[.string { data := #[] }, .int .i64 31]) ∧ Below w.heap.size w w' := by
  have e3 : ¬ rounds < 1 := by omega
  have e4 : ¬ 4096 < rounds := by omega
  by_cases h1 : n < 0
  · go_enter Tryd.func20, Tryd.ntmps20
    go_wp2
    go_ret2
    exact ⟨rfl, Below.refl _ _⟩
  · have h2 : (1024 : Int) < n := by omega
    go_enter Tryd.func20, Tryd.ntmps20
    go_wp2
    go_ret2
    exact ⟨rfl, Below.refl _ _⟩

end Go.Proofs.YtjjabkimmgcejaaDoor
