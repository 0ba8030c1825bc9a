import Derived.Test.YtbjiamaaocjbfaaGreatDoorK7M
import Derived.Test.YtbjiamaaocjbfaaGreatDoorKrT
import Derived.Test.YtbjiamaaocjbfaaGreatDoorKoM
namespace Go.Proofs.YtbjiamaaocjbfaaGreatDoor.Kr
open Go.RowKit Go.Lib Go.Deep

set_option maxRecDepth 20000 in
/-- a number within low .. low + d - 1 -/
theorem clipped_any (z : Int) (low d : Nat) (hl : low ≤ 1000) (hd0 : 1 ≤ d) (hd : d ≤ 1000000000) (w : World) :
    Calls Tryz.prog 11 #[.int .i64 z, .int .i64 (low : Int), .int .i64 ((low + d - 1 : Nat) : Int)] w fun e w' => e = .returned (.int .i64 ((low + (z % (d : Int)).toNat : Nat) : Int)) ∧ w = w' := by
  have hpos : (0 : Int) < (d : Int) := by omega
  have hne : ¬ (d : Int) = 0 := by omega
  have h1 : z.tmod (d : Int) < (d : Int) := Int.tmod_lt_of_pos z hpos
  have h2 : -(d : Int) < z.tmod (d : Int) := by
    have h := Int.tmod_lt_of_pos (-z) hpos
    rw [Int.neg_tmod] at h
    omega
  have he1 := Int.emod_nonneg z hne
  have he2 := Int.emod_lt_of_pos z hpos
  obtain ⟨r, hr⟩ := Int.eq_ofNat_of_zero_le he1
  rw [hr, Int.toNat_natCast]
  rw [hr] at he2
  have hdm : (d : Int) ∣ z.tmod d - z % d := by
    rw [Int.tmod_def, Int.emod_def]
    exact ⟨z / d - z.tdiv d, by rw [Int.mul_sub]; omega⟩
  obtain ⟨q, hq⟩ := hdm
  obtain ⟨x, hx⟩ : ∃ x, z.tmod (d : Int) = x := ⟨_, rfl⟩
  rw [hx] at h1 h2 hq
  have hcase : x = (r : Int) ∨ (x < 0 ∧ x + (d : Int) = (r : Int)) := by
    rw [hr] at hq
    have hq1 : q = 0 ∨ q = -1 := by
      have a1 : (d : Int) * q < d * 1 := by omega
      have a2 : (d : Int) * (-2) < d * q := by omega
      have b1 := Int.lt_of_mul_lt_mul_left a1 (by omega)
      have b2 := Int.lt_of_mul_lt_mul_left a2 (by omega)
      omega
    rcases hq1 with rfl | rfl
    · left; omega
    · right; omega
  obtain ⟨hi, hhi⟩ : ∃ hi, low + d - 1 = hi := ⟨_, rfl⟩
  have e1 : (hi : Int) - (low : Int) = (d : Int) - 1 := by omega
  have e2 : (d : Int) - 1 + 1 = (d : Int) := by omega
  have w1 : IntKind.i64.wrap ((d : Int) - 1) = (d : Int) - 1 := by rw [IntKind.wrap_i64]; omega
  have w2 : IntKind.i64.wrap (d : Int) = (d : Int) := by rw [IntKind.wrap_i64]; omega
  rw [hhi]
  have HC : Hid ((low + d - 1 = hi) ∧ (x = (r : Int) ∨ (x < 0 ∧ x + (d : Int) = (r : Int)))) := ⟨hhi, hcase⟩
  clear hcase hhi hq hr he1
  by_cases hx0 : x < 0
  · have HE : Hid ((((low + r : Nat) : Int)) = (low : Int) + (x + (hi : Int) - (low : Int) + 1)) := by
      show _ = _
      have := HC.out
      omega
    go_enter Tryz.func11, Tryz.ntmps11
    go_wp2
    go_ret
    exact ⟨by first | (rw [HE.out]; rfl) | (have h := HE.out; rw [Int.natCast_add] at h; rw [h]; rfl), rfl⟩
  · have HE : Hid ((((low + r : Nat) : Int)) = (low : Int) + x) := by
      show _ = _
      have := HC.out
      omega
    go_enter Tryz.func11, Tryz.ntmps11
    go_wp2
    go_ret
    exact ⟨by first | (rw [HE.out]; rfl) | (have h := HE.out; rw [Int.natCast_add] at h; rw [h]; rfl), rfl⟩

/-- what the laws ask of the program's Parse -/
def ParseC (KT : World → Prop) : Prop := ∀ (t : ByteArray) (w : World), t.size ≤ 4194304 → KT w →
    Calls Tryz.prog 12 #[.string t] w fun e w' => (∃ a n c, e = .returned (.tuple #[.agg #[.string (str (parseI t.data.toList)), .slice a n c], .int .i64 (parseE t.data.toList)]) ∧ OwnS w' w.heap.size (.slice a n c) (parseS t.data.toList)) ∧ Below w.heap.size w w'
def SumC (KT : World → Prop) : Prop := ∀ (s : ByteArray) (b : Nat) (w : World), s.size ≤ 4194304 → KT w → w.cell? ⟨b, 0, none⟩ = some (.string s) → b < w.heap.size →
    Calls Tryz.prog 13 #[.slice (some ⟨b, 0, none⟩) 1 1] w fun e w' => e = .returned (.string (str (shaL s.data.toList))) ∧ Below w.heap.size w w'
theorem ba_ne2 {a b : ByteArray} (h : a ≠ b) : ¬ a.toList = b.toList := fun e => h (by rw [toList_data, toList_data] at e; rw [← str_of a, ← str_of b, e])
theorem ba_ne {a b : ByteArray} (h : a ≠ b) : (a.toList == b.toList) = false := beq_eq_false_iff_ne.2 (ba_ne2 h)
theorem keep_cell {V W : World} {h : Nat} {x : Value} (hb : Below V.heap.size V W) (hc : V.cell? ⟨h, 0, none⟩ = some x ∧ h < V.heap.size) : W.cell? ⟨h, 0, none⟩ = some x ∧ h < W.heap.size :=
  ⟨(hb.cell (p := ⟨h, 0, none⟩) hc.2).trans hc.1, Nat.lt_of_lt_of_le hc.2 hb.size⟩
theorem new_cell (V : World) (x : Value) (t : TypeId) : (V.alloc (.cells #[x] t)).cell? ⟨V.heap.size, 0, none⟩ = some x ∧ V.heap.size < (V.alloc (.cells #[x] t)).heap.size :=
  ⟨(cell_of_heap (heap_new _ _)).trans rfl, by simp⟩

set_option maxRecDepth 20000 in
set_option maxHeartbeats 2000000 in
theorem keyringTold_walk {KT : World → Prop} (hKT : Tbl KT) (hM : MakeC KT) (hP : ParseC KT) (hS : SumC KT) (master pass coins : ByteArray) (at0 mask : Int) (more : ByteArray) (w : World) (b0 : master.size ≤ 140737488351232) (b1 : pass.size ≤ 140737488351232) (b2 : coins.size ≤ 140737488351232) (b3 : more.size ≤ 1048576) (hw : KT w) :
    Calls Tryz.prog 3 #[.string master, .string pass, .string coins, .int .i64 at0, .int .i64 mask, .string more] w fun e w' => e = .returned (.bool true) ∧ Below w.heap.size w w' := by
  have hp0 := phrase_ok pass.data.toList
  have hph := fun W => phrase_any pass (by omega) W
  have hs1 := fun W => ksized_any master 32 (by omega) (by omega) (by omega) W
  have hs2 := fun W => ksized_any coins 56 (by omega) (by omega) (by omega) W
  change ∀ W, Calls Tryz.prog _ #[_, .int .i64 32] W _ at hs1
  change ∀ W, Calls Tryz.prog _ #[_, .int .i64 56] W _ at hs2
  obtain ⟨m, hm⟩ : ∃ m, sz5 master.data.toList 32 = m := ⟨_, rfl⟩
  obtain ⟨c, hc⟩ : ∃ c, sz5 coins.data.toList 56 = c := ⟨_, rfl⟩
  have hm1 : m.length = 32 := by rw [← hm, sz5_length]
  have hc1 : c.length = 56 := by rw [← hc, sz5_length]
  rw [hm] at hs1
  rw [hc] at hs2
  have hpl : (phraseL pass.data.toList).length ≤ 256 := (of_decide_eq_true hp0).2
  generalize phraseL pass.data.toList = p at hp0 hph hpl
  clear hm hc
  obtain ⟨g1, g2, g3⟩ := make_yes (rounds := 1) hm1 hp0 rfl hc1
  have hmk := fun W (k : KT W) => hM (str m) (str p) (str c) 1 W (by rw [str_size]; omega) (by rw [str_size]; omega) (by rw [str_size]; omega) k
  simp only [str_data] at hmk
  rw [g1, g2] at hmk
  have hle := textL_le g3
  have hlen := printL_length (c.take 16) (makeS m p 1 c)
  have h1 := fun k hk => told_less g3 k hk
  have h2 := fun r hr => told_more g3 r hr
  have h3 := fun k y hk hl h => told_byte (id := c.take 16) (ss := makeS m p 1 c) k y hk hl h
  have hge : 31 ≤ (textL (c.take 16) (makeS m p 1 c)).length := textL_ge (by rw [List.length_take]; omega) _
  rw [← printL_take] at hle hge
  generalize printL (c.take 16) (makeS m p 1 c) = t at *
  clear g1 g2 g3 hm1 hc1 hpl hp0 hM
  obtain ⟨N, hN⟩ : ∃ N, t.length = N + 69 := ⟨t.length - 69, by rw [hlen]; omega⟩
  have hN1 : 31 ≤ N := by rw [List.length_take] at hge; omega
  have hN2 : N ≤ 4096 := by rw [List.length_take] at hle; omega
  rw [hN, Nat.add_sub_cancel] at h3
  clear hle hge hlen
  have HKT : Hid (∀ W, Below w.heap.size w W → KT W) := fun W h => hKT.below w W hw h
  clear hKT hw
  -- the places
  obtain ⟨k, hk⟩ : ∃ k : Nat, (at0 % ((N + 69 : Nat) : Int)).toNat = k := ⟨_, rfl⟩
  have hkl : k < N + 69 := by
    have a := Int.emod_nonneg at0 (show ((N + 69 : Nat) : Int) ≠ 0 by omega)
    have b := Int.emod_lt_of_pos at0 (show (0 : Int) < ((N + 69 : Nat) : Int) by omega)
    omega
  obtain ⟨x, hx⟩ : ∃ x : Nat, (mask % ((255 : Nat) : Int)).toNat = x := ⟨_, rfl⟩
  have hxl : x < 255 := by
    have a := Int.emod_nonneg mask (show ((255 : Nat) : Int) ≠ 0 by omega)
    have b := Int.emod_lt_of_pos mask (show (0 : Int) < ((255 : Nat) : Int) by omega)
    omega
  have hc1 := fun W => clipped_any at0 0 (N + 69) (by omega) (by omega) (by omega) W
  have hc2 := fun W => clipped_any mask 1 255 (by omega) (by omega) (by omega) W
  rw [hk, Nat.zero_add, Nat.zero_add] at hc1
  rw [hx] at hc2
  rw [show ((N + 69 - 1 : Nat) : Int) = (N : Int) + 69 - 1 by omega] at hc1
  change ∀ W, Calls Tryz.prog _ #[_, .int .i64 0, _] W _ at hc1
  change ∀ W, Calls Tryz.prog _ #[_, .int .i64 1, .int .i64 255] W _ at hc2
  clear hk hx
  obtain ⟨y, hy⟩ : ∃ y, t[k]? = some y := ⟨_, List.getElem?_eq_getElem (by omega)⟩
  have hz : (str t).size = N + 69 := by rw [str_size, hN]
  have hix := fun W => kindex_at (P := Tryz.prog) W 9 (str t) .i64 (k : Int) k y Tryz.underlying9 rfl (by rw [str_data]; exact hy)
  have hmn : (UInt8.ofNat (1 + x)).toNat = 1 + x := by rw [UInt8.toNat_ofNat']; omega
  have hxor : bits .xor .u8 (y.toNat : Int) ((1 + x : Nat) : Int) = ((y ^^^ UInt8.ofNat (1 + x)).toNat : Int) := by
    have h := u8_xor_nat y.toNat (1 + x) y.toNat_lt (by omega)
    rw [show y.toNat ^^^ (1 + x) = (y ^^^ UInt8.ofNat (1 + x)).toNat by rw [UInt8.toNat_xor, hmn]] at h
    exact h
  have hne : t[k]? ≠ some (y ^^^ UInt8.ofNat (1 + x)) := by
    rw [hy]
    intro e
    have e1 := congrArg UInt8.toNat (Option.some.inj e)
    rw [UInt8.toNat_xor, hmn] at e1
    have e2 : y.toNat ^^^ (y.toNat ^^^ (1 + x)) = 1 + x := by rw [← Nat.xor_assoc, Nat.xor_self, Nat.zero_xor]
    rw [← e1, Nat.xor_self] at e2
    omega
  obtain ⟨z, hz0⟩ : ∃ z, y ^^^ UInt8.ofNat (1 + x) = z := ⟨_, rfl⟩
  rw [hz0] at hxor hne
  have h3' := h3 k z hne (by omega)
  clear h3 hne hz0 hmn
  have HX : Hid (str (t.take k) ++ str [z] ++ str (t.drop (k + 1)) = str (t.set k z)) := by
    show _ = _
    rw [strs_append, strs_append, List.set_eq_take_append_cons_drop, if_pos (by omega)]
    simp
  have hsa := fun W => Ae.slice_take (P := Tryz.prog) W 9 Tryz.underlying9 t k (by omega)
  have hsb := fun W => Ae.slice_drop (P := Tryz.prog) W 9 Tryz.underlying9 t (k + 1) (by omega)
  have hsc := fun W => Ae.slice_take (P := Tryz.prog) W 9 Tryz.underlying9 t N (by omega)
  have hsd := fun W => Ae.slice_take (P := Tryz.prog) W 9 Tryz.underlying9 (t.set k z) N (by rw [List.length_set]; omega)
  have hp1 := fun W (q : KT W) => hP (str (t.set k z)) W (by rw [str_size, List.length_set]; omega) q
  have hp2 := fun W (q : KT W) => hP (str (t.take k)) W (by rw [str_size, List.length_take]; omega) q
  have hp3 := fun W (q : KT W) => hP (str t ++ { data := #[120] } ++ more) W (by simp only [ByteArray.size_append]; rw [hz]; show N + 69 + 1 + more.size ≤ _; omega) q
  have hq1 := fun W b (q : KT W) => hS (str ((t.set k z).take N)) b W (by rw [str_size, List.length_take]; omega) q
  have hq2 := fun W b (q : KT W) => hS (str (t.take N)) b W (by rw [str_size, List.length_take]; omega) q
  simp only [str_data] at hp1 hp2 hq1 hq2
  have n2 : parseE (t.take k) ≠ 0 := h1 k (by omega)
  have n3 : parseE (str t ++ { data := #[120] } ++ more).data.toList ≠ 0 := by
    have e : (str t ++ { data := #[120] } ++ more).data.toList = t ++ ([120] ++ more.data.toList) := by
      simp only [ByteArray.data_append, Array.toList_append, str_data, List.append_assoc]
    rw [e]
    exact h2 _ (by simp)
  obtain ⟨E1, hE1⟩ : ∃ E, parseE (t.set k z) = E := ⟨_, rfl⟩
  obtain ⟨E2, hE2⟩ : ∃ E, parseE (t.take k) = E := ⟨_, rfl⟩
  obtain ⟨E3, hE3⟩ : ∃ E, parseE (str t ++ { data := #[120] } ++ more).data.toList = E := ⟨_, rfl⟩
  have hp1 : ∀ W, KT W → Calls Tryz.prog 12 #[.string (str (t.set k z))] W fun e w' => (∃ y a n c, e = .returned (.tuple #[.agg #[.string y, .slice a n c], .int .i64 E1])) ∧ Below W.heap.size W w' := fun W q => (hp1 W q).mono (by
    rintro e w' ⟨⟨a, n, c, h, _⟩, hb⟩
    rw [hE1] at h
    exact ⟨⟨_, a, n, c, h⟩, hb⟩)
  have hp2 : ∀ W, KT W → Calls Tryz.prog 12 #[.string (str (t.take k))] W fun e w' => (∃ y a n c, e = .returned (.tuple #[.agg #[.string y, .slice a n c], .int .i64 E2])) ∧ Below W.heap.size W w' := fun W q => (hp2 W q).mono (by
    rintro e w' ⟨⟨a, n, c, h, _⟩, hb⟩
    rw [hE2] at h
    exact ⟨⟨_, a, n, c, h⟩, hb⟩)
  have hp3 : ∀ W, KT W → Calls Tryz.prog 12 #[.string (str t ++ { data := #[120] } ++ more)] W fun e w' => (∃ y a n c, e = .returned (.tuple #[.agg #[.string y, .slice a n c], .int .i64 E3])) ∧ Below W.heap.size W w' := fun W q => (hp3 W q).mono (by
    rintro e w' ⟨⟨a, n, c, h, _⟩, hb⟩
    rw [hE3] at h
    exact ⟨⟨_, a, n, c, h⟩, hb⟩)
  rw [hE2] at n2
  rw [hE3] at n3
  have n2b : (E2 != 0) = true := by simpa using n2
  have n3b : (E3 != 0) = true := by simpa using n3
  have n2c : (E2 == 0) = false := by simpa using n2
  have n3c : (E3 == 0) = false := by simpa using n3
  have HSX : Hid ((E1 = 0 → str ((t.set k z).take N) ≠ str (t.take N) ∧ str (shaL ((t.set k z).take N)) = str (shaL (t.take N)))) := fun h => by
    obtain ⟨a, b⟩ := h3' (by rw [hE1, h])
    exact ⟨fun e => a (by rw [← str_data ((t.set k z).take N), e, str_data]), by rw [b]⟩
  have H3 : Hid (E1 = 0 → (t.set k z).take N ≠ t.take N ∧ shaL ((t.set k z).take N) = shaL (t.take N)) := fun h => h3' (by rw [hE1, h])
  clear hE1 hE2 hE3 h3'
  clear h1 h2
  have HCV0 : ∀ W : World, (convert 29 9 (.slice (some ⟨W.heap.size, 0, none⟩) 1 1)).run Tryz.prog (W.alloc (.cells #[.int .u8 (z.toNat : Int)] 5)) = .ok (.string (str [z])) (W.alloc (.cells #[.int .u8 (z.toNat : Int)] 5)) := fun W =>
    run_convert_bytes_back (P := Tryz.prog) _ 29 9 5 ⟨W.heap.size, 0, none⟩ 1 [z] Tryz.underlying29 Tryz.underlying5 Tryz.underlying9 (fun j hj => by
      obtain rfl : j = 0 := by simpa using hj
      exact cells_new W #[.int .u8 (z.toNat : Int)] 5 0 _ rfl)
  obtain ⟨X, hX⟩ : ∃ X, 1 + x = X := ⟨_, rfl⟩
  rw [hX] at hc2 hxor
  have hXl : X < 256 := by omega
  have hXw : IntKind.u8.wrap (X : Int) = (X : Int) := by rw [IntKind.wrap_u8]; omega
  have hXm : (X : Int) % 256 = (X : Int) := by omega
  clear hX hxl hy
  have hyl : y.toNat < 256 := y.toNat_lt
  have hzl : z.toNat < 256 := z.toNat_lt
  generalize y.toNat = yn at hix hxor hyl
  generalize z.toNat = zn at hxor HCV0 hzl
  have hza : (str (t.take k)).size = k := by rw [str_size, List.length_take]; omega
  have hzz : (str [z]).size = 1 := str_size _
  have hzb : (str (t.drop (k + 1))).size = N + 69 - (k + 1) := by rw [str_size, List.length_drop]; omega
  have hkI : (k : Int) < ((N : Int) + 69) := by omega
  have hk63 : k ≤ 9223372036854775806 := by omega
  have hk64 : k + 1 + (N + 68 - k) ≤ 9223372036854775807 := by omega
  have hwk : IntKind.i64.wrap ((k : Int) + 1) = (k : Int) + 1 := by rw [IntKind.wrap_i64]; omega
  rw [show ((k + 1 : Nat) : Int) = (k : Int) + 1 by omega] at hsb
  have hex : ∀ (l : List UInt8) (n : Nat), (str l).extract 0 n = str (l.take n) := fun l n => by rw [← str_of ((str l).extract 0 n), extract_data, str_data, List.drop_zero, Nat.sub_zero]
  have hya := hex t k
  have hyN := hex t N
  have hxN := hex (t.set k z) N
  clear hex
  generalize str (t.take k) = ya at *
  generalize str [z] = yz at *
  generalize str (t.drop (k + 1)) = yb at *
  obtain ⟨yx, hyx⟩ : ∃ y, str (t.set k z) = y := ⟨_, rfl⟩
  rw [hyx] at hsd hp1 hxN
  have hyx2 : ya ++ yz ++ yb = yx := by rw [← hyx]; exact HX.out
  generalize str (shaL ((t.set k z).take N)) = sX at *
  generalize str (shaL (t.take N)) = sT at *
  generalize str ((t.set k z).take N) = yX at *
  generalize str (t.take N) = yT at *
  clear H3
  generalize str t = yt at *
  go_enter Tryz.func3, Tryz.ntmps3
  have hb0 := Below.refl w.heap.size w
  go_wp2_with fail
  refine (hs1 w).mono ?_
  rintro e w1 ⟨rfl, hbn⟩
  have hb1 := hb0.trans (hbn.mono hb0.size)
  clear hbn hb0
  go_wp2_with fail
  refine (hph w1).mono ?_
  rintro e w1' ⟨rfl, rfl⟩
  go_wp2_with fail
  refine (hs2 w1).mono ?_
  rintro e w2 ⟨rfl, hbn⟩
  have hb2 := hb1.trans (hbn.mono hb1.size)
  have k2 := HKT.out w2 hb2
  clear hbn hb1
  go_wp2_with fail
  refine (hmk w2 k2).mono ?_
  rintro e w3 ⟨rfl, hbn⟩
  have hb3 := hb2.trans (hbn.mono hb2.size)
  clear hbn hb2
  have hzI : ¬ ((N : Int) + 69) < 100 := by omega
  go_wp2_with (go_at_call 10; refine (knum_any _ _).mono ?_; rintro e wn ⟨rfl, rfl⟩)
  refine (hc1 w3).mono ?_
  rintro e w3' ⟨rfl, rfl⟩
  go_wp2_with fail
  --REGION1
  have HCV : Hid (∀ W : World, (convert 29 9 (.slice (some ⟨W.heap.size, 0, none⟩) 1 1)).run Tryz.prog (W.alloc (.cells #[.int .u8 (zn : Int)] 5)) = .ok (.string yz) (W.alloc (.cells #[.int .u8 (zn : Int)] 5))) := HCV0
  refine wp_region_held_drew (S := fun W => Below w.heap.size w W) (by kernel_rfl) hb3.drew ?_
  clear hb3
  generalize World.drew _ = V
  intro hS
  refine wpAnyH_take (i := 0) (oi := { dst := some 48, op := .move (.tmp 13), type := _, pos := _, after := _, guard := none }) (v := .string yt) rfl (by kernel_rfl) (by kernel_rfl) (by kernel_rfl) (fun _ _ _ h => h) (Or.inl ⟨by rfl, by intro x _; go_simp⟩) hS ?_
  (try simp only [Act.put, List.setIfInBounds_toArray, List.set_cons_zero, List.set_cons_succ])
  refine wpAnyH_take (i := 1) (oi := { dst := some 49, op := .move (.tmp 15), type := _, pos := _, after := _, guard := none }) (v := .int .i64 (k : Int)) rfl (by kernel_rfl) (by kernel_rfl) (by kernel_rfl) (fun _ _ _ h => h) (Or.inl ⟨by rfl, by intro x _; go_simp⟩) hS ?_
  (try simp only [Act.put, List.setIfInBounds_toArray, List.set_cons_zero, List.set_cons_succ])
  refine wpAnyH_take (i := 2) (oi := { dst := some 50, op := .slice 9 (.tmp 48) none (some (.tmp 49)) none, type := _, pos := _, after := _, guard := none }) (v := .string ya) rfl (by kernel_rfl) (by kernel_rfl) (by kernel_rfl) (fun _ _ _ h => h) (Or.inl ⟨by rfl, by intro x _; go_simp⟩) hS ?_
  (try simp only [Act.put, List.setIfInBounds_toArray, List.set_cons_zero, List.set_cons_succ])
  refine wpAnyH_take (i := 3) (oi := { dst := some 51, op := .move (.tmp 13), type := _, pos := _, after := _, guard := none }) (v := .string yt) rfl (by kernel_rfl) (by kernel_rfl) (by kernel_rfl) (fun _ _ _ h => h) (Or.inl ⟨by rfl, by intro x _; go_simp⟩) hS ?_
  (try simp only [Act.put, List.setIfInBounds_toArray, List.set_cons_zero, List.set_cons_succ])
  refine wpAnyH_take (i := 4) (oi := { dst := some 52, op := .move (.tmp 15), type := _, pos := _, after := _, guard := none }) (v := .int .i64 (k : Int)) rfl (by kernel_rfl) (by kernel_rfl) (by kernel_rfl) (fun _ _ _ h => h) (Or.inl ⟨by rfl, by intro x _; go_simp⟩) hS ?_
  (try simp only [Act.put, List.setIfInBounds_toArray, List.set_cons_zero, List.set_cons_succ])
  refine wpAnyH_take (i := 5) (oi := { dst := some 53, op := .index 9 (.tmp 51) (.tmp 52), type := _, pos := _, after := _, guard := none }) (v := .int .u8 (yn : Int)) rfl (by kernel_rfl) (by kernel_rfl) (by kernel_rfl) (fun _ _ _ h => h) (Or.inl ⟨by rfl, by intro x _; go_simp⟩) hS ?_
  (try simp only [Act.put, List.setIfInBounds_toArray, List.set_cons_zero, List.set_cons_succ])
  refine wpAnyH_take (i := 6) (oi := { dst := some 54, op := .move (.tmp 4), type := _, pos := _, after := _, guard := none }) (v := .int .i64 mask) rfl (by kernel_rfl) (by kernel_rfl) (by kernel_rfl) (fun _ _ _ h => h) (Or.inl ⟨by rfl, by intro x _; go_simp⟩) hS ?_
  (try simp only [Act.put, List.setIfInBounds_toArray, List.set_cons_zero, List.set_cons_succ])
  refine wpAnyH_take (i := 13) (oi := { dst := some 61, op := .move (.tmp 13), type := _, pos := _, after := _, guard := none }) (v := .string yt) rfl (by kernel_rfl) (by kernel_rfl) (by kernel_rfl) (fun _ _ _ h => h) (Or.inl ⟨by rfl, by intro x _; go_simp⟩) hS ?_
  (try simp only [Act.put, List.setIfInBounds_toArray, List.set_cons_zero, List.set_cons_succ])
  refine wpAnyH_take (i := 14) (oi := { dst := some 62, op := .move (.tmp 15), type := _, pos := _, after := _, guard := none }) (v := .int .i64 (k : Int)) rfl (by kernel_rfl) (by kernel_rfl) (by kernel_rfl) (fun _ _ _ h => h) (Or.inl ⟨by rfl, by intro x _; go_simp⟩) hS ?_
  (try simp only [Act.put, List.setIfInBounds_toArray, List.set_cons_zero, List.set_cons_succ])
  refine wpAnyH_take (i := 15) (oi := { dst := some 63, op := .binOp .add 3 (.tmp 62) (.const (.int .i64 1)) 3, type := _, pos := _, after := _, guard := none }) (v := .int .i64 ((k : Int) + 1)) rfl (by kernel_rfl) (by kernel_rfl) (by kernel_rfl) (fun _ _ _ h => h) (Or.inl ⟨by rfl, by intro x _; go_simp⟩) hS ?_
  (try simp only [Act.put, List.setIfInBounds_toArray, List.set_cons_zero, List.set_cons_succ])
  refine wpAnyH_take (i := 16) (oi := { dst := some 64, op := .slice 9 (.tmp 61) (some (.tmp 63)) none none, type := _, pos := _, after := _, guard := none }) (v := .string yb) rfl (by kernel_rfl) (by kernel_rfl) (by kernel_rfl) (fun _ _ _ h => h) (Or.inl ⟨by rfl, by intro x _; go_simp⟩) hS ?_
  (try simp only [Act.put, List.setIfInBounds_toArray, List.set_cons_zero, List.set_cons_succ])
  refine wpAnyH_ready (rs := [7]) (by kernel_rfl) (by simp) ?_
  refine AllReadyH.cons (o := { dst := some 55, op := .call { callee := .value (.func 11), args := #[.tmp 54, .const (.int .i64 1), .const (.int .i64 255)], argTypes := #[3, 3, 3] }, type := _, pos := _, after := _, guard := none }) rfl (fun K hK => ?_) AllReadyH.nil
  go_simp
  refine (hc2 V).mono ?_
  rintro e W2 ⟨rfl, rfl⟩
  refine hK.out _ _ hS (fun _ => ?_)
  clear hK K
  (try simp only [Act.put, List.setIfInBounds_toArray, List.set_cons_zero, List.set_cons_succ])
  refine wpAnyH_take (i := 8) (oi := { dst := some 56, op := .convert 3 5 (.tmp 55), type := _, pos := _, after := _, guard := none }) (v := .int .u8 (X : Int)) rfl (by kernel_rfl) (by kernel_rfl) (by kernel_rfl) (fun _ _ _ h => h) (Or.inl ⟨by rfl, by intro x _; go_simp⟩) hS ?_
  (try simp only [Act.put, List.setIfInBounds_toArray, List.set_cons_zero, List.set_cons_succ])
  refine wpAnyH_take (i := 9) (oi := { dst := some 57, op := .binOp .xor 5 (.tmp 53) (.tmp 56) 5, type := _, pos := _, after := _, guard := none }) (v := .int .u8 (zn : Int)) rfl (by kernel_rfl) (by kernel_rfl) (by kernel_rfl) (fun _ _ _ h => h) (Or.inl ⟨by rfl, by intro x _; go_simp⟩) hS ?_
  (try simp only [Act.put, List.setIfInBounds_toArray, List.set_cons_zero, List.set_cons_succ])
  refine wpAnyH_ready (rs := [10]) (by kernel_rfl) (by simp) ?_
  refine AllReadyH.cons (o := { dst := some 58, op := .buildSlice 29 1 #[(0, .tmp 57)], type := _, pos := _, after := _, guard := none }) rfl (fun K hK => ?_) AllReadyH.nil
  go_simp
  have hcv := HCV.out V
  have hS2 : Below w.heap.size w (V.alloc (.cells #[.int .u8 (zn : Int)] 5)) := hS.alloc hS.size _
  refine hK.out _ _ hS2 (fun _ => ?_)
  clear hK K
  (try simp only [Act.put, List.setIfInBounds_toArray, List.set_cons_zero, List.set_cons_succ])
  revert hcv hS2
  clear hS
  generalize V.alloc (.cells #[.int .u8 (zn : Int)] 5) = V2
  generalize V.heap.size = h
  intro hcv hS
  revert hcv hS
  generalize V2 = V
  intro hcv hS
  refine wpAnyH_ready (rs := [11]) (by kernel_rfl) (by simp) ?_
  refine AllReadyH.cons (o := { dst := some 59, op := .convert 29 9 (.tmp 58), type := _, pos := _, after := _, guard := none }) rfl (fun K hK => ?_) AllReadyH.nil
  go_simp
  refine hK.out _ _ hS (fun _ => ?_)
  clear hK K
  (try simp only [Act.put, List.setIfInBounds_toArray, List.set_cons_zero, List.set_cons_succ])
  refine wpAnyH_take (i := 12) (oi := { dst := some 60, op := .binOp .add 9 (.tmp 50) (.tmp 59) 9, type := _, pos := _, after := _, guard := none }) (v := .string (ya ++ yz)) rfl (by kernel_rfl) (by kernel_rfl) (by kernel_rfl) (fun _ _ _ h => h) (Or.inl ⟨by rfl, by intro x _; go_simp⟩) hS ?_
  (try simp only [Act.put, List.setIfInBounds_toArray, List.set_cons_zero, List.set_cons_succ])
  refine wpAnyH_take (i := 17) (oi := { dst := some 65, op := .binOp .add 9 (.tmp 60) (.tmp 64) 9, type := _, pos := _, after := _, guard := none }) (v := .string yx) rfl (by kernel_rfl) (by kernel_rfl) (by kernel_rfl) (fun _ _ _ h => h) (Or.inl ⟨by rfl, by intro x _; go_simp⟩) hS ?_
  (try simp only [Act.put, List.setIfInBounds_toArray, List.set_cons_zero, List.set_cons_succ])
  refine wpAnyH_take (i := 18) (oi := { dst := some 16, op := .assign (.tmp 65), type := _, pos := _, after := _, guard := none }) (v := .string yx) rfl (by kernel_rfl) (by kernel_rfl) (by kernel_rfl) (fun _ _ _ h => h) (Or.inl ⟨by rfl, by intro x _; go_simp⟩) hS ?_
  (try simp only [Act.put, List.setIfInBounds_toArray, List.set_cons_zero, List.set_cons_succ])
  refine wpAnyH_done (by kernel_rfl) ?_ _
  have kV := HKT.out V hS
  clear hcv HCV HCV0 hc1 hc2 hXw hXm hxor hyl hzl hza hzz hzb hsb hix
  go_wp2_with fail
  refine (hp1 V kV).mono ?_
  rintro e v1 ⟨⟨y1, a1, n1, c1, rfl⟩, hbn⟩
  have hv1 := (hS.trans (hbn.mono hS.size)).alloc (hS.trans (hbn.mono hS.size)).size (.cells #[.string y1, .slice a1 n1 c1] 32)
  have kv1 := HKT.out _ hv1
  clear hbn hS kV hp1
  go_wp2_with fail
  refine (hp2 _ kv1).mono ?_
  rintro e v2 ⟨⟨y2, a2, m2, c2, rfl⟩, hbn⟩
  have hv2 := (hv1.trans (hbn.mono hv1.size)).alloc (hv1.trans (hbn.mono hv1.size)).size (.cells #[.string y2, .slice a2 m2 c2] 32)
  have kv2 := HKT.out _ hv2
  clear hbn hv1 kv1 hp2
  have u1 : N + 69 + 1 + more.size ≤ 9223372036854775807 := by omega
  go_wp2_with fail
  refine (hp3 _ kv2).mono ?_
  rintro e v3 ⟨⟨y3, a3, m3, c3, rfl⟩, hbn⟩
  have hv3 := (hv2.trans (hbn.mono hv2.size)).alloc (hv2.trans (hbn.mono hv2.size)).size (.cells #[.string y3, .slice a3 m3 c3] 32)
  have kv3 := HKT.out _ hv3
  clear hbn hv2 kv2 hp3
  go_wp2_with fail
  by_cases hE : E1 = 0
  · obtain ⟨hne, hse⟩ := HSX.out hE
    have i1 : (yX.toList == yT.toList) = false := ba_ne hne
    have i2 : ¬ yX.toList = yT.toList := ba_ne2 hne
    subst hse
    clear HSX
    subst hE
    refine wp_region_held_drew (S := fun W => Below w.heap.size w W) (by kernel_rfl) hv3.drew ?_
    clear hv3 kv3
    generalize World.drew _ = V
    intro hS
    refine wpAnyH_take (i := 0) (oi := { dst := some 89, op := .move (.tmp 16), type := _, pos := _, after := _, guard := none }) (v := .string yx) rfl (by kernel_rfl) (by kernel_rfl) (by kernel_rfl) (fun _ _ _ h => h) (Or.inl ⟨by rfl, by intro x _; go_simp⟩) hS ?_
    (try simp only [Act.put, List.setIfInBounds_toArray, List.set_cons_zero, List.set_cons_succ])
    refine wpAnyH_take (i := 1) (oi := { dst := some 90, op := .move (.tmp 23), type := _, pos := _, after := _, guard := none }) (v := .int .i64 (N : Int)) rfl (by kernel_rfl) (by kernel_rfl) (by kernel_rfl) (fun _ _ _ h => h) (Or.inl ⟨by rfl, by intro x _; go_simp⟩) hS ?_
    (try simp only [Act.put, List.setIfInBounds_toArray, List.set_cons_zero, List.set_cons_succ])
    refine wpAnyH_take (i := 2) (oi := { dst := some 91, op := .slice 9 (.tmp 89) none (some (.tmp 90)) none, type := _, pos := _, after := _, guard := none }) (v := .string yX) rfl (by kernel_rfl) (by kernel_rfl) (by kernel_rfl) (fun _ _ _ h => h) (Or.inl ⟨by rfl, by intro x _; go_simp⟩) hS ?_
    (try simp only [Act.put, List.setIfInBounds_toArray, List.set_cons_zero, List.set_cons_succ])
    refine wpAnyH_take (i := 3) (oi := { dst := some 92, op := .move (.tmp 13), type := _, pos := _, after := _, guard := none }) (v := .string yt) rfl (by kernel_rfl) (by kernel_rfl) (by kernel_rfl) (fun _ _ _ h => h) (Or.inl ⟨by rfl, by intro x _; go_simp⟩) hS ?_
    (try simp only [Act.put, List.setIfInBounds_toArray, List.set_cons_zero, List.set_cons_succ])
    refine wpAnyH_take (i := 4) (oi := { dst := some 93, op := .move (.tmp 23), type := _, pos := _, after := _, guard := none }) (v := .int .i64 (N : Int)) rfl (by kernel_rfl) (by kernel_rfl) (by kernel_rfl) (fun _ _ _ h => h) (Or.inl ⟨by rfl, by intro x _; go_simp⟩) hS ?_
    (try simp only [Act.put, List.setIfInBounds_toArray, List.set_cons_zero, List.set_cons_succ])
    refine wpAnyH_take (i := 5) (oi := { dst := some 94, op := .slice 9 (.tmp 92) none (some (.tmp 93)) none, type := _, pos := _, after := _, guard := none }) (v := .string yT) rfl (by kernel_rfl) (by kernel_rfl) (by kernel_rfl) (fun _ _ _ h => h) (Or.inl ⟨by rfl, by intro x _; go_simp⟩) hS ?_
    (try simp only [Act.put, List.setIfInBounds_toArray, List.set_cons_zero, List.set_cons_succ])
    refine wpAnyH_take (i := 6) (oi := { dst := some 95, op := .binOp .neq 9 (.tmp 91) (.tmp 94) 9, type := _, pos := _, after := _, guard := none }) (v := .bool true) rfl (by kernel_rfl) (by kernel_rfl) (by kernel_rfl) (fun _ _ _ h => h) (Or.inl ⟨by rfl, by intro x _; go_simp⟩) hS ?_
    (try simp only [Act.put, List.setIfInBounds_toArray, List.set_cons_zero, List.set_cons_succ])
    refine wpAnyH_take (i := 7) (oi := { dst := some 96, op := .move (.tmp 95), type := _, pos := _, after := _, guard := none }) (v := .bool true) rfl (by kernel_rfl) (by kernel_rfl) (by kernel_rfl) (fun _ _ _ h => h) (Or.inl ⟨by rfl, by intro x _; go_simp⟩) hS ?_
    (try simp only [Act.put, List.setIfInBounds_toArray, List.set_cons_zero, List.set_cons_succ])
    refine wpAnyH_take (i := 8) (oi := { dst := some 97, op := .move (.tmp 16), type := _, pos := _, after := _, guard := some (7, true) }) (v := .string yx) rfl (by kernel_rfl) (by kernel_rfl) (by kernel_rfl) (fun _ _ _ h => h) (Or.inl ⟨by rfl, by intro x _; go_simp⟩) hS ?_
    (try simp only [Act.put, List.setIfInBounds_toArray, List.set_cons_zero, List.set_cons_succ])
    refine wpAnyH_take (i := 9) (oi := { dst := some 98, op := .move (.tmp 23), type := _, pos := _, after := _, guard := some (7, true) }) (v := .int .i64 (N : Int)) rfl (by kernel_rfl) (by kernel_rfl) (by kernel_rfl) (fun _ _ _ h => h) (Or.inl ⟨by rfl, by intro x _; go_simp⟩) hS ?_
    (try simp only [Act.put, List.setIfInBounds_toArray, List.set_cons_zero, List.set_cons_succ])
    refine wpAnyH_take (i := 10) (oi := { dst := some 99, op := .slice 9 (.tmp 97) none (some (.tmp 98)) none, type := _, pos := _, after := _, guard := some (7, true) }) (v := .string yX) rfl (by kernel_rfl) (by kernel_rfl) (by kernel_rfl) (fun _ _ _ h => h) (Or.inl ⟨by rfl, by intro x _; go_simp⟩) hS ?_
    (try simp only [Act.put, List.setIfInBounds_toArray, List.set_cons_zero, List.set_cons_succ])
    refine wpAnyH_take (i := 13) (oi := { dst := some 102, op := .move (.tmp 13), type := _, pos := _, after := _, guard := some (7, true) }) (v := .string yt) rfl (by kernel_rfl) (by kernel_rfl) (by kernel_rfl) (fun _ _ _ h => h) (Or.inl ⟨by rfl, by intro x _; go_simp⟩) hS ?_
    (try simp only [Act.put, List.setIfInBounds_toArray, List.set_cons_zero, List.set_cons_succ])
    refine wpAnyH_take (i := 14) (oi := { dst := some 103, op := .move (.tmp 23), type := _, pos := _, after := _, guard := some (7, true) }) (v := .int .i64 (N : Int)) rfl (by kernel_rfl) (by kernel_rfl) (by kernel_rfl) (fun _ _ _ h => h) (Or.inl ⟨by rfl, by intro x _; go_simp⟩) hS ?_
    (try simp only [Act.put, List.setIfInBounds_toArray, List.set_cons_zero, List.set_cons_succ])
    refine wpAnyH_take (i := 15) (oi := { dst := some 104, op := .slice 9 (.tmp 102) none (some (.tmp 103)) none, type := _, pos := _, after := _, guard := some (7, true) }) (v := .string yT) rfl (by kernel_rfl) (by kernel_rfl) (by kernel_rfl) (fun _ _ _ h => h) (Or.inl ⟨by rfl, by intro x _; go_simp⟩) hS ?_
    (try simp only [Act.put, List.setIfInBounds_toArray, List.set_cons_zero, List.set_cons_succ])
    refine wpAnyH_ready (rs := [11, 16]) (by kernel_rfl) (by simp) ?_
    refine AllReadyH.cons (o := { dst := some 100, op := .buildSlice 47 1 #[(0, .tmp 99)], type := _, pos := _, after := _, guard := some (7, true) }) rfl (fun K hK => ?_) (AllReadyH.cons (o := { dst := some 105, op := .buildSlice 47 1 #[(0, .tmp 104)], type := _, pos := _, after := _, guard := some (7, true) }) rfl (fun K hK => ?_) AllReadyH.nil)
    · go_simp
      have m1 := new_cell V (.string yX) 9
      have hb9 : Below V.heap.size V (V.alloc (.cells #[.string yX] 9)) := (Below.refl _ _).alloc (Nat.le_refl _) _
      have hS2 := hS.trans (hb9.mono hS.size)
      refine hK.out _ _ hS2 (fun _ => ?_)
      clear hK K
      (try simp only [Act.put, List.setIfInBounds_toArray, List.set_cons_zero, List.set_cons_succ])
      revert m1 hS2
      clear hS hb9
      generalize V.alloc (.cells #[.string yX] 9) = V2
      generalize V.heap.size = h1
      intro n1 hS
      revert n1 hS
      generalize V2 = V
      intro n1 hS
      refine wpAnyH_ready (rs := [12, 16]) (by kernel_rfl) (by simp) ?_
      refine AllReadyH.cons (o := { dst := some 101, op := .call { callee := .value (.func 13), args := #[.tmp 100], argTypes := #[47] }, type := _, pos := _, after := _, guard := some (7, true) }) rfl (fun K hK => ?_) (AllReadyH.cons (o := { dst := some 105, op := .buildSlice 47 1 #[(0, .tmp 104)], type := _, pos := _, after := _, guard := some (7, true) }) rfl (fun K hK => ?_) AllReadyH.nil)
      · go_simp
        refine (hq1 V h1 (HKT.out V hS) n1.1 n1.2).mono ?_
        rintro e W2 ⟨rfl, hbc⟩
        have m1 := keep_cell hbc n1
        have hS2 := hS.trans (hbc.mono hS.size)
        refine hK.out _ _ hS2 (fun _ => ?_)
        clear hK K
        (try simp only [Act.put, List.setIfInBounds_toArray, List.set_cons_zero, List.set_cons_succ])
        revert m1 hS2
        clear hS hbc n1
        generalize W2 = V
        intro n1 hS
        refine wpAnyH_ready (rs := [16]) (by kernel_rfl) (by simp) ?_
        refine AllReadyH.cons (o := { dst := some 105, op := .buildSlice 47 1 #[(0, .tmp 104)], type := _, pos := _, after := _, guard := some (7, true) }) rfl (fun K hK => ?_) AllReadyH.nil
        go_simp
        have m2 := new_cell V (.string yT) 9
        have hb9 : Below V.heap.size V (V.alloc (.cells #[.string yT] 9)) := (Below.refl _ _).alloc (Nat.le_refl _) _
        have m1 := keep_cell hb9 n1
        have hS2 := hS.trans (hb9.mono hS.size)
        refine hK.out _ _ hS2 (fun _ => ?_)
        clear hK K
        (try simp only [Act.put, List.setIfInBounds_toArray, List.set_cons_zero, List.set_cons_succ])
        revert m2 m1 hS2
        clear hS hb9 n1
        generalize V.alloc (.cells #[.string yT] 9) = V2
        generalize V.heap.size = h2
        intro n2 n1 hS
        revert n2 n1 hS
        generalize V2 = V
        intro n2 n1 hS
        refine wpAnyH_ready (rs := [17]) (by kernel_rfl) (by simp) ?_
        refine AllReadyH.cons (o := { dst := some 106, op := .call { callee := .value (.func 13), args := #[.tmp 105], argTypes := #[47] }, type := _, pos := _, after := _, guard := some (7, true) }) rfl (fun K hK => ?_) AllReadyH.nil
        go_simp
        refine (hq2 V h2 (HKT.out V hS) n2.1 n2.2).mono ?_
        rintro e W2 ⟨rfl, hbc⟩
        have m1 := keep_cell hbc n1
        have m2 := keep_cell hbc n2
        have hS2 := hS.trans (hbc.mono hS.size)
        refine hK.out _ _ hS2 (fun _ => ?_)
        clear hK K
        (try simp only [Act.put, List.setIfInBounds_toArray, List.set_cons_zero, List.set_cons_succ])
        revert m1 m2 hS2
        clear hS hbc n1 n2
        generalize W2 = V
        intro n1 n2 hS
        refine wpAnyH_take (i := 18) (oi := { dst := some 107, op := .binOp .eql 9 (.tmp 101) (.tmp 106) 9, type := _, pos := _, after := _, guard := some (7, true) }) (v := .bool true) rfl (by kernel_rfl) (by kernel_rfl) (by kernel_rfl) (fun _ _ _ h => h) (Or.inl ⟨by rfl, by intro x _; go_simp⟩) hS ?_
        (try simp only [Act.put, List.setIfInBounds_toArray, List.set_cons_zero, List.set_cons_succ])
        refine wpAnyH_take (i := 19) (oi := { dst := some 108, op := .pick (.tmp 96) (.tmp 107) (.const (.bool false)), type := _, pos := _, after := _, guard := none }) (v := .bool true) rfl (by kernel_rfl) (by kernel_rfl) (by kernel_rfl) (fun _ _ _ h => h) (Or.inl ⟨by rfl, by intro x _; go_simp⟩) hS ?_
        (try simp only [Act.put, List.setIfInBounds_toArray, List.set_cons_zero, List.set_cons_succ])
        refine wpAnyH_take (i := 20) (oi := { dst := some 24, op := .assign (.tmp 108), type := _, pos := _, after := _, guard := none }) (v := .bool true) rfl (by kernel_rfl) (by kernel_rfl) (by kernel_rfl) (fun _ _ _ h => h) (Or.inl ⟨by rfl, by intro x _; go_simp⟩) hS ?_
        (try simp only [Act.put, List.setIfInBounds_toArray, List.set_cons_zero, List.set_cons_succ])
        refine wpAnyH_done (by kernel_rfl) ?_ _
        go_wp2_with (go_at_call 10; refine (knum_any _ _).mono ?_; rintro e wn ⟨rfl, rfl⟩)
        go_ret
        exact ⟨by first | rfl | (simp [n2, n3]; done) | (simp [n2, n3, n1']; done), hS⟩
      · go_simp
        have m2 := new_cell V (.string yT) 9
        have hb9 : Below V.heap.size V (V.alloc (.cells #[.string yT] 9)) := (Below.refl _ _).alloc (Nat.le_refl _) _
        have m1 := keep_cell hb9 n1
        have hS2 := hS.trans (hb9.mono hS.size)
        refine hK.out _ _ hS2 (fun _ => ?_)
        clear hK K
        (try simp only [Act.put, List.setIfInBounds_toArray, List.set_cons_zero, List.set_cons_succ])
        revert m2 m1 hS2
        clear hS hb9 n1
        generalize V.alloc (.cells #[.string yT] 9) = V2
        generalize V.heap.size = h2
        intro n2 n1 hS
        revert n2 n1 hS
        generalize V2 = V
        intro n2 n1 hS
        refine wpAnyH_ready (rs := [12]) (by kernel_rfl) (by simp) ?_
        refine AllReadyH.cons (o := { dst := some 101, op := .call { callee := .value (.func 13), args := #[.tmp 100], argTypes := #[47] }, type := _, pos := _, after := _, guard := some (7, true) }) rfl (fun K hK => ?_) AllReadyH.nil
        go_simp
        refine (hq1 V h1 (HKT.out V hS) n1.1 n1.2).mono ?_
        rintro e W2 ⟨rfl, hbc⟩
        have m1 := keep_cell hbc n1
        have m2 := keep_cell hbc n2
        have hS2 := hS.trans (hbc.mono hS.size)
        refine hK.out _ _ hS2 (fun _ => ?_)
        clear hK K
        (try simp only [Act.put, List.setIfInBounds_toArray, List.set_cons_zero, List.set_cons_succ])
        revert m1 m2 hS2
        clear hS hbc n1 n2
        generalize W2 = V
        intro n1 n2 hS
        refine wpAnyH_ready (rs := [17]) (by kernel_rfl) (by simp) ?_
        refine AllReadyH.cons (o := { dst := some 106, op := .call { callee := .value (.func 13), args := #[.tmp 105], argTypes := #[47] }, type := _, pos := _, after := _, guard := some (7, true) }) rfl (fun K hK => ?_) AllReadyH.nil
        go_simp
        refine (hq2 V h2 (HKT.out V hS) n2.1 n2.2).mono ?_
        rintro e W2 ⟨rfl, hbc⟩
        have m1 := keep_cell hbc n1
        have m2 := keep_cell hbc n2
        have hS2 := hS.trans (hbc.mono hS.size)
        refine hK.out _ _ hS2 (fun _ => ?_)
        clear hK K
        (try simp only [Act.put, List.setIfInBounds_toArray, List.set_cons_zero, List.set_cons_succ])
        revert m1 m2 hS2
        clear hS hbc n1 n2
        generalize W2 = V
        intro n1 n2 hS
        refine wpAnyH_take (i := 18) (oi := { dst := some 107, op := .binOp .eql 9 (.tmp 101) (.tmp 106) 9, type := _, pos := _, after := _, guard := some (7, true) }) (v := .bool true) rfl (by kernel_rfl) (by kernel_rfl) (by kernel_rfl) (fun _ _ _ h => h) (Or.inl ⟨by rfl, by intro x _; go_simp⟩) hS ?_
        (try simp only [Act.put, List.setIfInBounds_toArray, List.set_cons_zero, List.set_cons_succ])
        refine wpAnyH_take (i := 19) (oi := { dst := some 108, op := .pick (.tmp 96) (.tmp 107) (.const (.bool false)), type := _, pos := _, after := _, guard := none }) (v := .bool true) rfl (by kernel_rfl) (by kernel_rfl) (by kernel_rfl) (fun _ _ _ h => h) (Or.inl ⟨by rfl, by intro x _; go_simp⟩) hS ?_
        (try simp only [Act.put, List.setIfInBounds_toArray, List.set_cons_zero, List.set_cons_succ])
        refine wpAnyH_take (i := 20) (oi := { dst := some 24, op := .assign (.tmp 108), type := _, pos := _, after := _, guard := none }) (v := .bool true) rfl (by kernel_rfl) (by kernel_rfl) (by kernel_rfl) (fun _ _ _ h => h) (Or.inl ⟨by rfl, by intro x _; go_simp⟩) hS ?_
        (try simp only [Act.put, List.setIfInBounds_toArray, List.set_cons_zero, List.set_cons_succ])
        refine wpAnyH_done (by kernel_rfl) ?_ _
        go_wp2_with (go_at_call 10; refine (knum_any _ _).mono ?_; rintro e wn ⟨rfl, rfl⟩)
        go_ret
        exact ⟨by first | rfl | (simp [n2, n3]; done) | (simp [n2, n3, n1']; done), hS⟩
    · go_simp
      have m2 := new_cell V (.string yT) 9
      have hb9 : Below V.heap.size V (V.alloc (.cells #[.string yT] 9)) := (Below.refl _ _).alloc (Nat.le_refl _) _
      have hS2 := hS.trans (hb9.mono hS.size)
      refine hK.out _ _ hS2 (fun _ => ?_)
      clear hK K
      (try simp only [Act.put, List.setIfInBounds_toArray, List.set_cons_zero, List.set_cons_succ])
      revert m2 hS2
      clear hS hb9
      generalize V.alloc (.cells #[.string yT] 9) = V2
      generalize V.heap.size = h2
      intro n2 hS
      revert n2 hS
      generalize V2 = V
      intro n2 hS
      refine wpAnyH_ready (rs := [11]) (by kernel_rfl) (by simp) ?_
      refine AllReadyH.cons (o := { dst := some 100, op := .buildSlice 47 1 #[(0, .tmp 99)], type := _, pos := _, after := _, guard := some (7, true) }) rfl (fun K hK => ?_) AllReadyH.nil
      go_simp
      have m1 := new_cell V (.string yX) 9
      have hb9 : Below V.heap.size V (V.alloc (.cells #[.string yX] 9)) := (Below.refl _ _).alloc (Nat.le_refl _) _
      have m2 := keep_cell hb9 n2
      have hS2 := hS.trans (hb9.mono hS.size)
      refine hK.out _ _ hS2 (fun _ => ?_)
      clear hK K
      (try simp only [Act.put, List.setIfInBounds_toArray, List.set_cons_zero, List.set_cons_succ])
      revert m1 m2 hS2
      clear hS hb9 n2
      generalize V.alloc (.cells #[.string yX] 9) = V2
      generalize V.heap.size = h1
      intro n1 n2 hS
      revert n1 n2 hS
      generalize V2 = V
      intro n1 n2 hS
      refine wpAnyH_ready (rs := [12]) (by kernel_rfl) (by simp) ?_
      refine AllReadyH.cons (o := { dst := some 101, op := .call { callee := .value (.func 13), args := #[.tmp 100], argTypes := #[47] }, type := _, pos := _, after := _, guard := some (7, true) }) rfl (fun K hK => ?_) AllReadyH.nil
      go_simp
      refine (hq1 V h1 (HKT.out V hS) n1.1 n1.2).mono ?_
      rintro e W2 ⟨rfl, hbc⟩
      have m1 := keep_cell hbc n1
      have m2 := keep_cell hbc n2
      have hS2 := hS.trans (hbc.mono hS.size)
      refine hK.out _ _ hS2 (fun _ => ?_)
      clear hK K
      (try simp only [Act.put, List.setIfInBounds_toArray, List.set_cons_zero, List.set_cons_succ])
      revert m1 m2 hS2
      clear hS hbc n1 n2
      generalize W2 = V
      intro n1 n2 hS
      refine wpAnyH_ready (rs := [17]) (by kernel_rfl) (by simp) ?_
      refine AllReadyH.cons (o := { dst := some 106, op := .call { callee := .value (.func 13), args := #[.tmp 105], argTypes := #[47] }, type := _, pos := _, after := _, guard := some (7, true) }) rfl (fun K hK => ?_) AllReadyH.nil
      go_simp
      refine (hq2 V h2 (HKT.out V hS) n2.1 n2.2).mono ?_
      rintro e W2 ⟨rfl, hbc⟩
      have m1 := keep_cell hbc n1
      have m2 := keep_cell hbc n2
      have hS2 := hS.trans (hbc.mono hS.size)
      refine hK.out _ _ hS2 (fun _ => ?_)
      clear hK K
      (try simp only [Act.put, List.setIfInBounds_toArray, List.set_cons_zero, List.set_cons_succ])
      revert m1 m2 hS2
      clear hS hbc n1 n2
      generalize W2 = V
      intro n1 n2 hS
      refine wpAnyH_take (i := 18) (oi := { dst := some 107, op := .binOp .eql 9 (.tmp 101) (.tmp 106) 9, type := _, pos := _, after := _, guard := some (7, true) }) (v := .bool true) rfl (by kernel_rfl) (by kernel_rfl) (by kernel_rfl) (fun _ _ _ h => h) (Or.inl ⟨by rfl, by intro x _; go_simp⟩) hS ?_
      (try simp only [Act.put, List.setIfInBounds_toArray, List.set_cons_zero, List.set_cons_succ])
      refine wpAnyH_take (i := 19) (oi := { dst := some 108, op := .pick (.tmp 96) (.tmp 107) (.const (.bool false)), type := _, pos := _, after := _, guard := none }) (v := .bool true) rfl (by kernel_rfl) (by kernel_rfl) (by kernel_rfl) (fun _ _ _ h => h) (Or.inl ⟨by rfl, by intro x _; go_simp⟩) hS ?_
      (try simp only [Act.put, List.setIfInBounds_toArray, List.set_cons_zero, List.set_cons_succ])
      refine wpAnyH_take (i := 20) (oi := { dst := some 24, op := .assign (.tmp 108), type := _, pos := _, after := _, guard := none }) (v := .bool true) rfl (by kernel_rfl) (by kernel_rfl) (by kernel_rfl) (fun _ _ _ h => h) (Or.inl ⟨by rfl, by intro x _; go_simp⟩) hS ?_
      (try simp only [Act.put, List.setIfInBounds_toArray, List.set_cons_zero, List.set_cons_succ])
      refine wpAnyH_done (by kernel_rfl) ?_ _
      go_wp2_with (go_at_call 10; refine (knum_any _ _).mono ?_; rintro e wn ⟨rfl, rfl⟩)
      go_ret
      exact ⟨by first | rfl | (simp [n2, n3]; done) | (simp [n2, n3, n1']; done), hS⟩
  · have n1' : ¬ E1 = 0 := hE
    have n1b : (E1 != 0) = true := by simpa using hE
    have n1c : (E1 == 0) = false := by simpa using hE
    clear HSX
    by_cases he : yX = yT
    · subst he
      refine wp_region_held_drew (S := fun W => Below w.heap.size w W) (by kernel_rfl) hv3.drew ?_
      clear hv3 kv3
      generalize World.drew _ = V
      intro hS
      refine wpAnyH_take (i := 0) (oi := { dst := some 89, op := .move (.tmp 16), type := _, pos := _, after := _, guard := none }) (v := .string yx) rfl (by kernel_rfl) (by kernel_rfl) (by kernel_rfl) (fun _ _ _ h => h) (Or.inl ⟨by rfl, by intro x _; go_simp⟩) hS ?_
      (try simp only [Act.put, List.setIfInBounds_toArray, List.set_cons_zero, List.set_cons_succ])
      refine wpAnyH_take (i := 1) (oi := { dst := some 90, op := .move (.tmp 23), type := _, pos := _, after := _, guard := none }) (v := .int .i64 (N : Int)) rfl (by kernel_rfl) (by kernel_rfl) (by kernel_rfl) (fun _ _ _ h => h) (Or.inl ⟨by rfl, by intro x _; go_simp⟩) hS ?_
      (try simp only [Act.put, List.setIfInBounds_toArray, List.set_cons_zero, List.set_cons_succ])
      refine wpAnyH_take (i := 2) (oi := { dst := some 91, op := .slice 9 (.tmp 89) none (some (.tmp 90)) none, type := _, pos := _, after := _, guard := none }) (v := .string yX) rfl (by kernel_rfl) (by kernel_rfl) (by kernel_rfl) (fun _ _ _ h => h) (Or.inl ⟨by rfl, by intro x _; go_simp⟩) hS ?_
      (try simp only [Act.put, List.setIfInBounds_toArray, List.set_cons_zero, List.set_cons_succ])
      refine wpAnyH_take (i := 3) (oi := { dst := some 92, op := .move (.tmp 13), type := _, pos := _, after := _, guard := none }) (v := .string yt) rfl (by kernel_rfl) (by kernel_rfl) (by kernel_rfl) (fun _ _ _ h => h) (Or.inl ⟨by rfl, by intro x _; go_simp⟩) hS ?_
      (try simp only [Act.put, List.setIfInBounds_toArray, List.set_cons_zero, List.set_cons_succ])
      refine wpAnyH_take (i := 4) (oi := { dst := some 93, op := .move (.tmp 23), type := _, pos := _, after := _, guard := none }) (v := .int .i64 (N : Int)) rfl (by kernel_rfl) (by kernel_rfl) (by kernel_rfl) (fun _ _ _ h => h) (Or.inl ⟨by rfl, by intro x _; go_simp⟩) hS ?_
      (try simp only [Act.put, List.setIfInBounds_toArray, List.set_cons_zero, List.set_cons_succ])
      refine wpAnyH_take (i := 5) (oi := { dst := some 94, op := .slice 9 (.tmp 92) none (some (.tmp 93)) none, type := _, pos := _, after := _, guard := none }) (v := .string yX) rfl (by kernel_rfl) (by kernel_rfl) (by kernel_rfl) (fun _ _ _ h => h) (Or.inl ⟨by rfl, by intro x _; go_simp⟩) hS ?_
      (try simp only [Act.put, List.setIfInBounds_toArray, List.set_cons_zero, List.set_cons_succ])
      refine wpAnyH_take (i := 6) (oi := { dst := some 95, op := .binOp .neq 9 (.tmp 91) (.tmp 94) 9, type := _, pos := _, after := _, guard := none }) (v := .bool false) rfl (by kernel_rfl) (by kernel_rfl) (by kernel_rfl) (fun _ _ _ h => h) (Or.inl ⟨by rfl, by intro x _; go_simp⟩) hS ?_
      (try simp only [Act.put, List.setIfInBounds_toArray, List.set_cons_zero, List.set_cons_succ])
      refine wpAnyH_take (i := 7) (oi := { dst := some 96, op := .move (.tmp 95), type := _, pos := _, after := _, guard := none }) (v := .bool false) rfl (by kernel_rfl) (by kernel_rfl) (by kernel_rfl) (fun _ _ _ h => h) (Or.inl ⟨by rfl, by intro x _; go_simp⟩) hS ?_
      (try simp only [Act.put, List.setIfInBounds_toArray, List.set_cons_zero, List.set_cons_succ])
      refine wpAnyH_take (i := 8) (oi := { dst := some 97, op := .move (.tmp 16), type := _, pos := _, after := _, guard := some (7, true) }) (v := undef) rfl (by kernel_rfl) (by kernel_rfl) (by kernel_rfl) (fun _ _ _ h => h) (Or.inr ⟨by rfl, rfl⟩) hS ?_
      (try simp only [Act.put, List.setIfInBounds_toArray, List.set_cons_zero, List.set_cons_succ])
      refine wpAnyH_take (i := 9) (oi := { dst := some 98, op := .move (.tmp 23), type := _, pos := _, after := _, guard := some (7, true) }) (v := undef) rfl (by kernel_rfl) (by kernel_rfl) (by kernel_rfl) (fun _ _ _ h => h) (Or.inr ⟨by rfl, rfl⟩) hS ?_
      (try simp only [Act.put, List.setIfInBounds_toArray, List.set_cons_zero, List.set_cons_succ])
      refine wpAnyH_take (i := 10) (oi := { dst := some 99, op := .slice 9 (.tmp 97) none (some (.tmp 98)) none, type := _, pos := _, after := _, guard := some (7, true) }) (v := undef) rfl (by kernel_rfl) (by kernel_rfl) (by kernel_rfl) (fun _ _ _ h => h) (Or.inr ⟨by rfl, rfl⟩) hS ?_
      (try simp only [Act.put, List.setIfInBounds_toArray, List.set_cons_zero, List.set_cons_succ])
      refine wpAnyH_take (i := 11) (oi := { dst := some 100, op := .buildSlice 47 1 #[(0, .tmp 99)], type := _, pos := _, after := _, guard := some (7, true) }) (v := undef) rfl (by kernel_rfl) (by kernel_rfl) (by kernel_rfl) (fun _ _ _ h => h) (Or.inr ⟨by rfl, rfl⟩) hS ?_
      (try simp only [Act.put, List.setIfInBounds_toArray, List.set_cons_zero, List.set_cons_succ])
      refine wpAnyH_take (i := 12) (oi := { dst := some 101, op := .call { callee := .value (.func 13), args := #[.tmp 100], argTypes := #[47] }, type := _, pos := _, after := _, guard := some (7, true) }) (v := undef) rfl (by kernel_rfl) (by kernel_rfl) (by kernel_rfl) (fun _ _ _ h => h) (Or.inr ⟨by rfl, rfl⟩) hS ?_
      (try simp only [Act.put, List.setIfInBounds_toArray, List.set_cons_zero, List.set_cons_succ])
      refine wpAnyH_take (i := 13) (oi := { dst := some 102, op := .move (.tmp 13), type := _, pos := _, after := _, guard := some (7, true) }) (v := undef) rfl (by kernel_rfl) (by kernel_rfl) (by kernel_rfl) (fun _ _ _ h => h) (Or.inr ⟨by rfl, rfl⟩) hS ?_
      (try simp only [Act.put, List.setIfInBounds_toArray, List.set_cons_zero, List.set_cons_succ])
      refine wpAnyH_take (i := 14) (oi := { dst := some 103, op := .move (.tmp 23), type := _, pos := _, after := _, guard := some (7, true) }) (v := undef) rfl (by kernel_rfl) (by kernel_rfl) (by kernel_rfl) (fun _ _ _ h => h) (Or.inr ⟨by rfl, rfl⟩) hS ?_
      (try simp only [Act.put, List.setIfInBounds_toArray, List.set_cons_zero, List.set_cons_succ])
      refine wpAnyH_take (i := 15) (oi := { dst := some 104, op := .slice 9 (.tmp 102) none (some (.tmp 103)) none, type := _, pos := _, after := _, guard := some (7, true) }) (v := undef) rfl (by kernel_rfl) (by kernel_rfl) (by kernel_rfl) (fun _ _ _ h => h) (Or.inr ⟨by rfl, rfl⟩) hS ?_
      (try simp only [Act.put, List.setIfInBounds_toArray, List.set_cons_zero, List.set_cons_succ])
      refine wpAnyH_take (i := 16) (oi := { dst := some 105, op := .buildSlice 47 1 #[(0, .tmp 104)], type := _, pos := _, after := _, guard := some (7, true) }) (v := undef) rfl (by kernel_rfl) (by kernel_rfl) (by kernel_rfl) (fun _ _ _ h => h) (Or.inr ⟨by rfl, rfl⟩) hS ?_
      (try simp only [Act.put, List.setIfInBounds_toArray, List.set_cons_zero, List.set_cons_succ])
      refine wpAnyH_take (i := 17) (oi := { dst := some 106, op := .call { callee := .value (.func 13), args := #[.tmp 105], argTypes := #[47] }, type := _, pos := _, after := _, guard := some (7, true) }) (v := undef) rfl (by kernel_rfl) (by kernel_rfl) (by kernel_rfl) (fun _ _ _ h => h) (Or.inr ⟨by rfl, rfl⟩) hS ?_
      (try simp only [Act.put, List.setIfInBounds_toArray, List.set_cons_zero, List.set_cons_succ])
      refine wpAnyH_take (i := 18) (oi := { dst := some 107, op := .binOp .eql 9 (.tmp 101) (.tmp 106) 9, type := _, pos := _, after := _, guard := some (7, true) }) (v := undef) rfl (by kernel_rfl) (by kernel_rfl) (by kernel_rfl) (fun _ _ _ h => h) (Or.inr ⟨by rfl, rfl⟩) hS ?_
      (try simp only [Act.put, List.setIfInBounds_toArray, List.set_cons_zero, List.set_cons_succ])
      refine wpAnyH_take (i := 19) (oi := { dst := some 108, op := .pick (.tmp 96) (.tmp 107) (.const (.bool false)), type := _, pos := _, after := _, guard := none }) (v := .bool false) rfl (by kernel_rfl) (by kernel_rfl) (by kernel_rfl) (fun _ _ _ h => h) (Or.inl ⟨by rfl, by intro x _; go_simp⟩) hS ?_
      (try simp only [Act.put, List.setIfInBounds_toArray, List.set_cons_zero, List.set_cons_succ])
      refine wpAnyH_take (i := 20) (oi := { dst := some 24, op := .assign (.tmp 108), type := _, pos := _, after := _, guard := none }) (v := .bool false) rfl (by kernel_rfl) (by kernel_rfl) (by kernel_rfl) (fun _ _ _ h => h) (Or.inl ⟨by rfl, by intro x _; go_simp⟩) hS ?_
      (try simp only [Act.put, List.setIfInBounds_toArray, List.set_cons_zero, List.set_cons_succ])
      refine wpAnyH_done (by kernel_rfl) ?_ _
      go_wp2_with (go_at_call 10; refine (knum_any _ _).mono ?_; rintro e wn ⟨rfl, rfl⟩)
      go_ret
      exact ⟨by first | rfl | (simp [n2, n3]; done) | (simp [n2, n3, n1']; done), hS⟩
    · have i1 : (yX.toList == yT.toList) = false := ba_ne he
      have i2 : ¬ yX.toList = yT.toList := ba_ne2 he
      by_cases hs9 : sX = sT
      · subst hs9
        refine wp_region_held_drew (S := fun W => Below w.heap.size w W) (by kernel_rfl) hv3.drew ?_
        clear hv3 kv3
        generalize World.drew _ = V
        intro hS
        refine wpAnyH_take (i := 0) (oi := { dst := some 89, op := .move (.tmp 16), type := _, pos := _, after := _, guard := none }) (v := .string yx) rfl (by kernel_rfl) (by kernel_rfl) (by kernel_rfl) (fun _ _ _ h => h) (Or.inl ⟨by rfl, by intro x _; go_simp⟩) hS ?_
        (try simp only [Act.put, List.setIfInBounds_toArray, List.set_cons_zero, List.set_cons_succ])
        refine wpAnyH_take (i := 1) (oi := { dst := some 90, op := .move (.tmp 23), type := _, pos := _, after := _, guard := none }) (v := .int .i64 (N : Int)) rfl (by kernel_rfl) (by kernel_rfl) (by kernel_rfl) (fun _ _ _ h => h) (Or.inl ⟨by rfl, by intro x _; go_simp⟩) hS ?_
        (try simp only [Act.put, List.setIfInBounds_toArray, List.set_cons_zero, List.set_cons_succ])
        refine wpAnyH_take (i := 2) (oi := { dst := some 91, op := .slice 9 (.tmp 89) none (some (.tmp 90)) none, type := _, pos := _, after := _, guard := none }) (v := .string yX) rfl (by kernel_rfl) (by kernel_rfl) (by kernel_rfl) (fun _ _ _ h => h) (Or.inl ⟨by rfl, by intro x _; go_simp⟩) hS ?_
        (try simp only [Act.put, List.setIfInBounds_toArray, List.set_cons_zero, List.set_cons_succ])
        refine wpAnyH_take (i := 3) (oi := { dst := some 92, op := .move (.tmp 13), type := _, pos := _, after := _, guard := none }) (v := .string yt) rfl (by kernel_rfl) (by kernel_rfl) (by kernel_rfl) (fun _ _ _ h => h) (Or.inl ⟨by rfl, by intro x _; go_simp⟩) hS ?_
        (try simp only [Act.put, List.setIfInBounds_toArray, List.set_cons_zero, List.set_cons_succ])
        refine wpAnyH_take (i := 4) (oi := { dst := some 93, op := .move (.tmp 23), type := _, pos := _, after := _, guard := none }) (v := .int .i64 (N : Int)) rfl (by kernel_rfl) (by kernel_rfl) (by kernel_rfl) (fun _ _ _ h => h) (Or.inl ⟨by rfl, by intro x _; go_simp⟩) hS ?_
        (try simp only [Act.put, List.setIfInBounds_toArray, List.set_cons_zero, List.set_cons_succ])
        refine wpAnyH_take (i := 5) (oi := { dst := some 94, op := .slice 9 (.tmp 92) none (some (.tmp 93)) none, type := _, pos := _, after := _, guard := none }) (v := .string yT) rfl (by kernel_rfl) (by kernel_rfl) (by kernel_rfl) (fun _ _ _ h => h) (Or.inl ⟨by rfl, by intro x _; go_simp⟩) hS ?_
        (try simp only [Act.put, List.setIfInBounds_toArray, List.set_cons_zero, List.set_cons_succ])
        refine wpAnyH_take (i := 6) (oi := { dst := some 95, op := .binOp .neq 9 (.tmp 91) (.tmp 94) 9, type := _, pos := _, after := _, guard := none }) (v := .bool true) rfl (by kernel_rfl) (by kernel_rfl) (by kernel_rfl) (fun _ _ _ h => h) (Or.inl ⟨by rfl, by intro x _; go_simp⟩) hS ?_
        (try simp only [Act.put, List.setIfInBounds_toArray, List.set_cons_zero, List.set_cons_succ])
        refine wpAnyH_take (i := 7) (oi := { dst := some 96, op := .move (.tmp 95), type := _, pos := _, after := _, guard := none }) (v := .bool true) rfl (by kernel_rfl) (by kernel_rfl) (by kernel_rfl) (fun _ _ _ h => h) (Or.inl ⟨by rfl, by intro x _; go_simp⟩) hS ?_
        (try simp only [Act.put, List.setIfInBounds_toArray, List.set_cons_zero, List.set_cons_succ])
        refine wpAnyH_take (i := 8) (oi := { dst := some 97, op := .move (.tmp 16), type := _, pos := _, after := _, guard := some (7, true) }) (v := .string yx) rfl (by kernel_rfl) (by kernel_rfl) (by kernel_rfl) (fun _ _ _ h => h) (Or.inl ⟨by rfl, by intro x _; go_simp⟩) hS ?_
        (try simp only [Act.put, List.setIfInBounds_toArray, List.set_cons_zero, List.set_cons_succ])
        refine wpAnyH_take (i := 9) (oi := { dst := some 98, op := .move (.tmp 23), type := _, pos := _, after := _, guard := some (7, true) }) (v := .int .i64 (N : Int)) rfl (by kernel_rfl) (by kernel_rfl) (by kernel_rfl) (fun _ _ _ h => h) (Or.inl ⟨by rfl, by intro x _; go_simp⟩) hS ?_
        (try simp only [Act.put, List.setIfInBounds_toArray, List.set_cons_zero, List.set_cons_succ])
        refine wpAnyH_take (i := 10) (oi := { dst := some 99, op := .slice 9 (.tmp 97) none (some (.tmp 98)) none, type := _, pos := _, after := _, guard := some (7, true) }) (v := .string yX) rfl (by kernel_rfl) (by kernel_rfl) (by kernel_rfl) (fun _ _ _ h => h) (Or.inl ⟨by rfl, by intro x _; go_simp⟩) hS ?_
        (try simp only [Act.put, List.setIfInBounds_toArray, List.set_cons_zero, List.set_cons_succ])
        refine wpAnyH_take (i := 13) (oi := { dst := some 102, op := .move (.tmp 13), type := _, pos := _, after := _, guard := some (7, true) }) (v := .string yt) rfl (by kernel_rfl) (by kernel_rfl) (by kernel_rfl) (fun _ _ _ h => h) (Or.inl ⟨by rfl, by intro x _; go_simp⟩) hS ?_
        (try simp only [Act.put, List.setIfInBounds_toArray, List.set_cons_zero, List.set_cons_succ])
        refine wpAnyH_take (i := 14) (oi := { dst := some 103, op := .move (.tmp 23), type := _, pos := _, after := _, guard := some (7, true) }) (v := .int .i64 (N : Int)) rfl (by kernel_rfl) (by kernel_rfl) (by kernel_rfl) (fun _ _ _ h => h) (Or.inl ⟨by rfl, by intro x _; go_simp⟩) hS ?_
        (try simp only [Act.put, List.setIfInBounds_toArray, List.set_cons_zero, List.set_cons_succ])
        refine wpAnyH_take (i := 15) (oi := { dst := some 104, op := .slice 9 (.tmp 102) none (some (.tmp 103)) none, type := _, pos := _, after := _, guard := some (7, true) }) (v := .string yT) rfl (by kernel_rfl) (by kernel_rfl) (by kernel_rfl) (fun _ _ _ h => h) (Or.inl ⟨by rfl, by intro x _; go_simp⟩) hS ?_
        (try simp only [Act.put, List.setIfInBounds_toArray, List.set_cons_zero, List.set_cons_succ])
        refine wpAnyH_ready (rs := [11, 16]) (by kernel_rfl) (by simp) ?_
        refine AllReadyH.cons (o := { dst := some 100, op := .buildSlice 47 1 #[(0, .tmp 99)], type := _, pos := _, after := _, guard := some (7, true) }) rfl (fun K hK => ?_) (AllReadyH.cons (o := { dst := some 105, op := .buildSlice 47 1 #[(0, .tmp 104)], type := _, pos := _, after := _, guard := some (7, true) }) rfl (fun K hK => ?_) AllReadyH.nil)
        · go_simp
          have m1 := new_cell V (.string yX) 9
          have hb9 : Below V.heap.size V (V.alloc (.cells #[.string yX] 9)) := (Below.refl _ _).alloc (Nat.le_refl _) _
          have hS2 := hS.trans (hb9.mono hS.size)
          refine hK.out _ _ hS2 (fun _ => ?_)
          clear hK K
          (try simp only [Act.put, List.setIfInBounds_toArray, List.set_cons_zero, List.set_cons_succ])
          revert m1 hS2
          clear hS hb9
          generalize V.alloc (.cells #[.string yX] 9) = V2
          generalize V.heap.size = h1
          intro n1 hS
          revert n1 hS
          generalize V2 = V
          intro n1 hS
          refine wpAnyH_ready (rs := [12, 16]) (by kernel_rfl) (by simp) ?_
          refine AllReadyH.cons (o := { dst := some 101, op := .call { callee := .value (.func 13), args := #[.tmp 100], argTypes := #[47] }, type := _, pos := _, after := _, guard := some (7, true) }) rfl (fun K hK => ?_) (AllReadyH.cons (o := { dst := some 105, op := .buildSlice 47 1 #[(0, .tmp 104)], type := _, pos := _, after := _, guard := some (7, true) }) rfl (fun K hK => ?_) AllReadyH.nil)
          · go_simp
            refine (hq1 V h1 (HKT.out V hS) n1.1 n1.2).mono ?_
            rintro e W2 ⟨rfl, hbc⟩
            have m1 := keep_cell hbc n1
            have hS2 := hS.trans (hbc.mono hS.size)
            refine hK.out _ _ hS2 (fun _ => ?_)
            clear hK K
            (try simp only [Act.put, List.setIfInBounds_toArray, List.set_cons_zero, List.set_cons_succ])
            revert m1 hS2
            clear hS hbc n1
            generalize W2 = V
            intro n1 hS
            refine wpAnyH_ready (rs := [16]) (by kernel_rfl) (by simp) ?_
            refine AllReadyH.cons (o := { dst := some 105, op := .buildSlice 47 1 #[(0, .tmp 104)], type := _, pos := _, after := _, guard := some (7, true) }) rfl (fun K hK => ?_) AllReadyH.nil
            go_simp
            have m2 := new_cell V (.string yT) 9
            have hb9 : Below V.heap.size V (V.alloc (.cells #[.string yT] 9)) := (Below.refl _ _).alloc (Nat.le_refl _) _
            have m1 := keep_cell hb9 n1
            have hS2 := hS.trans (hb9.mono hS.size)
            refine hK.out _ _ hS2 (fun _ => ?_)
            clear hK K
            (try simp only [Act.put, List.setIfInBounds_toArray, List.set_cons_zero, List.set_cons_succ])
            revert m2 m1 hS2
            clear hS hb9 n1
            generalize V.alloc (.cells #[.string yT] 9) = V2
            generalize V.heap.size = h2
            intro n2 n1 hS
            revert n2 n1 hS
            generalize V2 = V
            intro n2 n1 hS
            refine wpAnyH_ready (rs := [17]) (by kernel_rfl) (by simp) ?_
            refine AllReadyH.cons (o := { dst := some 106, op := .call { callee := .value (.func 13), args := #[.tmp 105], argTypes := #[47] }, type := _, pos := _, after := _, guard := some (7, true) }) rfl (fun K hK => ?_) AllReadyH.nil
            go_simp
            refine (hq2 V h2 (HKT.out V hS) n2.1 n2.2).mono ?_
            rintro e W2 ⟨rfl, hbc⟩
            have m1 := keep_cell hbc n1
            have m2 := keep_cell hbc n2
            have hS2 := hS.trans (hbc.mono hS.size)
            refine hK.out _ _ hS2 (fun _ => ?_)
            clear hK K
            (try simp only [Act.put, List.setIfInBounds_toArray, List.set_cons_zero, List.set_cons_succ])
            revert m1 m2 hS2
            clear hS hbc n1 n2
            generalize W2 = V
            intro n1 n2 hS
            refine wpAnyH_take (i := 18) (oi := { dst := some 107, op := .binOp .eql 9 (.tmp 101) (.tmp 106) 9, type := _, pos := _, after := _, guard := some (7, true) }) (v := .bool true) rfl (by kernel_rfl) (by kernel_rfl) (by kernel_rfl) (fun _ _ _ h => h) (Or.inl ⟨by rfl, by intro x _; go_simp⟩) hS ?_
            (try simp only [Act.put, List.setIfInBounds_toArray, List.set_cons_zero, List.set_cons_succ])
            refine wpAnyH_take (i := 19) (oi := { dst := some 108, op := .pick (.tmp 96) (.tmp 107) (.const (.bool false)), type := _, pos := _, after := _, guard := none }) (v := .bool true) rfl (by kernel_rfl) (by kernel_rfl) (by kernel_rfl) (fun _ _ _ h => h) (Or.inl ⟨by rfl, by intro x _; go_simp⟩) hS ?_
            (try simp only [Act.put, List.setIfInBounds_toArray, List.set_cons_zero, List.set_cons_succ])
            refine wpAnyH_take (i := 20) (oi := { dst := some 24, op := .assign (.tmp 108), type := _, pos := _, after := _, guard := none }) (v := .bool true) rfl (by kernel_rfl) (by kernel_rfl) (by kernel_rfl) (fun _ _ _ h => h) (Or.inl ⟨by rfl, by intro x _; go_simp⟩) hS ?_
            (try simp only [Act.put, List.setIfInBounds_toArray, List.set_cons_zero, List.set_cons_succ])
            refine wpAnyH_done (by kernel_rfl) ?_ _
            go_wp2_with (go_at_call 10; refine (knum_any _ _).mono ?_; rintro e wn ⟨rfl, rfl⟩)
            go_ret
            exact ⟨by first | rfl | (simp [n2, n3]; done) | (simp [n2, n3, n1']; done), hS⟩
          · go_simp
            have m2 := new_cell V (.string yT) 9
            have hb9 : Below V.heap.size V (V.alloc (.cells #[.string yT] 9)) := (Below.refl _ _).alloc (Nat.le_refl _) _
            have m1 := keep_cell hb9 n1
            have hS2 := hS.trans (hb9.mono hS.size)
            refine hK.out _ _ hS2 (fun _ => ?_)
            clear hK K
            (try simp only [Act.put, List.setIfInBounds_toArray, List.set_cons_zero, List.set_cons_succ])
            revert m2 m1 hS2
            clear hS hb9 n1
            generalize V.alloc (.cells #[.string yT] 9) = V2
            generalize V.heap.size = h2
            intro n2 n1 hS
            revert n2 n1 hS
            generalize V2 = V
            intro n2 n1 hS
            refine wpAnyH_ready (rs := [12]) (by kernel_rfl) (by simp) ?_
            refine AllReadyH.cons (o := { dst := some 101, op := .call { callee := .value (.func 13), args := #[.tmp 100], argTypes := #[47] }, type := _, pos := _, after := _, guard := some (7, true) }) rfl (fun K hK => ?_) AllReadyH.nil
            go_simp
            refine (hq1 V h1 (HKT.out V hS) n1.1 n1.2).mono ?_
            rintro e W2 ⟨rfl, hbc⟩
            have m1 := keep_cell hbc n1
            have m2 := keep_cell hbc n2
            have hS2 := hS.trans (hbc.mono hS.size)
            refine hK.out _ _ hS2 (fun _ => ?_)
            clear hK K
            (try simp only [Act.put, List.setIfInBounds_toArray, List.set_cons_zero, List.set_cons_succ])
            revert m1 m2 hS2
            clear hS hbc n1 n2
            generalize W2 = V
            intro n1 n2 hS
            refine wpAnyH_ready (rs := [17]) (by kernel_rfl) (by simp) ?_
            refine AllReadyH.cons (o := { dst := some 106, op := .call { callee := .value (.func 13), args := #[.tmp 105], argTypes := #[47] }, type := _, pos := _, after := _, guard := some (7, true) }) rfl (fun K hK => ?_) AllReadyH.nil
            go_simp
            refine (hq2 V h2 (HKT.out V hS) n2.1 n2.2).mono ?_
            rintro e W2 ⟨rfl, hbc⟩
            have m1 := keep_cell hbc n1
            have m2 := keep_cell hbc n2
            have hS2 := hS.trans (hbc.mono hS.size)
            refine hK.out _ _ hS2 (fun _ => ?_)
            clear hK K
            (try simp only [Act.put, List.setIfInBounds_toArray, List.set_cons_zero, List.set_cons_succ])
            revert m1 m2 hS2
            clear hS hbc n1 n2
            generalize W2 = V
            intro n1 n2 hS
            refine wpAnyH_take (i := 18) (oi := { dst := some 107, op := .binOp .eql 9 (.tmp 101) (.tmp 106) 9, type := _, pos := _, after := _, guard := some (7, true) }) (v := .bool true) rfl (by kernel_rfl) (by kernel_rfl) (by kernel_rfl) (fun _ _ _ h => h) (Or.inl ⟨by rfl, by intro x _; go_simp⟩) hS ?_
            (try simp only [Act.put, List.setIfInBounds_toArray, List.set_cons_zero, List.set_cons_succ])
            refine wpAnyH_take (i := 19) (oi := { dst := some 108, op := .pick (.tmp 96) (.tmp 107) (.const (.bool false)), type := _, pos := _, after := _, guard := none }) (v := .bool true) rfl (by kernel_rfl) (by kernel_rfl) (by kernel_rfl) (fun _ _ _ h => h) (Or.inl ⟨by rfl, by intro x _; go_simp⟩) hS ?_
            (try simp only [Act.put, List.setIfInBounds_toArray, List.set_cons_zero, List.set_cons_succ])
            refine wpAnyH_take (i := 20) (oi := { dst := some 24, op := .assign (.tmp 108), type := _, pos := _, after := _, guard := none }) (v := .bool true) rfl (by kernel_rfl) (by kernel_rfl) (by kernel_rfl) (fun _ _ _ h => h) (Or.inl ⟨by rfl, by intro x _; go_simp⟩) hS ?_
            (try simp only [Act.put, List.setIfInBounds_toArray, List.set_cons_zero, List.set_cons_succ])
            refine wpAnyH_done (by kernel_rfl) ?_ _
            go_wp2_with (go_at_call 10; refine (knum_any _ _).mono ?_; rintro e wn ⟨rfl, rfl⟩)
            go_ret
            exact ⟨by first | rfl | (simp [n2, n3]; done) | (simp [n2, n3, n1']; done), hS⟩
        · go_simp
          have m2 := new_cell V (.string yT) 9
          have hb9 : Below V.heap.size V (V.alloc (.cells #[.string yT] 9)) := (Below.refl _ _).alloc (Nat.le_refl _) _
          have hS2 := hS.trans (hb9.mono hS.size)
          refine hK.out _ _ hS2 (fun _ => ?_)
          clear hK K
          (try simp only [Act.put, List.setIfInBounds_toArray, List.set_cons_zero, List.set_cons_succ])
          revert m2 hS2
          clear hS hb9
          generalize V.alloc (.cells #[.string yT] 9) = V2
          generalize V.heap.size = h2
          intro n2 hS
          revert n2 hS
          generalize V2 = V
          intro n2 hS
          refine wpAnyH_ready (rs := [11]) (by kernel_rfl) (by simp) ?_
          refine AllReadyH.cons (o := { dst := some 100, op := .buildSlice 47 1 #[(0, .tmp 99)], type := _, pos := _, after := _, guard := some (7, true) }) rfl (fun K hK => ?_) AllReadyH.nil
          go_simp
          have m1 := new_cell V (.string yX) 9
          have hb9 : Below V.heap.size V (V.alloc (.cells #[.string yX] 9)) := (Below.refl _ _).alloc (Nat.le_refl _) _
          have m2 := keep_cell hb9 n2
          have hS2 := hS.trans (hb9.mono hS.size)
          refine hK.out _ _ hS2 (fun _ => ?_)
          clear hK K
          (try simp only [Act.put, List.setIfInBounds_toArray, List.set_cons_zero, List.set_cons_succ])
          revert m1 m2 hS2
          clear hS hb9 n2
          generalize V.alloc (.cells #[.string yX] 9) = V2
          generalize V.heap.size = h1
          intro n1 n2 hS
          revert n1 n2 hS
          generalize V2 = V
          intro n1 n2 hS
          refine wpAnyH_ready (rs := [12]) (by kernel_rfl) (by simp) ?_
          refine AllReadyH.cons (o := { dst := some 101, op := .call { callee := .value (.func 13), args := #[.tmp 100], argTypes := #[47] }, type := _, pos := _, after := _, guard := some (7, true) }) rfl (fun K hK => ?_) AllReadyH.nil
          go_simp
          refine (hq1 V h1 (HKT.out V hS) n1.1 n1.2).mono ?_
          rintro e W2 ⟨rfl, hbc⟩
          have m1 := keep_cell hbc n1
          have m2 := keep_cell hbc n2
          have hS2 := hS.trans (hbc.mono hS.size)
          refine hK.out _ _ hS2 (fun _ => ?_)
          clear hK K
          (try simp only [Act.put, List.setIfInBounds_toArray, List.set_cons_zero, List.set_cons_succ])
          revert m1 m2 hS2
          clear hS hbc n1 n2
          generalize W2 = V
          intro n1 n2 hS
          refine wpAnyH_ready (rs := [17]) (by kernel_rfl) (by simp) ?_
          refine AllReadyH.cons (o := { dst := some 106, op := .call { callee := .value (.func 13), args := #[.tmp 105], argTypes := #[47] }, type := _, pos := _, after := _, guard := some (7, true) }) rfl (fun K hK => ?_) AllReadyH.nil
          go_simp
          refine (hq2 V h2 (HKT.out V hS) n2.1 n2.2).mono ?_
          rintro e W2 ⟨rfl, hbc⟩
          have m1 := keep_cell hbc n1
          have m2 := keep_cell hbc n2
          have hS2 := hS.trans (hbc.mono hS.size)
          refine hK.out _ _ hS2 (fun _ => ?_)
          clear hK K
          (try simp only [Act.put, List.setIfInBounds_toArray, List.set_cons_zero, List.set_cons_succ])
          revert m1 m2 hS2
          clear hS hbc n1 n2
          generalize W2 = V
          intro n1 n2 hS
          refine wpAnyH_take (i := 18) (oi := { dst := some 107, op := .binOp .eql 9 (.tmp 101) (.tmp 106) 9, type := _, pos := _, after := _, guard := some (7, true) }) (v := .bool true) rfl (by kernel_rfl) (by kernel_rfl) (by kernel_rfl) (fun _ _ _ h => h) (Or.inl ⟨by rfl, by intro x _; go_simp⟩) hS ?_
          (try simp only [Act.put, List.setIfInBounds_toArray, List.set_cons_zero, List.set_cons_succ])
          refine wpAnyH_take (i := 19) (oi := { dst := some 108, op := .pick (.tmp 96) (.tmp 107) (.const (.bool false)), type := _, pos := _, after := _, guard := none }) (v := .bool true) rfl (by kernel_rfl) (by kernel_rfl) (by kernel_rfl) (fun _ _ _ h => h) (Or.inl ⟨by rfl, by intro x _; go_simp⟩) hS ?_
          (try simp only [Act.put, List.setIfInBounds_toArray, List.set_cons_zero, List.set_cons_succ])
          refine wpAnyH_take (i := 20) (oi := { dst := some 24, op := .assign (.tmp 108), type := _, pos := _, after := _, guard := none }) (v := .bool true) rfl (by kernel_rfl) (by kernel_rfl) (by kernel_rfl) (fun _ _ _ h => h) (Or.inl ⟨by rfl, by intro x _; go_simp⟩) hS ?_
          (try simp only [Act.put, List.setIfInBounds_toArray, List.set_cons_zero, List.set_cons_succ])
          refine wpAnyH_done (by kernel_rfl) ?_ _
          go_wp2_with (go_at_call 10; refine (knum_any _ _).mono ?_; rintro e wn ⟨rfl, rfl⟩)
          go_ret
          exact ⟨by first | rfl | (simp [n2, n3]; done) | (simp [n2, n3, n1']; done), hS⟩
      · have i3 : (sX.toList == sT.toList) = false := ba_ne hs9
        have i4 : ¬ sX.toList = sT.toList := ba_ne2 hs9
        refine wp_region_held_drew (S := fun W => Below w.heap.size w W) (by kernel_rfl) hv3.drew ?_
        clear hv3 kv3
        generalize World.drew _ = V
        intro hS
        refine wpAnyH_take (i := 0) (oi := { dst := some 89, op := .move (.tmp 16), type := _, pos := _, after := _, guard := none }) (v := .string yx) rfl (by kernel_rfl) (by kernel_rfl) (by kernel_rfl) (fun _ _ _ h => h) (Or.inl ⟨by rfl, by intro x _; go_simp⟩) hS ?_
        (try simp only [Act.put, List.setIfInBounds_toArray, List.set_cons_zero, List.set_cons_succ])
        refine wpAnyH_take (i := 1) (oi := { dst := some 90, op := .move (.tmp 23), type := _, pos := _, after := _, guard := none }) (v := .int .i64 (N : Int)) rfl (by kernel_rfl) (by kernel_rfl) (by kernel_rfl) (fun _ _ _ h => h) (Or.inl ⟨by rfl, by intro x _; go_simp⟩) hS ?_
        (try simp only [Act.put, List.setIfInBounds_toArray, List.set_cons_zero, List.set_cons_succ])
        refine wpAnyH_take (i := 2) (oi := { dst := some 91, op := .slice 9 (.tmp 89) none (some (.tmp 90)) none, type := _, pos := _, after := _, guard := none }) (v := .string yX) rfl (by kernel_rfl) (by kernel_rfl) (by kernel_rfl) (fun _ _ _ h => h) (Or.inl ⟨by rfl, by intro x _; go_simp⟩) hS ?_
        (try simp only [Act.put, List.setIfInBounds_toArray, List.set_cons_zero, List.set_cons_succ])
        refine wpAnyH_take (i := 3) (oi := { dst := some 92, op := .move (.tmp 13), type := _, pos := _, after := _, guard := none }) (v := .string yt) rfl (by kernel_rfl) (by kernel_rfl) (by kernel_rfl) (fun _ _ _ h => h) (Or.inl ⟨by rfl, by intro x _; go_simp⟩) hS ?_
        (try simp only [Act.put, List.setIfInBounds_toArray, List.set_cons_zero, List.set_cons_succ])
        refine wpAnyH_take (i := 4) (oi := { dst := some 93, op := .move (.tmp 23), type := _, pos := _, after := _, guard := none }) (v := .int .i64 (N : Int)) rfl (by kernel_rfl) (by kernel_rfl) (by kernel_rfl) (fun _ _ _ h => h) (Or.inl ⟨by rfl, by intro x _; go_simp⟩) hS ?_
        (try simp only [Act.put, List.setIfInBounds_toArray, List.set_cons_zero, List.set_cons_succ])
        refine wpAnyH_take (i := 5) (oi := { dst := some 94, op := .slice 9 (.tmp 92) none (some (.tmp 93)) none, type := _, pos := _, after := _, guard := none }) (v := .string yT) rfl (by kernel_rfl) (by kernel_rfl) (by kernel_rfl) (fun _ _ _ h => h) (Or.inl ⟨by rfl, by intro x _; go_simp⟩) hS ?_
        (try simp only [Act.put, List.setIfInBounds_toArray, List.set_cons_zero, List.set_cons_succ])
        refine wpAnyH_take (i := 6) (oi := { dst := some 95, op := .binOp .neq 9 (.tmp 91) (.tmp 94) 9, type := _, pos := _, after := _, guard := none }) (v := .bool true) rfl (by kernel_rfl) (by kernel_rfl) (by kernel_rfl) (fun _ _ _ h => h) (Or.inl ⟨by rfl, by intro x _; go_simp⟩) hS ?_
        (try simp only [Act.put, List.setIfInBounds_toArray, List.set_cons_zero, List.set_cons_succ])
        refine wpAnyH_take (i := 7) (oi := { dst := some 96, op := .move (.tmp 95), type := _, pos := _, after := _, guard := none }) (v := .bool true) rfl (by kernel_rfl) (by kernel_rfl) (by kernel_rfl) (fun _ _ _ h => h) (Or.inl ⟨by rfl, by intro x _; go_simp⟩) hS ?_
        (try simp only [Act.put, List.setIfInBounds_toArray, List.set_cons_zero, List.set_cons_succ])
        refine wpAnyH_take (i := 8) (oi := { dst := some 97, op := .move (.tmp 16), type := _, pos := _, after := _, guard := some (7, true) }) (v := .string yx) rfl (by kernel_rfl) (by kernel_rfl) (by kernel_rfl) (fun _ _ _ h => h) (Or.inl ⟨by rfl, by intro x _; go_simp⟩) hS ?_
        (try simp only [Act.put, List.setIfInBounds_toArray, List.set_cons_zero, List.set_cons_succ])
        refine wpAnyH_take (i := 9) (oi := { dst := some 98, op := .move (.tmp 23), type := _, pos := _, after := _, guard := some (7, true) }) (v := .int .i64 (N : Int)) rfl (by kernel_rfl) (by kernel_rfl) (by kernel_rfl) (fun _ _ _ h => h) (Or.inl ⟨by rfl, by intro x _; go_simp⟩) hS ?_
        (try simp only [Act.put, List.setIfInBounds_toArray, List.set_cons_zero, List.set_cons_succ])
        refine wpAnyH_take (i := 10) (oi := { dst := some 99, op := .slice 9 (.tmp 97) none (some (.tmp 98)) none, type := _, pos := _, after := _, guard := some (7, true) }) (v := .string yX) rfl (by kernel_rfl) (by kernel_rfl) (by kernel_rfl) (fun _ _ _ h => h) (Or.inl ⟨by rfl, by intro x _; go_simp⟩) hS ?_
        (try simp only [Act.put, List.setIfInBounds_toArray, List.set_cons_zero, List.set_cons_succ])
        refine wpAnyH_take (i := 13) (oi := { dst := some 102, op := .move (.tmp 13), type := _, pos := _, after := _, guard := some (7, true) }) (v := .string yt) rfl (by kernel_rfl) (by kernel_rfl) (by kernel_rfl) (fun _ _ _ h => h) (Or.inl ⟨by rfl, by intro x _; go_simp⟩) hS ?_
        (try simp only [Act.put, List.setIfInBounds_toArray, List.set_cons_zero, List.set_cons_succ])
        refine wpAnyH_take (i := 14) (oi := { dst := some 103, op := .move (.tmp 23), type := _, pos := _, after := _, guard := some (7, true) }) (v := .int .i64 (N : Int)) rfl (by kernel_rfl) (by kernel_rfl) (by kernel_rfl) (fun _ _ _ h => h) (Or.inl ⟨by rfl, by intro x _; go_simp⟩) hS ?_
        (try simp only [Act.put, List.setIfInBounds_toArray, List.set_cons_zero, List.set_cons_succ])
        refine wpAnyH_take (i := 15) (oi := { dst := some 104, op := .slice 9 (.tmp 102) none (some (.tmp 103)) none, type := _, pos := _, after := _, guard := some (7, true) }) (v := .string yT) rfl (by kernel_rfl) (by kernel_rfl) (by kernel_rfl) (fun _ _ _ h => h) (Or.inl ⟨by rfl, by intro x _; go_simp⟩) hS ?_
        (try simp only [Act.put, List.setIfInBounds_toArray, List.set_cons_zero, List.set_cons_succ])
        refine wpAnyH_ready (rs := [11, 16]) (by kernel_rfl) (by simp) ?_
        refine AllReadyH.cons (o := { dst := some 100, op := .buildSlice 47 1 #[(0, .tmp 99)], type := _, pos := _, after := _, guard := some (7, true) }) rfl (fun K hK => ?_) (AllReadyH.cons (o := { dst := some 105, op := .buildSlice 47 1 #[(0, .tmp 104)], type := _, pos := _, after := _, guard := some (7, true) }) rfl (fun K hK => ?_) AllReadyH.nil)
        · go_simp
          have m1 := new_cell V (.string yX) 9
          have hb9 : Below V.heap.size V (V.alloc (.cells #[.string yX] 9)) := (Below.refl _ _).alloc (Nat.le_refl _) _
          have hS2 := hS.trans (hb9.mono hS.size)
          refine hK.out _ _ hS2 (fun _ => ?_)
          clear hK K
          (try simp only [Act.put, List.setIfInBounds_toArray, List.set_cons_zero, List.set_cons_succ])
          revert m1 hS2
          clear hS hb9
          generalize V.alloc (.cells #[.string yX] 9) = V2
          generalize V.heap.size = h1
          intro n1 hS
          revert n1 hS
          generalize V2 = V
          intro n1 hS
          refine wpAnyH_ready (rs := [12, 16]) (by kernel_rfl) (by simp) ?_
          refine AllReadyH.cons (o := { dst := some 101, op := .call { callee := .value (.func 13), args := #[.tmp 100], argTypes := #[47] }, type := _, pos := _, after := _, guard := some (7, true) }) rfl (fun K hK => ?_) (AllReadyH.cons (o := { dst := some 105, op := .buildSlice 47 1 #[(0, .tmp 104)], type := _, pos := _, after := _, guard := some (7, true) }) rfl (fun K hK => ?_) AllReadyH.nil)
          · go_simp
            refine (hq1 V h1 (HKT.out V hS) n1.1 n1.2).mono ?_
            rintro e W2 ⟨rfl, hbc⟩
            have m1 := keep_cell hbc n1
            have hS2 := hS.trans (hbc.mono hS.size)
            refine hK.out _ _ hS2 (fun _ => ?_)
            clear hK K
            (try simp only [Act.put, List.setIfInBounds_toArray, List.set_cons_zero, List.set_cons_succ])
            revert m1 hS2
            clear hS hbc n1
            generalize W2 = V
            intro n1 hS
            refine wpAnyH_ready (rs := [16]) (by kernel_rfl) (by simp) ?_
            refine AllReadyH.cons (o := { dst := some 105, op := .buildSlice 47 1 #[(0, .tmp 104)], type := _, pos := _, after := _, guard := some (7, true) }) rfl (fun K hK => ?_) AllReadyH.nil
            go_simp
            have m2 := new_cell V (.string yT) 9
            have hb9 : Below V.heap.size V (V.alloc (.cells #[.string yT] 9)) := (Below.refl _ _).alloc (Nat.le_refl _) _
            have m1 := keep_cell hb9 n1
            have hS2 := hS.trans (hb9.mono hS.size)
            refine hK.out _ _ hS2 (fun _ => ?_)
            clear hK K
            (try simp only [Act.put, List.setIfInBounds_toArray, List.set_cons_zero, List.set_cons_succ])
            revert m2 m1 hS2
            clear hS hb9 n1
            generalize V.alloc (.cells #[.string yT] 9) = V2
            generalize V.heap.size = h2
            intro n2 n1 hS
            revert n2 n1 hS
            generalize V2 = V
            intro n2 n1 hS
            refine wpAnyH_ready (rs := [17]) (by kernel_rfl) (by simp) ?_
            refine AllReadyH.cons (o := { dst := some 106, op := .call { callee := .value (.func 13), args := #[.tmp 105], argTypes := #[47] }, type := _, pos := _, after := _, guard := some (7, true) }) rfl (fun K hK => ?_) AllReadyH.nil
            go_simp
            refine (hq2 V h2 (HKT.out V hS) n2.1 n2.2).mono ?_
            rintro e W2 ⟨rfl, hbc⟩
            have m1 := keep_cell hbc n1
            have m2 := keep_cell hbc n2
            have hS2 := hS.trans (hbc.mono hS.size)
            refine hK.out _ _ hS2 (fun _ => ?_)
            clear hK K
            (try simp only [Act.put, List.setIfInBounds_toArray, List.set_cons_zero, List.set_cons_succ])
            revert m1 m2 hS2
            clear hS hbc n1 n2
            generalize W2 = V
            intro n1 n2 hS
            refine wpAnyH_take (i := 18) (oi := { dst := some 107, op := .binOp .eql 9 (.tmp 101) (.tmp 106) 9, type := _, pos := _, after := _, guard := some (7, true) }) (v := .bool false) rfl (by kernel_rfl) (by kernel_rfl) (by kernel_rfl) (fun _ _ _ h => h) (Or.inl ⟨by rfl, by intro x _; go_simp⟩) hS ?_
            (try simp only [Act.put, List.setIfInBounds_toArray, List.set_cons_zero, List.set_cons_succ])
            refine wpAnyH_take (i := 19) (oi := { dst := some 108, op := .pick (.tmp 96) (.tmp 107) (.const (.bool false)), type := _, pos := _, after := _, guard := none }) (v := .bool false) rfl (by kernel_rfl) (by kernel_rfl) (by kernel_rfl) (fun _ _ _ h => h) (Or.inl ⟨by rfl, by intro x _; go_simp⟩) hS ?_
            (try simp only [Act.put, List.setIfInBounds_toArray, List.set_cons_zero, List.set_cons_succ])
            refine wpAnyH_take (i := 20) (oi := { dst := some 24, op := .assign (.tmp 108), type := _, pos := _, after := _, guard := none }) (v := .bool false) rfl (by kernel_rfl) (by kernel_rfl) (by kernel_rfl) (fun _ _ _ h => h) (Or.inl ⟨by rfl, by intro x _; go_simp⟩) hS ?_
            (try simp only [Act.put, List.setIfInBounds_toArray, List.set_cons_zero, List.set_cons_succ])
            refine wpAnyH_done (by kernel_rfl) ?_ _
            go_wp2_with (go_at_call 10; refine (knum_any _ _).mono ?_; rintro e wn ⟨rfl, rfl⟩)
            go_ret
            exact ⟨by first | rfl | (simp [n2, n3]; done) | (simp [n2, n3, n1']; done), hS⟩
          · go_simp
            have m2 := new_cell V (.string yT) 9
            have hb9 : Below V.heap.size V (V.alloc (.cells #[.string yT] 9)) := (Below.refl _ _).alloc (Nat.le_refl _) _
            have m1 := keep_cell hb9 n1
            have hS2 := hS.trans (hb9.mono hS.size)
            refine hK.out _ _ hS2 (fun _ => ?_)
            clear hK K
            (try simp only [Act.put, List.setIfInBounds_toArray, List.set_cons_zero, List.set_cons_succ])
            revert m2 m1 hS2
            clear hS hb9 n1
            generalize V.alloc (.cells #[.string yT] 9) = V2
            generalize V.heap.size = h2
            intro n2 n1 hS
            revert n2 n1 hS
            generalize V2 = V
            intro n2 n1 hS
            refine wpAnyH_ready (rs := [12]) (by kernel_rfl) (by simp) ?_
            refine AllReadyH.cons (o := { dst := some 101, op := .call { callee := .value (.func 13), args := #[.tmp 100], argTypes := #[47] }, type := _, pos := _, after := _, guard := some (7, true) }) rfl (fun K hK => ?_) AllReadyH.nil
            go_simp
            refine (hq1 V h1 (HKT.out V hS) n1.1 n1.2).mono ?_
            rintro e W2 ⟨rfl, hbc⟩
            have m1 := keep_cell hbc n1
            have m2 := keep_cell hbc n2
            have hS2 := hS.trans (hbc.mono hS.size)
            refine hK.out _ _ hS2 (fun _ => ?_)
            clear hK K
            (try simp only [Act.put, List.setIfInBounds_toArray, List.set_cons_zero, List.set_cons_succ])
            revert m1 m2 hS2
            clear hS hbc n1 n2
            generalize W2 = V
            intro n1 n2 hS
            refine wpAnyH_ready (rs := [17]) (by kernel_rfl) (by simp) ?_
            refine AllReadyH.cons (o := { dst := some 106, op := .call { callee := .value (.func 13), args := #[.tmp 105], argTypes := #[47] }, type := _, pos := _, after := _, guard := some (7, true) }) rfl (fun K hK => ?_) AllReadyH.nil
            go_simp
            refine (hq2 V h2 (HKT.out V hS) n2.1 n2.2).mono ?_
            rintro e W2 ⟨rfl, hbc⟩
            have m1 := keep_cell hbc n1
            have m2 := keep_cell hbc n2
            have hS2 := hS.trans (hbc.mono hS.size)
            refine hK.out _ _ hS2 (fun _ => ?_)
            clear hK K
            (try simp only [Act.put, List.setIfInBounds_toArray, List.set_cons_zero, List.set_cons_succ])
            revert m1 m2 hS2
            clear hS hbc n1 n2
            generalize W2 = V
            intro n1 n2 hS
            refine wpAnyH_take (i := 18) (oi := { dst := some 107, op := .binOp .eql 9 (.tmp 101) (.tmp 106) 9, type := _, pos := _, after := _, guard := some (7, true) }) (v := .bool false) rfl (by kernel_rfl) (by kernel_rfl) (by kernel_rfl) (fun _ _ _ h => h) (Or.inl ⟨by rfl, by intro x _; go_simp⟩) hS ?_
            (try simp only [Act.put, List.setIfInBounds_toArray, List.set_cons_zero, List.set_cons_succ])
            refine wpAnyH_take (i := 19) (oi := { dst := some 108, op := .pick (.tmp 96) (.tmp 107) (.const (.bool false)), type := _, pos := _, after := _, guard := none }) (v := .bool false) rfl (by kernel_rfl) (by kernel_rfl) (by kernel_rfl) (fun _ _ _ h => h) (Or.inl ⟨by rfl, by intro x _; go_simp⟩) hS ?_
            (try simp only [Act.put, List.setIfInBounds_toArray, List.set_cons_zero, List.set_cons_succ])
            refine wpAnyH_take (i := 20) (oi := { dst := some 24, op := .assign (.tmp 108), type := _, pos := _, after := _, guard := none }) (v := .bool false) rfl (by kernel_rfl) (by kernel_rfl) (by kernel_rfl) (fun _ _ _ h => h) (Or.inl ⟨by rfl, by intro x _; go_simp⟩) hS ?_
            (try simp only [Act.put, List.setIfInBounds_toArray, List.set_cons_zero, List.set_cons_succ])
            refine wpAnyH_done (by kernel_rfl) ?_ _
            go_wp2_with (go_at_call 10; refine (knum_any _ _).mono ?_; rintro e wn ⟨rfl, rfl⟩)
            go_ret
            exact ⟨by first | rfl | (simp [n2, n3]; done) | (simp [n2, n3, n1']; done), hS⟩
        · go_simp
          have m2 := new_cell V (.string yT) 9
          have hb9 : Below V.heap.size V (V.alloc (.cells #[.string yT] 9)) := (Below.refl _ _).alloc (Nat.le_refl _) _
          have hS2 := hS.trans (hb9.mono hS.size)
          refine hK.out _ _ hS2 (fun _ => ?_)
          clear hK K
          (try simp only [Act.put, List.setIfInBounds_toArray, List.set_cons_zero, List.set_cons_succ])
          revert m2 hS2
          clear hS hb9
          generalize V.alloc (.cells #[.string yT] 9) = V2
          generalize V.heap.size = h2
          intro n2 hS
          revert n2 hS
          generalize V2 = V
          intro n2 hS
          refine wpAnyH_ready (rs := [11]) (by kernel_rfl) (by simp) ?_
          refine AllReadyH.cons (o := { dst := some 100, op := .buildSlice 47 1 #[(0, .tmp 99)], type := _, pos := _, after := _, guard := some (7, true) }) rfl (fun K hK => ?_) AllReadyH.nil
          go_simp
          have m1 := new_cell V (.string yX) 9
          have hb9 : Below V.heap.size V (V.alloc (.cells #[.string yX] 9)) := (Below.refl _ _).alloc (Nat.le_refl _) _
          have m2 := keep_cell hb9 n2
          have hS2 := hS.trans (hb9.mono hS.size)
          refine hK.out _ _ hS2 (fun _ => ?_)
          clear hK K
          (try simp only [Act.put, List.setIfInBounds_toArray, List.set_cons_zero, List.set_cons_succ])
          revert m1 m2 hS2
          clear hS hb9 n2
          generalize V.alloc (.cells #[.string yX] 9) = V2
          generalize V.heap.size = h1
          intro n1 n2 hS
          revert n1 n2 hS
          generalize V2 = V
          intro n1 n2 hS
          refine wpAnyH_ready (rs := [12]) (by kernel_rfl) (by simp) ?_
          refine AllReadyH.cons (o := { dst := some 101, op := .call { callee := .value (.func 13), args := #[.tmp 100], argTypes := #[47] }, type := _, pos := _, after := _, guard := some (7, true) }) rfl (fun K hK => ?_) AllReadyH.nil
          go_simp
          refine (hq1 V h1 (HKT.out V hS) n1.1 n1.2).mono ?_
          rintro e W2 ⟨rfl, hbc⟩
          have m1 := keep_cell hbc n1
          have m2 := keep_cell hbc n2
          have hS2 := hS.trans (hbc.mono hS.size)
          refine hK.out _ _ hS2 (fun _ => ?_)
          clear hK K
          (try simp only [Act.put, List.setIfInBounds_toArray, List.set_cons_zero, List.set_cons_succ])
          revert m1 m2 hS2
          clear hS hbc n1 n2
          generalize W2 = V
          intro n1 n2 hS
          refine wpAnyH_ready (rs := [17]) (by kernel_rfl) (by simp) ?_
          refine AllReadyH.cons (o := { dst := some 106, op := .call { callee := .value (.func 13), args := #[.tmp 105], argTypes := #[47] }, type := _, pos := _, after := _, guard := some (7, true) }) rfl (fun K hK => ?_) AllReadyH.nil
          go_simp
          refine (hq2 V h2 (HKT.out V hS) n2.1 n2.2).mono ?_
          rintro e W2 ⟨rfl, hbc⟩
          have m1 := keep_cell hbc n1
          have m2 := keep_cell hbc n2
          have hS2 := hS.trans (hbc.mono hS.size)
          refine hK.out _ _ hS2 (fun _ => ?_)
          clear hK K
          (try simp only [Act.put, List.setIfInBounds_toArray, List.set_cons_zero, List.set_cons_succ])
          revert m1 m2 hS2
          clear hS hbc n1 n2
          generalize W2 = V
          intro n1 n2 hS
          refine wpAnyH_take (i := 18) (oi := { dst := some 107, op := .binOp .eql 9 (.tmp 101) (.tmp 106) 9, type := _, pos := _, after := _, guard := some (7, true) }) (v := .bool false) rfl (by kernel_rfl) (by kernel_rfl) (by kernel_rfl) (fun _ _ _ h => h) (Or.inl ⟨by rfl, by intro x _; go_simp⟩) hS ?_
          (try simp only [Act.put, List.setIfInBounds_toArray, List.set_cons_zero, List.set_cons_succ])
          refine wpAnyH_take (i := 19) (oi := { dst := some 108, op := .pick (.tmp 96) (.tmp 107) (.const (.bool false)), type := _, pos := _, after := _, guard := none }) (v := .bool false) rfl (by kernel_rfl) (by kernel_rfl) (by kernel_rfl) (fun _ _ _ h => h) (Or.inl ⟨by rfl, by intro x _; go_simp⟩) hS ?_
          (try simp only [Act.put, List.setIfInBounds_toArray, List.set_cons_zero, List.set_cons_succ])
          refine wpAnyH_take (i := 20) (oi := { dst := some 24, op := .assign (.tmp 108), type := _, pos := _, after := _, guard := none }) (v := .bool false) rfl (by kernel_rfl) (by kernel_rfl) (by kernel_rfl) (fun _ _ _ h => h) (Or.inl ⟨by rfl, by intro x _; go_simp⟩) hS ?_
          (try simp only [Act.put, List.setIfInBounds_toArray, List.set_cons_zero, List.set_cons_succ])
          refine wpAnyH_done (by kernel_rfl) ?_ _
          go_wp2_with (go_at_call 10; refine (knum_any _ _).mono ?_; rintro e wn ⟨rfl, rfl⟩)
          go_ret
          exact ⟨by first | rfl | (simp [n2, n3]; done) | (simp [n2, n3, n1']; done), hS⟩

end Go.Proofs.YtbjiamaaocjbfaaGreatDoor.Kr
