import Derived.Test.YtjjabkimmgcejaaDoorPasF
import Derived.Test.YtjjabkimmgcejaaDoorKdfE
import Derived.Test.YtjjabkimmgcejaaDoorBuA
import Derived.Maps.AppendAt
import Derived.Deep.RegionHeld
import Derived.Deep.Cut
namespace Go.Proofs.YtjjabkimmgcejaaDoor
open Go.RowKit Go.Lib

/-- two rows that are not one -/
def Apart (a b : Value) : Prop := ∀ g, a.ownBlock = some g → b.ownBlock ≠ some g
theorem Apart.keeps {a b : Value} (h : Apart a b) : b.ownBlock = none ∨ b.ownBlock ≠ a.ownBlock := by
  cases hb : b.ownBlock with
  | none => exact .inl rfl
  | some g => exact .inr fun e => h g e.symm hb
theorem Apart.keeps' {a b : Value} (h : Apart a b) : a.ownBlock = none ∨ a.ownBlock ≠ b.ownBlock := by
  cases ha : a.ownBlock with
  | none => exact .inl rfl
  | some g => exact .inr fun e => h g ha e.symm
theorem own_lt {w : World} {B : Nat} {e : TypeId} {s n : Nat} {v : Value} {xs : List Value} (h : w.ownsRow B e s v n xs) {g : Nat} (hg : v.ownBlock = some g) : g < w.heap.size := by
  rcases h.2 with ⟨rfl, _⟩ | ⟨g', cap, cur, rfl, _, h2, _⟩
  · simp [Value.ownBlock] at hg
  · simp [Value.ownBlock] at hg
    subst hg
    exact heap_lt h2
theorem Apart.first {w : World} {a a' b : Value} {B : Nat} {e : TypeId} {s n : Nat} {xs : List Value} (h : Apart a b) (hb : w.ownsRow B e s b n xs) (hn : a'.ownBlock = a.ownBlock ∨ a'.ownBlock = some w.heap.size) : Apart a' b := by
  intro g hg
  rcases hn with hn | hn
  · exact h g (hn ▸ hg)
  · intro e
    have := own_lt hb e
    rw [hn] at hg
    cases hg
    omega
theorem Apart.second {w : World} {a b b' : Value} {B : Nat} {e : TypeId} {s n : Nat} {xs : List Value} (h : Apart a b) (ha : w.ownsRow B e s a n xs) (hn : b'.ownBlock = b.ownBlock ∨ b'.ownBlock = some w.heap.size) : Apart a b' := by
  intro g hg
  rcases hn with hn | hn
  · rw [hn]; exact h g hg
  · rw [hn]
    intro e
    have := own_lt ha hg
    cases e
    omega

theorem owns_keptB {w w' : World} {B : Nat} {e : TypeId} {s n : Nat} {v : Value} {xs : List Value} (h : w.ownsRow B e s v n xs) (hk : ∀ k, k < w.heap.size → w'.heap[k]? = w.heap[k]?) : w'.ownsRow B e s v n xs := by
  refine ⟨h.1, ?_⟩
  rcases h.2 with h | ⟨g, cap, cur, rfl, h1, h2, h3⟩
  · exact .inl h
  · exact .inr ⟨g, cap, cur, rfl, h1, (hk g (heap_lt h2)).trans h2, h3⟩

structure TwoR (B : Nat) (a b : Value) (li lo : List UInt8) (W : World) : Prop where
  i : W.ownsRow B 5 1 a 64 (Lib.byteCells li)
  o : W.ownsRow B 5 1 b 64 (Lib.byteCells lo)
theorem TwoR.kept {B : Nat} {a b : Value} {li lo : List UInt8} {W W' : World} (h : TwoR B a b li lo W) (hk : ∀ k, k < W.heap.size → W'.heap[k]? = W.heap[k]?) : TwoR B a b li lo W' := ⟨owns_keptB h.i hk, owns_keptB h.o hk⟩

theorem fill_text (K : ByteArray) (l : List UInt8) (h : K.data.toList = l) (hl : K.size ≤ 64) : (K ++ str (List.replicate (64 - K.size) 0)).data.toList = fill64 l ∧ (K ++ str (List.replicate (64 - K.size) 0)).size = 64 := by
  have e : (K ++ str (List.replicate (64 - K.size) 0)).data.toList = fill64 l := by
    rw [ByteArray.data_append, Array.toList_append, str_data, h, fill64, zeros, ← h, ← size_eq]
  refine ⟨e, ?_⟩
  rw [size_eq, e, fill64_length l (by rw [← h, ← size_eq]; exact hl)]

set_option maxRecDepth 20000 in
set_option maxHeartbeats 4000000 in
theorem lkeyed_any (key text : ByteArray) (hk : key.size ≤ 140737488351232) (htx : text.size ≤ 281474976710656) (w : World) (ht : Tabs w) (h4 : 4 ≤ w.heap.size) :
    Calls Tryd.prog 21 #[.string key, .string text] w fun e w' => e = .returned (.string (str (hmacL key.data.toList text.data.toList))) ∧ Below w.heap.size w w' := by
  obtain ⟨i0, hi, hz0, hz1, hz2⟩ := info_parts info5
  obtain ⟨L, hL⟩ : ∃ L, fill64 (k64 key.data.toList) = L := ⟨_, rfl⟩
  have hL64 : L.length = 64 := by rw [← hL]; exact fill64_length _ (k64_le _)
  have hli : (maskL 54 L).length = 64 := by rw [maskL_length, hL64]
  have hlo : (maskL 92 L).length = 64 := by rw [maskL_length, hL64]
  have HH0 : hmacL key.data.toList text.data.toList = shaL (maskL 92 L ++ shaL (maskL 54 L ++ text.data.toList)) := by rw [← hL]; rfl
  obtain ⟨B, hB⟩ : ∃ B, w.heap.size = B := ⟨_, rfl⟩
  have HTT : Hid (∀ W, Below B w W → Tabs W ∧ 4 ≤ W.heap.size) := fun W h => by
    rw [← hB] at h
    exact ⟨ht.below h (by omega), by have := h.size; omega⟩
  have HSA : Hid (∀ W, Below B w W → Calls Tryd.prog 10 #[.slice (some ⟨W.heap.size, 0, none⟩) 2 2] (W.alloc (.cells #[.string (str (maskL 54 L)), .string text] 9)) fun e w' => e = .returned (.string (str (shaL (maskL 54 L ++ text.data.toList)))) ∧ Below W.heap.size W w') := fun W h => by
    have hs := sum_two (str (maskL 54 L)) text W (HTT.out W h).1 (HTT.out W h).2 (by rw [str_size, hli]; omega)
    rwa [str_data] at hs
  have HSB : Hid (∀ W, Below B w W → Calls Tryd.prog 10 #[.slice (some ⟨W.heap.size, 0, none⟩) 2 2] (W.alloc (.cells #[.string (str (maskL 92 L)), .string (str (shaL (maskL 54 L ++ text.data.toList)))] 9)) fun e w' => e = .returned (.string (str (shaL (maskL 92 L ++ shaL (maskL 54 L ++ text.data.toList))))) ∧ Below W.heap.size W w') := fun W h => by
    have hs := sum_two (str (maskL 92 L)) (str (shaL (maskL 54 L ++ text.data.toList))) W (HTT.out W h).1 (HTT.out W h).2 (by rw [str_size, str_size, hlo, shaL_length]; omega)
    rwa [str_data, str_data] at hs
  rw [HH0]
  clear HH0
  revert HSA HSB
  generalize hyso : str (shaL (maskL 92 L ++ shaL (maskL 54 L ++ text.data.toList))) = yso
  generalize str (shaL (maskL 54 L ++ text.data.toList)) = ysi
  intro HSA HSB
  have HBB : Hid (w.heap.size = B) := hB
  clear hyso
  by_cases hkl : key.size ≤ 64
  · have hkI : ¬ (64 : Int) < (key.size : Int) := by omega
    have hk64 : k64 key.data.toList = key.data.toList := by unfold k64; rw [if_pos (by rw [← size_eq]; exact hkl)]
    obtain ⟨f1, f2⟩ := fill_text key _ rfl hkl
    have hmn := many_any 0 (64 - key.size) (by omega) w
    rw [show ((64 - key.size : Nat) : Int) = 64 - (key.size : Int) by omega] at hmn
    have hmn' : Calls Tryd.prog 12 #[.int .u8 0, .int .i64 (64 - (key.size : Int))] w fun e w' => e = .returned (.string (str (List.replicate (64 - key.size) 0))) ∧ Below w.heap.size w w' := hmn
    have a1 : key.size + (str (List.replicate (64 - key.size) 0)).size ≤ 9223372036854775807 := by rw [str_size, List.length_replicate]; omega
    have HKL0 : (key ++ str (List.replicate (64 - key.size) 0)).data.toList = L := by rw [f1, ← hL, hk64]
    clear hmn f1 hk64 hL
    revert hmn' a1 HKL0 f2
    generalize str (List.replicate (64 - key.size) 0) = ym
    intro f2 hmn' a1 HKL0
    go_enter Tryd.func21, Tryd.ntmps21
    go_wp2_with fail
    refine hmn'.mono ?_
    rintro e w1 ⟨rfl, hb⟩
    rw [hB] at hb
    go_wp2
    obtain ⟨KK, hKK⟩ : ∃ KK, key ++ ym = KK := ⟨_, rfl⟩
    rw [hKK] at HKL0 f2 ⊢
    have HKL : Hid (KK.data.toList = L) := HKL0
    clear hKK HKL0 hmn' a1
    go_loopg [6, 7, 8] 64 (fun gk a b i wr => ∃ k : Nat, k + gk = 64 ∧ i = .int .i64 k ∧ wr.ownsRow B 5 1 a k (Lib.byteCells (maskL 54 (L.take k))) ∧ wr.ownsRow B 5 1 b k (Lib.byteCells (maskL 92 (L.take k))) ∧ Apart a b ∧ Below B w wr)
    case atStart => exact ⟨0, by omega, rfl, World.ownsRow_nil _ _ _ _, World.ownsRow_nil _ _ _ _, fun g h => by simp [Value.ownBlock] at h, hb⟩
    case round =>
      clear hb
      obtain ⟨k, hkk, rfl, ho6, ho7, hap, hbel⟩ := hrel
      have HK : Hid (k + gk = 64) := hkk
      have hk' : k ≤ 64 := by omega
      clear hkk
      by_cases hlt : k < 64
      · have hltI : (k : Int) < 64 := by omega
        obtain ⟨x, hx⟩ : ∃ x, L[k]? = some x := ⟨_, List.getElem?_eq_getElem (by omega)⟩
        have hix := fun W => rindex_at (P := Tryd.prog) W 9 KK .i64 (k : Int) k x Tryd.underlying9 rfl (by rw [HKL.out]; exact hx)
        have hx8 := x.toNat_lt
        have hxa : bits .xor .u8 (x.toNat : Int) 54 = ((x ^^^ 54).toNat : Int) := by
          have h := u8_xor_nat x.toNat 54 hx8 (by omega)
          rw [UInt8.toNat_xor]
          exact h
        have hxb : bits .xor .u8 (x.toNat : Int) 92 = ((x ^^^ 92).toNat : Int) := by
          have h := u8_xor_nat x.toNat 92 hx8 (by omega)
          rw [UInt8.toNat_xor]
          exact h
        have HSA1 : Hid (Lib.byteCells (maskL 54 (L.take (k + 1))) = Lib.byteCells (maskL 54 (L.take k)) ++ [.int .u8 ((x ^^^ 54).toNat : Int)]) := by
          show _ = _
          rw [maskL_take 54 L k x hx, byteCells_append]
          rfl
        have HSB1 : Hid (Lib.byteCells (maskL 92 (L.take (k + 1))) = Lib.byteCells (maskL 92 (L.take k)) ++ [.int .u8 ((x ^^^ 92).toNat : Int)]) := by
          show _ = _
          rw [maskL_take 92 L k x hx, byteCells_append]
          rfl
        have hone1 : ∀ u ∈ [Value.int .u8 ((x ^^^ 54).toNat : Int)], u.oneCell' = true := byteCells_one [x ^^^ 54]
        have hone2 : ∀ u ∈ [Value.int .u8 ((x ^^^ 92).toNat : Int)], u.oneCell' = true := byteCells_one [x ^^^ 92]
        have hml : k + 1 ≤ maxLen := by unfold maxLen; omega
        clear hx hx8
        revert hix hxa hxb HSA1 HSB1 hone1 hone2
        generalize (x.toNat : Int) = xi
        generalize ((x ^^^ 54).toNat : Int) = z1
        generalize ((x ^^^ 92).toNat : Int) = z2
        intro hix hxa hxb HSA1 HSB1 hone1 hone2
        go_upto_region 11 with (at_builtin; refine wpList_append_own_at _ rfl _ _ 42 rfl B 5 i0 (.int .u8 0) 1 1 Tryd.underlying42 hi hz0 hz1 hz2 rfl (by decide) _ _ _ rfl (ho6.alloc _) ⟨wr.heap.size, 0, none⟩ 1 1 [.int .u8 z1] rfl rfl (by intro i u h; exact cells_new wr #[.int .u8 z1] 5 i u (by simpa using h)) hone1 hml (by omega) (by have := hbel.size; simp; omega) ?_; intro v1 w1 ho1 hg1 _ hbk1)
        have hbA := hbel.alloc (by have := hbel.size; omega) (.cells #[.int .u8 z1] 5)
        have hb1 : Below B w w1 := hbA.trans (grown_below hg1 (by have := hbA.size; omega) (ho6.alloc _))
        have ho71 : w1.ownsRow B 5 1 u7 k (Lib.byteCells (maskL 92 (L.take k))) := (ho7.alloc _).kept hg1 hap.keeps
        have hap1 : Apart v1 u7 := Apart.first hap (ho7.alloc _) hbk1
        have ho61 : w1.ownsRow B 5 1 v1 (k + 1) (Lib.byteCells (maskL 54 (L.take (k + 1)))) := by rw [HSA1.out]; exact ho1
        clear ho6 ho7 hap hbel ho1 hg1 hbk1 hbA
        go_wp2_with (at_builtin; refine wpList_append_own_at _ rfl _ _ 42 rfl B 5 i0 (.int .u8 0) 1 1 Tryd.underlying42 hi hz0 hz1 hz2 rfl (by decide) _ _ _ rfl (ho71.alloc _) ⟨w1.heap.size, 0, none⟩ 1 1 [.int .u8 z2] rfl rfl (by intro i u h; exact cells_new w1 #[.int .u8 z2] 5 i u (by simpa using h)) hone2 hml (by omega) (by have := hb1.size; simp; omega) ?_; intro v2 w2 ho2 hg2 _ hbk2)
        have hbA := hb1.alloc (by have := hb1.size; omega) (.cells #[.int .u8 z2] 5)
        have hb2 : Below B w w2 := hbA.trans (grown_below hg2 (by have := hbA.size; omega) (ho71.alloc _))
        have ho62 : w2.ownsRow B 5 1 v1 (k + 1) (Lib.byteCells (maskL 54 (L.take (k + 1)))) := (ho61.alloc _).kept hg2 hap1.keeps'
        have hap2 : Apart v1 v2 := Apart.second hap1 (ho61.alloc _) hbk2
        have ho72 : w2.ownsRow B 5 1 v2 (k + 1) (Lib.byteCells (maskL 92 (L.take (k + 1)))) := by rw [HSB1.out]; exact ho2
        clear ho61 ho71 hap1 ho2 hg2 hbk2 hbA hb1
        go_roundg (gk - 1)
        case measure => have := HK.out; omega
        case rel => exact ⟨k + 1, by have := HK.out; omega, by go_num, ho62, ho72, hap2, hb2⟩
      · obtain rfl : k = 64 := by omega
        rw [List.take_of_length_le (by omega)] at ho6 ho7
        have hS0 : TwoR B u6 u7 (maskL 54 L) (maskL 92 L) wr.drew := ⟨owns_keptB ho6 (fun _ _ => rfl), owns_keptB ho7 (fun _ _ => rfl)⟩
        have hV0 : Below B w wr.drew := hbel.drew
        clear ho6 ho7 hbel hap
        go_upto_region 12 with fail
        refine wp_region_held_drew (S := TwoR B u6 u7 (maskL 54 L) (maskL 92 L)) (by kernel_rfl) hS0 ?_
        intro hS
        clear hS0
        revert hS hV0
        generalize wr.drew = V
        intro hV hS
        refine wpAnyH_take (i := 0) (oi := { dst := some 40, op := .move (.tmp 7), type := _, pos := _, after := _, guard := none }) (v := u7) rfl (by kernel_rfl) (by kernel_rfl) (by kernel_rfl) (fun _ _ _ h => h) (Or.inl ⟨by rfl, by intro x _; go_simp⟩) hS ?_
        (try simp only [Act.put, List.setIfInBounds_toArray, List.set_cons_zero, List.set_cons_succ])
        refine wpAnyH_take (i := 1) (oi := { dst := some 41, op := .convert 42 9 (.tmp 40), type := _, pos := _, after := _, guard := none }) (v := .string (str (maskL 92 L))) rfl (by kernel_rfl) (by kernel_rfl) (by kernel_rfl) (fun _ _ _ h => h) (Or.inl ⟨by rfl, by intro x hx; have h := convert_own (P := Tryd.prog) x 42 9 5 B _ (maskL 92 L) Tryd.underlying42 Tryd.underlying5 Tryd.underlying9 (by rw [hlo]; exact hx.o); go_simp; rfl⟩) hS ?_
        (try simp only [Act.put, List.setIfInBounds_toArray, List.set_cons_zero, List.set_cons_succ])
        refine wpAnyH_take (i := 2) (oi := { dst := some 42, op := .move (.tmp 6), type := _, pos := _, after := _, guard := none }) (v := u6) rfl (by kernel_rfl) (by kernel_rfl) (by kernel_rfl) (fun _ _ _ h => h) (Or.inl ⟨by rfl, by intro x _; go_simp⟩) hS ?_
        (try simp only [Act.put, List.setIfInBounds_toArray, List.set_cons_zero, List.set_cons_succ])
        refine wpAnyH_take (i := 3) (oi := { dst := some 43, op := .convert 42 9 (.tmp 42), type := _, pos := _, after := _, guard := none }) (v := .string (str (maskL 54 L))) rfl (by kernel_rfl) (by kernel_rfl) (by kernel_rfl) (fun _ _ _ h => h) (Or.inl ⟨by rfl, by intro x hx; have h := convert_own (P := Tryd.prog) x 42 9 5 B _ (maskL 54 L) Tryd.underlying42 Tryd.underlying5 Tryd.underlying9 (by rw [hli]; exact hx.i); go_simp; rfl⟩) hS ?_
        (try simp only [Act.put, List.setIfInBounds_toArray, List.set_cons_zero, List.set_cons_succ])
        refine wpAnyH_take (i := 4) (oi := { dst := some 44, op := .move (.tmp 1), type := _, pos := _, after := _, guard := none }) (v := .string text) rfl (by kernel_rfl) (by kernel_rfl) (by kernel_rfl) (fun _ _ _ h => h) (Or.inl ⟨by rfl, by intro x _; go_simp⟩) hS ?_
        (try simp only [Act.put, List.setIfInBounds_toArray, List.set_cons_zero, List.set_cons_succ])
        refine wpAnyH_ready (rs := [5]) (by kernel_rfl) (by simp) ?_
        refine AllReadyH.cons (o := { dst := some 45, op := .buildSlice 27 2 #[(0, .tmp 43), (1, .tmp 44)], type := _, pos := _, after := _, guard := none }) rfl (fun K hK => ?_) AllReadyH.nil
        go_simp
        have hS1 := hS.kept (W' := V.alloc (.cells #[.string (str (maskL 54 L)), .string text] 9)) (fun k hk => Below.heap_alloc _ _ _ hk)
        refine hK.out _ _ hS1 (fun _ => ?_)
        clear hK K
        (try simp only [Act.put, List.setIfInBounds_toArray, List.set_cons_zero, List.set_cons_succ])
        refine wpAnyH_ready (rs := [6]) (by kernel_rfl) (by simp) ?_
        refine AllReadyH.cons (o := { dst := some 46, op := .call { callee := .value (.func 10), args := #[.tmp 45], argTypes := #[27] }, type := _, pos := _, after := _, guard := none }) rfl (fun K hK => ?_) AllReadyH.nil
        go_simp
        refine (HSA.out V hV).mono ?_
        rintro e w6 ⟨rfl, hb6'⟩
        have hb6 := hV.trans (hb6'.mono (by have := hV.size; omega))
        have hS2 := hS.kept (fun k hk => hb6'.block k hk)
        refine hK.out _ _ hS2 (fun _ => ?_)
        clear hK K
        (try simp only [Act.put, List.setIfInBounds_toArray, List.set_cons_zero, List.set_cons_succ])
        refine wpAnyH_ready (rs := [7]) (by kernel_rfl) (by simp) ?_
        refine AllReadyH.cons (o := { dst := some 47, op := .buildSlice 27 2 #[(0, .tmp 41), (1, .tmp 46)], type := _, pos := _, after := _, guard := none }) rfl (fun K hK => ?_) AllReadyH.nil
        go_simp
        have hS3 := hS2.kept (W' := w6.alloc (.cells #[.string (str (maskL 92 L)), .string ysi] 9)) (fun k hk => Below.heap_alloc _ _ _ hk)
        refine hK.out _ _ hS3 (fun _ => ?_)
        clear hK K
        (try simp only [Act.put, List.setIfInBounds_toArray, List.set_cons_zero, List.set_cons_succ])
        refine wpAnyH_ready (rs := [8]) (by kernel_rfl) (by simp) ?_
        refine AllReadyH.cons (o := { dst := some 48, op := .call { callee := .value (.func 10), args := #[.tmp 47], argTypes := #[27] }, type := _, pos := _, after := _, guard := none }) rfl (fun K hK => ?_) AllReadyH.nil
        go_simp
        refine (HSB.out w6 hb6).mono ?_
        rintro e w8 ⟨rfl, hb8'⟩
        have hb8 := hb6.trans (hb8'.mono (by have := hb6.size; omega))
        have hS4 := hS2.kept (fun k hk => hb8'.block k hk)
        refine hK.out _ _ hS4 (fun _ => ?_)
        clear hK K
        (try simp only [Act.put, List.setIfInBounds_toArray, List.set_cons_zero, List.set_cons_succ])
        refine wpAnyH_take (i := 9) (oi := { dst := some 4, op := .assign (.tmp 48), type := _, pos := _, after := _, guard := none }) (v := .string yso) rfl (by kernel_rfl) (by kernel_rfl) (by kernel_rfl) (fun _ _ _ h => h) (Or.inl ⟨by rfl, by intro x _; go_simp⟩) hS4 ?_
        (try simp only [Act.put, List.setIfInBounds_toArray, List.set_cons_zero, List.set_cons_succ])
        refine wpAnyH_done (by kernel_rfl) ?_ _
        go_wp2
        go_ret
        exact ⟨rfl, by rw [HBB.out]; exact hb8⟩
  · have hkI : (64 : Int) < (key.size : Int) := by omega
    have hk64 : k64 key.data.toList = shaL key.data.toList := by unfold k64; rw [if_neg (by rw [← size_eq]; exact hkl)]
    have hsz : (str (shaL key.data.toList)).size = 32 := by rw [str_size, shaL_length]
    have hs1 := sum_one key w ht h4 (by omega)
    obtain ⟨f1, f2⟩ := fill_text (str (shaL key.data.toList)) _ (str_data _) (by omega)
    rw [hsz] at f1 f2
    have hmn : ∀ W, Calls Tryd.prog 12 #[.int .u8 0, .int .i64 32] W fun e w' => e = .returned (.string (str (List.replicate (64 - 32) 0))) ∧ Below W.heap.size W w' := fun W => many_any 0 32 (by omega) W
    have a1 : (str (shaL key.data.toList)).size + (str (List.replicate (64 - 32) 0)).size ≤ 9223372036854775807 := by rw [hsz, str_size, List.length_replicate]; omega
    have HKL0 : (str (shaL key.data.toList) ++ str (List.replicate (64 - 32) 0)).data.toList = L := by rw [f1, ← hL, hk64]
    clear f1 hk64 hL
    revert hmn a1 HKL0 f2 hs1 hsz
    generalize str (List.replicate (64 - 32) 0) = ym
    generalize str (shaL key.data.toList) = ys
    intro hsz hs1 f2 hmn a1 HKL0
    clear hB
    go_enter Tryd.func21, Tryd.ntmps21
    go_wp2_with fail
    refine hs1.mono ?_
    rintro e w0 ⟨rfl, hb0⟩
    go_wp2_with fail
    refine (hmn w0).mono ?_
    rintro e w1 ⟨rfl, hb'⟩
    have hB := HBB.out
    have hb := hb0.trans (hb'.mono hb0.size)
    rw [hB] at hb
    go_wp2
    obtain ⟨KK, hKK⟩ : ∃ KK, ys ++ ym = KK := ⟨_, rfl⟩
    rw [hKK] at HKL0 f2 ⊢
    have HKL : Hid (KK.data.toList = L) := HKL0
    clear hKK HKL0 hmn a1 hs1 hb0 hb'
    go_loopg [6, 7, 8] 64 (fun gk a b i wr => ∃ k : Nat, k + gk = 64 ∧ i = .int .i64 k ∧ wr.ownsRow B 5 1 a k (Lib.byteCells (maskL 54 (L.take k))) ∧ wr.ownsRow B 5 1 b k (Lib.byteCells (maskL 92 (L.take k))) ∧ Apart a b ∧ Below B w wr)
    case atStart => exact ⟨0, by omega, rfl, World.ownsRow_nil _ _ _ _, World.ownsRow_nil _ _ _ _, fun g h => by simp [Value.ownBlock] at h, hb⟩
    case round =>
      clear hb
      obtain ⟨k, hkk, rfl, ho6, ho7, hap, hbel⟩ := hrel
      have HK : Hid (k + gk = 64) := hkk
      have hk' : k ≤ 64 := by omega
      clear hkk
      by_cases hlt : k < 64
      · have hltI : (k : Int) < 64 := by omega
        obtain ⟨x, hx⟩ : ∃ x, L[k]? = some x := ⟨_, List.getElem?_eq_getElem (by omega)⟩
        have hix := fun W => rindex_at (P := Tryd.prog) W 9 KK .i64 (k : Int) k x Tryd.underlying9 rfl (by rw [HKL.out]; exact hx)
        have hx8 := x.toNat_lt
        have hxa : bits .xor .u8 (x.toNat : Int) 54 = ((x ^^^ 54).toNat : Int) := by
          have h := u8_xor_nat x.toNat 54 hx8 (by omega)
          rw [UInt8.toNat_xor]
          exact h
        have hxb : bits .xor .u8 (x.toNat : Int) 92 = ((x ^^^ 92).toNat : Int) := by
          have h := u8_xor_nat x.toNat 92 hx8 (by omega)
          rw [UInt8.toNat_xor]
          exact h
        have HSA1 : Hid (Lib.byteCells (maskL 54 (L.take (k + 1))) = Lib.byteCells (maskL 54 (L.take k)) ++ [.int .u8 ((x ^^^ 54).toNat : Int)]) := by
          show _ = _
          rw [maskL_take 54 L k x hx, byteCells_append]
          rfl
        have HSB1 : Hid (Lib.byteCells (maskL 92 (L.take (k + 1))) = Lib.byteCells (maskL 92 (L.take k)) ++ [.int .u8 ((x ^^^ 92).toNat : Int)]) := by
          show _ = _
          rw [maskL_take 92 L k x hx, byteCells_append]
          rfl
        have hone1 : ∀ u ∈ [Value.int .u8 ((x ^^^ 54).toNat : Int)], u.oneCell' = true := byteCells_one [x ^^^ 54]
        have hone2 : ∀ u ∈ [Value.int .u8 ((x ^^^ 92).toNat : Int)], u.oneCell' = true := byteCells_one [x ^^^ 92]
        have hml : k + 1 ≤ maxLen := by unfold maxLen; omega
        clear hx hx8
        revert hix hxa hxb HSA1 HSB1 hone1 hone2
        generalize (x.toNat : Int) = xi
        generalize ((x ^^^ 54).toNat : Int) = z1
        generalize ((x ^^^ 92).toNat : Int) = z2
        intro hix hxa hxb HSA1 HSB1 hone1 hone2
        go_upto_region 11 with (at_builtin; refine wpList_append_own_at _ rfl _ _ 42 rfl B 5 i0 (.int .u8 0) 1 1 Tryd.underlying42 hi hz0 hz1 hz2 rfl (by decide) _ _ _ rfl (ho6.alloc _) ⟨wr.heap.size, 0, none⟩ 1 1 [.int .u8 z1] rfl rfl (by intro i u h; exact cells_new wr #[.int .u8 z1] 5 i u (by simpa using h)) hone1 hml (by omega) (by have := hbel.size; simp; omega) ?_; intro v1 w1 ho1 hg1 _ hbk1)
        have hbA := hbel.alloc (by have := hbel.size; omega) (.cells #[.int .u8 z1] 5)
        have hb1 : Below B w w1 := hbA.trans (grown_below hg1 (by have := hbA.size; omega) (ho6.alloc _))
        have ho71 : w1.ownsRow B 5 1 u7 k (Lib.byteCells (maskL 92 (L.take k))) := (ho7.alloc _).kept hg1 hap.keeps
        have hap1 : Apart v1 u7 := Apart.first hap (ho7.alloc _) hbk1
        have ho61 : w1.ownsRow B 5 1 v1 (k + 1) (Lib.byteCells (maskL 54 (L.take (k + 1)))) := by rw [HSA1.out]; exact ho1
        clear ho6 ho7 hap hbel ho1 hg1 hbk1 hbA
        go_wp2_with (at_builtin; refine wpList_append_own_at _ rfl _ _ 42 rfl B 5 i0 (.int .u8 0) 1 1 Tryd.underlying42 hi hz0 hz1 hz2 rfl (by decide) _ _ _ rfl (ho71.alloc _) ⟨w1.heap.size, 0, none⟩ 1 1 [.int .u8 z2] rfl rfl (by intro i u h; exact cells_new w1 #[.int .u8 z2] 5 i u (by simpa using h)) hone2 hml (by omega) (by have := hb1.size; simp; omega) ?_; intro v2 w2 ho2 hg2 _ hbk2)
        have hbA := hb1.alloc (by have := hb1.size; omega) (.cells #[.int .u8 z2] 5)
        have hb2 : Below B w w2 := hbA.trans (grown_below hg2 (by have := hbA.size; omega) (ho71.alloc _))
        have ho62 : w2.ownsRow B 5 1 v1 (k + 1) (Lib.byteCells (maskL 54 (L.take (k + 1)))) := (ho61.alloc _).kept hg2 hap1.keeps'
        have hap2 : Apart v1 v2 := Apart.second hap1 (ho61.alloc _) hbk2
        have ho72 : w2.ownsRow B 5 1 v2 (k + 1) (Lib.byteCells (maskL 92 (L.take (k + 1)))) := by rw [HSB1.out]; exact ho2
        clear ho61 ho71 hap1 ho2 hg2 hbk2 hbA hb1
        go_roundg (gk - 1)
        case measure => have := HK.out; omega
        case rel => exact ⟨k + 1, by have := HK.out; omega, by go_num, ho62, ho72, hap2, hb2⟩
      · obtain rfl : k = 64 := by omega
        rw [List.take_of_length_le (by omega)] at ho6 ho7
        have hS0 : TwoR B u6 u7 (maskL 54 L) (maskL 92 L) wr.drew := ⟨owns_keptB ho6 (fun _ _ => rfl), owns_keptB ho7 (fun _ _ => rfl)⟩
        have hV0 : Below B w wr.drew := hbel.drew
        clear ho6 ho7 hbel hap
        go_upto_region 12 with fail
        refine wp_region_held_drew (S := TwoR B u6 u7 (maskL 54 L) (maskL 92 L)) (by kernel_rfl) hS0 ?_
        intro hS
        clear hS0
        revert hS hV0
        generalize wr.drew = V
        intro hV hS
        refine wpAnyH_take (i := 0) (oi := { dst := some 40, op := .move (.tmp 7), type := _, pos := _, after := _, guard := none }) (v := u7) rfl (by kernel_rfl) (by kernel_rfl) (by kernel_rfl) (fun _ _ _ h => h) (Or.inl ⟨by rfl, by intro x _; go_simp⟩) hS ?_
        (try simp only [Act.put, List.setIfInBounds_toArray, List.set_cons_zero, List.set_cons_succ])
        refine wpAnyH_take (i := 1) (oi := { dst := some 41, op := .convert 42 9 (.tmp 40), type := _, pos := _, after := _, guard := none }) (v := .string (str (maskL 92 L))) rfl (by kernel_rfl) (by kernel_rfl) (by kernel_rfl) (fun _ _ _ h => h) (Or.inl ⟨by rfl, by intro x hx; have h := convert_own (P := Tryd.prog) x 42 9 5 B _ (maskL 92 L) Tryd.underlying42 Tryd.underlying5 Tryd.underlying9 (by rw [hlo]; exact hx.o); go_simp; rfl⟩) hS ?_
        (try simp only [Act.put, List.setIfInBounds_toArray, List.set_cons_zero, List.set_cons_succ])
        refine wpAnyH_take (i := 2) (oi := { dst := some 42, op := .move (.tmp 6), type := _, pos := _, after := _, guard := none }) (v := u6) rfl (by kernel_rfl) (by kernel_rfl) (by kernel_rfl) (fun _ _ _ h => h) (Or.inl ⟨by rfl, by intro x _; go_simp⟩) hS ?_
        (try simp only [Act.put, List.setIfInBounds_toArray, List.set_cons_zero, List.set_cons_succ])
        refine wpAnyH_take (i := 3) (oi := { dst := some 43, op := .convert 42 9 (.tmp 42), type := _, pos := _, after := _, guard := none }) (v := .string (str (maskL 54 L))) rfl (by kernel_rfl) (by kernel_rfl) (by kernel_rfl) (fun _ _ _ h => h) (Or.inl ⟨by rfl, by intro x hx; have h := convert_own (P := Tryd.prog) x 42 9 5 B _ (maskL 54 L) Tryd.underlying42 Tryd.underlying5 Tryd.underlying9 (by rw [hli]; exact hx.i); go_simp; rfl⟩) hS ?_
        (try simp only [Act.put, List.setIfInBounds_toArray, List.set_cons_zero, List.set_cons_succ])
        refine wpAnyH_take (i := 4) (oi := { dst := some 44, op := .move (.tmp 1), type := _, pos := _, after := _, guard := none }) (v := .string text) rfl (by kernel_rfl) (by kernel_rfl) (by kernel_rfl) (fun _ _ _ h => h) (Or.inl ⟨by rfl, by intro x _; go_simp⟩) hS ?_
        (try simp only [Act.put, List.setIfInBounds_toArray, List.set_cons_zero, List.set_cons_succ])
        refine wpAnyH_ready (rs := [5]) (by kernel_rfl) (by simp) ?_
        refine AllReadyH.cons (o := { dst := some 45, op := .buildSlice 27 2 #[(0, .tmp 43), (1, .tmp 44)], type := _, pos := _, after := _, guard := none }) rfl (fun K hK => ?_) AllReadyH.nil
        go_simp
        have hS1 := hS.kept (W' := V.alloc (.cells #[.string (str (maskL 54 L)), .string text] 9)) (fun k hk => Below.heap_alloc _ _ _ hk)
        refine hK.out _ _ hS1 (fun _ => ?_)
        clear hK K
        (try simp only [Act.put, List.setIfInBounds_toArray, List.set_cons_zero, List.set_cons_succ])
        refine wpAnyH_ready (rs := [6]) (by kernel_rfl) (by simp) ?_
        refine AllReadyH.cons (o := { dst := some 46, op := .call { callee := .value (.func 10), args := #[.tmp 45], argTypes := #[27] }, type := _, pos := _, after := _, guard := none }) rfl (fun K hK => ?_) AllReadyH.nil
        go_simp
        refine (HSA.out V hV).mono ?_
        rintro e w6 ⟨rfl, hb6'⟩
        have hb6 := hV.trans (hb6'.mono (by have := hV.size; omega))
        have hS2 := hS.kept (fun k hk => hb6'.block k hk)
        refine hK.out _ _ hS2 (fun _ => ?_)
        clear hK K
        (try simp only [Act.put, List.setIfInBounds_toArray, List.set_cons_zero, List.set_cons_succ])
        refine wpAnyH_ready (rs := [7]) (by kernel_rfl) (by simp) ?_
        refine AllReadyH.cons (o := { dst := some 47, op := .buildSlice 27 2 #[(0, .tmp 41), (1, .tmp 46)], type := _, pos := _, after := _, guard := none }) rfl (fun K hK => ?_) AllReadyH.nil
        go_simp
        have hS3 := hS2.kept (W' := w6.alloc (.cells #[.string (str (maskL 92 L)), .string ysi] 9)) (fun k hk => Below.heap_alloc _ _ _ hk)
        refine hK.out _ _ hS3 (fun _ => ?_)
        clear hK K
        (try simp only [Act.put, List.setIfInBounds_toArray, List.set_cons_zero, List.set_cons_succ])
        refine wpAnyH_ready (rs := [8]) (by kernel_rfl) (by simp) ?_
        refine AllReadyH.cons (o := { dst := some 48, op := .call { callee := .value (.func 10), args := #[.tmp 47], argTypes := #[27] }, type := _, pos := _, after := _, guard := none }) rfl (fun K hK => ?_) AllReadyH.nil
        go_simp
        refine (HSB.out w6 hb6).mono ?_
        rintro e w8 ⟨rfl, hb8'⟩
        have hb8 := hb6.trans (hb8'.mono (by have := hb6.size; omega))
        have hS4 := hS2.kept (fun k hk => hb8'.block k hk)
        refine hK.out _ _ hS4 (fun _ => ?_)
        clear hK K
        (try simp only [Act.put, List.setIfInBounds_toArray, List.set_cons_zero, List.set_cons_succ])
        refine wpAnyH_take (i := 9) (oi := { dst := some 4, op := .assign (.tmp 48), type := _, pos := _, after := _, guard := none }) (v := .string yso) rfl (by kernel_rfl) (by kernel_rfl) (by kernel_rfl) (fun _ _ _ h => h) (Or.inl ⟨by rfl, by intro x _; go_simp⟩) hS4 ?_
        (try simp only [Act.put, List.setIfInBounds_toArray, List.set_cons_zero, List.set_cons_succ])
        refine wpAnyH_done (by kernel_rfl) ?_ _
        go_wp2
        go_ret
        exact ⟨rfl, by rw [HBB.out]; exact hb8⟩

end Go.Proofs.YtjjabkimmgcejaaDoor
