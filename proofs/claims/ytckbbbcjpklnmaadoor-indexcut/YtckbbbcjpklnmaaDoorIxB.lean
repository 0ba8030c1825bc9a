import Derived.Test.YtckbbbcjpklnmaaDoorIxA
namespace Go.Proofs.YtckbbbcjpklnmaaDoor.Ix
open Go.RowKit Go.Lib

/-! pieces -/
theorem seg_len {I : List UInt8} {a n : Nat} (h : a + n ≤ I.length) : (seg I a n).length = n := by
  unfold seg
  rw [List.length_take, List.length_drop]
  omega
theorem seg_mid (A B C : List UInt8) (a n : Nat) (ha : a = A.length) (hn : n = B.length) : seg (A ++ (B ++ C)) a n = B := by
  subst ha
  subst hn
  unfold seg
  rw [List.drop_left, List.take_left]
theorem seg_app (A B : List UInt8) (a n : Nat) (h : A.length ≤ a) : seg (A ++ B) a n = seg B (a - A.length) n := by
  unfold seg
  rw [List.drop_append, List.drop_eq_nil_of_le h, List.nil_append]
theorem rows_flat {α : Type} (f : α → List UInt8) (k : Nat) (C : List UInt8) : ∀ (l : List α) (A : List UInt8), (∀ a ∈ l, (f a).length = k) → rowsA (A ++ (l.flatMap f ++ C)) A.length k l.length = l.map f
  | [], A, _ => rfl
  | a :: l, A, h => by
    have h1 := h a (by simp)
    have ih := rows_flat f k C l (A ++ f a) (fun b hb => h b (by simp [hb]))
    unfold rowsA at ih ⊢
    rw [List.length_cons, List.range_succ_eq_map, List.map_cons, List.map_cons, List.map_map, List.flatMap_cons, List.append_assoc]
    congr 1
    · exact seg_mid A (f a) _ _ _ (by omega) h1.symm
    · rw [← ih]
      apply List.map_congr_left
      intro i _
      show seg _ (A.length + (i + 1) * k) k = _
      rw [List.append_assoc, List.length_append, h1, Nat.add_mul]
      congr 1
      omega
theorem flat_length {α : Type} (f : α → List UInt8) (k : Nat) : ∀ (l : List α), (∀ a ∈ l, (f a).length = k) → (l.flatMap f).length = k * l.length
  | [], _ => by simp
  | a :: l, h => by rw [List.flatMap_cons, List.length_append, h a (by simp), flat_length f k l (fun b hb => h b (by simp [hb])), List.length_cons, Nat.mul_add]; omega

/-! what fits -/
theorem ris_iff (c : Cn) : ∀ (T : List Nd) (l : Int), risB c l T = true ↔ (∀ m ∈ T, NdF c m ∧ l < plc c m) ∧ T.Pairwise (fun a b => plc c a < plc c b)
  | [], l => by simp [risB]
  | n :: r, l => by
    rw [risB, Bool.and_eq_true, Bool.and_eq_true, decide_eq_true_eq, decide_eq_true_eq, ris_iff c r, List.pairwise_cons]
    constructor
    · rintro ⟨⟨h1, h2⟩, h3, h4⟩
      refine ⟨fun m hm => ?_, fun m hm => (h3 m hm).2, h4⟩
      rcases List.mem_cons.1 hm with rfl | hm
      · exact ⟨h1, h2⟩
      · exact ⟨(h3 m hm).1, Int.lt_trans h2 (h3 m hm).2⟩
    · rintro ⟨h1, h2, h3⟩
      exact ⟨h1 n (by simp), fun m hm => ⟨(h1 m (by simp [hm])).1, h2 m hm⟩, h3⟩
theorem plc_ge {c : Cn} {n : Nd} (h : NdF c n) : 1 ≤ plc c n ∧ plc c n ≤ c.dr + c.fl ∧ (n.kd = 1 ↔ plc c n ≤ c.dr) := by
  unfold NdF at h
  unfold plc
  split <;> omega
theorem nm_size {s : ByteArray} (h : Pa.nm s = true) : 1 ≤ s.size ∧ s.size ≤ 32 := by
  simp only [Pa.nm, Pa.isN, Bool.and_eq_true, decide_eq_true_eq] at h
  exact ⟨h.1.1.1.1, h.1.1.1.2⟩
theorem nodeL_len {n : Nd} (h : n.nm.size ≤ 32) : (nodeL n).length = 36 := by
  have hs : n.nm.data.toList.length = n.nm.size := rfl
  simp only [nodeL, z0, List.length_cons, List.length_append, bgL_len, List.length_replicate, hs]
  omega
theorem dirL_len {n : Nd} (h : n.nm.size ≤ 32) : (dirL n).length = 36 := by
  unfold dirL
  split
  · simp [z0]
  · exact nodeL_len h
theorem filL_len {n : Nd} (h : n.nm.size ≤ 32) : (filL n).length = 40 := by
  unfold filL
  rw [List.length_append, dirL_len h, bgL_len]
theorem objL_len {c : Cn} {o : Ob} (h : ObF c o) : (objL o).length = 40 := by
  have h1 : o.nm.data.toList.length = o.nm.size := rfl
  have h2 : o.tg.data.toList.length = o.tg.size := rfl
  simp only [objL, List.length_append, bgL_len, h1, h2, h.1, h.2.1]
theorem queL_len (q : Int) : (queL q).length = 4 := bgL_len _ _
theorem slot_or {c : Cn} {T : List Nd} {p : Int} (h : ∀ m ∈ T, NdF c m) : slot c T p = zN ∨ slot c T p ∈ T ∧ NdF c (slot c T p) ∧ plc c (slot c T p) = p := by
  unfold slot
  cases e : T.find? (fun n => plc c n == p) with
  | none => exact .inl rfl
  | some n =>
    refine .inr ⟨List.mem_of_find?_eq_some e, h n (List.mem_of_find?_eq_some e), ?_⟩
    have := List.find?_some e
    simpa using this
theorem slot_size {c : Cn} {T : List Nd} {p : Int} (h : ∀ m ∈ T, NdF c m) : (slot c T p).nm.size ≤ 32 := by
  rcases slot_or (p := p) h with e | ⟨_, e, _⟩
  · rw [e]; exact Nat.zero_le _
  · exact (nm_size e.2.2.2).2
theorem imgL_len {c : Cn} {T : List Nd} {O : List Ob} {Q : List Int} (h : ∀ m ∈ T, NdF c m) (hO : ∀ o ∈ O, ObF c o) (h1 : O.length = c.rows) (h2 : Q.length ≤ c.rows) :
    ((dirsL c T).flatMap dirL).length = 36 * c.dr ∧ ((filsL c T).flatMap filL).length = 40 * c.fl ∧ (O.flatMap objL).length = 40 * c.rows ∧ ((cntL c Q).flatMap queL).length = 4 * (1 + c.rows) ∧ (imgL c T O Q).length = c.len := by
  have a1 : ((dirsL c T).flatMap dirL).length = 36 * c.dr := by
    rw [flat_length dirL 36 _ (fun a ha => ?_)]
    · simp [dirsL]
    · obtain ⟨k, _, rfl⟩ := List.mem_map.1 ha
      exact dirL_len (slot_size h)
  have a2 : ((filsL c T).flatMap filL).length = 40 * c.fl := by
    rw [flat_length filL 40 _ (fun a ha => ?_)]
    · simp [filsL]
    · obtain ⟨k, _, rfl⟩ := List.mem_map.1 ha
      exact filL_len (slot_size h)
  have a3 : (O.flatMap objL).length = 40 * c.rows := by rw [flat_length objL 40 _ (fun a ha => objL_len (hO a ha)), h1]
  have a4 : ((cntL c Q).flatMap queL).length = 4 * (1 + c.rows) := by
    rw [flat_length queL 4 _ (fun a _ => queL_len a)]
    simp only [cntL, List.length_cons, List.length_append, List.length_replicate]
    omega
  refine ⟨a1, a2, a3, a4, ?_⟩
  unfold imgL
  rw [List.length_append, List.length_append, List.length_append, a1, a2, a3, a4]
  unfold Cn.len Cn.rows
  omega

/-! there and back -/
def clr (n : Nd) : Nd := { n with nu := 0 }
theorem nodeL_form (n : Nd) (r : List UInt8) (h : n.nm.size ≤ 32) : ∃ x y z, bgL 2 n.pa.toNat = [x, y] ∧ z.toNat = n.nm.size ∧ nodeL n ++ r = 1 :: x :: y :: z :: (n.nm.data.toList ++ (z0 (32 - n.nm.size) ++ r)) := by
  refine ⟨_, _, UInt8.ofNat (n.nm.size / 256 ^ 0 % 256), rfl, ?_, ?_⟩
  · simp
    omega
  · simp [nodeL, bgL]
theorem rdN_node {n : Nd} {kd : Int} (r : List UInt8) (h : n.nm.size ≤ 32) (hp : 0 ≤ n.pa) (hp2 : n.pa ≤ 4096) : rdN (nodeL n ++ r) kd = ⟨kd, 0, n.pa, n.nm, 0⟩ := by
  obtain ⟨x, y, z, h1, h2, h3⟩ := nodeL_form n r h
  have hs : n.nm.data.toList.length = n.nm.size := rfl
  unfold rdN
  rw [h3]
  rw [if_neg (by simp)]
  have e1 : seg (1 :: x :: y :: z :: (n.nm.data.toList ++ (z0 (32 - n.nm.size) ++ r))) 1 2 = [x, y] := rfl
  have e2 : (min ((1 :: x :: y :: z :: (n.nm.data.toList ++ (z0 (32 - n.nm.size) ++ r))).getD 3 0).toNat 32) = n.nm.size := by
    show min z.toNat 32 = _
    omega
  have e3 : seg (1 :: x :: y :: z :: (n.nm.data.toList ++ (z0 (32 - n.nm.size) ++ r))) 4 n.nm.size = n.nm.data.toList := by
    show List.take n.nm.size (n.nm.data.toList ++ _) = _
    rw [← hs, List.take_left]
  rw [e1, e2, e3, ← h1, nuL_bgL 2 _ (by omega), str_of]
  congr 1
  omega
theorem rdD_dirL {c : Cn} {n : Nd} (hd : c.dr ≤ 4096) (h : n = zN ∨ NdF c n ∧ n.kd = 1) : rdD (dirL n) = clr n := by
  rcases h with rfl | ⟨h, hk⟩
  · rfl
  · unfold rdD dirL
    rw [if_neg (by omega)]
    have := rdN_node (n := n) (kd := 1) [] (nm_size h.2.2.2).2 h.2.1 (by have := h.2.2.1; omega)
    rw [List.append_nil] at this
    rw [this]
    have hsz : n.sz = 0 := by
      unfold NdF at h
      omega
    obtain ⟨kd, nu, pa, nm, sz⟩ := n
    simp only [clr, Nd.mk.injEq] at *
    exact ⟨hk.symm, trivial, trivial, trivial, hsz.symm⟩
theorem rdF_filL {c : Cn} {n : Nd} (hd : c.dr ≤ 4096) (hm : c.mf ≤ 65536) (h : n = zN ∨ NdF c n ∧ n.kd = 2) : rdF (filL n) = clr n := by
  rcases h with rfl | ⟨h, hk⟩
  · rfl
  · have hl := nodeL_len (nm_size h.2.2.2).2
    have hsz : 0 ≤ n.sz ∧ n.sz ≤ 65536 := by
      unfold NdF at h
      omega
    unfold rdF filL dirL
    rw [if_neg (by omega), rdN_node (n := n) (kd := 2) _ (nm_size h.2.2.2).2 h.2.1 (by have := h.2.2.1; omega)]
    have e : seg (nodeL n ++ bgL 4 n.sz.toNat) 36 4 = bgL 4 n.sz.toNat := by
      have := seg_mid (nodeL n) (bgL 4 n.sz.toNat) [] 36 4 hl.symm (bgL_len _ _).symm
      rwa [List.append_nil] at this
    rw [e, nuL_bgL 4 _ (by omega)]
    obtain ⟨kd, nu, pa, nm, sz⟩ := n
    simp only [clr, Nd.mk.injEq] at *
    refine ⟨hk.symm, trivial, trivial, trivial, ?_⟩
    omega
theorem rdO_objL {c : Cn} {o : Ob} (hf : c.fl ≤ 65536) (h : ObF c o) : rdO (objL o) = o := by
  obtain ⟨h1, h2, h3, h4, h5, h6⟩ := h
  have s1 : o.nm.data.toList.length = 16 := h1
  have s2 : o.tg.data.toList.length = 16 := h2
  have b1 := bgL_len 4 o.bk.toNat
  have b2 := bgL_len 4 (o.ow + 1).toNat
  have e1 : seg (objL o) 0 16 = o.nm.data.toList := seg_mid [] o.nm.data.toList _ 0 16 rfl s1.symm
  have e2 : seg (objL o) 16 16 = o.tg.data.toList := seg_mid o.nm.data.toList o.tg.data.toList _ 16 16 s1.symm s2.symm
  have e3 : seg (objL o) 32 4 = bgL 4 o.bk.toNat := by
    have := seg_mid (o.nm.data.toList ++ o.tg.data.toList) (bgL 4 o.bk.toNat) (bgL 4 (o.ow + 1).toNat) 32 4 (by rw [List.length_append, s1, s2]) b1.symm
    rwa [List.append_assoc] at this
  have e4 : seg (objL o) 36 4 = bgL 4 (o.ow + 1).toNat := by
    have := seg_mid (o.nm.data.toList ++ (o.tg.data.toList ++ bgL 4 o.bk.toNat)) (bgL 4 (o.ow + 1).toNat) [] 36 4 (by rw [List.length_append, List.length_append, s1, s2, b1]) b2.symm
    rwa [List.append_nil, List.append_assoc, List.append_assoc] at this
  unfold rdO
  rw [e1, e2, e3, e4, nuL_bgL 4 _ (by omega), nuL_bgL 4 _ (by omega), str_of, str_of]
  obtain ⟨nm, tg, bk, ow⟩ := o
  simp only [Ob.mk.injEq] at *
  exact ⟨trivial, trivial, by omega, by omega⟩
theorem numd_slots (c : Cn) (d : Int) : ∀ (n : Nat) (a : Int) (T : List Nd), (∀ m ∈ T, a ≤ plc c m ∧ plc c m < a + n ∧ m.nu = plc c m - d ∧ m.kd ≠ 0) → T.Pairwise (fun x y => plc c x < plc c y) →
    numd (a - d) ((List.range n).map fun (k : Nat) => clr (slot c T (a + k))) = T
  | 0, a, T, h, _ => by
    cases T with
    | nil => rfl
    | cons m R => have := h m (by simp); omega
  | n + 1, a, T, h, hp => by
    have hs : ∀ (T : List Nd), ((List.range (n + 1)).map fun (k : Nat) => clr (slot c T (a + k))) = clr (slot c T a) :: ((List.range n).map fun (k : Nat) => clr (slot c T (a + 1 + k))) := fun T => by
      rw [List.range_succ_eq_map, List.map_cons, List.map_map]
      congr 1
      · simp
      · apply List.map_congr_left
        intro k _
        show clr (slot c T (a + ((k + 1 : Nat) : Int))) = _
        congr 2
        omega
    rw [hs]
    have hz : ∀ (T : List Nd), (∀ m ∈ T, plc c m ≠ a) → slot c T a = zN := fun T hT => by
      unfold slot
      rw [List.find?_eq_none.2 (fun m hm => by simp [hT m hm])]
      rfl
    have hskip : ∀ (L : List Nd), numd (a - d) (clr zN :: L) = numd (a + 1 - d) L := fun L => by
      rw [numd, if_pos (show (clr zN).kd = 0 from rfl)]
      congr 1
      omega
    cases T with
    | nil =>
      rw [hz [] (by simp), hskip]
      exact numd_slots c d n (a + 1) [] (by simp) List.Pairwise.nil
    | cons m R =>
      have hm := h m (by simp)
      obtain ⟨hp1, hp2⟩ := List.pairwise_cons.1 hp
      by_cases e : plc c m = a
      · have hsm : slot c (m :: R) a = m := by
          unfold slot
          rw [List.find?_cons_of_pos (by simp [e])]
          rfl
        have hrest : ((List.range n).map fun (k : Nat) => clr (slot c (m :: R) (a + 1 + k))) = (List.range n).map fun (k : Nat) => clr (slot c R (a + 1 + k)) := by
          apply List.map_congr_left
          intro k _
          unfold slot
          rw [List.find?_cons_of_neg (by simp; omega)]
        have ih := numd_slots c d n (a + 1) R (fun x hx => by
          have h1 := h x (by simp [hx])
          have h2 := hp1 x hx
          omega) hp2
        rw [hsm, hrest, numd, if_neg (show ¬ (clr m).kd = 0 from hm.2.2.2), show a - d + 1 = a + 1 - d by omega, ih]
        obtain ⟨kd, nu, pa, nm, sz⟩ := m
        simp only [clr, List.cons.injEq, Nd.mk.injEq, and_true, true_and] at *
        omega
      · rw [hz (m :: R) (fun x hx => by
          rcases List.mem_cons.1 hx with rfl | hx
          · exact e
          · have := hp1 x hx
            omega), hskip]
        refine numd_slots c d n (a + 1) (m :: R) (fun x hx => ?_) hp
        have h1 := h x hx
        rcases List.mem_cons.1 hx with rfl | hx
        · omega
        · have := hp1 x hx
          omega
theorem parted (c : Cn) : ∀ (T : List Nd), (∀ m ∈ T, NdF c m) → T.Pairwise (fun x y => plc c x < plc c y) → ∃ D F, T = D ++ F ∧ (∀ m ∈ D, m.kd = 1) ∧ ∀ m ∈ F, m.kd = 2
  | [], _, _ => ⟨[], [], rfl, by simp, by simp⟩
  | m :: R, h, hp => by
    obtain ⟨hp1, hp2⟩ := List.pairwise_cons.1 hp
    have hm := h m (by simp)
    by_cases e : m.kd = 1
    · obtain ⟨D, F, e1, e2, e3⟩ := parted c R (fun x hx => h x (by simp [hx])) hp2
      refine ⟨m :: D, F, by rw [e1]; rfl, fun x hx => ?_, e3⟩
      rcases List.mem_cons.1 hx with rfl | hx
      · exact e
      · exact e2 x hx
    · refine ⟨[], m :: R, rfl, by simp, fun x hx => ?_⟩
      have hxf := h x hx
      have h1 := plc_ge hxf
      have h2 := plc_ge hm
      have h3 : x.kd = 1 ∨ x.kd = 2 := by
        unfold NdF at hxf
        omega
      rcases List.mem_cons.1 hx with rfl | hx
      · omega
      · have := hp1 x hx
        omega
theorem slot_left {c : Cn} {D F : List Nd} {p : Int} (h : ∀ m ∈ F, plc c m ≠ p) : slot c (D ++ F) p = slot c D p := by
  have e : F.find? (fun n => plc c n == p) = none := List.find?_eq_none.2 fun m hm => by simp [h m hm]
  unfold slot
  rw [List.find?_append, e, Option.or_none]
theorem slot_right {c : Cn} {D F : List Nd} {p : Int} (h : ∀ m ∈ D, plc c m ≠ p) : slot c (D ++ F) p = slot c F p := by
  have e : D.find? (fun n => plc c n == p) = none := List.find?_eq_none.2 fun m hm => by simp [h m hm]
  unfold slot
  rw [List.find?_append, e, Option.none_or]
theorem rdT_back {c : Cn} {T : List Nd} (C : List UInt8) (hc : c.In) (hT : risB c 0 T = true) : rdT c ((dirsL c T).flatMap dirL ++ ((filsL c T).flatMap filL ++ C)) = T := by
  obtain ⟨h1, h2⟩ := (ris_iff c T 0).1 hT
  have hN : ∀ m ∈ T, NdF c m := fun m hm => (h1 m hm).1
  obtain ⟨_, _, _, _, c5, c6, _, _, _, _⟩ := hc
  have l1 : (dirsL c T).length = c.dr := by simp [dirsL]
  have l2 : (filsL c T).length = c.fl := by simp [filsL]
  have s1 : ∀ a ∈ dirsL c T, (dirL a).length = 36 := fun a ha => by
    obtain ⟨k, _, rfl⟩ := List.mem_map.1 ha
    exact dirL_len (slot_size hN)
  have s2 : ∀ a ∈ filsL c T, (filL a).length = 40 := fun a ha => by
    obtain ⟨k, _, rfl⟩ := List.mem_map.1 ha
    exact filL_len (slot_size hN)
  have r1 := rows_flat dirL 36 ((filsL c T).flatMap filL ++ C) (dirsL c T) [] s1
  have r2 := rows_flat filL 40 C (filsL c T) ((dirsL c T).flatMap dirL) s2
  rw [l1] at r1
  rw [l2, flat_length dirL 36 _ s1, l1] at r2
  rw [List.nil_append, List.length_nil] at r1
  unfold rdT
  rw [r1, r2, List.map_map, List.map_map]
  obtain ⟨D, F, rfl, hD, hF⟩ := parted c T hN h2
  have pD : ∀ m ∈ D, 1 ≤ plc c m ∧ plc c m ≤ c.dr ∧ plc c m = m.nu := fun m hm => by
    have := plc_ge (hN m (by simp [hm]))
    have := hD m hm
    refine ⟨by omega, by omega, ?_⟩
    unfold plc
    rw [if_pos (hD m hm)]
  have pF : ∀ m ∈ F, (c.dr : Int) < plc c m ∧ plc c m ≤ c.dr + c.fl ∧ plc c m = c.dr + 1 + m.nu := fun m hm => by
    have := plc_ge (hN m (by simp [hm]))
    have := hF m hm
    refine ⟨by omega, by omega, ?_⟩
    unfold plc
    rw [if_neg (by omega)]
  obtain ⟨g1, g2, g3⟩ := List.pairwise_append.1 h2
  have e1 : (dirsL c (D ++ F)).map (rdD ∘ dirL) = (List.range c.dr).map fun (k : Nat) => clr (slot c D (1 + (k : Int))) := by
    unfold dirsL
    rw [List.map_map]
    apply List.map_congr_left
    intro k hk
    have hk2 := List.mem_range.1 hk
    show rdD (dirL (slot c (D ++ F) ((k : Int) + 1))) = _
    rw [slot_left (fun m hm => by have := pF m hm; omega), Int.add_comm]
    refine rdD_dirL c5 ?_
    rcases slot_or (c := c) (T := D) (p := 1 + (k : Int)) (fun m hm => hN m (by simp [hm])) with e | ⟨e, e2, _⟩
    · exact .inl e
    · exact .inr ⟨e2, hD _ e⟩
  have e2 : (filsL c (D ++ F)).map (rdF ∘ filL) = (List.range c.fl).map fun (k : Nat) => clr (slot c F (c.dr + 1 + (k : Int))) := by
    unfold filsL
    rw [List.map_map]
    apply List.map_congr_left
    intro k hk
    have hk2 := List.mem_range.1 hk
    show rdF (filL (slot c (D ++ F) (c.dr + 1 + (k : Int)))) = _
    rw [slot_right (fun m hm => by have := pD m hm; omega)]
    refine rdF_filL c5 c6 ?_
    rcases slot_or (c := c) (T := F) (p := c.dr + 1 + (k : Int)) (fun m hm => hN m (by simp [hm])) with e | ⟨e, e2, _⟩
    · exact .inl e
    · exact .inr ⟨e2, hF _ e⟩
  rw [e1, e2]
  have n1 := numd_slots c 0 c.dr 1 D (fun m hm => by have := pD m hm; have := hD m hm; omega) g1
  have n2 := numd_slots c (c.dr + 1) c.fl (c.dr + 1) F (fun m hm => by have := pF m hm; have := hF m hm; omega) g2
  rw [show (1 : Int) - 0 = 1 by omega] at n1
  rw [show ((c.dr : Int) + 1) - (c.dr + 1) = 0 by omega] at n2
  rw [n1, n2]
theorem pool_iff {c : Cn} {O : List Ob} {Q : List Int} : poolB c O Q = true ↔ (O.length = c.rows ∧ Q.length ≤ c.rows) ∧ (∀ o ∈ O, ObF c o) ∧ ∀ q ∈ Q, 0 ≤ q ∧ q < c.rows := by
  unfold poolB
  simp only [Bool.and_eq_true, decide_eq_true_eq, List.all_eq_true]
/-- what is decoded is what was encoded -/
theorem read_back {c : Cn} {T : List Nd} {O : List Ob} {Q : List Int} (Z : List UInt8) (hc : c.In) (hT : risB c 0 T = true) (hP : poolB c O Q = true) :
    rdT c (imgL c T O Q ++ Z) = T ∧ rdP c (imgL c T O Q ++ Z) = O ∧ rdQ c (imgL c T O Q ++ Z) = Q := by
  obtain ⟨⟨q1, q2⟩, q3, q4⟩ := pool_iff.1 hP
  obtain ⟨h1, _⟩ := (ris_iff c T 0).1 hT
  obtain ⟨a1, a2, a3, a4, _⟩ := imgL_len (fun m hm => (h1 m hm).1) q3 q1 q2
  have hr : c.rows ≤ 65600 := by
    unfold Cn.rows
    have := hc
    unfold Cn.In at this
    omega
  refine ⟨?_, ?_, ?_⟩
  · unfold imgL
    rw [List.append_assoc, List.append_assoc]
    exact rdT_back _ hc hT
  · have r := rows_flat objL 40 ((cntL c Q).flatMap queL ++ Z) O ((dirsL c T).flatMap dirL ++ (filsL c T).flatMap filL) (fun o ho => objL_len (q3 o ho))
    rw [List.length_append, a1, a2, q1] at r
    unfold rdP imgL
    have e : (dirsL c T).flatMap dirL ++ ((filsL c T).flatMap filL ++ (O.flatMap objL ++ (cntL c Q).flatMap queL)) ++ Z = (dirsL c T).flatMap dirL ++ (filsL c T).flatMap filL ++ (O.flatMap objL ++ ((cntL c Q).flatMap queL ++ Z)) := by simp only [List.append_assoc]
    rw [e, r, List.map_map]
    conv => rhs; rw [← List.map_id O]
    apply List.map_congr_left
    intro o ho
    exact rdO_objL (by have := hc; unfold Cn.In at this; omega) (q3 o ho)
  · have r := rows_flat queL 4 Z (cntL c Q) ((dirsL c T).flatMap dirL ++ ((filsL c T).flatMap filL ++ O.flatMap objL)) (fun q _ => queL_len q)
    have hl : (cntL c Q).length = 1 + c.rows := by
      simp only [cntL, List.length_cons, List.length_append, List.length_replicate]
      omega
    rw [List.length_append, List.length_append, a1, a2, a3, hl, ← Nat.add_assoc] at r
    have e : (dirsL c T).flatMap dirL ++ ((filsL c T).flatMap filL ++ (O.flatMap objL ++ (cntL c Q).flatMap queL)) ++ Z = (dirsL c T).flatMap dirL ++ ((filsL c T).flatMap filL ++ O.flatMap objL) ++ ((cntL c Q).flatMap queL ++ Z) := by simp only [List.append_assoc]
    have hL : rdL c (imgL c T O Q ++ Z) = cntL c Q := by
      unfold rdL imgL
      rw [e, r, List.map_map]
      conv => rhs; rw [← List.map_id (cntL c Q)]
      apply List.map_congr_left
      intro q hq
      have hq2 : 0 ≤ q ∧ q ≤ 65600 := by
        rcases List.mem_cons.1 hq with rfl | hq
        · omega
        · rcases List.mem_append.1 hq with hq | hq
          · have := q4 q hq
            omega
          · rw [List.eq_of_mem_replicate hq]
            omega
      show ((nuL (queL q) : Nat) : Int) = q
      unfold queL
      rw [nuL_bgL 4 _ (by omega)]
      omega
    unfold rdQ
    rw [hL]
    show List.take (Int.toNat (Q.length : Int)) (Q ++ _) = Q
    rw [Int.toNat_natCast, List.take_left]

/-! cut and joined -/
def catL (L : List ByteArray) : List UInt8 := L.flatMap fun s => s.data.toList
theorem cat_cut (b : Nat) : ∀ (m : Nat) (L : List UInt8), L.length = m * b → catL (cutL b m L) = L
  | 0, L, h => by
    have : L = [] := List.eq_nil_of_length_eq_zero (by omega)
    rw [this]
    rfl
  | m + 1, L, h => by
    rw [Nat.add_mul, Nat.one_mul] at h
    have hc : cutL b (m + 1) L = str (L.take b) :: cutL b m (L.drop b) := by
      unfold cutL
      rw [List.range_succ_eq_map, List.map_cons, List.map_map]
      congr 1
      · unfold seg
        rw [Nat.zero_mul, List.drop_zero]
      · apply List.map_congr_left
        intro i _
        show str (seg L ((i + 1) * b) b) = _
        unfold seg
        rw [List.drop_drop, Nat.add_mul, Nat.one_mul, Nat.add_comm]
    rw [hc]
    show (str (L.take b)).data.toList ++ catL (cutL b m (L.drop b)) = L
    rw [cat_cut b m (L.drop b) (by rw [List.length_drop]; omega), str_data, List.take_append_drop]
theorem cut_get {b m : Nat} {L : List UInt8} {i : Nat} (h : i < m) : (cutL b m L)[i]? = some (str (seg L (i * b) b)) := by
  unfold cutL
  rw [List.getElem?_map, List.getElem?_range h]
  rfl
theorem cut_len (b m : Nat) (L : List UInt8) : (cutL b m L).length = m := by simp [cutL]
theorem cut_sizes {b m : Nat} {L : List UInt8} (h : L.length = m * b) : ∀ s ∈ cutL b m L, s.size = b := by
  intro s hs
  obtain ⟨i, hi, rfl⟩ := List.mem_map.1 hs
  have := List.mem_range.1 hi
  rw [str_size, seg_len]
  have : (i + 1) * b ≤ m * b := Nat.mul_le_mul_right _ this
  rw [Nat.add_mul] at this
  omega
theorem cat_length (b : Nat) : ∀ (L : List ByteArray), (∀ s ∈ L, s.size = b) → (catL L).length = L.length * b
  | [], _ => by simp [catL]
  | s :: L, h => by
    show (s.data.toList ++ catL L).length = _
    rw [List.length_append, cat_length b L (fun x hx => h x (by simp [hx])), List.length_cons, Nat.add_mul]
    have : s.data.toList.length = s.size := rfl
    rw [this, h s (by simp)]
    omega
end Go.Proofs.YtckbbbcjpklnmaaDoor.Ix
