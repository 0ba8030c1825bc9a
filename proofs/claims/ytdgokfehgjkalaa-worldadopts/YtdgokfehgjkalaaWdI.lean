import Derived.Test.YtdgokfehgjkalaaWdH
namespace Go.Proofs.Ytdgokfehgjkalaa.Wd
open Go.RowKit Go.Lib Go.Deep

/-- how much a state has at most -/
structure Bnd (S : Wst) (B N : Nat) : Prop where
  tr : S.tr.length ≤ B
  ah : S.ah.length ≤ B
  pu : S.pu.length ≤ B
  nn : S.nn ≤ N
theorem Bnd.mono {S : Wst} {B N B' N' : Nat} (h : Bnd S B N) (hb : B ≤ B') (hn : N ≤ N') : Bnd S B' N' := ⟨Nat.le_trans h.tr hb, Nat.le_trans h.ah hb, Nat.le_trans h.pu hb, Nat.le_trans h.nn hn⟩

theorem Turn.cell {F : List Nat} {w W : World} {pb q : Nat} {S S' : Wst} (h : Top w pb q) (hs : St w q F S) (ht : Turn F w W q S') : W.cell? ⟨pb, 0, none⟩ = some (.pointer (some ⟨q, 0, none⟩)) := (h.keep hs ht).cell
theorem Turn.alloc {F : List Nat} {w W : World} {q : Nat} {S : Wst} (h : Turn F w W q S) (o : Obj) : Turn F w (W.alloc o) q S := h.below ((Below.refl _ _).alloc (Nat.le_refl _) _)
/-- a call behind a turn -/
theorem Turn.call {F : List Nat} {w W : World} {q : Nat} {S S' : Wst} {f : Nat} {args : Array Value} {x : Value} (h : Turn F w W q S) (hc : ∀ F', St W q F' S → Calls Try.prog f args W fun e w' => e = .returned x ∧ Turn F' W w' q S') : Calls Try.prog f args W fun e w' => e = .returned x ∧ Turn F w w' q S' := by
  obtain ⟨h1, F2, h2, h3⟩ := h
  refine (hc F2 h2).mono ?_
  rintro e w' ⟨rfl, hT⟩
  exact ⟨rfl, turn_trans h1 h3 hT⟩
theorem Turn.look {F : List Nat} {w W : World} {q : Nat} {S : Wst} {f : Nat} {args : Array Value} {x : Value} (h : Turn F w W q S) (hc : ∀ F', St W q F' S → Calls Try.prog f args W fun e w' => e = .returned x ∧ Below W.heap.size W w') : Calls Try.prog f args W fun e w' => e = .returned x ∧ Turn F w w' q S := by
  obtain ⟨h1, F2, h2, h3⟩ := id h
  refine (hc F2 h2).mono ?_
  rintro e w' ⟨rfl, hT⟩
  exact ⟨rfl, h.below hT⟩

def putE (S : Wst) (n b : ByteArray) : Int := refE S [nameE n, blobE b]
def putS (S : Wst) (n b : ByteArray) : Wst := if putE S n b = 0 then endS (cntS (layS (begS S) n b)) ⟨2, n, b, 0, { data := #[] }, []⟩ else S
def getR (S : Wst) (n : ByteArray) : Int := refE S [nameE n]
def codeF (f : Sto) (n : ByteArray) : Int := if (f (ky n)).isSome = true then 0 else 101
def getE (S : Wst) (n : ByteArray) : Int := if getR S n = 0 then codeF S.f n else getR S n
def getY (S : Wst) (n : ByteArray) : ByteArray := if getR S n = 0 then objB S.f n else { data := #[] }
def getS (S : Wst) (n : ByteArray) : Wst := if getR S n = 0 then endS (begS S) ⟨1, n, { data := #[] }, codeF S.f n, objB S.f n, []⟩ else S
def delS (S : Wst) (n : ByteArray) : Wst := if getR S n = 0 then endS (dropS (begS S) n) ⟨3, n, { data := #[] }, codeF S.f n, { data := #[] }, []⟩ else S
noncomputable def listS (S : Wst) : Wst := if S.off = true then S else endS (begS S) ⟨4, { data := #[] }, { data := #[] }, 0, { data := #[] }, keysL S.f⟩
theorem name_le {S : Wst} {n : ByteArray} (h : getR S n = 0) : n.size ≤ maxLen := by
  unfold getR at h
  cases hoff : S.off with
  | true => rw [refE_off hoff] at h; cases h
  | false =>
    rw [refE_on1 hoff] at h
    unfold nameE at h
    cases hn : nameOK n with
    | true =>
      unfold nameOK at hn
      have := (of_decide_eq_true hn).2
      unfold maxLen
      omega
    | false => rw [hn] at h; cases h
theorem name_le2 {S : Wst} {n b : ByteArray} (h : putE S n b = 0) : n.size ≤ maxLen := by
  unfold putE at h
  cases hoff : S.off with
  | true => rw [refE_off hoff] at h; cases h
  | false =>
    rw [refE_on2 hoff] at h
    unfold nameE at h
    cases hn : nameOK n with
    | true =>
      unfold nameOK at hn
      have := (of_decide_eq_true hn).2
      unfold maxLen
      omega
    | false => rw [hn] at h; cases h
theorem nil9 (w : World) : w.ownsRow 0 9 1 (.slice none 0 0) 0 [] := ⟨rfl, .inl ⟨rfl, rfl⟩⟩

set_option maxRecDepth 10000 in
set_option maxHeartbeats 1000000 in
theorem put_any (w : World) (pb q : Nat) (F : List Nat) (S : Wst) (n b : ByteArray) (B N : Nat) (h : Top w pb q) (hs : St w q F S) (hb : Bnd S B N) (hB : B ≤ 1580000000000) (hN : N ≤ 4398046511000) : Calls Try.prog 29 #[.pointer (some ⟨pb, 0, none⟩), .string n, .string b] w fun e w' => e = .returned (.int .i64 (putE S n b)) ∧ Turn F w w' q (putS S n b) := by
  have hf1 := nameFault_any n w
  have hf2 := fun W => blobFault_any b W
  obtain ⟨W0, hW0, hb0, h', hs', hr⟩ := laid2 w pb q F S (nameE n) (blobE b) h hs
  have c0 := h'.cell
  have HT0 : Turn F w W0 q S := hs.turn hb0
  by_cases he : putE S n b = 0
  · have e1 : putS S n b = endS (cntS (layS (begS S) n b)) ⟨2, n, b, 0, { data := #[] }, []⟩ := if_pos he
    have hnl := name_le2 he
    rw [e1, he]
    unfold putE at he
    rw [he] at hr
    have HC : Hid (∀ W S', Turn F w W q S' → W.cell? ⟨pb, 0, none⟩ = some (.pointer (some ⟨q, 0, none⟩))) := fun W S' hT => Turn.cell h hs hT
    have H1 := HT0.call (S' := begS S) (fun F' hF' => begin_any W0 q F' S hF' (by have := hb.tr; omega) (by have := hb.ah; omega))
    have H2 : Hid (∀ W, Turn F w W q (begS S) → Calls Try.prog 44 #[.pointer (some ⟨q, 0, none⟩), .agg #[.string n, .string b]] W fun e w' => e = .returned (.tuple #[]) ∧ Turn F w w' q (layS (begS S) n b)) := fun W hT => hT.call (fun F' hF' => lay_any W q F' _ n b hnl hF' (by have := hb.nn; have : (begS S).nn = S.nn := rfl; unfold maxLen; omega))
    have H3 : Hid (∀ W, Turn F w W q (layS (begS S) n b) → Calls Try.prog 59 #[.pointer (some ⟨q, 0, none⟩)] W fun e w' => e = .returned (.tuple #[]) ∧ Turn F w w' q (cntS (layS (begS S) n b))) := fun W hT => hT.call (fun F' hF' => count_any W q F' _ hF' (by have := hb.tr; have : (layS (begS S) n b).tr = S.tr := rfl; rw [this]; omega) (by have := hb.pu; have : (layS (begS S) n b).pu = S.pu := rfl; rw [this]; omega))
    have H4 : Hid (∀ W, Turn F w W q (cntS (layS (begS S) n b)) → Calls Try.prog 50 #[.pointer (some ⟨q, 0, none⟩), .agg #[.int .i64 2, .string n, .string b, .int .i64 0, .string { data := #[] }, .slice none 0 0]] W fun e w' => e = .returned (.tuple #[]) ∧ Turn F w w' q (endS (cntS (layS (begS S) n b)) ⟨2, n, b, 0, { data := #[] }, []⟩)) := fun W hT => hT.call (fun F' hF' => end_any W q F' _ ⟨2, n, b, 0, { data := #[] }, []⟩ none 0 0 hF' (by have := hb.tr; have : (cntS (layS (begS S) n b)).tr = S.tr := rfl; rw [this]; omega) (nil9 W))
    generalize nameE n = ne at *
    generalize blobE b = be at *
    clear e1 he hs h h' hs' hb0 hnl HT0 hb
    go_enter Try.func29, Try.ntmps29
    go_wp2_with fail
    refine hf1.mono ?_
    rintro e w' ⟨rfl, rfl⟩
    go_wp2_with fail
    refine (hf2 _).mono ?_
    rintro e w' ⟨rfl, rfl⟩
    go_wp2_with fail
    refine hr.mono ?_
    rintro e w' ⟨rfl, rfl⟩
    go_wp2_with fail
    refine H1.mono ?_
    rintro e w1 ⟨rfl, hT1⟩
    have d1 := HC.out _ _ hT1
    have hc2 := H2.out _ hT1
    clear hT1 c0 H1
    go_wp2_with fail
    refine hc2.mono ?_
    rintro e w2 ⟨rfl, hT2⟩
    have d2 := HC.out _ _ hT2
    have hc3 := H3.out _ hT2
    clear hT2 d1 hc2
    go_wp2_with fail
    refine hc3.mono ?_
    rintro e w3 ⟨rfl, hT3⟩
    have d3 := HC.out _ _ hT3
    have hc4 := H4.out _ hT3
    clear hT3 d2 hc3
    go_wp2_with fail
    refine hc4.mono ?_
    rintro e w4 ⟨rfl, hT4⟩
    clear d3 hc4
    go_wp2
    go_ret
    exact ⟨rfl, hT4⟩
  · have e1 : putS S n b = S := if_neg he
    rw [e1]
    unfold putE at he ⊢
    have hne : (refE S [nameE n, blobE b] != 0) = true := by simpa using he
    generalize refE S [nameE n, blobE b] = re at *
    generalize nameE n = ne at *
    generalize blobE b = be at *
    clear e1 he hs h h' hs' hb0 hb
    go_enter Try.func29, Try.ntmps29
    go_wp2_with fail
    refine hf1.mono ?_
    rintro e w' ⟨rfl, rfl⟩
    go_wp2_with fail
    refine (hf2 _).mono ?_
    rintro e w' ⟨rfl, rfl⟩
    go_wp2_with fail
    refine hr.mono ?_
    rintro e w' ⟨rfl, rfl⟩
    go_wp2
    go_ret
    exact ⟨rfl, HT0⟩

set_option maxRecDepth 10000 in
set_option maxHeartbeats 1000000 in
theorem get_any (w : World) (pb q : Nat) (F : List Nat) (S : Wst) (n : ByteArray) (B N : Nat) (h : Top w pb q) (hs : St w q F S) (hb : Bnd S B N) (hB : B ≤ 1580000000000) : Calls Try.prog 25 #[.pointer (some ⟨pb, 0, none⟩), .string n] w fun e w' => e = .returned (.tuple #[.string (getY S n), .int .i64 (getE S n)]) ∧ Turn F w w' q (getS S n) := by
  have hf1 := nameFault_any n w
  obtain ⟨W0, hW0, hb0, h', hs', hr⟩ := laid1 w pb q F S (nameE n) h hs
  have c0 := h'.cell
  have HT0 : Turn F w W0 q S := hs.turn hb0
  by_cases he : getR S n = 0
  · have e1 : getS S n = endS (begS S) ⟨1, n, { data := #[] }, codeF S.f n, objB S.f n, []⟩ := if_pos he
    have e2 : getY S n = objB S.f n := if_pos he
    have e3 : getE S n = codeF S.f n := if_pos he
    have hnl := name_le he
    rw [e1, e2, e3]
    unfold getR at he
    rw [he] at hr
    have HC : Hid (∀ W S', Turn F w W q S' → W.cell? ⟨pb, 0, none⟩ = some (.pointer (some ⟨q, 0, none⟩))) := fun W S' hT => Turn.cell h hs hT
    have H1 := HT0.call (S' := begS S) (fun F' hF' => begin_any W0 q F' S hF' (by have := hb.tr; omega) (by have := hb.ah; omega))
    have H2 : Hid (∀ W, Turn F w W q (begS S) → Calls Try.prog 35 #[.pointer (some ⟨q, 0, none⟩), .string n] W fun e w' => e = .returned (.tuple #[.agg #[.string (objN S.f n), .string (objB S.f n)], .bool (S.f (ky n)).isSome]) ∧ Turn F w w' q (begS S)) := fun W hT => hT.look (fun F' hF' => object_any W q F' (begS S) n hnl hF')
    have H4 : Hid (∀ W on, Turn F w W q (begS S) → Calls Try.prog 50 #[.pointer (some ⟨q, 0, none⟩), .agg #[.int .i64 1, .string n, .string { data := #[] }, .int .i64 (codeF S.f n), .string (objB S.f n), .slice none 0 0]] (W.alloc (.cells #[.string on, .string (objB S.f n)] 56)).drew fun e w' => e = .returned (.tuple #[]) ∧ w'.cell? ⟨W.heap.size, 1, none⟩ = some (.string (objB S.f n)) ∧ Turn F w w' q (endS (begS S) ⟨1, n, { data := #[] }, codeF S.f n, objB S.f n, []⟩)) := fun W on hT => by
      have hk : (W.alloc (.cells #[.string on, .string (objB S.f n)] 56)).drew.heap[W.heap.size]? = some (.cells #[.string on, .string (objB S.f n)] 56 (0, 0)) := heap_new _ _
      obtain ⟨h1, F2, h2, h3⟩ := (hT.alloc (.cells #[.string on, .string (objB S.f n)] 56)).below (Below.refl _ _).drew
      refine (end_any _ q F2 (begS S) ⟨1, n, { data := #[] }, codeF S.f n, objB S.f n, []⟩ none 0 0 h2 (by have := hb.tr; have : (begS S).tr = S.tr := rfl; rw [this]; omega) (nil9 _)).mono ?_
      rintro e w' ⟨rfl, hT2⟩
      exact ⟨rfl, (cell_of_heap ((hT2.1.block _ (heap_lt hk) (h2.notin hk (by decide))).trans hk)).trans rfl, turn_trans h1 h3 hT2⟩
    generalize nameE n = ne at *
    generalize objN S.f n = on at *
    generalize objB S.f n = ob at *
    unfold codeF at *
    generalize hth : (S.f (ky n)).isSome = th at *
    clear hth e1 e2 e3 he hs h h' hs' hb0 hnl HT0 hb
    cases th
    all_goals
      simp only [Bool.false_eq_true, if_true, if_false] at *
      go_enter Try.func25, Try.ntmps25
      go_wp2_with fail
      refine hf1.mono ?_
      rintro e w' ⟨rfl, rfl⟩
      go_wp2_with fail
      refine hr.mono ?_
      rintro e w' ⟨rfl, rfl⟩
      go_wp2_with fail
      refine H1.mono ?_
      rintro e w1 ⟨rfl, hT1⟩
      have d1 := HC.out _ _ hT1
      have hc2 := H2.out _ hT1
      clear hT1 c0 H1
      go_wp2_with fail
      refine hc2.mono ?_
      rintro e w2 ⟨rfl, hT2⟩
      have d2 := HC.out _ _ (hT2.alloc (.cells #[.string on, .string ob] 56))
      have d2' : (w2.alloc (.cells #[.string on, .string ob] 56)).drew.cell? ⟨pb, 0, none⟩ = some (.pointer (some ⟨q, 0, none⟩)) := d2
      have hc4 := H4.out w2 on hT2
      clear hT2 d1 hc2
      go_wp2_with fail
      go_region_with (go_at_call 50; refine hc4.mono ?_; rintro e w4 ⟨rfl, k4, hT4⟩)
      all_goals
        clear d2 d2' hc4
        go_wp2
        go_ret2
        exact ⟨rfl, hT4⟩
  · have e1 : getS S n = S := if_neg he
    have e2 : getY S n = { data := #[] } := if_neg he
    have e3 : getE S n = getR S n := if_neg he
    rw [e1, e2, e3]
    unfold getR at he ⊢
    have hne : (refE S [nameE n] != 0) = true := by simpa using he
    generalize refE S [nameE n] = re at *
    generalize nameE n = ne at *
    clear e1 e2 e3 he hs h h' hs' hb0 hb
    go_enter Try.func25, Try.ntmps25
    go_wp2_with fail
    refine hf1.mono ?_
    rintro e w' ⟨rfl, rfl⟩
    go_wp2_with fail
    refine hr.mono ?_
    rintro e w' ⟨rfl, rfl⟩
    go_wp2
    go_ret2
    exact ⟨rfl, HT0⟩

end Go.Proofs.Ytdgokfehgjkalaa.Wd
