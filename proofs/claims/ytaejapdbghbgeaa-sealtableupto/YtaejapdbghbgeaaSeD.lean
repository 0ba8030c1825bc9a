import Derived.Test.YtaejapdbghbgeaaSeC
namespace Go.Proofs.Ytaejapdbghbgeaa.Se
open Go.RowKit Go.Lib Go.Deep

/-- what the cells of a sealer hold, in whatever world behind -/
theorem Idl.cells {w : World} {pb : Nat} {F : List Nat} {R : List Row} (h : Idl w pb F R) : ∃ q, Hid (∀ W, Below w.heap.size w W → Idl W pb F R ∧ W.cell? ⟨pb, 0, none⟩ = some (.int .i64 40) ∧ W.cell? ⟨pb, 1, none⟩ = some (.int .i64 1) ∧ W.cell? ⟨pb, 2, none⟩ = some (.pointer (some ⟨q, 0, none⟩))) ∧
    Hid (∀ (W : World) (c : ByteArray), Below w.heap.size w W → c.size ≤ 281474976710656 → Calls Try.prog 25 #[.pointer (some ⟨q, 0, none⟩), .string c] W fun e w' => e = .returned (.bool (gave R c)) ∧ Below w.heap.size w w') ∧
    Hid (∀ (W : World) (c : ByteArray), Below w.heap.size w W → c.size ≤ 281474976710656 → R.length ≤ 4294967296 → Calls Try.prog 32 #[.pointer (some ⟨q, 0, none⟩), .string c] W fun e w' => e = .returned (.tuple #[rowV ((lookR R c).getD zeroRow), .bool (lookR R c).isSome]) ∧ Below w.heap.size w w') ∧
    Hid (∀ (W : World) (r : Row), Below w.heap.size w W → r.blob.size ≤ 281474976710656 → R.length ≤ 4294967296 → gave R r.blob = false → Calls Try.prog 27 #[.pointer (some ⟨q, 0, none⟩), .agg #[.int .i64 r.kind, .string r.name, .string r.blob, .string r.text]] W fun e w' => e = .returned (.tuple #[]) ∧ Only F w w' ∧ ∃ F', Idl w' pb F' (R ++ [r]) ∧ ∀ k, k ∈ F' → k ∈ F ∨ w.heap.size ≤ k) ∧
    ∃ v, w.ownsRow 0 65 4 v R.length (rowCells R) ∧ w.cell? ⟨q, 0, none⟩ = some v ∧ q < w.heap.size := by
  obtain ⟨q, m, v, D, hF, h1, h2, h3, h4, h5⟩ := h.ex
  have keep : ∀ W, Below w.heap.size w W → W.heap[pb]? = w.heap[pb]? ∧ W.heap[q]? = w.heap[q]? ∧ W.ownsRow 0 65 4 v R.length (rowCells R) ∧ W.ownsMap Try.prog 9 (plainElem Try.prog 3) m R.length D := fun W hb =>
    ⟨hb.block pb (heap_lt h1), hb.block q (heap_lt h2), owns_keep h3 (fun g hg => hb.block g (World.ownsRow.lt h3 g hg).2), map_keep h4 (hb.block m h4.lt)⟩
  refine ⟨q, fun W hb => ⟨h.below hb, ?_, ?_, ?_⟩, fun W c hb hc => ?_, fun W c hb hc hn => ?_, fun W r hb hc hn hg => ?_, v, h3, (cell_of_heap h2).trans rfl, heap_lt h2⟩
  · exact (cell_of_heap ((keep W hb).1.trans h1)).trans rfl
  · exact (cell_of_heap ((keep W hb).1.trans h1)).trans rfl
  · exact (cell_of_heap ((keep W hb).1.trans h1)).trans rfl
  · obtain ⟨k1, k2, k3, k4⟩ := keep W hb
    refine (gave_any W q m v D R c hc (k2.trans h2) k4 h5).mono ?_
    rintro e w' ⟨rfl, hb'⟩
    exact ⟨rfl, hb.trans (hb'.mono hb.size)⟩
  · obtain ⟨k1, k2, k3, k4⟩ := keep W hb
    refine (row_any W q m v D R c hc hn (k2.trans h2) k3 k4 h5).mono ?_
    rintro e w' ⟨rfl, hb'⟩
    exact ⟨rfl, hb.trans (hb'.mono hb.size)⟩
  · obtain ⟨k1, k2, k3, k4⟩ := keep W hb
    refine (note_any W pb F q m v D R r hc hn hF (k1.trans h1) (k2.trans h2) k3 k4 h5 hg).mono ?_
    rintro e w' ⟨rfl, ho, F', hI, hF'⟩
    refine ⟨rfl, (only_below (Only.refl F w) hb).trans ho, F', hI, fun k hk => ?_⟩
    rcases hF' k hk with h | h
    · exact .inl h
    · exact .inr (Nat.le_trans hb.size h)

/-- contracts carried to worlds behind -/
theorem carry {P : Program} {f : Nat} {args : Array Value} {w : World} {x : Value} (h : ∀ W, Calls P f args W fun e w' => e = .returned x ∧ Below W.heap.size W w') : Hid (∀ W, Below w.heap.size w W → Calls P f args W fun e w' => e = .returned x ∧ Below w.heap.size w w') := fun W hb => (h W).mono (by
  rintro e w' ⟨rfl, hb'⟩
  exact ⟨rfl, hb.trans (hb'.mono hb.size)⟩)

theorem coins_any (w : World) (pb : Nat) (F : List Nat) (R : List Row) (n : Int) (h : Idl w pb F R) : Calls Try.prog 20 #[.pointer (some ⟨pb, 0, none⟩), .int .i64 n] w fun e w' => e = .returned (.int .i64 (coinsN n)) ∧ Below w.heap.size w w' := by
  have ht := there_any w pb F R h
  have ha := carry (w := w) (fun W => asked_any n W)
  unfold idV at ha
  obtain ⟨q, H1, H2, H3, H4, v, h5, h6, h7⟩ := h.cells
  clear h h5 h6 h7 H2 H3 H4
  go_enter Try.func20, Try.ntmps20
  go_wp2_with fail
  refine ht.mono ?_
  rintro e w2 ⟨rfl, hb⟩
  obtain ⟨_, c0, c1, c2⟩ := H1.out _ hb
  go_wp2_with fail
  refine (ha.out _ hb).mono ?_
  rintro e w3 ⟨rfl, hb3⟩
  go_wp2
  go_ret
  exact ⟨rfl, hb3⟩

theorem fresh_any (w : World) (pb : Nat) (F : List Nat) (R : List Row) (c : ByteArray) (hc : c.size ≤ 281474976710656) (h : Idl w pb F R) : Calls Try.prog 9 #[.pointer (some ⟨pb, 0, none⟩), .string c] w fun e w' => e = .returned (.bool (freshB R c)) ∧ Below w.heap.size w w' := by
  have ht := there_any w pb F R h
  have ha := carry (w := w) (fun W => serves_any c W)
  unfold idV at ha
  obtain ⟨q, H1, H2, H3, H4, v, h5, h6, h7⟩ := h.cells
  have hg : Hid (∀ W, Below w.heap.size w W → Calls Try.prog 25 #[.pointer (some ⟨q, 0, none⟩), .string c] W fun e w' => e = .returned (.bool (gave R c)) ∧ Below w.heap.size w w') := fun W hb => H2.out W c hb hc
  unfold freshB
  generalize gave R c = b at hg
  clear h h5 h6 h7 H2 H3 H4
  cases hd : decide (40 ≤ c.size ∧ c.size ≤ 1048616) with
  | false =>
    rw [hd] at ha
    clear hd
    go_enter Try.func9, Try.ntmps9
    go_wp2_with fail
    refine ht.mono ?_
    rintro e w2 ⟨rfl, hb⟩
    obtain ⟨_, c0, c1, c2⟩ := H1.out _ hb
    go_wp2_with fail
    refine (ha.out _ hb).mono ?_
    rintro e w3 ⟨rfl, hb3⟩
    go_wp2
    go_ret
    exact ⟨rfl, hb3⟩
  | true =>
    rw [hd] at ha
    clear hd
    go_enter Try.func9, Try.ntmps9
    go_wp2_with fail
    refine ht.mono ?_
    rintro e w2 ⟨rfl, hb⟩
    obtain ⟨_, c0, c1, c2⟩ := H1.out _ hb
    go_wp2_with fail
    refine (ha.out _ hb).mono ?_
    rintro e w3 ⟨rfl, hb3⟩
    obtain ⟨_, d0, d1, d2⟩ := H1.out _ hb3
    clear c0 c1 c2
    go_wp2_with fail
    refine (hg.out _ hb3).mono ?_
    rintro e w4 ⟨rfl, hb4⟩
    go_wp2
    go_ret
    exact ⟨by simp, hb4⟩

set_option maxRecDepth 20000 in
set_option maxHeartbeats 1000000 in
theorem seal_any (w : World) (pb : Nat) (F : List Nat) (R : List Row) (kind : Int) (name text coins : ByteArray) (hc : coins.size ≤ 281474976710656) (hn : R.length ≤ 4294967296) (h : Idl w pb F R) :
    Calls Try.prog 10 #[.pointer (some ⟨pb, 0, none⟩), .int .i64 kind, .string name, .string text, .string coins] w fun e w' => e = .returned (.tuple #[.string (sealY R kind name text coins), .int .i64 (sealE R kind name text coins)]) ∧ Only F w w' ∧ ∃ F', Idl w' pb F' (sealR R kind name text coins) ∧ ∀ k, k ∈ F' → k ∈ F ∨ w.heap.size ≤ k := by
  have ht := there_any w pb F R h
  have ha := carry (w := w) (fun W => sealFault_any kind name text coins W)
  unfold idV at ha
  obtain ⟨q, H1, H2, H3, H4, v, h5, h6, h7⟩ := h.cells
  have hg : Hid (∀ W, Below w.heap.size w W → Calls Try.prog 25 #[.pointer (some ⟨q, 0, none⟩), .string coins] W fun e w' => e = .returned (.bool (gave R coins)) ∧ Below w.heap.size w w') := fun W hb => H2.out W coins hb hc
  have hnt : Hid (gave R coins = false → ∀ W, Below w.heap.size w W → Calls Try.prog 27 #[.pointer (some ⟨q, 0, none⟩), .agg #[.int .i64 kind, .string name, .string coins, .string text]] W fun e w' => e = .returned (.tuple #[]) ∧ Only F w w' ∧ ∃ F', Idl w' pb F' (R ++ [⟨kind, name, coins, text⟩]) ∧ ∀ k, k ∈ F' → k ∈ F ∨ w.heap.size ≤ k) := fun hg W hb => H4.out W ⟨kind, name, coins, text⟩ hb hc hn hg
  clear h5 h6 h7 H2 H3 H4 h
  by_cases he : askE kind name text coins = 0
  · rw [he] at ha
    cases hgv : gave R coins with
    | true =>
      have e1 : sealE R kind name text coins = 80 := by unfold sealE; rw [if_neg (by simp [he]), if_pos hgv]
      have e2 : sealY R kind name text coins = { data := #[] } := by unfold sealY; rw [e1]; rfl
      have e3 : sealR R kind name text coins = R := by unfold sealR; rw [e1]; rfl
      rw [e1, e2, e3]
      rw [hgv] at hg
      clear e1 e2 e3 he hgv hnt
      go_enter Try.func10, Try.ntmps10
      go_wp2_with fail
      refine ht.mono ?_
      rintro e w2 ⟨rfl, hb⟩
      obtain ⟨_, c0, c1, c2⟩ := H1.out _ hb
      go_wp2_with fail
      refine (ha.out _ hb).mono ?_
      rintro e w3 ⟨rfl, hb3⟩
      obtain ⟨_, d0, d1, d2⟩ := H1.out _ hb3
      clear c0 c1 c2
      go_wp2_with fail
      refine (hg.out _ hb3).mono ?_
      rintro e w4 ⟨rfl, hb4⟩
      have HI : Hid _ := (H1.out _ hb4).1
      clear d0 d1 d2
      go_wp2
      go_ret2
      exact ⟨rfl, only_below (Only.refl _ _) hb4, F, HI.out, fun k hk => .inl hk⟩
    | false =>
      have e1 : sealE R kind name text coins = 0 := by unfold sealE; rw [if_neg (by simp [he]), if_neg (by simp [hgv])]
      have e2 : sealY R kind name text coins = coins := by unfold sealY; rw [if_pos e1]
      have e3 : sealR R kind name text coins = R ++ [⟨kind, name, coins, text⟩] := by unfold sealR; rw [if_pos e1]
      rw [e1, e2, e3]
      have HN := hnt.out hgv
      have HN : Hid _ := HN
      rw [hgv] at hg
      clear e1 e2 e3 he hgv hnt
      go_enter Try.func10, Try.ntmps10
      go_wp2_with fail
      refine ht.mono ?_
      rintro e w2 ⟨rfl, hb⟩
      obtain ⟨_, c0, c1, c2⟩ := H1.out _ hb
      go_wp2_with fail
      refine (ha.out _ hb).mono ?_
      rintro e w3 ⟨rfl, hb3⟩
      obtain ⟨_, d0, d1, d2⟩ := H1.out _ hb3
      clear c0 c1 c2
      go_wp2_with fail
      refine (hg.out _ hb3).mono ?_
      rintro e w4 ⟨rfl, hb4⟩
      obtain ⟨_, d0, d1, d2⟩ := H1.out _ hb4
      go_wp2_with fail
      refine (HN.out _ hb4).mono ?_
      rintro e w5 ⟨rfl, ho, F', hI, hF'⟩
      have HI : Hid _ := hI
      have HFF : Hid (∀ k, k ∈ F' → k ∈ F ∨ w.heap.size ≤ k) := hF'
      clear d0 d1 d2 hI hF'
      go_wp2
      go_ret2
      exact ⟨rfl, ho, F', HI.out, HFF.out⟩
  · have e1 : sealE R kind name text coins = askE kind name text coins := by unfold sealE; rw [if_pos he]
    have e2 : sealY R kind name text coins = { data := #[] } := by unfold sealY; rw [e1, if_neg he]
    have e3 : sealR R kind name text coins = R := by unfold sealR; rw [e1, if_neg he]
    rw [e1, e2, e3]
    have hne : (askE kind name text coins != 0) = true := by simpa using he
    generalize askE kind name text coins = ae at *
    clear e1 e2 e3 he hnt
    go_enter Try.func10, Try.ntmps10
    go_wp2_with fail
    refine ht.mono ?_
    rintro e w2 ⟨rfl, hb⟩
    obtain ⟨_, c0, c1, c2⟩ := H1.out _ hb
    go_wp2_with fail
    refine (ha.out _ hb).mono ?_
    rintro e w3 ⟨rfl, hb3⟩
    have HI : Hid _ := (H1.out _ hb3).1
    go_wp2
    go_ret2
    exact ⟨rfl, only_below (Only.refl _ _) hb3, F, HI.out, fun k hk => .inl hk⟩

theorem open_look (R : List Row) (kind : Int) (name blob : ByteArray) (hp : placeE kind name = 0) {D : DataW Unit} (h : Tab D R) :
    (lookR R blob = none → openE R kind name blob = 81 ∧ openY R kind name blob = { data := #[] }) ∧
    ∀ r, lookR R blob = some r → (r.kind = kind → r.name = name → openE R kind name blob = 0 ∧ openY R kind name blob = r.text) ∧ ((r.kind ≠ kind ∨ r.name ≠ name) → openE R kind name blob = 81 ∧ openY R kind name blob = { data := #[] }) := by
  have hE : openE R kind name blob = if (R.find? (hit kind name blob)).isSome = true then 0 else 81 := by unfold openE; rw [if_neg (by simp [hp])]
  have hY : openY R kind name blob = ((R.find? (hit kind name blob)).map Row.text).getD { data := #[] } := by unfold openY; rw [if_neg (by simp [hp])]
  refine ⟨fun hl => ?_, fun r hl => ?_⟩
  · have : R.find? (hit kind name blob) = none := by
      rw [List.find?_eq_none]
      intro q hq he
      have h1 := List.find?_eq_none.1 hl q hq
      exact h1 (decide_eq_true (of_decide_eq_true he).2.2)
    rw [hE, hY, this]
    exact ⟨rfl, rfl⟩
  · have h1 : r.blob = blob := of_decide_eq_true (List.find?_some (p := fun r : Row => decide (r.blob = blob)) hl)
    obtain ⟨j, hj⟩ := List.mem_iff_getElem?.1 (List.mem_of_find?_eq_some hl)
    have hf := h.find hj (kind := kind) (name := name) (blob := blob) (by rw [h1])
    refine ⟨fun e1 e2 => ?_, fun e1 => ?_⟩
    · rw [if_pos (show hit kind name blob r = true from decide_eq_true ⟨e1, e2, h1⟩)] at hf
      rw [hE, hY, hf]
      exact ⟨rfl, rfl⟩
    · rw [if_neg (fun e => by
        obtain ⟨e2, e3, _⟩ := of_decide_eq_true e
        rcases e1 with e1 | e1
        · exact e1 e2
        · exact e1 e3)] at hf
      rw [hE, hY, hf]
      exact ⟨rfl, rfl⟩

set_option maxRecDepth 20000 in
set_option maxHeartbeats 1000000 in
theorem open_any (w : World) (pb : Nat) (F : List Nat) (R : List Row) (kind : Int) (name blob : ByteArray) (hc : blob.size ≤ 281474976710656) (hn : R.length ≤ 4294967296) (h : Idl w pb F R) :
    Calls Try.prog 21 #[.pointer (some ⟨pb, 0, none⟩), .int .i64 kind, .string name, .string blob] w fun e w' => e = .returned (.tuple #[.string (openY R kind name blob), .int .i64 (openE R kind name blob)]) ∧ Below w.heap.size w w' := by
  have ht := there_any w pb F R h
  have ha := carry (w := w) (fun W => place_any kind name W)
  unfold idV at ha
  obtain ⟨q, H1, H2, H3, H4, v, h5, h6, h7⟩ := h.cells
  have hg : Hid (∀ W, Below w.heap.size w W → Calls Try.prog 32 #[.pointer (some ⟨q, 0, none⟩), .string blob] W fun e w' => e = .returned (.tuple #[rowV ((lookR R blob).getD zeroRow), .bool (lookR R blob).isSome]) ∧ Below w.heap.size w w') := fun W hb => H3.out W blob hb hc hn
  clear h5 h6 h7 H2 H3 H4
  by_cases he : placeE kind name = 0
  · obtain ⟨_, _, _, D, _, _, _, _, _, hTab⟩ := h.ex
    obtain ⟨o1, o2⟩ := open_look R kind name blob he hTab
    rw [he] at ha
    cases hlk : lookR R blob with
    | none =>
      rw [(o1 hlk).1, (o1 hlk).2]
      rw [hlk] at hg
      clear o1 o2 hlk hTab he h
      have hg' : Hid (∀ W, Below w.heap.size w W → Calls Try.prog 32 #[.pointer (some ⟨q, 0, none⟩), .string blob] W fun e w' => e = .returned (.tuple #[.agg #[.int .i64 0, .string { data := #[] }, .string { data := #[] }, .string { data := #[] }], .bool false]) ∧ Below w.heap.size w w') := hg
      clear hg
      go_enter Try.func21, Try.ntmps21
      go_wp2_with fail
      refine ht.mono ?_
      rintro e w2 ⟨rfl, hb⟩
      obtain ⟨_, c0, c1, c2⟩ := H1.out _ hb
      go_wp2_with fail
      refine (ha.out _ hb).mono ?_
      rintro e w3 ⟨rfl, hb3⟩
      obtain ⟨_, d0, d1, d2⟩ := H1.out _ hb3
      clear c0 c1 c2
      go_wp2_with fail
      refine (hg'.out _ hb3).mono ?_
      rintro e w4 ⟨rfl, hb4⟩
      clear d0 d1 d2
      go_wp2
      go_ret2
      exact ⟨rfl, (hb4.alloc hb4.size _)⟩
    | some r =>
      rw [hlk] at hg
      have hg' : Hid (∀ W, Below w.heap.size w W → Calls Try.prog 32 #[.pointer (some ⟨q, 0, none⟩), .string blob] W fun e w' => e = .returned (.tuple #[.agg #[.int .i64 r.kind, .string r.name, .string r.blob, .string r.text], .bool true]) ∧ Below w.heap.size w w') := hg
      clear hg
      obtain ⟨o3, o4⟩ := o2 r hlk
      clear o1 o2 hlk hTab he h
      obtain ⟨kd, nm, bl, tx⟩ := r
      dsimp only at *
      by_cases hk : kd = kind
      · by_cases hnm : nm = name
        · obtain ⟨o5, o6⟩ := o3 hk hnm
          rw [o5, o6]
          clear o3 o4 o5 o6
          subst hk hnm
          go_enter Try.func21, Try.ntmps21
          go_wp2_with fail
          refine ht.mono ?_
          rintro e w2 ⟨rfl, hb⟩
          obtain ⟨_, c0, c1, c2⟩ := H1.out _ hb
          go_wp2_with fail
          refine (ha.out _ hb).mono ?_
          rintro e w3 ⟨rfl, hb3⟩
          obtain ⟨_, d0, d1, d2⟩ := H1.out _ hb3
          clear c0 c1 c2
          go_wp2_with fail
          refine (hg'.out _ hb3).mono ?_
          rintro e w4 ⟨rfl, hb4⟩
          clear d0 d1 d2
          go_wp2
          go_ret2
          exact ⟨rfl, (hb4.alloc hb4.size _)⟩
        · obtain ⟨o5, o6⟩ := o4 (.inr hnm)
          rw [o5, o6]
          have hne := ne_toList hnm
          clear o3 o4 o5 o6
          subst hk
          go_enter Try.func21, Try.ntmps21
          go_wp2_with fail
          refine ht.mono ?_
          rintro e w2 ⟨rfl, hb⟩
          obtain ⟨_, c0, c1, c2⟩ := H1.out _ hb
          go_wp2_with fail
          refine (ha.out _ hb).mono ?_
          rintro e w3 ⟨rfl, hb3⟩
          obtain ⟨_, d0, d1, d2⟩ := H1.out _ hb3
          clear c0 c1 c2
          go_wp2_with fail
          refine (hg'.out _ hb3).mono ?_
          rintro e w4 ⟨rfl, hb4⟩
          clear d0 d1 d2
          go_wp2
          go_ret2
          exact ⟨rfl, (hb4.alloc hb4.size _)⟩
      · obtain ⟨o5, o6⟩ := o4 (.inl hk)
        rw [o5, o6]
        have hne : (kd != kind) = true := by simpa using hk
        clear o3 o4 o5 o6
        go_enter Try.func21, Try.ntmps21
        go_wp2_with fail
        refine ht.mono ?_
        rintro e w2 ⟨rfl, hb⟩
        obtain ⟨_, c0, c1, c2⟩ := H1.out _ hb
        go_wp2_with fail
        refine (ha.out _ hb).mono ?_
        rintro e w3 ⟨rfl, hb3⟩
        obtain ⟨_, d0, d1, d2⟩ := H1.out _ hb3
        clear c0 c1 c2
        go_wp2_with fail
        refine (hg'.out _ hb3).mono ?_
        rintro e w4 ⟨rfl, hb4⟩
        clear d0 d1 d2
        go_wp2
        go_ret2
        exact ⟨rfl, (hb4.alloc hb4.size _)⟩
  · have e1 : openE R kind name blob = placeE kind name := by unfold openE; rw [if_pos he]
    have e2 : openY R kind name blob = { data := #[] } := by unfold openY; rw [if_pos he]
    rw [e1, e2]
    have hne : (placeE kind name != 0) = true := by simpa using he
    generalize placeE kind name = ae at *
    clear e1 e2 he h
    go_enter Try.func21, Try.ntmps21
    go_wp2_with fail
    refine ht.mono ?_
    rintro e w2 ⟨rfl, hb⟩
    obtain ⟨_, c0, c1, c2⟩ := H1.out _ hb
    go_wp2_with fail
    refine (ha.out _ hb).mono ?_
    rintro e w3 ⟨rfl, hb3⟩
    go_wp2
    go_ret2
    exact ⟨rfl, hb3⟩

theorem table_any (w : World) (pb : Nat) (F : List Nat) (R : List Row) (hn : R.length ≤ 4294967296) (h : Idl w pb F R) :
    Calls Try.prog 12 #[.pointer (some ⟨pb, 0, none⟩)] w fun e w' => ∃ v', e = .returned v' ∧ w'.ownsRow w.heap.size 65 4 v' R.length (rowCells R) ∧ Below w.heap.size w w' := by
  have ht := there_any w pb F R h
  obtain ⟨q, H1, H2, H3, H4, v, h5, h6, h7⟩ := h.cells
  have HC : Hid (∀ W, Below w.heap.size w W → Calls Try.prog 29 #[v] W fun e w' => ∃ v', e = .returned v' ∧ w'.ownsRow w.heap.size 65 4 v' R.length (rowCells R) ∧ Below w.heap.size w w') := fun W hb =>
    (clones_any W v R hn (owns_keep h5 (fun g hg => hb.block g (World.ownsRow.lt h5 g hg).2))).mono (by
      rintro e w' ⟨v', rfl, ho, hb'⟩
      exact ⟨v', rfl, ⟨ho.1, by
        rcases ho.2 with q | ⟨g, cap, cur, e1, e2, e3⟩
        · exact .inl q
        · exact .inr ⟨g, cap, cur, e1, Nat.le_trans hb.size e2, e3⟩⟩, hb.trans (hb'.mono hb.size)⟩)
  obtain ⟨av, cv, rfl⟩ := own_len h5
  have HQ : Hid (∀ W, Below w.heap.size w W → W.cell? ⟨q, 0, none⟩ = some (.slice av R.length cv)) := fun W hb => (hb.cell (p := ⟨q, 0, none⟩) h7).trans h6
  clear h h5 h6 h7 H2 H3 H4
  go_enter Try.func12, Try.ntmps12
  go_wp2_with fail
  refine ht.mono ?_
  rintro e w2 ⟨rfl, hb⟩
  obtain ⟨_, c0, c1, c2⟩ := H1.out _ hb
  have c3 := HQ.out _ hb
  go_wp2_with fail
  refine (HC.out _ hb).mono ?_
  rintro e w3 ⟨v', rfl, ho, hb3⟩
  have HO : Hid _ := ho
  clear ho
  go_wp2
  go_ret
  exact ⟨_, rfl, HO.out, hb3⟩

theorem newTable_any (w : World) : Calls Try.prog 22 #[] w fun e w' => ∃ q m, e = .returned (.pointer (some ⟨q, 0, none⟩)) ∧ w'.heap[q]? = some (.cells #[.slice none 0 0, .map (some m)] 72 (0, 0)) ∧ w'.heap[m]? = some (.map #[] 0) ∧ w.heap.size ≤ q ∧ w.heap.size ≤ m ∧ Below w.heap.size w w' := by
  have hmm := @run_makeMap Try.prog
  go_enter Try.func22, Try.ntmps22
  go_wp2
  go_ret
  refine ⟨w.heap.size + 1, w.heap.size, rfl, ?_, ?_, by omega, by omega, ((Below.refl _ _).alloc (Nat.le_refl _) _).alloc (by simp) _⟩
  · have := heap_new (w.alloc (.map #[] 0)) (.cells #[.slice none 0 0, .map (some w.heap.size)] 72)
    rw [show (w.alloc (.map #[] 0)).heap.size = w.heap.size + 1 by simp] at this
    exact this
  · exact (Below.heap_alloc _ _ _ (by simp)).trans (heap_new w _)

end Go.Proofs.Ytaejapdbghbgeaa.Se
