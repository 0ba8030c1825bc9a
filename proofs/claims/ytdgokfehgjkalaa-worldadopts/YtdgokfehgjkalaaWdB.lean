import Derived.Test.YtdgokfehgjkalaaWdA
namespace Go.Proofs.Ytdgokfehgjkalaa.Wd
open Go.RowKit Go.Lib Go.Deep

def nameOK (n : ByteArray) : Bool := decide (1 ≤ n.size ∧ n.size ≤ 64)
def blobOK (b : ByteArray) : Bool := decide (b.size ≤ 1048576)
def tagOK (t : ByteArray) : Bool := decide (t.size = 16)
def nameE (n : ByteArray) : Int := if nameOK n = true then 0 else 1
def blobE (b : ByteArray) : Int := if blobOK b = true then 0 else 3
def tagE (t : ByteArray) : Int := if tagOK t = true then 0 else 1
def noneOrTag (t : ByteArray) : Bool := decide (t.size = 0 ∨ t.size = 16)

theorem isName_any (n : ByteArray) (w : World) : Calls Try.prog 42 #[.string n] w fun e w' => e = .returned (.bool (nameOK n)) ∧ w' = w := by
  unfold nameOK
  by_cases h1 : 1 ≤ n.size
  · have h1' : (1 : Int) ≤ (n.size : Int) := by omega
    by_cases h2 : n.size ≤ 64
    · have h2' : (n.size : Int) ≤ 64 := by omega
      rw [decide_eq_true ⟨h1, h2⟩]
      go_enter Try.func42, Try.ntmps42
      go_wp2
      go_ret
      exact ⟨rfl, rfl⟩
    · have h2' : ¬ (n.size : Int) ≤ 64 := by omega
      rw [decide_eq_false (by omega)]
      go_enter Try.func42, Try.ntmps42
      go_wp2
      go_ret
      exact ⟨rfl, rfl⟩
  · have h1' : ¬ (1 : Int) ≤ (n.size : Int) := by omega
    rw [decide_eq_false (by omega)]
    go_enter Try.func42, Try.ntmps42
    go_wp2
    go_ret
    exact ⟨rfl, rfl⟩
theorem isBlob_any (n : ByteArray) (w : World) : Calls Try.prog 43 #[.string n] w fun e w' => e = .returned (.bool (blobOK n)) ∧ w' = w := by
  unfold blobOK
  by_cases h2 : n.size ≤ 1048576
  · have h2' : (n.size : Int) ≤ 1048576 := by omega
    rw [decide_eq_true h2]
    go_enter Try.func43, Try.ntmps43
    go_wp2
    go_ret
    exact ⟨rfl, rfl⟩
  · have h2' : ¬ (n.size : Int) ≤ 1048576 := by omega
    rw [decide_eq_false (by omega)]
    go_enter Try.func43, Try.ntmps43
    go_wp2
    go_ret
    exact ⟨rfl, rfl⟩
theorem isTag_any (n : ByteArray) (w : World) : Calls Try.prog 65 #[.string n] w fun e w' => e = .returned (.bool (tagOK n)) ∧ w' = w := by
  unfold tagOK
  by_cases h2 : n.size = 16
  · rw [decide_eq_true h2]
    go_enter Try.func65, Try.ntmps65
    go_wp2
    go_ret
    exact ⟨rfl, rfl⟩
  · rw [decide_eq_false h2]
    have hne : ((n.size : Int) == 16) = false := by rw [beq_eq_false_iff_ne]; omega
    go_enter Try.func65, Try.ntmps65
    go_wp2
    go_ret
    exact ⟨rfl, rfl⟩
theorem nameFault_any (n : ByteArray) (w : World) : Calls Try.prog 51 #[.string n] w fun e w' => e = .returned (.int .i64 (nameE n)) ∧ w' = w := by
  have hc := isName_any n w
  unfold nameE
  cases hb : nameOK n
  all_goals
    rw [hb] at hc
    go_enter Try.func51, Try.ntmps51
    go_wp2_with fail
    refine hc.mono ?_
    rintro e w' ⟨rfl, rfl⟩
    go_wp2
    go_ret
    exact ⟨rfl, rfl⟩
theorem blobFault_any (n : ByteArray) (w : World) : Calls Try.prog 58 #[.string n] w fun e w' => e = .returned (.int .i64 (blobE n)) ∧ w' = w := by
  have hc := isBlob_any n w
  unfold blobE
  cases hb : blobOK n
  all_goals
    rw [hb] at hc
    go_enter Try.func58, Try.ntmps58
    go_wp2_with fail
    refine hc.mono ?_
    rintro e w' ⟨rfl, rfl⟩
    go_wp2
    go_ret
    exact ⟨rfl, rfl⟩
theorem tagFault_any (n : ByteArray) (w : World) : Calls Try.prog 62 #[.string n] w fun e w' => e = .returned (.int .i64 (tagE n)) ∧ w' = w := by
  have hc := isTag_any n w
  unfold tagE
  cases hb : tagOK n
  all_goals
    rw [hb] at hc
    go_enter Try.func62, Try.ntmps62
    go_wp2_with fail
    refine hc.mono ?_
    rintro e w' ⟨rfl, rfl⟩
    go_wp2
    go_ret
    exact ⟨rfl, rfl⟩

/-- a world at block pb, its state at block q -/
def Top (w : World) (pb q : Nat) : Prop := w.heap[pb]? = some (.cells #[.pointer (some ⟨q, 0, none⟩)] 79 (0, 0))
theorem made_any (w : World) (pb q : Nat) (h : Top w pb q) : Calls Try.prog 33 #[.pointer (some ⟨pb, 0, none⟩)] w fun e w' => e = .returned (.bool true) ∧ w' = w := by
  have c0 : w.cell? ⟨pb, 0, none⟩ = some (.pointer (some ⟨q, 0, none⟩)) := (cell_of_heap h).trans rfl
  clear h
  go_enter Try.func33, Try.ntmps33
  go_wp2
  go_ret
  exact ⟨rfl, rfl⟩
theorem madeNil_any (w : World) : Calls Try.prog 33 #[.pointer none] w fun e w' => e = .returned (.bool false) ∧ w' = w := by
  go_enter Try.func33, Try.ntmps33
  go_wp2
  go_ret
  exact ⟨rfl, rfl⟩
/-- the six cells of a state, one by one -/
theorem Inn.cells {w : World} {q m pl : Nat} {la : Option Addr} {tv av uv : Value} {D : DataW Unit} {al : List (Option Addr)} {nv : List Value} {S : Wst} (h : Inn w q m pl la tv av uv D al nv S) :
    w.cell? ⟨q, 0, none⟩ = some (.map (some m)) ∧ w.cell? ⟨q, 1, none⟩ = some (.pointer la) ∧ w.cell? ⟨q, 2, none⟩ = some (.string S.cur) ∧ w.cell? ⟨q, 3, none⟩ = some (.string S.pen) ∧ w.cell? ⟨q, 4, none⟩ = some (.bool S.stp) ∧ w.cell? ⟨q, 5, none⟩ = some (.bool S.off) ∧ w.cell? ⟨q, 6, none⟩ = some (.int .i64 (S.left : Int)) ∧
    w.cell? ⟨q, 7, none⟩ = some tv ∧ w.cell? ⟨q, 8, none⟩ = some av ∧ w.cell? ⟨q, 9, none⟩ = some uv ∧ w.cell? ⟨q, 10, none⟩ = some (.map (some pl)) ∧ w.cell? ⟨q, 11, none⟩ = some (.int .i64 (S.pn : Int)) := by
  have hq := h.hq
  exact ⟨(cell_of_heap hq).trans rfl, (cell_of_heap hq).trans rfl, (cell_of_heap hq).trans rfl, (cell_of_heap hq).trans rfl, (cell_of_heap hq).trans rfl, (cell_of_heap hq).trans rfl, (cell_of_heap hq).trans rfl, (cell_of_heap hq).trans rfl, (cell_of_heap hq).trans rfl, (cell_of_heap hq).trans rfl, (cell_of_heap hq).trans rfl, (cell_of_heap hq).trans rfl⟩
def refE (S : Wst) (fs : List Int) : Int := if S.off = true then 100 else (fs.find? (· ≠ 0)).getD 0
theorem refE_off {S : Wst} {fs : List Int} (h : S.off = true) : refE S fs = 100 := if_pos h
theorem refE_on0 {S : Wst} (h : S.off = false) : refE S [] = 0 := by unfold refE; rw [h]; rfl
theorem refE_on1 {S : Wst} (h : S.off = false) (a : Int) : refE S [a] = a := by
  unfold refE
  rw [h]
  by_cases ha : a = 0
  · subst ha; rfl
  · simp [List.find?, ha]
theorem refE_on2 {S : Wst} (h : S.off = false) (a b : Int) : refE S [a, b] = if a = 0 then b else a := by
  unfold refE
  rw [h]
  by_cases ha : a = 0
  · subst ha
    by_cases hb : b = 0
    · subst hb; rfl
    · simp [List.find?, hb]
  · simp [List.find?, ha]
set_option maxRecDepth 10000 in
theorem refusal0_any (w : World) (pb q : Nat) (F : List Nat) (S : Wst) (h : Top w pb q) (hs : St w q F S) : Calls Try.prog 31 #[.pointer (some ⟨pb, 0, none⟩), .slice none 0 0] w fun e w' => e = .returned (.int .i64 (refE S [])) ∧ w' = w := by
  have hm := made_any w pb q h
  have c0 : w.cell? ⟨pb, 0, none⟩ = some (.pointer (some ⟨q, 0, none⟩)) := (cell_of_heap h).trans rfl
  obtain ⟨m, pl, la, tv, av, uv, D, al, nv, hF, hI⟩ := hs
  obtain ⟨-, -, -, -, -, c5, -, -, -, -, -, -⟩ := hI.cells
  clear h hI hF
  cases hoff : S.off with
  | true =>
    rw [hoff] at c5
    rw [refE_off hoff]
    clear hoff
    go_enter Try.func31, Try.ntmps31
    go_wp2_with fail
    refine hm.mono ?_
    rintro e w' ⟨rfl, rfl⟩
    go_wp2
    go_ret
    exact ⟨rfl, rfl⟩
  | false =>
    rw [hoff] at c5
    rw [refE_on0 hoff]
    clear hoff
    go_enter Try.func31, Try.ntmps31
    go_wp2_with fail
    refine hm.mono ?_
    rintro e w' ⟨rfl, rfl⟩
    go_wp2
    refine wp_loop_rounds 1 ?_
    rw [rounds_succ]
    go_wp2
    go_ret
    exact ⟨rfl, rfl⟩
set_option maxRecDepth 10000 in
theorem refusal1_any (w : World) (pb q : Nat) (F : List Nat) (S : Wst) (g : Nat) (a : Int) (h : Top w pb q) (hs : St w q F S) (ha : w.cell? ⟨g, 0, none⟩ = some (.int .i64 a)) : Calls Try.prog 31 #[.pointer (some ⟨pb, 0, none⟩), .slice (some ⟨g, 0, none⟩) 1 1] w fun e w' => e = .returned (.int .i64 (refE S [a])) ∧ w' = w := by
  have hm := made_any w pb q h
  have c0 : w.cell? ⟨pb, 0, none⟩ = some (.pointer (some ⟨q, 0, none⟩)) := (cell_of_heap h).trans rfl
  obtain ⟨m, pl, la, tv, av, uv, D, al, nv, hF, hI⟩ := hs
  obtain ⟨-, -, -, -, -, c5, -, -, -, -, -, -⟩ := hI.cells
  clear h hI hF
  cases hoff : S.off with
  | true =>
    rw [hoff] at c5
    rw [refE_off hoff]
    clear hoff
    go_enter Try.func31, Try.ntmps31
    go_wp2_with fail
    refine hm.mono ?_
    rintro e w' ⟨rfl, rfl⟩
    go_wp2
    go_ret
    exact ⟨rfl, rfl⟩
  | false =>
    rw [hoff] at c5
    rw [refE_on1 hoff]
    clear hoff
    by_cases h0 : a = 0
    · subst h0
      go_enter Try.func31, Try.ntmps31
      go_wp2_with fail
      refine hm.mono ?_
      rintro e w' ⟨rfl, rfl⟩
      go_wp2
      refine wp_loop_rounds 2 ?_
      rw [rounds_succ]
      go_wp2
      rw [rounds_succ]
      go_wp2
      go_ret
      exact ⟨rfl, rfl⟩
    · have hne : (a != 0) = true := by simpa using h0
      go_enter Try.func31, Try.ntmps31
      go_wp2_with fail
      refine hm.mono ?_
      rintro e w' ⟨rfl, rfl⟩
      go_wp2
      refine wp_loop_rounds 1 ?_
      rw [rounds_succ]
      go_wp2
      go_ret
      exact ⟨rfl, rfl⟩
set_option maxRecDepth 10000 in
theorem refusal2_any (w : World) (pb q : Nat) (F : List Nat) (S : Wst) (g : Nat) (a b : Int) (h : Top w pb q) (hs : St w q F S) (ha : w.cell? ⟨g, 0, none⟩ = some (.int .i64 a)) (hb : w.cell? ⟨g, 1, none⟩ = some (.int .i64 b)) : Calls Try.prog 31 #[.pointer (some ⟨pb, 0, none⟩), .slice (some ⟨g, 0, none⟩) 2 2] w fun e w' => e = .returned (.int .i64 (refE S [a, b])) ∧ w' = w := by
  have hm := made_any w pb q h
  have c0 : w.cell? ⟨pb, 0, none⟩ = some (.pointer (some ⟨q, 0, none⟩)) := (cell_of_heap h).trans rfl
  obtain ⟨m, pl, la, tv, av, uv, D, al, nv, hF, hI⟩ := hs
  obtain ⟨-, -, -, -, -, c5, -, -, -, -, -, -⟩ := hI.cells
  clear h hI hF
  cases hoff : S.off with
  | true =>
    rw [hoff] at c5
    rw [refE_off hoff]
    clear hoff
    go_enter Try.func31, Try.ntmps31
    go_wp2_with fail
    refine hm.mono ?_
    rintro e w' ⟨rfl, rfl⟩
    go_wp2
    go_ret
    exact ⟨rfl, rfl⟩
  | false =>
    rw [hoff] at c5
    rw [refE_on2 hoff]
    clear hoff
    by_cases h0 : a = 0
    · rw [if_pos h0]
      subst h0
      by_cases h1 : b = 0
      · subst h1
        go_enter Try.func31, Try.ntmps31
        go_wp2_with fail
        refine hm.mono ?_
        rintro e w' ⟨rfl, rfl⟩
        go_wp2
        refine wp_loop_rounds 3 ?_
        rw [rounds_succ]
        go_wp2
        rw [rounds_succ]
        go_wp2
        rw [rounds_succ]
        go_wp2
        go_ret
        exact ⟨rfl, rfl⟩
      · have hne : (b != 0) = true := by simpa using h1
        go_enter Try.func31, Try.ntmps31
        go_wp2_with fail
        refine hm.mono ?_
        rintro e w' ⟨rfl, rfl⟩
        go_wp2
        refine wp_loop_rounds 2 ?_
        rw [rounds_succ]
        go_wp2
        rw [rounds_succ]
        go_wp2
        go_ret
        exact ⟨rfl, rfl⟩
    · rw [if_neg h0]
      have hne : (a != 0) = true := by simpa using h0
      go_enter Try.func31, Try.ntmps31
      go_wp2_with fail
      refine hm.mono ?_
      rintro e w' ⟨rfl, rfl⟩
      go_wp2
      refine wp_loop_rounds 1 ?_
      rw [rounds_succ]
      go_wp2
      go_ret
      exact ⟨rfl, rfl⟩

/-! the power -/
theorem put12 {W : World} {q : Nat} {a : Array Value} {t : TypeId} (i : Nat) (v : Value) (h : W.heap[q]? = some (.cells a t (0, 0))) : (W.setCell ⟨q, i, none⟩ v).heap[q]? = some (.cells (a.setIfInBounds i v) t (0, 0)) := heap_setCell_same _ _ i _ _ v h
/-- a state with its own block's cells turned, the rest as it was -/
theorem Inn.self {w W : World} {q m pl : Nat} {la : Option Addr} {tv av uv : Value} {D : DataW Unit} {al : List (Option Addr)} {nv : List Value} {S S' : Wst} (h : Inn w q m pl la tv av uv D al nv S) (hq : W.heap[q]? = some (.cells (stA m la S' tv av uv pl) 76 (0, 0))) (ho : Only [q] w W)
    (e1 : S'.f = S.f) (e2 : S'.tr = S.tr) (e3 : S'.ah = S.ah) (e4 : S'.pu = S.pu) (e5 : S'.nn = S.nn) (e6 : S'.left ≤ 9223372036854775807) : Inn W q m pl la tv av uv D al nv S' := by
  have hne : ∀ k, k < w.heap.size → k ≠ q → W.heap[k]? = w.heap[k]? := fun k hk hn => ho.block k hk (by simpa using hn)
  have ty : ∀ {k : Nat} {cur : Array Value} {e : TypeId}, w.heap[k]? = some (.cells cur e (0, 0)) → e ≠ 76 → W.heap[k]? = w.heap[k]? := fun {k cur e} hk he => hne k (heap_lt hk) (fun e2 => by
    subst e2
    rw [h.hq] at hk
    injection hk with hk
    injection hk with _ hk _
    exact he hk.symm)
  have mp : ∀ {k : Nat} {es : Array MapEntry} {cl : Nat}, w.heap[k]? = some (.map es cl) → W.heap[k]? = w.heap[k]? := fun {k es cl} hk => hne k (Array.getElem?_eq_some_iff.1 hk).1 (fun e2 => by
    subst e2
    rw [h.hq] at hk
    cases hk)
  have rw_ : ∀ {v : Value} {e sz n : Nat} {xs : List Value}, w.ownsRow 0 e sz v n xs → e ≠ 76 → W.ownsRow 0 e sz v n xs := fun ho he => owns_keep ho fun g hg => by
    obtain ⟨cur, hc⟩ := owns_block ho hg
    exact ty hc he
  have hch : ∀ {a : Option Addr} {f : Sto}, Chn w a f → Chn W a f := fun hc => hc.keep fun k cur hk => ty hk (by decide)
  refine ⟨hq, ?_, ?_, ?_, ?_, ?_, ?_, ?_, ?_, ?_, ?_, ?_, e6, h.hmp⟩
  · rw [e2]; exact rw_ h.ht (by decide)
  · rw [e2]; exact h.hnl
  · rw [e2]; exact fun i c v hc hv => rw_ (h.hnv i c v hc hv) (by decide)
  · rw [e3]; exact rw_ h.ha (by decide)
  · rw [e3]; exact h.hal
  · rw [e3]; exact fun i a g ha hg => hch (h.hch i a g ha hg)
  · rw [e4]; exact rw_ h.hu (by decide)
  · rw [e5]
    obtain ⟨es, cl, hk⟩ := map_block h.hm
    exact map_keep h.hm (mp hk)
  · rw [e1]; exact h.hD
  · obtain ⟨es, cl, hk⟩ := map_block h.hp
    exact map_keep h.hp (mp hk)
  · rw [e1]; exact hch h.hc
theorem Only.mono {S T : List Nat} {a b : World} (h : Only S a b) (hs : ∀ k, k ∈ S → k ∈ T) : Only T a b := ⟨h.os, h.tape, h.output, h.size, fun k hk hn => h.block k hk (fun e => hn (hs k e))⟩
theorem St.self {w W : World} {q : Nat} {F : List Nat} {S S' : Wst} (h : St w q F S) (hq : ∀ m la tv av uv pl, w.heap[q]? = some (.cells (stA m la S tv av uv pl) 76 (0, 0)) → W.heap[q]? = some (.cells (stA m la S' tv av uv pl) 76 (0, 0))) (ho : Only [q] w W)
    (e1 : S'.f = S.f) (e2 : S'.tr = S.tr) (e3 : S'.ah = S.ah) (e4 : S'.pu = S.pu) (e5 : S'.nn = S.nn) (e6 : S'.left ≤ 9223372036854775807) : Turn F w W q S' := by
  obtain ⟨m, pl, la, tv, av, uv, D, al, nv, rfl, hI⟩ := h
  exact ⟨ho.mono (by intro k hk; simp at hk; subst hk; exact mem_fp.2 (.inl rfl)), _, ⟨m, pl, la, tv, av, uv, D, al, nv, rfl, hI.self (hq _ _ _ _ _ _ hI.hq) ho e1 e2 e3 e4 e5 e6⟩, fun k hk => .inl hk⟩
theorem only_set {w : World} {q i : Nat} (v : Value) : Only [q] w (w.setCell ⟨q, i, none⟩ v) := (Only.refl [q] w).trans ⟨rfl, rfl, rfl, by simp, fun k _ hk => heap_setCell_other _ _ _ _ (by simpa using hk)⟩

theorem use_any (w : World) (q : Nat) (F : List Nat) (S : Wst) (hs : St w q F S) : Calls Try.prog 40 #[.pointer (some ⟨q, 5, none⟩)] w fun e w' => e = .returned (.tuple #[]) ∧ Turn F w w' q (useS S) := by
  obtain ⟨m, pl, la, tv, av, uv, D, al, nv, hF, hI⟩ := id hs
  obtain ⟨-, -, -, -, -, c5, c6, -, -, -, -, -⟩ := hI.cells
  have f5 : w.frozen? ⟨q, 5, none⟩ = false := frozen_of_heap hI.hq
  have f6 : w.frozen? ⟨q, 6, none⟩ = false := frozen_of_heap hI.hq
  have hl := hI.hle
  have HS : Hid (St w q F S) := hs
  clear hI hF hs
  by_cases h0 : S.left = 0
  · have he : useS S = S := if_pos h0
    rw [he]
    rw [h0] at c6
    clear he h0
    go_enter Try.func40, Try.ntmps40
    go_wp2
    refine bodyPost_ret (results_none rfl _ _ _) rfl ?_
    exact ⟨rfl, HS.out.turn (Below.refl _ _)⟩
  · obtain ⟨k, hk⟩ : ∃ k, S.left = k + 1 := ⟨S.left - 1, by omega⟩
    have he : useS S = { S with left := k, off := decide (k = 0) } := by
      unfold useS
      rw [if_neg h0, hk]
      simp
    have HT : Hid (Turn F w ((w.setCell ⟨q, 6, none⟩ (.int .i64 (k : Int))).setCell ⟨q, 5, none⟩ (.bool (decide (k = 0)))) q (useS S)) := by
      rw [he]
      refine HS.out.self (fun m la tv av uv pl hq => ?_) ((only_set _).trans (only_set _)) rfl rfl rfl rfl rfl (show k ≤ _ by omega)
      rw [put12 5 _ (put12 6 _ hq)]
      rfl
    have hn : ((k : Int) + 1 == 0) = false := by rw [beq_eq_false_iff_ne]; omega
    have hz : ((k : Int) == 0) = decide (k = 0) := by
      by_cases h : k = 0
      · subst h; rfl
      · rw [decide_eq_false h, beq_eq_false_iff_ne]; omega
    have hc6 : w.cell? ⟨q, 6, none⟩ = some (.int .i64 ((k : Int) + 1)) := by rw [c6, hk]; simp
    clear he h0 c6 HS
    go_enter Try.func40, Try.ntmps40
    go_wp2
    go_end0
    exact ⟨rfl, HT.out⟩

def armS (S : Wst) (k : Int) : Wst := { S with off := decide (k = 0), left := k.toNat }
theorem arm_any (w : World) (q : Nat) (F : List Nat) (S : Wst) (k : Int) (hk : k ≤ 9223372036854775807) (hs : St w q F S) : Calls Try.prog 32 #[.pointer (some ⟨q, 5, none⟩), .int .i64 k] w fun e w' => e = .returned (.tuple #[]) ∧ Turn F w w' q (armS S k) := by
  obtain ⟨m, pl, la, tv, av, uv, D, al, nv, hF, hI⟩ := id hs
  obtain ⟨-, -, -, -, -, c5, c6, -, -, -, -, -⟩ := hI.cells
  have f5 : w.frozen? ⟨q, 5, none⟩ = false := frozen_of_heap hI.hq
  have f6 : w.frozen? ⟨q, 6, none⟩ = false := frozen_of_heap hI.hq
  have HT : Hid (Turn F w ((w.setCell ⟨q, 5, none⟩ (.bool (decide (k = 0)))).setCell ⟨q, 6, none⟩ (.int .i64 (k.toNat : Int))) q (armS S k)) := by
    refine hs.self (fun m la tv av uv pl hq => ?_) ((only_set _).trans (only_set _)) rfl rfl rfl rfl rfl (show k.toNat ≤ _ by omega)
    rw [put12 6 _ (put12 5 _ hq)]
    rfl
  have hz : (k == 0) = decide (k = 0) := by
    by_cases h : k = 0
    · subst h; rfl
    · rw [decide_eq_false h, beq_eq_false_iff_ne]; omega
  clear hI hF hs
  go_enter Try.func32, Try.ntmps32
  go_wp2
  go_end0
  have hmx : max k 0 = (k.toNat : Int) := by omega
  rw [hmx]
  exact ⟨rfl, HT.out⟩

end Go.Proofs.Ytdgokfehgjkalaa.Wd
