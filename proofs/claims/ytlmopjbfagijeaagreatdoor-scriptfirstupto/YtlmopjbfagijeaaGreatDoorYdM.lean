import Derived.Test.YtlmopjbfagijeaaGreatDoorYcM
import Derived.Deep.RegionHeldLaw
import Derived.Test.YtlmopjbfagijeaaGreatDoorBaseM
import Derived.OwnWalk
namespace Go.Proofs.YtlmopjbfagijeaaGreatDoor.Sc
open Go.RowKit Go.Lib Go.Deep

theorem bd1 (w : World) : Below w.heap.size w w.drew := Below.drew (Below.refl _ _)
/-- what a take of a number leaves -/
theorem takeAt {x : Bool × List UInt8} {b v i : Nat} {w : World} {o o' : OpR} {u : Value} (hl : LnS x b w) (ho : OpAt w v o) (hvb : v < b) (ho' : OpAt (w.setCell ⟨v, i, none⟩ u) v o') (ht : ITab w) (hg : 3 < v) :
    ∃ W, w.setCell ⟨v, i, none⟩ u = W ∧ LnS x b W ∧ OpAt W v o' ∧ Below v w W ∧ ITab W := by
  have hb1 : Below v w (w.setCell ⟨v, i, none⟩ u) := (Below.refl v w).setCell (p := ⟨v, i, none⟩) (Nat.le_refl _) _
  exact ⟨_, rfl, hl.set ho (Nat.ne_of_lt hvb), ho', hb1, ht.below hb1 hg⟩

set_option maxRecDepth 20000 in
set_option maxHeartbeats 2000000 in
theorem writeCut_any : Wr 83 (fun o x => stN (stB x o.path) [o.n]) (fun o => { o with path := nil_, n := 0 }) := by
  intro o x b v w hok hl ho hvb ht hg hx
  have h0 := writePath_any o x b v w hok hl ho hvb ht hg hx
  have hsl := stB_len x o.path
  have hps := hok.path
  dsimp only at h0 ⊢
  generalize stB x o.path = y at h0 hsl ⊢
  go_enter Tryz.func83, Tryz.ntmps83
  go_wp2_with (go_at_call 77; refine h0.mono ?_; rintro e w1 ⟨rfl, hl1, ho1, hb1⟩; clear h0)
  obtain ⟨c0, c1, c2, c3, c4, c5⟩ := ho1.six
  have ht1 := ht.below hb1 hg
  have hT := takeI_any v 4 o.n w1 c4 (ho1.frozen 4)
  obtain ⟨W, hW, hl2, ho2, hb2, ht2⟩ := takeAt hl1 ho1 hvb ho1.set4 ht1 hg
  rw [hW] at hT
  have hA := (Below.refl W.heap.size W).alloc (Nat.le_refl _) (.cells #[.int .i64 o.n] 3)
  have hN := numbers_any y.1 b W.heap.size 1 1 [o.n] y.2 _ (hl2.below hA) (ht2.below hA ht2.lt) (Nat.lt_trans hg hvb) (Nat.ne_of_gt hl2.lt) (heap_alloc_new _ _) rfl (by simp; exact hok.n) (by decide) (by omega)
  clear c0 c1 c2 c3 c4 c5 hl ho hl1 ho1 hW
  go_wp2_with (first | (go_at_call 70; refine hN'.mono ?_; rintro e w3 ⟨rfl, ⟨hu3, hb3⟩, ho3⟩; clear hN') | (go_at_call 99; refine hT.mono ?_; rintro e w2 ⟨rfl, rfl⟩; clear hT; have hN' := hN))
  go_wp2
  go_end0
  exact ⟨rfl, hu3, (ho2.below hA ho2.lt).below hb3 hvb, (hb1.trans hb2).trans ((hA.mono (Nat.le_of_lt ho2.lt)).trans (hb3.mono (Nat.le_of_lt hvb)))⟩

set_option maxRecDepth 20000 in
set_option maxHeartbeats 2000000 in
theorem writeRename_any : Wr 85 (fun o x => stB (stB x o.path) o.to) (fun o => { o with path := nil_, to := nil_ }) := by
  intro o x b v w hok hl ho hvb ht hg hx
  have h0 := writePath_any o x b v w hok hl ho hvb ht hg hx
  have hsl := stB_len x o.path
  have hps := hok.path
  dsimp only at h0 ⊢
  generalize stB x o.path = y at h0 hsl ⊢
  go_enter Tryz.func85, Tryz.ntmps85
  go_wp2_with (go_at_call 77; refine h0.mono ?_; rintro e w1 ⟨rfl, hl1, ho1, hb1⟩; clear h0)
  obtain ⟨c0, c1, c2, c3, c4, c5⟩ := ho1.six
  have ht1 := ht.below hb1 hg
  have hT := takeS_any v 2 o.to w1 c2 (ho1.frozen 2)
  obtain ⟨W, hW, hl2, ho2, hb2, ht2⟩ := takeAt hl1 ho1 hvb ho1.set2 ht1 hg
  rw [hW] at hT
  have hN := lbytes_any y.1 b y.2 o.to W hl2 (by have := hok.to; omega) (by omega)
  clear c0 c1 c2 c3 c4 c5 hl ho hl1 ho1 hW
  go_wp2_with (first | (go_at_call 102; refine hN'.mono ?_; rintro e w3 ⟨rfl, ⟨hu3, hb3⟩, ho3⟩; clear hN') | (go_at_call 120; refine hT.mono ?_; rintro e w2 ⟨rfl, rfl⟩; clear hT; have hN' := hN))
  go_wp2
  go_end0
  exact ⟨rfl, hu3, ho2.below hb3 hvb, (hb1.trans hb2).trans (hb3.mono (Nat.le_of_lt hvb))⟩

set_option maxRecDepth 20000 in
set_option maxHeartbeats 2000000 in
theorem writeRead_any : Wr 79 (fun o x => stN (stB x o.path) [o.at_, o.n]) (fun o => { o with path := nil_, at_ := 0, n := 0 }) := by
  intro o x b v w hok hl ho hvb ht hg hx
  have h0 := writePath_any o x b v w hok hl ho hvb ht hg hx
  have hsl := stB_len x o.path
  have hps := hok.path
  dsimp only at h0 ⊢
  generalize stB x o.path = y at h0 hsl ⊢
  go_enter Tryz.func79, Tryz.ntmps79
  go_wp2_with (go_at_call 77; refine h0.mono ?_; rintro e w1 ⟨rfl, hl1, ho1, hb1⟩; clear h0)
  have hl1 : LnS y b w1.drew := hl1.below (bd1 w1)
  have ho1 : OpAt w1.drew v _ := ho1.below (bd1 w1) ho1.lt
  have hb1 : Below v w w1.drew := hb1.trans ((bd1 w1).mono (Nat.le_of_lt ho1.lt))
  obtain ⟨c0, c1, c2, c3, c4, c5⟩ := ho1.six
  have ht1 := ht.below hb1 hg
  have hT := takeI_any v 3 o.at_ w1.drew c3 (ho1.frozen 3)
  obtain ⟨W, hW, hl2, ho2, hb2, ht2⟩ := takeAt hl1 ho1 hvb ho1.set3 ht1 hg
  rw [hW] at hT
  clear hW
  obtain ⟨d0, d1, d2, d3, d4, d5⟩ := ho2.six
  have hT2 := takeI_any v 4 o.n W d4 (ho2.frozen 4)
  obtain ⟨V, hV, hl3, ho3, hb3, ht3⟩ := takeAt hl2 ho2 hvb ho2.set4 ht2 hg
  rw [hV] at hT2
  have hA := (Below.refl V.heap.size V).alloc (Nat.le_refl _) (.cells #[.int .i64 o.at_, .int .i64 o.n] 3)
  have hN := numbers_any y.1 b V.heap.size 2 2 [o.at_, o.n] y.2 _ (hl3.below hA) (ht3.below hA ht3.lt) (Nat.lt_trans hg hvb) (Nat.ne_of_gt hl3.lt) (heap_alloc_new _ _) rfl (by simp; exact ⟨hok.at_, hok.n⟩) (by decide) (by omega)
  clear c0 c1 c2 c3 c4 c5 d0 d1 d2 d3 d4 d5 hl ho hl1 ho1 hV hl2 ho2
  go_wp2_with fail
  go_region_held_law (fun _ => True) (first | exact trivial | go_keep) (first | (go_at_call 70; refine hN'.mono ?_; rintro e w3 ⟨rfl, ⟨hu3, hbn⟩, hon⟩; clear hN') | (go_at_call 99; refine hT2'.mono ?_; rintro e w2 ⟨rfl, rfl⟩; clear hT2'; have hN' := hN) | (go_at_call 99; refine hT.mono ?_; rintro e w2 ⟨rfl, rfl⟩; clear hT; have hT2' := hT2))
  go_wp2
  go_end0
  exact ⟨rfl, hu3, (ho3.below hA ho3.lt).below hbn hvb, ((hb1.trans hb2).trans hb3).trans ((hA.mono (Nat.le_of_lt ho3.lt)).trans (hbn.mono (Nat.le_of_lt hvb)))⟩

set_option maxRecDepth 20000 in
set_option maxHeartbeats 2000000 in
theorem writeWrite_any : Wr 81 (fun o x => stB (stN (stB x o.path) [o.at_]) o.data) (fun o => { o with path := nil_, at_ := 0, data := nil_ }) := by
  intro o x b v w hok hl ho hvb ht hg hx
  have h0 := writePath_any o x b v w hok hl ho hvb ht hg hx
  have hsl := stB_len x o.path
  have hps := hok.path
  dsimp only at h0 ⊢
  generalize stB x o.path = y at h0 hsl ⊢
  go_enter Tryz.func81, Tryz.ntmps81
  go_wp2_with (go_at_call 77; refine h0.mono ?_; rintro e w1 ⟨rfl, hl1, ho1, hb1⟩; clear h0)
  obtain ⟨c0, c1, c2, c3, c4, c5⟩ := ho1.six
  have ht1 := ht.below hb1 hg
  have hT := takeI_any v 3 o.at_ w1 c3 (ho1.frozen 3)
  obtain ⟨W, hW, hl2, ho2, hb2, ht2⟩ := takeAt hl1 ho1 hvb ho1.set3 ht1 hg
  rw [hW] at hT
  clear hW
  have hA := (Below.refl W.heap.size W).alloc (Nat.le_refl _) (.cells #[.int .i64 o.at_] 3)
  have hN := numbers_any y.1 b W.heap.size 1 1 [o.at_] y.2 _ (hl2.below hA) (ht2.below hA ht2.lt) (Nat.lt_trans hg hvb) (Nat.ne_of_gt hl2.lt) (heap_alloc_new _ _) rfl (by simp; exact hok.at_) (by decide) (by omega)
  clear c0 c1 c2 c3 c4 c5 hl ho hl1 ho1
  go_wp2_with (first | (go_at_call 70; refine hN'.mono ?_) | (go_at_call 99; refine hT.mono ?_; rintro e w2 ⟨rfl, rfl⟩; clear hT; have hN' := hN))
  rintro e w3 ⟨rfl, ⟨hu3, hb3⟩, ho3⟩
  clear hN hN'
  have ho4 := (ho2.below hA ho2.lt).below hb3 hvb
  have hbV : Below v w w3 := (hb1.trans hb2).trans ((hA.mono (Nat.le_of_lt ho2.lt)).trans (hb3.mono (Nat.le_of_lt hvb)))
  have ht4 := ht.below hbV hg
  have hnl := nmL_len [o.at_] (by simp; exact hok.at_)
  obtain ⟨d0, d1, d2, d3, d4, d5⟩ := ho4.six
  have hT := takeS_any v 5 o.data w3 d5 (ho4.frozen 5)
  have hu3 : LnS (stN y [o.at_]) b w3 := hu3
  obtain ⟨V, hV, hl5, ho5, hb5, ht5⟩ := takeAt hu3 ho4 hvb ho4.set5 ht4 hg
  rw [hV] at hT
  have hM := lbytes_any (stN y [o.at_]).1 b (stN y [o.at_]).2 o.data V hl5 (by have := hok.data; omega) (by simp only [stN, List.length_append, List.length_cons, List.length_nil] at hnl ⊢; omega)
  clear d0 d1 d2 d3 d4 d5 hV hu3
  go_wp2_with (first | (go_at_call 102; refine hM'.mono ?_; rintro e w6 ⟨rfl, ⟨hu6, hb6⟩, ho6⟩; clear hM') | (go_at_call 120; refine hT.mono ?_; rintro e w2 ⟨rfl, rfl⟩; clear hT; have hM' := hM))
  go_wp2
  go_end0
  exact ⟨rfl, hu6, ho5.below hb6 hvb, (hbV.trans hb5).trans (hb6.mono (Nat.le_of_lt hvb))⟩
end Go.Proofs.YtlmopjbfagijeaaGreatDoor.Sc

namespace Go.Proofs.YtlmopjbfagijeaaGreatDoor.Sc
open Go.RowKit Go.Lib Go.Deep

def Fm.val (f : Fm) : Value := .agg #[.int .i64 f.kind, .string f.word, .int .i64 f.count, .func (.func f.wr) #[] #[], .func (.func f.rd) #[] #[]]
set_option maxRecDepth 20000 in
set_option maxHeartbeats 1000000 in
theorem isKind_any (f : Fm) (kind : Int) (kb : Nat) (w : World) (hk : w.cell? ⟨kb, 0, none⟩ = some (.int .i64 kind)) :
    Calls Tryz.prog 76 #[f.val, .pointer (some ⟨kb, 0, none⟩)] w fun e w' => e = .returned (.bool (f.kind == kind)) ∧ Below w.heap.size w w' := by
  obtain ⟨k, wd, c, a, b⟩ := f
  unfold Fm.val
  have hA := fun o => (Below.refl w.heap.size w).alloc (Nat.le_refl _) o
  have hk2 : ∀ o, (w.alloc o).cell? ⟨kb, 0, none⟩ = some (.int .i64 kind) := fun o => ((hA o).cell (p := ⟨kb, 0, none⟩) (block_lt_of_cell hk)).trans hk
  go_enter Tryz.func76, Tryz.ntmps76
  go_wp2
  go_ret
  exact ⟨rfl, hA _⟩

/-- where the first form of a kind stands -/
def Idx (L : List Fm) (kind : Int) (e : Ending) : Prop := (∃ (i : Nat) (f : Fm), L[i]? = some f ∧ f.kind = kind ∧ e = .returned (.int .i64 i)) ∨ ((∀ f ∈ L, f.kind ≠ kind) ∧ e = .returned (.int .i64 (-1)))
theorem tabC_at : ∀ (L : List Fm) (i f : Nat) (t : Fm), L[i]? = some t → f < 5 → (L.flatMap Fm.cells)[i * 5 + f]? = (Fm.cells t)[f]?
  | [], i, f, t, h, _ => by simp at h
  | a :: L, 0, f, t, h, hf => by
    simp at h
    subst h
    simp only [List.flatMap_cons, Nat.zero_mul, Nat.zero_add]
    rw [List.getElem?_append_left (by simp [Fm.cells]; omega)]
  | a :: L, i + 1, f, t, h, hf => by
    simp at h
    have ih := tabC_at L i f t h hf
    simp only [List.flatMap_cons] at ih ⊢
    rw [List.getElem?_append_right (by simp [Fm.cells]; omega), show (i + 1) * 5 + f - (Fm.cells a).length = i * 5 + f by simp [Fm.cells]; omega]
    exact ih
theorem tab_cell {w : World} {g : Nat} {t : TypeId} {L : List Fm} (hg : w.heap[g]? = some (.cells (tabC L) t (0, 0))) {i : Nat} {f : Fm} (hf : L[i]? = some f) :
    w.cell? ⟨g, i * 5, none⟩ = some (.int .i64 f.kind) ∧ w.cell? ⟨g, i * 5 + 1, none⟩ = some (.string f.word) ∧ w.cell? ⟨g, i * 5 + 2, none⟩ = some (.int .i64 f.count) ∧ w.cell? ⟨g, i * 5 + 3, none⟩ = some (.func (.func f.wr) #[] #[]) ∧ w.cell? ⟨g, i * 5 + 4, none⟩ = some (.func (.func f.rd) #[] #[]) := by
  have h := fun j hj => tabC_at L i j f hf hj
  refine ⟨?_, ?_, ?_, ?_, ?_⟩
  · rw [Lib.cell_of_heap hg, tabC]; simpa [Fm.cells] using h 0 (by decide)
  · rw [Lib.cell_of_heap hg, tabC]; simpa [Fm.cells] using h 1 (by decide)
  · rw [Lib.cell_of_heap hg, tabC]; simpa [Fm.cells] using h 2 (by decide)
  · rw [Lib.cell_of_heap hg, tabC]; simpa [Fm.cells] using h 3 (by decide)
  · rw [Lib.cell_of_heap hg, tabC]; simpa [Fm.cells] using h 4 (by decide)

set_option maxRecDepth 20000 in
set_option maxHeartbeats 1000000 in
theorem indexFunc_any (L : List Fm) (n : Nat) (hn : L.length = n) (hn1 : n ≤ 1000) (kind : Int) (kb g : Nat) (w : World) (hk : w.cell? ⟨kb, 0, none⟩ = some (.int .i64 kind)) (hg : w.heap[g]? = some (.cells (tabC L) 137 (0, 0))) :
    Calls Tryz.prog 75 #[.slice (some ⟨g, 0, none⟩) n n, .func (.func 76) #[] #[.pointer (some ⟨kb, 0, none⟩)]] w fun e w' => Idx L kind e ∧ Below w.heap.size w w' := by
  go_enter Tryz.func75, Tryz.ntmps75
  go_wp2
  go_loopg [8] n (fun gk i wr => ∃ k : Nat, k + gk = n ∧ i = .int .i64 (k : Int) ∧ Hid ((∀ (j : Nat) (f : Fm), j < k → L[j]? = some f → f.kind ≠ kind) ∧ Below w.heap.size w wr))
  case atStart => exact ⟨0, by omega, rfl, fun j f h => by omega, Below.refl _ _⟩
  case round =>
    obtain ⟨k, hk0, rfl, HI⟩ := hrel
    by_cases hlt : k < n
    · have hltI : (k : Int) < (n : Int) := by omega
      obtain ⟨f, hf⟩ : ∃ f, L[k]? = some f := ⟨_, List.getElem?_eq_getElem (by omega)⟩
      obtain ⟨c0, c1, c2, c3, c4⟩ := tab_cell ((HI.out.2.block _ (Array.getElem?_eq_some_iff.1 hg).1).trans hg) hf
      have h1 := isKind_any f kind kb wr ((HI.out.2.cell (p := ⟨kb, 0, none⟩) (block_lt_of_cell hk)).trans hk)
      unfold Fm.val at h1
      by_cases he : f.kind = kind
      · have heb : (f.kind == kind) = true := by simpa using he
        rw [heb] at h1
        have HE : Hid (L[k]? = some f ∧ f.kind = kind) := ⟨hf, he⟩
        clear heb he hf
        go_wp2_with (go_at_call 76; refine h1.mono ?_; rintro e w1 ⟨rfl, hb1⟩; clear h1)
        go_ret
        exact ⟨.inl ⟨k, f, HE.out.1, HE.out.2, rfl⟩, HI.out.2.trans (hb1.mono HI.out.2.size)⟩
      · have heb : (f.kind == kind) = false := by simpa using he
        rw [heb] at h1
        have HF : Hid (L[k]? = some f ∧ f.kind ≠ kind) := ⟨hf, he⟩
        clear hf he heb
        go_wp2_with (go_at_call 76; refine h1.mono ?_; rintro e w1 ⟨rfl, hb1⟩; clear h1)
        go_roundg (gk - 1)
        case measure => omega
        case rel =>
          refine ⟨k + 1, by omega, by go_num, fun j f' hj hf' => ?_, HI.out.2.trans (hb1.mono HI.out.2.size)⟩
          by_cases hjk : j = k
          · subst hjk
            rw [HF.out.1] at hf'
            rw [← Option.some.inj hf']
            exact HF.out.2
          · exact HI.out.1 j f' (by omega) hf'
    · obtain rfl : k = n := by omega
      have hltI : ¬ (k : Int) < (k : Int) := by omega
      go_wp2
      go_ret
      refine ⟨.inr ⟨fun f hf => ?_, rfl⟩, HI.out.2⟩
      obtain ⟨i, hi⟩ := List.mem_iff_getElem?.1 hf
      exact HI.out.1 i f (by have := (List.getElem?_eq_some_iff.1 hi).1; omega) hi
end Go.Proofs.YtlmopjbfagijeaaGreatDoor.Sc

namespace Go.Proofs.YtlmopjbfagijeaaGreatDoor.Sc
open Go.RowKit Go.Lib Go.Deep

def OpR.val (o : OpR) : Value := .agg o.cells
/-- what is left of an operation can be left out -/
def bare (o : OpR) (k : Int) : Bool := o.kind == k && o.path.toList.isEmpty && o.to.toList.isEmpty && o.at_ == 0 && o.n == 0 && o.data.toList.isEmpty
set_option maxRecDepth 20000 in
set_option maxHeartbeats 1000000 in
theorem isBare_any (o r : OpR) (ob : Nat) (w : World) (ho : OpAt w ob o) :
    Calls Tryz.prog 41 #[r.val, .pointer (some ⟨ob, 0, none⟩)] w fun e w' => e = .returned (.bool (bare r o.kind)) ∧ Below w.heap.size w w' := by
  have hA := fun o => (Below.refl w.heap.size w).alloc (Nat.le_refl _) o
  have h0 : ∀ u, (w.alloc u).cell? ⟨ob, 0, none⟩ = some (.int .i64 o.kind) := fun u => ((hA u).cell (p := ⟨ob, 0, none⟩) ho.lt).trans ho.six.1
  obtain ⟨k, p, t, a, n, d⟩ := r
  show Calls _ _ #[.agg #[.int .i64 k, .string p, .string t, .int .i64 a, .int .i64 n, .string d], _] w _
  go_enter Tryz.func41, Tryz.ntmps41
  go_wp2
  all_goals
    go_ret
    refine ⟨congrArg (fun b => Ending.returned (.bool b)) ?_, hA _⟩
    simp_all [bare]

/-- the functions that write a line, by number -/
def shG (f : FuncId) : OpR → Bool × List UInt8 → Bool × List UInt8 :=
  if f = 77 then fun o x => stB x o.path
  else if f = 79 then fun o x => stN (stB x o.path) [o.at_, o.n]
  else if f = 81 then fun o x => stB (stN (stB x o.path) [o.at_]) o.data
  else if f = 83 then fun o x => stN (stB x o.path) [o.n]
  else fun o x => stB (stB x o.path) o.to
def shR (f : FuncId) : OpR → OpR :=
  if f = 77 then fun o => { o with path := nil_ }
  else if f = 79 then fun o => { o with path := nil_, at_ := 0, n := 0 }
  else if f = 81 then fun o => { o with path := nil_, at_ := 0, data := nil_ }
  else if f = 83 then fun o => { o with path := nil_, n := 0 }
  else fun o => { o with path := nil_, to := nil_ }
theorem wr_any (f : Fm) (hf : f ∈ opTab) : Wr f.wr (shG f.wr) (shR f.wr) := by
  unfold opTab at hf
  simp only [List.mem_cons, List.not_mem_nil, or_false] at hf
  rcases hf with rfl | rfl | rfl | rfl | rfl | rfl | rfl | rfl | rfl | rfl
  all_goals first | exact writePath_any | exact writeRead_any | exact writeWrite_any | exact writeCut_any | exact writeRename_any
end Go.Proofs.YtlmopjbfagijeaaGreatDoor.Sc

namespace Go.Proofs.YtlmopjbfagijeaaGreatDoor.Sc
open Go.RowKit Go.Lib

/-- a call of a function value, in a list and in a region that draws -/
theorem wpList_callv {P : Program} {ops : Array Oper} {rest : List Oper} {o : Oper} {a : Act} {w : World} {Q : Exit → Act → World → Prop} (hg : o.guard = none) (f : FuncId) (hcf : ∀ args w, (callFunc f args).run P w = .ok (.enter f args) w) (x : Operand) (xs : Array Operand) (ts : Array TypeId) (ho : o.op = Op.call { callee := Callee.value x, args := xs, argTypes := ts }) (hx : a.eval x = .func (.func f) #[] #[]) (args : Array Value) (hv : xs.map a.eval = args) {R : Ending → World → Prop} (hc : Calls P f args w R)
    (hR : ∀ e w', R e w' → ∃ v, e = .returned v ∧ wpList P ops Q rest (a.put o.dst v) w') : wpList P ops Q (o :: rest) a w := by
  refine wpList_plain hg fun K hK => ?_
  have hrun : (execOp a.eval o).run P w = .ok (.enter f args) w := by
    unfold execOp
    simp [ho, resolve, invoke, Deferred.ofValue, hcf, hv, hx]
  unfold Oper.wp
  rw [hrun, Oper.upon_enter]
  refine hc.mono fun e w'' hh => ?_
  obtain ⟨v, rfl, hk⟩ := hR e w'' hh
  exact hK _ _ hk
end Go.Proofs.YtlmopjbfagijeaaGreatDoor.Sc
