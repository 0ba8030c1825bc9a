import Derived.Test.YtbjiamaaocjbfaaDoorRdJ
namespace Go.Proofs.YtbjiamaaocjbfaaDoor.Kp
open Go.RowKit Go.Lib Go.Deep Kr

set_option maxRecDepth 20000 in
set_option maxHeartbeats 1000000 in
theorem catch_panicking (p : Nat) (T : TypeId) (x : Int) (c : Int) (older : List PanicEntry) (w : World) (hh : w.heap[p]? = some (.cells #[.int .i64 x] T (0, 0))) :
    CallsD Tryd.prog 38 #[.pointer (some ⟨p, 0, none⟩)] (.panicking ({ v := faultV c, recovered := false } :: older)) w fun e u' w' =>
      e = .returned (.tuple #[]) ∧ u' = .panicking ({ v := faultV c, recovered := true } :: older) ∧ w' = (w.setCell ⟨p, 0, none⟩ (.int .i64 c)).alloc (.cells #[.int .i64 c] 71) := by
  have hp : p < w.heap.size := heap_lt hh
  have hh2 : (w.alloc (.cells #[.int .i64 c] 71)).heap[p]? = some (.cells #[.int .i64 x] T (0, 0)) := (Below.heap_alloc _ _ _ hp).trans hh
  have hc : (w.alloc (.cells #[.int .i64 c] 71)).cell? ⟨p, 0, none⟩ = some (.int .i64 x) := (cell_of_heap hh2).trans rfl
  have hz : (w.alloc (.cells #[.int .i64 c] 71)).frozen? ⟨p, 0, none⟩ = false := frozen_of_heap hh2
  have hta : ∀ W : World, (Instr.typeAssert (.iface 71 (.agg #[.int .i64 c])) 20 71 true).run Tryd.prog W = .ok (.tuple #[.agg #[.int .i64 c], .bool true]) W := fun W => by
    simp [Instr.typeAssert, run_underlying Tryd.underlying71]
  clear hh hh2
  refine callsD_of_wpS Tryd.func38 rfl fun c₀ cs hu => ?_
  apply wpS_seq
  apply wpS_region
  simp [wpOpsS, go_sem, recoverD, hu, Tryd.ntmps38, Exit.thenS, faultV]
  refine wpS_of_wp ?_
  go_wp2
  cases c₀
  simp_all [bodyPostS, results, Tryd.results38]

set_option maxRecDepth 20000 in
set_option maxHeartbeats 1000000 in
theorem catch_idle (p : Nat) (w : World) :
    CallsD Tryd.prog 38 #[.pointer (some ⟨p, 0, none⟩)] .returning w fun e u' w' => e = .returned (.tuple #[]) ∧ u' = .returning ∧ w' = w := by
  refine callsD_of_wpS Tryd.func38 rfl fun c₀ cs hu => ?_
  apply wpS_seq
  apply wpS_region
  simp [wpOpsS, go_sem, recoverD, hu, Tryd.ntmps38, Exit.thenS]
  refine wpS_of_wp ?_
  go_wp2
  cases c₀
  simp_all [bodyPostS, results, Tryd.results38]

/-- what the closure has laid down: the ring, or nothing -/
def Laid (T : List UInt8) (w w' : World) (r : Nat) : Prop :=
  (parseE T = 0 → ∃ a n c, w'.heap[r]? = some (.cells #[.string (str (parseI T)), .slice a n c] 24 (0, 0)) ∧ OwnS w' w.heap.size (.slice a n c) (parseS T)) ∧
  (parseE T ≠ 0 → w'.heap[r]? = some (.cells #[.string { data := #[] }, .slice none 0 0] 24 (0, 0)))
theorem Laid.over {T : List UInt8} {w w1 w2 : World} {r : Nat} (h : Laid T w w1 r) (hb : Below w1.heap.size w1 w2) : Laid T w w2 r := by
  refine ⟨fun e => ?_, fun e => ?_⟩
  · obtain ⟨a, n, c, h1, h2⟩ := h.1 e
    exact ⟨a, n, c, (hb.block _ (heap_lt h1)).trans h1, OwnS.below h2 hb⟩
  · exact (hb.block _ (heap_lt (h.2 e))).trans (h.2 e)
theorem Laid.set {T : List UInt8} {w w1 : World} {r : Nat} (h : Laid T w w1 r) {p : Addr} (hp : p.block ≠ r) (hw : p.block < w.heap.size) (y : Value) : Laid T w (w1.setCell p y) r := by
  refine ⟨fun e => ?_, fun e => ?_⟩
  · obtain ⟨a, n, c, h1, h2⟩ := h.1 e
    exact ⟨a, n, c, (Below.heap_setCell _ _ _ _ (Ne.symm hp)).trans h1, owns_set h2 hw⟩
  · exact (Below.heap_setCell _ _ _ _ (Ne.symm hp)).trans (h.2 e)

theorem Laid.mono {T : List UInt8} {w w0 w1 : World} {r : Nat} (h : Laid T w0 w1 r) (hw : w.heap.size ≤ w0.heap.size) : Laid T w w1 r :=
  ⟨fun e => by
    obtain ⟨a, n, c, h1, h2⟩ := h.1 e
    exact ⟨a, n, c, h1, owns_mono h2 hw⟩, h.2⟩

set_option maxRecDepth 20000 in
set_option maxHeartbeats 1000000 in
theorem lay_any (t : ByteArray) (q r : Nat) (w : World) (hT : t.data.toList.length ≤ 4194304) (ht : Tabs w) (h4 : 8 ≤ w.heap.size) (hq : w.heap[q]? = some (.cells #[.string t] 9 (0, 0))) (hr : w.heap[r]? = some (.cells #[.string { data := #[] }, .slice none 0 0] 24 (0, 0))) :
    Calls Tryd.prog 23 #[.pointer (some ⟨q, 0, none⟩), .pointer (some ⟨r, 0, none⟩)] w fun e w' => Only [r] w w' ∧ Laid t.data.toList w w' r ∧
      ((parseE t.data.toList = 0 ∧ e = .returned (.tuple #[])) ∨ (parseE t.data.toList ≠ 0 ∧ e = .panicked [{ v := faultV (parseE t.data.toList), recovered := false }])) := by
  have c0 := readRing_any t w hT ht h4
  generalize t.data.toList = T at c0 hT
  have x0 : w.cell? ⟨q, 0, none⟩ = some (.string t) := (cell_of_heap hq).trans rfl
  have HR : Hid _ := hr
  have HQ : Hid _ := hq
  clear hr hq
  go_enter Tryd.func23, Tryd.ntmps23
  go_wp2_with fail
  refine c0.mono ?_
  clear c0
  rintro e w1 ⟨hb1, hm⟩
  have hr1 := (hb1.block _ (heap_lt HR.out)).trans HR.out
  have ho1 : Only [r] w w1 := ⟨hb1.os, hb1.tape, hb1.output, hb1.size, fun k hk _ => hb1.block k hk⟩
  rcases hm with ⟨hz, a, n, c, rfl, hown⟩ | ⟨hz, rfl⟩
  · have f0 : w1.frozen? ⟨r, 0, none⟩ = false := frozen_of_heap hr1
    have f1 : w1.frozen? ⟨r, 1, none⟩ = false := frozen_of_heap hr1
    have q0 : w1.cell? ⟨r, 0, none⟩ = some (.string { data := #[] }) := (cell_of_heap hr1).trans rfl
    have q1 : w1.cell? ⟨r, 1, none⟩ = some (.slice none 0 0) := (cell_of_heap hr1).trans rfl
    have HR1 : Hid _ := hr1
    have HO1 : Hid _ := ho1
    have HW : Hid _ := hown
    have HZ : Hid (parseE T = 0) := hz
    have hrw := heap_lt HR.out
    clear hr1 ho1 hown hz hb1
    go_wp2
    go_end0
    refine ⟨(HO1.out.setCell (by simp) _).setCell (by simp) _, ⟨fun _ => ⟨a, n, c, put2 HR1.out, owns_set (owns_set HW.out hrw) hrw⟩, fun e => absurd HZ.out e⟩, .inl ⟨HZ.out, rfl⟩⟩
  · exact ⟨rfl, ho1, ⟨fun e => absurd e hz, fun _ => hr1⟩, .inr ⟨hz, rfl⟩⟩

set_option maxRecDepth 20000 in
set_option maxHeartbeats 1000000 in
theorem firstFault_any (t : ByteArray) (q r : Nat) (w : World) (hT : t.data.toList.length ≤ 4194304) (ht : Tabs w) (h4 : 8 ≤ w.heap.size) (hq : w.heap[q]? = some (.cells #[.string t] 9 (0, 0))) (hr : w.heap[r]? = some (.cells #[.string { data := #[] }, .slice none 0 0] 24 (0, 0))) :
    Calls Tryd.prog 22 #[.func (.func 23) #[] #[.pointer (some ⟨q, 0, none⟩), .pointer (some ⟨r, 0, none⟩)]] w fun e w' => e = .returned (.int .i64 (parseE t.data.toList)) ∧ Only [r] w w' ∧ Laid t.data.toList w w' r := by
  have hmf : ∀ (fn : Fn) (first cap : Array Value) (w : World), (Instr.makeFunc fn first cap).run Tryd.prog w = .ok (.func fn first cap) w := fun _ _ _ _ => rfl
  have hb0 : Below w.heap.size w (w.alloc (.cells #[.int .i64 0] 27)) := (Below.refl _ _).alloc (Nat.le_refl _) _
  have c0 := lay_any t q r (w.alloc (.cells #[.int .i64 0] 27)) hT (ht.below hb0 (by omega)) (by simp; omega) ((hb0.block _ (heap_lt hq)).trans hq) ((hb0.block _ (heap_lt hr)).trans hr)
  have hrw := heap_lt hr
  have HA : Hid ((w.alloc (.cells #[.int .i64 0] 27)).heap[w.heap.size]? = some (.cells #[.int .i64 0] 27 (0, 0))) := heap_new _ _
  generalize t.data.toList = T at c0 hT
  clear hq hr hb0
  go_enter_defers Tryd.func22, Tryd.ntmps22
  go_wp2_with fail
  refine c0.mono ?_
  clear c0
  rintro e w1 ⟨ho1, hl1, hm⟩
  have hx1 := only_block ho1 HA.out (by omega)
  have hO : Only [r] w w1 := ((Only.refl _ _).alloc _).trans ho1
  have hsz : w.heap.size < (w.alloc (.cells #[.int .i64 0] 27)).heap.size := by simp
  have hne : w.heap.size ≠ r := by omega
  rcases hm with ⟨hz, rfl⟩ | ⟨hz, rfl⟩
  · have f0 : w1.frozen? ⟨w.heap.size, 0, none⟩ = false := frozen_of_heap hx1
    have x0 : w1.cell? ⟨w.heap.size, 0, none⟩ = some (.int .i64 0) := (cell_of_heap hx1).trans rfl
    have hx2 := heap_setCell_same w1 w.heap.size 0 _ _ (.int .i64 0) hx1
    have x2 : (w1.setCell ⟨w.heap.size, 0, none⟩ (.int .i64 0)).cell? ⟨w.heap.size, 0, none⟩ = some (.int .i64 0) := (cell_of_heap hx2).trans rfl
    have HF : Hid (Only [r] w (w1.setCell ⟨w.heap.size, 0, none⟩ (.int .i64 0)) ∧ Laid T w (w1.setCell ⟨w.heap.size, 0, none⟩ (.int .i64 0)) r) := ⟨only_new hO (Nat.le_refl _) _, (hl1.set hne hsz _).mono (by omega)⟩
    have HZ : Hid (parseE T = 0) := hz
    clear hx1 ho1 hl1 hz hO hx2
    go_wp2
    refine leaves_cons (f := 38) (args := #[.pointer (some ⟨w.heap.size, 0, none⟩)]) (by simp) (by simp [go_sem]) ?_
    refine (catch_idle w.heap.size _).mono ?_
    rintro e u' w'' ⟨rfl, rfl, rfl⟩
    simp [Leaves, settle, results, Tryd.results22, go_sem, x2]
    exact ⟨HZ.out.symm, HF.out⟩
  · have hx2 := heap_setCell_same w1 w.heap.size 0 _ _ (.int .i64 (parseE T)) hx1
    have hx3 : ((w1.setCell ⟨w.heap.size, 0, none⟩ (.int .i64 (parseE T))).alloc (.cells #[.int .i64 (parseE T)] 71)).heap[w.heap.size]? = some (.cells #[.int .i64 (parseE T)] 27 (0, 0)) := (Below.heap_alloc _ _ _ (heap_lt hx2)).trans hx2
    have x3 : ((w1.setCell ⟨w.heap.size, 0, none⟩ (.int .i64 (parseE T))).alloc (.cells #[.int .i64 (parseE T)] 71)).cell? ⟨w.heap.size, 0, none⟩ = some (.int .i64 (parseE T)) := (cell_of_heap hx3).trans rfl
    have HF : Hid (Only [r] w ((w1.setCell ⟨w.heap.size, 0, none⟩ (.int .i64 (parseE T))).alloc (.cells #[.int .i64 (parseE T)] 71)) ∧ Laid T w ((w1.setCell ⟨w.heap.size, 0, none⟩ (.int .i64 (parseE T))).alloc (.cells #[.int .i64 (parseE T)] 71)) r) :=
      ⟨(only_new hO (Nat.le_refl _) _).alloc _, ((hl1.set hne hsz _).mono (by omega)).over ((Below.refl _ _).alloc (Nat.le_refl _) _)⟩
    refine leaves_cons (f := 38) (args := #[.pointer (some ⟨w.heap.size, 0, none⟩)]) (by simp) (by simp [go_sem]) ?_
    refine (catch_panicking w.heap.size _ 0 (parseE T) [] w1 hx1).mono ?_
    rintro e u' w'' ⟨rfl, rfl, rfl⟩
    simp only [Leaves, settle, List.dropWhile_nil]
    simp [results, Tryd.results22, go_sem, x3]
    exact HF.out

set_option maxRecDepth 20000 in
set_option maxHeartbeats 1000000 in
theorem parse_any (t : ByteArray) (w : World) (hT : t.data.toList.length ≤ 4194304) (ht : Tabs w) (h4 : 8 ≤ w.heap.size) :
    Calls Tryd.prog 10 #[.string t] w fun e w' => (∃ a n c, e = .returned (.tuple #[.agg #[.string (str (parseI t.data.toList)), .slice a n c], .int .i64 (parseE t.data.toList)]) ∧ OwnS w' w.heap.size (.slice a n c) (parseS t.data.toList)) ∧ Below w.heap.size w w' := by
  have hmf : ∀ (fn : Fn) (first cap : Array Value) (w : World), (Instr.makeFunc fn first cap).run Tryd.prog w = .ok (.func fn first cap) w := fun _ _ _ _ => rfl
  obtain ⟨W0, hW0⟩ : ∃ W, ((w.alloc (.cells #[.string t] 9)).alloc (.cells #[.string { data := #[] }, .slice none 0 0] 24)).alloc (.cells #[.string { data := #[] }, .slice none 0 0] 24) = W := ⟨_, rfl⟩
  have hb0 : Below w.heap.size w W0 := by rw [← hW0]; exact (((Below.refl _ _).alloc (Nat.le_refl _) _).alloc (by simp) _).alloc (by simp; omega) _
  have hq : W0.heap[w.heap.size]? = some (.cells #[.string t] 9 (0, 0)) := by rw [← hW0]; exact (Below.heap_alloc _ _ _ (by simp; omega)).trans ((Below.heap_alloc _ _ _ (by simp)).trans (heap_new _ _))
  have hz : W0.heap[w.heap.size + 1]? = some (.cells #[.string { data := #[] }, .slice none 0 0] 24 (0, 0)) := by
    rw [← hW0]
    refine (Below.heap_alloc _ _ _ (by simp)).trans ?_
    have := heap_new (w.alloc (.cells #[.string t] 9)) (.cells #[.string { data := #[] }, .slice none 0 0] 24)
    rw [show (w.alloc (.cells #[.string t] 9)).heap.size = w.heap.size + 1 by simp] at this
    exact this
  have hr : W0.heap[w.heap.size + 1 + 1]? = some (.cells #[.string { data := #[] }, .slice none 0 0] 24 (0, 0)) := by
    rw [← hW0]
    have := heap_new ((w.alloc (.cells #[.string t] 9)).alloc (.cells #[.string { data := #[] }, .slice none 0 0] 24)) (.cells #[.string { data := #[] }, .slice none 0 0] 24)
    rw [show ((w.alloc (.cells #[.string t] 9)).alloc (.cells #[.string { data := #[] }, .slice none 0 0] 24)).heap.size = w.heap.size + 1 + 1 by simp] at this
    exact this
  have c0 := firstFault_any t w.heap.size (w.heap.size + 1 + 1) W0 hT (ht.below hb0 (by omega)) (by have := hb0.size; omega) hq hr
  generalize t.data.toList = T at c0 hT ⊢
  have HZ : Hid _ := hz
  have HB : Hid _ := hb0
  clear hq hr hz hb0
  go_enter Tryd.func10, Tryd.ntmps10
  go_wp2_with fail
  refine c0.mono ?_
  clear c0
  rintro e w1 ⟨rfl, ho1, hl1⟩
  have hz1 := only_block ho1 HZ.out (by omega)
  have hb1 : Below w.heap.size w w1 := HB.out.trans (ho1.below HB.out.size (by simp; omega))
  have hL : ∃ a n c, w1.heap[w.heap.size + 1 + 1]? = some (.cells #[.string (str (parseI T)), .slice a n c] 24 (0, 0)) ∧ OwnS w1 W0.heap.size (.slice a n c) (parseS T) := by
    by_cases e : parseE T = 0
    · exact hl1.1 e
    · obtain ⟨e1, e2⟩ := parse_no e
      rw [e1, e2]
      exact ⟨none, 0, 0, hl1.2 e, World.ownsRow_nil _ _ _ _⟩
  obtain ⟨a, n, c, h1, h2⟩ := hL
  have g0 : w1.cell? ⟨w.heap.size + 1 + 1, 0, none⟩ = some (.string (str (parseI T))) := (cell_of_heap h1).trans rfl
  have g1 : w1.cell? ⟨w.heap.size + 1 + 1, 1, none⟩ = some (.slice a n c) := (cell_of_heap h1).trans rfl
  have f0 : w1.frozen? ⟨w.heap.size + 1, 0, none⟩ = false := frozen_of_heap hz1
  have f1 : w1.frozen? ⟨w.heap.size + 1, 1, none⟩ = false := frozen_of_heap hz1
  have q0 : w1.cell? ⟨w.heap.size + 1, 0, none⟩ = some (.string { data := #[] }) := (cell_of_heap hz1).trans rfl
  have q1 : w1.cell? ⟨w.heap.size + 1, 1, none⟩ = some (.slice none 0 0) := (cell_of_heap hz1).trans rfl
  have hs0 : w.heap.size + 1 < W0.heap.size := heap_lt HZ.out
  have HZ1 : Hid _ := hz1
  have HB1 : Hid _ := hb1
  have HO : Hid _ := h2
  have HS0 : Hid (w.heap.size + 1 < W0.heap.size) := hs0
  clear hz1 hb1 h2 h1 hl1 ho1 hs0 HZ HB hW0
  go_wp2
  refine bodyPost_ret (Kr.results_cell_tmp rfl _ _ (w.heap.size + 1) 24 _ (0, 0) _ rfl (put2 HZ1.out) Tryd.underlying24 rfl sizeRing) rfl ?_
  exact ⟨⟨a, n, c, rfl, owns_mono (owns_set (owns_set HO.out HS0.out) HS0.out) (by have := HS0.out; omega)⟩, (HB1.out.setCell (by simp) _).setCell (by simp) _⟩

end Go.Proofs.YtbjiamaaocjbfaaDoor.Kp
