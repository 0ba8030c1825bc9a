import Derived.Test.YtaejapdbghbgeaaSgA
namespace Go.Proofs.Ytaejapdbghbgeaa.Se
open Go.RowKit Go.Lib Go.Deep

structure Box where
  kind : Int
  name : ByteArray
  text : ByteArray
  seed : Int
def boxV (b : Box) : Value := .agg #[.int .i64 b.kind, .string b.name, .string b.text, .int .i64 b.seed]
def cutS (n : Nat) (s : ByteArray) : ByteArray := if n < s.size then s.extract 0 n else s
def withinB (b : Box) : Box := ⟨1 + b.kind % 3, cutS 64 b.name, cutS 4096 b.text, b.seed⟩
theorem cutS_size (n : Nat) (s : ByteArray) : (cutS n s).size ≤ n ∧ (cutS n s).size ≤ s.size := by
  unfold cutS
  split
  · rw [ByteArray.size_extract]; omega
  · omega

theorem infoB0 : (Try.prog.info? 44).map (fun i => (i.zero, i.size, i.bytes)) = some (some (.agg #[.int .i64 0, .string { data := #[] }, .string { data := #[] }, .int .i64 0]), 4, 48) := by kernel_rfl
theorem sizeB : (Try.prog.info? 44).map (·.size) = some 4 := by kernel_rfl
theorem info_B : ∃ i0, Try.prog.info? 44 = some i0 ∧ i0.zero = some (.agg #[.int .i64 0, .string { data := #[] }, .string { data := #[] }, .int .i64 0]) ∧ i0.size = 4 ∧ i0.bytes = 48 := by
  have h := infoB0
  cases hq : Try.prog.info? 44 with
  | none => rw [hq] at h; cases h
  | some i =>
    rw [hq] at h
    simp at h
    exact ⟨i, rfl, h.1, h.2.1, h.2.2⟩

theorem results_cell {P : Program} {fn : Func} {p : Tmp} {ty : TypeId} (h : fn.results = #[.cell p ty]) (tmps : Array Value) (w : World) (g : Nat) (t : TypeId) (cs : Array Value) (fr : Nat × Nat) (d : TypeDesc)
    (hp : tmps.getD p undef = .pointer (some ⟨g, 0, none⟩)) (hg : w.heap[g]? = some (.cells cs t fr)) (hu : P.underlying ty = some d) (hd : (match d with | .struct _ | .array _ _ => true | _ => false) = true) (hi : (P.info? ty).map (·.size) = some cs.size) :
    (results fn tmps).run P w = .ok (.agg cs) w := by
  have hp' : tmps[p]?.getD undef = .pointer (some ⟨g, 0, none⟩) := by simpa using hp
  simp [results, h, hp', asAddr, run_loadVar_row w g t ty cs fr d hg hu hd hi]

theorem new2 (w : World) (a b : Obj) : ((w.alloc a).alloc b).heap[w.heap.size + 1]? = some b := by
  have := heap_new (w.alloc a) b
  rw [show (w.alloc a).heap.size = w.heap.size + 1 by simp] at this
  exact this

set_option maxRecDepth 20000 in
set_option maxHeartbeats 1000000 in
theorem within_any (b : Box) (hk : -9223372036854775808 ≤ b.kind ∧ b.kind ≤ 9223372036854775807) (w : World) : Calls Try.prog 18 #[boxV b] w fun e w' => e = .returned (boxV (withinB b)) ∧ Below w.heap.size w w' := by
  obtain ⟨kd, nm, tx, sd⟩ := b
  dsimp only at hk
  unfold boxV withinB
  dsimp only
  have hmd := fun W => smod_any kd 3 hk (by omega) W
  have hk3 : 0 ≤ kd % 3 ∧ kd % 3 < 3 := by omega
  have r1 : IntKind.i64.wrap (1 + kd % 3) = 1 + kd % 3 := by rw [IntKind.wrap_i64]; omega
  have hn64 : ((cutS 64 nm) = if (64 : Int) < (nm.size : Int) then nm.extract 0 64 else nm) := by unfold cutS; split <;> split <;> first | rfl | omega
  have ht4k : ((cutS 4096 tx) = if (4096 : Int) < (tx.size : Int) then tx.extract 0 4096 else tx) := by unfold cutS; split <;> split <;> first | rfl | omega
  rw [hn64, ht4k]
  clear hn64 ht4k
  generalize kd % 3 = k3 at *
  by_cases c1 : (64 : Int) < (nm.size : Int)
  · by_cases c2 : (4096 : Int) < (tx.size : Int)
    · rw [if_pos c1, if_pos c2]
      go_enter Try.func18, Try.ntmps18
      go_wp2_with (go_at_call 8; refine (hmd _).mono ?_; rintro e w2 ⟨rfl, rfl⟩)
      refine bodyPost_ret (results_cell rfl _ _ (w.heap.size + 1) 44 _ (0, 0) _ rfl (new2 w _ _) Try.underlying44 rfl sizeB) rfl ?_
      exact ⟨rfl, ((Below.refl _ _).alloc (Nat.le_refl _) _).alloc (by simp) _⟩
    · rw [if_pos c1, if_neg c2]
      go_enter Try.func18, Try.ntmps18
      go_wp2_with (go_at_call 8; refine (hmd _).mono ?_; rintro e w2 ⟨rfl, rfl⟩)
      refine bodyPost_ret (results_cell rfl _ _ (w.heap.size + 1) 44 _ (0, 0) _ rfl (new2 w _ _) Try.underlying44 rfl sizeB) rfl ?_
      exact ⟨rfl, ((Below.refl _ _).alloc (Nat.le_refl _) _).alloc (by simp) _⟩
  · by_cases c2 : (4096 : Int) < (tx.size : Int)
    · rw [if_neg c1, if_pos c2]
      go_enter Try.func18, Try.ntmps18
      go_wp2_with (go_at_call 8; refine (hmd _).mono ?_; rintro e w2 ⟨rfl, rfl⟩)
      refine bodyPost_ret (results_cell rfl _ _ (w.heap.size + 1) 44 _ (0, 0) _ rfl (new2 w _ _) Try.underlying44 rfl sizeB) rfl ?_
      exact ⟨rfl, ((Below.refl _ _).alloc (Nat.le_refl _) _).alloc (by simp) _⟩
    · rw [if_neg c1, if_neg c2]
      go_enter Try.func18, Try.ntmps18
      go_wp2_with (go_at_call 8; refine (hmd _).mono ?_; rintro e w2 ⟨rfl, rfl⟩)
      refine bodyPost_ret (results_cell rfl _ _ (w.heap.size + 1) 44 _ (0, 0) _ rfl (new2 w _ _) Try.underlying44 rfl sizeB) rfl ?_
      exact ⟨rfl, ((Below.refl _ _).alloc (Nat.le_refl _) _).alloc (by simp) _⟩

end Go.Proofs.Ytaejapdbghbgeaa.Se
