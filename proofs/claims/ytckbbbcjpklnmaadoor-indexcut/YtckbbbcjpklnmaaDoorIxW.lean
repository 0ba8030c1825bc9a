import Derived.Test.YtckbbbcjpklnmaaDoorIxM
import Derived.Lib.AppendStr
import Derived.Deep.LoopGhost
namespace Go.Proofs.YtckbbbcjpklnmaaDoor.Ix
open Go.RowKit Go.Lib Go.Deep

/-! what is written: bytes in a row of their own, under a block of one cell -/
structure Wr (w : World) (B p : Nat) (v : Value) (L : List UInt8) : Prop where
  hB : B ≤ p
  hp : w.heap[p]? = some (.cells #[v] 109 (0, 0))
  ho : w.ownsRow B 5 1 v L.length (Lib.byteCells L)
/-- what a step of the writer leaves alone -/
structure Fr (B p : Nat) (w w' : World) : Prop where
  os : w'.os = w.os
  tape : w'.tape = w.tape
  output : w'.output = w.output
  size : w.heap.size ≤ w'.heap.size
  block : ∀ k, k < w.heap.size → k ≠ p → (k < B ∨ ∀ cs, w.heap[k]? ≠ some (.cells cs 5 (0, 0))) → w'.heap[k]? = w.heap[k]?
theorem Fr.refl (B p : Nat) (w : World) : Fr B p w w := ⟨rfl, rfl, rfl, Nat.le_refl _, fun _ _ _ _ => rfl⟩
theorem Fr.trans {B p : Nat} {a b c : World} (h : Fr B p a b) (k : Fr B p b c) : Fr B p a c :=
  ⟨k.os.trans h.os, k.tape.trans h.tape, k.output.trans h.output, Nat.le_trans h.size k.size, fun i hi hp hS => by
    have e := h.block i hi hp hS
    exact (k.block i (Nat.lt_of_lt_of_le hi h.size) hp (by rw [e]; exact hS)).trans e⟩
theorem Fr.of {B p : Nat} {w w' : World} (h : Below w.heap.size w w') : Fr B p w w' := ⟨h.os, h.tape, h.output, h.size, fun k hk _ _ => h.block k hk⟩
theorem Fr.below {B p : Nat} {w w' : World} (h : Fr B p w w') (hB : B ≤ p) (hs : B ≤ w.heap.size) : Below B w w' := ⟨h.os, h.tape, h.output, h.size, fun k hk => h.block k (by omega) (by omega) (.inl hk)⟩
/-- a block that no step of the writer turns -/
def Far (w : World) (B p b : Nat) : Prop := b < w.heap.size ∧ b ≠ p ∧ (b < B ∨ ∀ cs, w.heap[b]? ≠ some (.cells cs 5 (0, 0)))
theorem Far.keep {B p b : Nat} {w w' : World} (h : Far w B p b) (hf : Fr B p w w') : w'.heap[b]? = w.heap[b]? := hf.block b h.1 h.2.1 h.2.2
theorem Far.next {B p b : Nat} {w w' : World} (h : Far w B p b) (hf : Fr B p w w') : Far w' B p b := ⟨Nat.lt_of_lt_of_le h.1 hf.size, h.2.1, by rw [h.keep hf]; exact h.2.2⟩
theorem See.far {w w' : World} {sz n : Nat} {v : Value} {xs : List Value} {B p : Nat} (h : See w sz v n xs) (hn : ∀ a n c b off, v = .slice a n c → a = some ⟨b, off, none⟩ → Far w B p b) (hf : Fr B p w w') : See w' sz v n xs := by
  obtain ⟨h0, h5, a, c, h1, h2, h3, h4⟩ := h
  refine ⟨h0, h5, a, c, h1, h2, h3, fun hp => ?_⟩
  obtain ⟨b, off, e, hlt, hc⟩ := h4 hp
  have hk := (hn a n c b off h1 e).keep hf
  exact ⟨b, off, e, Nat.lt_of_lt_of_le hlt hf.size, fun j u hu => (World.cell?_of_block (a := ⟨b, off + j, none⟩) hk).trans (hc j u hu)⟩
theorem Wr.ne {w : World} {B p : Nat} {v : Value} {L : List UInt8} (h : Wr w B p v L) {g : Nat} (hg : v.ownBlock = some g) : g ≠ p := fun e => by
  obtain ⟨cur, hc⟩ := owns_block h.ho hg
  rw [e, h.hp] at hc
  injection hc with hc
  injection hc with _ hc _
  cases hc
theorem Wr.lt {w : World} {B p : Nat} {v : Value} {L : List UInt8} (h : Wr w B p v L) : p < w.heap.size := heap_lt h.hp
theorem Wr.below {w W : World} {B p : Nat} {v : Value} {L : List UInt8} (h : Wr w B p v L) (hb : Below w.heap.size w W) : Wr W B p v L := ⟨h.hB, (hb.block p h.lt).trans h.hp, owns_below h.ho hb⟩
theorem Wr.cell {w : World} {B p : Nat} {v : Value} {L : List UInt8} (h : Wr w B p v L) : w.cell? ⟨p, 0, none⟩ = some v ∧ w.frozen? ⟨p, 0, none⟩ = false := ⟨(cell_of_heap h.hp).trans rfl, frozen_of_heap h.hp⟩
/-- bytes more -/
theorem Wr.app {w w' : World} {B p : Nat} {v v' : Value} {L M : List UInt8} (h : Wr w B p v L) (hg : w.grownBy w' v.ownBlock) (ho : w'.ownsRow B 5 1 v' (L.length + M.length) (Lib.byteCells L ++ Lib.byteCells M)) :
    w'.cell? ⟨p, 0, none⟩ = some v ∧ w'.frozen? ⟨p, 0, none⟩ = false ∧ Wr (w'.setCell ⟨p, 0, none⟩ v') B p v' (L ++ M) ∧ Fr B p w (w'.setCell ⟨p, 0, none⟩ v') := by
  have hp : w'.heap[p]? = some (.cells #[v] 109 (0, 0)) := (hg.block p h.lt (fun e => h.ne e.symm rfl)).trans h.hp
  have hp2 : (w'.setCell ⟨p, 0, none⟩ v').heap[p]? = some (.cells #[v'] 109 (0, 0)) := heap_setCell_same _ _ 0 _ _ v' hp
  refine ⟨(cell_of_heap hp).trans rfl, frozen_of_heap hp, ⟨h.hB, hp2, ?_⟩, ⟨hg.os, hg.tape, hg.output, by simpa using hg.size, fun k hk hkp hS => ?_⟩⟩
  · rw [List.length_append, show Lib.byteCells (L ++ M) = Lib.byteCells L ++ Lib.byteCells M by simp [Lib.byteCells]]
    refine owns_keep ho fun g hgo => heap_setCell_other _ _ _ _ (fun e => ?_)
    obtain ⟨cur, hc⟩ := owns_block ho hgo
    rw [show g = p from e, hp] at hc
    injection hc with hc
    injection hc with _ hc _
    cases hc
  · rw [heap_setCell_other _ _ _ _ hkp]
    refine hg.block k hk (fun e => ?_)
    obtain ⟨cur, hc⟩ := owns_block h.ho e.symm
    rcases hS with hS | hS
    · have := (h.ho.lt k e.symm).1
      omega
    · exact hS cur hc
def Wt (w w' : World) (B p : Nat) (L : List UInt8) : Prop := Fr B p w w' ∧ ∃ v, Wr w' B p v L
theorem Wt.then {w w' w'' : World} {B p : Nat} {L M : List UInt8} (h : Wt w w' B p L) (k : ∀ v, Wr w' B p v L → Wt w' w'' B p M) : Wt w w'' B p M := by
  obtain ⟨h1, v, h2⟩ := h
  obtain ⟨h3, h4⟩ := k v h2
  exact ⟨h1.trans h3, h4⟩
theorem Wt.ahead {w w' w'' : World} {B p : Nat} {M : List UInt8} (h : Fr B p w w') (k : Wt w' w'' B p M) : Wt w w'' B p M := ⟨h.trans k.1, k.2⟩
theorem info5 : (Tryd.prog.info? 5).map (fun i => (i.zero, i.size, i.bytes)) = some (some (.int .u8 0), 1, 1) := by kernel_rfl
theorem bgL_at : ∀ (k n i : Nat), i < k → (bgL k n)[i]? = some (UInt8.ofNat (n / 256 ^ (k - 1 - i) % 256))
  | 0, n, i, h => by omega
  | k + 1, n, 0, h => by rw [bgL, List.getElem?_cons_zero]; simp
  | k + 1, n, i + 1, h => by
    rw [bgL, List.getElem?_cons_succ, bgL_at k n i (by omega)]
    congr 5
    omega
set_option maxRecDepth 20000 in
set_option maxHeartbeats 1000000 in
theorem number_any (n k B p : Nat) (v : Value) (L : List UInt8) (hk : k = 1 ∨ k = 2 ∨ k = 4) (hn : n ≤ 4294967296) (hL : L.length ≤ 1099511627776) (w : World) (hW : Wr w B p v L) (hBw : B ≤ w.heap.size) :
    Calls Tryd.prog 65 #[.pointer (some ⟨p, 0, none⟩), .int .i64 (n : Int), .int .i64 (k : Int)] w fun e w' => e = .returned (.tuple #[]) ∧ Wt w w' B p (L ++ bgL k n) := by
  obtain ⟨i0, hi, hz0, hz1, hz2⟩ := info_parts info5
  have hkl : k ≤ 4 := by omega
  have HK : Hid (k = 1 ∨ k = 2 ∨ k = 4) := hk
  clear hk
  go_enter Tryd.func65, Tryd.ntmps65
  go_wp2_with fail
  go_loopg [8] k (fun gk iv wr => ∃ i : Nat, i + gk = k ∧ iv = .int .i64 (i : Int) ∧ Hid (Wt w wr B p (L ++ (bgL k n).take i)))
  case atStart => exact ⟨0, by omega, rfl, ⟨Fr.refl _ _ _, v, by rw [List.take_zero, List.append_nil]; exact hW⟩⟩
  case round =>
    obtain ⟨i, hik, rfl, hT⟩ := hrel
    by_cases hlt : i < k
    · have hltI : (i : Int) < (k : Int) := by omega
      obtain ⟨hf, v1, hW1⟩ := hT.out
      have hx := bgL_at k n i hlt
      obtain ⟨q, hq⟩ : ∃ q, n / 256 ^ (k - 1 - i) = q := ⟨_, rfl⟩
      have hsh : ∀ W, (Op.shift .shr .i64 (n : Int) .i64 (IntKind.i64.wrap (8 * IntKind.i64.wrap (IntKind.i64.wrap ((k : Int) - 1) - (i : Int))))).run Tryd.prog W = .ok (.int .i64 (q : Int)) W := fun W => by
        have e1 : IntKind.i64.wrap (8 * IntKind.i64.wrap (IntKind.i64.wrap ((k : Int) - 1) - (i : Int))) = ((8 * (k - 1 - i) : Nat) : Int) := by
          rw [IntKind.wrap_i64, IntKind.wrap_i64, IntKind.wrap_i64]
          omega
        have e2 := shift_shr .i64 .i64 (n : Int) ((8 * (k - 1 - i) : Nat) : Int) (by omega) (by show _ ≤ ((64 : Nat) : Int); omega)
        have e3 : (2 : Int) ^ (8 * (k - 1 - i)) = ((256 ^ (k - 1 - i) : Nat) : Int) := by
          rw [Int.natCast_pow, Int.pow_mul]
          rfl
        rw [e1, e2, Int.toNat_natCast, e3, ← Int.natCast_ediv, hq]
        rfl
      rw [hq] at hx
      have hq2 : q ≤ 4294967296 := by rw [← hq]; exact Nat.le_trans (Nat.div_le_self _ _) hn
      have hcs : Lib.byteCells [UInt8.ofNat (q % 256)] = [.int .u8 (IntKind.u8.wrap (q : Int))] := by
        simp [Lib.byteCells, IntKind.wrap_u8]
      obtain ⟨c0, f0⟩ := hW1.cell
      have hl := hW1.lt
      have hone : ∀ u ∈ [Value.int .u8 (IntKind.u8.wrap (q : Int))], u.oneCell' = true := by simp [Value.oneCell']
      have hlen : (L ++ (bgL k n).take i).length ≤ 1099511627780 := by
        rw [List.length_append, List.length_take, bgL_len]
        omega
      have hBr : B ≤ wr.heap.size := Nat.le_trans hBw hf.size
      have ho := fun o => (hW1.below (((Below.refl wr.heap.size wr).drew).alloc (Nat.le_refl _) o)).ho
      have HE : Hid (∀ w' v', (wr.drew.alloc (.cells #[.int .u8 (IntKind.u8.wrap (q : Int))] 5)).grownBy w' v1.ownBlock → w'.ownsRow B 5 1 v' ((L ++ (bgL k n).take i).length + 1) (Lib.byteCells (L ++ (bgL k n).take i) ++ [.int .u8 (IntKind.u8.wrap (q : Int))]) → w'.cell? ⟨p, 0, none⟩ = some v1 ∧ w'.frozen? ⟨p, 0, none⟩ = false ∧ Hid (Wt w (w'.setCell ⟨p, 0, none⟩ v') B p (L ++ (bgL k n).take (i + 1)))) := fun w' v' hg hw' => by
        have hb1 : Below wr.heap.size wr (wr.drew.alloc (.cells #[.int .u8 (IntKind.u8.wrap (q : Int))] 5)) := ((Below.refl wr.heap.size wr).drew).alloc (Nat.le_refl _) _
        have hW2 := hW1.below hb1
        rw [← hcs] at hw'
        obtain ⟨r1, r2, r3, r4⟩ := hW2.app (M := [UInt8.ofNat (q % 256)]) hg hw'
        refine ⟨r1, r2, hf.trans ((Fr.of hb1).trans r4), v', ?_⟩
        rw [List.take_add_one, hx]
        rw [List.append_assoc] at r3
        exact r3
      generalize hM : (L ++ (bgL k n).take i) = M at *
      clear hq HK hcs hx hW hT hn hL
      go_wp2_with fail
      go_region_law (refine step_append_own rfl (.tmp 15) (.tmp 24) 45 rfl B 5 i0 (.int .u8 0) 1 1 Tryd.underlying45 hi hz0 hz1 hz2 rfl (by decide) _ _ _ (by simp [Act.eval]) (ho _) ⟨wr.heap.size, 0, none⟩ 1 1 [.int .u8 (IntKind.u8.wrap (q : Int))] (by simp [Act.eval]) rfl (by intro i u h; exact cells_new wr.drew #[.int .u8 (IntKind.u8.wrap (q : Int))] 5 i u (by simpa using h)) hone (by unfold maxLen; omega) (by omega) (by simp; omega) ?_; intro v' w' hown' hgrow'; obtain ⟨a9, c9, rfl⟩ := owns_form hown'; obtain ⟨x0, x1, x2⟩ := HE.out w' _ hgrow' hown'; clear hown' hgrow')
      all_goals
        go_wp2
        go_roundg (gk - 1)
        case measure => omega
        case rel => exact ⟨i + 1, by omega, rfl, x2⟩
    · obtain rfl : i = k := by omega
      have hltI : ¬ (i : Int) < (i : Int) := by omega
      have HT : Hid (Wt w wr B p (L ++ bgL i n)) := by
        have := hT.out
        rw [List.take_of_length_le (by rw [bgL_len]; exact Nat.le_refl _)] at this
        exact this
      go_wp2
      go_end0
      exact ⟨rfl, HT.out⟩
end Go.Proofs.YtckbbbcjpklnmaaDoor.Ix
