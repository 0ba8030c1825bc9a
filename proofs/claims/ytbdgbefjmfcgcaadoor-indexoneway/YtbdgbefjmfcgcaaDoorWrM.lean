import Derived.Test.YtbdgbefjmfcgcaaDoorPaM
import Derived.Lib.AppendStr
import Derived.Deep.LoopGhost
namespace Go.Proofs.YtbdgbefjmfcgcaaDoor.Ix
open Go.RowKit Go.Lib Go.Deep

/-! what is written: bytes in a row of their own, under a block of one cell -/
structure Wr (w : World) (B p : Nat) (v : Value) (L : List UInt8) : Prop where
  hB : B ≤ p
  hp : w.heap[p]? = some (.cells #[v] 74 (0, 0))
  ho : w.ownsRow B 5 1 v L.length (Lib.byteCells L)
/-- what a step of the writer leaves alone -/
structure Fr (B p : Nat) (w w' : World) : Prop where
  os : w'.os = w.os
  tape : w'.tape = w.tape
  output : w'.output = w.output
  size : w.heap.size ≤ w'.heap.size
  block : ∀ k, k < w.heap.size → k ≠ p → (k < B ∨ ∀ cs, w.heap[k]? ≠ some (.cells cs 5 (0, 0))) → w'.heap[k]? = w.heap[k]?
theorem Fr.refl (B p : Nat) (w : World) : Fr B p w w := ⟨rfl, rfl, rfl, Nat.le_refl _, fun _ _ _ _ => rfl⟩
theorem Fr.trans {B p : Nat} {a b c : World} (h : Fr B p a b) (k : Fr B p b c) : Fr B p a c :=
  ⟨k.os.trans h.os, k.tape.trans h.tape, k.output.trans h.output, Nat.le_trans h.size k.size, fun i hi hp hS => by
    have e := h.block i hi hp hS
    exact (k.block i (Nat.lt_of_lt_of_le hi h.size) hp (by rw [e]; exact hS)).trans e⟩
theorem Fr.of {B p : Nat} {w w' : World} (h : Below w.heap.size w w') : Fr B p w w' := ⟨h.os, h.tape, h.output, h.size, fun k hk _ _ => h.block k hk⟩
theorem Fr.below {B p : Nat} {w w' : World} (h : Fr B p w w') (hB : B ≤ p) (hs : B ≤ w.heap.size) : Below B w w' := ⟨h.os, h.tape, h.output, h.size, fun k hk => h.block k (by omega) (by omega) (.inl hk)⟩
/-- a block that no step of the writer turns -/
def Far (w : World) (B p b : Nat) : Prop := b < w.heap.size ∧ b ≠ p ∧ (b < B ∨ ∀ cs, w.heap[b]? ≠ some (.cells cs 5 (0, 0)))
theorem Far.keep {B p b : Nat} {w w' : World} (h : Far w B p b) (hf : Fr B p w w') : w'.heap[b]? = w.heap[b]? := hf.block b h.1 h.2.1 h.2.2
theorem Far.next {B p b : Nat} {w w' : World} (h : Far w B p b) (hf : Fr B p w w') : Far w' B p b := ⟨Nat.lt_of_lt_of_le h.1 hf.size, h.2.1, by rw [h.keep hf]; exact h.2.2⟩
theorem See.far {w w' : World} {sz n : Nat} {v : Value} {xs : List Value} {B p : Nat} (h : See w sz v n xs) (hn : ∀ a n c b off, v = .slice a n c → a = some ⟨b, off, none⟩ → Far w B p b) (hf : Fr B p w w') : See w' sz v n xs := by
  obtain ⟨h0, h5, a, c, h1, h2, h3, h4⟩ := h
  refine ⟨h0, h5, a, c, h1, h2, h3, fun hp => ?_⟩
  obtain ⟨b, off, e, hlt, hc⟩ := h4 hp
  have hk := (hn a n c b off h1 e).keep hf
  exact ⟨b, off, e, Nat.lt_of_lt_of_le hlt hf.size, fun j u hu => (World.cell?_of_block (a := ⟨b, off + j, none⟩) hk).trans (hc j u hu)⟩
theorem Wr.ne {w : World} {B p : Nat} {v : Value} {L : List UInt8} (h : Wr w B p v L) {g : Nat} (hg : v.ownBlock = some g) : g ≠ p := fun e => by
  obtain ⟨cur, hc⟩ := owns_block h.ho hg
  rw [e, h.hp] at hc
  injection hc with hc
  injection hc with _ hc _
  cases hc
theorem Wr.lt {w : World} {B p : Nat} {v : Value} {L : List UInt8} (h : Wr w B p v L) : p < w.heap.size := heap_lt h.hp
theorem Wr.below {w W : World} {B p : Nat} {v : Value} {L : List UInt8} (h : Wr w B p v L) (hb : Below w.heap.size w W) : Wr W B p v L := ⟨h.hB, (hb.block p h.lt).trans h.hp, owns_below h.ho hb⟩
theorem Wr.cell {w : World} {B p : Nat} {v : Value} {L : List UInt8} (h : Wr w B p v L) : w.cell? ⟨p, 0, none⟩ = some v ∧ w.frozen? ⟨p, 0, none⟩ = false := ⟨(cell_of_heap h.hp).trans rfl, frozen_of_heap h.hp⟩
/-- bytes more -/
theorem Wr.app {w w' : World} {B p : Nat} {v v' : Value} {L M : List UInt8} (h : Wr w B p v L) (hg : w.grownBy w' v.ownBlock) (ho : w'.ownsRow B 5 1 v' (L.length + M.length) (Lib.byteCells L ++ Lib.byteCells M)) :
    w'.cell? ⟨p, 0, none⟩ = some v ∧ w'.frozen? ⟨p, 0, none⟩ = false ∧ Wr (w'.setCell ⟨p, 0, none⟩ v') B p v' (L ++ M) ∧ Fr B p w (w'.setCell ⟨p, 0, none⟩ v') := by
  have hp : w'.heap[p]? = some (.cells #[v] 74 (0, 0)) := (hg.block p h.lt (fun e => h.ne e.symm rfl)).trans h.hp
  have hp2 : (w'.setCell ⟨p, 0, none⟩ v').heap[p]? = some (.cells #[v'] 74 (0, 0)) := heap_setCell_same _ _ 0 _ _ v' hp
  refine ⟨(cell_of_heap hp).trans rfl, frozen_of_heap hp, ⟨h.hB, hp2, ?_⟩, ⟨hg.os, hg.tape, hg.output, by simpa using hg.size, fun k hk hkp hS => ?_⟩⟩
  · rw [List.length_append, show Lib.byteCells (L ++ M) = Lib.byteCells L ++ Lib.byteCells M by simp [Lib.byteCells]]
    refine owns_keep ho fun g hgo => heap_setCell_other _ _ _ _ (fun e => ?_)
    obtain ⟨cur, hc⟩ := owns_block ho hgo
    rw [show g = p from e, hp] at hc
    injection hc with hc
    injection hc with _ hc _
    cases hc
  · rw [heap_setCell_other _ _ _ _ hkp]
    refine hg.block k hk (fun e => ?_)
    obtain ⟨cur, hc⟩ := owns_block h.ho e.symm
    rcases hS with hS | hS
    · have := (h.ho.lt k e.symm).1
      omega
    · exact hS cur hc
def Wt (w w' : World) (B p : Nat) (L : List UInt8) : Prop := Fr B p w w' ∧ ∃ v, Wr w' B p v L
theorem Wt.then {w w' w'' : World} {B p : Nat} {L M : List UInt8} (h : Wt w w' B p L) (k : ∀ v, Wr w' B p v L → Wt w' w'' B p M) : Wt w w'' B p M := by
  obtain ⟨h1, v, h2⟩ := h
  obtain ⟨h3, h4⟩ := k v h2
  exact ⟨h1.trans h3, h4⟩
theorem Wt.ahead {w w' w'' : World} {B p : Nat} {M : List UInt8} (h : Fr B p w w') (k : Wt w' w'' B p M) : Wt w w'' B p M := ⟨h.trans k.1, k.2⟩
theorem info5 : (Tryd.prog.info? 5).map (fun i => (i.zero, i.size, i.bytes)) = some (some (.int .u8 0), 1, 1) := by kernel_rfl
theorem bgL_at : ∀ (k n i : Nat), i < k → (bgL k n)[i]? = some (UInt8.ofNat (n / 256 ^ (k - 1 - i) % 256))
  | 0, n, i, h => by omega
  | k + 1, n, 0, h => by rw [bgL, List.getElem?_cons_zero]; simp
  | k + 1, n, i + 1, h => by
    rw [bgL, List.getElem?_cons_succ, bgL_at k n i (by omega)]
    congr 5
    omega
set_option maxRecDepth 20000 in
set_option maxHeartbeats 1000000 in
theorem number_any (n k B p : Nat) (v : Value) (L : List UInt8) (hk : k = 1 ∨ k = 2 ∨ k = 4) (hn : n ≤ 4294967296) (hL : L.length ≤ 1099511627776) (w : World) (hW : Wr w B p v L) (hBw : B ≤ w.heap.size) :
    Calls Tryd.prog 63 #[.pointer (some ⟨p, 0, none⟩), .int .i64 (n : Int), .int .i64 (k : Int)] w fun e w' => e = .returned (.tuple #[]) ∧ Wt w w' B p (L ++ bgL k n) := by
  obtain ⟨i0, hi, hz0, hz1, hz2⟩ := info_parts info5
  have hkl : k ≤ 4 := by omega
  have HK : Hid (k = 1 ∨ k = 2 ∨ k = 4) := hk
  clear hk
  go_enter Tryd.func63, Tryd.ntmps63
  go_wp2_with fail
  go_loopg [8] k (fun gk iv wr => ∃ i : Nat, i + gk = k ∧ iv = .int .i64 (i : Int) ∧ Hid (Wt w wr B p (L ++ (bgL k n).take i)))
  case atStart => exact ⟨0, by omega, rfl, ⟨Fr.refl _ _ _, v, by rw [List.take_zero, List.append_nil]; exact hW⟩⟩
  case round =>
    obtain ⟨i, hik, rfl, hT⟩ := hrel
    by_cases hlt : i < k
    · have hltI : (i : Int) < (k : Int) := by omega
      obtain ⟨hf, v1, hW1⟩ := hT.out
      have hx := bgL_at k n i hlt
      obtain ⟨q, hq⟩ : ∃ q, n / 256 ^ (k - 1 - i) = q := ⟨_, rfl⟩
      have hsh : ∀ W, (Op.shift .shr .i64 (n : Int) .i64 (IntKind.i64.wrap (8 * IntKind.i64.wrap (IntKind.i64.wrap ((k : Int) - 1) - (i : Int))))).run Tryd.prog W = .ok (.int .i64 (q : Int)) W := fun W => by
        have e1 : IntKind.i64.wrap (8 * IntKind.i64.wrap (IntKind.i64.wrap ((k : Int) - 1) - (i : Int))) = ((8 * (k - 1 - i) : Nat) : Int) := by
          rw [IntKind.wrap_i64, IntKind.wrap_i64, IntKind.wrap_i64]
          omega
        have e2 := shift_shr .i64 .i64 (n : Int) ((8 * (k - 1 - i) : Nat) : Int) (by omega) (by show _ ≤ ((64 : Nat) : Int); omega)
        have e3 : (2 : Int) ^ (8 * (k - 1 - i)) = ((256 ^ (k - 1 - i) : Nat) : Int) := by
          rw [Int.natCast_pow, Int.pow_mul]
          rfl
        rw [e1, e2, Int.toNat_natCast, e3, ← Int.natCast_ediv, hq]
        rfl
      rw [hq] at hx
      have hq2 : q ≤ 4294967296 := by rw [← hq]; exact Nat.le_trans (Nat.div_le_self _ _) hn
      have hcs : Lib.byteCells [UInt8.ofNat (q % 256)] = [.int .u8 (IntKind.u8.wrap (q : Int))] := by
        simp [Lib.byteCells, IntKind.wrap_u8]
      obtain ⟨c0, f0⟩ := hW1.cell
      have hl := hW1.lt
      have hone : ∀ u ∈ [Value.int .u8 (IntKind.u8.wrap (q : Int))], u.oneCell' = true := by simp [Value.oneCell']
      have hlen : (L ++ (bgL k n).take i).length ≤ 1099511627780 := by
        rw [List.length_append, List.length_take, bgL_len]
        omega
      have hBr : B ≤ wr.heap.size := Nat.le_trans hBw hf.size
      have ho := fun o => (hW1.below (((Below.refl wr.heap.size wr).drew).alloc (Nat.le_refl _) o)).ho
      have HE : Hid (∀ w' v', (wr.drew.alloc (.cells #[.int .u8 (IntKind.u8.wrap (q : Int))] 5)).grownBy w' v1.ownBlock → w'.ownsRow B 5 1 v' ((L ++ (bgL k n).take i).length + 1) (Lib.byteCells (L ++ (bgL k n).take i) ++ [.int .u8 (IntKind.u8.wrap (q : Int))]) → w'.cell? ⟨p, 0, none⟩ = some v1 ∧ w'.frozen? ⟨p, 0, none⟩ = false ∧ Hid (Wt w (w'.setCell ⟨p, 0, none⟩ v') B p (L ++ (bgL k n).take (i + 1)))) := fun w' v' hg hw' => by
        have hb1 : Below wr.heap.size wr (wr.drew.alloc (.cells #[.int .u8 (IntKind.u8.wrap (q : Int))] 5)) := ((Below.refl wr.heap.size wr).drew).alloc (Nat.le_refl _) _
        have hW2 := hW1.below hb1
        rw [← hcs] at hw'
        obtain ⟨r1, r2, r3, r4⟩ := hW2.app (M := [UInt8.ofNat (q % 256)]) hg hw'
        refine ⟨r1, r2, hf.trans ((Fr.of hb1).trans r4), v', ?_⟩
        rw [List.take_add_one, hx]
        rw [List.append_assoc] at r3
        exact r3
      generalize hM : (L ++ (bgL k n).take i) = M at *
      clear hq HK hcs hx hW hT hn hL
      go_wp2_with fail
      go_region_law (refine step_append_own rfl (.tmp 15) (.tmp 24) 52 rfl B 5 i0 (.int .u8 0) 1 1 Tryd.underlying52 hi hz0 hz1 hz2 rfl (by decide) _ _ _ (by simp [Act.eval]) (ho _) ⟨wr.heap.size, 0, none⟩ 1 1 [.int .u8 (IntKind.u8.wrap (q : Int))] (by simp [Act.eval]) rfl (by intro i u h; exact cells_new wr.drew #[.int .u8 (IntKind.u8.wrap (q : Int))] 5 i u (by simpa using h)) hone (by unfold maxLen; omega) (by omega) (by simp; omega) ?_; intro v' w' hown' hgrow'; obtain ⟨a9, c9, rfl⟩ := owns_form hown'; obtain ⟨x0, x1, x2⟩ := HE.out w' _ hgrow' hown'; clear hown' hgrow')
      all_goals
        go_wp2
        go_roundg (gk - 1)
        case measure => omega
        case rel => exact ⟨i + 1, by omega, rfl, x2⟩
    · obtain rfl : i = k := by omega
      have hltI : ¬ (i : Int) < (i : Int) := by omega
      have HT : Hid (Wt w wr B p (L ++ bgL i n)) := by
        have := hT.out
        rw [List.take_of_length_le (by rw [bgL_len]; exact Nat.le_refl _)] at this
        exact this
      go_wp2
      go_end0
      exact ⟨rfl, HT.out⟩
end Go.Proofs.YtbdgbefjmfcgcaaDoor.Ix

namespace Go.Proofs.YtbdgbefjmfcgcaaDoor.Ix
open Go.RowKit Go.Lib Go.Deep

theorem strCells_bytes (s : ByteArray) : Lib.strCells s = Lib.byteCells s.data.toList := by
  rfl
set_option maxRecDepth 20000 in
set_option maxHeartbeats 1000000 in
theorem text_any (s : ByteArray) (B p : Nat) (v : Value) (L : List UInt8) (hs : s.size ≤ 1099511627776) (hL : L.length ≤ 1099511627776) (w : World) (hW : Wr w B p v L) (hBw : B ≤ w.heap.size) :
    Calls Tryd.prog 64 #[.pointer (some ⟨p, 0, none⟩), .string s] w fun e w' => e = .returned (.tuple #[]) ∧ Wt w w' B p (L ++ s.data.toList) := by
  obtain ⟨i0, hi, hz0, hz1, hz2⟩ := info_parts info5
  obtain ⟨c0, f0⟩ := hW.cell
  have ho := hW.ho
  have HE : Hid (∀ w' v', w.grownBy w' v.ownBlock → w'.ownsRow B 5 1 v' (L.length + s.size) (Lib.byteCells L ++ Lib.strCells s) → w'.cell? ⟨p, 0, none⟩ = some v ∧ w'.frozen? ⟨p, 0, none⟩ = false ∧ Hid (Wt w (w'.setCell ⟨p, 0, none⟩ v') B p (L ++ s.data.toList))) := fun w' v' hg hw' => by
    rw [strCells_bytes, size_eq] at hw'
    obtain ⟨r1, r2, r3, r4⟩ := hW.app (M := s.data.toList) hg hw'
    exact ⟨r1, r2, r4, v', r3⟩
  clear hW
  go_enter Tryd.func64, Tryd.ntmps64
  go_wp2_with (first | (at_builtin; refine wpList_append_own_string w rfl _ _ 52 9 rfl B 5 i0 Tryd.underlying52 Tryd.underlying9 hi hz0 hz1 hz2 _ _ _ rfl ho s rfl (by unfold maxLen; omega) (by omega) hBw ?_; intro v' w' hown' hgrow' _; obtain ⟨a9, c9, rfl⟩ := owns_form hown'; obtain ⟨x0, x1, x2⟩ := HE.out w' _ hgrow' hown'; clear hown' hgrow'))
  go_end0
  exact ⟨rfl, x2.out⟩
theorem owns_cap {w : World} {B e sz n c : Nat} {a : Option Addr} {xs : List Value} (h : w.ownsRow B e sz (.slice a n c) n xs) : n ≤ c := by
  rcases h.2 with ⟨q1, q2⟩ | ⟨g', cap', cur, q1, q2, q3, q4, q5⟩
  · omega
  · injection q1 with _ _ e3
    omega
theorem run_append_zero {P : Program} (w : World) (t tn ty e : TypeId) (i : TypeInfo) (kq kn : IntKind) (ht : P.underlying t = some (.slice e)) (htn : P.underlying tn = some (.int kn)) (hi : P.info? e = some i) {z : Value} (hz : i.zero = some z) (a : Option Addr) (n c : Nat) (hc : n ≤ c) :
    (Builtin.append_ #[t, tn] ty #[.slice a n c, .int kq 0]).run P w = .ok (.slice a n c) w := by
  have hw : IntKind.i64.wrap 0 = 0 := by decide
  cases a <;> simp [Builtin.append_, run_underlying ht, run_underlying htn, sizeOf, typeInfo, zeroValue, hi, hz, asInt, asIntOf, hw, hc, storeCells]
theorem zero_bytes (k : Nat) : (Builtin.zeroCells (Value.int .u8 0).cells k).toList = Lib.byteCells (z0 k) := by
  unfold z0
  apply List.ext_getElem
  · simp [Lib.byteCells, size_zeroCells, Value.cells]
  · intro i h1 h2
    simp [Builtin.zeroCells, Lib.byteCells, Value.cells, Nat.mod_one]
set_option maxRecDepth 20000 in
set_option maxHeartbeats 1000000 in
theorem zeros_any (k : Nat) (B p : Nat) (v : Value) (L : List UInt8) (hk : k ≤ 1099511627776) (hL : L.length ≤ 1099511627776) (w : World) (hW : Wr w B p v L) (hBw : B ≤ w.heap.size) :
    Calls Tryd.prog 46 #[.pointer (some ⟨p, 0, none⟩), .int .i64 (k : Int)] w fun e w' => e = .returned (.tuple #[]) ∧ Wt w w' B p (L ++ z0 k) := by
  obtain ⟨i0, hi, hz0, hz1, hz2⟩ := info_parts info5
  obtain ⟨c0, f0⟩ := hW.cell
  have ho := hW.ho
  rcases Nat.eq_zero_or_pos k with rfl | hk0
  · obtain ⟨av, cv, rfl⟩ := owns_form ho
    have hz : ((0 : Nat) : Int) = 0 := rfl
    have e0 : L ++ z0 0 = L := by simp [z0]
    rw [e0]
    have hr := fun ty => run_append_zero (P := Tryd.prog) w 52 3 ty 5 i0 .i64 .i64 Tryd.underlying52 Tryd.underlying3 hi hz0 av L.length cv (owns_cap ho)
    have HE : Hid (Wt w (w.setCell ⟨p, 0, none⟩ (.slice av L.length cv)) B p L) := by
      obtain ⟨r1, r2, r3, r4⟩ := hW.app (M := []) (w' := w) (v' := .slice av L.length cv) ⟨rfl, rfl, rfl, Nat.le_refl _, fun _ _ _ => rfl⟩ (by simpa [Lib.byteCells] using ho)
      rw [List.append_nil] at r3
      exact ⟨r4, _, r3⟩
    clear hW ho e0
    go_enter Tryd.func46, Tryd.ntmps46
    go_wp2_with (first | (at_builtin; refine wpList_append_run rfl _ _ 52 3 rfl (.slice av L.length cv) (.int .i64 0) _ _ rfl rfl hr ?_))
    go_end0
    exact ⟨rfl, HE.out⟩
  · have h1 : ∀ u ∈ (Builtin.zeroCells (Value.int .u8 0).cells k).toList, u.oneCell' = true := by
      rw [zero_bytes]
      exact bytes_one _
    have HE : Hid (∀ w' v', w.grownBy w' v.ownBlock → w'.ownsRow B 5 1 v' (L.length + k) (Lib.byteCells L ++ (Builtin.zeroCells (Value.int .u8 0).cells k).toList) → w'.cell? ⟨p, 0, none⟩ = some v ∧ w'.frozen? ⟨p, 0, none⟩ = false ∧ Hid (Wt w (w'.setCell ⟨p, 0, none⟩ v') B p (L ++ z0 k))) := fun w' v' hg hw' => by
      rw [zero_bytes] at hw'
      obtain ⟨r1, r2, r3, r4⟩ := hW.app (M := z0 k) hg (by rw [show (z0 k).length = k by simp [z0]]; exact hw')
      exact ⟨r1, r2, r4, v', r3⟩
    clear hW
    go_enter Tryd.func46, Tryd.ntmps46
    go_wp2_with (first | (at_builtin; refine Tr.wpList_append_own_zeros w rfl _ _ 52 3 rfl B 5 i0 (.int .u8 0) 1 1 .i64 .i64 Tryd.underlying52 Tryd.underlying3 hi hz0 hz1 hz2 rfl (by decide) _ _ _ rfl ho k rfl hk0 h1 (by unfold maxLen; omega) (by omega) hBw ?_; intro v' w' hown' hgrow' _; obtain ⟨a9, c9, rfl⟩ := owns_form hown'; obtain ⟨x0, x1, x2⟩ := HE.out w' _ hgrow' hown'; clear hown' hgrow'))
    go_end0
    exact ⟨rfl, x2.out⟩
theorem nodeL_eq (kd nu sz : Int) (pa : Nat) (n : ByteArray) : nodeL ⟨kd, nu, (pa : Int), n, sz⟩ = bgL 1 1 ++ (bgL 2 pa ++ (bgL 1 n.size ++ (n.data.toList ++ z0 (32 - n.size)))) := by
  have e : bgL 1 1 = [1] := by decide
  rw [e]
  simp only [nodeL, Int.toNat_natCast, List.cons_append, List.nil_append]
/-- a row that was boxed, and the writer behind it -/
theorem Wr.box {w : World} {B p : Nat} {v : Value} {L : List UInt8} (h : Wr w B p v L) (cs : Array Value) (t : TypeId) (ht : t ≠ 5) :
    ∃ V, w.alloc (.cells cs t) = V ∧ Wr V B p v L ∧ Fr B p w V ∧ Far V B p w.heap.size ∧ V.heap[w.heap.size]? = some (.cells cs t (0, 0)) ∧ w.heap.size ≤ V.heap.size := by
  have hb : Below w.heap.size w (w.alloc (.cells cs t)) := (Below.refl _ _).alloc (Nat.le_refl _) _
  have hn := heap_new w (.cells cs t)
  refine ⟨_, rfl, h.below hb, Fr.of hb, ⟨heap_lt hn, ?_, .inr fun cs' e => ?_⟩, hn, hb.size⟩
  · have := h.lt
    omega
  · rw [hn] at e
    injection e with e
    injection e with _ e _
    exact ht e
set_option maxRecDepth 20000 in
set_option maxHeartbeats 1000000 in
theorem object_any (n t : ByteArray) (b q : Nat) (hn : n.size ≤ 1000) (ht : t.size ≤ 1000) (hb : b ≤ 4294967296) (hq : q ≤ 4294967296) (B p : Nat) (v : Value) (L : List UInt8) (hL : L.length ≤ 1099511000000) (w : World) (hW : Wr w B p v L) (hBw : B ≤ w.heap.size) :
    Calls Tryd.prog 42 #[.pointer (some ⟨p, 0, none⟩), .agg #[.string n, .string t, .int .i64 (b : Int), .int .i64 ((q : Int) - 1)]] w fun e w' => e = .returned (.tuple #[]) ∧ Wt w w' B p (L ++ objL ⟨n, t, (b : Int), (q : Int) - 1⟩) := by
  have EN : Hid (n.size = n.data.toList.length) := size_eq n
  have ET : Hid (t.size = t.data.toList.length) := size_eq t
  have HQ : Hid ((q : Int) = IntKind.i64.wrap ((q : Int) - 1 + 1)) := by show _ = _; rw [IntKind.wrap_i64]; omega
  obtain ⟨V, hV, hW0, hF0, hfar0, hC0, hz0⟩ := hW.box #[.string n, .string t, .int .i64 (b : Int), .int .i64 ((q : Int) - 1)] 46 (by decide)
  have hB0 : B ≤ V.heap.size := Nat.le_trans hBw hz0
  clear hW
  have y00 : V.cell? ⟨w.heap.size, 0, none⟩ = some (.string n) := (cell_of_heap hC0).trans rfl
  have y01 : V.cell? ⟨w.heap.size, 1, none⟩ = some (.string t) := (cell_of_heap hC0).trans rfl
  have y02 : V.cell? ⟨w.heap.size, 2, none⟩ = some (.int .i64 (b : Int)) := (cell_of_heap hC0).trans rfl
  have y03 : V.cell? ⟨w.heap.size, 3, none⟩ = some (.int .i64 ((q : Int) - 1)) := (cell_of_heap hC0).trans rfl
  have HC : Hid (∀ X, Fr B p V X → X.heap[w.heap.size]? = some (.cells #[.string n, .string t, .int .i64 (b : Int), .int .i64 ((q : Int) - 1)] 46 (0, 0)) ∧ B ≤ X.heap.size) := fun X hX => ⟨(hfar0.keep hX).trans hC0, Nat.le_trans hB0 hX.size⟩
  have HF : Hid (Fr B p w V) := hF0
  clear hfar0 hC0 hz0 hF0
  have K0 := text_any n B p v (L) (by omega) (by (try have := EN.out); (try have := ET.out); (try simp only [List.length_append, List.length_cons, List.length_nil, bgL_len, z0, List.length_replicate]); omega) V hW0 hB0
  go_enter Tryd.func42, Tryd.ntmps42
  go_wp2_with fail
  refine K0.mono ?_
  rintro e w1 ⟨rfl, hG1, v1, hW1⟩
  have hF1 : Fr B p V w1 := hG1
  obtain ⟨hC1, hB1⟩ := HC.out w1 hF1
  have y10 : w1.cell? ⟨w.heap.size, 0, none⟩ = some (.string n) := (cell_of_heap hC1).trans rfl
  have y11 : w1.cell? ⟨w.heap.size, 1, none⟩ = some (.string t) := (cell_of_heap hC1).trans rfl
  have y12 : w1.cell? ⟨w.heap.size, 2, none⟩ = some (.int .i64 (b : Int)) := (cell_of_heap hC1).trans rfl
  have y13 : w1.cell? ⟨w.heap.size, 3, none⟩ = some (.int .i64 ((q : Int) - 1)) := (cell_of_heap hC1).trans rfl
  clear K0 hG1 hC1
  clear y00 y01 y02 y03
  have K1 := text_any t B p v1 (L ++ n.data.toList) (by omega) (by (try have := EN.out); (try have := ET.out); (try simp only [List.length_append]); omega) w1 hW1 hB1
  go_wp2_with fail
  refine K1.mono ?_
  rintro e w2 ⟨rfl, hG2, v2, hW2⟩
  have hF2 : Fr B p V w2 := hF1.trans hG2
  obtain ⟨hC2, hB2⟩ := HC.out w2 hF2
  have y20 : w2.cell? ⟨w.heap.size, 0, none⟩ = some (.string n) := (cell_of_heap hC2).trans rfl
  have y21 : w2.cell? ⟨w.heap.size, 1, none⟩ = some (.string t) := (cell_of_heap hC2).trans rfl
  have y22 : w2.cell? ⟨w.heap.size, 2, none⟩ = some (.int .i64 (b : Int)) := (cell_of_heap hC2).trans rfl
  have y23 : w2.cell? ⟨w.heap.size, 3, none⟩ = some (.int .i64 ((q : Int) - 1)) := (cell_of_heap hC2).trans rfl
  clear K1 hG2 hC2
  clear y10 y11 y12 y13
  have K2 := number_any b 4 B p v2 (L ++ n.data.toList ++ t.data.toList) (by omega) (by omega) (by (try have := EN.out); (try have := ET.out); (try simp only [List.length_append]); omega) w2 hW2 hB2
  go_wp2_with fail
  refine K2.mono ?_
  rintro e w3 ⟨rfl, hG3, v3, hW3⟩
  have hF3 : Fr B p V w3 := hF2.trans hG3
  obtain ⟨hC3, hB3⟩ := HC.out w3 hF3
  have y30 : w3.cell? ⟨w.heap.size, 0, none⟩ = some (.string n) := (cell_of_heap hC3).trans rfl
  have y31 : w3.cell? ⟨w.heap.size, 1, none⟩ = some (.string t) := (cell_of_heap hC3).trans rfl
  have y32 : w3.cell? ⟨w.heap.size, 2, none⟩ = some (.int .i64 (b : Int)) := (cell_of_heap hC3).trans rfl
  have y33 : w3.cell? ⟨w.heap.size, 3, none⟩ = some (.int .i64 ((q : Int) - 1)) := (cell_of_heap hC3).trans rfl
  clear K2 hG3 hC3
  clear y20 y21 y22 y23
  have K3 := number_any q 4 B p v3 (L ++ n.data.toList ++ t.data.toList ++ bgL 4 b) (by omega) (by omega) (by (try have := EN.out); (try have := ET.out); (try simp only [List.length_append, bgL_len]); omega) w3 hW3 hB3
  go_wp2_with fail
  refine K3.mono ?_
  rintro e w4 ⟨rfl, hG4, v4, hW4⟩
  have hF4 : Fr B p V w4 := hF3.trans hG4
  obtain ⟨hC4, hB4⟩ := HC.out w4 hF4
  have y40 : w4.cell? ⟨w.heap.size, 0, none⟩ = some (.string n) := (cell_of_heap hC4).trans rfl
  have y41 : w4.cell? ⟨w.heap.size, 1, none⟩ = some (.string t) := (cell_of_heap hC4).trans rfl
  have y42 : w4.cell? ⟨w.heap.size, 2, none⟩ = some (.int .i64 (b : Int)) := (cell_of_heap hC4).trans rfl
  have y43 : w4.cell? ⟨w.heap.size, 3, none⟩ = some (.int .i64 ((q : Int) - 1)) := (cell_of_heap hC4).trans rfl
  clear K3 hG4 hC4
  clear y30 y31 y32 y33
  have HW : Hid (Wt w w4 B p (L ++ objL ⟨n, t, (b : Int), (q : Int) - 1⟩)) := by
    refine ⟨HF.out.trans hF4, v4, ?_⟩
    have := hW4
    simp only [List.append_assoc] at this
    rw [show objL ⟨n, t, (b : Int), (q : Int) - 1⟩ = n.data.toList ++ (t.data.toList ++ (bgL 4 b ++ bgL 4 q)) by simp only [objL]; rw [show ((q : Int) - 1 + 1).toNat = q by omega, Int.toNat_natCast]]
    exact this
  clear HC HF
  go_wp2
  go_end0
  exact ⟨rfl, HW.out⟩
set_option maxRecDepth 20000 in
set_option maxHeartbeats 1000000 in
theorem dir1_any (kd nu sz : Int) (pa : Nat) (n : ByteArray) (hk : ¬ kd = 0) (hn : n.size ≤ 32) (hp : pa ≤ 4294967296) (B p : Nat) (v : Value) (L : List UInt8) (hL : L.length ≤ 1099511000000) (w : World) (hW : Wr w B p v L) (hBw : B ≤ w.heap.size) :
    Calls Tryd.prog 39 #[.pointer (some ⟨p, 0, none⟩), .agg #[.int .i64 kd, .int .i64 nu, .int .i64 (pa : Int), .string n, .int .i64 sz]] w fun e w' => e = .returned (.tuple #[]) ∧ Wt w w' B p (L ++ nodeL ⟨kd, nu, (pa : Int), n, sz⟩) := by
  have EN : Hid (n.size = n.data.toList.length) := size_eq n
  have HZ : Hid (((32 - n.size : Nat) : Int) = 32 - (n.size : Int)) := by show _ = _; omega
  obtain ⟨V, hV, hW0, hF0, hfar0, hC0, hz0⟩ := hW.box #[.int .i64 kd, .int .i64 nu, .int .i64 (pa : Int), .string n, .int .i64 sz] 44 (by decide)
  have hB0 : B ≤ V.heap.size := Nat.le_trans hBw hz0
  clear hW
  have y00 : V.cell? ⟨w.heap.size, 0, none⟩ = some (.int .i64 kd) := (cell_of_heap hC0).trans rfl
  have y01 : V.cell? ⟨w.heap.size, 1, none⟩ = some (.int .i64 nu) := (cell_of_heap hC0).trans rfl
  have y02 : V.cell? ⟨w.heap.size, 2, none⟩ = some (.int .i64 (pa : Int)) := (cell_of_heap hC0).trans rfl
  have y03 : V.cell? ⟨w.heap.size, 3, none⟩ = some (.string n) := (cell_of_heap hC0).trans rfl
  have y04 : V.cell? ⟨w.heap.size, 4, none⟩ = some (.int .i64 sz) := (cell_of_heap hC0).trans rfl
  have HC : Hid (∀ X, Fr B p V X → X.heap[w.heap.size]? = some (.cells #[.int .i64 kd, .int .i64 nu, .int .i64 (pa : Int), .string n, .int .i64 sz] 44 (0, 0)) ∧ B ≤ X.heap.size) := fun X hX => ⟨(hfar0.keep hX).trans hC0, Nat.le_trans hB0 hX.size⟩
  have HF : Hid (Fr B p w V) := hF0
  clear hfar0 hC0 hz0 hF0
  have K0 := number_any 1 1 B p v (L) (by omega) (by omega) (by (try have := EN.out); (try have := ET.out); (try simp only [List.length_append, List.length_cons, List.length_nil, bgL_len, z0, List.length_replicate]); omega) V hW0 hB0
  go_enter Tryd.func39, Tryd.ntmps39
  go_wp2_with fail
  refine K0.mono ?_
  rintro e w1 ⟨rfl, hG1, v1, hW1⟩
  have hF1 : Fr B p V w1 := hG1
  obtain ⟨hC1, hB1⟩ := HC.out w1 hF1
  have y10 : w1.cell? ⟨w.heap.size, 0, none⟩ = some (.int .i64 kd) := (cell_of_heap hC1).trans rfl
  have y11 : w1.cell? ⟨w.heap.size, 1, none⟩ = some (.int .i64 nu) := (cell_of_heap hC1).trans rfl
  have y12 : w1.cell? ⟨w.heap.size, 2, none⟩ = some (.int .i64 (pa : Int)) := (cell_of_heap hC1).trans rfl
  have y13 : w1.cell? ⟨w.heap.size, 3, none⟩ = some (.string n) := (cell_of_heap hC1).trans rfl
  have y14 : w1.cell? ⟨w.heap.size, 4, none⟩ = some (.int .i64 sz) := (cell_of_heap hC1).trans rfl
  clear K0 hG1 hC1
  clear y00 y01 y02 y03 y04
  have K1 := number_any pa 2 B p v1 (L ++ bgL 1 1) (by omega) (by omega) (by (try have := EN.out); (try have := ET.out); (try simp only [List.length_append, bgL_len]); omega) w1 hW1 hB1
  go_wp2_with fail
  refine K1.mono ?_
  rintro e w2 ⟨rfl, hG2, v2, hW2⟩
  have hF2 : Fr B p V w2 := hF1.trans hG2
  obtain ⟨hC2, hB2⟩ := HC.out w2 hF2
  have y20 : w2.cell? ⟨w.heap.size, 0, none⟩ = some (.int .i64 kd) := (cell_of_heap hC2).trans rfl
  have y21 : w2.cell? ⟨w.heap.size, 1, none⟩ = some (.int .i64 nu) := (cell_of_heap hC2).trans rfl
  have y22 : w2.cell? ⟨w.heap.size, 2, none⟩ = some (.int .i64 (pa : Int)) := (cell_of_heap hC2).trans rfl
  have y23 : w2.cell? ⟨w.heap.size, 3, none⟩ = some (.string n) := (cell_of_heap hC2).trans rfl
  have y24 : w2.cell? ⟨w.heap.size, 4, none⟩ = some (.int .i64 sz) := (cell_of_heap hC2).trans rfl
  clear K1 hG2 hC2
  clear y10 y11 y12 y13 y14
  have K2 := number_any n.size 1 B p v2 (L ++ bgL 1 1 ++ bgL 2 pa) (by omega) (by omega) (by (try have := EN.out); (try have := ET.out); (try simp only [List.length_append, bgL_len]); omega) w2 hW2 hB2
  go_wp2_with fail
  refine K2.mono ?_
  rintro e w3 ⟨rfl, hG3, v3, hW3⟩
  have hF3 : Fr B p V w3 := hF2.trans hG3
  obtain ⟨hC3, hB3⟩ := HC.out w3 hF3
  have y30 : w3.cell? ⟨w.heap.size, 0, none⟩ = some (.int .i64 kd) := (cell_of_heap hC3).trans rfl
  have y31 : w3.cell? ⟨w.heap.size, 1, none⟩ = some (.int .i64 nu) := (cell_of_heap hC3).trans rfl
  have y32 : w3.cell? ⟨w.heap.size, 2, none⟩ = some (.int .i64 (pa : Int)) := (cell_of_heap hC3).trans rfl
  have y33 : w3.cell? ⟨w.heap.size, 3, none⟩ = some (.string n) := (cell_of_heap hC3).trans rfl
  have y34 : w3.cell? ⟨w.heap.size, 4, none⟩ = some (.int .i64 sz) := (cell_of_heap hC3).trans rfl
  clear K2 hG3 hC3
  clear y20 y21 y22 y23 y24
  have K3 := text_any n B p v3 (L ++ bgL 1 1 ++ bgL 2 pa ++ bgL 1 n.size) (by omega) (by (try have := EN.out); (try have := ET.out); (try simp only [List.length_append, bgL_len]); omega) w3 hW3 hB3
  go_wp2_with fail
  refine K3.mono ?_
  rintro e w4 ⟨rfl, hG4, v4, hW4⟩
  have hF4 : Fr B p V w4 := hF3.trans hG4
  obtain ⟨hC4, hB4⟩ := HC.out w4 hF4
  have y40 : w4.cell? ⟨w.heap.size, 0, none⟩ = some (.int .i64 kd) := (cell_of_heap hC4).trans rfl
  have y41 : w4.cell? ⟨w.heap.size, 1, none⟩ = some (.int .i64 nu) := (cell_of_heap hC4).trans rfl
  have y42 : w4.cell? ⟨w.heap.size, 2, none⟩ = some (.int .i64 (pa : Int)) := (cell_of_heap hC4).trans rfl
  have y43 : w4.cell? ⟨w.heap.size, 3, none⟩ = some (.string n) := (cell_of_heap hC4).trans rfl
  have y44 : w4.cell? ⟨w.heap.size, 4, none⟩ = some (.int .i64 sz) := (cell_of_heap hC4).trans rfl
  clear K3 hG4 hC4
  clear y30 y31 y32 y33 y34
  have K4 := zeros_any (32 - n.size) B p v4 (L ++ bgL 1 1 ++ bgL 2 pa ++ bgL 1 n.size ++ n.data.toList) (by omega) (by (try have := EN.out); (try have := ET.out); (try simp only [List.length_append, bgL_len]); omega) w4 hW4 hB4
  rw [HZ.out] at K4
  go_wp2_with fail
  refine K4.mono ?_
  rintro e w5 ⟨rfl, hG5, v5, hW5⟩
  have hF5 : Fr B p V w5 := hF4.trans hG5
  obtain ⟨hC5, hB5⟩ := HC.out w5 hF5
  have y50 : w5.cell? ⟨w.heap.size, 0, none⟩ = some (.int .i64 kd) := (cell_of_heap hC5).trans rfl
  have y51 : w5.cell? ⟨w.heap.size, 1, none⟩ = some (.int .i64 nu) := (cell_of_heap hC5).trans rfl
  have y52 : w5.cell? ⟨w.heap.size, 2, none⟩ = some (.int .i64 (pa : Int)) := (cell_of_heap hC5).trans rfl
  have y53 : w5.cell? ⟨w.heap.size, 3, none⟩ = some (.string n) := (cell_of_heap hC5).trans rfl
  have y54 : w5.cell? ⟨w.heap.size, 4, none⟩ = some (.int .i64 sz) := (cell_of_heap hC5).trans rfl
  clear K4 hG5 hC5
  clear y40 y41 y42 y43 y44
  have HW : Hid (Wt w w5 B p (L ++ nodeL ⟨kd, nu, (pa : Int), n, sz⟩)) := by
    refine ⟨HF.out.trans hF5, v5, ?_⟩
    have := hW5
    simp only [List.append_assoc] at this
    rw [nodeL_eq kd nu sz pa n]
    exact this
  clear HC HF
  go_wp2
  go_end0
  exact ⟨rfl, HW.out⟩
set_option maxRecDepth 20000 in
set_option maxHeartbeats 1000000 in
theorem dir0_any (nu sz pa : Int) (n : ByteArray)  (B p : Nat) (v : Value) (L : List UInt8) (hL : L.length ≤ 1099511000000) (w : World) (hW : Wr w B p v L) (hBw : B ≤ w.heap.size) :
    Calls Tryd.prog 39 #[.pointer (some ⟨p, 0, none⟩), .agg #[.int .i64 0, .int .i64 nu, .int .i64 pa, .string n, .int .i64 sz]] w fun e w' => e = .returned (.tuple #[]) ∧ Wt w w' B p (L ++ z0 36) := by
  obtain ⟨V, hV, hW0, hF0, hfar0, hC0, hz0⟩ := hW.box #[.int .i64 0, .int .i64 nu, .int .i64 pa, .string n, .int .i64 sz] 44 (by decide)
  have hB0 : B ≤ V.heap.size := Nat.le_trans hBw hz0
  clear hW
  have y00 : V.cell? ⟨w.heap.size, 0, none⟩ = some (.int .i64 0) := (cell_of_heap hC0).trans rfl
  have y01 : V.cell? ⟨w.heap.size, 1, none⟩ = some (.int .i64 nu) := (cell_of_heap hC0).trans rfl
  have y02 : V.cell? ⟨w.heap.size, 2, none⟩ = some (.int .i64 pa) := (cell_of_heap hC0).trans rfl
  have y03 : V.cell? ⟨w.heap.size, 3, none⟩ = some (.string n) := (cell_of_heap hC0).trans rfl
  have y04 : V.cell? ⟨w.heap.size, 4, none⟩ = some (.int .i64 sz) := (cell_of_heap hC0).trans rfl
  have HC : Hid (∀ X, Fr B p V X → X.heap[w.heap.size]? = some (.cells #[.int .i64 0, .int .i64 nu, .int .i64 pa, .string n, .int .i64 sz] 44 (0, 0)) ∧ B ≤ X.heap.size) := fun X hX => ⟨(hfar0.keep hX).trans hC0, Nat.le_trans hB0 hX.size⟩
  have HF : Hid (Fr B p w V) := hF0
  clear hfar0 hC0 hz0 hF0
  have K0 := zeros_any 36 B p v (L) (by omega) (by (try have := EN.out); (try have := ET.out); (try simp only [List.length_append, List.length_cons, List.length_nil, bgL_len, z0, List.length_replicate]); omega) V hW0 hB0
  go_enter Tryd.func39, Tryd.ntmps39
  go_wp2_with fail
  refine K0.mono ?_
  rintro e w1 ⟨rfl, hG1, v1, hW1⟩
  have hF1 : Fr B p V w1 := hG1
  obtain ⟨hC1, hB1⟩ := HC.out w1 hF1
  have y10 : w1.cell? ⟨w.heap.size, 0, none⟩ = some (.int .i64 0) := (cell_of_heap hC1).trans rfl
  have y11 : w1.cell? ⟨w.heap.size, 1, none⟩ = some (.int .i64 nu) := (cell_of_heap hC1).trans rfl
  have y12 : w1.cell? ⟨w.heap.size, 2, none⟩ = some (.int .i64 pa) := (cell_of_heap hC1).trans rfl
  have y13 : w1.cell? ⟨w.heap.size, 3, none⟩ = some (.string n) := (cell_of_heap hC1).trans rfl
  have y14 : w1.cell? ⟨w.heap.size, 4, none⟩ = some (.int .i64 sz) := (cell_of_heap hC1).trans rfl
  clear K0 hG1 hC1
  clear y00 y01 y02 y03 y04
  have HW : Hid (Wt w w1 B p (L ++ z0 36)) := by
    refine ⟨HF.out.trans hF1, v1, ?_⟩
    have := hW1

    exact this
  clear HC HF
  go_wp2
  exact bodyPost_ret (results_none rfl _ _ _) rfl ⟨rfl, HW.out⟩
theorem dir_any (n : Nd) (hn : n.nm.size ≤ 32) (hp : 0 ≤ n.pa ∧ n.pa ≤ 4294967296) (B p : Nat) (v : Value) (L : List UInt8) (hL : L.length ≤ 1099511000000) (w : World) (hW : Wr w B p v L) (hBw : B ≤ w.heap.size) :
    Calls Tryd.prog 39 #[.pointer (some ⟨p, 0, none⟩), ndV n] w fun e w' => e = .returned (.tuple #[]) ∧ Wt w w' B p (L ++ dirL n) := by
  obtain ⟨kd, nu, pa, nm, sz⟩ := n
  simp only at hn hp
  unfold ndV dirL
  simp only
  by_cases h : kd = 0
  · subst h
    rw [if_pos rfl]
    exact dir0_any nu sz pa nm B p v L hL w hW hBw
  · rw [if_neg h]
    obtain ⟨q, rfl⟩ : ∃ q : Nat, pa = (q : Int) := ⟨pa.toNat, by omega⟩
    exact dir1_any kd nu sz q nm h hn (by omega) B p v L hL w hW hBw
set_option maxRecDepth 20000 in
set_option maxHeartbeats 1000000 in
theorem file0_any (kd nu pa : Int) (sz : Nat) (n : ByteArray) (hn : n.size ≤ 32) (hp : 0 ≤ pa ∧ pa ≤ 4294967296) (hs : sz ≤ 4294967296) (B p : Nat) (v : Value) (L : List UInt8) (hL : L.length ≤ 1099511000000) (w : World) (hW : Wr w B p v L) (hBw : B ≤ w.heap.size) :
    Calls Tryd.prog 40 #[.pointer (some ⟨p, 0, none⟩), .agg #[.int .i64 kd, .int .i64 nu, .int .i64 pa, .string n, .int .i64 (sz : Int)]] w fun e w' => e = .returned (.tuple #[]) ∧ Wt w w' B p (L ++ filL ⟨kd, nu, pa, n, (sz : Int)⟩) := by
  have HD : (dirL ⟨kd, nu, pa, n, (sz : Int)⟩).length = 36 := dirL_len hn
  obtain ⟨V, hV, hW0, hF0, hfar0, hC0, hz0⟩ := hW.box #[.int .i64 kd, .int .i64 nu, .int .i64 pa, .string n, .int .i64 (sz : Int)] 44 (by decide)
  have hB0 : B ≤ V.heap.size := Nat.le_trans hBw hz0
  clear hW
  have y00 : V.cell? ⟨w.heap.size, 0, none⟩ = some (.int .i64 kd) := (cell_of_heap hC0).trans rfl
  have y01 : V.cell? ⟨w.heap.size, 1, none⟩ = some (.int .i64 nu) := (cell_of_heap hC0).trans rfl
  have y02 : V.cell? ⟨w.heap.size, 2, none⟩ = some (.int .i64 pa) := (cell_of_heap hC0).trans rfl
  have y03 : V.cell? ⟨w.heap.size, 3, none⟩ = some (.string n) := (cell_of_heap hC0).trans rfl
  have y04 : V.cell? ⟨w.heap.size, 4, none⟩ = some (.int .i64 (sz : Int)) := (cell_of_heap hC0).trans rfl
  have HC : Hid (∀ X, Fr B p V X → X.heap[w.heap.size]? = some (.cells #[.int .i64 kd, .int .i64 nu, .int .i64 pa, .string n, .int .i64 (sz : Int)] 44 (0, 0)) ∧ B ≤ X.heap.size) := fun X hX => ⟨(hfar0.keep hX).trans hC0, Nat.le_trans hB0 hX.size⟩
  have HF : Hid (Fr B p w V) := hF0
  clear hfar0 hC0 hz0 hF0
  have K0 := dir_any ⟨kd, nu, pa, n, (sz : Int)⟩ hn hp B p v (L) (by omega) V hW0 hB0
  go_enter Tryd.func40, Tryd.ntmps40
  go_wp2_with fail
  refine K0.mono ?_
  rintro e w1 ⟨rfl, hG1, v1, hW1⟩
  have hF1 : Fr B p V w1 := hG1
  obtain ⟨hC1, hB1⟩ := HC.out w1 hF1
  have y10 : w1.cell? ⟨w.heap.size, 0, none⟩ = some (.int .i64 kd) := (cell_of_heap hC1).trans rfl
  have y11 : w1.cell? ⟨w.heap.size, 1, none⟩ = some (.int .i64 nu) := (cell_of_heap hC1).trans rfl
  have y12 : w1.cell? ⟨w.heap.size, 2, none⟩ = some (.int .i64 pa) := (cell_of_heap hC1).trans rfl
  have y13 : w1.cell? ⟨w.heap.size, 3, none⟩ = some (.string n) := (cell_of_heap hC1).trans rfl
  have y14 : w1.cell? ⟨w.heap.size, 4, none⟩ = some (.int .i64 (sz : Int)) := (cell_of_heap hC1).trans rfl
  clear K0 hG1 hC1
  clear y00 y01 y02 y03 y04
  have K1 := number_any sz 4 B p v1 (L ++ dirL ⟨kd, nu, pa, n, (sz : Int)⟩) (by omega) (by omega) (by rw [List.length_append, HD]; omega) w1 hW1 hB1
  go_wp2_with fail
  refine K1.mono ?_
  rintro e w2 ⟨rfl, hG2, v2, hW2⟩
  have hF2 : Fr B p V w2 := hF1.trans hG2
  obtain ⟨hC2, hB2⟩ := HC.out w2 hF2
  have y20 : w2.cell? ⟨w.heap.size, 0, none⟩ = some (.int .i64 kd) := (cell_of_heap hC2).trans rfl
  have y21 : w2.cell? ⟨w.heap.size, 1, none⟩ = some (.int .i64 nu) := (cell_of_heap hC2).trans rfl
  have y22 : w2.cell? ⟨w.heap.size, 2, none⟩ = some (.int .i64 pa) := (cell_of_heap hC2).trans rfl
  have y23 : w2.cell? ⟨w.heap.size, 3, none⟩ = some (.string n) := (cell_of_heap hC2).trans rfl
  have y24 : w2.cell? ⟨w.heap.size, 4, none⟩ = some (.int .i64 (sz : Int)) := (cell_of_heap hC2).trans rfl
  clear K1 hG2 hC2
  clear y10 y11 y12 y13 y14
  have HW : Hid (Wt w w2 B p (L ++ filL ⟨kd, nu, pa, n, (sz : Int)⟩)) := by
    refine ⟨HF.out.trans hF2, v2, ?_⟩
    have := hW2
    simp only [List.append_assoc] at this

    exact this
  clear HC HF
  go_wp2
  go_end0
  exact ⟨rfl, HW.out⟩
theorem file_any (n : Nd) (hn : n.nm.size ≤ 32) (hp : 0 ≤ n.pa ∧ n.pa ≤ 4294967296) (hs : 0 ≤ n.sz ∧ n.sz ≤ 4294967296) (B p : Nat) (v : Value) (L : List UInt8) (hL : L.length ≤ 1099511000000) (w : World) (hW : Wr w B p v L) (hBw : B ≤ w.heap.size) :
    Calls Tryd.prog 40 #[.pointer (some ⟨p, 0, none⟩), ndV n] w fun e w' => e = .returned (.tuple #[]) ∧ Wt w w' B p (L ++ filL n) := by
  obtain ⟨kd, nu, pa, nm, sz⟩ := n
  simp only at hn hp hs
  obtain ⟨q, rfl⟩ : ∃ q : Nat, sz = (q : Int) := ⟨sz.toNat, by omega⟩
  exact file0_any kd nu pa q nm hn hp (by omega) B p v L hL w hW hBw
theorem obj_any (o : Ob) (hn : o.nm.size ≤ 1000) (ht : o.tg.size ≤ 1000) (hb : 0 ≤ o.bk ∧ o.bk ≤ 4294967296) (hq : -1 ≤ o.ow ∧ o.ow ≤ 4294960000) (B p : Nat) (v : Value) (L : List UInt8) (hL : L.length ≤ 1099511000000) (w : World) (hW : Wr w B p v L) (hBw : B ≤ w.heap.size) :
    Calls Tryd.prog 42 #[.pointer (some ⟨p, 0, none⟩), obV o] w fun e w' => e = .returned (.tuple #[]) ∧ Wt w w' B p (L ++ objL o) := by
  obtain ⟨nm, tg, bk, ow⟩ := o
  simp only at hn ht hb hq
  obtain ⟨b, rfl⟩ : ∃ b : Nat, bk = (b : Int) := ⟨bk.toNat, by omega⟩
  obtain ⟨q, rfl⟩ : ∃ q : Nat, ow = (q : Int) - 1 := ⟨(ow + 1).toNat, by omega⟩
  exact object_any nm tg b q hn ht (by omega) (by omega) B p v L hL w hW hBw
theorem queued_any (q : Int) (hq : 0 ≤ q ∧ q ≤ 4294960000) (B p : Nat) (v : Value) (L : List UInt8) (hL : L.length ≤ 1099511000000) (w : World) (hW : Wr w B p v L) (hBw : B ≤ w.heap.size) :
    Calls Tryd.prog 45 #[.pointer (some ⟨p, 0, none⟩), .int .i64 q] w fun e w' => e = .returned (.tuple #[]) ∧ Wt w w' B p (L ++ queL q) := by
  obtain ⟨b, rfl⟩ : ∃ b : Nat, q = (b : Int) := ⟨q.toNat, by omega⟩
  have K := number_any b 4 B p v L (by omega) (by omega) (by omega) w hW hBw
  rw [show queL (b : Int) = bgL 4 b by simp [queL]]
  clear hW
  go_enter Tryd.func45, Tryd.ntmps45
  go_wp2_with fail
  refine K.mono ?_
  rintro e w1 ⟨rfl, hT⟩
  have HT : Hid (Wt w w1 B p (L ++ bgL 4 b)) := hT
  clear hT
  go_wp2
  go_end0
  exact ⟨rfl, HT.out⟩
end Go.Proofs.YtbdgbefjmfcgcaaDoor.Ix

namespace Go.Proofs.YtbdgbefjmfcgcaaDoor.Ix
open Go.RowKit Go.Lib Go.Deep

theorem flat_take_len {α : Type} (f : α → List UInt8) (A : List α) (i : Nat) : ((A.take i).flatMap f).length ≤ (A.flatMap f).length := by
  conv => rhs; rw [← List.take_append_drop i A, List.flatMap_append, List.length_append]
  omega
theorem flat_take_succ {α : Type} (f : α → List UInt8) {A : List α} {i : Nat} {x : α} (h : A[i]? = some x) : (A.take (i + 1)).flatMap f = (A.take i).flatMap f ++ f x := by
  rw [List.take_add_one, h, List.flatMap_append]
  simp
set_option maxRecDepth 20000 in
set_option maxHeartbeats 1000000 in
theorem wrows_dir (A : List Nd) (hA : ∀ x ∈ A, x.nm.size ≤ 32 ∧ (0 ≤ x.pa ∧ x.pa ≤ 4294967296)) (B p : Nat) (v : Value) (L : List UInt8) (hL : L.length + (A.flatMap dirL).length ≤ 1099511000000) (w : World) (av : Option Addr) (n c : Nat) (hS : See w 5 (.slice av n c) n (ndsC A)) (hn : A.length = n) (hn2 : n ≤ 1099511000000) (hfar : ∀ b off, av = some ⟨b, off, none⟩ → Far w B p b) (hW : Wr w B p v L) (hBw : B ≤ w.heap.size) :
    Calls Tryd.prog 38 #[.pointer (some ⟨p, 0, none⟩), .slice av n c, .func (.func 39) #[] #[]] w fun e w' => e = .returned (.tuple #[]) ∧ Wt w w' B p (L ++ A.flatMap dirL) := by
  go_enter Tryd.func38, Tryd.ntmps38
  go_wp2_with fail
  go_loopg [10] n (fun gk iv wr => ∃ i : Nat, i + gk = n ∧ iv = .int .i64 (i : Int) ∧ Hid (Wt w wr B p (L ++ (A.take i).flatMap dirL)))
  case atStart => exact ⟨0, by omega, rfl, ⟨Fr.refl _ _ _, v, by rw [List.take_zero, List.flatMap_nil, List.append_nil]; exact hW⟩⟩
  case round =>
    obtain ⟨i, hik, rfl, hT⟩ := hrel
    by_cases hlt : i < n
    · have hltI : (i : Int) < (n : Int) := by omega
      obtain ⟨hf, v1, hW1⟩ := hT.out
      obtain ⟨x, hx⟩ : ∃ x, A[i]? = some x := ⟨_, List.getElem?_eq_getElem (by omega)⟩
      have hP := hA x (List.mem_of_getElem? hx)
      have hS1 := hS.far (B := B) (p := p) (fun a' n' c' b off e1 e2 => by injection e1 with e1 _ _; subst e1; exact hfar b off e2) hf
      have hB1 : B ≤ wr.heap.size := Nat.le_trans hBw hf.size
      have hl1 : (L ++ (A.take i).flatMap dirL).length ≤ 1099511000000 := by
        have := flat_take_len dirL A i
        rw [List.length_append]
        omega
      obtain ⟨b, off, rfl, hbl, hc⟩ := hS1.row ndC_len (by decide) hx
      obtain ⟨kd, nu, pa, nm, sz⟩ := x
      simp only at hP
      have c0 : wr.cell? ⟨b, off + i * 5, none⟩ = some (.int .i64 kd) := hc 0 _ rfl
      have c1 : wr.cell? ⟨b, off + i * 5 + 1, none⟩ = some (.int .i64 nu) := hc 1 _ rfl
      have c2 : wr.cell? ⟨b, off + i * 5 + 2, none⟩ = some (.int .i64 pa) := hc 2 _ rfl
      have c3 : wr.cell? ⟨b, off + i * 5 + 3, none⟩ = some (.string nm) := hc 3 _ rfl
      have c4 : wr.cell? ⟨b, off + i * 5 + 4, none⟩ = some (.int .i64 sz) := hc 4 _ rfl
      obtain ⟨V, hV, hW2, hF2, hfar2, hC2, hz2⟩ := hW1.box #[.int .i64 kd, .int .i64 nu, .int .i64 pa, .string nm, .int .i64 sz] 44 (by decide)
      have d0 : V.cell? ⟨wr.heap.size, 0, none⟩ = some (.int .i64 kd) := (cell_of_heap hC2).trans rfl
      have d1 : V.cell? ⟨wr.heap.size, 1, none⟩ = some (.int .i64 nu) := (cell_of_heap hC2).trans rfl
      have d2 : V.cell? ⟨wr.heap.size, 2, none⟩ = some (.int .i64 pa) := (cell_of_heap hC2).trans rfl
      have d3 : V.cell? ⟨wr.heap.size, 3, none⟩ = some (.string nm) := (cell_of_heap hC2).trans rfl
      have d4 : V.cell? ⟨wr.heap.size, 4, none⟩ = some (.int .i64 sz) := (cell_of_heap hC2).trans rfl
      have K := dir_any ⟨kd, nu, pa, nm, sz⟩ hP.1 hP.2 B p v1 _ hl1 V hW2 (Nat.le_trans hB1 hz2)
      have HE : Hid (∀ w', Wt V w' B p ((L ++ (A.take i).flatMap dirL) ++ dirL ⟨kd, nu, pa, nm, sz⟩) → Wt w w' B p (L ++ (A.take (i + 1)).flatMap dirL)) := fun w' h => by
        refine Wt.ahead (hf.trans hF2) ?_
        rw [flat_take_succ dirL hx, ← List.append_assoc]
        exact h
      clear hW1 hW2 hf hF2 hfar2 hC2 hz2 hc hS1 hT hx hP
      go_wp2_with fail
      refine K.mono ?_
      rintro e w2 ⟨rfl, hT2⟩
      have HT : Hid _ := HE.out w2 hT2
      clear hT2 HE K
      go_wp2
      go_roundg (gk - 1)
      case measure => omega
      case rel => exact ⟨i + 1, by omega, rfl, HT⟩
    · obtain rfl : i = n := by omega
      have hltI : ¬ (i : Int) < (i : Int) := by omega
      have HT : Hid (Wt w wr B p (L ++ A.flatMap dirL)) := by
        have := hT.out
        rw [List.take_of_length_le (by omega)] at this
        exact this
      go_wp2
      go_end0
      exact ⟨rfl, HT.out⟩
set_option maxRecDepth 20000 in
set_option maxHeartbeats 1000000 in
theorem wrows_file (A : List Nd) (hA : ∀ x ∈ A, x.nm.size ≤ 32 ∧ (0 ≤ x.pa ∧ x.pa ≤ 4294967296) ∧ (0 ≤ x.sz ∧ x.sz ≤ 4294967296)) (B p : Nat) (v : Value) (L : List UInt8) (hL : L.length + (A.flatMap filL).length ≤ 1099511000000) (w : World) (av : Option Addr) (n c : Nat) (hS : See w 5 (.slice av n c) n (ndsC A)) (hn : A.length = n) (hn2 : n ≤ 1099511000000) (hfar : ∀ b off, av = some ⟨b, off, none⟩ → Far w B p b) (hW : Wr w B p v L) (hBw : B ≤ w.heap.size) :
    Calls Tryd.prog 38 #[.pointer (some ⟨p, 0, none⟩), .slice av n c, .func (.func 40) #[] #[]] w fun e w' => e = .returned (.tuple #[]) ∧ Wt w w' B p (L ++ A.flatMap filL) := by
  go_enter Tryd.func38, Tryd.ntmps38
  go_wp2_with fail
  go_loopg [10] n (fun gk iv wr => ∃ i : Nat, i + gk = n ∧ iv = .int .i64 (i : Int) ∧ Hid (Wt w wr B p (L ++ (A.take i).flatMap filL)))
  case atStart => exact ⟨0, by omega, rfl, ⟨Fr.refl _ _ _, v, by rw [List.take_zero, List.flatMap_nil, List.append_nil]; exact hW⟩⟩
  case round =>
    obtain ⟨i, hik, rfl, hT⟩ := hrel
    by_cases hlt : i < n
    · have hltI : (i : Int) < (n : Int) := by omega
      obtain ⟨hf, v1, hW1⟩ := hT.out
      obtain ⟨x, hx⟩ : ∃ x, A[i]? = some x := ⟨_, List.getElem?_eq_getElem (by omega)⟩
      have hP := hA x (List.mem_of_getElem? hx)
      have hS1 := hS.far (B := B) (p := p) (fun a' n' c' b off e1 e2 => by injection e1 with e1 _ _; subst e1; exact hfar b off e2) hf
      have hB1 : B ≤ wr.heap.size := Nat.le_trans hBw hf.size
      have hl1 : (L ++ (A.take i).flatMap filL).length ≤ 1099511000000 := by
        have := flat_take_len filL A i
        rw [List.length_append]
        omega
      obtain ⟨b, off, rfl, hbl, hc⟩ := hS1.row ndC_len (by decide) hx
      obtain ⟨kd, nu, pa, nm, sz⟩ := x
      simp only at hP
      have c0 : wr.cell? ⟨b, off + i * 5, none⟩ = some (.int .i64 kd) := hc 0 _ rfl
      have c1 : wr.cell? ⟨b, off + i * 5 + 1, none⟩ = some (.int .i64 nu) := hc 1 _ rfl
      have c2 : wr.cell? ⟨b, off + i * 5 + 2, none⟩ = some (.int .i64 pa) := hc 2 _ rfl
      have c3 : wr.cell? ⟨b, off + i * 5 + 3, none⟩ = some (.string nm) := hc 3 _ rfl
      have c4 : wr.cell? ⟨b, off + i * 5 + 4, none⟩ = some (.int .i64 sz) := hc 4 _ rfl
      obtain ⟨V, hV, hW2, hF2, hfar2, hC2, hz2⟩ := hW1.box #[.int .i64 kd, .int .i64 nu, .int .i64 pa, .string nm, .int .i64 sz] 44 (by decide)
      have d0 : V.cell? ⟨wr.heap.size, 0, none⟩ = some (.int .i64 kd) := (cell_of_heap hC2).trans rfl
      have d1 : V.cell? ⟨wr.heap.size, 1, none⟩ = some (.int .i64 nu) := (cell_of_heap hC2).trans rfl
      have d2 : V.cell? ⟨wr.heap.size, 2, none⟩ = some (.int .i64 pa) := (cell_of_heap hC2).trans rfl
      have d3 : V.cell? ⟨wr.heap.size, 3, none⟩ = some (.string nm) := (cell_of_heap hC2).trans rfl
      have d4 : V.cell? ⟨wr.heap.size, 4, none⟩ = some (.int .i64 sz) := (cell_of_heap hC2).trans rfl
      have K := file_any ⟨kd, nu, pa, nm, sz⟩ hP.1 hP.2.1 hP.2.2 B p v1 _ hl1 V hW2 (Nat.le_trans hB1 hz2)
      have HE : Hid (∀ w', Wt V w' B p ((L ++ (A.take i).flatMap filL) ++ filL ⟨kd, nu, pa, nm, sz⟩) → Wt w w' B p (L ++ (A.take (i + 1)).flatMap filL)) := fun w' h => by
        refine Wt.ahead (hf.trans hF2) ?_
        rw [flat_take_succ filL hx, ← List.append_assoc]
        exact h
      clear hW1 hW2 hf hF2 hfar2 hC2 hz2 hc hS1 hT hx hP
      go_wp2_with fail
      refine K.mono ?_
      rintro e w2 ⟨rfl, hT2⟩
      have HT : Hid _ := HE.out w2 hT2
      clear hT2 HE K
      go_wp2
      go_roundg (gk - 1)
      case measure => omega
      case rel => exact ⟨i + 1, by omega, rfl, HT⟩
    · obtain rfl : i = n := by omega
      have hltI : ¬ (i : Int) < (i : Int) := by omega
      have HT : Hid (Wt w wr B p (L ++ A.flatMap filL)) := by
        have := hT.out
        rw [List.take_of_length_le (by omega)] at this
        exact this
      go_wp2
      go_end0
      exact ⟨rfl, HT.out⟩
set_option maxRecDepth 20000 in
set_option maxHeartbeats 1000000 in
theorem wrows_obj (A : List Ob) (hA : ∀ x ∈ A, x.nm.size ≤ 1000 ∧ x.tg.size ≤ 1000 ∧ (0 ≤ x.bk ∧ x.bk ≤ 4294967296) ∧ (-1 ≤ x.ow ∧ x.ow ≤ 4294960000)) (B p : Nat) (v : Value) (L : List UInt8) (hL : L.length + (A.flatMap objL).length ≤ 1099511000000) (w : World) (av : Option Addr) (n c : Nat) (hS : See w 4 (.slice av n c) n (obsC A)) (hn : A.length = n) (hn2 : n ≤ 1099511000000) (hfar : ∀ b off, av = some ⟨b, off, none⟩ → Far w B p b) (hW : Wr w B p v L) (hBw : B ≤ w.heap.size) :
    Calls Tryd.prog 41 #[.pointer (some ⟨p, 0, none⟩), .slice av n c, .func (.func 42) #[] #[]] w fun e w' => e = .returned (.tuple #[]) ∧ Wt w w' B p (L ++ A.flatMap objL) := by
  go_enter Tryd.func41, Tryd.ntmps41
  go_wp2_with fail
  go_loopg [10] n (fun gk iv wr => ∃ i : Nat, i + gk = n ∧ iv = .int .i64 (i : Int) ∧ Hid (Wt w wr B p (L ++ (A.take i).flatMap objL)))
  case atStart => exact ⟨0, by omega, rfl, ⟨Fr.refl _ _ _, v, by rw [List.take_zero, List.flatMap_nil, List.append_nil]; exact hW⟩⟩
  case round =>
    obtain ⟨i, hik, rfl, hT⟩ := hrel
    by_cases hlt : i < n
    · have hltI : (i : Int) < (n : Int) := by omega
      obtain ⟨hf, v1, hW1⟩ := hT.out
      obtain ⟨x, hx⟩ : ∃ x, A[i]? = some x := ⟨_, List.getElem?_eq_getElem (by omega)⟩
      have hP := hA x (List.mem_of_getElem? hx)
      have hS1 := hS.far (B := B) (p := p) (fun a' n' c' b off e1 e2 => by injection e1 with e1 _ _; subst e1; exact hfar b off e2) hf
      have hB1 : B ≤ wr.heap.size := Nat.le_trans hBw hf.size
      have hl1 : (L ++ (A.take i).flatMap objL).length ≤ 1099511000000 := by
        have := flat_take_len objL A i
        rw [List.length_append]
        omega
      obtain ⟨b, off, rfl, hbl, hc⟩ := hS1.row obC_len (by decide) hx
      obtain ⟨nm, tg, bk, ow⟩ := x
      simp only at hP
      have c0 : wr.cell? ⟨b, off + i * 4, none⟩ = some (.string nm) := hc 0 _ rfl
      have c1 : wr.cell? ⟨b, off + i * 4 + 1, none⟩ = some (.string tg) := hc 1 _ rfl
      have c2 : wr.cell? ⟨b, off + i * 4 + 2, none⟩ = some (.int .i64 bk) := hc 2 _ rfl
      have c3 : wr.cell? ⟨b, off + i * 4 + 3, none⟩ = some (.int .i64 ow) := hc 3 _ rfl
      obtain ⟨V, hV, hW2, hF2, hfar2, hC2, hz2⟩ := hW1.box #[.string nm, .string tg, .int .i64 bk, .int .i64 ow] 46 (by decide)
      have d0 : V.cell? ⟨wr.heap.size, 0, none⟩ = some (.string nm) := (cell_of_heap hC2).trans rfl
      have d1 : V.cell? ⟨wr.heap.size, 1, none⟩ = some (.string tg) := (cell_of_heap hC2).trans rfl
      have d2 : V.cell? ⟨wr.heap.size, 2, none⟩ = some (.int .i64 bk) := (cell_of_heap hC2).trans rfl
      have d3 : V.cell? ⟨wr.heap.size, 3, none⟩ = some (.int .i64 ow) := (cell_of_heap hC2).trans rfl
      have K := obj_any ⟨nm, tg, bk, ow⟩ hP.1 hP.2.1 hP.2.2.1 hP.2.2.2 B p v1 _ hl1 V hW2 (Nat.le_trans hB1 hz2)
      have HE : Hid (∀ w', Wt V w' B p ((L ++ (A.take i).flatMap objL) ++ objL ⟨nm, tg, bk, ow⟩) → Wt w w' B p (L ++ (A.take (i + 1)).flatMap objL)) := fun w' h => by
        refine Wt.ahead (hf.trans hF2) ?_
        rw [flat_take_succ objL hx, ← List.append_assoc]
        exact h
      clear hW1 hW2 hf hF2 hfar2 hC2 hz2 hc hS1 hT hx hP
      go_wp2_with fail
      refine K.mono ?_
      rintro e w2 ⟨rfl, hT2⟩
      have HT : Hid _ := HE.out w2 hT2
      clear hT2 HE K
      go_wp2
      go_roundg (gk - 1)
      case measure => omega
      case rel => exact ⟨i + 1, by omega, rfl, HT⟩
    · obtain rfl : i = n := by omega
      have hltI : ¬ (i : Int) < (i : Int) := by omega
      have HT : Hid (Wt w wr B p (L ++ A.flatMap objL)) := by
        have := hT.out
        rw [List.take_of_length_le (by omega)] at this
        exact this
      go_wp2
      go_end0
      exact ⟨rfl, HT.out⟩
set_option maxRecDepth 20000 in
set_option maxHeartbeats 1000000 in
theorem wrows_int (A : List Int) (hA : ∀ x ∈ A, 0 ≤ x ∧ x ≤ 4294960000) (B p : Nat) (v : Value) (L : List UInt8) (hL : L.length + (A.flatMap queL).length ≤ 1099511000000) (w : World) (av : Option Addr) (n c : Nat) (hS : See w 1 (.slice av n c) n (zsC A)) (hn : A.length = n) (hn2 : n ≤ 1099511000000) (hfar : ∀ b off, av = some ⟨b, off, none⟩ → Far w B p b) (hW : Wr w B p v L) (hBw : B ≤ w.heap.size) :
    Calls Tryd.prog 43 #[.pointer (some ⟨p, 0, none⟩), .slice av n c, .func (.func 45) #[] #[]] w fun e w' => e = .returned (.tuple #[]) ∧ Wt w w' B p (L ++ A.flatMap queL) := by
  go_enter Tryd.func43, Tryd.ntmps43
  go_wp2_with fail
  go_loopg [10] n (fun gk iv wr => ∃ i : Nat, i + gk = n ∧ iv = .int .i64 (i : Int) ∧ Hid (Wt w wr B p (L ++ (A.take i).flatMap queL)))
  case atStart => exact ⟨0, by omega, rfl, ⟨Fr.refl _ _ _, v, by rw [List.take_zero, List.flatMap_nil, List.append_nil]; exact hW⟩⟩
  case round =>
    obtain ⟨i, hik, rfl, hT⟩ := hrel
    by_cases hlt : i < n
    · have hltI : (i : Int) < (n : Int) := by omega
      obtain ⟨hf, v1, hW1⟩ := hT.out
      obtain ⟨x, hx⟩ : ∃ x, A[i]? = some x := ⟨_, List.getElem?_eq_getElem (by omega)⟩
      have hP := hA x (List.mem_of_getElem? hx)
      have hS1 := hS.far (B := B) (p := p) (fun a' n' c' b off e1 e2 => by injection e1 with e1 _ _; subst e1; exact hfar b off e2) hf
      have hB1 : B ≤ wr.heap.size := Nat.le_trans hBw hf.size
      have hl1 : (L ++ (A.take i).flatMap queL).length ≤ 1099511000000 := by
        have := flat_take_len queL A i
        rw [List.length_append]
        omega
      obtain ⟨b, off, rfl, hbl, c0⟩ := hS1.z hx
      have K := queued_any x hP B p v1 _ hl1 wr hW1 hB1
      have HE : Hid (∀ w', Wt wr w' B p ((L ++ (A.take i).flatMap queL) ++ queL x) → Wt w w' B p (L ++ (A.take (i + 1)).flatMap queL)) := fun w' h => by
        refine Wt.ahead hf ?_
        rw [flat_take_succ queL hx, ← List.append_assoc]
        exact h
      clear hW1 hf hS1 hT hx hP
      go_wp2_with fail
      refine K.mono ?_
      rintro e w2 ⟨rfl, hT2⟩
      have HT : Hid _ := HE.out w2 hT2
      clear hT2 HE K
      go_wp2
      go_roundg (gk - 1)
      case measure => omega
      case rel => exact ⟨i + 1, by omega, rfl, HT⟩
    · obtain rfl : i = n := by omega
      have hltI : ¬ (i : Int) < (i : Int) := by omega
      have HT : Hid (Wt w wr B p (L ++ A.flatMap queL)) := by
        have := hT.out
        rw [List.take_of_length_le (by omega)] at this
        exact this
      go_wp2
      go_end0
      exact ⟨rfl, HT.out⟩
end Go.Proofs.YtbdgbefjmfcgcaaDoor.Ix
