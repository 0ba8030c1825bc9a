import Derived.Test.YtadhfhfnhcphiaaDoorScI
import Derived.Deep.RegionWith
import Derived.Deep.RegionHeld
namespace Go.Proofs.YtadhfhfnhcphiaaDoor.Sc
open Go.RowKit Go.Lib Go.Deep

theorem RowF.mono {w : World} {B B' : Nat} {e : TypeId} {v : Value} {xs : List Value} (h : RowF w B e v xs) (hB : B' ≤ B) : RowF w B' e v xs := by
  obtain ⟨g, cap, cur, fr, r1, r2, r3⟩ := h
  exact ⟨g, cap, cur, fr, r1, Nat.le_trans hB r2, r3⟩
theorem RowF.below {w w' : World} {B : Nat} {e : TypeId} {v : Value} {xs : List Value} (h : RowF w B e v xs) (hb : Below w.heap.size w w') : RowF w' B e v xs := by
  obtain ⟨g, cap, cur, fr, r1, r2, r3, r4, r5⟩ := h
  have hk := hb.block _ (heap_lt r3)
  exact ⟨g, cap, cur, fr, r1, r2, hk.trans r3, fun j hj => (World.frozen?_of_block hk).trans (r4 j hj), r5⟩

theorem sums (n0 n1 n2 n3 d : List UInt8) (h0 : n0.length ≤ 20) (h1 : n1.length ≤ 20) (h2 : n2.length ≤ 20) (h3 : n3.length ≤ 20) (hd : d.length ≤ 8388608) :
    ∃ y29 y30 y34 y35 y39 y40 y44 y45 y49 : ByteArray,
      (({ data := #[114, 101, 115, 117, 108, 116, 32] } : ByteArray) ++ str n0 = y29 ∧ ¬ 9223372036854775807 < 7 + (str n0).size) ∧
      (y29 ++ ({ data := #[32] } : ByteArray) = y30 ∧ ¬ 9223372036854775807 < y29.size + 1) ∧
      (y30 ++ str n1 = y34 ∧ ¬ 9223372036854775807 < y30.size + (str n1).size) ∧
      (y34 ++ ({ data := #[32] } : ByteArray) = y35 ∧ ¬ 9223372036854775807 < y34.size + 1) ∧
      (y35 ++ str n2 = y39 ∧ ¬ 9223372036854775807 < y35.size + (str n2).size) ∧
      (y39 ++ ({ data := #[32] } : ByteArray) = y40 ∧ ¬ 9223372036854775807 < y39.size + 1) ∧
      (y40 ++ str n3 = y44 ∧ ¬ 9223372036854775807 < y40.size + (str n3).size) ∧
      (y44 ++ ({ data := #[32] } : ByteArray) = y45 ∧ ¬ 9223372036854775807 < y44.size + 1) ∧
      (y45 ++ str d = y49 ∧ ¬ 9223372036854775807 < y45.size + (str d).size) ∧
      y49.data.toList = resWord ++ 32 :: n0 ++ 32 :: n1 ++ 32 :: n2 ++ 32 :: n3 ++ 32 :: d := by
  refine ⟨_, _, _, _, _, _, _, _, _, ⟨rfl, ?_⟩, ⟨rfl, ?_⟩, ⟨rfl, ?_⟩, ⟨rfl, ?_⟩, ⟨rfl, ?_⟩, ⟨rfl, ?_⟩, ⟨rfl, ?_⟩, ⟨rfl, ?_⟩, ⟨rfl, ?_⟩, ?_⟩
  all_goals first
    | (simp only [ByteArray.size_append, str_size, show ({ data := #[114, 101, 115, 117, 108, 116, 32] } : ByteArray).size = 7 from rfl, show ({ data := #[32] } : ByteArray).size = 1 from rfl]; omega)
    | (simp [ByteArray.data_append, str, resWord])

set_option maxRecDepth 20000 in
set_option maxHeartbeats 4000000 in
theorem rTell_any (code : Int) (hc : I64 code) (rs : List Rz) (hrs : ∀ r ∈ rs, r.Ok) (hrl : rs.length ≤ 1048576) (rv : Value) (w : World) (hs : SeeR w rv rs) (ht : ITab w) :
    Calls Tryd.prog 5 #[.agg #[.int .i64 code, rv]] w fun e w' => e = .returned (.string (str (telL code rs))) ∧ Below w.heap.size w w' := by
  obtain ⟨a, c, rfl, hac, hcell⟩ := hs
  obtain ⟨W, hW⟩ : ∃ W, w.alloc (.cells #[.int .i64 code, .slice a rs.length c] 25) = W := ⟨_, rfl⟩
  have hbW : Below w.heap.size w W := by rw [← hW]; exact (Below.refl _ _).alloc (Nat.le_refl _) _
  have hrb : W.heap[w.heap.size]? = some (.cells #[.int .i64 code, .slice a rs.length c] 25 (0, 0)) := by
    rw [← hW]
    exact heap_alloc_new _ _
  have hltW : w.heap.size < W.heap.size := (Array.getElem?_eq_some_iff.1 hrb).1
  have htW : ITab W := ht.below hbW ht.lt
  have h0 := rNumber_any code hc W htW
  have hil := itoa_len code hc.1 hc.2
  have k0 : W.cell? ⟨w.heap.size, 0, none⟩ = some (.int .i64 code) := by rw [Lib.cell_of_heap hrb]; rfl
  obtain ⟨x, hx⟩ : ∃ x, ({ data := #[99, 111, 100, 101, 32] } : ByteArray) ++ str (itoa code) ++ ({ data := #[10] } : ByteArray) = x := ⟨_, rfl⟩
  have hxs : x.size ≤ 26 := by rw [← hx, code_str, str_size]; simp [codeW]; omega
  have hz1 : ¬ 9223372036854775807 < 5 + (str (itoa code)).size := by rw [str_size]; omega
  have hz2 : ¬ 9223372036854775807 < 5 + (str (itoa code)).size + 1 := by rw [str_size]; omega
  obtain ⟨V, X, hV⟩ : ∃ (V : World → Value) (X : World → World), ∀ U, (convert 9 32 (.string x)).run Tryd.prog U = .ok (V U) (X U) ∧ RowF (X U) U.heap.size 5 (V U) (byteCells x.data.toList) ∧ Below U.heap.size U (X U) := by
    have h := fun U => bytes_any x (by unfold maxLen; omega) U
    obtain ⟨V, h⟩ := Classical.skolem.1 h
    obtain ⟨X, h⟩ := Classical.skolem.1 h
    exact ⟨V, X, h⟩
  have hconv := fun U => (hV U).1
  obtain ⟨i0, hi, hz0, hz1, hz2⟩ := info_parts info5
  go_enter Tryd.func5, Tryd.ntmps5
  go_wp2_with (go_at_call 7; refine h0.mono ?_)
  rintro e w1 ⟨rfl, hb1⟩
  clear h0 k0
  have hr1 := (hb1.block _ hltW).trans hrb
  obtain ⟨hR1, hbX⟩ := (hV w1).2
  have hbw1 : Below w.heap.size w w1 := hbW.trans (hb1.mono (Nat.le_of_lt hltW))
  have hxd : x.data.toList = codeW ++ itoa code ++ [10] := by rw [← hx, code_str, str_data]
  rw [hxd] at hR1
  obtain ⟨P, hP⟩ : ∃ P, codeW ++ itoa code ++ [10] = P := ⟨_, rfl⟩
  have hPl : P.length ≤ 26 := by rw [← hP]; simp [codeW]; omega
  have HP : Hid (codeW ++ itoa code ++ [10] = P) := hP
  rw [hP] at hR1
  have hbX2 : Below w.heap.size w (X w1) := hbw1.trans (hbX.mono hbw1.size)
  have hrX : (X w1).heap[w.heap.size]? = some (.cells #[.int .i64 code, .slice a rs.length c] 25 (0, 0)) := (hbX.block _ (Nat.lt_of_lt_of_le hltW hb1.size)).trans hr1
  have hR1 := RowF.mono (B' := w.heap.size + 1) hR1 (Nat.le_trans hltW hb1.size)
  clear hbX hxd hP hb1
  have HC : Hid (rs ≠ [] → ∃ b off, a = some ⟨b, off, none⟩ ∧ b < w.heap.size ∧ ∀ (i : Nat) r, rs[i]? = some r → ResAt w b (off + i * 6) r) := hcell
  have HR : Hid (∀ r ∈ rs, r.Ok) := hrs
  have HT : Hid (ITab w) := ht
  clear hcell hrs htW hbW hrb
  go_wp2
  go_loopg [3, 4] rs.length (fun gk v i wr => ∃ j : Nat, j + gk = rs.length ∧ i = .int .i64 (j : Int) ∧ RowF wr (w.heap.size + 1) 5 v (byteCells (P ++ rsL (rs.take j))) ∧ wr.heap[w.heap.size]? = some (.cells #[.int .i64 code, .slice a rs.length c] 25 (0, 0)) ∧ Hid (Below w.heap.size w wr))
  case atStart => exact ⟨0, by omega, rfl, by rw [List.take_zero]; simpa [rsL] using hR1, hrX, hbX2⟩
  case round =>
    obtain ⟨j, hj, rfl, hown, hrw, HB⟩ := hrel
    have k1 : wr.cell? ⟨w.heap.size, 1, none⟩ = some (.slice a rs.length c) := by rw [Lib.cell_of_heap hrw]; rfl
    by_cases hlj : j < rs.length
    · have hltI : (j : Int) < (rs.length : Int) := by omega
      obtain ⟨r, hs⟩ : ∃ r, rs[j]? = some r := ⟨_, List.getElem?_eq_getElem hlj⟩
      obtain ⟨b, off, rfl, hbb, hcl⟩ := HC.out (fun e => by rw [e] at hs; simp at hs)
      have hok := HR.out r (List.mem_of_getElem? hs)
      obtain ⟨nv, hsn, d0, d1, d2, d3, d4, d5⟩ := hcl j r hs
      have hcb := fun j => HB.out.cell (p := ⟨b, j, none⟩) hbb
      have c0 := (hcb _).trans d0
      have c1 := (hcb _).trans d1
      have c2 := (hcb _).trans d2
      have c3 := (hcb _).trans d3
      have c4 := (hcb _).trans d4
      have c5 := (hcb _).trans d5
      clear d0 d1 d2 d3 d4 d5 hcb
      obtain ⟨na, nc, hnv⟩ : ∃ na nc, nv = .slice na r.names.length nc := by obtain ⟨na, nc, h, _⟩ := hsn; exact ⟨na, nc, h⟩
      subst hnv
      have hst := rsL_take rs j r hs
      clear hcl hs
      go_wp2_with fail
      have HY := sums (itoa r.code) (itoa r.n) (itoa r.kind) (itoa r.size) (byL r.data) (itoa_len _ hok.code.1 hok.code.2) (itoa_len _ hok.n.1 hok.n.2) (itoa_len _ hok.kind.1 hok.kind.2) (itoa_len _ hok.size.1 hok.size.2) (by have := byL_len r.data; have := hok.data; omega)
      obtain ⟨y29, y30, y34, y35, y39, y40, y44, y45, y49, ⟨e29, z29⟩, ⟨e30, z30⟩, ⟨e34, z34⟩, ⟨e35, z35⟩, ⟨e39, z39⟩, ⟨e40, z40⟩, ⟨e44, z44⟩, ⟨e45, z45⟩, ⟨e49, z49⟩, hy49⟩ := HY
      have hlU : wr.heap.size < (wr.alloc (.cells #[.int .i64 r.code, .string r.data, .int .i64 r.n, .slice na r.names.length nc, .int .i64 r.kind, .int .i64 r.size] 29)).heap.size := by simp
      have hgU := heap_alloc_new wr (.cells #[.int .i64 r.code, .string r.data, .int .i64 r.n, .slice na r.names.length nc, .int .i64 r.kind, .int .i64 r.size] 29)
      have hbU := (Below.refl wr.heap.size wr).alloc (Nat.le_refl _) (.cells #[.int .i64 r.code, .string r.data, .int .i64 r.n, .slice na r.names.length nc, .int .i64 r.kind, .int .i64 r.size] 29)
      revert hlU hgU hbU
      generalize wr.alloc (.cells #[.int .i64 r.code, .string r.data, .int .i64 r.n, .slice na r.names.length nc, .int .i64 r.kind, .int .i64 r.size] 29) = U
      intro hlU hgU hbU
      have hgU : U.heap[wr.heap.size]? = some (.cells #[.int .i64 r.code, .string r.data, .int .i64 r.n, .slice na r.names.length nc, .int .i64 r.kind, .int .i64 r.size] 29 (0, 0)) := hgU
      have HS : Hid (∀ W, Below U.heap.size U W → W.cell? ⟨wr.heap.size, 0, none⟩ = some (.int .i64 r.code) ∧ W.cell? ⟨wr.heap.size, 1, none⟩ = some (.string r.data) ∧ W.cell? ⟨wr.heap.size, 2, none⟩ = some (.int .i64 r.n) ∧ W.cell? ⟨wr.heap.size, 3, none⟩ = some (.slice na r.names.length nc) ∧ W.cell? ⟨wr.heap.size, 4, none⟩ = some (.int .i64 r.kind) ∧ W.cell? ⟨wr.heap.size, 5, none⟩ = some (.int .i64 r.size)) := fun W hb => res_cells ((hb.block _ hlU).trans hgU)
      have HGU : Hid (U.heap[wr.heap.size]? = some (.cells #[.int .i64 r.code, .string r.data, .int .i64 r.n, .slice na r.names.length nc, .int .i64 r.kind, .int .i64 r.size] 29 (0, 0))) := hgU
      have HWU : Hid (Below w.heap.size w U) := HB.out.trans (hbU.mono HB.out.size)
      have HI : Hid (∀ W, Below U.heap.size U W → ITab W) := fun W hb => HT.out.below (HWU.out.trans (hb.mono HWU.out.size)) HT.out.lt
      have HO : Hid (∀ W, Below U.heap.size U W → RowF W (w.heap.size + 1) 5 u3 (byteCells (P ++ rsL (rs.take j)))) := fun W hb => RowF.below (RowF.below hown hbU) hb
      have HBs : Hid (∀ W, Below U.heap.size U W → w.heap.size + 1 ≤ W.heap.size) := fun W hb => by have := hb.size; have := HB.out.size; omega
      have HR2 : Hid (Below wr.heap.size wr U) := hbU
      have hPj : (P ++ rsL (rs.take j)).length ≤ 26 + 8388609 * 1048576 := by
        have h := rsL_len (rs.take j) fun r hr => HR.out r (List.mem_of_mem_take hr)
        rw [List.length_take] at h
        rw [List.length_append]
        omega
      have hy49s : y49.size ≤ 8388608 := by
        rw [size_eq, hy49]
        have h0 := itoa_len _ hok.code.1 hok.code.2
        have h1 := itoa_len _ hok.n.1 hok.n.2
        have h2 := itoa_len _ hok.kind.1 hok.kind.2
        have h3 := itoa_len _ hok.size.1 hok.size.2
        have h4 := byL_len r.data
        have h5 := hok.data
        have e : resWord.length = 6 := rfl
        simp only [List.length_append, List.length_cons]
        omega
      have hY1 : (byteCells (P ++ rsL (rs.take j))).length + y49.size ≤ maxLen := by rw [byteCells_len]; unfold maxLen; omega
      have hY2 : (byteCells (P ++ rsL (rs.take j))).length + y49.size ≤ 140737488355328 := by rw [byteCells_len]; omega
      have hlU' : wr.heap.size ≤ U.heap.size := Nat.le_of_lt hlU
      have HRU : Hid (U.heap[w.heap.size]? = some (.cells #[.int .i64 code, .slice (some ⟨b, off, none⟩) rs.length c] 25 (0, 0))) := (hbU.block _ (heap_lt hrw)).trans hrw
      have hbel : Below U.heap.size U U.drew := Below.drew (Below.refl _ _)
      have hS0 := HS.out _ hbel
      clear hgU hbU hown
      refine wp_region_held_drew (S := fun X => X.cell? ⟨wr.heap.size, 0, none⟩ = some (.int .i64 r.code) ∧ X.cell? ⟨wr.heap.size, 1, none⟩ = some (.string r.data) ∧ X.cell? ⟨wr.heap.size, 2, none⟩ = some (.int .i64 r.n) ∧ X.cell? ⟨wr.heap.size, 3, none⟩ = some (.slice na r.names.length nc) ∧ X.cell? ⟨wr.heap.size, 4, none⟩ = some (.int .i64 r.kind) ∧ X.cell? ⟨wr.heap.size, 5, none⟩ = some (.int .i64 r.size)) (by kernel_rfl) hS0 ?_
      intro hS
      clear hS0
      refine wpAnyH_take (i := 0) (oi := { dst := some 25, op := .move (.tmp 3), type := _, pos := _, after := _, guard := none }) (v := u3) rfl (by kernel_rfl) (by kernel_rfl) (by kernel_rfl) (fun _ _ _ h => h) (Or.inl ⟨by rfl, by intro x _; go_simp⟩) hS ?_
      (try simp only [Act.put, List.setIfInBounds_toArray, List.set_cons_zero, List.set_cons_succ])
      refine wpAnyH_take (i := 1) (oi := { dst := some 26, op := .fieldAddr 29 (.tmp 5) 0, type := _, pos := _, after := _, guard := none }) (v := .pointer (some ⟨wr.heap.size, 0, none⟩)) rfl (by kernel_rfl) (by kernel_rfl) (by kernel_rfl) (fun _ _ _ h => h) (Or.inl ⟨by rfl, by intro x _; go_simp⟩) hS ?_
      (try simp only [Act.put, List.setIfInBounds_toArray, List.set_cons_zero, List.set_cons_succ])
      refine wpAnyH_take (i := 2) (oi := { dst := some 27, op := .load 22 (.tmp 26), type := _, pos := _, after := _, guard := none }) (v := .int .i64 r.code) rfl (by kernel_rfl) (by kernel_rfl) (by kernel_rfl) (fun _ _ _ h => h) (Or.inl ⟨by rfl, by intro x hx; have h1 := hx.1; go_simp⟩) hS ?_
      (try simp only [Act.put, List.setIfInBounds_toArray, List.set_cons_zero, List.set_cons_succ])
      refine wpAnyH_take (i := 6) (oi := { dst := some 31, op := .fieldAddr 29 (.tmp 5) 2, type := _, pos := _, after := _, guard := none }) (v := .pointer (some ⟨wr.heap.size, 2, none⟩)) rfl (by kernel_rfl) (by kernel_rfl) (by kernel_rfl) (fun _ _ _ h => h) (Or.inl ⟨by rfl, by intro x _; go_simp⟩) hS ?_
      (try simp only [Act.put, List.setIfInBounds_toArray, List.set_cons_zero, List.set_cons_succ])
      refine wpAnyH_take (i := 7) (oi := { dst := some 32, op := .load 3 (.tmp 31), type := _, pos := _, after := _, guard := none }) (v := .int .i64 r.n) rfl (by kernel_rfl) (by kernel_rfl) (by kernel_rfl) (fun _ _ _ h => h) (Or.inl ⟨by rfl, by intro x hx; have h1 := hx.2.2.1; go_simp⟩) hS ?_
      (try simp only [Act.put, List.setIfInBounds_toArray, List.set_cons_zero, List.set_cons_succ])
      refine wpAnyH_take (i := 11) (oi := { dst := some 36, op := .fieldAddr 29 (.tmp 5) 4, type := _, pos := _, after := _, guard := none }) (v := .pointer (some ⟨wr.heap.size, 4, none⟩)) rfl (by kernel_rfl) (by kernel_rfl) (by kernel_rfl) (fun _ _ _ h => h) (Or.inl ⟨by rfl, by intro x _; go_simp⟩) hS ?_
      (try simp only [Act.put, List.setIfInBounds_toArray, List.set_cons_zero, List.set_cons_succ])
      refine wpAnyH_take (i := 12) (oi := { dst := some 37, op := .load 3 (.tmp 36), type := _, pos := _, after := _, guard := none }) (v := .int .i64 r.kind) rfl (by kernel_rfl) (by kernel_rfl) (by kernel_rfl) (fun _ _ _ h => h) (Or.inl ⟨by rfl, by intro x hx; have h1 := hx.2.2.2.2.1; go_simp⟩) hS ?_
      (try simp only [Act.put, List.setIfInBounds_toArray, List.set_cons_zero, List.set_cons_succ])
      refine wpAnyH_take (i := 16) (oi := { dst := some 41, op := .fieldAddr 29 (.tmp 5) 5, type := _, pos := _, after := _, guard := none }) (v := .pointer (some ⟨wr.heap.size, 5, none⟩)) rfl (by kernel_rfl) (by kernel_rfl) (by kernel_rfl) (fun _ _ _ h => h) (Or.inl ⟨by rfl, by intro x _; go_simp⟩) hS ?_
      (try simp only [Act.put, List.setIfInBounds_toArray, List.set_cons_zero, List.set_cons_succ])
      refine wpAnyH_take (i := 17) (oi := { dst := some 42, op := .load 3 (.tmp 41), type := _, pos := _, after := _, guard := none }) (v := .int .i64 r.size) rfl (by kernel_rfl) (by kernel_rfl) (by kernel_rfl) (fun _ _ _ h => h) (Or.inl ⟨by rfl, by intro x hx; have h1 := hx.2.2.2.2.2; go_simp⟩) hS ?_
      (try simp only [Act.put, List.setIfInBounds_toArray, List.set_cons_zero, List.set_cons_succ])
      refine wpAnyH_take (i := 21) (oi := { dst := some 46, op := .fieldAddr 29 (.tmp 5) 1, type := _, pos := _, after := _, guard := none }) (v := .pointer (some ⟨wr.heap.size, 1, none⟩)) rfl (by kernel_rfl) (by kernel_rfl) (by kernel_rfl) (fun _ _ _ h => h) (Or.inl ⟨by rfl, by intro x _; go_simp⟩) hS ?_
      (try simp only [Act.put, List.setIfInBounds_toArray, List.set_cons_zero, List.set_cons_succ])
      refine wpAnyH_take (i := 22) (oi := { dst := some 47, op := .load 9 (.tmp 46), type := _, pos := _, after := _, guard := none }) (v := .string r.data) rfl (by kernel_rfl) (by kernel_rfl) (by kernel_rfl) (fun _ _ _ h => h) (Or.inl ⟨by rfl, by intro x hx; have h1 := hx.2.1; go_simp⟩) hS ?_
      (try simp only [Act.put, List.setIfInBounds_toArray, List.set_cons_zero, List.set_cons_succ])
      refine wpAnyH_ready (rs := [3]) (by kernel_rfl) (by simp) ?_
      refine AllReadyH.cons (o := { dst := some 28, op := .call { callee := .value (.func 7), args := #[.tmp 27], argTypes := #[3] }, type := _, pos := _, after := _, guard := none }) rfl (fun K hK => ?_) AllReadyH.nil
      go_simp
      refine (rNumber_any r.code hok.code _ (HI.out _ hbel)).mono ?_
      rintro e W2 ⟨rfl, hb2⟩
      have hbel2 := hbel.trans (hb2.mono hbel.size)
      have hS2 := HS.out _ hbel2
      refine hK.out _ _ hS2 (fun _ => ?_)
      clear hK K hS hbel
      (try simp only [Act.put, List.setIfInBounds_toArray, List.set_cons_zero, List.set_cons_succ])
      have hS := hS2
      have hbel := hbel2
      clear hS2 hb2 hbel2
      refine wpAnyH_take (i := 4) (oi := { dst := some 29, op := .binOp .add 9 (.const (.string { data := #[114, 101, 115, 117, 108, 116, 32] })) (.tmp 28) 9, type := _, pos := _, after := _, guard := none }) (v := .string y29) rfl (by kernel_rfl) (by kernel_rfl) (by kernel_rfl) (fun _ _ _ h => h) (Or.inl ⟨by rfl, by intro x _; have h1 := e29; have h2 := z29; go_simp⟩) hS ?_
      (try simp only [Act.put, List.setIfInBounds_toArray, List.set_cons_zero, List.set_cons_succ])
      refine wpAnyH_take (i := 5) (oi := { dst := some 30, op := .binOp .add 9 (.tmp 29) (.const (.string { data := #[32] })) 9, type := _, pos := _, after := _, guard := none }) (v := .string y30) rfl (by kernel_rfl) (by kernel_rfl) (by kernel_rfl) (fun _ _ _ h => h) (Or.inl ⟨by rfl, by intro x _; have h1 := e30; have h2 := z30; go_simp⟩) hS ?_
      (try simp only [Act.put, List.setIfInBounds_toArray, List.set_cons_zero, List.set_cons_succ])
      refine wpAnyH_ready (rs := [8]) (by kernel_rfl) (by simp) ?_
      refine AllReadyH.cons (o := { dst := some 33, op := .call { callee := .value (.func 7), args := #[.tmp 32], argTypes := #[3] }, type := _, pos := _, after := _, guard := none }) rfl (fun K hK => ?_) AllReadyH.nil
      go_simp
      refine (rNumber_any r.n hok.n _ (HI.out _ hbel)).mono ?_
      rintro e W2 ⟨rfl, hb2⟩
      have hbel2 := hbel.trans (hb2.mono hbel.size)
      have hS2 := HS.out _ hbel2
      refine hK.out _ _ hS2 (fun _ => ?_)
      clear hK K hS hbel
      (try simp only [Act.put, List.setIfInBounds_toArray, List.set_cons_zero, List.set_cons_succ])
      have hS := hS2
      have hbel := hbel2
      clear hS2 hb2 hbel2
      refine wpAnyH_take (i := 9) (oi := { dst := some 34, op := .binOp .add 9 (.tmp 30) (.tmp 33) 9, type := _, pos := _, after := _, guard := none }) (v := .string y34) rfl (by kernel_rfl) (by kernel_rfl) (by kernel_rfl) (fun _ _ _ h => h) (Or.inl ⟨by rfl, by intro x _; have h1 := e34; have h2 := z34; go_simp⟩) hS ?_
      (try simp only [Act.put, List.setIfInBounds_toArray, List.set_cons_zero, List.set_cons_succ])
      refine wpAnyH_take (i := 10) (oi := { dst := some 35, op := .binOp .add 9 (.tmp 34) (.const (.string { data := #[32] })) 9, type := _, pos := _, after := _, guard := none }) (v := .string y35) rfl (by kernel_rfl) (by kernel_rfl) (by kernel_rfl) (fun _ _ _ h => h) (Or.inl ⟨by rfl, by intro x _; have h1 := e35; have h2 := z35; go_simp⟩) hS ?_
      (try simp only [Act.put, List.setIfInBounds_toArray, List.set_cons_zero, List.set_cons_succ])
      refine wpAnyH_ready (rs := [13]) (by kernel_rfl) (by simp) ?_
      refine AllReadyH.cons (o := { dst := some 38, op := .call { callee := .value (.func 7), args := #[.tmp 37], argTypes := #[3] }, type := _, pos := _, after := _, guard := none }) rfl (fun K hK => ?_) AllReadyH.nil
      go_simp
      refine (rNumber_any r.kind hok.kind _ (HI.out _ hbel)).mono ?_
      rintro e W2 ⟨rfl, hb2⟩
      have hbel2 := hbel.trans (hb2.mono hbel.size)
      have hS2 := HS.out _ hbel2
      refine hK.out _ _ hS2 (fun _ => ?_)
      clear hK K hS hbel
      (try simp only [Act.put, List.setIfInBounds_toArray, List.set_cons_zero, List.set_cons_succ])
      have hS := hS2
      have hbel := hbel2
      clear hS2 hb2 hbel2
      refine wpAnyH_take (i := 14) (oi := { dst := some 39, op := .binOp .add 9 (.tmp 35) (.tmp 38) 9, type := _, pos := _, after := _, guard := none }) (v := .string y39) rfl (by kernel_rfl) (by kernel_rfl) (by kernel_rfl) (fun _ _ _ h => h) (Or.inl ⟨by rfl, by intro x _; have h1 := e39; have h2 := z39; go_simp⟩) hS ?_
      (try simp only [Act.put, List.setIfInBounds_toArray, List.set_cons_zero, List.set_cons_succ])
      refine wpAnyH_take (i := 15) (oi := { dst := some 40, op := .binOp .add 9 (.tmp 39) (.const (.string { data := #[32] })) 9, type := _, pos := _, after := _, guard := none }) (v := .string y40) rfl (by kernel_rfl) (by kernel_rfl) (by kernel_rfl) (fun _ _ _ h => h) (Or.inl ⟨by rfl, by intro x _; have h1 := e40; have h2 := z40; go_simp⟩) hS ?_
      (try simp only [Act.put, List.setIfInBounds_toArray, List.set_cons_zero, List.set_cons_succ])
      refine wpAnyH_ready (rs := [18]) (by kernel_rfl) (by simp) ?_
      refine AllReadyH.cons (o := { dst := some 43, op := .call { callee := .value (.func 7), args := #[.tmp 42], argTypes := #[3] }, type := _, pos := _, after := _, guard := none }) rfl (fun K hK => ?_) AllReadyH.nil
      go_simp
      refine (rNumber_any r.size hok.size _ (HI.out _ hbel)).mono ?_
      rintro e W2 ⟨rfl, hb2⟩
      have hbel2 := hbel.trans (hb2.mono hbel.size)
      have hS2 := HS.out _ hbel2
      refine hK.out _ _ hS2 (fun _ => ?_)
      clear hK K hS hbel
      (try simp only [Act.put, List.setIfInBounds_toArray, List.set_cons_zero, List.set_cons_succ])
      have hS := hS2
      have hbel := hbel2
      clear hS2 hb2 hbel2
      refine wpAnyH_take (i := 19) (oi := { dst := some 44, op := .binOp .add 9 (.tmp 40) (.tmp 43) 9, type := _, pos := _, after := _, guard := none }) (v := .string y44) rfl (by kernel_rfl) (by kernel_rfl) (by kernel_rfl) (fun _ _ _ h => h) (Or.inl ⟨by rfl, by intro x _; have h1 := e44; have h2 := z44; go_simp⟩) hS ?_
      (try simp only [Act.put, List.setIfInBounds_toArray, List.set_cons_zero, List.set_cons_succ])
      refine wpAnyH_take (i := 20) (oi := { dst := some 45, op := .binOp .add 9 (.tmp 44) (.const (.string { data := #[32] })) 9, type := _, pos := _, after := _, guard := none }) (v := .string y45) rfl (by kernel_rfl) (by kernel_rfl) (by kernel_rfl) (fun _ _ _ h => h) (Or.inl ⟨by rfl, by intro x _; have h1 := e45; have h2 := z45; go_simp⟩) hS ?_
      (try simp only [Act.put, List.setIfInBounds_toArray, List.set_cons_zero, List.set_cons_succ])
      refine wpAnyH_ready (rs := [23]) (by kernel_rfl) (by simp) ?_
      refine AllReadyH.cons (o := { dst := some 48, op := .call { callee := .value (.func 8), args := #[.tmp 47], argTypes := #[9] }, type := _, pos := _, after := _, guard := none }) rfl (fun K hK => ?_) AllReadyH.nil
      go_simp
      refine (written_any r.data (by have := hok.data; omega) _).mono ?_
      rintro e W2 ⟨rfl, hb2⟩
      have hbel2 := hbel.trans (hb2.mono hbel.size)
      have hS2 := HS.out _ hbel2
      refine hK.out _ _ hS2 (fun _ => ?_)
      clear hK K hS hbel
      (try simp only [Act.put, List.setIfInBounds_toArray, List.set_cons_zero, List.set_cons_succ])
      have hS := hS2
      have hbel := hbel2
      clear hS2 hb2 hbel2
      refine wpAnyH_take (i := 24) (oi := { dst := some 49, op := .binOp .add 9 (.tmp 45) (.tmp 48) 9, type := _, pos := _, after := _, guard := none }) (v := .string y49) rfl (by kernel_rfl) (by kernel_rfl) (by kernel_rfl) (fun _ _ _ h => h) (Or.inl ⟨by rfl, by intro x _; have h1 := e49; have h2 := z49; go_simp⟩) hS ?_
      (try simp only [Act.put, List.setIfInBounds_toArray, List.set_cons_zero, List.set_cons_succ])
      refine wpAnyH_ready (rs := [25]) (by kernel_rfl) (by simp) ?_
      refine AllReadyH.cons (o := { dst := some 50, op := .call { callee := .builtin .append, args := #[.tmp 25, .tmp 49], argTypes := #[32, 9] }, type := _, pos := _, after := _, guard := none }) rfl (fun K hK => ?_) AllReadyH.nil
      refine step_append_rowF_string rfl (.tmp 25) (.tmp 49) 32 9 rfl (w.heap.size + 1) 5 i0 Tryd.underlying32 Tryd.underlying9 hi hz0 hz1 hz2 _ _ (by simp [Act.eval]) (HO.out _ hbel) y49 (by simp [Act.eval]) hY1 hY2 (HBs.out _ hbel) ?_
      intro v' w4 hown' hb4 ho4
      have hg4 : w4.heap[wr.heap.size]? = some (.cells #[.int .i64 r.code, .string r.data, .int .i64 r.n, .slice na r.names.length nc, .int .i64 r.kind, .int .i64 r.size] 29 (0, 0)) := ho4 _ _ (fun cs fr e => by injection e with _ e2 _; exact absurd e2 (by decide)) ((hbel.block _ hlU).trans HGU.out)
      have hrw4 : w4.heap[w.heap.size]? = some (.cells #[.int .i64 code, .slice (some ⟨b, off, none⟩) rs.length c] 25 (0, 0)) := (hb4.block _ (Nat.lt_succ_self _)).trans ((hbel.block _ (Nat.lt_of_lt_of_le (heap_lt hrw) hlU')).trans HRU.out)
      have HB4 : Hid (Below w.heap.size w w4) := (HWU.out.trans (hbel.mono HWU.out.size)).trans (hb4.mono (Nat.le_succ _))
      have hS4 := res_cells hg4
      refine hK.out _ _ hS4 (fun _ => ?_)
      clear hK K hS
      (try simp only [Act.put])
      have hS := hS4
      refine wpAnyH_take (i := 26) (oi := { dst := some 3, op := .assign (.tmp 50), type := _, pos := _, after := _, guard := none }) (v := v') rfl (by kernel_rfl) (by kernel_rfl) (by kernel_rfl) (fun _ _ _ h => h) (Or.inl ⟨by rfl, by intro x _; go_simp⟩) hS ?_
      (try simp only [Act.put, List.setIfInBounds_toArray, List.set_cons_zero, List.set_cons_succ])
      refine wpAnyH_done (by kernel_rfl) ?_ _
      clear hS HS HGU HI HO HBs hbel
      obtain ⟨Q, hQ⟩ : ∃ Q, P ++ rsL (rs.take j) ++ (resWord ++ 32 :: itoa r.code ++ 32 :: itoa r.n ++ 32 :: itoa r.kind ++ 32 :: itoa r.size ++ 32 :: byL r.data) = Q := ⟨_, rfl⟩
      have hown2 : RowF w4 (w.heap.size + 1) 5 v' (byteCells Q) := by
        rw [← hQ, byteCells_append (P ++ rsL (rs.take j)), ← hy49, ← strCells_bytes]
        exact hown'
      have hQl : Q.length ≤ 26 + 8388609 * 1048576 + 8388608 := by
        rw [← hQ, List.length_append, ← hy49, ← size_eq]
        omega
      have HQ : Hid (P ++ rsL (rs.take j) ++ (resWord ++ 32 :: itoa r.code ++ 32 :: itoa r.n ++ 32 :: itoa r.kind ++ 32 :: itoa r.size ++ 32 :: byL r.data) = Q) := hQ
      have HSN : Hid (SeeS w (.slice na r.names.length nc) r.names) := hsn
      have HOK : Hid r.Ok := hok
      have HST : Hid (rsL (rs.take (j + 1)) = rsL (rs.take j) ++ (resL r ++ [10])) := hst
      have hnl : r.names.length ≤ 1048576 := Nat.le_trans (len_sum _) hok.all
      clear hown' hQ hb4 ho4 hy49 e29 z29 e30 z30 e34 z34 e35 z35 e39 z39 e40 z40 e44 z44 e45 z45 e49 z49 hY1 hY2 hsn hok hst c0 c1 c2 c3 c4 c5 hrw k1
      obtain ⟨k0, k1, k2, k3, k4, k5⟩ := res_cells hg4
      go_wp2
      go_loopg [3, 6] r.names.length (fun gk2 v i wq => ∃ m : Nat, m + gk2 = r.names.length ∧ i = .int .i64 (m : Int) ∧ RowF wq (w.heap.size + 1) 5 v (byteCells (Q ++ nsL (r.names.take m))) ∧ wq.heap[wr.heap.size]? = some (.cells #[.int .i64 r.code, .string r.data, .int .i64 r.n, .slice na r.names.length nc, .int .i64 r.kind, .int .i64 r.size] 29 (0, 0)) ∧ Hid (Below w.heap.size w wq ∧ wq.heap[w.heap.size]? = some (.cells #[.int .i64 code, .slice (some ⟨b, off, none⟩) rs.length c] 25 (0, 0))))
      case atStart => exact ⟨0, by omega, rfl, by rw [List.take_zero]; simpa [nsL] using hown2, hg4, HB4.out, hrw4⟩
      case round =>
        obtain ⟨m, hm, rfl, hownQ, hgq, HBq⟩ := hrel
        clear k0 k1 k2 k3 k4 k5
        have k3 := (res_cells hgq).2.2.2.1
        have hll := nsL_len (r.names.take m)
        have hsum : ((r.names.take m).map fun s => s.size + 1).sum ≤ 1048576 := by
          rw [List.map_take]
          exact Nat.le_trans (sum_take _ _) HOK.out.all
        by_cases hlm : m < r.names.length
        · have hltm : (m : Int) < (r.names.length : Int) := by omega
          obtain ⟨s, hs⟩ : ∃ s, r.names[m]? = some s := ⟨_, List.getElem?_eq_getElem hlm⟩
          obtain ⟨na', nc', hsl, _, hcellN⟩ := HSN.out
          obtain ⟨bn, on, hna, hbn, hcn⟩ := hcellN (fun e => by rw [e] at hs; simp at hs)
          injection hsl with hsl1 _ hsl3
          subst hsl1
          subst hsl3
          subst hna
          have cN : wr.cell? ⟨bn, on + m, none⟩ = some (.string s) := (HBq.out.1.cell (p := ⟨bn, on + m, none⟩) hbn).trans (hcn m s hs)
          have hsz := HOK.out.each s (List.mem_of_getElem? hs)
          have hst := nsL_take r.names m s hs
          have hyl := byL_len s
          have hW1 := written_any s (by omega) wr
          have hzn : ¬ 9223372036854775807 < 1 + (str (byL s)).size := by rw [str_size]; omega
          obtain ⟨y, hy⟩ : ∃ y, ({ data := #[32] } : ByteArray) ++ str (byL s) = y := ⟨_, rfl⟩
          have hyd : y.data.toList = 32 :: byL s := by rw [← hy]; simp [ByteArray.data_append, str]
          have hys : y.size = (byL s).length + 1 := by rw [size_eq, hyd]; simp
          have hlb : (byteCells (Q ++ nsL (r.names.take m))).length = (Q ++ nsL (r.names.take m)).length := byteCells_len _
          rw [List.length_append] at hlb
          have hml : (byteCells (Q ++ nsL (r.names.take m))).length + y.size ≤ maxLen := by unfold maxLen; omega
          clear hs hcn
          have hgW : ∀ w5, Below wr.heap.size wr w5 → RowF w5 (w.heap.size + 1) 5 _ (byteCells (Q ++ nsL (r.names.take m))) ∧ w5.heap[_]? = _ ∧ Hid (Below w.heap.size w w5 ∧ w5.heap[w.heap.size]? = _) ∧ w.heap.size + 1 ≤ w5.heap.size := fun w5 hb5 => by
            have hg5 := (hb5.block _ (Array.getElem?_eq_some_iff.1 hgq).1).trans hgq
            exact ⟨RowF.below hownQ hb5, hg5, ⟨HBq.out.1.trans (hb5.mono HBq.out.1.size), (hb5.block _ (heap_lt HBq.out.2)).trans HBq.out.2⟩, by have := (Array.getElem?_eq_some_iff.1 hgq).1; have := HB.out.size; have := hb5.size; omega⟩
          have HGW : Hid _ := hgW
          clear hgW hownQ
          go_wp2_with (first | (at_builtin; refine wpList_append_rowF_string rfl _ _ 32 9 rfl (w.heap.size + 1) 5 i0 Tryd.underlying32 Tryd.underlying9 hi hz0 hz1 hz2 _ _ rfl (HGW.out _ hb5).1 y rfl hml (by omega) (HGW.out _ hb5).2.2.2 ?_) | (go_at_call 8; refine hW1.mono ?_; rintro e w5 ⟨rfl, hb5⟩; clear hW1))
          obtain ⟨-, hg5, HB5, -⟩ := HGW.out _ hb5
          clear HGW hgq hb5 k3 cN
          intro v6 w6 hown6 hb6 ho6
          have hg6 := ho6 _ _ (fun cs fr e => by injection e with _ e2 _; exact absurd e2 (by decide)) hg5
          have HB6 : Hid (Below w.heap.size w w6 ∧ w6.heap[w.heap.size]? = some (.cells #[.int .i64 code, .slice (some ⟨b, off, none⟩) rs.length c] 25 (0, 0))) := ⟨HB5.out.1.trans (hb6.mono (Nat.le_succ _)), (hb6.block _ (Nat.lt_succ_self _)).trans HB5.out.2⟩
          have HR6 : Hid (RowF w6 (w.heap.size + 1) 5 v6 (byteCells (Q ++ nsL (r.names.take (m + 1))))) := by
            show RowF _ _ _ _ _
            rw [hst, ← List.append_assoc, byteCells_append, ← hyd, ← strCells_bytes]
            exact hown6
          clear hown6 ho6 hb6 hg5 hy hyd
          go_wp2
          go_roundg (gk - 1)
          case measure => omega
          case rel => exact ⟨m + 1, by omega, by go_num, HR6.out, hg6, HB6⟩
        · obtain rfl : m = r.names.length := by omega
          have hltm : ¬ (r.names.length : Int) < (r.names.length : Int) := by omega
          rw [List.take_length] at hownQ hll hsum
          have hlb : (byteCells (Q ++ nsL r.names)).length = (Q ++ nsL r.names).length := byteCells_len _
          rw [List.length_append] at hlb
          have hml : (byteCells (Q ++ nsL r.names)).length + 1 ≤ maxLen := by unfold maxLen; omega
          have hone : ∀ u ∈ [Value.int .u8 10], u.oneCell' = true := by simp [Value.oneCell']
          have hB5 : w.heap.size + 1 ≤ wr.heap.size := by have := (Array.getElem?_eq_some_iff.1 hgq).1; have := HB.out.size; omega
          have hownA := fun o => RowF.alloc hownQ o
          clear hownQ
          go_wp2_with (at_builtin; refine wpList_append_rowF2 rfl _ _ 32 rfl (w.heap.size + 1) 5 i0 (.int .u8 0) 1 Tryd.underlying32 hi hz0 hz1 hz2 rfl _ _ rfl (hownA _) ⟨wr.heap.size, 0, none⟩ 1 1 [.int .u8 10] rfl rfl (one_cell wr _) hone hml (by omega) (by simp; omega) ?_)
          intro v6 w6 hown6 hb6 ho6
          have hbA : Below w.heap.size w (wr.alloc (.cells #[.int .u8 10] 5)) := HBq.out.1.alloc (by omega) _
          have HB6 : Hid (Below w.heap.size w w6) := hbA.trans (hb6.mono (Nat.le_succ _))
          have HRW : Hid (w6.heap[w.heap.size]? = some (.cells #[.int .i64 code, .slice (some ⟨b, off, none⟩) rs.length c] 25 (0, 0))) := (hb6.block _ (Nat.lt_succ_self _)).trans ((Lib.alloc_old wr _ _ (heap_lt HBq.out.2)).trans HBq.out.2)
          have HR6 : Hid (RowF w6 (w.heap.size + 1) 5 v6 (byteCells (P ++ rsL (rs.take (j + 1))))) := by
            show RowF _ _ _ _ _
            rw [HST.out, show P ++ (rsL (rs.take j) ++ (resL r ++ [10])) = Q ++ nsL r.names ++ [10] by rw [← HQ.out]; simp [resL, nmL], byteCells_append]
            exact hown6
          clear hown6 hownA ho6 hb6 hbA
          go_wp2
          go_roundg (rs.length - (j + 1))
          case measure => omega
          case rel => exact ⟨j + 1, by omega, by go_num, HR6.out, HRW.out, HB6⟩
    · obtain rfl : j = rs.length := by omega
      have hltI : ¬ (rs.length : Int) < (rs.length : Int) := by omega
      rw [List.take_length] at hown
      have hR : P ++ rsL rs = telL code rs := by rw [← HP.out]; rfl
      rw [hR] at hown
      have hcv2 := convert_rowF (P := Tryd.prog) wr 32 9 5 (w.heap.size + 1) _ (telL code rs) Tryd.underlying32 Tryd.underlying5 Tryd.underlying9 hown
      clear hconv hV
      go_wp2
      go_ret
      exact ⟨rfl, HB.out⟩
end Go.Proofs.YtadhfhfnhcphiaaDoor.Sc
