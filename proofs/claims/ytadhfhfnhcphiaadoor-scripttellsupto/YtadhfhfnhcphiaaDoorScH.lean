import Derived.Test.YtadhfhfnhcphiaaDoorScG
namespace Go.Proofs.YtadhfhfnhcphiaaDoor.Sc
open Go.RowKit Go.Lib

/-- a result's cells in a list -/
def ResAt (w : World) (b o : Nat) (r : Rz) : Prop :=
  ∃ nv, SeeS w nv r.names ∧ w.cell? ⟨b, o, none⟩ = some (.int .i64 r.code) ∧ w.cell? ⟨b, o + 1, none⟩ = some (.string r.data) ∧ w.cell? ⟨b, o + 2, none⟩ = some (.int .i64 r.n) ∧ w.cell? ⟨b, o + 3, none⟩ = some nv ∧ w.cell? ⟨b, o + 4, none⟩ = some (.int .i64 r.kind) ∧ w.cell? ⟨b, o + 5, none⟩ = some (.int .i64 r.size)
/-- results that can be read -/
def SeeR (w : World) (v : Value) (rs : List Rz) : Prop :=
  ∃ a c, v = .slice a rs.length c ∧ rs.length ≤ c ∧ (rs ≠ [] → ∃ b off, a = some ⟨b, off, none⟩ ∧ b < w.heap.size ∧ ∀ (i : Nat) r, rs[i]? = some r → ResAt w b (off + i * 6) r)
theorem ResAt.below {w w' : World} {b o : Nat} {r : Rz} (h : ResAt w b o r) (hlt : b < w.heap.size) (hb : Below w.heap.size w w') : ResAt w' b o r := by
  obtain ⟨nv, h0, h1, h2, h3, h4, h5, h6⟩ := h
  have e := fun j => hb.cell (p := ⟨b, j, none⟩) hlt
  exact ⟨nv, h0.below hb, (e _).trans h1, (e _).trans h2, (e _).trans h3, (e _).trans h4, (e _).trans h5, (e _).trans h6⟩
theorem SeeR.below {w w' : World} {v : Value} {L : List Rz} (h : SeeR w v L) (hb : Below w.heap.size w w') : SeeR w' v L := by
  obtain ⟨a, c, h1, h2, h4⟩ := h
  refine ⟨a, c, h1, h2, fun hn => ?_⟩
  obtain ⟨b, off, e, hlt, hc⟩ := h4 hn
  exact ⟨b, off, e, Nat.lt_of_lt_of_le hlt hb.size, fun i r hr => (hc i r hr).below hlt hb⟩
theorem resL_len (r : Rz) (h : r.Ok) : (resL r).length ≤ 8388608 := by
  have h1 := nmL_len [r.code, r.n, r.kind, r.size] (by simp; exact ⟨h.code, h.n, h.kind, h.size⟩)
  have h2 := byL_len r.data
  have h3 := nsL_len r.names
  have h4 := h.data
  have h5 := h.all
  have e : resWord.length = 6 := rfl
  simp only [resL, List.length_append, List.length_cons, List.length_nil] at h1 ⊢
  omega
def rsL (rs : List Rz) : List UInt8 := rs.flatMap fun r => resL r ++ [10]
theorem rsL_take (L : List Rz) (k : Nat) (r : Rz) (h : L[k]? = some r) : rsL (L.take (k + 1)) = rsL (L.take k) ++ (resL r ++ [10]) := by
  have e : L.take (k + 1) = L.take k ++ [r] := by
    rw [List.take_add_one, h]
    rfl
  rw [e]
  simp [rsL]
theorem rsL_len (L : List Rz) (h : ∀ r ∈ L, r.Ok) : (rsL L).length ≤ 8388609 * L.length := by
  induction L with
  | nil => simp [rsL]
  | cons a t ih =>
    have h1 := resL_len a (h a (List.mem_cons_self ..))
    have h2 := ih fun n hn => h n (List.mem_cons_of_mem _ hn)
    simp only [rsL, List.flatMap_cons, List.length_append, List.length_cons, List.length_nil] at h2 ⊢
    omega
theorem strs_append (a b : List UInt8) : str a ++ str b = str (a ++ b) := by
  apply ByteArray.ext
  rw [ByteArray.data_append]
  simp [str]
def codeW : List UInt8 := [99, 111, 100, 101, 32]
def telL (code : Int) (rs : List Rz) : List UInt8 := codeW ++ itoa code ++ [10] ++ rsL rs
theorem nl_str (l : List UInt8) : str l ++ ({ data := #[10] } : ByteArray) = str (l ++ [10]) := by
  show str l ++ str [10] = _
  rw [strs_append]
theorem code_str (l : List UInt8) : ({ data := #[99, 111, 100, 101, 32] } : ByteArray) ++ str l ++ ({ data := #[10] } : ByteArray) = str (codeW ++ l ++ [10]) := by
  show str codeW ++ str l ++ str [10] = _
  rw [strs_append, strs_append]

set_option maxRecDepth 20000 in
set_option maxHeartbeats 2000000 in
theorem answerText_any (code : Int) (hc : I64 code) (rs : List Rz) (hrs : ∀ r ∈ rs, r.Ok) (hrl : rs.length ≤ 1048576) (rv : Value) (w : World) (hs : SeeR w rv rs) (ht : ITab w) :
    Calls Tryd.prog 6 #[.agg #[.int .i64 code, rv]] w fun e w' => e = .returned (.string (str (telL code rs))) ∧ Below w.heap.size w w' := by
  obtain ⟨a, c, rfl, hac, hcell⟩ := hs
  obtain ⟨W, hW⟩ : ∃ W, (w.alloc (.cells #[.int .i64 code, .slice a rs.length c] 25)).alloc (.cells #[.pointer none, .slice none 0 0] 37) = W := ⟨_, rfl⟩
  have hbW : Below w.heap.size w W := by rw [← hW]; exact ((Below.refl _ _).alloc (Nat.le_refl _) _).alloc (by simp) _
  have hsW : Hid (W.heap.size = w.heap.size + 1 + 1) := by show _ = _; rw [← hW]; simp
  have hrb : W.heap[w.heap.size]? = some (.cells #[.int .i64 code, .slice a rs.length c] 25 (0, 0)) := by
    rw [← hW]
    exact (Lib.alloc_old _ _ _ (by simp)).trans (heap_alloc_new _ _)
  have hu0 : Bu 37 [] (w.heap.size + 1) (w.heap.size + 1) [] W := by
    have h := Bu.new 37 [] (w.alloc (.cells #[.int .i64 code, .slice a rs.length c] 25))
    rw [show (w.alloc (.cells #[.int .i64 code, .slice a rs.length c] 25)).heap.size = w.heap.size + 1 by simp] at h
    rw [← hW]
    exact h
  have htW : ITab W := ht.below hbW ht.lt
  have h0 := numberWord_any code hc W htW
  have hil := itoa_len code hc.1 hc.2
  obtain ⟨x, hx⟩ : ∃ x, ({ data := #[99, 111, 100, 101, 32] } : ByteArray) ++ str (itoa code) ++ ({ data := #[10] } : ByteArray) = x := ⟨_, rfl⟩
  have hxs : x.size ≤ 26 := by rw [← hx, code_str, str_size]; simp [codeW]; omega
  have k0 : W.cell? ⟨w.heap.size, 0, none⟩ = some (.int .i64 code) := by rw [Lib.cell_of_heap hrb]; rfl
  go_enter Tryd.func6, Tryd.ntmps6
  go_wp2_with (go_at_call 10; refine h0.mono ?_)
  rintro e w1 ⟨rfl, hb1⟩
  clear h0 k0
  have hu1 := hu0.below hb1
  have h1 := bwrite_any okB (w.heap.size + 1) (w.heap.size + 1) [] x w1 hu1 (by simp; omega) (Nat.le_of_lt hu1.lt)
  have hxd : [] ++ x.data.toList = codeW ++ itoa code ++ [10] := by rw [← hx, code_str, str_data]; rfl
  rw [hxd] at h1
  have hwl : (codeW ++ itoa code ++ [10]).length ≤ 26 := by simp [codeW]; omega
  clear hxd
  have hz1 : ¬ 9223372036854775807 < 5 + (str (itoa code)).size := by rw [str_size]; omega
  have hz2 : ¬ 9223372036854775807 < 5 + (str (itoa code)).size + 1 := by rw [str_size]; omega
  go_wp2_with (go_at_call 9; refine h1.mono ?_)
  rintro e w2 ⟨rfl, ⟨hu2, hb2⟩, ho2⟩
  clear h1 hz1 hz2
  have hlt : w.heap.size < w.heap.size + 1 := Nat.lt_succ_self _
  have hltW : w.heap.size < W.heap.size := by rw [hsW.out]; omega
  have hr2 : w2.heap[w.heap.size]? = some (.cells #[.int .i64 code, .slice a rs.length c] 25 (0, 0)) := (hb2.block _ hlt).trans ((hb1.block _ hltW).trans hrb)
  have k1 : w2.cell? ⟨w.heap.size, 1, none⟩ = some (.slice a rs.length c) := by rw [Lib.cell_of_heap hr2]; rfl
  have HW : Hid (Below w.heap.size w w2) := (hbW.trans (hb1.mono (Nat.le_of_lt hltW))).trans (hb2.mono (Nat.le_succ _))
  have HC : Hid (rs ≠ [] → ∃ b off, a = some ⟨b, off, none⟩ ∧ b < w.heap.size ∧ ∀ (i : Nat) r, rs[i]? = some r → ResAt w b (off + i * 6) r) := hcell
  have HR : Hid (∀ r ∈ rs, r.Ok) := hrs
  obtain ⟨P, hP⟩ : ∃ P, codeW ++ itoa code ++ [10] = P := ⟨_, rfl⟩
  have HP : Hid (codeW ++ itoa code ++ [10] = P) := hP
  rw [hP] at hu2 hwl
  clear hP hcell hrs hb1 hb2 ho2 hr2 hu1 hu0 htW hil hxs hrb hbW
  go_wp2
  go_loopg [15] rs.length (fun gk i wr => ∃ j : Nat, j + gk = rs.length ∧ i = .int .i64 (j : Int) ∧ Hid (Bu 37 [] (w.heap.size + 1) (w.heap.size + 1) (P ++ rsL (rs.take j)) wr ∧ Below w.heap.size w wr))
  case atStart => exact ⟨0, by omega, rfl, by simpa [rsL] using hu2, HW.out⟩
  case round =>
    obtain ⟨j, hj, rfl, HI⟩ := hrel
    by_cases hlj : j < rs.length
    · have hltI : (j : Int) < (rs.length : Int) := by omega
      obtain ⟨r, hs⟩ : ∃ r, rs[j]? = some r := ⟨_, List.getElem?_eq_getElem hlj⟩
      obtain ⟨b, off, rfl, hbb, hcl⟩ := HC.out (fun e => by rw [e] at hs; simp at hs)
      have hat := (hcl j r hs).below hbb HI.out.2
      have hok := HR.out r (List.mem_of_getElem? hs)
      obtain ⟨nv, hsn, c0, c1, c2, c3, c4, c5⟩ := hat
      obtain ⟨na, nc, hnv⟩ : ∃ na nc, nv = .slice na r.names.length nc := by obtain ⟨na, nc, h, _⟩ := hsn; exact ⟨na, nc, h⟩
      subst hnv
      have hst := rsL_take rs j r hs
      clear hcl hs
      have hA := (Below.refl wr.heap.size wr).alloc (Nat.le_refl _) (.cells #[.int .i64 r.code, .string r.data, .int .i64 r.n, .slice na r.names.length nc, .int .i64 r.kind, .int .i64 r.size] 29)
      have h1 := resultLine_any r hok _ _ (hsn.below hA) (ht.below (HI.out.2.trans (hA.mono HI.out.2.size)) ht.lt)
      have hrl' := resL_len r hok
      have hll := rsL_len (rs.take j) fun r hr => HR.out r (List.mem_of_mem_take hr)
      rw [List.length_take] at hll
      have hz : ¬ 9223372036854775807 < (str (resL r)).size + 1 := by rw [str_size]; omega
      obtain ⟨y, hy⟩ : ∃ y, str (resL r) ++ ({ data := #[10] } : ByteArray) = y := ⟨_, rfl⟩
      have hyd : y.data.toList = resL r ++ [10] := by rw [← hy, nl_str, str_data]
      have hys : y.size = (resL r).length + 1 := by rw [size_eq, hyd]; simp
      unfold Rz.val at h1
      go_wp2_with (go_at_call 11; refine h1.mono ?_; rintro e w5 ⟨rfl, hb5⟩; clear h1)
      have hb5 := hA.trans (hb5.mono hA.size)
      have h2 := bwrite_any okB (w.heap.size + 1) (w.heap.size + 1) (P ++ rsL (rs.take j)) y w5 (HI.out.1.below hb5) (by rw [List.length_append]; omega) (Nat.le_of_lt (HI.out.1.below hb5).lt)
      rw [hyd, List.append_assoc, ← hst] at h2
      go_wp2_with (go_at_call 9; refine h2.mono ?_; rintro e w6 ⟨rfl, ⟨hu6, hb6⟩, ho6⟩; clear h2)
      have HJ : Hid (Bu 37 [] (w.heap.size + 1) (w.heap.size + 1) (P ++ rsL (rs.take (j + 1))) w6 ∧ Below w.heap.size w w6) :=
        ⟨hu6, (HI.out.2.trans (hb5.mono HI.out.2.size)).trans (hb6.mono (Nat.le_succ _))⟩
      clear hu6 hb6 ho6 hb5 HI c0 c1 c2 c3 c4 c5 hA
      go_wp2
      go_roundg (gk - 1)
      case measure => omega
      case rel => exact ⟨j + 1, by omega, by go_num, HJ⟩
    · obtain rfl : j = rs.length := by omega
      have hltI : ¬ (rs.length : Int) < (rs.length : Int) := by omega
      rw [List.take_length] at HI
      have h3 := bstring_any (w.heap.size + 1) (w.heap.size + 1) (P ++ rsL rs) wr HI.out.1
      have hR : P ++ rsL rs = telL code rs := by rw [← HP.out]; rfl
      rw [hR] at h3
      go_wp2_with (go_at_call 12; refine h3.mono ?_; rintro e w5 ⟨rfl, hb5⟩)
      go_wp2
      go_ret
      exact ⟨rfl, HI.out.2.trans (hb5.mono (Nat.le_succ _))⟩

set_option maxRecDepth 20000 in
set_option maxHeartbeats 1000000 in
theorem tell_any (code : Int) (hc : I64 code) (rs : List Rz) (hrs : ∀ r ∈ rs, r.Ok) (hrl : rs.length ≤ 1048576) (rv : Value) (w : World) (hs : SeeR w rv rs) (ht : ITab w) :
    Calls Tryd.prog 4 #[.agg #[.int .i64 code, rv]] w fun e w' => e = .returned (.string (str (telL code rs))) ∧ Below w.heap.size w w' := by
  have h0 := fun W hs ht => answerText_any code hc rs hrs hrl rv W hs ht
  obtain ⟨a, c, rfl, hac, hcell⟩ := hs
  have hA := (Below.refl w.heap.size w).alloc (Nat.le_refl _) (.cells #[.int .i64 code, .slice a rs.length c] 25)
  have hs : SeeR w (.slice a rs.length c) rs := ⟨a, c, rfl, hac, hcell⟩
  have h1 := h0 _ (hs.below hA) (ht.below hA ht.lt)
  go_enter Tryd.func4, Tryd.ntmps4
  go_wp2_with (go_at_call 6; refine h1.mono ?_; rintro e w5 ⟨rfl, hb5⟩)
  go_ret
  exact ⟨rfl, hA.trans (hb5.mono hA.size)⟩
end Go.Proofs.YtadhfhfnhcphiaaDoor.Sc
