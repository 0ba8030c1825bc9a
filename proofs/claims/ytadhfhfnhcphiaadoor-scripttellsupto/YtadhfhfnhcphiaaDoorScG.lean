import Derived.Test.YtadhfhfnhcphiaaDoorScF
namespace Go.Proofs.YtadhfhfnhcphiaaDoor.Sc
open Go.RowKit Go.Lib

/-- texts that can be read -/
def SeeS (w : World) (v : Value) (L : List ByteArray) : Prop :=
  ∃ a c, v = .slice a L.length c ∧ L.length ≤ c ∧ (L ≠ [] → ∃ b off, a = some ⟨b, off, none⟩ ∧ b < w.heap.size ∧ ∀ (i : Nat) s, L[i]? = some s → w.cell? ⟨b, off + i, none⟩ = some (.string s))
theorem SeeS.below {w w' : World} {v : Value} {L : List ByteArray} (h : SeeS w v L) (hb : Below w.heap.size w w') : SeeS w' v L := by
  obtain ⟨a, c, h1, h2, h4⟩ := h
  refine ⟨a, c, h1, h2, fun hn => ?_⟩
  obtain ⟨b, off, e, hlt, hc⟩ := h4 hn
  exact ⟨b, off, e, Nat.lt_of_lt_of_le hlt hb.size, fun i s hs => (hb.cell (p := ⟨b, off + i, none⟩) hlt).trans (hc i s hs)⟩
/-- a result -/
structure Rz where
  code : Int
  data : ByteArray
  n : Int
  names : List ByteArray
  kind : Int
  size : Int
deriving Inhabited
def Rz.val (r : Rz) (nv : Value) : Value := .agg #[.int .i64 r.code, .string r.data, .int .i64 r.n, nv, .int .i64 r.kind, .int .i64 r.size]
structure Rz.Ok (r : Rz) : Prop where
  code : I64 r.code
  n : I64 r.n
  kind : I64 r.kind
  size : I64 r.size
  data : r.data.size ≤ 1048576
  each : ∀ s ∈ r.names, s.size ≤ 1048576
  all : (r.names.map fun s => s.size + 1).sum ≤ 1048576
def byL (s : ByteArray) : List UInt8 := 61 :: wrL s.data.toList
def nsL (L : List ByteArray) : List UInt8 := L.flatMap fun s => 32 :: byL s
theorem byL_len (s : ByteArray) : (byL s).length ≤ 1 + 3 * s.size := by
  have := wrL_len s.data.toList
  rw [← size_eq] at this
  simp only [byL, List.length_cons]
  omega
theorem nsL_take (L : List ByteArray) (k : Nat) (s : ByteArray) (h : L[k]? = some s) : nsL (L.take (k + 1)) = nsL (L.take k) ++ 32 :: byL s := by
  have e : L.take (k + 1) = L.take k ++ [s] := by
    rw [List.take_add_one, h]
    rfl
  rw [e]
  simp [nsL]
theorem nsL_len (L : List ByteArray) : (nsL L).length ≤ 3 * (L.map fun s => s.size + 1).sum := by
  induction L with
  | nil => simp [nsL]
  | cons a t ih =>
    have h1 := byL_len a
    simp only [nsL, List.flatMap_cons, List.length_append, List.length_cons, List.map_cons, List.sum_cons] at ih ⊢
    omega
theorem len_sum (L : List ByteArray) : L.length ≤ (L.map fun s => s.size + 1).sum := by
  induction L with
  | nil => simp
  | cons a t ih =>
    simp only [List.length_cons, List.map_cons, List.sum_cons]
    omega
theorem sum_take (L : List Nat) (k : Nat) : (L.take k).sum ≤ L.sum := by
  have h := congrArg List.sum (List.take_append_drop k L)
  rw [List.sum_append] at h
  omega
def resWord : List UInt8 := [114, 101, 115, 117, 108, 116]
def resL (r : Rz) : List UInt8 := resWord ++ nmL [r.code, r.n, r.kind, r.size] ++ 32 :: byL r.data ++ nsL r.names

theorem res_cells {w : World} {g : Nat} {t : TypeId} {a b c d e f : Value} (h : w.heap[g]? = some (.cells #[a, b, c, d, e, f] t (0, 0))) :
    w.cell? ⟨g, 0, none⟩ = some a ∧ w.cell? ⟨g, 1, none⟩ = some b ∧ w.cell? ⟨g, 2, none⟩ = some c ∧ w.cell? ⟨g, 3, none⟩ = some d ∧ w.cell? ⟨g, 4, none⟩ = some e ∧ w.cell? ⟨g, 5, none⟩ = some f := by
  refine ⟨?_, ?_, ?_, ?_, ?_, ?_⟩ <;> (rw [Lib.cell_of_heap h]; rfl)

set_option maxRecDepth 20000 in
set_option maxHeartbeats 2000000 in
theorem resultLine_any (r : Rz) (hr : r.Ok) (nv : Value) (w : World) (hs : SeeS w nv r.names) (ht : ITab w) :
    Calls Tryd.prog 11 #[r.val nv] w fun e w' => e = .returned (.string (str (resL r))) ∧ Below w.heap.size w w' := by
  obtain ⟨code, data, n, names, kind, size⟩ := r
  obtain ⟨hc, hn, hk, hz, hd, hel, hal⟩ := hr
  simp only at hc hn hk hz hd hel hal hs
  obtain ⟨a, c, rfl, hac, hcell⟩ := hs
  unfold Rz.val
  obtain ⟨W, hW⟩ : ∃ W, w.alloc (.cells #[.int .i64 code, .string data, .int .i64 n, .slice a names.length c, .int .i64 kind, .int .i64 size] 29) = W := ⟨_, rfl⟩
  have hbW : Below w.heap.size w W := by rw [← hW]; exact (Below.refl _ _).alloc (Nat.le_refl _) _
  have hlt : w.heap.size < W.heap.size := by rw [← hW]; simp
  have hrb : W.heap[w.heap.size]? = some (.cells #[.int .i64 code, .string data, .int .i64 n, .slice a names.length c, .int .i64 kind, .int .i64 size] 29 (0, 0)) := by rw [← hW]; exact heap_alloc_new _ _
  obtain ⟨x, hx, hxl⟩ : ∃ x : ByteArray, x = { data := #[114, 101, 115, 117, 108, 116] } ∧ x.data.toList = resWord := ⟨_, rfl, rfl⟩
  have hxs : x.size = 6 := by rw [hx]; rfl
  have h0 := lineOf_any x (by omega) W
  rw [hxl] at h0
  rw [hx] at h0
  clear hx hxl hxs
  go_enter Tryd.func11, Tryd.ntmps11
  go_wp2_with (go_at_call 16; refine h0.mono ?_)
  rintro e w1 ⟨rfl, hu1, hb1⟩
  clear h0
  have hr1 := (hb1.block _ hlt).trans hrb
  obtain ⟨k0, k1, k2, k3, k4, k5⟩ := res_cells hr1
  have hbL := hbW.trans (hb1.mono (Nat.le_of_lt hlt))
  have hgL : 0 < W.heap.size := Nat.lt_trans ht.lt hlt
  have hlt1 := hu1.lt
  have hA1 := (Below.refl w1.heap.size w1).alloc (Nat.le_refl _) (.cells #[.int .i64 code, .int .i64 n, .int .i64 kind, .int .i64 size] 3)
  have h1 := numbers_any false W.heap.size w1.heap.size 4 4 [code, n, kind, size] resWord _ (hu1.below hA1) (ht.below (hbL.trans (hA1.mono (Nat.le_trans hbL.size (Nat.le_refl _)))) ht.lt) hgL (Nat.ne_of_gt hlt1) (heap_alloc_new _ _) rfl (by simp; exact ⟨hc, hn, hk, hz⟩) (by decide) (by decide)
  go_wp2_with (go_at_call 17; refine h1.mono ?_)
  rintro e w2 ⟨rfl, ⟨hu2, hb2⟩, ho2⟩
  clear h1
  have hb2 := (hA1.mono (Nat.le_of_lt hlt1)).trans hb2
  have hr2 := (hb2.block _ hlt).trans hr1
  clear ho2 hA1 k0 k1 k2 k3 k4 k5
  obtain ⟨k0, k1, k2, k3, k4, k5⟩ := res_cells hr2
  have hl2 : (resWord ++ nmL [code, n, kind, size]).length ≤ 90 := by
    have := nmL_len [code, n, kind, size] (by simp; exact ⟨hc, hn, hk, hz⟩)
    simp only [List.length_append, List.length_cons, List.length_nil] at this ⊢
    have e : resWord.length = 6 := rfl
    omega
  have h2 := byteWord_any data (by omega) w2
  go_wp2_with (go_at_call 19; refine h2.mono ?_)
  rintro e w3 ⟨rfl, hb3⟩
  clear h2
  have hu3 := hu2.below hb3
  have hdl := byL_len data
  have h3 := word_any false W.heap.size (resWord ++ nmL [code, n, kind, size]) (str (byL data)) w3 hu3 (by rw [str_size]; omega)
  rw [str_data] at h3
  go_wp2_with (go_at_call 18; refine h3.mono ?_)
  rintro e w4 ⟨rfl, ⟨hu4, hb4⟩, ho4⟩
  clear h3
  have hb4 := (hb2.trans (hb3.mono (Nat.le_of_lt hu2.lt))).trans hb4
  have hr4 := (hb4.block _ hlt).trans hr1
  clear ho4 hb3 hu3 k0 k1 k2 k3 k4 k5 hr2 hb2
  obtain ⟨k0, k1, k2, k3, k4, k5⟩ := res_cells hr4
  obtain ⟨P, hP⟩ : ∃ P, resWord ++ nmL [code, n, kind, size] ++ 32 :: byL data = P := ⟨_, rfl⟩
  have HP : Hid (resWord ++ nmL [code, n, kind, size] ++ 32 :: byL data = P) := hP
  have hPl : P.length ≤ 4194304 := by rw [← hP]; simp only [List.length_append, List.length_cons] at hl2 ⊢; omega
  rw [hP] at hu4
  clear hP
  have hbw4 : Below w.heap.size w w4 := hbL.trans (hb4.mono (Nat.le_of_lt hlt))
  have HT : Hid (ITab w4) := ht.below hbw4 ht.lt
  have HW : Hid (Below w.heap.size w w4) := hbw4
  have HC : Hid (names ≠ [] → ∃ b off, a = some ⟨b, off, none⟩ ∧ b < w.heap.size ∧ ∀ (i : Nat) s, names[i]? = some s → w.cell? ⟨b, off + i, none⟩ = some (.string s)) := hcell
  clear hcell hb1 hr1 hbL hlt1 hu1 hu2 hb2 hl2 hdl hb4 hrb hbW hr4 hbw4
  have hnl : names.length ≤ 1048576 := Nat.le_trans (len_sum names) hal
  go_wp2
  go_loopg [26] names.length (fun gk i wr => ∃ j : Nat, j + gk = names.length ∧ i = .int .i64 (j : Int) ∧ Hid (Ln false W.heap.size (P ++ nsL (names.take j)) wr ∧ Below w.heap.size w wr))
  case atStart => exact ⟨0, by omega, rfl, by simpa [nsL] using hu4, HW.out⟩
  case round =>
    obtain ⟨j, hj, rfl, HI⟩ := hrel
    by_cases hlj : j < names.length
    · have hltI : (j : Int) < (names.length : Int) := by omega
      obtain ⟨s, hs⟩ : ∃ s, names[j]? = some s := ⟨_, List.getElem?_eq_getElem hlj⟩
      obtain ⟨b, off, rfl, hbb, hcl⟩ := HC.out (fun e => by rw [e] at hs; simp at hs)
      have c1 : wr.cell? ⟨b, off + j, none⟩ = some (.string s) := (HI.out.2.cell (p := ⟨b, off + j, none⟩) hbb).trans (hcl j s hs)
      have hsz := hel s (List.mem_of_getElem? hs)
      have hll := nsL_len (names.take j)
      have hst := nsL_take names j s hs
      have hsum : ((names.take j).map fun s => s.size + 1).sum ≤ 1048576 := by
        rw [List.map_take]
        exact Nat.le_trans (sum_take _ _) hal
      have h1 := byteWord_any s (by omega) wr
      have hyl := byL_len s
      clear hs hcl
      go_wp2_with (go_at_call 19; refine h1.mono ?_; rintro e w5 ⟨rfl, hb5⟩; clear h1)
      have h2 := word_any false W.heap.size (P ++ nsL (names.take j)) (str (byL s)) w5 (HI.out.1.below hb5) (by rw [List.length_append, str_size]; omega)
      rw [str_data, List.append_assoc, ← hst] at h2
      go_wp2_with (go_at_call 18; refine h2.mono ?_; rintro e w6 ⟨rfl, ⟨hu6, hb6⟩, ho6⟩; clear h2)
      have HJ : Hid (Ln false W.heap.size (P ++ nsL (names.take (j + 1))) w6 ∧ Below w.heap.size w w6) :=
        ⟨hu6, (HI.out.2.trans (hb5.mono HI.out.2.size)).trans (hb6.mono (Nat.le_of_lt hlt))⟩
      clear hu6 hb6 ho6 hb5 HI c1
      go_wp2
      go_roundg (gk - 1)
      case measure => omega
      case rel => exact ⟨j + 1, by omega, by go_num, HJ⟩
    · obtain rfl : j = names.length := by omega
      have hltI : ¬ (names.length : Int) < (names.length : Int) := by omega
      rw [List.take_length] at HI
      have h3 := bstring_any W.heap.size W.heap.size (P ++ nsL names) wr HI.out.1
      have hR : P ++ nsL names = resL ⟨code, data, n, names, kind, size⟩ := by rw [← HP.out]; rfl
      rw [hR] at h3
      go_wp2_with (go_at_call 12; refine h3.mono ?_; rintro e w5 ⟨rfl, hb5⟩)
      go_wp2
      go_ret
      exact ⟨rfl, HI.out.2.trans (hb5.mono (Nat.le_of_lt hlt))⟩
end Go.Proofs.YtadhfhfnhcphiaaDoor.Sc
