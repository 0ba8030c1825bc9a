import Derived.Test.YtpjigcccjiidpaaExIc
import Derived.Test.YtpjigcccjiidpaaExG
namespace Go.Proofs.Ytpjigcccjiidpaa.Ex
open Go.RowKit Go.Lib Go.Deep

/-- what lies at the end of a call: the contents' list and its texts -/
def Ans (o g k c : Nat) (cs : List (List UInt8)) (X : World) : Prop := X.cell? ⟨o, 1, none⟩ = some (.slice (some ⟨g, 0, none⟩) k c) ∧ ∀ (i : Nat) s, cs[i]? = some s → X.cell? ⟨g, i, none⟩ = some (.string (str s))
def CallTo (V : World) (Sa Ca : Array Value) (k m k' : Nat) (a : Option Addr) (n c : Nat) (cs' : List (List UInt8)) : Prop :=
  ∃ W1, V.alloc (.cells Sa 35) = W1 ∧ Calls Try.prog 10 #[.slice a n c] W1 fun e w3 => ∃ a3 c3, e = .returned (.slice a3 n c3) ∧ ∃ W2, w3.alloc (.cells Ca 9) = W2 ∧
      Calls Try.prog 9 #[.agg #[.slice (some ⟨V.heap.size, 0, none⟩) k k, .slice a3 n c3], .slice (some ⟨w3.heap.size, 0, none⟩) m m] W2 fun e w4 => ∃ q g c, e = .returned (.tuple #[.agg #[.slice (some ⟨q, 0, none⟩) n n, .slice (some ⟨g, 0, none⟩) k' c], .int .i64 0]) ∧ ∃ U, w4.alloc (.cells #[.slice (some ⟨q, 0, none⟩) n n, .slice (some ⟨g, 0, none⟩) k' c] 30) = U ∧ Hid (Below V.heap.size V U) ∧ Hid (∀ X, Below U.heap.size U X → Ans w4.heap.size g k' c cs' X)
theorem call_some (V : World) (sl : List Sl) (Sa : Array Value) (k : Nat) (hk : sl.length = k) (hSa : Sa.toList = slsC sl) (E : List Ef) (a : Option Addr) (n c : Nat) (hE : See V 7 (.slice a n c) n (efsC E)) (hn : E.length = n) (hn6 : n ≤ 1000) (cs : List (List UInt8)) (Ca : Array Value) (m : Nat) (hm : cs.length = m) (hCa : Ca.toList = scC (cs.map str)) (hk6 : k ≤ 1000) (hw1 : ∀ s ∈ sl, wf s.wa ∧ wf s.fi) (hw2 : ∀ e ∈ E, EfW e) (hc : ∀ c ∈ cs, c.length ≤ 549755813888) (rs : List Rs) (cs' : List (List UInt8)) (happ : app sl (E.map mkS) cs = some (rs, cs')) (k' : Nat) (hk' : cs'.length = k') (h0 : 0 < k') :
    CallTo V Sa Ca k m k' a n c cs' := by
  obtain ⟨W1, hW1, hca⟩ := law_call V sl Sa k hk hSa E a n c hE hn hn6 cs Ca m hm hCa hk6 hw1 hw2 hc
  refine ⟨W1, hW1, hca.mono ?_⟩
  rintro e w3 ⟨a3, c3, rfl, W2, hW2, hap⟩
  refine ⟨a3, c3, rfl, W2, hW2, hap.mono ?_⟩
  rintro e w4 ⟨hP, HB⟩
  obtain ⟨-, q, a', l', c', R, rfl, hO⟩ := ap_some happ hP
  obtain rfl : l' = k' := by have := hO.cl; omega
  obtain ⟨g, rfl, -, -⟩ := hO.text (i := 0) (List.getElem?_eq_getElem (by omega))
  obtain ⟨U, hU, hbU, kU⟩ := one_new w4 #[.slice (some ⟨q, 0, none⟩) n n, .slice (some ⟨g, 0, none⟩) l' c'] 30
  refine ⟨q, g, c', rfl, U, hU, HB.out.trans (hbU.mono HB.out.size), fun X hX => ⟨(cell_of_heap ((hX.block _ (heap_lt kU)).trans kU)).trans rfl, fun i s hi => ?_⟩⟩
  obtain ⟨g', e, hlt, hcell⟩ := hO.text hi
  injection e with e
  injection e with e
  subst e
  have hb := hbU.trans (hX.mono hbU.size)
  exact (hb.cell (p := ⟨g, i, none⟩) hlt).trans hcell
theorem ef_of {f : Int} {t : List UInt8} {e : Ef} {z : Nat} (h : IsE f t e z) (hf : wf f) : EfW e := by
  refine ⟨?_, ?_, ?_, ?_⟩
  · rw [h.fl]; exact hf
  · rw [h.gn]; unfold wf; decide
  · have := h.at_; omega
  · have := h.da; omega
theorem wf_52 {f : Int} (h : f = 5 ∨ f = 2) : wf f := by rcases h with rfl | rfl <;> (unfold wf; decide)
theorem mix_call (V : World) (l : List Bo) (a b c : List UInt8) (ha : a.length ≤ 300) (hb : b.length ≤ 300) (hc : c.length ≤ 300) (p : Option Addr) (n cc : Nat) (hE : See V 7 (.slice p n cc) n (efsC (mixE a.length b.length l))) (hl : l.length = n) (hn : n ≤ 60) : CallTo V #[.int .i64 0, .int .i64 5, .int .i64 5, .int .i64 0, .int .i64 0, .int .i64 0, .int .i64 0, .int .i64 0, .int .i64 0, .int .i64 2, .int .i64 2, .int .i64 0] #[.string (str a), .string (str c), .string (str b)] 3 3 3 p n cc [runs a (edsE 5 a.length (fstB l)), c, runs b (edsE 2 b.length (sndB l))] :=
  call_some V [⟨0, 5, 5, 0⟩, ⟨0, 0, 0, 0⟩, ⟨0, 2, 2, 0⟩] #[.int .i64 0, .int .i64 5, .int .i64 5, .int .i64 0, .int .i64 0, .int .i64 0, .int .i64 0, .int .i64 0, .int .i64 0, .int .i64 2, .int .i64 2, .int .i64 0] 3 rfl rfl _ p n cc hE (by rw [mixE_len]; exact hl) (by omega) [a, c, b] #[.string (str a), .string (str c), .string (str b)] 3 rfl rfl (by decide)
    (fun s hs => by simp at hs; rcases hs with rfl | rfl | rfl <;> (unfold wf; decide)) (fun e he => by obtain ⟨f, t, z, hf, h⟩ := mix_is l a b e he; exact ef_of h (wf_52 hf)) (fun s hs => by simp at hs; rcases hs with rfl | rfl | rfl <;> omega) _ _ (app_mix l a b c) 3 rfl (by decide)
theorem file_call (f : Int) (hf : f = 5 ∨ f = 2) (V : World) (A : List Ed) (s : List UInt8) (hs : s.length ≤ 300) (p : Option Addr) (n cc : Nat) (hE : See V 7 (.slice p n cc) n (efsC (edsE f s.length A))) (hl : A.length = n) (hn : n ≤ 60) : CallTo V #[.int .i64 0, .int .i64 f, .int .i64 f, .int .i64 0] #[.string (str s)] 1 1 1 p n cc [runs s (edsE f s.length A)] :=
  call_some V [⟨0, f, f, 0⟩] #[.int .i64 0, .int .i64 f, .int .i64 f, .int .i64 0] 1 rfl rfl _ p n cc hE (by rw [edsE_len]; exact hl) (by omega) [s] #[.string (str s)] 1 rfl rfl (by decide)
    (fun x hx => by simp at hx; subst hx; exact ⟨wf_52 hf, wf_52 hf⟩) (fun e he => by obtain ⟨t, z, h⟩ := eds_is f A s e he; exact ef_of h (wf_52 hf)) (fun x hx => by simp at hx; subst hx; omega) _ _ (app_file f (by rcases hf with rfl | rfl <;> decide) A s) 1 rfl (by decide)
end Go.Proofs.Ytpjigcccjiidpaa.Ex
