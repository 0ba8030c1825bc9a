import Derived.Test.YtcfmcjdgdpignaaDoorRefT
import Derived.Test.YtcfmcjdgdpignaaDoorShaV
import Derived.Deep.RegionHeld
import Derived.Deep.Cut
namespace Go.Proofs.YtcfmcjdgdpignaaDoor
open Go.RowKit Go.Lib

/-- the cells of the reference's Hasher: the words that it began with, the bytes ahead, the rest -/
def rcells (f : W8) (ah : Nat) (t : ByteArray) : Array Value := (i64L f.list ++ [Value.int .i64 (ah : Int), Value.string t]).toArray
/-- the reference's Hasher -/
def Rh (w : World) (p : Nat) (f : W8) (ah : Nat) (t : ByteArray) : Prop := w.heap[p]? = some (.cells (rcells f ah t) 73 (0, 0))
section
variable {w w' : World} {p ah : Nat} {f : W8} {t : ByteArray}
theorem Rh.below {B : Nat} (h : Rh w p f ah t) (hb : Below B w w') (hp : p < B) : Rh w' p f ah t := (hb.block p hp).trans h
theorem Rh.only {S : List Nat} (h : Rh w p f ah t) (hb : Only S w w') (hp : p ∉ S) : Rh w' p f ah t := (hb.block p (heap_lt h) hp).trans h
theorem Rh.lt (h : Rh w p f ah t) : p < w.heap.size := heap_lt h
theorem Rh.kept (h : Rh w p f ah t) (hk : w'.heap[p]? = w.heap[p]?) : Rh w' p f ah t := hk.trans h
theorem Rh.from_ (h : Rh w p f ah t) : w.rangeAt p 0 (i64L f.list) := range_of_heap (pre := []) (post := [Value.int .i64 (ah : Int), Value.string t]) h rfl
theorem Rh.ahead (h : Rh w p f ah t) : w.cell? ⟨p, 8, none⟩ = some (.int .i64 (ah : Int)) := (cell_of_heap h).trans rfl
theorem Rh.text (h : Rh w p f ah t) : w.cell? ⟨p, 9, none⟩ = some (.string t) := (cell_of_heap h).trans rfl
end

theorem rcount_any {w : World} {p ah : Nat} {f : W8} {t : ByteArray} (h : Rh w p f ah t) (hs : ah + t.size ≤ 1099511627776) :
    Calls Tryd.prog 32 #[.pointer (some ⟨p, 0, none⟩)] w fun e w' => e = .returned (.int .i64 ((ah + t.size : Nat) : Int)) ∧ Below w.heap.size w w' := by
  have c1 := h.ahead
  have c2 := h.text
  go_enter Tryd.func32, Tryd.ntmps32
  go_wp2_with fail
  go_quiet (fail)
  go_wp2
  go_ret
  exact ⟨by simp, below_drewN w nq⟩

theorem rwrite_big {w : World} {p ah : Nat} {f : W8} {t : ByteArray} (h : Rh w p f ah t) (s : ByteArray) (hs : ah + t.size ≤ 1099511627776) (hd : s.size ≤ 140737488355328) (hb : 1099511627776 < ah + t.size + s.size) :
    Calls Tryd.prog 29 #[.pointer (some ⟨p, 0, none⟩), .string s] w fun e w' => e = .returned (.int .i64 3) ∧ Below w.heap.size w w' := by
  have c1 := h.ahead
  have c2 := h.text
  have hi : (1099511627776 : Int) < (ah : Int) + (t.size : Int) + (s.size : Int) := by omega
  go_enter Tryd.func29, Tryd.ntmps29
  go_wp2_with fail
  go_quiet (fail)
  go_wp2
  go_ret
  exact ⟨rfl, below_drewN w nq⟩
theorem rwrite_any {w : World} {p ah : Nat} {f : W8} {t : ByteArray} (h : Rh w p f ah t) (s : ByteArray) (hb : ah + t.size + s.size ≤ 1099511627776) :
    Calls Tryd.prog 29 #[.pointer (some ⟨p, 0, none⟩), .string s] w fun e w' => e = .returned (.int .i64 0) ∧ Rh w' p f ah (t ++ s) ∧ Only [p] w w' := by
  have c1 := h.ahead
  have c2 := h.text
  have f1 : w.frozen? ⟨p, 9, none⟩ = false := frozen_of_heap h
  have hi : ¬ (1099511627776 : Int) < (ah : Int) + (t.size : Int) + (s.size : Int) := by omega
  have h2 : t.size + s.size ≤ 9223372036854775807 := by omega
  have HM : Hid (∀ n, Rh ((w.drewN n).setCell ⟨p, 9, none⟩ (.string (t ++ s))) p f ah (t ++ s) ∧ Only [p] w ((w.drewN n).setCell ⟨p, 9, none⟩ (.string (t ++ s)))) := fun n => by
    have o : Only [p] w (w.drewN n) := ⟨rfl, rfl, rfl, Nat.le_refl _, fun _ _ _ => rfl⟩
    exact ⟨heap_setCell_same (w.drewN n) _ 9 _ _ (.string (t ++ s)) h, o.setCell (by simp) _⟩
  clear h
  go_enter Tryd.func29, Tryd.ntmps29
  go_wp2_with fail
  go_quiet (fail)
  go_wp2
  go_ret
  exact ⟨rfl, HM.out nq⟩

end Go.Proofs.YtcfmcjdgdpignaaDoor
