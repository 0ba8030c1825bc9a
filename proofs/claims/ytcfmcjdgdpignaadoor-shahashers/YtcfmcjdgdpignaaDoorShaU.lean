import Derived.Test.YtcfmcjdgdpignaaDoorShaS
import Derived.Test.YtcfmcjdgdpignaaDoorRowT
import Derived.Deep.RegionHeldLaw
namespace Go.Proofs.YtcfmcjdgdpignaaDoor
open Go.RowKit Go.Lib Go.Deep

/-- a running sum's words and count, as they are read -/
def hread (p : Nat) (s : W8) (n : Nat) (w : World) : Prop :=
  w.cell? ⟨p, 1, none⟩ = some (.int .u32 (s.a : Int)) ∧ w.cell? ⟨p, 2, none⟩ = some (.int .u32 (s.b : Int)) ∧ w.cell? ⟨p, 3, none⟩ = some (.int .u32 (s.c : Int)) ∧ w.cell? ⟨p, 4, none⟩ = some (.int .u32 (s.d : Int)) ∧
  w.cell? ⟨p, 5, none⟩ = some (.int .u32 (s.e : Int)) ∧ w.cell? ⟨p, 6, none⟩ = some (.int .u32 (s.f : Int)) ∧ w.cell? ⟨p, 7, none⟩ = some (.int .u32 (s.g : Int)) ∧ w.cell? ⟨p, 8, none⟩ = some (.int .u32 (s.h : Int)) ∧
  w.cell? ⟨p, 73, none⟩ = some (.int .u64 (n : Int))
theorem Hs.read {w : World} {p : Nat} {s : W8} {r : List UInt8} {n : Nat} (h : Hs w p s r n) : hread p s n w := by
  have hw := h.words
  exact ⟨hw 0 _ rfl, hw 1 _ rfl, hw 2 _ rfl, hw 3 _ rfl, hw 4 _ rfl, hw 5 _ rfl, hw 6 _ rfl, hw 7 _ rfl, h.count⟩
theorem hread_lt {p : Nat} {s : W8} {n : Nat} {w : World} (h : hread p s n w) : p < w.heap.size := block_lt_of_cell h.1
theorem hread_under {p : Nat} {s : W8} {n B : Nat} {w w' : World} (h : hread p s n w) (hb : Below B w w') (hp : p < B) : hread p s n w' := by
  obtain ⟨h1, h2, h3, h4, h5, h6, h7, h8, h9⟩ := h
  have e : ∀ j, w'.cell? ⟨p, j, none⟩ = w.cell? ⟨p, j, none⟩ := fun j => hb.cell (p := ⟨p, j, none⟩) hp
  exact ⟨(e _).trans h1, (e _).trans h2, (e _).trans h3, (e _).trans h4, (e _).trans h5, (e _).trans h6, (e _).trans h7, (e _).trans h8, (e _).trans h9⟩

theorem hread_below {p : Nat} {s : W8} {n : Nat} {w w' : World} (h : hread p s n w) (hb : Below w.heap.size w w') : hread p s n w' := hread_under h hb (hread_lt h)

set_option maxRecDepth 20000 in
set_option maxHeartbeats 1000000 in
theorem state_any {w : World} {p : Nat} {s : W8} {r : List UInt8} {n : Nat} (hh : Hs w p s r n) :
    Calls Tryd.prog 7 #[.pointer (some ⟨p, 0, none⟩)] w fun e w' => e = .returned (.string (str (stateL s r n))) ∧ Below w.heap.size w w' := by
  obtain ⟨i0, hi, hz0, hz1, hz2⟩ := info_parts info5
  have hmade := hh.made
  have hok := hh.ok
  have hrd := hh.read
  have hbig := hh.big
  have hlen := hh.len
  have hsz : (str (wtext s)).size ≤ maxLen := by rw [str_size, wtext_length]; unfold maxLen; omega
  have hX0 := bytes_any (str (wtext s)) hsz
  rw [str_data] at hX0
  obtain ⟨V, hX1⟩ := Classical.skolem.1 hX0
  obtain ⟨X, hX⟩ := Classical.skolem.1 hX1
  clear hX0 hX1
  have hcv : ∀ W, (convert 9 57 (.string (str (wtext s)))).run Tryd.prog W = .ok (V W) (X W) := fun W => (hX W).1
  have HX : Hid (∀ W, RowF (X W) W.heap.size 5 (V W) (byteCells (wtext s)) ∧ Below W.heap.size W (X W)) := fun W => (hX W).2
  clear hX
  have HP : Hid (p < w.heap.size) := hh.lt
  have HRD : Hid (∀ w', Below w.heap.size w w' → hread p s n w') := fun w' hb => hread_below hrd hb
  have HH : Hid (Hs w p s r n) := hh
  go_enter Tryd.func7, Tryd.ntmps7
  go_wp2_with (first | (go_at_call 18; refine (there_yes hmade).mono ?_; rintro e w' ⟨rfl, rfl⟩) | fail)
  obtain ⟨x1, x2, x3, x4, x5, x6, x7, x8, x9⟩ := hrd
  have KS : Hid (∀ W w', hread p s n W → Below W.heap.size W w' → hread p s n w') := fun W w' => hread_below
  have KN : Hid (∀ W w', hread p s n (X W) → w.heap.size ≤ W.heap.size → Below W.heap.size (X W) w' → hread p s n w') := fun W w' h1 h2 h3 => hread_under h1 h3 (Nat.lt_of_lt_of_le HP.out h2)
  go_region_held_law (fun w' => w'.cell? ⟨p, 1, none⟩ = some (.int .u32 (s.a : Int)) ∧ w'.cell? ⟨p, 2, none⟩ = some (.int .u32 (s.b : Int)) ∧ w'.cell? ⟨p, 3, none⟩ = some (.int .u32 (s.c : Int)) ∧ w'.cell? ⟨p, 4, none⟩ = some (.int .u32 (s.d : Int)) ∧
    w'.cell? ⟨p, 5, none⟩ = some (.int .u32 (s.e : Int)) ∧ w'.cell? ⟨p, 6, none⟩ = some (.int .u32 (s.f : Int)) ∧ w'.cell? ⟨p, 7, none⟩ = some (.int .u32 (s.g : Int)) ∧ w'.cell? ⟨p, 8, none⟩ = some (.int .u32 (s.h : Int)) ∧ w'.cell? ⟨p, 73, none⟩ = some (.int .u64 (n : Int)))
    (first | exact KS.out _ _ (by assumption) (by assumption) | exact KS.out _ _ (by assumption) (HX.out _).2 | exact KN.out w4 _ (by assumption) hb4.size hb5 | go_keep)
    (first | (go_at_call 20; refine (text_any s hok _).mono ?_; rintro e w4 ⟨rfl, hb4⟩) | (go_at_call 19; refine (numberF_any w4.heap.size (V w4) (wtext s) n _ (HX.out w4).2.size (HX.out w4).1 (by rw [wtext_length]; omega)).mono ?_; rintro e w5 ⟨v5, rfl, hr5, hb5⟩))
  clear x1 x2 x3 x4 x5 x6 x7 x8 KS KN hcv
  have hb5' : Below w.heap.size w w5 := (((Below.refl w.heap.size w).drew.trans hb4).trans ((HX.out w4).2.mono hb4.size)).trans (hb5.mono hb4.size)
  have hrd5 := HRD.out _ hb5'
  have c73 : w5.cell? ⟨p, 73, none⟩ = some (.int .u64 (n : Int)) := hrd5.2.2.2.2.2.2.2.2
  have hrest : w5.rangeAt p 9 (byteCells (r ++ zeros (64 - r.length))) := (HH.out.below hb5' HP.out).rest
  have hsz5 : w4.heap.size ≤ w5.heap.size := Nat.le_trans (HX.out w4).2.size hb5.size
  have HW4 : Hid (w.heap.size ≤ w4.heap.size) := hb4.size
  have HB5 : Hid (Below w.heap.size w w5) := hb5'
  clear hb4 hb5 HX hb5' hrd5
  have hfl := filled_any (w := w5.drew) c73 hbig
  have hrl : r.length ≤ 64 := by omega
  rw [← hlen] at hfl
  clear hlen
  have hnews : ∀ j u, (byteCells r)[j]? = some u → w5.drew.cell? ((⟨p, 9, none⟩ : Addr).add j) = some u := by
    intro j u hu
    rw [Addr.add_lit]
    refine hrest j u ?_
    rw [byteCells_append, List.getElem?_append_left (List.getElem?_eq_some_iff.1 hu).1]
    exact hu
  have hl40 : (byteCells (wtext s ++ be8 n)).length = 40 := by rw [byteCells_length, List.length_append, wtext_length, be8_length]
  have hml : (byteCells (wtext s ++ be8 n)).length + r.length ≤ maxLen := by unfold maxLen; omega
  have hby : ((byteCells (wtext s ++ be8 n)).length + r.length) * 1 ≤ 140737488355328 := by omega
  have r0 : (0 : Int) ≤ (r.length : Int) := by omega
  have r64 : (r.length : Int) ≤ 64 := by omega
  have HE : Hid (stateL s r n = (wtext s ++ be8 n) ++ r) := by show _ = _; rw [stateL, List.append_assoc]
  have hdr : RowF w5.drew w4.heap.size 5 v5 (byteCells (wtext s ++ be8 n)) := hr5
  have c73' : w5.drew.cell? ⟨p, 73, none⟩ = some (.int .u64 (n : Int)) := c73
  have KN : Hid (∀ w', Below w4.heap.size w5.drew w' → w'.cell? ⟨p, 73, none⟩ = some (.int .u64 (n : Int))) := fun w' hb => (hb.cell (p := ⟨p, 73, none⟩) (Nat.lt_of_lt_of_le HP.out HW4.out)).trans c73'
  clear hrest hr5 x9
  go_wp2_with fail
  go_region_held_law (fun w' => w'.cell? ⟨p, 73, none⟩ = some (.int .u64 (n : Int))) (first | exact KN.out _ hb6 | go_keep) (first | (go_at_call 17; refine hfl.mono ?_; rintro e w' ⟨rfl, rfl⟩) | (refine step_append_rowF rfl _ _ 57 rfl w4.heap.size 5 i0 (.int .u8 0) 1 Tryd.underlying57 hi hz0 hz1 hz2 rfl _ _ rfl hdr ⟨p, 9, none⟩ r.length 64 (byteCells r) (by simp [Act.eval]) (byteCells_length _) hnews (byteCells_one _) hml hby hsz5 ?_; intro v6 w6 hr6 hb6; rw [← byteCells_append] at hr6; have hcv6 := convert_rowF (P := Tryd.prog) w6 57 9 5 w4.heap.size _ _ Tryd.underlying57 Tryd.underlying5 Tryd.underlying9 hr6))
  all_goals
    go_wp2
    go_ret
    rw [HE.out]
    exact ⟨rfl, (HB5.out.drew).trans (hb6.mono HW4.out)⟩

end Go.Proofs.YtcfmcjdgdpignaaDoor
