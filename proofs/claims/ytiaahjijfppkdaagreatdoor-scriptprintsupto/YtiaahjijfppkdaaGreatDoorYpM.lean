import Derived.Test.YtiaahjijfppkdaaGreatDoorSyJ
import Derived.Test.YtiaahjijfppkdaaGreatDoorYnM
import Derived.Test.YtiaahjijfppkdaaGreatDoorYgM
namespace Go.Proofs.YtiaahjijfppkdaaGreatDoor.Sc
open Go.RowKit Go.Lib Go.Deep

theorem RowF.lower {w : World} {B B' : Nat} {e : TypeId} {v : Value} {xs : List Value} (h : RowF w B e v xs) (hB : B' ≤ B) : RowF w B' e v xs := by
  obtain ⟨g, cap, cur, fr, r1, r2, r3⟩ := h
  exact ⟨g, cap, cur, fr, r1, Nat.le_trans hB r2, r3⟩
theorem Moved.cons {a : ActV} {t V' : List ActV} (h : Moved (a :: t) V') : ∃ b c t', V' = ({ a.1 with ops := b, cops := c }, a.2) :: t' ∧ Moved t t' := by
  cases V' with
  | nil => exact absurd h.1 (by simp)
  | cons y t' =>
    obtain ⟨b, c, e⟩ := h.2 0 a rfl
    obtain rfl := Option.some.inj e
    exact ⟨b, c, t', rfl, by have := h.1; simpa using this, fun i x hx => h.2 (i + 1) x hx⟩
theorem moved_sums (V : List ActV) : ∀ V', Moved V V' → firA V' = firA V ∧ actsT V' = actsT V ∧ lnsT V' = lnsT V := by
  induction V with
  | nil =>
    intro V' h
    obtain rfl : V' = [] := List.length_eq_zero_iff.1 h.1
    exact ⟨rfl, rfl, rfl⟩
  | cons a t ih =>
    intro V' h
    obtain ⟨b, c, t', rfl, h'⟩ := h.cons
    obtain ⟨h1, h2, h3⟩ := ih t' h'
    have hp := prA_moved a b c
    refine ⟨?_, ?_, ?_⟩
    · rw [firA, firA, hp, h1]
    · simp only [actsT, List.flatMap_cons] at h2 ⊢
      rw [hp, h2]
    · simp only [lnsT, List.map_cons, List.sum_cons] at h3 ⊢
      rw [h3]
      rfl
/-- the text does not ask where the lists lie -/
theorem printV_moved (p : PlR) {V V' : List ActV} (h : Moved V V') (a : Option Addr) (c : Nat) : printV { p with acts := a, cacts := c } V' = printV p V := by
  obtain ⟨h1, h2, h3⟩ := moved_sums V V' h
  show printV p V' = printV p V
  unfold printV
  rw [h1, h2, h3]
theorem VOk.moved {V V' : List ActV} (hok : VOk V) (h : Moved V V') : VOk V' :=
  ⟨fun y hy => by
    obtain ⟨i, hi⟩ := List.mem_iff_getElem?.1 hy
    have hlt := (List.getElem?_eq_some_iff.1 hi).1
    obtain ⟨x, hx⟩ : ∃ x, V[i]? = some x := ⟨_, List.getElem?_eq_getElem (by rw [← h.1]; exact hlt)⟩
    obtain ⟨a, c, e⟩ := h.2 i x hx
    rw [hi] at e
    obtain rfl := Option.some.inj e
    obtain ⟨h1, h2, h3, h4⟩ := hok.each x (List.mem_of_getElem? hx)
    exact ⟨⟨h1.kind, h1.i, h1.before, h1.ek, h1.put, h1.frm, h1.name, h1.blob⟩, h2, h3, h4⟩, by rw [h.1]; exact hok.len⟩
theorem VOk.rev {V : List ActV} (hok : VOk V) : VOk V.reverse := ⟨fun x hx => hok.each x (List.mem_reverse.1 hx), by rw [List.length_reverse]; exact hok.len⟩
theorem lnsT_rev (V : List ActV) : lnsT V.reverse = lnsT V := by
  unfold lnsT
  rw [List.map_reverse, List.sum_reverse]
theorem lnsT_nops (V : List ActV) (h : ∀ x ∈ V, x.2.length = x.1.nops) : lnsT V ≤ (V.map (·.1.nops)).sum + 2 * V.length := by
  induction V with
  | nil => simp [lnsT]
  | cons a t ih =>
    have h1 := h a (List.mem_cons_self ..)
    have h2 := ih fun x hx => h x (List.mem_cons_of_mem _ hx)
    simp only [lnsT, List.map_cons, List.sum_cons, List.length_cons] at h2 ⊢
    have h3 : lnsA a ≤ a.2.length + 2 := by unfold lnsA; split <;> omega
    omega
theorem firA_bd (V : List ActV) (hok : VOk V) : 0 ≤ firA V ∧ firA V < 1000 := by
  have key : ∀ L : List ActV, (∀ x ∈ L, x ∈ V) → 0 ≤ firA L ∧ firA L < 1000 := by
    intro L
    induction L with
    | nil => exact fun _ => ⟨Int.le_refl _, by decide⟩
    | cons a t ih =>
      intro h
      have hp := prA_pa a (hok.each a (h a (List.mem_cons_self ..)))
      rw [firA]
      split
      · exact ih fun x hx => h x (List.mem_cons_of_mem _ hx)
      · exact ⟨hp.lo, hp.hi⟩
  exact key V fun _ h => h
theorem printV_form (p : PlR) (V : List ActV) (hok : VOk V) : ∃ (x : ByteArray) (c : Int), printV p V = .tuple #[.string x, .int .i64 c] ∧ 0 ≤ c ∧ c < 1000 := by
  unfold printV
  split
  · exact ⟨_, _, rfl, by decide, by decide⟩
  · split
    · exact ⟨_, _, rfl, by decide, by decide⟩
    · split
      · exact ⟨_, _, rfl, (firA_bd V hok).1, (firA_bd V hok).2⟩
      · split
        · exact ⟨_, _, rfl, by decide, by decide⟩
        · exact ⟨_, _, rfl, by decide, by decide⟩
end Go.Proofs.YtiaahjijfppkdaaGreatDoor.Sc

namespace Go.Proofs.YtiaahjijfppkdaaGreatDoor.Sc
open Go.RowKit Go.Lib Go.Deep

theorem hex_rel2 {w wr w' : World} {v v' : Value} {s : ByteArray} {k : Nat} {c : UInt8} (hc : s.data.toList[k]? = some c) (hb : Below w.heap.size w wr) (ho : wr.ownsRow w.heap.size 5 1 v (hexL (s.data.toList.take k)).length (byteCells (hexL (s.data.toList.take k))))
    (ho' : w'.ownsRow w.heap.size 5 1 v' ((hexL (s.data.toList.take k)).length + 2) (byteCells (hexL (s.data.toList.take k)) ++ [.int .u8 ((dig (c.toNat / 16)).toNat : Int), .int .u8 ((dig (c.toNat % 16)).toNat : Int)]))
    (cs : Array Value) (hg : ((wr.alloc (.cells cs 5)).drew).grownBy w' v.ownBlock) :
    w'.ownsRow w.heap.size 5 1 v' (hexL (s.data.toList.take (k + 1))).length (byteCells (hexL (s.data.toList.take (k + 1)))) ∧ Below w.heap.size w w' := by
  rw [hexL_take _ _ _ hc, byteCells_append]
  refine ⟨by simpa [byteCells, two] using ho', ?_⟩
  have h1 : Below w.heap.size w (wr.alloc (.cells cs 5)).drew := (hb.alloc hb.size _).drew
  exact h1.trans (grown_below hg h1.size (by exact (ho.alloc _).drew))
theorem two_cells2 (w : World) (x y : Value) : ∀ j u, [x, y][j]? = some u → (w.alloc (.cells #[x, y] 5)).cell? ((⟨w.heap.size, 0, none⟩ : Addr).add j) = some u := by
  intro j u h
  exact cells_new w #[x, y] 5 j u (by simpa using h)
set_option maxRecDepth 20000 in
set_option maxHeartbeats 4000000 in
theorem rHex_any (s : ByteArray) (hs : s.size ≤ 4194304) (w : World) :
    Calls Tryz.prog 43 #[.string s] w fun e w' => e = .returned (.string (str (hexL s.data.toList))) ∧ Below w.heap.size w w' := by
  obtain ⟨i0, hi, hz0, hz1, hz2⟩ := info_parts info5
  go_enter Tryz.func43, Tryz.ntmps43
  go_wp2
  go_loopg [3, 4] s.size (fun gk v i wr => ∃ k : Nat, k + gk = s.size ∧ i = .int .i64 k ∧ wr.ownsRow w.heap.size 5 1 v (hexL (s.data.toList.take k)).length (byteCells (hexL (s.data.toList.take k))) ∧ Below w.heap.size w wr)
  case atStart => exact ⟨0, by omega, rfl, by simpa [hexL, byteCells] using World.ownsRow_nil w w.heap.size 5 1, Below.refl _ _⟩
  case round =>
    obtain ⟨k, hk, rfl, hown, hbel⟩ := hrel
    have HK : Hid (k + gk = s.size) := hk
    have hk' : k ≤ s.size := by omega
    clear hk
    by_cases hlt : k < s.size
    · obtain ⟨c, hc⟩ : ∃ c, s.data.toList[k]? = some c := ⟨_, List.getElem?_eq_getElem (by simpa using hlt)⟩
      have hix := fun w => index_at (P := Tryz.prog) w 9 s .i64 k c Tryz.underlying9 hc
      have hn := c.toNat_lt
      have hx1 := fun w => index_at (P := Tryz.prog) w 9 digs .u8 (c.toNat / 16) (dig (c.toNat / 16)) Tryz.underlying9 (by have := digs_at (c.toNat / 16) (by omega); simpa using this)
      have hx2 := fun w => index_at (P := Tryz.prog) w 9 digs .u8 (c.toNat % 16) (dig (c.toNat % 16)) Tryz.underlying9 (by have := digs_at (c.toNat % 16) (by omega); simpa using this)
      unfold digs at hx1 hx2
      rw [show ((c.toNat / 16 : Nat) : Int) = (c.toNat : Int) / 16 by omega] at hx1
      rw [show ((c.toNat % 16 : Nat) : Int) = (c.toNat : Int) % 16 by omega] at hx2
      have hq : (c.toNat : Int).tdiv 16 = (c.toNat : Int) / 16 := Int.tdiv_eq_ediv_of_nonneg (by omega)
      have hr : (c.toNat : Int).tmod 16 = (c.toNat : Int) % 16 := Int.tmod_eq_emod_of_nonneg (by omega)
      have hw1 : IntKind.u8.wrap ((c.toNat : Int) / 16) = (c.toNat : Int) / 16 := by rw [IntKind.wrap_u8']; omega
      have hw2 : IntKind.u8.wrap ((c.toNat : Int) % 16) = (c.toNat : Int) % 16 := by rw [IntKind.wrap_u8']; omega
      go_wp2_with fail
      have hone : ∀ u ∈ [Value.int .u8 ((dig (c.toNat / 16)).toNat : Int), Value.int .u8 ((dig (c.toNat % 16)).toNat : Int)], u.oneCell' = true := by
        intro u hu
        simp only [List.mem_cons, List.not_mem_nil, or_false] at hu
        rcases hu with rfl | rfl <;> rfl
      have hlen : (hexL (s.data.toList.take k)).length ≤ 8388608 := by rw [hexL_len]; simp; omega
      have hml : (hexL (s.data.toList.take k)).length + 2 ≤ maxLen := by unfold maxLen; omega
      go_region_law (refine step_append_own rfl (.tmp 11) (.tmp 22) 51 rfl w.heap.size 5 i0 (.int .u8 0) 1 1 Tryz.underlying51 hi hz0 hz1 hz2 rfl (by decide) _ _ _ (by simp [Act.eval]) (hown.alloc _) ⟨wr.heap.size, 0, none⟩ 2 2 [.int .u8 ((dig (c.toNat / 16)).toNat : Int), .int .u8 ((dig (c.toNat % 16)).toNat : Int)] (by simp [Act.eval]) rfl (two_cells2 wr _ _) hone hml (by omega) (by have := hbel.size; simp; omega) ?_; intro v' w' hown' hgrow')
      all_goals
        have R := hex_rel2 hc hbel hown hown' _ hgrow'
        clear hown' hgrow' hown hix hx1 hx2
        go_wp2
        go_roundg (gk - 1)
        case measure => have := HK.out; omega
        case rel => exact ⟨k + 1, by have := HK.out; omega, by go_num, R.1, R.2⟩
    · obtain rfl : k = s.size := by omega
      have htk : s.data.toList.take s.size = s.data.toList := List.take_of_length_le (by simp)
      rw [htk] at hown
      have hcv := convert_own (P := Tryz.prog) wr 51 9 5 w.heap.size _ (hexL s.data.toList) Tryz.underlying51 Tryz.underlying5 Tryz.underlying9 hown
      go_wp2
      go_ret
      exact ⟨rfl, hbel⟩
end Go.Proofs.YtiaahjijfppkdaaGreatDoor.Sc
