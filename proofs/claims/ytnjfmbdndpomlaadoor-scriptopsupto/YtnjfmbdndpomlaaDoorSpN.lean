import Derived.Test.YtnjfmbdndpomlaaDoorSpM
namespace Go.Proofs.YtnjfmbdndpomlaaDoor.Sc
open Go.RowKit Go.Lib Go.Deep
set_option maxRecDepth 20000 in
set_option maxHeartbeats 1000000 in
theorem num_any (c : Int) (hc : 0 ≤ c ∧ c < 1000) (w : World) : Calls Tryd.prog 6 #[.int .i64 c] w fun e w' => e = .returned (.int .i64 c) ∧ w' = w := by
  have h1 := hc.1
  have h2 := hc.2
  go_enter Tryd.func6, Tryd.ntmps6
  go_wp2_with fail
  go_ret
  exact ⟨rfl, rfl⟩
/-- an operation's six cells, from a place on -/
def SixAt (w : World) (b p : Nat) (o : OpR) : Prop := w.cell? ⟨b, p, none⟩ = some (.int .i64 o.kind) ∧ w.cell? ⟨b, p + 1, none⟩ = some (.string o.path) ∧ w.cell? ⟨b, p + 2, none⟩ = some (.string o.to) ∧ w.cell? ⟨b, p + 3, none⟩ = some (.int .i64 o.at_) ∧ w.cell? ⟨b, p + 4, none⟩ = some (.int .i64 o.n) ∧ w.cell? ⟨b, p + 5, none⟩ = some (.string o.data)
theorem SixAt.below {w w' : World} {B b p : Nat} {o : OpR} (h : SixAt w b p o) (hb : Below B w w') (hlt : b < B) : SixAt w' b p o := by
  unfold SixAt at h ⊢
  simp only [World.cell?, hb.block b hlt] at h ⊢
  exact h
def SeeO (w : World) (a : Option Addr) (L : List OpR) : Prop := L ≠ [] → ∃ b off, a = some ⟨b, off, none⟩ ∧ b < w.heap.size ∧ ∀ (i : Nat) o, L[i]? = some o → SixAt w b (off + i * 6) o
def lastO : OpR := ⟨10, { data := #[47] }, nil_, 0, 0, nil_⟩
theorem lastOk : lastO.Ok := ⟨⟨by decide, by decide⟩, ⟨by decide, by decide⟩, ⟨by decide, by decide⟩, by decide, by decide, by decide⟩
theorem last_line : lineW lastO ⟨10, { data := #[115, 116, 97, 116] }, 2, 16, 17⟩ = .tuple #[.string { data := #[115, 116, 97, 116, 32, 61, 47] }, .int .i64 0] := by
  have h1 : bare (shR 16 lastO) lastO.kind = true := by simp [bare, shR, lastO, nil_]
  have h2 : shG 16 lastO (false, [115, 116, 97, 116]) = (false, [115, 116, 97, 116, 32, 61, 47]) := by
    simp only [shG]
    decide
  unfold lineW
  simp only [h1, h2]
  rfl
theorem last_any (w : World) (ht : ITab w) : Calls Tryd.prog 4 #[.agg #[.int .i64 10, .string { data := #[47] }, .string { data := #[] }, .int .i64 0, .int .i64 0, .string { data := #[] }]] w fun e w' => e = .returned (.tuple #[.string { data := #[115, 116, 97, 116, 32, 61, 47] }, .int .i64 0]) ∧ Below w.heap.size w w' := by
  refine (printOp_any lastO lastOk w ht).mono ?_
  rintro e w' ⟨hout, hb⟩
  refine ⟨?_, hb⟩
  have hm : (⟨10, { data := #[115, 116, 97, 116] }, 2, 16, 17⟩ : Fm) ∈ opTab := by unfold opTab; simp
  rcases hout with ⟨hno, -⟩ | ⟨g, hg, hgk, rfl⟩
  · exact absurd rfl (hno _ hm)
  · rw [tab_one g _ hg hm hgk, last_line]
set_option maxRecDepth 20000 in
set_option maxHeartbeats 4000000 in
theorem ops_walk (a : Option Addr) (c : Nat) (L : List OpR) (hL : ∀ o ∈ L, o.Ok) (hll : L.length ≤ 1048576) (w : World) (hs : SeeO w a L) (ht : ITab w) :
    Calls Tryd.prog 3 #[.slice a L.length c] w fun e w' => e = .returned (.bool true) ∧ Below w.heap.size w w' := by
  have HS : Hid (SeeO w a L) := hs
  have HT : Hid (ITab w) := ht
  have HL : Hid (∀ o ∈ L, ∃ x c, Ans o x c) := fun o ho => prints_same o (hL o ho)
  obtain ⟨n, hn⟩ : ∃ n, L.length = n := ⟨_, rfl⟩
  have HN : Hid (L.length = n) := hn
  rw [hn] at hll ⊢
  clear hn hs ht hL
  go_enter Tryd.func3, Tryd.ntmps3
  go_wp2_with fail
  go_loopg [3] n (fun gk i wr => ∃ j : Nat, j + gk = n ∧ i = .int .i64 (j : Int) ∧ Hid (Below w.heap.size w wr))
  case atStart => exact ⟨0, by omega, rfl, Below.refl _ _⟩
  case round =>
    obtain ⟨j, hj, rfl, HB⟩ := hrel
    by_cases hlt : j < n
    · have hltI : (j : Int) < (n : Int) := by omega
      obtain ⟨o, ho⟩ : ∃ o, L[j]? = some o := ⟨_, List.getElem?_eq_getElem (by rw [HN.out]; omega)⟩
      obtain ⟨b, off, rfl, hbl, hcells⟩ := HS.out (by rintro rfl; cases ho)
      have hsix := (hcells j o ho).below HB.out hbl
      obtain ⟨x, cc, hc0, hc1, hprog, href⟩ := HL.out o (List.mem_of_getElem? ho)
      have hp := hprog wr (HT.out.below HB.out HT.out.lt)
      have HR : Hid (∀ U, Below wr.heap.size wr U → Calls Tryd.prog 5 #[o.val] U fun e w' => e = .returned (.tuple #[.string x, .int .i64 cc]) ∧ Below U.heap.size U w') := fun U hU =>
        href U ((HT.out.below HB.out HT.out.lt).below hU (by have := HT.out.lt; have := HB.out.size; omega))
      have H6 : Hid (∀ U, Below wr.heap.size wr U → SixAt U b (off + j * 6) o) := fun U hU => hsix.below hU (by have := HB.out.size; omega)
      obtain ⟨c0, c1, c2, c3, c4, c5⟩ := hsix
      unfold OpR.val OpR.cells at hp HR
      clear hcells hprog href ho
      have hHB := HB.out
      go_wp2_with (first
        | (go_at_call 6; refine (num_any cc ⟨hc0, hc1⟩ _).mono ?_; rintro e w5 ⟨rfl, rfl⟩)
        | (go_at_call 5; refine hr.mono ?_; rintro e w2 ⟨rfl, hb2⟩; clear hr)
        | (go_at_call 4; refine hp.mono ?_; rintro e w1 ⟨rfl, hb1⟩; clear hp; have hr := HR.out w1 hb1; obtain ⟨c0, c1, c2, c3, c4, c5⟩ := H6.out w1 hb1))
      go_roundg (gk - 1)
      case measure => omega
      case rel => exact ⟨j + 1, by omega, by go_num, (hHB.trans (hb1.mono hHB.size)).trans (hb2.mono (by have := hHB.size; have := hb1.size; omega))⟩
    · obtain rfl : j = n := by omega
      have hltI : ¬ (j : Int) < (j : Int) := by omega
      have hp := last_any wr (HT.out.below HB.out HT.out.lt)
      have hHB := HB.out
      go_wp2_with (first
        | (go_at_call 6; refine (num_any 0 ⟨by decide, by decide⟩ _).mono ?_; rintro e w5 ⟨rfl, rfl⟩)
        | (go_at_call 4; refine hp.mono ?_; rintro e w1 ⟨rfl, hb1⟩; clear hp))
      go_ret
      exact ⟨rfl, hHB.trans (hb1.mono hHB.size)⟩
end Go.Proofs.YtnjfmbdndpomlaaDoor.Sc
