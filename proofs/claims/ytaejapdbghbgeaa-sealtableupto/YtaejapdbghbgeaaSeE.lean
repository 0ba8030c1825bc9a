import Derived.Test.YtaejapdbghbgeaaSeD
namespace Go.Proofs.Ytaejapdbghbgeaa.Se
open Go.RowKit Go.Lib Go.Deep

/-- rows that can be read -/
structure SeeR (w : World) (v : Value) (T : List Row) : Prop where
  ex : ∃ a b off cap, v = .slice a T.length cap ∧ (T.length ≠ 0 → a = some ⟨b, off, none⟩ ∧ b < w.heap.size) ∧ ∀ j u, (rowCells T)[j]? = some u → w.cell? ⟨b, off + j, none⟩ = some u
theorem SeeR.below {w w' : World} {v : Value} {T : List Row} (h : SeeR w v T) (hb : Below w.heap.size w w') : SeeR w' v T := by
  obtain ⟨a, b, off, cap, h1, h2, h3⟩ := h.ex
  refine ⟨a, b, off, cap, h1, fun hn => ⟨(h2 hn).1, Nat.lt_of_lt_of_le (h2 hn).2 hb.size⟩, fun j u hu => ?_⟩
  have hn : T.length ≠ 0 := fun e => by
    have h0 := rowCells_length T
    have := (List.getElem?_eq_some_iff.1 hu).1
    omega
  exact (hb.cell (p := ⟨b, off + j, none⟩) (h2 hn).2).trans (h3 j u hu)
theorem SeeR.of_own {w : World} {B : Nat} {v : Value} {R : List Row} (h : w.ownsRow B 65 4 v R.length (rowCells R)) : SeeR w v R := by
  rcases h.2 with ⟨h1, h2⟩ | ⟨g, cap, cur, h1, h2, h3, h4, h5, h6, h7⟩
  · refine ⟨none, 0, 0, 0, by rw [h2]; exact h1, fun h => absurd h2 h, fun j u hu => ?_⟩
    have h0 := rowCells_length R
    rw [h2] at h0
    have := (List.getElem?_eq_some_iff.1 hu).1
    omega
  · refine ⟨_, g, 0, cap, h1, fun _ => ⟨rfl, heap_lt h3⟩, fun j u hu => ?_⟩
    have hj := (List.getElem?_eq_some_iff.1 hu).1
    rw [rowCells_length] at hj
    rw [← h7, List.getElem?_take, if_pos hj, Array.getElem?_toList] at hu
    rw [Nat.zero_add, cell_of_heap h3]
    exact hu
theorem SeeR.nil (w : World) : SeeR w (.slice none 0 0) [] := ⟨none, 0, 0, 0, rfl, fun h => absurd rfl h, fun j u hu => by cases hu⟩

/-- the error of the first row that may not be -/
def newE (R : List Row) : List Row → Int
  | [] => 0
  | r :: T => if sealE R r.kind r.name r.text r.blob ≠ 0 then sealE R r.kind r.name r.text r.blob else newE (R ++ [r]) T

def NewP (w : World) (T : List Row) (E : Int) (e : Ending) (w' : World) : Prop :=
  (E ≠ 0 → e = .returned (.tuple #[.pointer none, .int .i64 E])) ∧ (E = 0 → ∃ pb F, e = .returned (.tuple #[.pointer (some ⟨pb, 0, none⟩), .int .i64 0]) ∧ Idl w' pb F T ∧ ∀ k, k ∈ pb :: F → w.heap.size ≤ k) ∧ Below w.heap.size w w'
theorem newE_at {R : List Row} {k : Nat} {r : Row} {T : List Row} (h : T[k]? = some r) : newE R (T.drop k) = if sealE R r.kind r.name r.text r.blob ≠ 0 then sealE R r.kind r.name r.text r.blob else newE (R ++ [r]) (T.drop (k + 1)) := by
  have hk := (List.getElem?_eq_some_iff.1 h).1
  have e : T.drop k = r :: T.drop (k + 1) := by
    rw [List.drop_eq_getElem_cons hk]
    congr 1
    exact (List.getElem?_eq_some_iff.1 h).2
  rw [e]
  rfl
theorem take_snoc {T : List Row} {k : Nat} {r : Row} (h : T[k]? = some r) : T.take (k + 1) = T.take k ++ [r] := by
  rw [List.take_add_one, h]
  rfl

set_option maxRecDepth 20000 in
set_option maxHeartbeats 1000000 in
theorem newIdeal_any (w : World) (v : Value) (T : List Row) (hS : SeeR w v T) (hz : ∀ r ∈ T, r.blob.size ≤ 281474976710656) (hn : T.length ≤ 4294967296) :
    Calls Try.prog 6 #[v] w (NewP w T (newE [] T)) := by
  have ht := newTable_any w
  obtain ⟨a, b, off, cap, rfl, hab, hcs⟩ := hS.ex
  clear hS
  have HT : Hid (∀ (k : Nat) (r : Row), T[k]? = some r → a = some ⟨b, off, none⟩ ∧ ∀ W, Below w.heap.size w W → W.cell? ⟨b, off + k * 4, none⟩ = some (.int .i64 r.kind) ∧ W.cell? ⟨b, off + k * 4 + 1, none⟩ = some (.string r.name) ∧ W.cell? ⟨b, off + k * 4 + 2, none⟩ = some (.string r.blob) ∧ W.cell? ⟨b, off + k * 4 + 3, none⟩ = some (.string r.text)) := fun k r hr => by
    have hk := (List.getElem?_eq_some_iff.1 hr).1
    obtain ⟨e1, e2⟩ := hab (by omega)
    obtain ⟨r0, r1, r2, r3⟩ := rows_at T k r hr
    refine ⟨e1, fun W hb => ⟨?_, ?_, ?_, ?_⟩⟩
    · exact (hb.cell (p := ⟨b, off + k * 4, none⟩) e2).trans (hcs _ _ r0)
    · rw [Nat.add_assoc]; exact (hb.cell (p := ⟨b, off + (k * 4 + 1), none⟩) e2).trans (hcs _ _ r1)
    · rw [Nat.add_assoc]; exact (hb.cell (p := ⟨b, off + (k * 4 + 2), none⟩) e2).trans (hcs _ _ r2)
    · rw [Nat.add_assoc]; exact (hb.cell (p := ⟨b, off + (k * 4 + 3), none⟩) e2).trans (hcs _ _ r3)
  have HZ : Hid (∀ r ∈ T, r.blob.size ≤ 281474976710656) := hz
  obtain ⟨n, hnn⟩ : ∃ n, T.length = n := ⟨_, rfl⟩
  have HN : Hid (T.length = n ∧ n ≤ 4294967296) := ⟨hnn, by omega⟩
  rw [hnn]
  obtain ⟨E, hE⟩ : ∃ E, newE [] T = E := ⟨_, rfl⟩
  have HE : Hid (newE [] T = E) := hE
  rw [hE]
  clear hab hcs hz hn hnn hE
  go_enter Try.func6, Try.ntmps6
  go_wp2_with fail
  refine ht.mono ?_
  rintro e w2 ⟨q, m, rfl, hq, hm, hlq, hlm, hb⟩
  clear ht
  obtain ⟨W0, hW0⟩ : ∃ W, w2.alloc (.cells #[.int .i64 40, .int .i64 1, .pointer (some ⟨q, 0, none⟩)] 63) = W := ⟨_, rfl⟩
  have HB0 : Hid (Below w.heap.size w W0) := by rw [← hW0]; exact hb.alloc hb.size _
  have HI0 : Hid (∃ F, Idl W0 w2.heap.size F [] ∧ ∀ k, k ∈ F → w.heap.size ≤ k) := by
    refine ⟨[q, m], ⟨q, m, .slice none 0 0, .map [], rfl, ?_, ?_, ⟨rfl, .inl ⟨rfl, rfl⟩⟩, ?_, tab_nil⟩, fun k hk => ?_⟩
    · rw [← hW0]; exact heap_new _ _
    · rw [← hW0]; exact (Below.heap_alloc _ _ _ (heap_lt hq)).trans hq
    · rw [← hW0]
      refine ⟨#[], 0, (Below.heap_alloc _ _ _ (heap_lt hm)).trans hm, ?_⟩
      obtain ⟨es, clock, h1, h2⟩ := World.ownsMap_made (H := Unit) w2 Try.prog 9 (plainElem Try.prog 3)
      rw [heap_new] at h1
      injection h1 with h1
      injection h1 with h3 h4
      subst h3 h4
      exact h2
    · simp at hk
      rcases hk with rfl | rfl
      · exact hlq
      · exact hlm
  have HLP : Hid (w.heap.size ≤ w2.heap.size) := hb.size
  clear hq hm hlq hlm hb
  go_wp2_with fail
  go_loopg [15] n (fun gk i wr => ∃ k : Nat, k + gk = n ∧ i = .int .i64 (k : Int) ∧ Hid (E = newE (T.take k) (T.drop k) ∧ (∃ F, Idl wr w2.heap.size F (T.take k) ∧ ∀ j, j ∈ F → w.heap.size ≤ j) ∧ Below w.heap.size w wr))
  case atStart => exact ⟨0, by omega, rfl, ⟨HE.out.symm, HI0.out, HB0.out⟩⟩
  case round =>
    obtain ⟨k, hk, rfl, HV⟩ := hrel
    have HK : Hid (k + gk = n) := hk
    have hk' : k ≤ n := by omega
    have hn32 : n ≤ 4294967296 := HN.out.2
    clear hk
    by_cases hlt : k < n
    · have hltI : (k : Int) < (n : Int) := by omega
      obtain ⟨r, hr⟩ : ∃ r, T[k]? = some r := ⟨_, List.getElem?_eq_getElem (by have := HN.out.1; omega)⟩
      obtain ⟨rfl, hcell⟩ := HT.out k r hr
      obtain ⟨v1, ⟨F, hI, hF⟩, hbw⟩ := HV.out
      obtain ⟨c0, c1, c2, c3⟩ := hcell _ hbw
      have hzb := HZ.out r (List.mem_of_getElem? hr)
      have HR : Hid (T[k]? = some r) := hr
      rw [newE_at hr] at v1
      obtain ⟨W1, hW1⟩ : ∃ W, wr.alloc (.cells #[.int .i64 r.kind, .string r.name, .string r.blob, .string r.text] 65) = W := ⟨_, rfl⟩
      have hb1 : Below wr.heap.size wr W1 := by rw [← hW1]; exact (Below.refl _ _).alloc (Nat.le_refl _) _
      have hcl : W1.heap[wr.heap.size]? = some (.cells #[.int .i64 r.kind, .string r.name, .string r.blob, .string r.text] 65 (0, 0)) := by rw [← hW1]; exact heap_new _ _
      have hsl := seal_any W1 w2.heap.size F (T.take k) r.kind r.name r.text r.blob hzb (by rw [List.length_take]; have := HN.out.2; omega) (hI.below hb1)
      have HF : Hid (∀ j, j ∈ F → w.heap.size ≤ j) := hF
      have HBW : Hid (Below w.heap.size w W1) := hbw.trans (hb1.mono hbw.size)
      have x0 : W1.cell? ⟨wr.heap.size, 0, none⟩ = some (.int .i64 r.kind) := (cell_of_heap hcl).trans rfl
      have x1 : W1.cell? ⟨wr.heap.size, 1, none⟩ = some (.string r.name) := (cell_of_heap hcl).trans rfl
      have x2 : W1.cell? ⟨wr.heap.size, 2, none⟩ = some (.string r.blob) := (cell_of_heap hcl).trans rfl
      have x3 : W1.cell? ⟨wr.heap.size, 3, none⟩ = some (.string r.text) := (cell_of_heap hcl).trans rfl
      have HW1 : Hid (wr.alloc (.cells #[.int .i64 r.kind, .string r.name, .string r.blob, .string r.text] 65) = W1) := hW1
      clear hr hcell HV hI hF hbw hzb hb1 hcl
      obtain ⟨kd, nm, bl, tx⟩ := r
      dsimp only at *
      by_cases he : sealE (T.take k) kd nm tx bl = 0
      · rw [if_neg (by simp [he])] at v1
        have e2 : sealR (T.take k) kd nm tx bl = T.take (k + 1) := by unfold sealR; rw [if_pos he, take_snoc HR.out]
        rw [he, e2] at hsl
        have HV1 : Hid _ := v1
        clear v1 he e2
        go_wp2_with fail
        refine hsl.mono ?_
        rintro e w5 ⟨rfl, ho, F', hI', hF'⟩
        have HO : Hid (Below w.heap.size w w5) := HBW.out.trans (ho.below HBW.out.size HF.out)
        have HV2 : Hid (∃ F, Idl w5 w2.heap.size F (T.take (k + 1)) ∧ ∀ j, j ∈ F → w.heap.size ≤ j) := ⟨F', hI', fun j hj => by
          rcases hF' j hj with h | h
          · exact HF.out j h
          · exact Nat.le_trans HBW.out.size h⟩
        clear ho hI' hF' hsl
        go_wp2_with fail
        go_roundg (gk - 1)
        case measure => have := HK.out; omega
        case rel => exact ⟨k + 1, by have := HK.out; omega, by have := HN.out.2; go_num, ⟨by rw [HV1.out, take_snoc HR.out], HV2.out, HO.out⟩⟩
      · rw [if_pos he] at v1
        rw [← v1] at hsl he
        have hne : (E != 0) = true := by simpa using he
        have HNE : Hid (E ≠ 0) := he
        clear v1 he
        go_wp2_with fail
        refine hsl.mono ?_
        rintro e w5 ⟨rfl, ho, _⟩
        have HO : Hid (Below w.heap.size w w5) := HBW.out.trans (ho.below HBW.out.size HF.out)
        clear ho hsl
        go_wp2
        go_ret2
        exact ⟨fun _ => rfl, fun e => absurd e HNE.out, HO.out⟩
    · obtain rfl : k = n := by omega
      have hltI : ¬ (k : Int) < (k : Int) := by omega
      obtain ⟨v1, hI, hbw⟩ := HV.out
      rw [List.take_of_length_le (by have := HN.out.1; omega)] at hI
      have hE0 : E = 0 := by rw [v1, List.drop_of_length_le (by have := HN.out.1; omega)]; rfl
      have HE0 : Hid (E = 0) := hE0
      have HI : Hid _ := hI
      have HBW : Hid _ := hbw
      clear hI hbw v1 HV hE0
      go_wp2
      go_ret2
      refine ⟨fun e => absurd HE0.out e, fun _ => ?_, HBW.out⟩
      obtain ⟨F, h1, h2⟩ := HI.out
      refine ⟨w2.heap.size, F, rfl, h1, fun j hj => ?_⟩
      rcases List.mem_cons.1 hj with rfl | hj
      · exact HLP.out
      · exact h2 j hj
end Go.Proofs.Ytaejapdbghbgeaa.Se
