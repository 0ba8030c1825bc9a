import Derived.Test.YthmjjpaengackaaPcC
import Derived.Test.YthmjjpaengackaaPhD
namespace Go.Proofs.Ythmjjpaengackaa.Po
open Go.RowKit Go.Lib Go.Deep

/-- a pool of a group: its two blocks, its bound, its state -/
structure Pl where
  pb : Nat
  q : Nat
  nn : Nat
  S : Ps
def Dj (F G : List Nat) : Prop := ∀ k, k ∈ F → k ∉ G
/-- pools side by side -/
def Grp (w wr : World) (L : List Pl) : Prop := Below w.heap.size w wr ∧ ∃ Fs : List (List Nat), Fs.length = L.length ∧ (∀ (i : Nat) e G, L[i]? = some e → Fs[i]? = some G → Lv w wr e.pb e.q G e.nn e.S) ∧ ∀ (i j : Nat) G H, i ≠ j → Fs[i]? = some G → Fs[j]? = some H → Dj G H
theorem Lv.other {w wr w' : World} {pb q nn N pb2 q2 nn2 : Nat} {F F2 : List Nat} {S S' S2 : Ps} (h : Lv w wr pb q F nn S) (h2 : Lv w wr pb2 q2 F2 nn2 S2) (hT : Turn F wr w' q N S') (hd : Dj F2 F) (hbe : Below w.heap.size w w') : Lv w w' pb2 q2 F2 nn2 S2 := by
  have hO := hT.1
  refine ⟨⟨(hO.block _ (heap_lt h2.ok.top) (h.ok.lay.notin h2.ok.top (by decide))).trans h2.ok.top, h2.ok.lay.keep fun k hk => hO.block k (h2.ok.lay.lt k hk) (hd k hk), h2.ok.good, h2.ok.nn⟩, h2.pb, h2.fr, hbe⟩
theorem grp_nil (w : World) : Grp w w [] := ⟨Below.refl _ _, [], rfl, fun i e G h => (by cases h), fun i j G H _ h => (by cases h)⟩
theorem Grp.below {w wr W : World} {L : List Pl} (h : Grp w wr L) (hb : Below wr.heap.size wr W) : Grp w W L := by
  obtain ⟨h0, Fs, h1, h2, h3⟩ := h
  exact ⟨h0.trans (hb.mono h0.size), Fs, h1, fun i e G he hG => (h2 i e G he hG).below hb, h3⟩
theorem Grp.at_ {w wr : World} {L : List Pl} (h : Grp w wr L) {i : Nat} {e : Pl} (he : L[i]? = some e) : ∃ G, Lv w wr e.pb e.q G e.nn e.S := by
  obtain ⟨_, Fs, h1, h2, _⟩ := h
  have hi := some_lt he
  exact ⟨_, h2 i e _ he (List.getElem?_eq_getElem (by omega))⟩
theorem Grp.lt {w wr : World} {L : List Pl} {Fs : List (List Nat)} (h1 : Fs.length = L.length) (h2 : ∀ (i : Nat) e G, L[i]? = some e → Fs[i]? = some G → Lv w wr e.pb e.q G e.nn e.S) {i : Nat} {G : List Nat} (hG : Fs[i]? = some G) {k : Nat} (hk : k ∈ G) : k < wr.heap.size := by
  have hi := some_lt hG
  exact (h2 i _ G (List.getElem?_eq_getElem (by omega)) hG).ok.lay.lt k hk
/-- one more -/
theorem Grp.add {w wr w' : World} {L : List Pl} (h : Grp w wr L) (hb : Below wr.heap.size wr w') {pb q nn : Nat} {F : List Nat} {S : Ps} (hok : Ok w' pb q F nn S) (hpb : wr.heap.size ≤ pb) (hF : ∀ k, k ∈ F → wr.heap.size ≤ k) : Grp w w' (L ++ [⟨pb, q, nn, S⟩]) := by
  obtain ⟨h0, Fs, h1, h2, h3⟩ := h
  have hbw := h0.trans (hb.mono h0.size)
  have hlt : ∀ (i : Nat) G, Fs[i]? = some G → ∀ k, k ∈ G → k < wr.heap.size := fun i G hG k hk => Grp.lt h1 h2 hG hk
  refine ⟨hbw, Fs ++ [F], by simp [h1], fun i e G he hG => ?_, fun i j G H hij hG hH => ?_⟩
  · by_cases hi : i < L.length
    · rw [List.getElem?_append_left hi] at he
      rw [List.getElem?_append_left (by omega)] at hG
      exact (h2 i e G he hG).below hb
    · rw [List.getElem?_append_right (by omega)] at he
      rw [List.getElem?_append_right (by omega)] at hG
      have hi0 : i = L.length := by
        have := some_lt he
        simp at this
        omega
      subst hi0
      rw [Nat.sub_self] at he
      rw [h1, Nat.sub_self] at hG
      obtain rfl := Option.some.inj he
      obtain rfl := Option.some.inj hG
      exact ⟨hok, Nat.le_trans h0.size hpb, fun k hk => Nat.le_trans h0.size (hF k hk), hbw⟩
  · by_cases hi : i < Fs.length
    · rw [List.getElem?_append_left hi] at hG
      by_cases hj : j < Fs.length
      · rw [List.getElem?_append_left hj] at hH
        exact h3 i j G H hij hG hH
      · rw [List.getElem?_append_right (by omega)] at hH
        have hj0 : j - Fs.length = 0 := by have := some_lt hH; simp at this; omega
        rw [hj0] at hH
        obtain rfl := Option.some.inj hH
        intro k hk hm
        have a := hlt i G hG k hk
        have b := hF k hm
        omega
    · rw [List.getElem?_append_right (by omega)] at hG
      have hi0 : i - Fs.length = 0 := by have := some_lt hG; simp at this; omega
      rw [hi0] at hG
      obtain rfl := Option.some.inj hG
      by_cases hj : j < Fs.length
      · rw [List.getElem?_append_left hj] at hH
        intro k hk hm
        have a := hlt j H hH k hm
        have b := hF k hk
        omega
      · rw [List.getElem?_append_right (by omega)] at hH
        have hj0 : j - Fs.length = 0 := by have := some_lt hH; simp at this; omega
        omega
/-- a step done to one of them -/
theorem Grp.does {w wr : World} {L : List Pl} (h : Grp w wr L) {i : Nat} {e : Pl} (he : L[i]? = some e) (o : Ops) (ho : OpOk o) (hN : e.nn + 1 < 9223372036854775800) : Calls Try.prog 8 #[.pointer (some ⟨e.pb, 0, none⟩), opV o] wr fun r w' => r = .returned (.tuple #[]) ∧ Hid (Grp w w' (L.set i ⟨e.pb, e.q, e.nn + 1, doS e.S o⟩)) := by
  obtain ⟨h0, Fs, h1, h2, h3⟩ := h
  have hi := some_lt he
  obtain ⟨G, hG⟩ : ∃ G, Fs[i]? = some G := ⟨_, List.getElem?_eq_getElem (by omega)⟩
  have hL := h2 i e G he hG
  refine (does_any wr e.pb e.q G e.nn e.S o hL.ok ho).mono ?_
  rintro r w' ⟨rfl, hT⟩
  obtain ⟨F', hL', hk⟩ := hL.next hT (good_doS hL.ok.good o) hN
  refine ⟨rfl, hL'.be, Fs.set i F', by simp [h1], fun j x H hx hH => ?_, fun j k H H' hjk hH hH' => ?_⟩
  · rw [List.getElem?_set] at hx hH
    by_cases e1 : i = j
    · rw [if_pos e1, if_pos (e1 ▸ hi)] at hx
      rw [if_pos e1, if_pos (by omega)] at hH
      obtain rfl := Option.some.inj hx
      obtain rfl := Option.some.inj hH
      exact hL'
    · rw [if_neg e1] at hx hH
      exact hL.other (h2 j x H hx hH) hT (h3 j i H G (fun x => e1 x.symm) hH hG) hL'.be
  · rw [List.getElem?_set] at hH hH'
    by_cases e1 : i = j
    · rw [if_pos e1, if_pos (by omega)] at hH
      obtain rfl := Option.some.inj hH
      rw [if_neg (by omega)] at hH'
      intro x hx hm
      rcases hk.2.2 x hx with h4 | h4
      · exact h3 i k G H' (by omega) hG hH' x h4 hm
      · have := Grp.lt h1 h2 hH' hm
        omega
    · rw [if_neg e1] at hH
      by_cases e2 : i = k
      · rw [if_pos e2, if_pos (by omega)] at hH'
        obtain rfl := Option.some.inj hH'
        intro x hx hm
        rcases hk.2.2 x hm with h4 | h4
        · exact h3 j i H G (by omega) hH hG x hx h4
        · have := Grp.lt h1 h2 hH hx
          omega
      · rw [if_neg e2] at hH'
        exact h3 j k H H' hjk hH hH'
theorem Grp.state {w wr : World} {L : List Pl} (h : Grp w wr L) {i : Nat} {e : Pl} (he : L[i]? = some e) : Calls Try.prog 9 #[.pointer (some ⟨e.pb, 0, none⟩)] wr fun r w4 => ∃ a1 c1 a2 c2, r = .returned (.agg #[.slice a1 e.S.R.length c1, .slice a2 (zQ e.S.Q).length c2]) ∧ Hid (Sd w4 (.agg #[.slice a1 e.S.R.length c1, .slice a2 (zQ e.S.Q).length c2]) e.S.R (zQ e.S.Q)) ∧ Hid (Below wr.heap.size wr w4) := by
  obtain ⟨G, hL⟩ := h.at_ he
  exact hL.state
theorem Grp.copy {w wr : World} {L : List Pl} (h : Grp w wr L) {i : Nat} {e : Pl} (he : L[i]? = some e) : Calls Try.prog 17 #[.pointer (some ⟨e.pb, 0, none⟩)] wr fun r w4 => ∃ pb q, r = .returned (.pointer (some ⟨pb, 0, none⟩)) ∧ Hid (Grp w w4 (L ++ [⟨pb, q, e.nn, e.S⟩])) := by
  obtain ⟨G, hL⟩ := h.at_ he
  refine (copy_any wr e.pb e.q G e.nn e.S hL.ok).mono ?_
  rintro r w4 ⟨pb, q, F', rfl, h1, h2, h3, h4⟩
  exact ⟨pb, q, rfl, h.add h4 h1 h2 h3⟩
theorem Grp.fresh {w wr : World} {L : List Pl} (h : Grp w wr L) (f s : Int) : Calls Try.prog 7 #[.int .i64 f, .int .i64 s] wr fun r w4 => ∃ pb q, r = .returned (.pointer (some ⟨pb, 0, none⟩)) ∧ Hid (Grp w w4 (L ++ [⟨pb, q, 0, freshP f s⟩])) := by
  refine (fresh_any wr f s).mono ?_
  rintro r w4 ⟨pb, q, F', rfl, h1, h2, h3, h4⟩
  exact ⟨pb, q, rfl, h.add h4 h1 h2 h3⟩
theorem Grp.good {w wr : World} {L : List Pl} (h : Grp w wr L) {i : Nat} {e : Pl} (he : L[i]? = some e) : Good e.S := by
  obtain ⟨G, hL⟩ := h.at_ he
  exact hL.ok.good
end Go.Proofs.Ythmjjpaengackaa.Po
