import Derived.Test.YtdgokfehgjkalaaWoD
namespace Go.Proofs.Ytdgokfehgjkalaa.Wd
open Go.RowKit Go.Lib Go.Deep

/-- blocks of other kinds are kept -/
def Kt (W W' : World) : Prop := W.heap.size ≤ W'.heap.size ∧ ∀ (k : Nat) (cur : Array Value) (e : TypeId) (fr : Nat × Nat), W.heap[k]? = some (.cells cur e fr) → ¬ (e = 76 ∨ e = 90 ∨ e = 67 ∨ e = 3) → W'.heap[k]? = W.heap[k]?
theorem Kt.of {W W' : World} {q : Nat} {F : List Nat} {S S' : Wst} (hs : St W q F S) (hT : Turn F W W' q S') : Kt W W' := ⟨hT.1.size, fun k _ _ _ hk he => hT.1.block k (heap_lt hk) (hs.notin hk he)⟩
theorem Kt.below {W W' : World} (h : Below W.heap.size W W') : Kt W W' := ⟨h.size, fun k _ _ _ hk _ => h.block k (heap_lt hk)⟩
theorem Kt.trans {a b c : World} (h : Kt a b) (h' : Kt b c) : Kt a c := ⟨Nat.le_trans h.1 h'.1, fun k cur e fr hk he => by
  have h1 := h.2 k cur e fr hk he
  exact (h'.2 k cur e fr (h1.trans hk) he).trans h1⟩
theorem Kt.owns {W W' : World} {B e n sz : Nat} {v : Value} {xs : List Value} (h : Kt W W') (ho : W.ownsRow B e sz v n xs) (he : ¬ (e = 76 ∨ e = 90 ∨ e = 67 ∨ e = 3)) : W'.ownsRow B e sz v n xs := owns_keep ho fun g hg => by
  obtain ⟨cur, hc⟩ := owns_block ho hg
  exact h.2 g cur e _ hc he
/-- what looks at a world tell -/
structure Looks (wr : World) (pb : Nat) (S : Wst) (nd : Nat) (bs : List (ByteArray × ByteArray)) : Prop where
  dn : ∀ W, Below wr.heap.size wr W → Calls Try.prog 10 #[.pointer (some ⟨pb, 0, none⟩)] W fun e w' => e = .returned (.bool S.off) ∧ w' = W
  ca : ∀ W, Below wr.heap.size wr W → Calls Try.prog 11 #[.pointer (some ⟨pb, 0, none⟩)] W fun e w' => e = .returned (.int .i64 (S.tr.length : Int)) ∧ w' = W
  ke : ∀ W, Below wr.heap.size wr W → Calls Try.prog 12 #[.pointer (some ⟨pb, 0, none⟩)] W fun e w' => e = .returned (.agg #[.string S.cur, .string S.pen, .bool S.stp]) ∧ Below wr.heap.size wr w'
  du : ∀ W, Below wr.heap.size wr W → Calls Try.prog 13 #[.pointer (some ⟨pb, 0, none⟩)] W fun e w' => ∃ a c, e = .returned (.slice a nd c) ∧ w'.ownsRow W.heap.size 56 2 (.slice a nd c) nd (bCells bs) ∧ Below W.heap.size W w' ∧ Below wr.heap.size wr w'
  sb : ∀ W a c a' c', W.ownsRow 0 56 2 (.slice a nd c) nd (bCells bs) → W.ownsRow 0 56 2 (.slice a' nd c') nd (bCells bs) → Calls Try.prog 15 #[.slice a nd c, .slice a' nd c'] W fun e w' => e = .returned (.bool true) ∧ Below W.heap.size W w'
theorem own_base {w : World} {B B' e n sz : Nat} {v : Value} {xs : List Value} (h : w.ownsRow B e sz v n xs) (hB : B' ≤ B) : w.ownsRow B' e sz v n xs := ⟨h.1, by
  rcases h.2 with q | ⟨g, cap, cur, e1, e2, e3⟩
  · exact .inl q
  · exact .inr ⟨g, cap, cur, e1, Nat.le_trans hB e2, e3⟩⟩
theorem keys_le {w : World} {q : Nat} {F : List Nat} {S : Wst} (hs : St w q F S) : (keysL S.f).length ≤ S.nn := by
  by_cases h : ∃ ks, Rises ks S.f
  · obtain ⟨ks, hR⟩ := h
    rw [keysL_eq hR]
    obtain ⟨m, pl, la, tv, av, uv, D, al, nv, hF, hI⟩ := hs
    obtain ⟨es, hD, hpw, hkl⟩ := hI.hm.entries keyLaw
    have hsz := hI.hm.size_le
    obtain ⟨es', hD', hko⟩ := hI.hm.keysOf
    subst hD
    have hp : ks.Perm (strKeys (.map es : DataW Unit)) := perm_strKeys hpw (fun p hp => by
      injection hD' with hD'
      subst hD'
      obtain ⟨v, hv⟩ := hko p hp
      obtain ⟨x, _, hx, _⟩ := Maps.keyOf_str Try.underlying9 hv
      exact ⟨x, hx⟩) hR.2.1 (fun x => by rw [hR.2.2 x, hI.hD.has x])
    rw [hp.length_eq]
    simpa [strKeys, Maps.size] using hsz
  · unfold keysL
    rw [dif_neg h]
    exact Nat.zero_le _
theorem looks {w wr : World} {pb q : Nat} {F : List Nat} {S : Wst} (h : Lv w wr pb q F S) (hN : S.nn ≤ 4398046511000) : Looks wr pb S (keysL S.f).length (dumpL S.f (keysL S.f)) ∧ (keysL S.f).length ≤ 4398046511000 ∨ ¬ (keysL S.f).length ≤ 4398046511000 := by
  by_cases hle : (keysL S.f).length ≤ 4398046511000
  · refine .inl ⟨⟨fun W hb => down_any W pb q F S (h.below hb).top (h.below hb).st, fun W hb => calls_any W pb q F S (h.below hb).top (h.below hb).st, fun W hb => (kept_any W pb q F S (h.below hb).top (h.below hb).st).mono ?_, fun W hb => (dump_any W pb q F S (h.below hb).top (h.below hb).st (by omega)).mono ?_, fun W a c a' c' h1 h2 => sameB_any W _ _ _ _ (see_own h1 (by simp [dumpL])) (see_own h2 (by simp [dumpL])) (by omega)⟩, hle⟩
    · rintro e w' ⟨rfl, hb'⟩
      exact ⟨rfl, hb.trans (hb'.mono hb.size)⟩
    · rintro e w' ⟨a, c, rfl, _, hl, ho, hb'⟩
      rw [dump_cells] at ho
      exact ⟨a, c, rfl, ho, hb', hb.trans (hb'.mono hb.size)⟩
  · exact .inr hle

end Go.Proofs.Ytdgokfehgjkalaa.Wd
