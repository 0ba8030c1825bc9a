import Derived.Test.YtdgokfehgjkalaaWoA
namespace Go.Proofs.Ytdgokfehgjkalaa.Wd
open Go.RowKit Go.Lib Go.Deep

def oat : ByteArray := { data := #[111, 97, 116] }
def grain : ByteArray := { data := #[103, 114, 97, 105, 110] }
def Sw1 : Wst := putS S0 oat grain
def Sw2 : Wst := getS Sw1 oat
def Sw3 : Wst := delS Sw2 oat
def Sw : Wst := getS Sw3 oat
theorem sw_e : putE S0 oat grain = 0 ∧ getE Sw1 oat = 0 ∧ getY Sw1 oat = grain ∧ getE Sw2 oat = 0 ∧ getE Sw3 oat = 101 := ⟨by decide, by decide, by decide, by decide, by decide⟩
theorem sw_l : Sw.tr.length = 4 ∧ Sw.ah.length = 4 ∧ Sw.pu.length = 1 ∧ Sw.nn = 1 ∧ Sw.off = false ∧ Sw.left = 0 := ⟨by decide, by decide, by decide, by decide, by decide, by decide⟩
theorem sw_b : Bnd S0 0 0 ∧ Bnd Sw1 1 1 ∧ Bnd Sw2 2 1 ∧ Bnd Sw3 3 1 ∧ Bnd Sw 4 1 := ⟨⟨by decide, by decide, by decide, by decide⟩, ⟨by decide, by decide, by decide, by decide⟩, ⟨by decide, by decide, by decide, by decide⟩, ⟨by decide, by decide, by decide, by decide⟩, ⟨by decide, by decide, by decide, by decide⟩⟩
theorem sw_f : Sw.f = fun _ => none := by
  funext k
  show delF (putF (fun _ => none) oat grain) oat k = none
  unfold delF putF
  split <;> simp_all
set_option maxRecDepth 10000 in
set_option maxHeartbeats 1000000 in
theorem works_any (w : World) : Calls Try.prog 7 #[] w fun e w' => ∃ pb q F, e = .returned (.pointer (some ⟨pb, 0, none⟩)) ∧ Top w' pb q ∧ St w' q F Sw ∧ w.heap.size ≤ pb ∧ (∀ k, k ∈ F → w.heap.size ≤ k) ∧ Below w.heap.size w w' := by
  have hn := new_any w
  have nu := fun n W => num_any n W
  go_enter Try.func7, Try.ntmps7
  go_wp2_with fail
  refine hn.mono ?_
  rintro e w1 ⟨pb, q, F, rfl, h1, h2, h3, h4, hb⟩
  have HT : Turn F w1 w1 q S0 := h2.turn (Below.refl _ _)
  have HTop : Hid (∀ W S', Turn F w1 W q S' → Top W pb q) := fun W S' ht => h1.keep h2 ht
  have c1 : Calls Try.prog 29 #[.pointer (some ⟨pb, 0, none⟩), .string { data := #[111, 97, 116] }, .string { data := #[103, 114, 97, 105, 110] }] w1 fun e w' => e = .returned (.int .i64 0) ∧ Turn F w1 w' q Sw1 := HT.call (fun F' hF' => (put_any w1 pb q F' S0 oat grain 0 0 h1 hF' sw_b.1 (by omega) (by omega)))
  have H2 : Hid (∀ W, Turn F w1 W q Sw1 → Calls Try.prog 25 #[.pointer (some ⟨pb, 0, none⟩), .string { data := #[111, 97, 116] }] W fun e w' => e = .returned (.tuple #[.string { data := #[103, 114, 97, 105, 110] }, .int .i64 0]) ∧ Turn F w1 w' q Sw2) := fun W hT => hT.call (fun F' hF' => (get_any W pb q F' Sw1 oat 1 1 (HTop.out _ _ hT) hF' sw_b.2.1 (by omega)))
  have H3 : Hid (∀ W, Turn F w1 W q Sw2 → Calls Try.prog 30 #[.pointer (some ⟨pb, 0, none⟩), .string { data := #[111, 97, 116] }] W fun e w' => e = .returned (.int .i64 0) ∧ Turn F w1 w' q Sw3) := fun W hT => hT.call (fun F' hF' => (delete_any W pb q F' Sw2 oat 2 1 (HTop.out _ _ hT) hF' sw_b.2.2.1 (by omega)))
  have H4 : Hid (∀ W, Turn F w1 W q Sw3 → Calls Try.prog 25 #[.pointer (some ⟨pb, 0, none⟩), .string { data := #[111, 97, 116] }] W fun e w' => e = .returned (.tuple #[.string { data := #[] }, .int .i64 101]) ∧ Turn F w1 w' q Sw) := fun W hT => hT.call (fun F' hF' => (get_any W pb q F' Sw3 oat 3 1 (HTop.out _ _ hT) hF' sw_b.2.2.2.1 (by omega)))
  have H5 : Hid (∀ W, Turn F w1 W q Sw → Calls Try.prog 11 #[.pointer (some ⟨pb, 0, none⟩)] W fun e w' => e = .returned (.int .i64 4) ∧ w' = W) := fun W hT => by
    obtain ⟨o1, F2, s2, k2⟩ := id hT
    exact calls_any W pb q F2 Sw (HTop.out _ _ hT) s2
  have HE : Hid (∀ W, Turn F w1 W q Sw → ∃ F', Top W pb q ∧ St W q F' Sw ∧ w.heap.size ≤ pb ∧ (∀ k, k ∈ F' → w.heap.size ≤ k) ∧ Below w.heap.size w W) := fun W hT => by
    obtain ⟨o1, F2, s2, k2⟩ := id hT
    refine ⟨F2, HTop.out _ _ hT, s2, h3, fun k hk => ?_, o1.os.trans hb.os, o1.tape.trans hb.tape, o1.output.trans hb.output, Nat.le_trans hb.size o1.size, fun k hk => ?_⟩
    · rcases k2 k hk with h | h
      · exact h4 k h
      · exact Nat.le_trans hb.size h
    · exact (o1.block k (Nat.lt_of_lt_of_le hk hb.size) (fun e => by have := h4 k e; omega)).trans (hb.block k hk)
  clear h1 h2 h3 h4 hb HT hn
  go_wp2_with fail
  refine c1.mono ?_
  rintro e w2 ⟨rfl, hT2⟩
  have c2 := H2.out _ hT2
  clear hT2 c1
  go_wp2_with fail
  refine c2.mono ?_
  rintro e w3 ⟨rfl, hT3⟩
  have c3 := H3.out _ hT3
  clear hT3 c2
  go_wp2_with fail
  refine c3.mono ?_
  rintro e w4 ⟨rfl, hT4⟩
  have c4 := H4.out _ hT4
  clear hT4 c3
  go_wp2_with fail
  refine c4.mono ?_
  rintro e w5 ⟨rfl, hT5⟩
  have c5 := H5.out _ hT5
  have HT5 : Hid (Turn F w1 w5 q Sw) := hT5
  clear c4 hT5
  go_wp2_with (first | (go_at_call 9; refine (nu _ _).mono ?_; rintro e w' ⟨rfl, rfl⟩) | (go_at_call 11; refine c5.mono ?_; rintro e w' ⟨rfl, rfl⟩))
  go_ret
  obtain ⟨F', g1, g2, g3, g4, g5⟩ := HE.out _ HT5.out
  exact ⟨pb, q, F', rfl, g1, g2, g3, g4, g5⟩

end Go.Proofs.Ytdgokfehgjkalaa.Wd
