import Derived.Test.YtgeadhgomhgmoaaDoorCutA
namespace Go.Proofs.YtgeadhgomhgmoaaDoor
open Go.RowKit Go.Lib Go.Deep

/-- a running sum that took a text -/
def Took (w : World) (p : Nat) (J : List UInt8) : Prop := Hs w p (eat first J).1 (eat first J).2 J.length
theorem Took.below {w w' : World} {B p : Nat} {J : List UInt8} (h : Took w p J) (ho : Below B w w') (hp : p < B) : Took w' p J := Hs.below h ho hp
theorem Took.only {w w' : World} {S : List Nat} {p : Nat} {J : List UInt8} (h : Took w p J) (ho : Only S w w') (hp : p ∉ S) : Took w' p J := Hs.only h ho hp
theorem Took.lt {w : World} {p : Nat} {J : List UInt8} (h : Took w p J) : p < w.heap.size := Hs.lt h

theorem took_new (w : World) (ht : Tabs w) (h4 : 4 ≤ w.heap.size) :
    Calls Tryd.prog 13 #[] w fun e w' => e = .returned (.pointer (some ⟨w.heap.size, 0, none⟩)) ∧ Took w' w.heap.size [] ∧ Below w.heap.size w w' := by
  refine (new_any w ht h4).mono ?_
  rintro e w' ⟨rfl, h1, h2, h3, h4⟩
  exact ⟨rfl, h1, h2⟩
theorem took_write {w : World} {p : Nat} {J : List UInt8} (hh : Took w p J) (ht : Tabs w) (data : ByteArray) (hb : J.length + data.size ≤ 1099511627776) :
    Calls Tryd.prog 14 #[.pointer (some ⟨p, 0, none⟩), .string data] w fun e w' => e = .returned (.int .i64 0) ∧ Took w' p (J ++ data.data.toList) ∧ Only [p] w w' := by
  refine (write_any hh ht data hb).mono ?_
  rintro e w' ⟨rfl, h1, h2, _⟩
  refine ⟨rfl, ?_, h2⟩
  unfold Took
  rw [eat_append, List.length_append, ← size_eq]
  exact h1
theorem took_sum {w : World} {p : Nat} {J : List UInt8} (hh : Took w p J) (ht : Tabs w) (hb : J.length ≤ 1099511627776) :
    Calls Tryd.prog 15 #[.pointer (some ⟨p, 0, none⟩)] w fun e w' => e = .returned (.string (str (shaL J))) ∧ Below w.heap.size w w' := by
  have h := hsum_any hh ht (by omega)
  rw [shaL_eat] at h
  exact h
theorem took_count {w : World} {p : Nat} {J : List UInt8} (hh : Took w p J) :
    Calls Tryd.prog 18 #[.pointer (some ⟨p, 0, none⟩)] w fun e w' => e = .returned (.int .i64 (J.length : Int)) ∧ w = w' := count_any hh
theorem took_state {w : World} {p : Nat} {J : List UInt8} (hh : Took w p J) :
    Calls Tryd.prog 11 #[.pointer (some ⟨p, 0, none⟩)] w fun e w' => e = .returned (.string (str (stateOf J))) ∧ Below w.heap.size w w' := state_any hh
theorem took_again (J : List UInt8) (w : World) (ht : Tabs w) (h4 : 4 ≤ w.heap.size) (hb : J.length ≤ 1099511627776) :
    Calls Tryd.prog 9 #[.string (str (stateOf J))] w fun e w' => ∃ q, e = .returned (.tuple #[.pointer (some ⟨q, 0, none⟩), .int .i64 0]) ∧ w.heap.size ≤ q ∧ Took w' q J ∧ Below w.heap.size w w' := by
  obtain ⟨e1, e2, e3⟩ := stateOf_back J hb
  have h := restore_good (str (stateOf J)) w ht h4 (by rw [str_data]; exact stateOf_good _ hb)
  rw [str_data, e1, e2, e3] at h
  exact h

/-- what ShaCuts holds: the sum that goes on, the quiet one -/
structure Ct (w wr : World) (p q : Nat) (J : List UInt8) : Prop where
  hs : Took wr p J
  qs : Took wr q J
  ne : p ≠ q
  pb : w.heap.size ≤ p
  qb : w.heap.size ≤ q
  bel : Below w.heap.size w wr

set_option maxRecDepth 20000 in
set_option maxHeartbeats 4000000 in
theorem shaCuts_walk (w : World) (ht : Tabs w) (h4 : 4 ≤ w.heap.size) (a : Option Addr) (len cap : Nat) (ss : List ByteArray) (hL : Lst w a len ss) :
    Calls Tryd.prog 4 #[.slice a len cap] w fun e w' => e = .returned (.bool true) ∧ Below w.heap.size w w' := by
  have HL : Hid (Lst w a len ss) := hL
  have hl := hL.sz
  clear hL
  go_enter Tryd.func4, Tryd.ntmps4
  go_wp2_with fail
  refine (known_any w ht h4).mono ?_
  rintro e w1 ⟨rfl, hb1⟩
  go_wp2_with fail
  refine (beyond_any w1 a len cap ss (HL.out.below hb1)).mono ?_
  rintro e w1' ⟨v, rfl, hv, rfl⟩
  cases v with
  | true =>
    go_wp2
    go_ret
    exact ⟨rfl, hb1⟩
  | false =>
    have hsm := hv rfl
    clear hv
    have z1 := hb1.size
    go_wp2_with fail
    refine (took_new w1 (ht.below hb1 (by omega)) (by omega)).mono ?_
    rintro e w2 ⟨rfl, hs2, hb2'⟩
    have hb2 : Below w.heap.size w w2 := hb1.trans (hb2'.mono z1)
    have z2 := hb2.size
    have hlt2 := hs2.lt
    go_wp2_with fail
    refine (took_new w2 (ht.below hb2 (by omega)) (by omega)).mono ?_
    rintro e w3 ⟨rfl, hs3, hb3'⟩
    have HC : Ct w w3 w1.heap.size w2.heap.size [] := ⟨hs2.below hb3' hlt2, hs3, by omega, z1, z2, hb2.trans (hb3'.mono z2)⟩
    clear hs2 hs3 hb3' hb2' hb1 hb2 z1
    obtain ⟨p, hp⟩ : ∃ p, w1.heap.size = p := ⟨_, rfl⟩
    obtain ⟨q, hq⟩ : ∃ q, w2.heap.size = q := ⟨_, rfl⟩
    rw [hp, hq] at HC
    rw [hp, hq]
    clear hp hq z2 hlt2
    go_wp2
    go_loopg [4, 6, 7] len (fun gk hv sv i wr => ∃ (k : Nat) (p : Nat), k + gk = len ∧ i = .int .i64 k ∧ hv = .pointer (some ⟨p, 0, none⟩) ∧ sv = .string (str (joinL (ss.take k))) ∧ Ct w wr p q (joinL (ss.take k)))
    case atStart => exact ⟨0, p, by omega, rfl, rfl, rfl, HC⟩
    case round =>
      clear HC
      obtain ⟨k, p, hk, rfl, rfl, rfl, HC⟩ := hrel
      have HK : Hid (k + gk = len) := hk
      have hk' : k ≤ len := by omega
      clear hk
      have hJ := joinL_le ss k
      by_cases hlt : k < len
      · obtain ⟨s, hs⟩ : ∃ s, ss[k]? = some s := ⟨_, List.getElem?_eq_getElem (by omega)⟩
        have hjt := joinL_take ss k s hs
        have hJ' := joinL_le ss (k + 1)
        have hcs : ∀ W : World, Below w.heap.size w W → ∃ b off, a = some ⟨b, off, none⟩ ∧ b < w.heap.size ∧ W.cell? ⟨b, off + k, none⟩ = some (.string s) := fun W hb => by
          obtain ⟨b, off, rfl, hbl, hc⟩ := HL.out.cell k s hs
          exact ⟨b, off, rfl, hbl, (hb.cell (p := ⟨b, off + k, none⟩) hbl).trans hc⟩
        obtain ⟨b, off, rfl, hbl, hc0⟩ := hcs w (Below.refl _ _)
        have HCS : Hid (∀ W : World, Below w.heap.size w W → W.cell? ⟨b, off + k, none⟩ = some (.string s)) := fun W hb => (hb.cell (p := ⟨b, off + k, none⟩) hbl).trans hc0
        clear hcs hs hc0
        obtain ⟨J, hJe⟩ : ∃ J, joinL (ss.take k) = J := ⟨_, rfl⟩
        obtain ⟨J', hJe'⟩ : ∃ J', joinL (ss.take (k + 1)) = J' := ⟨_, rfl⟩
        have HE : Hid (joinL (ss.take (k + 1)) = J') := hJe'
        rw [hJe, hJe'] at hjt
        rw [hJe'] at hJ'
        rw [hJe] at HC ⊢
        clear hJe hJe' hJ
        have hlen' : J.length + s.size = J'.length := by rw [hjt, List.length_append, ← size_eq]
        have hcat : str J ++ s = str J' := by
          rw [hjt]
          apply ByteArray.ext
          apply Array.ext'
          rw [ByteArray.data_append, Array.toList_append, str_data, str_data]
        have hsz : ((str J').size : Int) = (J'.length : Int) := by rw [str_size]
        have hadd : (str J).size + s.size ≤ 9223372036854775807 := by rw [str_size]; omega
        have HJT : Hid (J' = J ++ s.data.toList) := hjt
        clear hjt
        have hbel := HC.bel
        have c1 := HCS.out _ hbel
        have z := hbel.size
        have hqlt := HC.qs.lt
        go_wp2_with fail
        refine (took_write HC.hs (ht.below hbel (by omega)) s (by omega)).mono ?_
        rintro e w4 ⟨rfl, hs4, ho4⟩
        have hq4 := HC.qs.only ho4 (by have := HC.ne; simp; omega)
        have hb4 : Below w.heap.size w w4 := hbel.trans (ho4.below hbel.size (by have := HC.pb; simp; omega))
        rw [← HJT.out] at hs4
        clear ho4 hbel c1
        have z4 := hb4.size
        have c1 := HCS.out _ hb4
        go_wp2_with fail
        refine (took_write hq4 (ht.below hb4 (by omega)) s (by omega)).mono ?_
        rintro e w5 ⟨rfl, hq5, ho5⟩
        have hs5 := hs4.only ho5 (by have := HC.ne; simp; omega)
        have hb5 : Below w.heap.size w w5 := hb4.trans (ho5.below hb4.size (by have := HC.qb; simp; omega))
        rw [← HJT.out] at hq5
        have HQ : Hid (p ≠ q ∧ w.heap.size ≤ p ∧ w.heap.size ≤ q) := ⟨HC.ne, HC.pb, HC.qb⟩
        clear ho5 hb4 c1 hs4 hq4 HC hqlt z z4
        have z5 := hb5.size
        have c1 := HCS.out _ hb5
        go_wp2_with (go_at_call 10; refine (num_any 0 _).mono ?_; rintro e w' ⟨rfl, rfl⟩)
        refine (took_sum hs5 (ht.below hb5 (by omega)) (by omega)).mono ?_
        rintro e w6 ⟨rfl, hb6'⟩
        have hb6 : Below w.heap.size w w6 := hb5.trans (hb6'.mono z5)
        have hs6 := hs5.below hb6' hs5.lt
        have hq6 := hq5.below hb6' hq5.lt
        clear hb6' hs5 hq5 hb5 z5 c1
        have z6 := hb6.size
        have h1 := sum_one (str J') w6 (ht.below hb6 (by omega)) (by omega) (by rw [str_size]; omega)
        rw [str_data] at h1
        go_wp2_with fail
        refine h1.mono ?_
        clear h1
        rintro e w7 ⟨rfl, hb7'⟩
        have hb7 : Below w.heap.size w w7 := hb6.trans (hb7'.mono z6)
        have hs7 := hs6.below hb7' hs6.lt
        have hq7 := hq6.below hb7' hq6.lt
        clear hb7' hs6 hq6 hb6 z6
        have z7 := hb7.size
        go_wp2_with (go_at_call 18; refine (took_count hs7).mono ?_; rintro e w' ⟨rfl, rfl⟩)
        refine (took_state hs7).mono ?_
        rintro e w8 ⟨rfl, hb8'⟩
        have hb8 : Below w.heap.size w w8 := hb7.trans (hb8'.mono z7)
        have hq8 := hq7.below hb8' hq7.lt
        clear hb8' hs7 hq7 hb7 z7
        have z8 := hb8.size
        go_wp2_with fail
        refine (took_again J' w8 (ht.below hb8 (by omega)) (by omega) (by omega)).mono ?_
        rintro e w9 ⟨p', rfl, hp', hs9, hb9'⟩
        have hb9 : Below w.heap.size w w9 := hb8.trans (hb9'.mono z8)
        have hq9 := hq8.below hb9' hq8.lt
        have hne : p' ≠ q := by have := hq8.lt; omega
        clear hb9' hq8 hb8
        go_wp2_with (first | (go_at_call 10; refine (num_any 0 _).mono ?_; rintro e w' ⟨rfl, rfl⟩) | (go_at_call 18; refine (took_count hs9).mono ?_; rintro e w' ⟨rfl, rfl⟩))
        go_roundg (gk - 1)
        case measure => have := HK.out; omega
        case rel =>
          refine ⟨k + 1, p', by have := HK.out; omega, by go_num, rfl, ?_, ?_⟩
          · rw [HE.out]
          · rw [HE.out]
            exact ⟨hs9, hq9, hne, by omega, HQ.out.2.2, hb9⟩
      · obtain rfl : k = len := by omega
        rw [List.take_of_length_le (by omega)] at HC ⊢
        obtain ⟨J, hJe⟩ : ∃ J, joinL ss = J := ⟨_, rfl⟩
        have HE : Hid (joinL ss = J) := hJe
        rw [hJe] at HC hsm ⊢
        clear hJe hJ
        have hbel := HC.bel
        have z := hbel.size
        have hsz : ((str J).size : Int) = (J.length : Int) := by rw [str_size]
        go_wp2_with fail
        refine (marked_any wr a k cap ss (HL.out.below hbel) (by omega)).mono ?_
        rintro e w4 ⟨v, rfl, hown, hb4'⟩
        have hb4 : Below w.heap.size w w4 := hbel.trans (hb4'.mono z)
        have hs4 := HC.hs.below hb4' HC.hs.lt
        have hq4 := HC.qs.below hb4' HC.qs.lt
        rcases hown.2 with ⟨_, h0⟩ | ⟨g, cp, cur, rfl, hg1, hg2, hg3, hg4, hg5, hg6⟩
        · omega
        · have hcl : ∀ i s, ss[i]? = some s → w4.cell? ⟨g, 0 + i, none⟩ = some (.string s) := by
            intro i s hs
            have hi : i < ss.length := (List.getElem?_eq_some_iff.1 hs).1
            rw [Nat.zero_add, hown.cellAt i (by omega), List.getElem?_append_left (by rw [strCells_length]; exact hi)]
            simp [strCells, hs]
          have HG : Hid (g < w4.heap.size ∧ ∀ i s, ss[i]? = some s → w4.cell? ⟨g, 0 + i, none⟩ = some (.string s)) := ⟨heap_lt hg2, hcl⟩
          clear hown hg1 hg2 hg4 hg5 hg6 hcl HC hbel hb4' z
          have z4 := hb4.size
          have h1 := sum_one (str J) w4 (ht.below hb4 (by omega)) (by omega) (by rw [str_size]; omega)
          rw [str_data] at h1
          go_wp2_with fail
          refine h1.mono ?_
          clear h1
          rintro e w5 ⟨rfl, hb5'⟩
          have hb5 : Below w.heap.size w w5 := hb4.trans (hb5'.mono z4)
          have hs5 := hs4.below hb5' hs4.lt
          have hq5 := hq4.below hb5' hq4.lt
          have HG5 : Hid (g < w5.heap.size ∧ ∀ i s, ss[i]? = some s → w5.cell? ⟨g, 0 + i, none⟩ = some (.string s)) :=
            ⟨by have := HG.out.1; have := hb5'.size; omega, fun i s hs => (hb5'.cell (p := ⟨g, 0 + i, none⟩) HG.out.1).trans (HG.out.2 i s hs)⟩
          clear hb5' hs4 hq4 hb4 z4 HG
          have z5 := hb5.size
          have h32 : ((str (shaL J)).size : Int) = 32 := by rw [str_size, shaL_length]; rfl
          go_wp2_with fail
          refine (took_sum hs5 (ht.below hb5 (by omega)) (by omega)).mono ?_
          rintro e w6 ⟨rfl, hb6'⟩
          have hb6 : Below w.heap.size w w6 := hb5.trans (hb6'.mono z5)
          have hq6 := hq5.below hb6' hq5.lt
          have HG6 : Hid (g < w6.heap.size ∧ ∀ i s, ss[i]? = some s → w6.cell? ⟨g, 0 + i, none⟩ = some (.string s)) :=
            ⟨by have := HG5.out.1; have := hb6'.size; omega, fun i s hs => (hb6'.cell (p := ⟨g, 0 + i, none⟩) HG5.out.1).trans (HG5.out.2 i s hs)⟩
          clear hb6' hs5 hq5 hb5 z5 HG5
          have z6 := hb6.size
          go_wp2_with fail
          refine (took_sum hq6 (ht.below hb6 (by omega)) (by omega)).mono ?_
          rintro e w7 ⟨rfl, hb7'⟩
          have hb7 : Below w.heap.size w w7 := hb6.trans (hb7'.mono z6)
          have hq7 := hq6.below hb7' hq6.lt
          have HG7 : Hid (g < w7.heap.size ∧ ∀ i s, ss[i]? = some s → w7.cell? ⟨g, 0 + i, none⟩ = some (.string s)) :=
            ⟨by have := HG6.out.1; have := hb7'.size; omega, fun i s hs => (hb7'.cell (p := ⟨g, 0 + i, none⟩) HG6.out.1).trans (HG6.out.2 i s hs)⟩
          clear hb7' hq6 hb6 z6 HG6
          have z7 := hb7.size
          have hcp : (k : Int) ≤ (cp : Int) := by omega
          have hsum := sum_some w7 (ht.below hb7 (by omega)) (by omega) g 0 k cp ss hl (by omega) HG7.out.1 HG7.out.2 (by rw [HE.out]; omega)
          rw [HE.out] at hsum
          go_wp2_with (first | (go_at_call 18; refine (took_count hq7).mono ?_; rintro e w' ⟨rfl, rfl⟩) | (go_at_call 16; refine hsum.mono ?_; rintro e w8 ⟨rfl, hb8⟩))
          go_ret
          exact ⟨rfl, hb7.trans (hb8.mono z7)⟩

end Go.Proofs.YtgeadhgomhgmoaaDoor
