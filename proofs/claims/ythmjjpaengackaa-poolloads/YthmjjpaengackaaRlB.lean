import Derived.Test.YthmjjpaengackaaRlA
namespace Go.Proofs.Ythmjjpaengackaa.Po
open Go.RowKit Go.Lib Go.Deep

/-! the document's pool: what is sought is sought by going through the lists -/
def fstI {α : Type} (p : α → Bool) (l : List α) (k : Nat) : Int := match (l.take k).findIdx? p with | some i => (i : Int) | none => -1
theorem fst_at {α : Type} {p : α → Bool} {l : List α} {k i : Nat} {x : α} (hi : i < k) (hx : l[i]? = some x) (hp : p x = true) (h : ∀ (j : Nat) y, j < i → l[j]? = some y → p y = false) : fstI p l k = (i : Int) := by
  have e : (l.take k).findIdx? p = some i := by
    rw [List.findIdx?_eq_some_iff_getElem]
    have hl := some_lt hx
    have hlt : i < (l.take k).length := by simp; omega
    have hg : (l.take k)[i]? = some x := by rw [List.getElem?_take, if_pos hi]; exact hx
    refine ⟨hlt, ?_, fun j hj => ?_⟩
    · rw [List.getElem?_eq_getElem hlt] at hg
      rw [Option.some.inj hg]
      exact hp
    · have hj2 : j < (l.take k).length := by omega
      have hy : l[j]? = some (l.take k)[j] := by
        have e1 : (l.take k)[j]? = some (l.take k)[j] := List.getElem?_eq_getElem hj2
        rw [List.getElem?_take, if_pos (by omega)] at e1
        exact e1
      rw [h j _ hj hy]
      exact Bool.false_ne_true
  unfold fstI
  rw [e]
theorem fst_no {α : Type} {p : α → Bool} {l : List α} {k : Nat} (h : ∀ (j : Nat) y, j < k → l[j]? = some y → p y = false) : fstI p l k = -1 := by
  have e : (l.take k).findIdx? p = none := by
    rw [List.findIdx?_eq_none_iff]
    intro x hx
    obtain ⟨j, hj⟩ := List.mem_iff_getElem?.1 hx
    rw [List.getElem?_take] at hj
    split at hj
    · rename_i hlt
      exact h j x hlt hj
    · cases hj
  unfold fstI
  rw [e]
def nmB (n : ByteArray) (o : Ob) : Bool := decide (o.nm = n)
def owB (f : Int) (o : Ob) : Bool := decide (o.ow = f)
def zB (r : Int) (z : Int) : Bool := decide (z = r)
set_option maxRecDepth 20000 in
set_option maxHeartbeats 1000000 in
theorem named_any (w : World) (v : Value) (n : Nat) (A : List Ob) (ha : See w 4 v n (obsC A)) (hn : n ≤ 9223372036854775807) (nm : ByteArray) (k : Nat) (hk : k ≤ n) : Calls Try.prog 74 #[v, .string nm, .int .i64 (k : Int)] w fun e w' => e = .returned (.int .i64 (fstI (nmB nm) A k)) ∧ w' = w := by
  have hl := ha.len
  obtain ⟨a1, c1, rfl⟩ := ha.form
  have HA : Hid (∀ j, j < k → ∃ o b off, A[j]? = some o ∧ a1 = some ⟨b, off, none⟩ ∧ w.cell? ⟨b, off + j * 4, none⟩ = some (.string o.nm)) := fun j hj => by
    obtain ⟨o, ho⟩ : ∃ o, A[j]? = some o := ⟨_, List.getElem?_eq_getElem (by omega)⟩
    obtain ⟨b, off, e, r, -⟩ := ha.ob ho hl
    exact ⟨o, b, off, ho, e, r⟩
  clear ha hl
  go_enter Try.func74, Try.ntmps74
  go_wp2
  go_loopg [7] k (fun gk i wr => ∃ j : Nat, gk = k - j ∧ j ≤ k ∧ i = .int .i64 (j : Int) ∧ w = wr ∧ Hid (∀ (i : Nat) y, i < j → A[i]? = some y → nmB nm y = false))
  case atStart => exact ⟨0, by omega, by omega, rfl, rfl, fun i y hi => by omega⟩
  case round =>
    obtain ⟨j, hgj, hjk, rfl, rfl, hno⟩ := hrel
    by_cases hj : j < k
    · have hjI : (j : Int) < (k : Int) := by omega
      have hjN : (j : Int) < (n : Int) := by omega
      obtain ⟨o, b, off, hjo, rfl, r0⟩ := HA.out j hj
      have w1 : IntKind.i64.wrap ((j : Int) + 1) = ((j + 1 : Nat) : Int) := by rw [IntKind.wrap_i64]; omega
      by_cases he : o.nm = nm
      · have HE : Hid (fstI (nmB nm) A k = (j : Int)) := fst_at hj hjo (decide_eq_true he) hno.out
        rw [he] at r0
        clear hno hjo he
        go_wp2
        go_ret
        exact ⟨by rw [HE.out]; rfl, rfl⟩
      · have HN : Hid (∀ (i : Nat) y, i < j + 1 → A[i]? = some y → nmB nm y = false) := fun i y hi hy => by
          by_cases h : i = j
          · subst h
            rw [hjo] at hy
            obtain rfl := Option.some.inj hy
            exact decide_eq_false he
          · exact hno.out i y (by omega) hy
        have he' : (o.nm.toList == nm.toList) = false := beq_false_of_ne (fun e => he (ba_ext (by rw [toList_data, toList_data] at e; exact e)))
        clear hno hjo he
        go_wp2
        go_roundg (k - (j + 1))
        case measure => omega
        case rel => exact ⟨j + 1, rfl, by omega, rfl, rfl, HN⟩
    · obtain rfl : j = k := by omega
      have hjI : ¬ (j : Int) < (j : Int) := by omega
      have HE : Hid (fstI (nmB nm) A j = -1) := fst_no hno.out
      clear hno
      go_wp2
      go_ret
      exact ⟨by rw [HE.out]; rfl, rfl⟩
set_option maxRecDepth 20000 in
set_option maxHeartbeats 1000000 in
theorem ownedR_any (w : World) (v : Value) (n : Nat) (A : List Ob) (ha : See w 4 v n (obsC A)) (hn : n ≤ 9223372036854775807) (f : Int) (k : Nat) (hk : k ≤ n) : Calls Try.prog 75 #[v, .int .i64 f, .int .i64 (k : Int)] w fun e w' => e = .returned (.int .i64 (fstI (owB f) A k)) ∧ w' = w := by
  have hl := ha.len
  obtain ⟨a1, c1, rfl⟩ := ha.form
  have HA : Hid (∀ j, j < k → ∃ o b off, A[j]? = some o ∧ a1 = some ⟨b, off, none⟩ ∧ w.cell? ⟨b, off + j * 4 + 3, none⟩ = some (.int .i64 o.ow)) := fun j hj => by
    obtain ⟨o, ho⟩ : ∃ o, A[j]? = some o := ⟨_, List.getElem?_eq_getElem (by omega)⟩
    obtain ⟨b, off, e, -, -, -, r⟩ := ha.ob ho hl
    exact ⟨o, b, off, ho, e, r⟩
  clear ha hl
  go_enter Try.func75, Try.ntmps75
  go_wp2
  go_loopg [7] k (fun gk i wr => ∃ j : Nat, gk = k - j ∧ j ≤ k ∧ i = .int .i64 (j : Int) ∧ w = wr ∧ Hid (∀ (i : Nat) y, i < j → A[i]? = some y → owB f y = false))
  case atStart => exact ⟨0, by omega, by omega, rfl, rfl, fun i y hi => by omega⟩
  case round =>
    obtain ⟨j, hgj, hjk, rfl, rfl, hno⟩ := hrel
    by_cases hj : j < k
    · have hjI : (j : Int) < (k : Int) := by omega
      have hjN : (j : Int) < (n : Int) := by omega
      obtain ⟨o, b, off, hjo, rfl, r0⟩ := HA.out j hj
      have w1 : IntKind.i64.wrap ((j : Int) + 1) = ((j + 1 : Nat) : Int) := by rw [IntKind.wrap_i64]; omega
      by_cases he : o.ow = f
      · have HE : Hid (fstI (owB f) A k = (j : Int)) := fst_at hj hjo (decide_eq_true he) hno.out
        rw [he] at r0
        clear hno hjo he
        go_wp2
        go_ret
        exact ⟨by rw [HE.out]; rfl, rfl⟩
      · have HN : Hid (∀ (i : Nat) y, i < j + 1 → A[i]? = some y → owB f y = false) := fun i y hi hy => by
          by_cases h : i = j
          · subst h
            rw [hjo] at hy
            obtain rfl := Option.some.inj hy
            exact decide_eq_false he
          · exact hno.out i y (by omega) hy
        have he' : (o.ow == f) = false := beq_false_of_ne he
        clear hno hjo he
        go_wp2
        go_roundg (k - (j + 1))
        case measure => omega
        case rel => exact ⟨j + 1, rfl, by omega, rfl, rfl, HN⟩
    · obtain rfl : j = k := by omega
      have hjI : ¬ (j : Int) < (j : Int) := by omega
      have HE : Hid (fstI (owB f) A j = -1) := fst_no hno.out
      clear hno
      go_wp2
      go_ret
      exact ⟨by rw [HE.out]; rfl, rfl⟩
def anyB (r : Int) (Z : List Int) (k : Nat) : Bool := (Z.take k).any (zB r)
theorem anyB_at {r : Int} {Z : List Int} {k j : Nat} (hj : j < k) (h : Z[j]? = some r) : anyB r Z k = true := by
  unfold anyB
  rw [List.any_eq_true]
  exact ⟨r, List.mem_iff_getElem?.2 ⟨j, by rw [List.getElem?_take, if_pos hj]; exact h⟩, decide_eq_true rfl⟩
theorem anyB_no {r : Int} {Z : List Int} {k : Nat} (h : ∀ (j : Nat) y, j < k → Z[j]? = some y → zB r y = false) : anyB r Z k = false := by
  unfold anyB
  rw [List.any_eq_false]
  intro x hx
  obtain ⟨j, hj⟩ := List.mem_iff_getElem?.1 hx
  rw [List.getElem?_take] at hj
  split at hj
  · rename_i hlt
    rw [h j x hlt hj]
    exact Bool.false_ne_true
  · cases hj
set_option maxRecDepth 20000 in
set_option maxHeartbeats 1000000 in
theorem queued_any (w : World) (v : Value) (n : Nat) (A : List Int) (ha : See w 1 v n (zsC A)) (hn : n ≤ 9223372036854775807) (r : Int) (k : Nat) (hk : k ≤ n) : Calls Try.prog 76 #[v, .int .i64 r, .int .i64 (k : Int)] w fun e w' => e = .returned (.bool (anyB r A k)) ∧ w' = w := by
  have hl := ha.lenz
  obtain ⟨a1, c1, rfl⟩ := ha.form
  have HA : Hid (∀ j, j < k → ∃ o b off, A[j]? = some o ∧ a1 = some ⟨b, off, none⟩ ∧ w.cell? ⟨b, off + j, none⟩ = some (.int .i64 o)) := fun j hj => by
    obtain ⟨o, ho⟩ : ∃ o, A[j]? = some o := ⟨_, List.getElem?_eq_getElem (by omega)⟩
    obtain ⟨b, off, e, r⟩ := ha.z ho hl
    exact ⟨o, b, off, ho, e, r⟩
  clear ha hl
  go_enter Try.func76, Try.ntmps76
  go_wp2
  go_loopg [7] k (fun gk i wr => ∃ j : Nat, gk = k - j ∧ j ≤ k ∧ i = .int .i64 (j : Int) ∧ w = wr ∧ Hid (∀ (i : Nat) y, i < j → A[i]? = some y → zB r y = false))
  case atStart => exact ⟨0, by omega, by omega, rfl, rfl, fun i y hi => by omega⟩
  case round =>
    obtain ⟨j, hgj, hjk, rfl, rfl, hno⟩ := hrel
    by_cases hj : j < k
    · have hjI : (j : Int) < (k : Int) := by omega
      have hjN : (j : Int) < (n : Int) := by omega
      obtain ⟨o, b, off, hjo, rfl, r0⟩ := HA.out j hj
      have w1 : IntKind.i64.wrap ((j : Int) + 1) = ((j + 1 : Nat) : Int) := by rw [IntKind.wrap_i64]; omega
      by_cases he : o = r
      · rw [he] at r0 hjo
        have HE : Hid (anyB r A k = true) := anyB_at hj hjo
        clear hno hjo he
        go_wp2
        go_ret
        exact ⟨by rw [HE.out]; rfl, rfl⟩
      · have HN : Hid (∀ (i : Nat) y, i < j + 1 → A[i]? = some y → zB r y = false) := fun i y hi hy => by
          by_cases h : i = j
          · subst h
            rw [hjo] at hy
            obtain rfl := Option.some.inj hy
            exact decide_eq_false he
          · exact hno.out i y (by omega) hy
        have he' : (o == r) = false := beq_false_of_ne he
        clear hno hjo he
        go_wp2
        go_roundg (k - (j + 1))
        case measure => omega
        case rel => exact ⟨j + 1, rfl, by omega, rfl, rfl, HN⟩
    · obtain rfl : j = k := by omega
      have hjI : ¬ (j : Int) < (j : Int) := by omega
      have HE : Hid (anyB r A j = false) := anyB_no hno.out
      clear hno
      go_wp2
      go_ret
      exact ⟨by rw [HE.out]; rfl, rfl⟩
end Go.Proofs.Ythmjjpaengackaa.Po
