import Derived.Test.YtnfddiabhpandaaGreatDoorTaM
import Derived.Test.YtnfddiabhpandaaGreatDoorLaM
import Derived.Test.YtnfddiabhpandaaGreatDoorPbX
namespace Go.Proofs.YtnfddiabhpandaaGreatDoor.Tr
open Go.RowKit Go.Lib

/-- what a node of State says of its tree -/
theorem told_mem {T : Ts} {x : Nd} (h : x ∈ told T) : (x.kind = 1 ∧ 1 ≤ x.number ∧ T.D[x.number]? = some (some (x.parent, x.name)) ∧ x.size = 0) ∨ (x.kind = 2 ∧ T.F[x.number]? = some (some (x.parent, x.name, x.size))) := by
  rcases List.mem_append.1 h with h1 | h1
  · left
    unfold toldD at h1
    obtain ⟨r, hr, h2⟩ := List.mem_filterMap.1 h1
    obtain ⟨i, hi⟩ := List.mem_iff_getElem?.1 hr
    rw [List.getElem?_drop, List.getElem?_zipIdx] at hi
    cases hd : T.D[1 + i]? with
    | none => rw [hd] at hi; cases hi
    | some o =>
      rw [hd] at hi
      simp only [Option.map_some, Option.some.injEq] at hi
      subst hi
      cases o with
      | none => cases h2
      | some d =>
        simp only [Option.map_some, Option.some.injEq] at h2
        subst h2
        refine ⟨rfl, by simp, ?_, rfl⟩
        simpa using hd
  · right
    unfold toldF at h1
    obtain ⟨r, hr, h2⟩ := List.mem_filterMap.1 h1
    have hi := List.mem_zipIdx_iff_getElem?.1 hr
    cases ho : r.1 with
    | none => rw [ho] at h2; cases h2
    | some d =>
      rw [ho] at h2 hi
      injection h2 with h2
      rw [← h2]
      exact ⟨rfl, hi⟩
/-- and it lies where it says -/
theorem told_lies {T : Ts} {dp : Nat → Nat} (hv : Inv T dp) {x : Nd} (h : x ∈ told T) : T.M x.parent (ky x.name) = some (x.kind, x.number) := by
  refine (hv.hM _ _ _).2 ?_
  rcases told_mem h with ⟨h1, h2, h3, _⟩ | ⟨h1, h2⟩
  · exact .inl ⟨h1, by show x.number ≠ 0; omega, _, h3, rfl⟩
  · exact .inr ⟨h1, _, _, h2, rfl⟩
theorem told_name {T : Ts} {dp : Nat → Nat} (hv : Inv T dp) {x : Nd} (h : x ∈ told T) : Pa.nm x.name = true := hv.hN _ _ _ (told_lies hv h)
theorem told_size {T : Ts} {dp : Nat → Nat} (hv : Inv T dp) {x : Nd} (h : x ∈ told T) : x.size ≤ T.most ∧ (x.kind = 1 → x.size = 0) := by
  rcases told_mem h with ⟨h1, h2, h3, h4⟩ | ⟨h1, h2⟩
  · exact ⟨by rw [h4]; exact Nat.zero_le _, fun _ => h4⟩
  · exact ⟨hv.hS _ _ _ _ h2, fun h => by rw [h1] at h; cases h⟩
theorem told_room {T : Ts} {dp : Nat → Nat} (hv : Inv T dp) {x : Nd} (h : x ∈ told T) : (x.kind = 1 ∧ 1 ≤ x.number ∧ x.number + 1 ≤ T.dr) ∨ (x.kind = 2 ∧ x.number < T.fr) := by
  rcases told_mem h with ⟨h1, h2, h3, h4⟩ | ⟨h1, h2⟩
  · have := some_lt h3
    have := hv.dl
    exact .inl ⟨h1, h2, by omega⟩
  · have := some_lt h2
    have := hv.fl
    exact .inr ⟨h1, by omega⟩
theorem told_apart {T : Ts} {dp : Nat → Nat} (hv : Inv T dp) {x y : Nd} (hx : x ∈ told T) (hy : y ∈ told T) (h : x.parent = y.parent) (h2 : x.name = y.name) : x.kind = y.kind ∧ x.number = y.number := by
  have h3 := told_lies hv hx
  rw [h, h2, told_lies hv hy] at h3
  injection h3 with h3
  injection h3 with h3 h4
  exact ⟨h3.symm, h4.symm⟩
/-- by kind, then by number -/
def ndLt (a b : Nd) : Prop := a.kind < b.kind ∨ a.kind = b.kind ∧ a.number < b.number
theorem sorted_of {α : Type} (f : α × Nat → Option Nd) (k : Nat) (hf : ∀ r x, f r = some x → x.kind = k ∧ x.number = r.2) : ∀ (l : List α) (m : Nat), ((l.zipIdx m).filterMap f).Pairwise ndLt ∧ ∀ x, x ∈ (l.zipIdx m).filterMap f → x.kind = k ∧ m ≤ x.number
  | [], _ => ⟨List.Pairwise.nil, fun x h => (by cases h)⟩
  | a :: t, m => by
    obtain ⟨h1, h2⟩ := sorted_of f k hf t (m + 1)
    rw [List.zipIdx_cons, List.filterMap_cons]
    cases hq : f (a, m) with
    | none => exact ⟨h1, fun x hx => ⟨(h2 x hx).1, by have := (h2 x hx).2; omega⟩⟩
    | some y =>
      obtain ⟨e1, e2⟩ := hf _ _ hq
      refine ⟨List.pairwise_cons.2 ⟨fun x hx => .inr ⟨by rw [e1, (h2 x hx).1], by have := (h2 x hx).2; simp only at e2; omega⟩, h1⟩, fun x hx => ?_⟩
      rcases List.mem_cons.1 hx with rfl | hx
      · exact ⟨e1, by simp only at e2; omega⟩
      · exact ⟨(h2 x hx).1, by have := (h2 x hx).2; omega⟩
theorem told_sorted (T : Ts) : (told T).Pairwise ndLt := by
  have hD := sorted_of (fun (r : Option (Nat × ByteArray) × Nat) => r.1.map fun d => (⟨1, r.2, d.1, d.2, 0⟩ : Nd)) 1 (fun r x h => by
    cases hr : r.1 with
    | none => simp only [hr] at h; cases h
    | some d => simp only [hr, Option.map_some, Option.some.injEq] at h; rw [← h]; exact ⟨rfl, rfl⟩)
  have hF := sorted_of (fun (r : Option (Nat × ByteArray × Nat) × Nat) => r.1.map fun f => (⟨2, r.2, f.1, f.2.1, f.2.2⟩ : Nd)) 2 (fun r x h => by
    cases hr : r.1 with
    | none => simp only [hr] at h; cases h
    | some d => simp only [hr, Option.map_some, Option.some.injEq] at h; rw [← h]; exact ⟨rfl, rfl⟩)
  have e : T.D.zipIdx.drop 1 = (T.D.drop 1).zipIdx 1 := by
    cases T.D with
    | nil => rfl
    | cons a t => rfl
  unfold told
  rw [List.pairwise_append]
  unfold toldD
  rw [e]
  refine ⟨(hD _ _).1, (hF T.F 0).1, fun a ha b hb => .inl ?_⟩
  rw [((hD _ _).2 a ha).1, ((hF T.F 0).2 b hb).1]
  decide

end Go.Proofs.YtnfddiabhpandaaGreatDoor.Tr

namespace Go.Proofs.YtnfddiabhpandaaGreatDoor.Tr
open Go.RowKit Go.Lib Go.Deep

/-- where a node's parent stands in a state's list -/
def Par (L : List Nd) (p : Nat) (r : Int) : Prop := (p = 0 ∧ r = -1) ∨ (p ≠ 0 ∧ ∃ (j : Nat) (y : Nd), r = (j : Int) ∧ L[j]? = some y ∧ y.kind = 1 ∧ y.number = p) ∨ (p ≠ 0 ∧ r = -2 ∧ ∀ y, y ∈ L → ¬ (y.kind = 1 ∧ y.number = p))
set_option maxRecDepth 20000 in
set_option maxHeartbeats 2000000 in
theorem parentOf_any (w : World) (B : Nat) (f d : Int) (a : Option Addr) (n c : Nat) (L : List Nd) (hn : n = L.length) (hA : w.ownsRow B 50 5 (.slice a n c) n (ndsc L)) (hb : n ≤ 1000000) (k m p s : Nat) (nm : ByteArray) :
    Calls Tryz.prog 41 #[.agg #[.int .i64 f, .int .i64 d, .slice a n c], .agg #[.int .i64 (k : Int), .int .i64 (m : Int), .int .i64 (p : Int), .string nm, .int .i64 (s : Int)]] w fun e w' => ∃ r, e = .returned (.int .i64 r) ∧ Hid (Par L p r) ∧ Below w.heap.size w w' := by
  obtain ⟨W, hW, hbW, k0, k1⟩ := two_new w #[.int .i64 f, .int .i64 d, .slice a n c] #[.int .i64 (k : Int), .int .i64 (m : Int), .int .i64 (p : Int), .string nm, .int .i64 (s : Int)] 28 50
  have HC : Hid (∀ V : World, V.heap = W.heap → (V.cell? ⟨w.heap.size, 2, none⟩ = some (.slice a n c) ∧ V.cell? ⟨w.heap.size + 1, 2, none⟩ = some (.int .i64 (p : Int))) ∧ ∀ i, i < n → ∃ (x : Nd) (g : Nat), L[i]? = some x ∧ a = some ⟨g, 0, none⟩ ∧ V.cell? ⟨g, i * 5, none⟩ = some (.int .i64 (x.kind : Int)) ∧ V.cell? ⟨g, i * 5 + 1, none⟩ = some (.int .i64 (x.number : Int))) := fun V hV => by
    refine ⟨⟨(cell_of_heap (by rw [hV]; exact k0)).trans rfl, (cell_of_heap (by rw [hV]; exact k1)).trans rfl⟩, fun i hi => ?_⟩
    have e1 : ∃ g, a = some ⟨g, 0, none⟩ := by
      rcases hA.2 with ⟨h1, h2⟩ | ⟨g, cap, cur, h1, _⟩
      · omega
      · injection h1 with h1 _ _; exact ⟨g, h1⟩
    obtain ⟨g, rfl⟩ := e1
    have hx := List.getElem?_eq_getElem (l := L) (i := i) (by omega)
    have hA' := owns_keep hA (W' := V) (fun k hk => by rw [hV]; exact hbW.block _ (hA.lt k hk).2)
    have hc := nd_cells hA' hn hx
    exact ⟨_, g, hx, rfl, hc.1, hc.2.1⟩
  have HN : Hid (n = L.length) := hn
  have HB : Hid (Below w.heap.size w W) := hbW
  have HW : Hid _ := hW
  obtain ⟨⟨u2, v2⟩, -⟩ := HC.out W rfl
  clear hA hn hbW k0 k1 hW
  go_enter Tryz.func41, Tryz.ntmps41
  go_upto_region 1 with fail
  rw [HW.out]
  clear HW
  by_cases hp : p = 0
  · subst hp
    go_wp2
    go_ret
    exact ⟨_, rfl, .inl ⟨rfl, rfl⟩, HB.out⟩
  · have hpI : ((p : Int) == 0) = false := by simp; omega
    go_wp2_with fail
    go_loopg [5] n (fun gk iv wr => ∃ (i : Nat), i + gk = n ∧ iv = .int .i64 (i : Int) ∧ Hid (wr.heap = W.heap ∧ Below w.heap.size w wr) ∧ Hid (∀ y, y ∈ L.take i → ¬ (y.kind = 1 ∧ y.number = p)))
    case atStart => exact ⟨0, by omega, rfl, ⟨rfl, HB.out⟩, fun y hy => by simp at hy⟩
    case round =>
      obtain ⟨i, hik, rfl, HWr, HNO⟩ := hrel
      obtain ⟨⟨u2', v2'⟩, hnodes⟩ := HC.out wr HWr.out.1
      by_cases hlt : i < n
      · have hltI : (i : Int) < (n : Int) := by omega
        have w1' : IntKind.i64.wrap ((i : Int) + 1) = ((i + 1 : Nat) : Int) := by rw [IntKind.wrap_i64]; omega
        obtain ⟨x, g, hx, rfl, y0, y1⟩ := hnodes i hlt
        have ht : L.take (i + 1) = L.take i ++ [x] := by rw [List.take_add_one, hx]; rfl
        obtain ⟨xk, xn, xp, xm, xs⟩ := x
        simp only at y0 y1
        by_cases hk : xk = 1
        · by_cases hm : xn = p
          · have HP : Hid (Par L p (i : Int)) := .inr (.inl ⟨hp, i, _, rfl, hx, hk, hm⟩)
            subst hk
            subst hm
            clear hnodes hx ht HNO
            go_wp2_with fail
            go_quiet (fail)
            go_wp2
            go_ret
            exact ⟨_, rfl, HP.out, bdr HWr.out.2 _⟩
          · have HNO' : Hid (∀ y, y ∈ L.take (i + 1) → ¬ (y.kind = 1 ∧ y.number = p)) := fun y hy h => by
              rw [ht] at hy
              rcases List.mem_append.1 hy with h1 | h1
              · exact HNO.out y h1 h
              · rw [List.mem_singleton.1 h1] at h; exact hm h.2
            have hmI : ((xn : Int) == (p : Int)) = false := by simp; omega
            subst hk
            clear hnodes hx ht HNO hm
            go_wp2_with fail
            go_quiet (fail)
            go_wp2
            go_roundg (n - (i + 1))
            case measure => omega
            case rel => exact ⟨i + 1, by omega, rfl, ⟨HWr.out.1, bdr HWr.out.2 _⟩, HNO'.out⟩
        · have HNO' : Hid (∀ y, y ∈ L.take (i + 1) → ¬ (y.kind = 1 ∧ y.number = p)) := fun y hy h => by
            rw [ht] at hy
            rcases List.mem_append.1 hy with h1 | h1
            · exact HNO.out y h1 h
            · rw [List.mem_singleton.1 h1] at h; exact hk h.1
          have hkI : ((xk : Int) == 1) = false := by simp; omega
          clear hnodes hx ht HNO hk
          go_wp2_with fail
          go_quiet (fail)
          go_wp2
          go_roundg (n - (i + 1))
          case measure => omega
          case rel => exact ⟨i + 1, by omega, rfl, ⟨HWr.out.1, bdr HWr.out.2 _⟩, HNO'.out⟩
      · obtain rfl : i = n := by omega
        have HP : Hid (Par L p (-2)) := .inr (.inr ⟨hp, rfl, fun y hy => HNO.out y (by rw [List.take_of_length_le (by rw [← HN.out]; exact Nat.le_refl _)]; exact hy)⟩)
        clear hnodes HNO
        go_wp2
        go_ret
        exact ⟨_, rfl, HP.out, HWr.out.2⟩

end Go.Proofs.YtnfddiabhpandaaGreatDoor.Tr

namespace Go.Proofs.YtnfddiabhpandaaGreatDoor.Tr
open Go.RowKit Go.Lib Go.Deep

theorem told_dir {T : Ts} {p : Nat} (h : tk T p) (hp : p ≠ 0) : ∃ y, y ∈ told T ∧ y.kind = 1 ∧ y.number = p := by
  obtain ⟨d, hd⟩ := h
  refine ⟨⟨1, p, d.1, d.2, 0⟩, List.mem_append.2 (.inl ?_), rfl, rfl⟩
  unfold toldD
  refine List.mem_filterMap.2 ⟨(some d, p), List.mem_iff_getElem?.2 ⟨p - 1, ?_⟩, rfl⟩
  rw [List.getElem?_drop, List.getElem?_zipIdx, show 1 + (p - 1) = p by omega, hd]
  simp
theorem told_up {T : Ts} {dp : Nat → Nat} (hv : Inv T dp) {x : Nd} (hx : x ∈ told T) : dp x.parent + 1 ≤ 16 ∧ tk T x.parent ∧ (x.kind = 1 → dp x.number = dp x.parent + 1) := by
  have h := told_lies hv hx
  obtain ⟨h1, h2⟩ := hv.d1 _ _ _ h
  exact ⟨h1, hv.hP _ _ _ h, h2⟩
theorem Par.told {T : Ts} {dp : Nat → Nat} (hv : Inv T dp) {p : Nat} (hp : tk T p) {r : Int} (h : Par (told T) p r) : (r = -1 ∧ p = 0) ∨ ∃ (j : Nat) (y : Nd), r = (j : Int) ∧ (Tr.told T)[j]? = some y ∧ dp p = dp y.parent + 1 ∧ tk T y.parent := by
  rcases h with ⟨h1, h2⟩ | ⟨h1, j, y, h2, h3, h4, h5⟩ | ⟨h1, h2, h3⟩
  · exact .inl ⟨h2, h1⟩
  · have hy := List.mem_of_getElem? h3
    have hu := told_up hv hy
    exact .inr ⟨j, y, h2, h3, by rw [← h5]; exact hu.2.2 h4, hu.2.1⟩
  · obtain ⟨y, hy, e1, e2⟩ := told_dir hp h1
    exact absurd ⟨e1, e2⟩ (h3 y hy)
theorem told_before {T : Ts} {i : Nat} {x y : Nd} (hx : (told T)[i]? = some x) (hy : (told T)[i + 1]? = some y) : ndLt x y := by
  have h := told_sorted T
  obtain ⟨hi, rfl⟩ := List.getElem?_eq_some_iff.1 hx
  obtain ⟨hj, rfl⟩ := List.getElem?_eq_some_iff.1 hy
  exact List.pairwise_iff_getElem.1 h i (i + 1) hi hj (by omega)
theorem told_other {T : Ts} {dp : Nat → Nat} (hv : Inv T dp) {i k : Nat} {x y : Nd} (hx : (told T)[i]? = some x) (hy : (told T)[k]? = some y) (hk : k < i) : ¬ (y.parent = x.parent ∧ y.name = x.name) := fun h => by
  have h2 := told_apart hv (List.mem_of_getElem? hy) (List.mem_of_getElem? hx) h.1 h.2
  have hs := told_sorted T
  obtain ⟨hi, rfl⟩ := List.getElem?_eq_some_iff.1 hx
  obtain ⟨hj, rfl⟩ := List.getElem?_eq_some_iff.1 hy
  rcases List.pairwise_iff_getElem.1 hs k i hj hi hk with h3 | h3
  · omega
  · omega

end Go.Proofs.YtnfddiabhpandaaGreatDoor.Tr
