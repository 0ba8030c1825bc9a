import Derived.Test.YtcochbcaillldaaGreatDoorSpM
namespace Go.Proofs.YtcochbcaillldaaGreatDoor.Sc
open Go.RowKit Go.Lib Go.Deep

theorem prints_same2 (o : OpR) (hok : o.Ok) : ∃ p : ByteArray × Int, Ans o p.1 p.2 ∧ p.1.size ≤ 262144 := by
  by_cases hin : 1 ≤ o.kind ∧ o.kind ≤ 10
  · obtain ⟨f, hf, hk⟩ := tab_all o.kind hin.1 hin.2
    obtain ⟨h1, h10, hkn, ⟨sh, hsh⟩, hnm⟩ := tab_kinds f hf
    have he := forms_eq o f hf sh f.word hsh hnm
    have hx : ∃ x c, (0 : Int) ≤ c ∧ c < 1000 ∧ x.size ≤ 262144 ∧ lineW o f = .tuple #[.string x, .int .i64 c] := by
      unfold lineW
      split
      · exact ⟨_, _, by decide, by decide, by decide, rfl⟩
      · split
        · exact ⟨_, _, by decide, by decide, by decide, rfl⟩
        · rename_i h
          exact ⟨_, _, by decide, by decide, by rw [str_size]; omega, rfl⟩
    obtain ⟨x, c, c0, c1, hs, hv⟩ := hx
    refine ⟨(x, c), ⟨c0, c1, fun w ht => (printOp_any o hok w ht).mono ?_, fun w ht => (rPrint_any o hok (kN f) (by omega) (by rw [← hk, hkn]) sh f.word hsh hnm w ht).mono ?_⟩, hs⟩
    · rintro e w' ⟨hout, hb⟩
      refine ⟨?_, hb⟩
      rcases hout with ⟨hno, -⟩ | ⟨g, hg, hgk, rfl⟩
      · exact absurd hk (hno f hf)
      · rw [tab_one g f hg hf (hgk.trans hk.symm), hv]
    · rintro e w' ⟨rfl, hb⟩
      exact ⟨by rw [← he, hv], hb⟩
  · refine ⟨({ data := #[] }, 222), ⟨by decide, by decide, fun w ht => (printOp_any o hok w ht).mono ?_, fun w _ => rPrint_out o (by omega) w⟩, by decide⟩
    rintro e w' ⟨hout, hb⟩
    refine ⟨?_, hb⟩
    rcases hout with ⟨-, rfl⟩ | ⟨g, hg, hgk, rfl⟩
    · rfl
    · have := tab_kinds g hg
      omega
open Classical in
noncomputable def prO (o : OpR) : ByteArray × Int := if h : ∃ p : ByteArray × Int, Ans o p.1 p.2 ∧ p.1.size ≤ 262144 then Classical.choose h else (nil_, 0)
theorem prO_ans (o : OpR) (hok : o.Ok) : Ans o (prO o).1 (prO o).2 ∧ (prO o).1.size ≤ 262144 := by
  have h := prints_same2 o hok
  unfold prO
  rw [dif_pos h]
  exact Classical.choose_spec h
noncomputable def opsT (L : List OpR) : List UInt8 := L.flatMap fun o => 10 :: (prO o).1.data.toList
noncomputable def firE : List OpR → Int
  | [] => 0
  | o :: r => if (prO o).2 = 0 then firE r else (prO o).2
theorem opsT_take (L : List OpR) (j : Nat) (o : OpR) (h : L[j]? = some o) : opsT (L.take (j + 1)) = opsT (L.take j) ++ 10 :: (prO o).1.data.toList := by
  have e : L.take (j + 1) = L.take j ++ [o] := by
    rw [List.take_add_one, h]
    rfl
  rw [e]
  simp [opsT]
theorem opsT_len (L : List OpR) (h : ∀ o ∈ L, o.Ok) : (opsT L).length ≤ 262145 * L.length := by
  induction L with
  | nil => simp [opsT]
  | cons a t ih =>
    have h1 := (prO_ans a (h a (List.mem_cons_self ..))).2
    have h2 := ih fun n hn => h n (List.mem_cons_of_mem _ hn)
    rw [size_eq] at h1
    simp only [opsT, List.flatMap_cons, List.length_append, List.length_cons] at h2 ⊢
    omega
theorem firE_all (L : List OpR) : (∀ (i : Nat) o, L[i]? = some o → (prO o).2 = 0) → firE L = 0 := by
  induction L with
  | nil => intro _; rfl
  | cons a t ih =>
    intro h
    rw [firE, if_pos (h 0 a rfl)]
    exact ih fun i o ho => h (i + 1) o ho
theorem firE_hit (L : List OpR) : ∀ (j : Nat) (o : OpR), L[j]? = some o → (∀ (i : Nat) o, i < j → L[i]? = some o → (prO o).2 = 0) → (prO o).2 ≠ 0 → firE L = (prO o).2 := by
  induction L with
  | nil => intro j o h; cases h
  | cons a t ih =>
    intro j o h h0 hne
    cases j with
    | zero =>
      have e : a = o := by simpa only [List.getElem?_cons_zero, Option.some.injEq] using h
      subst e
      rw [firE, if_neg hne]
    | succ j =>
      rw [firE, if_pos (h0 0 a (by omega) rfl)]
      exact ih j o h (fun i o hi ho => h0 (i + 1) o (by omega) ho) hne
/-- the lines of a batch -/
noncomputable def batchV (L : List OpR) : Value := if firE L = 0 then .tuple #[.string (str ([98, 97, 116, 99, 104] ++ opsT L ++ [10, 101, 110, 100])), .int .i64 0] else .tuple #[.string { data := #[] }, .int .i64 (firE L)]
end Go.Proofs.YtcochbcaillldaaGreatDoor.Sc
