import Derived.Test.YtdgokfehgjkalaaWdD
namespace Go.Proofs.Ytdgokfehgjkalaa.Wd
open Go.RowKit Go.Lib Go.Deep

theorem zeroBlob (w : World) : (zeroValue 56).run Try.prog w = .ok (.agg #[.string { data := #[] }, .string { data := #[] }]) w := by kernel_rfl
theorem keyLaw : Maps.Keyed Try.prog 9 := Maps.string_keyed Try.underlying9
theorem keyLaw3 : Maps.Keyed Try.prog 3 := Maps.int_keyed Try.underlying3
def objN (f : Sto) (n : ByteArray) : ByteArray := if (f (ky n)).isSome = true then n else { data := #[] }
def objB (f : Sto) (n : ByteArray) : ByteArray := (f (ky n)).getD { data := #[] }
set_option maxRecDepth 100000 in
/-- what a look-up tells -/
theorem look_any {w : World} {m n : Nat} {D : DataW Unit} {f : Sto} (h : w.ownsMap Try.prog 9 blobR m n D) (hD : Tab D f) (t : ByteArray) (ht : t.size ≤ maxLen) :
    (Instr.lookup 66 (.map (some m)) (.string t) true).run Try.prog w = .ok (.tuple #[.agg #[.string (objN f t), .string (objB f t)], .bool (f (ky t)).isSome]) w := by
  obtain ⟨v, ps, h1, h2⟩ := h.look_ok (t := 66) keyLaw Try.underlying66 (zeroBlob w) (blobR_mk _ _) (WideMaps.keyOf_string_mk Try.underlying9 ht)
  obtain ⟨a, b, rfl, h3⟩ := blobR_inv h2
  rw [h1]
  have hh := hD.has t.data.toList
  simp only [Prod.mk.injEq] at h3
  have h3 := h3.1
  unfold objN objB ky
  rw [hh]
  cases hf : f t.data.toList with
  | none =>
    rw [hf] at hh
    rw [Maps.atKey_of_not_has hh] at h3
    obtain ⟨e1, e2⟩ := blobD_inj h3
    have e1 : a = { data := #[] } := (ky_inj (a := { data := #[] }) (b := a) e1).symm
    subst e1
    rw [← e2]
    rfl
  | some x =>
    rw [hD.at_ _ x hf] at h3
    obtain ⟨e1, e2⟩ := blobD_inj h3
    have e1 : a = t := (ky_inj (a := t) (b := a) e1).symm
    rw [e1, ← e2]
    rfl
theorem sizeBlob : (Try.prog.info? 56).map (·.size) = some 2 := by kernel_rfl
theorem put2 {W : World} {g : Nat} {t : TypeId} {x0 x1 y0 y1 : Value} (h : W.heap[g]? = some (.cells #[x0, x1] t (0, 0))) : ((W.setCell ⟨g, 0, none⟩ y0).setCell ⟨g, 1, none⟩ y1).heap[g]? = some (.cells #[y0, y1] t (0, 0)) :=
  heap_setCell_same _ _ 1 _ _ y1 (heap_setCell_same _ _ 0 _ _ y0 h)
theorem below2 {B : Nat} {w W : World} {g : Nat} {y0 y1 : Value} (h : Below B w W) (hg : B ≤ g) : Below B w ((W.setCell ⟨g, 0, none⟩ y0).setCell ⟨g, 1, none⟩ y1) := (h.setCell hg _).setCell hg _
set_option maxRecDepth 20000 in
theorem object_any (w : World) (q : Nat) (F : List Nat) (S : Wst) (n : ByteArray) (hn : n.size ≤ maxLen) (hs : St w q F S) : Calls Try.prog 35 #[.pointer (some ⟨q, 0, none⟩), .string n] w fun e w' => e = .returned (.tuple #[.agg #[.string (objN S.f n), .string (objB S.f n)], .bool (S.f (ky n)).isSome]) ∧ Below w.heap.size w w' := by
  obtain ⟨m, pl, la, tv, av, uv, D, al, nv, hF, hI⟩ := id hs
  have hb0 : Below w.heap.size w (w.alloc (.cells #[.string { data := #[] }, .string { data := #[] }] 56)) := (Below.refl _ _).alloc (Nat.le_refl _) _
  have hI' := hI.below hb0
  have hl := look_any hI'.hm hI.hD n hn
  have c0 := hI'.cells.1
  generalize objN S.f n = on at *
  generalize objB S.f n = ob at *
  generalize (S.f (ky n)).isSome = th at *
  clear hI hI' hF hs hb0
  go_enter Try.func35, Try.ntmps35
  go_wp2
  refine bodyPost_ret (Kr.results_cell_tmp rfl _ _ w.heap.size 56 _ (0, 0) _ rfl ((Below.heap_alloc _ _ _ (by simp)).trans (heap_new w _)) Try.underlying56 rfl sizeBlob) rfl ?_
  exact ⟨rfl, ((Below.refl _ _).alloc (Nat.le_refl _) _).alloc (by simp) _⟩
/-- a state whose map and own block have turned -/
theorem Inn.turn2 {w W : World} {q m pl : Nat} {la la' : Option Addr} {tv av uv : Value} {D D' : DataW Unit} {al : List (Option Addr)} {nv : List Value} {S S' : Wst} (h : Inn w q m pl la tv av uv D al nv S) (hq : W.heap[q]? = some (.cells (stA m la' S' tv av uv pl) 76 (0, 0))) (ho : Only [q, m] w W)
    (hm : W.ownsMap Try.prog 9 blobR m S'.nn D') (hD : Tab D' S'.f) (hc : (∀ {a : Option Addr} {f : Sto}, Chn w a f → Chn W a f) → Chn W la' S'.f)
    (e2 : S'.tr = S.tr) (e3 : S'.ah = S.ah) (e4 : S'.pu = S.pu) (e6 : S'.left ≤ 9223372036854775807) : Inn W q m pl la' tv av uv D' al nv S' := by
  have hne : ∀ k, k < w.heap.size → k ≠ q → k ≠ m → W.heap[k]? = w.heap[k]? := fun k hk hn hm => ho.block k hk (by simp [hn, hm])
  have ty : ∀ {k : Nat} {cur : Array Value} {e : TypeId}, w.heap[k]? = some (.cells cur e (0, 0)) → e ≠ 76 → W.heap[k]? = w.heap[k]? := fun {k cur e} hk he => hne k (heap_lt hk) (fun e2 => by
    subst e2
    rw [h.hq] at hk
    injection hk with hk
    injection hk with _ hk _
    exact he hk.symm) (fun e2 => by
    subst e2
    obtain ⟨es, cl, hk'⟩ := map_block h.hm
    rw [hk] at hk'
    cases hk')
  have rw_ : ∀ {v : Value} {e sz n : Nat} {xs : List Value}, w.ownsRow 0 e sz v n xs → e ≠ 76 → W.ownsRow 0 e sz v n xs := fun ho he => owns_keep ho fun g hg => by
    obtain ⟨cur, hc⟩ := owns_block ho hg
    exact ty hc he
  have hch : ∀ {a : Option Addr} {f : Sto}, Chn w a f → Chn W a f := fun hc => hc.keep fun k cur hk => ty hk (by decide)
  refine ⟨hq, ?_, ?_, ?_, ?_, ?_, ?_, ?_, hm, hD, ?_, hc hch, e6, h.hmp⟩
  · rw [e2]; exact rw_ h.ht (by decide)
  · rw [e2]; exact h.hnl
  · rw [e2]; exact fun i c v hc hv => rw_ (h.hnv i c v hc hv) (by decide)
  · rw [e3]; exact rw_ h.ha (by decide)
  · rw [e3]; exact h.hal
  · rw [e3]; exact fun i a g ha hg => hch (h.hch i a g ha hg)
  · rw [e4]; exact rw_ h.hu (by decide)
  · obtain ⟨es, cl, hk⟩ := map_block h.hp
    exact map_keep h.hp (hne pl (Array.getElem?_eq_some_iff.1 hk).1 (fun e => by rw [e, h.hq] at hk; cases hk) (fun e => h.hmp e.symm))
theorem apply_lay (w : World) (q cb : Nat) (F : List Nat) (S : Wst) (nm bl : ByteArray) (la : Option Addr) (hn : nm.size ≤ maxLen) (hs : St w q F S) (hla : w.cell? ⟨q, 1, none⟩ = some (.pointer la)) (hcb : w.heap[cb]? = some (.cells #[.string nm, .string bl, .bool false, .pointer la] 111 (0, 0))) (hnn : S.nn < maxLen) :
    Calls Try.prog 64 #[.pointer (some ⟨q, 0, none⟩), .pointer (some ⟨cb, 0, none⟩)] w fun e w' => e = .returned (.tuple #[]) ∧ Turn F w w' q (layS S nm bl) := by
  obtain ⟨m, pl, la', tv, av, uv, D, al, nv, hF, hI⟩ := id hs
  obtain ⟨c0, c1, -, -, -, -, -, -, -, -, -, -⟩ := hI.cells
  obtain rfl : la' = la := by
    rw [c1] at hla
    injection hla with hla
    injection hla
  have k0 : w.cell? ⟨cb, 0, none⟩ = some (.string nm) := (cell_of_heap hcb).trans rfl
  have k1 : w.cell? ⟨cb, 1, none⟩ = some (.string bl) := (cell_of_heap hcb).trans rfl
  have k2 : w.cell? ⟨cb, 2, none⟩ = some (.bool false) := (cell_of_heap hcb).trans rfl
  have c0' : w.drew.cell? ⟨q, 0, none⟩ = some (.map (some m)) := c0
  have k0' : w.drew.cell? ⟨cb, 0, none⟩ = some (.string nm) := k0
  have k1' : w.drew.cell? ⟨cb, 1, none⟩ = some (.string bl) := k1
  have hqm : q ≠ m := fun e => by
    obtain ⟨es, cl, hk⟩ := map_block hI.hm
    rw [← e, hI.hq] at hk
    cases hk
  have hqc : cb ≠ q := fun e => by
    rw [e, hI.hq] at hcb
    injection hcb with hcb
    injection hcb with _ hcb _
    cases hcb
  have hmc : cb ≠ m := fun e => by
    obtain ⟨es, cl, hk⟩ := map_block hI.hm
    rw [← e, hcb] at hk
    cases hk
  obtain ⟨w6, hX1, hX2, hX3⟩ := World.ownsMap.update (w := w.drew) (t := 66) hI.hm keyLaw Try.underlying66 hnn (WideMaps.keyOf_string_mk Try.underlying9 hn) (blobR_mk nm bl)
  have hq6 : w6.heap[q]? = some (.cells (stA m la' S tv av uv pl) 76 (0, 0)) := (hX3.block q (heap_lt hI.hq) (by simpa using hqm)).trans hI.hq
  have d1 : w6.cell? ⟨q, 1, none⟩ = some (.pointer la') := (cell_of_heap hq6).trans rfl
  have f1 : w6.frozen? ⟨q, 1, none⟩ = false := frozen_of_heap hq6
  have HT : Hid (Turn F w (w6.setCell ⟨q, 1, none⟩ (.pointer (some ⟨cb, 0, none⟩))) q (layS S nm bl)) := by
    have ho : Only [q, m] w (w6.setCell ⟨q, 1, none⟩ (.pointer (some ⟨cb, 0, none⟩))) := by
      have h1 : Only [q, m] w w6 := ⟨hX3.os, hX3.tape, hX3.output, hX3.size, fun k hk hn => hX3.block k hk (fun e => hn (by simp [Option.some.inj e]))⟩
      exact h1.trans ((only_set _).mono (by intro k hk; simp at hk; simp [hk]))
    have hcb6 : (w6.setCell ⟨q, 1, none⟩ (.pointer (some ⟨cb, 0, none⟩))).heap[cb]? = some (.cells #[.string nm, .string bl, .bool false, .pointer la'] 111 (0, 0)) := (ho.block cb (heap_lt hcb) (by simp [hqc, hmc])).trans hcb
    subst hF
    refine ⟨ho.mono (by intro k hk; simp at hk; rcases hk with rfl | rfl <;> exact mem_fp.2 (by simp)), _, ⟨m, pl, some ⟨cb, 0, none⟩, tv, av, uv, _, al, nv, rfl, hI.turn2 ?_ ho (map_keep hX2 (heap_setCell_other _ _ _ _ (fun e => hqm e.symm))) (hI.hD.put nm bl) (fun hch => .lay hcb6 (hch hI.hc)) rfl rfl rfl hI.hle⟩, fun k hk => .inl hk⟩
    rw [put12 1 _ hq6]
    rfl
  clear hI hs hcb hX2 hX3 hF hq6 hla hn hnn
  go_enter Try.func64, Try.ntmps64
  go_wp2_with fail
  go_region
  all_goals
    go_wp2
    go_end0
    exact ⟨rfl, HT.out⟩

end Go.Proofs.Ytdgokfehgjkalaa.Wd
