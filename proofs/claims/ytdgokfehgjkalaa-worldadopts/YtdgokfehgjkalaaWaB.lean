import Derived.Test.YtdgokfehgjkalaaWaA
import Derived.Deep.DeepCutAuto
namespace Go.Proofs.Ytdgokfehgjkalaa.Wd
open Go.RowKit Go.Lib Go.Deep

set_option maxRecDepth 10000 in
set_option maxHeartbeats 1000000 in
theorem sameT_any (w : World) (v u : Value) (n : Nat) (ks : List (List UInt8)) (h1 : w.ownsRow 0 9 1 v n (ks.map encStr)) (h2 : w.ownsRow 0 9 1 u n (ks.map encStr)) (hn : n ≤ 9223372036854775000) : Calls Try.prog 52 #[v, u] w fun e w' => e = .returned (.bool true) ∧ Below w.heap.size w w' := by
  have HA : Hid (∀ W, Below w.heap.size w W → W.ownsRow 0 9 1 v n (ks.map encStr)) := fun W hb => owns_keep h1 fun g hg => hb.block g (World.ownsRow.lt h1 g hg).2
  have HB : Hid (∀ W, Below w.heap.size w W → W.ownsRow 0 9 1 u n (ks.map encStr)) := fun W hb => owns_keep h2 fun g hg => hb.block g (World.ownsRow.lt h2 g hg).2
  have HL : Hid (ks.length = n) := by have := h1.1; show ks.length = n; simpa using this
  obtain ⟨a1, k1, rfl⟩ := own_len h1
  obtain ⟨a2, k2, rfl⟩ := own_len h2
  clear h1 h2
  go_enter Try.func52, Try.ntmps52
  go_wp2_with fail
  go_loopg [5] n (fun gk iv wr => ∃ k : Nat, k + gk = n ∧ iv = .int .i64 (k : Int) ∧ Hid (Below w.heap.size w wr))
  case atStart => exact ⟨0, by omega, rfl, Below.refl _ _⟩
  case round =>
    obtain ⟨k, hk, rfl, HW⟩ := hrel
    have HKG : Hid (k + gk = n) := hk
    have hkn : k ≤ n := by omega
    clear hk
    by_cases hlt : k < n
    · have hltI : (k : Int) < (n : Int) := by omega
      obtain ⟨x, hx⟩ : ∃ x, ks[k]? = some x := ⟨_, List.getElem?_eq_getElem (by have := HL.out; omega)⟩
      obtain ⟨g1, o1, e1, _, _, _, c0⟩ := row_cell (HA.out _ HW.out) (i := k) (u := encStr x) (by rw [List.getElem?_map, hx]; rfl)
      obtain ⟨g2, o2, e2, _, _, _, d0⟩ := row_cell (HB.out _ HW.out) (i := k) (u := encStr x) (by rw [List.getElem?_map, hx]; rfl)
      injection e1 with e1 _ e1'
      injection e2 with e2 _ e2'
      subst e1 e1' e2 e2'
      have c0 : wr.cell? ⟨g1, k, none⟩ = some (.string (str x)) := c0
      have d0 : wr.cell? ⟨g2, k, none⟩ = some (.string (str x)) := d0
      have HWN : Hid (∀ j, Below w.heap.size w (wr.drewN j)) := fun j => HW.out.trans ((bdN wr j).mono HW.out.size)
      clear hx
      go_wp2_with fail
      go_quiet (fail)
      go_wp2_with fail
      go_roundg (gk - 1)
      case measure => have := HKG.out; omega
      case rel => exact ⟨k + 1, by have := HKG.out; omega, by go_num, HWN.out _⟩
    · obtain rfl : k = n := by omega
      have hltI : ¬ (k : Int) < (k : Int) := by omega
      go_wp2
      go_ret
      exact ⟨rfl, HW.out⟩
theorem sameT_nil (w : World) (a : Option Addr) (c : Nat) (b : Option Addr) (d : Nat) : Calls Try.prog 52 #[.slice a 0 c, .slice b 0 d] w fun e w' => e = .returned (.bool true) ∧ Below w.heap.size w w' := by
  go_enter Try.func52, Try.ntmps52
  go_wp2_with fail
  refine wp_loop_rounds 1 ?_
  rw [rounds_succ]
  go_wp2
  go_ret
  exact ⟨rfl, Below.refl _ _⟩
/-- what a step done to two worlds leaves -/
def After (w W : World) (pa qa : Nat) (Sa : Wst) (pb qb : Nat) (Sb : Wst) : Prop := ∃ Fa Fb, Two w W pa qa Fa Sa pb qb Fb Sb
set_option maxRecDepth 10000 in
set_option maxHeartbeats 4000000 in
theorem answers_any (w wr : World) (pa qa : Nat) (Fa : List Nat) (Sa : Wst) (pb qb : Nat) (Fb : List Nat) (Sb : Wst) (o : Ops) (B N : Nat) (hon : o.n ≤ 9223372036854775807) (h : Two w wr pa qa Fa Sa pb qb Fb Sb) (hk : Alk Sa Sb) (hba : Bnd Sa B N) (hbb : Bnd Sb B N) (hB : B ≤ 1580000000000) (hN : N ≤ 4398046511000) :
    Calls Try.prog 26 #[.pointer (some ⟨pa, 0, none⟩), .pointer (some ⟨pb, 0, none⟩), opV o] wr fun e w' => e = .returned (.bool true) ∧ After w w' pa qa (doS Sa o) pb qb (doS Sb o) := by
  have hov : opV o = .agg #[.int .i64 o.kind, .int .i64 o.at_, .string o.name, .string o.blob, .int .i64 o.eb, .int .i64 o.ek, .int .i64 o.ep, .int .i64 o.ef, .string o.en, .string o.el, .int .i64 o.n, .slice o.ba o.bn o.bc, .string o.rc, .string o.rp, .bool o.rs] := rfl
  obtain ⟨w0, hw0⟩ : ∃ W, wr.alloc (.cells #[.int .i64 o.kind, .int .i64 o.at_, .string o.name, .string o.blob, .int .i64 o.eb, .int .i64 o.ek, .int .i64 o.ep, .int .i64 o.ef, .string o.en, .string o.el, .int .i64 o.n, .slice o.ba o.bn o.bc, .string o.rc, .string o.rp, .bool o.rs] 34) = W := ⟨_, rfl⟩
  have hb0 : Below wr.heap.size wr w0 := by rw [← hw0]; exact (Below.refl _ _).alloc (Nat.le_refl _) _
  have hcl : w0.heap[wr.heap.size]? = some (.cells #[.int .i64 o.kind, .int .i64 o.at_, .string o.name, .string o.blob, .int .i64 o.eb, .int .i64 o.ek, .int .i64 o.ep, .int .i64 o.ef, .string o.en, .string o.el, .int .i64 o.n, .slice o.ba o.bn o.bc, .string o.rc, .string o.rp, .bool o.rs] 34 (0, 0)) := by rw [← hw0]; exact heap_new _ _
  have h0 := h.below hb0
  have HP : Hid (∀ W, Kt w0 W → W.heap[wr.heap.size]? = some (.cells #[.int .i64 o.kind, .int .i64 o.at_, .string o.name, .string o.blob, .int .i64 o.eb, .int .i64 o.ek, .int .i64 o.ep, .int .i64 o.ef, .string o.en, .string o.el, .int .i64 o.n, .slice o.ba o.bn o.bc, .string o.rc, .string o.rp, .bool o.rs] 34 (0, 0))) := fun W hkt => (hkt.2 _ _ _ _ hcl (by decide)).trans hcl
  have two : ∀ {f : Nat} {xa xb : Value} {ya yb : Array Value} {Sa' Sb' : Wst}, (∀ F, St w0 qa F Sa → Calls Try.prog f ya w0 fun e w' => e = .returned xa ∧ Turn F w0 w' qa Sa') → (∀ W F, Top W pb qb → St W qb F Sb → Calls Try.prog f yb W fun e w' => e = .returned xb ∧ Turn F W w' qb Sb') →
      Calls Try.prog f ya w0 fun e w' => e = .returned xa ∧ Kt w0 w' ∧ Calls Try.prog f yb w' fun e w'' => e = .returned xb ∧ Kt w0 w'' ∧ After w w'' pa qa Sa' pb qb Sb' := fun {f xa xb ya yb Sa' Sb'} ca cb => by
    refine (ca Fa h0.a.st).mono ?_
    rintro e w' ⟨rfl, hT⟩
    obtain ⟨Fa', h1⟩ := h0.left hT
    have k1 := Kt.of h0.a.st hT
    refine ⟨rfl, k1, ?_⟩
    refine (cb w' Fb h1.b.top h1.b.st).mono ?_
    rintro e w'' ⟨rfl, hT2⟩
    obtain ⟨Fb', h2⟩ := h1.right hT2
    exact ⟨rfl, k1.trans (Kt.of h1.b.st hT2), Fa', Fb', h2⟩
  have hdo := two (fun F hs => does_any w0 pa qa F Sa o B N hon h0.a.top hs hba hB hN) (fun W F ht hs => does_any W pb qb F Sb o B N hon ht hs hbb hB hN)
  have hgt := two (fun F hs => get_any w0 pa qa F Sa o.name B N h0.a.top hs hba hB) (fun W F ht hs => get_any W pb qb F Sb o.name B N ht hs hbb hB)
  have hpt := two (fun F hs => put_any w0 pa qa F Sa o.name o.blob B N h0.a.top hs hba hB hN) (fun W F ht hs => put_any W pb qb F Sb o.name o.blob B N ht hs hbb hB hN)
  have hdl := two (fun F hs => delete_any w0 pa qa F Sa o.name B N h0.a.top hs hba hB) (fun W F ht hs => delete_any W pb qb F Sb o.name B N ht hs hbb hB)
  have hld : Calls Try.prog 17 #[.pointer (some ⟨pa, 0, none⟩)] w0 fun e w' => e = .returned (.tuple #[loadV Sa, .int .i64 (refE Sa [])]) ∧ ∀ R : Array Value, Calls Try.prog 17 #[.pointer (some ⟨pb, 0, none⟩)] (w'.alloc (.cells R 32)) fun e w'' => e = .returned (.tuple #[loadV Sb, .int .i64 (refE Sb [])]) ∧ w''.heap[w'.heap.size]? = some (.cells R 32 (0, 0)) ∧ After w w'' pa qa (loadS Sa) pb qb (loadS Sb) := by
    refine (load_any w0 pa qa Fa Sa h0.a.top h0.a.st).mono ?_
    rintro e w' ⟨rfl, hT⟩
    obtain ⟨Fa', h1'⟩ := h0.left hT
    refine ⟨rfl, fun R => ?_⟩
    have h1 := h1'.below ((Below.refl _ _).alloc (Nat.le_refl _) (.cells R 32))
    have hn := heap_new w' (.cells R 32)
    refine (load_any _ pb qb Fb Sb h1.b.top h1.b.st).mono ?_
    rintro e w'' ⟨rfl, hT2⟩
    obtain ⟨Fb', h2⟩ := h1.right hT2
    exact ⟨rfl, ((Kt.of h1.b.st hT2).2 _ _ _ _ hn (by decide)).trans hn, Fa', Fb', h2⟩
  have hli : Calls Try.prog 24 #[.pointer (some ⟨pa, 0, none⟩)] w0 fun e w' => ∃ a nl c, e = .returned (.tuple #[.slice a nl c, .int .i64 (refE Sa [])]) ∧ Kt w0 w' ∧ Calls Try.prog 24 #[.pointer (some ⟨pb, 0, none⟩)] w' fun e w'' => ∃ a2 nl2 c2, e = .returned (.tuple #[.slice a2 nl2 c2, .int .i64 (refE Sa [])]) ∧ Kt w0 w'' ∧ After w w'' pa qa (listS Sa) pb qb (listS Sb) ∧ Calls Try.prog 52 #[.slice a nl c, .slice a2 nl2 c2] w'' fun e w3 => e = .returned (.bool true) ∧ Below w''.heap.size w'' w3 := by
    refine (list_any w0 pa qa Fa Sa B N h0.a.top h0.a.st hba hB hN).mono ?_
    rintro e w' ⟨a, nl, c, rfl, hoff1, hon1, hT⟩
    obtain ⟨Fa', h1⟩ := h0.left hT
    have k1 := Kt.of h0.a.st hT
    refine ⟨a, nl, c, rfl, k1, ?_⟩
    refine (list_any w' pb qb Fb Sb B N h1.b.top h1.b.st hbb hB hN).mono ?_
    rintro e w'' ⟨a2, nl2, c2, rfl, hoff2, hon2, hT2⟩
    obtain ⟨Fb', h2⟩ := h1.right hT2
    have k2 := Kt.of h1.b.st hT2
    refine ⟨a2, nl2, c2, by rw [alk_ref hk], k1.trans k2, ⟨Fa', Fb', h2⟩, ?_⟩
    cases ho : Sa.off with
    | true =>
      obtain rfl := hoff1 ho
      obtain rfl := hoff2 (by rw [← hk.off]; exact ho)
      exact sameT_nil w'' a c a2 c2
    | false =>
      obtain ⟨rfl, hR1, hl1, ho1⟩ := hon1 ho
      obtain ⟨rfl, _, _, ho2⟩ := hon2 (by rw [← hk.off]; exact ho)
      have e : keysL Sb.f = keysL Sa.f := by rw [hk.f]
      rw [e] at ho2 ⊢
      exact sameT_any w'' _ _ _ (keysL Sa.f) (k2.owns (own_base ho1 (Nat.zero_le _)) (by decide)) (own_base ho2 (Nat.zero_le _)) (by have := hba.nn; omega)
  have HKD : Hid (∀ W, After w W pa qa (doS Sa o) pb qb (doS Sb o) → Calls Try.prog 12 #[.pointer (some ⟨pa, 0, none⟩)] W fun e w' => ∃ cu pe sp, e = .returned (.agg #[.string cu, .string pe, .bool sp]) ∧ After w w' pa qa (doS Sa o) pb qb (doS Sb o) ∧ Calls Try.prog 12 #[.pointer (some ⟨pb, 0, none⟩)] w' fun e w'' => e = .returned (.agg #[.string cu, .string pe, .bool sp]) ∧ After w w'' pa qa (doS Sa o) pb qb (doS Sb o)) := fun W ⟨Fa', Fb', h2⟩ => by
    have ha := alk_do hk o
    refine (kept_any W pa qa Fa' _ h2.a.top h2.a.st).mono ?_
    rintro e w' ⟨rfl, hb⟩
    have h3 := h2.below hb
    refine ⟨_, _, _, rfl, ⟨Fa', Fb', h3⟩, ?_⟩
    refine (kept_any w' pb qb Fb' _ h3.b.top h3.b.st).mono ?_
    rintro e w'' ⟨rfl, hb2⟩
    exact ⟨by unfold regV; rw [ha.cur, ha.pen, ha.stp], Fa', Fb', h3.below hb2⟩
  have HDN : Hid (∀ W, After w W pa qa (doS Sa o) pb qb (doS Sb o) → ∃ ob, (Calls Try.prog 10 #[.pointer (some ⟨pa, 0, none⟩)] W fun e w' => e = .returned (.bool ob) ∧ w' = W) ∧ (Calls Try.prog 10 #[.pointer (some ⟨pb, 0, none⟩)] W fun e w' => e = .returned (.bool ob) ∧ w' = W)) := fun W ⟨Fa', Fb', h2⟩ => by
    have ha := alk_do hk o
    refine ⟨(doS Sa o).off, down_any W pa qa Fa' _ h2.a.top h2.a.st, ?_⟩
    rw [ha.off]
    exact down_any W pb qb Fb' _ h2.b.top h2.b.st
  have HAB : Hid (∀ W W', After w W pa qa (doS Sa o) pb qb (doS Sb o) → Below W.heap.size W W' → After w W' pa qa (doS Sa o) pb qb (doS Sb o)) := fun W W' ⟨Fa', Fb', h2⟩ hb => ⟨Fa', Fb', h2.below hb⟩
  rw [← alk_getY hk, ← alk_getE hk] at hgt
  rw [← alk_putE hk] at hpt
  rw [← alk_getE hk] at hdl
  rw [← alk_loadV hk, ← alk_ref hk] at hld
  obtain ⟨lc, lp, ls, hlv⟩ : ∃ c p s, loadV Sa = .agg #[.string c, .string p, .bool s] := by
    unfold loadV zreg regV
    split
    · exact ⟨_, _, _, rfl⟩
    · exact ⟨_, _, _, rfl⟩
  rw [hlv] at hld
  obtain ⟨y1, hy1⟩ : ∃ y, getY Sa o.name = y := ⟨_, rfl⟩
  obtain ⟨e1, he1⟩ : ∃ y, getE Sa o.name = y := ⟨_, rfl⟩
  obtain ⟨e2, he2⟩ : ∃ y, putE Sa o.name o.blob = y := ⟨_, rfl⟩
  obtain ⟨e3, he3⟩ : ∃ y, refE Sa [] = y := ⟨_, rfl⟩
  rw [hy1, he1] at hgt
  rw [he1] at hdl
  rw [he2] at hpt
  rw [he3] at hld hli
  have HDS : Hid ((o.kind = 4 → doS Sa o = getS Sa o.name ∧ doS Sb o = getS Sb o.name) ∧ (o.kind = 5 → doS Sa o = putS Sa o.name o.blob ∧ doS Sb o = putS Sb o.name o.blob) ∧ (o.kind = 6 → doS Sa o = delS Sa o.name ∧ doS Sb o = delS Sb o.name) ∧ (o.kind = 7 → doS Sa o = listS Sa ∧ doS Sb o = listS Sb) ∧ (o.kind = 8 → doS Sa o = loadS Sa ∧ doS Sb o = loadS Sb)) := by
    unfold doS
    exact ⟨fun h => by simp [h], fun h => by simp [h], fun h => by simp [h], fun h => by simp [h], fun h => by simp [h]⟩
  rw [hov] at hdo ⊢
  obtain ⟨kd, at_, nm, bl, eb, ek, ep, ef, en, el, n, ba, bn, bc, rc, rp, rs⟩ := o
  dsimp only at *
  obtain ⟨Ta, hTa⟩ : ∃ T, doS Sa ⟨kd, at_, nm, bl, eb, ek, ep, ef, en, el, n, ba, bn, bc, rc, rp, rs⟩ = T := ⟨_, rfl⟩
  obtain ⟨Tb, hTb⟩ : ∃ T, doS Sb ⟨kd, at_, nm, bl, eb, ek, ep, ef, en, el, n, ba, bn, bc, rc, rp, rs⟩ = T := ⟨_, rfl⟩
  rw [hTa, hTb] at hdo HKD HDN HAB HDS ⊢
  have hp0 := HP.out _ (Kt.below (Below.refl _ _))
  have v0 : w0.cell? ⟨wr.heap.size, 0, none⟩ = some (.int .i64 kd) := (cell_of_heap hp0).trans rfl
  have v2 : w0.cell? ⟨wr.heap.size, 2, none⟩ = some (.string nm) := (cell_of_heap hp0).trans rfl
  have v3 : w0.cell? ⟨wr.heap.size, 3, none⟩ = some (.string bl) := (cell_of_heap hp0).trans rfl
  have hs0 : wr.heap.size < w0.heap.size := heap_lt hcl
  have HPC : Hid (∀ W, Kt w0 W → W.cell? ⟨wr.heap.size, 0, none⟩ = some (.int .i64 kd) ∧ W.cell? ⟨wr.heap.size, 2, none⟩ = some (.string nm) ∧ W.cell? ⟨wr.heap.size, 3, none⟩ = some (.string bl)) := fun W hkt => by
    have h := HP.out W hkt
    exact ⟨(cell_of_heap h).trans rfl, (cell_of_heap h).trans rfl, (cell_of_heap h).trans rfl⟩
  clear hTa hTb hy1 he1 he2 he3 hlv two hov hp0 hcl hb0 h0 h hk hba hbb
  by_cases k4 : kd = 4
  · obtain ⟨r1, r2⟩ := HDS.out.1 k4
    rw [← r1, ← r2] at hgt
    subst k4
    clear r1 r2 hdo hpt hdl hld hli
    go_enter Try.func26, Try.ntmps26
    go_wp2_with fail
    refine hgt.mono ?_
    rintro e w5 ⟨rfl, hkt5, hc2⟩
    obtain ⟨u0, u2, u3⟩ := HPC.out _ hkt5
    clear v0 v2 v3 hkt5
    go_wp2_with fail
    refine hc2.mono ?_
    rintro e w6 ⟨rfl, hkt6, hAf⟩
    have HAf : Hid (After w w6 pa qa Ta pb qb Tb) := hAf
    clear hAf hc2 hkt6
    go_wp2
    go_ret
    exact ⟨rfl, HAf.out⟩
  by_cases k5 : kd = 5
  · obtain ⟨r1, r2⟩ := HDS.out.2.1 k5
    rw [← r1, ← r2] at hpt
    subst k5
    clear r1 r2 hdo hgt hdl hld hli
    go_enter Try.func26, Try.ntmps26
    go_wp2_with fail
    refine hpt.mono ?_
    rintro e w5 ⟨rfl, hkt5, hc2⟩
    obtain ⟨u0, u2, u3⟩ := HPC.out _ hkt5
    clear v0 v2 v3 hkt5
    go_wp2_with fail
    refine hc2.mono ?_
    rintro e w6 ⟨rfl, hkt6, hAf⟩
    have HAf : Hid (After w w6 pa qa Ta pb qb Tb) := hAf
    clear hAf hc2 hkt6
    go_wp2
    go_ret
    exact ⟨rfl, HAf.out⟩
  by_cases k6 : kd = 6
  · obtain ⟨r1, r2⟩ := HDS.out.2.2.1 k6
    rw [← r1, ← r2] at hdl
    subst k6
    clear r1 r2 hdo hgt hpt hld hli
    go_enter Try.func26, Try.ntmps26
    go_wp2_with fail
    refine hdl.mono ?_
    rintro e w5 ⟨rfl, hkt5, hc2⟩
    obtain ⟨u0, u2, u3⟩ := HPC.out _ hkt5
    clear v0 v2 v3 hkt5
    go_wp2_with fail
    refine hc2.mono ?_
    rintro e w6 ⟨rfl, hkt6, hAf⟩
    have HAf : Hid (After w w6 pa qa Ta pb qb Tb) := hAf
    clear hAf hc2 hkt6
    go_wp2
    go_ret
    exact ⟨rfl, HAf.out⟩
  by_cases k7 : kd = 7
  · obtain ⟨r1, r2⟩ := HDS.out.2.2.2.1 k7
    rw [← r1, ← r2] at hli
    subst k7
    clear r1 r2 hdo hgt hpt hdl hld
    go_enter Try.func26, Try.ntmps26
    go_wp2_with fail
    refine hli.mono ?_
    rintro e w5 ⟨a5, n5, c5, rfl, hkt5, hc2⟩
    clear v0 v2 v3 hkt5
    go_wp2_with fail
    refine hc2.mono ?_
    rintro e w6 ⟨a6, n6, c6, rfl, hkt6, hAf, hst⟩
    have HAf : Hid (After w w6 pa qa Ta pb qb Tb) := hAf
    clear hAf hc2 hkt6
    go_wp2_with fail
    refine hst.mono ?_
    rintro e w7 ⟨rfl, hb7⟩
    have HA7 : Hid (After w w7 pa qa Ta pb qb Tb) := HAB.out _ _ HAf.out hb7
    clear hst hb7
    go_wp2
    go_ret
    exact ⟨rfl, HA7.out⟩
  by_cases k8 : kd = 8
  · obtain ⟨r1, r2⟩ := HDS.out.2.2.2.2 k8
    rw [← r1, ← r2] at hld
    subst k8
    clear r1 r2 hdo hgt hpt hdl hli
    go_enter Try.func26, Try.ntmps26
    go_wp2_with fail
    refine hld.mono ?_
    rintro e w5 ⟨rfl, hc2'⟩
    have hc2 := hc2' #[.string lc, .string lp, .bool ls]
    clear v0 v2 v3 hc2'
    go_wp2_with fail
    refine hc2.mono ?_
    rintro e w6 ⟨rfl, hr6, hAf⟩
    have hs56 : w5.heap.size < w6.heap.size := heap_lt hr6
    have y0 : w6.cell? ⟨w5.heap.size, 0, none⟩ = some (.string lc) := (cell_of_heap hr6).trans rfl
    have y1 : w6.cell? ⟨w5.heap.size, 1, none⟩ = some (.string lp) := (cell_of_heap hr6).trans rfl
    have y2 : w6.cell? ⟨w5.heap.size, 2, none⟩ = some (.bool ls) := (cell_of_heap hr6).trans rfl
    have HAf : Hid (∀ x, After w (w6.alloc x) pa qa Ta pb qb Tb) := fun x => HAB.out _ _ hAf ((Below.refl _ _).alloc (Nat.le_refl _) _)
    clear hAf hc2 hr6
    go_wp2
    go_ret
    exact ⟨rfl, HAf.out _⟩
  have HPD : Hid (∀ W, Kt w0 W → W.cell? ⟨wr.heap.size, 0, none⟩ = some (.int .i64 kd) ∧ W.cell? ⟨wr.heap.size, 1, none⟩ = some (.int .i64 at_) ∧ W.cell? ⟨wr.heap.size, 2, none⟩ = some (.string nm) ∧ W.cell? ⟨wr.heap.size, 3, none⟩ = some (.string bl) ∧ W.cell? ⟨wr.heap.size, 4, none⟩ = some (.int .i64 eb) ∧ W.cell? ⟨wr.heap.size, 5, none⟩ = some (.int .i64 ek) ∧ W.cell? ⟨wr.heap.size, 6, none⟩ = some (.int .i64 ep) ∧ W.cell? ⟨wr.heap.size, 7, none⟩ = some (.int .i64 ef) ∧ W.cell? ⟨wr.heap.size, 8, none⟩ = some (.string en) ∧ W.cell? ⟨wr.heap.size, 9, none⟩ = some (.string el) ∧ W.cell? ⟨wr.heap.size, 10, none⟩ = some (.int .i64 n) ∧ W.cell? ⟨wr.heap.size, 11, none⟩ = some (.slice ba bn bc) ∧ W.cell? ⟨wr.heap.size, 12, none⟩ = some (.string rc) ∧ W.cell? ⟨wr.heap.size, 13, none⟩ = some (.string rp) ∧ W.cell? ⟨wr.heap.size, 14, none⟩ = some (.bool rs)) := fun W hkt => by
    have h := HP.out W hkt
    exact ⟨(cell_of_heap h).trans rfl, (cell_of_heap h).trans rfl, (cell_of_heap h).trans rfl, (cell_of_heap h).trans rfl, (cell_of_heap h).trans rfl, (cell_of_heap h).trans rfl, (cell_of_heap h).trans rfl, (cell_of_heap h).trans rfl, (cell_of_heap h).trans rfl, (cell_of_heap h).trans rfl, (cell_of_heap h).trans rfl, (cell_of_heap h).trans rfl, (cell_of_heap h).trans rfl, (cell_of_heap h).trans rfl, (cell_of_heap h).trans rfl⟩
  clear hgt hpt hdl hld hli HDS v0 v2 v3
  obtain ⟨v0, v1, v2, v3, v4, v5, v6, v7, v8, v9, v10, v11, v12, v13, v14⟩ := HPD.out _ (Kt.below (Below.refl _ _))
  go_enter Try.func26, Try.ntmps26
  go_wp2_with fail
  refine hdo.mono ?_
  rintro e w5 ⟨rfl, hkt5, hc2⟩
  clear v0 v1 v2 v3 v4 v5 v6 v7 v8 v9 v10 v11 v12 v13 v14
  obtain ⟨u0, u1, u2, u3, u4, u5, u6, u7, u8, u9, u10, u11, u12, u13, u14⟩ := HPD.out _ hkt5
  clear hkt5
  go_wp2_with fail
  refine hc2.mono ?_
  rintro e w6 ⟨rfl, hkt6, hAf⟩
  have hkd := HKD.out w6 hAf
  clear hc2 hkt6 hAf u0 u1 u2 u3 u4 u5 u6 u7 u8 u9 u10 u11 u12 u13 u14
  go_wp2_with fail
  refine hkd.mono ?_
  rintro e w7 ⟨cu, pe, sp, rfl, hAf7, hk2⟩
  clear hkd hAf7
  go_wp2_with fail
  refine hk2.mono ?_
  rintro e w8 ⟨rfl, hAf8⟩
  obtain ⟨ob, hd1, hd2⟩ := HDN.out w8 hAf8
  have HA8 : Hid (After w w8 pa qa Ta pb qb Tb) := hAf8
  clear hAf8 hk2
  go_wp2_with fail
  refine hd1.mono ?_
  rintro e w9 ⟨rfl, e9⟩
  subst e9
  go_wp2_with fail
  refine hd2.mono ?_
  rintro e w10 ⟨rfl, e10⟩
  subst e10
  go_wp2
  go_ret
  exact ⟨rfl, HA8.out⟩

end Go.Proofs.Ytdgokfehgjkalaa.Wd
