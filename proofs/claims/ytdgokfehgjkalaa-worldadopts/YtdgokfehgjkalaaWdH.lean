import Derived.Test.YtdgokfehgjkalaaWdG
namespace Go.Proofs.Ytdgokfehgjkalaa.Wd
open Go.RowKit Go.Lib Go.Deep

set_option maxRecDepth 10000 in
set_option maxHeartbeats 1000000 in
theorem count_any (w : World) (q : Nat) (F : List Nat) (S : Wst) (hs : St w q F S) (_hn : S.tr.length ≤ 1590000000000) (ha : S.pu.length ≤ 1590000000000) : Calls Try.prog 59 #[.pointer (some ⟨q, 0, none⟩)] w fun e w' => e = .returned (.tuple #[]) ∧ Turn F w w' q (cntS S) := by
  obtain ⟨m, pl, la, tv, av, uv, D, al, nv, hF, hI⟩ := id hs
  obtain ⟨aa, ac, rfl⟩ := own_len hI.hu
  obtain ⟨ta, tc, ht⟩ := own_len hI.ht
  have hcs := hI.cells
  rw [ht] at hcs
  obtain ⟨c0, c1, -, -, -, -, -, c7, -, c9, c10, -⟩ := hcs
  have hqp : q ≠ pl := fun e => by
    obtain ⟨es, cl, hk⟩ := map_block hI.hp
    rw [← e, hI.hq] at hk
    cases hk
  obtain ⟨i0, hi, hz0, hz1, hz2⟩ := info_parts infoInt
  obtain ⟨W8, hW8⟩ : ∃ W, (w.alloc (.cells #[.int .i64 (S.tr.length : Int)] 3)).drew = W := ⟨_, rfl⟩
  have hb8 : Below w.heap.size w W8 := by rw [← hW8]; exact ((Below.refl _ _).alloc (Nat.le_refl _) _).drew
  have HO : Hid (W8.ownsRow 0 3 1 (.slice aa S.pu.length ac) S.pu.length (S.pu.map fun (i : Nat) => Value.int .i64 (i : Int))) := owns_keep hI.hu (fun g hg => by
    obtain ⟨c, hc⟩ := owns_block hI.hu hg
    exact hb8.block g (heap_lt hc))
  have HNW : Hid (∀ j u, ([.int .i64 (S.tr.length : Int)] : List Value)[j]? = some u → W8.cell? ((⟨w.heap.size, 0, none⟩ : Addr).add j) = some u) := fun j u hj => by rw [← hW8]; exact cells_new w #[.int .i64 (S.tr.length : Int)] 3 j u (by simpa using hj)
  have HP : Hid (∀ (v' : Value) (w7 : World), w7.ownsRow 0 3 1 v' (S.pu.length + 1) ((S.pu.map fun (i : Nat) => Value.int .i64 (i : Int)) ++ [.int .i64 (S.tr.length : Int)]) → W8.grownBy w7 (Value.slice aa S.pu.length ac).ownBlock → (v'.ownBlock = (Value.slice aa S.pu.length ac).ownBlock ∨ v'.ownBlock = some W8.heap.size) →
      (w7.cell? ⟨q, 9, none⟩ = some (.slice aa S.pu.length ac) ∧ w7.frozen? ⟨q, 9, none⟩ = false) ∧ Turn F w (w7.setCell ⟨q, 9, none⟩ v') q (cntS S)) := fun v' w7 hown hg hl => by
    obtain ⟨r1, r2, r3, r4, r5, r6⟩ := row_put 9 hI.hq (map_block hI.hp) hI.hu (by decide) (Only.refl _ _) hI.hq hb8 hown hg hl
    refine ⟨⟨(cell_of_heap r1).trans rfl, frozen_of_heap r1⟩, ?_⟩
    obtain ⟨k1, k2⟩ := keeps hI.hq (map_block hI.hp) hI.hu r2
    have hch : ∀ {a : Option Addr} {f : Sto}, Chn w a f → Chn (w7.setCell ⟨q, 9, none⟩ v') a f := fun hc => hc.keep fun k cur hk => k1 k cur _ hk (by decide) (by decide)
    subst hF
    refine ⟨r2.mono (fun k hk => ?_), _, ⟨m, pl, la, tv, av, v', D, al, nv, rfl, ⟨?_, row_keep k1 hI.ht (by decide) (by decide), hI.hnl, fun i c v hc hv => row_keep k1 (hI.hnv i c v hc hv) (by decide) (by decide), row_keep k1 hI.ha (by decide) (by decide), hI.hal, fun i a g hia hig => hch (hI.hch i a g hia hig), ?_, ?_, hI.hD, ?_, hch hI.hc, hI.hle, hI.hmp⟩⟩, fun k hk => ?_⟩
    · simp only [List.cons_append, List.nil_append, List.mem_cons, Option.mem_toList] at hk
      rcases hk with rfl | rfl | h
      · exact mem_fp.2 (by simp)
      · exact mem_fp.2 (by simp)
      · exact mem_fp.2 (by simp [h])
    · rw [r3]; rfl
    · have : (cntS S).pu.length = S.pu.length + 1 := by simp [cntS]
      rw [this, show (cntS S).pu = S.pu ++ [S.tr.length] from rfl, List.map_append]
      exact r4
    · obtain ⟨es, cl, hk⟩ := map_block hI.hm
      exact map_keep hI.hm (k2 m es cl hk hI.hmp)
    · refine map_keep hI.hp (r6 pl (fun e => hqp e.symm) (fun e => ?_) hI.hp.lt)
      obtain ⟨c, hc⟩ := owns_block hI.hu e
      obtain ⟨es, cl, hk⟩ := map_block hI.hp
      rw [hc] at hk
      cases hk
    · rcases mem_fp.1 hk with h | h | h | h | h | h
      · exact .inl (mem_fp.2 (by simp [h]))
      · exact .inl (mem_fp.2 (by simp [h]))
      · exact .inl (mem_fp.2 (by simp [h]))
      · exact .inl (mem_fp.2 (by simp [h]))
      · exact .inl (mem_fp.2 (by simp [h]))
      · rcases r5 k h with h | h
        · exact .inl (mem_fp.2 (.inr (.inr (.inr (.inr (.inr h))))))
        · exact .inr h
  have y7 : W8.cell? ⟨q, 7, none⟩ = some (.slice ta S.tr.length tc) := (hb8.cell (p := ⟨q, 7, none⟩) (heap_lt hI.hq)).trans c7
  have y9 : W8.cell? ⟨q, 9, none⟩ = some (.slice aa S.pu.length ac) := (hb8.cell (p := ⟨q, 9, none⟩) (heap_lt hI.hq)).trans c9
  generalize S.tr.length = n at *
  generalize S.pu.length = na at *
  clear hI hF hs hb8 ht
  go_enter Try.func59, Try.ntmps59
  go_wp2_with fail
  go_region_law (first | ((try rw [hW8]); refine step_append_at rfl _ _ 73 rfl 0 3 i0 _ 1 8 Try.underlying73 hi hz0 hz1 hz2 rfl (by decide) _ _ _ rfl HO.out _ _ _ _ rfl rfl HNW.out (by simp [Value.oneCell']) (by unfold maxLen; omega) (by omega) (Nat.zero_le _) ?_; intro v' w7 hown' hgrow hloc; obtain ⟨⟨z1, z2⟩, zT⟩ := HP.out _ _ hown' hgrow hloc; have ZT : Hid _ := zT; clear zT; obtain ⟨a7, c7, rfl⟩ := own_len hown'))
  all_goals
    go_end0
    exact ⟨rfl, ZT.out⟩

def calV (c : Cal) (v : Value) : Value := .agg #[.int .i64 c.kind, .string c.name, .string c.blob, .int .i64 c.code, .string c.reply, v]
set_option maxRecDepth 10000 in
set_option maxHeartbeats 2000000 in
theorem end_any (w : World) (q : Nat) (F : List Nat) (S : Wst) (c : Cal) (va : Option Addr) (vn vc : Nat) (hs : St w q F S) (hn : S.tr.length ≤ 1590000000000) (hc : w.ownsRow 0 9 1 (.slice va vn vc) c.names.length (c.names.map encStr)) : Calls Try.prog 50 #[.pointer (some ⟨q, 0, none⟩), calV c (.slice va vn vc)] w fun e w' => e = .returned (.tuple #[]) ∧ Turn F w w' q (endS S c) := by
  unfold calV
  obtain ⟨w0, hw0⟩ : ∃ W, w.alloc (.cells #[.int .i64 c.kind, .string c.name, .string c.blob, .int .i64 c.code, .string c.reply, .slice va vn vc] 90) = W := ⟨_, rfl⟩
  have hb0 : Below w.heap.size w w0 := by rw [← hw0]; exact (Below.refl _ _).alloc (Nat.le_refl _) _
  have hcl : w0.heap[w.heap.size]? = some (.cells #[.int .i64 c.kind, .string c.name, .string c.blob, .int .i64 c.code, .string c.reply, .slice va vn vc] 90 (0, 0)) := by rw [← hw0]; exact heap_new _ _
  obtain ⟨m, pl, la, tv, av, uv, D, al, nv, hF, hI0⟩ := id hs
  have hI := hI0.below hb0
  have hc' : w0.ownsRow 0 9 1 (.slice va vn vc) c.names.length (c.names.map encStr) := owns_keep hc fun g hg => by
    obtain ⟨cu, hcu⟩ := owns_block hc hg
    exact hb0.block g (heap_lt hcu)
  obtain ⟨aa, ac, rfl⟩ := own_len hI.ht
  obtain ⟨c0, c1, -, -, -, -, -, c7, -, c9, c10, -⟩ := hI.cells
  have hqp : q ≠ pl := fun e => by
    obtain ⟨es, cl, hk⟩ := map_block hI.hp
    rw [← e, hI.hq] at hk
    cases hk
  obtain ⟨i0, hi, hz0, hz1, hz2⟩ := info_parts infoCall
  obtain ⟨kd, nm, bl, co, re, ns⟩ := c
  dsimp only at *
  obtain ⟨W8, hW8⟩ : ∃ W, (w0.alloc (.cells #[.int .i64 kd, .string nm, .string bl, .int .i64 co, .string re, .slice va vn vc] 90)).drew = W := ⟨_, rfl⟩
  have hb8 : Below w0.heap.size w0 W8 := by rw [← hW8]; exact ((Below.refl _ _).alloc (Nat.le_refl _) _).drew
  have HO : Hid (W8.ownsRow 0 90 6 (.slice aa S.tr.length ac) S.tr.length (trCells S.tr nv)) := owns_keep hI.ht (fun g hg => by
    obtain ⟨c, hc⟩ := owns_block hI.ht hg
    exact hb8.block g (heap_lt hc))
  have HNW : Hid (∀ j u, ([.int .i64 kd, .string nm, .string bl, .int .i64 co, .string re, .slice va vn vc] : List Value)[j]? = some u → W8.cell? ((⟨w0.heap.size, 0, none⟩ : Addr).add j) = some u) := fun j u hj => by rw [← hW8]; exact cells_new w0 #[.int .i64 kd, .string nm, .string bl, .int .i64 co, .string re, .slice va vn vc] 90 j u (by simpa using hj)
  have HP : Hid (∀ (v' : Value) (w7 : World), w7.ownsRow 0 90 6 v' (S.tr.length + 1) (trCells S.tr nv ++ [.int .i64 kd, .string nm, .string bl, .int .i64 co, .string re, .slice va vn vc]) → W8.grownBy w7 (Value.slice aa S.tr.length ac).ownBlock → (v'.ownBlock = (Value.slice aa S.tr.length ac).ownBlock ∨ v'.ownBlock = some W8.heap.size) →
      (w7.cell? ⟨q, 7, none⟩ = some (.slice aa S.tr.length ac) ∧ w7.frozen? ⟨q, 7, none⟩ = false) ∧ Turn F w0 (w7.setCell ⟨q, 7, none⟩ v') q (logS S ⟨kd, nm, bl, co, re, ns⟩)) := fun v' w7 hown hg hl => by
    obtain ⟨r1, r2, r3, r4, r5, r6⟩ := row_put 7 hI.hq (map_block hI.hp) hI.ht (by decide) (Only.refl _ _) hI.hq hb8 hown hg hl
    refine ⟨⟨(cell_of_heap r1).trans rfl, frozen_of_heap r1⟩, ?_⟩
    obtain ⟨k1, k2⟩ := keeps hI.hq (map_block hI.hp) hI.ht r2
    have hch : ∀ {a : Option Addr} {f : Sto}, Chn w0 a f → Chn (w7.setCell ⟨q, 7, none⟩ v') a f := fun hc => hc.keep fun k cur hk => k1 k cur _ hk (by decide) (by decide)
    have hlen : (logS S ⟨kd, nm, bl, co, re, ns⟩).tr.length = S.tr.length + 1 := by simp [logS]
    subst hF
    refine ⟨r2.mono (fun k hk => ?_), _, ⟨m, pl, la, v', av, uv, D, al, nv ++ [.slice va vn vc], rfl, ⟨?_, ?_, ?_, fun i c v hc hv => ?_, row_keep k1 hI.ha (by decide) (by decide), hI.hal, fun i a g hia hig => hch (hI.hch i a g hia hig), row_keep k1 hI.hu (by decide) (by decide), ?_, hI.hD, ?_, hch hI.hc, hI.hle, hI.hmp⟩⟩, fun k hk => ?_⟩
    · simp only [List.cons_append, List.nil_append, List.mem_cons, Option.mem_toList] at hk
      rcases hk with rfl | rfl | h
      · exact mem_fp.2 (by simp)
      · exact mem_fp.2 (by simp)
      · exact mem_fp.2 (by simp [h])
    · rw [r3]; rfl
    · rw [hlen, show (logS S ⟨kd, nm, bl, co, re, ns⟩).tr = S.tr ++ [⟨kd, nm, bl, co, re, ns⟩] from rfl, trCells_snoc hI.hnl]
      exact r4
    · rw [hlen, List.length_append, hI.hnl]; rfl
    · have hc2 : (S.tr ++ [⟨kd, nm, bl, co, re, ns⟩])[i]? = some c := hc
      by_cases hil : i < S.tr.length
      · rw [List.getElem?_append_left hil] at hc2
        rw [List.getElem?_append_left (by rw [hI.hnl]; exact hil)] at hv
        exact row_keep k1 (hI.hnv i c v hc2 hv) (by decide) (by decide)
      · have h1 := (List.getElem?_eq_some_iff.1 hc2).1
        simp at h1
        obtain rfl : i = S.tr.length := by omega
        rw [List.getElem?_append_right (Nat.le_refl _)] at hc2
        rw [List.getElem?_append_right (by rw [hI.hnl]; exact Nat.le_refl _), hI.hnl] at hv
        simp at hc2 hv
        rw [← hc2, ← hv]
        exact row_keep k1 hc' (by decide) (by decide)
    · obtain ⟨es, cl, hk⟩ := map_block hI.hm
      exact map_keep hI.hm (k2 m es cl hk hI.hmp)
    · refine map_keep hI.hp (r6 pl (fun e => hqp e.symm) (fun e => ?_) hI.hp.lt)
      obtain ⟨c, hc⟩ := owns_block hI.ht e
      obtain ⟨es, cl, hk⟩ := map_block hI.hp
      rw [hc] at hk
      cases hk
    · rcases mem_fp.1 hk with h | h | h | h | h | h
      · exact .inl (mem_fp.2 (by simp [h]))
      · exact .inl (mem_fp.2 (by simp [h]))
      · exact .inl (mem_fp.2 (by simp [h]))
      · rcases r5 k h with h | h
        · exact .inl (mem_fp.2 (.inr (.inr (.inr (.inl h)))))
        · exact .inr h
      · exact .inl (mem_fp.2 (by simp [h]))
      · exact .inl (mem_fp.2 (by simp [h]))
  have HU : Hid (∀ w8, Turn F w0 w8 q (logS S ⟨kd, nm, bl, co, re, ns⟩) → Calls Try.prog 40 #[.pointer (some ⟨q, 5, none⟩)] w8 fun e w' => e = .returned (.tuple #[]) ∧ Turn F w w' q (endS S ⟨kd, nm, bl, co, re, ns⟩)) := fun w8 hT => by
    obtain ⟨h1, F2, h2, h3⟩ := Turn.ahead hb0 hT
    refine (use_any w8 q F2 _ h2).mono ?_
    rintro e w' ⟨rfl, hT2⟩
    exact ⟨rfl, turn_trans h1 h3 hT2⟩
  have y7 : W8.cell? ⟨q, 7, none⟩ = some (.slice aa S.tr.length ac) := (hb8.cell (p := ⟨q, 7, none⟩) (heap_lt hI.hq)).trans c7
  have hs0 : w.heap.size < w0.heap.size := heap_lt hcl
  have v0 : w0.cell? ⟨w.heap.size, 0, none⟩ = some (.int .i64 kd) := (cell_of_heap hcl).trans rfl
  have v1 : w0.cell? ⟨w.heap.size, 1, none⟩ = some (.string nm) := (cell_of_heap hcl).trans rfl
  have v2 : w0.cell? ⟨w.heap.size, 2, none⟩ = some (.string bl) := (cell_of_heap hcl).trans rfl
  have v3 : w0.cell? ⟨w.heap.size, 3, none⟩ = some (.int .i64 co) := (cell_of_heap hcl).trans rfl
  have v4 : w0.cell? ⟨w.heap.size, 4, none⟩ = some (.string re) := (cell_of_heap hcl).trans rfl
  have v5 : w0.cell? ⟨w.heap.size, 5, none⟩ = some (.slice va vn vc) := (cell_of_heap hcl).trans rfl
  generalize S.tr.length = n at *
  clear hI hF hs hb8 hcl hc hc' hI0 hb0
  go_enter Try.func50, Try.ntmps50
  go_wp2_with fail
  go_region_law (first | ((try rw [hW8]); refine step_append_at rfl _ _ 47 rfl 0 90 i0 _ 6 88 Try.underlying47 hi hz0 hz1 hz2 rfl (by decide) _ _ _ rfl HO.out _ _ _ _ rfl rfl HNW.out (by simp [Value.oneCell']) (by unfold maxLen; omega) (by omega) (Nat.zero_le _) ?_; intro v' w7 hown' hgrow hloc; obtain ⟨⟨z1, z2⟩, zT⟩ := HP.out _ _ hown' hgrow hloc; have hU := HU.out _ zT; clear zT; obtain ⟨a7, c7, rfl⟩ := own_len hown'))
  all_goals
    go_wp2_with fail
    refine hU.mono ?_
    rintro e w9 ⟨rfl, hT9⟩
    have HT9 : Hid _ := hT9
    clear hT9
    go_wp2
    go_end0
    exact ⟨rfl, HT9.out⟩

end Go.Proofs.Ytdgokfehgjkalaa.Wd
