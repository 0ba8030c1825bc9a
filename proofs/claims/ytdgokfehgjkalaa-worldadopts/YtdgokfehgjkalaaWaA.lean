import Derived.Test.YtdgokfehgjkalaaWkA
namespace Go.Proofs.Ytdgokfehgjkalaa.Wd
open Go.RowKit Go.Lib Go.Deep

/-- two states that are alike but for their traces -/
structure Alk (S T : Wst) : Prop where
  f : S.f = T.f
  cur : S.cur = T.cur
  pen : S.pen = T.pen
  stp : S.stp = T.stp
  off : S.off = T.off
  left : S.left = T.left
theorem alk_use {S T : Wst} (h : Alk S T) : Alk (useS S) (useS T) := by
  unfold useS
  rw [h.left]
  split
  · exact h
  · exact ⟨h.f, h.cur, h.pen, h.stp, rfl, rfl⟩
theorem alk_ref {S T : Wst} (h : Alk S T) (fs : List Int) : refE S fs = refE T fs := by unfold refE; rw [h.off]
theorem alk_getR {S T : Wst} (h : Alk S T) (n : ByteArray) : getR S n = getR T n := alk_ref h _
theorem alk_putE {S T : Wst} (h : Alk S T) (n b : ByteArray) : putE S n b = putE T n b := alk_ref h _
theorem alk_getE {S T : Wst} (h : Alk S T) (n : ByteArray) : getE S n = getE T n := by unfold getE; rw [alk_getR h, h.f]
theorem alk_getY {S T : Wst} (h : Alk S T) (n : ByteArray) : getY S n = getY T n := by unfold getY; rw [alk_getR h, h.f]
theorem alk_get {S T : Wst} (h : Alk S T) (n : ByteArray) : Alk (getS S n) (getS T n) := by
  unfold getS
  rw [alk_getR h]
  split
  · exact alk_use (S := logS (begS S) _) (T := logS (begS T) _) ⟨h.f, h.cur, h.pen, h.stp, h.off, h.left⟩
  · exact h
theorem alk_put {S T : Wst} (h : Alk S T) (n b : ByteArray) : Alk (putS S n b) (putS T n b) := by
  unfold putS
  rw [alk_putE h]
  split
  · exact alk_use (S := logS (cntS (layS (begS S) n b)) _) (T := logS (cntS (layS (begS T) n b)) _) ⟨by show putF S.f n b = putF T.f n b; rw [h.f], h.cur, h.pen, h.stp, h.off, h.left⟩
  · exact h
theorem alk_del {S T : Wst} (h : Alk S T) (n : ByteArray) : Alk (delS S n) (delS T n) := by
  unfold delS
  rw [alk_getR h]
  split
  · exact alk_use (S := logS (dropS (begS S) n) _) (T := logS (dropS (begS T) n) _) ⟨by show delF S.f n = delF T.f n; rw [h.f], h.cur, h.pen, h.stp, h.off, h.left⟩
  · exact h
theorem alk_list {S T : Wst} (h : Alk S T) : Alk (listS S) (listS T) := by
  unfold listS
  rw [h.off]
  split
  · exact h
  · exact alk_use (S := logS (begS S) _) (T := logS (begS T) _) ⟨h.f, h.cur, h.pen, h.stp, h.off, h.left⟩
theorem alk_load {S T : Wst} (h : Alk S T) : Alk (loadS S) (loadS T) := by
  unfold loadS
  rw [h.off]
  split
  · exact h
  · exact alk_use h
theorem alk_loadV {S T : Wst} (h : Alk S T) : loadV S = loadV T := by
  unfold loadV regV
  rw [h.off, h.cur, h.pen, h.stp]
theorem alk_pend {S T : Wst} (h : Alk S T) (n : ByteArray) : Alk (pendS S n) (pendS T n) := by
  unfold pendS
  rw [h.off]
  split
  · exact h
  · split
    · refine alk_use ?_
      exact ⟨h.f, h.cur, rfl, h.stp, rfl, h.left⟩
    · exact h
theorem alk_commit {S T : Wst} (h : Alk S T) : Alk (commitS S) (commitS T) := by
  unfold commitS
  rw [h.off]
  split
  · exact h
  · refine alk_use ?_
    unfold comS
    rw [h.pen]
    split
    · exact h
    · exact ⟨h.f, rfl, rfl, h.stp, h.off, h.left⟩
theorem alk_forget {S T : Wst} (h : Alk S T) : Alk (forgetS S) (forgetS T) := by
  unfold forgetS
  rw [h.off]
  split
  · exact h
  · refine alk_use ?_
    exact ⟨h.f, h.cur, rfl, h.stp, rfl, h.left⟩
theorem alk_stop {S T : Wst} (h : Alk S T) : Alk (stopS S) (stopS T) := by
  unfold stopS
  rw [h.off]
  split
  · exact h
  · refine alk_use ?_
    exact ⟨h.f, h.cur, h.pen, rfl, rfl, h.left⟩
theorem alk_arm {S T : Wst} (h : Alk S T) (k : Int) : Alk (armSS S k) (armSS T k) := by
  unfold armSS
  rw [h.off]
  split
  · exact h
  · exact ⟨h.f, h.cur, h.pen, h.stp, rfl, rfl⟩
theorem alk_do {S T : Wst} (h : Alk S T) (o : Ops) : Alk (doS S o) (doS T o) := by
  unfold doS
  by_cases h4 : o.kind = 4
  · rw [if_pos h4, if_pos h4]
    exact alk_get h _
  rw [if_neg h4, if_neg h4]
  by_cases h5 : o.kind = 5
  · rw [if_pos h5, if_pos h5]
    exact alk_put h _ _
  rw [if_neg h5, if_neg h5]
  by_cases h6 : o.kind = 6
  · rw [if_pos h6, if_pos h6]
    exact alk_del h _
  rw [if_neg h6, if_neg h6]
  by_cases h7 : o.kind = 7
  · rw [if_pos h7, if_pos h7]
    exact alk_list h
  rw [if_neg h7, if_neg h7]
  by_cases h8 : o.kind = 8
  · rw [if_pos h8, if_pos h8]
    exact alk_load h
  rw [if_neg h8, if_neg h8]
  by_cases h9 : o.kind = 9
  · rw [if_pos h9, if_pos h9]
    exact alk_pend h _
  rw [if_neg h9, if_neg h9]
  by_cases h10 : o.kind = 10
  · rw [if_pos h10, if_pos h10]
    exact alk_commit h
  rw [if_neg h10, if_neg h10]
  by_cases h11 : o.kind = 11
  · rw [if_pos h11, if_pos h11]
    exact alk_forget h
  rw [if_neg h11, if_neg h11]
  by_cases h12 : o.kind = 12
  · rw [if_pos h12, if_pos h12]
    exact alk_stop h
  rw [if_neg h12, if_neg h12]
  by_cases h14 : o.kind = 14
  · rw [if_pos h14, if_pos h14]
    exact alk_arm h _
  rw [if_neg h14, if_neg h14]
  by_cases h15 : o.kind = 15
  · rw [if_pos h15, if_pos h15]
    exact ⟨h.f, h.cur, h.pen, h.stp, rfl, rfl⟩
  rw [if_neg h15, if_neg h15]
  exact h
/-- blobs and tags that may be -/
structure Tok (S : Wst) : Prop where
  k : KOK S.f
  b : ∀ k x, S.f k = some x → blobOK x = true
  c : noneOrTag S.cur = true
  p : noneOrTag S.pen = true
theorem tok_use {S : Wst} (h : Tok S) : Tok (useS S) := by
  have e := (useS_tr S).2.2.2.2
  exact ⟨by rw [e]; exact h.k, by rw [e]; exact h.b, by rw [useS_cur]; exact h.c, by rw [useS_pen]; exact h.p⟩
theorem put_blob {S : Wst} {n b : ByteArray} (h : putE S n b = 0) : blobOK b = true := by
  have hn := put_name h
  unfold putE at h
  cases hoff : S.off with
  | true => rw [refE_off hoff] at h; cases h
  | false =>
    rw [refE_on2 hoff] at h
    unfold nameE blobE at h
    rw [if_pos hn, if_pos rfl] at h
    cases hb : blobOK b with
    | true => rfl
    | false => rw [hb] at h; cases h
theorem tok_do {S : Wst} (h : Tok S) (o : Ops) : Tok (doS S o) := by
  unfold doS
  split
  · unfold getS; split
    · exact tok_use (S := logS (begS S) _) ⟨h.k, h.b, h.c, h.p⟩
    · exact h
  split
  · unfold putS; split
    · rename_i hp
      refine tok_use (S := logS (cntS (layS (begS S) o.name o.blob)) _) ⟨kok_put h.k (put_name hp), fun k x hx => ?_, h.c, h.p⟩
      have hx : putF S.f o.name o.blob k = some x := hx
      unfold putF at hx
      split at hx
      · obtain rfl := Option.some.inj hx
        exact put_blob hp
      · exact h.b k x hx
    · exact h
  split
  · unfold delS; split
    · refine tok_use (S := logS (dropS (begS S) o.name) _) ⟨kok_del h.k _, fun k x hx => ?_, h.c, h.p⟩
      have hx : delF S.f o.name k = some x := hx
      unfold delF at hx
      split at hx
      · cases hx
      · exact h.b k x hx
    · exact h
  split
  · unfold listS; split
    · exact h
    · exact tok_use (S := logS (begS S) _) ⟨h.k, h.b, h.c, h.p⟩
  split
  · unfold loadS; split
    · exact h
    · exact tok_use h
  split
  · unfold pendS; split
    · exact h
    · split
      · rename_i ht
        refine tok_use (S := { S with pen := o.name }) ⟨h.k, h.b, h.c, ?_⟩
        show noneOrTag o.name = true
        unfold noneOrTag
        unfold tagOK at ht
        exact decide_eq_true (.inr (of_decide_eq_true ht))
      · exact h
  split
  · unfold commitS; split
    · exact h
    · refine tok_use (S := comS S) ?_
      unfold comS; split
      · exact h
      · exact ⟨h.k, h.b, h.p, by show noneOrTag { data := #[] } = true; decide⟩
  split
  · unfold forgetS; split
    · exact h
    · exact tok_use (S := { S with pen := { data := #[] } }) ⟨h.k, h.b, h.c, by show noneOrTag { data := #[] } = true; decide⟩
  split
  · unfold stopS; split
    · exact h
    · exact tok_use (S := { S with stp := true }) ⟨h.k, h.b, h.c, h.p⟩
  split
  · unfold armSS; split
    · exact h
    · exact ⟨h.k, h.b, h.c, h.p⟩
  split
  · exact ⟨h.k, h.b, h.c, h.p⟩
  · exact h
theorem tok_w : Tok Sw := by
  refine ⟨?_, ?_, by decide, by decide⟩
  · rw [sw_f]; intro k hk; cases hk
  · rw [sw_f]; intro k x hx; cases hx
theorem nd_dump {ks : List (List UInt8)} {f : Sto} (h : Rises ks f) : ND (dumpL f ks) := by
  unfold ND dumpL List.Nodup
  rw [List.map_map, List.pairwise_map]
  refine h.2.1.imp (fun {a b} hne e => hne ?_)
  have e : str a = str b := e
  rw [← ky_str a, ← ky_str b, e]
theorem cont_dump {ks : List (List UInt8)} {f : Sto} (h : Rises ks f) : cont (dumpL f ks) = f := by
  funext k
  cases hf : f k with
  | none =>
    cases hc : cont (dumpL f ks) k with
    | none => rfl
    | some b =>
      obtain ⟨x, hx, e⟩ := cont_mem (L := dumpL f ks) (n := str k) (by rw [ky_str, hc]; rfl)
      unfold dumpL at hx
      obtain ⟨a, ha, rfl⟩ := List.mem_map.1 hx
      have e : str a = str k := e
      have e2 : a = k := by rw [← ky_str a, ← ky_str k, e]
      have := (h.2.2 a).1 ha
      rw [e2, hf] at this
      cases this
  | some b =>
    have hk : k ∈ ks := (h.2.2 k).2 (by rw [hf]; rfl)
    cases hc : cont (dumpL f ks) k with
    | none =>
      have := cont_none (L := dumpL f ks) (n := str k) (by rw [ky_str, hc]; rfl) (str k, (f k).getD { data := #[] }) (List.mem_map.2 ⟨k, hk, rfl⟩)
      exact absurd rfl this
    | some c =>
      obtain ⟨j, _, hj⟩ := fidx_some (L := dumpL f ks) (n := str k) (b := c) (by rw [ky_str]; exact hc)
      unfold dumpL at hj
      rw [List.getElem?_map] at hj
      cases ha : ks[j]? with
      | none => rw [ha] at hj; cases hj
      | some a =>
        rw [ha] at hj
        simp only [Option.map_some, Option.some.injEq, Prod.mk.injEq] at hj
        have e2 : a = k := by rw [← ky_str a, ← ky_str k, hj.1]
        rw [← hj.2, e2, hf]
        rfl
theorem good_dump {S : Wst} {ks : List (List UInt8)} (h : Tok S) (hR : Rises ks S.f) : Good (dumpL S.f ks) S.cur S.pen := by
  refine ⟨fun x hx => ?_, nd_dump hR, h.c, h.p⟩
  unfold dumpL at hx
  obtain ⟨a, ha, rfl⟩ := List.mem_map.1 hx
  have hs := (hR.2.2 a).1 ha
  obtain ⟨b, hb⟩ := Option.isSome_iff_exists.1 hs
  refine ⟨h.k a hs, ?_⟩
  show blobOK ((S.f a).getD _) = true
  rw [hb]
  exact h.b a b hb
/-- two worlds beside one another -/
structure Two (w wr : World) (pa qa : Nat) (Fa : List Nat) (Sa : Wst) (pb qb : Nat) (Fb : List Nat) (Sb : Wst) : Prop where
  a : Lv w wr pa qa Fa Sa
  b : Lv w wr pb qb Fb Sb
  d : ∀ k, k ∈ Fa → k ∉ Fb
theorem Lv.other {w wr W : World} {pa qa : Nat} {Fa : List Nat} {Sa S' : Wst} {pb qb : Nat} {Fb : List Nat} {Sb : Wst} (ha : Lv w wr pa qa Fa Sa) (hb : Lv w wr pb qb Fb Sb) (hd : ∀ k, k ∈ Fa → k ∉ Fb) (hT : Turn Fa wr W qa S') : Lv w W pb qb Fb Sb := by
  have hk : ∀ {k : Nat} {cur : Array Value} {e : TypeId}, wr.heap[k]? = some (.cells cur e (0, 0)) → ¬ (e = 76 ∨ e = 90 ∨ e = 67 ∨ e = 3) → W.heap[k]? = wr.heap[k]? := fun {k cur e} h1 h2 => hT.1.block k (heap_lt h1) (ha.st.notin h1 h2)
  obtain ⟨m, pl, la, tv, av, uv, D, al, nv, hF, hI⟩ := hb.st
  obtain ⟨F', hL⟩ := ha.turn hT
  refine ⟨(hk hb.top (by decide)).trans hb.top, ⟨m, pl, la, tv, av, uv, D, al, nv, hF, hI.keep (fun k hm => hT.1.block k (hI.lt hm) (fun e => hd k e (by rw [hF]; exact hm))) (fun k cur hc => hk hc (by decide)) (fun k cur hc => hk hc (by decide))⟩, hb.fr, hb.pb, hL.be⟩
theorem Two.left {w wr W : World} {pa qa : Nat} {Fa : List Nat} {Sa S' : Wst} {pb qb : Nat} {Fb : List Nat} {Sb : Wst} (h : Two w wr pa qa Fa Sa pb qb Fb Sb) (hT : Turn Fa wr W qa S') : ∃ Fa', Two w W pa qa Fa' S' pb qb Fb Sb := by
  obtain ⟨o1, F2, s2, k2⟩ := id hT
  have hL := h.a.turn hT
  refine ⟨F2, ⟨h.a.top.keep h.a.st hT, s2, fun k hk => ?_, h.a.pb, ?_⟩, h.a.other h.b h.d hT, fun k hk he => ?_⟩
  · rcases k2 k hk with h' | h'
    · exact h.a.fr k h'
    · exact Nat.le_trans h.a.be.size h'
  · obtain ⟨_, hL⟩ := hL
    exact hL.be
  · rcases k2 k hk with h' | h'
    · exact h.d k h' he
    · have := h.b.st.lt k he
      omega
theorem Two.swap {w wr : World} {pa qa : Nat} {Fa : List Nat} {Sa : Wst} {pb qb : Nat} {Fb : List Nat} {Sb : Wst} (h : Two w wr pa qa Fa Sa pb qb Fb Sb) : Two w wr pb qb Fb Sb pa qa Fa Sa := ⟨h.b, h.a, fun k hk he => h.d k he hk⟩
theorem Two.right {w wr W : World} {pa qa : Nat} {Fa : List Nat} {Sa S' : Wst} {pb qb : Nat} {Fb : List Nat} {Sb : Wst} (h : Two w wr pa qa Fa Sa pb qb Fb Sb) (hT : Turn Fb wr W qb S') : ∃ Fb', Two w W pa qa Fa Sa pb qb Fb' S' := by
  obtain ⟨F', h'⟩ := h.swap.left hT
  exact ⟨F', h'.swap⟩
theorem Two.below {w wr W : World} {pa qa : Nat} {Fa : List Nat} {Sa : Wst} {pb qb : Nat} {Fb : List Nat} {Sb : Wst} (h : Two w wr pa qa Fa Sa pb qb Fb Sb) (hb : Below wr.heap.size wr W) : Two w W pa qa Fa Sa pb qb Fb Sb := ⟨h.a.below hb, h.b.below hb, h.d⟩

end Go.Proofs.Ytdgokfehgjkalaa.Wd
