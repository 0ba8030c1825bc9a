import Derived.Test.YtfnklhajafmooaaGreatDoorG08
set_option maxHeartbeats 4000000
set_option maxRecDepth 20000
namespace Go.Proofs.YtfnklhajafmooaaGreatDoor.Tr
open Go.RowKit Go.Lib Go.Deep Go.Proofs.Tryz
theorem Inn.blocks {w:World}{q:Nat}{dv fv:Value}{ld lf:Nat}{ms:Nat->Nat}{nn:Nat}{T:Ts}(h:Inn w q dv fv ld lf ms nn T):(∀g,dv.ownBlock=some g->g≠q)/\(∀g,fv.ownBlock=some g->g≠q)/\(∀g k,dv.ownBlock=some g->fv.ownBlock=some k->g≠k)/\∀(i:Nat) d,T.D[i]?=some (some d)->ms i≠q/\dv.ownBlock≠some (ms i)/\fv.ownBlock≠some (ms i):=by
 have ty:∀{k:Nat} {c c':Array Value} {e e':TypeId},w.heap[k]?=some (.cells c e (0,0))->w.heap[k]?=some (.cells c' e' (0,0))->e=e':=fun h1 h2=>by
  rw[h1] at h2
  injection h2 with h2
  injection h2 with _ h2 _
 refine ⟨fun g hg e=>?_,fun g hg e=>?_,fun g k hg hk e=>?_,fun i d hd=>?_⟩
 ·obtain ⟨c,hc⟩:=jA1 h.hd hg
  subst e
  exact absurd (ty hc h.hq) (by decide)
 ·obtain ⟨c,hc⟩:=jA1 h.hf hg
  subst e
  exact absurd (ty hc h.hq) (by decide)
 ·obtain ⟨c,hc⟩:=jA1 h.hd hg
  obtain ⟨c',hc'⟩:=jA1 h.hf hk
  subst e
  exact absurd (ty hc hc') (by decide)
 ·obtain ⟨Dt,h2,_⟩:=h.hm i d hd
  obtain ⟨es,cl,h3⟩:=jDq h2
  refine ⟨fun e=>?_,fun e=>?_,fun e=>?_⟩
  ·rw[e,h.hq] at h3;cases h3
  ·obtain ⟨c,hc⟩:=jA1 h.hd e
   rw[hc] at h3;cases h3
  ·obtain ⟨c,hc⟩:=jA1 h.hf e
   rw[hc] at h3;cases h3
theorem Inn.turnF {w W:World}{q:Nat}{dv fv fv':Value}{ld lf lf':Nat}{ms:Nat->Nat}{nn:Nat}{T:Ts}(h:Inn w q dv fv ld lf ms nn T)(F':List (Option (Nat × ByteArray × Nat)))(ho:Only (q :: fv.ownBlock.toList) w W)
 (hq:W.heap[q]?=some (.cells (stA T dv fv' ld lf') 138 (0,0))) (hf:W.ownsRow 0 191 4 fv' F'.length (rwsC (jD8 F'))) (hl:∀i,i<lf'->∃d,F'[i]?=some (some d)) (hll:lf'<=F'.length) (hfl:F'.length<=T.fr):Inn W q dv fv' ld lf' ms nn { T with F:=F' }:=by
 obtain ⟨b1,b2,b3,b4⟩:=h.blocks
 have ne:∀k,k<w.heap.size->k≠q->fv.ownBlock≠some k->W.heap[k]?=w.heap[k]?:=fun k hk h1 h2=>ho.block k hk (by simp only[List.mem_cons,Option.mem_toList,not_or];exact ⟨h1,h2⟩)
 refine ⟨hq,jA0 h.hd fun g hg=>ne g (h.hd.lt g hg).2 (b1 g hg) (fun e=>b3 g g hg e rfl),hf,fun i d hd=>?_,h.hi,h.hld,hl,h.ldl,hll,h.dl,hfl,h.lim⟩
 obtain ⟨Dt,h2,h3⟩:=h.hm i d hd
 obtain ⟨c1,c2,c3⟩:=b4 i d hd
 exact ⟨Dt,jC6 h2 (ne _ h2.lt c1 c3),h3⟩
theorem Inn.turnD {w W:World}{q:Nat}{dv dv' fv:Value}{ld ld' lf:Nat}{ms ms':Nat->Nat}{nn:Nat}{T:Ts}(h:Inn w q dv fv ld lf ms nn T)(D':List (Option (Nat × ByteArray)))(ho:Only (q :: dv.ownBlock.toList) w W)
 (hq:W.heap[q]?=some (.cells (stA T dv' fv ld' lf) 138 (0,0))) (hd:W.ownsRow 0 187 4 dv' D'.length (rwsC (jF3 D' ms'))) (hl:∀i,i<ld'->∃d,D'[i]?=some (some d)) (hll:ld'<=D'.length) (hdl:D'.length<=T.dr)
 (hm:∀(i:Nat) d,D'[i]?=some (some d)->(∃e,T.D[i]?=some (some e)/\ms' i=ms i)\/(W.ownsMap prog 9 jF2 (ms' i) 0 (.map [])/\T.M i=fun _=>none)) (hi:∀(i j:Nat) d e,D'[i]?=some (some d)->D'[j]?=some (some e)->ms' i=ms' j->i=j):Inn W q dv' fv ld' lf ms' nn { T with D:=D' }:=by
 obtain ⟨b1,b2,b3,b4⟩:=h.blocks
 have ne:∀k,k<w.heap.size->k≠q->dv.ownBlock≠some k->W.heap[k]?=w.heap[k]?:=fun k hk h1 h2=>ho.block k hk (by simp only[List.mem_cons,Option.mem_toList,not_or];exact ⟨h1,h2⟩)
 refine ⟨hq,hd,jA0 h.hf fun g hg=>ne g (h.hf.lt g hg).2 (b2 g hg) (fun e=>b3 g g e hg rfl),fun i d hd=>?_,hi,hl,h.hlf,hll,h.lfl,hdl,h.fl,h.lim⟩
 rcases hm i d hd with ⟨e,h1,h2⟩ | ⟨h1,h2⟩
 ·obtain ⟨Dt,h3,h4⟩:=h.hm i e h1
  obtain ⟨c1,c2,c3⟩:=b4 i e h1
  rw[h2]
  exact ⟨Dt,jC6 h3 (ne _ h3.lt c1 c2),h4⟩
 ·exact ⟨_,h1.mono (Kj _),by show Tab _ (T.M i);rw[h2];exact tab_nil⟩
theorem jM7 {α:Type}{l:List (Option α)}{x:Nat}{v:Option α}(h:x<l.length):layL l x v=l.set x v:=if_pos h
theorem lay_setF {w W w0:World}{q:Nat}{dv fv:Value}{ld lf g cap:Nat}{ms:Nat->Nat}{nn:Nat}{T:Ts}(h:Inn w q dv fv ld lf ms nn T)(hg:fv=.slice (some ⟨g,0,none⟩) (jD8 T.F).length cap){i:Nat}(hi:i<T.F.length)(o:Nat × ByteArray × Nat)(hb:Below w.heap.size w w0)(hW:W=put4 w0 g (i*4) (fRow (some o))) :
 Turn (fp q dv fv T.D ms) w W q nn (setF T i (some o)):=by
 have h0:=h.below hb
 subst hg
 obtain ⟨r1,r2⟩:=jEz h0.hf' i (fRow (some o))
 rw[<-hW] at r1 r2
 have hgq:=h.blocks.2.1 g rfl
 have hoW:Only (q :: (Value.slice (some ⟨g,0,none⟩) (jD8 T.F).length cap).ownBlock.toList) w W:=jB8 (jBv (Only.refl _ _) hb) r2 (fun k e=>by
  injection e with e
  subst e
  exact .inl (by simp[Value.ownBlock]))
 have e1:setF T i (some o)={ T with F:=T.F.set i (some o) }:=by unfold setF;rw[jM7 hi]
 have e2:jD8 (T.F.set i (some o))=(jD8 T.F).set i (fRow (some o)):=by unfold jD8;rw[List.map_set]
 rw[e1]
 refine ⟨hoW.mono (fun k hk=>?_),_,⟨_,_,_,_,_,rfl,h.turnF (T.F.set i (some o)) hoW ?_ ?_ (fun j hj=>?_) (by simpa using h.lfl) (by simpa using h.fl)⟩,fun k hk=>.inl hk⟩
 ·simp only[List.mem_cons,Option.mem_toList] at hk
  exact jBx.2 (by rcases hk with h1 | h1
                  ·exact .inl h1
                  ·exact .inr (.inr (.inl h1)))
 ·exact (r2.block q (Qx (jAv h.hq) hb.size) (fun e=>hgq (by injection e with e;exact e.symm))).trans h0.hq
 ·rw[e2,List.length_set,<-jDv]
  exact r1
 ·obtain ⟨d,hd⟩:=h.hlf j hj
  rw[List.getElem?_set]
  by_cases hij:i=j
  ·subst hij;rw[if_pos rfl,if_pos hi];exact ⟨_,rfl⟩
  ·rw[if_neg hij];exact ⟨d,hd⟩
theorem lowR_f (F:List (Option (Nat × ByteArray × Nat))):lowR (jD8 F)=lowL F:=lowR_eq (fun i hi=>by
 obtain ⟨d,hd⟩:=jF9 F hi
 exact ⟨_,by rw[jD5,hd];rfl,rfl⟩) (fun r hr=>by
 rw[jD5] at hr
 cases hq:F[lowL F]? with
 | none=>rw[hq] at hr;cases hr
 | some o =>
   cases o with
   | none=>rw[hq] at hr;injection hr with hr;rw[<-hr];rfl
   | some d=>exact absurd hq (jHv F d)) (by rw[jDv];exact jE5 F)
theorem lowR_d (D:List (Option (Nat × ByteArray)))(ms:Nat->Nat):lowR (jF3 D ms)=lowL D:=lowR_eq (fun i hi=>by
 obtain ⟨d,hd⟩:=jF9 D hi
 exact ⟨_,by rw[jDx,hd];rfl,rfl⟩) (fun r hr=>by
 rw[jDx] at hr
 cases hq:D[lowL D]? with
 | none=>rw[hq] at hr;cases hr
 | some o =>
   cases o with
   | none=>rw[hq] at hr;injection hr with hr;rw[<-hr];rfl
   | some d=>exact absurd hq (jHv D d)) (by rw[jCx];exact jE5 D)
theorem fpF {q:Nat}{dv fv:Value}{D:List (Option (Nat × ByteArray))}{ms:Nat->Nat}{k:Nat}(hk:k∈q :: fv.ownBlock.toList):k∈fp q dv fv D ms:=by
 simp only[List.mem_cons,Option.mem_toList] at hk
 rcases hk with h1 | h1
 ·exact jBx.2 (.inl h1)
 ·exact jBx.2 (.inr (.inr (.inl h1)))
theorem fpD {q:Nat}{dv fv:Value}{D:List (Option (Nat × ByteArray))}{ms:Nat->Nat}{k:Nat}(hk:k∈q :: dv.ownBlock.toList):k∈fp q dv fv D ms:=by
 simp only[List.mem_cons,Option.mem_toList] at hk
 rcases hk with h1 | h1
 ·exact jBx.2 (.inl h1)
 ·exact jBx.2 (.inr (.inl h1))
theorem lay_freeF {w W w0:World}{q:Nat}{dv fv:Value}{ld lf g cap:Nat}{ms:Nat->Nat}{nn:Nat}{T:Ts}(h:Inn w q dv fv ld lf ms nn T)(hg:fv=.slice (some ⟨g,0,none⟩) (jD8 T.F).length cap){i:Nat}(hi:i<T.F.length)(hb:Below w.heap.size w w0)(hW:W=(put4 w0 g (i*4) (fRow none)).setCell ⟨q,5,none⟩ (.int .i64 ((min lf i:Nat):Int))) :
 Turn (fp q dv fv T.D ms) w W q nn (setF T i none):=by
 have h0:=h.below hb
 have hgv:fv.ownBlock=some g:=by rw[hg];rfl
 have hf2:=h0.hf'
 rw[hg] at hf2
 obtain ⟨r1,r2⟩:=jEz hf2 i (fRow none)
 rw[<-hg] at r1
 generalize hV:put4 w0 g (i*4) (fRow none)=V at *
 have hgq:=h.blocks.2.1 g hgv
 have hq1:=(r2.block q (Qx (jAv h.hq) hb.size) (fun e=>hgq (by injection e with e;exact e.symm))).trans h0.hq
 have hoW:Only (q :: fv.ownBlock.toList) w W:=by
  rw[hW,hgv]
  refine (jB8 (jBv (Only.refl _ _) hb) r2 (fun k e=>?_)).trans ((jF8 _).mono (by intro k hk;simp at hk;simp[hk]))
  injection e with e
  subst e
  exact .inl (by simp)
 have e1:setF T i none={ T with F:=T.F.set i none }:=by unfold setF;rw[jM7 hi]
 have e2:jD8 (T.F.set i none)=(jD8 T.F).set i (fRow none):=by unfold jD8;rw[List.map_set]
 have k1:W.heap[q]?=some (.cells (stA T dv fv ld (min lf i)) 138 (0,0)):=by
  rw[hW]
  exact QJ _ _ 5 _ _ _ hq1
 have k2:W.ownsRow 0 191 4 fv (T.F.set i none).length (rwsC (jD8 (T.F.set i none))):=by
  rw[e2,List.length_set,<-jDv,hW]
  exact jA0 r1 fun k hk=>Qy _ _ _ _ (by rw[hgv] at hk;injection hk with hk;rw[<-hk];exact hgq)
 rw[e1]
 refine ⟨hoW.mono (fun k hk=>fpF hk),fp q dv fv T.D ms,⟨dv,fv,ld,min lf i,ms,rfl,h.turnF (fv':=fv) (lf':=min lf i) (T.F.set i none) hoW k1 k2 (fun j hj=>?_) (by have:=h.lfl;simp;omega) (by simpa using h.fl)⟩,fun k hk=>.inl hk⟩
 obtain ⟨d,hd⟩:=h.hlf j (by omega)
 rw[List.getElem?_set,if_neg (by omega)]
 exact ⟨d,hd⟩
theorem lay_putD {w W w0:World}{q:Nat}{dv fv:Value}{ld ld' lf g cap:Nat}{ms:Nat->Nat}{nn:Nat}{T:Ts}(h:Inn w q dv fv ld lf ms nn T)(hg:dv=.slice (some ⟨g,0,none⟩) (jF3 T.D ms).length cap){i:Nat}{d:Nat × ByteArray}(hi:T.D[i]?=some (some d))(o:Option (Nat × ByteArray))(hb:Below w.heap.size w w0)(hlo:ld'<=ld)(hli:o=none->ld'<=i)
 (hW:W=(put4 w0 g (i*4) (dRow o (ms i))).setCell ⟨q,2,none⟩ (.int .i64 (ld':Int))\/(W=put4 w0 g (i*4) (dRow o (ms i))/\ld'=ld)):Turn (fp q dv fv T.D ms) w W q nn (setD T i o):=by
 have h0:=h.below hb
 have hlt:=jAy hi
 have hgv:dv.ownBlock=some g:=by rw[hg];rfl
 have hd2:=h0.hd'
 rw[hg] at hd2
 obtain ⟨r1,r2⟩:=jEz hd2 i (dRow o (ms i))
 rw[<-hg] at r1
 generalize hV:put4 w0 g (i*4) (dRow o (ms i))=V at *
 have hgq:=h.blocks.1 g hgv
 have hq1:=(r2.block q (Qx (jAv h.hq) hb.size) (fun e=>hgq (by injection e with e;exact e.symm))).trans h0.hq
 have hoV:Only (q :: dv.ownBlock.toList) w V:=by
  rw[hgv]
  refine jB8 (jBv (Only.refl _ _) hb) r2 (fun k e=>?_)
  injection e with e
  subst e
  exact .inl (by simp)
 have e2:jF3 (T.D.set i o) ms=(jF3 T.D ms).set i (dRow o (ms i)):=by
  have:=dRows_lay T.D ms i o (ms i) (Nat.le_of_lt hlt)
  rw[jM7 hlt] at this
  unfold layR at this
  rw[if_pos (by rw[jCx];exact hlt)] at this
  rw[<-this]
  congr 1
  funext j
  split
  ·rename_i e;rw[e]
  ·rfl
 have hall:Only (q :: dv.ownBlock.toList) w W/\W.heap[q]?=some (.cells (stA T dv fv ld' lf) 138 (0,0))/\W.ownsRow 0 187 4 dv (T.D.set i o).length (rwsC (jF3 (T.D.set i o) ms)):=by
  rw[e2,List.length_set,<-jCx T.D ms]
  rcases hW with rfl | ⟨rfl,rfl⟩
  ·refine ⟨hoV.trans ((jF8 _).mono (by intro k hk;simp at hk;simp[hk])),QJ _ _ 2 _ _ _ hq1,jA0 r1 fun k hk=>Qy _ _ _ _ (by rw[hgv] at hk;injection hk with hk;rw[<-hk];exact hgq)⟩
  ·exact ⟨hoV,hq1,r1⟩
 obtain ⟨hoW,k1,k2⟩:=hall
 have hsome:∀(j:Nat) e,(T.D.set i o)[j]?=some (some e)->∃e',T.D[j]?=some (some e'):=fun j e hj=>by
  rw[List.getElem?_set] at hj
  by_cases hij:i=j
  ·subst hij;exact ⟨d,hi⟩
  ·rw[if_neg hij] at hj;exact ⟨e,hj⟩
 have e1:setD T i o={ T with D:=T.D.set i o }:=by unfold setD;rw[jM7 hlt]
 rw[e1]
 refine ⟨hoW.mono (fun k hk=>fpD hk),fp q dv fv (T.D.set i o) ms,⟨dv,fv,ld',lf,ms,rfl,h.turnD (dv':=dv) (ld':=ld') (ms':=ms) (T.D.set i o) hoW k1 k2 (fun j hj=>?_) (by have:=h.ldl;simp;omega) (by simpa using h.dl) (fun j e hj=>?_) (fun j k e f hj hk=>?_)⟩,fun k hk=>.inl ?_⟩
 ·obtain ⟨e,he⟩:=h.hld j (by omega)
  rw[List.getElem?_set]
  by_cases hij:i=j
  ·subst hij
   rw[if_pos rfl,if_pos hlt]
   cases o with
   | none=>have:=hli rfl;omega
   | some o=>exact ⟨o,rfl⟩
  ·rw[if_neg hij];exact ⟨e,he⟩
 ·obtain ⟨e',h1⟩:=hsome j e hj
  exact .inl ⟨e',h1,rfl⟩
 ·obtain ⟨e',h1⟩:=hsome j e hj
  obtain ⟨f',h2⟩:=hsome k f hk
  exact h.hi j k e' f' h1 h2
 ·rcases jBx.1 hk with h1 | h1 | h1 | ⟨j,e,h1,h2⟩
  ·exact jBx.2 (.inl h1)
  ·exact jBx.2 (.inr (.inl h1))
  ·exact jBx.2 (.inr (.inr (.inl h1)))
  ·obtain ⟨e',h3⟩:=hsome j e h1
   exact jBx.2 (.inr (.inr (.inr ⟨j,e',h3,h2⟩)))
theorem lay_giveF {w W:World}{q:Nat}{dv fv fv':Value}{ld lf:Nat}{ms:Nat->Nat}{nn:Nat}{T:Ts}(h:Inn w q dv fv ld lf ms nn T)(hr:lowL T.F<T.fr)(o:Nat × ByteArray × Nat)(hC:Clm w W q ((stA T dv fv ld lf).setIfInBounds 5 (.int .i64 (lowL T.F:Int))) 4 fv 191 (layR (jD8 T.F) (lowL T.F) (fRow (some o))) fv') :
 Turn (fp q dv fv T.D ms) w W q nn (setF T (lowL T.F) (some o)):=by
 have hle:=jE5 T.F
 have hg:∀j:Nat,(layL T.F (lowL T.F) (some o))[j]?=if j=lowL T.F then some (some o) else T.F[j]?:=fun j=>jKq _ hle j
 have hR:=hC.hr
 rw[<-fRows_lay,jDv] at hR
 have hlen:=jE8 (l:=T.F) (x:=lowL T.F) (some o)
 refine ⟨hC.ho.mono (fun k hk=>fpF hk),_,⟨dv,fv',ld,lowL T.F,ms,rfl,h.turnF (lf':=lowL T.F) (layL T.F (lowL T.F) (some o)) hC.ho hC.hq hR (fun j hj=>?_) ?_ ?_⟩,fun k hk=>?_⟩
 ·rw[hg,if_neg (by omega)]
  exact jF9 T.F hj
 ·rw[hlen];split <;> omega
 ·rw[hlen];have:=h.fl;split <;> omega
 ·rcases jBx.1 hk with h1 | h1 | h1 | h1
  ·exact .inl (jBx.2 (.inl h1))
  ·exact .inl (jBx.2 (.inr (.inl h1)))
  ·rcases hC.hv k h1 with h2 | h2
   ·exact .inl (jBx.2 (.inr (.inr (.inl h2))))
   ·exact .inr h2
  ·exact .inl (jBx.2 (.inr (.inr (.inr h1))))
theorem lay_giveD {w0 w W:World}{q m:Nat}{dv dv' fv:Value}{ld lf:Nat}{ms:Nat->Nat}{nn:Nat}{T:Ts}(h0:Inn w0 q dv fv ld lf ms nn T)(hb:Below w0.heap.size w0 w)(hm0:w0.heap.size<=m)(hmm:w.ownsMap prog 9 jF2 m 0 (.map []))(hME:T.M (lowL T.D)=fun _=>none)(hr:lowL T.D<T.dr)(o:Nat × ByteArray)(hC:Clm w W q ((stA T dv fv ld lf).setIfInBounds 2 (.int .i64 (lowL T.D:Int))) 1 dv 187 (layR (jF3 T.D ms) (lowL T.D) (dRow (some o) m)) dv') :
 Turn (fp q dv fv T.D ms) w0 W q nn (setD T (lowL T.D) (some o)):=by
 have h:=h0.below hb
 have hle:=jE5 T.D
 have hfr:=jHv T.D
 have hg:∀j:Nat,(layL T.D (lowL T.D) (some o))[j]?=if j=lowL T.D then some (some o) else T.D[j]?:=fun j=>jKq _ hle j
 have hR:=hC.hr
 rw[<-dRows_lay T.D ms (lowL T.D) (some o) m hle,jCx] at hR
 have hlen:=jE8 (l:=T.D) (x:=lowL T.D) (some o)
 have hnew:∀(i:Nat) d,T.D[i]?=some (some d)->ms i≠m:=fun i d hd e=>by
  have:=h0.lt (jBx.2 (.inr (.inr (.inr ⟨i,d,hd,rfl⟩))))
  omega
 have hmW:W.heap[m]?=w.heap[m]?:=by
  obtain ⟨es,cl,h3⟩:=jDq hmm
  refine hC.ho.block m hmm.lt (fun e=>?_)
  simp only[List.mem_cons,Option.mem_toList] at e
  rcases e with e | e
  ·rw[e,h.hq] at h3;cases h3
  ·obtain ⟨c,hc⟩:=jA1 h.hd e
   rw[hc] at h3;cases h3
 refine ⟨(jBv (Only.refl _ _) hb).trans (hC.ho.mono (fun k hk=>fpD hk)),_,⟨dv',fv,lowL T.D,lf,fun i=>if i=lowL T.D then m else ms i,rfl,h.turnD (ld':=lowL T.D) (layL T.D (lowL T.D) (some o)) hC.ho hC.hq hR (fun j hj=>?_) ?_ ?_ (fun j d hj=>?_) (fun i j d e hi hj he=>?_)⟩,fun k hk=>?_⟩
 ·rw[hg,if_neg (by omega)]
  exact jF9 T.D hj
 ·rw[hlen];split <;> omega
 ·rw[hlen];have:=h.dl;split <;> omega
 ·rw[hg] at hj
  by_cases hjx:j=lowL T.D
  ·right
   rw[if_pos hjx]
   exact ⟨jC6 hmm hmW,by rw[hjx];exact hME⟩
  ·left
   rw[if_neg hjx] at hj ⊢
   exact ⟨d,hj,rfl⟩
 ·rw[hg] at hi hj
  by_cases hix:i=lowL T.D <;> by_cases hjx:j=lowL T.D
  ·rw[hix,hjx]
  ·rw[if_neg hjx] at hj
   simp only[if_pos hix,if_neg hjx] at he
   exact absurd he.symm (hnew j e hj)
  ·rw[if_neg hix] at hi
   simp only[if_neg hix,if_pos hjx] at he
   exact absurd he (hnew i d hi)
  ·rw[if_neg hix] at hi
   rw[if_neg hjx] at hj
   simp only[if_neg hix,if_neg hjx] at he
   exact h0.hi i j d e hi hj he
 ·rcases jBx.1 hk with h1 | h1 | h1 | ⟨j,d,h1,h2⟩
  ·exact .inl (jBx.2 (.inl h1))
  ·rcases hC.hv k h1 with h2 | h2
   ·exact .inl (jBx.2 (.inr (.inl h2)))
   ·exact .inr (Qk hb.size h2)
  ·exact .inl (jBx.2 (.inr (.inr (.inl h1))))
  ·have h1:(layL T.D (lowL T.D) (some o))[j]?=some (some d):=h1
   rw[hg] at h1
   by_cases hjx:j=lowL T.D
   ·rw[if_pos hjx] at h2
    exact .inr (by rw[h2];exact hm0)
   ·rw[if_neg hjx] at h1 h2
    exact .inl (jBx.2 (.inr (.inr (.inr ⟨j,d,h1,h2⟩))))
theorem lay_fullF {w W:World}{q:Nat}{dv fv:Value}{ld lf:Nat}{ms:Nat->Nat}{nn:Nat}{T:Ts}(h:Inn w q dv fv ld lf ms nn T)(ho:Only [q] w W)(hq:W.heap[q]?=some (.cells ((stA T dv fv ld lf).setIfInBounds 5 (.int .i64 (lowL T.F:Int))) 138 (0,0))):Turn (fp q dv fv T.D ms) w W q nn T:=by
 have ho':Only (q :: fv.ownBlock.toList) w W:=ho.mono (by intro k hk;simp at hk;simp[hk])
 refine ⟨ho'.mono (fun k hk=>fpF hk),_,⟨dv,fv,ld,lowL T.F,ms,rfl,h.turnF (lf':=lowL T.F) T.F ho' hq (jA0 h.hf fun g hg=>ho.block g (h.hf.lt g hg).2 (by simp;exact h.blocks.2.1 g hg)) (fun j hj=>jF9 T.F hj) (jE5 _) h.fl⟩,fun k hk=>.inl hk⟩
theorem lay_fullD {w W:World}{q:Nat}{dv fv:Value}{ld lf:Nat}{ms:Nat->Nat}{nn:Nat}{T:Ts}(h:Inn w q dv fv ld lf ms nn T)(ho:Only [q] w W)(hq:W.heap[q]?=some (.cells ((stA T dv fv ld lf).setIfInBounds 2 (.int .i64 (lowL T.D:Int))) 138 (0,0))):Turn (fp q dv fv T.D ms) w W q nn T:=by
 have ho':Only (q :: dv.ownBlock.toList) w W:=ho.mono (by intro k hk;simp at hk;simp[hk])
 refine ⟨ho'.mono (fun k hk=>fpD hk),_,⟨dv,fv,lowL T.D,lf,ms,rfl,h.turnD (ld':=lowL T.D) (ms':=ms) T.D ho' hq (jA0 h.hd fun g hg=>ho.block g (h.hd.lt g hg).2 (by simp;exact h.blocks.1 g hg)) (fun j hj=>jF9 T.D hj) (jE5 _) h.dl (fun j d hj=>.inl ⟨d,hj,rfl⟩) h.hi⟩,fun k hk=>.inl hk⟩
theorem freeF_any (w:World)(q:Nat)(F:List Nat)(nn:Nat)(T:Ts)(hL:Lay w q F nn T)(i:Nat)(o:Nat × ByteArray × Nat)(hi:T.F[i]?=some (some o)) :
 Calls prog 129 #[.pointer (some ⟨q,3,none⟩),.int .i64 (i:Int)] w fun e w'=>e=.returned (.tuple #[])/\Turn F w w' q nn (setF T i none):=by
 obtain ⟨dv,fv,ld,lf,ms,rfl,hI⟩:=hL
 obtain ⟨g,cap,hg⟩:=jC2 hI.hf' (i:=i) (r:=fRow (some o)) (by rw[jD5,hi];rfl)
 have c1:=hI.cells.2.2.2.2.1
 have hf:=hI.hf'
 rw[hg] at c1 hf
 have hlf:=hI.lfl
 rw[<-jDv] at hlf
 refine (free_f w q g cap lf (jD8 T.F) c1 hI.cells.2.2.2.2.2.1 (hI.frozen 5) (fun e=>hI.blocks.2.1 g (by rw[hg];rfl) e.symm) hf (Qk hI.lenF (by omega)) hlf i (by rw[jDv];exact jAy hi)).mono ?_
 rintro e w' ⟨rfl,w0,hb,hW⟩
 exact ⟨rfl,lay_freeF hI hg (jAy hi) hb hW⟩
theorem freeD_any (w:World)(q:Nat)(F:List Nat)(nn:Nat)(T:Ts)(hL:Lay w q F nn T)(i:Nat)(o:Nat × ByteArray)(hi:T.D[i]?=some (some o)) :
 Calls prog 133 #[.pointer (some ⟨q,0,none⟩),.int .i64 (i:Int)] w fun e w'=>e=.returned (.tuple #[])/\Turn F w w' q nn (setD T i none):=by
 obtain ⟨dv,fv,ld,lf,ms,rfl,hI⟩:=hL
 obtain ⟨g,cap,hg⟩:=jC2 hI.hd' (i:=i) (r:=dRow (some o) (ms i)) (by rw[jDx,hi];rfl)
 have c1:=hI.cells.2.1
 have hf:=hI.hd'
 rw[hg] at c1 hf
 have hlf:=hI.ldl
 rw[<-jCx T.D ms] at hlf
 refine (free_d w q g cap ld (jF3 T.D ms) c1 hI.cells.2.2.1 (hI.frozen 2) (fun e=>hI.blocks.1 g (by rw[hg];rfl) e.symm) hf (Qk hI.lenD (by omega)) hlf i (by rw[jCx];exact jAy hi)).mono ?_
 rintro e w' ⟨rfl,w0,hb,hW⟩
 exact ⟨rfl,lay_putD (ld':=min ld i) hI hg hi none hb (by omega) (fun _=>by omega) (.inl hW)⟩
theorem setF_any (w:World)(q:Nat)(F:List Nat)(nn:Nat)(T:Ts)(hL:Lay w q F nn T)(i:Nat)(hi:i<T.F.length)(p s:Nat)(n:ByteArray) :
 Calls prog 162 #[.pointer (some ⟨q,3,none⟩),.int .i64 (i:Int),.agg #[.int .i64 (p:Int),.string n,.int .i64 (s:Int)]] w fun e w'=>e=.returned (.tuple #[])/\Turn F w w' q nn (setF T i (some (p,n,s))):=by
 obtain ⟨dv,fv,ld,lf,ms,rfl,hI⟩:=hL
 have hir:i<(jD8 T.F).length:=by rw[jDv];exact hi
 obtain ⟨g,cap,hg⟩:=jC2 hI.hf' (i:=i) (Qv hir)
 have c1:=hI.cells.2.2.2.2.1
 have hf:=hI.hf'
 rw[hg] at c1 hf
 refine (set_f w q g cap (jD8 T.F) c1 hf (Qk hI.lenF (by omega)) i hir p n (s:Int)).mono ?_
 rintro e w' ⟨rfl,w0,hb,hW⟩
 exact ⟨rfl,lay_setF hI hg hi (p,n,s) hb hW⟩
theorem getF_any (w:World)(q:Nat)(F:List Nat)(nn:Nat)(T:Ts)(hL:Lay w q F nn T)(i p s:Nat)(n:ByteArray)(hi:T.F[i]?=some (some (p,n,s))) :
 Calls prog 124 #[.pointer (some ⟨q,3,none⟩),.int .i64 (i:Int)] w fun e w'=>e=.returned (.agg #[.int .i64 (p:Int),.string n,.int .i64 (s:Int)])/\Below w.heap.size w w':=by
 obtain ⟨dv,fv,ld,lf,ms,rfl,hI⟩:=hL
 exact get_f w q fv _ hI.cells.2.2.2.2.1 hI.hf' (Qk hI.lenF (by omega)) i (fRow (some (p,n,s))) (by rw[jD5,hi];rfl) (s:Int) rfl
theorem jJ2 (w:World)(q:Nat)(F:List Nat)(nn:Nat)(T:Ts)(hL:Lay w q F nn T)(k:Int)(i p s:Nat)(n:ByteArray)(hi:T.F[i]?=some (some (p,n,s))) :
 Calls prog 121 #[.pointer (some ⟨q,0,none⟩),.int .i64 k,.int .i64 (i:Int)] w fun e w'=>e=.returned (efV ⟨k,i,-1,0,0,e0,s⟩)/\Below w.heap.size w w':=by
 obtain ⟨dv,fv,ld,lf,ms,rfl,hI⟩:=hL
 exact effect_any w q dv fv ld lf ms nn T hI k i p s n hi
theorem giveF_any (w:World)(q:Nat)(F:List Nat)(nn:Nat)(T:Ts)(hL:Lay w q F nn T)(p:Nat)(n:ByteArray) :
 Calls prog 120 #[.pointer (some ⟨q,3,none⟩),.agg #[.int .i64 (p:Int),.string n,.int .i64 0]] w fun e w'=>e=.returned (.tuple #[.int .i64 (lowL T.F:Int),.bool (decide (lowL T.F<T.fr))])/\Turn F w w' q nn (if lowL T.F<T.fr then setF T (lowL T.F) (some (p,n,0)) else T):=by
 obtain ⟨dv,fv,ld,lf,ms,rfl,hI⟩:=hL
 have hlf:=hI.lfl
 rw[<-jDv] at hlf
 refine (give_f w q T.fr lf _ fv (jD8 T.F) hI.hq rfl rfl rfl hI.hf' hI.lenF hlf (fun i hi=>?_) (by have:=hI.lim;omega) p n 0).mono ?_
 ·obtain ⟨d,hd⟩:=hI.hlf i hi
  exact ⟨_,by rw[jD5,hd];rfl,rfl⟩
 ·rw[lowR_f]
  rintro e w' ⟨rfl,h | h⟩
  ·obtain ⟨hr,v',hC⟩:=h
   rw[if_pos hr]
   exact ⟨rfl,lay_giveF hI hr (p,n,0) hC⟩
  ·obtain ⟨hr,hq,ho⟩:=h
   rw[if_neg (by omega)]
   exact ⟨rfl,lay_fullF hI ho hq⟩
theorem giveD_any (w0 w:World)(q m:Nat)(F:List Nat)(nn:Nat)(T:Ts)(hL:Lay w0 q F nn T)(hb:Below w0.heap.size w0 w)(hm0:w0.heap.size<=m)(hmm:w.ownsMap prog 9 jF2 m 0 (.map []))(hME:T.M (lowL T.D)=fun _=>none)(p:Nat)(n:ByteArray) :
 Calls prog 117 #[.pointer (some ⟨q,0,none⟩),.agg #[.int .i64 (p:Int),.string n,.map (some m)]] w fun e w'=>e=.returned (.tuple #[.int .i64 (lowL T.D:Int),.bool (decide (lowL T.D<T.dr))])/\Turn F w0 w' q nn (if lowL T.D<T.dr then setD T (lowL T.D) (some (p,n)) else T):=by
 obtain ⟨dv,fv,ld,lf,ms,rfl,hI0⟩:=hL
 have hI:=hI0.below hb
 have hlf:=hI.ldl
 rw[<-jCx T.D ms] at hlf
 refine (give_d w q T.dr ld _ dv (jF3 T.D ms) hI.hq rfl rfl rfl hI.hd' (Qk hI.lenD (by omega)) hlf (fun i hi=>?_) (by have:=hI.lim;omega) p n (some m)).mono ?_
 ·obtain ⟨d,hd⟩:=hI.hld i hi
  exact ⟨_,by rw[jDx,hd];rfl,rfl⟩
 ·rw[lowR_d]
  rintro e w' ⟨rfl,h | h⟩
  ·obtain ⟨hr,v',hC⟩:=h
   rw[if_pos hr]
   exact ⟨rfl,lay_giveD hI0 hb hm0 hmm hME hr (p,n) hC⟩
  ·obtain ⟨hr,hq,ho⟩:=h
   rw[if_neg (by omega)]
   exact ⟨rfl,Turn.ahead hb (lay_fullD hI ho hq)⟩
theorem Turn.keep {F:List Nat}{w w':World}{q nn nn':Nat}{T T':Ts}(ht:Turn F w w' q nn' T')(h:Lay w q F nn T){k:Nat}{cur:Array Value}{e:TypeId}(hk:w.heap[k]?=some (.cells cur e (0,0)))(he:¬(e=138\/e=187\/e=191)):w'.heap[k]?=some (.cells cur e (0,0)) :=
 (ht.1.block k (jAv hk) (h.notin hk he)).trans hk
theorem Turn.up {F:List Nat}{w w':World}{q nn N:Nat}{T:Ts}(h:Turn F w w' q nn T)(hN:nn<=N):Turn F w w' q N T:=by
 obtain ⟨h1,F2,h2,h3⟩:=h
 exact ⟨h1,F2,h2.up hN,h3⟩
theorem Lay.turn0 {w W:World}{q:Nat}{F:List Nat}{nn:Nat}{T:Ts}(h:Lay W q F nn T)(hb:Below w.heap.size w W):Turn F w W q (nn+1) T:=⟨jBv (Only.refl _ _) hb,F,h.up (Nat.le_succ _),fun _ hk=>.inl hk⟩
theorem stat_any (w:World)(q:Nat)(F:List Nat)(nn:Nat)(T:Ts)(dp:Nat->Nat)(hL:Lay w q F nn T)(hv:Inv T dp)(P:List ByteArray)(sa:Option Addr)(n sc:Nat)(hs:Pa.See w (.slice sa n sc) P)(hnm:P.all Pa.nm=true)(hl:P.length<=16)(ok oa on:Int)(op ot od:ByteArray)(ta:Option Addr)(tn tc:Nat) :
 Calls prog 94 #[.pointer (some ⟨q,0,none⟩),.agg #[.int .i64 ok,.string op,.string ot,.int .i64 oa,.int .i64 on,.string od,.slice sa n sc,.slice ta tn tc]] w fun e w'=>Did F w w' q (nn+1) (staT T P) e:=by
 obtain ⟨W,hW,hb,kp,k0,k1⟩:=jC5 w #[.int .i64 ok,.string op,.string ot,.int .i64 oa,.int .i64 on,.string od,.slice sa n sc,.slice ta tn tc] R0 E0 101 66 68
 have hc:=jG3 W q F nn T dp (hL.below hb) hv _ P (hs.below hb) hnm hl
 have HX:Hid (∀w2,Below W.heap.size W w2->Below w.heap.size w w2/\w2.heap[w.heap.size]?=some (.cells #[.int .i64 ok,.string op,.string ot,.int .i64 oa,.int .i64 on,.string od,.slice sa n sc,.slice ta tn tc] 101 (0,0))/\w2.heap[w.heap.size+1]?=some (.cells R0 66 (0,0))/\w2.heap[w.heap.size+1+1]?=some (.cells E0 68 (0,0))):=fun w2 h2=>⟨hb.trans (h2.mono hb.size),(h2.block _ (jAv kp)).trans kp,(h2.block _ (jAv k0)).trans k0,(h2.block _ (jAv k1)).trans k1⟩
 obtain ⟨p0,p1,p2,p3,p4,p5,p6,p7⟩:=jC8 kp
 have HLay:Hid (∀W',Below w.heap.size w W'->Lay W' q F nn T):=fun W' hb=>hL.below hb
 have HV:Hid (Inv T dp):=hv
 have HG:Hid ((fndS T P).2=0->fndS T P=fndA T P/\(fndA T P).2=0/\Got T dp P (fndS T P).1):=fun h=>by
  have h1:=jF0 h
  exact ⟨h1.1,h1.2.1,by rw[h1.1];exact got hv hnm h1.2.1⟩
 have HK:Hid ((fndS T P).2=0->(fun k=>k≠0) (fndS T P).1.kd):=fun h=>by
  have h1:=jF0 h
  rw[h1.1]
  exact h1.2.2
 have HA:Hid (staT T P=if (fndS T P).2≠0 then ref T (fndS T P).2 else if (fndS T P).1.kd=1 then (⟨0,0,[],1,0⟩,Ef.no,T) else (⟨0,0,[],2,szF T (fndS T P).1.no⟩,Ef.no,T)):=rfl
 generalize fndS T P=r at *
 generalize staT T P=A at *
 obtain ⟨⟨par,nm,kd,no⟩,e⟩:=r
 unfold spV spA at hc
 unfold R0 E0 at hW
 clear hL hv hs hb kp k0 k1
 go_enter func94,ntmps94
 go_wp2_with fail
 refine hc.mono ?_
 rintro e w2 ⟨rfl,hb2⟩
 obtain ⟨hbw,qp,q0,q1⟩:=HX.out w2 hb2
 obtain ⟨W3,hW3,hb3,k3⟩:=jA4 w2 #[.int .i64 (par:Int),.string nm,.int .i64 (kd:Int),.int .i64 (no:Int)] 210
 have HB3:Hid (Below w.heap.size w W3):=hbw.trans (hb3.mono hbw.size)
 have s0:W3.cell? ⟨w2.heap.size,0,none⟩=some (.int .i64 (par:Int)):=(jAj k3).trans rfl
 have s1:W3.cell? ⟨w2.heap.size,1,none⟩=some (.string nm):=(jAj k3).trans rfl
 have s2:W3.cell? ⟨w2.heap.size,2,none⟩=some (.int .i64 (kd:Int)):=(jAj k3).trans rfl
 have s3:W3.cell? ⟨w2.heap.size,3,none⟩=some (.int .i64 (no:Int)):=(jAj k3).trans rfl
 have hn2:w.heap.size+1+1<w2.heap.size:=jAv q1
 have hne1:¬w2.heap.size=w.heap.size+1:=by omega
 have hne2:¬w2.heap.size=w.heap.size+1+1:=by omega
 have hne3:¬w.heap.size+1=w2.heap.size:=by omega
 have hne4:¬w.heap.size+1+1=w2.heap.size:=by omega
 clear hn2
 have HS3:Hid _:=k3
 have HP3:Hid _:=(hb3.block _ (jAv qp)).trans qp
 have HQ3:Hid _:=(hb3.block _ (jAv q0)).trans q0
 have HE3:Hid _:=(hb3.block _ (jAv q1)).trans q1
 clear hb2 hbw qp q0 q1 hb3 k3 HX hc
 by_cases he:e=0
 ·subst he
  by_cases hk:kd=1
  ·have HA2:Hid (A=(⟨0,0,[],1,0⟩,Ef.no,T)):=HA.out.trans ((if_neg (by simp)).trans (if_pos hk))
   obtain rfl:kd=1:=hk
   have hW3b:w2.alloc (.cells #[.int .i64 (par:Int),.string nm,.int .i64 1,.int .i64 (no:Int)] 210)=W3:=hW3
   have s2b:W3.cell? ⟨w2.heap.size,2,none⟩=some (.int .i64 1):=s2
   clear hW3 s2
   go_wp2_with fail
   refine (jFy W3 0 0 1 0 none 0 0).mono ?_
   rintro e w4 ⟨rfl,hb4⟩
   have HBw4:Hid (Below w.heap.size w w4):=HB3.out.trans (hb4.mono HB3.out.size)
   have HQw4:Hid _:=(hb4.block _ (jAv HQ3.out)).trans HQ3.out
   have HEw4:Hid _:=(hb4.block _ (jAv HE3.out)).trans HE3.out
   have HPw4:Hid _:=(hb4.block _ (jAv HP3.out)).trans HP3.out
   have HSw4:Hid _:=(hb4.block _ (jAv HS3.out)).trans HS3.out
   clear hb4
   obtain ⟨a0,a1,a2,a3,a4,a5⟩:=jB4 HQw4.out
   obtain ⟨b0,b1,b2,b3,b4,b5,b6⟩:=jCq HEw4.out
   have fz0:∀j,w4.frozen? ⟨w.heap.size+1,j,none⟩=false:=fun j=>jAq HQw4.out
   have fz1:∀j,w4.frozen? ⟨w.heap.size+1+1,j,none⟩=false:=fun j=>jAq HEw4.out
   (try unfold rsV)
   (try unfold Rs.no)
   (try unfold efV)
   (try unfold Ef.no)
   go_wp2_with fail
   refine Qw (jAz rfl _ _ (w.heap.size+1) 66 _ (0,0) _ (w.heap.size+1+1) 68 _ (0,0) _ rfl (putRE HQw4.out HEw4.out (by omega)).1 underlying66 rfl jB7 rfl (putRE HQw4.out HEw4.out (by omega)).2 underlying68 rfl jB5) rfl ?_
   rw[HA2.out]
   exact ⟨_,rfl,Pa.Own.nil _ _,(HLay.out _ (jA3 HBw4.out (by omega) (by omega))).turn0 (jA3 HBw4.out (by omega) (by omega))⟩
  ·have HA2:Hid (A=(⟨0,0,[],2,szF T no⟩,Ef.no,T)):=HA.out.trans ((if_neg (by simp)).trans (if_neg hk))
   have hfile:∃(n':ByteArray) (s:Nat),T.F[no]?=some (some (par,n',s))/\kd=2:=by
    obtain ⟨g1,g2,g3⟩:=HG.out rfl
    have hk1:=HK.out rfl
    have hP0:P≠[]:=fun e=>hk (by have:=g3.rt e;injection this)
    have sp:=g3.sp hP0
    have hk2:kd=2:=by
     rcases sp.kd HV.out with h | h | h
     ·exact absurd h hk1
     ·exact absurd h hk
     ·exact h
    have hm2:T.M par (ky nm)=some (2,no):=by rw[<-hk2];exact sp.there (by show kd≠0;omega)
    obtain ⟨n',s,h1,_⟩:=HV.out.fileF hm2
    exact ⟨n',s,h1,hk2⟩
   obtain ⟨n',s,hF,hk⟩:=hfile
   have hsz:szF T no=s:=by unfold szF;rw[hF]
   rw[hsz] at HA2
   obtain ⟨dv,fv,ld,lf,ms,-,hI⟩:=HLay.out W3 HB3.out
   have hI:=hI.below (Qq W3.heap.size W3).drew
   have hg:=get_f W3.drew q fv _ hI.cells.2.2.2.2.1 hI.hf' (Qk hI.lenF (by omega)) no (fRow (some (par,n',s))) (by rw[jD5,hF];rfl) (s:Int) rfl
   unfold fRow at hg
   have HFL:Hid _:=fun w=>fldF w (.int .i64 (par:Int)) (.string n') (.int .i64 (s:Int))
   have HQU:Hid _:=fun w4=>jFy w4 0 0 2 s none 0 0
   have HX5:Hid (∀w5,Below W3.heap.size W3 w5->Below w.heap.size w w5/\Hid (w5.heap[w.heap.size+1]?=some (.cells R0 66 (0,0)))/\Hid (w5.heap[w.heap.size+1+1]?=some (.cells E0 68 (0,0)))):=fun w5 h5=>⟨HB3.out.trans (h5.mono HB3.out.size),(h5.block _ (jAv HQ3.out)).trans HQ3.out,(h5.block _ (jAv HE3.out)).trans HE3.out⟩
   clear hI hF hsz
   obtain rfl:kd=2:=hk
   have hW3b:w2.alloc (.cells #[.int .i64 (par:Int),.string nm,.int .i64 2,.int .i64 (no:Int)] 210)=W3:=hW3
   have s2b:W3.cell? ⟨w2.heap.size,2,none⟩=some (.int .i64 2):=s2
   clear hW3 s2
   go_wp2_with fail
   go_region_with (first
    | (go_at_call 119;refine (HQU.out _).mono ?_;rintro e w5 ⟨rfl,hb5⟩;obtain ⟨HBw5',HQw5,HEw5⟩:=HX5.out w5 (HB4.out.trans (hb5.mono HB4.out.size));have HBw5:Hid _:=HBw5';obtain ⟨a0,a1,a2,a3,a4,a5⟩:=jB4 HQw5.out;obtain ⟨b0,b1,b2,b3,b4,b5,b6⟩:=jCq HEw5.out;have fz0:∀j,w5.frozen? ⟨w.heap.size+1,j,none⟩=false:=fun j=>jAq HQw5.out;have fz1:∀j,w5.frozen? ⟨w.heap.size+1+1,j,none⟩=false:=fun j=>jAq HEw5.out;clear HBw5' hb5;unfold efV;unfold Ef.no)
    | (go_at_call 124;refine hg.mono ?_;rintro e w4 ⟨rfl,hb4⟩;have hfl:=HFL.out w4;have HB4:Hid (Below W3.heap.size W3 w4):=((Qq W3.heap.size W3).drew).trans hb4;clear hb4))
   all_goals
    go_wp2_with fail
    refine Qw (jAz rfl _ _ (w.heap.size+1) 66 _ (0,0) _ (w.heap.size+1+1) 68 _ (0,0) _ rfl (putRE HQw5.out HEw5.out (by omega)).1 underlying66 rfl jB7 rfl (putRE HQw5.out HEw5.out (by omega)).2 underlying68 rfl jB5) rfl ?_
    rw[HA2.out]
    exact ⟨_,rfl,Pa.Own.nil _ _,(HLay.out _ (jA3 HBw5.out (by omega) (by omega))).turn0 (jA3 HBw5.out (by omega) (by omega))⟩
 ·have HA2:Hid (A=ref T e):=HA.out.trans (if_pos he)
  go_wp2_with fail
  refine (jB2 W3 e).mono ?_
  rintro e w4 ⟨rfl,hb4⟩
  have HBw4:Hid (Below w.heap.size w w4):=HB3.out.trans (hb4.mono HB3.out.size)
  have HQw4:Hid _:=(hb4.block _ (jAv HQ3.out)).trans HQ3.out
  have HEw4:Hid _:=(hb4.block _ (jAv HE3.out)).trans HE3.out
  have HPw4:Hid _:=(hb4.block _ (jAv HP3.out)).trans HP3.out
  have HSw4:Hid _:=(hb4.block _ (jAv HS3.out)).trans HS3.out
  clear hb4
  obtain ⟨a0,a1,a2,a3,a4,a5⟩:=jB4 HQw4.out
  obtain ⟨b0,b1,b2,b3,b4,b5,b6⟩:=jCq HEw4.out
  have fz0:∀j,w4.frozen? ⟨w.heap.size+1,j,none⟩=false:=fun j=>jAq HQw4.out
  have fz1:∀j,w4.frozen? ⟨w.heap.size+1+1,j,none⟩=false:=fun j=>jAq HEw4.out
  (try unfold rsV)
  (try unfold Rs.no)
  (try unfold efV)
  (try unfold Ef.no)
  go_wp2_with fail
  refine Qw (jAz rfl _ _ (w.heap.size+1) 66 _ (0,0) _ (w.heap.size+1+1) 68 _ (0,0) _ rfl (putRE HQw4.out HEw4.out (by omega)).1 underlying66 rfl jB7 rfl (putRE HQw4.out HEw4.out (by omega)).2 underlying68 rfl jB5) rfl ?_
  rw[HA2.out]
  exact ⟨_,rfl,Pa.Own.nil _ _,(HLay.out _ (jA3 HBw4.out (by omega) (by omega))).turn0 (jA3 HBw4.out (by omega) (by omega))⟩
