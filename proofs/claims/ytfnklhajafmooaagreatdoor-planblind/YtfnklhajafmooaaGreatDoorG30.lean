import Derived.Test.YtfnklhajafmooaaGreatDoorG29
set_option maxHeartbeats 2000000
set_option maxRecDepth 20000
namespace Go.Proofs.YtfnklhajafmooaaGreatDoor.Po
open Go.RowKit Go.Lib Go.Deep Go.Proofs.Tryz
theorem jE4 (r:Ob × Bool):(rwC r).length=5:=rfl
theorem Inn.row {w:World}{q g cap:Nat}{mv:Value}{oa na:Nat}{room:List Nat}{h nn:Nat}{S:Ps}(hI:Inn w q (.slice (some ⟨g,0,none⟩) S.R.length cap) mv oa na room h nn S){i:Nat}{o:Ob}(hi:S.R[i]?=some o) :
 w.cell? ⟨g,i*5,none⟩=some (.string o.nm)/\w.cell? ⟨g,i*5+1,none⟩=some (.string o.tg)/\w.cell? ⟨g,i*5+2,none⟩=some (.int .i64 o.bk)/\w.cell? ⟨g,i*5+3,none⟩=some (.int .i64 o.ow)/\w.cell? ⟨g,i*5+4,none⟩=some (.bool (decide (i∈S.Q))):=by
 have hl:=jAy hi
 have hg:(jFz S)[i]?=some (o,decide (i∈S.Q)):=by rw[jEj,hi];rfl
 have hc:=fun j (hj:j<5)=>(hI.hr.cellAt (i*5+j) (by omega)).trans (jDz rwC 5 jE4 (jFz S) i _ hg j hj)
 exact ⟨hc 0 (by omega),hc 1 (by omega),hc 2 (by omega),hc 3 (by omega),hc 4 (by omega)⟩
theorem Inn.form {w:World}{q:Nat}{rv mv:Value}{oa na:Nat}{room:List Nat}{h nn:Nat}{S:Ps}(hI:Inn w q rv mv oa na room h nn S){i:Nat}{o:Ob}(hi:S.R[i]?=some o):∃g cap,rv=.slice (some ⟨g,0,none⟩) S.R.length cap:=jHq hI.hr (by have:=jAy hi;omega)
theorem Inn.to {w w':World}{q:Nat}{rv mv mv':Value}{oa na:Nat}{room room':List Nat}{h h' nn:Nat}{S:Ps}(hI:Inn w q rv mv oa na room h nn S)(S':Ps)(e1:S'.fl=S.fl)(e2:S'.R=S.R)
 (hq:w'.heap[q]?=some (.cells (rngA (stA S rv oa na mv h) mv' h' S'.Q.length) 118 (0,0))) (hr:w'.ownsRow 0 166 5 rv S.R.length (rwsC (jFz S'))) (hm:w'.ownsRow 0 3 1 mv' room'.length (nsC room'))
 (ho:Only (q :: (rv.ownBlock.toList++mv.ownBlock.toList)) w w') (hb:∀k,mv'.ownBlock=some k->mv.ownBlock=some k\/w.heap.size<=k) (hrg:Rng room' h' S'.Q) (hml:room'.length<=2*S.R.length+1):Turn (fp q rv mv oa na) w w' q nn S':=by
 have hqo:=hI.qo
 have hin:∀k,k∈q :: (rv.ownBlock.toList++mv.ownBlock.toList)->k=q\/rv.ownBlock=some k\/mv.ownBlock=some k:=fun k hk=>by
  simp only[List.mem_cons,List.mem_append,Option.mem_toList] at hk
  exact hk
 have hmap:∀k,(k=oa\/k=na)->w'.heap[k]?=w.heap[k]?:=fun k hk=>by
  refine ho.block k ?_ (fun hx=>?_)
  ·rcases hk with rfl | rfl
   ·exact hI.lt (jBx.2 (.inr (.inl rfl)))
   ·exact hI.lt (jBx.2 (.inr (.inr (.inl rfl))))
  ·rcases hin k hx with rfl | hx | hx
   ·rcases hk with h1 | h1
    ·exact hqo.1 h1.symm
    ·exact hqo.2.1 h1.symm
   ·rcases hk with rfl | rfl
    ·exact (hI.qr hx).2.1 rfl
    ·exact (hI.qr hx).2.2.1 rfl
   ·rcases hk with rfl | rfl
    ·exact (hI.qm hx).2.1 rfl
    ·exact (hI.qm hx).2.2.1 rfl
 refine ⟨ho.mono fun k hk=>?_,_,⟨rv,mv',oa,na,room',h',rfl,?_,?_,hm,?_,?_,hI.ne,hrg,?_,?_⟩,fun k hk=>?_⟩
 ·rcases hin k hk with h1 | h1 | h1
  ·exact jBx.2 (.inl h1)
  ·exact jBx.2 (.inr (.inr (.inr (.inl h1))))
  ·exact jBx.2 (.inr (.inr (.inr (.inr h1))))
 ·rw[hq]
  unfold stA
  rw[e1]
  rfl
 ·rw[e2];exact hr
 ·obtain ⟨D,f,h1,h2,h3⟩:=hI.ho
  rw[e2]
  exact ⟨D,f,jC6 h1 (hmap _ (.inl rfl)),h2,h3⟩
 ·obtain ⟨D,f,h1,h2,h3⟩:=hI.hn
  rw[e2]
  exact ⟨D,f,jC6 h1 (hmap _ (.inr rfl)),h2,h3⟩
 ·rw[e2];exact hml
 ·rw[e1,e2];exact hI.lim
 ·rcases jBx.1 hk with h1 | h1 | h1 | h1 | h1
  ·exact .inl (jBx.2 (.inl h1))
  ·exact .inl (jBx.2 (.inr (.inl h1)))
  ·exact .inl (jBx.2 (.inr (.inr (.inl h1))))
  ·exact .inl (jBx.2 (.inr (.inr (.inr (.inl h1)))))
  ·rcases hb k h1 with h2 | h2
   ·exact .inl (jBx.2 (.inr (.inr (.inr (.inr h2)))))
   ·exact .inr h2
theorem Inn.rin {w:World}{q:Nat}{rv mv:Value}{oa na:Nat}{room:List Nat}{h nn:Nat}{S:Ps}(hI:Inn w q rv mv oa na room h nn S):Rin w q (stA S rv oa na mv h) mv room h S.Q:=⟨hI.hq,rfl,rfl,rfl,rfl,hI.hm⟩
theorem Inn.rl {w:World}{q:Nat}{rv mv:Value}{oa na:Nat}{room:List Nat}{h nn:Nat}{S:Ps}(hI:Inn w q rv mv oa na room h nn S):room.length<=200000:=by have:=hI.ml;have:=hI.lim;omega
theorem dec_snoc (Q:List Nat)(i:Nat)(j:Nat):decide (j∈Q++[i])=if j=i then true else decide (j∈Q):=by
 by_cases e:j=i
 ·simp[e]
 ·simp[e]
theorem flag_laid {g cap:Nat}{S:Ps}{i:Nat}{o:Ob}(hi:S.R[i]?=some o)(b:Bool){W:World}(hW:W.ownsRow 0 166 5 (.slice (some ⟨g,0,none⟩) S.R.length cap) S.R.length (rwsC (jFz S))) :
 (W.setCell ⟨g,i*5+4,none⟩ (.bool b)).ownsRow 0 166 5 (.slice (some ⟨g,0,none⟩) S.R.length cap) S.R.length (rwsC ((jFz S).set i (o,b)))/\W.grownBy (W.setCell ⟨g,i*5+4,none⟩ (.bool b)) (some g):=by
 have hg:(jFz S)[i]?=some (o,decide (i∈S.Q)):=by rw[jEj,hi];rfl
 have h1:=hW.stored (i*5+4) (.bool b)
 have e:=jE0 rwC 5 jE4 (jFz S) i _ (o,b) hg 4 (.bool b) (by omega) rfl
 unfold rwsC at h1
 rw[e] at h1
 exact h1
theorem jN1 (w:World)(q:Nat)(F:List Nat)(nn:Nat)(S:Ps)(i:Nat)(o:Ob)(hL:Lay w q F nn S)(hi:S.R[i]?=some o)(hql:S.Q.length<=S.R.length) :
 Calls prog 45 #[.pointer (some ⟨q,0,none⟩),.int .i64 (i:Int)] w fun e w'=>e=.returned (.tuple #[])/\Turn F w w' q nn (jL6 S i):=by
 obtain ⟨rv,mv,oa,na,room,h,rfl,hI⟩:=hL
 obtain ⟨g,cap,rfl⟩:=hI.form hi
 obtain ⟨hgq,hgo,hgn,hgm⟩:=hI.qr (g:=g) rfl
 have hfl:=flag_laid hi true hI.hr
 have hR1:Rin (w.setCell ⟨g,i*5+4,none⟩ (.bool true)) q (stA S (.slice (some ⟨g,0,none⟩) S.R.length cap) oa na mv h) mv room h S.Q:=by
  have hx:=hI.rin
  refine ⟨(Qy _ _ _ _ (fun e=>hgq e.symm)).trans hx.hq,hx.sz,hx.c4,hx.c5,hx.c6,jA0 hx.hm fun k hk=>Qy _ _ _ _ (fun e=>hgm ?_)⟩
  have e:k=g:=e
  rw[<-e];exact hk
 have hru:=rpush_any _ q h i _ mv room S.Q hR1 hI.rg hI.rl
 have HE:Hid (∀w' mv' room' h',Rto (w.setCell ⟨g,i*5+4,none⟩ (.bool true)) w' q (stA S (.slice (some ⟨g,0,none⟩) S.R.length cap) oa na mv h) mv' room' h' (S.Q++[i]) mv->Rng room' h' (S.Q++[i])->room'.length<=max room.length (2*S.Q.length+1)->Turn (fp q (.slice (some ⟨g,0,none⟩) S.R.length cap) mv oa na) w w' q nn (jL6 S i)):=fun w' mv' room' h' hT hr' hl'=>by
  refine hI.to (jL6 S i) rfl rfl hT.hq ?_ hT.hm ?_ (fun k hk=>?_) hr' (by have:=hI.ml;omega)
  ·have hx:=hfl.1
   rw[<-rowsL_q S (S.Q++[i]) i true (dec_snoc S.Q i) hi] at hx
   refine jA0 hx fun k hk=>hT.ho.block k ?_ (fun hm=>?_)
   ·exact (hx.lt k hk).2
   ·simp[Value.ownBlock] at hk
    subst hk
    simp only[List.mem_cons,Option.mem_toList] at hm
    rcases hm with h1 | h1
    ·exact hgq h1
    ·exact hgm h1
  ·refine Only.trans (b:=w.setCell ⟨g,i*5+4,none⟩ (.bool true)) (jB8 (Only.refl _ _) hfl.2 fun k hk=>.inl ?_) (hT.ho.mono fun k hk=>?_)
   ·injection hk with hk
    subst hk
    simp[Value.ownBlock]
   ·simp only[List.mem_cons,List.mem_append,Option.mem_toList] at hk ⊢
    rcases hk with h1 | h1
    ·exact .inl h1
    ·exact .inr (.inr h1)
  ·rcases hT.hb k hk with h1 | h1
   ·exact .inl h1
   ·right
    have:=hfl.2.size
    simp at h1
    omega
 obtain ⟨-,c1,-⟩:=hI.cells
 obtain ⟨-,-,-,-,r4⟩:=hI.row hi
 have f4:=hI.hr.frozenAt (i*5+4)
 have hlt:(i:Int)<(S.R.length:Int):=by have:=jAy hi;omega
 generalize hN:S.R.length=N at *
 generalize fp q (.slice (some ⟨g,0,none⟩) N cap) mv oa na=F at *
 clear hI hfl hR1 hgo hgn hgm
 go_enter func45,ntmps45
 go_wp2_with fail
 refine hru.mono ?_
 rintro e w' ⟨rfl,mv',room',h',hT,hr',hl'⟩
 have HT:Hid _:=HE.out w' mv' room' h' hT hr' hl'
 clear hT hr' hl'
 go_wp2
 go_end0
 exact ⟨rfl,HT.out⟩
theorem dec_tail {Q:List Nat}{a:Nat}(hn:(a :: Q).Nodup)(j:Nat):decide (j∈Q)=if j=a then false else decide (j∈a :: Q):=by
 by_cases e:j=a
 ·subst e
  simp[(List.nodup_cons.1 hn).1]
 ·simp[e]
theorem spop0_any (w:World)(q:Nat)(F:List Nat)(nn:Nat)(S:Ps)(hL:Lay w q F nn S)(hq:S.Q=[]) :
 Calls prog 198 #[.pointer (some ⟨q,0,none⟩)] w fun e w'=>e=.returned (.tuple #[.int .i64 0,.bool false])/\w'=w:=by
 obtain ⟨rv,mv,oa,na,room,h,rfl,hI⟩:=hL
 have hR:=hI.rin
 rw[hq] at hR
 have hru:=rpop0_any w q h _ mv room hR
 clear hI hR hq
 go_enter func198,ntmps198
 go_wp2_with (go_at_call 214;refine hru.mono ?_;rintro e w' ⟨rfl,rfl⟩)
 go_ret2
 exact ⟨rfl,rfl⟩
theorem spop_any (w:World)(q:Nat)(F:List Nat)(nn:Nat)(S:Ps)(a:Nat)(Q:List Nat)(o:Ob)(hL:Lay w q F nn S)(hq:S.Q=a :: Q)(hn:S.Q.Nodup)(hi:S.R[a]?=some o) :
 Calls prog 198 #[.pointer (some ⟨q,0,none⟩)] w fun e w'=>e=.returned (.tuple #[.int .i64 (a:Int),.bool true])/\Turn F w w' q nn (popS S):=by
 obtain ⟨rv,mv,oa,na,room,h,rfl,hI⟩:=hL
 obtain ⟨g,cap,rfl⟩:=hI.form hi
 obtain ⟨hgq,hgo,hgn,hgm⟩:=hI.qr (g:=g) rfl
 have hR:=hI.rin
 have hrg:=hI.rg
 rw[hq] at hR hrg
 have hru:=rpop_any w q h a _ mv room Q hR hrg hI.rl
 have hlt:(a:Int)<(S.R.length:Int):=by have:=jAy hi;omega
 have HX:Hid (∀w1,Rto w w1 q (stA S (.slice (some ⟨g,0,none⟩) S.R.length cap) oa na mv h) mv room ((h+1) % room.length) Q mv->w1.cell? ⟨q,1,none⟩=some (.slice (some ⟨g,0,none⟩) S.R.length cap)/\(∃b,w1.cell? ⟨g,a*5+4,none⟩=some (.bool b))/\w1.frozen? ⟨g,a*5+4,none⟩=false/\Turn (fp q (.slice (some ⟨g,0,none⟩) S.R.length cap) mv oa na) w (w1.setCell ⟨g,a*5+4,none⟩ (.bool false)) q nn (popS S)):=fun w1 hT=>by
  have hr1:w1.ownsRow 0 166 5 (.slice (some ⟨g,0,none⟩) S.R.length cap) S.R.length (rwsC (jFz S)):=jA0 hI.hr fun k hk=>hT.ho.block k (hI.hr.lt k hk).2 (fun hm=>by
   simp[Value.ownBlock] at hk
   subst hk
   simp only[List.mem_cons,Option.mem_toList] at hm
   rcases hm with h1 | h1
   ·exact hgq h1
   ·exact hgm h1)
  have hfl:=flag_laid hi false hr1
  have hg:(jFz S)[a]?=some (o,decide (a∈S.Q)):=by rw[jEj,hi];rfl
  refine ⟨(jAj hT.hq).trans rfl,⟨_,(hr1.cellAt (a*5+4) (by have:=jAy hi;omega)).trans (jDz rwC 5 jE4 (jFz S) a _ hg 4 (by omega))⟩,hr1.frozenAt _,?_⟩
  have e3:(popS S).Q=Q:=by unfold popS;rw[hq];rfl
  refine hI.to (mv':=mv) (room':=room) (h':=(h+1) % room.length) (popS S) rfl rfl ?_ ?_ ?_ ?_ (fun k hk=>.inl hk) ?_ hI.ml
  ·rw[e3]
   exact (Qy _ _ _ _ (fun e=>hgq e.symm)).trans hT.hq
  ·have hx:=hfl.1
   have e4:popS S=⟨S.fl,S.R,Q⟩:=by unfold popS;rw[hq];rfl
   rw[e4,rowsL_q S Q a false (fun j=>by rw[hq];exact dec_tail (hq▸hn) j) hi]
   exact hx
  ·refine jA0 hT.hm fun k hk=>Qy _ _ _ _ (fun e=>?_)
   have e:k=g:=e
   rcases hT.hb k hk with h1 | h1
   ·exact hgm (e▸h1)
   ·have:=(hI.hr.lt g rfl).2
    omega
  ·refine jB8 (hT.ho.mono fun k hk=>?_) hfl.2 fun k hk=>.inl ?_
   ·simp only[List.mem_cons,List.mem_append,Option.mem_toList] at hk ⊢
    rcases hk with h1 | h1
    ·exact .inl h1
    ·exact .inr (.inr h1)
   ·injection hk with hk
    subst hk
    simp[Value.ownBlock]
  ·rw[e3]
   exact hrg.pop.2.2
 generalize hN:S.R.length=N at *
 generalize fp q (.slice (some ⟨g,0,none⟩) N cap) mv oa na=F at *
 clear hI hR hrg hgo hgn hgm hq
 go_enter func198,ntmps198
 go_wp2_with fail
 refine hru.mono ?_
 rintro e w1 ⟨rfl,hT⟩
 obtain ⟨x1,⟨b,x4⟩,xf,hTT⟩:=HX.out w1 hT
 have HT:Hid _:=hTT
 clear hT hTT HX hru
 go_wp2
 go_ret2
 exact ⟨rfl,HT.out⟩
theorem moveI_any (w:World)(m nn:Nat)(D:DataW Unit)(f:Int->Option Nat)(hm:w.ownsMap prog 3 intR m nn D)(hT:Tab litI D f)(was next:Int)(i:Nat)(h1:(Lit.int .i64 was).wf=true)(h2:(Lit.int .i64 next).wf=true)(h3:(Lit.int .i64 (i:Int)).wf=true)(hnn:nn<maxLen) :
 Calls prog 183 #[.map (some m),.int .i64 was,.int .i64 next,.int .i64 (-1),.int .i64 (i:Int)] w fun e w'=>e=.returned (.tuple #[])/\∃D',w'.ownsMap prog 3 intR m (nn+1) D'/\Tab litI D' (fun k=>if k=next/\next≠-1 then some i else if k=was then none else f k)/\w.grownBy w' (some m):=by
 obtain ⟨w1,hr1,hm1,hg1'⟩:=hm.drop (t:=113) keyI underlying113 (keyI_mk h1) 0
 have hg1:=hg1'.grown
 have hT1:=hT.del litI_inj was
 obtain ⟨w2,hr2,hm2,hg2⟩:=World.ownsMap.update (w:=w1) (t:=113) hm1 keyI underlying113 hnn (keyI_mk h2) (plainElem_int underlying3 h3)
 have hT2:=hT1.put litI_inj litI_key next i
 by_cases e:next=-1
 ·have HE:Hid (∃D',w1.ownsMap prog 3 intR m (nn+1) D'/\Tab litI D' (fun k=>if k=next/\next≠-1 then some i else if k=was then none else f k)/\w.grownBy w1 (some m)):=by
   refine ⟨_,hm1.mono (Nat.le_succ _),?_,hg1⟩
   have:(fun k=>if k=next/\next≠-1 then some i else if k=was then none else f k)=fun k=>if k=was then none else f k:=by
    funext k
    rw[if_neg (fun x=>x.2 e)]
   rw[this]
   exact hT1
  subst e
  clear hm hT hm1 hg1' hg1 hT1 hr2 hm2 hg2 hT2
  go_enter func183,ntmps183
  go_wp2
  go_end0
  exact ⟨rfl,HE.out⟩
 ·have HE:Hid (∃D',w2.ownsMap prog 3 intR m (nn+1) D'/\Tab litI D' (fun k=>if k=next/\next≠-1 then some i else if k=was then none else f k)/\w.grownBy w2 (some m)):=by
   refine ⟨_,hm2,?_,hg1.trans hg2⟩
   have:(fun k=>if k=next/\next≠-1 then some i else if k=was then none else f k)=fun k=>if k=next then some i else if k=was then none else f k:=by
    funext k
    simp[e]
   rw[this]
   exact hT2
  have e1:(next != -1)=true:=bne_iff_ne.2 e
  clear hm hT hm1 hg1' hg1 hT1 hm2 hg2 hT2
  go_enter func183,ntmps183
  go_wp2
  go_end0
  exact ⟨rfl,HE.out⟩
theorem moveS_any (w:World)(m nn:Nat)(D:DataW Unit)(f:List UInt8->Option Nat)(hm:w.ownsMap prog 9 intR m nn D)(hT:Tab litS D f)(was next:ByteArray)(i:Nat)(h1:was.size<=maxLen)(h2:next.size<=maxLen)(h3:(Lit.int .i64 (i:Int)).wf=true)(hnn:nn<maxLen) :
 Calls prog 184 #[.map (some m),.string was,.string next,.string { data:=#[] },.int .i64 (i:Int)] w fun e w'=>e=.returned (.tuple #[])/\∃D',w'.ownsMap prog 9 intR m (nn+1) D'/\Tab litS D' (fun k=>if k=kyB next/\kyB next≠[] then some i else if k=kyB was then none else f k)/\w.grownBy w' (some m):=by
 obtain ⟨w1,hr1,hm1,hg1'⟩:=hm.drop (t:=114) keyS underlying114 (keyS_mk h1) 0
 have hg1:=hg1'.grown
 have hT1:=hT.del litS_inj (kyB was)
 obtain ⟨w2,hr2,hm2,hg2⟩:=World.ownsMap.update (w:=w1) (t:=114) hm1 keyS underlying114 hnn (keyS_mk h2) (plainElem_int underlying3 h3)
 have hT2:=hT1.put litS_inj litS_key (kyB next) i
 by_cases e:kyB next=[]
 ·have HE:Hid (∃D',w1.ownsMap prog 9 intR m (nn+1) D'/\Tab litS D' (fun k=>if k=kyB next/\kyB next≠[] then some i else if k=kyB was then none else f k)/\w.grownBy w1 (some m)):=by
   refine ⟨_,hm1.mono (Nat.le_succ _),?_,hg1⟩
   have:(fun k=>if k=kyB next/\kyB next≠[] then some i else if k=kyB was then none else f k)=fun k=>if k=kyB was then none else f k:=by
    funext k
    rw[if_neg (fun x=>x.2 e)]
   rw[this]
   exact hT1
  obtain rfl:next={ data:=#[] }:=ba_ext e
  clear hm hT hm1 hg1' hg1 hT1 hr2 hm2 hg2 hT2
  go_enter func184,ntmps184
  go_wp2
  go_end0
  exact ⟨rfl,HE.out⟩
 ·have HE:Hid (∃D',w2.ownsMap prog 9 intR m (nn+1) D'/\Tab litS D' (fun k=>if k=kyB next/\kyB next≠[] then some i else if k=kyB was then none else f k)/\w.grownBy w2 (some m)):=by
   refine ⟨_,hm2,?_,hg1.trans hg2⟩
   have:(fun k=>if k=kyB next/\kyB next≠[] then some i else if k=kyB was then none else f k)=fun k=>if k=kyB next then some i else if k=kyB was then none else f k:=by
    funext k
    simp[e]
   rw[this]
   exact hT2
  have e1:next.toList.isEmpty=false:=by
   rw[toList_data]
   unfold kyB at e
   cases hl:next.data.toList with
   | nil=>exact absurd hl e
   | cons a l=>rfl
  clear hm hT hm1 hg1' hg1 hT1 hm2 hg2 hT2
  go_enter func184,ntmps184
  go_wp2
  go_end0
  exact ⟨rfl,HE.out⟩
theorem wf_ow {n:Int}(h:-1<=n/\n<=65600):(Lit.int .i64 n).wf=true:=by
 simp[Lit.wf,IntKind.min,IntKind.max,IntKind.signed,IntKind.bits]
 omega
def put4 (W:World)(g o:Nat)(x:Ob):World:=(((W.setCell ⟨g,o,none⟩ (.string x.nm)).setCell ⟨g,o+1,none⟩ (.string x.tg)).setCell ⟨g,o+2,none⟩ (.int .i64 x.bk)).setCell ⟨g,o+3,none⟩ (.int .i64 x.ow)
theorem jEz {w:World}{B g cap N:Nat}{rs:List (Ob × Bool)}(h:w.ownsRow B 166 5 (.slice (some ⟨g,0,none⟩) N cap) N (rwsC rs)){i:Nat}{was:Ob}{b:Bool}(hi:rs[i]?=some (was,b))(x:Ob) :
 (put4 w g (i*5) x).ownsRow B 166 5 (.slice (some ⟨g,0,none⟩) N cap) N (rwsC (rs.set i (x,b)))/\w.grownBy (put4 w g (i*5) x) (some g):=by
 have hl:=jAy hi
 have h1:=h.stored (i*5) (.string x.nm)
 rw[show rwsC rs=rs.flatMap rwC from rfl,show i*5=i*5+0 by omega,jE0 rwC 5 jE4 rs i _ (⟨x.nm,was.tg,was.bk,was.ow⟩,b) hi 0 (.string x.nm) (by omega) rfl] at h1
 have h2:=h1.1.stored (i*5+1) (.string x.tg)
 rw[jE0 rwC 5 jE4 _ i (⟨x.nm,was.tg,was.bk,was.ow⟩,b) (⟨x.nm,x.tg,was.bk,was.ow⟩,b) (by rw[List.getElem?_set_self hl]) 1 (.string x.tg) (by omega) rfl,List.set_set] at h2
 have h3:=h2.1.stored (i*5+2) (.int .i64 x.bk)
 rw[jE0 rwC 5 jE4 _ i (⟨x.nm,x.tg,was.bk,was.ow⟩,b) (⟨x.nm,x.tg,x.bk,was.ow⟩,b) (by rw[List.getElem?_set_self hl]) 2 (.int .i64 x.bk) (by omega) rfl,List.set_set] at h3
 have h4:=h3.1.stored (i*5+3) (.int .i64 x.ow)
 rw[jE0 rwC 5 jE4 _ i (⟨x.nm,x.tg,x.bk,was.ow⟩,b) (x,b) (by rw[List.getElem?_set_self hl]) 3 (.int .i64 x.ow) (by omega) rfl,List.set_set] at h4
 exact ⟨h4.1,((h1.2.trans h2.2).trans h3.2).trans h4.2⟩
theorem Inn.lay {w w3 w4:World}{q g cap:Nat}{mv:Value}{oa na:Nat}{room:List Nat}{h nn:Nat}{S:Ps}(hI:Inn w q (.slice (some ⟨g,0,none⟩) S.R.length cap) mv oa na room h nn S){i:Nat}{was next:Ob}(hi:S.R[i]?=some was){V U:World}(hV:Below w.heap.size w V)
 {Do Dn:DataW Unit} {fo:Int->Option Nat} {fn:List UInt8->Option Nat} (h3:w3.ownsMap prog 3 intR oa (nn+1) Do) (t3:Tab litI Do fo) (i3:Is Ob.ow (-1) (S.R.set i next) fo) (g3:V.grownBy w3 (some oa))
 (h4:w4.ownsMap prog 9 intR na (nn+1) Dn) (t4:Tab litS Dn fn) (i4:Is kyN [] (S.R.set i next) fn) (g4:w3.grownBy w4 (some na)) (hU:U=put4 w4 g (i*5) next):Turn (fp q (.slice (some ⟨g,0,none⟩) S.R.length cap) mv oa na) w U q (nn+1) (putP S i next):=by
 obtain ⟨hgq,hgo,hgn,hgm⟩:=hI.qr (g:=g) rfl
 obtain ⟨hoq,hnq,hon⟩:=hI.qo
 have hIV:=hI.below hV
 have same4:∀k,k∈fp q (.slice (some ⟨g,0,none⟩) S.R.length cap) mv oa na->k≠oa->k≠na->w4.heap[k]?=V.heap[k]?:=fun k hk h1 h2=>by
  have hlt:=hIV.lt hk
  exact (g4.block k (Qx hlt g3.size) (fun e=>h2 (by injection e))).trans (g3.block k hlt (fun e=>h1 (by injection e)))
 have hr4:w4.ownsRow 0 166 5 (.slice (some ⟨g,0,none⟩) S.R.length cap) S.R.length (rwsC (jFz S)):=jA0 hIV.hr fun k hk=>by
  simp[Value.ownBlock] at hk
  subst hk
  exact same4 _ (jBx.2 (.inr (.inr (.inr (.inl rfl))))) hgo hgn
 have hg:(jFz S)[i]?=some (was,decide (i∈S.Q)):=by rw[jEj,hi];rfl
 obtain ⟨hp,gp⟩:=jEz hr4 hg next
 rw[<-rowsL_put] at hp
 subst hU
 have same:∀k,k<w4.heap.size->k≠g->(put4 w4 g (i*5) next).heap[k]?=w4.heap[k]?:=fun k hk hne=>gp.block k hk (fun e=>hne (by injection e))
 have lt4:∀k,k∈fp q (.slice (some ⟨g,0,none⟩) S.R.length cap) mv oa na->k<w4.heap.size:=fun k hk=>Qx (hIV.lt hk) (Qk g3.size g4.size)
 refine ⟨?_,_,⟨_,mv,oa,na,room,h,rfl,?_,?_,?_,⟨Do,fo,?_,t3,i3⟩,⟨Dn,fn,?_,t4,i4⟩,hI.ne,hI.rg,?_,?_⟩,fun k hk=>.inl hk⟩
 ·refine jB8 (jB8 (jB8 (jBv (Only.refl _ _) hV) g3 fun k e=>.inl ?_) g4 fun k e=>.inl ?_) gp fun k e=>.inl ?_
  ·injection e with e;subst e;exact jBx.2 (.inr (.inl rfl))
  ·injection e with e;subst e;exact jBx.2 (.inr (.inr (.inl rfl)))
  ·injection e with e;subst e;exact jBx.2 (.inr (.inr (.inr (.inl rfl))))
 ·have hm:q∈fp q (.slice (some ⟨g,0,none⟩) S.R.length cap) mv oa na:=jBx.2 (.inl rfl)
  rw[same q (lt4 q hm) (fun e=>hgq e.symm),same4 q hm (fun e=>hoq e.symm) (fun e=>hnq e.symm)]
  exact hIV.hq
 ·rw[len_put];exact hp
 ·refine jA0 hIV.hm fun k hk=>?_
  have hm:k∈fp q (.slice (some ⟨g,0,none⟩) S.R.length cap) mv oa na:=jBx.2 (.inr (.inr (.inr (.inr hk))))
  obtain ⟨m1,m2,m3,m4⟩:=hI.qm hk
  rw[same k (lt4 k hm) (fun e=>m4 (by rw[e];rfl)),same4 k hm m2 m3]
 ·refine jC6 h3 ?_
  have hm:oa∈fp q (.slice (some ⟨g,0,none⟩) S.R.length cap) mv oa na:=jBx.2 (.inr (.inl rfl))
  rw[same oa (lt4 oa hm) (fun e=>hgo e.symm),g4.block oa h3.lt (fun e=>hon (by injection e))]
 ·refine jC6 h4 ?_
  have hm:na∈fp q (.slice (some ⟨g,0,none⟩) S.R.length cap) mv oa na:=jBx.2 (.inr (.inr (.inl rfl)))
  rw[same na (lt4 na hm) (fun e=>hgn e.symm)]
 ·rw[len_put];exact hI.ml
 ·rw[len_put];exact hI.lim
theorem put_any (w:World)(q:Nat)(F:List Nat)(nn:Nat)(S:Ps)(i:Nat)(was next:Ob)(hL:Lay w q F nn S)(hi:S.R[i]?=some was)(hn:next.nm.size<=16)(hwn:was.nm.size<=16)(how:-1<=was.ow/\was.ow<=65600)(hno:-1<=next.ow/\next.ow<=65600)
 (ho:next.ow≠-1->∀(j:Nat) o,j≠i->S.R[j]?=some o->o.ow≠next.ow) (hnn:next.nm.size≠0->∀(j:Nat) o,j≠i->S.R[j]?=some o->o.nm≠next.nm) (hN:nn<maxLen) :
 Calls prog 148 #[.pointer (some ⟨q,0,none⟩),.int .i64 (i:Int),obV next] w fun e w'=>e=.returned (.tuple #[])/\Turn F w w' q (nn+1) (putP S i next):=by
 have hL0:=hL
 obtain ⟨rv,mv,oa,na,room,h,rfl,hI⟩:=hL
 obtain ⟨g,cap,rfl⟩:=hI.form hi
 obtain ⟨hgq,hgo,hgn,hgm⟩:=hI.qr (g:=g) rfl
 obtain ⟨hoq,hnq,hon⟩:=hI.qo
 have hlt:(i:Int)<(S.R.length:Int):=by have:=jAy hi;omega
 obtain ⟨W,hW,hb,k0⟩:=jA4 w #[.string next.nm,.string next.tg,.int .i64 next.bk,.int .i64 next.ow] 60
 obtain ⟨V,hV,hb1,k1⟩:=jA4 W #[.string was.nm,.string was.tg,.int .i64 was.bk,.int .i64 was.ow] 60
 have hbV:Below w.heap.size w V:=hb.trans (hb1.mono hb.size)
 have hIW:=hI.below hb
 obtain ⟨-,c1,-⟩:=hIW.cells
 obtain ⟨r0,r1,r2,r3,-⟩:=hIW.row hi
 have k0':=(hb1.block _ (jAv k0)).trans k0
 have x0:V.cell? ⟨w.heap.size,0,none⟩=some (.string next.nm):=(jAj k0').trans rfl
 have x1:V.cell? ⟨w.heap.size,1,none⟩=some (.string next.tg):=(jAj k0').trans rfl
 have x2:V.cell? ⟨w.heap.size,2,none⟩=some (.int .i64 next.bk):=(jAj k0').trans rfl
 have x3:V.cell? ⟨w.heap.size,3,none⟩=some (.int .i64 next.ow):=(jAj k0').trans rfl
 have y0:V.cell? ⟨W.heap.size,0,none⟩=some (.string was.nm):=(jAj k1).trans rfl
 have y1:V.cell? ⟨W.heap.size,1,none⟩=some (.string was.tg):=(jAj k1).trans rfl
 have y2:V.cell? ⟨W.heap.size,2,none⟩=some (.int .i64 was.bk):=(jAj k1).trans rfl
 have y3:V.cell? ⟨W.heap.size,3,none⟩=some (.int .i64 was.ow):=(jAj k1).trans rfl
 by_cases hE:was.nm=next.nm/\was.tg=next.tg/\was.bk=next.bk/\was.ow=next.ow
 ·have hsame:putP S i next=S:=by
   obtain ⟨wn,wt,wb,wo⟩:=was
   obtain ⟨nm,nt,nb,no⟩:=next
   obtain ⟨rfl,rfl,rfl,rfl⟩:=hE
   obtain ⟨fl,R,Q⟩:=S
   unfold putP
   simp only[Ps.mk.injEq,true_and,and_true]
   apply List.ext_getElem?
   intro j
   rw[set_get (jAy hi) j]
   by_cases e:i=j
   ·rw[if_pos e,<-e];exact hi.symm
   ·rw[if_neg e]
  have HT:Hid (Turn (fp q (.slice (some ⟨g,0,none⟩) S.R.length cap) mv oa na) w V q (nn+1) (putP S i next)):=by
   rw[hsame]
   exact (hL0.turn hbV).up (Nat.le_succ _)
  unfold obV
  obtain ⟨wn,wt,wb,wo⟩:=was
  obtain ⟨nm,nt,nb,no⟩:=next
  dsimp only at *
  obtain ⟨rfl,rfl,rfl,rfl⟩:=hE
  clear hsame hI hIW hi hL0 hb hb1 hbV k0 k1 k0' ho hnn
  go_enter func148,ntmps148
  go_wp2
  refine Qw (results_none rfl _ _ _) rfl ?_
  exact ⟨rfl,HT.out⟩
 ·have hIV:=hI.below hbV
  have hE':¬(was.nm.toList=next.nm.toList/\was.tg.toList=next.tg.toList/\was.bk=next.bk/\was.ow=next.ow):=fun ⟨e1,e2,e3,e4⟩=>hE ⟨ba_ext (by rw[toList_data,toList_data] at e1;exact e1),ba_ext (by rw[toList_data,toList_data] at e2;exact e2),e3,e4⟩
  obtain ⟨Do,fo,m1,t1,s1⟩:=(hI.below hbV.drew).ho
  obtain ⟨Dn,fn,m2,t2,s2⟩:=(hI.below hbV.drew).hn
  have hwf:(Lit.int .i64 (i:Int)).wf=true:=wf_nat (by have:=hI.lim;omega)
  have hmi:=moveI_any V.drew oa nn Do fo m1 t1 was.ow next.ow i (wf_ow how) (wf_ow hno) hwf hN
  have iso:=s1.move hi (next:=next) fun e j hj=>by
   obtain ⟨_,o,h1,h2⟩:=(s1 _ _).1 hj
   by_cases hji:j=i
   ·exact hji
   ·exact absurd h2 (ho e j o hji h1)
  have isn:=s2.move hi (next:=next) fun e j hj=>by
   obtain ⟨_,o,h1,h2⟩:=(s2 _ _).1 hj
   by_cases hji:j=i
   ·exact hji
   ·exact absurd (ba_ext h2) (hnn (fun e2=>e (kyB_nil.2 e2)) j o hji h1)
  have H3:Hid (∀w3 D',w3.ownsMap prog 3 intR oa (nn+1) D'->Tab litI D' (fun k=>if k=next.ow/\next.ow≠-1 then some i else if k=was.ow then none else fo k)->V.drew.grownBy w3 (some oa) ->
   ((w3.cell? ⟨q,2,none⟩=some (.map (some oa))/\w3.cell? ⟨w.heap.size,3,none⟩=some (.int .i64 next.ow)/\w3.cell? ⟨W.heap.size,3,none⟩=some (.int .i64 was.ow))/\w3.drew.cell? ⟨q,3,none⟩=some (.map (some na))/\w3.drew.cell? ⟨w.heap.size,0,none⟩=some (.string next.nm)/\w3.drew.cell? ⟨W.heap.size,0,none⟩=some (.string was.nm) /\
   Calls prog 184 #[.map (some na),.string was.nm,.string next.nm,.string { data:=#[] },.int .i64 (i:Int)] w3.drew fun e w4=>e=.returned (.tuple #[]) /\
    ((w4.cell? ⟨q,3,none⟩=some (.map (some na))/\w4.cell? ⟨w.heap.size,0,none⟩=some (.string next.nm)/\w4.cell? ⟨W.heap.size,0,none⟩=some (.string was.nm))/\w4.drew.cell? ⟨q,1,none⟩=some (.slice (some ⟨g,0,none⟩) S.R.length cap)/\w4.drew.cell? ⟨w.heap.size,0,none⟩=some (.string next.nm)/\w4.drew.cell? ⟨w.heap.size,1,none⟩=some (.string next.tg)/\w4.drew.cell? ⟨w.heap.size,2,none⟩=some (.int .i64 next.bk)/\w4.drew.cell? ⟨w.heap.size,3,none⟩=some (.int .i64 next.ow) /\
    (∃a0 a1 a2 a3,w4.drew.cell? ⟨g,i*5,none⟩=some (.string a0)/\w4.drew.cell? ⟨g,i*5+1,none⟩=some (.string a1)/\w4.drew.cell? ⟨g,i*5+2,none⟩=some (.int .i64 a2)/\w4.drew.cell? ⟨g,i*5+3,none⟩=some (.int .i64 a3)) /\
    w4.drew.frozen? ⟨g,i*5,none⟩=false/\w4.drew.frozen? ⟨g,i*5+1,none⟩=false/\w4.drew.frozen? ⟨g,i*5+2,none⟩=false/\w4.drew.frozen? ⟨g,i*5+3,none⟩=false /\
    Hid (Turn (fp q (.slice (some ⟨g,0,none⟩) S.R.length cap) mv oa na) w (put4 w4.drew g (i*5) next) q (nn+1) (putP S i next))))):=fun w3 D' h3 t3 g3=>by
   have old:∀k,k<V.heap.size->k≠oa->w3.heap[k]?=V.heap[k]?:=fun k hk hne=>g3.block k hk (fun e=>hne (by injection e))
   have q3:=(old q (jAv hIV.hq) (fun e=>hoq e.symm)).trans hIV.hq
   have ne0:∀k,w.heap.size<=k->k≠oa/\k≠na/\k≠g:=fun k hk=>by
    have a:=hI.lt (jBx.2 (.inr (.inl rfl)):oa∈_)
    have b:=hI.lt (jBx.2 (.inr (.inr (.inl rfl))):na∈_)
    have c:=(hI.hr.lt g rfl).2
    omega
   have b3:=(old _ (jAv k0') (ne0 _ (Qj _)).1).trans k0'
   have a3:=(old _ (jAv k1) (ne0 _ hb.size).1).trans k1
   have m3:w3.drew.ownsMap prog 9 intR na nn Dn:=jC6 m2 (old na m2.lt hon.symm)
   refine ⟨⟨(jAj q3).trans rfl,(jAj b3).trans rfl,(jAj a3).trans rfl⟩,(jAj q3).trans rfl,(jAj b3).trans rfl,(jAj a3).trans rfl,(moveS_any w3.drew na nn Dn fn m3 t2 was.nm next.nm i (by unfold maxLen;omega) (by unfold maxLen;omega) hwf hN).mono ?_⟩
   rintro e w4 ⟨rfl,D4,h4,t4,g4⟩
   refine ⟨rfl,?_⟩
   have old4:∀k,k<V.heap.size->k≠oa->k≠na->w4.heap[k]?=V.heap[k]?:=fun k hk h1 h2=>(g4.block k (Qx hk g3.size) (fun e=>h2 (by injection e))).trans (old k hk h1)
   have q4:=(old4 q (jAv hIV.hq) (fun e=>hoq e.symm) (fun e=>hnq e.symm)).trans hIV.hq
   have b4:=(old4 _ (jAv k0') (ne0 _ (Qj _)).1 (ne0 _ (Qj _)).2.1).trans k0'
   have a4:=(old4 _ (jAv k1) (ne0 _ hb.size).1 (ne0 _ hb.size).2.1).trans k1
   have hr4:w4.drew.ownsRow 0 166 5 (.slice (some ⟨g,0,none⟩) S.R.length cap) S.R.length (rwsC (jFz S)):=jA0 hIV.hr fun k hk=>by
    have hk':=(hIV.hr.lt k hk).2
    simp[Value.ownBlock] at hk
    subst hk
    exact old4 _ hk' hgo hgn
   have hg:(jFz S)[i]?=some (was,decide (i∈S.Q)):=by rw[jEj,hi];rfl
   have hc:=fun j (hj:j<5)=>(hr4.cellAt (i*5+j) (by have:=jAy hi;omega)).trans (jDz rwC 5 jE4 (jFz S) i _ hg j hj)
   refine ⟨⟨(jAj q4).trans rfl,(jAj b4).trans rfl,(jAj a4).trans rfl⟩,(jAj q4).trans rfl,(jAj b4).trans rfl,(jAj b4).trans rfl,(jAj b4).trans rfl,(jAj b4).trans rfl,⟨_,_,_,_,hc 0 (by omega),hc 1 (by omega),hc 2 (by omega),hc 3 (by omega)⟩,hr4.frozenAt _,hr4.frozenAt _,hr4.frozenAt _,hr4.frozenAt _,?_⟩
   exact hI.lay (w3:=w3) (w4:=w4.drew) (V:=V.drew) hi hbV.drew h3 t3 iso g3 (jC6 h4 rfl) t4 isn ⟨g4.os,g4.tape,g4.output,g4.size,g4.block⟩ rfl
  have hIVd:=hI.below hbV.drew
  obtain ⟨-,-,d2,-⟩:=hIVd.cells
  have x3':V.drew.cell? ⟨w.heap.size,3,none⟩=some (.int .i64 next.ow):=x3
  have y3':V.drew.cell? ⟨W.heap.size,3,none⟩=some (.int .i64 was.ow):=y3
  unfold obV
  obtain ⟨wn,wt,wb,wo⟩:=was
  obtain ⟨nm,nt,nb,no⟩:=next
  dsimp only at *
  generalize S.R.length=N at *
  clear hI hIW hIV hIVd hi hL0 hb hb1 hbV k0 k1 k0' ho hnn m1 t1 s1 m2 t2 s2 hwf iso isn hE
  go_enter func148,ntmps148
  go_wp2_with fail
  all_goals
   first
   | (exact absurd ⟨by assumption,by assumption,by assumption,by assumption⟩ hE')
   | (clear hE'
      go_region_held_law (fun U=>U.cell? ⟨q,2,none⟩=some (.map (some oa))/\U.cell? ⟨w.heap.size,3,none⟩=some (.int .i64 no)/\U.cell? ⟨W.heap.size,3,none⟩=some (.int .i64 wo)) (first | exact ⟨d2,x3',y3'⟩ | assumption | go_keep) (first | (go_at_call 183;refine hmi.mono ?_;rintro e w3 ⟨rfl,D',h3,t3,g3⟩;obtain ⟨HS3,z0,z1,z2,hms⟩:=H3.out w3 D' h3 t3 g3;clear h3 t3 g3))
      clear hmi H3 d2 x0 x1 x2 x3 y0 y1 y2 y3 x3' y3'
      go_wp2_with fail
      go_region_held_law (fun U=>U.cell? ⟨q,3,none⟩=some (.map (some na))/\U.cell? ⟨w.heap.size,0,none⟩=some (.string nm)/\U.cell? ⟨W.heap.size,0,none⟩=some (.string wn)) (first | exact ⟨z0,z1,z2⟩ | assumption | go_keep) (first | (go_at_call 184;refine hms.mono ?_;rintro e w4 ⟨rfl,HS4,u0,u1,u2,u3,u4,⟨a0,a1,a2,a3,v0,v1,v2,v3⟩,f0,f1,f2,f3,HT⟩;have u0':w4.cell? ⟨q,1,none⟩=_:=u0;have v0':w4.cell? ⟨g,i*5,none⟩=_:=v0;have v1':w4.cell? ⟨g,i*5+1,none⟩=_:=v1;have v2':w4.cell? ⟨g,i*5+2,none⟩=_:=v2;have v3':w4.cell? ⟨g,i*5+3,none⟩=_:=v3;have f0':w4.frozen? ⟨g,i*5,none⟩=false:=f0;have f1':w4.frozen? ⟨g,i*5+1,none⟩=false:=f1;have f2':w4.frozen? ⟨g,i*5+2,none⟩=false:=f2;have f3':w4.frozen? ⟨g,i*5+3,none⟩=false:=f3))
      clear hms z0 z1 z2
      go_wp2_with fail
      go_region
      all_goals
       go_wp2
       go_end0
       exact ⟨rfl,HT.out⟩)
