import Derived.Test.YtfnklhajafmooaaGreatDoorG28
set_option maxHeartbeats 1000000
set_option maxRecDepth 20000
namespace Go.Proofs.YtfnklhajafmooaaGreatDoor.Po
open Go.RowKit Go.Lib Go.Deep Go.Proofs.Tryz
theorem nsC_len (l:List Nat):(nsC l).length=l.length:=by simp[nsC]
theorem nsC_one (l:List Nat):∀u∈nsC l,u.oneCell'=true:=fun u hu=>by
 obtain ⟨s,_,rfl⟩:=List.mem_map.1 hu
 rfl
theorem jI2 (a b:List Nat):nsC (a++b)=nsC a++nsC b:=by simp[nsC]
theorem nsC_at {l:List Nat}{j:Nat}{u:Value}(h:(nsC l)[j]?=some u):∃n,l[j]?=some n/\u=.int .i64 (n:Int):=by
 unfold nsC at h
 rw[List.getElem?_map] at h
 obtain ⟨s,hs,rfl⟩:=Option.map_eq_some_iff.1 h
 exact ⟨s,hs,rfl⟩
theorem see_part {w:World}{B g cap:Nat}{room:List Nat}(h:w.ownsRow B 3 1 (.slice (some ⟨g,0,none⟩) room.length cap) room.length (nsC room))(lo hi c:Nat)(h1:lo<=hi)(h2:hi<=room.length)(hc:hi-lo<=c):See w 1 (.slice (some ⟨g,lo,none⟩) (hi-lo) c) (hi-lo) (nsC ((room.take hi).drop lo)):=by
 refine ⟨by rw[nsC_len,List.length_drop,List.length_take];omega,nsC_one _,_,_,rfl,hc,fun e=>(by cases e),fun _=>⟨g,lo,rfl,(h.lt g rfl).2,fun j u hu=>?_⟩⟩
 obtain ⟨n,hn,rfl⟩:=nsC_at hu
 rw[List.getElem?_drop,List.getElem?_take] at hn
 split at hn
 ·rename_i hlt
  have h3:=jAy hn
  rw[h.cellAt (lo+j) (by omega)]
  unfold nsC
  rw[List.getElem?_map,hn]
  rfl
 ·cases hn
theorem list_some (w:World)(q g cap h:Nat)(room Q:List Nat)(c4:w.cell? ⟨q,4,none⟩=some (.slice (some ⟨g,0,none⟩) room.length cap))(c5:w.cell? ⟨q,5,none⟩=some (.int .i64 (h:Int)))(c6:w.cell? ⟨q,6,none⟩=some (.int .i64 (Q.length:Int)))
 (hm:w.ownsRow 0 3 1 (.slice (some ⟨g,0,none⟩) room.length cap) room.length (nsC room)) (hr:Rng room h Q) (hl:room.length<=200000) (hh:h<=room.length) (i3:¬cap=h) (i4:¬cap=0) :
 Calls prog 78 #[.pointer (some ⟨q,4,none⟩)] w fun e w'=>∃v,e=.returned v/\w'.ownsRow w.heap.size 3 1 v Q.length (nsC Q)/\Below w.heap.size w w':=by
 have hcap:room.length<=cap:=by
  rcases hm.2 with ⟨q1,_⟩ | ⟨g1,cap1,cur1,q1,q2,q3,q4,_⟩
  ·cases q1
  ·cases q1;exact q4
 have hle:=hr.le
 obtain ⟨hi,hhi⟩:∃hi,min (h+Q.length) room.length=hi:=⟨_,rfl⟩
 have hQ:=hr.list
 rw[hhi] at hQ
 have s1:=fun (W:World) (hb:Below w.heap.size w W)=>see_part (jA7 hm hb) h hi (cap-h) (by omega) (by omega) (by omega)
 have s2:=fun (W:World) (hb:Below w.heap.size w W)=>see_part (jA7 hm hb) 0 (Q.length-(hi-h)) cap (by omega) (by omega) (by omega)
 simp only[Nat.sub_zero,List.drop_zero] at s2
 have HC:Hid (∀(W:World) (v1 v2:Value),v1=.slice (some ⟨g,h,none⟩) (hi-h) (cap-h)->v2=.slice (some ⟨g,0,none⟩) (Q.length-(hi-h)) cap->Below w.heap.size w W->Calls prog 115 #[.slice (some ⟨W.heap.size,0,none⟩) 2 2] (W.alloc (.cells #[v1,v2] 44)) fun e w'=>∃v,e=.returned v/\Hid (w'.ownsRow w.heap.size 3 1 v Q.length (nsC Q))/\Hid (Below w.heap.size w w')):=fun W v1 v2 e1 e2 hb=>by
  have hb2:Below w.heap.size w (W.alloc (.cells #[v1,v2] 44)):=hb.alloc hb.size _
  have k:=jA2 W (.cells #[v1,v2] 44)
  subst e1 e2
  refine (concat_any _ W.heap.size _ _ (hi-h) (Q.length-(hi-h)) _ _ ((jAj k).trans rfl) ((jAj k).trans rfl) (s1 _ hb2) (s2 _ hb2) (by omega)).mono ?_
  rintro e w' ⟨v,rfl,h3,h4⟩
  rw[<-jI2,hQ,show hi-h+(Q.length-(hi-h))=Q.length by omega] at h3
  exact ⟨v,rfl,jB1 h3 hb2.size,hb2.trans (h4.mono hb2.size)⟩
 have B0:Hid (∀j,Below w.heap.size w (w.drewN j)):=fun j=>bdr (Qq _ _) j
 have i1:(h:Int)<=(hi:Int):=by omega
 have i2:(hi:Int)<=(cap:Int):=by omega
 have i5:(((Q.length-(hi-h):Nat)):Int)<=(cap:Int):=by omega
 have w2:IntKind.i64.wrap ((Q.length:Int)-((hi-h:Nat):Int))=((Q.length-(hi-h):Nat):Int):=by rw[QX];omega
 have w1:IntKind.i64.wrap ((h:Int)+(Q.length:Int))=(h:Int)+(Q.length:Int):=by rw[QX];omega
 have wm:min ((h:Int)+(Q.length:Int)) (room.length:Int)=(hi:Int):=by omega
 generalize hN:Q.length=N at *
 generalize hM:room.length=M at *
 clear hm hr s1 s2 hQ
 go_enter func78,ntmps78
 go_wp2_with fail
 go_quiet (fail)
 generalize hA:hi-h=A at *
 generalize hL:N-A=L at *
 clear hhi wm hle hh hcap hl hN hM hA hL
 go_wp2_with fail
 go_region_with (go_at_call 115;refine (HC.out _ _ _ rfl rfl (B0.out _)).mono ?_;rintro e w3 ⟨v,rfl,hO,hBB⟩)
 all_goals
  go_wp2
  go_ret
  exact ⟨_,rfl,hO.out,hBB.out⟩
theorem list_zero (w:World)(q:Nat)(a:Option Addr)(hg:∀x,a=some x->∃g,x=⟨g,0,none⟩)(c4:w.cell? ⟨q,4,none⟩=some (.slice a 0 0))(c5:w.cell? ⟨q,5,none⟩=some (.int .i64 0))(c6:w.cell? ⟨q,6,none⟩=some (.int .i64 0)) :
 Calls prog 78 #[.pointer (some ⟨q,4,none⟩)] w fun e w'=>∃v,e=.returned v/\w'.ownsRow w.heap.size 3 1 v 0 []/\Below w.heap.size w w':=by
 have HC:Hid (∀(W:World),Below w.heap.size w W->Calls prog 115 #[.slice (some ⟨W.heap.size,0,none⟩) 2 2] (W.alloc (.cells #[.slice a 0 0,.slice a 0 0] 44)) fun e w'=>∃v,e=.returned v/\Hid (w'.ownsRow w.heap.size 3 1 v 0 [])/\Hid (Below w.heap.size w w')):=fun W hb=>by
  have hb2:Below w.heap.size w (W.alloc (.cells #[.slice a 0 0,.slice a 0 0] 44)):=hb.alloc hb.size _
  have k:=jA2 W (.cells #[.slice a 0 0,.slice a 0 0] 44)
  have s0:∀V,See V 1 (.slice a 0 0) 0 []:=fun V=>⟨rfl,fun u hu=>(by cases hu),a,0,rfl,Kj _,fun _=>rfl,fun h=>(by omega)⟩
  refine (concat_any _ W.heap.size _ _ 0 0 _ _ ((jAj k).trans rfl) ((jAj k).trans rfl) (s0 _) (s0 _) (by omega)).mono ?_
  rintro e w' ⟨v,rfl,h3,h4⟩
  exact ⟨v,rfl,jB1 h3 hb2.size,hb2.trans (h4.mono hb2.size)⟩
 have B0:Hid (∀j,Below w.heap.size w (w.drewN j)):=fun j=>bdr (Qq _ _) j
 cases a with
 | none =>
   clear hg
   go_enter func78,ntmps78
   go_wp2_with fail
   go_quiet (fail)
   go_wp2_with fail
   go_region_with (go_at_call 115;refine (HC.out _ (B0.out _)).mono ?_;rintro e w3 ⟨v,rfl,hO,hBB⟩)
   all_goals
    go_wp2
    go_ret
    exact ⟨_,rfl,hO.out,hBB.out⟩
 | some x =>
   obtain ⟨g,rfl⟩:=hg x rfl
   clear hg
   go_enter func78,ntmps78
   go_wp2_with fail
   go_quiet (fail)
   go_wp2_with fail
   go_region_with (go_at_call 115;refine (HC.out _ (B0.out _)).mono ?_;rintro e w3 ⟨v,rfl,hO,hBB⟩)
   all_goals
    go_wp2
    go_ret
    exact ⟨_,rfl,hO.out,hBB.out⟩
theorem jMx (w:World)(q h:Nat)(mv:Value)(room Q:List Nat)(c4:w.cell? ⟨q,4,none⟩=some mv)(c5:w.cell? ⟨q,5,none⟩=some (.int .i64 (h:Int)))(c6:w.cell? ⟨q,6,none⟩=some (.int .i64 (Q.length:Int)))
 (hm:w.ownsRow 0 3 1 mv room.length (nsC room)) (hr:Rng room h Q) (hl:room.length<=200000) :
 Calls prog 78 #[.pointer (some ⟨q,4,none⟩)] w fun e w'=>∃v,e=.returned v/\w'.ownsRow w.heap.size 3 1 v Q.length (nsC Q)/\Below w.heap.size w w':=by
 have hcp:∀g cap,mv=.slice (some ⟨g,0,none⟩) room.length cap->room.length<=cap:=fun g cap e=>by
  rcases hm.2 with ⟨q1,_⟩ | ⟨g1,cap1,cur1,q1,q2,q3,q4,_⟩
  ·rw[e] at q1;cases q1
  ·rw[e] at q1;cases q1;exact q4
 rcases hr.hm with hh | ⟨rfl,rfl⟩
 ·obtain ⟨g,cap,rfl⟩:=jHq hm (by omega)
  have:=hcp g cap rfl
  exact list_some w q g cap h room Q c4 c5 c6 hm hr hl (by omega) (by omega) (by omega)
 ·rcases hm.2 with ⟨rfl,_⟩ | ⟨g,cap,cur,rfl,_⟩
  ·have hq:Q=[]:=Qb (by have:=hr.le;simpa using this)
   subst hq
   exact list_zero w q none (fun x e=>by cases e) c4 c5 c6
  ·rcases Nat.eq_zero_or_pos cap with rfl | hc
   ·have hq:Q=[]:=Qb (by have:=hr.le;simpa using this)
    subst hq
    exact list_zero w q _ (fun x e=>⟨g,(QW e).symm⟩) c4 c5 c6
   ·exact list_some w q g cap 0 [] Q c4 c5 c6 hm hr hl (by omega) (by omega) (by omega)
theorem jJ9 (k:Nat):(Builtin.zeroCells (Value.int .i64 0).cells k).toList=nsC (List.replicate k 0):=by
 have hzc:(Builtin.zeroCells (Value.int .i64 0).cells k).toList=List.replicate k (Value.int .i64 0):=by
  apply List.ext_getElem?
  intro j
  simp[Builtin.zeroCells,Value.cells]
  rw[Qc]
  by_cases h:j<k
  ·rw[List.getElem?_range h,if_pos h];simp[Nat.mod_one]
  ·rw[List.getElem?_eq_none (by simp;omega),if_neg h];rfl
 rw[hzc]
 simp[nsC]
theorem jN0 {P:Program}{ops:Array Oper}{o:Oper}{a:Act}{w:World}{K:Act->World->Prop}{Q:Exit->Act->World->Prop}{E:Prop}(hg:o.guard=none)(s x:Operand)(t u:TypeId)(ho:o.op=Op.call { callee:=Callee.builtin Builtin.append,args:=#[s,x],argTypes:=#[t,u] })
 (v x' v':Value) (w':World) (hs:a.eval s=v) (hx:a.eval x=x') (hr:(Builtin.append_ #[t,u] o.type #[v,x']).run P w=.ok v' w') (hK:K (a.put o.dst v') w') :
 if Region.wanted o (yielded ops a.tmps)=true then Oper.wp P o a w K Q else E:=by
 have hw:Region.wanted o (yielded ops a.tmps)=true:=by simp[Region.wanted,hg]
 rw[if_pos hw]
 unfold Oper.wp execOp
 simp only[ho,resolve,invoke,builtin,Sem.run_bind,Sem.run_pure,Result.andThen_ok,List.map_toArray,List.map_cons,List.map_nil,hs,hx,hr]
 exact hK
theorem step_call {P:Program}{ops:Array Oper}{o:Oper}{a:Act}{w:World}{K:Act->World->Prop}{Q:Exit->Act->World->Prop}{E:Prop}(hg:o.guard=none)(f:FuncId)(hcf:∀args w,(callFunc f args).run P w=.ok (.enter f args) w)(xs:Array Operand)(ts:Array TypeId)(ho:o.op=Op.call { callee:=Callee.value (Operand.func f),args:=xs,argTypes:=ts })(args:Array Value)(hv:xs.map a.eval=args){R:Ending->World->Prop}(hc:Calls P f args w R)
 (hR:∀e w',R e w'->∃v,e=.returned v/\K (a.put o.dst v) w'):if Region.wanted o (yielded ops a.tmps)=true then Oper.wp P o a w K Q else E:=by
 have hw:Region.wanted o (yielded ops a.tmps)=true:=by simp[Region.wanted,hg]
 rw[if_pos hw]
 have hrun:(execOp a.eval o).run P w=.ok (.enter f args) w:=by
  unfold execOp
  simp[ho,resolve,invoke,Deferred.ofValue,hcf,hv,Act.eval]
 unfold Oper.wp
 rw[hrun,Oper.upon_enter]
 refine hc.mono fun e w'' hh=>?_
 obtain ⟨v,rfl,hk⟩:=hR e w'' hh
 exact hk
structure Rin (w:World)(q:Nat)(A:Array Value)(mv:Value)(room:List Nat)(h:Nat)(Q:List Nat):Prop where
 hq:w.heap[q]?=some (.cells A 118 (0,0))
 sz:A.size=7
 c4:A[4]?=some mv
 c5:A[5]?=some (.int .i64 (h:Int))
 c6:A[6]?=some (.int .i64 (Q.length:Int))
 hm:w.ownsRow 0 3 1 mv room.length (nsC room)
theorem Rin.below {w W:World}{q h:Nat}{A:Array Value}{mv:Value}{room Q:List Nat}(hR:Rin w q A mv room h Q)(hb:Below w.heap.size w W):Rin W q A mv room h Q:=⟨(hb.block _ (jAv hR.hq)).trans hR.hq,hR.sz,hR.c4,hR.c5,hR.c6,jA7 hR.hm hb⟩
theorem Rin.cells {w:World}{q h:Nat}{A:Array Value}{mv:Value}{room Q:List Nat}(hR:Rin w q A mv room h Q):w.cell? ⟨q,4,none⟩=some mv/\w.cell? ⟨q,5,none⟩=some (.int .i64 (h:Int))/\w.cell? ⟨q,6,none⟩=some (.int .i64 (Q.length:Int))/\(∀j,w.frozen? ⟨q,j,none⟩=false):=⟨(jAj hR.hq).trans hR.c4,(jAj hR.hq).trans hR.c5,(jAj hR.hq).trans hR.c6,fun _=>jAq hR.hq⟩
theorem Rin.qm {w:World}{q h g:Nat}{A:Array Value}{mv:Value}{room Q:List Nat}(hR:Rin w q A mv room h Q)(hg:mv.ownBlock=some g):g≠q:=fun e=>by
 obtain ⟨cur,hc⟩:=jA1 hR.hm hg
 rw[e,hR.hq] at hc
 injection hc with hc
 injection hc with _ hc _
 cases hc
def rngA (A:Array Value)(mv:Value)(h n:Nat):Array Value:=((A.setIfInBounds 4 mv).setIfInBounds 5 (.int .i64 (h:Int))).setIfInBounds 6 (.int .i64 (n:Int))
theorem jMy {A:Array Value}{i:Nat}{v:Value}(h:A[i]?=some v):A.setIfInBounds i v=A:=by
 apply Array.ext_getElem?
 intro j
 rw[QZ]
 split
 ·rename_i e
  subst e
  rw[h,if_pos (Array.getElem?_eq_some_iff.1 h).1]
 ·rfl
structure Rto (w w':World)(q:Nat)(A:Array Value)(mv:Value)(room:List Nat)(h:Nat)(Q:List Nat)(mv0:Value):Prop where
 hq:w'.heap[q]?=some (.cells (rngA A mv h Q.length) 118 (0,0))
 hm:w'.ownsRow 0 3 1 mv room.length (nsC room)
 ho:Only (q :: mv0.ownBlock.toList) w w'
 hb:∀k,mv.ownBlock=some k->mv0.ownBlock=some k\/w.heap.size<=k
theorem cfList (args:Array Value)(w:World):(callFunc 78 args).run prog w=.ok (.enter 78 args) w:=by kernel_rfl
theorem grow2_any (w:World)(q h:Nat)(A:Array Value)(mv:Value)(room Q:List Nat)(hR:Rin w q A mv room h Q)(hr:Rng room h Q)(hl:room.length<=200000) :
 Calls prog 102 #[.pointer (some ⟨q,4,none⟩)] w fun e w'=>e=.returned (.tuple #[])/\∃mv',Rto w w' q A mv' (Q++List.replicate (room.length+1) 0) 0 Q mv:=by
 have hRd:=hR.below ((Qq _ _).drew)
 have hls:=jMx w.drew q h mv room Q hRd.cells.1 hRd.cells.2.1 hRd.cells.2.2.1 hRd.hm hr hl
 have hle:=hr.le
 obtain ⟨i0,hi,hz0,hz1,hz2⟩:=info_parts info3
 have w1:IntKind.i64.wrap ((room.length:Int)+1)=((room.length+1:Nat):Int):=by rw[QX];omega
 have HX:Hid (∀w2 v,w2.ownsRow w.drew.heap.size 3 1 v Q.length (nsC Q)->Below w.drew.heap.size w.drew w2->(w2.cell? ⟨q,4,none⟩=some mv/\w2.cell? ⟨q,5,none⟩=some (.int .i64 (h:Int))/\∃av nv cv w3,(Builtin.append_ #[44,3] 44 #[v,.int .i64 ((room.length+1:Nat):Int)]).run prog w2=.ok (.slice av nv cv) w3/\w3.cell? ⟨q,4,none⟩=some mv/\w3.cell? ⟨q,5,none⟩=some (.int .i64 (h:Int))/\w3.frozen? ⟨q,4,none⟩=false/\w3.frozen? ⟨q,5,none⟩=false /\
  Hid (Rto w ((w3.setCell ⟨q,4,none⟩ (.slice av nv cv)).setCell ⟨q,5,none⟩ (.int .i64 0)) q A (.slice av nv cv) (Q++List.replicate (room.length+1) 0) 0 Q mv))):=fun w2 v ho hb=>by
  have hR2:=hRd.below hb
  obtain ⟨v',w3,hrun,ho3,hg3,hnew⟩:=Tr.jF6 (P:=prog) w2 w.drew.heap.size 44 3 44 3 i0 (.int .i64 0) 1 8 .i64 .i64 underlying44 underlying3 hi hz0 hz1 hz2 rfl (by decide) v Q.length (nsC Q) ho (room.length+1) (by omega) (fun u hu=>by rw[jJ9] at hu;exact nsC_one _ u hu) (by unfold maxLen;omega) (by omega) hb.size
  obtain ⟨av,cv,rfl⟩:=jBy ho3
  have hb3:Below w.drew.heap.size w.drew w3:=hb.trans (jI1 hg3 hb.size ho)
  have hR3:=hRd.below hb3
  refine ⟨hR2.cells.1,hR2.cells.2.1,av,_,cv,w3,hrun,hR3.cells.1,hR3.cells.2.1,hR3.cells.2.2.2 4,hR3.cells.2.2.2 5,?_⟩
  rw[jJ9,<-jI2] at ho3
  have hlt:=jAv hR.hq
  have hvq:∀g,(Value.slice av (Q.length+(room.length+1)) cv).ownBlock=some g->g≠q:=fun g hg=>by have:=(ho3.lt g hg).1;simp at this;omega
  refine ⟨?_,?_,?_,fun k hk=>.inr ?_⟩
  ·refine (jB6 _ _ _ _ _ _ _ (jB6 _ _ _ _ _ _ _ hR3.hq)).trans ?_
   unfold rngA
   rw[jMy (i:=6) (by rw[Array.getElem?_setIfInBounds_ne (by decide),Array.getElem?_setIfInBounds_ne (by decide)];exact hR.c6)]
   rfl
  ·have ho4:=jB1 (B':=0) ho3 (Kj _)
   have ho4:w3.ownsRow 0 3 1 (.slice av (Q.length+(room.length+1)) cv) (Q++List.replicate (room.length+1) 0).length (nsC (Q++List.replicate (room.length+1) 0)):=by
    have hlen:(Q++List.replicate (room.length+1) 0).length=Q.length+(room.length+1):=by simp
    rw[hlen]
    exact ho4
   exact jA0 ho4 fun g hg=>(Qy _ _ _ _ (hvq g hg)).trans (Qy _ _ _ _ (hvq g hg))
  ·have hO:Only (q :: mv.ownBlock.toList) w w3:=⟨hb3.os,hb3.tape,hb3.output,hb3.size,fun k hk _=>hb3.block k hk⟩
   exact (hO.setCell (p:=⟨q,4,none⟩) (by simp) _).setCell (p:=⟨q,5,none⟩) (by simp) _
  ·exact (ho3.lt k hk).1
 obtain ⟨c4,c5,c6,fz⟩:=hRd.cells
 obtain ⟨am,cm,rfl⟩:=jBy hR.hm
 generalize room.length+1=K at *
 clear hR hRd hr hl hle hi hz0 hz1 hz2
 go_enter func102,ntmps102
 go_wp2_with fail
 go_region_law (first | (refine jN0 rfl (.tmp 5) (.tmp 11) 44 3 rfl _ _ _ _ (by simp[Act.eval,Act.put]) (by simp[Act.eval,Act.put]) hrun ?_) | (refine step_call rfl 78 cfList #[.tmp 4] #[200] rfl #[.pointer (some ⟨q,4,none⟩)] (by simp[Act.eval,Act.put]) hls ?_;rintro e w2 ⟨v,rfl,ho,hb⟩;obtain ⟨x4,x5,av,nv,cv,w3,hrun,y4,y5,f4,f5,HR⟩:=HX.out w2 v ho hb;clear ho hb;refine ⟨_,rfl,?_⟩))
 all_goals
  go_wp2
  go_end0
  exact ⟨rfl,_,HR.out⟩
theorem jG0 {w:World}{a:Addr}{b j:Nat}{v:Value}(h:b≠a.block):(w.setCell a v).cell? ⟨b,j,none⟩=w.cell? ⟨b,j,none⟩:=by
 unfold World.cell?
 rw[show (w.setCell a v).heap[(⟨b,j,none⟩:Addr).block]?=w.heap[(⟨b,j,none⟩:Addr).block]? from Below.heap_setCell _ _ _ _ h]
theorem jF4 {w:World}{a:Addr}{b j:Nat}{v:Value}(h:b≠a.block):(w.setCell a v).frozen? ⟨b,j,none⟩=w.frozen? ⟨b,j,none⟩:=by
 unfold World.frozen?
 rw[show (w.setCell a v).heap[(⟨b,j,none⟩:Addr).block]?=w.heap[(⟨b,j,none⟩:Addr).block]? from Below.heap_setCell _ _ _ _ h]
theorem Rin.row {w:World}{q h g cap i:Nat}{A:Array Value}{room Q:List Nat}(hR:Rin w q A (.slice (some ⟨g,0,none⟩) room.length cap) room h Q){n:Nat}(hi:room[i]?=some n):w.cell? ⟨g,i,none⟩=some (.int .i64 (n:Int))/\w.frozen? ⟨g,i,none⟩=false:=by
 have hl:=jAy hi
 refine ⟨?_,hR.hm.frozenAt i⟩
 rw[hR.hm.cellAt i (by omega)]
 unfold nsC
 rw[List.getElem?_map,hi]
 rfl
theorem rpop_any (w:World)(q h a:Nat)(A:Array Value)(mv:Value)(room Q:List Nat)(hR:Rin w q A mv room h (a :: Q))(hr:Rng room h (a :: Q))(hl:room.length<=200000) :
 Calls prog 214 #[.pointer (some ⟨q,4,none⟩)] w fun e w'=>e=.returned (.tuple #[.int .i64 (a:Int),.bool true])/\Rto w w' q A mv room ((h+1) % room.length) Q mv:=by
 obtain ⟨hh,hra,hr2⟩:=hr.pop
 obtain ⟨g,cap,rfl⟩:=jHq hR.hm (by omega)
 have hne:g≠q:=hR.qm rfl
 obtain ⟨c4,c5,c6,fz⟩:=hR.cells
 obtain ⟨r0,-⟩:=hR.row hra
 have hcn:((a :: Q).length:Int)=(Q.length:Int)+1:=by simp
 rw[hcn] at c6
 have HR:Hid (∀V,Below w.heap.size w V->V.cell? ⟨q,4,none⟩=some (.slice (some ⟨g,0,none⟩) room.length cap)/\V.cell? ⟨q,5,none⟩=some (.int .i64 (h:Int))/\V.cell? ⟨q,6,none⟩=some (.int .i64 ((Q.length:Int)+1))/\∀j,V.frozen? ⟨q,j,none⟩=false):=fun V hb=>by
  have:=(hR.below hb).cells
  rw[hcn] at this
  exact this
 have h0:(((Q.length:Int)+1) == 0)=false:=beq_false_of_ne (by omega)
 have B0:Hid (∀j,Below w.heap.size w (w.drewN j)):=fun j=>bdr (Qq _ _) j
 have hlt:(h:Int)<(room.length:Int):=by omega
 obtain ⟨h',hh'⟩:∃h',(h+1) % room.length=h':=⟨_,rfl⟩
 rw[hh']
 have hmd:((h:Int)+1) % (room.length:Int)=(h':Int):=by rw[<-hh'];simp
 have hsz:=hR.sz
 have w4:wrap64 (Q.length:Int)=(Q.length:Int):=by have:=hr.le;simp at this;unfold wrap64;omega
 have HC6:Hid (∀V,Below w.heap.size w V->(V.setCell ⟨q,5,none⟩ (.int .i64 (h':Int))).cell? ⟨q,6,none⟩=some (.int .i64 ((Q.length:Int)+1))/\(V.setCell ⟨q,5,none⟩ (.int .i64 (h':Int))).frozen? ⟨q,6,none⟩=false):=fun V hb=>by
  have k:=jB6 _ q 5 _ _ _ (.int .i64 (h':Int)) (hR.below hb).hq
  refine ⟨(jAj k).trans ?_,jAq k⟩
  rw[Array.getElem?_setIfInBounds_ne (by decide),hR.c6,hcn]
 have HE:Hid (∀V,Below w.heap.size w V->Rto w ((V.setCell ⟨q,5,none⟩ (.int .i64 (h':Int))).setCell ⟨q,6,none⟩ (.int .i64 (Q.length:Int))) q A (.slice (some ⟨g,0,none⟩) room.length cap) room h' Q (.slice (some ⟨g,0,none⟩) room.length cap)):=fun V hb=>by
  have hV:=hR.below hb
  refine ⟨?_,jA0 hV.hm fun k hk=>?_,?_,fun k hk=>.inl hk⟩
  ·refine (jB6 _ _ _ _ _ _ _ (jB6 _ _ _ _ _ _ _ hV.hq)).trans ?_
   unfold rngA
   rw[jMy hR.c4]
  ·have hkq:=hV.qm hk
   exact (Qy _ _ _ _ hkq).trans (Qy _ _ _ _ hkq)
  ·have hO:Only (q :: (Value.slice (some ⟨g,0,none⟩) room.length cap).ownBlock.toList) w V:=⟨hb.os,hb.tape,hb.output,hb.size,fun k hk _=>hb.block k hk⟩
   exact (hO.setCell (p:=⟨q,5,none⟩) (by simp) _).setCell (p:=⟨q,6,none⟩) (by simp) _
 clear hR hr hr2 hh' hcn
 generalize room.length=M at *
 generalize Q.length=N at *
 go_enter func214,ntmps214
 go_wp2_with fail
 go_quiet (fail)
 refine jBj (Q:=fun V=>Below w.heap.size w V) _ (B0.out _) ?_
 intro V hV
 have hRd:=HR.out V.drew hV.drew
 obtain ⟨d4,d5,d6,fd⟩:=hRd
 have HB:Hid (Below w.heap.size w V.drew):=hV.drew
 clear c4 c5 c6 fz hV
 have PW:Hid ((V.drew.setCell ⟨q,5,none⟩ (.int .i64 (h':Int))).cell? ⟨q,6,none⟩=some (.int .i64 ((N:Int)+1))/\(V.drew.setCell ⟨q,5,none⟩ (.int .i64 (h':Int))).frozen? ⟨q,6,none⟩=false/\Hid (Rto w ((V.drew.setCell ⟨q,5,none⟩ (.int .i64 (h':Int))).setCell ⟨q,6,none⟩ (.int .i64 (N:Int))) q A (.slice (some ⟨g,0,none⟩) M cap) room h' Q (.slice (some ⟨g,0,none⟩) M cap))):=⟨(HC6.out _ HB.out).1,(HC6.out _ HB.out).2,HE.out _ HB.out⟩
 have f5:=fd 5
 clear fd
 go_wp2_with fail
 go_region
 all_goals
  refine jBj (Q:=fun U=>U.cell? ⟨q,6,none⟩=some (.int .i64 ((N:Int)+1))/\U.frozen? ⟨q,6,none⟩=false/\Hid (Rto w (U.setCell ⟨q,6,none⟩ (.int .i64 (N:Int))) q A (.slice (some ⟨g,0,none⟩) M cap) room h' Q (.slice (some ⟨g,0,none⟩) M cap))) _ PW.out ?_
  rintro U ⟨u6,uf,hRU⟩
  clear d4 d5 d6 f5 PW
  go_wp2
  go_ret2
  exact ⟨rfl,hRU.out⟩
theorem rpop0_any (w:World)(q h:Nat)(A:Array Value)(mv:Value)(room:List Nat)(hR:Rin w q A mv room h []) :
 Calls prog 214 #[.pointer (some ⟨q,4,none⟩)] w fun e w'=>e=.returned (.tuple #[.int .i64 0,.bool false])/\w'=w:=by
 obtain ⟨c4,c5,c6,fz⟩:=hR.cells
 clear hR
 go_enter func214,ntmps214
 go_wp2
 go_ret2
 exact ⟨rfl,rfl⟩
theorem Rin.laid {w V:World}{q h g cap:Nat}{A A0:Array Value}{mv0:Value}{room Q:List Nat}(hR:Rin V q A (.slice (some ⟨g,0,none⟩) room.length cap) room h Q)(hA:rngA A (.slice (some ⟨g,0,none⟩) room.length cap) h (Q.length+1)=rngA A0 (.slice (some ⟨g,0,none⟩) room.length cap) h (Q.length+1))(ho:Only (q :: mv0.ownBlock.toList) w V)(hg:mv0.ownBlock=some g\/w.heap.size<=g)(i n:Nat) :
 Rto w ((V.setCell ⟨g,i,none⟩ (.int .i64 (n:Int))).setCell ⟨q,6,none⟩ (.int .i64 ((Q.length+1:Nat):Int))) q A0 (.slice (some ⟨g,0,none⟩) room.length cap) (room.set i n) h (Q++[n]) mv0:=by
 have hgq:=hR.qm (g:=g) rfl
 have hst:=hR.hm.stored i (.int .i64 (n:Int))
 refine ⟨?_,?_,?_,fun k hk=>?_⟩
 ·refine (jB6 _ _ _ _ _ _ _ ((Qy _ _ _ _ (fun e=>hgq e.symm)).trans hR.hq)).trans ?_
  rw[show (Q++[n]).length=Q.length+1 by simp,<-hA]
  unfold rngA
  rw[jMy hR.c4,jMy hR.c5]
 ·refine jA0 ?_ fun k hk=>Qy _ _ _ _ (fun e=>hgq ?_)
  ·rw[List.length_set]
   have h2:=hst.1
   rw[show (nsC room).set i (.int .i64 (n:Int))=nsC (room.set i n) by unfold nsC;rw[List.map_set]] at h2
   exact h2
  ·simp[Value.ownBlock] at hk
   exact hk.trans e
 ·refine Only.setCell (p:=⟨q,6,none⟩) ?_ (by simp) _
  refine jB8 ho hst.2 fun k hk=>?_
  injection hk with hk
  subst hk
  rcases hg with h1 | h1
  ·left;rw[h1];simp
  ·exact .inr h1
 ·simp[Value.ownBlock] at hk
  subst hk
  exact hg
theorem rpush_any (w:World)(q h n:Nat)(A:Array Value)(mv:Value)(room Q:List Nat)(hR:Rin w q A mv room h Q)(hr:Rng room h Q)(hl:room.length<=200000) :
 Calls prog 67 #[.pointer (some ⟨q,4,none⟩),.int .i64 (n:Int)] w fun e w'=>e=.returned (.tuple #[])/\∃mv' room' h',Rto w w' q A mv' room' h' (Q++[n]) mv/\Rng room' h' (Q++[n])/\room'.length<=max room.length (2*Q.length+1):=by
 have hle:=hr.le
 have B0:Hid (∀j,Below w.heap.size w (w.drewN j)):=fun j=>bdr (Qq _ _) j
 obtain ⟨c4,c5,c6,fz⟩:=hR.cells
 by_cases hfull:Q.length<room.length
 ·obtain ⟨g,cap,rfl⟩:=jHq hR.hm (by omega)
  have hgq:g≠q:=hR.qm rfl
  have hne:((Q.length:Int) == (room.length:Int))=false:=beq_false_of_ne (by omega)
  have hh:h<room.length:=by
   rcases hr.hm with x | ⟨x,y⟩
   ·exact x
   ·rw[x] at hfull;simp at hfull
  obtain ⟨i,hi⟩:∃i,(h+Q.length) % room.length=i:=⟨_,rfl⟩
  have hil:i<room.length:=by rw[<-hi];exact Nat.mod_lt _ (by omega)
  have hmd:((h:Int)+(Q.length:Int)) % (room.length:Int)=(i:Int):=by rw[<-hi];simp
  have hiI:(i:Int)<(room.length:Int):=by omega
  have w1:IntKind.i64.wrap ((h:Int)+(Q.length:Int))=(h:Int)+(Q.length:Int):=by rw[QX];omega
  have w2:IntKind.i64.wrap ((Q.length:Int)+1)=((Q.length+1:Nat):Int):=by rw[QX];omega
  have hm0:¬(room.length:Int)=0:=by omega
  have HE:Hid (∀V,Below w.heap.size w V->∃mv' room' h',Rto w ((V.setCell ⟨g,i,none⟩ (.int .i64 (n:Int))).setCell ⟨q,6,none⟩ (.int .i64 ((Q.length+1:Nat):Int))) q A mv' room' h' (Q++[n]) (.slice (some ⟨g,0,none⟩) room.length cap)/\Rng room' h' (Q++[n])/\room'.length<=max room.length (2*Q.length+1)):=fun V hb=>by
   refine ⟨_,_,_,(hR.below hb).laid rfl ⟨hb.os,hb.tape,hb.output,hb.size,fun k hk _=>hb.block k hk⟩ (.inl rfl) i n,?_,by rw[List.length_set];omega⟩
   rw[<-hi]
   exact hr.push hfull n
  have HR:Hid (∀V,Below w.heap.size w V->V.cell? ⟨q,4,none⟩=some (.slice (some ⟨g,0,none⟩) room.length cap)/\V.cell? ⟨q,5,none⟩=some (.int .i64 (h:Int))/\V.cell? ⟨q,6,none⟩=some (.int .i64 (Q.length:Int))/\V.frozen? ⟨q,6,none⟩=false/\(∃y:Int,V.cell? ⟨g,i,none⟩=some (.int .i64 y))/\V.frozen? ⟨g,i,none⟩=false):=fun V hb=>by
   have x:=hR.below hb
   obtain ⟨y1,y2⟩:=x.row (Qv hil)
   exact ⟨x.cells.1,x.cells.2.1,x.cells.2.2.1,x.cells.2.2.2 6,⟨_,y1⟩,y2⟩
  clear hR hr hle hi hil hh hfull fz hl
  generalize room.length=M at *
  generalize hN:Q.length=N at *
  generalize hN1:N+1=N1 at *
  go_enter func67,ntmps67
  go_wp2_with fail
  go_quiet (fail)
  refine jBj (Q:=fun V=>Below w.heap.size w V) _ (B0.out _) ?_
  intro V hV
  have HB:Hid (Below w.heap.size w V.drew):=hV.drew
  obtain ⟨d4,d5,d6,f6,⟨y,dg⟩,fg⟩:=HR.out V.drew hV.drew
  clear c4 c5 c6 hV
  have PW:Hid ((V.drew.setCell ⟨g,i,none⟩ (.int .i64 (n:Int))).cell? ⟨q,6,none⟩=some (.int .i64 (N:Int))/\(V.drew.setCell ⟨g,i,none⟩ (.int .i64 (n:Int))).frozen? ⟨q,6,none⟩=false/\Hid (∃mv' room' h',Rto w ((V.drew.setCell ⟨g,i,none⟩ (.int .i64 (n:Int))).setCell ⟨q,6,none⟩ (.int .i64 (N1:Int))) q A mv' room' h' (Q++[n]) (.slice (some ⟨g,0,none⟩) M cap)/\Rng room' h' (Q++[n])/\room'.length<=max M (2*N+1))):=⟨(jG0 (fun e=>hgq e.symm)).trans d6,(jF4 (fun e=>hgq e.symm)).trans f6,HE.out _ HB.out⟩
  go_wp2_with fail
  go_region
  all_goals
   refine jBj (Q:=fun U=>U.cell? ⟨q,6,none⟩=some (.int .i64 (N:Int))/\U.frozen? ⟨q,6,none⟩=false/\Hid (∃mv' room' h',Rto w (U.setCell ⟨q,6,none⟩ (.int .i64 (N1:Int))) q A mv' room' h' (Q++[n]) (.slice (some ⟨g,0,none⟩) M cap)/\Rng room' h' (Q++[n])/\room'.length<=max M (2*N+1))) _ PW.out ?_
   rintro U ⟨u6,uf,hRU⟩
   clear d4 d5 d6 f6 PW dg fg
   go_wp2
   go_end0
   exact ⟨rfl,hRU.out⟩
 ·have hfu:Q.length=room.length:=by omega
  have heq:((Q.length:Int) == (room.length:Int))=true:=by rw[hfu];exact beq_self_eq_true _
  have hrun:=fun (V:World) (hb:Below w.heap.size w V)=>grow2_any V q h A mv room Q (hR.below hb) hr hl
  have HX:Hid (∀V w2 mv',Below w.heap.size w V->Rto V w2 q A mv' (Q++List.replicate (room.length+1) 0) 0 Q mv->∃g cap,mv'=.slice (some ⟨g,0,none⟩) (2*Q.length+1) cap/\g≠q/\w2.cell? ⟨q,4,none⟩=some mv'/\w2.cell? ⟨q,5,none⟩=some (.int .i64 0)/\w2.cell? ⟨q,6,none⟩=some (.int .i64 (Q.length:Int))/\w2.frozen? ⟨q,6,none⟩=false/\(∃y:Int,w2.cell? ⟨g,Q.length,none⟩=some (.int .i64 y))/\w2.frozen? ⟨g,Q.length,none⟩=false /\
   ∀U:World,U.heap=w2.heap->U.os=w2.os->U.tape=w2.tape->U.output=w2.output->∃mv' room' h',Rto w ((U.setCell ⟨g,Q.length,none⟩ (.int .i64 (n:Int))).setCell ⟨q,6,none⟩ (.int .i64 ((Q.length+1:Nat):Int))) q A mv' room' h' (Q++[n]) mv/\Rng room' h' (Q++[n])/\room'.length<=max room.length (2*Q.length+1)):=fun V w2 mv' hb hT=>by
   have hlen:(Q++List.replicate (room.length+1) 0).length=2*Q.length+1:=by simp;omega
   obtain ⟨g,cap,rfl⟩:=jHq hT.hm (by rw[hlen];omega)
   have hsz:=hR.sz
   have hR2:Rin w2 q (rngA A (.slice (some ⟨g,0,none⟩) (Q++List.replicate (room.length+1) 0).length cap) 0 Q.length) (.slice (some ⟨g,0,none⟩) (Q++List.replicate (room.length+1) 0).length cap) (Q++List.replicate (room.length+1) 0) 0 Q:=⟨hT.hq,by unfold rngA;simpa using hsz,by unfold rngA;simp[hsz],by unfold rngA;simp[hsz],by unfold rngA;simp[hsz],hT.hm⟩
   have hrg:=rng_grown Q (room.length+1) (by omega)
   have hpu:=hrg.push (by rw[hlen];omega) n
   have hidx:(0+Q.length) % (Q++List.replicate (room.length+1) 0).length=Q.length:=by rw[Nat.zero_add,hlen];exact Nat.mod_eq_of_lt (by omega)
   rw[hidx] at hpu
   obtain ⟨y1,y2⟩:=hR2.row (i:=Q.length) (Qv (by rw[hlen];omega))
   refine ⟨g,cap,by rw[hlen],hR2.qm rfl,hR2.cells.1,hR2.cells.2.1,hR2.cells.2.2.1,hR2.cells.2.2.2 6,⟨_,y1⟩,y2,fun U e1 e2 e3 e4=>?_⟩
   have hbU:Below w2.heap.size w2 U:=⟨e2,e3,e4,by rw[e1];exact Qj _,fun k _=>by rw[e1]⟩
   have hRU:=hR2.below hbU
   have hO:Only (q :: mv.ownBlock.toList) w U:=by
    refine Only.trans (b:=w2) (Only.trans (b:=V) ⟨hb.os,hb.tape,hb.output,hb.size,fun k hk _=>hb.block k hk⟩ hT.ho) ⟨e2,e3,e4,by rw[e1];exact Qj _,fun k _ _=>by rw[e1]⟩
   have hgg:mv.ownBlock=some g\/w.heap.size<=g:=by
    rcases hT.hb g rfl with h1 | h1
    ·exact .inl h1
    ·exact .inr (Qk hb.size h1)
   refine ⟨_,_,_,hRU.laid (A0:=A) ?_ hO hgg Q.length n,hpu,by rw[List.length_set,hlen];omega⟩
   unfold rngA
   apply Array.ext_getElem?
   intro j
   simp only[QZ,Array.size_setIfInBounds,hsz]
   repeat' split
   all_goals first | rfl | omega
  have hmd:(Q.length:Int) % ((2*Q.length+1:Nat):Int)=(Q.length:Int):=Int.emod_eq_of_lt (by omega) (by omega)
  have hiI:(Q.length:Int)<((2*Q.length+1:Nat):Int):=by omega
  have hm0:¬((2*Q.length+1:Nat):Int)=0:=by omega
  have w2:IntKind.i64.wrap ((Q.length:Int)+1)=((Q.length+1:Nat):Int):=by rw[QX];omega
  have w3:IntKind.i64.wrap (Q.length:Int)=(Q.length:Int):=by rw[QX];omega
  have HRUN:Hid _:=hrun
  obtain ⟨am,cm,rfl⟩:=jBy hR.hm
  clear hR hr hle fz hl hrun hfull
  generalize hM2:2*Q.length+1=M2 at *
  generalize hM:room.length=M at *
  generalize hN:Q.length=N at *
  generalize hN1:N+1=N1 at *
  clear hM hM2 hN hN1 hfu
  go_enter func67,ntmps67
  go_wp2_with fail
  go_quiet (fail)
  refine jBj (Q:=fun V=>Below w.heap.size w V) _ (B0.out _) ?_
  intro V hV
  go_wp2_with fail
  refine (HRUN.out V hV).mono ?_
  rintro e w2 ⟨rfl,mv',hT⟩
  obtain ⟨g,cap,rfl,hgq,d4,d5,d6,f6,⟨y,dg⟩,fg,hE⟩:=HX.out V w2 mv' hV hT
  have HE:Hid _:=hE w2.drew rfl rfl rfl rfl
  have PW:Hid ((w2.drew.setCell ⟨g,N,none⟩ (.int .i64 (n:Int))).cell? ⟨q,6,none⟩=some (.int .i64 (N:Int))/\(w2.drew.setCell ⟨g,N,none⟩ (.int .i64 (n:Int))).frozen? ⟨q,6,none⟩=false/\Hid (∃mv' room' h',Rto w ((w2.drew.setCell ⟨g,N,none⟩ (.int .i64 (n:Int))).setCell ⟨q,6,none⟩ (.int .i64 (N1:Int))) q A mv' room' h' (Q++[n]) (.slice am M cm)/\Rng room' h' (Q++[n])/\room'.length<=max M M2)):=⟨(jG0 (fun e=>hgq e.symm)).trans d6,(jF4 (fun e=>hgq e.symm)).trans f6,HE.out⟩
  have d4:w2.drew.cell? ⟨q,4,none⟩=_:=d4
  have d5:w2.drew.cell? ⟨q,5,none⟩=_:=d5
  have d6:w2.drew.cell? ⟨q,6,none⟩=_:=d6
  have f6:w2.drew.frozen? ⟨q,6,none⟩=false:=f6
  have dg:w2.drew.cell? ⟨g,N,none⟩=_:=dg
  have fg:w2.drew.frozen? ⟨g,N,none⟩=false:=fg
  clear hE HE hT hV c4 c5 c6 HX HRUN B0
  go_wp2_with fail
  go_region
  all_goals
   refine jBj (Q:=fun U=>U.cell? ⟨q,6,none⟩=some (.int .i64 (N:Int))/\U.frozen? ⟨q,6,none⟩=false/\Hid (∃mv' room' h',Rto w (U.setCell ⟨q,6,none⟩ (.int .i64 (N1:Int))) q A mv' room' h' (Q++[n]) (.slice am M cm)/\Rng room' h' (Q++[n])/\room'.length<=max M M2)) _ PW.out ?_
   rintro U ⟨u6,uf,hRU⟩
   clear d4 d5 d6 f6 PW dg fg
   go_wp2
   go_end0
   exact ⟨rfl,hRU.out⟩
