import Derived.Test.YtfnklhajafmooaaGreatDoorG11
import Derived.Test.YtfnklhajafmooaaGreatDoorTrTo
import Derived.Test.YtfnklhajafmooaaGreatDoorG20
set_option maxHeartbeats 4000000
set_option maxRecDepth 20000
namespace Go.Proofs.YtfnklhajafmooaaGreatDoor.Tr
open Go.RowKit Go.Lib Go.Deep Go.Proofs.Tryz
theorem step_callv {P:Program}{ops:Array Oper}{o:Oper}{a:Act}{w:World}{K:Act->World->Prop}{Q:Exit->Act->World->Prop}{E:Prop}(hg:o.guard=none)(f:FuncId)(hcf:∀args w,(callFunc f args).run P w=.ok (.enter f args) w)(x:Operand)(xs:Array Operand)(ts:Array TypeId)(ho:o.op=Op.call { callee:=Callee.value x,args:=xs,argTypes:=ts })(hx:a.eval x=.func (.func f) #[] #[])(args:Array Value)(hv:xs.map a.eval=args){R:Ending->World->Prop}(hc:Calls P f args w R)
 (hR:∀e w',R e w'->∃v,e=.returned v/\K (a.put o.dst v) w'):if Region.wanted o (yielded ops a.tmps)=true then Oper.wp P o a w K Q else E:=by
 have hw:Region.wanted o (yielded ops a.tmps)=true:=by simp[Region.wanted,hg]
 rw[if_pos hw]
 have hrun:(execOp a.eval o).run P w=.ok (.enter f args) w:=by
  unfold execOp
  simp[ho,resolve,invoke,Deferred.ofValue,hcf,hv,hx]
 unfold Oper.wp
 rw[hrun,Oper.upon_enter]
 refine hc.mono fun e w'' hh=>?_
 obtain ⟨v,rfl,hk⟩:=hR e w'' hh
 exact hk
theorem jHz (w:World)(b q:Nat)(h:w.cell? ⟨b,0,none⟩=some (.pointer (some ⟨q,0,none⟩))):Calls prog 31 #[.pointer (some ⟨b,0,none⟩)] w fun e w'=>e=.returned (.bool true)/\w'=w:=by
 go_enter func31,ntmps31
 go_wp2
 go_ret
 exact ⟨rfl,rfl⟩
theorem Turn.rows2 {F:List Nat}{w W:World}{q nn g b:Nat}{T:Ts}{c c' A B:Array Value}(h:Turn F w W q nn T)(hg:w.heap.size<=g)(hb:w.heap.size<=b)(kg:W.heap[g]?=some (.cells c 66 (0,0)))(kb:W.heap[b]?=some (.cells c' 68 (0,0))):Turn F w ((W.setRow g A).setRow b B) q nn T:=by
 refine h.other (S:=[g,b]) ⟨rfl,rfl,rfl,by simp,fun k _ hk=>?_⟩ fun k hk=>?_
 ·simp only[List.mem_cons,List.not_mem_nil,or_false,not_or] at hk
  exact (Qz _ _ _ _ hk.2).trans (Qz _ _ _ _ hk.1)
 ·simp only[List.mem_cons,List.not_mem_nil,or_false] at hk
  rcases hk with rfl | rfl
  ·exact ⟨hg,_,_,kg,by decide⟩
  ·exact ⟨hb,_,_,kb,by decide⟩
theorem jH4 (w:World)(b q:Nat)(F:List Nat)(nn:Nat)(T:Ts)(A:Ans)(E:Int)(f:FuncId)(bt ba bn:Bool)(ok oa on:Int)(op ot od:ByteArray)
 (hbk:w.heap[b]?=some (.cells #[.pointer (some ⟨q,0,none⟩)] 94 (0,0))) (hL:Lay w q F nn T)
 (hask:∀V,Calls prog 34 #[.agg #[.int .i64 ok,.string op,.string ot,.int .i64 oa,.int .i64 on,.string od]] V fun e w'=>AskP V w' e E f bt ba bn ok oa on op ot od) (hcf:∀args w,(callFunc f args).run prog w=.ok (.enter f args) w)
 (hf:E=0->∀V sa n sc ta tn tc,Below w.heap.size w V->Pa.See V (.slice sa n sc) (Pa.jB3 op)->(bt=true->Pa.See V (.slice ta tn tc) (Pa.jB3 ot))->Calls prog f #[.pointer (some ⟨q,0,none⟩),.agg #[.int .i64 ok,.string op,.string ot,.int .i64 oa,.int .i64 on,.string od,.slice sa n sc,.slice ta tn tc]] V fun e w'=>Did F V w' q (nn+1) A e) (hA:E≠0->A=ref T E) :
 Calls prog 17 #[.pointer (some ⟨b,0,none⟩),.agg #[.int .i64 ok,.string op,.string ot,.int .i64 oa,.int .i64 on,.string od]] w fun e w'=>Did F w w' q (nn+1) A e:=by
 obtain ⟨W,hW,hb,kp,k0,k1⟩:=jC5 w #[.int .i64 ok,.string op,.string ot,.int .i64 oa,.int .i64 on,.string od] R0 E0 72 66 68
 obtain ⟨p0,p1,p2,p3,p4,p5⟩:=jB4 kp
 have HBW:Hid (Below w.heap.size w W):=hb
 have HQW:Hid _:=k0
 have HEW:Hid _:=k1
 have HLay:Hid (∀W',Below w.heap.size w W'->Lay W' q F nn T):=fun W' hb=>hL.below hb
 have HTB:Hid (∀V,Below w.heap.size w V->V.heap[b]?=some (.cells #[.pointer (some ⟨q,0,none⟩)] 94 (0,0))):=fun V hb=>(hb.block _ (jAv hbk)).trans hbk
 have HNF:Hid (b<w.heap.size/\∀V,Below w.heap.size w V->b ∉ F):=⟨jAv hbk,fun V _=>hL.notin hbk (by decide)⟩
 have htb:W.cell? ⟨b,0,none⟩=some (.pointer (some ⟨q,0,none⟩)):=(jAj (HTB.out _ hb)).trans rfl
 have HASK:Hid _:=hask
 have HFF:Hid _:=hf
 have HAA:Hid _:=hA
 clear hb kp k0 k1 hL hbk hask hf hA
 unfold R0 E0 at hW
 go_enter func17,ntmps17
 go_wp2_with fail
 refine (jHz W b q htb).mono ?_
 rintro e w2 ⟨rfl,rfl⟩
 go_wp2_with fail
 refine (HASK.out w2).mono ?_
 rintro e w3 (⟨HE0,HY⟩ | ⟨HE0,HN⟩)
 ·have HE:Hid (E=0):=HE0
  obtain ⟨sa,n,sc,ta,tn,tc,rfl,hs,ht,hb3⟩:=HY
  obtain ⟨W5,hW5,hb5,h5,h6⟩:=jDy w3 ZO ZR 99 101
  have hbw3:Below w.heap.size w w3:=jBq hb3 HBW.out
  have hlt:w.heap.size+1+1<w3.heap.size:=Qx (jAv HEW.out) hb3.size
  obtain ⟨W7,hW7⟩:∃W7,(W5.setRow w3.heap.size #[.func (.func f) #[] #[],.bool bt,.bool ba,.bool bn]).setRow (w3.heap.size+1) #[.int .i64 ok,.string op,.string ot,.int .i64 oa,.int .i64 on,.string od,.slice sa n sc,.slice ta tn tc]=W7:=⟨_,rfl⟩
  have k5:W7.heap[w3.heap.size]?=some (.cells #[.func (.func f) #[] #[],.bool bt,.bool ba,.bool bn] 99 (0,0)):=by
   rw[<-hW7]
   exact (Qz _ _ _ _ (by omega)).trans (Qa _ _ _ _ _ _ h5)
  have k6:W7.heap[w3.heap.size+1]?=some (.cells #[.int .i64 ok,.string op,.string ot,.int .i64 oa,.int .i64 on,.string od,.slice sa n sc,.slice ta tn tc] 101 (0,0)):=by
   rw[<-hW7]
   exact Qa _ _ _ _ _ _ ((Qz _ _ _ _ (by omega)).trans h6)
  have hb37:Below w3.heap.size w3 W7:=by
   rw[<-hW7]
   exact jAx (jAx hb5 (Qj _) _) (by omega) _
  have hb7:Below w.heap.size w W7:=jBq hb37 hbw3
  have HQ7:Hid (W7.heap[w.heap.size+1]?=some (.cells R0 66 (0,0))):=((jBq hb37 hb3).block _ (jAv HQW.out)).trans HQW.out
  have HE7:Hid (W7.heap[w.heap.size+1+1]?=some (.cells E0 68 (0,0))):=((jBq hb37 hb3).block _ (jAv HEW.out)).trans HEW.out
  have hone:(#[.func (.func f) #[] #[],.bool bt,.bool ba,.bool bn]:Array Value).all (·.oneCell')=true:=by simp[Value.oneCell']
  have hone2:(#[.int .i64 ok,.string op,.string ot,.int .i64 oa,.int .i64 on,.string od,.slice sa n sc,.slice ta tn tc]:Array Value).all (·.oneCell')=true:=by simp[Value.oneCell']
  obtain ⟨g6,hg6⟩:∃g6,w3.heap.size=g6:=⟨_,rfl⟩
  obtain ⟨g7,hg7⟩:∃g7,w3.heap.size+1=g7:=⟨_,rfl⟩
  have HG:Hid (w.heap.size+1+1<g6/\w.heap.size+1+1<g7/\b<w.heap.size/\g6<W7.heap.size/\g7<W7.heap.size):=⟨by omega,by omega,HNF.out.1,hg6▸jAv k5,hg7▸jAv k6⟩
  have HK:Hid (∀V:World,V.heap[g6]?=W7.heap[g6]?->V.heap[g7]?=W7.heap[g7]?->V.heap[b]?=W7.heap[b]?->V.cell? ⟨g6,0,none⟩=some (.func (.func f) #[] #[])/\V.cell? ⟨b,0,none⟩=some (.pointer (some ⟨q,0,none⟩))/\V.cell? ⟨g7,0,none⟩=some (.int .i64 ok)/\V.cell? ⟨g7,1,none⟩=some (.string op)/\V.cell? ⟨g7,2,none⟩=some (.string ot)/\V.cell? ⟨g7,3,none⟩=some (.int .i64 oa)/\V.cell? ⟨g7,4,none⟩=some (.int .i64 on)/\V.cell? ⟨g7,5,none⟩=some (.string od)/\V.cell? ⟨g7,6,none⟩=some (.slice sa n sc)/\V.cell? ⟨g7,7,none⟩=some (.slice ta tn tc)):=fun V e6 e7 eb=>by
   rw[<-hg6] at e6
   rw[<-hg7] at e7
   rw[<-hg6,<-hg7]
   exact ⟨(jH3 (e6.trans k5)).1,(jAj (eb.trans (HTB.out _ hb7))).trans rfl,jC8 (e7.trans k6)⟩
  have HCALL:Hid (Calls prog f #[.pointer (some ⟨q,0,none⟩),.agg #[.int .i64 ok,.string op,.string ot,.int .i64 oa,.int .i64 on,.string od,.slice sa n sc,.slice ta tn tc]] W7.drew fun e w8=>∃va vn vc r0 r1 r2 r3 f0 f1 f2 f3 f4 f5 f6,e=.returned (.tuple #[.agg #[.int .i64 r0,.string e0,.int .i64 r1,.slice va vn vc,.int .i64 r2,.int .i64 r3],.agg #[.int .i64 f0,.int .i64 f1,.int .i64 f2,.int .i64 f3,.int .i64 f4,.string f5,.int .i64 f6]])/\Hid ((w8.cell? ⟨g6,0,none⟩=some (.func (.func f) #[] #[])/\w8.cell? ⟨b,0,none⟩=some (.pointer (some ⟨q,0,none⟩))/\w8.cell? ⟨g7,0,none⟩=some (.int .i64 ok)/\w8.cell? ⟨g7,1,none⟩=some (.string op)/\w8.cell? ⟨g7,2,none⟩=some (.string ot)/\w8.cell? ⟨g7,3,none⟩=some (.int .i64 oa)/\w8.cell? ⟨g7,4,none⟩=some (.int .i64 on)/\w8.cell? ⟨g7,5,none⟩=some (.string od)/\w8.cell? ⟨g7,6,none⟩=some (.slice sa n sc)/\w8.cell? ⟨g7,7,none⟩=some (.slice ta tn tc))/\w8.heap[w.heap.size+1]?=some (.cells R0 66 (0,0))/\(w8.setRow (w.heap.size+1) #[.int .i64 r0,.string e0,.int .i64 r1,.slice va vn vc,.int .i64 r2,.int .i64 r3]).heap[w.heap.size+1+1]?=some (.cells E0 68 (0,0))/\((w8.setRow (w.heap.size+1) #[.int .i64 r0,.string e0,.int .i64 r1,.slice va vn vc,.int .i64 r2,.int .i64 r3]).cell? ⟨g6,0,none⟩=some (.func (.func f) #[] #[])/\(w8.setRow (w.heap.size+1) #[.int .i64 r0,.string e0,.int .i64 r1,.slice va vn vc,.int .i64 r2,.int .i64 r3]).cell? ⟨b,0,none⟩=some (.pointer (some ⟨q,0,none⟩))/\(w8.setRow (w.heap.size+1) #[.int .i64 r0,.string e0,.int .i64 r1,.slice va vn vc,.int .i64 r2,.int .i64 r3]).cell? ⟨g7,0,none⟩=some (.int .i64 ok)/\(w8.setRow (w.heap.size+1) #[.int .i64 r0,.string e0,.int .i64 r1,.slice va vn vc,.int .i64 r2,.int .i64 r3]).cell? ⟨g7,1,none⟩=some (.string op)/\(w8.setRow (w.heap.size+1) #[.int .i64 r0,.string e0,.int .i64 r1,.slice va vn vc,.int .i64 r2,.int .i64 r3]).cell? ⟨g7,2,none⟩=some (.string ot)/\(w8.setRow (w.heap.size+1) #[.int .i64 r0,.string e0,.int .i64 r1,.slice va vn vc,.int .i64 r2,.int .i64 r3]).cell? ⟨g7,3,none⟩=some (.int .i64 oa)/\(w8.setRow (w.heap.size+1) #[.int .i64 r0,.string e0,.int .i64 r1,.slice va vn vc,.int .i64 r2,.int .i64 r3]).cell? ⟨g7,4,none⟩=some (.int .i64 on)/\(w8.setRow (w.heap.size+1) #[.int .i64 r0,.string e0,.int .i64 r1,.slice va vn vc,.int .i64 r2,.int .i64 r3]).cell? ⟨g7,5,none⟩=some (.string od)/\(w8.setRow (w.heap.size+1) #[.int .i64 r0,.string e0,.int .i64 r1,.slice va vn vc,.int .i64 r2,.int .i64 r3]).cell? ⟨g7,6,none⟩=some (.slice sa n sc)/\(w8.setRow (w.heap.size+1) #[.int .i64 r0,.string e0,.int .i64 r1,.slice va vn vc,.int .i64 r2,.int .i64 r3]).cell? ⟨g7,7,none⟩=some (.slice ta tn tc))/\(((w8.setRow (w.heap.size+1) #[.int .i64 r0,.string e0,.int .i64 r1,.slice va vn vc,.int .i64 r2,.int .i64 r3]).setRow (w.heap.size+1+1) #[.int .i64 f0,.int .i64 f1,.int .i64 f2,.int .i64 f3,.int .i64 f4,.string f5,.int .i64 f6]).cell? ⟨g6,0,none⟩=some (.func (.func f) #[] #[])/\((w8.setRow (w.heap.size+1) #[.int .i64 r0,.string e0,.int .i64 r1,.slice va vn vc,.int .i64 r2,.int .i64 r3]).setRow (w.heap.size+1+1) #[.int .i64 f0,.int .i64 f1,.int .i64 f2,.int .i64 f3,.int .i64 f4,.string f5,.int .i64 f6]).cell? ⟨b,0,none⟩=some (.pointer (some ⟨q,0,none⟩))/\((w8.setRow (w.heap.size+1) #[.int .i64 r0,.string e0,.int .i64 r1,.slice va vn vc,.int .i64 r2,.int .i64 r3]).setRow (w.heap.size+1+1) #[.int .i64 f0,.int .i64 f1,.int .i64 f2,.int .i64 f3,.int .i64 f4,.string f5,.int .i64 f6]).cell? ⟨g7,0,none⟩=some (.int .i64 ok)/\((w8.setRow (w.heap.size+1) #[.int .i64 r0,.string e0,.int .i64 r1,.slice va vn vc,.int .i64 r2,.int .i64 r3]).setRow (w.heap.size+1+1) #[.int .i64 f0,.int .i64 f1,.int .i64 f2,.int .i64 f3,.int .i64 f4,.string f5,.int .i64 f6]).cell? ⟨g7,1,none⟩=some (.string op)/\((w8.setRow (w.heap.size+1) #[.int .i64 r0,.string e0,.int .i64 r1,.slice va vn vc,.int .i64 r2,.int .i64 r3]).setRow (w.heap.size+1+1) #[.int .i64 f0,.int .i64 f1,.int .i64 f2,.int .i64 f3,.int .i64 f4,.string f5,.int .i64 f6]).cell? ⟨g7,2,none⟩=some (.string ot)/\((w8.setRow (w.heap.size+1) #[.int .i64 r0,.string e0,.int .i64 r1,.slice va vn vc,.int .i64 r2,.int .i64 r3]).setRow (w.heap.size+1+1) #[.int .i64 f0,.int .i64 f1,.int .i64 f2,.int .i64 f3,.int .i64 f4,.string f5,.int .i64 f6]).cell? ⟨g7,3,none⟩=some (.int .i64 oa)/\((w8.setRow (w.heap.size+1) #[.int .i64 r0,.string e0,.int .i64 r1,.slice va vn vc,.int .i64 r2,.int .i64 r3]).setRow (w.heap.size+1+1) #[.int .i64 f0,.int .i64 f1,.int .i64 f2,.int .i64 f3,.int .i64 f4,.string f5,.int .i64 f6]).cell? ⟨g7,4,none⟩=some (.int .i64 on)/\((w8.setRow (w.heap.size+1) #[.int .i64 r0,.string e0,.int .i64 r1,.slice va vn vc,.int .i64 r2,.int .i64 r3]).setRow (w.heap.size+1+1) #[.int .i64 f0,.int .i64 f1,.int .i64 f2,.int .i64 f3,.int .i64 f4,.string f5,.int .i64 f6]).cell? ⟨g7,5,none⟩=some (.string od)/\((w8.setRow (w.heap.size+1) #[.int .i64 r0,.string e0,.int .i64 r1,.slice va vn vc,.int .i64 r2,.int .i64 r3]).setRow (w.heap.size+1+1) #[.int .i64 f0,.int .i64 f1,.int .i64 f2,.int .i64 f3,.int .i64 f4,.string f5,.int .i64 f6]).cell? ⟨g7,6,none⟩=some (.slice sa n sc)/\((w8.setRow (w.heap.size+1) #[.int .i64 r0,.string e0,.int .i64 r1,.slice va vn vc,.int .i64 r2,.int .i64 r3]).setRow (w.heap.size+1+1) #[.int .i64 f0,.int .i64 f1,.int .i64 f2,.int .i64 f3,.int .i64 f4,.string f5,.int .i64 f6]).cell? ⟨g7,7,none⟩=some (.slice ta tn tc))/\((w8.setRow (w.heap.size+1) #[.int .i64 r0,.string e0,.int .i64 r1,.slice va vn vc,.int .i64 r2,.int .i64 r3]).setRow (w.heap.size+1+1) #[.int .i64 f0,.int .i64 f1,.int .i64 f2,.int .i64 f3,.int .i64 f4,.string f5,.int .i64 f6]).heap[w.heap.size+1]?=some (.cells #[.int .i64 r0,.string e0,.int .i64 r1,.slice va vn vc,.int .i64 r2,.int .i64 r3] 66 (0,0))/\((w8.setRow (w.heap.size+1) #[.int .i64 r0,.string e0,.int .i64 r1,.slice va vn vc,.int .i64 r2,.int .i64 r3]).setRow (w.heap.size+1+1) #[.int .i64 f0,.int .i64 f1,.int .i64 f2,.int .i64 f3,.int .i64 f4,.string f5,.int .i64 f6]).heap[w.heap.size+1+1]?=some (.cells #[.int .i64 f0,.int .i64 f1,.int .i64 f2,.int .i64 f3,.int .i64 f4,.string f5,.int .i64 f6] 68 (0,0))/\Did F w ((w8.setRow (w.heap.size+1) #[.int .i64 r0,.string e0,.int .i64 r1,.slice va vn vc,.int .i64 r2,.int .i64 r3]).setRow (w.heap.size+1+1) #[.int .i64 f0,.int .i64 f1,.int .i64 f2,.int .i64 f3,.int .i64 f4,.string f5,.int .i64 f6]) q (nn+1) A (.returned (.tuple #[.agg #[.int .i64 r0,.string e0,.int .i64 r1,.slice va vn vc,.int .i64 r2,.int .i64 r3],.agg #[.int .i64 f0,.int .i64 f1,.int .i64 f2,.int .i64 f3,.int .i64 f4,.string f5,.int .i64 f6]])))):=by
   refine (HFF.out HE.out W7.drew sa n sc ta tn tc hb7.drew (hs.below (hb37.trans ((Qq _ _).drew.mono hb37.size))) (fun h=>(ht h).below (hb37.trans ((Qq _ _).drew.mono hb37.size)))).mono ?_
   rintro e w8 ⟨v,rfl,hO,hT⟩
   obtain ⟨va,vc,rfl⟩:=hO.len
   have hL7:=HLay.out W7.drew hb7.drew
   have keep:∀{k:Nat} {c:Array Value} {t:TypeId},W7.heap[k]?=some (.cells c t (0,0))->¬(t=138\/t=187\/t=191)->w8.heap[k]?=W7.heap[k]?:=fun {k c t} h1 h2=>(hT.1.block k (jAv h1) (hL7.notin (w:=W7.drew) h1 h2))
   have e5:=keep k5 (by decide)
   have e6:=keep k6 (by decide)
   have eb:=keep (HTB.out _ hb7) (by decide)
   have eQ:=(keep HQ7.out (by decide)).trans HQ7.out
   have eE:=(keep HE7.out (by decide)).trans HE7.out
   rw[hg6] at e5
   rw[hg7] at e6
   have hG:=HG.out
   refine ⟨va,_,vc,A.1.code,A.1.n,A.1.kind,A.1.size,A.2.1.kind,A.2.1.file,A.2.1.gone,A.2.1.at_,A.2.1.n,A.2.1.data,A.2.1.size,rfl,HK.out _ e5 e6 eb,eQ,(Qz _ _ _ _ (by omega)).trans eE,HK.out _ ((Qz _ _ _ _ (by omega)).trans e5) ((Qz _ _ _ _ (by omega)).trans e6) ((Qz _ _ _ _ (by omega)).trans eb),HK.out _ ((Qz _ _ _ _ (by omega)).trans ((Qz _ _ _ _ (by omega)).trans e5)) ((Qz _ _ _ _ (by omega)).trans ((Qz _ _ _ _ (by omega)).trans e6)) ((Qz _ _ _ _ (by omega)).trans ((Qz _ _ _ _ (by omega)).trans eb)),(Qz _ _ _ _ (by omega)).trans (Qa _ _ _ _ _ _ eQ),Qa _ _ _ _ _ _ ((Qz _ _ _ _ (by omega)).trans eE),?_⟩
   have hsz:W7.drew.heap.size=W7.heap.size:=rfl
   refine ⟨_,rfl,(jE1 (jE1 hO (by omega)) (by omega)).mono (by have:=hb7.size;omega),Turn.rows2 (Turn.ahead hb7.drew hT) (by omega) (by omega) eQ eE⟩
  have hSx:W7.drew.cell? ⟨g6,0,none⟩=some (.func (.func f) #[] #[])/\W7.drew.cell? ⟨b,0,none⟩=some (.pointer (some ⟨q,0,none⟩))/\W7.drew.cell? ⟨g7,0,none⟩=some (.int .i64 ok)/\W7.drew.cell? ⟨g7,1,none⟩=some (.string op)/\W7.drew.cell? ⟨g7,2,none⟩=some (.string ot)/\W7.drew.cell? ⟨g7,3,none⟩=some (.int .i64 oa)/\W7.drew.cell? ⟨g7,4,none⟩=some (.int .i64 on)/\W7.drew.cell? ⟨g7,5,none⟩=some (.string od)/\W7.drew.cell? ⟨g7,6,none⟩=some (.slice sa n sc)/\W7.drew.cell? ⟨g7,7,none⟩=some (.slice ta tn tc):=HK.out _ rfl rfl rfl
  have x5:=h5
  have x6:(W5.setRow w3.heap.size #[.func (.func f) #[] #[],.bool bt,.bool ba,.bool bn]).heap[w3.heap.size+1]?=some (.cells ZR 101 (0,0)):=(Qz _ _ _ _ (by omega)).trans h6
  have HG6:Hid (w3.heap.size=g6):=hg6
  have HG7:Hid (w3.heap.size+1=g7):=hg7
  clear hg6 hg7 hb3 hb5 h6 hbw3 hlt hb37 hb7 hs ht HQ7 HE7 HK HFF HASK HAA HLay HTB HNF k5 k6 htb h5
  go_upto_region 6 with (first
   | (refine wpList_store_row rfl 99 (.tmp 6) (.tmp 18) rfl w3.heap.size #[.func (.func f) #[] #[],.bool bt,.bool ba,.bool bn] rfl rfl 99 _ x5 jCy rfl hone ?_)
   | (refine wpList_store_row rfl 101 (.tmp 7) (.tmp 19) rfl (w3.heap.size+1) #[.int .i64 ok,.string op,.string ot,.int .i64 oa,.int .i64 on,.string od,.slice sa n sc,.slice ta tn tc] rfl rfl 101 _ x6 jCz rfl hone2 ?_;rw[hW7]))
  rw[HG7.out,HG6.out]
  refine wp_region_held_drew (S:=fun V=>V.cell? ⟨g6,0,none⟩=some (.func (.func f) #[] #[])/\V.cell? ⟨b,0,none⟩=some (.pointer (some ⟨q,0,none⟩))/\V.cell? ⟨g7,0,none⟩=some (.int .i64 ok)/\V.cell? ⟨g7,1,none⟩=some (.string op)/\V.cell? ⟨g7,2,none⟩=some (.string ot)/\V.cell? ⟨g7,3,none⟩=some (.int .i64 oa)/\V.cell? ⟨g7,4,none⟩=some (.int .i64 on)/\V.cell? ⟨g7,5,none⟩=some (.string od)/\V.cell? ⟨g7,6,none⟩=some (.slice sa n sc)/\V.cell? ⟨g7,7,none⟩=some (.slice ta tn tc)) (by kernel_rfl) hSx ?_
  intro hS
  clear hSx
  refine tQ 0 ⟨some 27,.fieldAddr 99 (.tmp 6) 0,_,_,_,none⟩ (.pointer (some ⟨g6,0,none⟩)) rfl hS ?_
  (try simp only[Act.put,sA,sB,sC])
  refine tQ 1 ⟨some 28,.load 97 (.tmp 27),_,_,_,none⟩ (.func (.func f) #[] #[]) rfl hS ?_ (Or.inl ⟨by rfl,by intro x hx;have h1:=hx.1;go_simp⟩)
  (try simp only[Act.put,sA,sB,sC])
  refine tQ 2 ⟨some 29,.move (.tmp 0),_,_,_,none⟩ (.pointer (some ⟨b,0,none⟩)) rfl hS ?_
  (try simp only[Act.put,sA,sB,sC])
  refine tQ 3 ⟨some 30,.nilCheck (.tmp 29),_,_,_,none⟩ (.pointer (some ⟨b,0,none⟩)) rfl hS ?_
  (try simp only[Act.put,sA,sB,sC])
  refine tQ 4 ⟨some 31,.fieldAddr 94 (.tmp 30) 0,_,_,_,none⟩ (.pointer (some ⟨b,0,none⟩)) rfl hS ?_
  (try simp only[Act.put,sA,sB,sC])
  refine tQ 5 ⟨some 32,.load 92 (.tmp 31),_,_,_,none⟩ (.pointer (some ⟨q,0,none⟩)) rfl hS ?_ (Or.inl ⟨by rfl,by intro x hx;have h1:=hx.2.1;go_simp⟩)
  (try simp only[Act.put,sA,sB,sC])
  refine tQ 6 ⟨some 33,.load 101 (.tmp 7),_,_,_,none⟩ (.agg #[.int .i64 ok,.string op,.string ot,.int .i64 oa,.int .i64 on,.string od,.slice sa n sc,.slice ta tn tc]) rfl hS ?_ (Or.inl ⟨by rfl,by intro x hx;obtain ⟨_,_,h0,h1,h2,h3,h4,h5,h6,h7⟩:=hx;go_simp⟩)
  (try simp only[Act.put,sA,sB,sC])
  refine wpAnyH_ready (rs:=[7]) (by kernel_rfl) (by simp) ?_
  refine AllReadyH.cons (o:={ dst:=some 34,op:=.call { callee:=.value (.tmp 28),args:=#[.tmp 32,.tmp 33],argTypes:=#[92,101] },type:=_,pos:=_,after:=_,guard:=none }) rfl (fun K hK=>?_) AllReadyH.nil
  refine step_callv rfl f hcf (.tmp 28) #[.tmp 32,.tmp 33] #[92,101] rfl (by simp[Act.eval]) #[.pointer (some ⟨q,0,none⟩),.agg #[.int .i64 ok,.string op,.string ot,.int .i64 oa,.int .i64 on,.string od,.slice sa n sc,.slice ta tn tc]] (by simp[Act.eval]) HCALL.out ?_
  rintro e w8 ⟨va,vn,vc,r0,r1,r2,r3,f0,f1,f2,f3,f4,f5,f6,rfl,HD8⟩
  refine ⟨_,rfl,?_⟩
  have hS2:=HD8.out.1
  refine hK.out _ _ hS2 (fun _=>?_)
  clear hK K hS
  (try simp only[Act.put,sA,sB,sC])
  have hS:=hS2
  clear hS2
  refine tQ 8 ⟨some 35,.extract (.tmp 34) 0,_,_,_,none⟩ (.agg #[.int .i64 r0,.string e0,.int .i64 r1,.slice va vn vc,.int .i64 r2,.int .i64 r3]) rfl hS ?_
  (try simp only[Act.put,sA,sB,sC])
  refine tQ 9 ⟨some 36,.extract (.tmp 34) 1,_,_,_,none⟩ (.agg #[.int .i64 f0,.int .i64 f1,.int .i64 f2,.int .i64 f3,.int .i64 f4,.string f5,.int .i64 f6]) rfl hS ?_
  (try simp only[Act.put,sA,sB,sC])
  refine wpAnyH_ready (rs:=[10]) (by kernel_rfl) (by simp) ?_
  refine AllReadyH.cons (o:=⟨none,.store 66 (.tmp 4) (.tmp 35),_,_,_,none⟩) rfl (fun K hK=>?_) AllReadyH.nil
  refine jA5 rfl 66 (.tmp 4) (.tmp 35) rfl (w.heap.size+1) #[.int .i64 r0,.string e0,.int .i64 r1,.slice va vn vc,.int .i64 r2,.int .i64 r3] (by simp[Act.eval]) (by simp[Act.eval]) 66 _ HD8.out.2.1 jB7 rfl (by simp[Value.oneCell']) ?_
  have hS2:=HD8.out.2.2.2.1
  refine hK.out _ _ hS2 (fun _=>?_)
  clear hK K hS
  (try simp only[Act.put])
  have hS:=hS2
  clear hS2
  refine wpAnyH_ready (rs:=[11]) (by kernel_rfl) (by simp) ?_
  refine AllReadyH.cons (o:=⟨none,.store 68 (.tmp 5) (.tmp 36),_,_,_,none⟩) rfl (fun K hK=>?_) AllReadyH.nil
  refine jA5 rfl 68 (.tmp 5) (.tmp 36) rfl (w.heap.size+1+1) #[.int .i64 f0,.int .i64 f1,.int .i64 f2,.int .i64 f3,.int .i64 f4,.string f5,.int .i64 f6] (by simp[Act.eval]) (by simp[Act.eval]) 68 _ HD8.out.2.2.1 jB5 rfl (by simp[Value.oneCell']) ?_
  have hS2:=HD8.out.2.2.2.2.1
  refine hK.out _ _ hS2 (fun _=>?_)
  clear hK K hS
  (try simp only[Act.put])
  have hS:=hS2
  clear hS2
  refine wpAnyH_done (by kernel_rfl) ?_ _
  clear hS
  go_wp2_with fail
  refine Qw (jAz rfl _ _ (w.heap.size+1) 66 _ (0,0) _ (w.heap.size+1+1) 68 _ (0,0) _ rfl HD8.out.2.2.2.2.2.1 underlying66 rfl jB7 rfl HD8.out.2.2.2.2.2.2.1 underlying68 rfl jB5) rfl ?_
  exact HD8.out.2.2.2.2.2.2.2
 ·have HE:Hid (E≠0):=HE0
  obtain ⟨rfl,hb3⟩:=HN
  have HB3:Hid (Below w.heap.size w w3):=jBq hb3 HBW.out
  have HQ3:Hid (w3.heap[w.heap.size+1]?=some (.cells R0 66 (0,0))):=(hb3.block _ (jAv HQW.out)).trans HQW.out
  have HE3:Hid (w3.heap[w.heap.size+1+1]?=some (.cells E0 68 (0,0))):=(hb3.block _ (jAv HEW.out)).trans HEW.out
  obtain ⟨W5,hW5,hb5,h5,h6⟩:=jDy w3 ZO ZR 99 101
  obtain ⟨W7,hW7⟩:∃W7,(W5.setRow w3.heap.size ZO).setRow (w3.heap.size+1) ZR=W7:=⟨_,rfl⟩
  have hb37:Below w3.heap.size w3 W7:=by
   rw[<-hW7]
   exact jAx (jAx hb5 (Qj _) _) (by omega) _
  have HB7:Hid (Below w.heap.size w W7):=jBq hb37 HB3.out
  have HQ7:Hid (W7.heap[w.heap.size+1]?=some (.cells R0 66 (0,0))):=(hb37.block _ (jAv HQ3.out)).trans HQ3.out
  have HE7:Hid (W7.heap[w.heap.size+1+1]?=some (.cells E0 68 (0,0))):=(hb37.block _ (jAv HE3.out)).trans HE3.out
  have hone:ZO.all (·.oneCell')=true:=by simp[Value.oneCell']
  have hone2:ZR.all (·.oneCell')=true:=by simp[Value.oneCell']
  have x6:(W5.setRow w3.heap.size ZO).heap[w3.heap.size+1]?=some (.cells ZR 101 (0,0)):=(Qz _ _ _ _ (by omega)).trans h6
  have hEb:(E != 0)=true:=by simp[HE0]
  have HA2:Hid (A=ref T E):=HAA.out HE0
  clear hb3 hb5 h6 hb37 HE0 HFF HASK HAA HTB HNF htb
  go_wp2_with (first
   | (refine wpList_store_row rfl 99 (.tmp 6) (.tmp 18) rfl w3.heap.size ZO rfl rfl 99 _ h5 jCy rfl hone ?_)
   | (refine wpList_store_row rfl 101 (.tmp 7) (.tmp 19) rfl (w3.heap.size+1) ZR rfl rfl 101 _ x6 jCz rfl hone2 ?_;rw[hW7]))
  refine (jB2 W7 E).mono ?_
  rintro e w8 ⟨rfl,hb8⟩
  have HBw8:Hid (Below w.heap.size w w8):=jBq hb8 HB7.out
  have HQw8:Hid _:=(hb8.block _ (jAv HQ7.out)).trans HQ7.out
  have HEw8:Hid _:=(hb8.block _ (jAv HE7.out)).trans HE7.out
  clear hb8
  obtain ⟨a0,a1,a2,a3,a4,a5⟩:=jB4 HQw8.out
  obtain ⟨b0,b1,b2,b3,b4,b5,b6⟩:=jCq HEw8.out
  have fz0:∀j,w8.frozen? ⟨w.heap.size+1,j,none⟩=false:=fun j=>jAq HQw8.out
  have fz1:∀j,w8.frozen? ⟨w.heap.size+1+1,j,none⟩=false:=fun j=>jAq HEw8.out
  (try unfold rsV)
  (try unfold Rs.no)
  (try unfold efV)
  (try unfold Ef.no)
  go_wp2_with fail
  refine Qw (jAz rfl _ _ (w.heap.size+1) 66 _ (0,0) _ (w.heap.size+1+1) 68 _ (0,0) _ rfl (putRE HQw8.out HEw8.out (by omega)).1 underlying66 rfl jB7 rfl (putRE HQw8.out HEw8.out (by omega)).2 underlying68 rfl jB5) rfl ?_
  rw[HA2.out]
  exact ⟨_,rfl,Pa.Own.nil _ _,(HLay.out _ (jA3 HBw8.out (by omega) (by omega))).turn0 (jA3 HBw8.out (by omega) (by omega))⟩
end Go.Proofs.YtfnklhajafmooaaGreatDoor.Tr
namespace Go.Proofs.YtfnklhajafmooaaGreatDoor.Tr
open Go.RowKit Go.Lib Go.Deep Go.Shelf Go.Proofs.Tryz
def rsD (D:List (Option (Nat × ByteArray)))(ms:Nat->Nat):List (Option (Nat × ByteArray × Nat)):=D.zipIdx.map fun r=>r.1.map fun d=>(d.1,d.2,ms r.2)
theorem jOx (D:List (Option (Nat × ByteArray)))(ms:Nat->Nat):(rsD D ms).length=D.length:=by simp[rsD]
theorem jOy (D:List (Option (Nat × ByteArray)))(ms:Nat->Nat)(k:Nat):(rsD D ms)[k]?=(D[k]?).map fun o=>o.map fun d=>(d.1,d.2,ms k):=by
 simp[rsD,List.getElem?_map,List.getElem?_zipIdx,Option.map_map]
 rfl
theorem told_files (F:List (Option (Nat × ByteArray × Nat)))(L:List Nd):f2 L (upto F F.length)=L++toldF F:=by
 unfold f2 upto toldF
 rw[Qh,List.map_filterMap]
 congr 1
 congr 1
 funext r
 cases r.1 <;> rfl
theorem fm_congr {α β:Type}{f g:α->Option β}{l:List α}(h:∀x∈l,f x=g x):l.filterMap f=l.filterMap g:=by
 induction l with
 | nil=>rfl
 | cons a l ih=>rw[List.filterMap_cons,List.filterMap_cons,h a (by simp),ih fun x hx=>h x (by simp[hx])]
theorem told_dirs (D:List (Option (Nat × ByteArray)))(ms:Nat->Nat):f1 (upto (rsD D ms) (rsD D ms).length)=toldD D:=by
 unfold f1 upto toldD
 rw[Qh,List.filterMap_filterMap]
 have e:(rsD D ms).zipIdx=D.zipIdx.map fun r=>(r.1.map fun d=>(d.1,d.2,ms r.2),r.2):=by
  apply List.ext_getElem?
  intro i
  rw[List.getElem?_zipIdx,jOy,List.getElem?_map,List.getElem?_zipIdx]
  cases D[i]? <;> simp
 rw[e,List.filterMap_map]
 cases D with
 | nil=>rfl
 | cons a D =>
   rw[List.zipIdx_cons,List.filterMap_cons]
   have h0:(((fun r:Option (Nat × ByteArray × Nat) × Nat=>(r.1.map fun d=>(⟨r.2,d.1,d.2.1,d.2.2⟩:Cm)).bind fun x=>if x.i=0 then none else some (⟨1,x.i,x.p,x.n,0⟩:Nd)) ∘ fun r:Option (Nat × ByteArray) × Nat=>(r.1.map fun d=>(d.1,d.2,ms r.2),r.2)) (a,0))=none:=by
    cases a <;> simp
   rw[h0]
   simp only[List.drop_succ_cons,List.drop_zero]
   apply fm_congr
   intro r hr
   have h1:1<=r.2:=by
    obtain ⟨i,hi⟩:=List.mem_iff_getElem?.1 hr
    rw[List.getElem?_zipIdx] at hi
    cases hD:D[i]? with
    | none=>rw[hD] at hi;cases hi
    | some o=>rw[hD] at hi;simp at hi;rw[<-hi];(try simp);(try omega)
   cases hq:r.1 with
   | none=>simp[hq]
   | some d =>
     have:¬r.2=0:=by omega
     simp[hq,this]
theorem rows_d {w:World}{q:Nat}{dv fv:Value}{ld lf:Nat}{ms:Nat->Nat}{nn:Nat}{T:Ts}(h:Inn w q dv fv ld lf ms nn T):(w.cell? ⟨q,1,none⟩=some (.slice none 0 0)/\rsD T.D ms=[]/\q<w.heap.size)\/∃g cap,Rs_d w w.heap.size q g cap (rsD T.D ms):=by
 have hq:=jAv h.hq
 rcases h.hd.2 with ⟨e1,e2⟩ | ⟨g,cap,cur,e1,e2,e3,e4⟩
 ·left
  have hl:T.D=[]:=Qb e2
  refine ⟨?_,?_,hq⟩
  ·rw[h.cells.2.1,e1]
  ·rw[hl];rfl
 ·right
  have hd:=h.hd'
  have c1:=h.cells.2.1
  rw[e1] at c1
  have hf:dv=.slice (some ⟨g,0,none⟩) (jF3 T.D ms).length cap:=by rw[jCx];exact e1
  rw[hf] at hd
  refine ⟨g,cap,by rw[jOx];exact c1,hq,jAv e3,fun k hk=>?_,fun k p n x hk=>?_⟩
  ·rw[jOy] at hk
   have hD:T.D[k]?=some none:=by
    cases hh:T.D[k]? with
    | none=>rw[hh] at hk;cases hk
    | some o=>cases o with
      | none=>rfl
      | some d=>rw[hh] at hk;simp at hk
   exact jC3 hd (i:=k) (r:=dRow none (ms k)) (by rw[jDx,hD];rfl)
  ·rw[jOy] at hk
   have hD:T.D[k]?=some (some (p,n))/\ms k=x:=by
    cases hh:T.D[k]? with
    | none=>rw[hh] at hk;cases hk
    | some o=>cases o with
      | none=>rw[hh] at hk;simp at hk
      | some d =>
        rw[hh] at hk
        simp at hk
        obtain ⟨h1,h2,h3⟩:=hk
        subst h1
        subst h2
        exact ⟨rfl,h3⟩
   rw[<-hD.2]
   exact jC3 hd (i:=k) (r:=dRow (some (p,n)) (ms k)) (by rw[jDx,hD.1];rfl)
theorem rows_f {w:World}{q:Nat}{dv fv:Value}{ld lf:Nat}{ms:Nat->Nat}{nn:Nat}{T:Ts}(h:Inn w q dv fv ld lf ms nn T):(w.cell? ⟨q,4,none⟩=some (.slice none 0 0)/\T.F=[]/\q<w.heap.size)\/∃g cap,Rs_f w w.heap.size q g cap T.F:=by
 have hq:=jAv h.hq
 rcases h.hf.2 with ⟨e1,e2⟩ | ⟨g,cap,cur,e1,e2,e3,e4⟩
 ·left
  have hl:T.F=[]:=Qb e2
  refine ⟨?_,hl,hq⟩
  rw[h.cells.2.2.2.2.1,e1]
 ·right
  have hd:=h.hf'
  have c1:=h.cells.2.2.2.2.1
  rw[e1] at c1
  have hf:fv=.slice (some ⟨g,0,none⟩) (jD8 T.F).length cap:=by rw[jDv];exact e1
  rw[hf] at hd
  refine ⟨g,cap,c1,hq,jAv e3,fun k hk=>?_,fun k p n x hk=>?_⟩
  ·exact jC3 hd (i:=k) (r:=fRow none) (by rw[jD5,hk];rfl)
  ·exact jC3 hd (i:=k) (r:=fRow (some (p,n,x))) (by rw[jD5,hk];rfl)
theorem told_any (w:World)(q:Nat)(F:List Nat)(nn:Nat)(T:Ts)(hL:Lay w q F nn T)(hdr:1<=T.dr) :
 Calls prog 38 #[.pointer (some ⟨q,0,none⟩)] w fun e w'=>∃v,e=.returned (.agg #[.int .i64 (T.fr:Int),.int .i64 ((T.dr:Int)-1),v])/\w'.ownsRow w.heap.size 91 5 v (told T).length (ndsc (told T))/\Below w.heap.size w w':=by
 obtain ⟨dv,fv,ld,lf,ms,-,hI⟩:=hL
 have h1:=hI.lim
 have h2:=hI.dl
 have h3:=hI.fl
 have h:=callsIn_wide.1 (told_in Fence.wide 3 trivial trivial trivial trivial trivial rfl rfl (Qj _) q T.fr T.dr (rsD T.D ms) T.F (by rw[jOx];omega) (by omega) hdr (by omega) w hI.cells.2.2.2.1 hI.cells.1 (rows_d hI) (rows_f hI))
 rw[told_dirs,told_files] at h
 exact h
theorem jH9 (w:World)(b q:Nat)(F:List Nat)(nn:Nat)(T:Ts)(hbk:w.heap[b]?=some (.cells #[.pointer (some ⟨q,0,none⟩)] 94 (0,0)))(hL:Lay w q F nn T)(hdr:1<=T.dr) :
 Calls prog 21 #[.pointer (some ⟨b,0,none⟩)] w fun e w'=>∃a k c,e=.returned (.agg #[.int .i64 (T.fr:Int),.int .i64 ((T.dr:Int)-1),.slice a k c])/\Hid (w'.ownsRow w.heap.size 91 5 (.slice a k c) (told T).length (ndsc (told T)))/\Below w.heap.size w w':=by
 obtain ⟨W,hW,hb,k0⟩:=jA4 w #[.int .i64 0,.int .i64 0,.slice none 0 0] 49
 have htb:W.cell? ⟨b,0,none⟩=some (.pointer (some ⟨q,0,none⟩)):=(jAj ((hb.block _ (jAv hbk)).trans hbk)).trans rfl
 have HT:Hid (Calls prog 38 #[.pointer (some ⟨q,0,none⟩)] W fun e w'=>∃a k c,e=.returned (.agg #[.int .i64 (T.fr:Int),.int .i64 ((T.dr:Int)-1),.slice a k c])/\Hid (w'.ownsRow W.heap.size 91 5 (.slice a k c) (told T).length (ndsc (told T)))/\Below W.heap.size W w'):=(told_any W q F nn T (hL.below hb) hdr).mono fun e w' ⟨v,h1,h2,h3⟩=>by
  rcases h2.2 with ⟨e1,e2⟩ | ⟨g,cap,cur,e1,_⟩
  ·subst e1;exact ⟨_,_,_,h1,h2,h3⟩
  ·subst e1;exact ⟨_,_,_,h1,h2,h3⟩
 have HK:Hid _:=k0
 have HB:Hid (Below w.heap.size w W):=hb
 have hsW:W.heap.size=w.heap.size+1:=by rw[<-hW];simp
 have HSW:Hid (W.heap.size=w.heap.size+1):=hsW
 clear hL hbk hb k0 hsW
 go_enter func21,ntmps21
 go_wp2_with fail
 refine (jHz W b q htb).mono ?_
 rintro e w2 ⟨rfl,rfl⟩
 go_wp2_with fail
 refine HT.out.mono ?_
 rintro e w3 ⟨a,k,c,rfl,HO,hb3⟩
 have HK3:Hid (w3.heap[w.heap.size]?=some (.cells #[.int .i64 0,.int .i64 0,.slice none 0 0] 49 (0,0))):=(hb3.block _ (jAv HK.out)).trans HK.out
 have HB3:Hid (Below w.heap.size w w3):=jBq hb3 HB.out
 have r0:w3.cell? ⟨w.heap.size,0,none⟩=some (.int .i64 0):=(jAj HK3.out).trans rfl
 have r1:w3.cell? ⟨w.heap.size,1,none⟩=some (.int .i64 0):=(jAj HK3.out).trans rfl
 have r2:w3.cell? ⟨w.heap.size,2,none⟩=some (.slice none 0 0):=(jAj HK3.out).trans rfl
 have fz:∀j,w3.frozen? ⟨w.heap.size,j,none⟩=false:=fun j=>jAq HK3.out
 clear hb3
 go_wp2_with fail
 refine Qw (jB9 rfl _ _ w.heap.size 49 _ (0,0) _ rfl (put3A HK3.out) underlying49 rfl sizeTS) rfl ?_
 refine ⟨a,k,c,rfl,?_,((HB3.out.setCell (by simp) _).setCell (by simp) _).setCell (by simp) _⟩
 have hk:=jA0 HO.out (W':=((w3.setCell ⟨w.heap.size,0,none⟩ (.int .i64 (T.fr:Int))).setCell ⟨w.heap.size,1,none⟩ (.int .i64 ((T.dr:Int)-1))).setCell ⟨w.heap.size,2,none⟩ (.slice a k c)) (fun g hg=>by
  have n1:g≠w.heap.size:=by have:=(HO.out.lt g hg).1;have:=HSW.out;omega
  rw[Qy _ _ _ _ n1,Qy _ _ _ _ n1,Qy _ _ _ _ n1])
 exact jB1 hk (by have:=HSW.out;omega)
end Go.Proofs.YtfnklhajafmooaaGreatDoor.Tr
namespace Go.Proofs.YtfnklhajafmooaaGreatDoor.Tr
open Go.RowKit Go.Lib Go.Deep Go.Proofs.Tryz
def entT (T:Ts)(x:Nd):Ts:=if x.kind=1 then { T with D:=gapL T.D x.number (some (x.parent,x.name)) } else { T with F:=gapL T.F x.number (some (x.parent,x.name,x.size)) }
def entL (T:Ts)(l:List Nd):Ts:=l.foldl entT T
theorem entL_snoc (T:Ts)(l:List Nd)(x:Nd):entL T (l++[x])=entT (entL T l) x:=by simp[entL]
theorem entT_stay (T:Ts)(x:Nd):(entT T x).fr=T.fr/\(entT T x).dr=T.dr/\(entT T x).most=T.most/\(entT T x).M=T.M:=by
 unfold entT
 split <;> exact ⟨rfl,rfl,rfl,rfl⟩
theorem jN7 (T:Ts):∀l:List Nd,(entL T l).fr=T.fr/\(entL T l).dr=T.dr/\(entL T l).most=T.most/\(entL T l).M=T.M:=by
 intro l
 induction l generalizing T with
 | nil=>exact ⟨rfl,rfl,rfl,rfl⟩
 | cons a l ih =>
   obtain ⟨h1,h2,h3,h4⟩:=ih (entT T a)
   obtain ⟨g1,g2,g3,g4⟩:=entT_stay T a
   exact ⟨h1.trans g1,h2.trans g2,h3.trans g3,h4.trans g4⟩
structure Bey (T:Ts)(l:List Nd):Prop where
 k:∀x∈l,x.kind=1\/x.kind=2
 d:∀x∈l,x.kind=1->T.D.length<=x.number
 f:∀x∈l,x.kind≠1->T.F.length<=x.number
theorem Bey.step {T:Ts}{x:Nd}{l:List Nd}(h:Bey T (x :: l))(hs:∀y∈l,ndLt x y):Bey (entT T x) l:=by
 unfold entT
 by_cases hk:x.kind=1
 ·rw[if_pos hk]
  refine ⟨fun y hy=>h.k y (QA _ hy),fun y hy hy1=>?_,fun y hy hy1=>h.f y (QA _ hy) hy1⟩
  show (gapL T.D x.number _).length<=_
  rw[jI3 (h.d x (List.mem_cons_self ..) hk)]
  rcases hs y hy with h1 | ⟨_,h1⟩ <;> omega
 ·rw[if_neg hk]
  refine ⟨fun y hy=>h.k y (QA _ hy),fun y hy hy1=>h.d y (QA _ hy) hy1,fun y hy hy1=>?_⟩
  show (gapL T.F x.number _).length<=_
  rw[jI3 (h.f x (List.mem_cons_self ..) hk)]
  rcases hs y hy with h1 | ⟨_,h1⟩
  ·have a1:=h.k x (List.mem_cons_self ..)
   have a2:=h.k y (QA _ hy)
   omega
  ·omega
theorem ent_D {T:Ts}:∀{l:List Nd},Bey T l->l.Pairwise ndLt->∀j d,(entL T l).D[j]?=some (some d)↔T.D[j]?=some (some d)\/∃x∈l,x.kind=1/\x.number=j/\d=(x.parent,x.name):=by
 intro l
 induction l generalizing T with
 | nil=>intro _ _ j d;simp[entL]
 | cons a l ih =>
   intro hB hp j d
   have hp2:=List.pairwise_cons.1 hp
   show (entL (entT T a) l).D[j]?=_↔_
   rw[ih (hB.step hp2.1) hp2.2]
   unfold entT
   by_cases hk:a.kind=1
   ·rw[if_pos hk]
    show (gapL T.D a.number _)[j]?=_\/_↔_
    rw[jFv (hB.d a (List.mem_cons_self ..) hk)]
    constructor
    ·rintro ((⟨h1,h2⟩ | h1) | ⟨x,h1,h2⟩)
     ·exact .inr ⟨a,List.mem_cons_self ..,hk,h1.symm,h2⟩
     ·exact .inl h1
     ·exact .inr ⟨x,QA _ h1,h2⟩
    ·rintro (h1 | ⟨x,h1,h2,h3,h4⟩)
     ·exact .inl (.inr h1)
     ·rcases List.mem_cons.1 h1 with rfl | h1
      ·exact .inl (.inl ⟨h3.symm,h4⟩)
      ·exact .inr ⟨x,h1,h2,h3,h4⟩
   ·rw[if_neg hk]
    constructor
    ·rintro (h1 | ⟨x,h1,h2⟩)
     ·exact .inl h1
     ·exact .inr ⟨x,QA _ h1,h2⟩
    ·rintro (h1 | ⟨x,h1,h2,h3⟩)
     ·exact .inl h1
     ·rcases List.mem_cons.1 h1 with rfl | h1
      ·exact absurd h2 hk
      ·exact .inr ⟨x,h1,h2,h3⟩
theorem ent_F {T:Ts}:∀{l:List Nd},Bey T l->l.Pairwise ndLt->∀j d,(entL T l).F[j]?=some (some d)↔T.F[j]?=some (some d)\/∃x∈l,x.kind≠1/\x.number=j/\d=(x.parent,x.name,x.size):=by
 intro l
 induction l generalizing T with
 | nil=>intro _ _ j d;simp[entL]
 | cons a l ih =>
   intro hB hp j d
   have hp2:=List.pairwise_cons.1 hp
   show (entL (entT T a) l).F[j]?=_↔_
   rw[ih (hB.step hp2.1) hp2.2]
   unfold entT
   by_cases hk:a.kind=1
   ·rw[if_pos hk]
    constructor
    ·rintro (h1 | ⟨x,h1,h2⟩)
     ·exact .inl h1
     ·exact .inr ⟨x,QA _ h1,h2⟩
    ·rintro (h1 | ⟨x,h1,h2,h3⟩)
     ·exact .inl h1
     ·rcases List.mem_cons.1 h1 with rfl | h1
      ·exact absurd hk h2
      ·exact .inr ⟨x,h1,h2,h3⟩
   ·rw[if_neg hk]
    show (gapL T.F a.number _)[j]?=_\/_↔_
    rw[jFv (hB.f a (List.mem_cons_self ..) hk)]
    constructor
    ·rintro ((⟨h1,h2⟩ | h1) | ⟨x,h1,h2⟩)
     ·exact .inr ⟨a,List.mem_cons_self ..,hk,h1.symm,h2⟩
     ·exact .inl h1
     ·exact .inr ⟨x,QA _ h1,h2⟩
    ·rintro (h1 | ⟨x,h1,h2,h3,h4⟩)
     ·exact .inl (.inr h1)
     ·rcases List.mem_cons.1 h1 with rfl | h1
      ·exact .inl (.inl ⟨h3.symm,h4⟩)
      ·exact .inr ⟨x,h1,h2,h3,h4⟩
def Sme {α:Type}(l m:List (Option α)):Prop:=∀(j:Nat) (d:α),l[j]?=some (some d)↔m[j]?=some (some d)
theorem bey_told {T:Ts}(f d m:Nat):Bey (newT f d m) (told T):=by
 refine ⟨fun x hx=>?_,fun x hx hk=>?_,fun x _ _=>Kj _⟩
 ·rcases jE9 hx with h | h
  ·exact .inl h.1
  ·exact .inr h.1
 ·rcases jE9 hx with h | h
  ·exact h.2.1
  ·omega
theorem in_toldD {T:Ts}{j:Nat}{p:Nat}{n:ByteArray}(hj:1<=j)(h:T.D[j]?=some (some (p,n))):(⟨1,j,p,n,0⟩:Nd)∈told T:=by
 refine List.mem_append_left _ ?_
 unfold toldD
 refine List.mem_filterMap.2 ⟨(some (p,n),j),?_,rfl⟩
 refine List.mem_iff_getElem?.2 ⟨j-1,?_⟩
 rw[List.getElem?_drop,List.getElem?_zipIdx,show 1+(j-1)=j by omega,h]
 simp
theorem jM0 {T:Ts}{j:Nat}{p s:Nat}{n:ByteArray}(h:T.F[j]?=some (some (p,n,s))):(⟨2,j,p,n,s⟩:Nd)∈told T:=by
 refine List.mem_append_right _ ?_
 unfold toldF
 exact List.mem_filterMap.2 ⟨(some (p,n,s),j),List.mem_zipIdx_iff_getElem?.2 h,rfl⟩
theorem load_D {T:Ts}{dp:Nat->Nat}(hv:Inv T dp)(f d m:Nat):Sme (entL (newT f d m) (told T)).D T.D:=fun j x=>by
 rw[ent_D (bey_told f d m) (jGz T)]
 constructor
 ·rintro (h | ⟨y,h1,h2,h3,rfl⟩)
  ·have:j=0:=by have:=jAy h;simp[newT] at this;omega
   subst this
   rw[hv.root]
   exact h
  ·rcases jE9 h1 with h | h
   ·rw[<-h3];exact h.2.2.1
   ·omega
 ·intro h
  by_cases hj:j=0
  ·subst hj
   rw[hv.root] at h
   exact .inl h
  ·exact .inr ⟨_,in_toldD (by omega) h,rfl,rfl,rfl⟩
theorem load_F {T:Ts}(f d m:Nat):Sme (entL (newT f d m) (told T)).F T.F:=fun j x=>by
 rw[ent_F (bey_told f d m) (jGz T)]
 constructor
 ·rintro (h | ⟨y,h1,h2,h3,rfl⟩)
  ·simp[newT] at h
  ·rcases jE9 h1 with h | h
   ·exact absurd h.1 h2
   ·rw[<-h3];exact h.2
 ·intro h
  exact .inr ⟨_,jM0 h,by simp,rfl,rfl⟩
theorem jN8 {T U:Ts}{dp:Nat->Nat}(hv:Inv T dp)(hD:Sme U.D T.D):∀(k p:Nat),tk T p->dp p<k->jE3 U k p=true
 | 0,_,_,h=>by omega
 | k+1,p,ht,h=>by
   by_cases hp:p=0
   ·subst hp;exact jI4
   ·obtain ⟨⟨q,n⟩,hd⟩:=ht
    have hm:T.M q (ky n)=some (1,p):=(hv.hM _ _ _).2 (.inl ⟨rfl,hp,n,hd,rfl⟩)
    have h1:=(hv.d1 _ _ _ hm).2 rfl
    rw[jI5 hp ((hD p _).2 hd)]
    exact jN8 hv hD k q (hv.hP _ _ _ hm) (by simp only at h1;omega)
def hgD1 (T:Ts)(x:Cm):Ts:=if x.i=0 then T else jA6 T x.p x.n (some (1,x.i))
def hgD (T:Ts)(l:List Cm):Ts:=l.foldl hgD1 T
def hgF (T:Ts)(l:List Cm):Ts:=l.foldl (fun T x=>jA6 T x.p x.n (some (2,x.i))) T
theorem hgD_snoc (T:Ts)(l:List Cm)(x:Cm):hgD T (l++[x])=hgD1 (hgD T l) x:=by simp[hgD]
theorem hgF_snoc (T:Ts)(l:List Cm)(x:Cm):hgF T (l++[x])=jA6 (hgF T l) x.p x.n (some (2,x.i)):=by simp[hgF]
theorem jM1 (T:Ts)(l:List Cm):(hgD T l).fr=T.fr/\(hgD T l).dr=T.dr/\(hgD T l).most=T.most/\(hgD T l).D=T.D/\(hgD T l).F=T.F:=by
 induction l generalizing T with
 | nil=>exact ⟨rfl,rfl,rfl,rfl,rfl⟩
 | cons a l ih =>
   have h:(hgD1 T a).fr=T.fr/\(hgD1 T a).dr=T.dr/\(hgD1 T a).most=T.most/\(hgD1 T a).D=T.D/\(hgD1 T a).F=T.F:=by unfold hgD1;split <;> exact ⟨rfl,rfl,rfl,rfl,rfl⟩
   obtain ⟨a1,a2,a3,a4,a5⟩:=ih (hgD1 T a)
   exact ⟨a1.trans h.1,a2.trans h.2.1,a3.trans h.2.2.1,a4.trans h.2.2.2.1,a5.trans h.2.2.2.2⟩
theorem hgF_stay (T:Ts)(l:List Cm):(hgF T l).fr=T.fr/\(hgF T l).dr=T.dr/\(hgF T l).most=T.most/\(hgF T l).D=T.D/\(hgF T l).F=T.F:=by
 induction l generalizing T with
 | nil=>exact ⟨rfl,rfl,rfl,rfl,rfl⟩
 | cons a l ih=>exact ih (jA6 T a.p a.n (some (2,a.i)))
theorem hgD_M (T:Ts)(l:List Cm){p:Nat}{k:Key}{v:Nat × Nat}(h:(hgD T l).M p k=some v):T.M p k=some v\/∃x∈l,x.i≠0/\x.p=p/\ky x.n=k/\v=(1,x.i):=by
 induction l generalizing T with
 | nil=>exact .inl h
 | cons a l ih =>
   rcases ih (hgD1 T a) h with h1 | ⟨x,h1,h2⟩
   ·unfold hgD1 at h1
    by_cases ha:a.i=0
    ·rw[if_pos ha] at h1;exact .inl h1
    ·rw[if_neg ha] at h1
     have h1:(if p=a.p/\k=ky a.n then some (1,a.i) else T.M p k)=some v:=h1
     by_cases hc:p=a.p/\k=ky a.n
     ·rw[if_pos hc] at h1
      injection h1 with h1
      exact .inr ⟨a,List.mem_cons_self ..,ha,hc.1.symm,hc.2.symm,h1.symm⟩
     ·rw[if_neg hc] at h1;exact .inl h1
   ·exact .inr ⟨x,QA _ h1,h2⟩
theorem hgF_M (T:Ts)(l:List Cm){p:Nat}{k:Key}{v:Nat × Nat}(h:(hgF T l).M p k=some v):T.M p k=some v\/∃x∈l,x.p=p/\ky x.n=k/\v=(2,x.i):=by
 induction l generalizing T with
 | nil=>exact .inl h
 | cons a l ih =>
   rcases ih (jA6 T a.p a.n (some (2,a.i))) h with h1 | ⟨x,h1,h2⟩
   ·have h1:(if p=a.p/\k=ky a.n then some (2,a.i) else T.M p k)=some v:=h1
    by_cases hc:p=a.p/\k=ky a.n
    ·rw[if_pos hc] at h1
     injection h1 with h1
     exact .inr ⟨a,List.mem_cons_self ..,hc.1.symm,hc.2.symm,h1.symm⟩
    ·rw[if_neg hc] at h1;exact .inl h1
   ·exact .inr ⟨x,QA _ h1,h2⟩
theorem upto_mem {rs:List (Option (Nat × ByteArray × Nat))}{k:Nat}{x:Cm}(h:x∈upto rs k):x.i<k/\rs[x.i]?=some (some (x.p,x.n,x.x)):=by
 unfold upto at h
 obtain ⟨r,hr,h2⟩:=List.mem_filterMap.1 h
 have h3:=List.mem_zipIdx_iff_getElem?.1 hr
 cases ho:r.1 with
 | none=>rw[ho] at h2;cases h2
 | some d =>
   rw[ho] at h2 h3
   simp only[Option.map_some,Option.some.injEq] at h2
   subst h2
   have hl:=(QV.1 h3).1
   rw[List.length_take] at hl
   rw[List.getElem?_take] at h3
   refine ⟨by show r.2<k;omega,?_⟩
   split at h3
   ·exact h3
   ·cases h3
theorem jM2 {rs:List (Option (Nat × ByteArray × Nat))}{k i p y:Nat}{n:ByteArray}(hi:i<k)(h:rs[i]?=some (some (p,n,y))):(⟨i,p,n,y⟩:Cm)∈upto rs k:=by
 unfold upto
 refine List.mem_filterMap.2 ⟨(some (p,n,y),i),List.mem_zipIdx_iff_getElem?.2 ?_,rfl⟩
 rw[List.getElem?_take,if_pos hi]
 exact h
def jLy (f d m:Nat):Ts:=⟨f,d+1,m,[],[],fun _ _=>none⟩
abbrev nilV:Value:=.slice none 0 0
theorem bare_inn (w:World)(f d m:Nat)(hf:f<=65536)(hd:d<=4096)(hm:m<=65536):Inn (w.alloc (.cells (stA (jLy f d m) nilV nilV 0 0) 138)) w.heap.size nilV nilV 0 0 (fun _=>0) 0 (jLy f d m) :=
 ⟨jA2 w _,World.ownsRow_nil _ _ _ _,World.ownsRow_nil _ _ _ _,fun i e h=>(by simp[jLy] at h),fun i j d e h=>(by simp[jLy] at h),fun i h=>absurd h (by omega),fun i h=>absurd h (by omega),Kj _,Kj _,Kj _,Kj _,⟨hf,by show d+1<=4097;omega,hm⟩⟩
theorem set_bare (f d m:Nat):setD (jLy f d m) (lowL (jLy f d m).D) (some (0,e0))=newT f d m:=rfl
theorem jFq (w:World)(f d m:Nat)(hf:f<=65536)(hd:d<=4096)(hm:m<=65536) :
 Calls prog 42 #[.int .i64 (f:Int),.int .i64 (d:Int),.int .i64 (m:Int)] w fun e w'=>∃q,e=.returned (.pointer (some ⟨q,0,none⟩))/\w.heap.size<=q/\Hid (∃F,Lay w' q F 0 (newT f d m)/\∀k,k∈F->w.heap.size<=k)/\Below w.heap.size w w':=by
 obtain ⟨W1,hW1,hb1,k1⟩:=jA4 w (stA (jLy f d m) nilV nilV 0 0) 138
 have hI:Inn W1 w.heap.size nilV nilV 0 0 (fun _=>0) 0 (jLy f d m):=hW1▸bare_inn w f d m hf hd hm
 have hwd:IntKind.i64.wrap ((d:Int)+1)=(d:Int)+1:=by rw[QX];omega
 have HCL:Hid (∀(wd:World) (mm:Nat),W1.heap.size<=mm->wd.ownsMap prog 9 jF2 mm 0 (.map [])->Below W1.heap.size W1 wd->Calls prog 65 #[.pointer (some ⟨w.heap.size,0,none⟩),.int .i64 0,.agg #[.int .i64 0,.string e0,.map (some mm)]] wd fun e w'=>e=.returned (.bool true)/\Hid (Turn (fp w.heap.size nilV nilV (jLy f d m).D (fun _=>0)) W1 w' w.heap.size 0 (newT f d m))):=fun wd mm h1 h2 h3=>by
  have hIb:=hI.below h3
  refine (claim_d wd w.heap.size (d+1) (stA (jLy f d m) nilV nilV 0 0) nilV [] hIb.hq rfl rfl hIb.hd (by decide) 0 (Qj _) (fun r h=>(by cases h)) (by omega) (by omega) 0 e0 (some mm)).mono ?_
  rintro e w' ⟨rfl,v',hC⟩
  refine ⟨rfl,?_⟩
  have:=lay_giveD hI h3 h1 h2 rfl (by show 0<d+1;omega) (0,e0) (dv':=v') (W:=w') hC
  rw[set_bare] at this
  exact this
 have HB:Hid (Below w.heap.size w W1):=hb1
 have HF:Hid (∀k,k∈fp w.heap.size nilV nilV (jLy f d m).D (fun _=>0)->w.heap.size<=k):=fun k hk=>by
  rcases jBx.1 hk with rfl | h | h | ⟨i,x,h,_⟩
  ·exact Qj _
  ·cases h
  ·cases h
  ·simp[jLy] at h
 have HFW:Hid (∀w',Only (fp w.heap.size nilV nilV (jLy f d m).D (fun _=>0)) W1 w'->Below w.heap.size w w'):=fun w' ho=>⟨ho.os.trans HB.out.os,ho.tape.trans HB.out.tape,ho.output.trans HB.out.output,Qk HB.out.size ho.size,fun k hk=>(ho.block k (Qx hk HB.out.size) (fun hm=>by have:=HF.out k hm;omega)).trans (HB.out.block k hk)⟩
 have hnd:=jLz W1.drew 0 e0
 have hW1':w.alloc (.cells #[.int .i64 ((d:Int)+1),.slice none 0 0,.int .i64 0,.int .i64 (f:Int),.slice none 0 0,.int .i64 0,.int .i64 (m:Int)] 138)=W1:=hW1
 clear hW1 hI hb1 k1
 go_enter func42,ntmps42
 go_wp2_with fail
 go_region_with (first | (go_at_call 65;refine (HCL.out _ _ hm5 hmo5 (((Qq W1.heap.size W1).drew).trans hb5)).mono ?_;rintro e w4 ⟨rfl,HT4⟩) | (go_at_call 66;refine hnd.mono ?_;rintro e wd ⟨mm,rfl,hm5,hmo5,hb5⟩))
 all_goals
  go_wp2
  go_ret
  obtain ⟨ho,F',hL,hk⟩:=HT4.out
  refine ⟨w.heap.size,rfl,Qj _,⟨F',hL,fun k hm=>?_⟩,HFW.out _ ho⟩
  rcases hk k hm with h | h
  ·exact HF.out k h
  ·exact Qk HB.out.size h
theorem jG9 (w:World)(f d:Nat)(hf1:1<=f)(hf:f<=65536)(hd:d<=4096):Calls prog 40 #[.int .i64 (f:Int),.int .i64 (d:Int)] w fun e w'=>e=.returned (.bool true)/\w'=w:=by
 have h1:(1:Int)<=(f:Int):=by omega
 have h2:(f:Int)<=65536:=by omega
 have h3:(0:Int)<=(d:Int):=by omega
 have h4:(d:Int)<=4096:=by omega
 go_enter func40,ntmps40
 go_wp2
 go_ret
 exact ⟨rfl,rfl⟩
theorem isMost_any (w:World)(m:Nat)(hm:m<=65536):Calls prog 41 #[.int .i64 (m:Int)] w fun e w'=>e=.returned (.bool true)/\w'=w:=by
 have h3:(0:Int)<=(m:Int):=by omega
 have h4:(m:Int)<=65536:=by omega
 go_enter func41,ntmps41
 go_wp2
 go_ret
 exact ⟨rfl,rfl⟩
structure Tre (w:World)(B b q nn:Nat)(T:Ts):Prop where
 hb:w.heap[b]?=some (.cells #[.pointer (some ⟨q,0,none⟩)] 94 (0,0))
 hB:B<=b
 lay:∃F,Lay w q F nn T/\∀k,k∈F->B<=k
theorem new_any (w:World)(f d m:Nat)(hf1:1<=f)(hf:f<=65536)(hd:d<=4096)(hm:m<=65536) :
 Calls prog 23 #[.int .i64 (f:Int),.int .i64 (d:Int),.int .i64 (m:Int)] w fun e w'=>∃b q,e=.returned (.tuple #[.pointer (some ⟨b,0,none⟩),.int .i64 0])/\Hid (Tre w' w.heap.size b q 0 (newT f d m))/\Below w.heap.size w w':=by
 have h1:=jG9 w f d hf1 hf hd
 have h2:=isMost_any w m hm
 have h3:=jFq w f d m hf hd hm
 go_enter func23,ntmps23
 go_wp2_with fail
 refine h1.mono ?_
 rintro e w1 ⟨rfl,rfl⟩
 go_wp2_with fail
 refine h2.mono ?_
 rintro e w1 ⟨rfl,rfl⟩
 go_wp2_with fail
 refine h3.mono ?_
 rintro e w1 ⟨q,rfl,hq,HL,hb⟩
 go_wp2
 go_ret2
 obtain ⟨F,hL,hk⟩:=HL.out
 have hb':=(Qq w1.heap.size w1).alloc (Qj _) (.cells #[.pointer (some ⟨q,0,none⟩)] 94)
 exact ⟨w1.heap.size,q,rfl,⟨jA2 w1 _,hb.size,F,hL.below hb',hk⟩,jBq hb' hb⟩
