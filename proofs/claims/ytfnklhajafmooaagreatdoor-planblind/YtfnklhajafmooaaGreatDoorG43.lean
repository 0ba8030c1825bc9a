import Derived.Test.YtfnklhajafmooaaGreatDoorG40
import Derived.Test.YtfnklhajafmooaaGreatDoorG42
set_option maxHeartbeats 2000000
set_option maxRecDepth 20000
namespace Go.Proofs.YtfnklhajafmooaaGreatDoor.Po.Pn
open Go.RowKit Go.Lib Go.Deep Go.Proofs.Tryz
def zSt:(Tr.Rs × Tr.Ef) × Value:=((Tr.Rs.no 0,zEf),.slice none 0 0)
structure Di (w wr:World)(b q g n:Nat)(F:List Nat)(nn k:Nat)(T:Tr.Ts)(O:List Tr.Op):Prop where
 ex:∃F' l,Tr.Lay wr q F' (nn+k) (doL T (O.take k)).2/\(∀j,j∈F'->j∈F\/w.heap.size<=j)/\Only F w wr/\wr.heap[b]?=some (.cells #[.pointer (some ⟨q,0,none⟩)] 94 (0,0))/\wr.ownsRow w.heap.size 75 13 (.slice (some ⟨g,0,none⟩) n n) n (stsC (l++List.replicate (n-k) zSt))/\l.map (·.1)=(doL T (O.take k)).1/\(∀(i:Nat) x,l[i]?=some x->Pa.Own wr w.heap.size x.2 x.1.1.names)
theorem Di.step {w wr U:World}{b q g n:Nat}{F:List Nat}{nn k:Nat}{T:Tr.Ts}{dp:Nat->Nat}{O:List Tr.Op}(h:Di w wr b q g n F nn k T O)(hv:Tr.Inv T dp)(hk:k<n)(hn:n=O.length)(hnn:nn+n<=8796093022207)(o:Tr.Op)(ho:O[k]?=some o)(hoa:o.at_<=9223372036854775807)(hod:o.data.size<=9223372036854775807)(hU:Below wr.heap.size wr U) :
 Calls prog 17 #[.pointer (some ⟨b,0,none⟩),.agg #[.int .i64 o.kind,.string o.path,.string o.to_,.int .i64 o.at_,.int .i64 o.n,.string o.data]] U fun e w'=>∃(D:Tr.Ans) (va:Option Addr) (vn vc:Nat),e=.returned (.tuple #[.agg #[.int .i64 D.1.code,.string Tr.e0,.int .i64 D.1.n,.slice va vn vc,.int .i64 D.1.kind,.int .i64 D.1.size],.agg #[.int .i64 D.2.1.kind,.int .i64 D.2.1.file,.int .i64 D.2.1.gone,.int .i64 D.2.1.at_,.int .i64 D.2.1.n,.string D.2.1.data,.int .i64 D.2.1.size]])/\Hid (w'.cell? ⟨g,k*13,none⟩=some (.int .i64 0)/\w'.cell? ⟨g,k*13+1,none⟩=some (.string Tr.e0)/\w'.cell? ⟨g,k*13+2,none⟩=some (.int .i64 0)/\w'.cell? ⟨g,k*13+3,none⟩=some (.slice none 0 0)/\w'.cell? ⟨g,k*13+4,none⟩=some (.int .i64 0)/\w'.cell? ⟨g,k*13+5,none⟩=some (.int .i64 0)/\w'.cell? ⟨g,k*13+6,none⟩=some (.int .i64 0)/\w'.cell? ⟨g,k*13+6+1,none⟩=some (.int .i64 0)/\w'.cell? ⟨g,k*13+6+2,none⟩=some (.int .i64 0)/\w'.cell? ⟨g,k*13+6+3,none⟩=some (.int .i64 0)/\w'.cell? ⟨g,k*13+6+4,none⟩=some (.int .i64 0)/\w'.cell? ⟨g,k*13+6+5,none⟩=some (.string Tr.e0)/\w'.cell? ⟨g,k*13+6+6,none⟩=some (.int .i64 0))/\Hid (∀j,w'.frozen? ⟨g,j,none⟩=false)/\Hid (Di w (((((((((((((w'.setCell ⟨g,k*13,none⟩ (.int .i64 D.1.code)).setCell ⟨g,k*13+1,none⟩ (.string Tr.e0)).setCell ⟨g,k*13+2,none⟩ (.int .i64 D.1.n)).setCell ⟨g,k*13+3,none⟩ (.slice va vn vc)).setCell ⟨g,k*13+4,none⟩ (.int .i64 D.1.kind)).setCell ⟨g,k*13+5,none⟩ (.int .i64 D.1.size)).setCell ⟨g,k*13+6,none⟩ (.int .i64 D.2.1.kind)).setCell ⟨g,k*13+6+1,none⟩ (.int .i64 D.2.1.file)).setCell ⟨g,k*13+6+2,none⟩ (.int .i64 D.2.1.gone)).setCell ⟨g,k*13+6+3,none⟩ (.int .i64 D.2.1.at_)).setCell ⟨g,k*13+6+4,none⟩ (.int .i64 D.2.1.n)).setCell ⟨g,k*13+6+5,none⟩ (.string D.2.1.data)).setCell ⟨g,k*13+6+6,none⟩ (.int .i64 D.2.1.size)) b q g n F nn (k+1) T O):=by
 obtain ⟨F',l,hL,hF',hoo,hb,hrow,hl,hnm⟩:=h.ex
 obtain ⟨⟨dp',hv'⟩,-⟩:=jK5 hv O k (by omega)
 have hbU:=(hU.block _ (jAv hb)).trans hb
 have hLU:=hL.below hU
 have hsU:=hU.size
 refine (Tr.do_any U b q F' (nn+k) (doL T (O.take k)).2 dp' o hbU hLU hv' (by omega) hoa hod).mono ?_
 rintro e w' ⟨v,rfl,hO,ho2,F2,hL2,hF2⟩
 obtain ⟨a,cap,rfl⟩:=hO.len
 have hrowU:=jA7 hrow hU
 have hgU:∃cur,U.heap[g]?=some (.cells cur 75 (0,0)):=jA1 hrowU rfl
 obtain ⟨cur,hg⟩:=hgU
 have hgF:g ∉ F':=hLU.notin hg (by decide)
 have hg2:w'.heap[g]?=U.heap[g]?:=ho2.block g (jAv hg) hgF
 have hrow2:w'.ownsRow w.heap.size 75 13 (.slice (some ⟨g,0,none⟩) n n) n (stsC (l++List.replicate (n-k) zSt)):=jA0 hrowU fun j hj=>by
  injection hj with hj
  subst hj
  exact hg2
 have hll:l.length=k:=by
  have:=congrArg List.length hl
  rw[List.length_map,jJv T O k (by omega)] at this
  exact this
 have hz:(l++List.replicate (n-k) zSt)[k]?=some zSt:=by
  rw[Qd (by omega),hll,Nat.sub_self,Qc,if_pos (by omega)]
 have c:=fun j (hj:j<13)=>(hrow2.cellAt (k*13+j) (by omega)).trans (jDz stC 13 jJz _ k _ hz j hj)
 obtain ⟨hp,gp⟩:=sts_put hrow2 hz ((((Tr.doT (doL T (O.take k)).2 o).1,(Tr.doT (doL T (O.take k)).2 o).2.1),.slice a (Tr.doT (doL T (O.take k)).2 o).1.names.length cap))
 have hset:(l++List.replicate (n-k) zSt).set k ((((Tr.doT (doL T (O.take k)).2 o).1,(Tr.doT (doL T (O.take k)).2 o).2.1),.slice a (Tr.doT (doL T (O.take k)).2 o).1.names.length cap))=(l++[((((Tr.doT (doL T (O.take k)).2 o).1,(Tr.doT (doL T (O.take k)).2 o).2.1),.slice a (Tr.doT (doL T (O.take k)).2 o).1.names.length cap))])++List.replicate (n-(k+1)) zSt:=by
  rw[List.set_append_right _ _ (by omega),hll,Nat.sub_self,show n-k=(n-(k+1))+1 by omega,List.replicate_succ,List.set_cons_zero,List.append_assoc]
  rfl
 rw[hset] at hp
 refine ⟨Tr.doT (doL T (O.take k)).2 o,a,_,cap,rfl,⟨c 0 (by omega),c 1 (by omega),c 2 (by omega),c 3 (by omega),c 4 (by omega),c 5 (by omega),c 6 (by omega),c 7 (by omega),c 8 (by omega),c 9 (by omega),c 10 (by omega),c 11 (by omega),c 12 (by omega)⟩,fun j=>hrow2.frozenAt j,F2,_,?_,fun j hj=>?_,?_,?_,hp,?_,fun i x hx=>?_⟩
 ·rw[jK4 T O k o ho]
  exact hL2.keep (fun j hj=>gp.block j (hL2.lt j hj) (fun e=>by
   injection e with e
   subst e
   exact hL2.notin (hg2.trans hg) (by decide) hj))
 ·rcases hF2 j hj with h1 | h1
  ·exact hF' j h1
  ·have:=hoo.size
   exact .inr (by omega)
 ·refine ⟨(gp.os.trans ho2.os).trans (hU.os.trans hoo.os),(gp.tape.trans ho2.tape).trans (hU.tape.trans hoo.tape),(gp.output.trans ho2.output).trans (hU.output.trans hoo.output),Qk hoo.size (Qk hU.size (Qk ho2.size gp.size)),fun j hj hn=>?_⟩
  have hs:=hoo.size
  have hs2:=ho2.size
  have hgw:w.heap.size<=g:=(hrow.lt g rfl).1
  rw[gp.block j (by omega) (fun e=>by injection e with e;omega),ho2.block j (by omega) (fun hm=>?_),hU.block j (by omega)]
  ·exact hoo.block j hj hn
  ·rcases hF' j hm with h1 | h1
   ·exact hn h1
   ·omega
 ·rw[gp.block b (by have:=jAv hbU;have:=ho2.size;omega) (fun e=>?_),ho2.block b (jAv hbU) (hLU.notin hbU (by decide))]
  ·exact hbU
  ·injection e with e
   rw[e,hg] at hbU
   injection hbU with hbU
   injection hbU with _ hbU _
   cases hbU
 ·rw[List.map_append,hl,jK4 T O k o ho]
  rfl
 ·have hput:∀{y:Value} {L:List ByteArray},Pa.Own w' w.heap.size y L->Pa.Own _ w.heap.size y L:=fun hO=>jA0 hO fun gg hgg=>gp.block gg (hO.lt gg hgg).2 (fun e=>by
   injection e with e
   obtain ⟨c9,h9⟩:=jA1 hO hgg
   rw[e,hg2,hg] at h9
   injection h9 with h9
   injection h9 with _ h9 _
   cases h9)
  by_cases hi:i<l.length
  ·rw[List.getElem?_append_left hi] at hx
   have h8:Pa.Own U w.heap.size x.2 x.1.1.names:=jA7 (hnm i x hx) hU
   exact hput (jA0 h8 fun gg hgg=>by
    obtain ⟨c9,h9⟩:=jA1 h8 hgg
    exact ho2.block gg (jAv h9) (hLU.notin h9 (by decide)))
  ·rw[Qd (by omega)] at hx
   have hi0:i-l.length=0:=by
    have:=jAy hx
    simp at this
    omega
   rw[hi0] at hx
   obtain rfl:=QW hx
   exact hput (hO.mono (by have:=hoo.size;omega))
theorem infoStep:(prog.info? 75).map (fun i=>(i.zero,i.size,i.bytes))=some (some (.agg #[.int .i64 0,.string { data:=#[] },.int .i64 0,.slice none 0 0,.int .i64 0,.int .i64 0,.int .i64 0,.int .i64 0,.int .i64 0,.int .i64 0,.int .i64 0,.string { data:=#[] },.int .i64 0]),13,136):=by kernel_rfl
theorem planDo_any (w:World)(b q:Nat)(F:List Nat)(nn:Nat)(T:Tr.Ts)(dp:Nat->Nat)(hb:w.heap[b]?=some (.cells #[.pointer (some ⟨q,0,none⟩)] 94 (0,0)))(hL:Tr.Lay w q F nn T)(hv:Tr.Inv T dp)(a:Option Addr)(n c:Nat)(O:List Tr.Op)(hO:Tr.IsO w a n O)(hn:n<=64)(hnn:nn+n<=8796093022207)(hOF:∀pb po,a=some ⟨pb,po,none⟩->0<n->pb ∉ F) :
 Calls prog 49 #[.pointer (some ⟨b,0,none⟩),.slice a n c] w fun e w'=>∃g,e=.returned (.slice (some ⟨g,0,none⟩) n n)/\Hid (Di w w' b q g n F nn n T O):=by
 obtain ⟨i0,hi,hz0,hz1,hz2⟩:=info_parts infoStep
 have hmk:=run_make (P:=prog) w 38 75 i0 _ underlying38 hi hz0 .i64 .i64 (n:Int) (n:Int) (by omega) (by omega) (by rw[hz2];omega) (by omega)
 rw[Int.toNat_natCast,hz1] at hmk
 have hcs:=jH8 stC 13 jJz (by decide) (.agg #[.int .i64 0,.string { data:=#[] },.int .i64 0,.slice none 0 0,.int .i64 0,.int .i64 0,.int .i64 0,.int .i64 0,.int .i64 0,.int .i64 0,.int .i64 0,.string { data:=#[] },.int .i64 0]) zSt rfl n
 have hsz:=size_madeCells (Value.agg #[.int .i64 0,.string { data:=#[] },.int .i64 0,.slice none 0 0,.int .i64 0,.int .i64 0,.int .i64 0,.int .i64 0,.int .i64 0,.int .i64 0,.int .i64 0,.string { data:=#[] },.int .i64 0]).cells (n*13)
 generalize madeCells (Value.agg #[.int .i64 0,.string { data:=#[] },.int .i64 0,.slice none 0 0,.int .i64 0,.int .i64 0,.int .i64 0,.int .i64 0,.int .i64 0,.int .i64 0,.int .i64 0,.string { data:=#[] },.int .i64 0]).cells (n*13)=C at *
 obtain ⟨W,hW,hbW,kW⟩:=jA4 w C 75
 have hrow:W.ownsRow w.heap.size 75 13 (.slice (some ⟨w.heap.size,0,none⟩) n n) n (stsC (List.replicate n zSt)):=by
  refine ⟨by rw[stsC_len,List.length_replicate],.inr ⟨w.heap.size,n,C,rfl,Qj _,kW,Qj _,by unfold maxLen;omega,by rw[hsz],?_⟩⟩
  rw[hcs]
  exact Qf (by rw[jEv stC 13 jJz,List.length_replicate];exact Qj _)
 have H0:Hid (Di w W b q w.heap.size n F nn 0 T O):=⟨F,[],hL.below hbW,fun j hj=>.inl hj,⟨hbW.os,hbW.tape,hbW.output,hbW.size,fun k hk _=>hbW.block k hk⟩,(hbW.block _ (jAv hb)).trans hb,hrow,rfl,fun i x h=>by cases h⟩
 have HR:Hid (∀(V:World) (k:Nat),Di w V b q w.heap.size n F nn k T O->k<n->∃(pb po:Nat) (o:Tr.Op),a=some ⟨pb,po,none⟩/\(V.cell? ⟨pb,po+k*6,none⟩=some (.int .i64 o.kind)/\V.cell? ⟨pb,po+k*6+1,none⟩=some (.string o.path)/\V.cell? ⟨pb,po+k*6+2,none⟩=some (.string o.to_)/\V.cell? ⟨pb,po+k*6+3,none⟩=some (.int .i64 o.at_)/\V.cell? ⟨pb,po+k*6+4,none⟩=some (.int .i64 o.n)/\V.cell? ⟨pb,po+k*6+5,none⟩=some (.string o.data))/\∀U,Below V.heap.size V U->Calls prog 17 #[.pointer (some ⟨b,0,none⟩),.agg #[.int .i64 o.kind,.string o.path,.string o.to_,.int .i64 o.at_,.int .i64 o.n,.string o.data]] U fun e w'=>∃(D:Tr.Ans) (va:Option Addr) (vn vc:Nat),e=.returned (.tuple #[.agg #[.int .i64 D.1.code,.string Tr.e0,.int .i64 D.1.n,.slice va vn vc,.int .i64 D.1.kind,.int .i64 D.1.size],.agg #[.int .i64 D.2.1.kind,.int .i64 D.2.1.file,.int .i64 D.2.1.gone,.int .i64 D.2.1.at_,.int .i64 D.2.1.n,.string D.2.1.data,.int .i64 D.2.1.size]])/\Hid (w'.cell? ⟨w.heap.size,k*13,none⟩=some (.int .i64 0)/\w'.cell? ⟨w.heap.size,k*13+1,none⟩=some (.string Tr.e0)/\w'.cell? ⟨w.heap.size,k*13+2,none⟩=some (.int .i64 0)/\w'.cell? ⟨w.heap.size,k*13+3,none⟩=some (.slice none 0 0)/\w'.cell? ⟨w.heap.size,k*13+4,none⟩=some (.int .i64 0)/\w'.cell? ⟨w.heap.size,k*13+5,none⟩=some (.int .i64 0)/\w'.cell? ⟨w.heap.size,k*13+6,none⟩=some (.int .i64 0)/\w'.cell? ⟨w.heap.size,k*13+6+1,none⟩=some (.int .i64 0)/\w'.cell? ⟨w.heap.size,k*13+6+2,none⟩=some (.int .i64 0)/\w'.cell? ⟨w.heap.size,k*13+6+3,none⟩=some (.int .i64 0)/\w'.cell? ⟨w.heap.size,k*13+6+4,none⟩=some (.int .i64 0)/\w'.cell? ⟨w.heap.size,k*13+6+5,none⟩=some (.string Tr.e0)/\w'.cell? ⟨w.heap.size,k*13+6+6,none⟩=some (.int .i64 0))/\Hid (∀j,w'.frozen? ⟨w.heap.size,j,none⟩=false)/\Hid (Di w (((((((((((((w'.setCell ⟨w.heap.size,k*13,none⟩ (.int .i64 D.1.code)).setCell ⟨w.heap.size,k*13+1,none⟩ (.string Tr.e0)).setCell ⟨w.heap.size,k*13+2,none⟩ (.int .i64 D.1.n)).setCell ⟨w.heap.size,k*13+3,none⟩ (.slice va vn vc)).setCell ⟨w.heap.size,k*13+4,none⟩ (.int .i64 D.1.kind)).setCell ⟨w.heap.size,k*13+5,none⟩ (.int .i64 D.1.size)).setCell ⟨w.heap.size,k*13+6,none⟩ (.int .i64 D.2.1.kind)).setCell ⟨w.heap.size,k*13+6+1,none⟩ (.int .i64 D.2.1.file)).setCell ⟨w.heap.size,k*13+6+2,none⟩ (.int .i64 D.2.1.gone)).setCell ⟨w.heap.size,k*13+6+3,none⟩ (.int .i64 D.2.1.at_)).setCell ⟨w.heap.size,k*13+6+4,none⟩ (.int .i64 D.2.1.n)).setCell ⟨w.heap.size,k*13+6+5,none⟩ (.string D.2.1.data)).setCell ⟨w.heap.size,k*13+6+6,none⟩ (.int .i64 D.2.1.size)) b q w.heap.size n F nn (k+1) T O)):=fun V k hV hk=>by
  obtain ⟨o,ho⟩:∃o,O[k]?=some o:=⟨_,Qv (by rw[hO.hl];exact hk)⟩
  obtain ⟨pb,po,rfl,hp,c0,c1,c2,c3,c4,c5⟩:=hO.at_ k o ho
  obtain ⟨F',l,_,_,hoo,_⟩:=hV.ex
  have hbl:=hoo.block pb hp (hOF pb po rfl (by omega))
  have cc:∀j:Nat,V.cell? ⟨pb,j,none⟩=w.cell? ⟨pb,j,none⟩:=fun j=>by unfold World.cell?;simp only[hbl]
  have hbd:=hO.bd o (List.mem_iff_getElem?.2 ⟨k,ho⟩)
  exact ⟨pb,po,o,rfl,⟨(cc _).trans c0,(cc _).trans c1,(cc _).trans c2,(cc _).trans c3,(cc _).trans c4,(cc _).trans c5⟩,fun U hU=>hV.step hv hk hO.hl.symm hnn o ho hbd.1 hbd.2 hU⟩
 clear hi hz0 hz1 hz2 hcs hsz hrow hL hv hO hOF kW hb
 go_enter func49,ntmps49
 go_wp2_with fail
 go_loopg [13] n (fun gk iv wr=>∃k:Nat,gk=n-k/\k<=n/\iv=.int .i64 (k:Int)/\Hid (Di w wr b q w.heap.size n F nn k T O))
 case atStart=>exact ⟨0,by omega,by omega,rfl,H0⟩
 case round =>
  clear H0 hmk hW hbW
  obtain ⟨k,hgk,hkn,rfl,HT⟩:=hrel
  by_cases hk:k<n
  ·have hkI:(k:Int)<(n:Int):=by omega
   have w1:IntKind.i64.wrap ((k:Int)+1)=((k+1:Nat):Int):=by rw[QX];omega
   obtain ⟨pb,po,o,rfl,⟨c0,c1,c2,c3,c4,c5⟩,hdo⟩:=HR.out wr k HT.out hk
   obtain ⟨U,hU,hbU,kU⟩:=jA4 wr #[.int .i64 o.kind,.string o.path,.string o.to_,.int .i64 o.at_,.int .i64 o.n,.string o.data] 72
   have HU:Hid _:=hU
   obtain ⟨u0,u1,u2,u3,u4,u5⟩:=Tr.jB4 kU
   have hd:=hdo U hbU
   obtain ⟨ok,op,ot,oa,on,od⟩:=o
   dsimp only at *
   clear hU hbU kU hdo
   go_upto_region 5 with fail
   rw[HU.out]
   go_wp2_with fail
   refine hd.mono ?_
   rintro e w5 ⟨D,va,vn,vc,rfl,HY,HZ,HD⟩
   obtain ⟨y0,y1,y2,y3,y4,y5,y6,y7,y8,y9,y10,y11,y12⟩:=HY.out
   have f0:=HZ.out (k*13)
   have f1:=HZ.out (k*13+1)
   have f2:=HZ.out (k*13+2)
   have f3:=HZ.out (k*13+3)
   have f4:=HZ.out (k*13+4)
   have f5:=HZ.out (k*13+5)
   have f6:=HZ.out (k*13+6)
   have f7:=HZ.out (k*13+6+1)
   have f8:=HZ.out (k*13+6+2)
   have f9:=HZ.out (k*13+6+3)
   have f10:=HZ.out (k*13+6+4)
   have f11:=HZ.out (k*13+6+5)
   have f12:=HZ.out (k*13+6+6)
   generalize hg:w.heap.size=g at *
   clear c0 c1 c2 c3 c4 c5 u0 u1 u2 u3 u4 u5 hd HU HY HZ HR
   go_wp2
   go_roundg (n-(k+1))
   case measure=>omega
   case rel=>exact ⟨k+1,rfl,by omega,rfl,HD⟩
  ·obtain rfl:k=n:=by omega
   have hkI:¬(k:Int)<(k:Int):=by omega
   go_wp2
   go_ret
   exact ⟨_,rfl,HT⟩
def sz1 (a:List Nat)(x:Tr.Nd):List Nat:=if x.kind=2 then a.set x.number x.size else a
def szL (f:Nat)(L:List Tr.Nd):List Nat:=L.foldl sz1 (List.replicate f 0)
theorem sz_take (f:Nat)(L:List Tr.Nd)(k:Nat)(x:Tr.Nd)(h:L[k]?=some x):szL f (L.take (k+1))=sz1 (szL f (L.take k)) x:=by
 unfold szL
 rw[List.take_add_one,h,List.foldl_append]
 rfl
theorem sz_len (f:Nat)(L:List Tr.Nd):(szL f L).length=f:=by
 unfold szL
 have:∀(L:List Tr.Nd) (a:List Nat),(L.foldl sz1 a).length=a.length:=fun L=>by
  induction L with
  | nil=>intro a;rfl
  | cons x L ih =>
    intro a
    rw[List.foldl_cons,ih]
    unfold sz1
    split <;> simp
 rw[this,List.length_replicate]
theorem sz_get {f:Nat}{L:List Tr.Nd}{x:Nat}(hx:x<f):∃v,(szL f L)[x]?=some v/\((∃y,y∈L/\y.kind=2/\y.number=x/\v=y.size)\/((∀y,y∈L->¬(y.kind=2/\y.number=x))/\v=0)):=by
 unfold szL
 have:∀(L:List Tr.Nd) (a:List Nat) (v0:Nat),a[x]?=some v0->∃v,(L.foldl sz1 a)[x]?=some v/\((∃y,y∈L/\y.kind=2/\y.number=x/\v=y.size)\/((∀y,y∈L->¬(y.kind=2/\y.number=x))/\v=v0)):=fun L=>by
  induction L with
  | nil=>intro a v0 h;exact ⟨v0,h,.inr ⟨fun y hy=>(by cases hy),rfl⟩⟩
  | cons z L ih =>
    intro a v0 h
    rw[List.foldl_cons]
    have hl:=jAy h
    by_cases hz:z.kind=2/\z.number=x
    ·have hs:(sz1 a z)[x]?=some z.size:=by
      unfold sz1
      rw[if_pos hz.1,hz.2,List.getElem?_set_self hl]
     obtain ⟨v,h1,h2⟩:=ih _ _ hs
     refine ⟨v,h1,.inl ?_⟩
     rcases h2 with ⟨y,a1,a2,a3,a4⟩ | ⟨_,a2⟩
     ·exact ⟨y,QA _ a1,a2,a3,a4⟩
     ·exact ⟨z,List.mem_cons_self ..,hz.1,hz.2,a2⟩
    ·have hs:(sz1 a z)[x]?=some v0:=by
      unfold sz1
      split
      ·rename_i hk
       rw[List.getElem?_set_ne (fun e=>hz ⟨hk,e⟩)]
       exact h
      ·exact h
     obtain ⟨v,h1,h2⟩:=ih _ _ hs
     refine ⟨v,h1,?_⟩
     rcases h2 with ⟨y,a1,a2,a3,a4⟩ | ⟨a1,a2⟩
     ·exact .inl ⟨y,QA _ a1,a2,a3,a4⟩
     ·refine .inr ⟨fun y hy=>?_,a2⟩
      rcases List.mem_cons.1 hy with rfl | hy
      ·exact hz
      ·exact a1 y hy
 exact this L _ 0 (by rw[Qc,if_pos hx])
theorem sz_told {T:Tr.Ts}{f x:Nat}(hx:x<f):(szL f (Tr.told T))[x]?=some (Tr.szF T x):=by
 obtain ⟨v,h1,h2⟩:=sz_get (L:=Tr.told T) hx
 rw[h1]
 congr 1
 rcases h2 with ⟨y,a1,a2,a3,a4⟩ | ⟨a1,a2⟩
 ·rcases Tr.jE9 a1 with h | h
  ·omega
  ·unfold Tr.szF
   rw[<-a3,h.2,a4]
 ·unfold Tr.szF
  split
  ·rename_i r hr
   obtain ⟨p,n,s⟩:=r
   exact absurd ⟨rfl,rfl⟩ (a1 _ (Tr.jM0 hr))
  ·exact a2
theorem sizesOf_any (w:World)(B:Nat)(a:Option Addr)(n c f:Nat)(dr:Int)(L:List Tr.Nd)(hn:n=L.length)(hA:w.ownsRow B 91 5 (.slice a n c) n (Tr.ndsc L))(hb:n<=1000000)(hf:f<=65536)(hLn:∀x,x∈L->x.kind=2->x.number<f) :
 Calls prog 76 #[.agg #[.int .i64 (f:Int),.int .i64 dr,.slice a n c]] w fun e w'=>∃g,e=.returned (.slice (some ⟨g,0,none⟩) f f)/\Hid (w'.ownsRow w.heap.size 3 1 (.slice (some ⟨g,0,none⟩) f f) f (nsC (szL f L)))/\Below w.heap.size w w':=by
 obtain ⟨i0,hi,hz0,hz1,hz2⟩:=info_parts info3
 obtain ⟨W1,hW1,hb1,k1⟩:=jA4 w #[.int .i64 (f:Int),.int .i64 dr,.slice a n c] 49
 have hmk:=run_make (P:=prog) W1 44 3 i0 _ underlying44 hi hz0 .i64 .i64 (f:Int) (f:Int) (by omega) (by omega) (by rw[hz2];omega) (by omega)
 rw[Int.toNat_natCast,hz1] at hmk
 have hcs:=jH8 (fun (n:Nat)=>[Value.int .i64 (n:Int)]) 1 (fun _=>rfl) (by decide) (.int .i64 0) 0 rfl f
 have hsz:=size_madeCells (Value.int .i64 0).cells (f*1)
 generalize madeCells (Value.int .i64 0).cells (f*1)=C at *
 obtain ⟨W,hW,hbW,kW⟩:=jA4 W1 C 3
 have hbw:=hb1.trans (hbW.mono hb1.size)
 have z1:W1.heap.size=w.heap.size+1:=by rw[<-hW1];simp
 have hrow:W.ownsRow w.heap.size 3 1 (.slice (some ⟨W1.heap.size,0,none⟩) f f) f (nsC (szL f (L.take 0))):=by
  refine ⟨by unfold nsC;rw[List.length_map,sz_len,Nat.mul_one],.inr ⟨W1.heap.size,f,C,rfl,by omega,kW,Qj _,by unfold maxLen;omega,by rw[hsz],?_⟩⟩
  rw[hcs,List.take_zero]
  show _=nsC (List.replicate f 0)
  unfold nsC
  rw[List.map_eq_flatMap,Qf (by rw[jEv _ 1 (fun _=>rfl),List.length_replicate];exact Qj _)]
 have HND:Hid (∀(V:World) (k:Nat),Below w.heap.size w V->k<n->∃(x:Tr.Nd) (g:Nat),L[k]?=some x/\(x.kind=2->x.number<f)/\a=some ⟨g,0,none⟩/\V.cell? ⟨g,k*5,none⟩=some (.int .i64 (x.kind:Int))/\V.cell? ⟨g,k*5+1,none⟩=some (.int .i64 (x.number:Int))/\V.cell? ⟨g,k*5+2,none⟩=some (.int .i64 (x.parent:Int))/\V.cell? ⟨g,k*5+3,none⟩=some (.string x.name)/\V.cell? ⟨g,k*5+4,none⟩=some (.int .i64 (x.size:Int))):=fun V k hV hk=>by
  have e1:∃g,a=some ⟨g,0,none⟩:=by
   rcases hA.2 with ⟨h1,h2⟩ | ⟨g,cap,cur,h1,_⟩
   ·omega
   ·injection h1 with h1 _ _;exact ⟨g,h1⟩
  obtain ⟨g,rfl⟩:=e1
  have hx:=Qv (l:=L) (i:=k) (by omega)
  have hA':=jA0 hA (W':=V) (fun k hk=>hV.block _ (hA.lt k hk).2)
  exact ⟨_,g,hx,hLn _ (List.getElem_mem _),rfl,Tr.jKy hA' hn hx⟩
 have HF:Hid (L.take n=L):=by rw[hn];exact Qh
 have HPUT:Hid (∀(V:World) (k:Nat) (x:Tr.Nd),L[k]?=some x->x.kind=2->x.number<f->V.ownsRow w.heap.size 3 1 (.slice (some ⟨W1.heap.size,0,none⟩) f f) f (nsC (szL f (L.take k)))->(∃y:Nat,V.cell? ⟨W1.heap.size,x.number,none⟩=some (.int .i64 (y:Int)))/\V.frozen? ⟨W1.heap.size,x.number,none⟩=false/\(V.setCell ⟨W1.heap.size,x.number,none⟩ (.int .i64 (x.size:Int))).ownsRow w.heap.size 3 1 (.slice (some ⟨W1.heap.size,0,none⟩) f f) f (nsC (szL f (L.take (k+1))))/\V.grownBy (V.setCell ⟨W1.heap.size,x.number,none⟩ (.int .i64 (x.size:Int))) (some W1.heap.size)):=fun V k x hx hk hlt hV=>by
  have hl:=sz_len f (L.take k)
  have hst:=hV.stored x.number (.int .i64 (x.size:Int))
  refine ⟨⟨_,(hV.cellAt x.number (by omega)).trans (jJx (Qv (by omega)))⟩,hV.frozenAt _,?_,hst.2⟩
  rw[sz_take f L k x hx]
  unfold sz1
  rw[if_pos hk]
  have e:(nsC (szL f (L.take k))).set x.number (.int .i64 (x.size:Int))=nsC ((szL f (L.take k)).set x.number x.size):=by unfold nsC;rw[List.map_set]
  rw[<-e]
  exact hst.1
 have HSK:Hid (∀(k:Nat) (x:Tr.Nd),L[k]?=some x->x.kind≠2->szL f (L.take (k+1))=szL f (L.take k)):=fun k x hx hk=>by
  rw[sz_take f L k x hx]
  unfold sz1
  rw[if_neg hk]
 have x0:W1.cell? ⟨w.heap.size,0,none⟩=some (.int .i64 (f:Int)):=(jAj k1).trans rfl
 have kk:W.heap[w.heap.size]?=some (.cells #[.int .i64 (f:Int),.int .i64 dr,.slice a n c] 49 (0,0)):=(hbW.block _ (jAv k1)).trans k1
 have x2:W.cell? ⟨w.heap.size,2,none⟩=some (.slice a n c):=(jAj kk).trans rfl
 have HG1:Hid (w.heap.size<=W1.heap.size):=hb1.size
 generalize W1.heap.size=g1 at *
 clear hi hz0 hz1 hz2 hcs hsz hA hn hLn hb1 k1 z1 kW hbW kk
 go_enter func76,ntmps76
 go_wp2_with fail
 go_loopg [12] n (fun gk iv wr=>∃k:Nat,gk=n-k/\k<=n/\iv=.int .i64 (k:Int)/\wr.ownsRow w.heap.size 3 1 (.slice (some ⟨g1,0,none⟩) f f) f (nsC (szL f (L.take k)))/\Below w.heap.size w wr)
 case atStart=>exact ⟨0,by omega,by omega,rfl,hrow,hbw⟩
 case round =>
  clear hrow hbw hmk hW hW1 x0 x2
  obtain ⟨k,hgk,hkn,rfl,hrow,hbe⟩:=hrel
  by_cases hk:k<n
  ·have hkI:(k:Int)<(n:Int):=by omega
   have w1:IntKind.i64.wrap ((k:Int)+1)=((k+1:Nat):Int):=by rw[QX];omega
   obtain ⟨x,g,hx,hxf,rfl,c0,c1,c2,c3,c4⟩:=HND.out wr k hbe hk
   obtain ⟨U,hU,hbU,kU⟩:=jA4 wr #[.int .i64 (x.kind:Int),.int .i64 (x.number:Int),.int .i64 (x.parent:Int),.string x.name,.int .i64 (x.size:Int)] 91
   have HU:Hid _:=hU
   have u0:U.cell? ⟨wr.heap.size,0,none⟩=some (.int .i64 (x.kind:Int)):=(jAj kU).trans rfl
   have u1:U.cell? ⟨wr.heap.size,1,none⟩=some (.int .i64 (x.number:Int)):=(jAj kU).trans rfl
   have u4:U.cell? ⟨wr.heap.size,4,none⟩=some (.int .i64 (x.size:Int)):=(jAj kU).trans rfl
   have hrU:=jA7 hrow hbU
   have hbU':=hbe.trans (hbU.mono hbe.size)
   by_cases hkk:x.kind=2
   ·obtain ⟨⟨y,hy⟩,hfz,hp,hgp⟩:=HPUT.out U k x hx hkk (hxf hkk) hrU
    have hlt:=hxf hkk
    have HP:Hid _:=hp
    have HBP:Hid (Below w.heap.size w (U.setCell ⟨g1,x.number,none⟩ (.int .i64 (x.size:Int)))):=hbU'.setCell HG1.out _
    have hkk':((x.kind:Int) == 2)=true:=by simp[hkk]
    have hltI:(x.number:Int)<(f:Int):=by omega
    generalize x.number=xn at *
    generalize x.kind=xk at *
    generalize x.size=xs at *
    clear hkk hU hrow hbe hbU kU hx hxf hp hgp hrU hbU' HND HPUT HSK
    go_upto_region 5 with fail
    rw[HU.out]
    go_wp2
    go_roundg (n-(k+1))
    case measure=>omega
    case rel=>exact ⟨k+1,rfl,by omega,rfl,HP.out,HBP.out⟩
   ·have hs:=HSK.out k x hx hkk
    rw[<-hs] at hrU
    have hkk':((x.kind:Int) == 2)=false:=by simp;omega
    generalize x.number=xn at *
    generalize x.kind=xk at *
    generalize x.size=xs at *
    clear hkk hU hrow hbe hbU kU hx hxf hs
    go_upto_region 5 with fail
    rw[HU.out]
    go_wp2
    go_roundg (n-(k+1))
    case measure=>omega
    case rel=>exact ⟨k+1,rfl,by omega,rfl,hrU,hbU'⟩
  ·obtain rfl:k=n:=by omega
   have hkI:¬(k:Int)<(k:Int):=by omega
   rw[HF.out] at hrow
   have HR:Hid _:=hrow
   clear hrow
   go_wp2
   go_ret
   exact ⟨_,rfl,HR,hbe⟩
structure Sl where
 ob:Int
 was:Int
 file:Int
 bk:Int
def slC (s:Sl):List Value:=[.int .i64 s.ob,.int .i64 s.was,.int .i64 s.file,.int .i64 s.bk]
def slsC (l:List Sl):List Value:=l.flatMap slC
theorem jK6 (s:Sl):(slC s).length=4:=rfl
theorem slsC_len (l:List Sl):(slsC l).length=l.length*4:=jEv slC 4 jK6 l
def jD4 (T:Tr.Ts)(f:Int):Nat:=if f=-1 then 0 else Tr.szF T f.toNat
def sltAt (ls:Nat)(P S:Ps)(T:Tr.Ts)(r:Nat):Sl:=⟨r,owAt P r,owAt S r,(Fr.sizY (jD4 T (owAt S r)) ls:Nat)⟩
def put4s (w:World)(g o:Nat)(x:Sl):World:=(((w.setCell ⟨g,o,none⟩ (.int .i64 x.ob)).setCell ⟨g,o+1,none⟩ (.int .i64 x.was)).setCell ⟨g,o+2,none⟩ (.int .i64 x.file)).setCell ⟨g,o+3,none⟩ (.int .i64 x.bk)
theorem sls_put {w:World}{B g cap n:Nat}{l:List Sl}(h:w.ownsRow B 53 4 (.slice (some ⟨g,0,none⟩) n cap) n (slsC l)){i:Nat}{was:Sl}(hi:l[i]?=some was)(x:Sl) :
 (put4s w g (i*4) x).ownsRow B 53 4 (.slice (some ⟨g,0,none⟩) n cap) n (slsC (l.set i x))/\w.grownBy (put4s w g (i*4) x) (some g):=by
 have h0:=h.stored (i*4) (.int .i64 x.ob)
 have h1:=h0.1.stored (i*4+1) (.int .i64 x.was)
 have h2:=h1.1.stored (i*4+2) (.int .i64 x.file)
 have h3:=h2.1.stored (i*4+3) (.int .i64 x.bk)
 have e:((((slsC l).set (i*4) (.int .i64 x.ob)).set (i*4+1) (.int .i64 x.was)).set (i*4+2) (.int .i64 x.file)).set (i*4+3) (.int .i64 x.bk)=slsC (l.set i x):=by
  have:=flat_put slC 4 jK6 l i was x hi
  rw[show slC x=[.int .i64 x.ob,.int .i64 x.was,.int .i64 x.file,.int .i64 x.bk] from rfl] at this
  simp only[setsL] at this
  exact this
 rw[e] at h3
 exact ⟨h3.1,((h0.2.trans h1.2).trans h2.2).trans h3.2⟩
def zSl:Sl:=⟨0,0,0,0⟩
theorem infoSlot:(prog.info? 53).map (fun i=>(i.zero,i.size,i.bytes))=some (some (.agg #[.int .i64 0,.int .i64 0,.int .i64 0,.int .i64 0]),4,32):=by kernel_rfl
def cutS (l:List Sl)(k:Nat):List Sl:=l.take k++List.replicate (l.length-k) zSl
theorem cutS_get {l:List Sl}{k:Nat}(h:k<l.length):(cutS l k)[k]?=some zSl:=by
 unfold cutS
 rw[Qd (by simp;omega),List.length_take,show min k l.length=k by omega,Nat.sub_self,Qc,if_pos (by omega)]
theorem cutS_len {l:List Sl}{k:Nat}(h:k<=l.length):(cutS l k).length=l.length:=by unfold cutS;simp;omega
theorem cutS_set {l:List Sl}{k:Nat}{o:Sl}(h:l[k]?=some o):(cutS l k).set k o=cutS l (k+1):=by
 have hl:=jAy h
 unfold cutS
 have e1:l.take (k+1)=l.take k++[o]:=by rw[List.take_add_one,h];rfl
 rw[List.set_append_right _ _ (by simp;omega),List.length_take,show min k l.length=k by omega,Nat.sub_self,show l.length-k=(l.length-(k+1))+1 by omega,List.replicate_succ,List.set_cons_zero,e1,List.append_assoc]
 rfl
theorem cutS_full (l:List Sl):cutS l l.length=l:=by unfold cutS;simp
theorem planTold_any (w:World)(c:Ix.Cn)(hin:c.In)(L:List Nat)(M:Nat)(hM:M=L.length)(hM2:M<=64)(B:Nat)(ra:Option Addr)(rc:Nat)(hrow:w.ownsRow B 3 1 (.slice ra M rc) M (nsC L))(pa qa na:Nat)(Fa:List Nat)(P:Ps)(hKa:Ok w pa qa Fa na P)(pb qb nb:Nat)(Fb:List Nat)(S:Ps)(hKb:Ok w pb qb Fb nb S)(b q nn:Nat)(F:List Nat)(T:Tr.Ts)(dp:Nat->Nat)(hbt:w.heap[b]?=some (.cells #[.pointer (some ⟨q,0,none⟩)] 94 (0,0)))(hLt:Tr.Lay w q F nn T)(hv:Tr.Inv T dp)(hfr:T.fr=c.fl)(hdr:T.dr=c.dr+1)(hl:∀i,i∈L->i<P.R.length/\i<S.R.length)(hfl:S.fl=c.fl) :
 Calls prog 51 #[Ix.cfV c.cf,.slice ra M rc,.pointer (some ⟨pa,0,none⟩),.pointer (some ⟨pb,0,none⟩),.pointer (some ⟨b,0,none⟩)] w fun e w'=>∃g,e=.returned (.slice (some ⟨g,0,none⟩) M M)/\Hid (w'.ownsRow w.heap.size 53 4 (.slice (some ⟨g,0,none⟩) M M) M (slsC (L.map (sltAt c.ls P S T))))/\Below w.heap.size w w':=by
 obtain ⟨j1,j2,j3,j4,j5,j6,j7,j8,j9,j10⟩:=hin
 obtain ⟨i0,hi,hz0,hz1,hz2⟩:=info_parts infoSlot
 obtain ⟨W,hW,hb,k0⟩:=jA4 w #[.int .i64 (c.sl:Int),.int .i64 (c.fl:Int),.int .i64 (c.dr:Int),.int .i64 (c.mf:Int),.int .i64 (c.ls:Int),.int .i64 (c.pg:Int)] 23
 have hst:=Tr.jKz W 0 b q nn T ⟨(hb.block _ (jAv hbt)).trans hbt,Kj _,F,hLt.below hb,fun _ _=>Kj _⟩ (by omega)
 rw[hfr] at hst
 have HSZ:Hid (∀(V:World) (a:Option Addr) (cc:Nat),V.ownsRow W.heap.size 91 5 (.slice a (Tr.told T).length cc) (Tr.told T).length (Tr.ndsc (Tr.told T))->(Tr.told T).length<=1000000->Calls prog 76 #[.agg #[.int .i64 (c.fl:Int),.int .i64 ((T.dr:Int)-1),.slice a (Tr.told T).length cc]] V fun e w'=>∃g,e=.returned (.slice (some ⟨g,0,none⟩) c.fl c.fl)/\Hid (w'.ownsRow V.heap.size 3 1 (.slice (some ⟨g,0,none⟩) c.fl c.fl) c.fl (nsC (szL c.fl (Tr.told T))))/\Below V.heap.size V w'):=fun V a cc h1 h2=>sizesOf_any V W.heap.size a _ cc c.fl _ (Tr.told T) rfl h1 h2 j4 (fun x hx hk=>by
  rcases Tr.told_room hv hx with h | h
  ·omega
  ·rw[hfr] at h;exact h.2)
 have hmk:=fun V=>run_make (P:=prog) V 37 53 i0 _ underlying37 hi hz0 .i64 .i64 (M:Int) (M:Int) (by omega) (by omega) (by rw[hz2];omega) (by omega)
 simp only[Int.toNat_natCast,hz1] at hmk
 have hcs:=jH8 slC 4 jK6 (by decide) (.agg #[.int .i64 0,.int .i64 0,.int .i64 0,.int .i64 0]) zSl rfl M
 have hsz:=size_madeCells (Value.agg #[.int .i64 0,.int .i64 0,.int .i64 0,.int .i64 0]).cells (M*4)
 generalize madeCells (Value.agg #[.int .i64 0,.int .i64 0,.int .i64 0,.int .i64 0]).cells (M*4)=C at *
 obtain ⟨ST,hST⟩:∃ST,L.map (sltAt c.ls P S T)=ST:=⟨_,rfl⟩
 have hSTl:ST.length=M:=by rw[<-hST,List.length_map,hM]
 have HMK:Hid (∀V:World,∃U,V.alloc (.cells C 53)=U/\Below V.heap.size V U/\U.ownsRow V.heap.size 53 4 (.slice (some ⟨V.heap.size,0,none⟩) M M) M (slsC (cutS ST 0))):=fun V=>by
  obtain ⟨U,hU,hbU,kU⟩:=jA4 V C 53
  refine ⟨U,hU,hbU,by rw[slsC_len,cutS_len (by omega),hSTl],.inr ⟨V.heap.size,M,C,rfl,Qj _,kU,Qj _,by unfold maxLen;omega,by rw[hsz],?_⟩⟩
  rw[hcs]
  unfold cutS slsC
  rw[List.take_zero,List.nil_append,Nat.sub_zero,hSTl]
  exact Qf (by rw[jEv slC 4 jK6,List.length_replicate];exact Qj _)
 have HR:Hid (∀(V:World) (k:Nat),Below w.heap.size w V->k<M->∃g r wo fo,ra=some ⟨g,0,none⟩/\V.cell? ⟨g,k,none⟩=some (.int .i64 (r:Int))/\(∀U,Below w.heap.size w U->Calls prog 77 #[.pointer (some ⟨pa,0,none⟩),.int .i64 (r:Int)] U fun e w'=>e=.returned (.int .i64 wo)/\Below U.heap.size U w')/\(∀U,Below w.heap.size w U->Calls prog 77 #[.pointer (some ⟨pb,0,none⟩),.int .i64 (r:Int)] U fun e w'=>e=.returned (.int .i64 fo)/\Below U.heap.size U w')/\ST[k]?=some ⟨r,wo,fo,(Fr.sizY (jD4 T fo) c.ls:Nat)⟩/\(fo≠-1->0<=fo/\fo<(c.fl:Int))):=fun V k hV hk=>by
  obtain ⟨r,hr⟩:∃r,L[k]?=some r:=⟨_,Qv (by omega)⟩
  have e1:∃g,ra=some ⟨g,0,none⟩:=by
   rcases hrow.2 with ⟨h1,h2⟩ | ⟨g,cap,cur,h1,_⟩
   ·omega
   ·injection h1 with h1 _ _;exact ⟨g,h1⟩
  obtain ⟨g,rfl⟩:=e1
  have hrV:=jA0 hrow (W':=V) (fun k hk=>hV.block _ (hrow.lt k hk).2)
  have hm:=hl r (List.mem_iff_getElem?.2 ⟨k,hr⟩)
  refine ⟨g,r,owAt P r,owAt S r,rfl,(hrV.cellAt k (by omega)).trans (jJx hr),fun U hU=>?_,fun U hU=>?_,by rw[<-hST,List.getElem?_map,hr];rfl,fun hne=>?_⟩
  ·exact jJy ⟨hKa.top.below hU,hKa.lay.below hU,hKa.good,hKa.nn⟩ r hm.1
  ·exact jJy ⟨hKb.top.below hU,hKb.lay.below hU,hKb.good,hKb.nn⟩ r hm.2
  ·have hro:=Qv hm.2
   have h9:=hKb.good.st r _ hro
   rw[jIz hro] at hne ⊢
   rw[hfl] at h9
   omega
 have HSI:Hid (∀(V:World) (B g:Nat) (fo:Int),0<=fo->fo<(c.fl:Int)->fo≠-1->V.ownsRow B 3 1 (.slice (some ⟨g,0,none⟩) c.fl c.fl) c.fl (nsC (szL c.fl (Tr.told T)))->∃x:Nat,fo=x/\V.cell? ⟨g,x,none⟩=some (.int .i64 (jD4 T fo:Int))):=fun V B g fo h0 h1 h2 h3=>by
  refine ⟨fo.toNat,by omega,?_⟩
  rw[h3.cellAt _ (by omega),jJx (sz_told (T:=T) (f:=c.fl) (x:=fo.toNat) (by omega))]
  unfold jD4
  rw[if_neg h2]
 have HPUT:Hid (∀(V:World) (B g k:Nat) (x:Sl),ST[k]?=some x->V.ownsRow B 53 4 (.slice (some ⟨g,0,none⟩) M M) M (slsC (cutS ST k))->(V.cell? ⟨g,k*4,none⟩=some (.int .i64 0)/\V.cell? ⟨g,k*4+1,none⟩=some (.int .i64 0)/\V.cell? ⟨g,k*4+2,none⟩=some (.int .i64 0)/\V.cell? ⟨g,k*4+3,none⟩=some (.int .i64 0))/\(∀j,V.frozen? ⟨g,j,none⟩=false)/\(put4s V g (k*4) x).ownsRow B 53 4 (.slice (some ⟨g,0,none⟩) M M) M (slsC (cutS ST (k+1)))/\V.grownBy (put4s V g (k*4) x) (some g)):=fun V B g k x hx hV=>by
  have hk:=jAy hx
  obtain ⟨hp,gp⟩:=sls_put hV (cutS_get hk) x
  rw[cutS_set hx] at hp
  have cc:=fun j (hj:j<4)=>(hV.cellAt (k*4+j) (by omega)).trans (jDz slC 4 jK6 _ k _ (cutS_get hk) j hj)
  exact ⟨⟨cc 0 (by omega),cc 1 (by omega),cc 2 (by omega),cc 3 (by omega)⟩,fun j=>hV.frozenAt j,hp,gp⟩
 have HMKR:Hid _:=hmk
 have HSF:Hid (cutS ST M=ST):=by rw[<-hSTl];exact cutS_full ST
 have HB:Hid (Below w.heap.size w W):=hb
 have HK0:Hid (W.heap[w.heap.size]?=some (.cells #[.int .i64 (c.sl:Int),.int .i64 (c.fl:Int),.int .i64 (c.dr:Int),.int .i64 (c.mf:Int),.int .i64 (c.ls:Int),.int .i64 (c.pg:Int)] 23 (0,0))):=k0
 rw[hST]
 rw[show Ix.cfV c.cf=.agg #[.int .i64 (c.sl:Int),.int .i64 (c.fl:Int),.int .i64 (c.dr:Int),.int .i64 (c.mf:Int),.int .i64 (c.ls:Int),.int .i64 (c.pg:Int)] from rfl]
 clear hKa hKb hbt hLt hrow hl hb k0 hST hi hz0 hz1 hz2 hcs hsz hSTl hM hmk hfr hdr hv hfl
 go_enter func51,ntmps51
 go_wp2_with fail
 refine hst.mono ?_
 rintro e w1 ⟨a1,c1,rfl,HO1,hb1,hl1⟩
 have hsz:=HSZ.out w1 a1 c1 HO1.out hl1
 go_wp2_with fail
 refine hsz.mono ?_
 rintro e w2 ⟨g2,rfl,HO2,hb2⟩
 obtain ⟨U3,hU3,hbU3,hO3⟩:=HMK.out w2
 have hm2:=HMKR.out w2
 have HU3:Hid _:=hU3
 have hbW2:=hb1.trans (hb2.mono hb1.size)
 have hbw2:=HB.out.trans (hbW2.mono HB.out.size)
 have hbw3:=hbw2.trans (hbU3.mono hbw2.size)
 have H3:Hid (U3.heap[w.heap.size]?=some (.cells #[.int .i64 (c.sl:Int),.int .i64 (c.fl:Int),.int .i64 (c.dr:Int),.int .i64 (c.mf:Int),.int .i64 (c.ls:Int),.int .i64 (c.pg:Int)] 23 (0,0))/\U3.ownsRow w.heap.size 3 1 (.slice (some ⟨g2,0,none⟩) c.fl c.fl) c.fl (nsC (szL c.fl (Tr.told T)))/\U3.ownsRow w.heap.size 53 4 (.slice (some ⟨w2.heap.size,0,none⟩) M M) M (slsC (cutS ST 0))/\Below w.heap.size w U3):=by
  have h0:=HK0.out
  have hs1:=HB.out.size
  have hs2:=hb1.size
  refine ⟨(hbU3.block _ (by have:=jAv h0;have:=hbW2.size;omega)).trans ((hbW2.block _ (jAv h0)).trans h0),jB1 (jA7 HO2.out hbU3) (by omega),jB1 hO3 hbw2.size,hbw3⟩
 generalize hg3:w2.heap.size=g3 at *
 clear hb1 hb2 hbU3 hO3 hbW2 hbw2 hbw3 HO1 HO2 hst hsz HSZ HMK HMKR hl1 hU3
 go_upto_region 3 with fail
 rw[HU3.out]
 clear HU3 hm2
 go_wp2_with fail
 go_loopg [25] M (fun gk iv wr=>∃k:Nat,gk=M-k/\k<=M/\iv=.int .i64 (k:Int)/\Hid (wr.heap[w.heap.size]?=some (.cells #[.int .i64 (c.sl:Int),.int .i64 (c.fl:Int),.int .i64 (c.dr:Int),.int .i64 (c.mf:Int),.int .i64 (c.ls:Int),.int .i64 (c.pg:Int)] 23 (0,0))/\wr.ownsRow w.heap.size 3 1 (.slice (some ⟨g2,0,none⟩) c.fl c.fl) c.fl (nsC (szL c.fl (Tr.told T)))/\wr.ownsRow w.heap.size 53 4 (.slice (some ⟨g3,0,none⟩) M M) M (slsC (cutS ST k))/\Below w.heap.size w wr))
 case atStart=>exact ⟨0,by omega,by omega,rfl,H3⟩
 case round =>
  clear H3
  obtain ⟨k,hgk,hkn,rfl,HT⟩:=hrel
  by_cases hk:k<M
  ·have hkI:(k:Int)<(M:Int):=by omega
   have w1:IntKind.i64.wrap ((k:Int)+1)=((k+1:Nat):Int):=by rw[QX];omega
   obtain ⟨t1,t2,t3,t4⟩:=HT.out
   obtain ⟨g,r,wo,fo,rfl,cr,hca,hcb,hsk,hfo⟩:=HR.out wr k t4 hk
   have ha:=hca wr t4
   have HBF:Hid (∀V,Below wr.heap.size wr V->Below w.heap.size w V):=fun V hV=>t4.trans (hV.mono t4.size)
   have HCB:Hid (∀V,Below wr.heap.size wr V->Calls prog 77 #[.pointer (some ⟨pb,0,none⟩),.int .i64 (r:Int)] V fun e w'=>e=.returned (.int .i64 fo)/\Below V.heap.size V w'):=fun V hV=>hcb V (HBF.out V hV)
   have HNX:Hid (∀(w6 U:World),Below wr.heap.size wr w6->w6.alloc (.cells #[.int .i64 (r:Int),.int .i64 wo,.int .i64 fo,.int .i64 0] 53)=U->(U.cell? ⟨w6.heap.size,0,none⟩=some (.int .i64 (r:Int))/\U.cell? ⟨w6.heap.size,1,none⟩=some (.int .i64 wo)/\U.cell? ⟨w6.heap.size,2,none⟩=some (.int .i64 fo)/\U.cell? ⟨w6.heap.size,3,none⟩=some (.int .i64 0))/\U.frozen? ⟨w6.heap.size,3,none⟩=false/\U.cell? ⟨w.heap.size,4,none⟩=some (.int .i64 (c.ls:Int))/\(fo≠-1->∃x:Nat,fo=x/\x<c.fl/\U.cell? ⟨g2,x,none⟩=some (.int .i64 (jD4 T fo:Int)))/\∃X,U.setCell ⟨w6.heap.size,3,none⟩ (.int .i64 (Fr.sizY (jD4 T fo) c.ls:Nat))=X/\(X.cell? ⟨w6.heap.size,0,none⟩=some (.int .i64 (r:Int))/\X.cell? ⟨w6.heap.size,1,none⟩=some (.int .i64 wo)/\X.cell? ⟨w6.heap.size,2,none⟩=some (.int .i64 fo)/\X.cell? ⟨w6.heap.size,3,none⟩=some (.int .i64 (Fr.sizY (jD4 T fo) c.ls:Nat)))/\(X.cell? ⟨g3,k*4,none⟩=some (.int .i64 0)/\X.cell? ⟨g3,k*4+1,none⟩=some (.int .i64 0)/\X.cell? ⟨g3,k*4+2,none⟩=some (.int .i64 0)/\X.cell? ⟨g3,k*4+3,none⟩=some (.int .i64 0))/\(X.frozen? ⟨g3,k*4,none⟩=false/\X.frozen? ⟨g3,k*4+1,none⟩=false/\X.frozen? ⟨g3,k*4+2,none⟩=false/\X.frozen? ⟨g3,k*4+3,none⟩=false)/\Hid ((put4s X g3 (k*4) ⟨r,wo,fo,(Fr.sizY (jD4 T fo) c.ls:Nat)⟩).heap[w.heap.size]?=some (.cells #[.int .i64 (c.sl:Int),.int .i64 (c.fl:Int),.int .i64 (c.dr:Int),.int .i64 (c.mf:Int),.int .i64 (c.ls:Int),.int .i64 (c.pg:Int)] 23 (0,0))/\(put4s X g3 (k*4) ⟨r,wo,fo,(Fr.sizY (jD4 T fo) c.ls:Nat)⟩).ownsRow w.heap.size 3 1 (.slice (some ⟨g2,0,none⟩) c.fl c.fl) c.fl (nsC (szL c.fl (Tr.told T)))/\(put4s X g3 (k*4) ⟨r,wo,fo,(Fr.sizY (jD4 T fo) c.ls:Nat)⟩).ownsRow w.heap.size 53 4 (.slice (some ⟨g3,0,none⟩) M M) M (slsC (cutS ST (k+1)))/\Below w.heap.size w (put4s X g3 (k*4) ⟨r,wo,fo,(Fr.sizY (jD4 T fo) c.ls:Nat)⟩))):=fun w6 U h6 hU=>by
    have hbU:Below w6.heap.size w6 U:=by rw[<-hU];exact (Qq _ _).alloc (Qj _) _
    have kU:U.heap[w6.heap.size]?=some (.cells #[.int .i64 (r:Int),.int .i64 wo,.int .i64 fo,.int .i64 0] 53 (0,0)):=by rw[<-hU];exact jA2 _ _
    have hbr:Below wr.heap.size wr U:=h6.trans (hbU.mono h6.size)
    have u1:=(hbr.block _ (jAv t1)).trans t1
    have u2:=jA7 t2 hbr
    have u3:=jA7 t3 hbr
    have kX:=QJ U w6.heap.size 3 _ _ (.int .i64 (Fr.sizY (jD4 T fo) c.ls:Nat)) kU
    have hs6:=h6.size
    have hXo:∀j,j<wr.heap.size->(U.setCell ⟨w6.heap.size,3,none⟩ (.int .i64 (Fr.sizY (jD4 T fo) c.ls:Nat))).heap[j]?=U.heap[j]?:=fun j hj=>Qy _ _ _ _ (by show j≠w6.heap.size;omega)
    have hg3:=(t3.lt g3 rfl)
    have v1:=(hXo _ (jAv t1)).trans u1
    have v2:=jA0 u2 fun j hj=>hXo j (t2.lt j hj).2
    have v3:=jA0 u3 fun j hj=>hXo j (t3.lt j hj).2
    obtain ⟨q1,q2,q3,q4⟩:=HPUT.out _ _ _ k _ hsk v3
    have hbX:Below w.heap.size w (U.setCell ⟨w6.heap.size,3,none⟩ (.int .i64 (Fr.sizY (jD4 T fo) c.ls:Nat))):=(HBF.out U hbr).setCell (by show w.heap.size<=w6.heap.size;have:=t4.size;omega) _
    refine ⟨⟨(jAj kU).trans rfl,(jAj kU).trans rfl,(jAj kU).trans rfl,(jAj kU).trans rfl⟩,jAq kU,(jAj u1).trans rfl,fun hne=>?_,_,rfl,⟨(jAj kX).trans rfl,(jAj kX).trans rfl,(jAj kX).trans rfl,(jAj kX).trans rfl⟩,q1,⟨q2 _,q2 _,q2 _,q2 _⟩,?_,?_,q3,?_⟩
    ·obtain ⟨f1,f2⟩:=hfo hne
     obtain ⟨x,rfl,hx⟩:=HSI.out U _ g2 fo f1 f2 hne u2
     exact ⟨x,rfl,by omega,hx⟩
    ·rw[q4.block _ (by have:=jAv v1;omega) (fun e=>by
      injection e with e
      obtain ⟨cur,hc⟩:=jA1 v3 rfl
      rw[<-e,v1] at hc
      injection hc with hc
      injection hc with _ hc _
      cases hc)]
     exact v1
    ·refine jA0 v2 fun j hj=>q4.block j (v2.lt j hj).2 (fun e=>by
      injection e with e
      obtain ⟨cur,hc⟩:=jA1 v3 rfl
      obtain ⟨cur2,hc2⟩:=jA1 v2 hj
      rw[e,hc] at hc2
      injection hc2 with hc2
      injection hc2 with _ hc2 _
      cases hc2)
    ·exact hbX.grown q4 hbX.size (fun j hj=>by cases hj;exact hg3.1)
   have hsa:=Fr.size_any (jD4 T fo:Int) (c.ls:Int)
   have HSA:Hid _:=hsa
   have HFO:Hid (fo≠-1->0<=fo/\fo<(c.fl:Int)):=hfo
   clear hca hcb hsk t1 t2 t3 t4 HR hfo hsa
   go_wp2_with fail
   refine ha.mono ?_
   rintro e w5 ⟨rfl,hb5⟩
   have hc5:=HCB.out w5 hb5
   go_wp2_with fail
   refine hc5.mono ?_
   rintro e w6 ⟨rfl,hb6⟩
   have hb6':=hb5.trans (hb6.mono hb5.size)
   obtain ⟨U,hU⟩:∃U,w6.alloc (.cells #[.int .i64 (r:Int),.int .i64 wo,.int .i64 fo,.int .i64 0] 53)=U:=⟨_,rfl⟩
   obtain ⟨⟨u0,u1,u2,u3⟩,fu3,uc,hsx,X,hX,⟨x0,x1,x2,x3⟩,⟨y0,y1,y2,y3⟩,⟨f0,f1,f2,f3⟩,HFIN⟩:=HNX.out w6 U hb6' hU
   have HU:Hid _:=hU
   have HXX:Hid _:=hX
   clear hU hb6 hb6' hb5 hc5 ha HCB HNX hX
   go_upto_region 7 with fail
   rw[HU.out]
   by_cases hfo:fo=-1
   ·have hsz0:jD4 T fo=0:=by unfold jD4;rw[if_pos hfo]
    rw[hsz0] at HSA HXX x3 HFIN
    have hfo':(fo == -1)=true:=by simpa using hfo
    have hs:=HSA.out U
    rw[show ((0:Nat):Int)=0 from rfl] at hs
    generalize Fr.sizE 0 (c.ls:Int)=ee at hs
    clear hsx hfo hsz0
    go_wp2_with fail
    refine hs.mono ?_
    rintro e w7 ⟨rfl,hw7⟩
    subst w7
    clear hs
    go_upto_region 11 with fail
    rw[show ((0:Nat):Int)=0 from rfl] at HXX x3 HFIN
    rw[HXX.out]
    clear u0 u1 u2 u3 fu3 uc HU
    unfold put4s at HFIN
    go_wp2
    go_roundg (M-(k+1))
    case measure=>omega
    case rel=>exact ⟨k+1,rfl,by omega,rfl,HFIN⟩
   ·obtain ⟨x,hfx,hxl,hcx⟩:=hsx hfo
    have hfo':(fo == -1)=false:=by simpa using hfo
    have hs:=HSA.out U
    subst hfx
    have hxI:(x:Int)<(c.fl:Int):=by omega
    generalize jD4 T (x:Int)=sz at *
    generalize Fr.sizE (sz:Int) (c.ls:Int)=ee at hs
    clear hsx hfo
    go_wp2_with fail
    refine hs.mono ?_
    rintro e w7 ⟨rfl,hw7⟩
    subst w7
    clear hs
    go_upto_region 11 with fail
    rw[HXX.out]
    clear u0 u1 u2 u3 fu3 uc HU hcx
    unfold put4s at HFIN
    go_wp2
    go_roundg (M-(k+1))
    case measure=>omega
    case rel=>exact ⟨k+1,rfl,by omega,rfl,HFIN⟩
  ·obtain rfl:k=M:=by omega
   have hkI:¬(k:Int)<(k:Int):=by omega
   have HX:Hid (wr.ownsRow w.heap.size 53 4 (.slice (some ⟨g3,0,none⟩) k k) k (slsC ST)/\Below w.heap.size w wr):=⟨by have:=HT.out.2.2.1;rw[HSF.out] at this;exact this,HT.out.2.2.2⟩
   clear HT
   go_wp2
   go_ret
   exact ⟨_,rfl,HX.out.1,HX.out.2⟩
theorem jI0 {P:Program}{fn:Func}{p u q z:Tmp}{ty:TypeId}(h:fn.results=#[.cell p ty,.tmp u,.tmp q,.tmp z])(tmps:Array Value)(w:World)(g:Nat)(t:TypeId)(cs:Array Value)(fr:Nat × Nat)(d:TypeDesc)
 (hp:tmps.getD p undef=.pointer (some ⟨g,0,none⟩)) (hg:w.heap[g]?=some (.cells cs t fr)) (hu:P.underlying ty=some d) (hd:(match d with | .struct _ | .array _ _=>true | _=>false)=true) (hi:(P.info? ty).map (·.size)=some cs.size) :
 (results fn tmps).run P w=.ok (.tuple #[.agg cs,tmps.getD u undef,tmps.getD q undef,tmps.getD z undef]) w:=by
 have hp':tmps[p]?.getD undef=.pointer (some ⟨g,0,none⟩):=by simpa using hp
 simp[results,h,hp',asAddr,run_loadVar_row w g t ty cs fr d hg hu hd hi]
theorem jMv:(prog.info? 40).map (·.size)=some 2:=by kernel_rfl
theorem jK7 {W:World}{g:Nat}{t:TypeId}{x0 x1 y0 y1:Value}(h:W.heap[g]?=some (.cells #[x0,x1] t (0,0))):((W.setCell ⟨g,0,none⟩ y0).setCell ⟨g,1,none⟩ y1).heap[g]?=some (.cells #[y0,y1] t (0,0)):=by
 have k0:(W.setCell ⟨g,0,none⟩ y0).heap[g]?=some (.cells #[y0,x1] t (0,0)):=QJ _ g 0 _ t y0 h
 exact QJ _ g 1 _ t y1 k0
theorem jB2 (e:Int)(w:World):Calls prog 46 #[.int .i64 e] w fun x w'=>x=.returned (.tuple #[.agg #[.slice none 0 0,.slice none 0 0],.pointer none,.pointer none,.int .i64 e])/\Below w.heap.size w w':=by
 obtain ⟨W,hW,hb,k0⟩:=jA4 w #[.slice none 0 0,.slice none 0 0] 40
 have HB:Hid (Below w.heap.size w W):=hb
 have HK:Hid (W.heap[w.heap.size]?=some (.cells #[.slice none 0 0,.slice none 0 0] 40 (0,0))):=k0
 have y0:W.cell? ⟨w.heap.size,0,none⟩=some (.slice none 0 0):=(jAj k0).trans rfl
 have y1:W.cell? ⟨w.heap.size,1,none⟩=some (.slice none 0 0):=(jAj k0).trans rfl
 have f0:W.frozen? ⟨w.heap.size,0,none⟩=false:=jAq k0
 have f1:W.frozen? ⟨w.heap.size,1,none⟩=false:=jAq k0
 clear hb k0
 go_enter func46,ntmps46
 go_wp2
 refine Qw (jI0 rfl _ _ w.heap.size 40 _ (0,0) _ rfl (jK7 HK.out) underlying40 rfl jMv) rfl ?_
 exact ⟨rfl,(HB.out.setCell (Qj _) _).setCell (Qj _) _⟩
theorem ld_dk {w:World}{q:Nat}{F:List Nat}{nn:Nat}{c:Ix.Cn}{T:Tr.Ts}{dp:Nat->Nat}{P:Ps}(d:Dk c T dp P)(hL:Tr.Lay w q F nn (Tr.ldT c.fl c.dr c.mf T)):Dk c (Tr.ldT c.fl c.dr c.mf T) dp P:=by
 obtain ⟨s1,s2,s3⟩:=Tr.ld_stay c.fl c.dr c.mf T
 obtain ⟨dv,fv,ld,lf,ms,-,hI⟩:=hL
 have hF:Tr.Sme (Tr.ldT c.fl c.dr c.mf T).F T.F:=Tr.load_F c.fl c.dr c.mf
 refine ⟨Tr.load_inv d.inv (Tr.load_D d.inv c.fl c.dr c.mf) hF rfl hI.dl hI.fl (fun x p n s h=>by have:=d.inv.hS x p n s h;rw[d.most] at this;rw[s3];exact this),s1,s2,s3,d.good,d.pfl,d.len,d.set,fun x=>(sme_tk hF x).trans (d.hold x)⟩
structure Mk (w w':World)(c:Ix.Cn)(P S:Ps)(R:List Nat)(st:List (Tr.Rs × Tr.Ef))(U:Tr.Ts)(n gl gs b q pb pq:Nat):Prop where
 wk:Wk w w' b q pb pq (200000+n) (P.R.length+c.sl) U S
 sl:w'.ownsRow w.heap.size 53 4 (.slice (some ⟨gl,0,none⟩) c.sl c.sl) c.sl (slsC (R.map (sltAt c.ls P S U)))
 st:∃l,w'.ownsRow w.heap.size 75 13 (.slice (some ⟨gs,0,none⟩) n n) n (stsC l)/\l.map (·.1)=st/\∀(i:Nat) x,l[i]?=some x->Pa.Own w' w.heap.size x.2 x.1.1.names
theorem Mk.below {w w' W:World}{c:Ix.Cn}{P S:Ps}{R:List Nat}{st:List (Tr.Rs × Tr.Ef)}{U:Tr.Ts}{n gl gs b q pb pq:Nat}(h:Mk w w' c P S R st U n gl gs b q pb pq)(hb:Below w'.heap.size w' W):Mk w W c P S R st U n gl gs b q pb pq:=by
 obtain ⟨l,h1,h2,h3⟩:=h.st
 exact ⟨h.wk.below hb,jA7 h.sl hb,l,jA7 h1 hb,h2,fun i x hx=>jA7 (h3 i x hx) hb⟩
theorem make_cfg (w:World)(hT:Ix.RT w)(c:Ix.Cf)(hc:¬c.May)(b pb:Nat)(a:Option Addr)(n oc:Nat):Calls prog 25 #[Ix.cfV c,.pointer (some ⟨b,0,none⟩),.pointer (some ⟨pb,0,none⟩),.slice a n oc] w fun e w'=>e=.returned (.tuple #[.agg #[.slice none 0 0,.slice none 0 0],.pointer none,.pointer none,.int .i64 140])/\Below w.heap.size w w':=by
 obtain ⟨c0,c1,c2,c3,c4,c5⟩:=c
 obtain ⟨W,hW,hb,k0,k1⟩:=jDy w #[.int .i64 c0,.int .i64 c1,.int .i64 c2,.int .i64 c3,.int .i64 c4,.int .i64 c5] #[.slice none 0 0,.slice none 0 0] 23 40
 have hch:=Ix.check_any ⟨c0,c1,c2,c3,c4,c5⟩ W (hT.next hb)
 have hE:Ix.chkE ⟨c0,c1,c2,c3,c4,c5⟩=140:=by unfold Ix.chkE;rw[if_neg hc]
 rw[hE] at hch
 rw[show Ix.cfV ⟨c0,c1,c2,c3,c4,c5⟩=.agg #[.int .i64 c0,.int .i64 c1,.int .i64 c2,.int .i64 c3,.int .i64 c4,.int .i64 c5] from rfl] at hch ⊢
 obtain ⟨x0,x1,x2,x3,x4,x5⟩:=Tr.jB4 k0
 have HK:Hid (∀V,Below W.heap.size W V->V.heap[w.heap.size+1]?=some (.cells #[.slice none 0 0,.slice none 0 0] 40 (0,0))/\Below w.heap.size w V):=fun V hV=>⟨(hV.block _ (jAv k1)).trans k1,hb.trans (hV.mono hb.size)⟩
 have HRF:=jB2 140
 have HR:Hid _:=HRF
 clear hE hb k0 k1 HRF hc
 go_enter func25,ntmps25
 go_wp2_with fail
 refine hch.mono ?_
 rintro e w1 ⟨rfl,hb1⟩
 have hr:=HR.out w1
 clear x0 x1 x2 x3 x4 x5 hch
 go_wp2_with fail
 refine hr.mono ?_
 rintro e w2 ⟨rfl,hb2⟩
 obtain ⟨k2,hbw⟩:=HK.out w2 (hb1.trans (hb2.mono hb1.size))
 have y0:w2.cell? ⟨w.heap.size+1,0,none⟩=some (.slice none 0 0):=(jAj k2).trans rfl
 have y1:w2.cell? ⟨w.heap.size+1,1,none⟩=some (.slice none 0 0):=(jAj k2).trans rfl
 have f0:w2.frozen? ⟨w.heap.size+1,0,none⟩=false:=jAq k2
 have f1:w2.frozen? ⟨w.heap.size+1,1,none⟩=false:=jAq k2
 have HK2:Hid _:=k2
 have HBW:Hid _:=hbw
 clear k2 hbw hb1 hb2 hr
 go_wp2
 refine Qw (jI0 rfl _ _ (w.heap.size+1) 40 _ (0,0) _ rfl (jK7 HK2.out) underlying40 rfl jMv) rfl ?_
 exact ⟨rfl,(HBW.out.setCell (by show w.heap.size<=w.heap.size+1;omega) _).setCell (by show w.heap.size<=w.heap.size+1;omega) _⟩
def cfA (c:Ix.Cn):Array Value:=#[.int .i64 (c.sl:Int),.int .i64 (c.fl:Int),.int .i64 (c.dr:Int),.int .i64 (c.mf:Int),.int .i64 (c.ls:Int),.int .i64 (c.pg:Int)]
def Bx (x:World)(c:Ix.Cn)(gc:Nat):Prop:=x.heap[gc]?=some (.cells (cfA c) 23 (0,0))/\x.heap[gc+1]?=some (.cells #[.slice none 0 0,.slice none 0 0] 40 (0,0))
theorem Bx.below {x y:World}{c:Ix.Cn}{gc:Nat}(h:Bx x c gc)(hb:Below x.heap.size x y):Bx y c gc:=⟨(hb.block _ (jAv h.1)).trans h.1,(hb.block _ (jAv h.2)).trans h.2⟩
theorem Bx.cells {x:World}{c:Ix.Cn}{gc:Nat}(h:Bx x c gc):x.cell? ⟨gc,0,none⟩=some (.int .i64 (c.sl:Int))/\x.cell? ⟨gc,1,none⟩=some (.int .i64 (c.fl:Int))/\x.cell? ⟨gc,2,none⟩=some (.int .i64 (c.dr:Int))/\x.cell? ⟨gc,3,none⟩=some (.int .i64 (c.mf:Int))/\x.cell? ⟨gc,4,none⟩=some (.int .i64 (c.ls:Int))/\x.cell? ⟨gc,5,none⟩=some (.int .i64 (c.pg:Int)):=Tr.jB4 h.1
structure Sg (w x:World)(c:Ix.Cn)(b q pb pq g n gc nn pn:Nat)(U:Tr.Ts)(S:Ps)(st:List (Tr.Rs × Tr.Ef)):Prop where
 wk:Wk w x b q pb pq nn pn U S
 row:∃l,x.ownsRow w.heap.size 75 13 (.slice (some ⟨g,0,none⟩) n n) n (stsC l)/\l.map (·.1)=st/\∀(i:Nat) y,l[i]?=some y->Pa.Own x w.heap.size y.2 y.1.1.names
 bx:Bx x c gc
 be:Below w.heap.size w x
theorem only_base {F:List Nat}{w a b:World}(h:Only F a b)(hb:Below w.heap.size w a)(hF:∀k,k∈F->w.heap.size<=k):Below w.heap.size w b:=hb.trans ⟨h.os,h.tape,h.output,h.size,fun k hk=>h.block k (Qx hk hb.size) fun hm=>by have:=hF k hm;omega⟩
theorem sg_do {w x:World}{c:Ix.Cn}{b q pb pq gc pn:Nat}{U:Tr.Ts}{dp:Nat->Nat}{P:Ps}(hw:Wk w x b q pb pq 200000 pn U P)(hv:Tr.Inv U dp)(hbx:Bx x c gc)(hbe:Below w.heap.size w x)(a:Option Addr)(n oc:Nat)(O:List Tr.Op)(hO:Tr.IsO w a n O)(hn:n<=64) :
 Calls prog 49 #[.pointer (some ⟨b,0,none⟩),.slice a n oc] x fun e y=>∃g,e=.returned (.slice (some ⟨g,0,none⟩) n n)/\Hid (Sg w y c b q pb pq g n gc (200000+n) pn (doL U O).2 P (doL U O).1):=by
 obtain ⟨F,PF,h1,h2,h3,h4,h5,h6,h7,h8⟩:=hw.ex
 have hOx:Tr.IsO x a n O:=hO.below hbe
 refine (planDo_any x b q F 200000 U dp h1 h2 hv a n oc O hOx hn (by omega) (fun p o e hn0 hm=>?_)).mono ?_
 ·have:=h4 p hm
  obtain ⟨o9,h9⟩:∃o9,O[0]?=some o9:=⟨_,Qv (by rw[hO.hl];exact hn0)⟩
  obtain ⟨p',o',e',hp',_⟩:=hO.at_ 0 o9 h9
  rw[e] at e'
  injection e' with e'
  injection e' with e1 e2
  omega
 rintro e y ⟨g,rfl,HD⟩
 obtain ⟨F',l,g1,g2,g3,g4,g5,g6,g7⟩:=HD.out.ex
 have hT:O.take n=O:=by rw[<-hO.hl];exact Qh
 rw[hT] at g1 g6
 rw[Nat.sub_self,List.replicate_zero,List.append_nil] at g5
 have hxs:=g3.size
 have hbs:=hbe.size
 refine ⟨g,rfl,⟨F',PF,g4,g1,⟨(g3.block _ (jAv h3.top) (h2.notin h3.top (by decide))).trans h3.top,h3.lay.keep fun k hk=>g3.block k (h3.lay.lt k hk) (fun hm=>h6 k hm hk),h3.good,h3.nn⟩,fun k hk=>?_,h5,fun k hk hk'=>?_,h7,h8⟩,⟨l,jB1 g5 hbs,g6,fun i y' hy=>(g7 i y' hy).mono hbs⟩,⟨?_,?_⟩,only_base g3 hbe h4⟩
 ·rcases g2 k hk with h | h
  ·exact h4 k h
  ·omega
 ·rcases g2 k hk with h | h
  ·exact h6 k h hk'
  ·have:=h3.lay.lt k hk'
   omega
 ·exact (g3.block _ (jAv hbx.1) (h2.notin hbx.1 (by decide))).trans hbx.1
 ·exact (g3.block _ (jAv hbx.2) (h2.notin hbx.2 (by decide))).trans hbx.2
theorem sg_touch {w x:World}{c:Ix.Cn}(hc:c.sl<=64){b q pb pq g n gc nn pn:Nat}{T U:Tr.Ts}{dp:Nat->Nat}{P:Ps}{O:List Tr.Op}(h:Sg w x c b q pb pq g n gc nn pn U P (doL T O).1)(d:Dk c T dp P)(hO:O.length<=c.sl)(hn:n=O.length)(hpn:pn+64<9223372036854775800) :
 Calls prog 50 #[Ix.cfV c.cf,.pointer (some ⟨pb,0,none⟩),.slice (some ⟨g,0,none⟩) n n] x fun e y=>∃ra rc,e=.returned (.slice ra c.sl rc)/\Hid (Sg w y c b q pb pq g n gc nn (pn+c.sl) U (endB c T P O) (doL T O).1/\y.ownsRow w.heap.size 3 1 (.slice ra c.sl rc) c.sl (nsC (jGx c T P O))):=by
 obtain ⟨F,PF,h1,h2,h3,h4,h5,h6,h7,h8⟩:=h.wk.ex
 obtain ⟨l,r1,r2,r3⟩:=h.row
 refine (touch_any x pb pq pn PF P h3 hpn c hc T dp d O hO _ n n l hn r2 _ r1).mono ?_
 rintro e y ⟨v,rfl,HT⟩
 obtain ⟨bb,hTc⟩:=HT.out
 obtain ⟨PF',k1,k2,k3,k4,k5,k6,k7⟩:=hTc.ex
 obtain ⟨ra,rc,rfl⟩:=jBy k6
 have hrl:=(jNq d O hO).2
 rw[hrl] at k6 ⊢
 have hbs:=h.be.size
 have hxs:=k3.size
 refine ⟨ra,rc,rfl,⟨⟨F,PF',?_,?_,k1,h4,fun k hk=>?_,fun k hk hk'=>?_,h7,h8⟩,⟨l,?_,r2,fun i y' hy=>?_⟩,⟨?_,?_⟩,only_base k3 h.be h5⟩,jB1 k6 hbs⟩
 ·exact (k3.block _ (jAv h1) (h3.lay.notin h1 (by decide))).trans h1
 ·exact h2.keep fun k hk=>k3.block k (h2.lt k hk) (h6 k hk)
 ·rcases k2 k hk with h | h
  ·exact h5 k h
  ·omega
 ·rcases k2 k hk' with h | h
  ·exact h6 k hk h
  ·have:=h2.lt k hk
   omega
 ·exact jA0 r1 fun j hj=>by
   obtain ⟨cu,hcu⟩:=jA1 r1 hj
   exact k3.block j (jAv hcu) (h3.lay.notin hcu (by decide))
 ·have h9:=r3 i y' hy
  exact jA0 h9 fun j hj=>by
   obtain ⟨cu,hcu⟩:=jA1 h9 hj
   exact k3.block j (jAv hcu) (h3.lay.notin hcu (by decide))
 ·exact (k3.block _ (jAv h.bx.1) (h3.lay.notin h.bx.1 (by decide))).trans h.bx.1
 ·exact (k3.block _ (jAv h.bx.2) (h3.lay.notin h.bx.2 (by decide))).trans h.bx.2
theorem sg_told {w x:World}{c:Ix.Cn}(hin:c.In){b q pb pq g n gc nn pn:Nat}{T:Tr.Ts}{dp:Nat->Nat}{P:Ps}{O:List Tr.Op}{ra:Option Addr}{rc pa qa na:Nat}{Fa:List Nat}(hKa:Ok w pa qa Fa na P)(d:Dk c T dp P)(hO:O.length<=c.sl)(h:Sg w x c b q pb pq g n gc nn pn (doL T O).2 (endB c T P O) (doL T O).1)(hr:x.ownsRow w.heap.size 3 1 (.slice ra c.sl rc) c.sl (nsC (jGx c T P O))) :
 Calls prog 51 #[Ix.cfV c.cf,.slice ra c.sl rc,.pointer (some ⟨pa,0,none⟩),.pointer (some ⟨pb,0,none⟩),.pointer (some ⟨b,0,none⟩)] x fun e y=>∃gl,e=.returned (.slice (some ⟨gl,0,none⟩) c.sl c.sl)/\Hid (Sg w y c b q pb pq g n gc nn pn (doL T O).2 (endB c T P O) (doL T O).1/\y.ownsRow w.heap.size 53 4 (.slice (some ⟨gl,0,none⟩) c.sl c.sl) c.sl (slsC ((jGx c T P O).map (sltAt c.ls P (endB c T P O) (doL T O).2)))):=by
 obtain ⟨F,PF,h1,h2,h3,h4,h5,h6,h7,h8⟩:=h.wk.ex
 obtain ⟨b1,hbl⟩:=jNq d O hO
 obtain ⟨dp',d'⟩:=d.next O hO
 have hKx:Ok x pa qa Fa na P:=⟨hKa.top.below h.be,hKa.lay.below h.be,hKa.good,hKa.nn⟩
 refine (planTold_any x c hin (jGx c T P O) c.sl hbl.symm (hin.2.1) w.heap.size ra rc hr pa qa na Fa P hKx pb pq pn PF (endB c T P O) h3 b q nn F (doL T O).2 dp' h1 h2 d'.inv d'.fr d'.dr (fun i hi=>?_) d'.pfl).mono ?_
 ·have:=b1.lt i hi
  rw[b1.len] at this
  rw[d'.len,<-d.len]
  exact ⟨this,this⟩
 rintro e y ⟨gl,rfl,HS,hb⟩
 obtain ⟨l,r1,r2,r3⟩:=h.row
 exact ⟨gl,rfl,⟨h.wk.below hb,⟨l,jA7 r1 hb,r2,fun i y' hy=>jA7 (r3 i y' hy) hb⟩,h.bx.below hb,h.be.trans (hb.mono h.be.size)⟩,jB1 HS.out h.be.size⟩
theorem sg_end {w x:World}{c:Ix.Cn}{b q pb pq g n gc:Nat}{U:Tr.Ts}{P S:Ps}{R:List Nat}{st:List (Tr.Rs × Tr.Ef)}{gl:Nat}(hgc:w.heap.size<=gc)(h:Sg w x c b q pb pq g n gc (200000+n) (P.R.length+c.sl) U S st)(hs:x.ownsRow w.heap.size 53 4 (.slice (some ⟨gl,0,none⟩) c.sl c.sl) c.sl (slsC (R.map (sltAt c.ls P S U))))(y0 y1:Value):Mk w ((x.setCell ⟨gc+1,0,none⟩ y0).setCell ⟨gc+1,1,none⟩ y1) c P S R st U n gl g b q pb pq/\Below w.heap.size w ((x.setCell ⟨gc+1,0,none⟩ y0).setCell ⟨gc+1,1,none⟩ y1):=by
 obtain ⟨F,PF,h1,h2,h3,h4,h5,h6,h7,h8⟩:=h.wk.ex
 obtain ⟨l,r1,r2,r3⟩:=h.row
 have hp:=h.bx.2
 have hk:∀k,k≠gc+1->((x.setCell ⟨gc+1,0,none⟩ y0).setCell ⟨gc+1,1,none⟩ y1).heap[k]?=x.heap[k]?:=fun k hk=>(Qy _ _ _ _ hk).trans (Qy _ _ _ _ hk)
 have hne:∀{k:Nat} {cu:Array Value} {t:TypeId},x.heap[k]?=some (.cells cu t (0,0))->t≠40->k≠gc+1:=fun {k cu t} hc ht e=>by
  rw[e,hp] at hc
  injection hc with hc
  injection hc with _ hc _
  exact ht hc.symm
 have hrow:∀{B e sz n:Nat} {v:Value} {xs:List Value},x.ownsRow B e sz v n xs->e≠40->((x.setCell ⟨gc+1,0,none⟩ y0).setCell ⟨gc+1,1,none⟩ y1).ownsRow B e sz v n xs:=fun hr he=>jA0 hr fun j hj=>by
  obtain ⟨cu,hcu⟩:=jA1 hr hj
  exact hk j (hne hcu he)
 refine ⟨⟨⟨F,PF,(hk _ (hne h1 (by decide))).trans h1,h2.keep fun k hk'=>hk k fun e=>h2.notin hp (by decide) (e▸hk'),⟨(hk _ (hne h3.top (by decide))).trans h3.top,h3.lay.keep fun k hk'=>hk k fun e=>h3.lay.notin hp (by decide) (e▸hk'),h3.good,h3.nn⟩,h4,h5,h6,h7,h8⟩,hrow hs (by decide),l,hrow r1 (by decide),r2,fun i y hy=>hrow (r3 i y hy) (by decide)⟩,(h.be.setCell (by show w.heap.size<=gc+1;omega) _).setCell (by show w.heap.size<=gc+1;omega) _⟩
