import Derived.Test.YtfnklhajafmooaaGreatDoorG40
import Derived.Test.YtfnklhajafmooaaGreatDoorG42
set_option maxHeartbeats 2000000
set_option maxRecDepth 20000
namespace Go.Proofs.YtfnklhajafmooaaGreatDoor.Po.Pn
open Go.RowKit Go.Lib Go.Deep
def zSt:(Tr.Rs × Tr.Ef) × Value:=((Tr.Rs.no 0,zEf),.slice none 0 0)
structure Di (w wr:World)(b q g n:Nat)(F:List Nat)(nn k:Nat)(T:Tr.Ts)(O:List Tr.Op):Prop where
 ex:∃F' l,Tr.Lay wr q F' (nn+k) (doL T (O.take k)).2/\(∀j,j∈F'->j∈F\/w.heap.size<=j)/\Only F w wr/\wr.heap[b]?=some (.cells #[.pointer (some ⟨q,0,none⟩)] 94 (0,0))/\wr.ownsRow w.heap.size 75 13 (.slice (some ⟨g,0,none⟩) n n) n (stsC (l++List.replicate (n-k) zSt))/\l.map (·.1)=(doL T (O.take k)).1/\(∀(i:Nat) x,l[i]?=some x->Pa.Own wr w.heap.size x.2 x.1.1.names)
theorem Di.step {w wr U:World}{b q g n:Nat}{F:List Nat}{nn k:Nat}{T:Tr.Ts}{dp:Nat->Nat}{O:List Tr.Op}(h:Di w wr b q g n F nn k T O)(hv:Tr.Inv T dp)(hk:k<n)(hn:n=O.length)(hnn:nn+n<=8796093022207)(o:Tr.Op)(ho:O[k]?=some o)(hoa:o.at_<=9223372036854775807)(hod:o.data.size<=9223372036854775807)(hU:Below wr.heap.size wr U) :
 Calls Tryz.prog 17 #[.pointer (some ⟨b,0,none⟩),.agg #[.int .i64 o.kind,.string o.path,.string o.to_,.int .i64 o.at_,.int .i64 o.n,.string o.data]] U fun e w'=>∃(D:Tr.Ans) (va:Option Addr) (vn vc:Nat),e=.returned (.tuple #[.agg #[.int .i64 D.1.code,.string Tr.e0,.int .i64 D.1.n,.slice va vn vc,.int .i64 D.1.kind,.int .i64 D.1.size],.agg #[.int .i64 D.2.1.kind,.int .i64 D.2.1.file,.int .i64 D.2.1.gone,.int .i64 D.2.1.at_,.int .i64 D.2.1.n,.string D.2.1.data,.int .i64 D.2.1.size]])/\Hid (w'.cell? ⟨g,k*13,none⟩=some (.int .i64 0)/\w'.cell? ⟨g,k*13+1,none⟩=some (.string Tr.e0)/\w'.cell? ⟨g,k*13+2,none⟩=some (.int .i64 0)/\w'.cell? ⟨g,k*13+3,none⟩=some (.slice none 0 0)/\w'.cell? ⟨g,k*13+4,none⟩=some (.int .i64 0)/\w'.cell? ⟨g,k*13+5,none⟩=some (.int .i64 0)/\w'.cell? ⟨g,k*13+6,none⟩=some (.int .i64 0)/\w'.cell? ⟨g,k*13+6+1,none⟩=some (.int .i64 0)/\w'.cell? ⟨g,k*13+6+2,none⟩=some (.int .i64 0)/\w'.cell? ⟨g,k*13+6+3,none⟩=some (.int .i64 0)/\w'.cell? ⟨g,k*13+6+4,none⟩=some (.int .i64 0)/\w'.cell? ⟨g,k*13+6+5,none⟩=some (.string Tr.e0)/\w'.cell? ⟨g,k*13+6+6,none⟩=some (.int .i64 0))/\Hid (∀j,w'.frozen? ⟨g,j,none⟩=false)/\Hid (Di w (((((((((((((w'.setCell ⟨g,k*13,none⟩ (.int .i64 D.1.code)).setCell ⟨g,k*13+1,none⟩ (.string Tr.e0)).setCell ⟨g,k*13+2,none⟩ (.int .i64 D.1.n)).setCell ⟨g,k*13+3,none⟩ (.slice va vn vc)).setCell ⟨g,k*13+4,none⟩ (.int .i64 D.1.kind)).setCell ⟨g,k*13+5,none⟩ (.int .i64 D.1.size)).setCell ⟨g,k*13+6,none⟩ (.int .i64 D.2.1.kind)).setCell ⟨g,k*13+6+1,none⟩ (.int .i64 D.2.1.file)).setCell ⟨g,k*13+6+2,none⟩ (.int .i64 D.2.1.gone)).setCell ⟨g,k*13+6+3,none⟩ (.int .i64 D.2.1.at_)).setCell ⟨g,k*13+6+4,none⟩ (.int .i64 D.2.1.n)).setCell ⟨g,k*13+6+5,none⟩ (.string D.2.1.data)).setCell ⟨g,k*13+6+6,none⟩ (.int .i64 D.2.1.size)) b q g n F nn (k+1) T O):=by
 obtain ⟨F',l,hL,hF',hoo,hb,hrow,hl,hnm⟩:=h.ex
 obtain ⟨⟨dp',hv'⟩,-⟩:=jK0 hv O k (by omega)
 have hbU:=(hU.block _ (jAv hb)).trans hb
 have hLU:=hL.below hU
 have hsU:=hU.size
 refine (Tr.do_any U b q F' (nn+k) (doL T (O.take k)).2 dp' o hbU hLU hv' (by omega) hoa hod).mono ?_
 rintro e w' ⟨v,rfl,hO,ho2,F2,hL2,hF2⟩
 obtain ⟨a,cap,rfl⟩:=hO.len
 have hrowU:=jA9 hrow hU
 have hgU:∃cur,U.heap[g]?=some (.cells cur 75 (0,0)):=jA1 hrowU rfl
 obtain ⟨cur,hg⟩:=hgU
 have hgF:g ∉ F':=hLU.notin hg (by decide)
 have hg2:w'.heap[g]?=U.heap[g]?:=ho2.block g (jAv hg) hgF
 have hrow2:w'.ownsRow w.heap.size 75 13 (.slice (some ⟨g,0,none⟩) n n) n (stsC (l++List.replicate (n-k) zSt)):=jA0 hrowU fun j hj=>by
  injection hj with hj
  subst hj
  exact hg2
 have hll:l.length=k:=by
  have:=congrArg List.length hl
  rw[List.length_map,jKz T O k (by omega)] at this
  exact this
 have hz:(l++List.replicate (n-k) zSt)[k]?=some zSt:=by
  rw[List.getElem?_append_right (by omega),hll,Nat.sub_self,List.getElem?_replicate,if_pos (by omega)]
 have c:=fun j (hj:j<13)=>(hrow2.cellAt (k*13+j) (by omega)).trans (jD0 stC 13 jK1 _ k _ hz j hj)
 obtain ⟨hp,gp⟩:=sts_put hrow2 hz ((((Tr.doT (doL T (O.take k)).2 o).1,(Tr.doT (doL T (O.take k)).2 o).2.1),.slice a (Tr.doT (doL T (O.take k)).2 o).1.names.length cap))
 have hset:(l++List.replicate (n-k) zSt).set k ((((Tr.doT (doL T (O.take k)).2 o).1,(Tr.doT (doL T (O.take k)).2 o).2.1),.slice a (Tr.doT (doL T (O.take k)).2 o).1.names.length cap))=(l++[((((Tr.doT (doL T (O.take k)).2 o).1,(Tr.doT (doL T (O.take k)).2 o).2.1),.slice a (Tr.doT (doL T (O.take k)).2 o).1.names.length cap))])++List.replicate (n-(k+1)) zSt:=by
  rw[List.set_append_right _ _ (by omega),hll,Nat.sub_self,show n-k=(n-(k+1))+1 by omega,List.replicate_succ,List.set_cons_zero,List.append_assoc]
  rfl
 rw[hset] at hp
 refine ⟨Tr.doT (doL T (O.take k)).2 o,a,_,cap,rfl,⟨c 0 (by omega),c 1 (by omega),c 2 (by omega),c 3 (by omega),c 4 (by omega),c 5 (by omega),c 6 (by omega),c 7 (by omega),c 8 (by omega),c 9 (by omega),c 10 (by omega),c 11 (by omega),c 12 (by omega)⟩,fun j=>hrow2.frozenAt j,F2,_,?_,fun j hj=>?_,?_,?_,hp,?_,fun i x hx=>?_⟩
 ·rw[jKy T O k o ho]
  exact hL2.keep (fun j hj=>gp.block j (hL2.lt j hj) (fun e=>by
   injection e with e
   subst e
   exact hL2.notin (hg2.trans hg) (by decide) hj))
 ·rcases hF2 j hj with h1 | h1
  ·exact hF' j h1
  ·have:=hoo.size
   exact .inr (by omega)
 ·refine ⟨(gp.os.trans ho2.os).trans (hU.os.trans hoo.os),(gp.tape.trans ho2.tape).trans (hU.tape.trans hoo.tape),(gp.output.trans ho2.output).trans (hU.output.trans hoo.output),Nat.le_trans hoo.size (Nat.le_trans hU.size (Nat.le_trans ho2.size gp.size)),fun j hj hn=>?_⟩
  have hs:=hoo.size
  have hs2:=ho2.size
  have hgw:w.heap.size<=g:=(hrow.lt g rfl).1
  rw[gp.block j (by omega) (fun e=>by injection e with e;omega),ho2.block j (by omega) (fun hm=>?_),hU.block j (by omega)]
  ·exact hoo.block j hj hn
  ·rcases hF' j hm with h1 | h1
   ·exact hn h1
   ·omega
 ·rw[gp.block b (by have:=jAv hbU;have:=ho2.size;omega) (fun e=>?_),ho2.block b (jAv hbU) (hLU.notin hbU (by decide))]
  ·exact hbU
  ·injection e with e
   rw[e,hg] at hbU
   injection hbU with hbU
   injection hbU with _ hbU _
   cases hbU
 ·rw[List.map_append,hl,jKy T O k o ho]
  rfl
 ·have hput:∀{y:Value} {L:List ByteArray},Pa.Own w' w.heap.size y L->Pa.Own _ w.heap.size y L:=fun hO=>jA0 hO fun gg hgg=>gp.block gg (hO.lt gg hgg).2 (fun e=>by
   injection e with e
   obtain ⟨c9,h9⟩:=jA1 hO hgg
   rw[e,hg2,hg] at h9
   injection h9 with h9
   injection h9 with _ h9 _
   cases h9)
  by_cases hi:i<l.length
  ·rw[List.getElem?_append_left hi] at hx
   have h8:Pa.Own U w.heap.size x.2 x.1.1.names:=jA9 (hnm i x hx) hU
   exact hput (jA0 h8 fun gg hgg=>by
    obtain ⟨c9,h9⟩:=jA1 h8 hgg
    exact ho2.block gg (jAv h9) (hLU.notin h9 (by decide)))
  ·rw[List.getElem?_append_right (by omega)] at hx
   have hi0:i-l.length=0:=by
    have:=jAy hx
    simp at this
    omega
   rw[hi0] at hx
   obtain rfl:=Option.some.inj hx
   exact hput (hO.mono (by have:=hoo.size;omega))
theorem infoStep:(Tryz.prog.info? 75).map (fun i=>(i.zero,i.size,i.bytes))=some (some (.agg #[.int .i64 0,.string { data:=#[] },.int .i64 0,.slice none 0 0,.int .i64 0,.int .i64 0,.int .i64 0,.int .i64 0,.int .i64 0,.int .i64 0,.int .i64 0,.string { data:=#[] },.int .i64 0]),13,136):=by kernel_rfl
theorem planDo_any (w:World)(b q:Nat)(F:List Nat)(nn:Nat)(T:Tr.Ts)(dp:Nat->Nat)(hb:w.heap[b]?=some (.cells #[.pointer (some ⟨q,0,none⟩)] 94 (0,0)))(hL:Tr.Lay w q F nn T)(hv:Tr.Inv T dp)(a:Option Addr)(n c:Nat)(O:List Tr.Op)(hO:Tr.IsO w a n O)(hn:n<=64)(hnn:nn+n<=8796093022207)(hOF:∀pb po,a=some ⟨pb,po,none⟩->0<n->pb ∉ F) :
 Calls Tryz.prog 49 #[.pointer (some ⟨b,0,none⟩),.slice a n c] w fun e w'=>∃g,e=.returned (.slice (some ⟨g,0,none⟩) n n)/\Hid (Di w w' b q g n F nn n T O):=by
 obtain ⟨i0,hi,hz0,hz1,hz2⟩:=info_parts infoStep
 have hmk:=run_make (P:=Tryz.prog) w 38 75 i0 _ Tryz.underlying38 hi hz0 .i64 .i64 (n:Int) (n:Int) (by omega) (by omega) (by rw[hz2];omega) (by omega)
 rw[Int.toNat_natCast,hz1] at hmk
 have hcs:=jH8 stC 13 jK1 (by decide) (.agg #[.int .i64 0,.string { data:=#[] },.int .i64 0,.slice none 0 0,.int .i64 0,.int .i64 0,.int .i64 0,.int .i64 0,.int .i64 0,.int .i64 0,.int .i64 0,.string { data:=#[] },.int .i64 0]) zSt rfl n
 have hsz:=size_madeCells (Value.agg #[.int .i64 0,.string { data:=#[] },.int .i64 0,.slice none 0 0,.int .i64 0,.int .i64 0,.int .i64 0,.int .i64 0,.int .i64 0,.int .i64 0,.int .i64 0,.string { data:=#[] },.int .i64 0]).cells (n*13)
 generalize madeCells (Value.agg #[.int .i64 0,.string { data:=#[] },.int .i64 0,.slice none 0 0,.int .i64 0,.int .i64 0,.int .i64 0,.int .i64 0,.int .i64 0,.int .i64 0,.int .i64 0,.string { data:=#[] },.int .i64 0]).cells (n*13)=C at *
 obtain ⟨W,hW,hbW,kW⟩:=jA5 w C 75
 have hrow:W.ownsRow w.heap.size 75 13 (.slice (some ⟨w.heap.size,0,none⟩) n n) n (stsC (List.replicate n zSt)):=by
  refine ⟨by rw[stsC_len,List.length_replicate],.inr ⟨w.heap.size,n,C,rfl,Nat.le_refl _,kW,Nat.le_refl _,by unfold maxLen;omega,by rw[hsz],?_⟩⟩
  rw[hcs]
  exact List.take_of_length_le (by rw[jEq stC 13 jK1,List.length_replicate];exact Nat.le_refl _)
 have H0:Hid (Di w W b q w.heap.size n F nn 0 T O):=⟨F,[],hL.below hbW,fun j hj=>.inl hj,⟨hbW.os,hbW.tape,hbW.output,hbW.size,fun k hk _=>hbW.block k hk⟩,(hbW.block _ (jAv hb)).trans hb,hrow,rfl,fun i x h=>by cases h⟩
 have HR:Hid (∀(V:World) (k:Nat),Di w V b q w.heap.size n F nn k T O->k<n->∃(pb po:Nat) (o:Tr.Op),a=some ⟨pb,po,none⟩/\(V.cell? ⟨pb,po+k*6,none⟩=some (.int .i64 o.kind)/\V.cell? ⟨pb,po+k*6+1,none⟩=some (.string o.path)/\V.cell? ⟨pb,po+k*6+2,none⟩=some (.string o.to_)/\V.cell? ⟨pb,po+k*6+3,none⟩=some (.int .i64 o.at_)/\V.cell? ⟨pb,po+k*6+4,none⟩=some (.int .i64 o.n)/\V.cell? ⟨pb,po+k*6+5,none⟩=some (.string o.data))/\∀U,Below V.heap.size V U->Calls Tryz.prog 17 #[.pointer (some ⟨b,0,none⟩),.agg #[.int .i64 o.kind,.string o.path,.string o.to_,.int .i64 o.at_,.int .i64 o.n,.string o.data]] U fun e w'=>∃(D:Tr.Ans) (va:Option Addr) (vn vc:Nat),e=.returned (.tuple #[.agg #[.int .i64 D.1.code,.string Tr.e0,.int .i64 D.1.n,.slice va vn vc,.int .i64 D.1.kind,.int .i64 D.1.size],.agg #[.int .i64 D.2.1.kind,.int .i64 D.2.1.file,.int .i64 D.2.1.gone,.int .i64 D.2.1.at_,.int .i64 D.2.1.n,.string D.2.1.data,.int .i64 D.2.1.size]])/\Hid (w'.cell? ⟨w.heap.size,k*13,none⟩=some (.int .i64 0)/\w'.cell? ⟨w.heap.size,k*13+1,none⟩=some (.string Tr.e0)/\w'.cell? ⟨w.heap.size,k*13+2,none⟩=some (.int .i64 0)/\w'.cell? ⟨w.heap.size,k*13+3,none⟩=some (.slice none 0 0)/\w'.cell? ⟨w.heap.size,k*13+4,none⟩=some (.int .i64 0)/\w'.cell? ⟨w.heap.size,k*13+5,none⟩=some (.int .i64 0)/\w'.cell? ⟨w.heap.size,k*13+6,none⟩=some (.int .i64 0)/\w'.cell? ⟨w.heap.size,k*13+6+1,none⟩=some (.int .i64 0)/\w'.cell? ⟨w.heap.size,k*13+6+2,none⟩=some (.int .i64 0)/\w'.cell? ⟨w.heap.size,k*13+6+3,none⟩=some (.int .i64 0)/\w'.cell? ⟨w.heap.size,k*13+6+4,none⟩=some (.int .i64 0)/\w'.cell? ⟨w.heap.size,k*13+6+5,none⟩=some (.string Tr.e0)/\w'.cell? ⟨w.heap.size,k*13+6+6,none⟩=some (.int .i64 0))/\Hid (∀j,w'.frozen? ⟨w.heap.size,j,none⟩=false)/\Hid (Di w (((((((((((((w'.setCell ⟨w.heap.size,k*13,none⟩ (.int .i64 D.1.code)).setCell ⟨w.heap.size,k*13+1,none⟩ (.string Tr.e0)).setCell ⟨w.heap.size,k*13+2,none⟩ (.int .i64 D.1.n)).setCell ⟨w.heap.size,k*13+3,none⟩ (.slice va vn vc)).setCell ⟨w.heap.size,k*13+4,none⟩ (.int .i64 D.1.kind)).setCell ⟨w.heap.size,k*13+5,none⟩ (.int .i64 D.1.size)).setCell ⟨w.heap.size,k*13+6,none⟩ (.int .i64 D.2.1.kind)).setCell ⟨w.heap.size,k*13+6+1,none⟩ (.int .i64 D.2.1.file)).setCell ⟨w.heap.size,k*13+6+2,none⟩ (.int .i64 D.2.1.gone)).setCell ⟨w.heap.size,k*13+6+3,none⟩ (.int .i64 D.2.1.at_)).setCell ⟨w.heap.size,k*13+6+4,none⟩ (.int .i64 D.2.1.n)).setCell ⟨w.heap.size,k*13+6+5,none⟩ (.string D.2.1.data)).setCell ⟨w.heap.size,k*13+6+6,none⟩ (.int .i64 D.2.1.size)) b q w.heap.size n F nn (k+1) T O)):=fun V k hV hk=>by
  obtain ⟨o,ho⟩:∃o,O[k]?=some o:=⟨_,List.getElem?_eq_getElem (by rw[hO.hl];exact hk)⟩
  obtain ⟨pb,po,rfl,hp,c0,c1,c2,c3,c4,c5⟩:=hO.at_ k o ho
  obtain ⟨F',l,_,_,hoo,_⟩:=hV.ex
  have hbl:=hoo.block pb hp (hOF pb po rfl (by omega))
  have cc:∀j:Nat,V.cell? ⟨pb,j,none⟩=w.cell? ⟨pb,j,none⟩:=fun j=>by unfold World.cell?;simp only[hbl]
  have hbd:=hO.bd o (List.mem_iff_getElem?.2 ⟨k,ho⟩)
  exact ⟨pb,po,o,rfl,⟨(cc _).trans c0,(cc _).trans c1,(cc _).trans c2,(cc _).trans c3,(cc _).trans c4,(cc _).trans c5⟩,fun U hU=>hV.step hv hk hO.hl.symm hnn o ho hbd.1 hbd.2 hU⟩
 clear hi hz0 hz1 hz2 hcs hsz hrow hL hv hO hOF kW hb
 go_enter Tryz.func49,Tryz.ntmps49
 go_wp2_with fail
 go_loopg [13] n (fun gk iv wr=>∃k:Nat,gk=n-k/\k<=n/\iv=.int .i64 (k:Int)/\Hid (Di w wr b q w.heap.size n F nn k T O))
 case atStart=>exact ⟨0,by omega,by omega,rfl,H0⟩
 case round =>
  clear H0 hmk hW hbW
  obtain ⟨k,hgk,hkn,rfl,HT⟩:=hrel
  by_cases hk:k<n
  ·have hkI:(k:Int)<(n:Int):=by omega
   have w1:IntKind.i64.wrap ((k:Int)+1)=((k+1:Nat):Int):=by rw[IntKind.wrap_i64];omega
   obtain ⟨pb,po,o,rfl,⟨c0,c1,c2,c3,c4,c5⟩,hdo⟩:=HR.out wr k HT.out hk
   obtain ⟨U,hU,hbU,kU⟩:=jA5 wr #[.int .i64 o.kind,.string o.path,.string o.to_,.int .i64 o.at_,.int .i64 o.n,.string o.data] 72
   have HU:Hid _:=hU
   obtain ⟨u0,u1,u2,u3,u4,u5⟩:=Tr.jB4 kU
   have hd:=hdo U hbU
   obtain ⟨ok,op,ot,oa,on,od⟩:=o
   dsimp only at *
   clear hU hbU kU hdo
   go_upto_region 5 with fail
   rw[HU.out]
   go_wp2_with fail
   refine hd.mono ?_
   rintro e w5 ⟨D,va,vn,vc,rfl,HY,HZ,HD⟩
   obtain ⟨y0,y1,y2,y3,y4,y5,y6,y7,y8,y9,y10,y11,y12⟩:=HY.out
   have f0:=HZ.out (k*13)
   have f1:=HZ.out (k*13+1)
   have f2:=HZ.out (k*13+2)
   have f3:=HZ.out (k*13+3)
   have f4:=HZ.out (k*13+4)
   have f5:=HZ.out (k*13+5)
   have f6:=HZ.out (k*13+6)
   have f7:=HZ.out (k*13+6+1)
   have f8:=HZ.out (k*13+6+2)
   have f9:=HZ.out (k*13+6+3)
   have f10:=HZ.out (k*13+6+4)
   have f11:=HZ.out (k*13+6+5)
   have f12:=HZ.out (k*13+6+6)
   generalize hg:w.heap.size=g at *
   clear c0 c1 c2 c3 c4 c5 u0 u1 u2 u3 u4 u5 hd HU HY HZ HR
   go_wp2
   go_roundg (n-(k+1))
   case measure=>omega
   case rel=>exact ⟨k+1,rfl,by omega,rfl,HD⟩
  ·obtain rfl:k=n:=by omega
   have hkI:¬(k:Int)<(k:Int):=by omega
   go_wp2
   go_ret
   exact ⟨_,rfl,HT⟩
def sz1 (a:List Nat)(x:Tr.Nd):List Nat:=if x.kind=2 then a.set x.number x.size else a
def szL (f:Nat)(L:List Tr.Nd):List Nat:=L.foldl sz1 (List.replicate f 0)
theorem sz_take (f:Nat)(L:List Tr.Nd)(k:Nat)(x:Tr.Nd)(h:L[k]?=some x):szL f (L.take (k+1))=sz1 (szL f (L.take k)) x:=by
 unfold szL
 rw[List.take_add_one,h,List.foldl_append]
 rfl
theorem sz_len (f:Nat)(L:List Tr.Nd):(szL f L).length=f:=by
 unfold szL
 have:∀(L:List Tr.Nd) (a:List Nat),(L.foldl sz1 a).length=a.length:=fun L=>by
  induction L with
  | nil=>intro a;rfl
  | cons x L ih =>
    intro a
    rw[List.foldl_cons,ih]
    unfold sz1
    split <;> simp
 rw[this,List.length_replicate]
theorem sz_get {f:Nat}{L:List Tr.Nd}{x:Nat}(hx:x<f):∃v,(szL f L)[x]?=some v/\((∃y,y∈L/\y.kind=2/\y.number=x/\v=y.size)\/((∀y,y∈L->¬(y.kind=2/\y.number=x))/\v=0)):=by
 unfold szL
 have:∀(L:List Tr.Nd) (a:List Nat) (v0:Nat),a[x]?=some v0->∃v,(L.foldl sz1 a)[x]?=some v/\((∃y,y∈L/\y.kind=2/\y.number=x/\v=y.size)\/((∀y,y∈L->¬(y.kind=2/\y.number=x))/\v=v0)):=fun L=>by
  induction L with
  | nil=>intro a v0 h;exact ⟨v0,h,.inr ⟨fun y hy=>(by cases hy),rfl⟩⟩
  | cons z L ih =>
    intro a v0 h
    rw[List.foldl_cons]
    have hl:=jAy h
    by_cases hz:z.kind=2/\z.number=x
    ·have hs:(sz1 a z)[x]?=some z.size:=by
      unfold sz1
      rw[if_pos hz.1,hz.2,List.getElem?_set_self hl]
     obtain ⟨v,h1,h2⟩:=ih _ _ hs
     refine ⟨v,h1,.inl ?_⟩
     rcases h2 with ⟨y,a1,a2,a3,a4⟩ | ⟨_,a2⟩
     ·exact ⟨y,List.mem_cons_of_mem _ a1,a2,a3,a4⟩
     ·exact ⟨z,List.mem_cons_self ..,hz.1,hz.2,a2⟩
    ·have hs:(sz1 a z)[x]?=some v0:=by
      unfold sz1
      split
      ·rename_i hk
       rw[List.getElem?_set_ne (fun e=>hz ⟨hk,e⟩)]
       exact h
      ·exact h
     obtain ⟨v,h1,h2⟩:=ih _ _ hs
     refine ⟨v,h1,?_⟩
     rcases h2 with ⟨y,a1,a2,a3,a4⟩ | ⟨a1,a2⟩
     ·exact .inl ⟨y,List.mem_cons_of_mem _ a1,a2,a3,a4⟩
     ·refine .inr ⟨fun y hy=>?_,a2⟩
      rcases List.mem_cons.1 hy with rfl | hy
      ·exact hz
      ·exact a1 y hy
 exact this L _ 0 (by rw[List.getElem?_replicate,if_pos hx])
theorem sz_told {T:Tr.Ts}{f x:Nat}(hx:x<f):(szL f (Tr.told T))[x]?=some (Tr.szF T x):=by
 obtain ⟨v,h1,h2⟩:=sz_get (L:=Tr.told T) hx
 rw[h1]
 congr 1
 rcases h2 with ⟨y,a1,a2,a3,a4⟩ | ⟨a1,a2⟩
 ·rcases Tr.jE3 a1 with h | h
  ·omega
  ·unfold Tr.szF
   rw[<-a3,h.2,a4]
 ·unfold Tr.szF
  split
  ·rename_i r hr
   obtain ⟨p,n,s⟩:=r
   exact absurd ⟨rfl,rfl⟩ (a1 _ (Tr.jJ6 hr))
  ·exact a2
theorem sizesOf_any (w:World)(B:Nat)(a:Option Addr)(n c f:Nat)(dr:Int)(L:List Tr.Nd)(hn:n=L.length)(hA:w.ownsRow B 91 5 (.slice a n c) n (Tr.ndsc L))(hb:n<=1000000)(hf:f<=65536)(hLn:∀x,x∈L->x.kind=2->x.number<f) :
 Calls Tryz.prog 76 #[.agg #[.int .i64 (f:Int),.int .i64 dr,.slice a n c]] w fun e w'=>∃g,e=.returned (.slice (some ⟨g,0,none⟩) f f)/\Hid (w'.ownsRow w.heap.size 3 1 (.slice (some ⟨g,0,none⟩) f f) f (nsC (szL f L)))/\Below w.heap.size w w':=by
 obtain ⟨i0,hi,hz0,hz1,hz2⟩:=info_parts info3
 obtain ⟨W1,hW1,hb1,k1⟩:=jA5 w #[.int .i64 (f:Int),.int .i64 dr,.slice a n c] 49
 have hmk:=run_make (P:=Tryz.prog) W1 44 3 i0 _ Tryz.underlying44 hi hz0 .i64 .i64 (f:Int) (f:Int) (by omega) (by omega) (by rw[hz2];omega) (by omega)
 rw[Int.toNat_natCast,hz1] at hmk
 have hcs:=jH8 (fun (n:Nat)=>[Value.int .i64 (n:Int)]) 1 (fun _=>rfl) (by decide) (.int .i64 0) 0 rfl f
 have hsz:=size_madeCells (Value.int .i64 0).cells (f*1)
 generalize madeCells (Value.int .i64 0).cells (f*1)=C at *
 obtain ⟨W,hW,hbW,kW⟩:=jA5 W1 C 3
 have hbw:=hb1.trans (hbW.mono hb1.size)
 have z1:W1.heap.size=w.heap.size+1:=by rw[<-hW1];simp
 have hrow:W.ownsRow w.heap.size 3 1 (.slice (some ⟨W1.heap.size,0,none⟩) f f) f (nsC (szL f (L.take 0))):=by
  refine ⟨by unfold nsC;rw[List.length_map,sz_len,Nat.mul_one],.inr ⟨W1.heap.size,f,C,rfl,by omega,kW,Nat.le_refl _,by unfold maxLen;omega,by rw[hsz],?_⟩⟩
  rw[hcs,List.take_zero]
  show _=nsC (List.replicate f 0)
  unfold nsC
  rw[List.map_eq_flatMap,List.take_of_length_le (by rw[jEq _ 1 (fun _=>rfl),List.length_replicate];exact Nat.le_refl _)]
 have HND:Hid (∀(V:World) (k:Nat),Below w.heap.size w V->k<n->∃(x:Tr.Nd) (g:Nat),L[k]?=some x/\(x.kind=2->x.number<f)/\a=some ⟨g,0,none⟩/\V.cell? ⟨g,k*5,none⟩=some (.int .i64 (x.kind:Int))/\V.cell? ⟨g,k*5+1,none⟩=some (.int .i64 (x.number:Int))/\V.cell? ⟨g,k*5+2,none⟩=some (.int .i64 (x.parent:Int))/\V.cell? ⟨g,k*5+3,none⟩=some (.string x.name)/\V.cell? ⟨g,k*5+4,none⟩=some (.int .i64 (x.size:Int))):=fun V k hV hk=>by
  have e1:∃g,a=some ⟨g,0,none⟩:=by
   rcases hA.2 with ⟨h1,h2⟩ | ⟨g,cap,cur,h1,_⟩
   ·omega
   ·injection h1 with h1 _ _;exact ⟨g,h1⟩
  obtain ⟨g,rfl⟩:=e1
  have hx:=List.getElem?_eq_getElem (l:=L) (i:=k) (by omega)
  have hA':=jA0 hA (W':=V) (fun k hk=>hV.block _ (hA.lt k hk).2)
  exact ⟨_,g,hx,hLn _ (List.getElem_mem _),rfl,Tr.jJ8 hA' hn hx⟩
 have HF:Hid (L.take n=L):=by rw[hn];exact List.take_length
 have HPUT:Hid (∀(V:World) (k:Nat) (x:Tr.Nd),L[k]?=some x->x.kind=2->x.number<f->V.ownsRow w.heap.size 3 1 (.slice (some ⟨W1.heap.size,0,none⟩) f f) f (nsC (szL f (L.take k)))->(∃y:Nat,V.cell? ⟨W1.heap.size,x.number,none⟩=some (.int .i64 (y:Int)))/\V.frozen? ⟨W1.heap.size,x.number,none⟩=false/\(V.setCell ⟨W1.heap.size,x.number,none⟩ (.int .i64 (x.size:Int))).ownsRow w.heap.size 3 1 (.slice (some ⟨W1.heap.size,0,none⟩) f f) f (nsC (szL f (L.take (k+1))))/\V.grownBy (V.setCell ⟨W1.heap.size,x.number,none⟩ (.int .i64 (x.size:Int))) (some W1.heap.size)):=fun V k x hx hk hlt hV=>by
  have hl:=sz_len f (L.take k)
  have hst:=hV.stored x.number (.int .i64 (x.size:Int))
  refine ⟨⟨_,(hV.cellAt x.number (by omega)).trans (jM9 (List.getElem?_eq_getElem (by omega)))⟩,hV.frozenAt _,?_,hst.2⟩
  rw[sz_take f L k x hx]
  unfold sz1
  rw[if_pos hk]
  have e:(nsC (szL f (L.take k))).set x.number (.int .i64 (x.size:Int))=nsC ((szL f (L.take k)).set x.number x.size):=by unfold nsC;rw[List.map_set]
  rw[<-e]
  exact hst.1
 have HSK:Hid (∀(k:Nat) (x:Tr.Nd),L[k]?=some x->x.kind≠2->szL f (L.take (k+1))=szL f (L.take k)):=fun k x hx hk=>by
  rw[sz_take f L k x hx]
  unfold sz1
  rw[if_neg hk]
 have x0:W1.cell? ⟨w.heap.size,0,none⟩=some (.int .i64 (f:Int)):=(jAj k1).trans rfl
 have kk:W.heap[w.heap.size]?=some (.cells #[.int .i64 (f:Int),.int .i64 dr,.slice a n c] 49 (0,0)):=(hbW.block _ (jAv k1)).trans k1
 have x2:W.cell? ⟨w.heap.size,2,none⟩=some (.slice a n c):=(jAj kk).trans rfl
 have HG1:Hid (w.heap.size<=W1.heap.size):=hb1.size
 generalize W1.heap.size=g1 at *
 clear hi hz0 hz1 hz2 hcs hsz hA hn hLn hb1 k1 z1 kW hbW kk
 go_enter Tryz.func76,Tryz.ntmps76
 go_wp2_with fail
 go_loopg [12] n (fun gk iv wr=>∃k:Nat,gk=n-k/\k<=n/\iv=.int .i64 (k:Int)/\wr.ownsRow w.heap.size 3 1 (.slice (some ⟨g1,0,none⟩) f f) f (nsC (szL f (L.take k)))/\Below w.heap.size w wr)
 case atStart=>exact ⟨0,by omega,by omega,rfl,hrow,hbw⟩
 case round =>
  clear hrow hbw hmk hW hW1 x0 x2
  obtain ⟨k,hgk,hkn,rfl,hrow,hbe⟩:=hrel
  by_cases hk:k<n
  ·have hkI:(k:Int)<(n:Int):=by omega
   have w1:IntKind.i64.wrap ((k:Int)+1)=((k+1:Nat):Int):=by rw[IntKind.wrap_i64];omega
   obtain ⟨x,g,hx,hxf,rfl,c0,c1,c2,c3,c4⟩:=HND.out wr k hbe hk
   obtain ⟨U,hU,hbU,kU⟩:=jA5 wr #[.int .i64 (x.kind:Int),.int .i64 (x.number:Int),.int .i64 (x.parent:Int),.string x.name,.int .i64 (x.size:Int)] 91
   have HU:Hid _:=hU
   have u0:U.cell? ⟨wr.heap.size,0,none⟩=some (.int .i64 (x.kind:Int)):=(jAj kU).trans rfl
   have u1:U.cell? ⟨wr.heap.size,1,none⟩=some (.int .i64 (x.number:Int)):=(jAj kU).trans rfl
   have u4:U.cell? ⟨wr.heap.size,4,none⟩=some (.int .i64 (x.size:Int)):=(jAj kU).trans rfl
   have hrU:=jA9 hrow hbU
   have hbU':=hbe.trans (hbU.mono hbe.size)
   by_cases hkk:x.kind=2
   ·obtain ⟨⟨y,hy⟩,hfz,hp,hgp⟩:=HPUT.out U k x hx hkk (hxf hkk) hrU
    have hlt:=hxf hkk
    have HP:Hid _:=hp
    have HBP:Hid (Below w.heap.size w (U.setCell ⟨g1,x.number,none⟩ (.int .i64 (x.size:Int)))):=hbU'.setCell HG1.out _
    have hkk':((x.kind:Int) == 2)=true:=by simp[hkk]
    have hltI:(x.number:Int)<(f:Int):=by omega
    generalize x.number=xn at *
    generalize x.kind=xk at *
    generalize x.size=xs at *
    clear hkk hU hrow hbe hbU kU hx hxf hp hgp hrU hbU' HND HPUT HSK
    go_upto_region 5 with fail
    rw[HU.out]
    go_wp2
    go_roundg (n-(k+1))
    case measure=>omega
    case rel=>exact ⟨k+1,rfl,by omega,rfl,HP.out,HBP.out⟩
   ·have hs:=HSK.out k x hx hkk
    rw[<-hs] at hrU
    have hkk':((x.kind:Int) == 2)=false:=by simp;omega
    generalize x.number=xn at *
    generalize x.kind=xk at *
    generalize x.size=xs at *
    clear hkk hU hrow hbe hbU kU hx hxf hs
    go_upto_region 5 with fail
    rw[HU.out]
    go_wp2
    go_roundg (n-(k+1))
    case measure=>omega
    case rel=>exact ⟨k+1,rfl,by omega,rfl,hrU,hbU'⟩
  ·obtain rfl:k=n:=by omega
   have hkI:¬(k:Int)<(k:Int):=by omega
   rw[HF.out] at hrow
   have HR:Hid _:=hrow
   clear hrow
   go_wp2
   go_ret
   exact ⟨_,rfl,HR,hbe⟩
end Go.Proofs.YtfnklhajafmooaaGreatDoor.Po.Pn
