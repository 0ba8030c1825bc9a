import Derived.Test.YtfnklhajafmooaaGreatDoorG34
set_option maxHeartbeats 2000000
set_option maxRecDepth 20000
namespace Go.Proofs.YtfnklhajafmooaaGreatDoor.Po.Pn
open Go.RowKit Go.Lib Go.Deep Go.Proofs.Tryz
theorem st_eff {w:World}{B g cap n:Nat}{l:List ((Tr.Rs × Tr.Ef) × Value)}(h:w.ownsRow B 75 13 (.slice (some ⟨g,0,none⟩) n cap) n (stsC l))(hn:n=l.length){i:Nat}{x:(Tr.Rs × Tr.Ef) × Value}(hi:l[i]?=some x):w.cell? ⟨g,i*13+6,none⟩=some (.int .i64 x.1.2.kind)/\w.cell? ⟨g,i*13+6+1,none⟩=some (.int .i64 x.1.2.file)/\w.cell? ⟨g,i*13+6+2,none⟩=some (.int .i64 x.1.2.gone)/\w.cell? ⟨g,i*13+6+3,none⟩=some (.int .i64 x.1.2.at_)/\w.cell? ⟨g,i*13+6+4,none⟩=some (.int .i64 x.1.2.n)/\w.cell? ⟨g,i*13+6+5,none⟩=some (.string x.1.2.data)/\w.cell? ⟨g,i*13+6+6,none⟩=some (.int .i64 x.1.2.size):=by
 have hl:=jAy hi
 have c:=fun j (hj:j<13)=>(h.cellAt (i*13+j) (by omega)).trans (jDz stC 13 jJz l i x hi j hj)
 exact ⟨c 6 (by omega),c 7 (by omega),c 8 (by omega),c 9 (by omega),c 10 (by omega),c 11 (by omega),c 12 (by omega)⟩
theorem put7 {U:World}{b:Nat}{t:TypeId}{a0 a1 a2 a3 a4 a5 a6:Value}(k:U.heap[b]?=some (.cells #[a0,a1,a2,a3,a4,a5,a6] t (0,0)))(x0 x1 x2 x3 x4 x5 x6:Value):(((((((U.setCell ⟨b,0,none⟩ x0).setCell ⟨b,1,none⟩ x1).setCell ⟨b,2,none⟩ x2).setCell ⟨b,3,none⟩ x3).setCell ⟨b,4,none⟩ x4).setCell ⟨b,5,none⟩ x5).setCell ⟨b,6,none⟩ x6).heap[b]?=some (.cells #[x0,x1,x2,x3,x4,x5,x6] t (0,0)):=by
 have k0:(U.setCell ⟨b,0,none⟩ x0).heap[b]?=some (.cells #[x0,a1,a2,a3,a4,a5,a6] t (0,0)):=QJ _ b 0 _ t x0 k
 have k1:((U.setCell ⟨b,0,none⟩ x0).setCell ⟨b,1,none⟩ x1).heap[b]?=some (.cells #[x0,x1,a2,a3,a4,a5,a6] t (0,0)):=QJ _ b 1 _ t x1 k0
 have k2:(((U.setCell ⟨b,0,none⟩ x0).setCell ⟨b,1,none⟩ x1).setCell ⟨b,2,none⟩ x2).heap[b]?=some (.cells #[x0,x1,x2,a3,a4,a5,a6] t (0,0)):=QJ _ b 2 _ t x2 k1
 have k3:((((U.setCell ⟨b,0,none⟩ x0).setCell ⟨b,1,none⟩ x1).setCell ⟨b,2,none⟩ x2).setCell ⟨b,3,none⟩ x3).heap[b]?=some (.cells #[x0,x1,x2,x3,a4,a5,a6] t (0,0)):=QJ _ b 3 _ t x3 k2
 have k4:(((((U.setCell ⟨b,0,none⟩ x0).setCell ⟨b,1,none⟩ x1).setCell ⟨b,2,none⟩ x2).setCell ⟨b,3,none⟩ x3).setCell ⟨b,4,none⟩ x4).heap[b]?=some (.cells #[x0,x1,x2,x3,x4,a5,a6] t (0,0)):=QJ _ b 4 _ t x4 k3
 have k5:((((((U.setCell ⟨b,0,none⟩ x0).setCell ⟨b,1,none⟩ x1).setCell ⟨b,2,none⟩ x2).setCell ⟨b,3,none⟩ x3).setCell ⟨b,4,none⟩ x4).setCell ⟨b,5,none⟩ x5).heap[b]?=some (.cells #[x0,x1,x2,x3,x4,x5,a6] t (0,0)):=QJ _ b 5 _ t x5 k4
 have k6:(((((((U.setCell ⟨b,0,none⟩ x0).setCell ⟨b,1,none⟩ x1).setCell ⟨b,2,none⟩ x2).setCell ⟨b,3,none⟩ x3).setCell ⟨b,4,none⟩ x4).setCell ⟨b,5,none⟩ x5).setCell ⟨b,6,none⟩ x6).heap[b]?=some (.cells #[x0,x1,x2,x3,x4,x5,x6] t (0,0)):=QJ _ b 6 _ t x6 k5
 exact k6
theorem touch_any (w:World)(pb q nn:Nat)(F:List Nat)(P:Ps)(hK:Ok w pb q F nn P)(hn:nn+64<9223372036854775800)(c:Ix.Cn)(hc:c.sl<=64)(T:Tr.Ts)(dp:Nat->Nat)(d:Dk c T dp P)(O:List Tr.Op)(hO:O.length<=c.sl)(sa:Option Addr)(n sc:Nat)(sts:List ((Tr.Rs × Tr.Ef) × Value))(hsn:n=O.length)(hst:sts.map (·.1)=(doL T O).1)(B:Nat)(hrow:w.ownsRow B 75 13 (.slice sa n sc) n (stsC sts)) :
 Calls prog 50 #[Ix.cfV c.cf,.pointer (some ⟨pb,0,none⟩),.slice sa n sc] w fun e w'=>∃v,e=.returned v/\Hid (∃bb,Tc w w' pb q bb F none v (nn+c.sl) (endB c T P O) (jGx c T P O)):=by
 obtain ⟨C,hC⟩:∃C,clsL (doL T O).1 c.sl=C:=⟨_,rfl⟩
 have hl:(doL T O).1.length=O.length:=by have:=jJv T O O.length (Qj _);rwa [Qh] at this
 have hCl:=jJ6 (st:=(doL T O).1) (K:=c.sl) (by omega)
 rw[hC] at hCl
 have hsl:sts.length=n:=by rw[hsn,<-hl,<-hst,List.length_map]
 obtain ⟨W,hW,hbW,k0,k1⟩:=jDy w #[.int .i64 (c.sl:Int),.int .i64 (c.fl:Int),.int .i64 (c.dr:Int),.int .i64 (c.mf:Int),.int .i64 (c.ls:Int),.int .i64 (c.pg:Int)] #[.pointer (some ⟨pb,0,none⟩),.slice none 0 0] 23 175
 have hKW:Ok W pb q F nn P:=⟨hK.top.below hbW,hK.lay.below hbW,hK.good,hK.nn⟩
 have H0:Hid (Tc w W pb q (w.heap.size+1) F none (.slice none 0 0) nn (tchL P (C.take 0)).2 (tchL P (C.take 0)).1):=by
  rw[List.take_zero]
  exact ⟨F,hKW,fun k hk=>.inl hk,⟨hbW.os,hbW.tape,hbW.output,hbW.size,fun k hk _=>hbW.block k hk⟩,k1,by omega,World.ownsRow_nil _ _ _ _,fun g hg=>(by cases hg),fun b cs h=>by cases h⟩
 have HE:Hid (∀(k:Nat) (V:World) (v:Value) (N:Nat) (S:Ps) (L:List Nat),Tc w V pb q (w.heap.size+1) F none v N S L->k<n->∃g e,sa=some ⟨g,0,none⟩/\C[k]?=some (cls e)/\((cls e).1=2\/(cls e).1=3->0<=(cls e).2/\jD7 (tchL P (C.take k)).2.R (cls e).2=true)/\∀U,Below V.heap.size V U->U.cell? ⟨g,k*13+6,none⟩=some (.int .i64 e.kind)/\U.cell? ⟨g,k*13+6+1,none⟩=some (.int .i64 e.file)/\U.cell? ⟨g,k*13+6+2,none⟩=some (.int .i64 e.gone)/\U.cell? ⟨g,k*13+6+3,none⟩=some (.int .i64 e.at_)/\U.cell? ⟨g,k*13+6+4,none⟩=some (.int .i64 e.n)/\U.cell? ⟨g,k*13+6+5,none⟩=some (.string e.data)/\U.cell? ⟨g,k*13+6+6,none⟩=some (.int .i64 e.size)):=fun k V v N S L hT hk=>by
  obtain ⟨F',_,_,ho,_⟩:=hT.ex
  rcases hrow.2 with ⟨e1,e2⟩ | ⟨g,cap,cur,e1,hB,hg,_⟩
  ·injection e1;omega
  injection e1 with e1 _ e2
  subst e1 e2
  have hgF:g ∉ F:=hK.lay.notin hg (by decide)
  obtain ⟨x,hx⟩:∃x,sts[k]?=some x:=⟨_,Qv (by omega)⟩
  have hs:(doL T O).1[k]?=some x.1:=by rw[<-hst,List.getElem?_map,hx];rfl
  have hs2:=doL_get T O k (by omega) O.length (by omega) (Qj _)
  rw[Qh,hs] at hs2
  have hx1:=QW hs2
  obtain ⟨⟨dp',hv⟩,-⟩:=jK5 d.inv O k (by omega)
  have hb:=bt_all d O hO k (by omega)
  rw[hC] at hb
  refine ⟨g,x.1.2,rfl,by rw[<-hC];exact clsL_in hs,?_,fun U hU=>?_⟩
  ·have h9:=say_held hb (Tr.do_say hv (O[k]'(by omega)))
   rw[hx1]
   exact h9
  ·refine st_eff (jA0 hrow fun g' hg'=>?_) (by omega) hx
   injection hg' with hg'
   subst hg'
   exact (hU.block _ (Qx (jAv hg) ho.size)).trans (ho.block _ (jAv hg) hgF)
 have HR:Hid (∀(k:Nat) (e:Tr.Ef) (V:World) (v:Value) (U:World) (b:Nat),k<c.sl->C[k]?=some (cls e)->((cls e).1=2\/(cls e).1=3->0<=(cls e).2/\jD7 (tchL P (C.take k)).2.R (cls e).2=true)->Tc w V pb q (w.heap.size+1) F none v (nn+k) (tchL P (C.take k)).2 (tchL P (C.take k)).1->Below V.heap.size V U->U.heap[b]?=some (.cells (efV7 e) 68 (0,0))->Calls prog 74 #[.pointer (some ⟨w.heap.size+1,0,none⟩),.agg (efV7 e)] U fun x w'=>∃r:Nat,x=.returned (.int .i64 (r:Int))/\Hid (∃a' n' c' w6,(Builtin.append_ #[44,44] 44 #[v,.slice (some ⟨w'.heap.size,0,none⟩) 1 1]).run prog (w'.alloc (.cells #[.int .i64 (r:Int)] 3))=.ok (.slice a' n' c') w6/\w6.cell? ⟨w.heap.size+1,1,none⟩=some v/\w6.frozen? ⟨w.heap.size+1,1,none⟩=false/\w6.heap[b]?=some (.cells (efV7 e) 68 (0,0))/\Hid (Tc w (w6.setCell ⟨w.heap.size+1,1,none⟩ (.slice a' n' c')) pb q (w.heap.size+1) F none (.slice a' n' c') (nn+(k+1)) (tchL P (C.take (k+1))).2 (tchL P (C.take (k+1))).1)/\w'.cell? ⟨w.heap.size+1,1,none⟩=some v/\w'.heap[b]?=some (.cells (efV7 e) 68 (0,0)))):=fun k e V v U b hk hce hh hT hU hUb=>by
  have hL:=tch_len P C k (by omega)
  refine (rowFor_any (hT.some hU hUb) (by omega) e hh).mono ?_
  rintro x w' ⟨rfl,HT⟩
  refine ⟨_,rfl,?_⟩
  obtain ⟨v',w6,h1,h2,h3,h4,h5⟩:=HT.out.app (by omega) (rowT (tchL P (C.take k)).2 (tchL P (C.take k)).1 (cls e)).1
  obtain ⟨a',c',rfl,-⟩:=h5.out.row
  refine ⟨a',_,c',w6,h1,h2,h3,h4.out _ _ rfl,?_,HT.out.cells.2,HT.out.eff⟩
  rw[jMj P C k _ hce]
  exact h5.out.none
 have HZ:Hid (∀k,n<=k->k<c.sl->C[k]?=some (cls zEf)):=fun k h1 h2=>by rw[<-hC];exact clsL_out (by omega) h2
 have HQ:Hid (∀(V:World) (v:Value),Tc w V pb q (w.heap.size+1) F none v (nn+c.sl) (tchL P (C.take c.sl)).2 (tchL P (C.take c.sl)).1->Calls prog 75 #[.pointer (some ⟨w.heap.size+1,0,none⟩)] V fun e w'=>e=.returned (.tuple #[])/\Hid (Tc w w' pb q (w.heap.size+1) F none v (nn+c.sl) (endB c T P O) (jGx c T P O))/\w'.cell? ⟨w.heap.size+1,1,none⟩=some v):=fun V v hV=>by
  rw[Qf (by omega),<-hC] at hV
  obtain ⟨b,hbl⟩:=jNq d O hO
  have hps:=psh_all b.good b.nd b.lt b.out
  refine (jL5 hV (by omega) b.lt (by rw[show (tchL P (clsL (doL T O).1 c.sl)).1.length=c.sl from hbl];omega) (fun k hk=>by rw[show (tchL P (clsL (doL T O).1 c.sl)).2=midB c T P O from rfl,show (tchL P (clsL (doL T O).1 c.sl)).1=jGx c T P O from rfl,(hps k hk).2])).mono ?_
  rintro e w' ⟨rfl,HT⟩
  exact ⟨rfl,HT.out,HT.out.cells.2⟩
 have x0:W.cell? ⟨w.heap.size,0,none⟩=some (.int .i64 (c.sl:Int)):=(jAj k0).trans rfl
 have hWs:W.heap.size=w.heap.size+2:=by rw[<-hW];simp
 have HWs:Hid (W.heap.size=w.heap.size+2):=hWs
 have HLT:Hid (∀(V:World) v nn S L,Tc w V pb q (w.heap.size+1) F none v nn S L->w.heap.size+1<V.heap.size):=fun V v nn S L h=>by
  obtain ⟨_,_,_,_,hbb,_⟩:=h.ex
  exact jAv hbb
 have HCC:Hid (∀(V:World) v nn S L,Tc w V pb q (w.heap.size+1) F none v nn S L->V.cell? ⟨w.heap.size+1,1,none⟩=some v):=fun V v nn S L h=>h.cells.2
 generalize hM:c.sl=M at *
 rw[show Ix.cfV c.cf=.agg #[.int .i64 (c.sl:Int),.int .i64 (c.fl:Int),.int .i64 (c.dr:Int),.int .i64 (c.mf:Int),.int .i64 (c.ls:Int),.int .i64 (c.pg:Int)] from rfl,hM]
 generalize hbb:w.heap.size+1=bb at *
 clear hrow hst d hK hKW hbW k0 k1 hl hCl hsl hC hsn hO
 go_enter func50,ntmps50
 go_wp2_with fail
 go_loopg [15] M (fun gk iv wx=>∃(k:Nat) (v:Value),gk=M-k/\k<=M/\iv=.int .i64 (k:Int)/\Hid (Tc w wx pb q bb F none v (nn+k) (tchL P (C.take k)).2 (tchL P (C.take k)).1))
 case atStart=>exact ⟨0,_,by omega,by omega,rfl,H0⟩
 case round =>
  clear x0 H0 hW
  obtain ⟨k,v,hgk,hkn,rfl,HT⟩:=hrel
  by_cases hk:k<M
  ·have hkI:(k:Int)<(M:Int):=by omega
   have w1:IntKind.i64.wrap ((k:Int)+1)=((k+1:Nat):Int):=by rw[QX];omega
   obtain ⟨U,hU,hbU,kU⟩:=jA4 wr #[.int .i64 0,.int .i64 0,.int .i64 0,.int .i64 0,.int .i64 0,.string { data:=#[] },.int .i64 0] 68
   have HBU:Hid (Below wr.heap.size wr U):=hbU
   have HU:Hid _:=hU
   by_cases hkn2:k<n
   all_goals first
    | (have hknI:(k:Int)<(n:Int):=by omega
       obtain ⟨g,e,rfl,hce,hh,hcs⟩:=HE.out k wr v _ _ _ HT.out hkn2
       obtain ⟨y0,y1,y2,y3,y4,y5,y6⟩:=hcs U hbU
       obtain ⟨z0,z1,z2,z3,z4,z5,z6⟩:=Tr.jCq kU
       have f0:U.frozen? ⟨wr.heap.size,0,none⟩=false:=jAq kU
       have f1:U.frozen? ⟨wr.heap.size,1,none⟩=false:=jAq kU
       have f2:U.frozen? ⟨wr.heap.size,2,none⟩=false:=jAq kU
       have f3:U.frozen? ⟨wr.heap.size,3,none⟩=false:=jAq kU
       have f4:U.frozen? ⟨wr.heap.size,4,none⟩=false:=jAq kU
       have f5:U.frozen? ⟨wr.heap.size,5,none⟩=false:=jAq kU
       have f6:U.frozen? ⟨wr.heap.size,6,none⟩=false:=jAq kU
       clear hcs hbU hU
       go_upto_region 6 with fail
       rw[HU.out]
       go_upto_region 8 with fail
       refine jBj (R:=fun V=>Code.wp _ _ _ _ V) (Q:=fun V=>Below wr.heap.size wr V/\V.heap[wr.heap.size]?=some (.cells #[.int .i64 e.kind,.int .i64 e.file,.int .i64 e.gone,.int .i64 e.at_,.int .i64 e.n,.string e.data,.int .i64 e.size] 68 (0,0))) _ ⟨((((((HBU.out.setCell (Qj _) _).setCell (Qj _) _).setCell (Qj _) _).setCell (Qj _) _).setCell (Qj _) _).setCell (Qj _) _).setCell (Qj _) _,put7 kU _ _ _ _ _ _ _⟩ ?_
       rintro X ⟨hbX,kX⟩
       clear y0 y1 y2 y3 y4 y5 y6 z0 z1 z2 z3 z4 z5 z6 f0 f1 f2 f3 f4 f5 f6 HU kU HBU hknI hkn2)
    | (have hknI:¬(k:Int)<(n:Int):=by omega
       obtain ⟨e,he,hce,hh⟩:∃e:Tr.Ef,e=zEf/\C[k]?=some (cls e)/\((cls e).1=2\/(cls e).1=3->0<=(cls e).2/\jD7 (tchL P (C.take k)).2.R (cls e).2=true):=⟨zEf,rfl,HZ.out k (by omega) hk,fun h=>by rcases h with h | h <;> cases h⟩
       clear hbU hU
       go_upto_region 6 with fail
       rw[HU.out]
       go_upto_region 8 with fail
       refine jBj (R:=fun V=>Code.wp _ _ _ _ V) (Q:=fun V=>Below wr.heap.size wr V/\V.heap[wr.heap.size]?=some (.cells #[.int .i64 e.kind,.int .i64 e.file,.int .i64 e.gone,.int .i64 e.at_,.int .i64 e.n,.string e.data,.int .i64 e.size] 68 (0,0))) _ ⟨HBU.out,by rw[he];exact kU⟩ ?_
       rintro X ⟨hbX,kX⟩
       clear HU kU HBU hknI hkn2 he)
   all_goals
    have hbbX:bb<wr.heap.size:=HLT.out _ _ _ _ _ HT.out
    have HHH:Hid (C[k]?=some (cls e)/\((cls e).1=2\/(cls e).1=3->0<=(cls e).2/\jD7 (tchL P (C.take k)).2.R (cls e).2=true)):=⟨hce,hh⟩
    have HRX:Hid (Calls prog 74 #[.pointer (some ⟨bb,0,none⟩),.agg (efV7 e)] X.drew _):=HR.out k e wr v X.drew wr.heap.size hk HHH.out.1 HHH.out.2 HT.out hbX.drew kX
    have hc:X.drew.cell? ⟨bb,1,none⟩=some v:=HCC.out X.drew v _ _ _ (HT.out.below hbX.drew)
    obtain ⟨ek,ef,eg,ea,en,ed,es⟩:=e
    unfold efV7 at HRX
    dsimp only at *
    have HSX:Hid (∀V:World,V.heap[wr.heap.size]?=some (.cells #[.int .i64 ek,.int .i64 ef,.int .i64 eg,.int .i64 ea,.int .i64 en,.string ed,.int .i64 es] 68 (0,0))->V.cell? ⟨wr.heap.size,0,none⟩=some (.int .i64 ek)/\V.cell? ⟨wr.heap.size,1,none⟩=some (.int .i64 ef)/\V.cell? ⟨wr.heap.size,2,none⟩=some (.int .i64 eg)/\V.cell? ⟨wr.heap.size,3,none⟩=some (.int .i64 ea)/\V.cell? ⟨wr.heap.size,4,none⟩=some (.int .i64 en)/\V.cell? ⟨wr.heap.size,5,none⟩=some (.string ed)/\V.cell? ⟨wr.heap.size,6,none⟩=some (.int .i64 es)):=fun V h2=>Tr.jCq h2
    have hSx:=HSX.out X kX
    clear hce hh hbX kX HHH
    refine wp_region_held_drew (S:=fun V=>V.cell? ⟨wr.heap.size,0,none⟩=some (.int .i64 ek)/\V.cell? ⟨wr.heap.size,1,none⟩=some (.int .i64 ef)/\V.cell? ⟨wr.heap.size,2,none⟩=some (.int .i64 eg)/\V.cell? ⟨wr.heap.size,3,none⟩=some (.int .i64 ea)/\V.cell? ⟨wr.heap.size,4,none⟩=some (.int .i64 en)/\V.cell? ⟨wr.heap.size,5,none⟩=some (.string ed)/\V.cell? ⟨wr.heap.size,6,none⟩=some (.int .i64 es)) (by kernel_rfl) hSx ?_
    intro hS
    refine tQ 0 ⟨some 28,.move (.tmp 7),_,_,_,none⟩ (.pointer (some ⟨bb,0,none⟩)) rfl hS ?_
    (try simp only[Act.put,sA,sB,sC])
    refine tQ 1 ⟨some 29,.move (.tmp 7),_,_,_,none⟩ (.pointer (some ⟨bb,0,none⟩)) rfl hS ?_
    (try simp only[Act.put,sA,sB,sC])
    refine tQ 2 ⟨some 30,.nilCheck (.tmp 29),_,_,_,none⟩ (.pointer (some ⟨bb,0,none⟩)) rfl hS ?_
    (try simp only[Act.put,sA,sB,sC])
    refine tQ 3 ⟨some 31,.fieldAddr 175 (.tmp 30) 1,_,_,_,none⟩ (.pointer (some ⟨bb,1,none⟩)) rfl hS ?_
    (try simp only[Act.put,sA,sB,sC])
    refine tQ 5 ⟨some 33,.move (.tmp 7),_,_,_,none⟩ (.pointer (some ⟨bb,0,none⟩)) rfl hS ?_
    (try simp only[Act.put,sA,sB,sC])
    refine tQ 6 ⟨some 34,.load 68 (.tmp 9),_,_,_,none⟩ (.agg #[.int .i64 ek,.int .i64 ef,.int .i64 eg,.int .i64 ea,.int .i64 en,.string ed,.int .i64 es]) rfl hS ?_ (Or.inl ⟨by rfl,by intro x hx;obtain ⟨h0,h1,h2,h3,h4,h5,h6⟩:=hx;go_simp⟩)
    (try simp only[Act.put,sA,sB,sC])
    refine wpAnyH_ready (rs:=[4,7]) (by kernel_rfl) (by simp) ?_
    refine AllReadyH.cons (o:=⟨some 32,.load 44 (.tmp 31),_,_,_,none⟩) rfl (fun K hK=>?_) (AllReadyH.cons (o:={ dst:=some 35,op:=.call { callee:=.value (.func 74),args:=#[.tmp 33,.tmp 34],argTypes:=#[173,68] },type:=_,pos:=_,after:=_,guard:=none }) rfl (fun K hK=>?_) AllReadyH.nil)
    ·go_simp
     refine hK.out _ _ hS (fun _=>?_)
     clear hK K
     (try simp only[Act.put,sA,sB,sC])
     refine wpAnyH_ready (rs:=[7]) (by kernel_rfl) (by simp) ?_
     refine AllReadyH.cons (o:={ dst:=some 35,op:=.call { callee:=.value (.func 74),args:=#[.tmp 33,.tmp 34],argTypes:=#[173,68] },type:=_,pos:=_,after:=_,guard:=none }) rfl (fun K hK=>?_) AllReadyH.nil
     go_simp
     refine HRX.out.mono ?_
     rintro x w5 ⟨r,rfl,HX5⟩
     obtain ⟨a',n',c',w6,hrun,d6,f6,e6,HT6,d5,e5⟩:=HX5.out
     have hS5:=HSX.out w5 e5
     refine hK.out _ _ hS5 (fun _=>?_)
     clear hK K hS hc HX5 HRX
     (try simp only[Act.put,sA,sB,sC])
     have hS:=hS5
     have hc:=d5
     clear hS5
     refine wpAnyH_ready (rs:=[8]) (by kernel_rfl) (by simp) ?_
     refine AllReadyH.cons (o:=⟨some 36,.buildSlice 44 1 #[(0,.tmp 35)],_,_,_,none⟩) rfl (fun K hK=>?_) AllReadyH.nil
     go_simp
     have hS5:=HSX.out (w5.alloc (.cells #[.int .i64 (r:Int)] 3)) ((QK _ _ _ (jAv e5)).trans e5)
     have hc5:(w5.alloc (.cells #[.int .i64 (r:Int)] 3)).cell? ⟨bb,1,none⟩=some v:=Lib.cell?_alloc_some _ d5
     refine hK.out _ _ hS5 (fun _=>?_)
     clear hK K hS hc
     (try simp only[Act.put,sA,sB,sC])
     have hS:=hS5
     have hc:=hc5
     clear hS5 hc5
     refine wpAnyH_ready (rs:=[9]) (by kernel_rfl) (by simp) ?_
     refine AllReadyH.cons (o:={ dst:=some 37,op:=.call { callee:=.builtin .append,args:=#[.tmp 32,.tmp 36],argTypes:=#[44,44] },type:=_,pos:=_,after:=_,guard:=none }) rfl (fun K hK=>?_) AllReadyH.nil
     refine step_app rfl (.tmp 32) (.tmp 36) 44 44 rfl _ _ _ _ (by simp[Act.eval]) (by simp[Act.eval]) hrun ?_
     have hS6:=HSX.out w6 e6
     refine hK.out _ _ hS6 (fun _=>?_)
     clear hK K hS hc
     (try simp only[Act.put,sA,sB,sC])
     have hS:=hS6
     clear hS6
     refine tQ 10 ⟨some 38,.nilCheck (.tmp 28),_,_,_,none⟩ (.pointer (some ⟨bb,0,none⟩)) rfl hS ?_
     (try simp only[Act.put,sA,sB,sC])
     refine tQ 11 ⟨some 39,.fieldAddr 175 (.tmp 38) 1,_,_,_,none⟩ (.pointer (some ⟨bb,1,none⟩)) rfl hS ?_
     (try simp only[Act.put,sA,sB,sC])
     refine wpAnyH_ready (rs:=[12]) (by kernel_rfl) (by simp) ?_
     refine AllReadyH.cons (o:=⟨none,.store 44 (.tmp 39) (.tmp 37),_,_,_,none⟩) rfl (fun K hK=>?_) AllReadyH.nil
     go_simp
     have hS7:=HSX.out (w6.setCell ⟨bb,1,none⟩ (.slice a' n' c')) ((Qy _ _ _ _ (by show wr.heap.size≠bb;omega)).trans e6)
     refine hK.out _ _ hS7 (fun _=>?_)
     clear hK K hS
     (try simp only[Act.put])
     have hS:=hS7
     clear hS7
     refine wpAnyH_done (by kernel_rfl) ?_ _
     clear hS d5 e5 d6 f6 e6 hrun hSx
     go_wp2
     go_roundg (M-(k+1))
     case measure=>omega
     case rel=>exact ⟨k+1,_,rfl,by omega,rfl,HT6⟩
    ·go_simp
     refine HRX.out.mono ?_
     rintro x w5 ⟨r,rfl,HX5⟩
     obtain ⟨a',n',c',w6,hrun,d6,f6,e6,HT6,d5,e5⟩:=HX5.out
     have hS5:=HSX.out w5 e5
     refine hK.out _ _ hS5 (fun _=>?_)
     clear hK K hS hc HX5 HRX
     (try simp only[Act.put,sA,sB,sC])
     have hS:=hS5
     have hc:=d5
     clear hS5
     refine wpAnyH_ready (rs:=[4,8]) (by kernel_rfl) (by simp) ?_
     refine AllReadyH.cons (o:=⟨some 32,.load 44 (.tmp 31),_,_,_,none⟩) rfl (fun K hK=>?_) (AllReadyH.cons (o:=⟨some 36,.buildSlice 44 1 #[(0,.tmp 35)],_,_,_,none⟩) rfl (fun K hK=>?_) AllReadyH.nil)
     ·go_simp
      refine hK.out _ _ hS (fun _=>?_)
      clear hK K
      (try simp only[Act.put,sA,sB,sC])
      refine wpAnyH_ready (rs:=[8]) (by kernel_rfl) (by simp) ?_
      refine AllReadyH.cons (o:=⟨some 36,.buildSlice 44 1 #[(0,.tmp 35)],_,_,_,none⟩) rfl (fun K hK=>?_) AllReadyH.nil
      go_simp
      have hS5:=HSX.out (w5.alloc (.cells #[.int .i64 (r:Int)] 3)) ((QK _ _ _ (jAv e5)).trans e5)
      have hc5:(w5.alloc (.cells #[.int .i64 (r:Int)] 3)).cell? ⟨bb,1,none⟩=some v:=Lib.cell?_alloc_some _ d5
      refine hK.out _ _ hS5 (fun _=>?_)
      clear hK K hS hc
      (try simp only[Act.put,sA,sB,sC])
      have hS:=hS5
      have hc:=hc5
      clear hS5 hc5
      refine wpAnyH_ready (rs:=[9]) (by kernel_rfl) (by simp) ?_
      refine AllReadyH.cons (o:={ dst:=some 37,op:=.call { callee:=.builtin .append,args:=#[.tmp 32,.tmp 36],argTypes:=#[44,44] },type:=_,pos:=_,after:=_,guard:=none }) rfl (fun K hK=>?_) AllReadyH.nil
      refine step_app rfl (.tmp 32) (.tmp 36) 44 44 rfl _ _ _ _ (by simp[Act.eval]) (by simp[Act.eval]) hrun ?_
      have hS6:=HSX.out w6 e6
      refine hK.out _ _ hS6 (fun _=>?_)
      clear hK K hS hc
      (try simp only[Act.put,sA,sB,sC])
      have hS:=hS6
      clear hS6
      refine tQ 10 ⟨some 38,.nilCheck (.tmp 28),_,_,_,none⟩ (.pointer (some ⟨bb,0,none⟩)) rfl hS ?_
      (try simp only[Act.put,sA,sB,sC])
      refine tQ 11 ⟨some 39,.fieldAddr 175 (.tmp 38) 1,_,_,_,none⟩ (.pointer (some ⟨bb,1,none⟩)) rfl hS ?_
      (try simp only[Act.put,sA,sB,sC])
      refine wpAnyH_ready (rs:=[12]) (by kernel_rfl) (by simp) ?_
      refine AllReadyH.cons (o:=⟨none,.store 44 (.tmp 39) (.tmp 37),_,_,_,none⟩) rfl (fun K hK=>?_) AllReadyH.nil
      go_simp
      have hS7:=HSX.out (w6.setCell ⟨bb,1,none⟩ (.slice a' n' c')) ((Qy _ _ _ _ (by show wr.heap.size≠bb;omega)).trans e6)
      refine hK.out _ _ hS7 (fun _=>?_)
      clear hK K hS
      (try simp only[Act.put])
      have hS:=hS7
      clear hS7
      refine wpAnyH_done (by kernel_rfl) ?_ _
      clear hS d5 e5 d6 f6 e6 hrun hSx
      go_wp2
      go_roundg (M-(k+1))
      case measure=>omega
      case rel=>exact ⟨k+1,_,rfl,by omega,rfl,HT6⟩
     ·go_simp
      have hS5:=HSX.out (w5.alloc (.cells #[.int .i64 (r:Int)] 3)) ((QK _ _ _ (jAv e5)).trans e5)
      have hc5:(w5.alloc (.cells #[.int .i64 (r:Int)] 3)).cell? ⟨bb,1,none⟩=some v:=Lib.cell?_alloc_some _ d5
      refine hK.out _ _ hS5 (fun _=>?_)
      clear hK K hS hc
      (try simp only[Act.put,sA,sB,sC])
      have hS:=hS5
      have hc:=hc5
      clear hS5 hc5
      refine wpAnyH_ready (rs:=[4]) (by kernel_rfl) (by simp) ?_
      refine AllReadyH.cons (o:=⟨some 32,.load 44 (.tmp 31),_,_,_,none⟩) rfl (fun K hK=>?_) AllReadyH.nil
      go_simp
      refine hK.out _ _ hS (fun _=>?_)
      clear hK K
      (try simp only[Act.put,sA,sB,sC])
      refine wpAnyH_ready (rs:=[9]) (by kernel_rfl) (by simp) ?_
      refine AllReadyH.cons (o:={ dst:=some 37,op:=.call { callee:=.builtin .append,args:=#[.tmp 32,.tmp 36],argTypes:=#[44,44] },type:=_,pos:=_,after:=_,guard:=none }) rfl (fun K hK=>?_) AllReadyH.nil
      refine step_app rfl (.tmp 32) (.tmp 36) 44 44 rfl _ _ _ _ (by simp[Act.eval]) (by simp[Act.eval]) hrun ?_
      have hS6:=HSX.out w6 e6
      refine hK.out _ _ hS6 (fun _=>?_)
      clear hK K hS hc
      (try simp only[Act.put,sA,sB,sC])
      have hS:=hS6
      clear hS6
      refine tQ 10 ⟨some 38,.nilCheck (.tmp 28),_,_,_,none⟩ (.pointer (some ⟨bb,0,none⟩)) rfl hS ?_
      (try simp only[Act.put,sA,sB,sC])
      refine tQ 11 ⟨some 39,.fieldAddr 175 (.tmp 38) 1,_,_,_,none⟩ (.pointer (some ⟨bb,1,none⟩)) rfl hS ?_
      (try simp only[Act.put,sA,sB,sC])
      refine wpAnyH_ready (rs:=[12]) (by kernel_rfl) (by simp) ?_
      refine AllReadyH.cons (o:=⟨none,.store 44 (.tmp 39) (.tmp 37),_,_,_,none⟩) rfl (fun K hK=>?_) AllReadyH.nil
      go_simp
      have hS7:=HSX.out (w6.setCell ⟨bb,1,none⟩ (.slice a' n' c')) ((Qy _ _ _ _ (by show wr.heap.size≠bb;omega)).trans e6)
      refine hK.out _ _ hS7 (fun _=>?_)
      clear hK K hS
      (try simp only[Act.put])
      have hS:=hS7
      clear hS7
      refine wpAnyH_done (by kernel_rfl) ?_ _
      clear hS d5 e5 d6 f6 e6 hrun hSx
      go_wp2
      go_roundg (M-(k+1))
      case measure=>omega
      case rel=>exact ⟨k+1,_,rfl,by omega,rfl,HT6⟩
  ·obtain rfl:k=M:=by omega
   have hkI:¬(k:Int)<(k:Int):=by omega
   have hq:=HQ.out wr v HT.out
   have c7:=HCC.out wr v _ _ _ HT.out
   go_wp2_with fail
   refine hq.mono ?_
   rintro e w5 ⟨rfl,HT5,c5⟩
   go_wp2
   go_ret
   exact ⟨_,rfl,_,HT5.out⟩
