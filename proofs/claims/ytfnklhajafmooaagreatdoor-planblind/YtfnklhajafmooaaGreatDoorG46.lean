import Derived.Test.YtfnklhajafmooaaGreatDoorG43
set_option maxHeartbeats 4000000
set_option maxRecDepth 20000
namespace Go.Proofs.YtfnklhajafmooaaGreatDoor.Po.Pn
open Go.RowKit Go.Lib Go.Deep Go.Proofs.Tryz
structure Dw (x:World)(c:Ix.Cn)(b q nn pb pq pn:Nat)(T:Tr.Ts)(P:Ps):Prop where
 dk:∃dp,Dk c T dp P
 ex:∃F PF,x.heap[b]?=some (.cells #[.pointer (some ⟨q,0,none⟩)] 94 (0,0))/\Tr.Lay x q F nn T/\Ok x pb pq PF pn P
theorem Dw.below {x y:World}{c:Ix.Cn}{b q nn pb pq pn:Nat}{T:Tr.Ts}{P:Ps}(h:Dw x c b q nn pb pq pn T P)(hb:Below x.heap.size x y):Dw y c b q nn pb pq pn T P:=by
 obtain ⟨F,PF,h1,h2,h3⟩:=h.ex
 exact ⟨h.dk,F,PF,(hb.block _ (jAv h1)).trans h1,h2.below hb,⟨h3.top.below hb,h3.lay.below hb,h3.good,h3.nn⟩⟩
noncomputable abbrev ldC (c:Ix.Cn)(T:Tr.Ts):Tr.Ts:=Tr.ldT c.fl c.dr c.mf T
theorem make_pre (w:World)(hT:Ix.RT w)(c:Ix.Cn)(hc:c.May)(b q nn pb pq pn:Nat)(T:Tr.Ts)(P:Ps)(hD:Dw w c b q nn pb pq pn T P)(a:Option Addr)(n oc:Nat)(O:List Tr.Op)(hO:Tr.IsO w a n O)(Q:Ending->World->Prop)
 (hbad:¬n<=c.sl->∀w',Below w.heap.size w w'->Q (.returned (.tuple #[.agg #[.slice none 0 0,.slice none 0 0],.pointer none,.pointer none,.int .i64 150])) w')
 (hok:n<=c.sl->∀w' gl gs b' q' pb' pq',Mk w w' c P (endB c (ldC c T) P O) (jGx c (ldC c T) P O) (doL (ldC c T) O).1 (doL (ldC c T) O).2 n gl gs b' q' pb' pq'->Below w.heap.size w w'->(∃dp,Dk c (ldC c T) dp P)->Q (.returned (.tuple #[.agg #[.slice (some ⟨gl,0,none⟩) c.sl c.sl,.slice (some ⟨gs,0,none⟩) n n],.pointer (some ⟨b',0,none⟩),.pointer (some ⟨pb',0,none⟩),.int .i64 0])) w') :
 Calls prog 25 #[Ix.cfV c.cf,.pointer (some ⟨b,0,none⟩),.pointer (some ⟨pb,0,none⟩),.slice a n oc] w Q:=by
 obtain ⟨dp,d⟩:=hD.dk
 obtain ⟨F,PF,t1,t2,t3⟩:=hD.ex
 obtain ⟨W,hW,hb,k0,k1⟩:=jDy w (cfA c) #[.slice none 0 0,.slice none 0 0] 23 40
 have hch:=Ix.check_any c.cf W (hT.next hb)
 have hE:Ix.chkE c.cf=0:=by unfold Ix.chkE;rw[if_pos hc.cf]
 rw[hE] at hch
 have hbxW:Bx W c w.heap.size:=⟨k0,k1⟩
 have HC:Hid (∀V,Below W.heap.size W V->Bx V c w.heap.size/\Below w.heap.size w V):=fun V hV=>⟨hbxW.below hV,hb.trans (hV.mono hb.size)⟩
 have HST:Hid (∀V,Below W.heap.size W V->Calls prog 21 #[.pointer (some ⟨b,0,none⟩)] V fun e w'=>∃a c',e=.returned (.agg #[.int .i64 (c.fl:Int),.int .i64 (c.dr:Int),.slice a (Tr.told T).length c'])/\Hid (w'.ownsRow V.heap.size 91 5 (.slice a (Tr.told T).length c') (Tr.told T).length (Tr.ndsc (Tr.told T))/\(Tr.told T).length<=1000000)/\Below V.heap.size V w'):=fun V hV=>by
  have hbV:=(HC.out V hV).2
  refine (Tr.jKz V 0 b q nn T ⟨(hbV.block _ (jAv t1)).trans t1,Kj _,F,t2.below hbV,fun _ _=>Kj _⟩ (by rw[d.dr];omega)).mono ?_
  rintro e w' ⟨a,c',rfl,HO,hb',hl⟩
  refine ⟨a,c',?_,⟨HO.out,hl⟩,hb'⟩
  rw[d.fr,show ((T.dr:Int)-1)=(c.dr:Int) by rw[d.dr];omega]
 have HSP:Hid (∀V,Below W.heap.size W V->Calls prog 26 #[.pointer (some ⟨pb,0,none⟩)] V fun e w'=>∃oa oc qa qc,e=.returned (.agg #[.slice oa P.R.length oc,.slice qa P.Q.length qc])/\Hid (w'.ownsRow V.heap.size 60 4 (.slice oa P.R.length oc) P.R.length (obsC P.R)/\w'.ownsRow V.heap.size 3 1 (.slice qa P.Q.length qc) P.Q.length (nsC P.Q))/\Below V.heap.size V w'):=fun V hV=>by
  have hbV:=(HC.out V hV).2
  refine (jH9 V pb pq PF pn P ⟨t3.top.below hbV,t3.lay.below hbV,t3.good,t3.nn⟩).mono ?_
  rintro e w' ⟨ov,qv,rfl,h1,h2,hb'⟩
  obtain ⟨oa,oc,rfl⟩:=jBy h1
  obtain ⟨qa,qc,rfl⟩:=jBy h2
  exact ⟨oa,oc,qa,qc,rfl,⟨h1,h2⟩,hb'⟩
 have HWK:Hid (∀V,Below W.heap.size W V->∀B1 a' c' B2 oa oc' qa qc,V.ownsRow B1 91 5 (.slice a' (Tr.told T).length c') (Tr.told T).length (Tr.ndsc (Tr.told T))->(Tr.told T).length<=1000000->V.ownsRow B2 60 4 (.slice oa P.R.length oc') P.R.length (obsC P.R)->V.ownsRow B2 3 1 (.slice qa P.Q.length qc) P.Q.length (nsC P.Q)->Calls prog 48 #[.agg (cfA c),.agg #[.int .i64 (c.fl:Int),.int .i64 (c.dr:Int),.slice a' (Tr.told T).length c'],.agg #[.slice oa P.R.length oc',.slice qa P.Q.length qc]] V fun e w'=>∃b' q' pb' pq',e=.returned (.tuple #[.pointer (some ⟨b',0,none⟩),.pointer (some ⟨pb',0,none⟩),.bool true])/\Hid (Wk w w' b' q' pb' pq' 200000 P.R.length (ldC c T) P/\Bx w' c w.heap.size/\Below w.heap.size w w'/\∃dp,Dk c (ldC c T) dp P)):=fun V hV B1 a' c' B2 oa oc' qa qc h1 h2 h3 h4=>by
  obtain ⟨hbx,hbV⟩:=HC.out V hV
  refine (working_any V c hc.1 T dp P d B1 a' _ c' rfl h2 h1 B2 oa qa _ oc' _ qc rfl rfl h3 h4).mono ?_
  rintro e w' ⟨b',q',pb',pq',rfl,HW,hb'⟩
  obtain ⟨F',PF',g1,g2,g3,g4,g5,g6,g7,g8⟩:=HW.out.ex
  have hs:=hbV.size
  exact ⟨b',q',pb',pq',rfl,⟨F',PF',g1,g2,g3,fun k hk=>Qk hs (g4 k hk),fun k hk=>Qk hs (g5 k hk),g6,Qk hs g7,Qk hs g8⟩,hbx.below hb',hbV.trans (hb'.mono hs),dp,ld_dk d g2⟩
 have HDO:Hid (∀x b' q' pb' pq',Wk w x b' q' pb' pq' 200000 P.R.length (ldC c T) P->Bx x c w.heap.size->Below w.heap.size w x->(∃dp,Dk c (ldC c T) dp P)->n<=c.sl->Calls prog 49 #[.pointer (some ⟨b',0,none⟩),.slice a n oc] x fun e y=>∃g,e=.returned (.slice (some ⟨g,0,none⟩) n n)/\Hid (Sg w y c b' q' pb' pq' g n w.heap.size (200000+n) P.R.length (doL (ldC c T) O).2 P (doL (ldC c T) O).1)):=fun x b' q' pb' pq' h1 h2 h3 ⟨dp',d'⟩ hle=>sg_do h1 d'.inv h2 h3 a n oc O hO (by have:=hc.1.2.1;omega)
 have HTO:Hid (∀x b' q' pb' pq' g,Sg w x c b' q' pb' pq' g n w.heap.size (200000+n) P.R.length (doL (ldC c T) O).2 P (doL (ldC c T) O).1->(∃dp,Dk c (ldC c T) dp P)->n<=c.sl->Calls prog 50 #[.agg (cfA c),.pointer (some ⟨pb',0,none⟩),.slice (some ⟨g,0,none⟩) n n] x fun e y=>∃ra rc,e=.returned (.slice ra c.sl rc)/\Hid (Sg w y c b' q' pb' pq' g n w.heap.size (200000+n) (P.R.length+c.sl) (doL (ldC c T) O).2 (endB c (ldC c T) P O) (doL (ldC c T) O).1/\y.ownsRow w.heap.size 3 1 (.slice ra c.sl rc) c.sl (nsC (jGx c (ldC c T) P O)))):=fun x b' q' pb' pq' g h1 ⟨dp',d'⟩ hle=>sg_touch hc.1.2.1 h1 d' (by rw[hO.hl];exact hle) hO.hl.symm (by have:=d'.good.fl;omega)
 have HTL:Hid (∀x b' q' pb' pq' g ra rc,Sg w x c b' q' pb' pq' g n w.heap.size (200000+n) (P.R.length+c.sl) (doL (ldC c T) O).2 (endB c (ldC c T) P O) (doL (ldC c T) O).1->x.ownsRow w.heap.size 3 1 (.slice ra c.sl rc) c.sl (nsC (jGx c (ldC c T) P O))->(∃dp,Dk c (ldC c T) dp P)->n<=c.sl->Calls prog 51 #[.agg (cfA c),.slice ra c.sl rc,.pointer (some ⟨pb,0,none⟩),.pointer (some ⟨pb',0,none⟩),.pointer (some ⟨b',0,none⟩)] x fun e y=>∃gl,e=.returned (.slice (some ⟨gl,0,none⟩) c.sl c.sl)/\Hid (Bx y c w.heap.size/\∀y0 y1,Mk w ((y.setCell ⟨w.heap.size+1,0,none⟩ y0).setCell ⟨w.heap.size+1,1,none⟩ y1) c P (endB c (ldC c T) P O) (jGx c (ldC c T) P O) (doL (ldC c T) O).1 (doL (ldC c T) O).2 n gl g b' q' pb' pq'/\Below w.heap.size w ((y.setCell ⟨w.heap.size+1,0,none⟩ y0).setCell ⟨w.heap.size+1,1,none⟩ y1))):=fun x b' q' pb' pq' g ra rc h1 h2 ⟨dp',d'⟩ hle=>by
  refine (sg_told hc.1 t3 d' (by rw[hO.hl];exact hle) h1 h2).mono ?_
  rintro e y ⟨gl,rfl,HS⟩
  exact ⟨gl,rfl,HS.out.1.bx,fun y0 y1=>sg_end (Qj _) HS.out.1 HS.out.2 y0 y1⟩
 have HBAD:Hid _:=hbad
 have HOK:Hid _:=hok
 have HRF:=jB2 150
 have HR:Hid _:=HRF
 have hmx:(c.sl:Int)<=64:=by have:=hc.1.2.1;omega
 rw[show Ix.cfV c.cf=.agg (cfA c) from rfl] at hch ⊢
 obtain ⟨x0,x1,x2,x3,x4,x5⟩:=hbxW.cells
 generalize (Tr.told T).length=tn at *
 generalize P.R.length=pl at *
 generalize P.Q.length=ql at *
 unfold cfA at *
 clear hE hb k0 k1 HRF hc hD d t1 t2 t3 hbad hok hbxW hO hT
 go_enter func25,ntmps25
 go_wp2_with fail
 refine hch.mono ?_
 rintro e w1 ⟨rfl,hb1⟩
 have HB1:Hid (∀j,Below W.heap.size W (w1.drewN j)):=fun j=>bdr hb1 j
 clear x0 x1 x2 x3 x4 x5 hch
 have HS:Hid (∀V,Below W.heap.size W V->V.cell? ⟨w.heap.size,0,none⟩=some (.int .i64 (c.sl:Int))/\V.cell? ⟨w.heap.size,1,none⟩=some (.int .i64 (c.fl:Int))/\V.cell? ⟨w.heap.size,2,none⟩=some (.int .i64 (c.dr:Int))/\V.cell? ⟨w.heap.size,3,none⟩=some (.int .i64 (c.mf:Int))/\V.cell? ⟨w.heap.size,4,none⟩=some (.int .i64 (c.ls:Int))/\V.cell? ⟨w.heap.size,5,none⟩=some (.int .i64 (c.pg:Int))):=fun V hV=>(HC.out V hV).1.cells
 go_wp2_with fail
 go_region_held_law (fun V=>V.cell? ⟨w.heap.size,0,none⟩=some (.int .i64 (c.sl:Int))/\V.cell? ⟨w.heap.size,1,none⟩=some (.int .i64 (c.fl:Int))/\V.cell? ⟨w.heap.size,2,none⟩=some (.int .i64 (c.dr:Int))/\V.cell? ⟨w.heap.size,3,none⟩=some (.int .i64 (c.mf:Int))/\V.cell? ⟨w.heap.size,4,none⟩=some (.int .i64 (c.ls:Int))/\V.cell? ⟨w.heap.size,5,none⟩=some (.int .i64 (c.pg:Int))) (first | exact HS.out _ (HB1.out _) | exact HS.out _ hbW2 | exact HS.out _ hbW3 | exact hS4 | go_keep) (first
  | (go_at_call 21;refine (HST.out _ (HB1.out 1)).mono ?_;rintro e w2 ⟨a2,c2,rfl,HO2,hb2⟩;have hbW2:Below W.heap.size W w2:=(HB1.out 1).trans (hb2.mono (HB1.out 1).size))
  | (go_at_call 26;refine (HSP.out w2 hbW2).mono ?_;rintro e w3 ⟨oa3,oc3,qa3,qc3,rfl,HO3,hb3⟩;have hbW3:Below W.heap.size W w3:=hbW2.trans (hb3.mono hbW2.size))
  | (go_at_call 48;refine (HWK.out w3 hbW3 _ _ _ _ _ _ _ _ (jA7 HO2.out.1 hb3) HO2.out.2 HO3.out.1 HO3.out.2).mono ?_;rintro e w4 ⟨b4,q4,pb4,pq4,rfl,HW4⟩;have hS4:=HW4.out.2.1.cells))
 all_goals
  clear hS4 HS HST HSP HWK HO2 HO3 hb2 hb3 hbW2 hbW3 HB1
  obtain ⟨x0,x1,x2,x3,x4,x5⟩:=HW4.out.2.1.cells
  by_cases hle:n<=c.sl
  ·have hle':¬(c.sl:Int)<(n:Int):=by omega
   have hdo:=HDO.out w4 b4 q4 pb4 pq4 HW4.out.1 HW4.out.2.1 HW4.out.2.2.1 HW4.out.2.2.2 hle
   have HLE:Hid (n<=c.sl):=hle
   clear hle HDO
   go_wp2_with fail
   refine hdo.mono ?_
   rintro e w5 ⟨g5,rfl,HS5⟩
   have hto:=HTO.out w5 b4 q4 pb4 pq4 g5 HS5.out HW4.out.2.2.2 HLE.out
   clear x0 x1 x2 x3 x4 x5 hdo HTO
   obtain ⟨x0,x1,x2,x3,x4,x5⟩:=HS5.out.bx.cells
   go_wp2_with fail
   refine hto.mono ?_
   rintro e w6 ⟨ra,rc,rfl,HS6⟩
   have htl:=HTL.out w6 b4 q4 pb4 pq4 g5 ra rc HS6.out.1 HS6.out.2 HW4.out.2.2.2 HLE.out
   clear x0 x1 x2 x3 x4 x5 hto HTL
   obtain ⟨x0,x1,x2,x3,x4,x5⟩:=HS6.out.1.bx.cells
   go_wp2_with fail
   refine htl.mono ?_
   rintro e w7 ⟨gl,rfl,HS7⟩
   have k7:=HS7.out.1.2
   have y0:w7.cell? ⟨w.heap.size+1,0,none⟩=some (.slice none 0 0):=(jAj k7).trans rfl
   have y1:w7.cell? ⟨w.heap.size+1,1,none⟩=some (.slice none 0 0):=(jAj k7).trans rfl
   have f0:w7.frozen? ⟨w.heap.size+1,0,none⟩=false:=jAq k7
   have f1:w7.frozen? ⟨w.heap.size+1,1,none⟩=false:=jAq k7
   have HK7:Hid _:=k7
   clear x0 x1 x2 x3 x4 x5 htl k7 HS5 HS6
   go_wp2
   refine Qw (jI0 rfl _ _ (w.heap.size+1) 40 _ (0,0) _ rfl (jK7 HK7.out) underlying40 rfl jMv) rfl ?_
   obtain ⟨m1,m2⟩:=HS7.out.2 (.slice (some ⟨gl,0,none⟩) c.sl c.sl) (.slice (some ⟨g5,0,none⟩) n n)
   exact HOK.out HLE.out _ gl g5 b4 q4 pb4 pq4 m1 m2 HW4.out.2.2.2
  ·have hle':(c.sl:Int)<(n:Int):=by omega
   have hr:=HR.out w4
   have HLE:Hid (¬n<=c.sl):=hle
   clear hle
   go_wp2_with fail
   refine hr.mono ?_
   rintro e w5 ⟨rfl,hb5⟩
   have k7:=(HW4.out.2.1.below hb5).2
   have hbw:=HW4.out.2.2.1.trans (hb5.mono HW4.out.2.2.1.size)
   have y0:w5.cell? ⟨w.heap.size+1,0,none⟩=some (.slice none 0 0):=(jAj k7).trans rfl
   have y1:w5.cell? ⟨w.heap.size+1,1,none⟩=some (.slice none 0 0):=(jAj k7).trans rfl
   have f0:w5.frozen? ⟨w.heap.size+1,0,none⟩=false:=jAq k7
   have f1:w5.frozen? ⟨w.heap.size+1,1,none⟩=false:=jAq k7
   have HK7:Hid _:=k7
   have HBW:Hid _:=hbw
   clear x0 x1 x2 x3 x4 x5 hr k7 hbw hb5
   go_wp2
   refine Qw (jI0 rfl _ _ (w.heap.size+1) 40 _ (0,0) _ rfl (jK7 HK7.out) underlying40 rfl jMv) rfl ?_
   exact HBAD.out HLE.out _ ((HBW.out.setCell (by show w.heap.size<=w.heap.size+1;omega) _).setCell (by show w.heap.size<=w.heap.size+1;omega) _)
def opsC (O:List Tr.Op):List Value:=O.flatMap Tr.opC
theorem opC_len (o:Tr.Op):(Tr.opC o).length=6:=rfl
theorem infoOp:(prog.info? 72).map (fun i=>(i.zero,i.size,i.bytes))=some (some (.agg #[.int .i64 0,.string { data:=#[] },.string { data:=#[] },.int .i64 0,.int .i64 0,.string { data:=#[] }]),6,72):=by kernel_rfl
theorem isO_row {w:World}{B:Nat}{v:Value}{O:List Tr.Op}(h:w.ownsRow B 72 6 v O.length (opsC O))(hb:∀o∈O,o.at_<=9223372036854775807/\o.data.size<=9223372036854775807):∃a c,v=.slice a O.length c/\Tr.IsO w a O.length O:=by
 rcases h.2 with ⟨rfl,e⟩ | ⟨g,cap,cur,rfl,h1,h2,_⟩
 ·have:O=[]:=Qb e
  subst this
  exact ⟨none,0,rfl,rfl,fun i o ho=>(by cases ho),hb⟩
 ·refine ⟨_,cap,rfl,rfl,fun i o ho=>?_,hb⟩
  have hl:=jAy ho
  have c:=fun j (hj:j<6)=>(h.cellAt (i*6+j) (by omega)).trans (jDz Tr.opC 6 opC_len O i o ho j hj)
  have e:∀j,0+i*6+j=i*6+j:=fun j=>by omega
  exact ⟨g,0,rfl,jAv h2,by rw[show 0+i*6=i*6+0 by omega];exact c 0 (by omega),by rw[e];exact c 1 (by omega),by rw[e];exact c 2 (by omega),by rw[e];exact c 3 (by omega),by rw[e];exact c 4 (by omega),by rw[e];exact c 5 (by omega)⟩
theorem ops_any (w:World)(a:Option Addr)(n oc:Nat)(O:List Tr.Op)(hO:Tr.IsO w a n O)(hn:n*72<=140737488355328) :
 Calls prog 27 #[.slice a n oc] w fun e w'=>∃a' c',e=.returned (.slice a' n c')/\Hid (Tr.IsO w' a' n O)/\Below w.heap.size w w':=by
 obtain ⟨i0,hi,hz0,hz1,hz2⟩:=info_parts infoOp
 have HND:Hid (∀(V:World) (k:Nat),Below w.heap.size w V->k<n->∃(o:Tr.Op) (g po:Nat),O[k]?=some o/\a=some ⟨g,po,none⟩/\V.cell? ⟨g,po+k*6,none⟩=some (.int .i64 o.kind)/\V.cell? ⟨g,po+k*6+1,none⟩=some (.string o.path)/\V.cell? ⟨g,po+k*6+2,none⟩=some (.string o.to_)/\V.cell? ⟨g,po+k*6+3,none⟩=some (.int .i64 o.at_)/\V.cell? ⟨g,po+k*6+4,none⟩=some (.int .i64 o.n)/\V.cell? ⟨g,po+k*6+5,none⟩=some (.string o.data)):=fun V k hV hk=>by
  obtain ⟨o,ho⟩:∃o,O[k]?=some o:=⟨_,Qv (by rw[hO.hl];exact hk)⟩
  obtain ⟨pb,po,e,hp,c0,c1,c2,c3,c4,c5⟩:=(hO.below hV).at_ k o ho
  exact ⟨o,pb,po,ho,e,c0,c1,c2,c3,c4,c5⟩
 have HE:Hid (∀(V:World) (v:Value),V.ownsRow w.heap.size 72 6 v n (opsC (O.take n))->∃a' c',v=.slice a' n c'/\Tr.IsO V a' n O):=fun V v hV=>by
  rw[<-hO.hl,Qh] at hV
  obtain ⟨a',c',e,h⟩:=isO_row hV hO.bd
  rw[hO.hl] at e h
  exact ⟨a',c',e,h⟩
 have HT:Hid (∀(k:Nat) o,O[k]?=some o->opsC (O.take (k+1))=opsC (O.take k)++Tr.opC o):=fun k o ho=>by
  unfold opsC
  rw[List.take_add_one,ho,List.flatMap_append]
  simp
 clear hO
 go_enter func27,ntmps27
 go_wp2_with fail
 go_loopg [3,4] n (fun gk v iv wr=>∃k:Nat,gk=n-k/\k<=n/\iv=.int .i64 (k:Int)/\wr.ownsRow w.heap.size 72 6 v k (opsC (O.take k))/\Below w.heap.size w wr)
 case atStart=>exact ⟨0,by omega,by omega,rfl,World.ownsRow_nil _ _ _ _,Qq _ _⟩
 case round =>
  obtain ⟨k,hgk,hkn,rfl,hrow,hbe⟩:=hrel
  by_cases hk:k<n
  ·have hkI:(k:Int)<(n:Int):=by omega
   have w1:IntKind.i64.wrap ((k:Int)+1)=((k+1:Nat):Int):=by rw[QX];omega
   obtain ⟨o,g,po,ho,rfl,c0,c1,c2,c3,c4,c5⟩:=HND.out wr k hbe hk
   have hs:=HT.out k o ho
   have hsz:=hbe.size
   obtain ⟨ok,op,ot,oa,on,od⟩:=o
   unfold Tr.opC at hs
   dsimp only at *
   have hsk:(k+1)*72<=140737488355328:=by omega
   clear ho
   go_wp2_with (at_builtin;refine wpList_append_own _ rfl _ _ 29 rfl w.heap.size 72 i0 (.agg #[.int .i64 0,.string { data:=#[] },.string { data:=#[] },.int .i64 0,.int .i64 0,.string { data:=#[] }]) 6 72 underlying29 hi hz0 hz1 hz2 rfl (by decide) _ _ _ rfl (hrow.alloc _) ⟨wr.heap.size,0,none⟩ 1 1 [.int .i64 ok,.string op,.string ot,.int .i64 oa,.int .i64 on,.string od] rfl rfl (by intro i u h;exact cells_new wr #[.int .i64 ok,.string op,.string ot,.int .i64 oa,.int .i64 on,.string od] 72 i u (by simpa using h)) (by simp[Value.oneCell']) (by unfold maxLen;omega) (by omega) (by simp;omega) ?_;intro v' w3 hown' hg3 hnil3;go_frame)
   go_roundg (n-(k+1))
   case measure=>omega
   case rel =>
    refine ⟨k+1,rfl,by omega,rfl,?_,?_⟩
    ·rw[hs]
     exact hown'
    ·exact (hbe.alloc hsz _).grown hg3 (by simp;omega) (fun j hj=>(hrow.lt j hj).1)
  ·obtain rfl:k=n:=by omega
   have hkI:¬(k:Int)<(k:Int):=by omega
   obtain ⟨a',c',rfl,hI⟩:=HE.out wr _ hrow
   have HI:Hid _:=hI
   clear hrow hI
   go_wp2
   go_ret
   first
    | exact ⟨a',rfl,HI,hbe⟩
    | exact ⟨a',by simp,HI,hbe⟩
structure Ky (r:Nat)(x y:World):Prop where
 os:y.os=x.os
 tape:y.tape=x.tape
 output:y.output=x.output
 size:x.heap.size<=y.heap.size
 blk:∀k,k≠r->k<x.heap.size->y.heap[k]?=x.heap[k]?
theorem Ky.of {r:Nat}{x y:World}(h:Below x.heap.size x y):Ky r x y:=⟨h.os,h.tape,h.output,h.size,fun k _ hk=>h.block k hk⟩
theorem Ky.trans {r:Nat}{x y z:World}(h:Ky r x y)(h':Ky r y z):Ky r x z:=⟨h'.os.trans h.os,h'.tape.trans h.tape,h'.output.trans h.output,Qk h.size h'.size,fun k hk hl=>(h'.blk k hk (Qx hl h.size)).trans (h.blk k hk hl)⟩
theorem Ky.set {r:Nat}{x y:World}(h:Ky r x y)(j:Nat)(v:Value):Ky r x (y.setCell ⟨r,j,none⟩ v):=⟨h.os,h.tape,h.output,by have:=h.size;simpa using this,fun k hk hl=>(Qy _ _ _ _ hk).trans (h.blk k hk hl)⟩
theorem Ky.base {r:Nat}{w x y:World}(h:Ky r x y)(hb:Below w.heap.size w x)(hr:w.heap.size<=r):Below w.heap.size w y:=hb.trans ⟨h.os,h.tape,h.output,h.size,fun k hk=>h.blk k (by omega) (Qx hk hb.size)⟩
theorem Ky.row {r:Nat}{x y:World}{cu:Array Value}(h:Ky r x y)(hr:x.heap[r]?=some (.cells cu 51 (0,0))){B e sz n:Nat}{v:Value}{xs:List Value}(ho:x.ownsRow B e sz v n xs)(he:e≠51):y.ownsRow B e sz v n xs:=jA0 ho fun j hj=>by
 obtain ⟨c,hc⟩:=jA1 ho hj
 refine h.blk j (fun e2=>?_) (jAv hc)
 rw[e2,hr] at hc
 injection hc with hc
 injection hc with _ hc _
 exact he hc.symm
theorem Ky.cell {r:Nat}{x y:World}{cu cs:Array Value}{t:TypeId}(h:Ky r x y)(hr:x.heap[r]?=some (.cells cu 51 (0,0))){b:Nat}(hb:x.heap[b]?=some (.cells cs t (0,0)))(ht:t≠51):y.heap[b]?=some (.cells cs t (0,0)):=(h.blk b (fun e=>by
 rw[e,hr] at hb
 injection hb with hb
 injection hb with _ hb _
 exact ht hb.symm) (jAv hb)).trans hb
theorem Ky.tree {r:Nat}{x y:World}{cu:Array Value}(h:Ky r x y)(hr:x.heap[r]?=some (.cells cu 51 (0,0))){q nn:Nat}{F:List Nat}{T:Tr.Ts}(hL:Tr.Lay x q F nn T):Tr.Lay y q F nn T:=hL.keep fun k hk=>h.blk k (fun e=>hL.notin hr (by decide) (e▸hk)) (hL.lt k hk)
theorem Ky.pool {r:Nat}{x y:World}{cu:Array Value}(h:Ky r x y)(hr:x.heap[r]?=some (.cells cu 51 (0,0))){pb pq pn:Nat}{PF:List Nat}{P:Ps}(hK:Ok x pb pq PF pn P):Ok y pb pq PF pn P:=⟨h.cell hr hK.top (by decide),hK.lay.keep fun k hk=>h.blk k (fun e=>hK.lay.notin hr (by decide) (e▸hk)) (hK.lay.lt k hk),hK.good,hK.nn⟩
theorem Ky.dw {r:Nat}{x y:World}{cu:Array Value}(h:Ky r x y)(hr:x.heap[r]?=some (.cells cu 51 (0,0))){c:Ix.Cn}{b q nn pb pq pn:Nat}{T:Tr.Ts}{P:Ps}(hD:Dw x c b q nn pb pq pn T P):Dw y c b q nn pb pq pn T P:=by
 obtain ⟨F,PF,h1,h2,h3⟩:=hD.ex
 exact ⟨hD.dk,F,PF,h.cell hr h1 (by decide),h.tree hr h2,h.pool hr h3⟩
def rnA (c:Ix.Cn)(b pb:Nat)(sl st wo wq io iq nd:Value):Array Value:=#[.int .i64 (c.sl:Int),.int .i64 (c.fl:Int),.int .i64 (c.dr:Int),.int .i64 (c.mf:Int),.int .i64 (c.ls:Int),.int .i64 (c.pg:Int),.pointer (some ⟨b,0,none⟩),.pointer (some ⟨pb,0,none⟩),sl,st,wo,wq,io,iq,.int .i64 (c.fl:Int),.int .i64 (c.dr:Int),nd]
structure Rn (w x:World)(c:Ix.Cn)(r:Nat)(T:Tr.Ts)(P:Ps)(sl st wo wq:Value):Prop where
 ex:∃b q nn pb pq pn io iq nd,x.heap[r]?=some (.cells (rnA c b pb sl st wo wq io iq nd) 51 (0,0))/\Dw x c b q nn pb pq pn T P/\x.ownsRow w.heap.size 60 4 io P.R.length (obsC P.R)/\x.ownsRow w.heap.size 3 1 iq P.Q.length (nsC P.Q)/\x.ownsRow w.heap.size 91 5 nd (Tr.told T).length (Tr.ndsc (Tr.told T))/\(Tr.told T).length<=1000000
 rb:w.heap.size<=r
 be:Below w.heap.size w x
 rt:Ix.RT w
structure Lb (w x:World)(c:Ix.Cn)(P S:Ps)(L:List Nat)(U:Tr.Ts)(ss:List (Tr.Rs × Tr.Ef))(n:Nat)(sl st wo wq:Value):Prop where
 sl:x.ownsRow w.heap.size 53 4 sl c.sl (slsC (L.map (sltAt c.ls P S U)))
 st:∃l,x.ownsRow w.heap.size 75 13 st n (stsC l)/\l.map (·.1)=ss/\∀(i:Nat) y,l[i]?=some y->Pa.Own x w.heap.size y.2 y.1.1.names
 wo:x.ownsRow w.heap.size 60 4 wo P.R.length (obsC P.R)
 wq:x.ownsRow w.heap.size 3 1 wq P.Q.length (nsC P.Q)
theorem make_ok (w:World)(hT:Ix.RT w)(c:Ix.Cn)(hc:c.May)(b q nn pb pq pn:Nat)(T:Tr.Ts)(P:Ps)(hD:Dw w c b q nn pb pq pn T P)(a:Option Addr)(n oc:Nat)(O:List Tr.Op)(hO:Tr.IsO w a n O)(hle:n<=c.sl) :
 Calls prog 25 #[Ix.cfV c.cf,.pointer (some ⟨b,0,none⟩),.pointer (some ⟨pb,0,none⟩),.slice a n oc] w fun e w'=>∃gl gs b' q' pb' pq',e=.returned (.tuple #[.agg #[.slice (some ⟨gl,0,none⟩) c.sl c.sl,.slice (some ⟨gs,0,none⟩) n n],.pointer (some ⟨b',0,none⟩),.pointer (some ⟨pb',0,none⟩),.int .i64 0])/\Hid (Mk w w' c P (endB c (ldC c T) P O) (jGx c (ldC c T) P O) (doL (ldC c T) O).1 (doL (ldC c T) O).2 n gl gs b' q' pb' pq')/\Below w.heap.size w w'/\Hid (∃dp,Dk c (ldC c T) dp P) :=
 make_pre w hT c hc b q nn pb pq pn T P hD a n oc O hO _ (fun h=>absurd hle h) (fun _ _ gl gs b' q' pb' pq' h1 h2 h3=>⟨gl,gs,b',q',pb',pq',rfl,h1,h2,h3⟩)
theorem make_no (w:World)(hT:Ix.RT w)(c:Ix.Cn)(hc:c.May)(b q nn pb pq pn:Nat)(T:Tr.Ts)(P:Ps)(hD:Dw w c b q nn pb pq pn T P)(a:Option Addr)(n oc:Nat)(O:List Tr.Op)(hO:Tr.IsO w a n O)(hle:¬n<=c.sl) :
 Calls prog 25 #[Ix.cfV c.cf,.pointer (some ⟨b,0,none⟩),.pointer (some ⟨pb,0,none⟩),.slice a n oc] w fun e w'=>e=.returned (.tuple #[.agg #[.slice none 0 0,.slice none 0 0],.pointer none,.pointer none,.int .i64 150])/\Below w.heap.size w w' :=
 make_pre w hT c hc b q nn pb pq pn T P hD a n oc O hO _ (fun _ _ h=>⟨rfl,h⟩) (fun h=>absurd h hle)
theorem jIj (e:Int)(w:World):Calls prog 14 #[.int .i64 e] w fun x w'=>x=.returned (.int .i64 e)/\w'=w:=by
 go_enter func14,ntmps14
 go_wp2
 go_ret
 exact ⟨rfl,rfl⟩
