import Derived.Test.YtfnklhajafmooaaGreatDoorG49
set_option maxHeartbeats 2000000
set_option maxRecDepth 20000
namespace Go.Proofs.YtfnklhajafmooaaGreatDoor.Po.Pn
open Go.RowKit Go.Lib Go.Deep Go.Proofs.Tryz
theorem samePool15_any (w:World)(B1 B2:Nat)(qa qb:Option Addr)(n ca cb:Nat)(Q:List Nat)(hQ:Q.length=n)(hn:n<=70000)(h1:w.ownsRow B1 3 1 (.slice qa n ca) n (nsC Q))(h2:w.ownsRow B2 3 1 (.slice qb n cb) n (nsC Q)):Calls prog 15 #[.agg #[.slice none 0 0,.slice qa n ca],.agg #[.slice none 0 0,.slice qb n cb]] w fun e w'=>e=.returned (.bool true)/\Below w.heap.size w w':=by
 obtain ⟨W1,hW1,hb1,k1⟩:=jA4 w #[.slice none 0 0,.slice qa n ca] 46
 obtain ⟨W,hW,hb2,k2⟩:=jA4 W1 #[.slice none 0 0,.slice qb n cb] 46
 have hb:=hb1.trans (hb2.mono hb1.size)
 have z1:W1.heap.size=w.heap.size+1:=by rw[<-hW1];simp
 have k1':=(hb2.block _ (jAv k1)).trans k1
 rw[z1] at k2
 have HC:Hid (∀V,Below W.heap.size W V->V.cell? ⟨w.heap.size,0,none⟩=some (.slice none 0 0)/\V.cell? ⟨w.heap.size,1,none⟩=some (.slice qa n ca)/\V.cell? ⟨w.heap.size+1,0,none⟩=some (.slice none 0 0)/\V.cell? ⟨w.heap.size+1,1,none⟩=some (.slice qb n cb)):=fun V hV=>by
  have a1:=(hV.block _ (jAv k1')).trans k1'
  have a2:=(hV.block _ (jAv k2)).trans k2
  exact ⟨(jAj a1).trans rfl,(jAj a1).trans rfl,(jAj a2).trans rfl,(jAj a2).trans rfl⟩
 have HQ:Hid (∀V,Below W.heap.size W V->∀k,k<n->∃(x g1 g2:Nat),qa=some ⟨g1,0,none⟩/\qb=some ⟨g2,0,none⟩/\V.cell? ⟨g1,k,none⟩=some (.int .i64 (x:Int))/\V.cell? ⟨g2,k,none⟩=some (.int .i64 (x:Int))):=fun V hV k hk=>by
  obtain ⟨x,hx⟩:∃x,Q[k]?=some x:=⟨_,Qv (by omega)⟩
  have hV':=hb.trans (hV.mono hb.size)
  have o1:=jA7 h1 hV'
  have o2:=jA7 h2 hV'
  rcases o1.2 with ⟨_,e⟩ | ⟨g1,cap,cur,e,_⟩
  ·omega
  ·injection e with e _ _
   subst e
   rcases o2.2 with ⟨_,e⟩ | ⟨g2,cap,cur,e,_⟩
   ·omega
   ·injection e with e _ _
    subst e
    exact ⟨x,g1,g2,rfl,rfl,(o1.cellAt k (by omega)).trans (jJx hx),(o2.cellAt k (by omega)).trans (jJx hx)⟩
 have HB:Hid (∀V,Below W.heap.size W V->Below w.heap.size w V):=fun V hV=>hb.trans (hV.mono hb.size)
 have B0:Hid (∀V j,Below W.heap.size W V->Below W.heap.size W (V.drewN j)):=fun V j hV=>Tr.bdr hV j
 obtain ⟨y0,y1,y2,y3⟩:=HC.out W (Qq _ _)
 clear h1 h2 hb1 hb2 hb k1 k1' k2 hQ
 go_enter func15,ntmps15
 go_wp2_with fail
 go_loopg [5] 0 (fun gk iv wr=>gk=0/\iv=.int .i64 0/\Below W.heap.size W wr)
 case atStart=>exact ⟨rfl,rfl,Qq _ _⟩
 case round =>
  clear y0 y1 y2 y3 hW hW1
  obtain ⟨-,rfl,hbe⟩:=hrel
  obtain ⟨y0,y1,y2,y3⟩:=HC.out _ hbe
  have HBE:Hid _:=hbe
  clear hbe
  go_wp2_with fail
  go_loopg [6] n (fun gk iv wx=>∃k:Nat,gk=n-k/\k<=n/\iv=.int .i64 (k:Int)/\Below W.heap.size W wx)
  case atStart=>exact ⟨0,by omega,by omega,rfl,HBE.out⟩
  case round =>
   clear y0 y1 y2 y3
   obtain ⟨k,hgk,hkn,rfl,hbe⟩:=hrel
   obtain ⟨y0,y1,y2,y3⟩:=HC.out _ hbe
   have HB2:Hid (∀j,Below W.heap.size W (wr.drewN j)):=fun j=>B0.out _ _ hbe
   by_cases hk:k<n
   ·have hkI:(k:Int)<(n:Int):=by omega
    have w1:IntKind.i64.wrap ((k:Int)+1)=((k+1:Nat):Int):=by rw[QX];omega
    obtain ⟨x,g1,g2,rfl,rfl,c1,c2⟩:=HQ.out _ hbe k hk
    clear hbe
    go_wp2_with fail
    go_quiet (fail)
    go_wp2
    go_roundg (n-(k+1))
    case measure=>omega
    case rel=>exact ⟨k+1,rfl,by omega,rfl,HB2.out _⟩
   ·obtain rfl:k=n:=by omega
    have hkI:¬(k:Int)<(k:Int):=by omega
    clear hbe
    go_wp2
    go_ret
    exact ⟨rfl,HB.out _ (HB2.out 0)⟩
theorem Rn.ky {w x y:World}{c:Ix.Cn}{r r':Nat}{T T':Tr.Ts}{P P':Ps}{sl st wo wq sl' st' wo' wq':Value}(h:Rn w x c r T P sl st wo wq)(h':Rn w x c r' T' P' sl' st' wo' wq')(hne:r≠r')(hk:Ky r' x y):Rn w y c r T P sl st wo wq:=by
 obtain ⟨b,q,nn,pb,pq,pn,io,iq,nd,h1,h2,h3,h4,h5,h6⟩:=h.ex
 obtain ⟨b',q',nn',pb',pq',pn',io',iq',nd',hr,_⟩:=h'.ex
 exact ⟨⟨b,q,nn,pb,pq,pn,io,iq,nd,(hk.blk r hne (jAv h1)).trans h1,hk.dw hr h2,hk.row hr h3 (by decide),hk.row hr h4 (by decide),hk.row hr h5 (by decide),h6⟩,h.rb,hk.base h.be h'.rb,h.rt⟩
theorem Lb.ky {w x y:World}{c:Ix.Cn}{r':Nat}{T' U:Tr.Ts}{P S P':Ps}{L:List Nat}{ss:List (Tr.Rs × Tr.Ef)}{n:Nat}{sl st wo wq sl' st' wo' wq':Value}(h:Lb w x c P S L U ss n sl st wo wq)(h':Rn w x c r' T' P' sl' st' wo' wq')(hk:Ky r' x y):Lb w y c P S L U ss n sl st wo wq:=by
 obtain ⟨b',q',nn',pb',pq',pn',io',iq',nd',hr,_⟩:=h'.ex
 obtain ⟨l,l1,l2,l3⟩:=h.st
 exact ⟨hk.row hr h.sl (by decide),⟨l,hk.row hr l1 (by decide),l2,fun i y hy=>hk.row hr (l3 i y hy) (by decide)⟩,hk.row hr h.wo (by decide),hk.row hr h.wq (by decide)⟩
theorem Rn.base {w v x:World}{c:Ix.Cn}{r:Nat}{T:Tr.Ts}{P:Ps}{sl st wo wq:Value}(h:Rn v x c r T P sl st wo wq)(hb:Below w.heap.size w v)(hT:Ix.RT w):Rn w x c r T P sl st wo wq:=by
 obtain ⟨b,q,nn,pb,pq,pn,io,iq,nd,h1,h2,h3,h4,h5,h6⟩:=h.ex
 have hs:=hb.size
 exact ⟨⟨b,q,nn,pb,pq,pn,io,iq,nd,h1,h2,jB1 h3 hs,jB1 h4 hs,jB1 h5 hs,h6⟩,Qk hs h.rb,hb.trans (h.be.mono hs),hT⟩
theorem Rn.lt {w x:World}{c:Ix.Cn}{r:Nat}{T:Tr.Ts}{P:Ps}{sl st wo wq:Value}(h:Rn w x c r T P sl st wo wq):r<x.heap.size:=by
 obtain ⟨b,q,nn,pb,pq,pn,io,iq,nd,h1,_⟩:=h.ex
 exact jAv h1
def Pw (w x:World)(c:Ix.Cn)(r r':Nat):Prop:=∃T P sl st wo wq T' P' sl' st' wo' wq',Rn w x c r T P sl st wo wq/\Rn w x c r' T' P' sl' st' wo' wq'/\r≠r'
def Pr (w x:World)(c:Ix.Cn)(r r':Nat):Prop:=∃T P sl st wo wq T' P' sl' st' wo' wq',Rn w x c r T P sl st wo wq/\Rn w x c r' T' P' sl' st' wo' wq'/\r≠r'/\sk P=sk P'
theorem Pr.pw {w x:World}{c:Ix.Cn}{r r':Nat}(h:Pr w x c r r'):Pw w x c r r':=by
 obtain ⟨T,P,sl,st,wo,wq,T',P',sl',st',wo',wq',h1,h2,h3,_⟩:=h
 exact ⟨T,P,sl,st,wo,wq,T',P',sl',st',wo',wq',h1,h2,h3⟩
theorem Pw.swap {w x:World}{c:Ix.Cn}{r r':Nat}(h:Pw w x c r r'):Pw w x c r' r:=by
 obtain ⟨T,P,sl,st,wo,wq,T',P',sl',st',wo',wq',h1,h2,h3⟩:=h
 exact ⟨_,_,_,_,_,_,_,_,_,_,_,_,h2,h1,h3.symm⟩
theorem Pw.be {w x:World}{c:Ix.Cn}{r r':Nat}(h:Pw w x c r r'):Below w.heap.size w x:=by
 obtain ⟨T,P,sl,st,wo,wq,T',P',sl',st',wo',wq',h1,_⟩:=h
 exact h1.be
theorem Pr.below {w x y:World}{c:Ix.Cn}{r r':Nat}(h:Pr w x c r r')(hb:Below x.heap.size x y):Pr w y c r r':=by
 obtain ⟨T,P,sl,st,wo,wq,T',P',sl',st',wo',wq',h1,h2,h3,h4⟩:=h
 exact ⟨_,_,_,_,_,_,_,_,_,_,_,_,h1.below hb,h2.below hb,h3,h4⟩
theorem does_w {w x:World}{c:Ix.Cn}(hc:c.May){r r':Nat}(h:Pw w x c r r')(a:Option Addr)(n oc:Nat)(O:List Tr.Op)(hO:Tr.IsO x a n O)(hn:n*72<=140737488355328):Calls prog 8 #[.pointer (some ⟨r,0,none⟩),.slice a n oc] x fun e y=>e=.returned (.bool true)/\Hid (Pw w y c r r'):=by
 obtain ⟨T,P,sl,st,wo,wq,T',P',sl',st',wo',wq',h1,h2,h3⟩:=h
 by_cases hle:n<=c.sl
 ·refine (does_ok hc h1 a n oc O hO hn hle).mono ?_
  rintro e y ⟨rfl,HX⟩
  obtain ⟨hk,-,sl2,st2,wo2,wq2,g1,-⟩:=HX.out
  exact ⟨rfl,_,_,_,_,_,_,_,_,_,_,_,_,g1,h2.ky h1 h3.symm hk,h3⟩
 ·refine (does_no hc h1 a n oc O hO hn hle).mono ?_
  rintro e y ⟨rfl,HX⟩
  obtain ⟨hk,g1⟩:=HX.out
  exact ⟨rfl,_,_,_,_,_,_,_,_,_,_,_,_,g1,h2.ky h1 h3.symm hk,h3⟩
def Pm (w y:World)(c:Ix.Cn)(r r':Nat):Prop:=∃T O P n sl st wo wq T' P' sl' st' wo' wq',Rn w y c r (doL (ldC c T) O).2 (endB c (ldC c T) P O) sl st wo wq/\Lb w y c P (endB c (ldC c T) P O) (jGx c (ldC c T) P O) (doL (ldC c T) O).2 (doL (ldC c T) O).1 n sl st wo wq/\(∃dp,Dk c (ldC c T) dp P)/\O.length=n/\n<=c.sl/\Rn w y c r' T' P' sl' st' wo' wq'/\r≠r'/\sk P=sk P'
theorem Pm.be {w x:World}{c:Ix.Cn}{r r':Nat}(h:Pm w x c r r'):Below w.heap.size w x:=by
 obtain ⟨T,O,P,n,sl,st,wo,wq,T',P',sl',st',wo',wq',h1,_⟩:=h
 exact h1.be
theorem does_a {w x:World}{c:Ix.Cn}(hc:c.May){r r':Nat}(h:Pr w x c r r')(a:Option Addr)(n oc:Nat)(O:List Tr.Op)(hO:Tr.IsO x a n O)(hn:n*72<=140737488355328)(hle:n<=c.sl):Calls prog 8 #[.pointer (some ⟨r,0,none⟩),.slice a n oc] x fun e y=>e=.returned (.bool true)/\Hid (Pm w y c r r'):=by
 obtain ⟨T,P,sl,st,wo,wq,T',P',sl',st',wo',wq',h1,h2,h3,h4⟩:=h
 refine (does_ok hc h1 a n oc O hO hn hle).mono ?_
 rintro e y ⟨rfl,HX⟩
 obtain ⟨hk,hd,sl2,st2,wo2,wq2,g1,g2⟩:=HX.out
 exact ⟨rfl,T,O,P,n,_,_,_,_,_,_,_,_,_,_,g1,g2,hd,hO.hl,hle,h2.ky h1 h3.symm hk,h3,h4⟩
def Pf (w y:World)(c:Ix.Cn)(r r':Nat):Prop:=∃U S P L ss n sl st wo wq U' S' P' L' ss' n' sl' st' wo' wq',Rn w y c r U S sl st wo wq/\Lb w y c P S L U ss n sl st wo wq/\Rn w y c r' U' S' sl' st' wo' wq'/\Lb w y c P' S' L' U' ss' n' sl' st' wo' wq'/\r≠r'/\(ss.length=n/\n<=c.sl/\L.length=c.sl/\∀i,i∈L->i<S.R.length)/\(ss'.length=n'/\n'<=c.sl/\L'.length=c.sl)/\sk P=sk P'/\(clsL ss c.sl=clsL ss' c.sl->L=L'/\sk S=sk S')
theorem doL_all (T:Tr.Ts)(O:List Tr.Op):(doL T O).1.length=O.length:=by
 have:=jJv T O O.length (Qj _)
 rwa [Qh] at this
theorem does_b {w x:World}{c:Ix.Cn}(hc:c.May){r r':Nat}(h:Pm w x c r r')(a:Option Addr)(n oc:Nat)(O:List Tr.Op)(hO:Tr.IsO x a n O)(hn:n*72<=140737488355328)(hle:n<=c.sl):Calls prog 8 #[.pointer (some ⟨r',0,none⟩),.slice a n oc] x fun e y=>e=.returned (.bool true)/\Hid (Pf w y c r r'):=by
 obtain ⟨T,O1,P,n1,sl,st,wo,wq,T',P',sl',st',wo',wq',h1,l1,⟨dp,d⟩,hO1,hn1,h2,h3,h4⟩:=h
 refine (does_ok hc h2 a n oc O hO hn hle).mono ?_
 rintro e y ⟨rfl,HX⟩
 obtain ⟨hk,⟨dp',d'⟩,sl2,st2,wo2,wq2,g1,g2⟩:=HX.out
 have hOl:O.length<=c.sl:=by rw[hO.hl];exact hle
 obtain ⟨b,hbl⟩:=jNq d O1 (by omega)
 have he:=(end_eq d O1 (by omega)).2
 refine ⟨rfl,_,_,_,_,_,_,_,_,_,_,_,_,_,_,_,_,_,_,_,_,h1.ky h2 h3 hk,l1.ky h2 hk,g1,g2,h3,⟨(doL_all _ _).trans hO1,hn1,hbl,fun i hi=>?_⟩,⟨(doL_all _ _).trans hO.hl,hle,(jNq d' O hOl).2⟩,h4,fun hcl=>sk_batch h4 hcl⟩
 rw[he]
 exact b.lt i hi
structure Sv (y:World)(c:Ix.Cn)(r:Nat)(U:Tr.Ts)(S P:Ps)(L:List Nat)(ss:List (Tr.Rs × Tr.Ef))(gs cs:Nat)(ta:Option Addr)(n ct go co:Nat)(qa:Option Addr)(cq:Nat):Prop where
 cl:∀V,Below y.heap.size y V->V.cell? ⟨r,8,none⟩=some (.slice (some ⟨gs,0,none⟩) c.sl cs)/\V.cell? ⟨r,9,none⟩=some (.slice ta n ct)/\V.cell? ⟨r,12,none⟩=some (.slice (some ⟨go,0,none⟩) S.R.length co)/\V.cell? ⟨r,13,none⟩=some (.slice qa S.Q.length cq)
 cls:∀V (k:Nat),Below y.heap.size y V->k<=64->Calls prog 11 #[.slice ta n ct,.int .i64 (k:Int)] V fun e w'=>e=.returned (clV (clsK ss k))/\Below V.heap.size V w'
 sl:∀V (k i:Nat),Below y.heap.size y V->L[k]?=some i->V.cell? ⟨gs,k*4,none⟩=some (.int .i64 (i:Int))/\V.cell? ⟨gs,k*4+1,none⟩=some (.int .i64 (owAt P i))/\V.cell? ⟨gs,k*4+2,none⟩=some (.int .i64 (owAt S i))/\V.cell? ⟨gs,k*4+3,none⟩=some (.int .i64 (Fr.sizY (jD4 U (owAt S i)) c.ls:Nat))
 ob:∀V (k:Nat),Below y.heap.size y V->k<S.R.length->V.cell? ⟨go,k*4+3,none⟩=some (.int .i64 (owAt S k))
 sz:∀V f,Below y.heap.size y V->Calls prog 13 #[.pointer (some ⟨r,0,none⟩),.int .i64 f] V fun e w'=>e=.returned (.int .i64 (szN (Tr.told U) f))/\Below V.heap.size V w'
 ow:∀i:Nat,i<S.R.length->(owAt S i=-1\/(0<=owAt S i/\szN (Tr.told U) (owAt S i)=(jD4 U (owAt S i):Int)/\jD4 U (owAt S i)<=65536))
 qu:∀V,Below y.heap.size y V->∃B,V.ownsRow B 3 1 (.slice qa S.Q.length cq) S.Q.length (nsC S.Q)
theorem sv_of {w y:World}{c:Ix.Cn}(hc:c.May){r:Nat}{U:Tr.Ts}{S P:Ps}{L:List Nat}{ss:List (Tr.Rs × Tr.Ef)}{n:Nat}{sl st wo wq:Value}(h:Rn w y c r U S sl st wo wq)(hl:Lb w y c P S L U ss n sl st wo wq)(hss:ss.length=n)(hn:n<=c.sl)(hL:L.length=c.sl):∃gs cs ta ct go co qa cq,Sv y c r U S P L ss gs cs ta n ct go co qa cq:=by
 obtain ⟨htn,na,nc,HND⟩:=h.nds
 obtain ⟨b,q,nn,pb,pq,pn,io,iq,nd,hr,hD,hio,hiq,hndo,htl⟩:=h.ex
 obtain ⟨dp,d⟩:=hD.dk
 have hin:=hc.1
 have hfl:=d.good.fl
 obtain ⟨ia,ic,rfl⟩:=jBy hio
 obtain ⟨qa,qc,rfl⟩:=jBy hiq
 obtain ⟨go,rfl⟩:=own_some hio (by omega)
 obtain ⟨sa,sc,rfl⟩:=jBy hl.sl
 obtain ⟨gs,rfl⟩:=own_some hl.sl (by have:=hin.1;omega)
 obtain ⟨l,l1,l2,l3⟩:=hl.st
 obtain ⟨ta,tc,rfl⟩:=jBy l1
 have hll:l.length=n:=by rw[<-hss,<-l2,List.length_map]
 refine ⟨gs,sc,ta,tc,go,ic,qa,qc,⟨fun V hV=>?_,fun V k hV hk=>?_,fun V k i hV hi=>?_,fun V k hV hk=>?_,fun V f hV=>?_,fun i hi=>?_,fun V hV=>⟨_,jA7 hiq hV⟩⟩⟩
 ·have:=jG1 ((hV.block _ (jAv hr)).trans hr)
  exact ⟨this.2.1.1,this.2.1.2,this.2.2.2.1.1,this.2.2.2.1.2⟩
 ·rw[<-l2]
  exact class15_any V _ ta n tc l (jA7 l1 hV) hll (Qk hn hin.2.1) k hk
 ·have hx:(L.map (sltAt c.ls P S U))[k]?=some (sltAt c.ls P S U i):=by rw[List.getElem?_map,hi];rfl
  exact sl_cells (jA7 hl.sl hV) (by rw[List.length_map,hL]) hx
 ·have ho:=Qv hk
  rw[jIz ho]
  exact (ob_ow (jA7 hio hV) rfl ho).2.2.2
 ·exact size15_any V r (Tr.told U) na nc f htn fun Z hZ=>HND Z (hV.trans (hZ.mono hV.size))
 ·have ho:=Qv hi
  rw[jIz ho]
  have h1:=(d.good.st i _ ho).2.1
  by_cases h0:0<=S.R[i].ow
  ·obtain ⟨g1,g2⟩:=own_size d ho h0
   exact .inr ⟨h0,g1,Qk g2 hin.2.2.2.2.2.1⟩
  ·exact .inl (by omega)
structure Sb (y:World)(gs gs':Nat)(ls k:Nat)(za zb:Int->Int)(i:Nat)(wv fv ba bb:Int):Prop where
 a:∀V,Below y.heap.size y V->V.cell? ⟨gs,k*4,none⟩=some (.int .i64 (i:Int))/\V.cell? ⟨gs,k*4+1,none⟩=some (.int .i64 wv)/\V.cell? ⟨gs,k*4+2,none⟩=some (.int .i64 fv)/\V.cell? ⟨gs,k*4+3,none⟩=some (.int .i64 ba)
 b:∀V,Below y.heap.size y V->V.cell? ⟨gs',k*4,none⟩=some (.int .i64 (i:Int))/\V.cell? ⟨gs',k*4+1,none⟩=some (.int .i64 wv)/\V.cell? ⟨gs',k*4+2,none⟩=some (.int .i64 fv)/\V.cell? ⟨gs',k*4+3,none⟩=some (.int .i64 bb)
 c:(fv<0/\ba=bb)\/(0<=fv/\∃s s':Nat,za fv=(s:Int)/\zb fv=(s':Int)/\s<=65536/\s'<=65536/\ba=(Fr.sizY (s:Int) ls:Nat)/\bb=(Fr.sizY (s':Int) ls:Nat))
def Both (w y:World)(c:Ix.Cn)(r r':Nat)(gs cs:Nat)(ta:Option Addr)(n ct go co:Nat)(qa:Option Addr)(cq gs' cs':Nat)(ta':Option Addr)(n' ct' go' co':Nat)(qa':Option Addr)(cq' pl pl' ql ql':Nat)(za zb:Int->Int)(ka kb:Nat->Int × Int):Prop :=
 (∀V,Below y.heap.size y V->V.cell? ⟨r,8,none⟩=some (.slice (some ⟨gs,0,none⟩) c.sl cs)/\V.cell? ⟨r,9,none⟩=some (.slice ta n ct)/\V.cell? ⟨r,12,none⟩=some (.slice (some ⟨go,0,none⟩) pl co)/\V.cell? ⟨r,13,none⟩=some (.slice qa ql cq)) /\
 (∀V,Below y.heap.size y V->V.cell? ⟨r',8,none⟩=some (.slice (some ⟨gs',0,none⟩) c.sl cs')/\V.cell? ⟨r',9,none⟩=some (.slice ta' n' ct')/\V.cell? ⟨r',12,none⟩=some (.slice (some ⟨go',0,none⟩) pl' co')/\V.cell? ⟨r',13,none⟩=some (.slice qa' ql' cq')) /\
 (∀V (k:Nat),Below y.heap.size y V->k<=64->Calls prog 11 #[.slice ta n ct,.int .i64 (k:Int)] V fun e w'=>e=.returned (clV (ka k))/\Below V.heap.size V w') /\
 (∀V (k:Nat),Below y.heap.size y V->k<=64->Calls prog 11 #[.slice ta' n' ct',.int .i64 (k:Int)] V fun e w'=>e=.returned (clV (kb k))/\Below V.heap.size V w') /\
 (∀V f,Below y.heap.size y V->Calls prog 13 #[.pointer (some ⟨r,0,none⟩),.int .i64 f] V fun e w'=>e=.returned (.int .i64 (za f))/\Below V.heap.size V w') /\
 (∀V f,Below y.heap.size y V->Calls prog 13 #[.pointer (some ⟨r',0,none⟩),.int .i64 f] V fun e w'=>e=.returned (.int .i64 (zb f))/\Below V.heap.size V w') /\
 pl<=65600/\Below w.heap.size w y /\
 ((∀k,k<c.sl->ka k=kb k)->(∀k,k<c.sl->∃i wv fv ba bb,Sb y gs gs' c.ls k za zb i wv fv ba bb)/\pl'=pl/\(∀k,k<pl->∃o:Int,∀V,Below y.heap.size y V->V.cell? ⟨go,k*4+3,none⟩=some (.int .i64 o)/\V.cell? ⟨go',k*4+3,none⟩=some (.int .i64 o))/\(∀V,Below y.heap.size y V->Calls prog 15 #[.agg #[.slice none 0 0,.slice qa ql cq],.agg #[.slice none 0 0,.slice qa' ql' cq']] V fun e w'=>e=.returned (.bool true)/\Below V.heap.size V w')/\∀V,Below y.heap.size y V->Pr w V c r r')
theorem both_of {w y:World}{c:Ix.Cn}(hc:c.May){r r':Nat}(h:Pf w y c r r'):∃gs cs ta n ct go co qa cq gs' cs' ta' n' ct' go' co' qa' cq' pl pl' ql ql' za zb ka kb,Both w y c r r' gs cs ta n ct go co qa cq gs' cs' ta' n' ct' go' co' qa' cq' pl pl' ql ql' za zb ka kb:=by
 obtain ⟨U,S,P,L,ss,n,sl,st,wo,wq,U',S',P',L',ss',n',sl',st',wo',wq',h1,l1,h2,l2,hne,⟨e1,e2,e3,e4⟩,⟨f1,f2,f3⟩,hsk,himp⟩:=h
 obtain ⟨gs,cs,ta,ct,go,co,qa,cq,v⟩:=sv_of hc h1 l1 e1 e2 e3
 obtain ⟨gs',cs',ta',ct',go',co',qa',cq',v'⟩:=sv_of hc h2 l2 f1 f2 f3
 obtain ⟨b,q,nn,pb,pq,pn,io,iq,nd,hr,hD,_⟩:=h1.ex
 obtain ⟨dp,d⟩:=hD.dk
 have hfl:=d.good.fl
 refine ⟨gs,cs,ta,n,ct,go,co,qa,cq,gs',cs',ta',n',ct',go',co',qa',cq',S.R.length,S'.R.length,S.Q.length,S'.Q.length,szN (Tr.told U),szN (Tr.told U'),clsK ss,clsK ss',v.cl,v'.cl,v.cls,v'.cls,v.sz,v'.sz,by omega,h1.be,fun hk=>?_⟩
 obtain ⟨hLL,hS⟩:=himp (clsK_all (by omega) (by omega) hk)
 subst hLL
 obtain ⟨hR,hQ⟩:=sk_rows hS
 have how:=sk_ow hS
 have hpw:=sk_ow hsk
 refine ⟨fun k hk=>?_,hR.symm,fun k hk=>⟨owAt S k,fun V hV=>⟨v.ob V k hV hk,by rw[how];exact v'.ob V k hV (by omega)⟩⟩,fun V hV=>?_,fun V hV=>⟨_,_,_,_,_,_,_,_,_,_,_,_,h1.below hV,h2.below hV,hne,hS⟩⟩
 ·obtain ⟨i,hi⟩:∃i,L[k]?=some i:=⟨_,Qv (by omega)⟩
  have hil:=e4 i (List.mem_of_getElem? hi)
  refine ⟨i,owAt P i,owAt S i,_,_,fun V hV=>v.sl V k i hV hi,fun V hV=>by rw[how,hpw];exact v'.sl V k i hV hi,?_⟩
  rcases v.ow i hil with h0 | ⟨h0,h5,h6⟩
  ·refine .inl ⟨by omega,?_⟩
   rw[<-how,h0]
   rfl
  ·rcases v'.ow i (by omega) with h0' | ⟨_,h5',h6'⟩
   ·rw[<-how] at h0'
    omega
   ·refine .inr ⟨h0,_,_,h5,?_,h6,h6',rfl,rfl⟩
    rw[how]
    exact h5'
 ·obtain ⟨B1,o1⟩:=v.qu V hV
  obtain ⟨B2,o2⟩:=v'.qu V hV
  rw[<-hQ] at o2 ⊢
  exact samePool15_any V B1 B2 qa qa' _ cq cq' S.Q rfl (by have:=d.good.ql;omega) o1 o2
