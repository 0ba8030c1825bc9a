import Derived.Test.YtfnklhajafmooaaGreatDoorG49
set_option maxHeartbeats 4000000
set_option maxRecDepth 20000
namespace Go.Proofs.YtfnklhajafmooaaGreatDoor.Po.Pn
open Go.RowKit Go.Lib Go.Deep
theorem own_some {w:World}{B e sz n cap:Nat}{a:Option Addr}{xs:List Value}(h:w.ownsRow B e sz (.slice a n cap) n xs)(hn:0<n):∃g,a=some ⟨g,0,none⟩:=by
 rcases h.2 with ⟨e1,e2⟩ | ⟨g,cap,cur,e1,_⟩
 ·omega
 ·injection e1 with e1 _ _;exact ⟨g,e1⟩
theorem ob_ow {w:World}{B g cap n:Nat}{l:List Ob}(h:w.ownsRow B 60 4 (.slice (some ⟨g,0,none⟩) n cap) n (obsC l))(hn:l.length=n){i:Nat}{o:Ob}(hi:l[i]?=some o):w.cell? ⟨g,i*4,none⟩=some (.string o.nm)/\w.cell? ⟨g,i*4+1,none⟩=some (.string o.tg)/\w.cell? ⟨g,i*4+2,none⟩=some (.int .i64 o.bk)/\w.cell? ⟨g,i*4+3,none⟩=some (.int .i64 o.ow):=by
 have hl:=jAy hi
 have c:=fun j (hj:j<4)=>(h.cellAt (i*4+j) (by omega)).trans (jD0 obC 4 jGz l i o hi j hj)
 exact ⟨c 0 (by omega),c 1 (by omega),c 2 (by omega),c 3 (by omega)⟩
structure Rs (w x:World)(c:Ix.Cn)(r:Nat):Prop where
 ex:∃(T:Tr.Ts) (S P:Ps) (L:List Nat) (m:Nat) (sl st wo wq:Value),Rn w x c r T S sl st wo wq/\L.length=m/\m<=64/\L.Nodup/\(∀i,i∈L->i<S.R.length)/\S.R.length=P.R.length/\(m=0->sl=.slice none 0 0)/\(m≠0->x.ownsRow w.heap.size 53 4 sl m (slsC (L.map (sltAt c.ls P S T)))/\x.ownsRow w.heap.size 60 4 wo P.R.length (obsC P.R))
theorem shape_any {w x:World}{c:Ix.Cn}(hc:c.May){r:Nat}(h:Rs w x c r):Calls Tryz.prog 10 #[.pointer (some ⟨r,0,none⟩)] x fun e y=>e=.returned (.bool true)/\Below x.heap.size x y:=by
 obtain ⟨T,S,P,L,m,sl,st,wo,wq,hR,hLm,hm64,hnd,hlt,hPS,hm0,hm1⟩:=h.ex
 obtain ⟨htn,na,nc,HND⟩:=hR.nds
 obtain ⟨b,q,nn,pb,pq,pn,io,iq,nd,hr,hD,hio,hiq,hndo,htl⟩:=hR.ex
 obtain ⟨dp,d⟩:=hD.dk
 have hin:=hc.1
 obtain ⟨ia,ic,rfl⟩:=jBy hio
 obtain ⟨qa,qc,rfl⟩:=jBy hiq
 have hfl:=d.good.fl
 obtain ⟨pl,hpl⟩:∃pl,S.R.length=pl:=⟨_,rfl⟩
 have HSZ:Hid (∀V f,Below x.heap.size x V->Calls Tryz.prog 13 #[.pointer (some ⟨r,0,none⟩),.int .i64 f] V fun e y=>e=.returned (.int .i64 (szN (Tr.told T) f))/\Below V.heap.size V y):=fun V f hV=>size15_any V r (Tr.told T) na nc f htn fun U hU=>HND U (hV.trans (hU.mono hV.size))
 have HFI:Hid (∀V,Below x.heap.size x V->Calls Tryz.prog 29 #[.pointer (some ⟨r,0,none⟩)] V fun e y=>e=.returned (.int .i64 (cntO S.R:Int))/\Below V.heap.size V y):=fun V hV=>by
  rw[<-fil_cnt d]
  exact files15_any V r (Tr.told T) na nc htn fun U hU=>HND U (hV.trans (hU.mono hV.size))
 obtain ⟨sa,sc,rfl⟩:∃sa sc,sl=.slice sa m sc:=by
  by_cases e:m=0
  ·subst e
   exact ⟨none,0,hm0 rfl⟩
  ·exact jBy (hm1 e).1
 obtain ⟨wa,wl,wc,hwo⟩:∃wa wl wc,m≠0->wo=.slice wa wl wc/\wl=pl:=by
  by_cases e:m=0
  ·exact ⟨none,0,0,fun h=>absurd e h⟩
  ·obtain ⟨wa,wc,h1⟩:=jBy (hm1 e).2
   exact ⟨wa,_,wc,fun _=>⟨h1,by omega⟩⟩
 obtain ⟨gi,rfl⟩:=own_some hio (by omega)
 have HRC:Hid (∀V,Below x.heap.size x V->V.cell? ⟨r,4,none⟩=some (.int .i64 (c.ls:Int))/\V.cell? ⟨r,8,none⟩=some (.slice sa m sc)/\V.cell? ⟨r,12,none⟩=some (.slice (some ⟨gi,0,none⟩) pl ic)/\V.cell? ⟨r,13,none⟩=some (.slice qa S.Q.length qc)/\(m≠0->V.cell? ⟨r,10,none⟩=some (.slice wa pl wc))):=fun V hV=>by
  have:=jG1 ((hV.block _ (jAv hr)).trans hr)
  rw[<-hpl]
  refine ⟨this.1.2.2.2.2.1,this.2.1.1,this.2.2.2.1.1,this.2.2.2.1.2,fun hm=>?_⟩
  obtain ⟨e1,e2⟩:=hwo hm
  rw[hpl,<-e2,<-e1]
  exact this.2.2.1.1
 have HSL:Hid (∀k,k<m->∃(i:Nat) (wv fv bv:Int) (gs gw:Nat),L[k]?=some i/\i<pl/\sa=some ⟨gs,0,none⟩/\wa=some ⟨gw,0,none⟩/\(∀V,Below x.heap.size x V->V.cell? ⟨gs,k*4,none⟩=some (.int .i64 (i:Int))/\V.cell? ⟨gs,k*4+1,none⟩=some (.int .i64 wv)/\V.cell? ⟨gs,k*4+2,none⟩=some (.int .i64 fv)/\V.cell? ⟨gs,k*4+3,none⟩=some (.int .i64 bv)/\V.cell? ⟨gi,i*4+3,none⟩=some (.int .i64 fv)/\V.cell? ⟨gw,i*4+3,none⟩=some (.int .i64 wv))/\((fv<0/\bv=(Fr.sizY 0 c.ls:Nat))\/(0<=fv/\∃s:Nat,szN (Tr.told T) fv=(s:Int)/\s<=65536/\bv=(Fr.sizY (s:Int) c.ls:Nat)))):=fun k hk=>by
  obtain ⟨i,hi⟩:∃i,L[k]?=some i:=⟨_,List.getElem?_eq_getElem (by omega)⟩
  obtain ⟨h1,h2⟩:=hm1 (by omega)
  obtain ⟨e1,e2⟩:=hwo (by omega)
  have hil:=hlt i (List.mem_of_getElem? hi)
  have hx:(L.map (sltAt c.ls P S T))[k]?=some (sltAt c.ls P S T i):=by rw[List.getElem?_map,hi];rfl
  obtain ⟨gs,rfl⟩:=own_some h1 (by omega)
  obtain ⟨o,ho⟩:∃o,S.R[i]?=some o:=⟨_,List.getElem?_eq_getElem hil⟩
  obtain ⟨o',ho'⟩:∃o',P.R[i]?=some o':=⟨_,List.getElem?_eq_getElem (by omega)⟩
  rw[e1,e2,<-hpl,hPS] at h2
  obtain ⟨gw,rfl⟩:=own_some h2 (by omega)
  have f1:owAt S i=o.ow:=jIz ho
  have f2:owAt P i=o'.ow:=jIz ho'
  have f0:=(d.good.st i o ho).2.1
  refine ⟨i,o'.ow,o.ow,(sltAt c.ls P S T i).bk,gs,gw,hi,by omega,rfl,rfl,fun V hV=>?_,?_⟩
  ·obtain ⟨a1,a2,a3,a4⟩:=sl_cells (jA9 h1 hV) (by rw[List.length_map,hLm]) hx
   exact ⟨a1,by rw[<-f2];exact a2,by rw[<-f1];exact a3,a4,(ob_ow (jA9 hio hV) rfl ho).2.2.2,(ob_ow (jA9 h2 hV) rfl ho').2.2.2⟩
  show (o.ow<0/\((Fr.sizY (jD4 T (owAt S i)) c.ls:Nat):Int)=_)\/(0<=o.ow/\∃s:Nat,szN (Tr.told T) o.ow=(s:Int)/\s<=65536/\((Fr.sizY (jD4 T (owAt S i)) c.ls:Nat):Int)=_)
  rw[f1]
  by_cases h0:0<=o.ow
  ·obtain ⟨g1,g2⟩:=own_size d ho h0
   exact .inr ⟨h0,_,g1,Nat.le_trans g2 hin.2.2.2.2.2.1,rfl⟩
  ·refine .inl ⟨by omega,?_⟩
   unfold jD4
   rw[if_pos (by omega)]
   rfl
 have HDI:Hid (∀j k i i':Nat,L[j]?=some i->L[k]?=some i'->j<k->((i:Int) == (i':Int))=false):=fun j k i i' h1 h2 hjk=>by
  apply beq_false_of_ne
  intro e
  have e2:i=i':=by omega
  subst e2
  have:=(List.getElem?_inj (jAy h1) hnd).1 (h1.trans h2.symm)
  omega
 have HOB:Hid (∀k,k<pl->∃(o:Ob),S.R[k]?=some o/\(∀V,Below x.heap.size x V->V.cell? ⟨gi,k*4,none⟩=some (.string o.nm)/\V.cell? ⟨gi,k*4+1,none⟩=some (.string o.tg)/\V.cell? ⟨gi,k*4+2,none⟩=some (.int .i64 o.bk)/\V.cell? ⟨gi,k*4+3,none⟩=some (.int .i64 o.ow))/\-1<=o.ow/\(0<=o.ow->∃s:Nat,szN (Tr.told T) o.ow=(s:Int))):=fun k hk=>by
  obtain ⟨o,ho⟩:∃o,S.R[k]?=some o:=⟨_,List.getElem?_eq_getElem (by omega)⟩
  exact ⟨o,ho,fun V hV=>ob_ow (jA9 hio hV) rfl ho,(d.good.st k o ho).2.1,fun h0=>⟨_,(own_size d ho h0).1⟩⟩
 have HOU:Hid (∀(j k:Nat) (o o':Ob),S.R[j]?=some o->S.R[k]?=some o'->j<k->0<=o'.ow->(o.ow == o'.ow)=false):=fun j k o o' h1 h2 hjk h0=>by
  apply beq_false_of_ne
  intro e
  have:=d.good.ou j k o o' h1 h2 e (by omega)
  omega
 have HCN:Hid (∀(k:Nat) (o:Ob),S.R[k]?=some o->cntO (S.R.take (k+1))=cntO (S.R.take k)+if 0<=o.ow then 1 else 0):=fun k o ho=>by
  have:=filt_succ (p:=fun o:Ob=>decide (o.ow≠-1)) ho
  have h1:=(d.good.st k o ho).2.1
  unfold cntO
  rw[this]
  congr 1
  by_cases h0:0<=o.ow
  ·rw[if_pos h0,if_pos (decide_eq_true (by omega))]
  ·rw[if_neg h0,if_neg (by simp;omega)]
 have HCL:Hid (∀k,cntO (S.R.take k)<=k):=fun k=>by
  unfold cntO
  exact Nat.le_trans (List.length_filter_le _ _) (by rw[List.length_take];omega)
 have HEN:Hid (cntO (S.R.take pl)=cntO S.R/\S.Q.length+cntO S.R=pl):=⟨by rw[<-hpl,List.take_length],by rw[<-hpl];exact d.set⟩
 have HSE:Hid (∀s:Nat,s<=65536->∀V,Calls Tryz.prog 12 #[.int .i64 (s:Int),.int .i64 (c.ls:Int)] V fun e w'=>e=.returned (.tuple #[.int .i64 (Fr.sizY (s:Int) c.ls:Nat),.int .i64 0])/\w'=V):=fun s hs V=>by
  have:=Fr.size_any (s:Int) (c.ls:Int) V
  have e:Fr.sizE (s:Int) (c.ls:Int)=0:=by
   have:=hin.2.2.2.2.2.2.2.1
   unfold Fr.sizE
   rw[if_neg (by omega),if_neg (by omega)]
  rwa [e] at this
 have HN:Hid _:=jIj
 have hplb:1<=pl/\pl<=65600:=by omega
 have hql:S.Q.length<=65600:=by have:=HEN.out.2;omega
 generalize S.Q.length=ql at *
 generalize c.ls=ls at *
 have B0:Hid (∀V j,Below x.heap.size x V->Below x.heap.size x (V.drewN j)):=fun V j hV=>Tr.bdr hV j
 clear hR htn hLm hnd hlt hPS hm0 hm1 HND hr hD hio hiq hndo htl d hin hfl hpl hwo h hc
 obtain ⟨x4,x8,x12,x13,x10⟩:=HRC.out x (Below.refl _ _)
 go_enter Tryz.func10,Tryz.ntmps10
 go_wp2_with fail
 go_loopg [4] m (fun gk iv wr=>∃k:Nat,gk=m-k/\k<=m/\iv=.int .i64 (k:Int)/\Below x.heap.size x wr)
 case atStart=>exact ⟨0,by omega,by omega,rfl,Below.refl _ _⟩
 case round =>
  clear x4 x8 x12 x13 x10
  obtain ⟨k,hgk,hkn,rfl,hbe⟩:=hrel
  obtain ⟨x4,x8,x12,x13,x10⟩:=HRC.out wr hbe
  have HBE:Hid (Below x.heap.size x wr):=hbe
  by_cases hk:k<m
  ·have hkI:(k:Int)<(m:Int):=by omega
   have w1:IntKind.i64.wrap ((k:Int)+1)=((k+1:Nat):Int):=by rw[IntKind.wrap_i64];omega
   have x10':=x10 (by omega)
   obtain ⟨i,wv,fv,bv,gs,gw,hi,hil,rfl,rfl,hcs,hcase⟩:=HSL.out k hk
   have HC:Hid _:=hcs
   obtain ⟨c0,c1,c2,c3,d3,f3⟩:=hcs wr hbe
   have hiI:¬(i:Int)<0:=by omega
   have hiI2:¬(pl:Int)<=(i:Int):=by omega
   have hd1:decide ((pl:Int)<=(i:Int))=false:=by simp;omega
   have hd2:decide (pl<=i)=false:=by simp;omega
   have HIN:Hid (∀j,j<k->∃i':Nat,(∀V,Below x.heap.size x V->V.cell? ⟨gs,j*4,none⟩=some (.int .i64 (i':Int)))/\((i':Int) == (i:Int))=false):=fun j hj=>by
    obtain ⟨i',wv',fv',bv',gs',gw',hi',_,e1,_,c0',_⟩:=HSL.out j (by omega)
    injection e1 with e1
    injection e1 with e1 _
    subst e1
    exact ⟨i',fun V hV=>(c0' V hV).1,HDI.out j k i' i hi' hi (by omega)⟩
   clear x10 hi hbe hcs
   go_wp2_with fail
   go_quiet (fail)
   go_wp2_with fail
   go_loopg [5] k (fun gk jv wx=>∃j:Nat,gk=k-j/\j<=k/\jv=.int .i64 (j:Int)/\Below x.heap.size x wx)
   case atStart=>exact ⟨0,by omega,by omega,rfl,B0.out _ _ HBE.out⟩
   case round =>
    clear x4 x8 x12 x13 x10' c0 c1 c2 c3 d3 f3
    obtain ⟨j,hgj,hjn,rfl,hbx⟩:=hrel
    by_cases hj:j<k
    ·have hjI:(j:Int)<(k:Int):=by omega
     have hjm:(j:Int)<(m:Int):=by omega
     have w2:IntKind.i64.wrap ((j:Int)+1)=((j+1:Nat):Int):=by rw[IntKind.wrap_i64];omega
     obtain ⟨i',c0',hne⟩:=HIN.out j hj
     have c0':=c0' _ hbx
     obtain ⟨c0,-⟩:=HC.out _ hbx
     have BX:Hid (∀i,Below x.heap.size x (wr.drewN i)):=fun i=>B0.out _ i hbx
     clear hbx
     go_wp2_with fail
     go_quiet (fail)
     go_wp2
     go_roundg (k-(j+1))
     case measure=>omega
     case rel=>exact ⟨j+1,rfl,by omega,rfl,BX.out _⟩
    ·obtain rfl:j=k:=by omega
     have hjI:¬(j:Int)<(j:Int):=by omega
     obtain ⟨c0,c1,c2,c3,d3,f3⟩:=HC.out _ hbx
     obtain ⟨x4,x8,x12,x13,x10⟩:=HRC.out _ hbx
     have x10':=x10 (by omega)
     have HBX:Hid _:=hbx
     clear x10 hbx
     rcases hcase with ⟨hf0,hbv⟩ | ⟨hf0,s,hs,hs6,hbv⟩
     ·have hf1:¬0<=fv:=by omega
      have hf2:decide (0<=fv)=false:=decide_eq_false hf1
      have hse:=HSE.out 0 (by omega)
      clear hf0 HIN
      subst hbv
      generalize ((Fr.sizY 0 (ls:Int):Nat):Int)=bb at *
      go_wp2_with fail
      refine (hse _).mono ?_
      rintro e wq ⟨rfl,hwq⟩
      subst wq
      go_wp2_with fail
      go_quiet ((go_at_call 14;exact Calls.quiet_of_same (HN.out _ _)))
      go_wp2
      go_roundg (m-(j+1))
      case measure=>omega
      case rel=>exact ⟨j+1,rfl,by omega,rfl,B0.out _ _ HBX.out⟩
     ·have hf1:decide (0<=fv)=true:=decide_eq_true hf0
      have hsz:=HSZ.out wr fv HBX.out
      rw[hs] at hsz
      have hse:=HSE.out s hs6
      clear HIN
      subst hbv
      generalize ((Fr.sizY (s:Int) (ls:Int):Nat):Int)=bb at *
      go_wp2_with fail
      refine hsz.mono ?_
      rintro e wq ⟨rfl,hwq⟩
      have hbq:=HBX.out.trans (hwq.mono HBX.out.size)
      clear c0 c1 c2 c3 d3 f3 x4 x8 x12 x13 x10' hwq hsz
      obtain ⟨c0,c1,c2,c3,d3,f3⟩:=HC.out _ hbq
      obtain ⟨x4,x8,x12,x13,x10⟩:=HRC.out _ hbq
      have x10':=x10 (by omega)
      have HBQ:Hid _:=hbq
      clear x10 hbq HBX
      go_wp2_with fail
      refine (hse _).mono ?_
      rintro e wq2 ⟨rfl,hwq⟩
      subst wq2
      have hs0:¬(s:Int)<0:=by omega
      go_wp2_with fail
      go_quiet ((go_at_call 14;exact Calls.quiet_of_same (HN.out _ _)))
      go_wp2
      go_roundg (m-(j+1))
      case measure=>omega
      case rel=>exact ⟨j+1,rfl,by omega,rfl,B0.out _ _ HBQ.out⟩
  ·obtain rfl:k=m:=by omega
   have hkI:¬(k:Int)<(k:Int):=by omega
   clear hbe x10 HSL HDI HSE
   go_wp2_with fail
   go_loopg [9,10] pl (fun gk hv iv wx=>∃j:Nat,gk=pl-j/\j<=pl/\iv=.int .i64 (j:Int)/\hv=.int .i64 (cntO (S.R.take j):Int)/\Below x.heap.size x wx)
   case atStart=>exact ⟨0,by omega,by omega,rfl,rfl,HBE.out⟩
   case round =>
    clear x4 x8 x12 x13
    obtain ⟨j,hgj,hjn,rfl,rfl,hbx⟩:=hrel
    obtain ⟨x4,x8,x12,x13,-⟩:=HRC.out _ hbx
    have hcl:=HCL.out j
    by_cases hj:j<pl
    ·have hjI:(j:Int)<(pl:Int):=by omega
     have w1:IntKind.i64.wrap ((j:Int)+1)=((j+1:Nat):Int):=by rw[IntKind.wrap_i64];omega
     obtain ⟨o,ho,hoc,ho1,hos⟩:=HOB.out j hj
     obtain ⟨r0,r1,r2,r3⟩:=hoc _ hbx
     obtain ⟨U,hU,hbU,kU⟩:=jA5 wr #[.string o.nm,.string o.tg,.int .i64 o.bk,.int .i64 o.ow] 60
     have hbeU:Below x.heap.size x U:=hbx.trans (hbU.mono hbx.size)
     have HUC:Hid (∀V,Below U.heap.size U V->V.cell? ⟨wr.heap.size,3,none⟩=some (.int .i64 o.ow)/\Below x.heap.size x V/\V.cell? ⟨r,12,none⟩=some (.slice (some ⟨gi,0,none⟩) pl ic)):=fun V hV=>by
      have kk:=(hV.block _ (jAv kU)).trans kU
      have hxV:=hbeU.trans (hV.mono hbeU.size)
      exact ⟨(jAj kk).trans rfl,hxV,(HRC.out V hxV).2.2.1⟩
     have HIN:Hid (∀i,i<j->∃po:Int,(∀V,Below x.heap.size x V->V.cell? ⟨gi,i*4+3,none⟩=some (.int .i64 po))/\(0<=o.ow->(po == o.ow)=false)):=fun i hi=>by
      obtain ⟨p,hp,hpc,_⟩:=HOB.out i (by omega)
      exact ⟨p.ow,fun V hV=>(hpc V hV).2.2.2,fun h0=>HOU.out i j p o hp ho hi h0⟩
     have hs:=HCN.out j o ho
     have u3:=(HUC.out U (Below.refl _ _)).1
     have y12:=(HUC.out U (Below.refl _ _)).2.2
     by_cases h0:0<=o.ow
     ·obtain ⟨s,hss⟩:=hos h0
      rw[if_pos h0] at hs
      have hsz:=HSZ.out U o.ow hbeU
      rw[hss] at hsz
      have HSS:Hid _:=hs
      generalize cntO (S.R.take j)=cj at *
      have w2:IntKind.i64.wrap ((cj:Int)+1)=((cj+1:Nat):Int):=by rw[IntKind.wrap_i64];omega
      have hd:decide (0<=o.ow)=true:=decide_eq_true h0
      have H0:Hid _:=h0
      obtain ⟨nm,tg,bk,ow⟩:=o
      dsimp only at *
      clear hs hss hbx hbU kU hbeU ho hoc ho1 hos
      go_wp2_with fail
      refine hsz.mono ?_
      rintro e wq ⟨rfl,hwq⟩
      have hs0:¬(s:Int)<0:=by omega
      have HQ:Hid _:=hwq
      clear hsz r0 r1 r2 r3 u3 y12 x4 x8 x12 x13 hU hwq
      go_wp2_with fail
      go_loopg [12] j (fun gk iv wx=>∃i:Nat,gk=j-i/\i<=j/\iv=.int .i64 (i:Int)/\Below U.heap.size U wx)
      case atStart=>exact ⟨0,by omega,by omega,rfl,HQ.out⟩
      case round =>
       obtain ⟨i,hgi,hin,rfl,hbi⟩:=hrel
       obtain ⟨v3,hbv,x12⟩:=HUC.out _ hbi
       by_cases hi:i<j
       ·have hiI:(i:Int)<(j:Int):=by omega
        have hiP:(i:Int)<(pl:Int):=by omega
        have w3:IntKind.i64.wrap ((i:Int)+1)=((i+1:Nat):Int):=by rw[IntKind.wrap_i64];omega
        obtain ⟨po,hpc,hpo⟩:=HIN.out i hi
        have p3:=hpc _ hbv
        have hne:=hpo H0.out
        have BX:Hid (∀i,Below U.heap.size U (wr.drewN i)):=fun i=>Tr.bdr hbi i
        clear hbi hbv hpc hpo
        go_wp2_with fail
        go_quiet (fail)
        go_wp2
        go_roundg (j-(i+1))
        case measure=>omega
        case rel=>exact ⟨i+1,rfl,by omega,rfl,BX.out _⟩
       ·obtain rfl:i=j:=by omega
        have hiI:¬(i:Int)<(i:Int):=by omega
        have HBV:Hid _:=hbv
        clear hbi hbv
        go_wp2
        go_roundg (pl-(i+1))
        case measure=>omega
        case rel=>exact ⟨i+1,rfl,by omega,rfl,by rw[HSS.out];rfl,HBV.out⟩
     ·rw[if_neg h0,Nat.add_zero] at hs
      have HSS:Hid _:=hs
      generalize cntO (S.R.take j)=cj at *
      have hd:decide (0<=o.ow)=false:=decide_eq_false h0
      obtain ⟨nm,tg,bk,ow⟩:=o
      dsimp only at *
      clear hs hbx hbU kU hbeU ho hoc ho1 hos
      go_wp2_with fail
      go_loopg [12] j (fun gk iv wx=>∃i:Nat,gk=j-i/\i<=j/\iv=.int .i64 (i:Int)/\Below U.heap.size U wx)
      case atStart=>exact ⟨0,by omega,by omega,rfl,Below.refl _ _⟩
      case round =>
       clear r0 r1 r2 r3 u3 y12 x4 x8 x12 x13 hU
       obtain ⟨i,hgi,hin,rfl,hbi⟩:=hrel
       obtain ⟨v3,hbv,x12⟩:=HUC.out _ hbi
       by_cases hi:i<j
       ·have hiI:(i:Int)<(j:Int):=by omega
        have w3:IntKind.i64.wrap ((i:Int)+1)=((i+1:Nat):Int):=by rw[IntKind.wrap_i64];omega
        have BX:Hid (∀i,Below U.heap.size U (wr.drewN i)):=fun i=>Tr.bdr hbi i
        clear hbi hbv
        go_wp2_with fail
        go_quiet (fail)
        go_wp2
        go_roundg (j-(i+1))
        case measure=>omega
        case rel=>exact ⟨i+1,rfl,by omega,rfl,BX.out _⟩
       ·obtain rfl:i=j:=by omega
        have hiI:¬(i:Int)<(i:Int):=by omega
        have HBV:Hid _:=hbv
        clear hbi hbv
        go_wp2
        go_roundg (pl-(i+1))
        case measure=>omega
        case rel=>exact ⟨i+1,rfl,by omega,rfl,by rw[HSS.out];rfl,HBV.out⟩
    ·obtain rfl:j=pl:=by omega
     have hjI:¬(j:Int)<(j:Int):=by omega
     have hfi:=HFI.out wr hbx
     obtain ⟨hen1,hen2⟩:=HEN.out
     rw[hen1] at hcl ⊢
     generalize cntO S.R=cn at *
     have w2:IntKind.i64.wrap ((j:Int)-(cn:Int))=(ql:Int):=by rw[IntKind.wrap_i64];omega
     have HBX:Hid _:=hbx
     have HX:Hid (∀V,Below x.heap.size x V->V.cell? ⟨r,12,none⟩=some (.slice (some ⟨gi,0,none⟩) j ic)/\V.cell? ⟨r,13,none⟩=some (.slice qa ql qc)):=fun V hV=>by
      have:=HRC.out V hV
      exact ⟨this.2.2.1,this.2.2.2.1⟩
     have HYB:Hid (∀j,Below x.heap.size x (wr.drewN j)):=fun j=>B0.out _ _ hbx
     clear hbx hen1 hen2 HEN hfi
     go_wp2_with fail
     clear x4 x8 x12 x13
     go_region_held_law (fun V=>V.cell? ⟨r,12,none⟩=some (.slice (some ⟨gi,0,none⟩) j ic)/\V.cell? ⟨r,13,none⟩=some (.slice qa ql qc)) (first | exact HX.out _ (HYB.out _) | exact HX.out _ hbz | go_keep) (first
      | (go_at_call 29;refine (HFI.out _ (HYB.out 1)).mono ?_;rintro e z ⟨rfl,hz⟩;have hbz:Below x.heap.size x z:=(HYB.out 1).trans (hz.mono (HYB.out 1).size)))
     all_goals
      have HBZ:Hid _:=hbz
      go_wp2
      go_ret
      exact ⟨by first | rfl | simp,HBZ.out⟩
theorem Rs.rz {w x:World}{c:Ix.Cn}{r:Nat}(h:Rs w x c r):Rz w x c r:=by
 obtain ⟨T,S,P,L,m,sl,st,wo,wq,h1,_⟩:=h.ex
 exact ⟨_,_,_,_,_,_,h1⟩
theorem does_s {w x:World}{c:Ix.Cn}(hc:c.May){r:Nat}(h:Rz w x c r)(a:Option Addr)(n oc:Nat)(O:List Tr.Op)(hO:Tr.IsO x a n O)(hn:n*72<=140737488355328):Calls Tryz.prog 8 #[.pointer (some ⟨r,0,none⟩),.slice a n oc] x fun e y=>e=.returned (.bool true)/\Hid (Rs w y c r):=by
 obtain ⟨T,P,sl,st,wo,wq,h1⟩:=h
 by_cases hle:n<=c.sl
 ·refine (does_ok hc h1 a n oc O hO hn hle).mono ?_
  rintro e y ⟨rfl,HX⟩
  obtain ⟨_,⟨dp,d⟩,sl',st',wo',wq',h2,h3⟩:=HX.out
  have hOl:O.length<=c.sl:=by rw[hO.hl];exact hle
  obtain ⟨b,hbl⟩:=bt_end d O hOl
  have he:=(end_eq d O hOl).2
  have h64:=hc.1.2.1
  have h01:=hc.1.1
  refine ⟨rfl,_,_,P,_,c.sl,_,_,_,_,h2,hbl,h64,b.nd,fun i hi=>?_,?_,fun e=>(by omega),fun _=>⟨h3.sl,h3.wo⟩⟩
  ·rw[he]
   exact b.lt i hi
  ·rw[he]
   exact b.len
 ·refine (does_no hc h1 a n oc O hO hn hle).mono ?_
  rintro e y ⟨rfl,HX⟩
  exact ⟨rfl,T,P,P,[],0,_,_,_,_,HX.out.2,rfl,by omega,List.nodup_nil,fun i hi=>(by cases hi),rfl,fun _=>rfl,fun e=>absurd rfl e⟩
theorem planShape_walk (w:World)(hT:Ix.RT w)(c:Ix.Cf)(a:Option Addr)(n bc:Nat)(B:List (List Tr.Op))(hB:IsB w a n B)(hn:n<=9223372036854775807):Calls Tryz.prog 4 #[Ix.cfV c,.slice a n bc] w fun e w'=>e=.returned (.bool true)/\Below w.heap.size w w':=by
 by_cases hc:c.May
 ·obtain ⟨cn,hcn,rfl⟩:=hc.cn
  obtain ⟨W,hW,hb,k0⟩:=jA5 w (cfA cn) 23
  have hst:=start_yes W (hT.next hb) cn hcn
  rw[show Ix.cfV cn.cf=.agg (cfA cn) from rfl] at hst ⊢
  obtain ⟨x0,x1,x2,x3,x4,x5⟩:=Tr.jB4 k0
  have HBW:Hid (∀V,Below W.heap.size W V->Below w.heap.size w V):=fun V hV=>hb.trans (hV.mono hb.size)
  have HIW:Hid (∀k,k<n->∃O pb po oa on oc,a=some ⟨pb,po,none⟩/\on*72<=140737488355328/\∀V,Below W.heap.size W V->V.cell? ⟨pb,po+k,none⟩=some (.slice oa on oc)/\Tr.IsO V oa on O):=fun k hk=>by
   obtain ⟨O,hO⟩:∃O,B[k]?=some O:=⟨_,List.getElem?_eq_getElem (by rw[hB.hl];exact hk)⟩
   obtain ⟨pb,po,e,hp,oa,on,oc,hc,hI,hn⟩:=hB.at_ k O hO
   exact ⟨O,pb,po,oa,on,oc,e,hn,fun V hV=>⟨((hb.trans (hV.mono hb.size)).cell hp).trans hc,hI.below (hb.trans (hV.mono hb.size))⟩⟩
  have HDY:Hid (∀x r a n oc O,Rz W x cn r->Tr.IsO x a n O->n*72<=140737488355328->Calls Tryz.prog 8 #[.pointer (some ⟨r,0,none⟩),.slice a n oc] x fun e y=>e=.returned (.bool true)/\Hid (Rs W y cn r)):=fun x r a n oc O h1 h2 h3=>does_s hcn h1 a n oc O h2 h3
  have HQ:Hid (∀x r,Rs W x cn r->Calls Tryz.prog 10 #[.pointer (some ⟨r,0,none⟩)] x fun e z=>e=.returned (.bool true)/\Below x.heap.size x z):=fun x r h1=>shape_any hcn h1
  unfold cfA at *
  clear hcn hc hB hb k0 hT
  go_enter Tryz.func4,Tryz.ntmps4
  go_wp2_with fail
  refine hst.mono ?_
  rintro e x0w ⟨r,rfl,HR⟩
  have HRZ:Hid (Rz W x0w cn r):=⟨_,_,_,_,_,_,HR.out⟩
  clear x0 x1 x2 x3 x4 x5 hst HR
  go_wp2_with fail
  go_loopg [7] n (fun gk iv wr=>∃k:Nat,gk=n-k/\k<=n/\iv=.int .i64 (k:Int)/\Hid (Rz W wr cn r))
  case atStart=>exact ⟨0,by omega,by omega,rfl,HRZ⟩
  case round =>
   clear HRZ
   obtain ⟨k,hgk,hkn,rfl,HRZ⟩:=hrel
   by_cases hk:k<n
   ·have hkI:(k:Int)<(n:Int):=by omega
    have w1:IntKind.i64.wrap ((k:Int)+1)=((k+1:Nat):Int):=by rw[IntKind.wrap_i64];omega
    obtain ⟨O,pb,po,oa,on,oc,rfl,hon,hib⟩:=HIW.out k hk
    obtain ⟨cb,hI⟩:=hib wr HRZ.out.be
    have hdy:=HDY.out wr r oa on oc O HRZ.out hI hon
    clear hI hon hib
    go_wp2_with fail
    refine hdy.mono ?_
    rintro e y1 ⟨rfl,HY⟩
    have hq:=HQ.out y1 r HY.out
    clear cb hdy HRZ
    go_wp2_with fail
    refine hq.mono ?_
    rintro e z ⟨rfl,hz⟩
    clear hq
    go_wp2
    go_roundg (n-(k+1))
    case measure=>omega
    case rel=>exact ⟨k+1,rfl,by omega,rfl,HY.out.rz.below hz⟩
   ·obtain rfl:k=n:=by omega
    have hkI:¬(k:Int)<(k:Int):=by omega
    have hdy:=HDY.out wr r none 0 0 [] HRZ.out (isO_nil wr) (by omega)
    go_wp2_with fail
    refine hdy.mono ?_
    rintro e y1 ⟨rfl,HY⟩
    have hq:=HQ.out y1 r HY.out
    clear hdy
    go_wp2_with fail
    refine hq.mono ?_
    rintro e z ⟨rfl,hz⟩
    go_wp2
    go_ret
    exact ⟨rfl,HBW.out _ (HY.out.rz.be.trans (hz.mono HY.out.rz.be.size))⟩
 ·obtain ⟨c0,c1,c2,c3,c4,c5⟩:=c
  obtain ⟨W,hW,hb,k0⟩:=jA5 w #[.int .i64 c0,.int .i64 c1,.int .i64 c2,.int .i64 c3,.int .i64 c4,.int .i64 c5] 23
  have hst:=start_no W (hT.next hb) ⟨c0,c1,c2,c3,c4,c5⟩ hc
  rw[show Ix.cfV ⟨c0,c1,c2,c3,c4,c5⟩=.agg #[.int .i64 c0,.int .i64 c1,.int .i64 c2,.int .i64 c3,.int .i64 c4,.int .i64 c5] from rfl] at hst ⊢
  obtain ⟨x0,x1,x2,x3,x4,x5⟩:=Tr.jB4 k0
  have HB:Hid (Below w.heap.size w W):=hb
  clear hc hT hB k0 hb
  go_enter Tryz.func4,Tryz.ntmps4
  go_wp2_with fail
  refine hst.mono ?_
  rintro e y ⟨rfl,hy⟩
  go_wp2
  go_ret
  exact ⟨rfl,HB.out.trans (hy.mono HB.out.size)⟩
end Go.Proofs.YtfnklhajafmooaaGreatDoor.Po.Pn
