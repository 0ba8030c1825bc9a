import Derived.Test.YtfnklhajafmooaaGreatDoorPqLd
set_option maxHeartbeats 4000000
set_option maxRecDepth 40000
namespace Go.Proofs.YtfnklhajafmooaaGreatDoor.Po.Pn
open Go.RowKit Go.Lib Go.Deep Go.Proofs.Tryz
theorem poolNew_ok (w:World)(f s:Nat)(hf:1<=f/\f<=65536)(hs:1<=s/\s<=64):Calls prog 24 #[.int .i64 (f:Int),.int .i64 (s:Int)] w fun e w'=>∃pb q,e=.returned (.tuple #[.pointer (some ⟨pb,0,none⟩),.int .i64 0])/\Hid (∃F,Ok w' pb q F 0 (newP f s))/\Below w.heap.size w w':=by
 have h:=new_any w (f:Int) (s:Int)
 have hr:jL7 (f:Int) (s:Int)=true:=QQ (by omega)
 refine h.mono ?_
 intro e w' he
 rw[if_pos hr] at he
 obtain ⟨pb,q,F,rfl,hok,_,_,hb⟩:=he
 rw[Int.toNat_natCast,Int.toNat_natCast] at hok
 exact ⟨pb,q,rfl,⟨F,hok⟩,hb⟩
theorem dk_new (c:Ix.Cn)(h:c.In):Dk c (Tr.newT c.fl c.dr c.mf) (fun _=>0) (newP c.fl c.sl):=by
 obtain ⟨i1,i2,i3,i4,_⟩:=h
 have hg:=good_new (f:=c.fl) (s:=c.sl) ⟨i3,i4⟩ ⟨i1,i2⟩
 refine ⟨Tr.newT_inv _ _ _,rfl,rfl,rfl,hg,rfl,by simp[newP],(jJq hg).2 fun i o hi ho=>?_,fun x=>?_⟩
 ·have:=jAy hi
  simp[newP] at this ⊢
  omega
 ·constructor
  ·rintro ⟨r,hr⟩
   simp[Tr.newT] at hr
  ·intro hh
   obtain ⟨i,o,hi,ho⟩:=jGv.1 hh
   simp only[newP,Qc] at hi
   split at hi
   ·have:=QW hi
    subst this
    simp[dOb] at ho
   ·cases hi
theorem start_no (w:World)(hT:Ix.RT w)(c:Ix.Cf)(hc:¬c.May):Calls prog 7 #[Ix.cfV c] w fun e w'=>e=.returned (.tuple #[.pointer none,.bool true])/\Below w.heap.size w w':=by
 obtain ⟨c0,c1,c2,c3,c4,c5⟩:=c
 obtain ⟨W,hW,hb,k0⟩:=jA4 w #[.int .i64 c0,.int .i64 c1,.int .i64 c2,.int .i64 c3,.int .i64 c4,.int .i64 c5] 23
 have hch:=Ix.rcheck_any ⟨c0,c1,c2,c3,c4,c5⟩ W
 have hE:Ix.chkE ⟨c0,c1,c2,c3,c4,c5⟩=140:=by unfold Ix.chkE;rw[if_neg hc]
 rw[hE] at hch
 have HMK:Hid (∀V b pb,Below W.heap.size W V->Calls prog 25 #[Ix.cfV ⟨c0,c1,c2,c3,c4,c5⟩,.pointer (some ⟨b,0,none⟩),.pointer (some ⟨pb,0,none⟩),.slice none 0 0] V fun e w'=>e=.returned (.tuple #[.agg #[.slice none 0 0,.slice none 0 0],.pointer none,.pointer none,.int .i64 140])/\Below V.heap.size V w'):=fun V b pb hV=>make_cfg V ((hT.next hb).next hV) _ hc b pb none 0 0
 rw[show Ix.cfV ⟨c0,c1,c2,c3,c4,c5⟩=.agg #[.int .i64 c0,.int .i64 c1,.int .i64 c2,.int .i64 c3,.int .i64 c4,.int .i64 c5] from rfl] at hch HMK ⊢
 have HC:Hid (∀V,Below W.heap.size W V->V.cell? ⟨w.heap.size,0,none⟩=some (.int .i64 c0)/\V.cell? ⟨w.heap.size,1,none⟩=some (.int .i64 c1)/\V.cell? ⟨w.heap.size,2,none⟩=some (.int .i64 c2)/\V.cell? ⟨w.heap.size,3,none⟩=some (.int .i64 c3)/\V.cell? ⟨w.heap.size,4,none⟩=some (.int .i64 c4)/\V.cell? ⟨w.heap.size,5,none⟩=some (.int .i64 c5)):=fun V hV=>Tr.jB4 ((hV.block _ (jAv k0)).trans k0)
 have HB:Hid (Below w.heap.size w W):=hb
 obtain ⟨x0,x1,x2,x3,x4,x5⟩:=HC.out W (Qq _ _)
 have HTN:Hid (∀V:World,_):=fun V=>Tr.new_any V 1 0 0 (by omega) (by omega) (by omega) (by omega)
 have HPN:Hid (∀V:World,_):=fun V=>poolNew_ok V 1 1 (by omega) (by omega)
 have HN:Hid _:=jIj
 clear hE hb k0 hc hT
 go_enter func7,ntmps7
 go_wp2_with fail
 refine hch.mono ?_
 rintro e w1 ⟨rfl,hb1⟩
 have htn:=HTN.out w1
 clear x0 x1 x2 x3 x4 x5 hch
 go_wp2_with fail
 refine htn.mono ?_
 rintro e w2 ⟨b,q,rfl,-,hb2⟩
 have hpn:=HPN.out w2
 clear htn
 go_wp2_with fail
 refine hpn.mono ?_
 rintro e w3 ⟨pb,pq,rfl,-,hb3⟩
 have hbW2:=hb1.trans (hb2.mono hb1.size)
 have hbW3:=hbW2.trans (hb3.mono hbW2.size)
 have hmk:=HMK.out w3 b pb hbW3
 obtain ⟨x0,x1,x2,x3,x4,x5⟩:=HC.out w3 hbW3
 have HB3:Hid (Below W.heap.size W w3):=hbW3
 clear hpn hb1 hb2 hb3 hbW2 hbW3
 go_wp2_with fail
 refine hmk.mono ?_
 rintro e w4 ⟨rfl,hb4⟩
 have HB4:Hid (Below W.heap.size W w4):=HB3.out.trans (hb4.mono HB3.out.size)
 clear x0 x1 x2 x3 x4 x5 hmk hb4
 obtain ⟨U,hU,hbU,-⟩:=jA4 w4 #[.slice none 0 0,.slice none 0 0] 40
 have HU:Hid _:=hU
 have HBU:Hid (Below w.heap.size w U):=by
  have h1:=HB.out.trans (HB4.out.mono HB.out.size)
  exact h1.trans (hbU.mono h1.size)
 have hn:=HN.out 140 U
 clear hU hbU
 go_upto_region 5 with fail
 rw[HU.out]
 go_wp2_with fail
 refine hn.mono ?_
 rintro e w9 ⟨rfl,hw9⟩
 subst w9
 go_wp2
 go_ret2
 exact ⟨rfl,HBU.out⟩
theorem start_yes (w:World)(hT:Ix.RT w)(c:Ix.Cn)(hc:c.May):Calls prog 7 #[Ix.cfV c.cf] w fun e w'=>∃r,e=.returned (.tuple #[.pointer (some ⟨r,0,none⟩),.bool true])/\Hid (Rn w w' c r (Tr.newT c.fl c.dr c.mf) (newP c.fl c.sl) (.slice none 0 0) (.slice none 0 0) (.slice none 0 0) (.slice none 0 0)):=by
 obtain ⟨i1,i2,i3,i4,i5,i6,i7,i8,i9,i10⟩:=hc.1
 obtain ⟨W,hW,hb,k0⟩:=jA4 w (cfA c) 23
 have hch:=Ix.rcheck_any c.cf W
 have hE:Ix.chkE c.cf=0:=by unfold Ix.chkE;rw[if_pos hc.cf]
 rw[hE] at hch
 rw[show Ix.cfV c.cf=.agg (cfA c) from rfl] at hch ⊢
 have HC:Hid (∀V,Below W.heap.size W V->V.cell? ⟨w.heap.size,0,none⟩=some (.int .i64 (c.sl:Int))/\V.cell? ⟨w.heap.size,1,none⟩=some (.int .i64 (c.fl:Int))/\V.cell? ⟨w.heap.size,2,none⟩=some (.int .i64 (c.dr:Int))/\V.cell? ⟨w.heap.size,3,none⟩=some (.int .i64 (c.mf:Int))/\V.cell? ⟨w.heap.size,4,none⟩=some (.int .i64 (c.ls:Int))/\V.cell? ⟨w.heap.size,5,none⟩=some (.int .i64 (c.pg:Int))):=fun V hV=>Tr.jB4 ((hV.block _ (jAv k0)).trans k0)
 have HB:Hid (Below w.heap.size w W):=hb
 obtain ⟨x0,x1,x2,x3,x4,x5⟩:=HC.out W (Qq _ _)
 have HTN:Hid (∀V:World,Calls prog 23 #[.int .i64 (c.fl:Int),.int .i64 (c.dr:Int),.int .i64 (c.mf:Int)] V _):=fun V=>Tr.new_any V c.fl c.dr c.mf i3 i4 i5 i6
 have HPN:Hid (∀V:World,Calls prog 24 #[.int .i64 (c.fl:Int),.int .i64 (c.sl:Int)] V _):=fun V=>poolNew_ok V c.fl c.sl ⟨i3,i4⟩ ⟨i1,i2⟩
 have HN:Hid _:=jIj
 obtain ⟨T,hT'⟩:∃T,Tr.newT c.fl c.dr c.mf=T:=⟨_,rfl⟩
 obtain ⟨P,hP⟩:∃P,newP c.fl c.sl=P:=⟨_,rfl⟩
 have hdk:=dk_new c hc.1
 rw[hT',hP] at hdk
 rw[hT'] at HTN
 rw[hP] at HPN
 have HDW:Hid (∀w2 w3 Y b q pb pq B,Tr.Tre w2 B b q 0 T->(∃F,Ok w3 pb pq F 0 P)->Below w2.heap.size w2 Y->Below w3.heap.size w3 Y->Dw Y c b q 0 pb pq 0 T P):=fun w2 w3 Y b q pb pq B h1 ⟨PF,h2⟩ h3 h4=>by
  obtain ⟨g1,_,F,g2,_⟩:=h1
  exact ⟨⟨_,hdk⟩,F,PF,(h3.block _ (jAv g1)).trans g1,g2.below h3,⟨h2.top.below h4,h2.lay.below h4,h2.good,h2.nn⟩⟩
 have HSP:Hid (∀Y b q pb pq,Dw Y c b q 0 pb pq 0 T P->Calls prog 26 #[.pointer (some ⟨pb,0,none⟩)] Y fun e w'=>∃oa oc qa qc,e=.returned (.agg #[.slice oa P.R.length oc,.slice qa P.Q.length qc])/\Hid (w'.ownsRow Y.heap.size 60 4 (.slice oa P.R.length oc) P.R.length (obsC P.R)/\w'.ownsRow Y.heap.size 3 1 (.slice qa P.Q.length qc) P.Q.length (nsC P.Q))/\Below Y.heap.size Y w'):=fun Y b q pb pq hD=>by
  obtain ⟨F,PF,g1,g2,g3⟩:=hD.ex
  refine (jH9 Y pb pq PF _ P g3).mono ?_
  rintro e w' ⟨ov,qv,rfl,h1,h2,hb'⟩
  obtain ⟨oa,oc,rfl⟩:=jBy h1
  obtain ⟨qa,qc,rfl⟩:=jBy h2
  exact ⟨oa,oc,qa,qc,rfl,⟨h1,h2⟩,hb'⟩
 have HST:Hid (∀Y b q pb pq,Dw Y c b q 0 pb pq 0 T P->Calls prog 21 #[.pointer (some ⟨b,0,none⟩)] Y fun e w'=>∃a c',e=.returned (.agg #[.int .i64 (c.fl:Int),.int .i64 (c.dr:Int),.slice a (Tr.told T).length c'])/\Hid (w'.ownsRow Y.heap.size 91 5 (.slice a (Tr.told T).length c') (Tr.told T).length (Tr.ndsc (Tr.told T))/\(Tr.told T).length<=1000000)/\Below Y.heap.size Y w'):=fun Y b q pb pq hD=>by
  obtain ⟨F,PF,g1,g2,g3⟩:=hD.ex
  refine (Tr.jKz Y 0 b q _ T ⟨g1,Kj _,F,g2,fun _ _=>Kj _⟩ (by rw[hdk.dr];omega)).mono ?_
  rintro e w' ⟨a,c',rfl,HO,hb',hl⟩
  refine ⟨a,c',?_,⟨HO.out,hl⟩,hb'⟩
  rw[hdk.fr,show ((T.dr:Int)-1)=(c.dr:Int) by rw[hdk.dr];omega]
 have HRT:Hid (Ix.RT w):=hT
 rw[hT',hP]
 generalize hpl:P.R.length=pl at *
 generalize hql:P.Q.length=ql at *
 generalize htl:(Tr.told T).length=tl at *
 have HLS:Hid (P.R.length=pl/\P.Q.length=ql/\(Tr.told T).length=tl):=⟨hpl,hql,htl⟩
 unfold cfA at *
 clear hE hb k0 hc hT hT' hP hdk hpl hql htl
 go_enter func7,ntmps7
 go_wp2_with fail
 refine hch.mono ?_
 rintro e w1 ⟨rfl,hb1⟩
 have htn:=HTN.out w1
 clear x0 x1 x2 x3 x4 x5 hch
 obtain ⟨x0,x1,x2,x3,x4,x5⟩:=HC.out w1 hb1
 go_wp2_with fail
 refine htn.mono ?_
 rintro e w2 ⟨b,q,rfl,HT2,hb2⟩
 have hpn:=HPN.out w2
 have hbW2:=hb1.trans (hb2.mono hb1.size)
 clear htn x0 x1 x2 x3 x4 x5
 obtain ⟨x0,x1,x2,x3,x4,x5⟩:=HC.out w2 hbW2
 go_wp2_with fail
 refine hpn.mono ?_
 rintro e w3 ⟨pb,pq,rfl,HP3,hb3⟩
 have hbW3:=hbW2.trans (hb3.mono hbW2.size)
 have HB3:Hid (Below w2.heap.size w2 w3/\Below W.heap.size W w3):=⟨hb3,hbW3⟩
 clear hpn x0 x1 x2 x3 x4 x5
 obtain ⟨x0,x1,x2,x3,x4,x5⟩:=HC.out w3 hbW3
 have hn:=HN.out 0 w3
 have HNN:Hid _:=hn
 clear hb1 hb2 hb3 hbW2 hbW3
 go_wp2_with fail
 refine hn.mono ?_
 rintro e w9 ⟨rfl,hw9⟩
 subst w9
 go_wp2_with fail
 refine hn.mono ?_
 rintro e w9 ⟨rfl,hw9⟩
 subst w9
 obtain ⟨U,hU,hbU,kU⟩:=jA4 w3 #[.int .i64 (c.sl:Int),.int .i64 (c.fl:Int),.int .i64 (c.dr:Int),.int .i64 (c.mf:Int),.int .i64 (c.ls:Int),.int .i64 (c.pg:Int),.pointer (some ⟨b,0,none⟩),.pointer (some ⟨pb,0,none⟩),.slice none 0 0,.slice none 0 0,.slice none 0 0,.slice none 0 0,.slice none 0 0,.slice none 0 0,.int .i64 0,.int .i64 0,.slice none 0 0] 51
 have HU:Hid _:=hU
 have HKU:Hid _:=kU
 have HBU:Hid _:=hbU
 clear hU kU hbU hn
 go_upto_region 11 with fail
 rw[HU.out]
 have hd:=HDW.out w2 w3 U b q pb pq _ HT2.out HP3.out (HB3.out.1.trans (HBU.out.mono HB3.out.1.size)) HBU.out
 have hsp:=HSP.out U b q pb pq hd
 have HD:Hid _:=hd
 have hge:w.heap.size<=w3.heap.size:=by have:=HB.out.size;have:=HB3.out.2.size;omega
 have HGE:Hid (w.heap.size<=w3.heap.size):=hge
 have HBW:Hid (Below w.heap.size w w3):=HB.out.trans (HB3.out.2.mono HB.out.size)
 clear hd hge x0 x1 x2 x3 x4 x5 HU HSP HDW HTN HPN HC
 generalize hrr:w3.heap.size=r at *
 go_wp2_with fail
 refine hsp.mono ?_
 rintro e Y2 ⟨oa,oc,qa,qc,rfl,HO2,hb2⟩
 have kr2:=(hb2.block _ (jAv HKU.out)).trans HKU.out
 have r12:Y2.cell? ⟨r,12,none⟩=some (.slice none 0 0):=(jAj kr2).trans rfl
 have r13:Y2.cell? ⟨r,13,none⟩=some (.slice none 0 0):=(jAj kr2).trans rfl
 have f12:Y2.frozen? ⟨r,12,none⟩=false:=jAq kr2
 have f13:Y2.frozen? ⟨r,13,none⟩=false:=jAq kr2
 have HR2:Hid _:=kr2
 have HB2:Hid _:=hb2
 clear kr2 hb2 hsp
 go_upto_region 12 with fail
 refine jBj (R:=fun V=>Code.wp _ _ _ _ V) (Q:=fun Y=>Ky r Y2 Y/\Y.heap[r]?=some (.cells #[.int .i64 (c.sl:Int),.int .i64 (c.fl:Int),.int .i64 (c.dr:Int),.int .i64 (c.mf:Int),.int .i64 (c.ls:Int),.int .i64 (c.pg:Int),.pointer (some ⟨b,0,none⟩),.pointer (some ⟨pb,0,none⟩),.slice none 0 0,.slice none 0 0,.slice none 0 0,.slice none 0 0,.slice oa pl oc,.slice qa ql qc,.int .i64 0,.int .i64 0,.slice none 0 0] 51 (0,0))) _ ⟨((Ky.of (Qq _ _)).set 12 _).set 13 _,rset (rset HR2.out)⟩ ?_
 rintro Y3 ⟨hK3,k3⟩
 have hd3:=hK3.dw HR2.out (HD.out.below HB2.out)
 have hst:=HST.out Y3 b q pb pq hd3
 have HD3:Hid _:=hd3
 have HR3:Hid _:=k3
 have HK3:Hid (Ky r Y2 Y3):=hK3
 clear hd3 hK3 k3 r12 r13 f12 f13 HST
 go_wp2_with fail
 refine hst.mono ?_
 rintro e Y4 ⟨na,nc,rfl,HO4,hb4⟩
 have kr4:=(hb4.block _ (jAv HR3.out)).trans HR3.out
 have r14:Y4.cell? ⟨r,14,none⟩=some (.int .i64 0):=(jAj kr4).trans rfl
 have r15:Y4.cell? ⟨r,15,none⟩=some (.int .i64 0):=(jAj kr4).trans rfl
 have r16:Y4.cell? ⟨r,16,none⟩=some (.slice none 0 0):=(jAj kr4).trans rfl
 have f14:Y4.frozen? ⟨r,14,none⟩=false:=jAq kr4
 have f15:Y4.frozen? ⟨r,15,none⟩=false:=jAq kr4
 have f16:Y4.frozen? ⟨r,16,none⟩=false:=jAq kr4
 have HR4:Hid _:=kr4
 have HB4:Hid _:=hb4
 clear kr4 hb4 hst
 go_upto_region 13 with fail
 refine jBj (R:=fun V=>Code.wp _ _ _ _ V) (Q:=fun Y=>Ky r Y4 Y/\Y.heap[r]?=some (.cells (rnA c b pb (.slice none 0 0) (.slice none 0 0) (.slice none 0 0) (.slice none 0 0) (.slice oa pl oc) (.slice qa ql qc) (.slice na tl nc)) 51 (0,0))) _ ⟨(((Ky.of (Qq _ _)).set 14 _).set 15 _).set 16 _,rset (rset (rset HR4.out))⟩ ?_
 rintro Y5 ⟨hK5,k5⟩
 have HK5:Hid _:=hK5
 have HR5:Hid _:=k5
 clear hK5 k5 r14 r15 r16 f14 f15 f16
 go_wp2
 go_ret2
 obtain ⟨e1,e2,e3⟩:=HLS.out
 have hK25:Ky r Y2 Y5:=(HK3.out.trans (Ky.of HB4.out)).trans HK5.out
 have hKw:Ky r w3 Y5:=(Ky.of (by rw[hrr];exact HBU.out.trans (HB2.out.mono (by have:=HBU.out.size;omega)))).trans hK25
 have hbY:=hKw.base HBW.out HGE.out
 have s1:=HBU.out.size
 have s2:=HGE.out
 have s3:=HB2.out.size
 have s4:=HK3.out.size
 refine ⟨r,rfl,⟨b,q,0,pb,pq,0,_,_,_,HR5.out,HK5.out.dw HR4.out (HD3.out.below HB4.out),?_,?_,?_,?_⟩,HGE.out,hbY,HRT.out⟩
 ·rw[e1]
  exact jB1 (hK25.row HR2.out HO2.out.1 (by decide)) (by omega)
 ·rw[e2]
  exact jB1 (hK25.row HR2.out HO2.out.2 (by decide)) (by omega)
 ·rw[e3]
  exact jB1 (HK5.out.row HR4.out HO4.out.1 (by decide)) (by omega)
 ·rw[e3]
  exact HO4.out.2
theorem sl_cells {w:World}{B g cap n:Nat}{l:List Sl}(h:w.ownsRow B 53 4 (.slice (some ⟨g,0,none⟩) n cap) n (slsC l))(hn:l.length=n){i:Nat}{x:Sl}(hi:l[i]?=some x):w.cell? ⟨g,i*4,none⟩=some (.int .i64 x.ob)/\w.cell? ⟨g,i*4+1,none⟩=some (.int .i64 x.was)/\w.cell? ⟨g,i*4+2,none⟩=some (.int .i64 x.file)/\w.cell? ⟨g,i*4+3,none⟩=some (.int .i64 x.bk):=by
 have hl:=jAy hi
 have c:=fun j (hj:j<4)=>(h.cellAt (i*4+j) (by omega)).trans (jDz slC 4 jK6 l i x hi j hj)
 exact ⟨c 0 (by omega),c 1 (by omega),c 2 (by omega),c 3 (by omega)⟩
structure IsB (w:World)(a:Option Addr)(len:Nat)(L:List (List Tr.Op)):Prop where
 hl:L.length=len
 at_:∀(i:Nat) O,L[i]?=some O->∃pb po,a=some ⟨pb,po,none⟩/\pb<w.heap.size/\∃oa on oc,w.cell? ⟨pb,po+i,none⟩=some (.slice oa on oc)/\Tr.IsO w oa on O/\on*72<=140737488355328
theorem Rn.below {w x y:World}{c:Ix.Cn}{r:Nat}{T:Tr.Ts}{P:Ps}{sl st wo wq:Value}(h:Rn w x c r T P sl st wo wq)(hb:Below x.heap.size x y):Rn w y c r T P sl st wo wq:=by
 obtain ⟨b,q,nn,pb,pq,pn,io,iq,nd,h1,h2,h3,h4,h5,h6⟩:=h.ex
 exact ⟨⟨b,q,nn,pb,pq,pn,io,iq,nd,(hb.block _ (jAv h1)).trans h1,h2.below hb,jA7 h3 hb,jA7 h4 hb,jA7 h5 hb,h6⟩,h.rb,h.be.trans (hb.mono h.be.size),h.rt⟩
end Go.Proofs.YtfnklhajafmooaaGreatDoor.Po.Pn
namespace Go.Proofs.YtfnklhajafmooaaGreatDoor.Po.Pn
open Go.ChangeShapes Go.WideShapes Go.ChangeAt Go.RowKit Go.Deep Go.Proofs.Tryz
theorem cellsBt:prog.cellsOf 31=1:=by kernel_rfl
theorem cellsOps:prog.cellsOf 29=1:=by kernel_rfl
theorem bt_of {H:Type}{enc:TypeId × Value->H}{W:World}{cs:List Value}{y:DataW H × List MemPlace}{fuel:Nat}(hl:cs.length=1)(h2:DataW.trod enc prog W 0 (fun _=>true) true fuel 31 cs=some y):∃oa on oc,cs=[.slice oa on oc]/\∃O,Tr.IsO W oa on O/\(on=0\/∃m,on<=m/\m*72∈y.1.weights prog 31):=by
 obtain ⟨xs,k,hk,hxy,_,hxl,hfl⟩:=DataW.trod_struct underlying31 h2
 match xs,hxl,cs,hl with
 | [y0],_,[v0],_ =>
   have g0:=hfl 0 _ rfl
   simp[cellsOps] at g0
   have hv:∃oa on oc,v0=.slice oa on oc:=by
    rcases open_slice underlying29 g0 with ⟨hcs,_⟩ | ⟨x,len',cap',m,n,D,Pl,hcs,_⟩
    ·exact ⟨_,_,_,by simpa using hcs⟩
    ·exact ⟨_,_,_,by simpa using hcs⟩
   obtain ⟨oa,on,oc,rfl⟩:=hv
   obtain ⟨O,hO,hw⟩:=Tr.ops_of (a:=oa) (len:=on) (cap:=oc) (d:=y0.1) (ps:=y0.2) ⟨k,g0⟩
   refine ⟨oa,on,oc,rfl,O,hO,?_⟩
   rcases hw with h | ⟨m,h1,h3⟩
   ·exact .inl h
   ·refine .inr ⟨m,h1,?_⟩
    rw[hxy]
    simp only[DataW.weights,underlying31,List.map_cons,List.map_nil,DataW.weightsEach]
    exact List.mem_append_left _ h3
theorem weights_in {H:Type}{t:TypeId}{n:Nat}{d:DataW H}(hn:n∈d.weights prog t):∀l:List (DataW H),d∈l->n∈DataW.weightsAll prog t l
 | [],h=>by cases h
 | x :: r,h=>by
   simp only[DataW.weightsAll]
   rcases List.mem_cons.1 h with rfl | h
   ·exact List.mem_append_left _ hn
   ·exact List.mem_append_right _ (weights_in hn r h)
theorem batches_of {H:Type}{enc:TypeId × Value->H}{W:World}{a:Option Addr}{len cap:Nat}{d:DataW H}{ps:List MemPlace}(h:DataW.Trod enc prog W 0 (fun _=>true) true 24 (.slice a len cap) d ps)(hw:∀n,n∈d.weights prog 24->n<=140737488355328) :
 ∃B:List (List Tr.Op),IsB W a len B/\len<=9223372036854775807:=by
 obtain ⟨fuel,hf⟩:=h
 rcases open_slice1 underlying24 cellsBt hf with ⟨hcs,_⟩ | ⟨x,len',cap',m,n,V,D,Pl,hcs,_,hl,hm,hmm,hx0,hx⟩
 ·simp[Value.cells] at hcs
  obtain ⟨rfl,rfl,rfl⟩:=hcs
  exact ⟨[],⟨rfl,fun i O h=>by cases h⟩,by omega⟩
 ·simp[Value.cells] at hcs
  obtain ⟨rfl,rfl,rfl⟩:=hcs
  simp only[if_true] at hmm
  subst hmm
  have hy1:d=.slice ((List.range len).map D) ((List.range (m-len)).map fun j=>D (len+j)):=by
   simp only[Prod.mk.injEq] at hx0
   exact hx0.1
  have each:∀i,i<len->∃O:List Tr.Op,∃oa on oc,V i=.slice oa on oc/\Tr.IsO W oa on O/\on*72<=140737488355328:=fun i hi=>by
   obtain ⟨h1,h2⟩:=hx i (by omega)
   obtain ⟨oa,on,oc,e,O,hO,hz⟩:=bt_of rfl h2
   have e':V i=.slice oa on oc:=by simpa using e
   refine ⟨O,oa,on,oc,e',hO,?_⟩
   rcases hz with h | ⟨m',h3,h4⟩
   ·omega
   ·have h5:m'*72∈d.weights prog 24:=by
     rw[hy1]
     simp only[DataW.weights,underlying24]
     refine QA _ (List.mem_append_left _ (weights_in h4 _ ?_))
     rw[List.mem_map]
     exact ⟨i,List.mem_range.2 hi,rfl⟩
    have:=hw _ h5
    omega
  haveI:Inhabited (List Tr.Op):=⟨[]⟩
  obtain ⟨q,hq⟩:=choose_lt each
  refine ⟨(List.range len).map q,⟨by simp,fun i O ho=>?_⟩,by unfold maxLen at hm;omega⟩
  have hi:=(QV.1 ho).1
  simp at hi
  rw[List.getElem?_map,List.getElem?_range hi] at ho
  obtain rfl:=QW ho
  obtain ⟨oa,on,oc,e,hO,hz⟩:=hq i hi
  obtain ⟨b,off,spot⟩:=x
  have h0:=(hx i (by omega)).1
  rw[e] at h0
  have hspot:spot=none:=by simpa[Addr.add] using World.cell?_spot (hx 0 (by omega)).1
  subst hspot
  rw[Addr.add_lit] at h0
  exact ⟨b,off,rfl,block_lt_of_cell h0,oa,on,oc,h0,hO,hz⟩
end Go.Proofs.YtfnklhajafmooaaGreatDoor.Po.Pn
namespace Go.Proofs.YtfnklhajafmooaaGreatDoor.Po.Pn
open Go.RowKit Go.Lib Go.Deep Go.Proofs.Tryz
def isF (f:Int)(x:Tr.Nd):Bool:=decide (x.kind=2/\(x.number:Int)=f)
def szN (L:List Tr.Nd)(f:Int):Int:=match L.find? (isF f) with
 | some x=>(x.size:Int)
 | none=>-1
theorem szN_tk {T:Tr.Ts}{f:Nat}(h:Tr.tkF T f):szN (Tr.told T) (f:Int)=(Tr.szF T f:Int):=by
 obtain ⟨⟨p,n,s⟩,hr⟩:=h
 unfold szN
 cases hf:(Tr.told T).find? (isF (f:Int)) with
 | none =>
   have:=List.find?_eq_none.1 hf _ (Tr.jM0 hr)
   exact absurd (QQ ⟨rfl,rfl⟩) this
 | some x =>
   have h1:=List.find?_some hf
   have h2:=List.mem_of_find?_eq_some hf
   obtain ⟨h3,h4⟩:=Qg h1
   rcases Tr.jE9 h2 with h5 | h5
   ·omega
   ·have h6:x.number=f:=by omega
    rw[h6] at h5
    unfold Tr.szF
    rw[h5.2]
theorem szN_lt {T:Tr.Ts}{dp:Nat->Nat}(hv:Tr.Inv T dp)(f:Int):-1<=szN (Tr.told T) f/\szN (Tr.told T) f<=(T.most:Int):=by
 unfold szN
 split
 ·rename_i x hx
  have:=(Tr.jOq hv (List.mem_of_find?_eq_some hx)).1
  omega
 ·omega
theorem own_size {c:Ix.Cn}{T:Tr.Ts}{dp:Nat->Nat}{P:Ps}(d:Dk c T dp P){i:Nat}{o:Ob}(h:P.R[i]?=some o)(h0:0<=o.ow):szN (Tr.told T) o.ow=(jD4 T o.ow:Int)/\jD4 T o.ow<=c.mf:=by
 have h1:Tr.tkF T o.ow.toNat:=(d.hold _).2 (jGv.2 ⟨i,o,h,by omega⟩)
 have h2:=szN_tk h1
 rw[show ((o.ow.toNat:Nat):Int)=o.ow by omega] at h2
 have h3:=(szN_lt d.inv o.ow).2
 rw[d.most] at h3
 unfold jD4
 rw[if_neg (by omega)]
 exact ⟨h2,by omega⟩
def Nds (x:World)(r:Nat)(L:List Tr.Nd)(a:Option Addr)(cap:Nat):Prop:=x.cell? ⟨r,16,none⟩=some (.slice a L.length cap)/\∀k,k<L.length->∃(y:Tr.Nd) (g:Nat),L[k]?=some y/\a=some ⟨g,0,none⟩/\x.cell? ⟨g,k*5,none⟩=some (.int .i64 (y.kind:Int))/\x.cell? ⟨g,k*5+1,none⟩=some (.int .i64 (y.number:Int))/\x.cell? ⟨g,k*5+2,none⟩=some (.int .i64 (y.parent:Int))/\x.cell? ⟨g,k*5+3,none⟩=some (.string y.name)/\x.cell? ⟨g,k*5+4,none⟩=some (.int .i64 (y.size:Int))
theorem Rn.nds {w x:World}{c:Ix.Cn}{r:Nat}{T:Tr.Ts}{P:Ps}{sl st wo wq:Value}(h:Rn w x c r T P sl st wo wq):(Tr.told T).length<=1000000/\∃a cap,∀V,Below x.heap.size x V->Nds V r (Tr.told T) a cap:=by
 obtain ⟨b,q,nn,pb,pq,pn,io,iq,nd,h1,h2,h3,h4,h5,h6⟩:=h.ex
 obtain ⟨a,cap,rfl⟩:=jBy h5
 refine ⟨h6,a,cap,fun V hV=>?_⟩
 have k1:=(hV.block _ (jAv h1)).trans h1
 have h5':=jA7 h5 hV
 refine ⟨(jAj k1).trans rfl,fun k hk=>?_⟩
 have e1:∃g,a=some ⟨g,0,none⟩:=by
  rcases h5.2 with ⟨e1,e2⟩ | ⟨g,cap,cur,e1,_⟩
  ·omega
  ·injection e1 with e1 _ _;exact ⟨g,e1⟩
 obtain ⟨g,rfl⟩:=e1
 have hx:=Qv (l:=Tr.told T) (i:=k) hk
 exact ⟨_,g,hx,rfl,Tr.jKy h5' rfl hx⟩
theorem find_take {L:List Tr.Nd}{p:Tr.Nd->Bool}{k:Nat}{y:Tr.Nd}(h:L[k]?=some y)(hp:∀j z,j<k->L[j]?=some z->p z=false)(hy:p y=true):L.find? p=some y:=by
 rw[List.find?_eq_some_iff_getElem]
 have hl:=jAy h
 refine ⟨hy,k,hl,?_,fun j hj=>?_⟩
 ·rw[Qv hl] at h
  exact QW h
 ·rw[hp j _ hj (Qv (by omega))]
  rfl
theorem size15_any (x:World)(r:Nat)(L:List Tr.Nd)(a:Option Addr)(cap:Nat)(f:Int)(hl:L.length<=1000000)(h:∀V,Below x.heap.size x V->Nds V r L a cap):Calls prog 13 #[.pointer (some ⟨r,0,none⟩),.int .i64 f] x fun e y=>e=.returned (.int .i64 (szN L f))/\Below x.heap.size x y:=by
 have HN:Hid _:=h
 unfold Nds at HN
 obtain ⟨n,hn⟩:∃n,L.length=n:=⟨_,rfl⟩
 rw[hn] at hl HN
 obtain ⟨c16,-⟩:=HN.out x (Qq _ _)
 clear h
 have HFD:Hid (∀k y,L[k]?=some y->(∀j z,j<k->L[j]?=some z->isF f z=false)->isF f y=true->szN L f=y.size):=fun k y h1 h2 h3=>by
  unfold szN
  rw[find_take h1 h2 h3]
 have HFN:Hid ((∀j z,j<n->L[j]?=some z->isF f z=false)->szN L f=-1):=fun h1=>by
  unfold szN
  rw[List.find?_eq_none.2 fun z hz=>?_]
  obtain ⟨j,hj⟩:=List.mem_iff_getElem?.1 hz
  rw[h1 j z (by have:=jAy hj;omega) hj]
  exact Bool.false_ne_true
 clear hn
 go_enter func13,ntmps13
 go_wp2_with fail
 go_loopg [5] n (fun gk iv wr=>∃k:Nat,gk=n-k/\k<=n/\iv=.int .i64 (k:Int)/\Hid (∀j z,j<k->L[j]?=some z->isF f z=false)/\Below x.heap.size x wr)
 case atStart=>exact ⟨0,by omega,by omega,rfl,fun j z hj=>by omega,Qq _ _⟩
 case round =>
  clear c16
  obtain ⟨k,hgk,hkn,rfl,HS,hbe⟩:=hrel
  obtain ⟨c16,hcs⟩:=HN.out wr hbe
  by_cases hk:k<n
  ·have hkI:(k:Int)<(n:Int):=by omega
   have w1:IntKind.i64.wrap ((k:Int)+1)=((k+1:Nat):Int):=by rw[QX];omega
   obtain ⟨y,g,hy,rfl,c0,c1,c2,c3,c4⟩:=hcs k hk
   obtain ⟨U,hU,hbU,kU⟩:=jA4 wr #[.int .i64 (y.kind:Int),.int .i64 (y.number:Int),.int .i64 (y.parent:Int),.string y.name,.int .i64 (y.size:Int)] 91
   have HU:Hid _:=hU
   have u0:U.cell? ⟨wr.heap.size,0,none⟩=some (.int .i64 (y.kind:Int)):=(jAj kU).trans rfl
   have u1:U.cell? ⟨wr.heap.size,1,none⟩=some (.int .i64 (y.number:Int)):=(jAj kU).trans rfl
   have u4:U.cell? ⟨wr.heap.size,4,none⟩=some (.int .i64 (y.size:Int)):=(jAj kU).trans rfl
   have HBU:Hid (∀j,Below x.heap.size x (U.drewN j)):=fun j=>Tr.bdr (hbe.trans (hbU.mono hbe.size)) j
   have HY:Hid (L[k]?=some y):=hy
   have HNX:Hid (isF f y=false->∀j z,j<k+1->L[j]?=some z->isF f z=false):=fun h1 j z hj hz=>by
    by_cases e:j=k
    ·subst e
     rw[hy] at hz
     obtain rfl:=QW hz
     exact h1
    ·exact HS.out j z (by omega) hz
   by_cases hm:isF f y=true
   ·have he:=HFD.out k y hy HS.out hm
    obtain ⟨m1,m2⟩:=Qg hm
    have m1':((y.kind:Int) == 2)=true:=by rw[m1];rfl
    have m2':((y.number:Int) == f)=true:=by rw[m2];simp
    have HE:Hid _:=he
    generalize (y.kind:Int)=kd at *
    generalize (y.number:Int)=nu at *
    generalize (y.size:Int)=sz at *
    clear hbe hcs hy hm he hbU kU m1 m2 hU HFD HFN HNX
    go_wp2_with fail
    rw[HU.out]
    go_wp2
    go_ret
    exact ⟨by rw[HE.out];rfl,HBU.out 0⟩
   ·have hm':isF f y=false:=by simpa using hm
    have HNX2:Hid _:=HNX.out hm'
    by_cases m1:y.kind=2
    ·have m2:¬(y.number:Int)=f:=fun e=>hm (QQ ⟨m1,e⟩)
     have m1':((y.kind:Int) == 2)=true:=by rw[m1];rfl
     have m2':((y.number:Int) == f)=false:=by simpa using m2
     generalize (y.kind:Int)=kd at *
     generalize (y.number:Int)=nu at *
     generalize (y.size:Int)=sz at *
     clear hbe hcs hy hm hm' hbU kU m1 m2 hU HFD HFN HNX
     go_wp2_with fail
     rw[HU.out]
     go_wp2
     go_roundg (n-(k+1))
     case measure=>omega
     case rel=>exact ⟨k+1,rfl,by omega,rfl,HNX2.out,HBU.out 0⟩
    ·have m1':((y.kind:Int) == 2)=false:=by simp;omega
     generalize (y.kind:Int)=kd at *
     generalize (y.number:Int)=nu at *
     generalize (y.size:Int)=sz at *
     clear hbe hcs hy hm hm' hbU kU m1 hU HFD HFN HNX
     go_wp2_with fail
     rw[HU.out]
     go_wp2
     go_roundg (n-(k+1))
     case measure=>omega
     case rel=>exact ⟨k+1,rfl,by omega,rfl,HNX2.out,HBU.out 0⟩
  ·obtain rfl:k=n:=by omega
   have hkI:¬(k:Int)<(k:Int):=by omega
   have HE:Hid _:=HFN.out HS.out
   have HBE:Hid _:=hbe
   clear hbe hcs HFD HFN
   go_wp2
   go_ret
   exact ⟨by rw[HE.out];rfl,HBE.out⟩
theorem own_some {w:World}{B e sz n cap:Nat}{a:Option Addr}{xs:List Value}(h:w.ownsRow B e sz (.slice a n cap) n xs)(hn:0<n):∃g,a=some ⟨g,0,none⟩:=by
 rcases h.2 with ⟨e1,e2⟩ | ⟨g,cap,cur,e1,_⟩
 ·omega
 ·injection e1 with e1 _ _;exact ⟨g,e1⟩
theorem ob_ow {w:World}{B g cap n:Nat}{l:List Ob}(h:w.ownsRow B 60 4 (.slice (some ⟨g,0,none⟩) n cap) n (obsC l))(hn:l.length=n){i:Nat}{o:Ob}(hi:l[i]?=some o):w.cell? ⟨g,i*4,none⟩=some (.string o.nm)/\w.cell? ⟨g,i*4+1,none⟩=some (.string o.tg)/\w.cell? ⟨g,i*4+2,none⟩=some (.int .i64 o.bk)/\w.cell? ⟨g,i*4+3,none⟩=some (.int .i64 o.ow):=by
 have hl:=jAy hi
 have c:=fun j (hj:j<4)=>(h.cellAt (i*4+j) (by omega)).trans (jDz obC 4 jGy l i o hi j hj)
 exact ⟨c 0 (by omega),c 1 (by omega),c 2 (by omega),c 3 (by omega)⟩
end Go.Proofs.YtfnklhajafmooaaGreatDoor.Po.Pn
namespace Go.Proofs.YtfnklhajafmooaaGreatDoor.Po.Pn
open Go.RowKit Go.Lib Go.Proofs.Tryz
def skO (o:Ob):Ob:=⟨e0,e0,0,o.ow⟩
def sk (S:Ps):Ps:=⟨S.fl,S.R.map skO,S.Q⟩
theorem jJ4 (S:Ps)(i:Int):jC9 (sk S) i=skO (jC9 S i):=by
 unfold jC9 sk
 dsimp only
 rw[List.getElem?_map]
 cases S.R[i.toNat]? <;> rfl
theorem sk_len (S:Ps):(sk S).R.length=S.R.length:=List.length_map _
theorem sk_rowN (S:Ps)(i:Int):rowN (sk S) i↔rowN S i:=by unfold rowN;rw[sk_len]
theorem sk_out (S:Ps)(i:Int):outL (sk S) i=outL S i:=by
 unfold outL
 rw[jJ4]
 rfl
theorem sk_held (S:Ps)(f:Int):jD7 (sk S).R f=jD7 S.R f:=by
 unfold jD7 sk
 dsimp only
 rw[List.any_map]
 rfl
theorem sk_byO (S:Ps)(f:Int):byO (sk S) f=byO S f:=by
 unfold byO sk
 dsimp only
 rw[List.findIdx_map]
 rfl
theorem sk_put (S:Ps)(i:Nat)(o:Ob):putP (sk S) i (skO o)=sk (putP S i o):=by
 unfold putP sk
 dsimp only
 rw[List.map_set]
theorem sk_asg (S:Ps)(i f:Int):asgS (sk S) i f=sk (asgS S i f):=by
 have hE:asgE (sk S) i f=asgE S i f:=by
  unfold asgE
  simp only[sk_rowN,sk_out,sk_held]
  rfl
 unfold asgS
 rw[hE,jJ4]
 split
 ·exact sk_put S _ (owO (jC9 S i) f)
 ·rfl
theorem sk_rel (S:Ps)(i:Int):relS (sk S) i=sk (relS S i):=by
 have hE:relE (sk S) i=relE S i:=by
  unfold relE
  simp only[sk_rowN,jJ4]
  rfl
 unfold relS
 rw[hE,jJ4]
 split
 ·exact sk_put S _ (owO (jC9 S i) (-1))
 ·rfl
theorem sk_push (S:Ps)(i:Int):jJ8 (sk S) i=sk (jJ8 S i):=by
 have hE:jJ0 (sk S) i=jJ0 S i:=by
  unfold jJ0
  simp only[sk_rowN,sk_out]
 unfold jJ8
 rw[hE]
 split <;> rfl
theorem sk_pop (S:Ps):popS (sk S)=sk (popS S):=rfl
theorem sk_hd (S:Ps):hdQ (sk S)=hdQ S:=rfl
theorem sk_rowT (S:Ps)(L:List Nat)(c:Int × Int):rowT (sk S) L c=((rowT S L c).1,sk (rowT S L c).2):=by
 unfold rowT
 rw[sk_hd,sk_pop,sk_asg,sk_byO,sk_rel,sk_pop]
 by_cases h1:c.1=1
 ·rw[if_pos h1,if_pos h1]
 ·rw[if_neg h1,if_neg h1]
  by_cases h2:c.1=2
  ·rw[if_pos h2,if_pos h2]
   split <;> rfl
  ·rw[if_neg h2,if_neg h2]
   by_cases h3:c.1=3
   ·rw[if_pos h3,if_pos h3]
    split <;> rfl
   ·rw[if_neg h3,if_neg h3]
theorem sk_tch (C:List (Int × Int)):∀(L:List Nat) (S:Ps),C.foldl tch1 (L,sk S)=((C.foldl tch1 (L,S)).1,sk (C.foldl tch1 (L,S)).2):=by
 induction C with
 | nil=>intro L S;rfl
 | cons c C ih =>
   intro L S
   rw[List.foldl_cons,List.foldl_cons]
   have e:tch1 (L,sk S) c=((tch1 (L,S) c).1,sk (tch1 (L,S) c).2):=by
    unfold tch1
    dsimp only
    rw[sk_rowT]
   rw[e]
   exact ih _ _
theorem sk_psh (L:List Nat):∀S:Ps,pshL (sk S) L=sk (pshL S L):=by
 unfold pshL
 induction L with
 | nil=>intro S;rfl
 | cons i L ih =>
   intro S
   rw[List.foldl_cons,List.foldl_cons]
   have e:psh1 (sk S) i=sk (psh1 S i):=by
    unfold psh1 owAt
    rw[jJ4,sk_push]
    show (if (jC9 S (i:Int)).ow=-1 then _ else _)=_
    split <;> rfl
   rw[e]
   exact ih _
theorem sk_batch {c:Ix.Cn}{T T':Tr.Ts}{P P':Ps}{O O':List Tr.Op}(h:sk P=sk P')(hc:clsL (doL T O).1 c.sl=clsL (doL T' O').1 c.sl):jGx c T P O=jGx c T' P' O'/\sk (endB c T P O)=sk (endB c T' P' O'):=by
 have h1:∀(C:List (Int × Int)),(tchL P C).1=(tchL P' C).1/\sk (tchL P C).2=sk (tchL P' C).2:=fun C=>by
  have a:=sk_tch C [] P
  rw[h,sk_tch C [] P'] at a
  injection a with a1 a2
  exact ⟨a1.symm,a2.symm⟩
 unfold endB jGx midB
 rw[hc]
 obtain ⟨a1,a2⟩:=h1 (clsL (doL T' O').1 c.sl)
 refine ⟨a1,?_⟩
 rw[<-sk_psh,<-sk_psh,a1,a2]
theorem sk_ow {P P':Ps}(h:sk P=sk P')(i:Nat):owAt P i=owAt P' i:=by
 have e:∀S:Ps,owAt S i=(jC9 (sk S) (i:Int)).ow:=fun S=>by rw[jJ4];rfl
 rw[e,e,h]
theorem sk_rows {P P':Ps}(h:sk P=sk P'):P.R.length=P'.R.length/\P.Q=P'.Q:=by
 rw[<-sk_len P,h,sk_len]
 have hq:(sk P).Q=(sk P').Q:=by rw[h]
 exact ⟨rfl,hq⟩
end Go.Proofs.YtfnklhajafmooaaGreatDoor.Po.Pn
namespace Go.Proofs.YtfnklhajafmooaaGreatDoor.Po.Pn
open Go.RowKit Go.Lib Go.Deep Go.Proofs.Tryz
def clsK (ss:List (Tr.Rs × Tr.Ef))(k:Nat):Int × Int:=match ss[k]? with
 | some s=>cls s.2
 | none=>(0,0)
theorem clsK_get {ss:List (Tr.Rs × Tr.Ef)}{K k:Nat}(_h:ss.length<=K)(hk:k<K):(clsL ss K)[k]?=some (clsK ss k):=by
 unfold clsK
 cases hs:ss[k]? with
 | some s=>exact clsL_in hs
 | none=>exact clsL_out (by rw[List.getElem?_eq_none_iff] at hs;exact hs) hk
theorem clsK_all {ss ss':List (Tr.Rs × Tr.Ef)}{K:Nat}(h:ss.length<=K)(h':ss'.length<=K)(he:∀k,k<K->clsK ss k=clsK ss' k):clsL ss K=clsL ss' K:=by
 apply List.ext_getElem?
 intro k
 by_cases hk:k<K
 ·rw[clsK_get h hk,clsK_get h' hk,he k hk]
 ·rw[List.getElem?_eq_none (by rw[jJ6 h];omega),List.getElem?_eq_none (by rw[jJ6 h'];omega)]
theorem st_ef {w:World}{B:Nat}{a:Option Addr}{cap n:Nat}{l:List ((Tr.Rs × Tr.Ef) × Value)}(h:w.ownsRow B 75 13 (.slice a n cap) n (stsC l))(hn:l.length=n){i:Nat}{y:(Tr.Rs × Tr.Ef) × Value}(hi:l[i]?=some y):∃g,a=some ⟨g,0,none⟩/\w.cell? ⟨g,i*13+6,none⟩=some (.int .i64 y.1.2.kind)/\w.cell? ⟨g,i*13+7,none⟩=some (.int .i64 y.1.2.file)/\w.cell? ⟨g,i*13+8,none⟩=some (.int .i64 y.1.2.gone)/\w.cell? ⟨g,i*13+9,none⟩=some (.int .i64 y.1.2.at_)/\w.cell? ⟨g,i*13+10,none⟩=some (.int .i64 y.1.2.n)/\w.cell? ⟨g,i*13+11,none⟩=some (.string y.1.2.data)/\w.cell? ⟨g,i*13+12,none⟩=some (.int .i64 y.1.2.size):=by
 have hl:=jAy hi
 have e1:∃g,a=some ⟨g,0,none⟩:=by
  rcases h.2 with ⟨e1,e2⟩ | ⟨g,cap,cur,e1,_⟩
  ·omega
  ·injection e1 with e1 _ _;exact ⟨g,e1⟩
 obtain ⟨g,rfl⟩:=e1
 have c:=fun j (hj:j<13)=>(h.cellAt (i*13+j) (by omega)).trans (jDz stC 13 jJz l i y hi j hj)
 exact ⟨g,rfl,c 6 (by omega),c 7 (by omega),c 8 (by omega),c 9 (by omega),c 10 (by omega),c 11 (by omega),c 12 (by omega)⟩
theorem sizeCls:(prog.info? 35).map (·.size)=some 2:=by kernel_rfl
def clV (x:Int × Int):Value:=.agg #[.int .i64 x.1,.int .i64 x.2]
theorem class15_any (w:World)(B:Nat)(a:Option Addr)(n cap:Nat)(l:List ((Tr.Rs × Tr.Ef) × Value))(h:w.ownsRow B 75 13 (.slice a n cap) n (stsC l))(hn:l.length=n)(_hb:n<=64)(k:Nat)(_hk64:k<=64):Calls prog 11 #[.slice a n cap,.int .i64 (k:Int)] w fun e w'=>e=.returned (clV (clsK (l.map (·.1)) k))/\Below w.heap.size w w':=by
 by_cases hk:k<n
 ·obtain ⟨y,hy⟩:∃y,l[k]?=some y:=⟨_,Qv (by omega)⟩
  have he:clsK (l.map (·.1)) k=cls y.1.2:=by unfold clsK;rw[List.getElem?_map,hy];rfl
  rw[he]
  obtain ⟨g,rfl,c6,c7,c8,c9,c10,c11,c12⟩:=st_ef h hn hy
  obtain ⟨⟨rs,ef⟩,v⟩:=y
  obtain ⟨e0,e1,e2,e3,e4,e5,e6⟩:=ef
  obtain ⟨W0,hW0,hb0,k0⟩:=jA4 w #[.int .i64 0,.int .i64 0] 35
  obtain ⟨U,hU,hbU,kU⟩:=jA4 W0 #[.int .i64 e0,.int .i64 e1,.int .i64 e2,.int .i64 e3,.int .i64 e4,.string e5,.int .i64 e6] 68
  have hgl:g<w.heap.size:=block_lt_of_cell c6
  have d6:W0.cell? ⟨g,k*13+6,none⟩=some (.int .i64 e0):=(hb0.cell hgl).trans c6
  have d7:W0.cell? ⟨g,k*13+6+1,none⟩=some (.int .i64 e1):=(hb0.cell hgl).trans c7
  have d8:W0.cell? ⟨g,k*13+6+2,none⟩=some (.int .i64 e2):=(hb0.cell hgl).trans c8
  have d9:W0.cell? ⟨g,k*13+6+3,none⟩=some (.int .i64 e3):=(hb0.cell hgl).trans c9
  have d10:W0.cell? ⟨g,k*13+6+4,none⟩=some (.int .i64 e4):=(hb0.cell hgl).trans c10
  have d11:W0.cell? ⟨g,k*13+6+5,none⟩=some (.string e5):=(hb0.cell hgl).trans c11
  have d12:W0.cell? ⟨g,k*13+6+6,none⟩=some (.int .i64 e6):=(hb0.cell hgl).trans c12
  have u0:U.cell? ⟨W0.heap.size,0,none⟩=some (.int .i64 e0):=(jAj kU).trans rfl
  have u1:U.cell? ⟨W0.heap.size,1,none⟩=some (.int .i64 e1):=(jAj kU).trans rfl
  have u2:U.cell? ⟨W0.heap.size,2,none⟩=some (.int .i64 e2):=(jAj kU).trans rfl
  have HBU:Hid (∀j,Below w.heap.size w (U.drewN j)):=fun j=>Tr.bdr (hb0.trans (hbU.mono hb0.size)) j
  have HKC:Hid (U.heap[w.heap.size]?=some (.cells #[.int .i64 0,.int .i64 0] 35 (0,0))):=(hbU.block _ (jAv k0)).trans k0
  have t0:U.cell? ⟨w.heap.size,0,none⟩=some (.int .i64 0):=(jAj HKC.out).trans rfl
  have t1:U.cell? ⟨w.heap.size,1,none⟩=some (.int .i64 0):=(jAj HKC.out).trans rfl
  have tf0:U.frozen? ⟨w.heap.size,0,none⟩=false:=jAq HKC.out
  have tf1:U.frozen? ⟨w.heap.size,1,none⟩=false:=jAq HKC.out
  have HPUT:Hid (∀a b:Value,((U.setCell ⟨w.heap.size,0,none⟩ a).setCell ⟨w.heap.size,1,none⟩ b).heap[w.heap.size]?=some (.cells #[a,b] 35 (0,0))/\Below w.heap.size w ((U.setCell ⟨w.heap.size,0,none⟩ a).setCell ⟨w.heap.size,1,none⟩ b)):=fun a b=>⟨rset (rset HKC.out),((HBU.out 0).setCell (Qj _) _).setCell (Qj _) _⟩
  have hkI:¬(n:Int)<=(k:Int):=by omega
  have hkI2:(k:Int)<(n:Int):=by omega
  dsimp only at *
  clear h hn hy he hbU kU c6 c7 c8 c9 c10 c11 c12 hb0 k0 hgl HBU HKC
  unfold cls clV
  dsimp only
  obtain ⟨cq,hcq⟩:∃cq:Int × Int,(if e0=1 then (1,e1) else if e0=2\/e0=3\/e0=4 then (2,e1) else if e0=5 then (3,e1) else if e0=6 then (3,e2) else (0,0))=cq:=⟨_,rfl⟩
  rw[hcq]
  have HCQ:Hid _:=hcq
  clear hcq
  have hk6:e0=1\/e0=2\/e0=3\/e0=4\/e0=5\/e0=6\/(e0≠1/\e0≠2/\e0≠3/\e0≠4/\e0≠5/\e0≠6):=by omega
  rcases hk6 with rfl | rfl | rfl | rfl | rfl | rfl | ⟨q1,q2,q3,q4,q5,q6⟩
  all_goals
   try
    have q1':(e0 == 1)=false:=by simpa using q1
    have q2':(e0 == 2)=false:=by simpa using q2
    have q3':(e0 == 3)=false:=by simpa using q3
    have q4':(e0 == 4)=false:=by simpa using q4
    have q5':(e0 == 5)=false:=by simpa using q5
    have q6':(e0 == 6)=false:=by simpa using q6
   have hcq:=HCQ.out
   try simp only[if_neg q1,if_neg q5,if_neg q6,q2,q3,q4,or_self,if_false] at hcq
   try simp at hcq
   subst hcq
   go_enter func11,ntmps11
   go_wp2_with fail
   refine Qw (Tr.jB9 rfl _ _ w.heap.size 35 _ (0,0) _ rfl (HPUT.out _ _).1 underlying35 rfl sizeCls) rfl ?_
   exact ⟨rfl,(HPUT.out _ _).2⟩
 ·have he:clsK (l.map (·.1)) k=(0,0):=by
   unfold clsK
   rw[List.getElem?_eq_none (by rw[List.length_map];omega)]
  rw[he]
  obtain ⟨W0,hW0,hb0,k0⟩:=jA4 w #[.int .i64 0,.int .i64 0] 35
  have t0:W0.cell? ⟨w.heap.size,0,none⟩=some (.int .i64 0):=(jAj k0).trans rfl
  have t1:W0.cell? ⟨w.heap.size,1,none⟩=some (.int .i64 0):=(jAj k0).trans rfl
  have tf0:W0.frozen? ⟨w.heap.size,0,none⟩=false:=jAq k0
  have tf1:W0.frozen? ⟨w.heap.size,1,none⟩=false:=jAq k0
  have HPUT:Hid (∀a b:Value,((W0.setCell ⟨w.heap.size,0,none⟩ a).setCell ⟨w.heap.size,1,none⟩ b).heap[w.heap.size]?=some (.cells #[a,b] 35 (0,0))/\Below w.heap.size w ((W0.setCell ⟨w.heap.size,0,none⟩ a).setCell ⟨w.heap.size,1,none⟩ b)):=fun a b=>⟨rset (rset k0),(hb0.setCell (Qj _) _).setCell (Qj _) _⟩
  have hkI:(n:Int)<=(k:Int):=by omega
  clear h hn he hb0 k0
  unfold clV
  go_enter func11,ntmps11
  go_wp2_with fail
  refine Qw (Tr.jB9 rfl _ _ w.heap.size 35 _ (0,0) _ rfl (HPUT.out _ _).1 underlying35 rfl sizeCls) rfl ?_
  exact ⟨rfl,(HPUT.out _ _).2⟩
