import Derived.Test.YtflpnnfhdkmkdaaGreatDoorPqLd
namespace Go.Proofs.YtflpnnfhdkmkdaaGreatDoor.Po.Pn
open Go.RowKit Go.Lib Go.Deep
theorem poolNew_ok (w:World)(f s:Nat)(hf:1<=f/\f<=65536)(hs:1<=s/\s<=64):Calls Tryz.prog 24 #[.int .i64 (f:Int),.int .i64 (s:Int)] w fun e w'=>∃pb q,e=.returned (.tuple #[.pointer (some ⟨pb,0,none⟩),.int .i64 0])/\Hid (∃F,Ok w' pb q F 0 (newP f s))/\Below w.heap.size w w':=by
 have h:=new_any w (f:Int) (s:Int)
 have hr:jL3 (f:Int) (s:Int)=true:=decide_eq_true (by omega)
 refine h.mono ?_
 intro e w' he
 rw[if_pos hr] at he
 obtain ⟨pb,q,F,rfl,hok,_,_,hb⟩:=he
 rw[Int.toNat_natCast,Int.toNat_natCast] at hok
 exact ⟨pb,q,rfl,⟨F,hok⟩,hb⟩
theorem dk_new (c:Ix.Cn)(h:c.In):Dk c (Tr.newT c.fl c.dr c.mf) (fun _=>0) (newP c.fl c.sl):=by
 obtain ⟨i1,i2,i3,i4,_⟩:=h
 have hg:=good_new (f:=c.fl) (s:=c.sl) ⟨i3,i4⟩ ⟨i1,i2⟩
 refine ⟨Tr.newT_inv _ _ _,rfl,rfl,rfl,hg,rfl,by simp[newP],(jI9 hg).2 fun i o hi ho=>?_,fun x=>?_⟩
 ·have:=jAy hi
  simp[newP] at this ⊢
  omega
 ·constructor
  ·rintro ⟨r,hr⟩
   simp[Tr.newT] at hr
  ·intro hh
   obtain ⟨i,o,hi,ho⟩:=jG7.1 hh
   simp only[newP,List.getElem?_replicate] at hi
   split at hi
   ·have:=Option.some.inj hi
    subst this
    simp[dOb] at ho
   ·cases hi
set_option maxRecDepth 20000 in
set_option maxHeartbeats 2000000 in
theorem start_no (w:World)(hT:Ix.RT w)(c:Ix.Cf)(hc:¬c.May):Calls Tryz.prog 7 #[Ix.cfV c] w fun e w'=>e=.returned (.tuple #[.pointer none,.bool true])/\Below w.heap.size w w':=by
 obtain ⟨c0,c1,c2,c3,c4,c5⟩:=c
 obtain ⟨W,hW,hb,k0⟩:=jA5 w #[.int .i64 c0,.int .i64 c1,.int .i64 c2,.int .i64 c3,.int .i64 c4,.int .i64 c5] 23
 have hch:=Ix.rcheck_any ⟨c0,c1,c2,c3,c4,c5⟩ W
 have hE:Ix.chkE ⟨c0,c1,c2,c3,c4,c5⟩=140:=by unfold Ix.chkE;rw[if_neg hc]
 rw[hE] at hch
 have HMK:Hid (∀V b pb,Below W.heap.size W V->Calls Tryz.prog 25 #[Ix.cfV ⟨c0,c1,c2,c3,c4,c5⟩,.pointer (some ⟨b,0,none⟩),.pointer (some ⟨pb,0,none⟩),.slice none 0 0] V fun e w'=>e=.returned (.tuple #[.agg #[.slice none 0 0,.slice none 0 0],.pointer none,.pointer none,.int .i64 140])/\Below V.heap.size V w'):=fun V b pb hV=>make_cfg V ((hT.next hb).next hV) _ hc b pb none 0 0
 rw[show Ix.cfV ⟨c0,c1,c2,c3,c4,c5⟩=.agg #[.int .i64 c0,.int .i64 c1,.int .i64 c2,.int .i64 c3,.int .i64 c4,.int .i64 c5] from rfl] at hch HMK ⊢
 have HC:Hid (∀V,Below W.heap.size W V->V.cell? ⟨w.heap.size,0,none⟩=some (.int .i64 c0)/\V.cell? ⟨w.heap.size,1,none⟩=some (.int .i64 c1)/\V.cell? ⟨w.heap.size,2,none⟩=some (.int .i64 c2)/\V.cell? ⟨w.heap.size,3,none⟩=some (.int .i64 c3)/\V.cell? ⟨w.heap.size,4,none⟩=some (.int .i64 c4)/\V.cell? ⟨w.heap.size,5,none⟩=some (.int .i64 c5)):=fun V hV=>Tr.jB4 ((hV.block _ (jAv k0)).trans k0)
 have HB:Hid (Below w.heap.size w W):=hb
 obtain ⟨x0,x1,x2,x3,x4,x5⟩:=HC.out W (Below.refl _ _)
 have HTN:Hid (∀V:World,_):=fun V=>Tr.new_any V 1 0 0 (by omega) (by omega) (by omega) (by omega)
 have HPN:Hid (∀V:World,_):=fun V=>poolNew_ok V 1 1 (by omega) (by omega)
 have HN:Hid _:=jJ2
 clear hE hb k0 hc hT
 go_enter Tryz.func7,Tryz.ntmps7
 go_wp2_with fail
 refine hch.mono ?_
 rintro e w1 ⟨rfl,hb1⟩
 have htn:=HTN.out w1
 clear x0 x1 x2 x3 x4 x5 hch
 go_wp2_with fail
 refine htn.mono ?_
 rintro e w2 ⟨b,q,rfl,-,hb2⟩
 have hpn:=HPN.out w2
 clear htn
 go_wp2_with fail
 refine hpn.mono ?_
 rintro e w3 ⟨pb,pq,rfl,-,hb3⟩
 have hbW2:=hb1.trans (hb2.mono hb1.size)
 have hbW3:=hbW2.trans (hb3.mono hbW2.size)
 have hmk:=HMK.out w3 b pb hbW3
 obtain ⟨x0,x1,x2,x3,x4,x5⟩:=HC.out w3 hbW3
 have HB3:Hid (Below W.heap.size W w3):=hbW3
 clear hpn hb1 hb2 hb3 hbW2 hbW3
 go_wp2_with fail
 refine hmk.mono ?_
 rintro e w4 ⟨rfl,hb4⟩
 have HB4:Hid (Below W.heap.size W w4):=HB3.out.trans (hb4.mono HB3.out.size)
 clear x0 x1 x2 x3 x4 x5 hmk hb4
 obtain ⟨U,hU,hbU,-⟩:=jA5 w4 #[.slice none 0 0,.slice none 0 0] 40
 have HU:Hid _:=hU
 have HBU:Hid (Below w.heap.size w U):=by
  have h1:=HB.out.trans (HB4.out.mono HB.out.size)
  exact h1.trans (hbU.mono h1.size)
 have hn:=HN.out 140 U
 clear hU hbU
 go_upto_region 5 with fail
 rw[HU.out]
 go_wp2_with fail
 refine hn.mono ?_
 rintro e w9 ⟨rfl,hw9⟩
 subst w9
 go_wp2
 go_ret2
 exact ⟨rfl,HBU.out⟩
set_option maxRecDepth 20000 in
set_option maxHeartbeats 4000000 in
theorem start_yes (w:World)(hT:Ix.RT w)(c:Ix.Cn)(hc:c.May):Calls Tryz.prog 7 #[Ix.cfV c.cf] w fun e w'=>∃r,e=.returned (.tuple #[.pointer (some ⟨r,0,none⟩),.bool true])/\Hid (Rn w w' c r (Tr.newT c.fl c.dr c.mf) (newP c.fl c.sl) (.slice none 0 0) (.slice none 0 0) (.slice none 0 0) (.slice none 0 0)):=by
 obtain ⟨i1,i2,i3,i4,i5,i6,i7,i8,i9,i10⟩:=hc.1
 obtain ⟨W,hW,hb,k0⟩:=jA5 w (cfA c) 23
 have hch:=Ix.rcheck_any c.cf W
 have hE:Ix.chkE c.cf=0:=by unfold Ix.chkE;rw[if_pos hc.cf]
 rw[hE] at hch
 rw[show Ix.cfV c.cf=.agg (cfA c) from rfl] at hch ⊢
 have HC:Hid (∀V,Below W.heap.size W V->V.cell? ⟨w.heap.size,0,none⟩=some (.int .i64 (c.sl:Int))/\V.cell? ⟨w.heap.size,1,none⟩=some (.int .i64 (c.fl:Int))/\V.cell? ⟨w.heap.size,2,none⟩=some (.int .i64 (c.dr:Int))/\V.cell? ⟨w.heap.size,3,none⟩=some (.int .i64 (c.mf:Int))/\V.cell? ⟨w.heap.size,4,none⟩=some (.int .i64 (c.ls:Int))/\V.cell? ⟨w.heap.size,5,none⟩=some (.int .i64 (c.pg:Int))):=fun V hV=>Tr.jB4 ((hV.block _ (jAv k0)).trans k0)
 have HB:Hid (Below w.heap.size w W):=hb
 obtain ⟨x0,x1,x2,x3,x4,x5⟩:=HC.out W (Below.refl _ _)
 have HTN:Hid (∀V:World,Calls Tryz.prog 23 #[.int .i64 (c.fl:Int),.int .i64 (c.dr:Int),.int .i64 (c.mf:Int)] V _):=fun V=>Tr.new_any V c.fl c.dr c.mf i3 i4 i5 i6
 have HPN:Hid (∀V:World,Calls Tryz.prog 24 #[.int .i64 (c.fl:Int),.int .i64 (c.sl:Int)] V _):=fun V=>poolNew_ok V c.fl c.sl ⟨i3,i4⟩ ⟨i1,i2⟩
 have HN:Hid _:=jJ2
 obtain ⟨T,hT'⟩:∃T,Tr.newT c.fl c.dr c.mf=T:=⟨_,rfl⟩
 obtain ⟨P,hP⟩:∃P,newP c.fl c.sl=P:=⟨_,rfl⟩
 have hdk:=dk_new c hc.1
 rw[hT',hP] at hdk
 rw[hT'] at HTN
 rw[hP] at HPN
 have HDW:Hid (∀w2 w3 Y b q pb pq B,Tr.Tre w2 B b q 0 T->(∃F,Ok w3 pb pq F 0 P)->Below w2.heap.size w2 Y->Below w3.heap.size w3 Y->Dw Y c b q 0 pb pq 0 T P):=fun w2 w3 Y b q pb pq B h1 ⟨PF,h2⟩ h3 h4=>by
  obtain ⟨g1,_,F,g2,_⟩:=h1
  exact ⟨⟨_,hdk⟩,F,PF,(h3.block _ (jAv g1)).trans g1,g2.below h3,⟨h2.top.below h4,h2.lay.below h4,h2.good,h2.nn⟩⟩
 have HSP:Hid (∀Y b q pb pq,Dw Y c b q 0 pb pq 0 T P->Calls Tryz.prog 26 #[.pointer (some ⟨pb,0,none⟩)] Y fun e w'=>∃oa oc qa qc,e=.returned (.agg #[.slice oa P.R.length oc,.slice qa P.Q.length qc])/\Hid (w'.ownsRow Y.heap.size 60 4 (.slice oa P.R.length oc) P.R.length (obsC P.R)/\w'.ownsRow Y.heap.size 3 1 (.slice qa P.Q.length qc) P.Q.length (nsC P.Q))/\Below Y.heap.size Y w'):=fun Y b q pb pq hD=>by
  obtain ⟨F,PF,g1,g2,g3⟩:=hD.ex
  refine (jH9 Y pb pq PF _ P g3).mono ?_
  rintro e w' ⟨ov,qv,rfl,h1,h2,hb'⟩
  obtain ⟨oa,oc,rfl⟩:=jB0 h1
  obtain ⟨qa,qc,rfl⟩:=jB0 h2
  exact ⟨oa,oc,qa,qc,rfl,⟨h1,h2⟩,hb'⟩
 have HST:Hid (∀Y b q pb pq,Dw Y c b q 0 pb pq 0 T P->Calls Tryz.prog 21 #[.pointer (some ⟨b,0,none⟩)] Y fun e w'=>∃a c',e=.returned (.agg #[.int .i64 (c.fl:Int),.int .i64 (c.dr:Int),.slice a (Tr.told T).length c'])/\Hid (w'.ownsRow Y.heap.size 91 5 (.slice a (Tr.told T).length c') (Tr.told T).length (Tr.ndsc (Tr.told T))/\(Tr.told T).length<=1000000)/\Below Y.heap.size Y w'):=fun Y b q pb pq hD=>by
  obtain ⟨F,PF,g1,g2,g3⟩:=hD.ex
  refine (Tr.jJ7 Y 0 b q _ T ⟨g1,Nat.zero_le _,F,g2,fun _ _=>Nat.zero_le _⟩ (by rw[hdk.dr];omega)).mono ?_
  rintro e w' ⟨a,c',rfl,HO,hb',hl⟩
  refine ⟨a,c',?_,⟨HO.out,hl⟩,hb'⟩
  rw[hdk.fr,show ((T.dr:Int)-1)=(c.dr:Int) by rw[hdk.dr];omega]
 have HRT:Hid (Ix.RT w):=hT
 rw[hT',hP]
 generalize hpl:P.R.length=pl at *
 generalize hql:P.Q.length=ql at *
 generalize htl:(Tr.told T).length=tl at *
 have HLS:Hid (P.R.length=pl/\P.Q.length=ql/\(Tr.told T).length=tl):=⟨hpl,hql,htl⟩
 unfold cfA at *
 clear hE hb k0 hc hT hT' hP hdk hpl hql htl
 go_enter Tryz.func7,Tryz.ntmps7
 go_wp2_with fail
 refine hch.mono ?_
 rintro e w1 ⟨rfl,hb1⟩
 have htn:=HTN.out w1
 clear x0 x1 x2 x3 x4 x5 hch
 obtain ⟨x0,x1,x2,x3,x4,x5⟩:=HC.out w1 hb1
 go_wp2_with fail
 refine htn.mono ?_
 rintro e w2 ⟨b,q,rfl,HT2,hb2⟩
 have hpn:=HPN.out w2
 have hbW2:=hb1.trans (hb2.mono hb1.size)
 clear htn x0 x1 x2 x3 x4 x5
 obtain ⟨x0,x1,x2,x3,x4,x5⟩:=HC.out w2 hbW2
 go_wp2_with fail
 refine hpn.mono ?_
 rintro e w3 ⟨pb,pq,rfl,HP3,hb3⟩
 have hbW3:=hbW2.trans (hb3.mono hbW2.size)
 have HB3:Hid (Below w2.heap.size w2 w3/\Below W.heap.size W w3):=⟨hb3,hbW3⟩
 clear hpn x0 x1 x2 x3 x4 x5
 obtain ⟨x0,x1,x2,x3,x4,x5⟩:=HC.out w3 hbW3
 have hn:=HN.out 0 w3
 have HNN:Hid _:=hn
 clear hb1 hb2 hb3 hbW2 hbW3
 go_wp2_with fail
 refine hn.mono ?_
 rintro e w9 ⟨rfl,hw9⟩
 subst w9
 go_wp2_with fail
 refine hn.mono ?_
 rintro e w9 ⟨rfl,hw9⟩
 subst w9
 obtain ⟨U,hU,hbU,kU⟩:=jA5 w3 #[.int .i64 (c.sl:Int),.int .i64 (c.fl:Int),.int .i64 (c.dr:Int),.int .i64 (c.mf:Int),.int .i64 (c.ls:Int),.int .i64 (c.pg:Int),.pointer (some ⟨b,0,none⟩),.pointer (some ⟨pb,0,none⟩),.slice none 0 0,.slice none 0 0,.slice none 0 0,.slice none 0 0,.slice none 0 0,.slice none 0 0,.int .i64 0,.int .i64 0,.slice none 0 0] 51
 have HU:Hid _:=hU
 have HKU:Hid _:=kU
 have HBU:Hid _:=hbU
 clear hU kU hbU hn
 go_upto_region 11 with fail
 rw[HU.out]
 have hd:=HDW.out w2 w3 U b q pb pq _ HT2.out HP3.out (HB3.out.1.trans (HBU.out.mono HB3.out.1.size)) HBU.out
 have hsp:=HSP.out U b q pb pq hd
 have HD:Hid _:=hd
 have hge:w.heap.size<=w3.heap.size:=by have:=HB.out.size;have:=HB3.out.2.size;omega
 have HGE:Hid (w.heap.size<=w3.heap.size):=hge
 have HBW:Hid (Below w.heap.size w w3):=HB.out.trans (HB3.out.2.mono HB.out.size)
 clear hd hge x0 x1 x2 x3 x4 x5 HU HSP HDW HTN HPN HC
 generalize hrr:w3.heap.size=r at *
 go_wp2_with fail
 refine hsp.mono ?_
 rintro e Y2 ⟨oa,oc,qa,qc,rfl,HO2,hb2⟩
 have kr2:=(hb2.block _ (jAv HKU.out)).trans HKU.out
 have r12:Y2.cell? ⟨r,12,none⟩=some (.slice none 0 0):=(jAj kr2).trans rfl
 have r13:Y2.cell? ⟨r,13,none⟩=some (.slice none 0 0):=(jAj kr2).trans rfl
 have f12:Y2.frozen? ⟨r,12,none⟩=false:=jAq kr2
 have f13:Y2.frozen? ⟨r,13,none⟩=false:=jAq kr2
 have HR2:Hid _:=kr2
 have HB2:Hid _:=hb2
 clear kr2 hb2 hsp
 go_upto_region 12 with fail
 refine jBj (R:=fun V=>Code.wp _ _ _ _ V) (Q:=fun Y=>Ky r Y2 Y/\Y.heap[r]?=some (.cells #[.int .i64 (c.sl:Int),.int .i64 (c.fl:Int),.int .i64 (c.dr:Int),.int .i64 (c.mf:Int),.int .i64 (c.ls:Int),.int .i64 (c.pg:Int),.pointer (some ⟨b,0,none⟩),.pointer (some ⟨pb,0,none⟩),.slice none 0 0,.slice none 0 0,.slice none 0 0,.slice none 0 0,.slice oa pl oc,.slice qa ql qc,.int .i64 0,.int .i64 0,.slice none 0 0] 51 (0,0))) _ ⟨((Ky.of (Below.refl _ _)).set 12 _).set 13 _,rset (rset HR2.out)⟩ ?_
 rintro Y3 ⟨hK3,k3⟩
 have hd3:=hK3.dw HR2.out (HD.out.below HB2.out)
 have hst:=HST.out Y3 b q pb pq hd3
 have HD3:Hid _:=hd3
 have HR3:Hid _:=k3
 have HK3:Hid (Ky r Y2 Y3):=hK3
 clear hd3 hK3 k3 r12 r13 f12 f13 HST
 go_wp2_with fail
 refine hst.mono ?_
 rintro e Y4 ⟨na,nc,rfl,HO4,hb4⟩
 have kr4:=(hb4.block _ (jAv HR3.out)).trans HR3.out
 have r14:Y4.cell? ⟨r,14,none⟩=some (.int .i64 0):=(jAj kr4).trans rfl
 have r15:Y4.cell? ⟨r,15,none⟩=some (.int .i64 0):=(jAj kr4).trans rfl
 have r16:Y4.cell? ⟨r,16,none⟩=some (.slice none 0 0):=(jAj kr4).trans rfl
 have f14:Y4.frozen? ⟨r,14,none⟩=false:=jAq kr4
 have f15:Y4.frozen? ⟨r,15,none⟩=false:=jAq kr4
 have f16:Y4.frozen? ⟨r,16,none⟩=false:=jAq kr4
 have HR4:Hid _:=kr4
 have HB4:Hid _:=hb4
 clear kr4 hb4 hst
 go_upto_region 13 with fail
 refine jBj (R:=fun V=>Code.wp _ _ _ _ V) (Q:=fun Y=>Ky r Y4 Y/\Y.heap[r]?=some (.cells (rnA c b pb (.slice none 0 0) (.slice none 0 0) (.slice none 0 0) (.slice none 0 0) (.slice oa pl oc) (.slice qa ql qc) (.slice na tl nc)) 51 (0,0))) _ ⟨(((Ky.of (Below.refl _ _)).set 14 _).set 15 _).set 16 _,rset (rset (rset HR4.out))⟩ ?_
 rintro Y5 ⟨hK5,k5⟩
 have HK5:Hid _:=hK5
 have HR5:Hid _:=k5
 clear hK5 k5 r14 r15 r16 f14 f15 f16
 go_wp2
 go_ret2
 obtain ⟨e1,e2,e3⟩:=HLS.out
 have hK25:Ky r Y2 Y5:=(HK3.out.trans (Ky.of HB4.out)).trans HK5.out
 have hKw:Ky r w3 Y5:=(Ky.of (by rw[hrr];exact HBU.out.trans (HB2.out.mono (by have:=HBU.out.size;omega)))).trans hK25
 have hbY:=hKw.base HBW.out HGE.out
 have s1:=HBU.out.size
 have s2:=HGE.out
 have s3:=HB2.out.size
 have s4:=HK3.out.size
 refine ⟨r,rfl,⟨b,q,0,pb,pq,0,_,_,_,HR5.out,HK5.out.dw HR4.out (HD3.out.below HB4.out),?_,?_,?_,?_⟩,HGE.out,hbY,HRT.out⟩
 ·rw[e1]
  exact jB6 (hK25.row HR2.out HO2.out.1 (by decide)) (by omega)
 ·rw[e2]
  exact jB6 (hK25.row HR2.out HO2.out.2 (by decide)) (by omega)
 ·rw[e3]
  exact jB6 (HK5.out.row HR4.out HO4.out.1 (by decide)) (by omega)
 ·rw[e3]
  exact HO4.out.2
theorem sl_cells {w:World}{B g cap n:Nat}{l:List Sl}(h:w.ownsRow B 53 4 (.slice (some ⟨g,0,none⟩) n cap) n (slsC l))(hn:l.length=n){i:Nat}{x:Sl}(hi:l[i]?=some x):w.cell? ⟨g,i*4,none⟩=some (.int .i64 x.ob)/\w.cell? ⟨g,i*4+1,none⟩=some (.int .i64 x.was)/\w.cell? ⟨g,i*4+2,none⟩=some (.int .i64 x.file)/\w.cell? ⟨g,i*4+3,none⟩=some (.int .i64 x.bk):=by
 have hl:=jAy hi
 have c:=fun j (hj:j<4)=>(h.cellAt (i*4+j) (by omega)).trans (jD3 slC 4 jK0 l i x hi j hj)
 exact ⟨c 0 (by omega),c 1 (by omega),c 2 (by omega),c 3 (by omega)⟩
set_option maxRecDepth 20000 in
set_option maxHeartbeats 1000000 in
theorem among_no (w:World)(B g cap n:Nat)(l:List Sl)(h:w.ownsRow B 53 4 (.slice (some ⟨g,0,none⟩) n cap) n (slsC l))(hn:l.length=n)(hb:n<=64)(row:Int)(hr:∀s,s∈l->s.ob≠row):Calls Tryz.prog 28 #[.slice (some ⟨g,0,none⟩) n cap,.int .i64 row] w fun e w'=>e=.returned (.bool false)/\w'=w:=by
 have HC:Hid (∀k,k<n->∃ob:Int,w.cell? ⟨g,k*4,none⟩=some (.int .i64 ob)/\ob≠row):=fun k hk=>by
  have hx:=List.getElem?_eq_getElem (l:=l) (i:=k) (by omega)
  exact ⟨_,(sl_cells h hn hx).1,hr _ (List.getElem_mem _)⟩
 clear h hn hr
 go_enter Tryz.func28,Tryz.ntmps28
 go_wp2_with fail
 go_loopg [5] n (fun gk iv wr=>∃k:Nat,gk=n-k/\k<=n/\iv=.int .i64 (k:Int)/\wr=w)
 case atStart=>exact ⟨0,by omega,by omega,rfl,rfl⟩
 case round =>
  obtain ⟨k,hgk,hkn,rfl,hwr⟩:=hrel
  subst wr
  by_cases hk:k<n
  ·have hkI:(k:Int)<(n:Int):=by omega
   have w1:IntKind.i64.wrap ((k:Int)+1)=((k+1:Nat):Int):=by rw[IntKind.wrap_i64];omega
   obtain ⟨ob,c0,hne⟩:=HC.out k hk
   have hne':(ob == row)=false:=by simpa using hne
   clear hne
   go_wp2
   go_roundg (n-(k+1))
   case measure=>omega
   case rel=>exact ⟨k+1,rfl,by omega,rfl,rfl⟩
  ·obtain rfl:k=n:=by omega
   have hkI:¬(k:Int)<(k:Int):=by omega
   go_wp2
   go_ret
   exact ⟨rfl,rfl⟩
set_option maxRecDepth 20000 in
set_option maxHeartbeats 4000000 in
theorem queue_any {w x:World}{c:Ix.Cn}{r:Nat}{T U:Tr.Ts}{P S:Ps}{L M:List Nat}{ss:List (Tr.Rs × Tr.Ef)}{n:Nat}{sl st wo wq:Value}(h:Rn w x c r T S sl st wo wq)(hl:Lb w x c P S L U ss n sl st wo wq)(hq:Qs P S L M)(hLn:L.length=c.sl)(hc1:1<=c.sl)(hc2:c.sl<=64):Calls Tryz.prog 9 #[.pointer (some ⟨r,0,none⟩)] x fun e y=>e=.returned (.bool true)/\Below x.heap.size x y:=by
 obtain ⟨b,q,nn,pb,pq,pn,io,iq,nd,hr,hD,hio,hiq,hnd,htl⟩:=h.ex
 obtain ⟨qa,qc,rfl⟩:=jB0 hl.wq
 obtain ⟨ia,ic,rfl⟩:=jB0 hiq
 obtain ⟨sa,sc,rfl⟩:=jB0 hl.sl
 obtain ⟨gs,rfl⟩:∃gs,sa=some ⟨gs,0,none⟩:=by
  rcases hl.sl.2 with ⟨_,e⟩ | ⟨g,cap,cur,e,_⟩
  ·omega
  ·injection e with e _ _;exact ⟨g,e⟩
 obtain ⟨dp,d⟩:=hD.dk
 have hSl:S.Q.length<=65600:=by have:=d.good.ql;have:=d.good.fl;omega
 obtain ⟨wd,hwd⟩:∃wd:Nat->Bool,wd=fun i=>decide (owAt P i=-1):=⟨_,rfl⟩
 obtain ⟨fd,hfd⟩:∃fd:Nat->Bool,fd=fun i=>decide (owAt S i=-1):=⟨_,rfl⟩
 have q1:P.Q=L.filter wd++M:=by rw[hwd];exact hq.was
 have q2:S.Q=M++L.filter fd:=by rw[hfd];exact hq.is
 have hfl1:(L.filter wd).length<=64:=Nat.le_trans (List.length_filter_le _ _) (by omega)
 have hPq:P.Q.length=(L.filter wd).length+M.length:=by rw[q1,List.length_append]
 have hSq:S.Q.length=M.length+(L.filter fd).length:=by rw[q2,List.length_append]
 have hSLl:(L.map (jL0 c.ls P S U)).length=c.sl:=by rw[List.length_map,hLn]
 have keepS:∀V,Below x.heap.size x V->V.ownsRow w.heap.size 53 4 (.slice (some ⟨gs,0,none⟩) c.sl sc) c.sl (slsC (L.map (jL0 c.ls P S U))):=fun V hV=>jA7 hl.sl hV
 have HRC:Hid (∀V,Below x.heap.size x V->V.cell? ⟨r,8,none⟩=some (.slice (some ⟨gs,0,none⟩) c.sl sc)/\V.cell? ⟨r,11,none⟩=some (.slice qa P.Q.length qc)/\V.cell? ⟨r,13,none⟩=some (.slice ia S.Q.length ic)):=fun V hV=>by
  have:=jGy ((hV.block _ (jAv hr)).trans hr)
  exact ⟨this.2.1.1,this.2.2.1.2,this.2.2.2.1.2⟩
 have HSL:Hid (∀V,Below x.heap.size x V->∀k,k<c.sl->∃(i:Nat) (wv fv:Int),L[k]?=some i/\(wd i=true↔wv=-1)/\(fd i=true↔fv=-1)/\V.cell? ⟨gs,k*4,none⟩=some (.int .i64 (i:Int))/\V.cell? ⟨gs,k*4+1,none⟩=some (.int .i64 wv)/\V.cell? ⟨gs,k*4+2,none⟩=some (.int .i64 fv)):=fun V hV k hk=>by
  obtain ⟨i,hi⟩:∃i,L[k]?=some i:=⟨_,List.getElem?_eq_getElem (by omega)⟩
  have hx:(L.map (jL0 c.ls P S U))[k]?=some (jL0 c.ls P S U i):=by rw[List.getElem?_map,hi];rfl
  obtain ⟨a1,a2,a3,_⟩:=sl_cells (keepS V hV) hSLl hx
  exact ⟨i,_,_,hi,by rw[hwd];simp[jL0],by rw[hfd];simp[jL0],a1,a2,a3⟩
 have HPQ:Hid (∀V,Below x.heap.size x V->∀(k i:Nat),P.Q[k]?=some i->∃g,qa=some ⟨g,0,none⟩/\V.cell? ⟨g,k,none⟩=some (.int .i64 (i:Int))):=fun V hV k i hk=>by
  have ho:=jA7 hl.wq hV
  rcases ho.2 with ⟨_,e⟩ | ⟨g,cap,cur,e,_⟩
  ·have:=jAy hk;omega
  ·injection e with e _ _
   subst e
   exact ⟨g,rfl,(ho.cellAt k (by have:=jAy hk;omega)).trans (jJj hk)⟩
 have HSQ:Hid (∀V,Below x.heap.size x V->∀(k i:Nat),S.Q[k]?=some i->∃g,ia=some ⟨g,0,none⟩/\V.cell? ⟨g,k,none⟩=some (.int .i64 (i:Int))):=fun V hV k i hk=>by
  have ho:=jA7 hiq hV
  rcases ho.2 with ⟨_,e⟩ | ⟨g,cap,cur,e,_⟩
  ·have:=jAy hk;omega
  ·injection e with e _ _
   subst e
   exact ⟨g,rfl,(ho.cellAt k (by have:=jAy hk;omega)).trans (jJj hk)⟩
 have HT1:Hid (∀k i,L[k]?=some i->wd i=true->P.Q[((L.take k).filter wd).length]?=some i):=fun k i hk hw=>by
  have h1:=filt_at (p:=wd) hk hw
  rw[q1,List.getElem?_append_left (jAy h1)]
  exact h1
 have HT2:Hid (∀j,j<M.length->∃i,P.Q[(L.filter wd).length+j]?=some i/\S.Q[j]?=some i/\∀V,Below x.heap.size x V->Calls Tryz.prog 28 #[.slice (some ⟨gs,0,none⟩) c.sl sc,.int .i64 (i:Int)] V fun e w'=>e=.returned (.bool false)/\w'=V):=fun j hj=>by
  have hm:=List.getElem?_eq_getElem hj
  refine ⟨M[j],by rw[q1,List.getElem?_append_right (by omega),Nat.add_sub_cancel_left,hm],by rw[q2,List.getElem?_append_left hj,hm],fun V hV=>among_no V _ gs sc c.sl _ (keepS V hV) hSLl hc2 _ fun s hs e=>?_⟩
  obtain ⟨i,hi,rfl⟩:=List.mem_map.1 hs
  have e2:i=M[j]:=by
   have:((i:Nat):Int)=((M[j]:Nat):Int):=e
   omega
  exact hq.out _ (List.getElem_mem hj) (e2▸hi)
 have HT3:Hid (∀k i,L[k]?=some i->fd i=true->S.Q[M.length+((L.take k).filter fd).length]?=some i):=fun k i hk hf=>by
  have h1:=filt_at (p:=fd) hk hf
  rw[q2,List.getElem?_append_right (by omega),Nat.add_sub_cancel_left]
  exact h1
 have HS1:Hid (∀k i,L[k]?=some i->((L.take (k+1)).filter wd).length=((L.take k).filter wd).length+if wd i=true then 1 else 0):=fun k i hk=>filt_succ hk
 have HS3:Hid (∀k i,L[k]?=some i->((L.take (k+1)).filter fd).length=((L.take k).filter fd).length+if fd i=true then 1 else 0):=fun k i hk=>filt_succ hk
 have HF:Hid (L.take c.sl=L):=by rw[<-hLn];exact List.take_length
 have HLE:Hid (∀k,((L.take k).filter wd).length<=64/\((L.take k).filter fd).length<=64):=fun k=>⟨Nat.le_trans (List.length_filter_le _ _) (by rw[List.length_take];omega),Nat.le_trans (List.length_filter_le _ _) (by rw[List.length_take];omega)⟩
 have HBL:Hid (∀k i,P.Q[k]?=some i->k<P.Q.length):=fun k i hk=>jAy hk
 have HBS:Hid (∀k i,S.Q[k]?=some i->k<S.Q.length):=fun k i hk=>jAy hk
 have B0:Hid (∀V j,Below x.heap.size x V->Below x.heap.size x (V.drewN j)):=fun V j hV=>Tr.bdr hV j
 generalize P.Q.length=ql at *
 generalize S.Q.length=ql' at *
 generalize M.length=ml at *
 generalize c.sl=K at *
 have hqb:ql<=65700:=by omega
 have hml:ml<=65600:=by omega
 have HPq:Hid (ql=(L.filter wd).length+ml):=hPq
 have HSq:Hid (ql'=ml+(L.filter fd).length):=hSq
 clear hPq hSq hfl1
 clear hwd hfd q1 q2 keepS hSLl hr hD d hio hiq hnd htl h hl hq hLn
 obtain ⟨x8,x11,x13⟩:=HRC.out x (Below.refl _ _)
 go_enter Tryz.func9,Tryz.ntmps9
 go_wp2_with fail
 go_loopg [4,5] K (fun gk tv iv wr=>∃k:Nat,gk=K-k/\k<=K/\iv=.int .i64 (k:Int)/\tv=.int .i64 (((L.take k).filter wd).length:Int)/\Below x.heap.size x wr)
 case atStart=>exact ⟨0,by omega,by omega,rfl,rfl,Below.refl _ _⟩
 case round =>
  clear x8 x11 x13
  obtain ⟨k,hgk,hkn,rfl,rfl,hbe⟩:=hrel
  obtain ⟨x8,x11,x13⟩:=HRC.out wr hbe
  obtain ⟨hl1,hl2⟩:=HLE.out k
  have HBE:Hid (Below x.heap.size x wr):=hbe
  by_cases hk:k<K
  ·have hkI:(k:Int)<(K:Int):=by omega
   have w1:IntKind.i64.wrap ((k:Int)+1)=((k+1:Nat):Int):=by rw[IntKind.wrap_i64];omega
   obtain ⟨i,wv,fv,hi,hwi,hfi,c0,c1,c2⟩:=HSL.out wr hbe k hk
   have hs:=HS1.out k i hi
   by_cases hw:wv=-1
   ·have hwt:=hwi.2 hw
    rw[if_pos hwt] at hs
    have hat:=HT1.out k i hi hwt
    have hlt:=HBL.out _ _ hat
    obtain ⟨g,rfl,cq⟩:=HPQ.out wr hbe _ _ hat
    have hw':(wv == -1)=true:=by simpa using hw
    have HSS:Hid _:=hs
    generalize ((L.take k).filter wd).length=tk at *
    have w2:IntKind.i64.wrap ((tk:Int)+1)=((tk+1:Nat):Int):=by rw[IntKind.wrap_i64];omega
    have hltI:¬(ql:Int)<=(tk:Int):=by omega
    have hltI2:(tk:Int)<(ql:Int):=by omega
    have hd1:decide (ql<=tk)=false:=by simp;omega
    have hd2:decide ((ql:Int)<=(tk:Int))=false:=by simp;omega
    have hd3:¬ql<=tk:=by omega
    clear hwi hfi hi hs hat hw hbe HSL HPQ HSQ HT1 HT2 HT3 HS3 HBL HBS
    go_wp2_with fail
    go_quiet (fail)
    go_wp2
    go_roundg (K-(k+1))
    case measure=>omega
    case rel=>exact ⟨k+1,rfl,by omega,rfl,by simp[HSS.out],B0.out _ _ HBE.out⟩
   ·have hwf:¬wd i=true:=fun e=>hw (hwi.1 e)
    rw[if_neg hwf,Nat.add_zero] at hs
    have hw':(wv == -1)=false:=by simpa using hw
    have HSS:Hid _:=hs
    clear hwi hfi hi hs hw hwf hbe
    go_wp2
    go_roundg (K-(k+1))
    case measure=>omega
    case rel=>exact ⟨k+1,rfl,by omega,rfl,by simp[HSS.out],HBE.out⟩
  ·obtain rfl:k=K:=by omega
   have hkI:¬(k:Int)<(k:Int):=by omega
   rw[HF.out] at hl1 ⊢
   obtain ⟨tk,htk⟩:∃tk,(L.filter wd).length=tk:=⟨_,rfl⟩
   rw[htk] at hl1 HPq HT2 ⊢
   clear hbe HT1 HS1 htk
   go_wp2_with fail
   go_loopg [6,7] ml (fun gk av iv wv=>∃j:Nat,gk=ml-j/\j<=ml/\av=.int .i64 (j:Int)/\iv=.int .i64 ((tk+j:Nat):Int)/\Below x.heap.size x wv)
   case atStart=>exact ⟨0,by omega,by omega,rfl,rfl,HBE.out⟩
   case round =>
    clear x8 x11 x13
    obtain ⟨j,hgj,hjn,rfl,rfl,hbe⟩:=hrel
    obtain ⟨x8,x11,x13⟩:=HRC.out _ hbe
    have HB2:Hid _:=hbe
    by_cases hj:j<ml
    ·obtain ⟨i,a1,a2,ham⟩:=HT2.out j hj
     have b1:=HBL.out _ _ a1
     have b2:=HBS.out _ _ a2
     obtain ⟨g,rfl,cq⟩:=HPQ.out _ hbe _ _ a1
     obtain ⟨g2,rfl,cs⟩:=HSQ.out _ hbe _ _ a2
     have w1:IntKind.i64.wrap ((j:Int)+1)=((j+1:Nat):Int):=by rw[IntKind.wrap_i64];omega
     have w2:IntKind.i64.wrap (((tk+j:Nat):Int)+1)=((tk+(j+1):Nat):Int):=by rw[IntKind.wrap_i64];omega
     have HAM:Hid _:=ham
     generalize htj:tk+j=tj at *
     have hd0:(tj:Int)<(ql:Int):=by omega
     have hd1:decide (ql'<=j)=false:=by simp;omega
     have hd2:decide ((ql':Int)<=(j:Int))=false:=by simp;omega
     have hd3:¬ql'<=j:=by omega
     have hd4:¬(ql':Int)<=(j:Int):=by omega
     clear hbe a1 a2 ham HPQ HSQ HT2 HBL HBS HT3 HS3
     go_wp2_with fail
     go_quiet ((go_at_call 28;exact Calls.quiet_of_same (HAM.out _ (B0.out _ _ HB2.out))))
     go_wp2
     go_roundg (ml-(j+1))
     case measure=>omega
     case rel=>exact ⟨j+1,rfl,by omega,rfl,by first | rfl | simp | (rw[<-htj];rfl),B0.out _ _ HB2.out⟩
    ·obtain rfl:j=ml:=by omega
     have HFQ:Hid (tk+j=ql):=HPq.out.symm
     have htq:¬((tk+j:Nat):Int)<(ql:Int):=by have:=HFQ.out;omega
     generalize htj:tk+j=tj at *
     clear hbe HPQ HT2 HBL htj
     go_wp2_with fail
     go_loopg [6,8] k (fun gk av iv wv=>∃m:Nat,gk=k-m/\m<=k/\iv=.int .i64 (m:Int)/\av=.int .i64 ((j+((L.take m).filter fd).length:Nat):Int)/\Below x.heap.size x wv)
     case atStart=>exact ⟨0,by omega,by omega,rfl,by simp,HB2.out⟩
     case round =>
      clear x8 x11 x13
      obtain ⟨m,hgm,hmn,rfl,rfl,hbe⟩:=hrel
      obtain ⟨x8,x11,x13⟩:=HRC.out _ hbe
      have HB3:Hid _:=hbe
      have hl3:=(HLE.out m).2
      by_cases hm:m<k
      ·have hmI:(m:Int)<(k:Int):=by omega
       have w1:IntKind.i64.wrap ((m:Int)+1)=((m+1:Nat):Int):=by rw[IntKind.wrap_i64];omega
       obtain ⟨i,wv,fv,hi,hwi,hfi,c0,c1,c2⟩:=HSL.out _ hbe m hm
       have hs:=HS3.out m i hi
       by_cases hf:fv=-1
       ·have hft:=hfi.2 hf
        rw[if_pos hft] at hs
        have hat:=HT3.out m i hi hft
        have hlt:=HBS.out _ _ hat
        obtain ⟨g,rfl,cq⟩:=HSQ.out _ hbe _ _ hat
        have hf':(fv == -1)=true:=by simpa using hf
        have hs':j+((L.take (m+1)).filter fd).length=(j+((L.take m).filter fd).length)+1:=by omega
        have HSS:Hid _:=hs'
        generalize j+((L.take m).filter fd).length=at_ at *
        have w2:IntKind.i64.wrap ((at_:Int)+1)=((at_+1:Nat):Int):=by rw[IntKind.wrap_i64];omega
        have hd0:(at_:Int)<(ql':Int):=by omega
        have hd1:decide (ql'<=at_)=false:=by simp;omega
        have hd2:decide ((ql':Int)<=(at_:Int))=false:=by simp;omega
        have hd3:¬ql'<=at_:=by omega
        have hd4:¬(ql':Int)<=(at_:Int):=by omega
        clear hwi hfi hi hs hs' hat hf hbe HSL HSQ HT3 HBS
        go_wp2_with fail
        go_quiet (fail)
        go_wp2
        go_roundg (k-(m+1))
        case measure=>omega
        case rel=>exact ⟨m+1,rfl,by omega,rfl,by simp[HSS.out],B0.out _ _ HB3.out⟩
       ·have hff:¬fd i=true:=fun e=>hf (hfi.1 e)
        rw[if_neg hff,Nat.add_zero] at hs
        have hf':(fv == -1)=false:=by simpa using hf
        have HSS:Hid _:=hs
        clear hwi hfi hi hs hf hff hbe
        go_wp2
        go_roundg (k-(m+1))
        case measure=>omega
        case rel=>exact ⟨m+1,rfl,by omega,rfl,by simp[HSS.out],HB3.out⟩
      ·obtain rfl:m=k:=by omega
       have hmI:¬(m:Int)<(m:Int):=by omega
       have hend:j+((L.take m).filter fd).length=ql':=by rw[HF.out];exact HSq.out.symm
       rw[hend]
       have hend':((ql':Int) == (ql':Int))=true:=by simp
       clear hend hbe
       go_wp2
       go_ret
       exact ⟨by first | rfl | simp,HB3.out⟩
structure IsB (w:World)(a:Option Addr)(len:Nat)(L:List (List Tr.Op)):Prop where
 hl:L.length=len
 at_:∀(i:Nat) O,L[i]?=some O->∃pb po,a=some ⟨pb,po,none⟩/\pb<w.heap.size/\∃oa on oc,w.cell? ⟨pb,po+i,none⟩=some (.slice oa on oc)/\Tr.IsO w oa on O/\on*72<=140737488355328
def Rz (w x:World)(c:Ix.Cn)(r:Nat):Prop:=∃T P sl st wo wq,Rn w x c r T P sl st wo wq
def Ry (w x:World)(c:Ix.Cn)(r:Nat):Prop:=∃T U P S L M ss n sl st wo wq,Rn w x c r T S sl st wo wq/\Lb w x c P S L U ss n sl st wo wq/\Qs P S L M/\L.length=c.sl
theorem Ry.rz {w x:World}{c:Ix.Cn}{r:Nat}(h:Ry w x c r):Rz w x c r:=by
 obtain ⟨T,U,P,S,L,M,ss,n,sl,st,wo,wq,h1,_⟩:=h
 exact ⟨_,_,_,_,_,_,h1⟩
theorem Rn.below {w x y:World}{c:Ix.Cn}{r:Nat}{T:Tr.Ts}{P:Ps}{sl st wo wq:Value}(h:Rn w x c r T P sl st wo wq)(hb:Below x.heap.size x y):Rn w y c r T P sl st wo wq:=by
 obtain ⟨b,q,nn,pb,pq,pn,io,iq,nd,h1,h2,h3,h4,h5,h6⟩:=h.ex
 exact ⟨⟨b,q,nn,pb,pq,pn,io,iq,nd,(hb.block _ (jAv h1)).trans h1,h2.below hb,jA7 h3 hb,jA7 h4 hb,jA7 h5 hb,h6⟩,h.rb,h.be.trans (hb.mono h.be.size),h.rt⟩
theorem Rz.below {w x y:World}{c:Ix.Cn}{r:Nat}(h:Rz w x c r)(hb:Below x.heap.size x y):Rz w y c r:=by
 obtain ⟨T,P,sl,st,wo,wq,h1⟩:=h
 exact ⟨T,P,sl,st,wo,wq,h1.below hb⟩
theorem Rz.be {w x:World}{c:Ix.Cn}{r:Nat}(h:Rz w x c r):Below w.heap.size w x:=by
 obtain ⟨T,P,sl,st,wo,wq,h1⟩:=h
 exact h1.be
theorem does_y {w x:World}{c:Ix.Cn}(hc:c.May){r:Nat}(h:Rz w x c r)(a:Option Addr)(n oc:Nat)(O:List Tr.Op)(hO:Tr.IsO x a n O)(hn:n*72<=140737488355328)(hle:n<=c.sl):Calls Tryz.prog 8 #[.pointer (some ⟨r,0,none⟩),.slice a n oc] x fun e y=>e=.returned (.bool true)/\Hid (Ry w y c r):=by
 obtain ⟨T,P,sl,st,wo,wq,h1⟩:=h
 refine (does_ok hc h1 a n oc O hO hn hle).mono ?_
 rintro e y ⟨rfl,HX⟩
 obtain ⟨_,⟨dp,d⟩,sl',st',wo',wq',h2,h3⟩:=HX.out
 have hOl:O.length<=c.sl:=by rw[hO.hl];exact hle
 exact ⟨rfl,_,_,_,_,_,_,_,_,_,_,_,_,h2,h3,qs_of d O hOl,(jM8 d O hOl).2⟩
theorem does_n {w x:World}{c:Ix.Cn}(hc:c.May){r:Nat}(h:Rz w x c r)(a:Option Addr)(n oc:Nat)(O:List Tr.Op)(hO:Tr.IsO x a n O)(hn:n*72<=140737488355328)(hle:¬n<=c.sl):Calls Tryz.prog 8 #[.pointer (some ⟨r,0,none⟩),.slice a n oc] x fun e y=>e=.returned (.bool true)/\Hid (Rz w y c r):=by
 obtain ⟨T,P,sl,st,wo,wq,h1⟩:=h
 refine (does_no hc h1 a n oc O hO hn hle).mono ?_
 rintro e y ⟨rfl,HX⟩
 exact ⟨rfl,_,_,_,_,_,_,HX.out.2⟩
theorem queue_y {w x y:World}{c:Ix.Cn}(hc:c.May){r:Nat}(h:Ry w x c r)(hb:Below x.heap.size x y):Calls Tryz.prog 9 #[.pointer (some ⟨r,0,none⟩)] y fun e z=>e=.returned (.bool true)/\Below y.heap.size y z:=by
 obtain ⟨T,U,P,S,L,M,ss,n,sl,st,wo,wq,h1,h2,h3,h4⟩:=h
 obtain ⟨l,l1,l2,l3⟩:=h2.st
 exact queue_any (h1.below hb) ⟨jA7 h2.sl hb,⟨l,jA7 l1 hb,l2,fun i y hy=>jA7 (l3 i y hy) hb⟩,jA7 h2.wo hb,jA7 h2.wq hb⟩ h3 h4 hc.1.1 hc.1.2.1
theorem isO_nil (w:World):Tr.IsO w none 0 []:=⟨rfl,fun i o h=>(by cases h),fun o h=>(by cases h)⟩
set_option maxRecDepth 20000 in
set_option maxHeartbeats 1000000 in
theorem planQueue_walk (w:World)(hT:Ix.RT w)(c:Ix.Cf)(a:Option Addr)(n bc:Nat)(B:List (List Tr.Op))(hB:IsB w a n B)(hn:n<=9223372036854775807):Calls Tryz.prog 3 #[Ix.cfV c,.slice a n bc] w fun e w'=>e=.returned (.bool true)/\Below w.heap.size w w':=by
 by_cases hc:c.May
 ·obtain ⟨cn,hcn,rfl⟩:=hc.cn
  obtain ⟨W,hW,hb,k0⟩:=jA5 w (cfA cn) 23
  have hst:=start_yes W (hT.next hb) cn hcn
  rw[show Ix.cfV cn.cf=.agg (cfA cn) from rfl] at hst ⊢
  have HC:Hid (∀V,Below W.heap.size W V->V.cell? ⟨w.heap.size,0,none⟩=some (.int .i64 (cn.sl:Int))):=fun V hV=>(Tr.jB4 ((hV.block _ (jAv k0)).trans k0)).1
  obtain ⟨x0,x1,x2,x3,x4,x5⟩:=Tr.jB4 k0
  have HBW:Hid (∀V,Below W.heap.size W V->Below w.heap.size w V):=fun V hV=>hb.trans (hV.mono hb.size)
  have HIW:Hid (∀k,k<n->∃O pb po oa on oc,a=some ⟨pb,po,none⟩/\on*72<=140737488355328/\∀V,Below W.heap.size W V->V.cell? ⟨pb,po+k,none⟩=some (.slice oa on oc)/\Tr.IsO V oa on O):=fun k hk=>by
   obtain ⟨O,hO⟩:∃O,B[k]?=some O:=⟨_,List.getElem?_eq_getElem (by rw[hB.hl];exact hk)⟩
   obtain ⟨pb,po,e,hp,oa,on,oc,hc,hI,hn⟩:=hB.at_ k O hO
   exact ⟨O,pb,po,oa,on,oc,e,hn,fun V hV=>⟨((hb.trans (hV.mono hb.size)).cell hp).trans hc,hI.below (hb.trans (hV.mono hb.size))⟩⟩
  have HDY:Hid (∀x r a n oc O,Rz W x cn r->Tr.IsO x a n O->n*72<=140737488355328->n<=cn.sl->Calls Tryz.prog 8 #[.pointer (some ⟨r,0,none⟩),.slice a n oc] x fun e y=>e=.returned (.bool true)/\Hid (Ry W y cn r)):=fun x r a n oc O h1 h2 h3 h4=>does_y hcn h1 a n oc O h2 h3 h4
  have HDN:Hid (∀x r a n oc O,Rz W x cn r->Tr.IsO x a n O->n*72<=140737488355328->¬n<=cn.sl->Calls Tryz.prog 8 #[.pointer (some ⟨r,0,none⟩),.slice a n oc] x fun e y=>e=.returned (.bool true)/\Hid (Rz W y cn r)):=fun x r a n oc O h1 h2 h3 h4=>does_n hcn h1 a n oc O h2 h3 h4
  have HQ:Hid (∀x y r,Ry W x cn r->Below x.heap.size x y->Calls Tryz.prog 9 #[.pointer (some ⟨r,0,none⟩)] y fun e z=>e=.returned (.bool true)/\Below y.heap.size y z):=fun x y r h1 h2=>queue_y hcn h1 h2
  unfold cfA at *
  clear hcn hc hB hb k0 hT
  go_enter Tryz.func3,Tryz.ntmps3
  go_wp2_with fail
  refine hst.mono ?_
  rintro e x0w ⟨r,rfl,HR⟩
  have HRZ:Hid (Rz W x0w cn r):=⟨_,_,_,_,_,_,HR.out⟩
  clear x0 x1 x2 x3 x4 x5 hst HR
  go_wp2_with fail
  go_loopg [7] n (fun gk iv wr=>∃k:Nat,gk=n-k/\k<=n/\iv=.int .i64 (k:Int)/\Hid (Rz W wr cn r))
  case atStart=>exact ⟨0,by omega,by omega,rfl,HRZ⟩
  case round =>
   clear HRZ
   obtain ⟨k,hgk,hkn,rfl,HRZ⟩:=hrel
   by_cases hk:k<n
   ·have hkI:(k:Int)<(n:Int):=by omega
    have w1:IntKind.i64.wrap ((k:Int)+1)=((k+1:Nat):Int):=by rw[IntKind.wrap_i64];omega
    obtain ⟨O,pb,po,oa,on,oc,rfl,hon,hib⟩:=HIW.out k hk
    obtain ⟨cb,hI⟩:=hib wr HRZ.out.be
    have HIB:Hid (∀V,Below W.heap.size W V->V.cell? ⟨pb,po+k,none⟩=some (.slice oa on oc)/\V.cell? ⟨w.heap.size,0,none⟩=some (.int .i64 (cn.sl:Int))):=fun V hV=>⟨(hib V hV).1,HC.out V hV⟩
    have hca:=HC.out wr HRZ.out.be
    by_cases hle:on<=cn.sl
    ·have hdy:=HDY.out wr r oa on oc O HRZ.out hI hon hle
     have hleI:(on:Int)<=(cn.sl:Int):=by omega
     have hd1:decide ((on:Int)<=(cn.sl:Int))=true:=by simp;omega
     have hd2:decide (on<=cn.sl)=true:=by simp;omega
     have HLE:Hid (on<=cn.sl):=hle
     clear hI hle hon hib
     go_wp2_with fail
     refine hdy.mono ?_
     rintro e y1 ⟨rfl,HY⟩
     have hle:=HLE.out
     have HYB:Hid (∀j,Below W.heap.size W (y1.drewN j)/\Below y1.heap.size y1 (y1.drewN j)):=fun j=>⟨Tr.bdr HY.out.rz.be j,Tr.bdr (Below.refl _ _) j⟩
     clear cb hca hdy HRZ
     go_wp2_with fail
     go_region_held_law (fun V=>V.cell? ⟨pb,po+k,none⟩=some (.slice oa on oc)/\V.cell? ⟨w.heap.size,0,none⟩=some (.int .i64 (cn.sl:Int))) (first | exact HIB.out _ (HYB.out _).1 | exact HIB.out _ hbz | go_keep) (first
      | (go_at_call 9;refine (HQ.out y1 _ r HY.out (HYB.out 1).2).mono ?_;rintro e z ⟨rfl,hz⟩;have hbz:Below W.heap.size W z:=(HYB.out 1).1.trans (hz.mono (HYB.out 1).1.size)))
     all_goals
      go_wp2
      go_roundg (n-(k+1))
      case measure=>omega
      case rel=>exact ⟨k+1,rfl,by omega,rfl,HY.out.rz.below ((HYB.out 1).2.trans (hz.mono (HYB.out 1).2.size))⟩
    ·have hdn:=HDN.out wr r oa on oc O HRZ.out hI hon hle
     have hleI:¬(on:Int)<=(cn.sl:Int):=by omega
     have hd1:decide ((on:Int)<=(cn.sl:Int))=false:=by simp;omega
     have hd2:decide (on<=cn.sl)=false:=by simp;omega
     clear hI hle hon hib
     go_wp2_with fail
     refine hdn.mono ?_
     rintro e y1 ⟨rfl,HY⟩
     clear cb hca hdn HRZ
     obtain ⟨cb,hca⟩:=HIB.out y1 HY.out.be
     go_wp2_with fail
     go_quiet (fail)
     go_wp2
     go_roundg (n-(k+1))
     case measure=>omega
     case rel=>exact ⟨k+1,rfl,by omega,rfl,HY.out.below (Tr.bdr (Below.refl _ _) _)⟩
   ·obtain rfl:k=n:=by omega
    have hkI:¬(k:Int)<(k:Int):=by omega
    have hdy:=HDY.out wr r none 0 0 [] HRZ.out (isO_nil wr) (by omega) (by omega)
    go_wp2_with fail
    refine hdy.mono ?_
    rintro e y1 ⟨rfl,HY⟩
    have hq:=HQ.out y1 y1 r HY.out (Below.refl _ _)
    clear hdy
    go_wp2_with fail
    refine hq.mono ?_
    rintro e z ⟨rfl,hz⟩
    go_wp2
    go_ret
    exact ⟨rfl,HBW.out _ (HY.out.rz.be.trans (hz.mono HY.out.rz.be.size))⟩
 ·obtain ⟨c0,c1,c2,c3,c4,c5⟩:=c
  obtain ⟨W,hW,hb,k0⟩:=jA5 w #[.int .i64 c0,.int .i64 c1,.int .i64 c2,.int .i64 c3,.int .i64 c4,.int .i64 c5] 23
  have hst:=start_no W (hT.next hb) ⟨c0,c1,c2,c3,c4,c5⟩ hc
  rw[show Ix.cfV ⟨c0,c1,c2,c3,c4,c5⟩=.agg #[.int .i64 c0,.int .i64 c1,.int .i64 c2,.int .i64 c3,.int .i64 c4,.int .i64 c5] from rfl] at hst ⊢
  obtain ⟨x0,x1,x2,x3,x4,x5⟩:=Tr.jB4 k0
  have HB:Hid (Below w.heap.size w W):=hb
  clear hc hT hB k0 hb
  go_enter Tryz.func3,Tryz.ntmps3
  go_wp2_with fail
  refine hst.mono ?_
  rintro e y ⟨rfl,hy⟩
  go_wp2
  go_ret
  exact ⟨rfl,HB.out.trans (hy.mono HB.out.size)⟩
end Go.Proofs.YtflpnnfhdkmkdaaGreatDoor.Po.Pn
namespace Go.Proofs.YtflpnnfhdkmkdaaGreatDoor.Po.Pn
open Go.ChangeShapes Go.WideShapes Go.ChangeAt Go.RowKit Go.Deep
theorem cellsBt:Tryz.prog.cellsOf 31=1:=by kernel_rfl
theorem cellsOps:Tryz.prog.cellsOf 29=1:=by kernel_rfl
set_option maxRecDepth 40000 in
set_option maxHeartbeats 1000000 in
theorem bt_of {H:Type}{enc:TypeId × Value->H}{W:World}{cs:List Value}{y:DataW H × List MemPlace}{fuel:Nat}(hl:cs.length=1)(h2:DataW.trod enc Tryz.prog W 0 (fun _=>true) true fuel 31 cs=some y):∃oa on oc,cs=[.slice oa on oc]/\∃O,Tr.IsO W oa on O/\(on=0\/∃m,on<=m/\m*72∈y.1.weights Tryz.prog 31):=by
 obtain ⟨xs,k,hk,hxy,_,hxl,hfl⟩:=DataW.trod_struct Tryz.underlying31 h2
 match xs,hxl,cs,hl with
 | [y0],_,[v0],_ =>
   have g0:=hfl 0 _ rfl
   simp[cellsOps] at g0
   have hv:∃oa on oc,v0=.slice oa on oc:=by
    rcases open_slice Tryz.underlying29 g0 with ⟨hcs,_⟩ | ⟨x,len',cap',m,n,D,Pl,hcs,_⟩
    ·exact ⟨_,_,_,by simpa using hcs⟩
    ·exact ⟨_,_,_,by simpa using hcs⟩
   obtain ⟨oa,on,oc,rfl⟩:=hv
   obtain ⟨O,hO,hw⟩:=Tr.ops_of (a:=oa) (len:=on) (cap:=oc) (d:=y0.1) (ps:=y0.2) ⟨k,g0⟩
   refine ⟨oa,on,oc,rfl,O,hO,?_⟩
   rcases hw with h | ⟨m,h1,h3⟩
   ·exact .inl h
   ·refine .inr ⟨m,h1,?_⟩
    rw[hxy]
    simp only[DataW.weights,Tryz.underlying31,List.map_cons,List.map_nil,DataW.weightsEach]
    exact List.mem_append_left _ h3
theorem weights_in {H:Type}{t:TypeId}{n:Nat}{d:DataW H}(hn:n∈d.weights Tryz.prog t):∀l:List (DataW H),d∈l->n∈DataW.weightsAll Tryz.prog t l
 | [],h=>by cases h
 | x :: r,h=>by
   simp only[DataW.weightsAll]
   rcases List.mem_cons.1 h with rfl | h
   ·exact List.mem_append_left _ hn
   ·exact List.mem_append_right _ (weights_in hn r h)
set_option maxRecDepth 40000 in
theorem batches_of {H:Type}{enc:TypeId × Value->H}{W:World}{a:Option Addr}{len cap:Nat}{d:DataW H}{ps:List MemPlace}(h:DataW.Trod enc Tryz.prog W 0 (fun _=>true) true 24 (.slice a len cap) d ps)(hw:∀n,n∈d.weights Tryz.prog 24->n<=140737488355328) :
 ∃B:List (List Tr.Op),IsB W a len B/\len<=9223372036854775807:=by
 obtain ⟨fuel,hf⟩:=h
 rcases open_slice1 Tryz.underlying24 cellsBt hf with ⟨hcs,_⟩ | ⟨x,len',cap',m,n,V,D,Pl,hcs,_,hl,hm,hmm,hx0,hx⟩
 ·simp[Value.cells] at hcs
  obtain ⟨rfl,rfl,rfl⟩:=hcs
  exact ⟨[],⟨rfl,fun i O h=>by cases h⟩,by omega⟩
 ·simp[Value.cells] at hcs
  obtain ⟨rfl,rfl,rfl⟩:=hcs
  simp only[if_true] at hmm
  subst hmm
  have hy1:d=.slice ((List.range len).map D) ((List.range (m-len)).map fun j=>D (len+j)):=by
   simp only[Prod.mk.injEq] at hx0
   exact hx0.1
  have each:∀i,i<len->∃O:List Tr.Op,∃oa on oc,V i=.slice oa on oc/\Tr.IsO W oa on O/\on*72<=140737488355328:=fun i hi=>by
   obtain ⟨h1,h2⟩:=hx i (by omega)
   obtain ⟨oa,on,oc,e,O,hO,hz⟩:=bt_of rfl h2
   have e':V i=.slice oa on oc:=by simpa using e
   refine ⟨O,oa,on,oc,e',hO,?_⟩
   rcases hz with h | ⟨m',h3,h4⟩
   ·omega
   ·have h5:m'*72∈d.weights Tryz.prog 24:=by
     rw[hy1]
     simp only[DataW.weights,Tryz.underlying24]
     refine List.mem_cons_of_mem _ (List.mem_append_left _ (weights_in h4 _ ?_))
     rw[List.mem_map]
     exact ⟨i,List.mem_range.2 hi,rfl⟩
    have:=hw _ h5
    omega
  haveI:Inhabited (List Tr.Op):=⟨[]⟩
  obtain ⟨q,hq⟩:=choose_lt each
  refine ⟨(List.range len).map q,⟨by simp,fun i O ho=>?_⟩,by unfold maxLen at hm;omega⟩
  have hi:=(List.getElem?_eq_some_iff.1 ho).1
  simp at hi
  rw[List.getElem?_map,List.getElem?_range hi] at ho
  obtain rfl:=Option.some.inj ho
  obtain ⟨oa,on,oc,e,hO,hz⟩:=hq i hi
  obtain ⟨b,off,spot⟩:=x
  have h0:=(hx i (by omega)).1
  rw[e] at h0
  have hspot:spot=none:=by simpa[Addr.add] using World.cell?_spot (hx 0 (by omega)).1
  subst hspot
  rw[Addr.add_lit] at h0
  exact ⟨b,off,rfl,block_lt_of_cell h0,oa,on,oc,h0,hO,hz⟩
end Go.Proofs.YtflpnnfhdkmkdaaGreatDoor.Po.Pn
