import Derived.Test.YtfnklhajafmooaaGreatDoorPqLd
set_option maxHeartbeats 4000000
set_option maxRecDepth 40000
namespace Go.Proofs.YtfnklhajafmooaaGreatDoor.Po.Pn
open Go.RowKit Go.Lib Go.Deep
theorem poolNew_ok (w:World)(f s:Nat)(hf:1<=f/\f<=65536)(hs:1<=s/\s<=64):Calls Tryz.prog 24 #[.int .i64 (f:Int),.int .i64 (s:Int)] w fun e w'=>∃pb q,e=.returned (.tuple #[.pointer (some ⟨pb,0,none⟩),.int .i64 0])/\Hid (∃F,Ok w' pb q F 0 (newP f s))/\Below w.heap.size w w':=by
 have h:=new_any w (f:Int) (s:Int)
 have hr:jL4 (f:Int) (s:Int)=true:=decide_eq_true (by omega)
 refine h.mono ?_
 intro e w' he
 rw[if_pos hr] at he
 obtain ⟨pb,q,F,rfl,hok,_,_,hb⟩:=he
 rw[Int.toNat_natCast,Int.toNat_natCast] at hok
 exact ⟨pb,q,rfl,⟨F,hok⟩,hb⟩
theorem dk_new (c:Ix.Cn)(h:c.In):Dk c (Tr.newT c.fl c.dr c.mf) (fun _=>0) (newP c.fl c.sl):=by
 obtain ⟨i1,i2,i3,i4,_⟩:=h
 have hg:=good_new (f:=c.fl) (s:=c.sl) ⟨i3,i4⟩ ⟨i1,i2⟩
 refine ⟨Tr.newT_inv _ _ _,rfl,rfl,rfl,hg,rfl,by simp[newP],(jJq hg).2 fun i o hi ho=>?_,fun x=>?_⟩
 ·have:=jAy hi
  simp[newP] at this ⊢
  omega
 ·constructor
  ·rintro ⟨r,hr⟩
   simp[Tr.newT] at hr
  ·intro hh
   obtain ⟨i,o,hi,ho⟩:=jFx.1 hh
   simp only[newP,List.getElem?_replicate] at hi
   split at hi
   ·have:=Option.some.inj hi
    subst this
    simp[dOb] at ho
   ·cases hi
theorem start_no (w:World)(hT:Ix.RT w)(c:Ix.Cf)(hc:¬c.May):Calls Tryz.prog 7 #[Ix.cfV c] w fun e w'=>e=.returned (.tuple #[.pointer none,.bool true])/\Below w.heap.size w w':=by
 obtain ⟨c0,c1,c2,c3,c4,c5⟩:=c
 obtain ⟨W,hW,hb,k0⟩:=jA5 w #[.int .i64 c0,.int .i64 c1,.int .i64 c2,.int .i64 c3,.int .i64 c4,.int .i64 c5] 23
 have hch:=Ix.rcheck_any ⟨c0,c1,c2,c3,c4,c5⟩ W
 have hE:Ix.chkE ⟨c0,c1,c2,c3,c4,c5⟩=140:=by unfold Ix.chkE;rw[if_neg hc]
 rw[hE] at hch
 have HMK:Hid (∀V b pb,Below W.heap.size W V->Calls Tryz.prog 25 #[Ix.cfV ⟨c0,c1,c2,c3,c4,c5⟩,.pointer (some ⟨b,0,none⟩),.pointer (some ⟨pb,0,none⟩),.slice none 0 0] V fun e w'=>e=.returned (.tuple #[.agg #[.slice none 0 0,.slice none 0 0],.pointer none,.pointer none,.int .i64 140])/\Below V.heap.size V w'):=fun V b pb hV=>make_cfg V ((hT.next hb).next hV) _ hc b pb none 0 0
 rw[show Ix.cfV ⟨c0,c1,c2,c3,c4,c5⟩=.agg #[.int .i64 c0,.int .i64 c1,.int .i64 c2,.int .i64 c3,.int .i64 c4,.int .i64 c5] from rfl] at hch HMK ⊢
 have HC:Hid (∀V,Below W.heap.size W V->V.cell? ⟨w.heap.size,0,none⟩=some (.int .i64 c0)/\V.cell? ⟨w.heap.size,1,none⟩=some (.int .i64 c1)/\V.cell? ⟨w.heap.size,2,none⟩=some (.int .i64 c2)/\V.cell? ⟨w.heap.size,3,none⟩=some (.int .i64 c3)/\V.cell? ⟨w.heap.size,4,none⟩=some (.int .i64 c4)/\V.cell? ⟨w.heap.size,5,none⟩=some (.int .i64 c5)):=fun V hV=>Tr.jB4 ((hV.block _ (jAv k0)).trans k0)
 have HB:Hid (Below w.heap.size w W):=hb
 obtain ⟨x0,x1,x2,x3,x4,x5⟩:=HC.out W (Below.refl _ _)
 have HTN:Hid (∀V:World,_):=fun V=>Tr.new_any V 1 0 0 (by omega) (by omega) (by omega) (by omega)
 have HPN:Hid (∀V:World,_):=fun V=>poolNew_ok V 1 1 (by omega) (by omega)
 have HN:Hid _:=jIj
 clear hE hb k0 hc hT
 go_enter Tryz.func7,Tryz.ntmps7
 go_wp2_with fail
 refine hch.mono ?_
 rintro e w1 ⟨rfl,hb1⟩
 have htn:=HTN.out w1
 clear x0 x1 x2 x3 x4 x5 hch
 go_wp2_with fail
 refine htn.mono ?_
 rintro e w2 ⟨b,q,rfl,-,hb2⟩
 have hpn:=HPN.out w2
 clear htn
 go_wp2_with fail
 refine hpn.mono ?_
 rintro e w3 ⟨pb,pq,rfl,-,hb3⟩
 have hbW2:=hb1.trans (hb2.mono hb1.size)
 have hbW3:=hbW2.trans (hb3.mono hbW2.size)
 have hmk:=HMK.out w3 b pb hbW3
 obtain ⟨x0,x1,x2,x3,x4,x5⟩:=HC.out w3 hbW3
 have HB3:Hid (Below W.heap.size W w3):=hbW3
 clear hpn hb1 hb2 hb3 hbW2 hbW3
 go_wp2_with fail
 refine hmk.mono ?_
 rintro e w4 ⟨rfl,hb4⟩
 have HB4:Hid (Below W.heap.size W w4):=HB3.out.trans (hb4.mono HB3.out.size)
 clear x0 x1 x2 x3 x4 x5 hmk hb4
 obtain ⟨U,hU,hbU,-⟩:=jA5 w4 #[.slice none 0 0,.slice none 0 0] 40
 have HU:Hid _:=hU
 have HBU:Hid (Below w.heap.size w U):=by
  have h1:=HB.out.trans (HB4.out.mono HB.out.size)
  exact h1.trans (hbU.mono h1.size)
 have hn:=HN.out 140 U
 clear hU hbU
 go_upto_region 5 with fail
 rw[HU.out]
 go_wp2_with fail
 refine hn.mono ?_
 rintro e w9 ⟨rfl,hw9⟩
 subst w9
 go_wp2
 go_ret2
 exact ⟨rfl,HBU.out⟩
theorem start_yes (w:World)(hT:Ix.RT w)(c:Ix.Cn)(hc:c.May):Calls Tryz.prog 7 #[Ix.cfV c.cf] w fun e w'=>∃r,e=.returned (.tuple #[.pointer (some ⟨r,0,none⟩),.bool true])/\Hid (Rn w w' c r (Tr.newT c.fl c.dr c.mf) (newP c.fl c.sl) (.slice none 0 0) (.slice none 0 0) (.slice none 0 0) (.slice none 0 0)):=by
 obtain ⟨i1,i2,i3,i4,i5,i6,i7,i8,i9,i10⟩:=hc.1
 obtain ⟨W,hW,hb,k0⟩:=jA5 w (cfA c) 23
 have hch:=Ix.rcheck_any c.cf W
 have hE:Ix.chkE c.cf=0:=by unfold Ix.chkE;rw[if_pos hc.cf]
 rw[hE] at hch
 rw[show Ix.cfV c.cf=.agg (cfA c) from rfl] at hch ⊢
 have HC:Hid (∀V,Below W.heap.size W V->V.cell? ⟨w.heap.size,0,none⟩=some (.int .i64 (c.sl:Int))/\V.cell? ⟨w.heap.size,1,none⟩=some (.int .i64 (c.fl:Int))/\V.cell? ⟨w.heap.size,2,none⟩=some (.int .i64 (c.dr:Int))/\V.cell? ⟨w.heap.size,3,none⟩=some (.int .i64 (c.mf:Int))/\V.cell? ⟨w.heap.size,4,none⟩=some (.int .i64 (c.ls:Int))/\V.cell? ⟨w.heap.size,5,none⟩=some (.int .i64 (c.pg:Int))):=fun V hV=>Tr.jB4 ((hV.block _ (jAv k0)).trans k0)
 have HB:Hid (Below w.heap.size w W):=hb
 obtain ⟨x0,x1,x2,x3,x4,x5⟩:=HC.out W (Below.refl _ _)
 have HTN:Hid (∀V:World,Calls Tryz.prog 23 #[.int .i64 (c.fl:Int),.int .i64 (c.dr:Int),.int .i64 (c.mf:Int)] V _):=fun V=>Tr.new_any V c.fl c.dr c.mf i3 i4 i5 i6
 have HPN:Hid (∀V:World,Calls Tryz.prog 24 #[.int .i64 (c.fl:Int),.int .i64 (c.sl:Int)] V _):=fun V=>poolNew_ok V c.fl c.sl ⟨i3,i4⟩ ⟨i1,i2⟩
 have HN:Hid _:=jIj
 obtain ⟨T,hT'⟩:∃T,Tr.newT c.fl c.dr c.mf=T:=⟨_,rfl⟩
 obtain ⟨P,hP⟩:∃P,newP c.fl c.sl=P:=⟨_,rfl⟩
 have hdk:=dk_new c hc.1
 rw[hT',hP] at hdk
 rw[hT'] at HTN
 rw[hP] at HPN
 have HDW:Hid (∀w2 w3 Y b q pb pq B,Tr.Tre w2 B b q 0 T->(∃F,Ok w3 pb pq F 0 P)->Below w2.heap.size w2 Y->Below w3.heap.size w3 Y->Dw Y c b q 0 pb pq 0 T P):=fun w2 w3 Y b q pb pq B h1 ⟨PF,h2⟩ h3 h4=>by
  obtain ⟨g1,_,F,g2,_⟩:=h1
  exact ⟨⟨_,hdk⟩,F,PF,(h3.block _ (jAv g1)).trans g1,g2.below h3,⟨h2.top.below h4,h2.lay.below h4,h2.good,h2.nn⟩⟩
 have HSP:Hid (∀Y b q pb pq,Dw Y c b q 0 pb pq 0 T P->Calls Tryz.prog 26 #[.pointer (some ⟨pb,0,none⟩)] Y fun e w'=>∃oa oc qa qc,e=.returned (.agg #[.slice oa P.R.length oc,.slice qa P.Q.length qc])/\Hid (w'.ownsRow Y.heap.size 60 4 (.slice oa P.R.length oc) P.R.length (obsC P.R)/\w'.ownsRow Y.heap.size 3 1 (.slice qa P.Q.length qc) P.Q.length (nsC P.Q))/\Below Y.heap.size Y w'):=fun Y b q pb pq hD=>by
  obtain ⟨F,PF,g1,g2,g3⟩:=hD.ex
  refine (jH9 Y pb pq PF _ P g3).mono ?_
  rintro e w' ⟨ov,qv,rfl,h1,h2,hb'⟩
  obtain ⟨oa,oc,rfl⟩:=jBy h1
  obtain ⟨qa,qc,rfl⟩:=jBy h2
  exact ⟨oa,oc,qa,qc,rfl,⟨h1,h2⟩,hb'⟩
 have HST:Hid (∀Y b q pb pq,Dw Y c b q 0 pb pq 0 T P->Calls Tryz.prog 21 #[.pointer (some ⟨b,0,none⟩)] Y fun e w'=>∃a c',e=.returned (.agg #[.int .i64 (c.fl:Int),.int .i64 (c.dr:Int),.slice a (Tr.told T).length c'])/\Hid (w'.ownsRow Y.heap.size 91 5 (.slice a (Tr.told T).length c') (Tr.told T).length (Tr.ndsc (Tr.told T))/\(Tr.told T).length<=1000000)/\Below Y.heap.size Y w'):=fun Y b q pb pq hD=>by
  obtain ⟨F,PF,g1,g2,g3⟩:=hD.ex
  refine (Tr.jJ9 Y 0 b q _ T ⟨g1,Nat.zero_le _,F,g2,fun _ _=>Nat.zero_le _⟩ (by rw[hdk.dr];omega)).mono ?_
  rintro e w' ⟨a,c',rfl,HO,hb',hl⟩
  refine ⟨a,c',?_,⟨HO.out,hl⟩,hb'⟩
  rw[hdk.fr,show ((T.dr:Int)-1)=(c.dr:Int) by rw[hdk.dr];omega]
 have HRT:Hid (Ix.RT w):=hT
 rw[hT',hP]
 generalize hpl:P.R.length=pl at *
 generalize hql:P.Q.length=ql at *
 generalize htl:(Tr.told T).length=tl at *
 have HLS:Hid (P.R.length=pl/\P.Q.length=ql/\(Tr.told T).length=tl):=⟨hpl,hql,htl⟩
 unfold cfA at *
 clear hE hb k0 hc hT hT' hP hdk hpl hql htl
 go_enter Tryz.func7,Tryz.ntmps7
 go_wp2_with fail
 refine hch.mono ?_
 rintro e w1 ⟨rfl,hb1⟩
 have htn:=HTN.out w1
 clear x0 x1 x2 x3 x4 x5 hch
 obtain ⟨x0,x1,x2,x3,x4,x5⟩:=HC.out w1 hb1
 go_wp2_with fail
 refine htn.mono ?_
 rintro e w2 ⟨b,q,rfl,HT2,hb2⟩
 have hpn:=HPN.out w2
 have hbW2:=hb1.trans (hb2.mono hb1.size)
 clear htn x0 x1 x2 x3 x4 x5
 obtain ⟨x0,x1,x2,x3,x4,x5⟩:=HC.out w2 hbW2
 go_wp2_with fail
 refine hpn.mono ?_
 rintro e w3 ⟨pb,pq,rfl,HP3,hb3⟩
 have hbW3:=hbW2.trans (hb3.mono hbW2.size)
 have HB3:Hid (Below w2.heap.size w2 w3/\Below W.heap.size W w3):=⟨hb3,hbW3⟩
 clear hpn x0 x1 x2 x3 x4 x5
 obtain ⟨x0,x1,x2,x3,x4,x5⟩:=HC.out w3 hbW3
 have hn:=HN.out 0 w3
 have HNN:Hid _:=hn
 clear hb1 hb2 hb3 hbW2 hbW3
 go_wp2_with fail
 refine hn.mono ?_
 rintro e w9 ⟨rfl,hw9⟩
 subst w9
 go_wp2_with fail
 refine hn.mono ?_
 rintro e w9 ⟨rfl,hw9⟩
 subst w9
 obtain ⟨U,hU,hbU,kU⟩:=jA5 w3 #[.int .i64 (c.sl:Int),.int .i64 (c.fl:Int),.int .i64 (c.dr:Int),.int .i64 (c.mf:Int),.int .i64 (c.ls:Int),.int .i64 (c.pg:Int),.pointer (some ⟨b,0,none⟩),.pointer (some ⟨pb,0,none⟩),.slice none 0 0,.slice none 0 0,.slice none 0 0,.slice none 0 0,.slice none 0 0,.slice none 0 0,.int .i64 0,.int .i64 0,.slice none 0 0] 51
 have HU:Hid _:=hU
 have HKU:Hid _:=kU
 have HBU:Hid _:=hbU
 clear hU kU hbU hn
 go_upto_region 11 with fail
 rw[HU.out]
 have hd:=HDW.out w2 w3 U b q pb pq _ HT2.out HP3.out (HB3.out.1.trans (HBU.out.mono HB3.out.1.size)) HBU.out
 have hsp:=HSP.out U b q pb pq hd
 have HD:Hid _:=hd
 have hge:w.heap.size<=w3.heap.size:=by have:=HB.out.size;have:=HB3.out.2.size;omega
 have HGE:Hid (w.heap.size<=w3.heap.size):=hge
 have HBW:Hid (Below w.heap.size w w3):=HB.out.trans (HB3.out.2.mono HB.out.size)
 clear hd hge x0 x1 x2 x3 x4 x5 HU HSP HDW HTN HPN HC
 generalize hrr:w3.heap.size=r at *
 go_wp2_with fail
 refine hsp.mono ?_
 rintro e Y2 ⟨oa,oc,qa,qc,rfl,HO2,hb2⟩
 have kr2:=(hb2.block _ (jAv HKU.out)).trans HKU.out
 have r12:Y2.cell? ⟨r,12,none⟩=some (.slice none 0 0):=(jAj kr2).trans rfl
 have r13:Y2.cell? ⟨r,13,none⟩=some (.slice none 0 0):=(jAj kr2).trans rfl
 have f12:Y2.frozen? ⟨r,12,none⟩=false:=jAq kr2
 have f13:Y2.frozen? ⟨r,13,none⟩=false:=jAq kr2
 have HR2:Hid _:=kr2
 have HB2:Hid _:=hb2
 clear kr2 hb2 hsp
 go_upto_region 12 with fail
 refine jBj (R:=fun V=>Code.wp _ _ _ _ V) (Q:=fun Y=>Ky r Y2 Y/\Y.heap[r]?=some (.cells #[.int .i64 (c.sl:Int),.int .i64 (c.fl:Int),.int .i64 (c.dr:Int),.int .i64 (c.mf:Int),.int .i64 (c.ls:Int),.int .i64 (c.pg:Int),.pointer (some ⟨b,0,none⟩),.pointer (some ⟨pb,0,none⟩),.slice none 0 0,.slice none 0 0,.slice none 0 0,.slice none 0 0,.slice oa pl oc,.slice qa ql qc,.int .i64 0,.int .i64 0,.slice none 0 0] 51 (0,0))) _ ⟨((Ky.of (Below.refl _ _)).set 12 _).set 13 _,rset (rset HR2.out)⟩ ?_
 rintro Y3 ⟨hK3,k3⟩
 have hd3:=hK3.dw HR2.out (HD.out.below HB2.out)
 have hst:=HST.out Y3 b q pb pq hd3
 have HD3:Hid _:=hd3
 have HR3:Hid _:=k3
 have HK3:Hid (Ky r Y2 Y3):=hK3
 clear hd3 hK3 k3 r12 r13 f12 f13 HST
 go_wp2_with fail
 refine hst.mono ?_
 rintro e Y4 ⟨na,nc,rfl,HO4,hb4⟩
 have kr4:=(hb4.block _ (jAv HR3.out)).trans HR3.out
 have r14:Y4.cell? ⟨r,14,none⟩=some (.int .i64 0):=(jAj kr4).trans rfl
 have r15:Y4.cell? ⟨r,15,none⟩=some (.int .i64 0):=(jAj kr4).trans rfl
 have r16:Y4.cell? ⟨r,16,none⟩=some (.slice none 0 0):=(jAj kr4).trans rfl
 have f14:Y4.frozen? ⟨r,14,none⟩=false:=jAq kr4
 have f15:Y4.frozen? ⟨r,15,none⟩=false:=jAq kr4
 have f16:Y4.frozen? ⟨r,16,none⟩=false:=jAq kr4
 have HR4:Hid _:=kr4
 have HB4:Hid _:=hb4
 clear kr4 hb4 hst
 go_upto_region 13 with fail
 refine jBj (R:=fun V=>Code.wp _ _ _ _ V) (Q:=fun Y=>Ky r Y4 Y/\Y.heap[r]?=some (.cells (rnA c b pb (.slice none 0 0) (.slice none 0 0) (.slice none 0 0) (.slice none 0 0) (.slice oa pl oc) (.slice qa ql qc) (.slice na tl nc)) 51 (0,0))) _ ⟨(((Ky.of (Below.refl _ _)).set 14 _).set 15 _).set 16 _,rset (rset (rset HR4.out))⟩ ?_
 rintro Y5 ⟨hK5,k5⟩
 have HK5:Hid _:=hK5
 have HR5:Hid _:=k5
 clear hK5 k5 r14 r15 r16 f14 f15 f16
 go_wp2
 go_ret2
 obtain ⟨e1,e2,e3⟩:=HLS.out
 have hK25:Ky r Y2 Y5:=(HK3.out.trans (Ky.of HB4.out)).trans HK5.out
 have hKw:Ky r w3 Y5:=(Ky.of (by rw[hrr];exact HBU.out.trans (HB2.out.mono (by have:=HBU.out.size;omega)))).trans hK25
 have hbY:=hKw.base HBW.out HGE.out
 have s1:=HBU.out.size
 have s2:=HGE.out
 have s3:=HB2.out.size
 have s4:=HK3.out.size
 refine ⟨r,rfl,⟨b,q,0,pb,pq,0,_,_,_,HR5.out,HK5.out.dw HR4.out (HD3.out.below HB4.out),?_,?_,?_,?_⟩,HGE.out,hbY,HRT.out⟩
 ·rw[e1]
  exact jB6 (hK25.row HR2.out HO2.out.1 (by decide)) (by omega)
 ·rw[e2]
  exact jB6 (hK25.row HR2.out HO2.out.2 (by decide)) (by omega)
 ·rw[e3]
  exact jB6 (HK5.out.row HR4.out HO4.out.1 (by decide)) (by omega)
 ·rw[e3]
  exact HO4.out.2
theorem sl_cells {w:World}{B g cap n:Nat}{l:List Sl}(h:w.ownsRow B 53 4 (.slice (some ⟨g,0,none⟩) n cap) n (slsC l))(hn:l.length=n){i:Nat}{x:Sl}(hi:l[i]?=some x):w.cell? ⟨g,i*4,none⟩=some (.int .i64 x.ob)/\w.cell? ⟨g,i*4+1,none⟩=some (.int .i64 x.was)/\w.cell? ⟨g,i*4+2,none⟩=some (.int .i64 x.file)/\w.cell? ⟨g,i*4+3,none⟩=some (.int .i64 x.bk):=by
 have hl:=jAy hi
 have c:=fun j (hj:j<4)=>(h.cellAt (i*4+j) (by omega)).trans (jD0 slC 4 jK2 l i x hi j hj)
 exact ⟨c 0 (by omega),c 1 (by omega),c 2 (by omega),c 3 (by omega)⟩
structure IsB (w:World)(a:Option Addr)(len:Nat)(L:List (List Tr.Op)):Prop where
 hl:L.length=len
 at_:∀(i:Nat) O,L[i]?=some O->∃pb po,a=some ⟨pb,po,none⟩/\pb<w.heap.size/\∃oa on oc,w.cell? ⟨pb,po+i,none⟩=some (.slice oa on oc)/\Tr.IsO w oa on O/\on*72<=140737488355328
def Rz (w x:World)(c:Ix.Cn)(r:Nat):Prop:=∃T P sl st wo wq,Rn w x c r T P sl st wo wq
theorem Rn.below {w x y:World}{c:Ix.Cn}{r:Nat}{T:Tr.Ts}{P:Ps}{sl st wo wq:Value}(h:Rn w x c r T P sl st wo wq)(hb:Below x.heap.size x y):Rn w y c r T P sl st wo wq:=by
 obtain ⟨b,q,nn,pb,pq,pn,io,iq,nd,h1,h2,h3,h4,h5,h6⟩:=h.ex
 exact ⟨⟨b,q,nn,pb,pq,pn,io,iq,nd,(hb.block _ (jAv h1)).trans h1,h2.below hb,jA9 h3 hb,jA9 h4 hb,jA9 h5 hb,h6⟩,h.rb,h.be.trans (hb.mono h.be.size),h.rt⟩
theorem Rz.below {w x y:World}{c:Ix.Cn}{r:Nat}(h:Rz w x c r)(hb:Below x.heap.size x y):Rz w y c r:=by
 obtain ⟨T,P,sl,st,wo,wq,h1⟩:=h
 exact ⟨T,P,sl,st,wo,wq,h1.below hb⟩
theorem Rz.be {w x:World}{c:Ix.Cn}{r:Nat}(h:Rz w x c r):Below w.heap.size w x:=by
 obtain ⟨T,P,sl,st,wo,wq,h1⟩:=h
 exact h1.be
theorem isO_nil (w:World):Tr.IsO w none 0 []:=⟨rfl,fun i o h=>(by cases h),fun o h=>(by cases h)⟩
end Go.Proofs.YtfnklhajafmooaaGreatDoor.Po.Pn
namespace Go.Proofs.YtfnklhajafmooaaGreatDoor.Po.Pn
open Go.ChangeShapes Go.WideShapes Go.ChangeAt Go.RowKit Go.Deep
theorem cellsBt:Tryz.prog.cellsOf 31=1:=by kernel_rfl
theorem cellsOps:Tryz.prog.cellsOf 29=1:=by kernel_rfl
theorem bt_of {H:Type}{enc:TypeId × Value->H}{W:World}{cs:List Value}{y:DataW H × List MemPlace}{fuel:Nat}(hl:cs.length=1)(h2:DataW.trod enc Tryz.prog W 0 (fun _=>true) true fuel 31 cs=some y):∃oa on oc,cs=[.slice oa on oc]/\∃O,Tr.IsO W oa on O/\(on=0\/∃m,on<=m/\m*72∈y.1.weights Tryz.prog 31):=by
 obtain ⟨xs,k,hk,hxy,_,hxl,hfl⟩:=DataW.trod_struct Tryz.underlying31 h2
 match xs,hxl,cs,hl with
 | [y0],_,[v0],_ =>
   have g0:=hfl 0 _ rfl
   simp[cellsOps] at g0
   have hv:∃oa on oc,v0=.slice oa on oc:=by
    rcases open_slice Tryz.underlying29 g0 with ⟨hcs,_⟩ | ⟨x,len',cap',m,n,D,Pl,hcs,_⟩
    ·exact ⟨_,_,_,by simpa using hcs⟩
    ·exact ⟨_,_,_,by simpa using hcs⟩
   obtain ⟨oa,on,oc,rfl⟩:=hv
   obtain ⟨O,hO,hw⟩:=Tr.ops_of (a:=oa) (len:=on) (cap:=oc) (d:=y0.1) (ps:=y0.2) ⟨k,g0⟩
   refine ⟨oa,on,oc,rfl,O,hO,?_⟩
   rcases hw with h | ⟨m,h1,h3⟩
   ·exact .inl h
   ·refine .inr ⟨m,h1,?_⟩
    rw[hxy]
    simp only[DataW.weights,Tryz.underlying31,List.map_cons,List.map_nil,DataW.weightsEach]
    exact List.mem_append_left _ h3
theorem weights_in {H:Type}{t:TypeId}{n:Nat}{d:DataW H}(hn:n∈d.weights Tryz.prog t):∀l:List (DataW H),d∈l->n∈DataW.weightsAll Tryz.prog t l
 | [],h=>by cases h
 | x :: r,h=>by
   simp only[DataW.weightsAll]
   rcases List.mem_cons.1 h with rfl | h
   ·exact List.mem_append_left _ hn
   ·exact List.mem_append_right _ (weights_in hn r h)
theorem batches_of {H:Type}{enc:TypeId × Value->H}{W:World}{a:Option Addr}{len cap:Nat}{d:DataW H}{ps:List MemPlace}(h:DataW.Trod enc Tryz.prog W 0 (fun _=>true) true 24 (.slice a len cap) d ps)(hw:∀n,n∈d.weights Tryz.prog 24->n<=140737488355328) :
 ∃B:List (List Tr.Op),IsB W a len B/\len<=9223372036854775807:=by
 obtain ⟨fuel,hf⟩:=h
 rcases open_slice1 Tryz.underlying24 cellsBt hf with ⟨hcs,_⟩ | ⟨x,len',cap',m,n,V,D,Pl,hcs,_,hl,hm,hmm,hx0,hx⟩
 ·simp[Value.cells] at hcs
  obtain ⟨rfl,rfl,rfl⟩:=hcs
  exact ⟨[],⟨rfl,fun i O h=>by cases h⟩,by omega⟩
 ·simp[Value.cells] at hcs
  obtain ⟨rfl,rfl,rfl⟩:=hcs
  simp only[if_true] at hmm
  subst hmm
  have hy1:d=.slice ((List.range len).map D) ((List.range (m-len)).map fun j=>D (len+j)):=by
   simp only[Prod.mk.injEq] at hx0
   exact hx0.1
  have each:∀i,i<len->∃O:List Tr.Op,∃oa on oc,V i=.slice oa on oc/\Tr.IsO W oa on O/\on*72<=140737488355328:=fun i hi=>by
   obtain ⟨h1,h2⟩:=hx i (by omega)
   obtain ⟨oa,on,oc,e,O,hO,hz⟩:=bt_of rfl h2
   have e':V i=.slice oa on oc:=by simpa using e
   refine ⟨O,oa,on,oc,e',hO,?_⟩
   rcases hz with h | ⟨m',h3,h4⟩
   ·omega
   ·have h5:m'*72∈d.weights Tryz.prog 24:=by
     rw[hy1]
     simp only[DataW.weights,Tryz.underlying24]
     refine List.mem_cons_of_mem _ (List.mem_append_left _ (weights_in h4 _ ?_))
     rw[List.mem_map]
     exact ⟨i,List.mem_range.2 hi,rfl⟩
    have:=hw _ h5
    omega
  haveI:Inhabited (List Tr.Op):=⟨[]⟩
  obtain ⟨q,hq⟩:=choose_lt each
  refine ⟨(List.range len).map q,⟨by simp,fun i O ho=>?_⟩,by unfold maxLen at hm;omega⟩
  have hi:=(List.getElem?_eq_some_iff.1 ho).1
  simp at hi
  rw[List.getElem?_map,List.getElem?_range hi] at ho
  obtain rfl:=Option.some.inj ho
  obtain ⟨oa,on,oc,e,hO,hz⟩:=hq i hi
  obtain ⟨b,off,spot⟩:=x
  have h0:=(hx i (by omega)).1
  rw[e] at h0
  have hspot:spot=none:=by simpa[Addr.add] using World.cell?_spot (hx 0 (by omega)).1
  subst hspot
  rw[Addr.add_lit] at h0
  exact ⟨b,off,rfl,block_lt_of_cell h0,oa,on,oc,h0,hO,hz⟩
end Go.Proofs.YtfnklhajafmooaaGreatDoor.Po.Pn
namespace Go.Proofs.YtfnklhajafmooaaGreatDoor.Po.Pn
open Go.RowKit Go.Lib Go.Deep
def isF (f:Int)(x:Tr.Nd):Bool:=decide (x.kind=2/\(x.number:Int)=f)
def szN (L:List Tr.Nd)(f:Int):Int:=match L.find? (isF f) with
 | some x=>(x.size:Int)
 | none=>-1
theorem szN_tk {T:Tr.Ts}{f:Nat}(h:Tr.tkF T f):szN (Tr.told T) (f:Int)=(Tr.szF T f:Int):=by
 obtain ⟨⟨p,n,s⟩,hr⟩:=h
 unfold szN
 cases hf:(Tr.told T).find? (isF (f:Int)) with
 | none =>
   have:=List.find?_eq_none.1 hf _ (Tr.jJ6 hr)
   exact absurd (decide_eq_true ⟨rfl,rfl⟩) this
 | some x =>
   have h1:=List.find?_some hf
   have h2:=List.mem_of_find?_eq_some hf
   obtain ⟨h3,h4⟩:=of_decide_eq_true h1
   rcases Tr.jE3 h2 with h5 | h5
   ·omega
   ·have h6:x.number=f:=by omega
    rw[h6] at h5
    unfold Tr.szF
    rw[h5.2]
theorem szN_lt {T:Tr.Ts}{dp:Nat->Nat}(hv:Tr.Inv T dp)(f:Int):-1<=szN (Tr.told T) f/\szN (Tr.told T) f<=(T.most:Int):=by
 unfold szN
 split
 ·rename_i x hx
  have:=(Tr.jN8 hv (List.mem_of_find?_eq_some hx)).1
  omega
 ·omega
def filN (L:List Tr.Nd):Nat:=(L.filter fun x=>decide (x.kind=2)).length
theorem filN_succ {L:List Tr.Nd}{k:Nat}{x:Tr.Nd}(h:L[k]?=some x):filN (L.take (k+1))=filN (L.take k)+if x.kind=2 then 1 else 0:=by
 unfold filN
 rw[List.take_add_one,h,List.filter_append,List.length_append]
 simp only[Option.toList_some,List.filter_cons,List.filter_nil]
 by_cases e:x.kind=2 <;> simp[e]
theorem fil_cnt {c:Ix.Cn}{T:Tr.Ts}{dp:Nat->Nat}{P:Ps}(d:Dk c T dp P):filN (Tr.told T)=cntO P.R:=by
 have hA:(((Tr.told T).filter fun x=>decide (x.kind=2)).map fun x=>x.number).Nodup:=by
  refine List.Pairwise.map _ (R:=fun x y:Tr.Nd=>x.number≠y.number) (fun _ _ h=>h) ?_
  have h1:=((Tr.jE9 T).filter fun x=>decide (x.kind=2))
  refine List.Pairwise.imp_of_mem ?_ h1
  intro a b ha hb hl
  have a1:=of_decide_eq_true (List.mem_filter.1 ha).2
  have b1:=of_decide_eq_true (List.mem_filter.1 hb).2
  rcases hl with h | h
  ·omega
  ·omega
 have hB:((P.R.filter fun o=>decide (o.ow≠-1)).map fun o=>o.ow.toNat).Nodup:=by
  refine List.Pairwise.map _ (R:=fun x y:Ob=>x.ow.toNat≠y.ow.toNat) (fun _ _ h=>h) ?_
  have h1:P.R.Pairwise fun x y=>x.ow≠-1->x.ow≠y.ow:=by
   rw[List.pairwise_iff_getElem]
   intro i j hi hj hij hne he
   have:=d.good.ou i j _ _ (List.getElem?_eq_getElem hi) (List.getElem?_eq_getElem hj) he hne
   omega
  refine List.Pairwise.imp_of_mem ?_ (h1.filter fun o=>decide (o.ow≠-1))
  intro a b ha hb hl
  obtain ⟨a1,a2⟩:=List.mem_filter.1 ha
  obtain ⟨b1,b2⟩:=List.mem_filter.1 hb
  have a3:=of_decide_eq_true a2
  have b3:=of_decide_eq_true b2
  obtain ⟨i,hi⟩:=List.mem_iff_getElem?.1 a1
  obtain ⟨j,hj⟩:=List.mem_iff_getElem?.1 b1
  have a4:=(d.good.st i a hi).2.1
  have b4:=(d.good.st j b hj).2.1
  have:=hl a3
  omega
 have e1:filN (Tr.told T)=(((Tr.told T).filter fun x=>decide (x.kind=2)).map fun x=>x.number).length:=by rw[List.length_map];rfl
 have e2:cntO P.R=((P.R.filter fun o=>decide (o.ow≠-1)).map fun o=>o.ow.toNat).length:=by rw[List.length_map];rfl
 rw[e1,e2]
 have hin:∀x,x∈(((Tr.told T).filter fun x=>decide (x.kind=2)).map fun x=>x.number)↔Tr.tkF T x:=fun x=>by
  rw[List.mem_map]
  constructor
  ·rintro ⟨y,hy,rfl⟩
   obtain ⟨h1,h2⟩:=List.mem_filter.1 hy
   have h3:=of_decide_eq_true h2
   rcases Tr.jE3 h1 with h | h
   ·omega
   ·exact ⟨_,h.2⟩
  ·rintro ⟨⟨p,n,s⟩,hr⟩
   exact ⟨_,List.mem_filter.2 ⟨Tr.jJ6 hr,rfl⟩,rfl⟩
 have hin2:∀x,x∈((P.R.filter fun o=>decide (o.ow≠-1)).map fun o=>o.ow.toNat)↔Tr.tkF T x:=fun x=>by
  rw[d.hold,jFx,List.mem_map]
  constructor
  ·rintro ⟨o,ho,rfl⟩
   obtain ⟨h1,h2⟩:=List.mem_filter.1 ho
   have h3:=of_decide_eq_true h2
   obtain ⟨i,hi⟩:=List.mem_iff_getElem?.1 h1
   have h4:=(d.good.st i o hi).2.1
   exact ⟨i,o,hi,by omega⟩
  ·rintro ⟨i,o,hi,ho⟩
   exact ⟨o,List.mem_filter.2 ⟨List.mem_iff_getElem?.2 ⟨i,hi⟩,decide_eq_true (by omega)⟩,by omega⟩
 exact Nat.le_antisymm (jFv _ _ hA fun x hx=>(hin2 x).2 ((hin x).1 hx)) (jFv _ _ hB fun x hx=>(hin x).2 ((hin2 x).1 hx))
theorem own_size {c:Ix.Cn}{T:Tr.Ts}{dp:Nat->Nat}{P:Ps}(d:Dk c T dp P){i:Nat}{o:Ob}(h:P.R[i]?=some o)(h0:0<=o.ow):szN (Tr.told T) o.ow=(jD4 T o.ow:Int)/\jD4 T o.ow<=c.mf:=by
 have h1:Tr.tkF T o.ow.toNat:=(d.hold _).2 (jFx.2 ⟨i,o,h,by omega⟩)
 have h2:=szN_tk h1
 rw[show ((o.ow.toNat:Nat):Int)=o.ow by omega] at h2
 have h3:=(szN_lt d.inv o.ow).2
 rw[d.most] at h3
 unfold jD4
 rw[if_neg (by omega)]
 exact ⟨h2,by omega⟩
def Nds (x:World)(r:Nat)(L:List Tr.Nd)(a:Option Addr)(cap:Nat):Prop:=x.cell? ⟨r,16,none⟩=some (.slice a L.length cap)/\∀k,k<L.length->∃(y:Tr.Nd) (g:Nat),L[k]?=some y/\a=some ⟨g,0,none⟩/\x.cell? ⟨g,k*5,none⟩=some (.int .i64 (y.kind:Int))/\x.cell? ⟨g,k*5+1,none⟩=some (.int .i64 (y.number:Int))/\x.cell? ⟨g,k*5+2,none⟩=some (.int .i64 (y.parent:Int))/\x.cell? ⟨g,k*5+3,none⟩=some (.string y.name)/\x.cell? ⟨g,k*5+4,none⟩=some (.int .i64 (y.size:Int))
theorem Rn.nds {w x:World}{c:Ix.Cn}{r:Nat}{T:Tr.Ts}{P:Ps}{sl st wo wq:Value}(h:Rn w x c r T P sl st wo wq):(Tr.told T).length<=1000000/\∃a cap,∀V,Below x.heap.size x V->Nds V r (Tr.told T) a cap:=by
 obtain ⟨b,q,nn,pb,pq,pn,io,iq,nd,h1,h2,h3,h4,h5,h6⟩:=h.ex
 obtain ⟨a,cap,rfl⟩:=jBy h5
 refine ⟨h6,a,cap,fun V hV=>?_⟩
 have k1:=(hV.block _ (jAv h1)).trans h1
 have h5':=jA9 h5 hV
 refine ⟨(jAj k1).trans rfl,fun k hk=>?_⟩
 have e1:∃g,a=some ⟨g,0,none⟩:=by
  rcases h5.2 with ⟨e1,e2⟩ | ⟨g,cap,cur,e1,_⟩
  ·omega
  ·injection e1 with e1 _ _;exact ⟨g,e1⟩
 obtain ⟨g,rfl⟩:=e1
 have hx:=List.getElem?_eq_getElem (l:=Tr.told T) (i:=k) hk
 exact ⟨_,g,hx,rfl,Tr.jJ8 h5' rfl hx⟩
theorem find_take {L:List Tr.Nd}{p:Tr.Nd->Bool}{k:Nat}{y:Tr.Nd}(h:L[k]?=some y)(hp:∀j z,j<k->L[j]?=some z->p z=false)(hy:p y=true):L.find? p=some y:=by
 rw[List.find?_eq_some_iff_getElem]
 have hl:=jAy h
 refine ⟨hy,k,hl,?_,fun j hj=>?_⟩
 ·rw[List.getElem?_eq_getElem hl] at h
  exact Option.some.inj h
 ·rw[hp j _ hj (List.getElem?_eq_getElem (by omega))]
  rfl
theorem size15_any (x:World)(r:Nat)(L:List Tr.Nd)(a:Option Addr)(cap:Nat)(f:Int)(hl:L.length<=1000000)(h:∀V,Below x.heap.size x V->Nds V r L a cap):Calls Tryz.prog 13 #[.pointer (some ⟨r,0,none⟩),.int .i64 f] x fun e y=>e=.returned (.int .i64 (szN L f))/\Below x.heap.size x y:=by
 have HN:Hid _:=h
 unfold Nds at HN
 obtain ⟨n,hn⟩:∃n,L.length=n:=⟨_,rfl⟩
 rw[hn] at hl HN
 obtain ⟨c16,-⟩:=HN.out x (Below.refl _ _)
 clear h
 have HFD:Hid (∀k y,L[k]?=some y->(∀j z,j<k->L[j]?=some z->isF f z=false)->isF f y=true->szN L f=y.size):=fun k y h1 h2 h3=>by
  unfold szN
  rw[find_take h1 h2 h3]
 have HFN:Hid ((∀j z,j<n->L[j]?=some z->isF f z=false)->szN L f=-1):=fun h1=>by
  unfold szN
  rw[List.find?_eq_none.2 fun z hz=>?_]
  obtain ⟨j,hj⟩:=List.mem_iff_getElem?.1 hz
  rw[h1 j z (by have:=jAy hj;omega) hj]
  exact Bool.false_ne_true
 clear hn
 go_enter Tryz.func13,Tryz.ntmps13
 go_wp2_with fail
 go_loopg [5] n (fun gk iv wr=>∃k:Nat,gk=n-k/\k<=n/\iv=.int .i64 (k:Int)/\Hid (∀j z,j<k->L[j]?=some z->isF f z=false)/\Below x.heap.size x wr)
 case atStart=>exact ⟨0,by omega,by omega,rfl,fun j z hj=>by omega,Below.refl _ _⟩
 case round =>
  clear c16
  obtain ⟨k,hgk,hkn,rfl,HS,hbe⟩:=hrel
  obtain ⟨c16,hcs⟩:=HN.out wr hbe
  by_cases hk:k<n
  ·have hkI:(k:Int)<(n:Int):=by omega
   have w1:IntKind.i64.wrap ((k:Int)+1)=((k+1:Nat):Int):=by rw[IntKind.wrap_i64];omega
   obtain ⟨y,g,hy,rfl,c0,c1,c2,c3,c4⟩:=hcs k hk
   obtain ⟨U,hU,hbU,kU⟩:=jA5 wr #[.int .i64 (y.kind:Int),.int .i64 (y.number:Int),.int .i64 (y.parent:Int),.string y.name,.int .i64 (y.size:Int)] 91
   have HU:Hid _:=hU
   have u0:U.cell? ⟨wr.heap.size,0,none⟩=some (.int .i64 (y.kind:Int)):=(jAj kU).trans rfl
   have u1:U.cell? ⟨wr.heap.size,1,none⟩=some (.int .i64 (y.number:Int)):=(jAj kU).trans rfl
   have u4:U.cell? ⟨wr.heap.size,4,none⟩=some (.int .i64 (y.size:Int)):=(jAj kU).trans rfl
   have HBU:Hid (∀j,Below x.heap.size x (U.drewN j)):=fun j=>Tr.bdr (hbe.trans (hbU.mono hbe.size)) j
   have HY:Hid (L[k]?=some y):=hy
   have HNX:Hid (isF f y=false->∀j z,j<k+1->L[j]?=some z->isF f z=false):=fun h1 j z hj hz=>by
    by_cases e:j=k
    ·subst e
     rw[hy] at hz
     obtain rfl:=Option.some.inj hz
     exact h1
    ·exact HS.out j z (by omega) hz
   by_cases hm:isF f y=true
   ·have he:=HFD.out k y hy HS.out hm
    obtain ⟨m1,m2⟩:=of_decide_eq_true hm
    have m1':((y.kind:Int) == 2)=true:=by rw[m1];rfl
    have m2':((y.number:Int) == f)=true:=by rw[m2];simp
    have HE:Hid _:=he
    generalize (y.kind:Int)=kd at *
    generalize (y.number:Int)=nu at *
    generalize (y.size:Int)=sz at *
    clear hbe hcs hy hm he hbU kU m1 m2 hU HFD HFN HNX
    go_wp2_with fail
    rw[HU.out]
    go_wp2
    go_ret
    exact ⟨by rw[HE.out];rfl,HBU.out 0⟩
   ·have hm':isF f y=false:=by simpa using hm
    have HNX2:Hid _:=HNX.out hm'
    by_cases m1:y.kind=2
    ·have m2:¬(y.number:Int)=f:=fun e=>hm (decide_eq_true ⟨m1,e⟩)
     have m1':((y.kind:Int) == 2)=true:=by rw[m1];rfl
     have m2':((y.number:Int) == f)=false:=by simpa using m2
     generalize (y.kind:Int)=kd at *
     generalize (y.number:Int)=nu at *
     generalize (y.size:Int)=sz at *
     clear hbe hcs hy hm hm' hbU kU m1 m2 hU HFD HFN HNX
     go_wp2_with fail
     rw[HU.out]
     go_wp2
     go_roundg (n-(k+1))
     case measure=>omega
     case rel=>exact ⟨k+1,rfl,by omega,rfl,HNX2.out,HBU.out 0⟩
    ·have m1':((y.kind:Int) == 2)=false:=by simp;omega
     generalize (y.kind:Int)=kd at *
     generalize (y.number:Int)=nu at *
     generalize (y.size:Int)=sz at *
     clear hbe hcs hy hm hm' hbU kU m1 hU HFD HFN HNX
     go_wp2_with fail
     rw[HU.out]
     go_wp2
     go_roundg (n-(k+1))
     case measure=>omega
     case rel=>exact ⟨k+1,rfl,by omega,rfl,HNX2.out,HBU.out 0⟩
  ·obtain rfl:k=n:=by omega
   have hkI:¬(k:Int)<(k:Int):=by omega
   have HE:Hid _:=HFN.out HS.out
   have HBE:Hid _:=hbe
   clear hbe hcs HFD HFN
   go_wp2
   go_ret
   exact ⟨by rw[HE.out];rfl,HBE.out⟩
theorem files15_any (x:World)(r:Nat)(L:List Tr.Nd)(a:Option Addr)(cap:Nat)(hl:L.length<=1000000)(h:∀V,Below x.heap.size x V->Nds V r L a cap):Calls Tryz.prog 29 #[.pointer (some ⟨r,0,none⟩)] x fun e y=>e=.returned (.int .i64 (filN L:Int))/\Below x.heap.size x y:=by
 have HN:Hid _:=h
 unfold Nds at HN
 obtain ⟨n,hn⟩:∃n,L.length=n:=⟨_,rfl⟩
 rw[hn] at hl HN
 obtain ⟨c16,-⟩:=HN.out x (Below.refl _ _)
 have hF:filN (L.take n)=filN L:=by rw[<-hn,List.take_length]
 have HF:Hid _:=hF
 have HLE:Hid (∀k,filN (L.take k)<=k):=fun k=>by
  unfold filN
  exact Nat.le_trans (List.length_filter_le _ _) (by rw[List.length_take];omega)
 have B0:Hid (∀V j,Below x.heap.size x V->Below x.heap.size x (V.drewN j)):=fun V j hV=>Tr.bdr hV j
 clear h hn hF
 go_enter Tryz.func29,Tryz.ntmps29
 go_wp2_with fail
 go_loopg [3,4] n (fun gk kv iv wr=>∃k:Nat,gk=n-k/\k<=n/\iv=.int .i64 (k:Int)/\kv=.int .i64 (filN (L.take k):Int)/\Below x.heap.size x wr)
 case atStart=>exact ⟨0,by omega,by omega,rfl,rfl,Below.refl _ _⟩
 case round =>
  clear c16
  obtain ⟨k,hgk,hkn,rfl,rfl,hbe⟩:=hrel
  obtain ⟨c16,hcs⟩:=HN.out wr hbe
  have hle:=HLE.out k
  have HBE:Hid _:=hbe
  by_cases hk:k<n
  ·have hkI:(k:Int)<(n:Int):=by omega
   have w1:IntKind.i64.wrap ((k:Int)+1)=((k+1:Nat):Int):=by rw[IntKind.wrap_i64];omega
   obtain ⟨y,g,hy,rfl,c0,-⟩:=hcs k hk
   have hs:=filN_succ hy
   by_cases hm:y.kind=2
   ·rw[if_pos hm] at hs
    have HSS:Hid _:=hs
    have m1:((y.kind:Int) == 2)=true:=by rw[hm];rfl
    generalize (y.kind:Int)=kd at *
    generalize filN (L.take k)=fk at *
    have w2:IntKind.i64.wrap ((fk:Int)+1)=((fk+1:Nat):Int):=by rw[IntKind.wrap_i64];omega
    clear hbe hcs hy hs hm
    go_wp2
    go_roundg (n-(k+1))
    case measure=>omega
    case rel=>exact ⟨k+1,rfl,by omega,rfl,by rw[HSS.out];rfl,HBE.out⟩
   ·rw[if_neg hm,Nat.add_zero] at hs
    have HSS:Hid _:=hs
    have m1:((y.kind:Int) == 2)=false:=by simp;omega
    generalize (y.kind:Int)=kd at *
    clear hbe hcs hy hs hm
    go_wp2
    go_roundg (n-(k+1))
    case measure=>omega
    case rel=>exact ⟨k+1,rfl,by omega,rfl,by rw[HSS.out];rfl,HBE.out⟩
  ·obtain rfl:k=n:=by omega
   have hkI:¬(k:Int)<(k:Int):=by omega
   clear hbe hcs
   go_wp2
   go_ret
   exact ⟨by rw[<-HF.out];rfl,HBE.out⟩
end Go.Proofs.YtfnklhajafmooaaGreatDoor.Po.Pn
