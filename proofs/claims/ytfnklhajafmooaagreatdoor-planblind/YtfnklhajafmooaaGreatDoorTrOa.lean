import Derived.Test.YtfnklhajafmooaaGreatDoorG20
import Derived.Test.YtfnklhajafmooaaGreatDoorG17
set_option maxHeartbeats 4000000
set_option maxRecDepth 20000
namespace Go.Proofs.YtfnklhajafmooaaGreatDoor.Tr
open Go.RowKit Go.Lib Go.Deep Go.Proofs.Tryz
theorem rename_any (w:World)(q:Nat)(F:List Nat)(nn:Nat)(T:Ts)(dp:Nat->Nat)(hL:Lay w q F nn T)(hv:Inv T dp)(P:List ByteArray)(sa:Option Addr)(n sc:Nat)(hs:Pa.See w (.slice sa n sc) P)(hnm:P.all Pa.nm=true)(hl:P.length<=16)(ok oa on:Int)(op ot od:ByteArray)(ta:Option Addr)(tn tc:Nat)(Q:List ByteArray)(ht:Pa.See w (.slice ta tn tc) Q)(hnmQ:Q.all Pa.nm=true)(hlQ:Q.length<=16)(hnn:nn<maxLen) :
 Calls prog 90 #[.pointer (some ⟨q,0,none⟩),.agg #[.int .i64 ok,.string op,.string ot,.int .i64 oa,.int .i64 on,.string od,.slice sa n sc,.slice ta tn tc]] w fun e w'=>Did F w w' q (nn+1) (renT T P Q) e:=by
 obtain ⟨W,hW,hb,kp,k0,k1⟩:=jC5 w #[.int .i64 ok,.string op,.string ot,.int .i64 oa,.int .i64 on,.string od,.slice sa n sc,.slice ta tn tc] R0 E0 101 66 68
 have hc:=jG3 W q F nn T dp (hL.below hb) hv _ P (hs.below hb) hnm hl
 have HX:Hid (∀w2,Below W.heap.size W w2->Below w.heap.size w w2/\w2.heap[w.heap.size]?=some (.cells #[.int .i64 ok,.string op,.string ot,.int .i64 oa,.int .i64 on,.string od,.slice sa n sc,.slice ta tn tc] 101 (0,0))/\w2.heap[w.heap.size+1]?=some (.cells R0 66 (0,0))/\w2.heap[w.heap.size+1+1]?=some (.cells E0 68 (0,0))):=fun w2 h2=>⟨hb.trans (h2.mono hb.size),(h2.block _ (jAv kp)).trans kp,(h2.block _ (jAv k0)).trans k0,(h2.block _ (jAv k1)).trans k1⟩
 obtain ⟨p0,p1,p2,p3,p4,p5,p6,p7⟩:=jC8 kp
 have HLay:Hid (∀W',Below w.heap.size w W'->Lay W' q F nn T):=fun W' hb=>hL.below hb
 have HV:Hid (Inv T dp):=hv
 have HG:Hid ((fndS T P).2=0->fndS T P=fndA T P/\(fndA T P).2=0/\Got T dp P (fndS T P).1):=fun h=>by
  have h1:=jF0 h
  exact ⟨h1.1,h1.2.1,by rw[h1.1];exact got hv hnm h1.2.1⟩
 have HK:Hid ((fndS T P).2=0->(fun k=>k≠0) (fndS T P).1.kd):=fun h=>by
  have h1:=jF0 h
  rw[h1.1]
  exact h1.2.2
 have HA:Hid (renT T P Q=if (fndS T P).2≠0 then ref T (fndS T P).2 else if P=Q then (Rs.no 0,Ef.no,T) else if tarE T P Q (fndS T P).1≠0 then ref T (tarE T P Q (fndS T P).1) else if (fndA T Q).1.kd=0 then (Rs.no 0,Ef.no,movT T (fndS T P).1 (fndA T Q).1) else (Rs.no 0,⟨6,(fndS T P).1.no,(fndA T Q).1.no,0,0,e0,szF T (fndS T P).1.no⟩,setF (movT T (fndS T P).1 (fndA T Q).1) (fndA T Q).1.no none)):=rfl
 have HSP:Hid (∀W',Below w.heap.size w W'->Pa.See W' (.slice sa n sc) P):=fun W' hb=>hs.below hb
 have HST:Hid (∀W',Below w.heap.size w W'->Pa.See W' (.slice ta tn tc) Q):=fun W' hb=>ht.below hb
 have HEQ:Hid (∀W',Below w.heap.size w W'->Calls prog 126 #[.slice sa n sc,.slice ta tn tc] W' fun e w'=>e=.returned (.bool (decide (P=Q)))/\Below W'.heap.size W' w'):=fun W' hb=>equal_all W' sa ta n sc tn tc P Q (hs.below hb) (ht.below hb) (by omega) (by omega)
 have HFR:Hid ((fndS T P).2=0->((fndS T P).1.kd=1->∃d,T.D[(fndS T P).1.no]?=some (some d))/\((fndS T P).1.kd=2->tk T (fndS T P).1.par/\(fndS T P).1.nm.size<=32/\∃s,T.F[(fndS T P).1.no]?=some (some ((fndS T P).1.par,(fndS T P).1.nm,s)))):=fun h=>by
  have h1:=jF0 h
  have g:=got hv hnm h1.2.1
  rw[h1.1]
  exact ⟨fun k=>(g.dir k).1,fun k=>(fileAt hv g k).2⟩
 have HFP:Hid ((fndS T P).2=0->P≠[]->tk T (fndS T P).1.par/\(fndS T P).1.nm.size<=32):=fun h hP0=>by
  have h1:=jF0 h
  have g:=got hv hnm h1.2.1
  rw[h1.1]
  exact spotAt g hP0
 have HTW:Hid ((fndS T P).2=0->(fndS T P).1.kd=2->∀{b:Sp},Got T dp Q b->b.kd=2->P≠Q->(fndS T P).1.no≠b.no):=fun h k b gQ kb hne=>by
  have h1:=jF0 h
  have g:=got hv hnm h1.2.1
  rw[h1.1] at k ⊢
  exact filesTwo hv g gQ k kb hne
 have HKK:Hid ((fndS T P).2=0->(fndS T P).1.kd=1\/(fndS T P).1.kd=2):=fun h=>by
  have h1:=jF0 h
  have g:=got hv hnm h1.2.1
  rw[h1.1]
  by_cases hP0:P=[]
  ·rw[hP0];exact .inl rfl
  ·rcases (g.sp hP0).kd hv with k | k | k
   ·exact absurd k h1.2.2
   ·exact .inl k
   ·exact .inr k
 generalize fndS T P=r at *
 generalize renT T P Q=A at *
 obtain ⟨⟨par,nm,kd,no⟩,e⟩:=r
 unfold spV spA at hc
 unfold R0 E0 at hW
 clear hL hv hs ht hb kp k0 k1
 go_enter func90,ntmps90
 go_wp2_with fail
 refine hc.mono ?_
 rintro e w2 ⟨rfl,hb2⟩
 obtain ⟨hbw,qp,q0,q1⟩:=HX.out w2 hb2
 obtain ⟨W3,hW3,hb3,k3⟩:=jA4 w2 #[.int .i64 (par:Int),.string nm,.int .i64 (kd:Int),.int .i64 (no:Int)] 210
 have HB3:Hid (Below w.heap.size w W3):=hbw.trans (hb3.mono hbw.size)
 have s0:W3.cell? ⟨w2.heap.size,0,none⟩=some (.int .i64 (par:Int)):=(jAj k3).trans rfl
 have s1:W3.cell? ⟨w2.heap.size,1,none⟩=some (.string nm):=(jAj k3).trans rfl
 have s2:W3.cell? ⟨w2.heap.size,2,none⟩=some (.int .i64 (kd:Int)):=(jAj k3).trans rfl
 have s3:W3.cell? ⟨w2.heap.size,3,none⟩=some (.int .i64 (no:Int)):=(jAj k3).trans rfl
 have hn2:w.heap.size+1+1<w2.heap.size:=jAv q1
 have hne1:¬w2.heap.size=w.heap.size+1:=by omega
 have hne2:¬w2.heap.size=w.heap.size+1+1:=by omega
 have hne3:¬w.heap.size+1=w2.heap.size:=by omega
 have hne4:¬w.heap.size+1+1=w2.heap.size:=by omega
 clear hn2
 have HS3:Hid _:=k3
 have HP3:Hid _:=(hb3.block _ (jAv qp)).trans qp
 have HQ3:Hid _:=(hb3.block _ (jAv q0)).trans q0
 have HE3:Hid _:=(hb3.block _ (jAv q1)).trans q1
 clear hb2 hbw qp q0 q1 hb3 k3 HX hc
 by_cases he:e=0
 ·subst he
  obtain ⟨p03,p13,p23,p33,p43,p53,p63,p73⟩:=jC8 HP3.out
  by_cases hPQ:P=Q
  ·have HA2:Hid (A=(Rs.no 0,Ef.no,T)):=HA.out.trans ((if_neg (by simp)).trans (if_pos hPQ))
   go_wp2_with fail
   refine (HEQ.out W3 HB3.out).mono ?_
   rw[QQ hPQ]
   rintro e w4 ⟨rfl,hb4⟩
   have HBw4:Hid (Below w.heap.size w w4):=HB3.out.trans (hb4.mono HB3.out.size)
   have HQw4:Hid _:=(hb4.block _ (jAv HQ3.out)).trans HQ3.out
   have HEw4:Hid _:=(hb4.block _ (jAv HE3.out)).trans HE3.out
   have HPw4:Hid _:=(hb4.block _ (jAv HP3.out)).trans HP3.out
   have HSw4:Hid _:=(hb4.block _ (jAv HS3.out)).trans HS3.out
   clear hb4
   go_wp2_with fail
   refine (jFy w4 0 0 0 0 none 0 0).mono ?_
   rintro e w5 ⟨rfl,hb5⟩
   have HBw5:Hid (Below w.heap.size w w5):=HBw4.out.trans (hb5.mono HBw4.out.size)
   have HQw5:Hid _:=(hb5.block _ (jAv HQw4.out)).trans HQw4.out
   have HEw5:Hid _:=(hb5.block _ (jAv HEw4.out)).trans HEw4.out
   have HPw5:Hid _:=(hb5.block _ (jAv HPw4.out)).trans HPw4.out
   have HSw5:Hid _:=(hb5.block _ (jAv HSw4.out)).trans HSw4.out
   clear hb5
   obtain ⟨a0,a1,a2,a3,a4,a5⟩:=jB4 HQw5.out
   obtain ⟨b0,b1,b2,b3,b4,b5,b6⟩:=jCq HEw5.out
   have fz0:∀j,w5.frozen? ⟨w.heap.size+1,j,none⟩=false:=fun j=>jAq HQw5.out
   have fz1:∀j,w5.frozen? ⟨w.heap.size+1+1,j,none⟩=false:=fun j=>jAq HEw5.out
   (try unfold rsV)
   (try unfold Rs.no)
   (try unfold efV)
   (try unfold Ef.no)
   go_wp2_with fail
   refine Qw (jAz rfl _ _ (w.heap.size+1) 66 _ (0,0) _ (w.heap.size+1+1) 68 _ (0,0) _ rfl (putRE HQw5.out HEw5.out (by omega)).1 underlying66 rfl jB7 rfl (putRE HQw5.out HEw5.out (by omega)).2 underlying68 rfl jB5) rfl ?_
   rw[HA2.out]
   exact ⟨_,rfl,Pa.Own.nil _ _,(HLay.out _ (jA3 HBw5.out (by omega) (by omega))).turn0 (jA3 HBw5.out (by omega) (by omega))⟩
  ·rcases HKK.out rfl with hk | hk
   ·have hk:kd=1:=hk
    obtain rfl:kd=1:=hk
    have hW3b:w2.alloc (.cells #[.int .i64 (par:Int),.string nm,.int .i64 1,.int .i64 (no:Int)] 210)=W3:=hW3
    have s2b:W3.cell? ⟨w2.heap.size,2,none⟩=some (.int .i64 1):=s2
    clear hW3 s2
    have hfr:=HFR.out rfl
    obtain ⟨d,hd⟩:=hfr.1 rfl
    have HTG:Hid (∀W',Below w.heap.size w W'->Calls prog 127 #[.pointer (some ⟨q,0,none⟩),.agg #[.int .i64 ok,.string op,.string ot,.int .i64 oa,.int .i64 on,.string od,.slice sa n sc,.slice ta tn tc],.agg #[.int .i64 (par:Int),.string nm,.int .i64 1,.int .i64 (no:Int)]] W' fun e w'=>e=.returned (.tuple #[spV (tarS T P Q ⟨par,nm,1,no⟩),.int .i64 (tarE T P Q ⟨par,nm,1,no⟩)])/\Below W'.heap.size W' w'):=fun W' hb=>targetD_any W' q F nn T dp (HLay.out _ hb) HV.out P Q sa ta n sc tn tc (HSP.out _ hb) (HST.out _ hb) hl hnmQ hlQ ok oa on op ot od par no nm d hd
    have HTS:Hid (tarS T P Q ⟨par,nm,1,no⟩=if tarE T P Q ⟨par,nm,1,no⟩=0 then (fndA T Q).1 else Sp.zero):=rfl
    have HTO:Hid (tarE T P Q ⟨par,nm,1,no⟩=0->(fndA T Q).1.kd=0/\tk T (fndA T Q).1.par/\(fndA T Q).1.nm.size<=32/\tk T par/\nm.size<=32):=fun h=>by
     obtain ⟨t1,t2,t3,t4,t5⟩:=tarE_ok h
     have hQ0:=jG2 t3
     have gQ:=got HV.out hnmQ t2
     have sQ:=spotAt gQ hQ0
     have hP0:P≠[]:=fun e=>t1 ⟨rfl,by rw[e];exact List.nil_prefix⟩
     obtain ⟨f1,f2⟩:=HFP.out rfl hP0
     refine ⟨?_,sQ.1,sQ.2,f1,f2⟩
     rcases (gQ.sp hQ0).kd HV.out with k | k | k
     ·exact k
     ·exact absurd k t3
     ·exact absurd ⟨k,rfl⟩ t4
    have HA3:Hid (A=if tarE T P Q ⟨par,nm,1,no⟩≠0 then ref T (tarE T P Q ⟨par,nm,1,no⟩) else if (fndA T Q).1.kd=0 then (Rs.no 0,Ef.no,movT T ⟨par,nm,1,no⟩ (fndA T Q).1) else (Rs.no 0,⟨6,no,(fndA T Q).1.no,0,0,e0,szF T no⟩,setF (movT T ⟨par,nm,1,no⟩ (fndA T Q).1) (fndA T Q).1.no none)):=HA.out.trans ((if_neg (by simp)).trans (if_neg hPQ))
    obtain ⟨ts,hts⟩:∃ts,tarS T P Q ⟨par,nm,1,no⟩=ts:=⟨_,rfl⟩
    obtain ⟨te,hte⟩:∃te,tarE T P Q ⟨par,nm,1,no⟩=te:=⟨_,rfl⟩
    rw[hts,hte] at HTG HTS
    rw[hte] at HTO HA3
    obtain ⟨fb,hfb⟩:∃fb,(fndA T Q).1=fb:=⟨_,rfl⟩
    rw[hfb] at HTS HTO HA3
    clear hts hte hfb HA hfr
    obtain ⟨tp,tm,tk',tno⟩:=ts
    unfold spV spA at HTG
    go_wp2_with fail
    refine (HEQ.out W3 HB3.out).mono ?_
    rw[QY hPQ]
    rintro e w4 ⟨rfl,hb4⟩
    have HBw4:Hid (Below w.heap.size w w4):=HB3.out.trans (hb4.mono HB3.out.size)
    have HQw4:Hid _:=(hb4.block _ (jAv HQ3.out)).trans HQ3.out
    have HEw4:Hid _:=(hb4.block _ (jAv HE3.out)).trans HE3.out
    have HPw4:Hid _:=(hb4.block _ (jAv HP3.out)).trans HP3.out
    have HSw4:Hid _:=(hb4.block _ (jAv HS3.out)).trans HS3.out
    have s0w4:w4.cell? ⟨w2.heap.size,0,none⟩=some (.int .i64 (par:Int)):=(jAj HSw4.out).trans rfl
    have s1w4:w4.cell? ⟨w2.heap.size,1,none⟩=some (.string nm):=(jAj HSw4.out).trans rfl
    have s2w4:w4.cell? ⟨w2.heap.size,2,none⟩=some (.int .i64 1):=(jAj HSw4.out).trans rfl
    have s3w4:w4.cell? ⟨w2.heap.size,3,none⟩=some (.int .i64 (no:Int)):=(jAj HSw4.out).trans rfl
    obtain ⟨p0w4,p1w4,p2w4,p3w4,p4w4,p5w4,p6w4,p7w4⟩:=jC8 HPw4.out
    clear hb4
    have htg:=HTG.out w4 HBw4.out
    go_wp2_with fail
    refine htg.mono ?_
    rintro e w5 ⟨rfl,hb5⟩
    obtain ⟨W6,hW6,hb6,k6⟩:=jA4 w5 #[.int .i64 (tp:Int),.string tm,.int .i64 (tk':Int),.int .i64 (tno:Int)] 210
    have hb46:Below w4.heap.size w4 W6:=hb5.trans (hb6.mono hb5.size)
    have HBW6:Hid (Below w.heap.size w W6):=HBw4.out.trans (hb46.mono HBw4.out.size)
    have HQW6:Hid _:=(hb46.block _ (jAv HQw4.out)).trans HQw4.out
    have HEW6:Hid _:=(hb46.block _ (jAv HEw4.out)).trans HEw4.out
    have HPW6:Hid _:=(hb46.block _ (jAv HPw4.out)).trans HPw4.out
    have HSW6:Hid _:=(hb46.block _ (jAv HSw4.out)).trans HSw4.out
    have s0W6:W6.cell? ⟨w2.heap.size,0,none⟩=some (.int .i64 (par:Int)):=(jAj HSW6.out).trans rfl
    have s1W6:W6.cell? ⟨w2.heap.size,1,none⟩=some (.string nm):=(jAj HSW6.out).trans rfl
    have s2W6:W6.cell? ⟨w2.heap.size,2,none⟩=some (.int .i64 1):=(jAj HSW6.out).trans rfl
    have s3W6:W6.cell? ⟨w2.heap.size,3,none⟩=some (.int .i64 (no:Int)):=(jAj HSW6.out).trans rfl
    have g0:W6.cell? ⟨w5.heap.size,0,none⟩=some (.int .i64 (tp:Int)):=(jAj k6).trans rfl
    have g1:W6.cell? ⟨w5.heap.size,1,none⟩=some (.string tm):=(jAj k6).trans rfl
    have g2:W6.cell? ⟨w5.heap.size,2,none⟩=some (.int .i64 (tk':Int)):=(jAj k6).trans rfl
    have g3:W6.cell? ⟨w5.heap.size,3,none⟩=some (.int .i64 (tno:Int)):=(jAj k6).trans rfl
    have HG6:Hid _:=k6
    have hlt5:w.heap.size+1+1<w5.heap.size:=Qx (jAv HEw4.out) hb5.size
    have hlt6:w2.heap.size<w5.heap.size:=Qx (jAv HSw4.out) hb5.size
    have hne5:¬w5.heap.size=w.heap.size+1:=by omega
    have hne6:¬w5.heap.size=w.heap.size+1+1:=by omega
    have hne7:¬w.heap.size+1=w5.heap.size:=by omega
    have hne8:¬w.heap.size+1+1=w5.heap.size:=by omega
    clear hb5 hb6 k6 hb46 htg HTG hlt5 hlt6
    by_cases het:te=0
    ·subst het
     have hts:=HTS.out
     rw[if_pos rfl] at hts
     subst hts
     have hto:=HTO.out rfl
     have HA4:Hid _:=HA3.out.trans (if_neg (by simp))
     clear HTS HTO HA3
     obtain ⟨hk0,ht1,ht2,ht3,ht4⟩:=hto
     obtain rfl:tk'=0:=hk0
     have hW6b:w5.alloc (.cells #[.int .i64 (tp:Int),.string tm,.int .i64 0,.int .i64 (tno:Int)] 210)=W6:=hW6
     have g2b:W6.cell? ⟨w5.heap.size,2,none⟩=some (.int .i64 0):=g2
     clear hW6 g2
     have HA2:Hid (A=(Rs.no 0,Ef.no,setD (jA6 (jA6 T par nm none) tp tm (some (1,no))) no (some (tp,tm)))):=HA4.out.trans ((if_pos rfl).trans (by unfold movT;rw[if_pos rfl]))
     have hmv:=moveD_any W6 q F nn T (HLay.out _ HBW6.out) par no tp nm tm d hd ht3 ht1 ht4 ht2 hnn
     go_wp2_with fail
     refine hmv.mono ?_
     rintro e w7 ⟨rfl,hT7⟩
     have HQw7:Hid _:=Turn.keep hT7 (HLay.out _ HBW6.out) HQW6.out (by decide)
     have HEw7:Hid _:=Turn.keep hT7 (HLay.out _ HBW6.out) HEW6.out (by decide)
     have HSw7:Hid _:=Turn.keep hT7 (HLay.out _ HBW6.out) HSW6.out (by decide)
     have HGw7:Hid _:=Turn.keep hT7 (HLay.out _ HBW6.out) HG6.out (by decide)
     have HTw7:Hid (Turn F w w7 q (nn+1) (setD (jA6 (jA6 T par nm none) tp tm (some (1,no))) no (some (tp,tm)))):=Turn.ahead HBW6.out hT7
     have g2w7:w7.cell? ⟨w5.heap.size,2,none⟩=some (.int .i64 0):=(jAj HGw7.out).trans rfl
     have g3w7:w7.cell? ⟨w5.heap.size,3,none⟩=some (.int .i64 (tno:Int)):=(jAj HGw7.out).trans rfl
     have s3w7:w7.cell? ⟨w2.heap.size,3,none⟩=some (.int .i64 (no:Int)):=(jAj HSw7.out).trans rfl
     clear hT7 hmv
     go_wp2_with fail
     refine (jFy w7 0 0 0 0 none 0 0).mono ?_
     rintro e w8 ⟨rfl,hb8⟩
     have HQw8:Hid _:=(hb8.block _ (jAv HQw7.out)).trans HQw7.out
     have HEw8:Hid _:=(hb8.block _ (jAv HEw7.out)).trans HEw7.out
     have HTw8:Hid (Turn F w w8 q (nn+1) (setD (jA6 (jA6 T par nm none) tp tm (some (1,no))) no (some (tp,tm)))):=HTw7.out.below hb8
     clear hb8
     obtain ⟨a0,a1,a2,a3,a4,a5⟩:=jB4 HQw8.out
     obtain ⟨b0,b1,b2,b3,b4,b5,b6⟩:=jCq HEw8.out
     have fz0:∀j,w8.frozen? ⟨w.heap.size+1,j,none⟩=false:=fun j=>jAq HQw8.out
     have fz1:∀j,w8.frozen? ⟨w.heap.size+1+1,j,none⟩=false:=fun j=>jAq HEw8.out
     (try unfold rsV)
     (try unfold Rs.no)
     (try unfold efV)
     (try unfold Ef.no)
     go_wp2_with fail
     refine Qw (jAz rfl _ _ (w.heap.size+1) 66 _ (0,0) _ (w.heap.size+1+1) 68 _ (0,0) _ rfl (putRE HQw8.out HEw8.out (by omega)).1 underlying66 rfl jB7 rfl (putRE HQw8.out HEw8.out (by omega)).2 underlying68 rfl jB5) rfl ?_
     rw[HA2.out]
     exact ⟨_,rfl,Pa.Own.nil _ _,HTw8.out.putRE (by omega) (by omega) HQw8.out HEw8.out⟩
    ·have HA2:Hid (A=ref T te):=HA3.out.trans (if_pos het)
     go_wp2_with fail
     refine (jB2 W6 te).mono ?_
     rintro e w7 ⟨rfl,hb7⟩
     have HBw7:Hid (Below w.heap.size w w7):=HBW6.out.trans (hb7.mono HBW6.out.size)
     have HQw7:Hid _:=(hb7.block _ (jAv HQW6.out)).trans HQW6.out
     have HEw7:Hid _:=(hb7.block _ (jAv HEW6.out)).trans HEW6.out
     have HPw7:Hid _:=(hb7.block _ (jAv HPW6.out)).trans HPW6.out
     have HSw7:Hid _:=(hb7.block _ (jAv HSW6.out)).trans HSW6.out
     clear hb7
     obtain ⟨a0,a1,a2,a3,a4,a5⟩:=jB4 HQw7.out
     obtain ⟨b0,b1,b2,b3,b4,b5,b6⟩:=jCq HEw7.out
     have fz0:∀j,w7.frozen? ⟨w.heap.size+1,j,none⟩=false:=fun j=>jAq HQw7.out
     have fz1:∀j,w7.frozen? ⟨w.heap.size+1+1,j,none⟩=false:=fun j=>jAq HEw7.out
     (try unfold rsV)
     (try unfold Rs.no)
     (try unfold efV)
     (try unfold Ef.no)
     go_wp2_with fail
     refine Qw (jAz rfl _ _ (w.heap.size+1) 66 _ (0,0) _ (w.heap.size+1+1) 68 _ (0,0) _ rfl (putRE HQw7.out HEw7.out (by omega)).1 underlying66 rfl jB7 rfl (putRE HQw7.out HEw7.out (by omega)).2 underlying68 rfl jB5) rfl ?_
     rw[HA2.out]
     exact ⟨_,rfl,Pa.Own.nil _ _,(HLay.out _ (jA3 HBw7.out (by omega) (by omega))).turn0 (jA3 HBw7.out (by omega) (by omega))⟩
   ·have hk:kd=2:=hk
    obtain rfl:kd=2:=hk
    have hW3b:w2.alloc (.cells #[.int .i64 (par:Int),.string nm,.int .i64 2,.int .i64 (no:Int)] 210)=W3:=hW3
    have s2b:W3.cell? ⟨w2.heap.size,2,none⟩=some (.int .i64 2):=s2
    clear hW3 s2
    have hfr:=HFR.out rfl
    obtain ⟨htk,hns,s,hF⟩:=hfr.2 rfl
    have HTG:Hid (∀W',Below w.heap.size w W'->Calls prog 127 #[.pointer (some ⟨q,0,none⟩),.agg #[.int .i64 ok,.string op,.string ot,.int .i64 oa,.int .i64 on,.string od,.slice sa n sc,.slice ta tn tc],.agg #[.int .i64 (par:Int),.string nm,.int .i64 2,.int .i64 (no:Int)]] W' fun e w'=>e=.returned (.tuple #[spV (tarS T P Q ⟨par,nm,2,no⟩),.int .i64 (tarE T P Q ⟨par,nm,2,no⟩)])/\Below W'.heap.size W' w'):=fun W' hb=>targetF_any W' q F nn T dp (HLay.out _ hb) HV.out P Q sa ta n sc tn tc (HSP.out _ hb) (HST.out _ hb) hl hnmQ hlQ ok oa on op ot od par no nm
    have HTS:Hid (tarS T P Q ⟨par,nm,2,no⟩=if tarE T P Q ⟨par,nm,2,no⟩=0 then (fndA T Q).1 else Sp.zero):=rfl
    have HTO:Hid (tarE T P Q ⟨par,nm,2,no⟩=0->tk T (fndA T Q).1.par/\(fndA T Q).1.nm.size<=32/\((fndA T Q).1.kd=0\/((fndA T Q).1.kd=2/\no≠(fndA T Q).1.no/\∃s,T.F[(fndA T Q).1.no]?=some (some ((fndA T Q).1.par,(fndA T Q).1.nm,s))))):=fun h=>by
     obtain ⟨t1,t2,t3,t4,t5⟩:=tarE_ok h
     have hQ0:=jG2 t3
     have gQ:=got HV.out hnmQ t2
     have sQ:=spotAt gQ hQ0
     refine ⟨sQ.1,sQ.2,?_⟩
     rcases (gQ.sp hQ0).kd HV.out with k | k | k
     ·exact .inl k
     ·exact absurd k t3
     ·exact .inr ⟨k,HTW.out rfl rfl gQ k hPQ,(fileAt HV.out gQ k).2.2.2⟩
    have HA3:Hid (A=if tarE T P Q ⟨par,nm,2,no⟩≠0 then ref T (tarE T P Q ⟨par,nm,2,no⟩) else if (fndA T Q).1.kd=0 then (Rs.no 0,Ef.no,movT T ⟨par,nm,2,no⟩ (fndA T Q).1) else (Rs.no 0,⟨6,no,(fndA T Q).1.no,0,0,e0,szF T no⟩,setF (movT T ⟨par,nm,2,no⟩ (fndA T Q).1) (fndA T Q).1.no none)):=HA.out.trans ((if_neg (by simp)).trans (if_neg hPQ))
    obtain ⟨ts,hts⟩:∃ts,tarS T P Q ⟨par,nm,2,no⟩=ts:=⟨_,rfl⟩
    obtain ⟨te,hte⟩:∃te,tarE T P Q ⟨par,nm,2,no⟩=te:=⟨_,rfl⟩
    rw[hts,hte] at HTG HTS
    rw[hte] at HTO HA3
    obtain ⟨fb,hfb⟩:∃fb,(fndA T Q).1=fb:=⟨_,rfl⟩
    rw[hfb] at HTS HTO HA3
    clear hts hte hfb HA hfr
    obtain ⟨tp,tm,tk',tno⟩:=ts
    unfold spV spA at HTG
    go_wp2_with fail
    refine (HEQ.out W3 HB3.out).mono ?_
    rw[QY hPQ]
    rintro e w4 ⟨rfl,hb4⟩
    have HBw4:Hid (Below w.heap.size w w4):=HB3.out.trans (hb4.mono HB3.out.size)
    have HQw4:Hid _:=(hb4.block _ (jAv HQ3.out)).trans HQ3.out
    have HEw4:Hid _:=(hb4.block _ (jAv HE3.out)).trans HE3.out
    have HPw4:Hid _:=(hb4.block _ (jAv HP3.out)).trans HP3.out
    have HSw4:Hid _:=(hb4.block _ (jAv HS3.out)).trans HS3.out
    have s0w4:w4.cell? ⟨w2.heap.size,0,none⟩=some (.int .i64 (par:Int)):=(jAj HSw4.out).trans rfl
    have s1w4:w4.cell? ⟨w2.heap.size,1,none⟩=some (.string nm):=(jAj HSw4.out).trans rfl
    have s2w4:w4.cell? ⟨w2.heap.size,2,none⟩=some (.int .i64 2):=(jAj HSw4.out).trans rfl
    have s3w4:w4.cell? ⟨w2.heap.size,3,none⟩=some (.int .i64 (no:Int)):=(jAj HSw4.out).trans rfl
    obtain ⟨p0w4,p1w4,p2w4,p3w4,p4w4,p5w4,p6w4,p7w4⟩:=jC8 HPw4.out
    clear hb4
    have htg:=HTG.out w4 HBw4.out
    go_wp2_with fail
    refine htg.mono ?_
    rintro e w5 ⟨rfl,hb5⟩
    obtain ⟨W6,hW6,hb6,k6⟩:=jA4 w5 #[.int .i64 (tp:Int),.string tm,.int .i64 (tk':Int),.int .i64 (tno:Int)] 210
    have hb46:Below w4.heap.size w4 W6:=hb5.trans (hb6.mono hb5.size)
    have HBW6:Hid (Below w.heap.size w W6):=HBw4.out.trans (hb46.mono HBw4.out.size)
    have HQW6:Hid _:=(hb46.block _ (jAv HQw4.out)).trans HQw4.out
    have HEW6:Hid _:=(hb46.block _ (jAv HEw4.out)).trans HEw4.out
    have HPW6:Hid _:=(hb46.block _ (jAv HPw4.out)).trans HPw4.out
    have HSW6:Hid _:=(hb46.block _ (jAv HSw4.out)).trans HSw4.out
    have s0W6:W6.cell? ⟨w2.heap.size,0,none⟩=some (.int .i64 (par:Int)):=(jAj HSW6.out).trans rfl
    have s1W6:W6.cell? ⟨w2.heap.size,1,none⟩=some (.string nm):=(jAj HSW6.out).trans rfl
    have s2W6:W6.cell? ⟨w2.heap.size,2,none⟩=some (.int .i64 2):=(jAj HSW6.out).trans rfl
    have s3W6:W6.cell? ⟨w2.heap.size,3,none⟩=some (.int .i64 (no:Int)):=(jAj HSW6.out).trans rfl
    have g0:W6.cell? ⟨w5.heap.size,0,none⟩=some (.int .i64 (tp:Int)):=(jAj k6).trans rfl
    have g1:W6.cell? ⟨w5.heap.size,1,none⟩=some (.string tm):=(jAj k6).trans rfl
    have g2:W6.cell? ⟨w5.heap.size,2,none⟩=some (.int .i64 (tk':Int)):=(jAj k6).trans rfl
    have g3:W6.cell? ⟨w5.heap.size,3,none⟩=some (.int .i64 (tno:Int)):=(jAj k6).trans rfl
    have HG6:Hid _:=k6
    have hlt5:w.heap.size+1+1<w5.heap.size:=Qx (jAv HEw4.out) hb5.size
    have hlt6:w2.heap.size<w5.heap.size:=Qx (jAv HSw4.out) hb5.size
    have hne5:¬w5.heap.size=w.heap.size+1:=by omega
    have hne6:¬w5.heap.size=w.heap.size+1+1:=by omega
    have hne7:¬w.heap.size+1=w5.heap.size:=by omega
    have hne8:¬w.heap.size+1+1=w5.heap.size:=by omega
    clear hb5 hb6 k6 hb46 htg HTG hlt5 hlt6
    by_cases het:te=0
    ·subst het
     have hts:=HTS.out
     rw[if_pos rfl] at hts
     subst hts
     have hto:=HTO.out rfl
     have HA4:Hid _:=HA3.out.trans (if_neg (by simp))
     clear HTS HTO HA3
     have hsz:szF T no=s:=by unfold szF;rw[hF]
     obtain ⟨ht1,ht2,hto⟩:=hto
     have hmv:=moveF_any W6 q F nn T (HLay.out _ HBW6.out) par no tp nm tm par s nm hF htk ht1 hns ht2 hnn
     have HMT:Hid (movT T ⟨par,nm,2,no⟩ ⟨tp,tm,tk',tno⟩=setF (jA6 (jA6 T par nm none) tp tm (some (2,no))) no (some (tp,tm,s))):=by
      show _=_
      unfold movT
      rw[if_neg (by simp),hsz]
     go_wp2_with fail
     refine hmv.mono ?_
     rintro e w7 ⟨rfl,hT7⟩
     have HQw7:Hid _:=Turn.keep hT7 (HLay.out _ HBW6.out) HQW6.out (by decide)
     have HEw7:Hid _:=Turn.keep hT7 (HLay.out _ HBW6.out) HEW6.out (by decide)
     have HSw7:Hid _:=Turn.keep hT7 (HLay.out _ HBW6.out) HSW6.out (by decide)
     have HGw7:Hid _:=Turn.keep hT7 (HLay.out _ HBW6.out) HG6.out (by decide)
     have HTw7:Hid (Turn F w w7 q (nn+1) (setF (jA6 (jA6 T par nm none) tp tm (some (2,no))) no (some (tp,tm,s)))):=Turn.ahead HBW6.out hT7
     have g2w7:w7.cell? ⟨w5.heap.size,2,none⟩=some (.int .i64 (tk':Int)):=(jAj HGw7.out).trans rfl
     have g3w7:w7.cell? ⟨w5.heap.size,3,none⟩=some (.int .i64 (tno:Int)):=(jAj HGw7.out).trans rfl
     have s3w7:w7.cell? ⟨w2.heap.size,3,none⟩=some (.int .i64 (no:Int)):=(jAj HSw7.out).trans rfl
     clear hT7 hmv
     rcases hto with hk0 | ⟨hk0,hnn2,s2,hF2⟩
     ·obtain rfl:tk'=0:=hk0
      have HA2:Hid (A=(Rs.no 0,Ef.no,setF (jA6 (jA6 T par nm none) tp tm (some (2,no))) no (some (tp,tm,s)))):=HA4.out.trans ((if_pos rfl).trans (by rw[HMT.out]))
      have g2z:w7.cell? ⟨w5.heap.size,2,none⟩=some (.int .i64 0):=g2w7
      clear g2w7 g2
      go_wp2_with fail
      refine (jFy w7 0 0 0 0 none 0 0).mono ?_
      rintro e w8 ⟨rfl,hb8⟩
      have HQw8:Hid _:=(hb8.block _ (jAv HQw7.out)).trans HQw7.out
      have HEw8:Hid _:=(hb8.block _ (jAv HEw7.out)).trans HEw7.out
      have HTw8:Hid (Turn F w w8 q (nn+1) (setF (jA6 (jA6 T par nm none) tp tm (some (2,no))) no (some (tp,tm,s)))):=HTw7.out.below hb8
      clear hb8
      obtain ⟨a0,a1,a2,a3,a4,a5⟩:=jB4 HQw8.out
      obtain ⟨b0,b1,b2,b3,b4,b5,b6⟩:=jCq HEw8.out
      have fz0:∀j,w8.frozen? ⟨w.heap.size+1,j,none⟩=false:=fun j=>jAq HQw8.out
      have fz1:∀j,w8.frozen? ⟨w.heap.size+1+1,j,none⟩=false:=fun j=>jAq HEw8.out
      (try unfold rsV)
      (try unfold Rs.no)
      (try unfold efV)
      (try unfold Ef.no)
      go_wp2_with fail
      refine Qw (jAz rfl _ _ (w.heap.size+1) 66 _ (0,0) _ (w.heap.size+1+1) 68 _ (0,0) _ rfl (putRE HQw8.out HEw8.out (by omega)).1 underlying66 rfl jB7 rfl (putRE HQw8.out HEw8.out (by omega)).2 underlying68 rfl jB5) rfl ?_
      rw[HA2.out]
      exact ⟨_,rfl,Pa.Own.nil _ _,HTw8.out.putRE (by omega) (by omega) HQw8.out HEw8.out⟩
     ·obtain rfl:tk'=2:=hk0
      have g2z:w7.cell? ⟨w5.heap.size,2,none⟩=some (.int .i64 2):=g2w7
      clear g2w7 g2
      have HA2:Hid (A=(Rs.no 0,⟨6,no,tno,0,0,e0,s⟩,setF (setF (jA6 (jA6 T par nm none) tp tm (some (2,no))) no (some (tp,tm,s))) tno none)):=by
       have h:=HA4.out.trans (if_neg (by simp))
       rw[HMT.out,hsz] at h
       exact h
      obtain ⟨ho7,F7,hL7,hF7⟩:=HTw7.out
      have HF2:Hid ((setF (jA6 (jA6 T par nm none) tp tm (some (2,no))) no (some (tp,tm,s))).F[tno]?=some (some (tp,tm,s2))):=by
       show _=_
       have e1:(setF (jA6 (jA6 T par nm none) tp tm (some (2,no))) no (some (tp,tm,s))).F[tno]?=if tno=no then _ else _:=jD6 (jA6 (jA6 T par nm none) tp tm (some (2,no))) no (some (tp,tm,s)) (Nat.le_of_lt (jAy hF)) tno
       rw[e1,if_neg (fun e=>hnn2 e.symm)]
       exact hF2
      have HF3:Hid ((setF (setF (jA6 (jA6 T par nm none) tp tm (some (2,no))) no (some (tp,tm,s))) tno none).F[no]?=some (some (tp,tm,s))):=by
       show _=_
       have e2:(setF (setF (jA6 (jA6 T par nm none) tp tm (some (2,no))) no (some (tp,tm,s))) tno none).F[no]?=if no=tno then _ else _:=jD6 (setF (jA6 (jA6 T par nm none) tp tm (some (2,no))) no (some (tp,tm,s))) tno none (Nat.le_of_lt (jAy HF2.out)) no
       rw[e2,if_neg hnn2]
       have e1:(setF (jA6 (jA6 T par nm none) tp tm (some (2,no))) no (some (tp,tm,s))).F[no]?=if no=no then _ else _:=jD6 (jA6 (jA6 T par nm none) tp tm (some (2,no))) no (some (tp,tm,s)) (Nat.le_of_lt (jAy hF)) no
       rw[e1,if_pos rfl]
      have HFR7:Hid (∀W',Below w7.heap.size w7 W'->Calls prog 129 #[.pointer (some ⟨q,3,none⟩),.int .i64 (tno:Int)] W' fun e w'=>e=.returned (.tuple #[])/\Turn F7 w7 w' q (nn+1) (setF (setF (jA6 (jA6 T par nm none) tp tm (some (2,no))) no (some (tp,tm,s))) tno none)):=fun W' hb=>(freeF_any W' q F7 (nn+1) _ (hL7.below hb) tno (tp,tm,s2) HF2.out).mono fun e w' h=>⟨h.1,Turn.ahead hb h.2⟩
      have HL7:Hid _:=hL7
      have HO7:Hid _:=ho7
      have HF7:Hid _:=hF7
      have hfr7:=HFR7.out w7.drew (Qq _ _).drew
      clear ho7 hL7 hF7 hF hF2 hnn2 HTw7
      go_wp2_with fail
      go_region_with (go_at_call 129;refine hfr7.mono ?_;rintro e w8 ⟨rfl,hT8⟩;have HT8:Hid (Turn F7 w7 w8 q (nn+1) (setF (setF (jA6 (jA6 T par nm none) tp tm (some (2,no))) no (some (tp,tm,s))) tno none)):=hT8;clear hT8)
      all_goals
       have HQw8:Hid _:=Turn.keep HT8.out HL7.out HQw7.out (by decide)
       have HEw8:Hid _:=Turn.keep HT8.out HL7.out HEw7.out (by decide)
       have HSw8:Hid _:=Turn.keep HT8.out HL7.out HSw7.out (by decide)
       have HGw8:Hid _:=Turn.keep HT8.out HL7.out HGw7.out (by decide)
       have s3w8:w8.cell? ⟨w2.heap.size,3,none⟩=some (.int .i64 (no:Int)):=(jAj HSw8.out).trans rfl
       have HTw8:Hid (Turn F w w8 q (nn+1) (setF (setF (jA6 (jA6 T par nm none) tp tm (some (2,no))) no (some (tp,tm,s))) tno none)):=jC1 HO7.out HF7.out HT8.out
       obtain ⟨ho8,F8,hL8,hF8⟩:=HTw8.out
       have hef:=jJ2 w8 q F8 (nn+1) _ hL8 6 no tp s tm HF3.out
       clear ho8 hL8 hF8 HT8
       unfold efV at hef
       go_wp2_with fail
       refine hef.mono ?_
       rintro e w9 ⟨rfl,hb9⟩
       obtain ⟨W9,hW9,hb9',k9⟩:=jA4 w9 #[.int .i64 6,.int .i64 (no:Int),.int .i64 (tno:Int),.int .i64 0,.int .i64 0,.string e0,.int .i64 (s:Int)] 68
       have hb89:Below w8.heap.size w8 W9:=hb9.trans (hb9'.mono hb9.size)
       have g3i:(w9.alloc (.cells #[.int .i64 6,.int .i64 (no:Int),.int .i64 (-1),.int .i64 0,.int .i64 0,.string e0,.int .i64 (s:Int)] 68)).cell? ⟨w5.heap.size,3,none⟩=some (.int .i64 (tno:Int)):=by
        rw[jAj ((QK _ _ _ (Qx (jAv HGw8.out) hb9.size)).trans ((hb9.block _ (jAv HGw8.out)).trans HGw8.out))]
        rfl
       obtain ⟨y0,y1,y2,y3,y4,y5,y6⟩:=jCq k9
       have HQW9:Hid _:=(hb89.block _ (jAv HQw8.out)).trans HQw8.out
       have HEW9:Hid _:=(hb89.block _ (jAv HEw8.out)).trans HEw8.out
       have HT:Hid (Turn F w W9 q (nn+1) (setF (setF (jA6 (jA6 T par nm none) tp tm (some (2,no))) no (some (tp,tm,s))) tno none)):=HTw8.out.below hb89
       have hlt9:w.heap.size+1+1<w9.heap.size:=Qx (jAv HEw8.out) hb9.size
       have hne9:¬w9.heap.size=w.heap.size+1:=by omega
       have hneA:¬w9.heap.size=w.heap.size+1+1:=by omega
       have hneB:¬w.heap.size+1=w9.heap.size:=by omega
       have hneC:¬w.heap.size+1+1=w9.heap.size:=by omega
       clear hb9 hb9' k9 hb89 hef hlt9
       obtain ⟨a0,a1,a2,a3,a4,a5⟩:=jB4 HQW9.out
       obtain ⟨b0,b1,b2,b3,b4,b5,b6⟩:=jCq HEW9.out
       have fz0:∀j,W9.frozen? ⟨w.heap.size+1,j,none⟩=false:=fun j=>jAq HQW9.out
       have fz1:∀j,W9.frozen? ⟨w.heap.size+1+1,j,none⟩=false:=fun j=>jAq HEW9.out
       (try unfold rsV)
       (try unfold Rs.no)
       (try unfold efV)
       (try unfold Ef.no)
       go_wp2_with fail
       go_region_with fail
       all_goals
        refine jBj (R:=fun W=>Exit.then _ _ _ _ W) (Q:=fun W=>Hid (W.heap[w.heap.size+1]?=some (.cells #[.int .i64 0,.string { data:=#[] },.int .i64 0,.slice none 0 0,.int .i64 0,.int .i64 0] 66 (0,0)))/\Hid (W.heap[w.heap.size+1+1]?=some (.cells #[.int .i64 6,.int .i64 (no:Int),.int .i64 (tno:Int),.int .i64 0,.int .i64 0,.string e0,.int .i64 (s:Int)] 68 (0,0)))/\Hid (Turn F w W q (nn+1) (setF (setF (jA6 (jA6 T par nm none) tp tm (some (2,no))) no (some (tp,tm,s))) tno none))) _ ⟨jC4 (putRE HQW9.out HEW9.out (by omega)).1,jC4 (putRE HQW9.out HEW9.out (by omega)).2,jEq (HT.out.putRE (by omega) (by omega) HQW9.out HEW9.out)⟩ ?_
        rintro W6 ⟨HR6,HE6,HT6⟩
        go_wp2_with fail
        refine Qw (jAz rfl _ _ (w.heap.size+1) 66 _ (0,0) _ (w.heap.size+1+1) 68 _ (0,0) _ rfl HR6.out underlying66 rfl jB7 rfl HE6.out underlying68 rfl jB5) rfl ?_
        rw[HA2.out]
        exact ⟨_,rfl,Pa.Own.nil _ _,HT6.out⟩
    ·have HA2:Hid (A=ref T te):=HA3.out.trans (if_pos het)
     go_wp2_with fail
     refine (jB2 W6 te).mono ?_
     rintro e w7 ⟨rfl,hb7⟩
     have HBw7:Hid (Below w.heap.size w w7):=HBW6.out.trans (hb7.mono HBW6.out.size)
     have HQw7:Hid _:=(hb7.block _ (jAv HQW6.out)).trans HQW6.out
     have HEw7:Hid _:=(hb7.block _ (jAv HEW6.out)).trans HEW6.out
     have HPw7:Hid _:=(hb7.block _ (jAv HPW6.out)).trans HPW6.out
     have HSw7:Hid _:=(hb7.block _ (jAv HSW6.out)).trans HSW6.out
     clear hb7
     obtain ⟨a0,a1,a2,a3,a4,a5⟩:=jB4 HQw7.out
     obtain ⟨b0,b1,b2,b3,b4,b5,b6⟩:=jCq HEw7.out
     have fz0:∀j,w7.frozen? ⟨w.heap.size+1,j,none⟩=false:=fun j=>jAq HQw7.out
     have fz1:∀j,w7.frozen? ⟨w.heap.size+1+1,j,none⟩=false:=fun j=>jAq HEw7.out
     (try unfold rsV)
     (try unfold Rs.no)
     (try unfold efV)
     (try unfold Ef.no)
     go_wp2_with fail
     refine Qw (jAz rfl _ _ (w.heap.size+1) 66 _ (0,0) _ (w.heap.size+1+1) 68 _ (0,0) _ rfl (putRE HQw7.out HEw7.out (by omega)).1 underlying66 rfl jB7 rfl (putRE HQw7.out HEw7.out (by omega)).2 underlying68 rfl jB5) rfl ?_
     rw[HA2.out]
     exact ⟨_,rfl,Pa.Own.nil _ _,(HLay.out _ (jA3 HBw7.out (by omega) (by omega))).turn0 (jA3 HBw7.out (by omega) (by omega))⟩
 ·have HA2:Hid (A=ref T e):=HA.out.trans (if_pos he)
  go_wp2_with fail
  refine (jB2 W3 e).mono ?_
  rintro e w4 ⟨rfl,hb4⟩
  have HBw4:Hid (Below w.heap.size w w4):=HB3.out.trans (hb4.mono HB3.out.size)
  have HQw4:Hid _:=(hb4.block _ (jAv HQ3.out)).trans HQ3.out
  have HEw4:Hid _:=(hb4.block _ (jAv HE3.out)).trans HE3.out
  have HPw4:Hid _:=(hb4.block _ (jAv HP3.out)).trans HP3.out
  have HSw4:Hid _:=(hb4.block _ (jAv HS3.out)).trans HS3.out
  clear hb4
  obtain ⟨a0,a1,a2,a3,a4,a5⟩:=jB4 HQw4.out
  obtain ⟨b0,b1,b2,b3,b4,b5,b6⟩:=jCq HEw4.out
  have fz0:∀j,w4.frozen? ⟨w.heap.size+1,j,none⟩=false:=fun j=>jAq HQw4.out
  have fz1:∀j,w4.frozen? ⟨w.heap.size+1+1,j,none⟩=false:=fun j=>jAq HEw4.out
  (try unfold rsV)
  (try unfold Rs.no)
  (try unfold efV)
  (try unfold Ef.no)
  go_wp2_with fail
  refine Qw (jAz rfl _ _ (w.heap.size+1) 66 _ (0,0) _ (w.heap.size+1+1) 68 _ (0,0) _ rfl (putRE HQw4.out HEw4.out (by omega)).1 underlying66 rfl jB7 rfl (putRE HQw4.out HEw4.out (by omega)).2 underlying68 rfl jB5) rfl ?_
  rw[HA2.out]
  exact ⟨_,rfl,Pa.Own.nil _ _,(HLay.out _ (jA3 HBw4.out (by omega) (by omega))).turn0 (jA3 HBw4.out (by omega) (by omega))⟩
