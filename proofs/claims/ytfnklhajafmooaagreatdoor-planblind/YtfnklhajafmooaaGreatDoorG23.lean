import Derived.Test.YtfnklhajafmooaaGreatDoorG14
set_option maxHeartbeats 4000000
set_option maxRecDepth 20000
namespace Go.Proofs.YtfnklhajafmooaaGreatDoor.Tr
open Go.RowKit Go.Lib Go.Deep Go.Proofs.Tryz
theorem create_any (w:World)(q:Nat)(F:List Nat)(nn:Nat)(T:Ts)(dp:Nat->Nat)(hL:Lay w q F nn T)(hv:Inv T dp)(P:List ByteArray)(sa:Option Addr)(n sc:Nat)(hs:Pa.See w (.slice sa n sc) P)(hnm:P.all Pa.nm=true)(hl:P.length<=16)(ok oa on:Int)(op ot od:ByteArray)(ta:Option Addr)(tn tc:Nat)(hnn:nn<maxLen) :
 Calls prog 86 #[.pointer (some ⟨q,0,none⟩),.agg #[.int .i64 ok,.string op,.string ot,.int .i64 oa,.int .i64 on,.string od,.slice sa n sc,.slice ta tn tc]] w fun e w'=>Did F w w' q (nn+1) (creT T P) e:=by
 obtain ⟨W,hW,hb,kp,k0,k1⟩:=jC5 w #[.int .i64 ok,.string op,.string ot,.int .i64 oa,.int .i64 on,.string od,.slice sa n sc,.slice ta tn tc] R0 E0 101 66 68
 have hc:=jL4 W q F nn T dp (hL.below hb) hv _ P (hs.below hb) hnm hl
 have HX:Hid (∀w2,Below W.heap.size W w2->Below w.heap.size w w2/\w2.heap[w.heap.size]?=some (.cells #[.int .i64 ok,.string op,.string ot,.int .i64 oa,.int .i64 on,.string od,.slice sa n sc,.slice ta tn tc] 101 (0,0))/\w2.heap[w.heap.size+1]?=some (.cells R0 66 (0,0))/\w2.heap[w.heap.size+1+1]?=some (.cells E0 68 (0,0))):=fun w2 h2=>⟨hb.trans (h2.mono hb.size),(h2.block _ (jAv kp)).trans kp,(h2.block _ (jAv k0)).trans k0,(h2.block _ (jAv k1)).trans k1⟩
 obtain ⟨p0,p1,p2,p3,p4,p5,p6,p7⟩:=jC8 kp
 have HLay:Hid (∀W',Below w.heap.size w W'->Lay W' q F nn T):=fun W' hb=>hL.below hb
 have HV:Hid (Inv T dp):=hv
 have HG:Hid ((fndN T P).2=0->fndN T P=fndA T P/\(fndA T P).2=0/\Got T dp P (fndN T P).1):=fun h=>by
  have h1:=jLv h
  exact ⟨h1.1,h1.2.1,by rw[h1.1];exact got hv hnm h1.2.1⟩
 have HK:Hid ((fndN T P).2=0->(fun k=>k=0) (fndN T P).1.kd):=fun h=>by
  have h1:=jLv h
  rw[h1.1]
  exact h1.2.2
 obtain ⟨x,hx⟩:∃x,lowL T.F=x:=⟨_,rfl⟩
 have HA:Hid (creT T P=if (fndN T P).2≠0 then ref T (fndN T P).2 else if x<T.fr then (Rs.no 0,⟨1,x,-1,0,0,e0,0⟩,jA6 (setF T x (some ((fndN T P).1.par,(fndN T P).1.nm,0))) (fndN T P).1.par (fndN T P).1.nm (some (2,x))) else ref T 125):=by rw[<-hx];rfl
 generalize fndN T P=r at *
 generalize creT T P=A at *
 obtain ⟨⟨par,nm,kd,no⟩,e⟩:=r
 unfold spV spA at hc
 unfold R0 E0 at hW
 clear hL hv hs hb kp k0 k1
 go_enter func86,ntmps86
 go_wp2_with fail
 refine hc.mono ?_
 rintro e w2 ⟨rfl,hb2⟩
 obtain ⟨hbw,qp,q0,q1⟩:=HX.out w2 hb2
 obtain ⟨W3,hW3,hb3,k3⟩:=jA4 w2 #[.int .i64 (par:Int),.string nm,.int .i64 (kd:Int),.int .i64 (no:Int)] 210
 have HB3:Hid (Below w.heap.size w W3):=hbw.trans (hb3.mono hbw.size)
 have s0:W3.cell? ⟨w2.heap.size,0,none⟩=some (.int .i64 (par:Int)):=(jAj k3).trans rfl
 have s1:W3.cell? ⟨w2.heap.size,1,none⟩=some (.string nm):=(jAj k3).trans rfl
 have s2:W3.cell? ⟨w2.heap.size,2,none⟩=some (.int .i64 (kd:Int)):=(jAj k3).trans rfl
 have s3:W3.cell? ⟨w2.heap.size,3,none⟩=some (.int .i64 (no:Int)):=(jAj k3).trans rfl
 have hn2:w.heap.size+1+1<w2.heap.size:=jAv q1
 have hne1:¬w2.heap.size=w.heap.size+1:=by omega
 have hne2:¬w2.heap.size=w.heap.size+1+1:=by omega
 have hne3:¬w.heap.size+1=w2.heap.size:=by omega
 have hne4:¬w.heap.size+1+1=w2.heap.size:=by omega
 clear hn2
 have HS3:Hid _:=k3
 have HP3:Hid _:=(hb3.block _ (jAv qp)).trans qp
 have HQ3:Hid _:=(hb3.block _ (jAv q0)).trans q0
 have HE3:Hid _:=(hb3.block _ (jAv q1)).trans q1
 clear hb2 hbw qp q0 q1 hb3 k3 HX hc
 by_cases he:e=0
 ·subst he
  have hfree:tk T par/\nm.size<=32:=by
   obtain ⟨g1,g2,g3⟩:=HG.out rfl
   have hk1:kd=0:=HK.out rfl
   have hP0:P≠[]:=fun e=>by
    have:=g3.rt e
    injection this with _ _ h3 _
    omega
   have sp:=g3.sp hP0
   exact ⟨sp.ht,jE7 sp.hn⟩
  obtain ⟨htk,hns⟩:=hfree
  have hL3d:Lay W3.drew q F nn T:=(HLay.out W3 HB3.out).below (Qq W3.heap.size W3).drew
  have hgv:=giveF_any W3.drew q F nn T hL3d par nm
  rw[hx] at hgv
  have HL3d:Hid _:=hL3d
  have HTK:Hid (tk (setF T x (some (par,nm,0))) par):=by
   obtain ⟨d,hd⟩:=htk
   exact ⟨d,hd⟩
  have HFX:Hid ((jA6 (setF T x (some (par,nm,0))) par nm (some (2,x))).F[x]?=some (some (par,nm,0))):=(jD6 T x _ (by rw[<-hx];exact jE5 _) x).trans (if_pos rfl)
  clear htk hL3d hx
  by_cases hr:x<T.fr
  ·have HA2:Hid (A=(Rs.no 0,⟨1,x,-1,0,0,e0,0⟩,jA6 (setF T x (some (par,nm,0))) par nm (some (2,x)))):=HA.out.trans ((if_neg (by simp)).trans (if_pos hr))
   have hdec:decide (x<T.fr)=true:=by simp[hr]
   rw[if_pos hr,hdec] at hgv
   go_wp2_with fail
   go_region_with (go_at_call 120;refine hgv.mono ?_;rintro e w4 ⟨rfl,hT4⟩;have HT4:Hid (Turn F W3.drew w4 q nn (setF T x (some (par,nm,0)))):=hT4;clear hT4)
   all_goals
    have HQw4:Hid _:=Turn.keep HT4.out HL3d.out HQ3.out (by decide)
    have HEw4:Hid _:=Turn.keep HT4.out HL3d.out HE3.out (by decide)
    have HSw4:Hid _:=Turn.keep HT4.out HL3d.out HS3.out (by decide)
    have s0w4:w4.cell? ⟨w2.heap.size,0,none⟩=some (.int .i64 (par:Int)):=(jAj HSw4.out).trans rfl
    have s1w4:w4.cell? ⟨w2.heap.size,1,none⟩=some (.string nm):=(jAj HSw4.out).trans rfl
    obtain ⟨ho4,F4,hL4,hF4⟩:=HT4.out
    have hha:=jM5 w4 q F4 nn _ hL4 par nm 2 x HTK.out (by unfold maxLen;omega) hnn
    have HL4:Hid _:=hL4
    have HO4:Hid _:=ho4
    have HF4:Hid _:=hF4
    clear ho4 hL4 hF4
    go_wp2_with fail
    refine hha.mono ?_
    rintro e w5 ⟨rfl,hT5⟩
    have HQw5:Hid _:=Turn.keep hT5 HL4.out HQw4.out (by decide)
    have HEw5:Hid _:=Turn.keep hT5 HL4.out HEw4.out (by decide)
    have HT5:Hid (Turn F w w5 q (nn+1) (jA6 (setF T x (some (par,nm,0))) par nm (some (2,x)))):=Turn.ahead HB3.out (Turn.ahead (Qq W3.heap.size W3).drew (jC1 HO4.out HF4.out hT5))
    clear hT5 hha
    obtain ⟨ho5,F5,hL5,hF5⟩:=HT5.out
    have hlast:=jJ2 w5 q F5 (nn+1) _ hL5 1 x par 0 nm HFX.out
    clear ho5 hF5 hL5
    go_wp2_with fail
    refine hlast.mono ?_
    rintro e w6 ⟨rfl,hb6⟩
    have HQw6:Hid _:=(hb6.block _ (jAv HQw5.out)).trans HQw5.out
    have HEw6:Hid _:=(hb6.block _ (jAv HEw5.out)).trans HEw5.out
    have HT6:Hid (Turn F w w6 q (nn+1) (jA6 (setF T x (some (par,nm,0))) par nm (some (2,x)))):=HT5.out.below hb6
    clear hb6 hlast
    obtain ⟨a0,a1,a2,a3,a4,a5⟩:=jB4 HQw6.out
    obtain ⟨b0,b1,b2,b3,b4,b5,b6⟩:=jCq HEw6.out
    have fz0:∀j,w6.frozen? ⟨w.heap.size+1,j,none⟩=false:=fun j=>jAq HQw6.out
    have fz1:∀j,w6.frozen? ⟨w.heap.size+1+1,j,none⟩=false:=fun j=>jAq HEw6.out
    (try unfold rsV)
    (try unfold Rs.no)
    (try unfold efV)
    (try unfold Ef.no)
    go_wp2_with fail
    refine Qw (jAz rfl _ _ (w.heap.size+1) 66 _ (0,0) _ (w.heap.size+1+1) 68 _ (0,0) _ rfl (putRE HQw6.out HEw6.out (by omega)).1 underlying66 rfl jB7 rfl (putRE HQw6.out HEw6.out (by omega)).2 underlying68 rfl jB5) rfl ?_
    rw[HA2.out]
    exact ⟨_,rfl,Pa.Own.nil _ _,HT6.out.putRE (by omega) (by omega) HQw6.out HEw6.out⟩
  ·have HA2:Hid (A=ref T 125):=HA.out.trans ((if_neg (by simp)).trans (if_neg hr))
   have hdec:decide (x<T.fr)=false:=by simp[hr]
   rw[if_neg hr,hdec] at hgv
   go_wp2_with fail
   go_region_with (go_at_call 120;refine hgv.mono ?_;rintro e w4 ⟨rfl,hT4⟩;have HT4:Hid (Turn F W3.drew w4 q nn (T)):=hT4;clear hT4)
   all_goals
    have HQw4:Hid _:=Turn.keep HT4.out HL3d.out HQ3.out (by decide)
    have HEw4:Hid _:=Turn.keep HT4.out HL3d.out HE3.out (by decide)
    go_wp2_with fail
    refine (jB2 w4 125).mono ?_
    rintro e w6 ⟨rfl,hb6⟩
    have HQw6:Hid _:=(hb6.block _ (jAv HQw4.out)).trans HQw4.out
    have HEw6:Hid _:=(hb6.block _ (jAv HEw4.out)).trans HEw4.out
    have HT6:Hid (Turn F w w6 q (nn+1) T):=((Turn.ahead HB3.out (Turn.ahead (Qq W3.heap.size W3).drew HT4.out)).below hb6).up (Nat.le_succ _)
    clear hb6
    obtain ⟨a0,a1,a2,a3,a4,a5⟩:=jB4 HQw6.out
    obtain ⟨b0,b1,b2,b3,b4,b5,b6⟩:=jCq HEw6.out
    have fz0:∀j,w6.frozen? ⟨w.heap.size+1,j,none⟩=false:=fun j=>jAq HQw6.out
    have fz1:∀j,w6.frozen? ⟨w.heap.size+1+1,j,none⟩=false:=fun j=>jAq HEw6.out
    (try unfold rsV)
    (try unfold Rs.no)
    (try unfold efV)
    (try unfold Ef.no)
    go_wp2_with fail
    refine Qw (jAz rfl _ _ (w.heap.size+1) 66 _ (0,0) _ (w.heap.size+1+1) 68 _ (0,0) _ rfl (putRE HQw6.out HEw6.out (by omega)).1 underlying66 rfl jB7 rfl (putRE HQw6.out HEw6.out (by omega)).2 underlying68 rfl jB5) rfl ?_
    rw[HA2.out]
    exact ⟨_,rfl,Pa.Own.nil _ _,HT6.out.putRE (by omega) (by omega) HQw6.out HEw6.out⟩
 ·have HA2:Hid (A=ref T e):=HA.out.trans (if_pos he)
  go_wp2_with fail
  refine (jB2 W3 e).mono ?_
  rintro e w4 ⟨rfl,hb4⟩
  have HBw4:Hid (Below w.heap.size w w4):=HB3.out.trans (hb4.mono HB3.out.size)
  have HQw4:Hid _:=(hb4.block _ (jAv HQ3.out)).trans HQ3.out
  have HEw4:Hid _:=(hb4.block _ (jAv HE3.out)).trans HE3.out
  have HPw4:Hid _:=(hb4.block _ (jAv HP3.out)).trans HP3.out
  have HSw4:Hid _:=(hb4.block _ (jAv HS3.out)).trans HS3.out
  clear hb4
  obtain ⟨a0,a1,a2,a3,a4,a5⟩:=jB4 HQw4.out
  obtain ⟨b0,b1,b2,b3,b4,b5,b6⟩:=jCq HEw4.out
  have fz0:∀j,w4.frozen? ⟨w.heap.size+1,j,none⟩=false:=fun j=>jAq HQw4.out
  have fz1:∀j,w4.frozen? ⟨w.heap.size+1+1,j,none⟩=false:=fun j=>jAq HEw4.out
  (try unfold rsV)
  (try unfold Rs.no)
  (try unfold efV)
  (try unfold Ef.no)
  go_wp2_with fail
  refine Qw (jAz rfl _ _ (w.heap.size+1) 66 _ (0,0) _ (w.heap.size+1+1) 68 _ (0,0) _ rfl (putRE HQw4.out HEw4.out (by omega)).1 underlying66 rfl jB7 rfl (putRE HQw4.out HEw4.out (by omega)).2 underlying68 rfl jB5) rfl ?_
  rw[HA2.out]
  exact ⟨_,rfl,Pa.Own.nil _ _,(HLay.out _ (jA3 HBw4.out (by omega) (by omega))).turn0 (jA3 HBw4.out (by omega) (by omega))⟩
theorem mkdir_any (w:World)(q:Nat)(F:List Nat)(nn:Nat)(T:Ts)(dp:Nat->Nat)(hL:Lay w q F nn T)(hv:Inv T dp)(P:List ByteArray)(sa:Option Addr)(n sc:Nat)(hs:Pa.See w (.slice sa n sc) P)(hnm:P.all Pa.nm=true)(hl:P.length<=16)(ok oa on:Int)(op ot od:ByteArray)(ta:Option Addr)(tn tc:Nat)(hnn:nn<maxLen) :
 Calls prog 85 #[.pointer (some ⟨q,0,none⟩),.agg #[.int .i64 ok,.string op,.string ot,.int .i64 oa,.int .i64 on,.string od,.slice sa n sc,.slice ta tn tc]] w fun e w'=>Did F w w' q (nn+1) (mkdT T P) e:=by
 obtain ⟨W,hW,hb,kp,k0,k1⟩:=jC5 w #[.int .i64 ok,.string op,.string ot,.int .i64 oa,.int .i64 on,.string od,.slice sa n sc,.slice ta tn tc] R0 E0 101 66 68
 have hc:=jL4 W q F nn T dp (hL.below hb) hv _ P (hs.below hb) hnm hl
 have HX:Hid (∀w2,Below W.heap.size W w2->Below w.heap.size w w2/\w2.heap[w.heap.size]?=some (.cells #[.int .i64 ok,.string op,.string ot,.int .i64 oa,.int .i64 on,.string od,.slice sa n sc,.slice ta tn tc] 101 (0,0))/\w2.heap[w.heap.size+1]?=some (.cells R0 66 (0,0))/\w2.heap[w.heap.size+1+1]?=some (.cells E0 68 (0,0))):=fun w2 h2=>⟨hb.trans (h2.mono hb.size),(h2.block _ (jAv kp)).trans kp,(h2.block _ (jAv k0)).trans k0,(h2.block _ (jAv k1)).trans k1⟩
 obtain ⟨p0,p1,p2,p3,p4,p5,p6,p7⟩:=jC8 kp
 have HLay:Hid (∀W',Below w.heap.size w W'->Lay W' q F nn T):=fun W' hb=>hL.below hb
 have HV:Hid (Inv T dp):=hv
 have HG:Hid ((fndN T P).2=0->fndN T P=fndA T P/\(fndA T P).2=0/\Got T dp P (fndN T P).1):=fun h=>by
  have h1:=jLv h
  exact ⟨h1.1,h1.2.1,by rw[h1.1];exact got hv hnm h1.2.1⟩
 have HK:Hid ((fndN T P).2=0->(fun k=>k=0) (fndN T P).1.kd):=fun h=>by
  have h1:=jLv h
  rw[h1.1]
  exact h1.2.2
 obtain ⟨x,hx⟩:∃x,lowL T.D=x:=⟨_,rfl⟩
 have HA:Hid (mkdT T P=if (fndN T P).2≠0 then ref T (fndN T P).2 else if x<T.dr then (Rs.no 0,Ef.no,jA6 (setD T x (some ((fndN T P).1.par,(fndN T P).1.nm))) (fndN T P).1.par (fndN T P).1.nm (some (1,x))) else ref T 125):=by rw[<-hx];rfl
 generalize fndN T P=r at *
 generalize mkdT T P=A at *
 obtain ⟨⟨par,nm,kd,no⟩,e⟩:=r
 unfold spV spA at hc
 unfold R0 E0 at hW
 clear hL hv hs hb kp k0 k1
 go_enter func85,ntmps85
 go_wp2_with fail
 refine hc.mono ?_
 rintro e w2 ⟨rfl,hb2⟩
 obtain ⟨hbw,qp,q0,q1⟩:=HX.out w2 hb2
 obtain ⟨W3,hW3,hb3,k3⟩:=jA4 w2 #[.int .i64 (par:Int),.string nm,.int .i64 (kd:Int),.int .i64 (no:Int)] 210
 have HB3:Hid (Below w.heap.size w W3):=hbw.trans (hb3.mono hbw.size)
 have s0:W3.cell? ⟨w2.heap.size,0,none⟩=some (.int .i64 (par:Int)):=(jAj k3).trans rfl
 have s1:W3.cell? ⟨w2.heap.size,1,none⟩=some (.string nm):=(jAj k3).trans rfl
 have s2:W3.cell? ⟨w2.heap.size,2,none⟩=some (.int .i64 (kd:Int)):=(jAj k3).trans rfl
 have s3:W3.cell? ⟨w2.heap.size,3,none⟩=some (.int .i64 (no:Int)):=(jAj k3).trans rfl
 have hn2:w.heap.size+1+1<w2.heap.size:=jAv q1
 have hne1:¬w2.heap.size=w.heap.size+1:=by omega
 have hne2:¬w2.heap.size=w.heap.size+1+1:=by omega
 have hne3:¬w.heap.size+1=w2.heap.size:=by omega
 have hne4:¬w.heap.size+1+1=w2.heap.size:=by omega
 clear hn2
 have HS3:Hid _:=k3
 have HP3:Hid _:=(hb3.block _ (jAv qp)).trans qp
 have HQ3:Hid _:=(hb3.block _ (jAv q0)).trans q0
 have HE3:Hid _:=(hb3.block _ (jAv q1)).trans q1
 clear hb2 hbw qp q0 q1 hb3 k3 HX hc
 by_cases he:e=0
 ·subst he
  have hfree:tk T par/\nm.size<=32:=by
   obtain ⟨g1,g2,g3⟩:=HG.out rfl
   have hk1:kd=0:=HK.out rfl
   have hP0:P≠[]:=fun e=>by
    have:=g3.rt e
    injection this with _ _ h3 _
    omega
   have sp:=g3.sp hP0
   exact ⟨sp.ht,jE7 sp.hn⟩
  obtain ⟨htk,hns⟩:=hfree
  have hME:T.M (lowL T.D)=fun _=>none:=HV.out.empty (jHv T.D)
  have hL3d:Lay W3.drew q F nn T:=(HLay.out W3 HB3.out).below (Qq W3.heap.size W3).drew
  have hnd:=jLz W3.drew par nm
  have HGV:Hid (∀(wd:World) (m:Nat),W3.drew.heap.size<=m->wd.ownsMap prog 9 jF2 m 0 (.map [])->Below W3.drew.heap.size W3.drew wd->Calls prog 117 #[.pointer (some ⟨q,0,none⟩),.agg #[.int .i64 (par:Int),.string nm,.map (some m)]] wd fun e w'=>e=.returned (.tuple #[.int .i64 (x:Int),.bool (decide (x<T.dr))])/\Turn F W3.drew w' q nn (if x<T.dr then setD T x (some (par,nm)) else T)):=fun wd m h1 h2 h3=>by
   rw[<-hx]
   exact giveD_any W3.drew wd q m F nn T hL3d h3 h1 h2 hME par nm
  have HL3d:Hid _:=hL3d
  have HTK:Hid (tk (setD T x (some (par,nm))) par):=by
   obtain ⟨d,hd⟩:=htk
   by_cases hpx:par=x
   ·exact ⟨_,by rw[jKv T x _ (by rw[<-hx];exact jE5 _),if_pos hpx]⟩
   ·exact ⟨d,by rw[jKv T x _ (by rw[<-hx];exact jE5 _),if_neg hpx];exact hd⟩
  clear htk hL3d hx hME
  by_cases hr:x<T.dr
  ·have HA2:Hid (A=(Rs.no 0,Ef.no,jA6 (setD T x (some (par,nm))) par nm (some (1,x)))):=HA.out.trans ((if_neg (by simp)).trans (if_pos hr))
   have hdec:decide (x<T.dr)=true:=by simp[hr]
   go_wp2_with fail
   go_region_with (first | (go_at_call 117;refine (HGV.out _ _ hm5 hmo5 hb5).mono ?_;rw[if_pos hr,hdec];rintro e w4 ⟨rfl,hT4⟩;have HT4:Hid (Turn F W3.drew w4 q nn (setD T x (some (par,nm)))):=hT4;clear hT4 hm5 hmo5 hb5) | (go_at_call 66;refine hnd.mono ?_;rintro e wd ⟨m,rfl,hm5,hmo5,hb5⟩))
   all_goals
    have HQw4:Hid _:=Turn.keep HT4.out HL3d.out HQ3.out (by decide)
    have HEw4:Hid _:=Turn.keep HT4.out HL3d.out HE3.out (by decide)
    have HSw4:Hid _:=Turn.keep HT4.out HL3d.out HS3.out (by decide)
    have s0w4:w4.cell? ⟨w2.heap.size,0,none⟩=some (.int .i64 (par:Int)):=(jAj HSw4.out).trans rfl
    have s1w4:w4.cell? ⟨w2.heap.size,1,none⟩=some (.string nm):=(jAj HSw4.out).trans rfl
    obtain ⟨ho4,F4,hL4,hF4⟩:=HT4.out
    have hha:=jM5 w4 q F4 nn _ hL4 par nm 1 x HTK.out (by unfold maxLen;omega) hnn
    have HL4:Hid _:=hL4
    have HO4:Hid _:=ho4
    have HF4:Hid _:=hF4
    clear ho4 hL4 hF4
    go_wp2_with fail
    refine hha.mono ?_
    rintro e w5 ⟨rfl,hT5⟩
    have HQw5:Hid _:=Turn.keep hT5 HL4.out HQw4.out (by decide)
    have HEw5:Hid _:=Turn.keep hT5 HL4.out HEw4.out (by decide)
    have HT5:Hid (Turn F w w5 q (nn+1) (jA6 (setD T x (some (par,nm))) par nm (some (1,x)))):=Turn.ahead HB3.out (Turn.ahead (Qq W3.heap.size W3).drew (jC1 HO4.out HF4.out hT5))
    clear hT5 hha
    obtain ⟨ho5,F5,hL5,hF5⟩:=HT5.out
    have hlast:=jFy w5 0 0 0 0 none 0 0
    clear ho5 hF5 hL5
    go_wp2_with fail
    refine hlast.mono ?_
    rintro e w6 ⟨rfl,hb6⟩
    have HQw6:Hid _:=(hb6.block _ (jAv HQw5.out)).trans HQw5.out
    have HEw6:Hid _:=(hb6.block _ (jAv HEw5.out)).trans HEw5.out
    have HT6:Hid (Turn F w w6 q (nn+1) (jA6 (setD T x (some (par,nm))) par nm (some (1,x)))):=HT5.out.below hb6
    clear hb6 hlast
    obtain ⟨a0,a1,a2,a3,a4,a5⟩:=jB4 HQw6.out
    obtain ⟨b0,b1,b2,b3,b4,b5,b6⟩:=jCq HEw6.out
    have fz0:∀j,w6.frozen? ⟨w.heap.size+1,j,none⟩=false:=fun j=>jAq HQw6.out
    have fz1:∀j,w6.frozen? ⟨w.heap.size+1+1,j,none⟩=false:=fun j=>jAq HEw6.out
    (try unfold rsV)
    (try unfold Rs.no)
    (try unfold efV)
    (try unfold Ef.no)
    go_wp2_with fail
    refine Qw (jAz rfl _ _ (w.heap.size+1) 66 _ (0,0) _ (w.heap.size+1+1) 68 _ (0,0) _ rfl (putRE HQw6.out HEw6.out (by omega)).1 underlying66 rfl jB7 rfl (putRE HQw6.out HEw6.out (by omega)).2 underlying68 rfl jB5) rfl ?_
    rw[HA2.out]
    exact ⟨_,rfl,Pa.Own.nil _ _,HT6.out.putRE (by omega) (by omega) HQw6.out HEw6.out⟩
  ·have HA2:Hid (A=ref T 125):=HA.out.trans ((if_neg (by simp)).trans (if_neg hr))
   have hdec:decide (x<T.dr)=false:=by simp[hr]
   go_wp2_with fail
   go_region_with (first | (go_at_call 117;refine (HGV.out _ _ hm5 hmo5 hb5).mono ?_;rw[if_neg hr,hdec];rintro e w4 ⟨rfl,hT4⟩;have HT4:Hid (Turn F W3.drew w4 q nn (T)):=hT4;clear hT4 hm5 hmo5 hb5) | (go_at_call 66;refine hnd.mono ?_;rintro e wd ⟨m,rfl,hm5,hmo5,hb5⟩))
   all_goals
    have HQw4:Hid _:=Turn.keep HT4.out HL3d.out HQ3.out (by decide)
    have HEw4:Hid _:=Turn.keep HT4.out HL3d.out HE3.out (by decide)
    go_wp2_with fail
    refine (jB2 w4 125).mono ?_
    rintro e w6 ⟨rfl,hb6⟩
    have HQw6:Hid _:=(hb6.block _ (jAv HQw4.out)).trans HQw4.out
    have HEw6:Hid _:=(hb6.block _ (jAv HEw4.out)).trans HEw4.out
    have HT6:Hid (Turn F w w6 q (nn+1) T):=((Turn.ahead HB3.out (Turn.ahead (Qq W3.heap.size W3).drew HT4.out)).below hb6).up (Nat.le_succ _)
    clear hb6
    obtain ⟨a0,a1,a2,a3,a4,a5⟩:=jB4 HQw6.out
    obtain ⟨b0,b1,b2,b3,b4,b5,b6⟩:=jCq HEw6.out
    have fz0:∀j,w6.frozen? ⟨w.heap.size+1,j,none⟩=false:=fun j=>jAq HQw6.out
    have fz1:∀j,w6.frozen? ⟨w.heap.size+1+1,j,none⟩=false:=fun j=>jAq HEw6.out
    (try unfold rsV)
    (try unfold Rs.no)
    (try unfold efV)
    (try unfold Ef.no)
    go_wp2_with fail
    refine Qw (jAz rfl _ _ (w.heap.size+1) 66 _ (0,0) _ (w.heap.size+1+1) 68 _ (0,0) _ rfl (putRE HQw6.out HEw6.out (by omega)).1 underlying66 rfl jB7 rfl (putRE HQw6.out HEw6.out (by omega)).2 underlying68 rfl jB5) rfl ?_
    rw[HA2.out]
    exact ⟨_,rfl,Pa.Own.nil _ _,HT6.out.putRE (by omega) (by omega) HQw6.out HEw6.out⟩
 ·have HA2:Hid (A=ref T e):=HA.out.trans (if_pos he)
  go_wp2_with fail
  refine (jB2 W3 e).mono ?_
  rintro e w4 ⟨rfl,hb4⟩
  have HBw4:Hid (Below w.heap.size w w4):=HB3.out.trans (hb4.mono HB3.out.size)
  have HQw4:Hid _:=(hb4.block _ (jAv HQ3.out)).trans HQ3.out
  have HEw4:Hid _:=(hb4.block _ (jAv HE3.out)).trans HE3.out
  have HPw4:Hid _:=(hb4.block _ (jAv HP3.out)).trans HP3.out
  have HSw4:Hid _:=(hb4.block _ (jAv HS3.out)).trans HS3.out
  clear hb4
  obtain ⟨a0,a1,a2,a3,a4,a5⟩:=jB4 HQw4.out
  obtain ⟨b0,b1,b2,b3,b4,b5,b6⟩:=jCq HEw4.out
  have fz0:∀j,w4.frozen? ⟨w.heap.size+1,j,none⟩=false:=fun j=>jAq HQw4.out
  have fz1:∀j,w4.frozen? ⟨w.heap.size+1+1,j,none⟩=false:=fun j=>jAq HEw4.out
  (try unfold rsV)
  (try unfold Rs.no)
  (try unfold efV)
  (try unfold Ef.no)
  go_wp2_with fail
  refine Qw (jAz rfl _ _ (w.heap.size+1) 66 _ (0,0) _ (w.heap.size+1+1) 68 _ (0,0) _ rfl (putRE HQw4.out HEw4.out (by omega)).1 underlying66 rfl jB7 rfl (putRE HQw4.out HEw4.out (by omega)).2 underlying68 rfl jB5) rfl ?_
  rw[HA2.out]
  exact ⟨_,rfl,Pa.Own.nil _ _,(HLay.out _ (jA3 HBw4.out (by omega) (by omega))).turn0 (jA3 HBw4.out (by omega) (by omega))⟩
