import Derived.Test.YtfnklhajafmooaaGreatDoorG09
set_option maxHeartbeats 4000000
set_option maxRecDepth 20000
namespace Go.Proofs.YtfnklhajafmooaaGreatDoor.Tr
open Go.RowKit Go.Lib Go.Deep Go.Proofs.Tryz
theorem jE7 {n:ByteArray}(h:Pa.nm n=true):n.size<=32:=by
 have:=(Pa.nm_free h).2.2
 rw[Array.length_toList,ByteArray.size_data] at this
 exact this
theorem jC4 {W:World}{g:Nat}{o:Option Obj}(h:W.heap[g]?=o):W.drew.heap[g]?=o:=h
theorem jEq {F:List Nat}{w W:World}{q nn:Nat}{T:Ts}(h:Turn F w W q nn T):Turn F w W.drew q nn T:=h.below (Qq _ _).drew
theorem jCv {S:List Nat}{w W:World}{b j:Nat}{v:Value}(h:Only S w W)(hb:b∈S):Only S w (W.setCell ⟨b,j,none⟩ v):=h.trans ((jF8 v).mono (by intro k hk;simp at hk;subst hk;exact hb))
theorem Turn.other {F S:List Nat}{w W W':World}{q nn:Nat}{T:Ts}(h:Turn F w W q nn T)(ho:Only S W W')(hS:∀k,k∈S->w.heap.size<=k/\∃c e,W.heap[k]?=some (.cells c e (0,0))/\¬(e=138\/e=187\/e=191)):Turn F w W' q nn T:=by
 obtain ⟨h1,F2,h2,h3⟩:=h
 refine ⟨⟨ho.os.trans h1.os,ho.tape.trans h1.tape,ho.output.trans h1.output,Qk h1.size ho.size,fun k hk hF=>(ho.block k (Qx hk h1.size) (fun e=>by have:=(hS k e).1;omega)).trans (h1.block k hk hF)⟩,F2,?_,h3⟩
 have h4:=h2
 obtain ⟨dv,fv,ld,lf,ms,hF,hI⟩:=h2
 refine ⟨dv,fv,ld,lf,ms,hF,hI.keep fun k hk=>ho.block k (hI.lt hk) (fun e=>?_)⟩
 obtain ⟨_,c,t,h5,h6⟩:=hS k e
 exact h4.notin h5 h6 (hF▸hk)
theorem Turn.putRE {F:List Nat}{w W:World}{q nn g b:Nat}{T:Ts}{c c':Array Value}{r0 r1 r2 r3 r4 r5 f0 f1 f2 f3 f4 f5 f6:Value}(h:Turn F w W q nn T)(hg:w.heap.size<=g)(hb:w.heap.size<=b)(kg:W.heap[g]?=some (.cells c 66 (0,0)))(kb:W.heap[b]?=some (.cells c' 68 (0,0))):Turn F w (((((((((((((W.setCell ⟨g,0,none⟩ r0).setCell ⟨g,1,none⟩ r1).setCell ⟨g,2,none⟩ r2).setCell ⟨g,3,none⟩ r3).setCell ⟨g,4,none⟩ r4).setCell ⟨g,5,none⟩ r5).setCell ⟨b,0,none⟩ f0).setCell ⟨b,1,none⟩ f1).setCell ⟨b,2,none⟩ f2).setCell ⟨b,3,none⟩ f3).setCell ⟨b,4,none⟩ f4).setCell ⟨b,5,none⟩ f5).setCell ⟨b,6,none⟩ f6) q nn T:=by
 have ho:Only [g,b] W (((((((((((((W.setCell ⟨g,0,none⟩ r0).setCell ⟨g,1,none⟩ r1).setCell ⟨g,2,none⟩ r2).setCell ⟨g,3,none⟩ r3).setCell ⟨g,4,none⟩ r4).setCell ⟨g,5,none⟩ r5).setCell ⟨b,0,none⟩ f0).setCell ⟨b,1,none⟩ f1).setCell ⟨b,2,none⟩ f2).setCell ⟨b,3,none⟩ f3).setCell ⟨b,4,none⟩ f4).setCell ⟨b,5,none⟩ f5).setCell ⟨b,6,none⟩ f6):=(jCv (jCv (jCv (jCv (jCv (jCv (jCv (jCv (jCv (jCv (jCv (jCv (jCv (Only.refl _ _) (by simp)) (by simp)) (by simp)) (by simp)) (by simp)) (by simp)) (by simp)) (by simp)) (by simp)) (by simp)) (by simp)) (by simp)) (by simp))
 refine h.other ho fun k hk=>?_
 simp only[List.mem_cons,List.not_mem_nil,or_false] at hk
 rcases hk with rfl | rfl
 ·exact ⟨hg,_,_,kg,by decide⟩
 ·exact ⟨hb,_,_,kb,by decide⟩
theorem remove_any (w:World)(q:Nat)(F:List Nat)(nn:Nat)(T:Ts)(dp:Nat->Nat)(hL:Lay w q F nn T)(hv:Inv T dp)(P:List ByteArray)(sa:Option Addr)(n sc:Nat)(hs:Pa.See w (.slice sa n sc) P)(hnm:P.all Pa.nm=true)(hl:P.length<=16)(ok oa on:Int)(op ot od:ByteArray)(ta:Option Addr)(tn tc:Nat) :
 Calls prog 91 #[.pointer (some ⟨q,0,none⟩),.agg #[.int .i64 ok,.string op,.string ot,.int .i64 oa,.int .i64 on,.string od,.slice sa n sc,.slice ta tn tc]] w fun e w'=>Did F w w' q (nn+1) (remT T P) e:=by
 obtain ⟨W,hW,hb,kp,k0,k1⟩:=jC5 w #[.int .i64 ok,.string op,.string ot,.int .i64 oa,.int .i64 on,.string od,.slice sa n sc,.slice ta tn tc] R0 E0 101 66 68
 have hc:=jG4 W q F nn T dp (hL.below hb) hv _ P (hs.below hb) hnm hl
 have HX:Hid (∀w2,Below W.heap.size W w2->Below w.heap.size w w2/\w2.heap[w.heap.size]?=some (.cells #[.int .i64 ok,.string op,.string ot,.int .i64 oa,.int .i64 on,.string od,.slice sa n sc,.slice ta tn tc] 101 (0,0))/\w2.heap[w.heap.size+1]?=some (.cells R0 66 (0,0))/\w2.heap[w.heap.size+1+1]?=some (.cells E0 68 (0,0))):=fun w2 h2=>⟨hb.trans (h2.mono hb.size),(h2.block _ (jAv kp)).trans kp,(h2.block _ (jAv k0)).trans k0,(h2.block _ (jAv k1)).trans k1⟩
 obtain ⟨p0,p1,p2,p3,p4,p5,p6,p7⟩:=jC8 kp
 have HLay:Hid (∀W',Below w.heap.size w W'->Lay W' q F nn T):=fun W' hb=>hL.below hb
 have HV:Hid (Inv T dp):=hv
 have HG:Hid ((fndF T P).2=0->fndF T P=fndA T P/\(fndA T P).2=0/\Got T dp P (fndF T P).1):=fun h=>by
  have h1:=jG6 h
  exact ⟨h1.1,h1.2.1,by rw[h1.1];exact got hv hnm h1.2.1⟩
 have HK:Hid ((fndF T P).2=0->(fun k=>k≠0/\k≠1) (fndF T P).1.kd):=fun h=>by
  have h1:=jG6 h
  rw[h1.1]
  exact h1.2.2
 have HA:Hid (remT T P=if (fndF T P).2≠0 then ref T (fndF T P).2 else (Rs.no 0,⟨5,(fndF T P).1.no,-1,0,0,e0,0⟩,setF (jA6 T (fndF T P).1.par (fndF T P).1.nm none) (fndF T P).1.no none)):=rfl
 generalize fndF T P=r at *
 generalize remT T P=A at *
 obtain ⟨⟨par,nm,kd,no⟩,e⟩:=r
 unfold spV spA at hc
 unfold R0 E0 at hW
 clear hL hv hs hb kp k0 k1
 go_enter func91,ntmps91
 go_wp2_with fail
 refine hc.mono ?_
 rintro e w2 ⟨rfl,hb2⟩
 obtain ⟨hbw,qp,q0,q1⟩:=HX.out w2 hb2
 obtain ⟨W3,hW3,hb3,k3⟩:=jA4 w2 #[.int .i64 (par:Int),.string nm,.int .i64 (kd:Int),.int .i64 (no:Int)] 210
 have HB3:Hid (Below w.heap.size w W3):=hbw.trans (hb3.mono hbw.size)
 have s0:W3.cell? ⟨w2.heap.size,0,none⟩=some (.int .i64 (par:Int)):=(jAj k3).trans rfl
 have s1:W3.cell? ⟨w2.heap.size,1,none⟩=some (.string nm):=(jAj k3).trans rfl
 have s2:W3.cell? ⟨w2.heap.size,2,none⟩=some (.int .i64 (kd:Int)):=(jAj k3).trans rfl
 have s3:W3.cell? ⟨w2.heap.size,3,none⟩=some (.int .i64 (no:Int)):=(jAj k3).trans rfl
 have hn2:w.heap.size+1+1<w2.heap.size:=jAv q1
 have hne1:¬w2.heap.size=w.heap.size+1:=by omega
 have hne2:¬w2.heap.size=w.heap.size+1+1:=by omega
 have hne3:¬w.heap.size+1=w2.heap.size:=by omega
 have hne4:¬w.heap.size+1+1=w2.heap.size:=by omega
 clear hn2
 have HS3:Hid _:=k3
 have HP3:Hid _:=(hb3.block _ (jAv qp)).trans qp
 have HQ3:Hid _:=(hb3.block _ (jAv q0)).trans q0
 have HE3:Hid _:=(hb3.block _ (jAv q1)).trans q1
 clear hb2 hbw qp q0 q1 hb3 k3 HX hc
 by_cases he:e=0
 ·subst he
  have HA2:Hid (A=(Rs.no 0,⟨5,no,-1,0,0,e0,0⟩,setF (jA6 T par nm none) no none)):=HA.out.trans (if_neg (by simp))
  have hfile:∃(n':ByteArray) (s:Nat),T.F[no]?=some (some (par,n',s))/\tk T par/\nm.size<=32:=by
   obtain ⟨g1,g2,g3⟩:=HG.out rfl
   have hk1:=HK.out rfl
   have hP0:P≠[]:=fun e=>hk1.2 (by have:=g3.rt e;injection this)
   have sp:=g3.sp hP0
   have hk2:kd=2:=by
    rcases sp.kd HV.out with h | h | h
    ·exact absurd h hk1.1
    ·exact absurd h hk1.2
    ·exact h
   have hm2:T.M par (ky nm)=some (2,no):=by rw[<-hk2];exact sp.there hk1.1
   obtain ⟨n',s,h1,_⟩:=HV.out.fileF hm2
   exact ⟨n',s,h1,sp.ht,jE7 sp.hn⟩
  obtain ⟨n',s,hF,htk,hns⟩:=hfile
  have HLay3:Hid (Lay W3 q F nn T):=HLay.out W3 HB3.out
  have hun:=jI7 W3 q F nn T HLay3.out par nm htk (by unfold maxLen;omega)
  clear htk
  go_wp2_with fail
  refine (hun).mono ?_
  rintro e w4 ⟨rfl,hT4⟩
  have HL3:=HLay3.out
  have HQw4:Hid _:=hT4.keep HL3 HQ3.out (by decide)
  have HEw4:Hid _:=hT4.keep HL3 HE3.out (by decide)
  have HPw4:Hid _:=hT4.keep HL3 HP3.out (by decide)
  have HSw4:Hid _:=hT4.keep HL3 HS3.out (by decide)
  have s0w4:w4.cell? ⟨w2.heap.size,0,none⟩=some (.int .i64 (par:Int)):=(jAj HSw4.out).trans rfl
  have s1w4:w4.cell? ⟨w2.heap.size,1,none⟩=some (.string nm):=(jAj HSw4.out).trans rfl
  have s2w4:w4.cell? ⟨w2.heap.size,2,none⟩=some (.int .i64 (kd:Int)):=(jAj HSw4.out).trans rfl
  have s3w4:w4.cell? ⟨w2.heap.size,3,none⟩=some (.int .i64 (no:Int)):=(jAj HSw4.out).trans rfl
  have HTw4:Hid _:=hT4
  clear hT4 HL3
  obtain ⟨ho4,F4,hL4,hF4⟩:=HTw4.out
  have hL4d:=hL4.below (Qq w4.heap.size w4).drew
  have hfr:=freeF_any w4.drew q F4 nn _ hL4d no (par,n',s) hF
  have HLay4:Hid _:=hL4d
  have HO4:Hid _:=ho4
  have HF4:Hid _:=hF4
  clear ho4 hL4 hF4 hF hL4d
  go_wp2_with fail
  go_region_with (go_at_call 129;refine hfr.mono ?_;rintro e w5 ⟨rfl,hT5⟩;have HT5:Hid (Turn F4 w4.drew w5 q nn (setF (jA6 T par nm none) no none)):=hT5;clear hT5)
  all_goals
   have HQw5:Hid _:=Turn.keep HT5.out HLay4.out HQw4.out (by decide)
   have HEw5:Hid _:=Turn.keep HT5.out HLay4.out HEw4.out (by decide)
   have HSw5:Hid _:=Turn.keep HT5.out HLay4.out HSw4.out (by decide)
   have s0w5:w5.cell? ⟨w2.heap.size,0,none⟩=some (.int .i64 (par:Int)):=(jAj HSw5.out).trans rfl
   have s3w5:w5.cell? ⟨w2.heap.size,3,none⟩=some (.int .i64 (no:Int)):=(jAj HSw5.out).trans rfl
   have HT:Hid (Turn F w w5 q (nn+1) (setF (jA6 T par nm none) no none)):=(Turn.ahead HB3.out (jC1 HO4.out HF4.out (Turn.ahead (Qq w4.heap.size w4).drew HT5.out))).up (Nat.le_succ _)
   obtain ⟨a0,a1,a2,a3,a4,a5⟩:=jB4 HQw5.out
   obtain ⟨b0,b1,b2,b3,b4,b5,b6⟩:=jCq HEw5.out
   have fz0:∀j,w5.frozen? ⟨w.heap.size+1,j,none⟩=false:=fun j=>jAq HQw5.out
   have fz1:∀j,w5.frozen? ⟨w.heap.size+1+1,j,none⟩=false:=fun j=>jAq HEw5.out
   (try unfold rsV)
   (try unfold Rs.no)
   (try unfold efV)
   (try unfold Ef.no)
   go_wp2_with fail
   go_region_with fail
   all_goals
    refine jBj (R:=fun W=>Exit.then _ _ _ _ W) (Q:=fun W=>Hid (W.heap[w.heap.size+1]?=some (.cells #[.int .i64 0,.string { data:=#[] },.int .i64 0,.slice none 0 0,.int .i64 0,.int .i64 0] 66 (0,0)))/\Hid (W.heap[w.heap.size+1+1]?=some (.cells #[.int .i64 5,.int .i64 (no:Int),.int .i64 (-1),.int .i64 0,.int .i64 0,.string { data:=#[] },.int .i64 0] 68 (0,0)))/\Hid (Turn F w W q (nn+1) (setF (jA6 T par nm none) no none))) _ ⟨jC4 (putRE HQw5.out HEw5.out (by omega)).1,jC4 (putRE HQw5.out HEw5.out (by omega)).2,jEq (HT.out.putRE (by omega) (by omega) HQw5.out HEw5.out)⟩ ?_
    rintro W6 ⟨HR6,HE6,HT6⟩
    go_wp2_with fail
    refine Qw (jAz rfl _ _ (w.heap.size+1) 66 _ (0,0) _ (w.heap.size+1+1) 68 _ (0,0) _ rfl HR6.out underlying66 rfl jB7 rfl HE6.out underlying68 rfl jB5) rfl ?_
    rw[HA2.out]
    exact ⟨_,rfl,Pa.Own.nil _ _,HT6.out⟩
 ·have HA2:Hid (A=ref T e):=HA.out.trans (if_pos he)
  go_wp2_with fail
  refine (jB2 W3 e).mono ?_
  rintro e w4 ⟨rfl,hb4⟩
  have HBw4:Hid (Below w.heap.size w w4):=HB3.out.trans (hb4.mono HB3.out.size)
  have HQw4:Hid _:=(hb4.block _ (jAv HQ3.out)).trans HQ3.out
  have HEw4:Hid _:=(hb4.block _ (jAv HE3.out)).trans HE3.out
  have HPw4:Hid _:=(hb4.block _ (jAv HP3.out)).trans HP3.out
  have HSw4:Hid _:=(hb4.block _ (jAv HS3.out)).trans HS3.out
  clear hb4
  obtain ⟨a0,a1,a2,a3,a4,a5⟩:=jB4 HQw4.out
  obtain ⟨b0,b1,b2,b3,b4,b5,b6⟩:=jCq HEw4.out
  have fz0:∀j,w4.frozen? ⟨w.heap.size+1,j,none⟩=false:=fun j=>jAq HQw4.out
  have fz1:∀j,w4.frozen? ⟨w.heap.size+1+1,j,none⟩=false:=fun j=>jAq HEw4.out
  (try unfold rsV)
  (try unfold Rs.no)
  (try unfold efV)
  (try unfold Ef.no)
  go_wp2_with fail
  refine Qw (jAz rfl _ _ (w.heap.size+1) 66 _ (0,0) _ (w.heap.size+1+1) 68 _ (0,0) _ rfl (putRE HQw4.out HEw4.out (by omega)).1 underlying66 rfl jB7 rfl (putRE HQw4.out HEw4.out (by omega)).2 underlying68 rfl jB5) rfl ?_
  rw[HA2.out]
  exact ⟨_,rfl,Pa.Own.nil _ _,(HLay.out _ (jA3 HBw4.out (by omega) (by omega))).turn0 (jA3 HBw4.out (by omega) (by omega))⟩
theorem resize_any (w:World)(q:Nat)(F:List Nat)(nn:Nat)(T:Ts)(hL:Lay w q F nn T)(i p s s':Nat)(n:ByteArray)(hi:T.F[i]?=some (some (p,n,s))) :
 Calls prog 123 #[.pointer (some ⟨q,0,none⟩),.int .i64 (i:Int),.int .i64 (s':Int)] w fun e w'=>e=.returned (.tuple #[])/\Turn F w w' q nn (jD2 T i s'):=by
 have hg:=getF_any w q F nn T hL i p s n hi
 have e1:jD2 T i s'=setF T i (some (p,n,s')):=by unfold jD2 plF;rw[hi]
 rw[e1]
 have HX:Hid (∀w2,Below w.heap.size w w2->∃W3,w2.alloc (.cells #[.int .i64 (p:Int),.string n,.int .i64 (s':Int)] 147)=W3/\Hid (Below w.heap.size w W3.drew)/\W3.heap[w2.heap.size]?=some (.cells #[.int .i64 (p:Int),.string n,.int .i64 (s':Int)] 147 (0,0)) /\
  Calls prog 162 #[.pointer (some ⟨q,3,none⟩),.int .i64 (i:Int),.agg #[.int .i64 (p:Int),.string n,.int .i64 (s':Int)]] W3.drew fun e w'=>e=.returned (.tuple #[])/\Turn F w w' q nn (setF T i (some (p,n,s')))):=fun w2 hb=>by
  obtain ⟨W3,h3,hb3,k3⟩:=jA4 w2 #[.int .i64 (p:Int),.string n,.int .i64 (s':Int)] 147
  have hbW:Below w.heap.size w W3.drew:=(hb.trans (hb3.mono hb.size)).drew
  refine ⟨W3,h3,hbW,k3,(setF_any W3.drew q F nn T (hL.below hbW) i (jAy hi) p s' n).mono ?_⟩
  rintro e w' ⟨rfl,hT⟩
  exact ⟨rfl,Turn.ahead hbW hT⟩
 clear hL hi e1
 go_enter func123,ntmps123
 go_wp2_with fail
 refine hg.mono ?_
 rintro e w2 ⟨rfl,hb2⟩
 obtain ⟨W3,hW3,HB3,k3,hset⟩:=HX.out w2 hb2
 have s0:W3.cell? ⟨w2.heap.size,0,none⟩=some (.int .i64 (p:Int)):=(jAj k3).trans rfl
 have s1:W3.cell? ⟨w2.heap.size,1,none⟩=some (.string n):=(jAj k3).trans rfl
 have s2:W3.cell? ⟨w2.heap.size,2,none⟩=some (.int .i64 (s':Int)):=(jAj k3).trans rfl
 clear hb2 k3 HX hg
 go_wp2_with fail
 go_region_with (go_at_call 162;refine hset.mono ?_;rintro e w4 ⟨rfl,hT4⟩;have HT4:Hid (Turn F w w4 q nn (setF T i (some (p,n,s')))):=hT4;clear hT4)
 all_goals
  go_wp2
  go_end0
  exact ⟨rfl,HT4.out⟩
theorem cut_any (w:World)(q:Nat)(F:List Nat)(nn:Nat)(T:Ts)(dp:Nat->Nat)(hL:Lay w q F nn T)(hv:Inv T dp)(P:List ByteArray)(sa:Option Addr)(n sc:Nat)(hs:Pa.See w (.slice sa n sc) P)(hnm:P.all Pa.nm=true)(hl:P.length<=16)(ok oa on:Int)(op ot od:ByteArray)(ta:Option Addr)(tn tc:Nat)(hon:0<=on) :
 Calls prog 89 #[.pointer (some ⟨q,0,none⟩),.agg #[.int .i64 ok,.string op,.string ot,.int .i64 oa,.int .i64 on,.string od,.slice sa n sc,.slice ta tn tc]] w fun e w'=>Did F w w' q (nn+1) (cutT T P ⟨ok,op,ot,oa,on,od⟩) e:=by
 obtain ⟨W,hW,hb,kp,k0,k1⟩:=jC5 w #[.int .i64 ok,.string op,.string ot,.int .i64 oa,.int .i64 on,.string od,.slice sa n sc,.slice ta tn tc] R0 E0 101 66 68
 have hc:=jG4 W q F nn T dp (hL.below hb) hv _ P (hs.below hb) hnm hl
 have HX:Hid (∀w2,Below W.heap.size W w2->Below w.heap.size w w2/\w2.heap[w.heap.size]?=some (.cells #[.int .i64 ok,.string op,.string ot,.int .i64 oa,.int .i64 on,.string od,.slice sa n sc,.slice ta tn tc] 101 (0,0))/\w2.heap[w.heap.size+1]?=some (.cells R0 66 (0,0))/\w2.heap[w.heap.size+1+1]?=some (.cells E0 68 (0,0))):=fun w2 h2=>⟨hb.trans (h2.mono hb.size),(h2.block _ (jAv kp)).trans kp,(h2.block _ (jAv k0)).trans k0,(h2.block _ (jAv k1)).trans k1⟩
 obtain ⟨p0,p1,p2,p3,p4,p5,p6,p7⟩:=jC8 kp
 have HLay:Hid (∀W',Below w.heap.size w W'->Lay W' q F nn T):=fun W' hb=>hL.below hb
 have HV:Hid (Inv T dp):=hv
 have HG:Hid ((fndF T P).2=0->fndF T P=fndA T P/\(fndA T P).2=0/\Got T dp P (fndF T P).1):=fun h=>by
  have h1:=jG6 h
  exact ⟨h1.1,h1.2.1,by rw[h1.1];exact got hv hnm h1.2.1⟩
 have HK:Hid ((fndF T P).2=0->(fun k=>k≠0/\k≠1) (fndF T P).1.kd):=fun h=>by
  have h1:=jG6 h
  rw[h1.1]
  exact h1.2.2
 have HA:Hid (cutT T P ⟨ok,op,ot,oa,on,od⟩=if (fndF T P).2≠0 then ref T (fndF T P).2 else if (T.most:Int)<on then ref T 3 else (Rs.no 0,⟨4,(fndF T P).1.no,-1,0,on,e0,on⟩,jD2 T (fndF T P).1.no on.toNat)):=rfl
 generalize fndF T P=r at *
 generalize cutT T P ⟨ok,op,ot,oa,on,od⟩=A at *
 obtain ⟨⟨par,nm,kd,no⟩,e⟩:=r
 unfold spV spA at hc
 unfold R0 E0 at hW
 clear hL hv hs hb kp k0 k1
 go_enter func89,ntmps89
 go_wp2_with fail
 refine hc.mono ?_
 rintro e w2 ⟨rfl,hb2⟩
 obtain ⟨hbw,qp,q0,q1⟩:=HX.out w2 hb2
 obtain ⟨W3,hW3,hb3,k3⟩:=jA4 w2 #[.int .i64 (par:Int),.string nm,.int .i64 (kd:Int),.int .i64 (no:Int)] 210
 have HB3:Hid (Below w.heap.size w W3):=hbw.trans (hb3.mono hbw.size)
 have s0:W3.cell? ⟨w2.heap.size,0,none⟩=some (.int .i64 (par:Int)):=(jAj k3).trans rfl
 have s1:W3.cell? ⟨w2.heap.size,1,none⟩=some (.string nm):=(jAj k3).trans rfl
 have s2:W3.cell? ⟨w2.heap.size,2,none⟩=some (.int .i64 (kd:Int)):=(jAj k3).trans rfl
 have s3:W3.cell? ⟨w2.heap.size,3,none⟩=some (.int .i64 (no:Int)):=(jAj k3).trans rfl
 have hn2:w.heap.size+1+1<w2.heap.size:=jAv q1
 have hne1:¬w2.heap.size=w.heap.size+1:=by omega
 have hne2:¬w2.heap.size=w.heap.size+1+1:=by omega
 have hne3:¬w.heap.size+1=w2.heap.size:=by omega
 have hne4:¬w.heap.size+1+1=w2.heap.size:=by omega
 clear hn2
 have HS3:Hid _:=k3
 have HP3:Hid _:=(hb3.block _ (jAv qp)).trans qp
 have HQ3:Hid _:=(hb3.block _ (jAv q0)).trans q0
 have HE3:Hid _:=(hb3.block _ (jAv q1)).trans q1
 clear hb2 hbw qp q0 q1 hb3 k3 HX hc
 by_cases he:e=0
 ·subst he
  have hfile:∃(n':ByteArray) (s:Nat),T.F[no]?=some (some (par,n',s))/\tk T par/\nm.size<=32:=by
   obtain ⟨g1,g2,g3⟩:=HG.out rfl
   have hk1:=HK.out rfl
   have hP0:P≠[]:=fun e=>hk1.2 (by have:=g3.rt e;injection this)
   have sp:=g3.sp hP0
   have hk2:kd=2:=by
    rcases sp.kd HV.out with h | h | h
    ·exact absurd h hk1.1
    ·exact absurd h hk1.2
    ·exact h
   have hm2:T.M par (ky nm)=some (2,no):=by rw[<-hk2];exact sp.there hk1.1
   obtain ⟨n',s,h1,_⟩:=HV.out.fileF hm2
   exact ⟨n',s,h1,sp.ht,jE7 sp.hn⟩
  obtain ⟨n',s,hF,htk,hns⟩:=hfile
  have HLay3:Hid (∀j,Lay (W3.drewN j) q F nn T):=fun j=>HLay.out _ (bdr HB3.out j)
  obtain ⟨dv,fv,ld,lf,ms,-,hI3⟩:=HLay3.out 0
  have c6:W3.cell? ⟨q,6,none⟩=some (.int .i64 (T.most:Int)):=hI3.cells.2.2.2.2.2.2
  have p4':W3.cell? ⟨w.heap.size,4,none⟩=some (.int .i64 on):=(jAj HP3.out).trans rfl
  obtain ⟨M,hM⟩:∃M,T.most=M:=⟨_,rfl⟩
  rw[hM] at c6 HA
  clear hI3 htk hns
  by_cases hbig:(M:Int)<on
  ·have HA2:Hid (A=ref T 3):=HA.out.trans ((if_neg (by simp)).trans (if_pos hbig))
   go_wp2_with fail
   go_quiet (fail)
   go_wp2_with fail
   refine (jB2 _ 3).mono ?_
   rintro e w4 ⟨rfl,hb4⟩
   have hb4':Below W3.heap.size W3 w4:=(bdr (Qq W3.heap.size W3) _).trans hb4
   have HBw4:Hid (Below w.heap.size w w4):=HB3.out.trans (hb4'.mono HB3.out.size)
   have HQw4:Hid _:=(hb4'.block _ (jAv HQ3.out)).trans HQ3.out
   have HEw4:Hid _:=(hb4'.block _ (jAv HE3.out)).trans HE3.out
   clear hb4 hb4'
   obtain ⟨a0,a1,a2,a3,a4,a5⟩:=jB4 HQw4.out
   obtain ⟨b0,b1,b2,b3,b4,b5,b6⟩:=jCq HEw4.out
   have fz0:∀j,w4.frozen? ⟨w.heap.size+1,j,none⟩=false:=fun j=>jAq HQw4.out
   have fz1:∀j,w4.frozen? ⟨w.heap.size+1+1,j,none⟩=false:=fun j=>jAq HEw4.out
   (try unfold rsV)
   (try unfold Rs.no)
   (try unfold efV)
   (try unfold Ef.no)
   go_wp2_with fail
   refine Qw (jAz rfl _ _ (w.heap.size+1) 66 _ (0,0) _ (w.heap.size+1+1) 68 _ (0,0) _ rfl (putRE HQw4.out HEw4.out (by omega)).1 underlying66 rfl jB7 rfl (putRE HQw4.out HEw4.out (by omega)).2 underlying68 rfl jB5) rfl ?_
   rw[HA2.out]
   exact ⟨_,rfl,Pa.Own.nil _ _,(HLay.out _ (jA3 HBw4.out (by omega) (by omega))).turn0 (jA3 HBw4.out (by omega) (by omega))⟩
  ·have HA2:Hid (A=(Rs.no 0,⟨4,no,-1,0,on,e0,on⟩,jD2 T no on.toNat)):=HA.out.trans ((if_neg (by simp)).trans (if_neg hbig))
   obtain ⟨s',rfl⟩:∃s':Nat,on=s':=⟨on.toNat,by omega⟩
   have HRZ:Hid (∀j,Calls prog 123 #[.pointer (some ⟨q,0,none⟩),.int .i64 (no:Int),.int .i64 (s':Int)] (W3.drewN j) fun e w'=>e=.returned (.tuple #[])/\Hid (Turn F (W3.drewN j) w' q nn (jD2 T no s'))):=fun j=>resize_any _ q F nn T (HLay3.out j) no par s s' n' hF
   have HFX:Hid ((jD2 T no s').F[no]?=some (some (par,n',s'))):=by
    have e1:jD2 T no s'=setF T no (some (par,n',s')):=by unfold jD2 plF;rw[hF]
    show _=_
    rw[e1,jD6 T no _ (Nat.le_of_lt (jAy hF)),if_pos rfl]
   clear hF
   go_wp2_with fail
   go_quiet (fail)
   go_wp2_with fail
   refine (HRZ.out _).mono ?_
   rintro e w4 ⟨rfl,HT4⟩
   have HQw4:Hid _:=Turn.keep HT4.out (HLay3.out _) HQ3.out (by decide)
   have HEw4:Hid _:=Turn.keep HT4.out (HLay3.out _) HE3.out (by decide)
   have HPw4:Hid _:=Turn.keep HT4.out (HLay3.out _) HP3.out (by decide)
   have HSw4:Hid _:=Turn.keep HT4.out (HLay3.out _) HS3.out (by decide)
   have HTw4:Hid (Turn F w w4 q (nn+1) (jD2 T no s')):=(Turn.ahead (bdr HB3.out _) HT4.out).up (Nat.le_succ _)
   have s3w4:w4.cell? ⟨w2.heap.size,3,none⟩=some (.int .i64 (no:Int)):=(jAj HSw4.out).trans rfl
   obtain ⟨ho4,F4,hL4,hF4⟩:=HTw4.out
   have hef:=jJ2 w4 q F4 (nn+1) _ hL4 4 no par s' n' HFX.out
   clear ho4 hL4 hF4 HRZ HT4 HFX
   unfold efV at hef
   go_wp2_with fail
   refine hef.mono ?_
   rintro e w5 ⟨rfl,hb5⟩
   obtain ⟨W6,hW6,hb6,k6⟩:=jA4 w5 #[.int .i64 4,.int .i64 (no:Int),.int .i64 (-1),.int .i64 0,.int .i64 (s':Int),.string e0,.int .i64 (s':Int)] 68
   have hb46:Below w4.heap.size w4 W6:=hb5.trans (hb6.mono hb5.size)
   have p4i:(w5.alloc (.cells #[.int .i64 4,.int .i64 (no:Int),.int .i64 (-1),.int .i64 0,.int .i64 0,.string e0,.int .i64 (s':Int)] 68)).cell? ⟨w.heap.size,4,none⟩=some (.int .i64 (s':Int)):=by
    rw[jAj ((QK _ _ _ (Qx (jAv HPw4.out) hb5.size)).trans ((hb5.block _ (jAv HPw4.out)).trans HPw4.out))]
    rfl
   obtain ⟨y0,y1,y2,y3,y4,y5,y6⟩:=jCq k6
   have HQW6:Hid _:=(hb46.block _ (jAv HQw4.out)).trans HQw4.out
   have HEW6:Hid _:=(hb46.block _ (jAv HEw4.out)).trans HEw4.out
   have HT:Hid (Turn F w W6 q (nn+1) (jD2 T no s')):=HTw4.out.below hb46
   have hlt5:w.heap.size+1+1<w5.heap.size:=Qx (jAv HEw4.out) hb5.size
   have hne5:¬w5.heap.size=w.heap.size+1:=by omega
   have hne6:¬w5.heap.size=w.heap.size+1+1:=by omega
   have hne7:¬w.heap.size+1=w5.heap.size:=by omega
   have hne8:¬w.heap.size+1+1=w5.heap.size:=by omega
   clear hb5 hb6 k6 hb46 hef hlt5
   obtain ⟨a0,a1,a2,a3,a4,a5⟩:=jB4 HQW6.out
   obtain ⟨b0,b1,b2,b3,b4,b5,b6⟩:=jCq HEW6.out
   have fz0:∀j,W6.frozen? ⟨w.heap.size+1,j,none⟩=false:=fun j=>jAq HQW6.out
   have fz1:∀j,W6.frozen? ⟨w.heap.size+1+1,j,none⟩=false:=fun j=>jAq HEW6.out
   (try unfold rsV)
   (try unfold Rs.no)
   (try unfold efV)
   (try unfold Ef.no)
   go_wp2_with fail
   go_region_with fail
   all_goals
    refine jBj (R:=fun W=>Exit.then _ _ _ _ W) (Q:=fun W=>Hid (W.heap[w.heap.size+1]?=some (.cells #[.int .i64 0,.string { data:=#[] },.int .i64 0,.slice none 0 0,.int .i64 0,.int .i64 0] 66 (0,0)))/\Hid (W.heap[w.heap.size+1+1]?=some (.cells #[.int .i64 4,.int .i64 (no:Int),.int .i64 (-1),.int .i64 0,.int .i64 (s':Int),.string { data:=#[] },.int .i64 (s':Int)] 68 (0,0)))/\Hid (Turn F w W q (nn+1) (jD2 T no s'))) _ ⟨jC4 (putRE HQW6.out HEW6.out (by omega)).1,jC4 (putRE HQW6.out HEW6.out (by omega)).2,jEq (HT.out.putRE (by omega) (by omega) HQW6.out HEW6.out)⟩ ?_
    rintro W6 ⟨HR6,HE6,HT6⟩
    go_wp2_with fail
    refine Qw (jAz rfl _ _ (w.heap.size+1) 66 _ (0,0) _ (w.heap.size+1+1) 68 _ (0,0) _ rfl HR6.out underlying66 rfl jB7 rfl HE6.out underlying68 rfl jB5) rfl ?_
    rw[HA2.out]
    exact ⟨_,rfl,Pa.Own.nil _ _,HT6.out⟩
 ·have HA2:Hid (A=ref T e):=HA.out.trans (if_pos he)
  go_wp2_with fail
  refine (jB2 W3 e).mono ?_
  rintro e w4 ⟨rfl,hb4⟩
  have HBw4:Hid (Below w.heap.size w w4):=HB3.out.trans (hb4.mono HB3.out.size)
  have HQw4:Hid _:=(hb4.block _ (jAv HQ3.out)).trans HQ3.out
  have HEw4:Hid _:=(hb4.block _ (jAv HE3.out)).trans HE3.out
  have HPw4:Hid _:=(hb4.block _ (jAv HP3.out)).trans HP3.out
  have HSw4:Hid _:=(hb4.block _ (jAv HS3.out)).trans HS3.out
  clear hb4
  obtain ⟨a0,a1,a2,a3,a4,a5⟩:=jB4 HQw4.out
  obtain ⟨b0,b1,b2,b3,b4,b5,b6⟩:=jCq HEw4.out
  have fz0:∀j,w4.frozen? ⟨w.heap.size+1,j,none⟩=false:=fun j=>jAq HQw4.out
  have fz1:∀j,w4.frozen? ⟨w.heap.size+1+1,j,none⟩=false:=fun j=>jAq HEw4.out
  (try unfold rsV)
  (try unfold Rs.no)
  (try unfold efV)
  (try unfold Ef.no)
  go_wp2_with fail
  refine Qw (jAz rfl _ _ (w.heap.size+1) 66 _ (0,0) _ (w.heap.size+1+1) 68 _ (0,0) _ rfl (putRE HQw4.out HEw4.out (by omega)).1 underlying66 rfl jB7 rfl (putRE HQw4.out HEw4.out (by omega)).2 underlying68 rfl jB5) rfl ?_
  rw[HA2.out]
  exact ⟨_,rfl,Pa.Own.nil _ _,(HLay.out _ (jA3 HBw4.out (by omega) (by omega))).turn0 (jA3 HBw4.out (by omega) (by omega))⟩
