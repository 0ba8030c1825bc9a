import Derived.Test.YtfnklhajafmooaaGreatDoorG14
import Derived.Sort.KeysCollected
import Derived.Test.YtfnklhajafmooaaGreatDoorG18
set_option maxHeartbeats 4000000
set_option maxRecDepth 20000
namespace Go.Proofs.YtfnklhajafmooaaGreatDoor.Tr
open Go.RowKit Go.Lib Go.Deep Go.Proofs.Tryz
theorem size_zero {w:World}{m n:Nat}{Dt:DataW Unit}{f:Key->Option (Nat × Nat)}(h:w.ownsMap prog 9 jF2 m n Dt)(hT:Tab Dt f):Maps.size Dt=0↔¬∃k,(f k).isSome=true:=by
 obtain ⟨es,rfl,hko⟩:=h.keysOf
 constructor
 ·rintro h0 ⟨k,hk⟩
  have hes:es=[]:=Qb h0
  subst hes
  rw[<-hT.has k] at hk
  cases hk
 ·intro hno
  cases es with
  | nil=>rfl
  | cons p es =>
    exfalso
    obtain ⟨v,hv⟩:=hko p (by simp)
    obtain ⟨x,_,hx,_⟩:=Maps.keyOf_str underlying9 hv
    refine hno ⟨x,?_⟩
    rw[<-hT.has x]
    simp[Maps.has,hx,Lit.sameKey]
open Classical in
theorem rmdir_any (w:World)(q:Nat)(F:List Nat)(nn:Nat)(T:Ts)(dp:Nat->Nat)(hL:Lay w q F nn T)(hv:Inv T dp)(P:List ByteArray)(sa:Option Addr)(n sc:Nat)(hs:Pa.See w (.slice sa n sc) P)(hnm:P.all Pa.nm=true)(hl:P.length<=16)(ok oa on:Int)(op ot od:ByteArray)(ta:Option Addr)(tn tc:Nat) :
 Calls prog 92 #[.pointer (some ⟨q,0,none⟩),.agg #[.int .i64 ok,.string op,.string ot,.int .i64 oa,.int .i64 on,.string od,.slice sa n sc,.slice ta tn tc]] w fun e w'=>Did F w w' q (nn+1) (rmdT T P) e:=by
 obtain ⟨W,hW,hb,kp,k0,k1⟩:=jC5 w #[.int .i64 ok,.string op,.string ot,.int .i64 oa,.int .i64 on,.string od,.slice sa n sc,.slice ta tn tc] R0 E0 101 66 68
 have hc:=jOz W q F nn T dp (hL.below hb) hv _ P (hs.below hb) hnm hl
 have HX:Hid (∀w2,Below W.heap.size W w2->Below w.heap.size w w2/\w2.heap[w.heap.size]?=some (.cells #[.int .i64 ok,.string op,.string ot,.int .i64 oa,.int .i64 on,.string od,.slice sa n sc,.slice ta tn tc] 101 (0,0))/\w2.heap[w.heap.size+1]?=some (.cells R0 66 (0,0))/\w2.heap[w.heap.size+1+1]?=some (.cells E0 68 (0,0))):=fun w2 h2=>⟨hb.trans (h2.mono hb.size),(h2.block _ (jAv kp)).trans kp,(h2.block _ (jAv k0)).trans k0,(h2.block _ (jAv k1)).trans k1⟩
 obtain ⟨p0,p1,p2,p3,p4,p5,p6,p7⟩:=jC8 kp
 have HLay:Hid (∀W',Below w.heap.size w W'->Lay W' q F nn T):=fun W' hb=>hL.below hb
 have HV:Hid (Inv T dp):=hv
 have HG:Hid ((fndD T P).2=0->fndD T P=fndA T P/\(fndA T P).2=0/\Got T dp P (fndD T P).1):=fun h=>by
  have h1:=jN4 h
  exact ⟨h1.1,h1.2.1,by rw[h1.1];exact got hv hnm h1.2.1⟩
 have HK:Hid ((fndD T P).2=0->(fun k=>k≠0/\k≠2) (fndD T P).1.kd):=fun h=>by
  have h1:=jN4 h
  rw[h1.1]
  exact h1.2.2
 have hnP:n=P.length:=by
  obtain ⟨a,c,e,_⟩:=hs
  injection e
 have HA:Hid (rmdT T P=if P=[] then ref T 1 else if (fndD T P).2≠0 then ref T (fndD T P).2 else if ∃k,(T.M (fndD T P).1.no k).isSome=true then ref T 124 else (Rs.no 0,Ef.no,setD (jA6 T (fndD T P).1.par (fndD T P).1.nm none) (fndD T P).1.no none)):=rfl
 by_cases hP0:P=[]
 ·have hn0:n=0:=by rw[hnP,hP0];rfl
  have HA2:Hid (rmdT T P=ref T 1):=HA.out.trans (if_pos hP0)
  generalize rmdT T P=A at *
  have hrf:=jB2 W 1
  have HXX:=HX
  clear hc HG HK HA hL hv hs hb kp k0 k1 hnP hP0 HX
  subst hn0
  unfold R0 E0 at hW
  go_enter func92,ntmps92
  go_wp2_with fail
  refine hrf.mono ?_
  rintro e w4 ⟨rfl,hb4⟩
  obtain ⟨hbw,-,q0,q1⟩:=HXX.out w4 hb4
  have HBw4:Hid _:=hbw
  have HQw4:Hid _:=q0
  have HEw4:Hid _:=q1
  clear hbw q0 q1 hb4 hrf
  obtain ⟨a0,a1,a2,a3,a4,a5⟩:=jB4 HQw4.out
  obtain ⟨b0,b1,b2,b3,b4,b5,b6⟩:=jCq HEw4.out
  have fz0:∀j,w4.frozen? ⟨w.heap.size+1,j,none⟩=false:=fun j=>jAq HQw4.out
  have fz1:∀j,w4.frozen? ⟨w.heap.size+1+1,j,none⟩=false:=fun j=>jAq HEw4.out
  (try unfold rsV)
  (try unfold Rs.no)
  (try unfold efV)
  (try unfold Ef.no)
  go_wp2_with fail
  refine Qw (jAz rfl _ _ (w.heap.size+1) 66 _ (0,0) _ (w.heap.size+1+1) 68 _ (0,0) _ rfl (putRE HQw4.out HEw4.out (by omega)).1 underlying66 rfl jB7 rfl (putRE HQw4.out HEw4.out (by omega)).2 underlying68 rfl jB5) rfl ?_
  rw[HA2.out]
  exact ⟨_,rfl,Pa.Own.nil _ _,(HLay.out _ (jA3 HBw4.out (by omega) (by omega))).turn0 (jA3 HBw4.out (by omega) (by omega))⟩
 have hnI:¬(n:Int)=0:=by
  have:P.length≠0:=fun e=>hP0 (Qb e)
  omega
 have HA':Hid (rmdT T P=if (fndD T P).2≠0 then ref T (fndD T P).2 else if ∃k,(T.M (fndD T P).1.no k).isSome=true then ref T 124 else (Rs.no 0,Ef.no,setD (jA6 T (fndD T P).1.par (fndD T P).1.nm none) (fndD T P).1.no none)):=HA.out.trans (if_neg hP0)
 clear HA hnP
 generalize fndD T P=r at *
 generalize rmdT T P=A at *
 obtain ⟨⟨par,nm,kd,no⟩,e⟩:=r
 unfold spV spA at hc
 unfold R0 E0 at hW
 clear hL hv hs hb kp k0 k1
 go_enter func92,ntmps92
 go_wp2_with fail
 refine hc.mono ?_
 rintro e w2 ⟨rfl,hb2⟩
 obtain ⟨hbw,qp,q0,q1⟩:=HX.out w2 hb2
 obtain ⟨W3,hW3,hb3,k3⟩:=jA4 w2 #[.int .i64 (par:Int),.string nm,.int .i64 (kd:Int),.int .i64 (no:Int)] 210
 have HB3:Hid (Below w.heap.size w W3):=hbw.trans (hb3.mono hbw.size)
 have s0:W3.cell? ⟨w2.heap.size,0,none⟩=some (.int .i64 (par:Int)):=(jAj k3).trans rfl
 have s1:W3.cell? ⟨w2.heap.size,1,none⟩=some (.string nm):=(jAj k3).trans rfl
 have s2:W3.cell? ⟨w2.heap.size,2,none⟩=some (.int .i64 (kd:Int)):=(jAj k3).trans rfl
 have s3:W3.cell? ⟨w2.heap.size,3,none⟩=some (.int .i64 (no:Int)):=(jAj k3).trans rfl
 have hn2:w.heap.size+1+1<w2.heap.size:=jAv q1
 have hne1:¬w2.heap.size=w.heap.size+1:=by omega
 have hne2:¬w2.heap.size=w.heap.size+1+1:=by omega
 have hne3:¬w.heap.size+1=w2.heap.size:=by omega
 have hne4:¬w.heap.size+1+1=w2.heap.size:=by omega
 clear hn2
 have HS3:Hid _:=k3
 have HP3:Hid _:=(hb3.block _ (jAv qp)).trans qp
 have HQ3:Hid _:=(hb3.block _ (jAv q0)).trans q0
 have HE3:Hid _:=(hb3.block _ (jAv q1)).trans q1
 clear hb2 hbw qp q0 q1 hb3 k3 HX hc
 by_cases he:e=0
 ·subst he
  have hdir:kd=1/\tk T par/\nm.size<=32/\∃d,T.D[no]?=some (some d):=by
   obtain ⟨g1,g2,g3⟩:=HG.out rfl
   have hk1:=HK.out rfl
   have sp:=g3.sp hP0
   have hk2:kd=1:=by
    rcases sp.kd HV.out with h | h | h
    ·exact absurd h hk1.1
    ·exact h
    ·exact absurd h hk1.2
   exact ⟨hk2,sp.ht,jE7 sp.hn,(g3.dir hk2).1⟩
  obtain ⟨hk,htk,hns,d,hD⟩:=hdir
  have HL3:Hid (Lay W3 q F nn T):=HLay.out W3 HB3.out
  obtain ⟨dv,fv,ld,lf,ms,hFe,hI⟩:=HL3.out
  have hin:=jD0 W3 q dv fv ld lf ms nn T hI no d hD
  have HLen:Hid (∀w4,Below W3.heap.size W3 w4->∃sz:Nat,(Builtin.len_ #[142] 3 #[.map (some (ms no))]).run prog w4=.ok (.int .i64 (sz:Int)) w4/\Hid (sz=0↔¬∃k,(T.M no k).isSome=true)/\sz<=nn):=fun w4 hb4=>by
   obtain ⟨Dt,hm,hT⟩:=(hI.below hb4).hm no d hD
   exact ⟨_,hm.len underlying142 3,size_zero hm hT,hm.size_le⟩
  have HD:Hid (T.D[no]?=some (some d)):=hD
  have HTK:Hid (tk T par):=htk
  generalize ms no=m at *
  clear hI hFe hD htk hk
  go_wp2_with (fail)
  refine hin.mono ?_
  rintro e w4 ⟨rfl,hb4⟩
  obtain ⟨sz,hlen,HSZ,hsn⟩:=HLen.out w4 hb4
  have HB34:Hid (Below W3.heap.size W3 w4):=hb4
  have HBw4:Hid (Below w.heap.size w w4):=HB3.out.trans (hb4.mono HB3.out.size)
  have HQw4:Hid _:=(hb4.block _ (jAv HQ3.out)).trans HQ3.out
  have HEw4:Hid _:=(hb4.block _ (jAv HE3.out)).trans HE3.out
  have HSw4:Hid _:=(hb4.block _ (jAv HS3.out)).trans HS3.out
  have s0w4:w4.cell? ⟨w2.heap.size,0,none⟩=some (.int .i64 (par:Int)):=(jAj HSw4.out).trans rfl
  have s1w4:w4.cell? ⟨w2.heap.size,1,none⟩=some (.string nm):=(jAj HSw4.out).trans rfl
  have s3w4:w4.cell? ⟨w2.heap.size,3,none⟩=some (.int .i64 (no:Int)):=(jAj HSw4.out).trans rfl
  clear hb4 hin HLen
  by_cases hz:sz=0
  ·have HA2:Hid (A=(Rs.no 0,Ef.no,setD (jA6 T par nm none) no none)):=HA'.out.trans ((if_neg (by simp)).trans (if_neg (HSZ.out.1 hz)))
   subst hz
   have hlen':(Builtin.len_ #[142] 3 #[.map (some m)]).run prog w4=.ok (.int .i64 0) w4:=hlen
   have hun:=jI7 w4 q F nn T (HLay.out _ HBw4.out) par nm HTK.out (by unfold maxLen;omega)
   clear hlen HSZ hsn
   go_wp2_with fail
   refine hun.mono ?_
   rintro e w5 ⟨rfl,hT5⟩
   have HQw5:Hid _:=Turn.keep hT5 (HLay.out _ HBw4.out) HQw4.out (by decide)
   have HEw5:Hid _:=Turn.keep hT5 (HLay.out _ HBw4.out) HEw4.out (by decide)
   have HSw5:Hid _:=Turn.keep hT5 (HLay.out _ HBw4.out) HSw4.out (by decide)
   have s3w5:w5.cell? ⟨w2.heap.size,3,none⟩=some (.int .i64 (no:Int)):=(jAj HSw5.out).trans rfl
   obtain ⟨ho5,F5,hL5,hF5⟩:=hT5
   have hL5d:=hL5.below (Qq w5.heap.size w5).drew
   have hfr:=freeD_any w5.drew q F5 nn _ hL5d no d HD.out
   have HL5:Hid _:=hL5d
   have HO5:Hid _:=ho5
   have HF5:Hid _:=hF5
   clear ho5 hL5 hF5 hL5d hun
   go_wp2_with fail
   go_region_with (go_at_call 133;refine hfr.mono ?_;rintro e w6 ⟨rfl,hT6⟩;have HT6:Hid (Turn F5 w5.drew w6 q nn (setD (jA6 T par nm none) no none)):=hT6;clear hT6)
   all_goals
    have HQw6:Hid _:=Turn.keep HT6.out HL5.out HQw5.out (by decide)
    have HEw6:Hid _:=Turn.keep HT6.out HL5.out HEw5.out (by decide)
    have HTw6:Hid (Turn F w w6 q (nn+1) (setD (jA6 T par nm none) no none)):=(Turn.ahead HBw4.out (jC1 HO5.out HF5.out (Turn.ahead (Qq w5.heap.size w5).drew HT6.out))).up (Nat.le_succ _)
    go_wp2_with fail
    refine (jFy w6 0 0 0 0 none 0 0).mono ?_
    rintro e w7 ⟨rfl,hb7⟩
    have HQw7:Hid _:=(hb7.block _ (jAv HQw6.out)).trans HQw6.out
    have HEw7:Hid _:=(hb7.block _ (jAv HEw6.out)).trans HEw6.out
    have HTw7:Hid (Turn F w w7 q (nn+1) (setD (jA6 T par nm none) no none)):=HTw6.out.below hb7
    clear hb7
    obtain ⟨a0,a1,a2,a3,a4,a5⟩:=jB4 HQw7.out
    obtain ⟨b0,b1,b2,b3,b4,b5,b6⟩:=jCq HEw7.out
    have fz0:∀j,w7.frozen? ⟨w.heap.size+1,j,none⟩=false:=fun j=>jAq HQw7.out
    have fz1:∀j,w7.frozen? ⟨w.heap.size+1+1,j,none⟩=false:=fun j=>jAq HEw7.out
    (try unfold rsV)
    (try unfold Rs.no)
    (try unfold efV)
    (try unfold Ef.no)
    go_wp2_with fail
    refine Qw (jAz rfl _ _ (w.heap.size+1) 66 _ (0,0) _ (w.heap.size+1+1) 68 _ (0,0) _ rfl (putRE HQw7.out HEw7.out (by omega)).1 underlying66 rfl jB7 rfl (putRE HQw7.out HEw7.out (by omega)).2 underlying68 rfl jB5) rfl ?_
    rw[HA2.out]
    exact ⟨_,rfl,Pa.Own.nil _ _,HTw7.out.putRE (by omega) (by omega) HQw7.out HEw7.out⟩
  ·have HA2:Hid (A=ref T 124):=HA'.out.trans ((if_neg (by simp)).trans (if_pos (Classical.byContradiction (fun h=>hz (HSZ.out.2 h)))))
   have hzI:(0:Int)<(sz:Int):=by omega
   go_wp2_with fail
   refine (jB2 w4 124).mono ?_
   rintro e w6 ⟨rfl,hb6⟩
   have HQw6:Hid _:=(hb6.block _ (jAv HQw4.out)).trans HQw4.out
   have HEw6:Hid _:=(hb6.block _ (jAv HEw4.out)).trans HEw4.out
   have HBw6:Hid (Below w.heap.size w w6):=HBw4.out.trans (hb6.mono HBw4.out.size)
   clear hb6
   obtain ⟨a0,a1,a2,a3,a4,a5⟩:=jB4 HQw6.out
   obtain ⟨b0,b1,b2,b3,b4,b5,b6⟩:=jCq HEw6.out
   have fz0:∀j,w6.frozen? ⟨w.heap.size+1,j,none⟩=false:=fun j=>jAq HQw6.out
   have fz1:∀j,w6.frozen? ⟨w.heap.size+1+1,j,none⟩=false:=fun j=>jAq HEw6.out
   (try unfold rsV)
   (try unfold Rs.no)
   (try unfold efV)
   (try unfold Ef.no)
   go_wp2_with fail
   refine Qw (jAz rfl _ _ (w.heap.size+1) 66 _ (0,0) _ (w.heap.size+1+1) 68 _ (0,0) _ rfl (putRE HQw6.out HEw6.out (by omega)).1 underlying66 rfl jB7 rfl (putRE HQw6.out HEw6.out (by omega)).2 underlying68 rfl jB5) rfl ?_
   rw[HA2.out]
   exact ⟨_,rfl,Pa.Own.nil _ _,(HLay.out _ (jA3 HBw6.out (by omega) (by omega))).turn0 (jA3 HBw6.out (by omega) (by omega))⟩
 ·have HA2:Hid (A=ref T e):=HA'.out.trans (if_pos he)
  go_wp2_with fail
  refine (jB2 W3 e).mono ?_
  rintro e w4 ⟨rfl,hb4⟩
  have HBw4:Hid (Below w.heap.size w w4):=HB3.out.trans (hb4.mono HB3.out.size)
  have HQw4:Hid _:=(hb4.block _ (jAv HQ3.out)).trans HQ3.out
  have HEw4:Hid _:=(hb4.block _ (jAv HE3.out)).trans HE3.out
  have HPw4:Hid _:=(hb4.block _ (jAv HP3.out)).trans HP3.out
  have HSw4:Hid _:=(hb4.block _ (jAv HS3.out)).trans HS3.out
  clear hb4
  obtain ⟨a0,a1,a2,a3,a4,a5⟩:=jB4 HQw4.out
  obtain ⟨b0,b1,b2,b3,b4,b5,b6⟩:=jCq HEw4.out
  have fz0:∀j,w4.frozen? ⟨w.heap.size+1,j,none⟩=false:=fun j=>jAq HQw4.out
  have fz1:∀j,w4.frozen? ⟨w.heap.size+1+1,j,none⟩=false:=fun j=>jAq HEw4.out
  (try unfold rsV)
  (try unfold Rs.no)
  (try unfold efV)
  (try unfold Ef.no)
  go_wp2_with fail
  refine Qw (jAz rfl _ _ (w.heap.size+1) 66 _ (0,0) _ (w.heap.size+1+1) 68 _ (0,0) _ rfl (putRE HQw4.out HEw4.out (by omega)).1 underlying66 rfl jB7 rfl (putRE HQw4.out HEw4.out (by omega)).2 underlying68 rfl jB5) rfl ?_
  rw[HA2.out]
  exact ⟨_,rfl,Pa.Own.nil _ _,(HLay.out _ (jA3 HBw4.out (by omega) (by omega))).turn0 (jA3 HBw4.out (by omega) (by omega))⟩
end Go.Proofs.YtfnklhajafmooaaGreatDoor.Tr
namespace Go.Proofs.YtfnklhajafmooaaGreatDoor.Tr
open Go.RowKit Go.Lib Go.Deep Go.Proofs.Tryz
theorem keys_of {w:World}{m n:Nat}{Dt:DataW Unit}{f:Key->Option (Nat × Nat)}(h:w.ownsMap prog 9 jF2 m n Dt)(hT:Tab Dt f):(strKeys Dt).Nodup/\∀k,k∈strKeys Dt↔(f k).isSome=true:=by
 obtain ⟨es,hD,hpw,_⟩:=h.entries jOj
 obtain ⟨es',hD',hko⟩:=h.keysOf
 obtain rfl:es=es':=by rw[hD] at hD';simpa using hD'
 subst hD
 have hk:∀p∈es,∃x,p.1=Lit.string x:=fun p hp=>by
  obtain ⟨v,hv⟩:=hko p hp
  obtain ⟨x,_,hx,_⟩:=Maps.keyOf_str underlying9 hv
  exact ⟨x,hx⟩
 refine ⟨?_,fun x=>?_⟩
 ·show (es.map fun p=>strOf p.1).Nodup
  refine List.pairwise_map.2 (hpw.imp_of_mem fun {p q} hp hq hne e=>hne ?_)
  obtain ⟨a,ha⟩:=hk p hp
  obtain ⟨b,hb⟩:=hk q hq
  rw[ha,hb] at e ⊢
  simp only[strOf] at e
  rw[e]
 ·rw[<-hT.has x]
  show x∈(es.map fun p=>strOf p.1)↔(es.any fun p=>p.1.sameKey (.string x))=true
  rw[List.mem_map,List.any_eq_true]
  constructor
  ·rintro ⟨p,hp',rfl⟩
   obtain ⟨a,ha⟩:=hk p hp'
   exact ⟨p,hp',by rw[ha];simp[Lit.sameKey,strOf]⟩
  ·rintro ⟨p,hp',hs⟩
   obtain ⟨a,ha⟩:=hk p hp'
   rw[ha] at hs
   exact ⟨p,hp',by rw[ha];simpa[Lit.sameKey,strOf] using hs⟩
theorem own_putRE {B:Nat}{W:World}{g b:Nat}{v:Value}{L:List ByteArray}{r0 r1 r2 r3 r4 r5 f0 f1 f2 f3 f4 f5 f6:Value}(h:Pa.Own W B v L)(hg:∀k,v.ownBlock=some k->k≠g/\k≠b):Pa.Own (((((((((((((W.setCell ⟨g,0,none⟩ r0).setCell ⟨g,1,none⟩ r1).setCell ⟨g,2,none⟩ r2).setCell ⟨g,3,none⟩ r3).setCell ⟨g,4,none⟩ r4).setCell ⟨g,5,none⟩ r5).setCell ⟨b,0,none⟩ f0).setCell ⟨b,1,none⟩ f1).setCell ⟨b,2,none⟩ f2).setCell ⟨b,3,none⟩ f3).setCell ⟨b,4,none⟩ f4).setCell ⟨b,5,none⟩ f5).setCell ⟨b,6,none⟩ f6) B v L:=by
 have ho:Only [g,b] W (((((((((((((W.setCell ⟨g,0,none⟩ r0).setCell ⟨g,1,none⟩ r1).setCell ⟨g,2,none⟩ r2).setCell ⟨g,3,none⟩ r3).setCell ⟨g,4,none⟩ r4).setCell ⟨g,5,none⟩ r5).setCell ⟨b,0,none⟩ f0).setCell ⟨b,1,none⟩ f1).setCell ⟨b,2,none⟩ f2).setCell ⟨b,3,none⟩ f3).setCell ⟨b,4,none⟩ f4).setCell ⟨b,5,none⟩ f5).setCell ⟨b,6,none⟩ f6):=(jCv (jCv (jCv (jCv (jCv (jCv (jCv (jCv (jCv (jCv (jCv (jCv (jCv (Only.refl _ _) (by simp)) (by simp)) (by simp)) (by simp)) (by simp)) (by simp)) (by simp)) (by simp)) (by simp)) (by simp)) (by simp)) (by simp)) (by simp))
 exact jA0 h fun k hk=>ho.block k (h.lt k hk).2 (by simp;exact hg k hk)
theorem jMx (w:World)(q:Nat)(F:List Nat)(nn:Nat)(T:Ts)(dp:Nat->Nat)(hL:Lay w q F nn T)(hv:Inv T dp)(P:List ByteArray)(sa:Option Addr)(n sc:Nat)(hs:Pa.See w (.slice sa n sc) P)(hnm:P.all Pa.nm=true)(hl:P.length<=16)(ok oa on:Int)(op ot od:ByteArray)(ta:Option Addr)(tn tc:Nat)(hnn:nn<=8796093022207) :
 Calls prog 93 #[.pointer (some ⟨q,0,none⟩),.agg #[.int .i64 ok,.string op,.string ot,.int .i64 oa,.int .i64 on,.string od,.slice sa n sc,.slice ta tn tc]] w fun e w'=>Did F w w' q (nn+1) (lisT T P) e:=by
 obtain ⟨W,hW,hb,kp,k0,k1⟩:=jC5 w #[.int .i64 ok,.string op,.string ot,.int .i64 oa,.int .i64 on,.string od,.slice sa n sc,.slice ta tn tc] R0 E0 101 66 68
 have hc:=jOz W q F nn T dp (hL.below hb) hv _ P (hs.below hb) hnm hl
 have HX:Hid (∀w2,Below W.heap.size W w2->Below w.heap.size w w2/\w2.heap[w.heap.size]?=some (.cells #[.int .i64 ok,.string op,.string ot,.int .i64 oa,.int .i64 on,.string od,.slice sa n sc,.slice ta tn tc] 101 (0,0))/\w2.heap[w.heap.size+1]?=some (.cells R0 66 (0,0))/\w2.heap[w.heap.size+1+1]?=some (.cells E0 68 (0,0))):=fun w2 h2=>⟨hb.trans (h2.mono hb.size),(h2.block _ (jAv kp)).trans kp,(h2.block _ (jAv k0)).trans k0,(h2.block _ (jAv k1)).trans k1⟩
 obtain ⟨p0,p1,p2,p3,p4,p5,p6,p7⟩:=jC8 kp
 have HLay:Hid (∀W',Below w.heap.size w W'->Lay W' q F nn T):=fun W' hb=>hL.below hb
 have HV:Hid (Inv T dp):=hv
 have HG:Hid ((fndD T P).2=0->fndD T P=fndA T P/\(fndA T P).2=0/\Got T dp P (fndD T P).1):=fun h=>by
  have h1:=jN4 h
  exact ⟨h1.1,h1.2.1,by rw[h1.1];exact got hv hnm h1.2.1⟩
 have HK:Hid ((fndD T P).2=0->(fun k=>k≠0/\k≠2) (fndD T P).1.kd):=fun h=>by
  have h1:=jN4 h
  rw[h1.1]
  exact h1.2.2
 have HA:Hid (lisT T P=if (fndD T P).2≠0 then ref T (fndD T P).2 else (⟨0,0,(keysL (T.M (fndD T P).1.no)).map str,0,0⟩,Ef.no,T)):=rfl
 generalize fndD T P=r at *
 generalize lisT T P=A at *
 obtain ⟨⟨par,nm,kd,no⟩,e⟩:=r
 unfold spV spA at hc
 unfold R0 E0 at hW
 clear hL hv hs hb kp k0 k1
 go_enter func93,ntmps93
 go_wp2_with fail
 refine hc.mono ?_
 rintro e w2 ⟨rfl,hb2⟩
 obtain ⟨hbw,qp,q0,q1⟩:=HX.out w2 hb2
 obtain ⟨W3,hW3,hb3,k3⟩:=jA4 w2 #[.int .i64 (par:Int),.string nm,.int .i64 (kd:Int),.int .i64 (no:Int)] 210
 have HB3:Hid (Below w.heap.size w W3):=hbw.trans (hb3.mono hbw.size)
 have s0:W3.cell? ⟨w2.heap.size,0,none⟩=some (.int .i64 (par:Int)):=(jAj k3).trans rfl
 have s1:W3.cell? ⟨w2.heap.size,1,none⟩=some (.string nm):=(jAj k3).trans rfl
 have s2:W3.cell? ⟨w2.heap.size,2,none⟩=some (.int .i64 (kd:Int)):=(jAj k3).trans rfl
 have s3:W3.cell? ⟨w2.heap.size,3,none⟩=some (.int .i64 (no:Int)):=(jAj k3).trans rfl
 have hn2:w.heap.size+1+1<w2.heap.size:=jAv q1
 have hne1:¬w2.heap.size=w.heap.size+1:=by omega
 have hne2:¬w2.heap.size=w.heap.size+1+1:=by omega
 have hne3:¬w.heap.size+1=w2.heap.size:=by omega
 have hne4:¬w.heap.size+1+1=w2.heap.size:=by omega
 clear hn2
 have HS3:Hid _:=k3
 have HP3:Hid _:=(hb3.block _ (jAv qp)).trans qp
 have HQ3:Hid _:=(hb3.block _ (jAv q0)).trans q0
 have HE3:Hid _:=(hb3.block _ (jAv q1)).trans q1
 clear hb2 hbw qp q0 q1 hb3 k3 HX hc
 by_cases he:e=0
 ·subst he
  have hdir:∃d,T.D[no]?=some (some d):=by
   obtain ⟨g1,g2,g3⟩:=HG.out rfl
   have hk1:=HK.out rfl
   have hk2:kd=1:=by
    by_cases hP0:P=[]
    ·have:=g3.rt hP0
     injection this
    ·rcases (g3.sp hP0).kd HV.out with h | h | h
     ·exact absurd h hk1.1
     ·exact h
     ·exact absurd h hk1.2
   exact (g3.dir hk2).1
  obtain ⟨d,hD⟩:=hdir
  have HA2:Hid (A=(⟨0,0,(keysL (T.M no)).map str,0,0⟩,Ef.no,T)):=HA.out.trans (if_neg (by simp))
  obtain ⟨dv,fv,ld,lf,ms,hFe,hI⟩:=HLay.out W3 HB3.out
  have hin:=jD0 W3 q dv fv ld lf ms nn T hI no d hD
  have HSO:Hid (∀w4,Below W3.heap.size W3 w4->Calls prog 134 #[.func (.func 168) #[] #[.pointer (some ⟨w4.heap.size,0,none⟩)]] (w4.alloc (.cells #[.map (some (ms no))] 142)) fun e w6=>∃sa a b,e=.returned (.slice sa a b)/\Hid (Below w.heap.size w w6)/\Hid (Below W3.heap.size W3 w6)/\Hid (Pa.Own w6 (w4.heap.size+1) (.slice sa a b) ((keysL (T.M no)).map str))):=fun w4 hb4=>by
   obtain ⟨Dt,hm,hT⟩:=(hI.below hb4).hm no d hD
   have hsz:=hm.size_le
   refine (callsIn_wide.1 (sorted_any (ms no) nn Dt jF2 w4 hm (by unfold maxLen;omega) (by omega))).mono ?_
   rintro e w6 ⟨v,ss,rfl,hp,hrow,hnil,hb6⟩
   have hk:=keys_of hm hT
   have hR:Rises (ss.mergeSort fun x y=>decide (x<=y)) (T.M no):=rises_sort (hp.nodup_iff.2 hk.1) (fun k=>(hp.mem_iff).trans (hk.2 k))
   rw[keysL_eq hR]
   have hbw4:Below w.heap.size w w4:=HB3.out.trans (hb4.mono HB3.out.size)
   have hb56:Below w4.heap.size w4 w6:=((Qq w4.heap.size w4).alloc (Qj _) _).trans (hb6.mono (by simp))
   have hO:Pa.Own w6 (w4.heap.size+1) v ((ss.mergeSort fun x y=>decide (x<=y)).map str):=by
    unfold Pa.Own Pa.sc
    rw[List.length_map,List.map_map,List.length_mergeSort]
    have hs5:(w4.alloc (.cells #[.map (some (ms no))] 142)).heap.size=w4.heap.size+1:=by simp
    rw[hs5] at hrow
    exact hrow
   obtain ⟨a,cap,rfl⟩:=hO.len
   exact ⟨_,_,_,rfl,hbw4.trans (hb56.mono hbw4.size),hb4.trans (hb56.mono hb4.size),hO⟩
  generalize ms no=m at *
  clear hI hFe hD
  go_wp2_with fail
  refine hin.mono ?_
  rintro e w4 ⟨rfl,hb4⟩
  have hso:=HSO.out w4 hb4
  have hky:=callsIn_wide.1 (keys_any (some m) w4)
  have hlt4:w.heap.size+1+1<w4.heap.size:=Qx (jAv HE3.out) hb4.size
  clear hb4 hin HSO
  go_wp2_with fail
  refine hky.mono ?_
  rintro e w5 ⟨rfl,rfl⟩
  go_wp2_with fail
  refine hso.mono ?_
  rintro e w6 ⟨sa6,a6,b6,rfl,HBw6,HB36,HOw6⟩
  have HQw6:Hid _:=(HB36.out.block _ (jAv HQ3.out)).trans HQ3.out
  have HEw6:Hid _:=(HB36.out.block _ (jAv HE3.out)).trans HE3.out
  have hqu:=jFy w6 0 0 0 0 sa6 a6 b6
  clear hso hky
  go_wp2_with fail
  refine hqu.mono ?_
  rintro e w7 ⟨rfl,hb7⟩
  have HQw7:Hid _:=(hb7.block _ (jAv HQw6.out)).trans HQw6.out
  have HEw7:Hid _:=(hb7.block _ (jAv HEw6.out)).trans HEw6.out
  have HBw7:Hid (Below w.heap.size w w7):=HBw6.out.trans (hb7.mono HBw6.out.size)
  have HOw7:Hid (Pa.Own w7 (w4.heap.size+1) (.slice sa6 a6 b6) ((keysL (T.M no)).map str)):=HOw6.out.below hb7
  clear hb7 hqu
  obtain ⟨a0,a1,a2,a3,a4,a5⟩:=jB4 HQw7.out
  obtain ⟨b0,b1,b2,b3,b4,b5,b6⟩:=jCq HEw7.out
  have fz0:∀j,w7.frozen? ⟨w.heap.size+1,j,none⟩=false:=fun j=>jAq HQw7.out
  have fz1:∀j,w7.frozen? ⟨w.heap.size+1+1,j,none⟩=false:=fun j=>jAq HEw7.out
  (try unfold rsV)
  (try unfold Rs.no)
  (try unfold efV)
  (try unfold Ef.no)
  go_wp2_with fail
  refine Qw (jAz rfl _ _ (w.heap.size+1) 66 _ (0,0) _ (w.heap.size+1+1) 68 _ (0,0) _ rfl (putRE HQw7.out HEw7.out (by omega)).1 underlying66 rfl jB7 rfl (putRE HQw7.out HEw7.out (by omega)).2 underlying68 rfl jB5) rfl ?_
  rw[HA2.out]
  exact ⟨_,rfl,(own_putRE HOw7.out (fun k hk=>by have:=(HOw7.out.lt k hk).1;omega)).mono (by omega),(HLay.out _ (jA3 HBw7.out (by omega) (by omega))).turn0 (jA3 HBw7.out (by omega) (by omega))⟩
 ·have HA2:Hid (A=ref T e):=HA.out.trans (if_pos he)
  go_wp2_with fail
  refine (jB2 W3 e).mono ?_
  rintro e w4 ⟨rfl,hb4⟩
  have HBw4:Hid (Below w.heap.size w w4):=HB3.out.trans (hb4.mono HB3.out.size)
  have HQw4:Hid _:=(hb4.block _ (jAv HQ3.out)).trans HQ3.out
  have HEw4:Hid _:=(hb4.block _ (jAv HE3.out)).trans HE3.out
  have HPw4:Hid _:=(hb4.block _ (jAv HP3.out)).trans HP3.out
  have HSw4:Hid _:=(hb4.block _ (jAv HS3.out)).trans HS3.out
  clear hb4
  obtain ⟨a0,a1,a2,a3,a4,a5⟩:=jB4 HQw4.out
  obtain ⟨b0,b1,b2,b3,b4,b5,b6⟩:=jCq HEw4.out
  have fz0:∀j,w4.frozen? ⟨w.heap.size+1,j,none⟩=false:=fun j=>jAq HQw4.out
  have fz1:∀j,w4.frozen? ⟨w.heap.size+1+1,j,none⟩=false:=fun j=>jAq HEw4.out
  (try unfold rsV)
  (try unfold Rs.no)
  (try unfold efV)
  (try unfold Ef.no)
  go_wp2_with fail
  refine Qw (jAz rfl _ _ (w.heap.size+1) 66 _ (0,0) _ (w.heap.size+1+1) 68 _ (0,0) _ rfl (putRE HQw4.out HEw4.out (by omega)).1 underlying66 rfl jB7 rfl (putRE HQw4.out HEw4.out (by omega)).2 underlying68 rfl jB5) rfl ?_
  rw[HA2.out]
  exact ⟨_,rfl,Pa.Own.nil _ _,(HLay.out _ (jA3 HBw4.out (by omega) (by omega))).turn0 (jA3 HBw4.out (by omega) (by omega))⟩
