import Derived.Test.YtfnklhajafmooaaGreatDoorG14
set_option maxHeartbeats 4000000
set_option maxRecDepth 20000
namespace Go.Proofs.YtfnklhajafmooaaGreatDoor.Tr
open Go.RowKit Go.Lib Go.Deep Go.Proofs.Tryz
theorem eff35 {W:World}{b:Nat}{t:TypeId}{y0 y1 y2 y3 y4 y5 y6 x z:Value}(h:W.heap[b]?=some (.cells #[y0,y1,y2,y3,y4,y5,y6] t (0,0))):((W.setCell ⟨b,3,none⟩ x).setCell ⟨b,5,none⟩ z).heap[b]?=some (.cells #[y0,y1,y2,x,y4,z,y6] t (0,0))/\((W.setCell ⟨b,5,none⟩ z).setCell ⟨b,3,none⟩ x).heap[b]?=some (.cells #[y0,y1,y2,x,y4,z,y6] t (0,0)) :=
 ⟨by
   have h0:(W.setCell ⟨b,3,none⟩ x).heap[b]?=some (.cells #[y0,y1,y2,x,y4,y5,y6] t (0,0)):=QJ _ _ 3 _ _ x h
   exact QJ _ _ 5 _ _ z h0,by
   have h0:(W.setCell ⟨b,5,none⟩ z).heap[b]?=some (.cells #[y0,y1,y2,y3,y4,z,y6] t (0,0)):=QJ _ _ 5 _ _ z h
   exact QJ _ _ 3 _ _ x h0⟩
theorem cells3 {V:World}{b g:Nat}{t u:TypeId}{x0 x1 x2 x3 z0 z1 z2 z3 z4 z5 z6 z7:Value}(h:V.heap[b]?=some (.cells #[x0,x1,x2,x3] t (0,0)))(h2:V.heap[g]?=some (.cells #[z0,z1,z2,z3,z4,z5,z6,z7] u (0,0))):V.cell? ⟨b,3,none⟩=some x3/\V.cell? ⟨g,3,none⟩=some z3/\V.cell? ⟨g,5,none⟩=some z5:=⟨(jAj h).trans rfl,(jAj h2).trans rfl,(jAj h2).trans rfl⟩
structure Wd (F:List Nat)(w W:World)(q nn b:Nat)(T:Ts)(R:Array Value)(L:Array Value):Prop where
 hb:W.heap[b]?=some (.cells L 68 (0,0))
 hr:W.heap[w.heap.size]?=some (.cells R 101 (0,0))
 h1:W.heap[w.heap.size+1]?=some (.cells R0 66 (0,0))
 h2:W.heap[w.heap.size+1+1]?=some (.cells E0 68 (0,0))
 hT:Turn F w W q nn T
 hn:w.heap.size+1+1<b
theorem Wd.drew {F:List Nat}{w W:World}{q nn b:Nat}{T:Ts}{R L:Array Value}(h:Wd F w W q nn b T R L):Wd F w W.drew q nn b T R L:=⟨h.hb,h.hr,h.h1,h.h2,jEq h.hT,h.hn⟩
theorem Wd.set35 {F:List Nat}{w W:World}{q nn b:Nat}{T:Ts}{R:Array Value}{y0 y1 y2 y3 y4 y5 y6 x z:Value}(h:Wd F w W q nn b T R #[y0,y1,y2,y3,y4,y5,y6]):Wd F w ((W.setCell ⟨b,3,none⟩ x).setCell ⟨b,5,none⟩ z) q nn b T R #[y0,y1,y2,x,y4,z,y6]/\Wd F w ((W.setCell ⟨b,5,none⟩ z).setCell ⟨b,3,none⟩ x) q nn b T R #[y0,y1,y2,x,y4,z,y6]:=by
 have hn:=h.hn
 have k:∀(i j:Nat) (u v:Value) (g:Nat),g≠b->((W.setCell ⟨b,i,none⟩ u).setCell ⟨b,j,none⟩ v).heap[g]?=W.heap[g]?:=fun i j u v g hg=>(Qy _ _ _ _ hg).trans (Qy _ _ _ _ hg)
 have t:∀(i j:Nat) (u v:Value),Turn F w ((W.setCell ⟨b,i,none⟩ u).setCell ⟨b,j,none⟩ v) q nn T:=fun i j u v=>h.hT.other (S:=[b]) (jCv (jCv (Only.refl _ _) (by simp)) (by simp)) (fun k' hk=>by
  simp at hk
  subst hk
  exact ⟨by omega,_,_,h.hb,by decide⟩)
 exact ⟨⟨(eff35 h.hb).1,(k _ _ _ _ _ (by omega)).trans h.hr,(k _ _ _ _ _ (by omega)).trans h.h1,(k _ _ _ _ _ (by omega)).trans h.h2,t _ _ _ _,hn⟩,⟨(eff35 h.hb).2,(k _ _ _ _ _ (by omega)).trans h.hr,(k _ _ _ _ _ (by omega)).trans h.h1,(k _ _ _ _ _ (by omega)).trans h.h2,t _ _ _ _,hn⟩⟩
theorem write_any (w:World)(q:Nat)(F:List Nat)(nn:Nat)(T:Ts)(dp:Nat->Nat)(hL:Lay w q F nn T)(hv:Inv T dp)(P:List ByteArray)(sa:Option Addr)(n sc:Nat)(hs:Pa.See w (.slice sa n sc) P)(hnm:P.all Pa.nm=true)(hl:P.length<=16)(ok oa on:Int)(op ot od:ByteArray)(ta:Option Addr)(tn tc:Nat)(hoa:0<=oa)(hoa1:oa<=9223372036854775807)(hod:od.size<=9223372036854775807) :
 Calls prog 88 #[.pointer (some ⟨q,0,none⟩),.agg #[.int .i64 ok,.string op,.string ot,.int .i64 oa,.int .i64 on,.string od,.slice sa n sc,.slice ta tn tc]] w fun e w'=>Did F w w' q (nn+1) (wriT T P ⟨ok,op,ot,oa,on,od⟩) e:=by
 obtain ⟨W,hW,hb,kp,k0,k1⟩:=jC5 w #[.int .i64 ok,.string op,.string ot,.int .i64 oa,.int .i64 on,.string od,.slice sa n sc,.slice ta tn tc] R0 E0 101 66 68
 have hc:=jG4 W q F nn T dp (hL.below hb) hv _ P (hs.below hb) hnm hl
 have HX:Hid (∀w2,Below W.heap.size W w2->Below w.heap.size w w2/\w2.heap[w.heap.size]?=some (.cells #[.int .i64 ok,.string op,.string ot,.int .i64 oa,.int .i64 on,.string od,.slice sa n sc,.slice ta tn tc] 101 (0,0))/\w2.heap[w.heap.size+1]?=some (.cells R0 66 (0,0))/\w2.heap[w.heap.size+1+1]?=some (.cells E0 68 (0,0))):=fun w2 h2=>⟨hb.trans (h2.mono hb.size),(h2.block _ (jAv kp)).trans kp,(h2.block _ (jAv k0)).trans k0,(h2.block _ (jAv k1)).trans k1⟩
 obtain ⟨p0,p1,p2,p3,p4,p5,p6,p7⟩:=jC8 kp
 have HLay:Hid (∀W',Below w.heap.size w W'->Lay W' q F nn T):=fun W' hb=>hL.below hb
 have HV:Hid (Inv T dp):=hv
 have HG:Hid ((fndF T P).2=0->fndF T P=fndA T P/\(fndA T P).2=0/\Got T dp P (fndF T P).1):=fun h=>by
  have h1:=jG6 h
  exact ⟨h1.1,h1.2.1,by rw[h1.1];exact got hv hnm h1.2.1⟩
 have HK:Hid ((fndF T P).2=0->(fun k=>k≠0/\k≠1) (fndF T P).1.kd):=fun h=>by
  have h1:=jG6 h
  rw[h1.1]
  exact h1.2.2
 have HA:Hid (wriT T P ⟨ok,op,ot,oa,on,od⟩=if (fndF T P).2≠0 then ref T (fndF T P).2 else if (T.most:Int)-oa<od.size then ref T 3 else (⟨0,od.size,[],0,0⟩,⟨3,(fndF T P).1.no,-1,oa,0,od,wriS T (fndF T P).1.no ⟨ok,op,ot,oa,on,od⟩⟩,if od.size=0 then T else jD2 T (fndF T P).1.no (wriS T (fndF T P).1.no ⟨ok,op,ot,oa,on,od⟩))):=rfl
 generalize fndF T P=r at *
 generalize wriT T P ⟨ok,op,ot,oa,on,od⟩=A at *
 obtain ⟨⟨par,nm,kd,no⟩,e⟩:=r
 unfold spV spA at hc
 unfold R0 E0 at hW
 clear hL hv hs hb kp k0 k1
 go_enter func88,ntmps88
 go_wp2_with fail
 refine hc.mono ?_
 rintro e w2 ⟨rfl,hb2⟩
 obtain ⟨hbw,qp,q0,q1⟩:=HX.out w2 hb2
 obtain ⟨W3,hW3,hb3,k3⟩:=jA4 w2 #[.int .i64 (par:Int),.string nm,.int .i64 (kd:Int),.int .i64 (no:Int)] 210
 have HB3:Hid (Below w.heap.size w W3):=hbw.trans (hb3.mono hbw.size)
 have s0:W3.cell? ⟨w2.heap.size,0,none⟩=some (.int .i64 (par:Int)):=(jAj k3).trans rfl
 have s1:W3.cell? ⟨w2.heap.size,1,none⟩=some (.string nm):=(jAj k3).trans rfl
 have s2:W3.cell? ⟨w2.heap.size,2,none⟩=some (.int .i64 (kd:Int)):=(jAj k3).trans rfl
 have s3:W3.cell? ⟨w2.heap.size,3,none⟩=some (.int .i64 (no:Int)):=(jAj k3).trans rfl
 have hn2:w.heap.size+1+1<w2.heap.size:=jAv q1
 have hne1:¬w2.heap.size=w.heap.size+1:=by omega
 have hne2:¬w2.heap.size=w.heap.size+1+1:=by omega
 have hne3:¬w.heap.size+1=w2.heap.size:=by omega
 have hne4:¬w.heap.size+1+1=w2.heap.size:=by omega
 clear hn2
 have HS3:Hid _:=k3
 have HP3:Hid _:=(hb3.block _ (jAv qp)).trans qp
 have HQ3:Hid _:=(hb3.block _ (jAv q0)).trans q0
 have HE3:Hid _:=(hb3.block _ (jAv q1)).trans q1
 clear hb2 hbw qp q0 q1 hb3 k3 HX hc
 by_cases he:e=0
 ·subst he
  have hfile:∃(n':ByteArray) (s:Nat),T.F[no]?=some (some (par,n',s))/\tk T par/\nm.size<=32:=by
   obtain ⟨g1,g2,g3⟩:=HG.out rfl
   have hk1:=HK.out rfl
   have hP0:P≠[]:=fun e=>hk1.2 (by have:=g3.rt e;injection this)
   have sp:=g3.sp hP0
   have hk2:kd=2:=by
    rcases sp.kd HV.out with h | h | h
    ·exact absurd h hk1.1
    ·exact absurd h hk1.2
    ·exact h
   have hm2:T.M par (ky nm)=some (2,no):=by rw[<-hk2];exact sp.there hk1.1
   obtain ⟨n',s,h1,_⟩:=HV.out.fileF hm2
   exact ⟨n',s,h1,sp.ht,jE7 sp.hn⟩
  obtain ⟨n',s,hF,htk,hns⟩:=hfile
  have hsb:s<=65536/\T.most<=65536:=by
   obtain ⟨dv,fv,ld,lf,ms,-,hI3⟩:=HLay.out W3 HB3.out
   have:=HV.out.hS _ _ _ _ hF
   have:=hI3.lim
   omega
  have HLay3:Hid (∀j,Lay (W3.drewN j) q F nn T):=fun j=>HLay.out _ (bdr HB3.out j)
  obtain ⟨dv,fv,ld,lf,ms,-,hI3⟩:=HLay3.out 0
  have c6:W3.cell? ⟨q,6,none⟩=some (.int .i64 (T.most:Int)):=hI3.cells.2.2.2.2.2.2
  have p3':W3.cell? ⟨w.heap.size,3,none⟩=some (.int .i64 oa):=(jAj HP3.out).trans rfl
  have p5':W3.cell? ⟨w.heap.size,5,none⟩=some (.string od):=(jAj HP3.out).trans rfl
  have hsz:szF T no=s:=by unfold szF;rw[hF]
  obtain ⟨M,hM⟩:∃M,T.most=M:=⟨_,rfl⟩
  rw[hM] at c6 HA hsb
  have hwM:IntKind.i64.wrap ((M:Int)-oa)=(M:Int)-oa:=by rw[QX];omega
  clear hI3 htk hns hM
  by_cases hbig:(M:Int)-oa<(od.size:Int)
  ·have HA2:Hid (A=ref T 3):=HA.out.trans ((if_neg (by simp)).trans (if_pos hbig))
   go_wp2_with fail
   go_quiet (fail)
   go_wp2_with fail
   refine (jB2 _ 3).mono ?_
   rintro e w4 ⟨rfl,hb4⟩
   have hb4':Below W3.heap.size W3 w4:=(bdr (Qq W3.heap.size W3) _).trans hb4
   have HBw4:Hid (Below w.heap.size w w4):=HB3.out.trans (hb4'.mono HB3.out.size)
   have HQw4:Hid _:=(hb4'.block _ (jAv HQ3.out)).trans HQ3.out
   have HEw4:Hid _:=(hb4'.block _ (jAv HE3.out)).trans HE3.out
   clear hb4 hb4'
   obtain ⟨a0,a1,a2,a3,a4,a5⟩:=jB4 HQw4.out
   obtain ⟨b0,b1,b2,b3,b4,b5,b6⟩:=jCq HEw4.out
   have fz0:∀j,w4.frozen? ⟨w.heap.size+1,j,none⟩=false:=fun j=>jAq HQw4.out
   have fz1:∀j,w4.frozen? ⟨w.heap.size+1+1,j,none⟩=false:=fun j=>jAq HEw4.out
   (try unfold rsV)
   (try unfold Rs.no)
   (try unfold efV)
   (try unfold Ef.no)
   go_wp2_with fail
   refine Qw (jAz rfl _ _ (w.heap.size+1) 66 _ (0,0) _ (w.heap.size+1+1) 68 _ (0,0) _ rfl (putRE HQw4.out HEw4.out (by omega)).1 underlying66 rfl jB7 rfl (putRE HQw4.out HEw4.out (by omega)).2 underlying68 rfl jB5) rfl ?_
   rw[HA2.out]
   exact ⟨_,rfl,Pa.Own.nil _ _,(HLay.out _ (jA3 HBw4.out (by omega) (by omega))).turn0 (jA3 HBw4.out (by omega) (by omega))⟩
  ·by_cases hz:od.size=0
   ·have HA2:Hid (A=(⟨0,od.size,[],0,0⟩,⟨3,no,-1,oa,0,od,s⟩,T)):=by
     have h:=HA.out.trans ((if_neg (by simp)).trans (if_neg hbig))
     rw[if_pos hz] at h
     unfold wriS at h
     simp only[hz,if_true,hsz] at h
     show A=_
     simpa[hz] using h
    have hode:od=e0:=ByteArray.ext (Array.eq_empty_of_size_eq_zero hz)
    have HEF:Hid (∀j,Calls prog 121 #[.pointer (some ⟨q,0,none⟩),.int .i64 3,.int .i64 (no:Int)] (W3.drewN j) fun e w'=>e=.returned (efV ⟨3,no,-1,0,0,e0,s⟩)/\Below (W3.drewN j).heap.size (W3.drewN j) w'):=fun j=>jJ2 _ q F nn T (HLay3.out j) 3 no par s n' hF
    have HT3:Hid (∀j,Turn F w (W3.drewN j) q (nn+1) T):=fun j=>(HLay.out _ (bdr HB3.out j)).turn0 (bdr HB3.out j)
    have hbig0:¬(M:Int)-oa<0:=by omega
    unfold efV at HEF
    clear hF hsz hz
    subst hode
    go_wp2_with fail
    go_quiet (fail)
    go_wp2_with fail
    refine (HEF.out _).mono ?_
    rintro e w5 ⟨rfl,hb5⟩
    have HWD:Hid (Wd F w (w5.alloc (.cells #[.int .i64 3,.int .i64 (no:Int),.int .i64 (-1),.int .i64 0,.int .i64 0,.string e0,.int .i64 (s:Int)] 68)) q (nn+1) w5.heap.size (T) #[.int .i64 ok,.string op,.string ot,.int .i64 oa,.int .i64 on,.string e0,.slice sa n sc,.slice ta tn tc] #[.int .i64 3,.int .i64 (no:Int),.int .i64 (-1),.int .i64 0,.int .i64 0,.string e0,.int .i64 (s:Int)]):=by
     have hlt:=Qx (jAv HE3.out) hb5.size
     exact ⟨jA2 _ _,(QK w5 _ _ (Qx (jAv HP3.out) hb5.size)).trans ((hb5.block _ (jAv HP3.out)).trans HP3.out),(QK w5 _ _ (Qx (jAv HQ3.out) hb5.size)).trans ((hb5.block _ (jAv HQ3.out)).trans HQ3.out),(QK w5 _ _ hlt).trans ((hb5.block _ (jAv HE3.out)).trans HE3.out),(HT3.out _).below (hb5.alloc hb5.size _),hlt⟩
    obtain ⟨W6,hW6⟩:∃W6,w5.alloc (.cells #[.int .i64 3,.int .i64 (no:Int),.int .i64 (-1),.int .i64 0,.int .i64 0,.string e0,.int .i64 (s:Int)] 68)=W6:=⟨_,rfl⟩
    rw[hW6] at HWD
    obtain ⟨b5,hb5e⟩:∃b5,w5.heap.size=b5:=⟨_,rfl⟩
    rw[hb5e] at HWD
    obtain ⟨z0,z1,z2,z3,z4,z5,z6⟩:=jCq HWD.out.hb
    obtain ⟨r0,r1,r2,r3,r4,r5,r6,r7⟩:=jC8 HWD.out.hr
    have fz6:∀j,W6.frozen? ⟨b5,j,none⟩=false:=fun j=>jAq HWD.out.hb
    have hnr:¬w.heap.size=b5:=by have:=HWD.out.hn;omega
    have hnr':¬b5=w.heap.size:=by have:=HWD.out.hn;omega
    clear hb5 HQ3 HE3 HP3
    go_wp2_with fail
    go_region_with fail
    all_goals
     refine jBj (R:=fun W=>Exit.then _ _ _ _ W) (Q:=fun W=>Hid (Wd F w W q (nn+1) b5 (T) #[.int .i64 ok,.string op,.string ot,.int .i64 oa,.int .i64 on,.string e0,.slice sa n sc,.slice ta tn tc] #[.int .i64 3,.int .i64 (no:Int),.int .i64 (-1),.int .i64 oa,.int .i64 0,.string e0,.int .i64 (s:Int)])) _ (by first | exact HWD.out.set35.1 | exact HWD.out.set35.2 | exact HWD.out.set35.1.drew | exact HWD.out.set35.2.drew) ?_
     rintro W7 HW7
     have HQW7:Hid _:=HW7.out.h1
     have HEW7:Hid _:=HW7.out.h2
     have HT:Hid (Turn F w W7 q (nn+1) (T)):=HW7.out.hT
     obtain ⟨y0,y1,y2,y3,y4,y5,y6⟩:=jCq HW7.out.hb
     obtain ⟨s0,s1,s2,s3,s4,s5,s6,s7⟩:=jC8 HW7.out.hr
     have hlt5:=HW7.out.hn
     have hne5:¬b5=w.heap.size+1:=by omega
     have hne6:¬b5=w.heap.size+1+1:=by omega
     have hne7:¬w.heap.size+1=b5:=by omega
     have hne8:¬w.heap.size+1+1=b5:=by omega
     clear hlt5
     obtain ⟨a0,a1,a2,a3,a4,a5⟩:=jB4 HQW7.out
     obtain ⟨b0,b1,b2,b3,b4,b5,b6⟩:=jCq HEW7.out
     have fz0:∀j,W7.frozen? ⟨w.heap.size+1,j,none⟩=false:=fun j=>jAq HQW7.out
     have fz1:∀j,W7.frozen? ⟨w.heap.size+1+1,j,none⟩=false:=fun j=>jAq HEW7.out
     (try unfold rsV)
     (try unfold Rs.no)
     (try unfold efV)
     (try unfold Ef.no)
     go_wp2_with fail
     go_region_with fail
     all_goals
      refine jBj (R:=fun W=>Exit.then _ _ _ _ W) (Q:=fun W=>Hid (W.heap[w.heap.size+1]?=some (.cells #[.int .i64 0,.string { data:=#[] },.int .i64 0,.slice none 0 0,.int .i64 0,.int .i64 0] 66 (0,0)))/\Hid (W.heap[w.heap.size+1+1]?=some (.cells #[.int .i64 3,.int .i64 (no:Int),.int .i64 (-1),.int .i64 oa,.int .i64 0,.string e0,.int .i64 (s:Int)] 68 (0,0)))/\Hid (Turn F w W q (nn+1) (T))) _ ⟨jC4 (putRE HQW7.out HEW7.out (by omega)).1,jC4 (putRE HQW7.out HEW7.out (by omega)).2,jEq (HT.out.putRE (by omega) (by omega) HQW7.out HEW7.out)⟩ ?_
      rintro W6 ⟨HR6,HE6,HT6⟩
      go_wp2_with fail
      refine Qw (jAz rfl _ _ (w.heap.size+1) 66 _ (0,0) _ (w.heap.size+1+1) 68 _ (0,0) _ rfl HR6.out underlying66 rfl jB7 rfl HE6.out underlying68 rfl jB5) rfl ?_
      rw[HA2.out]
      exact ⟨_,rfl,Pa.Own.nil _ _,HT6.out⟩
   ·have hnz:od≠e0:=fun h=>hz (by rw[h];rfl)
    obtain ⟨a,rfl⟩:∃a:Nat,oa=a:=⟨oa.toNat,by omega⟩
    obtain ⟨z,hzz⟩:∃z,a+od.size=z:=⟨_,rfl⟩
    have hwz:IntKind.i64.wrap ((a:Int)+(od.size:Int))=(z:Int):=by rw[QX];omega
    obtain ⟨s',hs'⟩:∃s',max s z=s':=⟨_,rfl⟩
    have HA2:Hid (A=(⟨0,od.size,[],0,0⟩,⟨3,no,-1,(a:Int),0,od,s'⟩,jD2 T no s')):=by
     have h:=HA.out.trans ((if_neg (by simp)).trans (if_neg hbig))
     rw[if_neg hz] at h
     unfold wriS at h
     simp only[hz,if_false,hsz,Int.toNat_natCast,hzz,hs'] at h
     exact h
    have HGT:Hid (∀W',Below w.heap.size w W'->Calls prog 124 #[.pointer (some ⟨q,3,none⟩),.int .i64 (no:Int)] W' fun e w'=>e=.returned (.agg #[.int .i64 (par:Int),.string n',.int .i64 (s:Int)])/\Below W'.heap.size W' w'):=fun W' hb=>getF_any W' q F nn T (HLay.out _ hb) no par s n' hF
    have HRZ:Hid (∀W',Below w.heap.size w W'->Calls prog 123 #[.pointer (some ⟨q,0,none⟩),.int .i64 (no:Int),.int .i64 (s':Int)] W' fun e w'=>e=.returned (.tuple #[])/\Turn F W' w' q nn (jD2 T no s')):=fun W' hb=>resize_any _ q F nn T (HLay.out _ hb) no par s s' n' hF
    have HFX:Hid ((jD2 T no s').F[no]?=some (some (par,n',s'))):=by
     have e1:jD2 T no s'=setF T no (some (par,n',s')):=by unfold jD2 plF;rw[hF]
     show _=_
     rw[e1,jD6 T no _ (Nat.le_of_lt (jAy hF)),if_pos rfl]
    have HFL:Hid _:=fun w=>fldF w (.int .i64 (par:Int)) (.string n') (.int .i64 (s:Int))
    have hemp:od.toList.isEmpty=false:=by
     rw[<-Bool.not_eq_true,List.isEmpty_iff]
     intro h
     rw[toList_data] at h
     exact hz (by rw[Lib.size_eq,h];rfl)
    have HSS:Hid (∀V,Below W3.heap.size W3 V->V.cell? ⟨w2.heap.size,3,none⟩=some (.int .i64 (no:Int))/\V.cell? ⟨w.heap.size,3,none⟩=some (.int .i64 (a:Int))/\V.cell? ⟨w.heap.size,5,none⟩=some (.string od)):=fun V hb=>cells3 ((hb.block _ (jAv HS3.out)).trans HS3.out) ((hb.block _ (jAv HP3.out)).trans HP3.out)
    have HNB:Hid (¬(M:Int)-(a:Int)<(od.size:Int)):=hbig
    clear hF hsz hz hzz hnz
    by_cases hlt:s<z
    ·obtain rfl:s'=z:=by omega
     have hltI:(s:Int)<(s':Int):=by omega
     clear hs' hlt
     go_wp2_with fail
     go_quiet (fail)
     refine jBj (R:=fun W=>Exit.then _ _ _ _ W) (Q:=fun W=>Hid (Below W3.heap.size W3 W)) _ (bdr (Qq _ _) _) ?_
     rintro V0 HV0
     have hp5:=(HSS.out _ HV0.out).2.2
     go_wp2_with fail
     refine wp_region_held_drew (S:=fun V=>V.cell? ⟨w2.heap.size,3,none⟩=some (.int .i64 (no:Int))/\V.cell? ⟨w.heap.size,3,none⟩=some (.int .i64 (a:Int))/\V.cell? ⟨w.heap.size,5,none⟩=some (.string od)) (by kernel_rfl) (HSS.out _ HV0.out.drew) ?_
     intro hS
     have HD0:Hid (Below w.heap.size w V0.drew):=(HB3.out.trans (HV0.out.mono HB3.out.size)).drew
     refine tQ 0 ⟨some 42,.move (.tmp 0),_,_,_,none⟩ (.pointer (some ⟨q,0,none⟩)) rfl hS ?_
     (try simp only[Act.put,sA,sB,sC])
     refine tQ 1 ⟨some 43,.fieldAddr 210 (.tmp 6) 1,_,_,_,none⟩ (.pointer (some ⟨w2.heap.size,2,none⟩)) rfl hS ?_
     (try simp only[Act.put,sA,sB,sC])
     refine tQ 2 ⟨some 44,.fieldAddr 153 (.tmp 43) 1,_,_,_,none⟩ (.pointer (some ⟨w2.heap.size,3,none⟩)) rfl hS ?_
     (try simp only[Act.put,sA,sB,sC])
     refine tQ 3 ⟨some 45,.load 3 (.tmp 44),_,_,_,none⟩ (.int .i64 (no:Int)) rfl hS ?_ (Or.inl ⟨by rfl,by intro x hx;have h1:=hx.1;go_simp⟩)
     (try simp only[Act.put,sA,sB,sC])
     refine tQ 4 ⟨some 46,.move (.tmp 0),_,_,_,none⟩ (.pointer (some ⟨q,0,none⟩)) rfl hS ?_
     (try simp only[Act.put,sA,sB,sC])
     refine tQ 5 ⟨some 47,.nilCheck (.tmp 46),_,_,_,none⟩ (.pointer (some ⟨q,0,none⟩)) rfl hS ?_
     (try simp only[Act.put,sA,sB,sC])
     refine tQ 6 ⟨some 48,.fieldAddr 138 (.tmp 47) 1,_,_,_,none⟩ (.pointer (some ⟨q,3,none⟩)) rfl hS ?_
     (try simp only[Act.put,sA,sB,sC])
     refine tQ 7 ⟨some 49,.fieldAddr 210 (.tmp 6) 1,_,_,_,none⟩ (.pointer (some ⟨w2.heap.size,2,none⟩)) rfl hS ?_
     (try simp only[Act.put,sA,sB,sC])
     refine tQ 8 ⟨some 50,.fieldAddr 153 (.tmp 49) 1,_,_,_,none⟩ (.pointer (some ⟨w2.heap.size,3,none⟩)) rfl hS ?_
     (try simp only[Act.put,sA,sB,sC])
     refine tQ 9 ⟨some 51,.load 3 (.tmp 50),_,_,_,none⟩ (.int .i64 (no:Int)) rfl hS ?_ (Or.inl ⟨by rfl,by intro x hx;have h1:=hx.1;go_simp⟩)
     (try simp only[Act.put,sA,sB,sC])
     refine tQ 12 ⟨some 54,.fieldAddr 101 (.tmp 3) 0,_,_,_,none⟩ (.pointer (some ⟨w.heap.size,0,none⟩)) rfl hS ?_
     (try simp only[Act.put,sA,sB,sC])
     refine tQ 13 ⟨some 55,.fieldAddr 72 (.tmp 54) 3,_,_,_,none⟩ (.pointer (some ⟨w.heap.size,3,none⟩)) rfl hS ?_
     (try simp only[Act.put,sA,sB,sC])
     refine tQ 14 ⟨some 56,.load 3 (.tmp 55),_,_,_,none⟩ (.int .i64 (a:Int)) rfl hS ?_ (Or.inl ⟨by rfl,by intro x hx;have h1:=hx.2.1;go_simp⟩)
     (try simp only[Act.put,sA,sB,sC])
     refine tQ 15 ⟨some 57,.fieldAddr 101 (.tmp 3) 0,_,_,_,none⟩ (.pointer (some ⟨w.heap.size,0,none⟩)) rfl hS ?_
     (try simp only[Act.put,sA,sB,sC])
     refine tQ 16 ⟨some 58,.fieldAddr 72 (.tmp 57) 5,_,_,_,none⟩ (.pointer (some ⟨w.heap.size,5,none⟩)) rfl hS ?_
     (try simp only[Act.put,sA,sB,sC])
     refine tQ 17 ⟨some 59,.load 9 (.tmp 58),_,_,_,none⟩ (.string od) rfl hS ?_ (Or.inl ⟨by rfl,by intro x hx;have h1:=hx.2.2;go_simp⟩)
     (try simp only[Act.put,sA,sB,sC])
     refine tQ 18 ⟨some 60,.call { callee:=.builtin .len,args:=#[.tmp 59],argTypes:=#[9] },_,_,_,none⟩ (.int .i64 (od.size:Int)) rfl hS ?_
     (try simp only[Act.put,sA,sB,sC])
     refine tQ 19 ⟨some 61,.binOp .add 3 (.tmp 56) (.tmp 60) 3,_,_,_,none⟩ (.int .i64 (s':Int)) rfl hS ?_
     (try simp only[Act.put,sA,sB,sC])
     refine wpAnyH_ready (rs:=[10]) (by kernel_rfl) (by simp) ?_
     refine AllReadyH.cons (o:={ dst:=some 52,op:=.call { callee:=.value (.func 124),args:=#[.tmp 48,.tmp 51],argTypes:=#[136,3] },type:=_,pos:=_,after:=_,guard:=none }) rfl (fun K hK=>?_) AllReadyH.nil
     go_simp
     refine (HGT.out _ HD0.out).mono ?_
     rintro e wg ⟨rfl,hbg0⟩
     have hbg:Below W3.heap.size W3 wg:=HV0.out.drew.trans (hbg0.mono HV0.out.size)
     have HBg:Hid (Below w.heap.size w wg):=HB3.out.trans (hbg.mono HB3.out.size)
     have HQg:Hid (wg.heap[w.heap.size+1]?=_):=(hbg.block _ (jAv HQ3.out)).trans HQ3.out
     have HEg:Hid (wg.heap[w.heap.size+1+1]?=_):=(hbg.block _ (jAv HE3.out)).trans HE3.out
     have HPg:Hid (wg.heap[w.heap.size]?=_):=(hbg.block _ (jAv HP3.out)).trans HP3.out
     have HSg:Hid (wg.heap[w2.heap.size]?=_):=(hbg.block _ (jAv HS3.out)).trans HS3.out
     replace hS:=HSS.out _ hbg
     clear hbg0 hbg
     refine hK.out _ _ hS (fun _=>?_)
     clear hK K
     (try simp only[Act.put,sA,sB,sC])
     refine tQ 11 ⟨some 53,.field 147 (.tmp 52) 1,_,_,_,none⟩ (.int .i64 (s:Int)) rfl hS ?_ (Or.inl ⟨by rfl,by intro x _;have h1:=HFL.out x;go_simp⟩)
     (try simp only[Act.put,sA,sB,sC])
     refine tQ 20 ⟨some 62,.call { callee:=.builtin .max,args:=#[.tmp 53,.tmp 61],argTypes:=#[3,3] },_,_,_,none⟩ (.int .i64 (s':Int)) rfl hS ?_
     (try simp only[Act.put,sA,sB,sC])
     refine wpAnyH_ready (rs:=[21]) (by kernel_rfl) (by simp) ?_
     refine AllReadyH.cons (o:={ dst:=some 63,op:=.call { callee:=.value (.func 123),args:=#[.tmp 42,.tmp 45,.tmp 62],argTypes:=#[92,3,3] },type:=_,pos:=_,after:=_,guard:=none }) rfl (fun K hK=>?_) AllReadyH.nil
     go_simp
     refine (HRZ.out _ HBg.out).mono ?_
     rintro e w4 ⟨rfl,hT4⟩
     have HQw4:Hid _:=Turn.keep hT4 (HLay.out _ HBg.out) HQg.out (by decide)
     have HEw4:Hid _:=Turn.keep hT4 (HLay.out _ HBg.out) HEg.out (by decide)
     have HPw4:Hid _:=Turn.keep hT4 (HLay.out _ HBg.out) HPg.out (by decide)
     have HSw4:Hid _:=Turn.keep hT4 (HLay.out _ HBg.out) HSg.out (by decide)
     have HTw4:Hid (Turn F w w4 q (nn+1) (jD2 T no s')):=(Turn.ahead HBg.out hT4).up (Nat.le_succ _)
     replace hS:=cells3 HSw4.out HPw4.out
     clear hT4
     refine hK.out _ _ hS (fun _=>?_)
     clear hK K
     (try simp only[Act.put])
     refine wpAnyH_done (by kernel_rfl) ?_ _
     obtain ⟨s3w4,-,-⟩:=hS
     obtain ⟨ho4,F4,hL4,hF4⟩:=HTw4.out
     have hef:=jJ2 w4 q F4 (nn+1) _ hL4 3 no par s' n' HFX.out
     clear ho4 hL4 hF4
     unfold efV at hef
     go_wp2_with fail
     refine (hef).mono ?_
     rintro e w5 ⟨rfl,hb5⟩
     have HWD:Hid (Wd F w (w5.alloc (.cells #[.int .i64 3,.int .i64 (no:Int),.int .i64 (-1),.int .i64 0,.int .i64 0,.string e0,.int .i64 (s':Int)] 68)) q (nn+1) w5.heap.size (jD2 T no s') #[.int .i64 ok,.string op,.string ot,.int .i64 (a:Int),.int .i64 on,.string od,.slice sa n sc,.slice ta tn tc] #[.int .i64 3,.int .i64 (no:Int),.int .i64 (-1),.int .i64 0,.int .i64 0,.string e0,.int .i64 (s':Int)]):=by
      have hlt:=Qx (jAv HEw4.out) hb5.size
      exact ⟨jA2 _ _,(QK w5 _ _ (Qx (jAv HPw4.out) hb5.size)).trans ((hb5.block _ (jAv HPw4.out)).trans HPw4.out),(QK w5 _ _ (Qx (jAv HQw4.out) hb5.size)).trans ((hb5.block _ (jAv HQw4.out)).trans HQw4.out),(QK w5 _ _ hlt).trans ((hb5.block _ (jAv HEw4.out)).trans HEw4.out),(HTw4.out).below (hb5.alloc hb5.size _),hlt⟩
     obtain ⟨W6,hW6⟩:∃W6,w5.alloc (.cells #[.int .i64 3,.int .i64 (no:Int),.int .i64 (-1),.int .i64 0,.int .i64 0,.string e0,.int .i64 (s':Int)] 68)=W6:=⟨_,rfl⟩
     rw[hW6] at HWD
     obtain ⟨b5,hb5e⟩:∃b5,w5.heap.size=b5:=⟨_,rfl⟩
     rw[hb5e] at HWD
     obtain ⟨z0,z1,z2,z3,z4,z5,z6⟩:=jCq HWD.out.hb
     obtain ⟨r0,r1,r2,r3,r4,r5,r6,r7⟩:=jC8 HWD.out.hr
     have fz6:∀j,W6.frozen? ⟨b5,j,none⟩=false:=fun j=>jAq HWD.out.hb
     have hnr:¬w.heap.size=b5:=by have:=HWD.out.hn;omega
     have hnr':¬b5=w.heap.size:=by have:=HWD.out.hn;omega
     clear hb5 HQw4 HEw4 HPw4
     go_wp2_with fail
     go_region_with fail
     all_goals
      refine jBj (R:=fun W=>Exit.then _ _ _ _ W) (Q:=fun W=>Hid (Wd F w W q (nn+1) b5 (jD2 T no s') #[.int .i64 ok,.string op,.string ot,.int .i64 (a:Int),.int .i64 on,.string od,.slice sa n sc,.slice ta tn tc] #[.int .i64 3,.int .i64 (no:Int),.int .i64 (-1),.int .i64 (a:Int),.int .i64 0,.string od,.int .i64 (s':Int)])) _ (by first | exact HWD.out.set35.1 | exact HWD.out.set35.2 | exact HWD.out.set35.1.drew | exact HWD.out.set35.2.drew) ?_
      rintro W7 HW7
      have HQW7:Hid _:=HW7.out.h1
      have HEW7:Hid _:=HW7.out.h2
      have HT:Hid (Turn F w W7 q (nn+1) (jD2 T no s')):=HW7.out.hT
      obtain ⟨y0,y1,y2,y3,y4,y5,y6⟩:=jCq HW7.out.hb
      obtain ⟨s0,s1,s2,s3,s4,s5,s6,s7⟩:=jC8 HW7.out.hr
      have hlt5:=HW7.out.hn
      have hne5:¬b5=w.heap.size+1:=by omega
      have hne6:¬b5=w.heap.size+1+1:=by omega
      have hne7:¬w.heap.size+1=b5:=by omega
      have hne8:¬w.heap.size+1+1=b5:=by omega
      clear hlt5
      obtain ⟨a0,a1,a2,a3,a4,a5⟩:=jB4 HQW7.out
      obtain ⟨b0,b1,b2,b3,b4,b5,b6⟩:=jCq HEW7.out
      have fz0:∀j,W7.frozen? ⟨w.heap.size+1,j,none⟩=false:=fun j=>jAq HQW7.out
      have fz1:∀j,W7.frozen? ⟨w.heap.size+1+1,j,none⟩=false:=fun j=>jAq HEW7.out
      (try unfold rsV)
      (try unfold Rs.no)
      (try unfold efV)
      (try unfold Ef.no)
      go_wp2_with fail
      go_region_with fail
      all_goals
       refine jBj (R:=fun W=>Exit.then _ _ _ _ W) (Q:=fun W=>Hid (W.heap[w.heap.size+1]?=some (.cells #[.int .i64 0,.string { data:=#[] },.int .i64 (od.size:Int),.slice none 0 0,.int .i64 0,.int .i64 0] 66 (0,0)))/\Hid (W.heap[w.heap.size+1+1]?=some (.cells #[.int .i64 3,.int .i64 (no:Int),.int .i64 (-1),.int .i64 (a:Int),.int .i64 0,.string od,.int .i64 (s':Int)] 68 (0,0)))/\Hid (Turn F w W q (nn+1) (jD2 T no s'))) _ ⟨jC4 (putRE HQW7.out HEW7.out (by omega)).1,jC4 (putRE HQW7.out HEW7.out (by omega)).2,jEq (HT.out.putRE (by omega) (by omega) HQW7.out HEW7.out)⟩ ?_
       rintro W6 ⟨HR6,HE6,HT6⟩
       go_wp2_with fail
       refine Qw (jAz rfl _ _ (w.heap.size+1) 66 _ (0,0) _ (w.heap.size+1+1) 68 _ (0,0) _ rfl HR6.out underlying66 rfl jB7 rfl HE6.out underlying68 rfl jB5) rfl ?_
       rw[HA2.out]
       exact ⟨_,rfl,Pa.Own.nil _ _,HT6.out⟩
    ·obtain rfl:s'=s:=by omega
     have hltI:¬(s':Int)<(z:Int):=by omega
     clear hs' hlt
     go_wp2_with fail
     go_quiet (fail)
     refine jBj (R:=fun W=>Exit.then _ _ _ _ W) (Q:=fun W=>Hid (Below W3.heap.size W3 W)) _ (bdr (Qq _ _) _) ?_
     rintro V0 HV0
     have hp5:=(HSS.out _ HV0.out).2.2
     go_wp2_with fail
     refine wp_region_held_drew (S:=fun V=>V.cell? ⟨w2.heap.size,3,none⟩=some (.int .i64 (no:Int))/\V.cell? ⟨w.heap.size,3,none⟩=some (.int .i64 (a:Int))/\V.cell? ⟨w.heap.size,5,none⟩=some (.string od)) (by kernel_rfl) (HSS.out _ HV0.out.drew) ?_
     intro hS
     have HD0:Hid (Below w.heap.size w V0.drew):=(HB3.out.trans (HV0.out.mono HB3.out.size)).drew
     refine tQ 0 ⟨some 42,.move (.tmp 0),_,_,_,none⟩ (.pointer (some ⟨q,0,none⟩)) rfl hS ?_
     (try simp only[Act.put,sA,sB,sC])
     refine tQ 1 ⟨some 43,.fieldAddr 210 (.tmp 6) 1,_,_,_,none⟩ (.pointer (some ⟨w2.heap.size,2,none⟩)) rfl hS ?_
     (try simp only[Act.put,sA,sB,sC])
     refine tQ 2 ⟨some 44,.fieldAddr 153 (.tmp 43) 1,_,_,_,none⟩ (.pointer (some ⟨w2.heap.size,3,none⟩)) rfl hS ?_
     (try simp only[Act.put,sA,sB,sC])
     refine tQ 3 ⟨some 45,.load 3 (.tmp 44),_,_,_,none⟩ (.int .i64 (no:Int)) rfl hS ?_ (Or.inl ⟨by rfl,by intro x hx;have h1:=hx.1;go_simp⟩)
     (try simp only[Act.put,sA,sB,sC])
     refine tQ 4 ⟨some 46,.move (.tmp 0),_,_,_,none⟩ (.pointer (some ⟨q,0,none⟩)) rfl hS ?_
     (try simp only[Act.put,sA,sB,sC])
     refine tQ 5 ⟨some 47,.nilCheck (.tmp 46),_,_,_,none⟩ (.pointer (some ⟨q,0,none⟩)) rfl hS ?_
     (try simp only[Act.put,sA,sB,sC])
     refine tQ 6 ⟨some 48,.fieldAddr 138 (.tmp 47) 1,_,_,_,none⟩ (.pointer (some ⟨q,3,none⟩)) rfl hS ?_
     (try simp only[Act.put,sA,sB,sC])
     refine tQ 7 ⟨some 49,.fieldAddr 210 (.tmp 6) 1,_,_,_,none⟩ (.pointer (some ⟨w2.heap.size,2,none⟩)) rfl hS ?_
     (try simp only[Act.put,sA,sB,sC])
     refine tQ 8 ⟨some 50,.fieldAddr 153 (.tmp 49) 1,_,_,_,none⟩ (.pointer (some ⟨w2.heap.size,3,none⟩)) rfl hS ?_
     (try simp only[Act.put,sA,sB,sC])
     refine tQ 9 ⟨some 51,.load 3 (.tmp 50),_,_,_,none⟩ (.int .i64 (no:Int)) rfl hS ?_ (Or.inl ⟨by rfl,by intro x hx;have h1:=hx.1;go_simp⟩)
     (try simp only[Act.put,sA,sB,sC])
     refine tQ 12 ⟨some 54,.fieldAddr 101 (.tmp 3) 0,_,_,_,none⟩ (.pointer (some ⟨w.heap.size,0,none⟩)) rfl hS ?_
     (try simp only[Act.put,sA,sB,sC])
     refine tQ 13 ⟨some 55,.fieldAddr 72 (.tmp 54) 3,_,_,_,none⟩ (.pointer (some ⟨w.heap.size,3,none⟩)) rfl hS ?_
     (try simp only[Act.put,sA,sB,sC])
     refine tQ 14 ⟨some 56,.load 3 (.tmp 55),_,_,_,none⟩ (.int .i64 (a:Int)) rfl hS ?_ (Or.inl ⟨by rfl,by intro x hx;have h1:=hx.2.1;go_simp⟩)
     (try simp only[Act.put,sA,sB,sC])
     refine tQ 15 ⟨some 57,.fieldAddr 101 (.tmp 3) 0,_,_,_,none⟩ (.pointer (some ⟨w.heap.size,0,none⟩)) rfl hS ?_
     (try simp only[Act.put,sA,sB,sC])
     refine tQ 16 ⟨some 58,.fieldAddr 72 (.tmp 57) 5,_,_,_,none⟩ (.pointer (some ⟨w.heap.size,5,none⟩)) rfl hS ?_
     (try simp only[Act.put,sA,sB,sC])
     refine tQ 17 ⟨some 59,.load 9 (.tmp 58),_,_,_,none⟩ (.string od) rfl hS ?_ (Or.inl ⟨by rfl,by intro x hx;have h1:=hx.2.2;go_simp⟩)
     (try simp only[Act.put,sA,sB,sC])
     refine tQ 18 ⟨some 60,.call { callee:=.builtin .len,args:=#[.tmp 59],argTypes:=#[9] },_,_,_,none⟩ (.int .i64 (od.size:Int)) rfl hS ?_
     (try simp only[Act.put,sA,sB,sC])
     refine tQ 19 ⟨some 61,.binOp .add 3 (.tmp 56) (.tmp 60) 3,_,_,_,none⟩ (.int .i64 (z:Int)) rfl hS ?_
     (try simp only[Act.put,sA,sB,sC])
     refine wpAnyH_ready (rs:=[10]) (by kernel_rfl) (by simp) ?_
     refine AllReadyH.cons (o:={ dst:=some 52,op:=.call { callee:=.value (.func 124),args:=#[.tmp 48,.tmp 51],argTypes:=#[136,3] },type:=_,pos:=_,after:=_,guard:=none }) rfl (fun K hK=>?_) AllReadyH.nil
     go_simp
     refine (HGT.out _ HD0.out).mono ?_
     rintro e wg ⟨rfl,hbg0⟩
     have hbg:Below W3.heap.size W3 wg:=HV0.out.drew.trans (hbg0.mono HV0.out.size)
     have HBg:Hid (Below w.heap.size w wg):=HB3.out.trans (hbg.mono HB3.out.size)
     have HQg:Hid (wg.heap[w.heap.size+1]?=_):=(hbg.block _ (jAv HQ3.out)).trans HQ3.out
     have HEg:Hid (wg.heap[w.heap.size+1+1]?=_):=(hbg.block _ (jAv HE3.out)).trans HE3.out
     have HPg:Hid (wg.heap[w.heap.size]?=_):=(hbg.block _ (jAv HP3.out)).trans HP3.out
     have HSg:Hid (wg.heap[w2.heap.size]?=_):=(hbg.block _ (jAv HS3.out)).trans HS3.out
     replace hS:=HSS.out _ hbg
     clear hbg0 hbg
     refine hK.out _ _ hS (fun _=>?_)
     clear hK K
     (try simp only[Act.put,sA,sB,sC])
     refine tQ 11 ⟨some 53,.field 147 (.tmp 52) 1,_,_,_,none⟩ (.int .i64 (s':Int)) rfl hS ?_ (Or.inl ⟨by rfl,by intro x _;have h1:=HFL.out x;go_simp⟩)
     (try simp only[Act.put,sA,sB,sC])
     refine tQ 20 ⟨some 62,.call { callee:=.builtin .max,args:=#[.tmp 53,.tmp 61],argTypes:=#[3,3] },_,_,_,none⟩ (.int .i64 (s':Int)) rfl hS ?_ (Or.inl ⟨by rfl,by intro x _;go_simp;omega⟩)
     (try simp only[Act.put,sA,sB,sC])
     refine wpAnyH_ready (rs:=[21]) (by kernel_rfl) (by simp) ?_
     refine AllReadyH.cons (o:={ dst:=some 63,op:=.call { callee:=.value (.func 123),args:=#[.tmp 42,.tmp 45,.tmp 62],argTypes:=#[92,3,3] },type:=_,pos:=_,after:=_,guard:=none }) rfl (fun K hK=>?_) AllReadyH.nil
     go_simp
     refine (HRZ.out _ HBg.out).mono ?_
     rintro e w4 ⟨rfl,hT4⟩
     have HQw4:Hid _:=Turn.keep hT4 (HLay.out _ HBg.out) HQg.out (by decide)
     have HEw4:Hid _:=Turn.keep hT4 (HLay.out _ HBg.out) HEg.out (by decide)
     have HPw4:Hid _:=Turn.keep hT4 (HLay.out _ HBg.out) HPg.out (by decide)
     have HSw4:Hid _:=Turn.keep hT4 (HLay.out _ HBg.out) HSg.out (by decide)
     have HTw4:Hid (Turn F w w4 q (nn+1) (jD2 T no s')):=(Turn.ahead HBg.out hT4).up (Nat.le_succ _)
     replace hS:=cells3 HSw4.out HPw4.out
     clear hT4
     refine hK.out _ _ hS (fun _=>?_)
     clear hK K
     (try simp only[Act.put])
     refine wpAnyH_done (by kernel_rfl) ?_ _
     obtain ⟨s3w4,-,-⟩:=hS
     obtain ⟨ho4,F4,hL4,hF4⟩:=HTw4.out
     have hef:=jJ2 w4 q F4 (nn+1) _ hL4 3 no par s' n' HFX.out
     clear ho4 hL4 hF4
     unfold efV at hef
     go_wp2_with fail
     refine (hef).mono ?_
     rintro e w5 ⟨rfl,hb5⟩
     have HWD:Hid (Wd F w (w5.alloc (.cells #[.int .i64 3,.int .i64 (no:Int),.int .i64 (-1),.int .i64 0,.int .i64 0,.string e0,.int .i64 (s':Int)] 68)) q (nn+1) w5.heap.size (jD2 T no s') #[.int .i64 ok,.string op,.string ot,.int .i64 (a:Int),.int .i64 on,.string od,.slice sa n sc,.slice ta tn tc] #[.int .i64 3,.int .i64 (no:Int),.int .i64 (-1),.int .i64 0,.int .i64 0,.string e0,.int .i64 (s':Int)]):=by
      have hlt:=Qx (jAv HEw4.out) hb5.size
      exact ⟨jA2 _ _,(QK w5 _ _ (Qx (jAv HPw4.out) hb5.size)).trans ((hb5.block _ (jAv HPw4.out)).trans HPw4.out),(QK w5 _ _ (Qx (jAv HQw4.out) hb5.size)).trans ((hb5.block _ (jAv HQw4.out)).trans HQw4.out),(QK w5 _ _ hlt).trans ((hb5.block _ (jAv HEw4.out)).trans HEw4.out),(HTw4.out).below (hb5.alloc hb5.size _),hlt⟩
     obtain ⟨W6,hW6⟩:∃W6,w5.alloc (.cells #[.int .i64 3,.int .i64 (no:Int),.int .i64 (-1),.int .i64 0,.int .i64 0,.string e0,.int .i64 (s':Int)] 68)=W6:=⟨_,rfl⟩
     rw[hW6] at HWD
     obtain ⟨b5,hb5e⟩:∃b5,w5.heap.size=b5:=⟨_,rfl⟩
     rw[hb5e] at HWD
     obtain ⟨z0,z1,z2,z3,z4,z5,z6⟩:=jCq HWD.out.hb
     obtain ⟨r0,r1,r2,r3,r4,r5,r6,r7⟩:=jC8 HWD.out.hr
     have fz6:∀j,W6.frozen? ⟨b5,j,none⟩=false:=fun j=>jAq HWD.out.hb
     have hnr:¬w.heap.size=b5:=by have:=HWD.out.hn;omega
     have hnr':¬b5=w.heap.size:=by have:=HWD.out.hn;omega
     clear hb5 HQw4 HEw4 HPw4
     go_wp2_with fail
     go_region_with fail
     all_goals
      refine jBj (R:=fun W=>Exit.then _ _ _ _ W) (Q:=fun W=>Hid (Wd F w W q (nn+1) b5 (jD2 T no s') #[.int .i64 ok,.string op,.string ot,.int .i64 (a:Int),.int .i64 on,.string od,.slice sa n sc,.slice ta tn tc] #[.int .i64 3,.int .i64 (no:Int),.int .i64 (-1),.int .i64 (a:Int),.int .i64 0,.string od,.int .i64 (s':Int)])) _ (by first | exact HWD.out.set35.1 | exact HWD.out.set35.2 | exact HWD.out.set35.1.drew | exact HWD.out.set35.2.drew) ?_
      rintro W7 HW7
      have HQW7:Hid _:=HW7.out.h1
      have HEW7:Hid _:=HW7.out.h2
      have HT:Hid (Turn F w W7 q (nn+1) (jD2 T no s')):=HW7.out.hT
      obtain ⟨y0,y1,y2,y3,y4,y5,y6⟩:=jCq HW7.out.hb
      obtain ⟨s0,s1,s2,s3,s4,s5,s6,s7⟩:=jC8 HW7.out.hr
      have hlt5:=HW7.out.hn
      have hne5:¬b5=w.heap.size+1:=by omega
      have hne6:¬b5=w.heap.size+1+1:=by omega
      have hne7:¬w.heap.size+1=b5:=by omega
      have hne8:¬w.heap.size+1+1=b5:=by omega
      clear hlt5
      obtain ⟨a0,a1,a2,a3,a4,a5⟩:=jB4 HQW7.out
      obtain ⟨b0,b1,b2,b3,b4,b5,b6⟩:=jCq HEW7.out
      have fz0:∀j,W7.frozen? ⟨w.heap.size+1,j,none⟩=false:=fun j=>jAq HQW7.out
      have fz1:∀j,W7.frozen? ⟨w.heap.size+1+1,j,none⟩=false:=fun j=>jAq HEW7.out
      (try unfold rsV)
      (try unfold Rs.no)
      (try unfold efV)
      (try unfold Ef.no)
      go_wp2_with fail
      go_region_with fail
      all_goals
       refine jBj (R:=fun W=>Exit.then _ _ _ _ W) (Q:=fun W=>Hid (W.heap[w.heap.size+1]?=some (.cells #[.int .i64 0,.string { data:=#[] },.int .i64 (od.size:Int),.slice none 0 0,.int .i64 0,.int .i64 0] 66 (0,0)))/\Hid (W.heap[w.heap.size+1+1]?=some (.cells #[.int .i64 3,.int .i64 (no:Int),.int .i64 (-1),.int .i64 (a:Int),.int .i64 0,.string od,.int .i64 (s':Int)] 68 (0,0)))/\Hid (Turn F w W q (nn+1) (jD2 T no s'))) _ ⟨jC4 (putRE HQW7.out HEW7.out (by omega)).1,jC4 (putRE HQW7.out HEW7.out (by omega)).2,jEq (HT.out.putRE (by omega) (by omega) HQW7.out HEW7.out)⟩ ?_
       rintro W6 ⟨HR6,HE6,HT6⟩
       go_wp2_with fail
       refine Qw (jAz rfl _ _ (w.heap.size+1) 66 _ (0,0) _ (w.heap.size+1+1) 68 _ (0,0) _ rfl HR6.out underlying66 rfl jB7 rfl HE6.out underlying68 rfl jB5) rfl ?_
       rw[HA2.out]
       exact ⟨_,rfl,Pa.Own.nil _ _,HT6.out⟩
 ·have HA2:Hid (A=ref T e):=HA.out.trans (if_pos he)
  go_wp2_with fail
  refine (jB2 W3 e).mono ?_
  rintro e w4 ⟨rfl,hb4⟩
  have HBw4:Hid (Below w.heap.size w w4):=HB3.out.trans (hb4.mono HB3.out.size)
  have HQw4:Hid _:=(hb4.block _ (jAv HQ3.out)).trans HQ3.out
  have HEw4:Hid _:=(hb4.block _ (jAv HE3.out)).trans HE3.out
  have HPw4:Hid _:=(hb4.block _ (jAv HP3.out)).trans HP3.out
  have HSw4:Hid _:=(hb4.block _ (jAv HS3.out)).trans HS3.out
  clear hb4
  obtain ⟨a0,a1,a2,a3,a4,a5⟩:=jB4 HQw4.out
  obtain ⟨b0,b1,b2,b3,b4,b5,b6⟩:=jCq HEw4.out
  have fz0:∀j,w4.frozen? ⟨w.heap.size+1,j,none⟩=false:=fun j=>jAq HQw4.out
  have fz1:∀j,w4.frozen? ⟨w.heap.size+1+1,j,none⟩=false:=fun j=>jAq HEw4.out
  (try unfold rsV)
  (try unfold Rs.no)
  (try unfold efV)
  (try unfold Ef.no)
  go_wp2_with fail
  refine Qw (jAz rfl _ _ (w.heap.size+1) 66 _ (0,0) _ (w.heap.size+1+1) 68 _ (0,0) _ rfl (putRE HQw4.out HEw4.out (by omega)).1 underlying66 rfl jB7 rfl (putRE HQw4.out HEw4.out (by omega)).2 underlying68 rfl jB5) rfl ?_
  rw[HA2.out]
  exact ⟨_,rfl,Pa.Own.nil _ _,(HLay.out _ (jA3 HBw4.out (by omega) (by omega))).turn0 (jA3 HBw4.out (by omega) (by omega))⟩
