import Derived.Test.YtfnklhajafmooaaGreatDoorG14
set_option maxHeartbeats 4000000
set_option maxRecDepth 20000
namespace Go.Proofs.YtfnklhajafmooaaGreatDoor.Tr
open Go.RowKit Go.Lib Go.Deep Go.Proofs.Tryz
theorem read_any (w:World)(q:Nat)(F:List Nat)(nn:Nat)(T:Ts)(dp:Nat->Nat)(hL:Lay w q F nn T)(hv:Inv T dp)(P:List ByteArray)(sa:Option Addr)(n sc:Nat)(hs:Pa.See w (.slice sa n sc) P)(hnm:P.all Pa.nm=true)(hl:P.length<=16)(ok oa on:Int)(op ot od:ByteArray)(ta:Option Addr)(tn tc:Nat)(hon:0<=on)(hoa:0<=oa)(hoa1:oa<=9223372036854775807) :
 Calls prog 87 #[.pointer (some ⟨q,0,none⟩),.agg #[.int .i64 ok,.string op,.string ot,.int .i64 oa,.int .i64 on,.string od,.slice sa n sc,.slice ta tn tc]] w fun e w'=>Did F w w' q (nn+1) (reaT T P ⟨ok,op,ot,oa,on,od⟩) e:=by
 obtain ⟨W,hW,hb,kp,k0,k1⟩:=jC5 w #[.int .i64 ok,.string op,.string ot,.int .i64 oa,.int .i64 on,.string od,.slice sa n sc,.slice ta tn tc] R0 E0 101 66 68
 have hc:=jG4 W q F nn T dp (hL.below hb) hv _ P (hs.below hb) hnm hl
 have HX:Hid (∀w2,Below W.heap.size W w2->Below w.heap.size w w2/\w2.heap[w.heap.size]?=some (.cells #[.int .i64 ok,.string op,.string ot,.int .i64 oa,.int .i64 on,.string od,.slice sa n sc,.slice ta tn tc] 101 (0,0))/\w2.heap[w.heap.size+1]?=some (.cells R0 66 (0,0))/\w2.heap[w.heap.size+1+1]?=some (.cells E0 68 (0,0))):=fun w2 h2=>⟨hb.trans (h2.mono hb.size),(h2.block _ (jAv kp)).trans kp,(h2.block _ (jAv k0)).trans k0,(h2.block _ (jAv k1)).trans k1⟩
 obtain ⟨p0,p1,p2,p3,p4,p5,p6,p7⟩:=jC8 kp
 have HLay:Hid (∀W',Below w.heap.size w W'->Lay W' q F nn T):=fun W' hb=>hL.below hb
 have HV:Hid (Inv T dp):=hv
 have HG:Hid ((fndF T P).2=0->fndF T P=fndA T P/\(fndA T P).2=0/\Got T dp P (fndF T P).1):=fun h=>by
  have h1:=jG6 h
  exact ⟨h1.1,h1.2.1,by rw[h1.1];exact got hv hnm h1.2.1⟩
 have HK:Hid ((fndF T P).2=0->(fun k=>k≠0/\k≠1) (fndF T P).1.kd):=fun h=>by
  have h1:=jG6 h
  rw[h1.1]
  exact h1.2.2
 have HA:Hid (reaT T P ⟨ok,op,ot,oa,on,od⟩=if (fndF T P).2≠0 then ref T (fndF T P).2 else (⟨0,min on (max ((szF T (fndF T P).1.no:Int)-oa) 0),[],0,0⟩,⟨2,(fndF T P).1.no,-1,oa,min on (max ((szF T (fndF T P).1.no:Int)-oa) 0),e0,szF T (fndF T P).1.no⟩,T)):=rfl
 generalize fndF T P=r at *
 generalize reaT T P ⟨ok,op,ot,oa,on,od⟩=A at *
 obtain ⟨⟨par,nm,kd,no⟩,e⟩:=r
 unfold spV spA at hc
 unfold R0 E0 at hW
 clear hL hv hs hb kp k0 k1
 go_enter func87,ntmps87
 go_wp2_with fail
 refine hc.mono ?_
 rintro e w2 ⟨rfl,hb2⟩
 obtain ⟨hbw,qp,q0,q1⟩:=HX.out w2 hb2
 obtain ⟨W3,hW3,hb3,k3⟩:=jA4 w2 #[.int .i64 (par:Int),.string nm,.int .i64 (kd:Int),.int .i64 (no:Int)] 210
 have HB3:Hid (Below w.heap.size w W3):=hbw.trans (hb3.mono hbw.size)
 have s0:W3.cell? ⟨w2.heap.size,0,none⟩=some (.int .i64 (par:Int)):=(jAj k3).trans rfl
 have s1:W3.cell? ⟨w2.heap.size,1,none⟩=some (.string nm):=(jAj k3).trans rfl
 have s2:W3.cell? ⟨w2.heap.size,2,none⟩=some (.int .i64 (kd:Int)):=(jAj k3).trans rfl
 have s3:W3.cell? ⟨w2.heap.size,3,none⟩=some (.int .i64 (no:Int)):=(jAj k3).trans rfl
 have hn2:w.heap.size+1+1<w2.heap.size:=jAv q1
 have hne1:¬w2.heap.size=w.heap.size+1:=by omega
 have hne2:¬w2.heap.size=w.heap.size+1+1:=by omega
 have hne3:¬w.heap.size+1=w2.heap.size:=by omega
 have hne4:¬w.heap.size+1+1=w2.heap.size:=by omega
 clear hn2
 have HS3:Hid _:=k3
 have HP3:Hid _:=(hb3.block _ (jAv qp)).trans qp
 have HQ3:Hid _:=(hb3.block _ (jAv q0)).trans q0
 have HE3:Hid _:=(hb3.block _ (jAv q1)).trans q1
 clear hb2 hbw qp q0 q1 hb3 k3 HX hc
 by_cases he:e=0
 ·subst he
  have hfile:∃(n':ByteArray) (s:Nat),T.F[no]?=some (some (par,n',s))/\tk T par/\nm.size<=32:=by
   obtain ⟨g1,g2,g3⟩:=HG.out rfl
   have hk1:=HK.out rfl
   have hP0:P≠[]:=fun e=>hk1.2 (by have:=g3.rt e;injection this)
   have sp:=g3.sp hP0
   have hk2:kd=2:=by
    rcases sp.kd HV.out with h | h | h
    ·exact absurd h hk1.1
    ·exact absurd h hk1.2
    ·exact h
   have hm2:T.M par (ky nm)=some (2,no):=by rw[<-hk2];exact sp.there hk1.1
   obtain ⟨n',s,h1,_⟩:=HV.out.fileF hm2
   exact ⟨n',s,h1,sp.ht,jE7 sp.hn⟩
  obtain ⟨n',s,hF,htk,hns⟩:=hfile
  have hsz:szF T no=s:=by unfold szF;rw[hF]
  have hsb:s<=65536:=by
   obtain ⟨dv,fv,ld,lf,ms,-,hI3⟩:=HLay.out W3 HB3.out
   have:=HV.out.hS _ _ _ _ hF
   have:=hI3.lim
   omega
  have HA2:Hid (A=(⟨0,min on (max ((s:Int)-oa) 0),[],0,0⟩,⟨2,no,-1,oa,min on (max ((s:Int)-oa) 0),e0,s⟩,T)):=by
   have:=HA.out.trans (if_neg (by simp))
   simp only[hsz] at this
   exact this
  have hef:=jJ2 W3 q F nn T (HLay.out W3 HB3.out) 2 no par s n' hF
  clear htk hns hF hsz
  unfold efV at hef
  go_wp2_with fail
  refine hef.mono ?_
  rintro e w5 ⟨rfl,hb5⟩
  have HPo:Hid (∀o,(w5.alloc o).heap[w.heap.size]?=_):=fun o=>(QK w5 o _ (Qx (jAv HP3.out) hb5.size)).trans ((hb5.block _ (jAv HP3.out)).trans HP3.out)
  have p3o:∀o,(w5.alloc o).cell? ⟨w.heap.size,3,none⟩=some (.int .i64 oa):=fun o=>(jAj (HPo.out o)).trans rfl
  have p4o:∀o,(w5.alloc o).cell? ⟨w.heap.size,4,none⟩=some (.int .i64 on):=fun o=>(jAj (HPo.out o)).trans rfl
  have HO:Hid (w.heap.size+1+1<w5.heap.size/\(∀o,(w5.alloc o).heap[w.heap.size+1]?=some (.cells R0 66 (0,0)))/\(∀o,(w5.alloc o).heap[w.heap.size+1+1]?=some (.cells E0 68 (0,0)))/\∀o,Turn F w (w5.alloc o) q (nn+1) T):=by
   have hbw5:Below w.heap.size w w5:=HB3.out.trans (hb5.mono HB3.out.size)
   refine ⟨Qx (jAv HE3.out) hb5.size,fun o=>(QK w5 o _ (Qx (jAv HQ3.out) hb5.size)).trans ((hb5.block _ (jAv HQ3.out)).trans HQ3.out),fun o=>(QK w5 o _ (Qx (jAv HE3.out) hb5.size)).trans ((hb5.block _ (jAv HE3.out)).trans HE3.out),fun o=>?_⟩
   have hbo:Below w.heap.size w (w5.alloc o):=hbw5.alloc hbw5.size _
   exact (HLay.out _ hbo).turn0 hbo
  clear hb5 hef
  go_wp2_with fail
  all_goals
   first
    | (have hN:min on (max ((s:Int)-oa) 0)=on:=by omega
       rw[hN] at HA2
       obtain ⟨hlt5,HQo,HEo,HTo⟩:=HO.out
       have a0:∀o,(w5.alloc o).cell? ⟨w.heap.size+1,0,none⟩=some (.int .i64 0):=fun o=>(jAj (HQo o)).trans rfl
       have a1:∀o,(w5.alloc o).cell? ⟨w.heap.size+1,1,none⟩=some (.string { data:=#[] }):=fun o=>(jAj (HQo o)).trans rfl
       have a2:∀o,(w5.alloc o).cell? ⟨w.heap.size+1,2,none⟩=some (.int .i64 0):=fun o=>(jAj (HQo o)).trans rfl
       have a3:∀o,(w5.alloc o).cell? ⟨w.heap.size+1,3,none⟩=some (.slice none 0 0):=fun o=>(jAj (HQo o)).trans rfl
       have a4:∀o,(w5.alloc o).cell? ⟨w.heap.size+1,4,none⟩=some (.int .i64 0):=fun o=>(jAj (HQo o)).trans rfl
       have a5:∀o,(w5.alloc o).cell? ⟨w.heap.size+1,5,none⟩=some (.int .i64 0):=fun o=>(jAj (HQo o)).trans rfl
       have b0:∀o,(w5.alloc o).cell? ⟨w.heap.size+1+1,0,none⟩=some (.int .i64 0):=fun o=>(jAj (HEo o)).trans rfl
       have b1:∀o,(w5.alloc o).cell? ⟨w.heap.size+1+1,1,none⟩=some (.int .i64 0):=fun o=>(jAj (HEo o)).trans rfl
       have b2:∀o,(w5.alloc o).cell? ⟨w.heap.size+1+1,2,none⟩=some (.int .i64 0):=fun o=>(jAj (HEo o)).trans rfl
       have b3:∀o,(w5.alloc o).cell? ⟨w.heap.size+1+1,3,none⟩=some (.int .i64 0):=fun o=>(jAj (HEo o)).trans rfl
       have b4:∀o,(w5.alloc o).cell? ⟨w.heap.size+1+1,4,none⟩=some (.int .i64 0):=fun o=>(jAj (HEo o)).trans rfl
       have b5:∀o,(w5.alloc o).cell? ⟨w.heap.size+1+1,5,none⟩=some (.string { data:=#[] }):=fun o=>(jAj (HEo o)).trans rfl
       have b6:∀o,(w5.alloc o).cell? ⟨w.heap.size+1+1,6,none⟩=some (.int .i64 0):=fun o=>(jAj (HEo o)).trans rfl
       have fz0:∀o j,(w5.alloc o).frozen? ⟨w.heap.size+1,j,none⟩=false:=fun o j=>jAq (HQo o)
       have fz1:∀o j,(w5.alloc o).frozen? ⟨w.heap.size+1+1,j,none⟩=false:=fun o j=>jAq (HEo o)
       have hne5:¬w5.heap.size=w.heap.size+1:=by omega
       have hne6:¬w5.heap.size=w.heap.size+1+1:=by omega
       have hne7:¬w.heap.size+1=w5.heap.size:=by omega
       have hne8:¬w.heap.size+1+1=w5.heap.size:=by omega
       have HQo':Hid _:=HQo
       have HEo':Hid _:=HEo
       have HTo':Hid _:=HTo
       clear HQo HEo HTo hlt5
       go_wp2_with fail
       go_region_with fail
       all_goals
        refine jBj (R:=fun W=>Exit.then _ _ _ _ W) (Q:=fun W=>Hid (W.heap[w.heap.size+1]?=some (.cells #[.int .i64 0,.string { data:=#[] },.int .i64 on,.slice none 0 0,.int .i64 0,.int .i64 0] 66 (0,0)))/\Hid (W.heap[w.heap.size+1+1]?=some (.cells #[.int .i64 2,.int .i64 (no:Int),.int .i64 (-1),.int .i64 oa,.int .i64 on,.string e0,.int .i64 (s:Int)] 68 (0,0)))/\Hid (Turn F w W q (nn+1) (T))) _ ⟨jC4 (putRE (HQo'.out _) (HEo'.out _) (by omega)).1,jC4 (putRE (HQo'.out _) (HEo'.out _) (by omega)).2,jEq (Turn.putRE (HTo'.out _) (by omega) (by omega) (HQo'.out _) (HEo'.out _))⟩ ?_
        rintro W6 ⟨HR6,HE6,HT6⟩
        go_wp2_with fail
        refine Qw (jAz rfl _ _ (w.heap.size+1) 66 _ (0,0) _ (w.heap.size+1+1) 68 _ (0,0) _ rfl HR6.out underlying66 rfl jB7 rfl HE6.out underlying68 rfl jB5) rfl ?_
        rw[HA2.out]
        exact ⟨_,rfl,Pa.Own.nil _ _,HT6.out⟩)
    | (have hN:min on (max ((s:Int)-oa) 0)=((s:Int)-oa):=by omega
       rw[hN] at HA2
       obtain ⟨hlt5,HQo,HEo,HTo⟩:=HO.out
       have a0:∀o,(w5.alloc o).cell? ⟨w.heap.size+1,0,none⟩=some (.int .i64 0):=fun o=>(jAj (HQo o)).trans rfl
       have a1:∀o,(w5.alloc o).cell? ⟨w.heap.size+1,1,none⟩=some (.string { data:=#[] }):=fun o=>(jAj (HQo o)).trans rfl
       have a2:∀o,(w5.alloc o).cell? ⟨w.heap.size+1,2,none⟩=some (.int .i64 0):=fun o=>(jAj (HQo o)).trans rfl
       have a3:∀o,(w5.alloc o).cell? ⟨w.heap.size+1,3,none⟩=some (.slice none 0 0):=fun o=>(jAj (HQo o)).trans rfl
       have a4:∀o,(w5.alloc o).cell? ⟨w.heap.size+1,4,none⟩=some (.int .i64 0):=fun o=>(jAj (HQo o)).trans rfl
       have a5:∀o,(w5.alloc o).cell? ⟨w.heap.size+1,5,none⟩=some (.int .i64 0):=fun o=>(jAj (HQo o)).trans rfl
       have b0:∀o,(w5.alloc o).cell? ⟨w.heap.size+1+1,0,none⟩=some (.int .i64 0):=fun o=>(jAj (HEo o)).trans rfl
       have b1:∀o,(w5.alloc o).cell? ⟨w.heap.size+1+1,1,none⟩=some (.int .i64 0):=fun o=>(jAj (HEo o)).trans rfl
       have b2:∀o,(w5.alloc o).cell? ⟨w.heap.size+1+1,2,none⟩=some (.int .i64 0):=fun o=>(jAj (HEo o)).trans rfl
       have b3:∀o,(w5.alloc o).cell? ⟨w.heap.size+1+1,3,none⟩=some (.int .i64 0):=fun o=>(jAj (HEo o)).trans rfl
       have b4:∀o,(w5.alloc o).cell? ⟨w.heap.size+1+1,4,none⟩=some (.int .i64 0):=fun o=>(jAj (HEo o)).trans rfl
       have b5:∀o,(w5.alloc o).cell? ⟨w.heap.size+1+1,5,none⟩=some (.string { data:=#[] }):=fun o=>(jAj (HEo o)).trans rfl
       have b6:∀o,(w5.alloc o).cell? ⟨w.heap.size+1+1,6,none⟩=some (.int .i64 0):=fun o=>(jAj (HEo o)).trans rfl
       have fz0:∀o j,(w5.alloc o).frozen? ⟨w.heap.size+1,j,none⟩=false:=fun o j=>jAq (HQo o)
       have fz1:∀o j,(w5.alloc o).frozen? ⟨w.heap.size+1+1,j,none⟩=false:=fun o j=>jAq (HEo o)
       have hne5:¬w5.heap.size=w.heap.size+1:=by omega
       have hne6:¬w5.heap.size=w.heap.size+1+1:=by omega
       have hne7:¬w.heap.size+1=w5.heap.size:=by omega
       have hne8:¬w.heap.size+1+1=w5.heap.size:=by omega
       have HQo':Hid _:=HQo
       have HEo':Hid _:=HEo
       have HTo':Hid _:=HTo
       clear HQo HEo HTo hlt5
       go_wp2_with fail
       go_region_with fail
       all_goals
        refine jBj (R:=fun W=>Exit.then _ _ _ _ W) (Q:=fun W=>Hid (W.heap[w.heap.size+1]?=some (.cells #[.int .i64 0,.string { data:=#[] },.int .i64 ((s:Int)-oa),.slice none 0 0,.int .i64 0,.int .i64 0] 66 (0,0)))/\Hid (W.heap[w.heap.size+1+1]?=some (.cells #[.int .i64 2,.int .i64 (no:Int),.int .i64 (-1),.int .i64 oa,.int .i64 ((s:Int)-oa),.string e0,.int .i64 (s:Int)] 68 (0,0)))/\Hid (Turn F w W q (nn+1) (T))) _ ⟨jC4 (putRE (HQo'.out _) (HEo'.out _) (by omega)).1,jC4 (putRE (HQo'.out _) (HEo'.out _) (by omega)).2,jEq (Turn.putRE (HTo'.out _) (by omega) (by omega) (HQo'.out _) (HEo'.out _))⟩ ?_
        rintro W6 ⟨HR6,HE6,HT6⟩
        go_wp2_with fail
        refine Qw (jAz rfl _ _ (w.heap.size+1) 66 _ (0,0) _ (w.heap.size+1+1) 68 _ (0,0) _ rfl HR6.out underlying66 rfl jB7 rfl HE6.out underlying68 rfl jB5) rfl ?_
        rw[HA2.out]
        exact ⟨_,rfl,Pa.Own.nil _ _,HT6.out⟩)
    | (have hN:min on (max ((s:Int)-oa) 0)=0:=by omega
       rw[hN] at HA2
       obtain ⟨hlt5,HQo,HEo,HTo⟩:=HO.out
       have a0:∀o,(w5.alloc o).cell? ⟨w.heap.size+1,0,none⟩=some (.int .i64 0):=fun o=>(jAj (HQo o)).trans rfl
       have a1:∀o,(w5.alloc o).cell? ⟨w.heap.size+1,1,none⟩=some (.string { data:=#[] }):=fun o=>(jAj (HQo o)).trans rfl
       have a2:∀o,(w5.alloc o).cell? ⟨w.heap.size+1,2,none⟩=some (.int .i64 0):=fun o=>(jAj (HQo o)).trans rfl
       have a3:∀o,(w5.alloc o).cell? ⟨w.heap.size+1,3,none⟩=some (.slice none 0 0):=fun o=>(jAj (HQo o)).trans rfl
       have a4:∀o,(w5.alloc o).cell? ⟨w.heap.size+1,4,none⟩=some (.int .i64 0):=fun o=>(jAj (HQo o)).trans rfl
       have a5:∀o,(w5.alloc o).cell? ⟨w.heap.size+1,5,none⟩=some (.int .i64 0):=fun o=>(jAj (HQo o)).trans rfl
       have b0:∀o,(w5.alloc o).cell? ⟨w.heap.size+1+1,0,none⟩=some (.int .i64 0):=fun o=>(jAj (HEo o)).trans rfl
       have b1:∀o,(w5.alloc o).cell? ⟨w.heap.size+1+1,1,none⟩=some (.int .i64 0):=fun o=>(jAj (HEo o)).trans rfl
       have b2:∀o,(w5.alloc o).cell? ⟨w.heap.size+1+1,2,none⟩=some (.int .i64 0):=fun o=>(jAj (HEo o)).trans rfl
       have b3:∀o,(w5.alloc o).cell? ⟨w.heap.size+1+1,3,none⟩=some (.int .i64 0):=fun o=>(jAj (HEo o)).trans rfl
       have b4:∀o,(w5.alloc o).cell? ⟨w.heap.size+1+1,4,none⟩=some (.int .i64 0):=fun o=>(jAj (HEo o)).trans rfl
       have b5:∀o,(w5.alloc o).cell? ⟨w.heap.size+1+1,5,none⟩=some (.string { data:=#[] }):=fun o=>(jAj (HEo o)).trans rfl
       have b6:∀o,(w5.alloc o).cell? ⟨w.heap.size+1+1,6,none⟩=some (.int .i64 0):=fun o=>(jAj (HEo o)).trans rfl
       have fz0:∀o j,(w5.alloc o).frozen? ⟨w.heap.size+1,j,none⟩=false:=fun o j=>jAq (HQo o)
       have fz1:∀o j,(w5.alloc o).frozen? ⟨w.heap.size+1+1,j,none⟩=false:=fun o j=>jAq (HEo o)
       have hne5:¬w5.heap.size=w.heap.size+1:=by omega
       have hne6:¬w5.heap.size=w.heap.size+1+1:=by omega
       have hne7:¬w.heap.size+1=w5.heap.size:=by omega
       have hne8:¬w.heap.size+1+1=w5.heap.size:=by omega
       have HQo':Hid _:=HQo
       have HEo':Hid _:=HEo
       have HTo':Hid _:=HTo
       clear HQo HEo HTo hlt5
       go_wp2_with fail
       go_region_with fail
       all_goals
        refine jBj (R:=fun W=>Exit.then _ _ _ _ W) (Q:=fun W=>Hid (W.heap[w.heap.size+1]?=some (.cells #[.int .i64 0,.string { data:=#[] },.int .i64 0,.slice none 0 0,.int .i64 0,.int .i64 0] 66 (0,0)))/\Hid (W.heap[w.heap.size+1+1]?=some (.cells #[.int .i64 2,.int .i64 (no:Int),.int .i64 (-1),.int .i64 oa,.int .i64 0,.string e0,.int .i64 (s:Int)] 68 (0,0)))/\Hid (Turn F w W q (nn+1) (T))) _ ⟨jC4 (putRE (HQo'.out _) (HEo'.out _) (by omega)).1,jC4 (putRE (HQo'.out _) (HEo'.out _) (by omega)).2,jEq (Turn.putRE (HTo'.out _) (by omega) (by omega) (HQo'.out _) (HEo'.out _))⟩ ?_
        rintro W6 ⟨HR6,HE6,HT6⟩
        go_wp2_with fail
        refine Qw (jAz rfl _ _ (w.heap.size+1) 66 _ (0,0) _ (w.heap.size+1+1) 68 _ (0,0) _ rfl HR6.out underlying66 rfl jB7 rfl HE6.out underlying68 rfl jB5) rfl ?_
        rw[HA2.out]
        exact ⟨_,rfl,Pa.Own.nil _ _,HT6.out⟩)
 ·have HA2:Hid (A=ref T e):=HA.out.trans (if_pos he)
  go_wp2_with fail
  refine (jB2 W3 e).mono ?_
  rintro e w4 ⟨rfl,hb4⟩
  have HBw4:Hid (Below w.heap.size w w4):=HB3.out.trans (hb4.mono HB3.out.size)
  have HQw4:Hid _:=(hb4.block _ (jAv HQ3.out)).trans HQ3.out
  have HEw4:Hid _:=(hb4.block _ (jAv HE3.out)).trans HE3.out
  have HPw4:Hid _:=(hb4.block _ (jAv HP3.out)).trans HP3.out
  have HSw4:Hid _:=(hb4.block _ (jAv HS3.out)).trans HS3.out
  clear hb4
  obtain ⟨a0,a1,a2,a3,a4,a5⟩:=jB4 HQw4.out
  obtain ⟨b0,b1,b2,b3,b4,b5,b6⟩:=jCq HEw4.out
  have fz0:∀j,w4.frozen? ⟨w.heap.size+1,j,none⟩=false:=fun j=>jAq HQw4.out
  have fz1:∀j,w4.frozen? ⟨w.heap.size+1+1,j,none⟩=false:=fun j=>jAq HEw4.out
  (try unfold rsV)
  (try unfold Rs.no)
  (try unfold efV)
  (try unfold Ef.no)
  go_wp2_with fail
  refine Qw (jAz rfl _ _ (w.heap.size+1) 66 _ (0,0) _ (w.heap.size+1+1) 68 _ (0,0) _ rfl (putRE HQw4.out HEw4.out (by omega)).1 underlying66 rfl jB7 rfl (putRE HQw4.out HEw4.out (by omega)).2 underlying68 rfl jB5) rfl ?_
  rw[HA2.out]
  exact ⟨_,rfl,Pa.Own.nil _ _,(HLay.out _ (jA3 HBw4.out (by omega) (by omega))).turn0 (jA3 HBw4.out (by omega) (by omega))⟩
