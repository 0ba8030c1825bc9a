import Derived.Test.YtfnklhajafmooaaGreatDoorG09
import Derived.Sort.KeysCollected
import Derived.Test.YtfnklhajafmooaaGreatDoorG10
set_option maxHeartbeats 4000000
set_option maxRecDepth 20000
namespace Go.Proofs.YtfnklhajafmooaaGreatDoor.Tr
open Go.RowKit Go.Lib Go.Deep Go.Proofs.Tryz
def IsH (T:Ts)(x h:Nat):Prop:=(h=0\/Rch T x h)/\∀j,Rch T x j->j<=h
theorem rch_le {T:Ts}{dp:Nat->Nat}(hv:Inv T dp){x j:Nat}(h:Rch T x j):dp x+j<=16:=by
 induction h with
 | one hm=>exact (hv.d1 _ _ _ hm).1
 | more hm _ ih =>
   have:=(hv.d1 _ _ _ hm).2 rfl
   simp only at this
   omega
structure Gone (T:Ts)(x:Nat)(Dt:DataW Unit)(left:Lit->Bool)(h:Nat):Prop where
 sub:∀kl,left kl=true->Maps.has Dt kl=true
 top:h=0\/Rch T x h
 all:∀k v,T.M x k=some v->left (.string k)=false->1<=h/\(v.1=1->∀j,Rch T v.2 j->j+1<=h)
theorem Gone.isH {T:Ts}{x h:Nat}{Dt:DataW Unit}{left:Lit->Bool}(g:Gone T x Dt left h)(hl:∀kl,left kl=false):IsH T x h:=by
 refine ⟨g.top,fun j hj=>?_⟩
 cases hj with
 | one hm=>exact (g.all _ _ hm (hl _)).1
 | more hm hr=>exact (g.all _ _ hm (hl _)).2 rfl _ hr
theorem Gone.step {T:Ts}{x h h' c1 c2:Nat}{Dt:DataW Unit}{left:Lit->Bool}{k:Key}(g:Gone T x Dt left h)(hM:T.M x k=some (c1,c2))(hle:h<=h')(h1:1<=h')(h2:c1=1->∀j,Rch T c2 j->j+1<=h')(ht:h'=h\/Rch T x h'):Gone T x Dt (fun z=>left z && !z.sameKey (.string k)) h':=by
 refine ⟨fun kl hk=>g.sub kl (by simp only[Bool.and_eq_true] at hk;exact hk.1),?_,fun k' v hv hk=>?_⟩
 ·rcases ht with rfl | ht
  ·exact g.top
  ·exact .inr ht
 ·by_cases hkk:k'=k
  ·subst hkk
   rw[hM] at hv
   cases hv
   exact ⟨h1,h2⟩
  ·have hl:left (.string k')=false:=by
    simp only[Bool.and_eq_false_iff] at hk
    rcases hk with hk | hk
    ·exact hk
    ·simp[Lit.sameKey,hkk] at hk
   obtain ⟨a,b⟩:=g.all k' v hv hl
   exact ⟨by omega,fun e j hj=>Qk (b e j hj) hle⟩
theorem grown_of {w W:World}(h:Below w.heap.size w W):w.grownBy W none:=⟨h.os,h.tape,h.output,h.size,fun k hk _=>h.block k hk⟩
theorem height_any (T:Ts)(dp:Nat->Nat)(hv:Inv T dp)(q:Nat)(F:List Nat)(nn:Nat):∀(fuel x:Nat) (d:Nat × ByteArray),T.D[x]?=some (some d)->fuel=16-dp x->∀w,Lay w q F nn T ->
 Calls prog 164 #[.pointer (some ⟨q,0,none⟩),.int .i64 (x:Int)] w fun e w'=>∃h:Nat,e=.returned (.int .i64 (h:Int))/\Hid (IsH T x h)/\h<=16/\Below w.heap.size w w':=by
 intro fuel
 induction fuel using Nat.strongRecOn with
 | ind fuel ih =>
 intro x d hd hf w hL
 obtain ⟨dv,fv,ld,lf,ms,hFe,hI⟩:=id hL
 have hin:=jD0 w q dv fv ld lf ms nn T hI x d hd
 have HIH:Hid (∀(y:Nat) (k:Key) (W:World),T.M x k=some (1,y)->Below w.heap.size w W->Calls prog 164 #[.pointer (some ⟨q,0,none⟩),.int .i64 (y:Int)] W fun e w'=>∃h:Nat,e=.returned (.int .i64 (h:Int))/\Hid (IsH T y h)/\h<=16/\Below W.heap.size W w'):=fun y k W hy hb=>by
  obtain ⟨_,n',h6,_⟩:=hv.dirD hy
  have h7:=hv.d1 _ _ _ hy
  have h8:=h7.2 rfl
  simp only at h8
  exact ih (16-dp y) (by omega) y _ h6 rfl W (hL.below hb)
 have HOM:Hid (∀W,Below w.heap.size w W->∃Dt,W.ownsMap prog 9 jF2 (ms x) nn Dt/\Tab Dt (T.M x)):=fun W hb=>(hI.below hb).hm x d hd
 have HR1:Hid (∀k v,T.M x k=some v->Rch T x 1):=fun k v h=>.one h
 have HR2:Hid (∀k y j,T.M x k=some (1,y)->Rch T y j->Rch T x (j+1)):=fun k y j h h2=>.more h h2
 have HLE:Hid (∀j,Rch T x j->j<=16):=fun j hj=>by have:=rch_le hv hj;omega
 generalize ms x=m at *
 clear hI hFe hd hf ih hL
 go_enter func164,ntmps164
 go_wp2_with fail
 refine hin.mono ?_
 rintro e w2 ⟨rfl,hb2⟩
 obtain ⟨Dt,hown,hT⟩:=HOM.out w2 hb2
 have hbl:=hown.lt
 have HT:Hid (Tab Dt (T.M x)):=hT
 have HB2:Hid (Below w.heap.size w w2):=hb2
 clear hin HOM hT hb2
 go_wp2_with (first
  | (at_range;refine wpList_range_own _ rfl _ 142 rfl 9 153 jOj underlying142 _ m nn _ rfl hown ?_;intro w0 hrg0 hg0 hs0)
  | go_in)
 go_frame
 go_loopw [5] (fun v wr=>∃(left:Lit->Bool) (cnt h:Nat),v=.int .i64 (h:Int)/\wr.ranges prog 9 jF2 m w2.heap.size nn Dt left cnt/\Hid (Gone T x Dt left h)/\h<=16/\Hid (Below w2.heap.size w2 wr))
  (fun _ wr=>wr.rangeLeft m w2.heap.size)
 case atStart =>
  exact ⟨_,_,0,rfl,hrg0,⟨fun _ h=>h,.inl rfl,fun k v hv hl=>by rw[HT.out.has k,hv] at hl;cases hl⟩,by omega,(Qq _ _).grown hg0 (Qj _) (fun j hj=>by cases hj)⟩
 case round =>
  obtain ⟨left,cnt,h,rfl,hrg,HG,hh,HB⟩:=hrel
  go_wp2_with (first
   | (at_next;refine wpList_next_ranges _ rfl _ rfl 9 jOj jF2 encStr (fun p:Nat × Nat=>.agg #[.int .i64 (p.1:Int),.int .i64 (p.2:Int)]) (fun key kl hk=>by obtain ⟨x,hx,_⟩:=Maps.keyOf_str underlying9 hk;exact ⟨x,hx⟩) (fun v y hv=>by obtain ⟨a,b,rfl,_⟩:=nodeR_inv hv;exact ⟨(a,b),rfl⟩) m w2.heap.size nn _ _ _ rfl hrg ?_ ?_)
   | go_in)
  ·intro hc0 hl0
   go_wp2_with fail
   go_ret
   exact ⟨h,rfl,HG.out.isH hl0,hh,HB2.out.trans (HB.out.mono HB2.out.size)⟩
  ·intro y c1 c2 kl yd yp w3 cnt2 hkey hlk hvv hat hrg2 hlt hg2 hs2 hen
   obtain ⟨y',ey,rfl,_⟩:=Maps.keyOf_str underlying9 hkey
   obtain rfl:y=y':=encStr_inj ey
   have hM:T.M x y=some (c1,c2):=by
    have e1:nodeD (c1,c2)=yd:=by
     rw[jM3] at hvv
     simp only[Option.some.injEq,Prod.mk.injEq] at hvv
     exact hvv.1
    have h1:=HG.out.sub _ hlk
    rw[HT.out.has y] at h1
    cases hq:T.M x y with
    | none=>rw[hq] at h1;cases h1
    | some v =>
      have h2:=HT.out.at_ y v hq (.map [])
      rw[hat,<-e1] at h2
      rw[jN9 h2]
   have hB3:Below w2.heap.size w2 w3:=HB.out.grown hg2 HB.out.size (fun j hj=>by cases hj;exact Qj _)
   obtain ⟨W4,hW4,hb4,k4⟩:=jA4 w3 #[.int .i64 (c1:Int),.int .i64 (c2:Int)] 153
   have n0:W4.cell? ⟨w3.heap.size,0,none⟩=some (.int .i64 (c1:Int)):=(jAj k4).trans rfl
   have n1:W4.cell? ⟨w3.heap.size,1,none⟩=some (.int .i64 (c2:Int)):=(jAj k4).trans rfl
   have hrg4:W4.ranges prog 9 jF2 m w2.heap.size nn Dt (fun z=>left z && !z.sameKey (Lit.string y)) cnt2:=hW4▸hrg2.alloc _
   have hB4:Below w2.heap.size w2 W4:=hB3.trans (hb4.mono hB3.size)
   have HB4:Hid _:=hB4
   have HM:Hid _:=hM
   by_cases hc:c1=1
   ·subst hc
    have hih:=HIH.out c2 y W4 hM (HB2.out.trans (hB4.mono HB2.out.size))
    have hW4':w3.alloc (.cells #[.int .i64 1,.int .i64 (c2:Int)] 153)=W4:=hW4
    have n0':W4.cell? ⟨w3.heap.size,0,none⟩=some (.int .i64 1):=n0
    clear hW4 n0 hs2 hg2 hrg2 hat hvv hlk hB3 hB4 hb4 k4 hM hkey ey
    go_wp2_with fail
    refine hih.mono ?_
    rintro e w5 ⟨h5,rfl,HH5,h5le,hb5⟩
    have hrg5:=hrg4.kept (grown_of hb5) (by simp) (by simp)
    have HB5:Hid (Below w2.heap.size w2 w5):=HB4.out.trans (hb5.mono HB4.out.size)
    have HS:Hid (∀h',(h'=h\/h'=h5+1)->h<=h'->h5+1<=h'->Gone T x Dt (fun z=>left z && !z.sameKey (Lit.string y)) h'/\h'<=16):=fun h' h1 h2 h3=>by
     have ht:h'=h\/Rch T x h':=by
      rcases h1 with rfl | rfl
      ·exact .inl rfl
      ·right
       rcases HH5.out.1 with h4 | h4
       ·subst h4;exact HR1.out _ _ HM.out
       ·exact HR2.out _ _ _ HM.out h4
     refine ⟨HG.out.step HM.out h2 (by omega) (fun _ j hj=>by have:=HH5.out.2 j hj;omega) ht,?_⟩
     rcases ht with rfl | ht
     ·exact hh
     ·exact HLE.out _ ht
    clear hb5 hih hrg4
    go_wp2_with fail
    all_goals
     go_roundw
     case rel =>
      by_cases hl5:(h:Int)<1+(h5:Int)
      ·refine ⟨_,cnt2,h5+1,?_,hrg5,(HS.out (h5+1) (.inr rfl) (by omega) (Qj _)).1,(HS.out (h5+1) (.inr rfl) (by omega) (Qj _)).2,HB5.out⟩
       first
        | (rw[if_pos hl5];congr 1;omega)
        | (congr 1;omega)
      ·refine ⟨_,cnt2,h,?_,hrg5,(HS.out h (.inl rfl) (Qj _) (by omega)).1,hh,HB5.out⟩
       first
        | (rw[if_neg hl5])
        | (congr 1;omega)
     case measure=>rw[hrg5.left_eq,hrg.left_eq];exact hlt
   ·have hcI:¬(c1:Int)=1:=by omega
    have HS:Hid (∀h',(h'=h\/h'=1)->h<=h'->1<=h'->Gone T x Dt (fun z=>left z && !z.sameKey (Lit.string y)) h'):=fun h' h1 h2 h3=>by
     refine HG.out.step HM.out h2 h3 (fun e=>absurd e hc) ?_
     rcases h1 with rfl | rfl
     ·exact .inl rfl
     ·exact .inr (HR1.out _ _ HM.out)
    clear hs2 hg2 hrg2 hat hvv hlk hB3 hB4 hb4 k4 hM hkey ey hc
    go_wp2_with fail
    all_goals
     go_roundw
     case rel =>
      by_cases hl5:(h:Int)<1
      ·refine ⟨_,cnt2,1,?_,hrg4,HS.out 1 (.inr rfl) (by omega) (Qj _),by omega,HB4.out⟩
       first
        | (rw[if_pos hl5];rfl)
        | (congr 1;omega)
      ·refine ⟨_,cnt2,h,?_,hrg4,HS.out h (.inl rfl) (Qj _) (by omega),hh,HB4.out⟩
       first
        | (rw[if_neg hl5])
        | (congr 1;omega)
     case measure=>rw[hrg4.left_eq,hrg.left_eq];exact hlt
noncomputable def tarS (T:Ts)(P Q:List ByteArray)(a:Sp):Sp:=if tarE T P Q a=0 then (fndA T Q).1 else Sp.zero
open Classical in
theorem targetF_any (w:World)(q:Nat)(F:List Nat)(nn:Nat)(T:Ts)(dp:Nat->Nat)(hL:Lay w q F nn T)(hv:Inv T dp)(P Q:List ByteArray)(sa ta:Option Addr)(n sc tn tc:Nat)(_hs:Pa.See w (.slice sa n sc) P)(ht:Pa.See w (.slice ta tn tc) Q)(_hp:P.length<=16)(hnm:Q.all Pa.nm=true)(hl:Q.length<=16)(ok oa on:Int)(op ot od:ByteArray)(par no:Nat)(nm:ByteArray) :
 Calls prog 127 #[.pointer (some ⟨q,0,none⟩),.agg #[.int .i64 ok,.string op,.string ot,.int .i64 oa,.int .i64 on,.string od,.slice sa n sc,.slice ta tn tc],.agg #[.int .i64 (par:Int),.string nm,.int .i64 2,.int .i64 (no:Int)]] w fun e w'=>e=.returned (.tuple #[spV (tarS T P Q ⟨par,nm,2,no⟩),.int .i64 (tarE T P Q ⟨par,nm,2,no⟩)])/\Below w.heap.size w w':=by
 obtain ⟨W,hW,hb,kp,k0,k1⟩:=jC5 w #[.int .i64 ok,.string op,.string ot,.int .i64 oa,.int .i64 on,.string od,.slice sa n sc,.slice ta tn tc] #[.int .i64 (par:Int),.string nm,.int .i64 2,.int .i64 (no:Int)] #[.int .i64 0,.string { data:=#[] },.int .i64 0,.int .i64 0] 101 210 210
 obtain ⟨p0,p1,p2,p3,p4,p5,p6,p7⟩:=jC8 kp
 have f2:W.cell? ⟨w.heap.size+1,2,none⟩=some (.int .i64 2):=(jAj k0).trans rfl
 have f3:W.cell? ⟨w.heap.size+1,3,none⟩=some (.int .i64 (no:Int)):=(jAj k0).trans rfl
 have HNQ:Hid (tn=Q.length):=by
  obtain ⟨a,c,e,_⟩:=ht
  injection e
 have HFD:Hid (∀W',Below w.heap.size w W'->Calls prog 160 #[.pointer (some ⟨q,0,none⟩),.slice ta tn tc] W' fun e w'=>e=.returned (.tuple #[spV (fndA T Q).1,.int .i64 (fndA T Q).2])/\Below W'.heap.size W' w'):=fun W' hb'=>jM6 W' q F nn T dp (hL.below hb') hv _ Q (ht.below hb') hnm hl
 have HKD:Hid ((fndA T Q).2=0->(fndA T Q).1.kd=0\/(fndA T Q).1.kd=1\/(fndA T Q).1.kd=2):=fun h=>by
  by_cases hQ0:Q=[]
  ·rw[hQ0];exact .inr (.inl rfl)
  ·exact ((jN3 hv hnm h).1 hQ0).1.kd hv
 have HTE:Hid (tarE T P Q ⟨par,nm,2,no⟩=if (2:Nat)=1/\P <+: Q then 126 else if (fndA T Q).2≠0 then (fndA T Q).2 else if (fndA T Q).1.kd=1 then 121 else if (fndA T Q).1.kd=2/\(2:Nat)=1 then 122 else if (2:Nat)=1/\∃j,Rch T no j/\16<Q.length+j then 112 else 0):=rfl
 have HTS:Hid (tarS T P Q ⟨par,nm,2,no⟩=if tarE T P Q ⟨par,nm,2,no⟩=0 then (fndA T Q).1 else Sp.zero):=rfl
 have HBW:Hid (Below w.heap.size w W):=hb
 have HZW:Hid _:=k1
 have HPW:Hid _:=kp
 have HFW:Hid _:=k0
 generalize tarS T P Q ⟨par,nm,2,no⟩=ts at *
 generalize tarE T P Q ⟨par,nm,2,no⟩=te at *
 generalize fndA T Q=r at *
 obtain ⟨⟨par2,nm2,kd2,no2⟩,e2⟩:=r
 clear hL hv _hs ht hb kp k0 k1
 unfold spV spA at HFD
 go_enter func127,ntmps127
 go_wp2_with fail
 refine (HFD.out W HBW.out).mono ?_
 rintro e w3 ⟨rfl,hb3⟩
 obtain ⟨W4,hW4,hb4,k4⟩:=jA4 w3 #[.int .i64 (par2:Int),.string nm2,.int .i64 (kd2:Int),.int .i64 (no2:Int)] 210
 have hb34:Below W.heap.size W W4:=hb3.trans (hb4.mono hb3.size)
 have HBW4:Hid (Below w.heap.size w W4):=HBW.out.trans (hb34.mono HBW.out.size)
 have HZW4:Hid _:=(hb34.block _ (jAv HZW.out)).trans HZW.out
 have HPW4:Hid _:=(hb34.block _ (jAv HPW.out)).trans HPW.out
 have HFW4:Hid _:=(hb34.block _ (jAv HFW.out)).trans HFW.out
 have g0:W4.cell? ⟨w3.heap.size,0,none⟩=some (.int .i64 (par2:Int)):=(jAj k4).trans rfl
 have g1:W4.cell? ⟨w3.heap.size,1,none⟩=some (.string nm2):=(jAj k4).trans rfl
 have g2:W4.cell? ⟨w3.heap.size,2,none⟩=some (.int .i64 (kd2:Int)):=(jAj k4).trans rfl
 have g3:W4.cell? ⟨w3.heap.size,3,none⟩=some (.int .i64 (no2:Int)):=(jAj k4).trans rfl
 have q7:W4.cell? ⟨w.heap.size,7,none⟩=some (.slice ta tn tc):=(jAj HPW4.out).trans rfl
 have q3:W4.cell? ⟨w.heap.size+1,3,none⟩=some (.int .i64 (no:Int)):=(jAj HFW4.out).trans rfl
 clear hb3 hb4 k4 hb34
 by_cases he:e2=0
 ·subst he
  by_cases hk1:kd2=1
  ·have HE:Hid (te=121):=HTE.out.trans (by rw[if_neg (by simp)];rw[if_neg (by simp),if_pos hk1])
   subst hk1
   have hW4b:w3.alloc (.cells #[.int .i64 (par2:Int),.string nm2,.int .i64 1,.int .i64 (no2:Int)] 210)=W4:=hW4
   have g2b:W4.cell? ⟨w3.heap.size,2,none⟩=some (.int .i64 1):=g2
   clear hW4 g2
   have z0:W4.cell? ⟨w.heap.size+1+1,0,none⟩=some (.int .i64 0):=(jAj HZW4.out).trans rfl
   have z1:W4.cell? ⟨w.heap.size+1+1,1,none⟩=some (.string { data:=#[] }):=(jAj HZW4.out).trans rfl
   have z2:W4.cell? ⟨w.heap.size+1+1,2,none⟩=some (.int .i64 0):=(jAj HZW4.out).trans rfl
   have z3:W4.cell? ⟨w.heap.size+1+1,3,none⟩=some (.int .i64 0):=(jAj HZW4.out).trans rfl
   have fzz:∀j,W4.frozen? ⟨w.heap.size+1+1,j,none⟩=false:=fun j=>jAq HZW4.out
   go_wp2_with fail
   refine Qw (jA8 rfl _ _ (w.heap.size+1+1) 210 _ (0,0) _ rfl (jEx HZW4.out) underlying210 rfl jD1) rfl ?_
   have hts:=HTS.out
   rw[HE.out,if_neg (by decide)] at hts
   rw[hts,HE.out]
   exact ⟨rfl,(((HBW4.out.setCell (by simp;omega) _).setCell (by simp;omega) _).setCell (by simp;omega) _).setCell (by simp;omega) _⟩
  ·have hk1I:¬(kd2:Int)=1:=by omega
   by_cases hk2:kd2=2
   ·have hW4b:w3.alloc (.cells #[.int .i64 (par2:Int),.string nm2,.int .i64 2,.int .i64 (no2:Int)] 210)=W4:=by rw[<-hW4,hk2];rfl
    have g2b:W4.cell? ⟨w3.heap.size,2,none⟩=some (.int .i64 2):=by rw[g2,hk2];rfl
    have HE:Hid (te=0):=HTE.out.trans (by simp[hk2])
    subst hk2
    clear hW4 g2 hk1 hk1I
    go_wp2_with fail
    go_quiet (fail)
    refine jBj (R:=fun W=>Exit.then _ _ _ _ W) (Q:=fun W5=>Hid (Below w.heap.size w W5)/\Hid (W5.heap[w.heap.size+1+1]?=some (.cells #[.int .i64 0,.string { data:=#[] },.int .i64 0,.int .i64 0] 210 (0,0)))/\W5.cell? ⟨w3.heap.size,0,none⟩=some (.int .i64 (par2:Int))/\W5.cell? ⟨w3.heap.size,1,none⟩=some (.string nm2)/\W5.cell? ⟨w3.heap.size,2,none⟩=some (.int .i64 2)/\W5.cell? ⟨w3.heap.size,3,none⟩=some (.int .i64 (no2:Int))) _ ⟨bdr HBW4.out _,HZW4.out,g0,g1,g2b,g3⟩ ?_
    rintro W5 ⟨HBW5,HZW5,g05,g15,g25,g35⟩
    have z0:W5.cell? ⟨w.heap.size+1+1,0,none⟩=some (.int .i64 0):=(jAj HZW5.out).trans rfl
    have z1:W5.cell? ⟨w.heap.size+1+1,1,none⟩=some (.string { data:=#[] }):=(jAj HZW5.out).trans rfl
    have z2:W5.cell? ⟨w.heap.size+1+1,2,none⟩=some (.int .i64 0):=(jAj HZW5.out).trans rfl
    have z3:W5.cell? ⟨w.heap.size+1+1,3,none⟩=some (.int .i64 0):=(jAj HZW5.out).trans rfl
    have fzz:∀j,W5.frozen? ⟨w.heap.size+1+1,j,none⟩=false:=fun j=>jAq HZW5.out
    go_wp2_with fail
    refine Qw (jA8 rfl _ _ (w.heap.size+1+1) 210 _ (0,0) _ rfl (jEx HZW5.out) underlying210 rfl jD1) rfl ?_
    have hts:=HTS.out
    rw[HE.out,if_pos rfl] at hts
    rw[hts,HE.out]
    exact ⟨rfl,(((HBW5.out.setCell (by simp;omega) _).setCell (by simp;omega) _).setCell (by simp;omega) _).setCell (by simp;omega) _⟩
   ·have hk0:kd2=0:=by
     rcases HKD.out rfl with h | h | h
     ·exact h
     ·exact absurd h hk1
     ·exact absurd h hk2
    have hk2I:¬(kd2:Int)=2:=by omega
    clear hk1 hk2 HKD
    have HE:Hid (te=0):=HTE.out.trans (by simp[hk0])
    clear hk0
    go_wp2_with fail
    go_quiet (fail)
    refine jBj (R:=fun W=>Exit.then _ _ _ _ W) (Q:=fun W5=>Hid (Below w.heap.size w W5)/\Hid (W5.heap[w.heap.size+1+1]?=some (.cells #[.int .i64 0,.string { data:=#[] },.int .i64 0,.int .i64 0] 210 (0,0)))/\W5.cell? ⟨w3.heap.size,0,none⟩=some (.int .i64 (par2:Int))/\W5.cell? ⟨w3.heap.size,1,none⟩=some (.string nm2)/\W5.cell? ⟨w3.heap.size,2,none⟩=some (.int .i64 (kd2:Int))/\W5.cell? ⟨w3.heap.size,3,none⟩=some (.int .i64 (no2:Int))) _ ⟨bdr HBW4.out _,HZW4.out,g0,g1,g2,g3⟩ ?_
    rintro W5 ⟨HBW5,HZW5,g05,g15,g25,g35⟩
    have z0:W5.cell? ⟨w.heap.size+1+1,0,none⟩=some (.int .i64 0):=(jAj HZW5.out).trans rfl
    have z1:W5.cell? ⟨w.heap.size+1+1,1,none⟩=some (.string { data:=#[] }):=(jAj HZW5.out).trans rfl
    have z2:W5.cell? ⟨w.heap.size+1+1,2,none⟩=some (.int .i64 0):=(jAj HZW5.out).trans rfl
    have z3:W5.cell? ⟨w.heap.size+1+1,3,none⟩=some (.int .i64 0):=(jAj HZW5.out).trans rfl
    have fzz:∀j,W5.frozen? ⟨w.heap.size+1+1,j,none⟩=false:=fun j=>jAq HZW5.out
    go_wp2_with fail
    refine Qw (jA8 rfl _ _ (w.heap.size+1+1) 210 _ (0,0) _ rfl (jEx HZW5.out) underlying210 rfl jD1) rfl ?_
    have hts:=HTS.out
    rw[HE.out,if_pos rfl] at hts
    rw[hts,HE.out]
    exact ⟨rfl,(((HBW5.out.setCell (by simp;omega) _).setCell (by simp;omega) _).setCell (by simp;omega) _).setCell (by simp;omega) _⟩
 ·have HE:Hid (te=e2):=HTE.out.trans (by rw[if_neg (by simp)];rw[if_pos he])
  have z0:W4.cell? ⟨w.heap.size+1+1,0,none⟩=some (.int .i64 0):=(jAj HZW4.out).trans rfl
  have z1:W4.cell? ⟨w.heap.size+1+1,1,none⟩=some (.string { data:=#[] }):=(jAj HZW4.out).trans rfl
  have z2:W4.cell? ⟨w.heap.size+1+1,2,none⟩=some (.int .i64 0):=(jAj HZW4.out).trans rfl
  have z3:W4.cell? ⟨w.heap.size+1+1,3,none⟩=some (.int .i64 0):=(jAj HZW4.out).trans rfl
  have fzz:∀j,W4.frozen? ⟨w.heap.size+1+1,j,none⟩=false:=fun j=>jAq HZW4.out
  go_wp2_with fail
  refine Qw (jA8 rfl _ _ (w.heap.size+1+1) 210 _ (0,0) _ rfl (jEx HZW4.out) underlying210 rfl jD1) rfl ?_
  have hts:=HTS.out
  rw[HE.out,if_neg he] at hts
  rw[hts,HE.out]
  exact ⟨rfl,(((HBW4.out.setCell (by simp;omega) _).setCell (by simp;omega) _).setCell (by simp;omega) _).setCell (by simp;omega) _⟩
end Go.Proofs.YtfnklhajafmooaaGreatDoor.Tr
namespace Go.Proofs.YtfnklhajafmooaaGreatDoor.Tr
open Go.RowKit Go.Lib Go.Deep Go.Proofs.Tryz
open Classical in
theorem targetD_any (w:World)(q:Nat)(F:List Nat)(nn:Nat)(T:Ts)(dp:Nat->Nat)(hL:Lay w q F nn T)(hv:Inv T dp)(P Q:List ByteArray)(sa ta:Option Addr)(n sc tn tc:Nat)(hs:Pa.See w (.slice sa n sc) P)(ht:Pa.See w (.slice ta tn tc) Q)(hp:P.length<=16)(hnm:Q.all Pa.nm=true)(hl:Q.length<=16)(ok oa on:Int)(op ot od:ByteArray)(par no:Nat)(nm:ByteArray)(d:Nat × ByteArray)(hd:T.D[no]?=some (some d)) :
 Calls prog 127 #[.pointer (some ⟨q,0,none⟩),.agg #[.int .i64 ok,.string op,.string ot,.int .i64 oa,.int .i64 on,.string od,.slice sa n sc,.slice ta tn tc],.agg #[.int .i64 (par:Int),.string nm,.int .i64 1,.int .i64 (no:Int)]] w fun e w'=>e=.returned (.tuple #[spV (tarS T P Q ⟨par,nm,1,no⟩),.int .i64 (tarE T P Q ⟨par,nm,1,no⟩)])/\Below w.heap.size w w':=by
 obtain ⟨W,hW,hb,kp,k0,k1⟩:=jC5 w #[.int .i64 ok,.string op,.string ot,.int .i64 oa,.int .i64 on,.string od,.slice sa n sc,.slice ta tn tc] #[.int .i64 (par:Int),.string nm,.int .i64 1,.int .i64 (no:Int)] #[.int .i64 0,.string { data:=#[] },.int .i64 0,.int .i64 0] 101 210 210
 obtain ⟨p0,p1,p2,p3,p4,p5,p6,p7⟩:=jC8 kp
 have f2:W.cell? ⟨w.heap.size+1,2,none⟩=some (.int .i64 1):=(jAj k0).trans rfl
 have f3:W.cell? ⟨w.heap.size+1,3,none⟩=some (.int .i64 (no:Int)):=(jAj k0).trans rfl
 have HNQ:Hid (tn=Q.length):=by
  obtain ⟨a,c,e,_⟩:=ht
  injection e
 have HFD:Hid (∀W',Below w.heap.size w W'->Calls prog 160 #[.pointer (some ⟨q,0,none⟩),.slice ta tn tc] W' fun e w'=>e=.returned (.tuple #[spV (fndA T Q).1,.int .i64 (fndA T Q).2])/\Below W'.heap.size W' w'):=fun W' hb'=>jM6 W' q F nn T dp (hL.below hb') hv _ Q (ht.below hb') hnm hl
 have hins:=Pa.jD0 W _ _ P Q (hs.below hb) (ht.below hb) (by omega)
 have HHG:Hid (∀W',Below w.heap.size w W'->Calls prog 164 #[.pointer (some ⟨q,0,none⟩),.int .i64 (no:Int)] W' fun e w'=>∃h:Nat,e=.returned (.int .i64 (h:Int))/\Hid (IsH T no h)/\h<=16/\Below W'.heap.size W' w'):=fun W' hb'=>height_any T dp hv q F nn _ no d hd rfl W' (hL.below hb')
 have HKD:Hid ((fndA T Q).2=0->(fndA T Q).1.kd=0\/(fndA T Q).1.kd=1\/(fndA T Q).1.kd=2):=fun h=>by
  by_cases hQ0:Q=[]
  ·rw[hQ0];exact .inr (.inl rfl)
  ·exact ((jN3 hv hnm h).1 hQ0).1.kd hv
 have HTE:Hid (tarE T P Q ⟨par,nm,1,no⟩=if (1:Nat)=1/\P <+: Q then 126 else if (fndA T Q).2≠0 then (fndA T Q).2 else if (fndA T Q).1.kd=1 then 121 else if (fndA T Q).1.kd=2/\(1:Nat)=1 then 122 else if (1:Nat)=1/\∃j,Rch T no j/\16<Q.length+j then 112 else 0):=rfl
 have HTS:Hid (tarS T P Q ⟨par,nm,1,no⟩=if tarE T P Q ⟨par,nm,1,no⟩=0 then (fndA T Q).1 else Sp.zero):=rfl
 have HBW:Hid (Below w.heap.size w W):=hb
 have HZW:Hid _:=k1
 have HPW:Hid _:=kp
 have HFW:Hid _:=k0
 generalize tarS T P Q ⟨par,nm,1,no⟩=ts at *
 generalize tarE T P Q ⟨par,nm,1,no⟩=te at *
 generalize fndA T Q=r at *
 obtain ⟨⟨par2,nm2,kd2,no2⟩,e2⟩:=r
 clear hL hv hs ht hb kp k0 k1
 unfold spV spA at HFD
 by_cases hpre:P <+: Q
 ·have hdec:decide (P <+: Q)=true:=by simp[hpre]
  rw[hdec] at hins
  have HE:Hid (te=126):=HTE.out.trans (if_pos ⟨rfl,hpre⟩)
  clear hpre hdec hd
  go_enter func127,ntmps127
  go_wp2_with fail
  refine hins.mono ?_
  rintro e w2 ⟨rfl,hb2⟩
  have HBw2:Hid (Below w.heap.size w w2):=HBW.out.trans (hb2.mono HBW.out.size)
  have HZw2:Hid _:=(hb2.block _ (jAv HZW.out)).trans HZW.out
  have HPw2:Hid _:=(hb2.block _ (jAv HPW.out)).trans HPW.out
  have HFw2:Hid _:=(hb2.block _ (jAv HFW.out)).trans HFW.out
  have p7w2:w2.cell? ⟨w.heap.size,7,none⟩=some (.slice ta tn tc):=(jAj HPw2.out).trans rfl
  clear hb2
  have z0:w2.cell? ⟨w.heap.size+1+1,0,none⟩=some (.int .i64 0):=(jAj HZw2.out).trans rfl
  have z1:w2.cell? ⟨w.heap.size+1+1,1,none⟩=some (.string { data:=#[] }):=(jAj HZw2.out).trans rfl
  have z2:w2.cell? ⟨w.heap.size+1+1,2,none⟩=some (.int .i64 0):=(jAj HZw2.out).trans rfl
  have z3:w2.cell? ⟨w.heap.size+1+1,3,none⟩=some (.int .i64 0):=(jAj HZw2.out).trans rfl
  have fzz:∀j,w2.frozen? ⟨w.heap.size+1+1,j,none⟩=false:=fun j=>jAq HZw2.out
  go_wp2_with fail
  refine Qw (jA8 rfl _ _ (w.heap.size+1+1) 210 _ (0,0) _ rfl (jEx HZw2.out) underlying210 rfl jD1) rfl ?_
  have hts:=HTS.out
  rw[HE.out,if_neg (by decide)] at hts
  rw[hts,HE.out]
  exact ⟨rfl,(((HBw2.out.setCell (by simp;omega) _).setCell (by simp;omega) _).setCell (by simp;omega) _).setCell (by simp;omega) _⟩
 ·have hdec:decide (P <+: Q)=false:=by simp[hpre]
  rw[hdec] at hins
  have HPRE:Hid (¬P <+: Q):=hpre
  clear hpre hdec hd
  go_enter func127,ntmps127
  go_wp2_with fail
  refine hins.mono ?_
  rintro e w2 ⟨rfl,hb2⟩
  have HBw2:Hid (Below w.heap.size w w2):=HBW.out.trans (hb2.mono HBW.out.size)
  have HZw2:Hid _:=(hb2.block _ (jAv HZW.out)).trans HZW.out
  have HPw2:Hid _:=(hb2.block _ (jAv HPW.out)).trans HPW.out
  have HFw2:Hid _:=(hb2.block _ (jAv HFW.out)).trans HFW.out
  have p7w2:w2.cell? ⟨w.heap.size,7,none⟩=some (.slice ta tn tc):=(jAj HPw2.out).trans rfl
  clear hb2
  go_wp2_with fail
  refine (HFD.out w2 HBw2.out).mono ?_
  rintro e w3 ⟨rfl,hb3⟩
  obtain ⟨W4,hW4,hb4,k4⟩:=jA4 w3 #[.int .i64 (par2:Int),.string nm2,.int .i64 (kd2:Int),.int .i64 (no2:Int)] 210
  have hb34:Below w2.heap.size w2 W4:=hb3.trans (hb4.mono hb3.size)
  have HBW4:Hid (Below w.heap.size w W4):=HBw2.out.trans (hb34.mono HBw2.out.size)
  have HZW4:Hid _:=(hb34.block _ (jAv HZw2.out)).trans HZw2.out
  have HPW4:Hid _:=(hb34.block _ (jAv HPw2.out)).trans HPw2.out
  have HFW4:Hid _:=(hb34.block _ (jAv HFw2.out)).trans HFw2.out
  have g0:W4.cell? ⟨w3.heap.size,0,none⟩=some (.int .i64 (par2:Int)):=(jAj k4).trans rfl
  have g1:W4.cell? ⟨w3.heap.size,1,none⟩=some (.string nm2):=(jAj k4).trans rfl
  have g2:W4.cell? ⟨w3.heap.size,2,none⟩=some (.int .i64 (kd2:Int)):=(jAj k4).trans rfl
  have g3:W4.cell? ⟨w3.heap.size,3,none⟩=some (.int .i64 (no2:Int)):=(jAj k4).trans rfl
  have q7:W4.cell? ⟨w.heap.size,7,none⟩=some (.slice ta tn tc):=(jAj HPW4.out).trans rfl
  have q3:W4.cell? ⟨w.heap.size+1,3,none⟩=some (.int .i64 (no:Int)):=(jAj HFW4.out).trans rfl
  have HK4:Hid _:=k4
  clear hb3 hb4 k4 hb34
  by_cases he:e2=0
  ·subst he
   by_cases hk1:kd2=1
   ·have HE:Hid (te=121):=HTE.out.trans (by rw[if_neg (fun h=>HPRE.out h.2)];rw[if_neg (by simp),if_pos hk1])
    subst hk1
    have hW4b:w3.alloc (.cells #[.int .i64 (par2:Int),.string nm2,.int .i64 1,.int .i64 (no2:Int)] 210)=W4:=hW4
    have g2b:W4.cell? ⟨w3.heap.size,2,none⟩=some (.int .i64 1):=g2
    clear hW4 g2
    have z0:W4.cell? ⟨w.heap.size+1+1,0,none⟩=some (.int .i64 0):=(jAj HZW4.out).trans rfl
    have z1:W4.cell? ⟨w.heap.size+1+1,1,none⟩=some (.string { data:=#[] }):=(jAj HZW4.out).trans rfl
    have z2:W4.cell? ⟨w.heap.size+1+1,2,none⟩=some (.int .i64 0):=(jAj HZW4.out).trans rfl
    have z3:W4.cell? ⟨w.heap.size+1+1,3,none⟩=some (.int .i64 0):=(jAj HZW4.out).trans rfl
    have fzz:∀j,W4.frozen? ⟨w.heap.size+1+1,j,none⟩=false:=fun j=>jAq HZW4.out
    go_wp2_with fail
    refine Qw (jA8 rfl _ _ (w.heap.size+1+1) 210 _ (0,0) _ rfl (jEx HZW4.out) underlying210 rfl jD1) rfl ?_
    have hts:=HTS.out
    rw[HE.out,if_neg (by decide)] at hts
    rw[hts,HE.out]
    exact ⟨rfl,(((HBW4.out.setCell (by simp;omega) _).setCell (by simp;omega) _).setCell (by simp;omega) _).setCell (by simp;omega) _⟩
   ·have hk1I:¬(kd2:Int)=1:=by omega
    by_cases hk2:kd2=2
    ·have hW4b:w3.alloc (.cells #[.int .i64 (par2:Int),.string nm2,.int .i64 2,.int .i64 (no2:Int)] 210)=W4:=by rw[<-hW4,hk2];rfl
     have g2b:W4.cell? ⟨w3.heap.size,2,none⟩=some (.int .i64 2):=by rw[g2,hk2];rfl
     have HE:Hid (te=122):=HTE.out.trans (by rw[if_neg (fun h=>HPRE.out h.2),if_neg (by simp),if_neg hk1,if_pos ⟨hk2,by first | rfl | trivial⟩])
     subst hk2
     clear hW4 g2 hk1 hk1I
     have z0:W4.cell? ⟨w.heap.size+1+1,0,none⟩=some (.int .i64 0):=(jAj HZW4.out).trans rfl
     have z1:W4.cell? ⟨w.heap.size+1+1,1,none⟩=some (.string { data:=#[] }):=(jAj HZW4.out).trans rfl
     have z2:W4.cell? ⟨w.heap.size+1+1,2,none⟩=some (.int .i64 0):=(jAj HZW4.out).trans rfl
     have z3:W4.cell? ⟨w.heap.size+1+1,3,none⟩=some (.int .i64 0):=(jAj HZW4.out).trans rfl
     have fzz:∀j,W4.frozen? ⟨w.heap.size+1+1,j,none⟩=false:=fun j=>jAq HZW4.out
     go_wp2_with fail
     refine Qw (jA8 rfl _ _ (w.heap.size+1+1) 210 _ (0,0) _ rfl (jEx HZW4.out) underlying210 rfl jD1) rfl ?_
     have hts:=HTS.out
     rw[HE.out,if_neg (by decide)] at hts
     rw[hts,HE.out]
     exact ⟨rfl,(((HBW4.out.setCell (by simp;omega) _).setCell (by simp;omega) _).setCell (by simp;omega) _).setCell (by simp;omega) _⟩
    ·have hk0:kd2=0:=by
      rcases HKD.out rfl with h | h | h
      ·exact h
      ·exact absurd h hk1
      ·exact absurd h hk2
     have hk2I:¬(kd2:Int)=2:=by omega
     have HN1:Hid (¬kd2=1):=hk1
     have HN2:Hid (¬kd2=2):=hk2
     clear hk1 hk2 HKD hk0
     have HS0:Hid (∀V,Below W4.heap.size W4 V->V.cell? ⟨w.heap.size,7,none⟩=some (.slice ta tn tc)/\V.cell? ⟨w.heap.size+1,3,none⟩=some (.int .i64 (no:Int))):=fun V hb=>⟨(jAj ((hb.block _ (jAv HPW4.out)).trans HPW4.out)).trans rfl,(jAj ((hb.block _ (jAv HFW4.out)).trans HFW4.out)).trans rfl⟩
     by_cases hbg:∃j,Rch T no j/\16<Q.length+j
     ·have HE:Hid (te=112):=HTE.out.trans (by rw[if_neg (fun h=>HPRE.out h.2),if_neg (by simp),if_neg HN1.out,if_neg (fun h=>HN2.out h.1),if_pos ⟨by first | rfl | trivial,hbg⟩])
      have HHC:Hid (∀W',Below w.heap.size w W'->Calls prog 164 #[.pointer (some ⟨q,0,none⟩),.int .i64 (no:Int)] W' fun e w'=>∃h k:Nat,e=.returned (.int .i64 (h:Int))/\IntKind.i64.wrap ((tn:Int)+(h:Int))=(k:Int)/\(16:Int)<(k:Int)/\Below W'.heap.size W' w'):=fun W' hb=>(HHG.out W' hb).mono fun e w' ⟨h,e1,hI,hle,hb'⟩=>by
       have hq:=HNQ.out
       refine ⟨h,tn+h,e1,by rw[QX];omega,?_,hb'⟩
       obtain ⟨j,hj,hj2⟩:=hbg
       have:=hI.out.2 j hj
       omega
      clear hbg HHG
      go_wp2_with fail
      refine wp_region_held_drew (S:=fun V=>V.cell? ⟨w.heap.size,7,none⟩=some (.slice ta tn tc)/\V.cell? ⟨w.heap.size+1,3,none⟩=some (.int .i64 (no:Int))) (by kernel_rfl) (HS0.out _ (Qq _ _).drew) ?_
      intro hS
      refine tQ 0 ⟨some 52,.move (.tmp 8),_,_,_,none⟩ (.bool true) rfl hS ?_
      (try simp only[Act.put,sA,sB,sC])
      refine tQ 1 ⟨some 53,.move (.tmp 52),_,_,_,none⟩ (.bool true) rfl hS ?_
      (try simp only[Act.put,sA,sB,sC])
      refine tQ 2 ⟨some 54,.fieldAddr 101 (.tmp 4) 2,_,_,_,some (1,true)⟩ (.pointer (some ⟨w.heap.size,7,none⟩)) rfl hS ?_
      (try simp only[Act.put,sA,sB,sC])
      refine tQ 3 ⟨some 55,.load 64 (.tmp 54),_,_,_,some (1,true)⟩ (.slice ta tn tc) rfl hS ?_ (Or.inl ⟨by rfl,by intro x hx;have h1:=hx.1;go_simp⟩)
      (try simp only[Act.put,sA,sB,sC])
      refine tQ 4 ⟨some 56,.call { callee:=.builtin .len,args:=#[.tmp 55],argTypes:=#[64] },_,_,_,some (1,true)⟩ (.int .i64 (tn:Int)) rfl hS ?_
      (try simp only[Act.put,sA,sB,sC])
      refine tQ 5 ⟨some 57,.move (.tmp 0),_,_,_,some (1,true)⟩ (.pointer (some ⟨q,0,none⟩)) rfl hS ?_
      (try simp only[Act.put,sA,sB,sC])
      refine tQ 6 ⟨some 58,.fieldAddr 210 (.tmp 5) 1,_,_,_,some (1,true)⟩ (.pointer (some ⟨(w.heap.size+1),2,none⟩)) rfl hS ?_
      (try simp only[Act.put,sA,sB,sC])
      refine tQ 7 ⟨some 59,.fieldAddr 153 (.tmp 58) 1,_,_,_,some (1,true)⟩ (.pointer (some ⟨(w.heap.size+1),3,none⟩)) rfl hS ?_
      (try simp only[Act.put,sA,sB,sC])
      refine tQ 8 ⟨some 60,.load 3 (.tmp 59),_,_,_,some (1,true)⟩ (.int .i64 (no:Int)) rfl hS ?_ (Or.inl ⟨by rfl,by intro x hx;have h1:=hx.2;go_simp⟩)
      (try simp only[Act.put,sA,sB,sC])
      refine wpAnyH_ready (rs:=[9]) (by kernel_rfl) (by simp) ?_
      refine AllReadyH.cons (o:={ dst:=some 61,op:=.call { callee:=.value (.func 164),args:=#[.tmp 57,.tmp 60],argTypes:=#[92,3] },type:=_,pos:=_,after:=_,guard:=some (1,true) }) rfl (fun K hK=>?_) AllReadyH.nil
      go_simp
      refine (HHC.out _ HBW4.out.drew).mono ?_
      rintro e w6 ⟨h,k,rfl,hwk,hk16,hb6⟩
      have hb46:Below W4.heap.size W4 w6:=((Qq W4.heap.size W4).drew).trans hb6
      have HBw6:Hid (Below w.heap.size w w6):=HBW4.out.trans (hb46.mono HBW4.out.size)
      have HZw6:Hid (w6.heap[w.heap.size+1+1]?=some (.cells #[.int .i64 0,.string { data:=#[] },.int .i64 0,.int .i64 0] 210 (0,0))):=(hb46.block _ (jAv HZW4.out)).trans HZW4.out
      have HK46:Hid (w6.heap[w3.heap.size]?=some (.cells #[.int .i64 (par2:Int),.string nm2,.int .i64 (kd2:Int),.int .i64 (no2:Int)] 210 (0,0))):=(hb46.block _ (jAv HK4.out)).trans HK4.out
      replace hS:=HS0.out _ hb46
      clear hb6 hb46
      refine hK.out _ _ hS (fun _=>?_)
      clear hK K
      (try simp only[Act.put,sA,sB,sC])
      refine tQ 10 ⟨some 62,.binOp .add 3 (.tmp 56) (.tmp 61) 3,_,_,_,some (1,true)⟩ (.int .i64 (k:Int)) rfl hS ?_
      (try simp only[Act.put,sA,sB,sC])
      refine tQ 11 ⟨some 63,.binOp .gtr 3 (.tmp 62) (.const (.int .i64 16)) 3,_,_,_,some (1,true)⟩ (.bool true) rfl hS ?_
      (try simp only[Act.put,sA,sB,sC])
      refine tQ 12 ⟨some 64,.pick (.tmp 53) (.tmp 63) (.const (.bool false)),_,_,_,none⟩ (.bool true) rfl hS ?_
      (try simp only[Act.put,sA,sB,sC])
      refine tQ 13 ⟨some 51,.assign (.tmp 64),_,_,_,none⟩ (.bool true) rfl hS ?_
      (try simp only[Act.put,sA,sB,sC])
      refine wpAnyH_done (by kernel_rfl) ?_ _
      have g06:w6.cell? ⟨w3.heap.size,0,none⟩=some (.int .i64 (par2:Int)):=(jAj HK46.out).trans rfl
      have g16:w6.cell? ⟨w3.heap.size,1,none⟩=some (.string nm2):=(jAj HK46.out).trans rfl
      have g26:w6.cell? ⟨w3.heap.size,2,none⟩=some (.int .i64 (kd2:Int)):=(jAj HK46.out).trans rfl
      have g36:w6.cell? ⟨w3.heap.size,3,none⟩=some (.int .i64 (no2:Int)):=(jAj HK46.out).trans rfl
      have z0:w6.cell? ⟨w.heap.size+1+1,0,none⟩=some (.int .i64 0):=(jAj HZw6.out).trans rfl
      have z1:w6.cell? ⟨w.heap.size+1+1,1,none⟩=some (.string { data:=#[] }):=(jAj HZw6.out).trans rfl
      have z2:w6.cell? ⟨w.heap.size+1+1,2,none⟩=some (.int .i64 0):=(jAj HZw6.out).trans rfl
      have z3:w6.cell? ⟨w.heap.size+1+1,3,none⟩=some (.int .i64 0):=(jAj HZw6.out).trans rfl
      have fzz:∀j,w6.frozen? ⟨w.heap.size+1+1,j,none⟩=false:=fun j=>jAq HZw6.out
      go_wp2_with fail
      refine Qw (jA8 rfl _ _ (w.heap.size+1+1) 210 _ (0,0) _ rfl (jEx HZw6.out) underlying210 rfl jD1) rfl ?_
      have hts:=HTS.out
      rw[HE.out,if_neg (by decide)] at hts
      rw[hts,HE.out]
      exact ⟨rfl,(((HBw6.out.setCell (by simp;omega) _).setCell (by simp;omega) _).setCell (by simp;omega) _).setCell (by simp;omega) _⟩
     ·have HE:Hid (te=0):=HTE.out.trans (by rw[if_neg (fun h=>HPRE.out h.2),if_neg (by simp),if_neg HN1.out,if_neg (fun h=>HN2.out h.1),if_neg (fun h=>hbg h.2)])
      have HHC:Hid (∀W',Below w.heap.size w W'->Calls prog 164 #[.pointer (some ⟨q,0,none⟩),.int .i64 (no:Int)] W' fun e w'=>∃h k:Nat,e=.returned (.int .i64 (h:Int))/\IntKind.i64.wrap ((tn:Int)+(h:Int))=(k:Int)/\¬(16:Int)<(k:Int)/\Below W'.heap.size W' w'):=fun W' hb=>(HHG.out W' hb).mono fun e w' ⟨h,e1,hI,hle,hb'⟩=>by
       have hq:=HNQ.out
       refine ⟨h,tn+h,e1,by rw[QX];omega,?_,hb'⟩
       rcases hI.out.1 with h0 | h0
       ·omega
       ·exact fun hc=>hbg ⟨h,h0,by omega⟩
      clear hbg HHG
      go_wp2_with fail
      refine wp_region_held_drew (S:=fun V=>V.cell? ⟨w.heap.size,7,none⟩=some (.slice ta tn tc)/\V.cell? ⟨w.heap.size+1,3,none⟩=some (.int .i64 (no:Int))) (by kernel_rfl) (HS0.out _ (Qq _ _).drew) ?_
      intro hS
      refine tQ 0 ⟨some 52,.move (.tmp 8),_,_,_,none⟩ (.bool true) rfl hS ?_
      (try simp only[Act.put,sA,sB,sC])
      refine tQ 1 ⟨some 53,.move (.tmp 52),_,_,_,none⟩ (.bool true) rfl hS ?_
      (try simp only[Act.put,sA,sB,sC])
      refine tQ 2 ⟨some 54,.fieldAddr 101 (.tmp 4) 2,_,_,_,some (1,true)⟩ (.pointer (some ⟨w.heap.size,7,none⟩)) rfl hS ?_
      (try simp only[Act.put,sA,sB,sC])
      refine tQ 3 ⟨some 55,.load 64 (.tmp 54),_,_,_,some (1,true)⟩ (.slice ta tn tc) rfl hS ?_ (Or.inl ⟨by rfl,by intro x hx;have h1:=hx.1;go_simp⟩)
      (try simp only[Act.put,sA,sB,sC])
      refine tQ 4 ⟨some 56,.call { callee:=.builtin .len,args:=#[.tmp 55],argTypes:=#[64] },_,_,_,some (1,true)⟩ (.int .i64 (tn:Int)) rfl hS ?_
      (try simp only[Act.put,sA,sB,sC])
      refine tQ 5 ⟨some 57,.move (.tmp 0),_,_,_,some (1,true)⟩ (.pointer (some ⟨q,0,none⟩)) rfl hS ?_
      (try simp only[Act.put,sA,sB,sC])
      refine tQ 6 ⟨some 58,.fieldAddr 210 (.tmp 5) 1,_,_,_,some (1,true)⟩ (.pointer (some ⟨(w.heap.size+1),2,none⟩)) rfl hS ?_
      (try simp only[Act.put,sA,sB,sC])
      refine tQ 7 ⟨some 59,.fieldAddr 153 (.tmp 58) 1,_,_,_,some (1,true)⟩ (.pointer (some ⟨(w.heap.size+1),3,none⟩)) rfl hS ?_
      (try simp only[Act.put,sA,sB,sC])
      refine tQ 8 ⟨some 60,.load 3 (.tmp 59),_,_,_,some (1,true)⟩ (.int .i64 (no:Int)) rfl hS ?_ (Or.inl ⟨by rfl,by intro x hx;have h1:=hx.2;go_simp⟩)
      (try simp only[Act.put,sA,sB,sC])
      refine wpAnyH_ready (rs:=[9]) (by kernel_rfl) (by simp) ?_
      refine AllReadyH.cons (o:={ dst:=some 61,op:=.call { callee:=.value (.func 164),args:=#[.tmp 57,.tmp 60],argTypes:=#[92,3] },type:=_,pos:=_,after:=_,guard:=some (1,true) }) rfl (fun K hK=>?_) AllReadyH.nil
      go_simp
      refine (HHC.out _ HBW4.out.drew).mono ?_
      rintro e w6 ⟨h,k,rfl,hwk,hk16,hb6⟩
      have hb46:Below W4.heap.size W4 w6:=((Qq W4.heap.size W4).drew).trans hb6
      have HBw6:Hid (Below w.heap.size w w6):=HBW4.out.trans (hb46.mono HBW4.out.size)
      have HZw6:Hid (w6.heap[w.heap.size+1+1]?=some (.cells #[.int .i64 0,.string { data:=#[] },.int .i64 0,.int .i64 0] 210 (0,0))):=(hb46.block _ (jAv HZW4.out)).trans HZW4.out
      have HK46:Hid (w6.heap[w3.heap.size]?=some (.cells #[.int .i64 (par2:Int),.string nm2,.int .i64 (kd2:Int),.int .i64 (no2:Int)] 210 (0,0))):=(hb46.block _ (jAv HK4.out)).trans HK4.out
      replace hS:=HS0.out _ hb46
      clear hb6 hb46
      refine hK.out _ _ hS (fun _=>?_)
      clear hK K
      (try simp only[Act.put,sA,sB,sC])
      refine tQ 10 ⟨some 62,.binOp .add 3 (.tmp 56) (.tmp 61) 3,_,_,_,some (1,true)⟩ (.int .i64 (k:Int)) rfl hS ?_
      (try simp only[Act.put,sA,sB,sC])
      refine tQ 11 ⟨some 63,.binOp .gtr 3 (.tmp 62) (.const (.int .i64 16)) 3,_,_,_,some (1,true)⟩ (.bool false) rfl hS ?_
      (try simp only[Act.put,sA,sB,sC])
      refine tQ 12 ⟨some 64,.pick (.tmp 53) (.tmp 63) (.const (.bool false)),_,_,_,none⟩ (.bool false) rfl hS ?_
      (try simp only[Act.put,sA,sB,sC])
      refine tQ 13 ⟨some 51,.assign (.tmp 64),_,_,_,none⟩ (.bool false) rfl hS ?_
      (try simp only[Act.put,sA,sB,sC])
      refine wpAnyH_done (by kernel_rfl) ?_ _
      have g06:w6.cell? ⟨w3.heap.size,0,none⟩=some (.int .i64 (par2:Int)):=(jAj HK46.out).trans rfl
      have g16:w6.cell? ⟨w3.heap.size,1,none⟩=some (.string nm2):=(jAj HK46.out).trans rfl
      have g26:w6.cell? ⟨w3.heap.size,2,none⟩=some (.int .i64 (kd2:Int)):=(jAj HK46.out).trans rfl
      have g36:w6.cell? ⟨w3.heap.size,3,none⟩=some (.int .i64 (no2:Int)):=(jAj HK46.out).trans rfl
      have z0:w6.cell? ⟨w.heap.size+1+1,0,none⟩=some (.int .i64 0):=(jAj HZw6.out).trans rfl
      have z1:w6.cell? ⟨w.heap.size+1+1,1,none⟩=some (.string { data:=#[] }):=(jAj HZw6.out).trans rfl
      have z2:w6.cell? ⟨w.heap.size+1+1,2,none⟩=some (.int .i64 0):=(jAj HZw6.out).trans rfl
      have z3:w6.cell? ⟨w.heap.size+1+1,3,none⟩=some (.int .i64 0):=(jAj HZw6.out).trans rfl
      have fzz:∀j,w6.frozen? ⟨w.heap.size+1+1,j,none⟩=false:=fun j=>jAq HZw6.out
      go_wp2_with fail
      refine Qw (jA8 rfl _ _ (w.heap.size+1+1) 210 _ (0,0) _ rfl (jEx HZw6.out) underlying210 rfl jD1) rfl ?_
      have hts:=HTS.out
      rw[HE.out,if_pos rfl] at hts
      rw[hts,HE.out]
      exact ⟨rfl,(((HBw6.out.setCell (by simp;omega) _).setCell (by simp;omega) _).setCell (by simp;omega) _).setCell (by simp;omega) _⟩
  ·have HE:Hid (te=e2):=HTE.out.trans (by rw[if_neg (fun h=>HPRE.out h.2)];rw[if_pos he])
   have z0:W4.cell? ⟨w.heap.size+1+1,0,none⟩=some (.int .i64 0):=(jAj HZW4.out).trans rfl
   have z1:W4.cell? ⟨w.heap.size+1+1,1,none⟩=some (.string { data:=#[] }):=(jAj HZW4.out).trans rfl
   have z2:W4.cell? ⟨w.heap.size+1+1,2,none⟩=some (.int .i64 0):=(jAj HZW4.out).trans rfl
   have z3:W4.cell? ⟨w.heap.size+1+1,3,none⟩=some (.int .i64 0):=(jAj HZW4.out).trans rfl
   have fzz:∀j,W4.frozen? ⟨w.heap.size+1+1,j,none⟩=false:=fun j=>jAq HZW4.out
   go_wp2_with fail
   refine Qw (jA8 rfl _ _ (w.heap.size+1+1) 210 _ (0,0) _ rfl (jEx HZW4.out) underlying210 rfl jD1) rfl ?_
   have hts:=HTS.out
   rw[HE.out,if_neg he] at hts
   rw[hts,HE.out]
   exact ⟨rfl,(((HBW4.out.setCell (by simp;omega) _).setCell (by simp;omega) _).setCell (by simp;omega) _).setCell (by simp;omega) _⟩
