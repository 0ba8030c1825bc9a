import Derived.Test.YtfnklhajafmooaaGreatDoorG31
import Derived.ProofKit
import Derived.OpenShut
import Derived.SizedLaws
import Derived.Deep.Slices
import Derived.Deep.Strs
import Derived.ShutString
import Derived.JoinedCond
import Derived.Carry
import Derived.Maps.Range
import Derived.Sort.KeysCollected
set_option maxHeartbeats 4000000
set_option maxRecDepth 20000
namespace Go.Proofs.YtfnklhajafmooaaGreatDoor.Po
open Go.RowKit Go.Lib Go.Deep Go.Proofs.Tryz
theorem jGy (o:Ob):(obC o).length=4:=rfl
theorem obsC_len (l:List Ob):(obsC l).length=l.length*4:=jEv obC 4 jGy l
theorem obs_put {w:World}{B g cap N:Nat}{l:List Ob}(h:w.ownsRow B 60 4 (.slice (some ⟨g,0,none⟩) N cap) N (obsC l)){i:Nat}{was:Ob}(hi:l[i]?=some was)(x:Ob) :
 (put4 w g (i*4) x).ownsRow B 60 4 (.slice (some ⟨g,0,none⟩) N cap) N (obsC (l.set i x))/\w.grownBy (put4 w g (i*4) x) (some g):=by
 have hl:=jAy hi
 have h1:=h.stored (i*4) (.string x.nm)
 rw[show obsC l=l.flatMap obC from rfl,show i*4=i*4+0 by omega,jE0 obC 4 jGy l i _ ⟨x.nm,was.tg,was.bk,was.ow⟩ hi 0 (.string x.nm) (by omega) rfl] at h1
 have h2:=h1.1.stored (i*4+1) (.string x.tg)
 rw[jE0 obC 4 jGy _ i ⟨x.nm,was.tg,was.bk,was.ow⟩ ⟨x.nm,x.tg,was.bk,was.ow⟩ (by rw[List.getElem?_set_self hl]) 1 (.string x.tg) (by omega) rfl,List.set_set] at h2
 have h3:=h2.1.stored (i*4+2) (.int .i64 x.bk)
 rw[jE0 obC 4 jGy _ i ⟨x.nm,x.tg,was.bk,was.ow⟩ ⟨x.nm,x.tg,x.bk,was.ow⟩ (by rw[List.getElem?_set_self hl]) 2 (.int .i64 x.bk) (by omega) rfl,List.set_set] at h3
 have h4:=h3.1.stored (i*4+3) (.int .i64 x.ow)
 rw[jE0 obC 4 jGy _ i ⟨x.nm,x.tg,x.bk,was.ow⟩ x (by rw[List.getElem?_set_self hl]) 3 (.int .i64 x.ow) (by omega) rfl,List.set_set] at h4
 exact ⟨h4.1,((h1.2.trans h2.2).trans h3.2).trans h4.2⟩
def copL (R:List Ob)(k:Nat):List Ob:=R.take k++List.replicate (R.length-k) zOb
theorem cop_len {R:List Ob}{k:Nat}(h:k<=R.length):(copL R k).length=R.length:=by unfold copL;simp;omega
theorem cop_get {R:List Ob}{k:Nat}(h:k<R.length):(copL R k)[k]?=some zOb:=by
 unfold copL
 rw[Qd (by simp;omega),List.length_take,show min k R.length=k by omega,Nat.sub_self,Qc,if_pos (by omega)]
theorem cop_set {R:List Ob}{k:Nat}{o:Ob}(h:R[k]?=some o):(copL R k).set k o=copL R (k+1):=by
 have hl:=jAy h
 unfold copL
 have e1:R.take (k+1)=R.take k++[o]:=by rw[List.take_add_one,h];rfl
 rw[List.set_append_right _ _ (by simp;omega),List.length_take,show min k R.length=k by omega,Nat.sub_self,show R.length-k=(R.length-(k+1))+1 by omega,List.replicate_succ,List.set_cons_zero,e1,List.append_assoc]
 rfl
theorem cop_full (R:List Ob):copL R R.length=R:=by unfold copL;simp
theorem told_any (w:World)(q:Nat)(F:List Nat)(nn:Nat)(S:Ps)(hL:Lay w q F nn S):Calls prog 53 #[.pointer (some ⟨q,0,none⟩)] w fun e w'=>∃ov qv,e=.returned (.agg #[ov,qv])/\w'.ownsRow w.heap.size 60 4 ov S.R.length (obsC S.R)/\w'.ownsRow w.heap.size 3 1 qv S.Q.length (nsC S.Q)/\Below w.heap.size w w':=by
 obtain ⟨rv,mv,oa,na,room,h,rfl,hI⟩:=hL
 obtain ⟨ar,cr,rfl⟩:=jBy hI.hr
 obtain ⟨i0,hi,hz0,hz1,hz2⟩:=info_parts infoOb
 obtain ⟨n,hn⟩:∃n,S.R.length=n:=⟨_,rfl⟩
 have hnb:n<=65600:=by have:=hI.lim;omega
 obtain ⟨W1,hW1,b1,k1⟩:=jA4 w #[.slice none 0 0,.slice none 0 0] 46
 have hmk:=run_make (P:=prog) W1 43 60 i0 _ underlying43 hi hz0 .i64 .i64 (n:Int) (n:Int) (by omega) (by omega) (by rw[hz2];omega) (by omega)
 rw[Int.toNat_natCast,hz1] at hmk
 have hcs:=jH8 obC 4 jGy (by decide) (.agg #[.string { data:=#[] },.string { data:=#[] },.int .i64 0,.int .i64 0]) zOb rfl n
 have hsz:=size_madeCells (Value.agg #[.string { data:=#[] },.string { data:=#[] },.int .i64 0,.int .i64 0]).cells (n*4)
 generalize madeCells (Value.agg #[.string { data:=#[] },.string { data:=#[] },.int .i64 0,.int .i64 0]).cells (n*4)=C at *
 obtain ⟨W2,hW2⟩:∃W,W1.alloc (.cells C 60)=W:=⟨_,rfl⟩
 have b2:Below w.heap.size w W2:=by rw[<-hW2];exact b1.alloc b1.size _
 have z1:W1.heap.size=w.heap.size+1:=by rw[<-hW1];simp
 have k2:W2.heap[W1.heap.size]?=some (.cells C 60 (0,0)):=by rw[<-hW2];exact jA2 _ _
 have k1':W2.heap[w.heap.size]?=some (.cells #[.slice none 0 0,.slice none 0 0] 46 (0,0)):=by rw[<-hW2];exact (QK _ _ _ (by omega)).trans k1
 have hO2:W2.ownsRow w.heap.size 60 4 (.slice (some ⟨W1.heap.size,0,none⟩) n n) n (obsC (copL S.R 0)):=by
  refine ⟨by rw[obsC_len,cop_len (by omega),hn],.inr ⟨W1.heap.size,n,C,rfl,by omega,k2,Qj _,by unfold maxLen;omega,by rw[hsz],?_⟩⟩
  rw[hcs]
  unfold copL obsC
  rw[List.take_zero,List.nil_append,Nat.sub_zero,hn]
  exact Qf (by rw[jEv obC 4 jGy,List.length_replicate];exact Qj _)
 have RL:Hid (∀V k,Below w.heap.size w V->V.heap[w.heap.size]?=some (.cells #[.slice none 0 0,.slice none 0 0] 46 (0,0))->V.ownsRow w.heap.size 60 4 (.slice (some ⟨W1.heap.size,0,none⟩) n n) n (obsC (copL S.R k))->k<n ->
  ∃g o,ar=some ⟨g,0,none⟩/\V.cell? ⟨g,k*5,none⟩=some (.string o.nm)/\V.cell? ⟨g,k*5+1,none⟩=some (.string o.tg)/\V.cell? ⟨g,k*5+2,none⟩=some (.int .i64 o.bk)/\V.cell? ⟨g,k*5+3,none⟩=some (.int .i64 o.ow)/\V.cell? ⟨g,k*5+4,none⟩=some (.bool (decide (k∈S.Q))) /\
  ∃U,V.alloc (.cells #[.string o.nm,.string o.tg,.int .i64 o.bk,.int .i64 o.ow,.bool (decide (k∈S.Q))] 166)=U/\U.cell? ⟨V.heap.size,0,none⟩=some (.string o.nm)/\U.cell? ⟨V.heap.size,1,none⟩=some (.string o.tg)/\U.cell? ⟨V.heap.size,2,none⟩=some (.int .i64 o.bk)/\U.cell? ⟨V.heap.size,3,none⟩=some (.int .i64 o.ow) /\
  (∃x0 x1 x2 x3,U.cell? ⟨W1.heap.size,k*4,none⟩=some (.string x0)/\U.cell? ⟨W1.heap.size,k*4+1,none⟩=some (.string x1)/\U.cell? ⟨W1.heap.size,k*4+2,none⟩=some (.int .i64 x2)/\U.cell? ⟨W1.heap.size,k*4+3,none⟩=some (.int .i64 x3))/\(∀j,U.frozen? ⟨W1.heap.size,j,none⟩=false) /\
  Hid (Below w.heap.size w (put4 U W1.heap.size (k*4) o)/\(put4 U W1.heap.size (k*4) o).heap[w.heap.size]?=some (.cells #[.slice none 0 0,.slice none 0 0] 46 (0,0))/\(put4 U W1.heap.size (k*4) o).ownsRow w.heap.size 60 4 (.slice (some ⟨W1.heap.size,0,none⟩) n n) n (obsC (copL S.R (k+1))))):=fun V k hb hq ho hk=>by
  have hk':k<S.R.length:=by omega
  obtain ⟨o,hko⟩:∃o,S.R[k]?=some o:=⟨_,Qv hk'⟩
  have hIV:=hI.below hb
  obtain ⟨g,cap,he⟩:=hIV.form hko
  injection he with he1 _ he2
  subst he1 he2
  obtain ⟨r0,r1,r2,r3,r4⟩:=hIV.row hko
  obtain ⟨U,hU,hbU,kU⟩:=jA4 V #[.string o.nm,.string o.tg,.int .i64 o.bk,.int .i64 o.ow,.bool (decide (k∈S.Q))] 166
  have hoU:=jA7 ho hbU
  have hc:=fun j (hj:j<4)=>(hoU.cellAt (k*4+j) (by omega)).trans (jDz obC 4 jGy (copL S.R k) k _ (cop_get hk') j hj)
  obtain ⟨hp,gp⟩:=obs_put hoU (cop_get hk') o
  rw[cop_set hko] at hp
  refine ⟨g,o,rfl,r0,r1,r2,r3,r4,U,hU,(jAj kU).trans rfl,(jAj kU).trans rfl,(jAj kU).trans rfl,(jAj kU).trans rfl,⟨_,_,_,_,hc 0 (by omega),hc 1 (by omega),hc 2 (by omega),hc 3 (by omega)⟩,fun j=>hoU.frozenAt j,(hb.trans (hbU.mono hb.size)).trans (jI1 (v:=.slice (some ⟨W1.heap.size,0,none⟩) n n) gp (Qk hb.size hbU.size) hoU),?_,hp⟩
  rw[gp.block w.heap.size (by have:=jAv hq;have:=hbU.size;omega) (fun e=>by injection e with e;omega)]
  exact (hbU.block _ (jAv hq)).trans hq
 have HL:Hid (∀V,Below w.heap.size w V->Calls prog 78 #[.pointer (some ⟨q,4,none⟩)] V fun e w'=>∃v,e=.returned v/\w'.ownsRow V.heap.size 3 1 v S.Q.length (nsC S.Q)/\Below V.heap.size V w'):=fun V hb=>by
  have x:=hI.below hb
  obtain ⟨-,-,-,-,c4,c5,c6⟩:=x.cells
  exact jMx V q h mv room S.Q c4 c5 c6 x.hm x.rg x.rl
 have cq:Hid (∀V,Below w.heap.size w V->V.cell? ⟨q,1,none⟩=some (.slice ar n cr)):=fun V hb=>by rw[<-hn];exact (hI.below hb).cells.2.1
 have HCF:Hid (copL S.R n=S.R):=by rw[<-hn];exact cop_full _
 have q2:=cq.out W2 b2
 have q1:=cq.out W1 b1
 rw[hn] at *
 generalize W1.heap.size=g1 at *
 clear hi hz0 hz1 hz2 hcs hsz hI b1 k1 z1 k2
 go_enter func53,ntmps53
 go_wp2
 go_loopg [17] n (fun gk i wr=>∃k:Nat,gk=n-k/\k<=n/\i=.int .i64 (k:Int)/\Below w.heap.size w wr/\wr.heap[w.heap.size]?=some (.cells #[.slice none 0 0,.slice none 0 0] 46 (0,0))/\wr.ownsRow w.heap.size 60 4 (.slice (some ⟨g1,0,none⟩) n n) n (obsC (copL S.R k)))
 case atStart=>exact ⟨0,by omega,by omega,rfl,b2,k1',hO2⟩
 case round =>
  clear hO2 b2 k1' hmk hW1 hW2 q1 q2
  obtain ⟨k,hgk,hkn,rfl,hb,hk1,hO⟩:=hrel
  by_cases hk:k<n
  ·have hkI:(k:Int)<(n:Int):=by omega
   obtain ⟨g,o,rfl,r0,r1,r2,r3,r4,U,hU,u0,u1,u2,u3,⟨x0,x1,x2,x3,y0,y1,y2,y3⟩,fz,HP⟩:=RL.out wr k hb hk1 hO hk
   have f0:=fz (k*4)
   have f1:=fz (k*4+1)
   have f2:=fz (k*4+2)
   have f3:=fz (k*4+3)
   have w1:IntKind.i64.wrap ((k:Int)+1)=((k+1:Nat):Int):=by rw[QX];omega
   generalize decide (k∈S.Q)=bq at *
   obtain ⟨nm,tg,bk,ow⟩:=o
   dsimp only at *
   clear hb hk1 hO RL HL cq fz
   go_wp2
   go_roundg (n-(k+1))
   case measure=>omega
   case rel=>exact ⟨k+1,rfl,by omega,rfl,HP.out⟩
  ·obtain rfl:k=n:=by omega
   have hkI:¬(k:Int)<(k:Int):=by omega
   have hls:=HL.out wr hb
   have HE:Hid (∀w5 v,w5.ownsRow wr.heap.size 3 1 v S.Q.length (nsC S.Q)->Below wr.heap.size wr w5->∃av cv,v=.slice av S.Q.length cv/\w5.cell? ⟨w.heap.size,0,none⟩=some (.slice none 0 0)/\w5.cell? ⟨w.heap.size,1,none⟩=some (.slice none 0 0)/\w5.frozen? ⟨w.heap.size,0,none⟩=false/\w5.frozen? ⟨w.heap.size,1,none⟩=false/\Hid (w5.heap[w.heap.size]?=some (.cells #[.slice none 0 0,.slice none 0 0] 46 (0,0))) /\
    Hid (∀a b,((w5.setCell ⟨w.heap.size,0,none⟩ a).setCell ⟨w.heap.size,1,none⟩ b).ownsRow w.heap.size 60 4 (.slice (some ⟨g1,0,none⟩) k k) k (obsC S.R)/\((w5.setCell ⟨w.heap.size,0,none⟩ a).setCell ⟨w.heap.size,1,none⟩ b).ownsRow w.heap.size 3 1 v S.Q.length (nsC S.Q)/\Below w.heap.size w ((w5.setCell ⟨w.heap.size,0,none⟩ a).setCell ⟨w.heap.size,1,none⟩ b))):=fun w5 v ho5 hb5=>by
    obtain ⟨av,cv,rfl⟩:=jBy ho5
    have hk5:=(hb5.block _ (jAv hk1)).trans hk1
    refine ⟨av,cv,rfl,(jAj hk5).trans rfl,(jAj hk5).trans rfl,jAq hk5,jAq hk5,hk5,fun a b=>⟨?_,?_,?_⟩⟩
    ·have hO':wr.ownsRow w.heap.size 60 4 (.slice (some ⟨g1,0,none⟩) k k) k (obsC S.R):=by
      have:=hO
      rw[HCF.out] at this
      exact this
     refine jA0 (jA7 hO' hb5) fun g hg=>?_
     obtain ⟨cur,hcur⟩:=jA1 (jA7 hO hb5) hg
     have hne:g≠w.heap.size:=fun e=>by
      rw[e,hk5] at hcur
      injection hcur with hcur
      injection hcur with _ hcur _
      cases hcur
     exact (Qy _ _ _ _ hne).trans (Qy _ _ _ _ hne)
    ·refine jA0 (jB1 ho5 hb.size) fun g hg=>?_
     have hne:g≠w.heap.size:=fun e=>by
      have:=(ho5.lt g hg).1
      have:=jAv hk1
      omega
     exact (Qy _ _ _ _ hne).trans (Qy _ _ _ _ hne)
    ·exact (((hb.trans (hb5.mono hb.size)).setCell (Qj _) _).setCell (Qj _) _)
   clear hb hk1 hO RL HL cq
   go_wp2_with fail
   refine hls.mono ?_
   rintro e w5 ⟨v,rfl,ho5,hb5⟩
   obtain ⟨av,cv,rfl,d0,d1,f0,f1,HK5,HE5⟩:=HE.out w5 v ho5 hb5
   clear ho5 hb5 HE hls
   go_wp2
   refine Qw (Tr.jB9 rfl _ _ w.heap.size 46 _ (0,0) _ rfl (Tr.put2A HK5.out) underlying46 rfl sizePs) rfl ?_
   obtain ⟨h1,h2,h3⟩:=HE5.out (.slice (some ⟨g1,0,none⟩) k k) (.slice av S.Q.length cv)
   exact ⟨_,_,rfl,h1,h2,h3⟩
theorem jH9 (w:World)(pb q:Nat)(F:List Nat)(nn:Nat)(S:Ps)(hK:Ok w pb q F nn S):Calls prog 26 #[.pointer (some ⟨pb,0,none⟩)] w fun e w'=>∃ov qv,e=.returned (.agg #[ov,qv])/\w'.ownsRow w.heap.size 60 4 ov S.R.length (obsC S.R)/\w'.ownsRow w.heap.size 3 1 qv S.Q.length (nsC S.Q)/\Below w.heap.size w w':=by
 obtain ⟨V,hV,hb,k0⟩:=jA4 w #[.slice none 0 0,.slice none 0 0] 46
 have c0:=(hK.top.below hb).cell
 have hm:=jHz V pb q c0
 have ht:=told_any V q F nn S (hK.lay.below hb)
 have HE:Hid (∀w5 ov qv,w5.ownsRow V.heap.size 60 4 ov S.R.length (obsC S.R)->w5.ownsRow V.heap.size 3 1 qv S.Q.length (nsC S.Q)->Below V.heap.size V w5->∃a1 c1 a2 c2,ov=.slice a1 S.R.length c1/\qv=.slice a2 S.Q.length c2/\w5.cell? ⟨w.heap.size,0,none⟩=some (.slice none 0 0)/\w5.cell? ⟨w.heap.size,1,none⟩=some (.slice none 0 0)/\w5.frozen? ⟨w.heap.size,0,none⟩=false/\w5.frozen? ⟨w.heap.size,1,none⟩=false/\Hid (w5.heap[w.heap.size]?=some (.cells #[.slice none 0 0,.slice none 0 0] 46 (0,0))) /\
  Hid (∀a b,((w5.setCell ⟨w.heap.size,0,none⟩ a).setCell ⟨w.heap.size,1,none⟩ b).ownsRow w.heap.size 60 4 ov S.R.length (obsC S.R)/\((w5.setCell ⟨w.heap.size,0,none⟩ a).setCell ⟨w.heap.size,1,none⟩ b).ownsRow w.heap.size 3 1 qv S.Q.length (nsC S.Q)/\Below w.heap.size w ((w5.setCell ⟨w.heap.size,0,none⟩ a).setCell ⟨w.heap.size,1,none⟩ b))):=fun w5 ov qv h1 h2 hb5=>by
  obtain ⟨a1,c1,rfl⟩:=jBy h1
  obtain ⟨a2,c2,rfl⟩:=jBy h2
  have hk5:=(hb5.block _ (jAv k0)).trans k0
  have lt:=jAv k0
  refine ⟨a1,c1,a2,c2,rfl,rfl,(jAj hk5).trans rfl,(jAj hk5).trans rfl,jAq hk5,jAq hk5,hk5,fun a b=>⟨?_,?_,((hb.trans (hb5.mono hb.size)).setCell (Qj _) _).setCell (Qj _) _⟩⟩
  ·refine jA0 (jB1 h1 hb.size) fun g hg=>?_
   have hne:g≠w.heap.size:=fun e=>by have:=(h1.lt g hg).1;omega
   exact (Qy _ _ _ _ hne).trans (Qy _ _ _ _ hne)
  ·refine jA0 (jB1 h2 hb.size) fun g hg=>?_
   have hne:g≠w.heap.size:=fun e=>by have:=(h2.lt g hg).1;omega
   exact (Qy _ _ _ _ hne).trans (Qy _ _ _ _ hne)
 clear hb k0 hK
 go_enter func26,ntmps26
 go_wp2_with (first
  | (go_at_call 53;refine ht.mono ?_;rintro e w5 ⟨ov,qv,rfl,h1,h2,hb5⟩;obtain ⟨a1,e1,a2,e2,rfl,rfl,d0,d1,f0,f1,HK5,HE5⟩:=HE.out w5 ov qv h1 h2 hb5;clear h1 h2 hb5 HE)
  | (go_at_call 52;refine hm.mono ?_;rintro e w2 ⟨rfl,e2⟩;obtain rfl:=e2.symm))
 refine Qw (Tr.jB9 rfl _ _ w.heap.size 46 _ (0,0) _ rfl (Tr.put2A HK5.out) underlying46 rfl sizePs) rfl ?_
 obtain ⟨h1,h2,h3⟩:=HE5.out (.slice a1 S.R.length e1) (.slice a2 S.Q.length e2)
 exact ⟨_,_,rfl,h1,h2,h3⟩
theorem popped {S:Ps}(hG:Good S){a:Nat}{Q:List Nat}(hq:S.Q=a :: Q):∃o,S.R[a]?=some o/\o.ow=-1/\rowN (popS S) (a:Int)/\jC9 (popS S) (a:Int)=o/\outL (popS S) (a:Int)=true:=by
 obtain ⟨o,h1,h2⟩:=hG.qd a (by rw[hq];simp)
 have hl:=jAy h1
 have e1:jC9 (popS S) (a:Int)=o:=by
  unfold jC9 popS
  rw[Int.toNat_natCast,h1]
  rfl
 refine ⟨o,h1,h2,⟨by omega,by show (a:Int)<(S.R.length:Int);omega⟩,e1,jHy.2 ⟨by rw[e1];exact h2,?_⟩⟩
 rw[Int.toNat_natCast]
 show a ∉ S.Q.tail
 rw[hq]
 have:=hG.qn
 rw[hq] at this
 exact (List.nodup_cons.1 this).1
theorem obsC_one (l:List Ob):∀u∈obsC l,u.oneCell'=true:=fun u hu=>by
 unfold obsC at hu
 obtain ⟨o,_,hu⟩:=List.mem_flatMap.1 hu
 simp only[obC,List.mem_cons,List.not_mem_nil,or_false] at hu
 rcases hu with rfl | rfl | rfl | rfl <;> rfl
theorem See.ob {w:World}{a:Option Addr}{n c:Nat}{A:List Ob}(h:See w 4 (.slice a n c) n (obsC A)){i:Nat}{o:Ob}(hi:A[i]?=some o)(hl:A.length=n):∃b off,a=some ⟨b,off,none⟩/\w.cell? ⟨b,off+i*4,none⟩=some (.string o.nm)/\w.cell? ⟨b,off+i*4+1,none⟩=some (.string o.tg)/\w.cell? ⟨b,off+i*4+2,none⟩=some (.int .i64 o.bk)/\w.cell? ⟨b,off+i*4+3,none⟩=some (.int .i64 o.ow):=by
 have hlt:=jAy hi
 obtain ⟨_,_,a',c',e,_,_,h4⟩:=h
 injection e with e1 _ _
 subst e1
 obtain ⟨b,off,rfl,_,hc⟩:=h4 (by omega)
 have hx:=fun j (hj:j<4)=>jDz obC 4 jGy A i o hi j hj
 refine ⟨b,off,rfl,?_,?_,?_,?_⟩
 ·exact hc _ _ ((hx 0 (by omega)).trans rfl)
 ·rw[Nat.add_assoc];exact hc _ _ ((hx 1 (by omega)).trans rfl)
 ·rw[Nat.add_assoc];exact hc _ _ ((hx 2 (by omega)).trans rfl)
 ·rw[Nat.add_assoc];exact hc _ _ ((hx 3 (by omega)).trans rfl)
def zsC (l:List Int):List Value:=l.map fun z=>Value.int .i64 z
theorem nsC_zs (l:List Nat):nsC l=zsC (l.map fun (n:Nat)=>(n:Int)):=by unfold nsC zsC;rw[List.map_map];rfl
theorem See.z {w:World}{a:Option Addr}{n c:Nat}{A:List Int}(h:See w 1 (.slice a n c) n (zsC A)){i:Nat}{z:Int}(hi:A[i]?=some z)(hl:A.length=n):∃b off,a=some ⟨b,off,none⟩/\w.cell? ⟨b,off+i,none⟩=some (.int .i64 z):=by
 have hlt:=jAy hi
 obtain ⟨_,_,a',c',e,_,_,h4⟩:=h
 injection e with e1 _ _
 subst e1
 obtain ⟨b,off,rfl,_,hc⟩:=h4 (by omega)
 exact ⟨b,off,rfl,hc i _ (by unfold zsC;rw[List.getElem?_map,hi];rfl)⟩
structure Sd (w:World)(v:Value)(R:List Ob)(Z:List Int):Prop where
 ex:∃ov qv,v=.agg #[ov,qv]/\See w 4 ov R.length (obsC R)/\See w 1 qv Z.length (zsC Z)
theorem Sd.below {w W:World}{v:Value}{R:List Ob}{Z:List Int}(h:Sd w v R Z)(hb:Below w.heap.size w W):Sd W v R Z:=by
 obtain ⟨ov,qv,e,h1,h2⟩:=h.ex
 exact ⟨ov,qv,e,h1.below hb,h2.below hb⟩
theorem foundI_any (w:World)(m nn:Nat)(D:DataW Unit)(f:Int->Option Nat)(hm:w.ownsMap prog 3 intR m nn D)(hT:Tab litI D f)(k:Int)(i:Nat)(hk:(Lit.int .i64 k).wf=true)(hf:f k=some i)(x:Int):Calls prog 197 #[.map (some m),.int .i64 k,.int .i64 x] w fun e w'=>e=.returned (.tuple #[.int .i64 (i:Int),.int .i64 0])/\w'=w:=by
 have hl:=look_ok (t:=113) hm hT keyI underlying113 (keyI_mk hk)
 rw[hf] at hl
 simp only[Option.isSome_some,Option.getD_some] at hl
 clear hm hT hk hf
 go_enter func197,ntmps197
 go_wp2
 go_ret2
 exact ⟨rfl,rfl⟩
theorem byOwner_any (w:World)(pb q:Nat)(F:List Nat)(nn:Nat)(S:Ps)(hK:Ok w pb q F nn S)(i:Nat)(o:Ob)(hi:S.R[i]?=some o)(ho:0<=o.ow):Calls prog 155 #[.pointer (some ⟨pb,0,none⟩),.int .i64 o.ow] w fun e w'=>e=.returned (.tuple #[.int .i64 (i:Int),.int .i64 0])/\w'=w:=by
 have c0:=hK.top.cell
 have hm:=jHz w pb q c0
 have hfi:=jK9 w q F nn S o.ow hK.lay
 have hst:=hK.good.st i o hi
 rw[show decide (jF7 S o.ow)=true from QQ ⟨ho,hst.2.2⟩] at hfi
 obtain ⟨rv,mv,oa,na,room,h,rfl,hI⟩:=hK.lay
 obtain ⟨D,f,h1,h2,h3⟩:=hI.ho
 have hf:=foundI_any w oa nn D f h1 h2 o.ow i (wf_ow (hK.good.ow hi)) ((h3 _ _).2 ⟨by omega,o,hi,rfl⟩) 132
 obtain ⟨-,-,c2,-⟩:=hI.cells
 clear hI h1 h2 h3 hst hi hK
 go_enter func155,ntmps155
 go_wp2_with (first
  | (go_at_call 52;refine hm.mono ?_;rintro e w2 ⟨rfl,e2⟩;obtain rfl:=e2.symm)
  | (go_at_call 179;refine hfi.mono ?_;rintro e w2 ⟨rfl,e2⟩;obtain rfl:=e2.symm)
  | (go_at_call 197;refine hf.mono ?_;rintro e w2 ⟨rfl,e2⟩;obtain rfl:=e2.symm))
 go_ret2
 exact ⟨rfl,rfl⟩
def mayS (S:Ps)(i:Nat)(o:Ob):Prop:=(o.ow=-1\/(jF7 S o.ow/\jD7 S.R o.ow=false))/\stored o/\jJj S.R o.nm i=false
instance (S:Ps)(i:Nat)(o:Ob):Decidable (mayS S i o):=by unfold mayS;infer_instance
def SK (f:Nat)(R:List Ob)(k:Nat):Ps:=⟨f,R.take k++List.replicate (R.length-k) dOb,[]⟩
def SQ (f:Nat)(R:List Ob)(Z:List Int)(k:Nat):Ps:=⟨f,R,(Z.take k).map Int.toNat⟩
def cntO (R:List Ob):Nat:=(R.filter fun o=>decide (o.ow≠-1)).length
structure Fits (f:Nat)(R:List Ob)(Z:List Int):Prop where
 rows:∀(k:Nat) o,R[k]?=some o->mayS (SK f R k) k o
 queue:∀(k:Nat) z,Z[k]?=some z->rowN (SQ f R Z k) z/\outL (SQ f R Z k) z=true
 all:Z.length+cntO R=R.length
theorem sk_len {f:Nat}{R:List Ob}{k:Nat}(h:k<=R.length):(SK f R k).R.length=R.length:=by unfold SK;simp;omega
theorem sk_get {f:Nat}{R:List Ob}{k:Nat}(h:k<R.length):(SK f R k).R[k]?=some dOb:=by
 unfold SK
 show (R.take k++List.replicate (R.length-k) dOb)[k]?=_
 rw[Qd (by simp;omega),List.length_take,show min k R.length=k by omega,Nat.sub_self,Qc,if_pos (by omega)]
theorem sk_put {f:Nat}{R:List Ob}{k:Nat}{o:Ob}(h:R[k]?=some o):putP (SK f R k) k o=SK f R (k+1):=by
 have hl:=jAy h
 unfold putP SK
 simp only[Ps.mk.injEq,true_and,and_true]
 have e1:R.take (k+1)=R.take k++[o]:=by rw[List.take_add_one,h];rfl
 rw[List.set_append_right _ _ (by simp;omega),List.length_take,show min k R.length=k by omega,Nat.sub_self,show R.length-k=(R.length-(k+1))+1 by omega,List.replicate_succ,List.set_cons_zero,e1,List.append_assoc]
 rfl
theorem sk_full (f:Nat)(R:List Ob):SK f R R.length=⟨f,R,[]⟩:=by unfold SK;simp
theorem sk_zero (f s:Nat)(R:List Ob)(h:R.length=f+s):SK f R 0=jD9 f s:=by unfold SK jD9;simp[h]
theorem may_good {S:Ps}(hG:Good S){i:Nat}{was o:Ob}(hi:S.R[i]?=some was)(hq:S.Q=[])(h:mayS S i o):Good (putP S i o):=by
 obtain ⟨h1,h2,h3⟩:=h
 have hb:-1<=o.ow/\o.ow<(S.fl:Int):=by
  have:=hG.fl
  rcases h1 with h1 | ⟨⟨h4,h5⟩,_⟩
  ·omega
  ·omega
 refine good_put hG hi h2 hb.1 hb.2 (fun e j x _ hx=>?_) (fun e j x hj hx=>other_no h3 e j x hj hx) (fun hm=>by rw[hq] at hm;cases hm)
 rcases h1 with h1 | ⟨_,h4⟩
 ·exact absurd h1 e
 ·exact held_no h4 j x hx
theorem sq_succ {f:Nat}{R:List Ob}{Z:List Int}{k:Nat}{z:Int}(h:Z[k]?=some z):jL6 (SQ f R Z k) z.toNat=SQ f R Z (k+1):=by
 unfold jL6 SQ
 simp only[Ps.mk.injEq,true_and]
 rw[List.take_add_one,h]
 simp
theorem jG8 {α:Type}[DecidableEq α]:∀(a b:List α),a.Nodup->(∀x,x∈a->x∈b)->a.length<=b.length
 | [],b,_,_=>Kj _
 | x :: a,b,hn,h=>by
   have hx:=h x (by simp)
   have hn2:=List.nodup_cons.1 hn
   have ih:=jG8 a (b.erase x) hn2.2 (fun y hy=>(List.mem_erase_of_ne (fun (e:y=x)=>hn2.1 (by rw[<-e];exact hy))).2 (h y (by simp[hy])))
   rw[List.length_erase_of_mem hx] at ih
   have:=List.length_pos_of_mem hx
   simp only[List.length_cons]
   omega
def litInt:Lit->Int
 | .int _ a=>a
 | _=>0
theorem keyOf_int_inv {v:Value}{l:Lit}(h:keyOf prog 3 v=some l):∃a,l=.int .i64 a:=by
 have e:keyOf prog 3 v=mapKey prog 3 v:=by simp[keyOf,underlying3]
 rw[e] at h
 cases v <;> simp[mapKey,underlying3] at h
 exact ⟨_,h.2.symm⟩
theorem jJ5:∀(R:List Ob),(∀(i j:Nat) o o',R[i]?=some o->R[j]?=some o'->o.ow=o'.ow->o.ow≠-1->i=j)->((R.filter fun o=>decide (o.ow≠-1)).map Ob.ow).Nodup
 | [],_=>List.nodup_nil
 | o :: R,h=>by
   have ih:=jJ5 R (fun i j a b ha hb e e1=>by
    have:=h (i+1) (j+1) a b (by simpa using ha) (by simpa using hb) e e1
    omega)
   by_cases e:o.ow=-1
   ·rw[List.filter_cons_of_neg (by simp[e])]
    exact ih
   ·rw[List.filter_cons_of_pos (by simp[e]),List.map_cons,List.nodup_cons]
    refine ⟨fun hm=>?_,ih⟩
    obtain ⟨x,hx,he⟩:=List.mem_map.1 hm
    obtain ⟨j,hj⟩:=List.mem_iff_getElem?.1 (List.mem_filter.1 hx).1
    have:=h 0 (j+1) o x rfl (by simpa using hj) he.symm e
    omega
theorem size_own {w:World}{m nn:Nat}{D:DataW Unit}{f:Int->Option Nat}{R:List Ob}(h:w.ownsMap prog 3 intR m nn D)(hT:Tab litI D f)(hI:Is Ob.ow (-1) R f):Maps.size D=cntO R:=by
 obtain ⟨es,hD,hpw,_⟩:=h.entries keyI
 obtain ⟨es',hD',hko⟩:=h.keysOf
 obtain rfl:es=es':=by rw[hD] at hD';simpa using hD'
 subst hD
 have hk:∀p∈es,∃x,p.1=litI x:=fun p hp=>by
  obtain ⟨v,hv⟩:=hko p hp
  exact keyOf_int_inv hv
 have hn1:(es.map fun p=>litInt p.1).Nodup:=by
  refine List.pairwise_map.2 (hpw.imp_of_mem fun {p q} hp hq hne e=>hne ?_)
  obtain ⟨a,ha⟩:=hk p hp
  obtain ⟨b,hb⟩:=hk q hq
  rw[ha,hb] at e ⊢
  simp only[litI,litInt] at e
  rw[e]
 have hmem:∀x,x∈(es.map fun p=>litInt p.1)↔(f x).isSome=true:=fun x=>by
  rw[<-hT.has x]
  show x∈(es.map fun p=>litInt p.1)↔(es.any fun p=>p.1.sameKey (litI x))=true
  rw[List.mem_map,List.any_eq_true]
  constructor
  ·rintro ⟨p,hp',rfl⟩
   obtain ⟨a,ha⟩:=hk p hp'
   exact ⟨p,hp',by rw[ha];simp[Lit.sameKey,litI,litInt]⟩
  ·rintro ⟨p,hp',hs⟩
   obtain ⟨a,ha⟩:=hk p hp'
   rw[ha] at hs
   exact ⟨p,hp',by rw[ha];simpa[Lit.sameKey,litI,litInt] using hs⟩
 have hn2:=jJ5 R (fun i j o o' hi hj e e1=>by
  have a:=(hI o.ow i).2 ⟨e1,o,hi,rfl⟩
  have b:=(hI o.ow j).2 ⟨e1,o',hj,e.symm⟩
  rw[a] at b
  exact QW b)
 have hm2:∀x,x∈((R.filter fun o=>decide (o.ow≠-1)).map Ob.ow)↔(f x).isSome=true:=fun x=>by
  rw[List.mem_map]
  constructor
  ·rintro ⟨o,ho,rfl⟩
   obtain ⟨h1,h2⟩:=List.mem_filter.1 ho
   obtain ⟨i,hi⟩:=List.mem_iff_getElem?.1 h1
   rw[(hI o.ow i).2 ⟨Qg h2,o,hi,rfl⟩]
   rfl
  ·intro hs
   obtain ⟨i,hi⟩:=Option.isSome_iff_exists.1 hs
   obtain ⟨h1,o,h2,h3⟩:=(hI x i).1 hi
   exact ⟨o,List.mem_filter.2 ⟨List.mem_iff_getElem?.2 ⟨i,h2⟩,by simp[h3,h1]⟩,h3⟩
 have l1:=jG8 _ _ hn1 (fun x hx=>(hm2 x).2 ((hmem x).1 hx))
 have l2:=jG8 _ _ hn2 (fun x hx=>(hmem x).2 ((hm2 x).1 hx))
 unfold cntO
 show es.length=_
 simp only[List.length_map] at l1 l2
 omega
theorem mayLie_any (w:World)(q:Nat)(F:List Nat)(nn:Nat)(S:Ps)(i:Nat)(o:Ob)(hL:Lay w q F nn S)(hn:o.nm.size<=maxLen)(ht:o.tg.size<=maxLen):Calls prog 147 #[.pointer (some ⟨q,0,none⟩),.int .i64 (i:Int),obV o] w fun e w'=>e=.returned (.bool (decide (mayS S i o)))/\Below w.heap.size w w':=by
 obtain ⟨V,hV,hb,k0⟩:=jA4 w #[.string o.nm,.string o.tg,.int .i64 o.bk,.int .i64 o.ow] 60
 have x0:V.cell? ⟨w.heap.size,0,none⟩=some (.string o.nm):=(jAj k0).trans rfl
 have x1:V.cell? ⟨w.heap.size,1,none⟩=some (.string o.tg):=(jAj k0).trans rfl
 have x2:V.cell? ⟨w.heap.size,2,none⟩=some (.int .i64 o.bk):=(jAj k0).trans rfl
 have x3:V.cell? ⟨w.heap.size,3,none⟩=some (.int .i64 o.ow):=(jAj k0).trans rfl
 have hfi:=jK9 V q F nn S o.ow (hL.below hb)
 have hst:=isStored_any o hn ht V
 have HH:Hid (∀W,Below V.heap.size V W->Hid (Below w.heap.size w W)/\W.cell? ⟨w.heap.size,0,none⟩=some (.string o.nm)/\Calls prog 182 #[.pointer (some ⟨q,0,none⟩),.string o.nm,.int .i64 (i:Int)] W fun e w'=>e=.returned (.bool (jJj S.R o.nm i))/\w'=W):=fun W hbW=>⟨hb.trans (hbW.mono hb.size),(jAj ((hbW.block _ (jAv k0)).trans k0)).trans rfl,isOther_any W q F nn S o.nm i ((hL.below hb).below hbW) hn⟩
 have HBV:Hid (Below w.heap.size w V):=hb
 have hHe:=fun (hf:jF7 S o.ow)=>isHeld_any V q F nn S o.ow (hL.below hb) hf
 unfold obV at *
 clear hb k0 hn ht hL
 by_cases h1:o.ow=-1
 ·clear hfi hHe
  by_cases h3:stored o
  ·rw[show decide (stored o)=true from QQ h3] at hst
   cases h4:jJj S.R o.nm i with
   | false =>
     rw[show decide (mayS S i o)=true from QQ ⟨.inl h1,h3,h4⟩]
     simp only[h4] at HH
     obtain ⟨nm,tg,bk,ow⟩:=o
     dsimp only at *
     subst h1
     clear h3
     go_enter func147,ntmps147
     go_wp2_with (first
      | (go_at_call 181;refine hst.mono ?_;rintro e w3 ⟨rfl,hb3⟩;obtain ⟨HB3,y0,hot⟩:=HH.out w3 hb3;clear hb3 HH)
      | (go_at_call 182;refine hot.mono ?_;rintro e w2 ⟨rfl,e2⟩;obtain rfl:=e2.symm))
     go_ret
     exact ⟨rfl,HB3.out⟩
   | true =>
     rw[show decide (mayS S i o)=false from QY (fun x=>by have:=x.2.2;rw[h4] at this;cases this)]
     simp only[h4] at HH
     obtain ⟨nm,tg,bk,ow⟩:=o
     dsimp only at *
     subst h1
     clear h3
     go_enter func147,ntmps147
     go_wp2_with (first
      | (go_at_call 181;refine hst.mono ?_;rintro e w3 ⟨rfl,hb3⟩;obtain ⟨HB3,y0,hot⟩:=HH.out w3 hb3;clear hb3 HH)
      | (go_at_call 182;refine hot.mono ?_;rintro e w2 ⟨rfl,e2⟩;obtain rfl:=e2.symm))
     go_ret
     exact ⟨rfl,HB3.out⟩
  ·rw[show decide (stored o)=false from QY h3] at hst
   rw[show decide (mayS S i o)=false from QY (fun x=>h3 x.2.1)]
   obtain ⟨nm,tg,bk,ow⟩:=o
   dsimp only at *
   subst h1
   clear h3
   go_enter func147,ntmps147
   go_wp2_with (first
    | (go_at_call 181;refine hst.mono ?_;rintro e w3 ⟨rfl,hb3⟩;obtain ⟨HB3,y0,hot⟩:=HH.out w3 hb3;clear hb3 HH))
   go_ret
   exact ⟨rfl,HB3.out⟩
 ·have h1':(o.ow == -1)=false:=beq_false_of_ne h1
  by_cases h2:jF7 S o.ow
  ·rw[show decide (jF7 S o.ow)=true from QQ h2] at hfi
   have hhe:=hHe h2
   cases h5:jD7 S.R o.ow with
   | false =>
     rw[h5] at hhe
     by_cases h3:stored o
     ·rw[show decide (stored o)=true from QQ h3] at hst
      cases h4:jJj S.R o.nm i with
      | false =>
        rw[show decide (mayS S i o)=true from QQ ⟨.inr ⟨h2,h5⟩,h3,h4⟩]
        simp only[h4] at HH
        clear hHe h2 h3 h5 h1
        obtain ⟨nm,tg,bk,ow⟩:=o
        dsimp only at *
        go_enter func147,ntmps147
        go_wp2_with (first
         | (go_at_call 179;refine hfi.mono ?_;rintro e w2 ⟨rfl,e2⟩;obtain rfl:=e2.symm)
         | (go_at_call 180;refine hhe.mono ?_;rintro e w2 ⟨rfl,e2⟩;obtain rfl:=e2.symm)
         | (go_at_call 181;refine hst.mono ?_;rintro e w3 ⟨rfl,hb3⟩;obtain ⟨HB3,y0,hot⟩:=HH.out w3 hb3;clear hb3 HH)
         | (go_at_call 182;refine hot.mono ?_;rintro e w2 ⟨rfl,e2⟩;obtain rfl:=e2.symm))
        go_ret
        exact ⟨rfl,HB3.out⟩
      | true =>
        rw[show decide (mayS S i o)=false from QY (fun x=>by have:=x.2.2;rw[h4] at this;cases this)]
        simp only[h4] at HH
        clear hHe h2 h3 h5 h1
        obtain ⟨nm,tg,bk,ow⟩:=o
        dsimp only at *
        go_enter func147,ntmps147
        go_wp2_with (first
         | (go_at_call 179;refine hfi.mono ?_;rintro e w2 ⟨rfl,e2⟩;obtain rfl:=e2.symm)
         | (go_at_call 180;refine hhe.mono ?_;rintro e w2 ⟨rfl,e2⟩;obtain rfl:=e2.symm)
         | (go_at_call 181;refine hst.mono ?_;rintro e w3 ⟨rfl,hb3⟩;obtain ⟨HB3,y0,hot⟩:=HH.out w3 hb3;clear hb3 HH)
         | (go_at_call 182;refine hot.mono ?_;rintro e w2 ⟨rfl,e2⟩;obtain rfl:=e2.symm))
        go_ret
        exact ⟨rfl,HB3.out⟩
     ·rw[show decide (stored o)=false from QY h3] at hst
      rw[show decide (mayS S i o)=false from QY (fun x=>h3 x.2.1)]
      clear hHe h2 h3 h5 h1
      obtain ⟨nm,tg,bk,ow⟩:=o
      dsimp only at *
      go_enter func147,ntmps147
      go_wp2_with (first
       | (go_at_call 179;refine hfi.mono ?_;rintro e w2 ⟨rfl,e2⟩;obtain rfl:=e2.symm)
       | (go_at_call 180;refine hhe.mono ?_;rintro e w2 ⟨rfl,e2⟩;obtain rfl:=e2.symm)
       | (go_at_call 181;refine hst.mono ?_;rintro e w3 ⟨rfl,hb3⟩;obtain ⟨HB3,y0,hot⟩:=HH.out w3 hb3;clear hb3 HH))
      go_ret
      exact ⟨rfl,HB3.out⟩
   | true =>
     rw[h5] at hhe
     rw[show decide (mayS S i o)=false from QY (fun x=>by rcases x.1 with y | y;exact h1 y;have:=y.2;rw[h5] at this;cases this)]
     clear hHe h2 h5 h1 HH hst
     obtain ⟨nm,tg,bk,ow⟩:=o
     dsimp only at *
     go_enter func147,ntmps147
     go_wp2_with (first
      | (go_at_call 179;refine hfi.mono ?_;rintro e w2 ⟨rfl,e2⟩;obtain rfl:=e2.symm)
      | (go_at_call 180;refine hhe.mono ?_;rintro e w2 ⟨rfl,e2⟩;obtain rfl:=e2.symm))
     go_ret
     exact ⟨rfl,HBV.out⟩
  ·rw[show decide (jF7 S o.ow)=false from QY h2] at hfi
   rw[show decide (mayS S i o)=false from QY (fun x=>by rcases x.1 with y | y;exact h1 y;exact h2 y.1)]
   clear hHe h2 h1 HH hst
   obtain ⟨nm,tg,bk,ow⟩:=o
   dsimp only at *
   go_enter func147,ntmps147
   go_wp2_with (first
    | (go_at_call 179;refine hfi.mono ?_;rintro e w2 ⟨rfl,e2⟩;obtain rfl:=e2.symm))
   go_ret
   exact ⟨rfl,HBV.out⟩
theorem isSettled_any (w:World)(q:Nat)(F:List Nat)(nn:Nat)(S:Ps)(hL:Lay w q F nn S):Calls prog 151 #[.pointer (some ⟨q,0,none⟩)] w fun e w'=>e=.returned (.bool (decide (S.Q.length+cntO S.R=S.R.length)))/\Below w.heap.size w w':=by
 obtain ⟨rv,mv,oa,na,room,h,rfl,hI⟩:=hL
 obtain ⟨ar,cr,rfl⟩:=jBy hI.hr
 obtain ⟨-,c1,c2,-,-,-,c6⟩:=hI.cells
 obtain ⟨D,f,h1,h2,h3⟩:=hI.ho
 have hs:=size_own h1 h2 h3
 have hle:cntO S.R<=S.R.length:=by unfold cntO;exact List.length_filter_le _ _
 have hlim:=hI.lim
 have HLN:∀j ty,(Builtin.len_ #[113] ty #[.map (some oa)]).run prog (w.drewN j)=.ok (.int .i64 (cntO S.R:Int)) (w.drewN j):=fun j ty=>by
  have:=(jC6 (W':=w.drewN j) h1 rfl).len underlying113 ty
  rw[hs] at this
  exact this
 obtain ⟨es,cl,hq,hF,_,hDe⟩:=h1
 have hes:es.size=cntO S.R:=by
  rw[<-hs,hDe]
  simp[Maps.size,length_sorted]
 have B0:Hid (∀j,Below w.heap.size w (w.drewN j)):=fun j=>bdr (Qq _ _) j
 have w1:IntKind.i64.wrap ((S.R.length:Int)-(cntO S.R:Int))=(S.R.length:Int)-(cntO S.R:Int):=by rw[QX];omega
 have hd:decide (S.Q.length+cntO S.R=S.R.length)=((S.Q.length:Int) == (S.R.length:Int)-(cntO S.R:Int)):=by
  rw[Bool.eq_iff_iff]
  simp only[decide_eq_true_eq,beq_iff_eq]
  omega
 rw[hd]
 generalize S.Q.length=N at *
 generalize cntO S.R=C at *
 generalize hM:S.R.length=M at *
 clear hI h2 h3 hs hlim hle hd hF hDe hM
 go_enter func151,ntmps151
 go_wp2_with fail
 go_quiet (fail)
 go_wp2
 go_ret
 exact ⟨rfl,B0.out _⟩
structure Jv (w0 wr:World)(q b:Nat)(ov qv:Value)(F:List Nat)(nn:Nat)(S:Ps):Prop where
 lay:Lay wr q F nn S
 fr:∀k,k∈F->w0.heap.size<=k
 be:Below w0.heap.size w0 wr
 bx:wr.heap[b]?=some (.cells #[ov,qv] 46 (0,0))
 good:Good S
theorem Jv.below {w0 wr W:World}{q b nn:Nat}{ov qv:Value}{F:List Nat}{S:Ps}(h:Jv w0 wr q b ov qv F nn S)(hb:Below wr.heap.size wr W):Jv w0 W q b ov qv F nn S:=⟨h.lay.below hb,h.fr,h.be.trans (hb.mono h.be.size),(hb.block _ (jAv h.bx)).trans h.bx,h.good⟩
theorem Jv.turn {w0 wr W:World}{q b nn N:Nat}{ov qv:Value}{F:List Nat}{S S':Ps}(h:Jv w0 wr q b ov qv F nn S)(hT:Turn F wr W q N S')(hG:Good S'):∃F',Jv w0 W q b ov qv F' N S':=by
 have hbx:=(hT.1.block _ (jAv h.bx) (h.lay.notin h.bx (by decide))).trans h.bx
 obtain ⟨ho,F',hL,hF⟩:=hT
 refine ⟨F',hL,fun k hk=>?_,h.be.trans (ho.below h.be.size h.fr),hbx,hG⟩
 rcases hF k hk with h1 | h1
 ·exact h.fr k h1
 ·exact Qk h.be.size h1
structure Fld (w0:World)(q f n:Nat)(R:List Ob)(Z:List Int)(e:Ending)(w':World):Prop where
 ex:∃b:Bool,e=.returned (.bool b)/\(b=true↔R.length=n/\Fits f R Z)/\(b=true->∃F',Lay w' q F' R.length ⟨f,R,Z.map Int.toNat⟩/\(∀k,k∈F'->w0.heap.size<=k)/\Good ⟨f,R,Z.map Int.toNat⟩)
 be:Below w0.heap.size w0 w'
theorem fld_no {w0 w':World}{q f n:Nat}{R:List Ob}{Z:List Int}(h:¬(R.length=n/\Fits f R Z))(hb:Below w0.heap.size w0 w'):Fld w0 q f n R Z (.returned (.bool false)) w':=⟨⟨false,rfl,⟨fun e=>(by cases e),fun e=>absurd e h⟩,fun e=>(by cases e)⟩,hb⟩
theorem sq_full (f:Nat)(R:List Ob)(Z:List Int):SQ f R Z Z.length=⟨f,R,Z.map Int.toNat⟩:=by unfold SQ;rw[Qh]
theorem fill_any (w0 w:World)(q:Nat)(F:List Nat)(f s:Nat)(hf:1<=f/\f<=65536)(hs:1<=s/\s<=64)(hL:Lay w q F 0 (jD9 f s))(hF:∀k,k∈F->w0.heap.size<=k)(hbe:Below w0.heap.size w0 w)(v:Value)(R:List Ob)(Z:List Int)(hd:Sd w0 v R Z)(hsz:∀(k:Nat) o,R[k]?=some o->o.nm.size<=maxLen/\o.tg.size<=maxLen)(hZ:Z.length<=9223372036854775807)(hR:R.length<=9223372036854775807) :
 Calls prog 106 #[.pointer (some ⟨q,0,none⟩),v] w fun e w'=>Fld w0 q f (f+s) R Z e w':=by
 obtain ⟨ov,qv,rfl,s1,t1⟩:=hd.ex
 obtain ⟨a1,c1,rfl⟩:=s1.form
 obtain ⟨a2,c2,rfl⟩:=t1.form
 obtain ⟨W,hW,hb,k0⟩:=jA4 w #[.slice a1 R.length c1,.slice a2 Z.length c2] 46
 have J0:Jv w0 W q w.heap.size (.slice a1 R.length c1) (.slice a2 Z.length c2) F 0 (jD9 f s):=⟨hL.below hb,hF,hbe.trans (hb.mono hbe.size),k0,jK8 hf hs [] List.nodup_nil (fun i hi=>by cases hi)⟩
 have x0:W.cell? ⟨w.heap.size,0,none⟩=some (.slice a1 R.length c1):=(jAj k0).trans rfl
 obtain ⟨n,hn⟩:∃n,f+s=n:=⟨_,rfl⟩
 have hq1:∃ar cr,W.cell? ⟨q,1,none⟩=some (.slice ar n cr):=by
  obtain ⟨rv,mv,oa,na,room,h,rfl,hI⟩:=J0.lay
  obtain ⟨ar,cr,rfl⟩:=jBy hI.hr
  refine ⟨ar,cr,?_⟩
  rw[<-hn]
  have:=hI.cells.2.1
  rw[show (jD9 f s).R.length=f+s by simp[jD9]] at this
  exact this
 obtain ⟨ar,cr,hq1⟩:=hq1
 have B0:Hid (∀j,Below W.heap.size W (W.drewN j)):=fun j=>bdr (Qq _ _) j
 have HS1:Hid (See w0 4 (.slice a1 R.length c1) R.length (obsC R)):=s1
 have HT1:Hid (See w0 1 (.slice a2 Z.length c2) Z.length (zsC Z)):=t1
 have HJ0:Hid _:=J0
 rw[hn]
 by_cases hlen:R.length=n
 ·have hne:((R.length:Int) != (n:Int))=false:=by rw[hlen];simp
  have HLEN:Hid (R.length=n):=hlen
  have HSZ:Hid (∀(k:Nat) o,R[k]?=some o->o.nm.size<=maxLen/\o.tg.size<=maxLen):=hsz
  have hnb:n<=65600:=by omega
  clear hd s1 t1 J0 hb k0 hL hF hbe hsz hlen
  go_enter func106,ntmps106
  go_wp2_with fail
  go_quiet (fail)
  refine jBj (Q:=fun V=>Below W.heap.size W V) _ (B0.out _) ?_
  intro V hV
  have JV:=HJ0.out.below hV
  have y0:V.cell? ⟨w.heap.size,0,none⟩=some (.slice a1 R.length c1):=(jAj JV.bx).trans rfl
  rw[<-sk_zero f s R (by have:=HLEN.out;omega)] at JV
  have HJV:Hid _:=JV
  have HROW:Hid (∀(wr:World) (F':List Nat) (k:Nat),Jv w0 wr q w.heap.size (.slice a1 R.length c1) (.slice a2 Z.length c2) F' k (SK f R k)->k<n ->
   ∃o b1 o1,R[k]?=some o/\a1=some ⟨b1,o1,none⟩/\wr.cell? ⟨b1,o1+k*4,none⟩=some (.string o.nm)/\wr.cell? ⟨b1,o1+k*4+1,none⟩=some (.string o.tg)/\wr.cell? ⟨b1,o1+k*4+2,none⟩=some (.int .i64 o.bk)/\wr.cell? ⟨b1,o1+k*4+3,none⟩=some (.int .i64 o.ow) /\
   ∃U,wr.alloc (.cells #[.string o.nm,.string o.tg,.int .i64 o.bk,.int .i64 o.ow] 60)=U/\U.cell? ⟨wr.heap.size,0,none⟩=some (.string o.nm)/\U.cell? ⟨wr.heap.size,1,none⟩=some (.string o.tg)/\U.cell? ⟨wr.heap.size,2,none⟩=some (.int .i64 o.bk)/\U.cell? ⟨wr.heap.size,3,none⟩=some (.int .i64 o.ow) /\
   Calls prog 147 #[.pointer (some ⟨q,0,none⟩),.int .i64 (k:Int),.agg #[.string o.nm,.string o.tg,.int .i64 o.bk,.int .i64 o.ow]] U fun e w3=>e=.returned (.bool (decide (mayS (SK f R k) k o)))/\(w3.cell? ⟨wr.heap.size,0,none⟩=some (.string o.nm)/\w3.cell? ⟨wr.heap.size,1,none⟩=some (.string o.tg)/\w3.cell? ⟨wr.heap.size,2,none⟩=some (.int .i64 o.bk)/\w3.cell? ⟨wr.heap.size,3,none⟩=some (.int .i64 o.ow))/\Hid (Below w0.heap.size w0 w3) /\
    Hid (mayS (SK f R k) k o->Calls prog 149 #[.agg #[.string o.nm,.string o.tg,.int .i64 o.bk,.int .i64 o.ow]] w3 fun e w4=>e=.returned (.agg #[.string o.nm,.string o.tg,.int .i64 o.bk,.int .i64 o.ow]) /\
     Calls prog 148 #[.pointer (some ⟨q,0,none⟩),.int .i64 (k:Int),.agg #[.string o.nm,.string o.tg,.int .i64 o.bk,.int .i64 o.ow]] w4 fun e w5=>e=.returned (.tuple #[])/\Hid (∃F2,Jv w0 w5 q w.heap.size (.slice a1 R.length c1) (.slice a2 Z.length c2) F2 (k+1) (SK f R (k+1))))):=fun wr F' k hJ hk=>by
   have hlen:=HLEN.out
   obtain ⟨o,hko⟩:∃o,R[k]?=some o:=⟨_,Qv (by omega)⟩
   obtain ⟨b1,o1,e1,r0,r1,r2,r3⟩:=(HS1.out.below hJ.be).ob hko rfl
   obtain ⟨U,hU,hbU,kU⟩:=jA4 wr #[.string o.nm,.string o.tg,.int .i64 o.bk,.int .i64 o.ow] 60
   have hJU:=hJ.below hbU
   have hcl:∀X:World,Below U.heap.size U X->X.cell? ⟨wr.heap.size,0,none⟩=some (.string o.nm)/\X.cell? ⟨wr.heap.size,1,none⟩=some (.string o.tg)/\X.cell? ⟨wr.heap.size,2,none⟩=some (.int .i64 o.bk)/\X.cell? ⟨wr.heap.size,3,none⟩=some (.int .i64 o.ow):=fun X hX=>by
    have kX:=(hX.block _ (jAv kU)).trans kU
    exact ⟨(jAj kX).trans rfl,(jAj kX).trans rfl,(jAj kX).trans rfl,(jAj kX).trans rfl⟩
   obtain ⟨z0,z1,z2,z3⟩:=hcl U (Qq _ _)
   refine ⟨o,b1,o1,hko,e1,r0,r1,r2,r3,U,hU,z0,z1,z2,z3,(mayLie_any U q F' k (SK f R k) k o hJU.lay (HSZ.out k o hko).1 (HSZ.out k o hko).2).mono ?_⟩
   rintro e w3 ⟨rfl,hb3⟩
   have hJ3:=hJU.below hb3
   refine ⟨rfl,hcl w3 hb3,hJ3.be,fun hm=>?_⟩
   obtain ⟨⟨q1,q2,q3,q4⟩⟩:=hm.2
   have hns:o.nm.size<=16/\o.tg.size<=16:=by unfold jH2 at q1 q2;omega
   refine (owned_any o hns.1 hns.2 w3).mono ?_
   rintro e w4 ⟨rfl,hb4⟩
   have hJ4:=hJ3.below hb4
   have hkl:k<R.length:=by omega
   have hG2:Good (putP (SK f R k) k o):=may_good hJ.good (sk_get hkl) rfl hm
   have how:=hG2.ow (i:=k) (o:=o) (by show ((SK f R k).R.set k o)[k]?=some o;rw[List.getElem?_set_self (by rw[sk_len (by omega)];exact hkl)])
   refine ⟨rfl,(put_any w4 q F' k (SK f R k) k dOb o hJ4.lay (sk_get hkl) hns.1 (by show (0:Nat)<=16;omega) (by show (-1:Int)<=-1/\(-1:Int)<=65600;omega) how ?_ (fun e j x hj hx=>other_no hm.2.2 e j x hj hx) (by unfold maxLen;omega)).mono ?_⟩
   ·intro e j x _ hx
    rcases hm.1 with h1 | ⟨_,h1⟩
    ·exact absurd h1 e
    ·exact held_no h1 j x hx
   ·rintro e w5 ⟨rfl,hT⟩
    rw[sk_put hko] at hT hG2
    exact ⟨rfl,hJ4.turn hT hG2⟩
  clear JV hV x0 hq1 HJ0 B0
  go_wp2_with fail
  go_loopg [21] n (fun gk i wr=>∃(k:Nat) (F':List Nat),gk=n-k/\k<=n/\i=.int .i64 (k:Int)/\Jv w0 wr q w.heap.size (.slice a1 R.length c1) (.slice a2 Z.length c2) F' k (SK f R k)/\∀(j:Nat) o,j<k->R[j]?=some o->mayS (SK f R j) j o)
  case atStart=>exact ⟨0,F,by omega,by omega,rfl,HJV.out,fun j o hj=>by omega⟩
  case round =>
   clear HJV y0
   obtain ⟨k,F',hgk,hkn,rfl,hJ,hok⟩:=hrel
   by_cases hk:k<n
   ·have hkI:(k:Int)<(R.length:Int):=by have:=HLEN.out;omega
    obtain ⟨o,b1,o1,hko,rfl,r0,r1,r2,r3,U,hU,z0,z1,z2,z3,hml⟩:=HROW.out wr F' k hJ hk
    have w1':IntKind.i64.wrap ((k:Int)+1)=((k+1:Nat):Int):=by rw[QX];omega
    have HOK:Hid (∀(j:Nat) o,j<k->R[j]?=some o->mayS (SK f R j) j o):=hok
    by_cases hm:mayS (SK f R k) k o
    ·rw[show decide (mayS (SK f R k) k o)=true from QQ hm] at hml
     have HK:Hid (R[k]?=some o/\mayS (SK f R k) k o):=⟨hko,hm⟩
     obtain ⟨nm,tg,bk,ow⟩:=o
     dsimp only at *
     clear hJ hok hm hko HROW
     go_wp2_with (first
      | (go_at_call 147;refine hml.mono ?_;rintro e w3 ⟨rfl,⟨u0,u1,u2,u3⟩,-,HO⟩;have hown:=HO.out HK.out.2;clear HO)
      | (go_at_call 149;refine hown.mono ?_;rintro e w4 ⟨rfl,hput⟩)
      | (go_at_call 148;refine hput.mono ?_;rintro e w5 ⟨rfl,HX⟩))
     go_roundg (n-(k+1))
     case measure=>omega
     case rel =>
      obtain ⟨F2,hJ2⟩:=HX.out
      refine ⟨k+1,F2,rfl,by omega,rfl,hJ2,fun j x hj hx=>?_⟩
      by_cases e:j=k
      ·subst e
       rw[HK.out.1] at hx
       obtain rfl:=QW hx
       exact HK.out.2
      ·exact HOK.out j x (by omega) hx
    ·rw[show decide (mayS (SK f R k) k o)=false from QY hm] at hml
     have HN:Hid (¬(R.length=n/\Fits f R Z)):=fun x=>hm (x.2.rows k o hko)
     obtain ⟨nm,tg,bk,ow⟩:=o
     dsimp only at *
     clear hJ hok hm hko HROW
     go_wp2_with (go_at_call 147;refine hml.mono ?_;rintro e w3 ⟨rfl,-,HB3,-⟩)
     go_ret
     exact fld_no HN.out HB3.out
   ·obtain rfl:k=n:=by omega
    have hkI:¬(k:Int)<(R.length:Int):=by have:=HLEN.out;omega
    have hJ':Jv w0 wr q w.heap.size (.slice a1 R.length c1) (.slice a2 Z.length c2) F' k (SQ f R Z 0):=by
     have e:SK f R k=SQ f R Z 0:=by rw[<-HLEN.out,sk_full];rfl
     rw[<-e];exact hJ
    have u1:wr.cell? ⟨w.heap.size,1,none⟩=some (.slice a2 Z.length c2):=(jAj hJ.bx).trans rfl
    have HOK:Hid (∀(j:Nat) o,R[j]?=some o->mayS (SK f R j) j o):=fun j o ho=>hok j o (by have:=jAy ho;have:=HLEN.out;omega) ho
    have HJ:Hid _:=hJ'
    have HQ:Hid (∀(wr:World) (F':List Nat) (j:Nat),Jv w0 wr q w.heap.size (.slice a1 R.length c1) (.slice a2 Z.length c2) F' k (SQ f R Z j)->j<Z.length ->
     ∃z b2 o2,Z[j]?=some z/\a2=some ⟨b2,o2,none⟩/\wr.cell? ⟨b2,o2+j,none⟩=some (.int .i64 z)/\(∃ar cr,wr.cell? ⟨q,1,none⟩=some (.slice ar R.length cr)) /\
     (rowN (SQ f R Z j) z->∃m g cr nm tg bk ow bq,z=(m:Nat)/\(m:Int)<(R.length:Int)/\wr.cell? ⟨q,1,none⟩=some (.slice (some ⟨g,0,none⟩) R.length cr)/\wr.cell? ⟨g,m*5,none⟩=some (.string nm)/\wr.cell? ⟨g,m*5+1,none⟩=some (.string tg)/\wr.cell? ⟨g,m*5+2,none⟩=some (.int .i64 bk)/\wr.cell? ⟨g,m*5+3,none⟩=some (.int .i64 ow)/\wr.cell? ⟨g,m*5+4,none⟩=some (.bool bq) /\
       Calls prog 150 #[.agg #[.string nm,.string tg,.int .i64 bk,.int .i64 ow,.bool bq]] wr fun e w3=>e=.returned (.bool (outL (SQ f R Z j) z))/\Hid (Below w0.heap.size w0 w3)/\Hid (outL (SQ f R Z j) z=true->Calls prog 45 #[.pointer (some ⟨q,0,none⟩),.int .i64 (m:Int)] w3 fun e w4=>e=.returned (.tuple #[])/\Hid (∃F2,Jv w0 w4 q w.heap.size (.slice a1 R.length c1) (.slice a2 Z.length c2) F2 k (SQ f R Z (j+1)))))):=fun wr F' j hJ hj=>by
     obtain ⟨z,hzj⟩:∃z,Z[j]?=some z:=⟨_,Qv hj⟩
     obtain ⟨b2,o2,e2,hz2⟩:=(HT1.out.below hJ.be).z hzj rfl
     obtain ⟨rv,mv,oa,na,room,h,hFe,hI⟩:=id hJ.lay
     obtain ⟨ar,cr,hrv⟩:=jBy hI.hr
     subst hrv
     refine ⟨z,b2,o2,hzj,e2,hz2,⟨ar,cr,hI.cells.2.1⟩,fun hrn=>?_⟩
     obtain ⟨m,rfl,hi⟩:=row_of hrn
     obtain ⟨g,cap,hvg⟩:=hI.form hi
     injection hvg with hv1 _ hv2
     subst hv1 hv2
     obtain ⟨r0,r1,r2,r3,r4⟩:=hI.row hi
     have hout:=jNz (jC9 (SQ f R Z j) (m:Int)) (decide (m∈(SQ f R Z j).Q)) wr
     have hbo:(decide ((jC9 (SQ f R Z j) (m:Int)).ow=-1) && !decide (m∈(SQ f R Z j).Q))=outL (SQ f R Z j) (m:Int):=by unfold outL;rw[Int.toNat_natCast]
     rw[hbo] at hout
     refine ⟨m,g,_,_,_,_,_,_,rfl,hrn.2,hI.cells.2.1,r0,r1,r2,r3,r4,hout.mono ?_⟩
     rintro e w3 ⟨rfl,hb3⟩
     have hJ3:=hJ.below hb3
     refine ⟨rfl,hJ3.be,fun ho=>(jN1 w3 q F' k (SQ f R Z j) m _ hJ3.lay hi hJ.good.ql).mono ?_⟩
     rintro e w4 ⟨rfl,hT⟩
     have hsu:=sq_succ (f:=f) (R:=R) hzj
     rw[Int.toNat_natCast] at hsu
     rw[hsu] at hT
     refine ⟨rfl,hJ3.turn hT ?_⟩
     rw[<-hsu]
     exact good_push hJ.good hi (jHy.1 ho).1 (by have:=(jHy.1 ho).2;rw[Int.toNat_natCast] at this;exact this)
    clear hJ hJ' hok HROW hkn hgk hk
    go_wp2_with fail
    go_loopg [40] Z.length (fun gk i wr=>∃(j:Nat) (F':List Nat),gk=Z.length-j/\j<=Z.length/\i=.int .i64 (j:Int)/\Jv w0 wr q w.heap.size (.slice a1 R.length c1) (.slice a2 Z.length c2) F' k (SQ f R Z j)/\∀(i:Nat) z,i<j->Z[i]?=some z->rowN (SQ f R Z i) z/\outL (SQ f R Z i) z=true)
    case atStart=>exact ⟨0,F',by omega,by omega,rfl,HJ.out,fun i z hi=>by omega⟩
    case round =>
     clear HJ u1
     obtain ⟨j,F',hgk,hjn,rfl,hJ,hok⟩:=hrel
     by_cases hj:j<Z.length
     ·have hjI:(j:Int)<(Z.length:Int):=by omega
      obtain ⟨z,b2,o2,hzj,rfl,hz2,⟨ar,cr,hq1⟩,hrow⟩:=HQ.out wr F' j hJ hj
      have w1':IntKind.i64.wrap ((j:Int)+1)=((j+1:Nat):Int):=by rw[QX];omega
      have HBE:Hid (Below w0.heap.size w0 wr):=hJ.be
      have HOKQ:Hid (∀(i:Nat) z,i<j->Z[i]?=some z->rowN (SQ f R Z i) z/\outL (SQ f R Z i) z=true):=hok
      by_cases hrn:rowN (SQ f R Z j) z
      ·obtain ⟨m,g,cr',nm,tg,bk,ow,bq,hzm,hmI,hq1',r0,r1,r2,r3,r4,hout⟩:=hrow hrn
       subst hzm
       have HK:Hid (Z[j]?=some (m:Int)/\rowN (SQ f R Z j) (m:Int)):=⟨hzj,hrn⟩
       cases ho:outL (SQ f R Z j) (m:Int) with
       | true =>
         rw[ho] at hout
         clear hJ hok hrow hzj hrn HQ hq1
         go_wp2_with (first
          | (go_at_call 150;refine hout.mono ?_;rintro e w3 ⟨rfl,-,HP⟩;have hpu:=HP.out rfl;clear HP)
          | (go_at_call 45;refine hpu.mono ?_;rintro e w4 ⟨rfl,HX⟩))
         go_roundg (Z.length-(j+1))
         case measure=>omega
         case rel =>
          obtain ⟨F2,hJ2⟩:=HX.out
          refine ⟨j+1,F2,rfl,by omega,rfl,hJ2,fun i z hi hz=>?_⟩
          by_cases e:i=j
          ·subst e
           rw[HK.out.1] at hz
           obtain rfl:=QW hz
           exact ⟨HK.out.2,ho⟩
          ·exact HOKQ.out i z (by omega) hz
       | false =>
         rw[ho] at hout
         have HN:Hid (¬(R.length=k/\Fits f R Z)):=fun x=>by
          have:=(x.2.queue j _ hzj).2
          rw[ho] at this
          cases this
         clear hJ hok hrow hzj hrn HQ hq1
         go_wp2_with (go_at_call 150;refine hout.mono ?_;rintro e w3 ⟨rfl,HB3,-⟩)
         go_ret
         exact fld_no HN.out HB3.out
      ·have HN:Hid (¬(R.length=k/\Fits f R Z)):=fun x=>hrn (x.2.queue j _ hzj).1
       have hrn':z<0\/(R.length:Int)<=z:=by
        by_cases h0:0<=z
        ·right
         have:¬z<(R.length:Int):=fun h1=>hrn ⟨h0,h1⟩
         omega
        ·left;omega
       clear hJ hok hrow hzj hrn HQ
       rcases hrn' with h0 | h0
       ·go_wp2
        go_ret
        exact fld_no HN.out HBE.out
       ·have h1:¬z<0:=by omega
        go_wp2
        go_ret
        exact fld_no HN.out HBE.out
     ·obtain rfl:j=Z.length:=by omega
      have hjI:¬(Z.length:Int)<(Z.length:Int):=by omega
      have hset:=isSettled_any wr q F' k _ hJ.lay
      have hiff:decide ((SQ f R Z Z.length).Q.length+cntO (SQ f R Z Z.length).R=(SQ f R Z Z.length).R.length)=true↔R.length=k/\Fits f R Z:=by
       rw[decide_eq_true_eq]
       have e1:(SQ f R Z Z.length).Q.length=Z.length:=by rw[sq_full];simp
       have e2:(SQ f R Z Z.length).R=R:=rfl
       rw[e1,e2]
       exact ⟨fun h=>⟨HLEN.out,HOK.out,fun i z hz=>hok i z (jAy hz) hz,h⟩,fun h=>h.2.all⟩
      have HEND:Hid (∀w3,Below wr.heap.size wr w3->Fld w0 q f k R Z (.returned (.bool (decide ((SQ f R Z Z.length).Q.length+cntO (SQ f R Z Z.length).R=(SQ f R Z Z.length).R.length)))) w3):=fun w3 hb3=>by
       have hJ3:=hJ.below hb3
       refine ⟨⟨_,rfl,hiff,fun _=>⟨F',?_,hJ3.fr,?_⟩⟩,hJ3.be⟩
       ·rw[HLEN.out,<-sq_full];exact hJ3.lay
       ·rw[<-sq_full];exact hJ3.good
      clear hJ hok HQ hiff
      go_wp2_with (go_at_call 151;refine hset.mono ?_;rintro e w3 ⟨rfl,hb3⟩;have HF:Hid _:=HEND.out w3 hb3;clear hb3 HEND)
      go_ret
      exact HF.out
 ·have hne:((R.length:Int) != (n:Int))=true:=bne_iff_ne.2 (by omega)
  have HE:Hid (∀j,Below w0.heap.size w0 (W.drewN j)):=fun j=>(J0.below (B0.out j)).be
  have HN:Hid (¬(R.length=n/\Fits f R Z)):=fun x=>hlen x.1
  clear hd s1 t1 J0 hb k0 hL hF hbe hsz HS1 HT1 HJ0 hlen
  go_enter func106,ntmps106
  go_wp2_with fail
  go_quiet (fail)
  go_wp2
  go_ret
  exact fld_no HN.out (HE.out _)
structure Ldd (w:World)(f s:Int)(R:List Ob)(Z:List Int)(e:Ending)(w':World):Prop where
 be:Below w.heap.size w w'
 ex:(jL7 f s=false/\e=.returned (.tuple #[.pointer none,.int .i64 1]))\/(jL7 f s=true/\¬(R.length=f.toNat+s.toNat/\Fits f.toNat R Z)/\e=.returned (.tuple #[.pointer none,.int .i64 130])) \/
  (jL7 f s=true/\(R.length=f.toNat+s.toNat/\Fits f.toNat R Z)/\∃pb q F,e=.returned (.tuple #[.pointer (some ⟨pb,0,none⟩),.int .i64 0])/\Ok w' pb q F R.length ⟨f.toNat,R,Z.map Int.toNat⟩/\w.heap.size<=pb/\∀k,k∈F->w.heap.size<=k)
theorem load_any (w:World)(v:Value)(R:List Ob)(Z:List Int)(hd:Sd w v R Z)(hsz:∀(k:Nat) o,R[k]?=some o->o.nm.size<=maxLen/\o.tg.size<=maxLen)(hZ:Z.length<=9223372036854775807)(hR:R.length<=9223372036854775000)(f s:Int) :
 Calls prog 70 #[v,.int .i64 f,.int .i64 s] w fun e w'=>Ldd w f s R Z e w':=by
 obtain ⟨ov,qv,rfl,s1,t1⟩:=hd.ex
 obtain ⟨a1,c1,rfl⟩:=s1.form
 obtain ⟨a2,c2,rfl⟩:=t1.form
 obtain ⟨W,hW,hb,k0⟩:=jA4 w #[.slice a1 R.length c1,.slice a2 Z.length c2] 46
 have hir:=jG9 f s W
 have HB:Hid (Below w.heap.size w W):=hb
 cases hr:jL7 f s with
 | false =>
   rw[hr] at hir
   have HN:Hid (jL7 f s=false):=hr
   clear hr hb k0 hsz hd s1 t1
   go_enter func70,ntmps70
   go_wp2_with (go_at_call 43;refine hir.mono ?_;rintro e w2 ⟨rfl,e2⟩;obtain rfl:=e2.symm)
   go_ret2
   exact ⟨HB.out,.inl ⟨HN.out,rfl⟩⟩
 | true =>
   rw[hr] at hir
   obtain ⟨h1,h2,h3,h4⟩:=Qg hr
   have HN:Hid (jL7 f s=true):=hr
   obtain ⟨a,rfl⟩:∃a:Nat,f=a:=⟨f.toNat,by omega⟩
   obtain ⟨b,rfl⟩:∃b:Nat,s=b:=⟨s.toNat,by omega⟩
   have hns:=jFq W a b (by omega) (by omega)
   have HFI:Hid (∀w3 q F,Lay w3 q F 0 (jD9 a b)->(∀k,k∈F->W.heap.size<=k)->Below W.heap.size W w3->w3.cell? ⟨w.heap.size,0,none⟩=some (.slice a1 R.length c1)/\w3.cell? ⟨w.heap.size,1,none⟩=some (.slice a2 Z.length c2)/\Calls prog 106 #[.pointer (some ⟨q,0,none⟩),.agg #[.slice a1 R.length c1,.slice a2 Z.length c2]] w3 fun e w'=>Fld W q a (a+b) R Z e w'):=fun w3 q F hL hF hb3=>by
    have k3:=(hb3.block _ (jAv k0)).trans k0
    exact ⟨(jAj k3).trans rfl,(jAj k3).trans rfl,fill_any W w3 q F a b (by omega) (by omega) hL hF hb3 _ R Z (hd.below hb) hsz hZ (by omega)⟩
   have HNO:Hid (∀w4:World,Below W.heap.size W w4->¬(R.length=a+b/\Fits a R Z)->Ldd w (a:Int) (b:Int) R Z (.returned (.tuple #[.pointer none,.int .i64 130])) w4):=fun w4 hb4 hno=>⟨hb.trans (hb4.mono hb.size),.inr (.inl ⟨HN.out,hno,rfl⟩)⟩
   have HYES:Hid (∀(w4:World) (q:Nat) (F':List Nat),Below W.heap.size W w4->(R.length=a+b/\Fits a R Z)->Lay w4 q F' R.length ⟨a,R,Z.map Int.toNat⟩->(∀k,k∈F'->W.heap.size<=k)->Good ⟨a,R,Z.map Int.toNat⟩->Ldd w (a:Int) (b:Int) R Z (.returned (.tuple #[.pointer (some ⟨w4.heap.size,0,none⟩),.int .i64 0])) (w4.alloc (.cells #[.pointer (some ⟨q,0,none⟩)] 121))):=fun w4 q F' hb4 hyes hL hF hG=>by
    have hal:Below w4.heap.size w4 (w4.alloc (.cells #[.pointer (some ⟨q,0,none⟩)] 121)):=(Qq _ _).alloc (Qj _) _
    have hbw:=hb.trans (hb4.mono hb.size)
    exact ⟨hbw.trans (hal.mono hbw.size),.inr (.inr ⟨HN.out,hyes,_,q,F',rfl,⟨jA2 _ _,hL.below hal,hG,by omega⟩,hbw.size,fun k hk=>Qk hb.size (hF k hk)⟩)⟩
   clear hr hb k0 hsz hd s1 t1 h1 h2 h3 h4
   go_enter func70,ntmps70
   go_wp2_with (first
    | (go_at_call 43;refine hir.mono ?_;rintro e w2 ⟨rfl,e2⟩;obtain rfl:=e2.symm)
    | (go_at_call 44;refine hns.mono ?_;rintro e w3 ⟨q,F,rfl,hL,hF,hb3⟩;obtain ⟨d0,d1,hfi⟩:=HFI.out w3 q F hL hF hb3;clear hL hF hb3 HFI))
   refine hfi.mono ?_
   rintro e w4 ⟨⟨bb,rfl,hiff,hlay⟩,hb4⟩
   cases bb with
   | false =>
     have HX:Hid _:=HNO.out w4 hb4 (fun x=>by have:=hiff.2 x;cases this)
     clear hiff hlay hb4 HNO HYES hfi
     go_wp2
     go_ret2
     exact HX.out
   | true =>
     obtain ⟨F',l1,l2,l3⟩:=hlay rfl
     have HX:Hid _:=HYES.out w4 q F' hb4 (hiff.1 rfl) l1 l2 l3
     clear hiff hlay hb4 HNO HYES l1 l2 l3 hfi
     go_wp2
     go_ret2
     exact HX.out
def zQ (Q:List Nat):List Int:=Q.map fun (n:Nat)=>(n:Int)
theorem zQ_len (Q:List Nat):(zQ Q).length=Q.length:=by unfold zQ;simp
theorem zQ_get {Q:List Nat}{i:Nat}{z:Int}(h:(zQ Q)[i]?=some z):∃n:Nat,Q[i]?=some n/\z=n:=by
 unfold zQ at h
 rw[List.getElem?_map] at h
 obtain ⟨n,hn,rfl⟩:=Option.map_eq_some_iff.1 h
 exact ⟨n,hn,rfl⟩
theorem zQ_back (Q:List Nat):(zQ Q).map Int.toNat=Q:=by
 unfold zQ
 rw[List.map_map]
 conv=>rhs;rw[<-List.map_id Q]
 apply List.map_congr_left
 intro a _
 simp
theorem jJ4 {f:Nat}{R:List Ob}{k j:Nat}{x:Ob}(h:(SK f R k).R[j]?=some x):(j<k/\R[j]?=some x)\/x=dOb:=by
 unfold SK at h
 change (R.take k++List.replicate (R.length-k) dOb)[j]?=some x at h
 by_cases hj:j<(R.take k).length
 ·rw[List.getElem?_append_left hj,List.getElem?_take] at h
  split at h
  ·rename_i hlt
   exact .inl ⟨hlt,h⟩
  ·cases h
 ·rw[Qd (by omega),Qc] at h
  split at h
  ·exact .inr (QW h).symm
  ·cases h
theorem good_rows {S:Ps}(hG:Good S)(k:Nat)(o:Ob)(h:S.R[k]?=some o):mayS (SK S.fl S.R k) k o:=by
 have hst:=hG.st k o h
 refine ⟨?_,hst.1,?_⟩
 ·by_cases h1:o.ow=-1
  ·exact .inl h1
  ·refine .inr ⟨⟨by omega,hst.2.2⟩,?_⟩
   unfold jD7
   rw[List.any_eq_false]
   intro x hx e
   obtain ⟨j,hj⟩:=List.mem_iff_getElem?.1 hx
   have e:=Qg e
   rcases jJ4 hj with ⟨h2,h3⟩ | rfl
   ·have:=hG.ou j k x o h3 h e (by rw[e];exact h1)
    omega
   ·exact h1 e.symm
 ·unfold jJj
  by_cases h1:o.nm.size=0
  ·simp[h1]
  ·rw[QQ h1,Bool.true_and,List.any_eq_false]
   intro j _ e
   rw[Bool.and_eq_true] at e
   obtain ⟨e1,e2⟩:=e
   cases hj:(SK S.fl S.R k).R[j]? with
   | none=>rw[hj] at e2;cases e2
   | some x =>
     rw[hj] at e2
     have e2:=Qg e2
     rcases jJ4 hj with ⟨h2,h3⟩ | rfl
     ·have:=hG.nu j k x o h3 h e2 (by rw[e2];exact h1)
      omega
     ·exact h1 (by rw[<-e2];rfl)
theorem good_queue {S:Ps}(hG:Good S)(k:Nat)(z:Int)(h:(zQ S.Q)[k]?=some z):rowN (SQ S.fl S.R (zQ S.Q) k) z/\outL (SQ S.fl S.R (zQ S.Q) k) z=true:=by
 obtain ⟨n,hn,rfl⟩:=zQ_get h
 obtain ⟨o,h1,h2⟩:=hG.qd n (List.mem_of_getElem? hn)
 have hl:=jAy h1
 refine ⟨⟨by omega,by show (n:Int)<(S.R.length:Int);omega⟩,jHy.2 ⟨?_,?_⟩⟩
 ·unfold jC9 SQ
  rw[Int.toNat_natCast,h1]
  exact h2
 ·rw[Int.toNat_natCast]
  show n ∉ ((zQ S.Q).take k).map Int.toNat
  rw[List.map_take,zQ_back]
  intro hm
  obtain ⟨i,hi⟩:=List.mem_iff_getElem?.1 hm
  rw[List.getElem?_take] at hi
  split at hi
  ·rename_i hlt
   have:=(List.getElem?_inj (jAy hi) hG.qn).1 (hi.trans hn.symm)
   omega
  ·cases hi
theorem fits_iff {S:Ps}(hG:Good S):Fits S.fl S.R (zQ S.Q)↔S.Q.length+cntO S.R=S.R.length :=
 ⟨fun h=>by have:=h.all;rw[zQ_len] at this;exact this,fun h=>⟨good_rows hG,good_queue hG,by rw[zQ_len];exact h⟩⟩
def dmL (R:List Ob)(k:Nat):Nat:=((R.take k).filter fun o=>decide (o.ow=-1)).length
theorem dm_all (R:List Ob):dmL R R.length+cntO R=R.length:=by
 unfold dmL cntO
 rw[Qh]
 induction R with
 | nil=>rfl
 | cons o R ih =>
   by_cases e:o.ow=-1
   ·simp[e] at ih ⊢
    omega
   ·simp[e] at ih ⊢
    omega
theorem cnt_le {S:Ps}(hG:Good S):cntO S.R<=S.fl:=by
 have h1:=jJ5 S.R hG.ou
 have h2:(((S.R.filter fun o=>decide (o.ow≠-1)).map Ob.ow).map Int.toNat).length<=S.fl:=by
  refine jJ7 _ _ ?_ ?_
  ·refine List.pairwise_map.2 (h1.imp_of_mem fun {a b} ha hb hne e=>hne ?_)
   obtain ⟨o,ho,rfl⟩:=List.mem_map.1 ha
   obtain ⟨o',ho',rfl⟩:=List.mem_map.1 hb
   obtain ⟨p1,p2⟩:=List.mem_filter.1 ho
   obtain ⟨p3,p4⟩:=List.mem_filter.1 ho'
   obtain ⟨i,hi⟩:=List.mem_iff_getElem?.1 p1
   obtain ⟨j,hj⟩:=List.mem_iff_getElem?.1 p3
   have q1:=(hG.st i o hi).2
   have q2:=(hG.st j o' hj).2
   have r1:=Qg p2
   have r2:=Qg p4
   omega
  ·intro x hx
   obtain ⟨a,ha,rfl⟩:=List.mem_map.1 hx
   obtain ⟨o,ho,rfl⟩:=List.mem_map.1 ha
   obtain ⟨p1,p2⟩:=List.mem_filter.1 ho
   obtain ⟨i,hi⟩:=List.mem_iff_getElem?.1 p1
   have q1:=(hG.st i o hi).2
   have r1:=Qg p2
   omega
 simp only[List.length_map] at h2
 exact h2
theorem see_row {w:World}{B sz n e:Nat}{v:Value}{xs:List Value}(h:w.ownsRow B e sz v n xs)(h1:∀u∈xs,u.oneCell'=true):See w sz v n xs:=by
 refine ⟨h.1,h1,?_⟩
 rcases h.2 with ⟨q1,q2⟩ | ⟨g,cap,cur,q1,q2,q3,q4,q5,q6,q7⟩
 ·exact ⟨none,0,by rw[q2];exact q1,by omega,fun _=>rfl,fun h=>by omega⟩
 ·refine ⟨_,cap,q1,q4,fun e=>(by cases e),fun _=>⟨g,0,rfl,jAv q3,fun j u hu=>?_⟩⟩
  rw[<-q7,List.getElem?_take] at hu
  split at hu
  ·rw[Array.getElem?_toList] at hu
   rw[Nat.zero_add,jAj q3]
   exact hu
  ·cases hu
theorem sd_state {w':World}{S:Ps}{ov qv:Value}{B:Nat}(h1:w'.ownsRow B 60 4 ov S.R.length (obsC S.R))(h2:w'.ownsRow B 3 1 qv S.Q.length (nsC S.Q)):Sd w' (.agg #[ov,qv]) S.R (zQ S.Q):=by
 refine ⟨ov,qv,rfl,see_row h1 (obsC_one _),?_⟩
 rw[zQ_len]
 have e:nsC S.Q=zsC (zQ S.Q):=nsC_zs _
 rw[<-e]
 exact see_row h2 (nsC_one _)
