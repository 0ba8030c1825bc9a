import Derived.Test.YtfnklhajafmooaaGreatDoorG04
set_option maxHeartbeats 1000000
set_option maxRecDepth 20000
namespace Go.Proofs.YtfnklhajafmooaaGreatDoor.Ix
open Go.RowKit Go.Lib Go.Proofs.Tryz
structure Cf where
 sl:Int
 fl:Int
 dr:Int
 mf:Int
 ls:Int
 pg:Int
structure Cn where
 sl:Nat
 fl:Nat
 dr:Nat
 mf:Nat
 ls:Nat
 pg:Nat
def Cn.cf (c:Cn):Cf:=⟨c.sl,c.fl,c.dr,c.mf,c.ls,c.pg⟩
def Cf.n (c:Cf):Cn:=⟨c.sl.toNat,c.fl.toNat,c.dr.toNat,c.mf.toNat,c.ls.toNat,c.pg.toNat⟩
def Cn.len (c:Cn):Nat:=36*c.dr+40*c.fl+44*(c.fl+c.sl)+4
def Cn.body (c:Cn):Nat:=c.pg-5
def Cn.pgs (c:Cn):Nat:=(c.len+c.body-1) / c.body
def Cf.In (c:Cf):Prop:=1<=c.sl/\c.sl<=64/\1<=c.fl/\c.fl<=65536/\0<=c.dr/\c.dr<=4096/\0<=c.mf/\c.mf<=65536/\16<=c.ls/\c.ls<=65536/\64<=c.pg/\c.pg<=65536
def Cn.In (c:Cn):Prop:=1<=c.sl/\c.sl<=64/\1<=c.fl/\c.fl<=65536/\c.dr<=4096/\c.mf<=65536/\16<=c.ls/\c.ls<=65536/\64<=c.pg/\c.pg<=65536
def Cn.May (c:Cn):Prop:=c.In/\c.pgs<=1024
def Cf.May (c:Cf):Prop:=c.In/\c.n.pgs<=1024
instance (c:Cf):Decidable c.In:=by unfold Cf.In;infer_instance
instance (c:Cf):Decidable c.May:=by unfold Cf.May;infer_instance
theorem Cf.In.cn {c:Cf}(h:c.In):c=c.n.cf/\c.n.In:=by
 obtain ⟨sl,fl,dr,mf,ls,pg⟩:=c
 simp only[Cf.In] at h
 simp only[Cf.n,Cn.cf,Cn.In,Cf.mk.injEq]
 omega
theorem Cn.cf_n (c:Cn):c.cf.n=c:=by
 obtain ⟨sl,fl,dr,mf,ls,pg⟩:=c
 simp[Cf.n,Cn.cf]
theorem Cn.In.cf {c:Cn}(h:c.In):c.cf.In:=by
 obtain ⟨sl,fl,dr,mf,ls,pg⟩:=c
 simp only[Cn.In] at h
 simp only[Cn.cf,Cf.In]
 omega
theorem Cn.May.cf {c:Cn}(h:c.May):c.cf.May:=⟨h.1.cf,by rw[Cn.cf_n];exact h.2⟩
theorem Cf.May.cn {c:Cf}(h:c.May):∃n:Cn,n.May/\c=n.cf:=⟨c.n,⟨h.1.cn.2,h.2⟩,h.1.cn.1⟩
theorem cn_of {c:Cf}(h:c.In):∃n:Cn,n.In/\c=n.cf:=⟨c.n,h.cn.2,h.cn.1⟩
theorem may_iff (c:Cn)(h:c.In):c.cf.May↔c.pgs<=1024:=by
 unfold Cf.May
 rw[Cn.cf_n]
 exact ⟨fun x=>x.2,fun x=>⟨h.cf,x⟩⟩
theorem Cn.In.len {c:Cn}(h:c.In):132<=c.len/\c.len<=5655300/\59<=c.body/\c.body<=65531/\c.body+5=c.pg:=by
 obtain ⟨sl,fl,dr,mf,ls,pg⟩:=c
 simp only[Cn.In] at h
 simp only[Cn.len,Cn.body]
 omega
end Go.Proofs.YtfnklhajafmooaaGreatDoor.Ix
namespace Go.Proofs.YtfnklhajafmooaaGreatDoor.Ix
open Go.RowKit Go.Lib Go.Deep Go.Proofs.Tryz
theorem bdr {w W:World}{B:Nat}(h:Below B w W)(k:Nat):Below B w (W.drewN k):=⟨h.os,h.tape,h.output,h.size,h.block⟩
theorem jDy (w:World)(A B:Array Value)(s t:TypeId):∃W,(w.alloc (.cells A s)).alloc (.cells B t)=W/\Below w.heap.size w W/\W.heap[w.heap.size]?=some (.cells A s (0,0))/\W.heap[w.heap.size+1]?=some (.cells B t (0,0)):=by
 have hb1:Below w.heap.size w (w.alloc (.cells A s)):=(Qq _ _).alloc (Qj _) _
 refine ⟨_,rfl,hb1.alloc hb1.size _,(QK _ _ _ (by simp)).trans (jA2 w _),?_⟩
 have:=jA2 (w.alloc (.cells A s)) (.cells B t)
 rw[show (w.alloc (.cells A s)).heap.size=w.heap.size+1 by simp] at this
 exact this
theorem jA4 (w:World)(A:Array Value)(s:TypeId):∃W,w.alloc (.cells A s)=W/\Below w.heap.size w W/\W.heap[w.heap.size]?=some (.cells A s (0,0)):=⟨_,rfl,(Qq _ _).alloc (Qj _) _,jA2 w _⟩
def cfA (c:Cf):Array Value:=#[.int .i64 c.sl,.int .i64 c.fl,.int .i64 c.dr,.int .i64 c.mf,.int .i64 c.ls,.int .i64 c.pg]
def cfV (c:Cf):Value:=.agg (cfA c)
structure RT (w:World):Prop where
 rt:∃t fr,w.heap[0]?=some (.cells #[.int .i64 36,.int .i64 40,.int .i64 40,.int .i64 4] t fr)
theorem RT.below {w w':World}{B:Nat}(h:RT w)(hb:Below B w w')(hB:0<B):RT w':=by
 obtain ⟨t,fr,e⟩:=h.rt
 exact ⟨t,fr,(hb.block _ hB).trans e⟩
theorem RT.lt {w:World}(h:RT w):0<w.heap.size:=by
 obtain ⟨t,fr,e⟩:=h.rt
 exact jAv e
theorem RT.next {w w':World}(h:RT w)(hb:Below w.heap.size w w'):RT w':=h.below hb h.lt
theorem RT.cells {w:World}(h:RT w):w.cell? ⟨0,0,none⟩=some (.int .i64 36)/\w.cell? ⟨0,1,none⟩=some (.int .i64 40)/\w.cell? ⟨0,2,none⟩=some (.int .i64 40)/\w.cell? ⟨0,3,none⟩=some (.int .i64 4):=by
 obtain ⟨t,fr,e⟩:=h.rt
 exact ⟨(jAj e).trans rfl,(jAj e).trans rfl,(jAj e).trans rfl,(jAj e).trans rfl⟩
theorem jB0 (n a b:Int)(w:World):Calls prog 103 #[.int .i64 n,.int .i64 a,.int .i64 b] w fun e w'=>e=.returned (.bool (decide (a<=n/\n<=b)))/\w'=w:=by
 by_cases h1:a<=n
 ·by_cases h2:n<=b
  ·rw[QQ (show a<=n/\n<=b from ⟨h1,h2⟩)]
   go_enter func103,ntmps103
   go_wp2
   go_ret
   exact ⟨rfl,rfl⟩
  ·rw[QY (show ¬(a<=n/\n<=b) from fun h=>h2 h.2)]
   go_enter func103,ntmps103
   go_wp2
   go_ret
   exact ⟨rfl,rfl⟩
 ·rw[QY (show ¬(a<=n/\n<=b) from fun h=>h1 h.1)]
  go_enter func103,ntmps103
  go_wp2
  go_ret
  exact ⟨rfl,rfl⟩
theorem rowsOf_any (sl fl dr mf ls pg:Nat)(hc:Cn.In ⟨sl,fl,dr,mf,ls,pg⟩)(w:World):Calls prog 206 #[.agg #[.int .i64 (sl:Int),.int .i64 (fl:Int),.int .i64 (dr:Int),.int .i64 (mf:Int),.int .i64 (ls:Int),.int .i64 (pg:Int)]] w fun e w'=>e=.returned (.int .i64 ((fl+sl:Nat):Int))/\Below w.heap.size w w':=by
 have h1:sl<=64:=hc.2.1
 have h2:fl<=65536:=hc.2.2.2.1
 clear hc
 go_enter func206,ntmps206
 go_wp2
 go_ret
 exact ⟨by simp,(Qq _ _).alloc (Qj _) _⟩
theorem bodySize_any (sl fl dr mf ls pg:Nat)(hc:Cn.In ⟨sl,fl,dr,mf,ls,pg⟩)(w:World):Calls prog 142 #[.agg #[.int .i64 (sl:Int),.int .i64 (fl:Int),.int .i64 (dr:Int),.int .i64 (mf:Int),.int .i64 (ls:Int),.int .i64 (pg:Int)]] w fun e w'=>e=.returned (.int .i64 ((pg-5:Nat):Int))/\Below w.heap.size w w':=by
 have h1:64<=pg:=hc.2.2.2.2.2.2.2.2.1
 have h2:pg<=65536:=hc.2.2.2.2.2.2.2.2.2
 clear hc
 have e:((pg-5:Nat):Int)=(pg:Int)-5:=by omega
 rw[e]
 go_enter func142,ntmps142
 go_wp2
 go_ret
 exact ⟨rfl,(Qq _ _).alloc (Qj _) _⟩
def rcA (fl sl dr:Nat):Array Value:=#[.int .i64 (dr:Int),.int .i64 (fl:Int),.int .i64 ((fl+sl:Nat):Int),.int .i64 ((1+(fl+sl):Nat):Int)]
theorem cf_new (w:World)(sl fl dr mf ls pg:Nat):∃V,w.alloc (.cells #[.int .i64 (sl:Int),.int .i64 (fl:Int),.int .i64 (dr:Int),.int .i64 (mf:Int),.int .i64 (ls:Int),.int .i64 (pg:Int)] 23)=V/\Below w.heap.size w V/\V.heap.size=w.heap.size+1/\∀X,Below V.heap.size V X->Below V.heap.size V X/\X.cell? ⟨w.heap.size,0,none⟩=some (.int .i64 (sl:Int))/\X.cell? ⟨w.heap.size,1,none⟩=some (.int .i64 (fl:Int))/\X.cell? ⟨w.heap.size,2,none⟩=some (.int .i64 (dr:Int))/\X.cell? ⟨w.heap.size,3,none⟩=some (.int .i64 (mf:Int))/\X.cell? ⟨w.heap.size,4,none⟩=some (.int .i64 (ls:Int))/\X.cell? ⟨w.heap.size,5,none⟩=some (.int .i64 (pg:Int)):=by
 refine ⟨_,rfl,(Qq _ _).alloc (Qj _) _,by simp,fun X hX=>?_⟩
 have h:X.heap[w.heap.size]?=some (.cells #[.int .i64 (sl:Int),.int .i64 (fl:Int),.int .i64 (dr:Int),.int .i64 (mf:Int),.int .i64 (ls:Int),.int .i64 (pg:Int)] 23 (0,0)):=(hX.block _ (by simp)).trans (jA2 w _)
 exact ⟨hX,(jAj h).trans rfl,(jAj h).trans rfl,(jAj h).trans rfl,(jAj h).trans rfl,(jAj h).trans rfl,(jAj h).trans rfl⟩
theorem size147:(prog.info? 255).map (·.size)=some 4:=by kernel_rfl
theorem rowCounts_any (sl fl dr mf ls pg:Nat)(hc:Cn.In ⟨sl,fl,dr,mf,ls,pg⟩)(w:World):Calls prog 175 #[.agg #[.int .i64 (sl:Int),.int .i64 (fl:Int),.int .i64 (dr:Int),.int .i64 (mf:Int),.int .i64 (ls:Int),.int .i64 (pg:Int)]] w fun e w'=>e=.returned (.agg (rcA fl sl dr))/\Below w.heap.size w w':=by
 have KR0:=fun V=>rowsOf_any sl fl dr mf ls pg hc V
 have h1:sl<=64:=hc.2.1
 have h2:fl<=65536:=hc.2.2.2.1
 clear hc
 obtain ⟨V,hV,hbV,hV1,hV2⟩:=jDy w #[.int .i64 (sl:Int),.int .i64 (fl:Int),.int .i64 (dr:Int),.int .i64 (mf:Int),.int .i64 (ls:Int),.int .i64 (pg:Int)] #[.int .i64 0,.int .i64 0,.int .i64 0,.int .i64 0] 23 255
 have KR:Hid (∀X,Below V.heap.size V X->Calls prog 206 #[.agg #[.int .i64 (sl:Int),.int .i64 (fl:Int),.int .i64 (dr:Int),.int .i64 (mf:Int),.int .i64 (ls:Int),.int .i64 (pg:Int)]] X fun e w'=>e=.returned (.int .i64 ((fl+sl:Nat):Int))/\Below V.heap.size V w'):=fun X hX=>by
  refine (KR0 X).mono ?_
  rintro e w' ⟨rfl,hb⟩
  exact ⟨rfl,hX.trans (hb.mono hX.size)⟩
 have l1:=jAv hV1
 have l2:=jAv hV2
 have HZ:Hid (∀X,Below V.heap.size V X->X.cell? ⟨w.heap.size+1,0,none⟩=some (.int .i64 0)/\X.cell? ⟨w.heap.size+1,1,none⟩=some (.int .i64 0)/\X.cell? ⟨w.heap.size+1,2,none⟩=some (.int .i64 0)/\X.cell? ⟨w.heap.size+1,3,none⟩=some (.int .i64 0)/\X.frozen? ⟨w.heap.size+1,0,none⟩=false/\X.frozen? ⟨w.heap.size+1,1,none⟩=false/\X.frozen? ⟨w.heap.size+1,2,none⟩=false/\X.frozen? ⟨w.heap.size+1,3,none⟩=false):=fun X hX=>by
  have g2:=(hX.block _ l2).trans hV2
  exact ⟨(jAj g2).trans rfl,(jAj g2).trans rfl,(jAj g2).trans rfl,(jAj g2).trans rfl,jAq g2,jAq g2,jAq g2,jAq g2⟩
 have HS:Hid (∀X,Below V.heap.size V X->X.cell? ⟨w.heap.size,0,none⟩=some (.int .i64 (sl:Int))/\X.cell? ⟨w.heap.size,1,none⟩=some (.int .i64 (fl:Int))/\X.cell? ⟨w.heap.size,2,none⟩=some (.int .i64 (dr:Int))/\X.cell? ⟨w.heap.size,3,none⟩=some (.int .i64 (mf:Int))/\X.cell? ⟨w.heap.size,4,none⟩=some (.int .i64 (ls:Int))/\X.cell? ⟨w.heap.size,5,none⟩=some (.int .i64 (pg:Int))):=fun X hX=>by
  have g1:=(hX.block _ l1).trans hV1
  exact ⟨(jAj g1).trans rfl,(jAj g1).trans rfl,(jAj g1).trans rfl,(jAj g1).trans rfl,(jAj g1).trans rfl,(jAj g1).trans rfl⟩
 have HE:Hid (∀X,Below V.heap.size V X->((((X.setCell ⟨w.heap.size+1,0,none⟩ (.int .i64 (dr:Int))).setCell ⟨w.heap.size+1,1,none⟩ (.int .i64 (fl:Int))).setCell ⟨w.heap.size+1,2,none⟩ (.int .i64 ((fl:Int)+(sl:Int)))).setCell ⟨w.heap.size+1,3,none⟩ (.int .i64 (IntKind.i64.wrap (1+((fl:Int)+(sl:Int)))))).heap[w.heap.size+1]?=some (.cells (rcA fl sl dr) 255 (0,0))/\Below w.heap.size w ((((X.setCell ⟨w.heap.size+1,0,none⟩ (.int .i64 (dr:Int))).setCell ⟨w.heap.size+1,1,none⟩ (.int .i64 (fl:Int))).setCell ⟨w.heap.size+1,2,none⟩ (.int .i64 ((fl:Int)+(sl:Int)))).setCell ⟨w.heap.size+1,3,none⟩ (.int .i64 (IntKind.i64.wrap (1+((fl:Int)+(sl:Int))))))):=fun X hX=>by
  refine ⟨(Tr.jEx ((hX.block _ l2).trans hV2)).trans ?_,?_⟩
  ·unfold rcA
   rw[show IntKind.i64.wrap (1+((fl:Int)+(sl:Int)))=((1+(fl+sl):Nat):Int) by rw[QX];omega,show (fl:Int)+(sl:Int)=((fl+sl:Nat):Int) by omega]
  ·have h0:=hbV.trans (hX.mono hbV.size)
   exact (((h0.setCell (by simp) _).setCell (by simp) _).setCell (by simp) _).setCell (by simp) _
 have XD:Below V.heap.size V V.drew:=(Qq _ _).drew
 clear hbV hV1 hV2
 go_enter func175,ntmps175
 go_wp2_with fail
 clear hV
 go_region_held_law (fun X=>X.cell? ⟨w.heap.size,0,none⟩=some (.int .i64 (sl:Int))/\X.cell? ⟨w.heap.size,1,none⟩=some (.int .i64 (fl:Int))/\X.cell? ⟨w.heap.size,2,none⟩=some (.int .i64 (dr:Int))/\X.cell? ⟨w.heap.size,3,none⟩=some (.int .i64 (mf:Int))/\X.cell? ⟨w.heap.size,4,none⟩=some (.int .i64 (ls:Int))/\X.cell? ⟨w.heap.size,5,none⟩=some (.int .i64 (pg:Int))) (first | exact HS.out _ (by assumption) | go_keep) (first | (go_at_call 206;refine (KR.out _ (by assumption)).mono ?_;rintro e w5 ⟨rfl,hb5⟩;obtain ⟨z0,z1,z2,z3,y0,y1,y2,y3⟩:=HZ.out w5 hb5))
 all_goals
  obtain ⟨E1,E2⟩:=HE.out w5 hb5
  clear HE HS HZ KR
  go_wp2
  exact Qw (Tr.jB9 rfl _ _ (w.heap.size+1) 255 _ (0,0) _ rfl E1 underlying255 rfl size147) rfl ⟨rfl,E2⟩
def staL (fl sl dr:Nat):Nat->Nat
 | 0=>0
 | 1=>36*dr
 | 2=>36*dr+40*fl
 | 3=>36*dr+40*fl+40*(fl+sl)
 | _=>36*dr+40*fl+40*(fl+sl)+4*(1+(fl+sl))
theorem startOf_any (sl fl dr mf ls pg p:Nat)(hp:p<=4)(hc:Cn.In ⟨sl,fl,dr,mf,ls,pg⟩)(w:World)(hT:RT w):Calls prog 141 #[.agg #[.int .i64 (sl:Int),.int .i64 (fl:Int),.int .i64 (dr:Int),.int .i64 (mf:Int),.int .i64 (ls:Int),.int .i64 (pg:Int)],.int .i64 (p:Int)] w fun e w'=>e=.returned (.int .i64 (staL fl sl dr p:Int))/\Below w.heap.size w w':=by
 have KR0:=fun V=>rowCounts_any sl fl dr mf ls pg hc V
 have h1:sl<=64:=hc.2.1
 have h2:fl<=65536:=hc.2.2.2.1
 have h3:dr<=4096:=hc.2.2.2.2.1
 clear hc
 unfold rcA at KR0
 obtain ⟨R,hR⟩:∃R,fl+sl=R:=⟨_,rfl⟩
 have HR:Hid (fl+sl=R):=hR
 have hR1:R<=65600:=by omega
 rw[hR] at KR0
 clear hR
 go_enter func141,ntmps141
 go_wp2_with fail
 refine (KR0 _).mono ?_
 rintro e w1 ⟨rfl,hb1⟩
 have HRT:Hid (RT w1):=(hT.next ((Qq _ _).alloc (Qj _) _)).next hb1
 obtain ⟨V,hV,hbV,hV1⟩:=jA4 w1 #[.int .i64 (dr:Int),.int .i64 (fl:Int),.int .i64 (R:Int),.int .i64 (1+(R:Int))] 255
 have l1:=jAv hV1
 have HC:Hid (∀X,Below V.heap.size V X->RT X/\X.heap[w1.heap.size]?=some (.cells #[.int .i64 (dr:Int),.int .i64 (fl:Int),.int .i64 (R:Int),.int .i64 (1+(R:Int))] 255 (0,0))):=fun X hX=>⟨(HRT.out.next hbV).next hX,(hX.block _ l1).trans hV1⟩
 have HB:Hid (∀X,Below V.heap.size V X->Below w.heap.size w X):=fun X hX=>by
  have h0:Below w.heap.size w w1:=((Qq _ _).alloc (Qj _) _).trans (hb1.mono (by simp))
  have h1:=h0.trans (hbV.mono h0.size)
  exact h1.trans (hX.mono h1.size)
 clear hbV hV1 HRT hb1 hT
 go_wp2_with fail
 go_loopg [5,11] p (fun gk sv iv wr=>∃k:Nat,k+gk=p/\sv=.int .i64 (staL fl sl dr k:Int)/\iv=.int .i64 (k:Int)/\Hid (Below V.heap.size V wr))
 case atStart=>exact ⟨0,by omega,rfl,rfl,Qq _ _⟩
 case round =>
  obtain ⟨k,hk,rfl,rfl,hbr⟩:=hrel
  by_cases hlt:k<p
  ·obtain ⟨hX1,hX2⟩:=HC.out wr hbr.out
   obtain ⟨t0,t1,t2,t3⟩:=hX1.cells
   have e0:wr.cell? ⟨w1.heap.size,0,none⟩=some (.int .i64 (dr:Int)):=(jAj hX2).trans rfl
   have e1:wr.cell? ⟨w1.heap.size,1,none⟩=some (.int .i64 (fl:Int)):=(jAj hX2).trans rfl
   have e2:wr.cell? ⟨w1.heap.size,2,none⟩=some (.int .i64 (R:Int)):=(jAj hX2).trans rfl
   have e3:wr.cell? ⟨w1.heap.size,3,none⟩=some (.int .i64 (1+(R:Int))):=(jAj hX2).trans rfl
   have hltI:(k:Int)<(p:Int):=by omega
   obtain ⟨s0,hs0⟩:∃s0:Nat,staL fl sl dr k=s0:=⟨_,rfl⟩
   rw[hs0]
   clear hX1 hX2 HC
   rcases (show k=0\/k=1\/k=2\/k=3 by omega) with rfl | rfl | rfl | rfl
   ·have hs1:0=s0:=hs0
    have hs2:s0<=6000000:=by omega
    have HE:Hid ((staL fl sl dr 1:Int)=(s0:Int)+(dr:Int)*36):=by
     have:=HR.out
     show ((36*dr:Nat):Int)=_
     omega
    clear hs0 hs1
    go_wp2_with fail
    go_quiet (fail)
    go_wp2
    go_roundg (gk-1)
    case measure=>omega
    case rel=>exact ⟨1,by omega,by rw[HE.out],rfl,bdr hbr.out _⟩
   ·have hs1:36*dr=s0:=hs0
    have hs2:s0<=6000000:=by omega
    have HE:Hid ((staL fl sl dr 2:Int)=(s0:Int)+(fl:Int)*40):=by
     have:=HR.out
     show ((36*dr+40*fl:Nat):Int)=_
     omega
    clear hs0 hs1
    go_wp2_with fail
    go_quiet (fail)
    go_wp2
    go_roundg (gk-1)
    case measure=>omega
    case rel=>exact ⟨2,by omega,by rw[HE.out],rfl,bdr hbr.out _⟩
   ·have hs1:36*dr+40*fl=s0:=hs0
    have hs2:s0<=6000000:=by omega
    have HE:Hid ((staL fl sl dr 3:Int)=(s0:Int)+(R:Int)*40):=by
     have:=HR.out
     show ((36*dr+40*fl+40*(fl+sl):Nat):Int)=_
     omega
    clear hs0 hs1
    go_wp2_with fail
    go_quiet (fail)
    go_wp2
    go_roundg (gk-1)
    case measure=>omega
    case rel=>exact ⟨3,by omega,by rw[HE.out],rfl,bdr hbr.out _⟩
   ·have hs1:36*dr+40*fl+40*(fl+sl)=s0:=hs0
    have hs2:s0<=6000000:=by omega
    have HE:Hid ((staL fl sl dr 4:Int)=(s0:Int)+(1+(R:Int))*4):=by
     have:=HR.out
     show ((36*dr+40*fl+40*(fl+sl)+4*(1+(fl+sl)):Nat):Int)=_
     omega
    clear hs0 hs1
    go_wp2_with fail
    go_quiet (fail)
    go_wp2
    go_roundg (gk-1)
    case measure=>omega
    case rel=>exact ⟨4,by omega,by rw[HE.out],rfl,bdr hbr.out _⟩
  ·obtain rfl:k=p:=by omega
   have hltI:¬(k:Int)<(k:Int):=by omega
   go_wp2
   go_ret
   exact ⟨rfl,HB.out _ hbr.out⟩
theorem staL_len (sl fl dr mf ls pg:Nat):staL fl sl dr 4=Cn.len ⟨sl,fl,dr,mf,ls,pg⟩:=by
 show 36*dr+40*fl+40*(fl+sl)+4*(1+(fl+sl))=36*dr+40*fl+44*(fl+sl)+4
 omega
theorem pageCount_any (sl fl dr mf ls pg:Nat)(hc:Cn.In ⟨sl,fl,dr,mf,ls,pg⟩)(w:World)(hT:RT w):Calls prog 104 #[.agg #[.int .i64 (sl:Int),.int .i64 (fl:Int),.int .i64 (dr:Int),.int .i64 (mf:Int),.int .i64 (ls:Int),.int .i64 (pg:Int)]] w fun e w'=>e=.returned (.int .i64 (Cn.pgs ⟨sl,fl,dr,mf,ls,pg⟩:Int))/\Below w.heap.size w w':=by
 obtain ⟨V,hV,hbV,hVs,hV1⟩:=cf_new w sl fl dr mf ls pg
 obtain ⟨b1,b2,b3,b4,-⟩:=hc.len
 obtain ⟨L,hL⟩:∃L,Cn.len ⟨sl,fl,dr,mf,ls,pg⟩=L:=⟨_,rfl⟩
 obtain ⟨B,hB⟩:∃B,Cn.body ⟨sl,fl,dr,mf,ls,pg⟩=B:=⟨_,rfl⟩
 obtain ⟨M,hM⟩:∃M,(L+B-1) / B=M:=⟨_,rfl⟩
 have HM:Hid (((L:Int)+(B:Int)-1) / (B:Int)=(M:Int)):=by
  show _=_
  rw[<-hM,Int.natCast_ediv]
  congr 1
  omega
 rw[hL] at b1 b2
 rw[hB] at b3 b4
 have e:Cn.pgs ⟨sl,fl,dr,mf,ls,pg⟩=M:=by
  show (Cn.len _+Cn.body _-1) / Cn.body _=M
  rw[hL,hB,hM]
 rw[e]
 have K1:Hid (∀X,Below V.heap.size V X->Calls prog 141 #[.agg #[.int .i64 (sl:Int),.int .i64 (fl:Int),.int .i64 (dr:Int),.int .i64 (mf:Int),.int .i64 (ls:Int),.int .i64 (pg:Int)],.int .i64 4] X fun e w'=>e=.returned (.int .i64 (L:Int))/\Below V.heap.size V w'):=fun X hX=>by
  refine (startOf_any sl fl dr mf ls pg 4 (Qj _) hc X ((hT.next hbV).next hX)).mono ?_
  rintro e w' ⟨rfl,hb⟩
  exact ⟨by rw[staL_len sl fl dr mf ls pg,hL],hX.trans (hb.mono hX.size)⟩
 have K2:Hid (∀X,Below V.heap.size V X->Calls prog 142 #[.agg #[.int .i64 (sl:Int),.int .i64 (fl:Int),.int .i64 (dr:Int),.int .i64 (mf:Int),.int .i64 (ls:Int),.int .i64 (pg:Int)]] X fun e w'=>e=.returned (.int .i64 (B:Int))/\Below V.heap.size V w'):=fun X hX=>by
  refine (bodySize_any sl fl dr mf ls pg hc X).mono ?_
  rintro e w' ⟨rfl,hb⟩
  exact ⟨by rw[<-hB];rfl,hX.trans (hb.mono hX.size)⟩
 have HV:Hid (∀X,Below V.heap.size V X->Below w.heap.size w X):=fun X hX=>hbV.trans (hX.mono hbV.size)
 have XD:Below V.heap.size V V.drew:=(Qq _ _).drew
 have HS:Hid (∀X,Below V.heap.size V X->X.cell? ⟨w.heap.size,0,none⟩=some (.int .i64 (sl:Int))/\X.cell? ⟨w.heap.size,1,none⟩=some (.int .i64 (fl:Int))/\X.cell? ⟨w.heap.size,2,none⟩=some (.int .i64 (dr:Int))/\X.cell? ⟨w.heap.size,3,none⟩=some (.int .i64 (mf:Int))/\X.cell? ⟨w.heap.size,4,none⟩=some (.int .i64 (ls:Int))/\X.cell? ⟨w.heap.size,5,none⟩=some (.int .i64 (pg:Int))):=fun X hX=>(hV1 X hX).2
 clear hV1 hc hT hL hB hM e hbV hVs
 go_enter func104,ntmps104
 go_wp2_with fail
 go_region_held_law (fun X=>X.cell? ⟨w.heap.size,0,none⟩=some (.int .i64 (sl:Int))/\X.cell? ⟨w.heap.size,1,none⟩=some (.int .i64 (fl:Int))/\X.cell? ⟨w.heap.size,2,none⟩=some (.int .i64 (dr:Int))/\X.cell? ⟨w.heap.size,3,none⟩=some (.int .i64 (mf:Int))/\X.cell? ⟨w.heap.size,4,none⟩=some (.int .i64 (ls:Int))/\X.cell? ⟨w.heap.size,5,none⟩=some (.int .i64 (pg:Int))) (first | exact HS.out _ (by assumption) | go_keep) (first | (go_at_call 141;refine (K1.out _ (by assumption)).mono ?_;rintro e w5 ⟨rfl,hb5⟩) | (go_at_call 142;refine (K2.out _ (by assumption)).mono ?_;rintro e w5 ⟨rfl,hb5⟩))
 all_goals
  go_wp2
  go_ret
  exact ⟨by rw[HM.out];rfl,HV.out _ hb5⟩
theorem mayNo0 (sl fl dr mf ls pg:Int)  (h0:¬(1<=sl/\sl<=64))(w:World):Calls prog 68 #[.agg #[.int .i64 sl,.int .i64 fl,.int .i64 dr,.int .i64 mf,.int .i64 ls,.int .i64 pg]] w fun e w'=>e=.returned (.bool false)/\Below w.heap.size w w':=by
 have k0:=jB0 sl 1 64
 rw[QY h0] at k0
 clear h0
 go_enter func68,ntmps68
 go_wp2_with fail
 refine (k0 _).mono ?_
 rintro e w5 ⟨rfl,rfl⟩
 go_wp2
 go_ret
 exact ⟨rfl,(Qq _ _).alloc (Qj _) _⟩
theorem mayNo1 (sl fl dr mf ls pg:Int)(h0:1<=sl/\sl<=64)(h1:¬(1<=fl/\fl<=65536))(w:World):Calls prog 68 #[.agg #[.int .i64 sl,.int .i64 fl,.int .i64 dr,.int .i64 mf,.int .i64 ls,.int .i64 pg]] w fun e w'=>e=.returned (.bool false)/\Below w.heap.size w w':=by
 have k0:=jB0 sl 1 64
 rw[QQ h0] at k0
 have k1:=jB0 fl 1 65536
 rw[QY h1] at k1
 clear h0 h1
 go_enter func68,ntmps68
 go_wp2_with fail
 refine (k0 _).mono ?_
 rintro e w5 ⟨rfl,rfl⟩
 go_wp2_with fail
 refine (k1 _).mono ?_
 rintro e w5 ⟨rfl,rfl⟩
 go_wp2
 go_ret
 exact ⟨rfl,(Qq _ _).alloc (Qj _) _⟩
theorem mayNo2 (sl fl dr mf ls pg:Int)(h0:1<=sl/\sl<=64)(h1:1<=fl/\fl<=65536)(h2:¬(0<=dr/\dr<=4096))(w:World):Calls prog 68 #[.agg #[.int .i64 sl,.int .i64 fl,.int .i64 dr,.int .i64 mf,.int .i64 ls,.int .i64 pg]] w fun e w'=>e=.returned (.bool false)/\Below w.heap.size w w':=by
 have k0:=jB0 sl 1 64
 rw[QQ h0] at k0
 have k1:=jB0 fl 1 65536
 rw[QQ h1] at k1
 have k2:=jB0 dr 0 4096
 rw[QY h2] at k2
 clear h0 h1 h2
 go_enter func68,ntmps68
 go_wp2_with fail
 refine (k0 _).mono ?_
 rintro e w5 ⟨rfl,rfl⟩
 go_wp2_with fail
 refine (k1 _).mono ?_
 rintro e w5 ⟨rfl,rfl⟩
 go_wp2_with fail
 refine (k2 _).mono ?_
 rintro e w5 ⟨rfl,rfl⟩
 go_wp2
 go_ret
 exact ⟨rfl,(Qq _ _).alloc (Qj _) _⟩
theorem mayNo3 (sl fl dr mf ls pg:Int)(h0:1<=sl/\sl<=64)(h1:1<=fl/\fl<=65536)(h2:0<=dr/\dr<=4096)(h3:¬(0<=mf/\mf<=65536))(w:World):Calls prog 68 #[.agg #[.int .i64 sl,.int .i64 fl,.int .i64 dr,.int .i64 mf,.int .i64 ls,.int .i64 pg]] w fun e w'=>e=.returned (.bool false)/\Below w.heap.size w w':=by
 have k0:=jB0 sl 1 64
 rw[QQ h0] at k0
 have k1:=jB0 fl 1 65536
 rw[QQ h1] at k1
 have k2:=jB0 dr 0 4096
 rw[QQ h2] at k2
 have k3:=jB0 mf 0 65536
 rw[QY h3] at k3
 clear h0 h1 h2 h3
 go_enter func68,ntmps68
 go_wp2_with fail
 refine (k0 _).mono ?_
 rintro e w5 ⟨rfl,rfl⟩
 go_wp2_with fail
 refine (k1 _).mono ?_
 rintro e w5 ⟨rfl,rfl⟩
 go_wp2_with fail
 refine (k2 _).mono ?_
 rintro e w5 ⟨rfl,rfl⟩
 go_wp2_with fail
 refine (k3 _).mono ?_
 rintro e w5 ⟨rfl,rfl⟩
 go_wp2
 go_ret
 exact ⟨rfl,(Qq _ _).alloc (Qj _) _⟩
theorem mayNo4 (sl fl dr mf ls pg:Int)(h0:1<=sl/\sl<=64)(h1:1<=fl/\fl<=65536)(h2:0<=dr/\dr<=4096)(h3:0<=mf/\mf<=65536)(h4:¬(16<=ls/\ls<=65536))(w:World):Calls prog 68 #[.agg #[.int .i64 sl,.int .i64 fl,.int .i64 dr,.int .i64 mf,.int .i64 ls,.int .i64 pg]] w fun e w'=>e=.returned (.bool false)/\Below w.heap.size w w':=by
 have k0:=jB0 sl 1 64
 rw[QQ h0] at k0
 have k1:=jB0 fl 1 65536
 rw[QQ h1] at k1
 have k2:=jB0 dr 0 4096
 rw[QQ h2] at k2
 have k3:=jB0 mf 0 65536
 rw[QQ h3] at k3
 have k4:=jB0 ls 16 65536
 rw[QY h4] at k4
 clear h0 h1 h2 h3 h4
 go_enter func68,ntmps68
 go_wp2_with fail
 refine (k0 _).mono ?_
 rintro e w5 ⟨rfl,rfl⟩
 go_wp2_with fail
 refine (k1 _).mono ?_
 rintro e w5 ⟨rfl,rfl⟩
 go_wp2_with fail
 refine (k2 _).mono ?_
 rintro e w5 ⟨rfl,rfl⟩
 go_wp2_with fail
 refine (k3 _).mono ?_
 rintro e w5 ⟨rfl,rfl⟩
 go_wp2_with fail
 refine (k4 _).mono ?_
 rintro e w5 ⟨rfl,rfl⟩
 go_wp2
 go_ret
 exact ⟨rfl,(Qq _ _).alloc (Qj _) _⟩
theorem mayNo5 (sl fl dr mf ls pg:Int)(h0:1<=sl/\sl<=64)(h1:1<=fl/\fl<=65536)(h2:0<=dr/\dr<=4096)(h3:0<=mf/\mf<=65536)(h4:16<=ls/\ls<=65536)(h5:¬(64<=pg/\pg<=65536))(w:World):Calls prog 68 #[.agg #[.int .i64 sl,.int .i64 fl,.int .i64 dr,.int .i64 mf,.int .i64 ls,.int .i64 pg]] w fun e w'=>e=.returned (.bool false)/\Below w.heap.size w w':=by
 have k0:=jB0 sl 1 64
 rw[QQ h0] at k0
 have k1:=jB0 fl 1 65536
 rw[QQ h1] at k1
 have k2:=jB0 dr 0 4096
 rw[QQ h2] at k2
 have k3:=jB0 mf 0 65536
 rw[QQ h3] at k3
 have k4:=jB0 ls 16 65536
 rw[QQ h4] at k4
 have k5:=jB0 pg 64 65536
 rw[QY h5] at k5
 clear h0 h1 h2 h3 h4 h5
 go_enter func68,ntmps68
 go_wp2_with fail
 refine (k0 _).mono ?_
 rintro e w5 ⟨rfl,rfl⟩
 go_wp2_with fail
 refine (k1 _).mono ?_
 rintro e w5 ⟨rfl,rfl⟩
 go_wp2_with fail
 refine (k2 _).mono ?_
 rintro e w5 ⟨rfl,rfl⟩
 go_wp2_with fail
 refine (k3 _).mono ?_
 rintro e w5 ⟨rfl,rfl⟩
 go_wp2_with fail
 refine (k4 _).mono ?_
 rintro e w5 ⟨rfl,rfl⟩
 go_wp2_with fail
 refine (k5 _).mono ?_
 rintro e w5 ⟨rfl,rfl⟩
 go_wp2
 go_ret
 exact ⟨rfl,(Qq _ _).alloc (Qj _) _⟩
theorem mayIn (sl fl dr mf ls pg:Nat)(hc:Cn.In ⟨sl,fl,dr,mf,ls,pg⟩)(w:World)(hT:RT w):Calls prog 68 #[.agg #[.int .i64 (sl:Int),.int .i64 (fl:Int),.int .i64 (dr:Int),.int .i64 (mf:Int),.int .i64 (ls:Int),.int .i64 (pg:Int)]] w fun e w'=>e=.returned (.bool (decide (Cn.pgs ⟨sl,fl,dr,mf,ls,pg⟩<=1024)))/\Below w.heap.size w w':=by
 have hal:Below w.heap.size w (w.alloc (.cells #[.int .i64 (sl:Int),.int .i64 (fl:Int),.int .i64 (dr:Int),.int .i64 (mf:Int),.int .i64 (ls:Int),.int .i64 (pg:Int)] 23)):=(Qq _ _).alloc (Qj _) _
 have KP:=pageCount_any sl fl dr mf ls pg hc _ (hT.next hal)
 obtain ⟨M,hM⟩:∃M,Cn.pgs ⟨sl,fl,dr,mf,ls,pg⟩=M:=⟨_,rfl⟩
 rw[hM] at KP ⊢
 obtain ⟨c1,c2,c3,c4,c5,c6,c7,c8,c9,c10⟩:=hc
 have hMI:decide ((M:Int)<=1024)=decide (M<=1024):=by simp;omega
 clear hM hT
 have k0:=jB0 (sl:Int) 1 64
 rw[QQ (by simp only at *;omega)] at k0
 have k1:=jB0 (fl:Int) 1 65536
 rw[QQ (by simp only at *;omega)] at k1
 have k2:=jB0 (dr:Int) 0 4096
 rw[QQ (by simp only at *;omega)] at k2
 have k3:=jB0 (mf:Int) 0 65536
 rw[QQ (by simp only at *;omega)] at k3
 have k4:=jB0 (ls:Int) 16 65536
 rw[QQ (by simp only at *;omega)] at k4
 have k5:=jB0 (pg:Int) 64 65536
 rw[QQ (by simp only at *;omega)] at k5
 clear c1 c2 c3 c4 c5 c6 c7 c8 c9 c10
 go_enter func68,ntmps68
 go_wp2_with fail
 refine (k0 _).mono ?_
 rintro e w5 ⟨rfl,rfl⟩
 go_wp2_with fail
 refine (k1 _).mono ?_
 rintro e w5 ⟨rfl,rfl⟩
 go_wp2_with fail
 refine (k2 _).mono ?_
 rintro e w5 ⟨rfl,rfl⟩
 go_wp2_with fail
 refine (k3 _).mono ?_
 rintro e w5 ⟨rfl,rfl⟩
 go_wp2_with fail
 refine (k4 _).mono ?_
 rintro e w5 ⟨rfl,rfl⟩
 go_wp2_with fail
 refine (k5 _).mono ?_
 rintro e w5 ⟨rfl,rfl⟩
 go_wp2_with fail
 refine KP.mono ?_
 rintro e w6 ⟨rfl,hb6⟩
 go_wp2
 go_ret
 exact ⟨by rw[<-hMI];rfl,hal.trans (hb6.mono hal.size)⟩
theorem mayBe_any (c:Cf)(w:World)(hT:RT w):Calls prog 68 #[cfV c] w fun e w'=>e=.returned (.bool (decide c.May))/\Below w.heap.size w w':=by
 by_cases h:c.In
 ·obtain ⟨n,hn,rfl⟩:=cn_of h
  rw[show decide n.cf.May=decide (n.pgs<=1024) from decide_eq_decide.2 (may_iff n hn)]
  exact mayIn n.sl n.fl n.dr n.mf n.ls n.pg hn w hT
 ·rw[QY (fun x:c.May=>h x.1)]
  obtain ⟨sl,fl,dr,mf,ls,pg⟩:=c
  simp only[Cf.In] at h
  unfold cfV cfA
  by_cases h0:1<=sl/\sl<=64
  case neg=>exact mayNo0 sl fl dr mf ls pg h0 w
  by_cases h1:1<=fl/\fl<=65536
  case neg=>exact mayNo1 sl fl dr mf ls pg h0 h1 w
  by_cases h2:0<=dr/\dr<=4096
  case neg=>exact mayNo2 sl fl dr mf ls pg h0 h1 h2 w
  by_cases h3:0<=mf/\mf<=65536
  case neg=>exact mayNo3 sl fl dr mf ls pg h0 h1 h2 h3 w
  by_cases h4:16<=ls/\ls<=65536
  case neg=>exact mayNo4 sl fl dr mf ls pg h0 h1 h2 h3 h4 w
  by_cases h5:64<=pg/\pg<=65536
  case neg=>exact mayNo5 sl fl dr mf ls pg h0 h1 h2 h3 h4 h5 w
  exact absurd ⟨h0.1,h0.2,h1.1,h1.2,h2.1,h2.2,h3.1,h3.2,h4.1,h4.2,h5.1,h5.2⟩ h
def chkE (c:Cf):Int:=if c.May then 0 else 140
theorem check_any (c:Cf)(w:World)(hT:RT w):Calls prog 47 #[cfV c] w fun e w'=>e=.returned (.int .i64 (chkE c))/\Below w.heap.size w w':=by
 have hal:Below w.heap.size w (w.alloc (.cells (cfA c) 23)):=(Qq _ _).alloc (Qj _) _
 have KM:=mayBe_any c _ (hT.next hal)
 by_cases h:c.May
 ·rw[QQ h] at KM
  rw[show chkE c=0 from if_pos h]
  unfold cfV cfA at *
  clear h
  go_enter func47,ntmps47
  go_wp2_with fail
  refine KM.mono ?_
  rintro e w6 ⟨rfl,hb6⟩
  go_wp2
  go_ret
  exact ⟨rfl,hal.trans (hb6.mono hal.size)⟩
 ·rw[QY h] at KM
  rw[show chkE c=140 from if_neg h]
  unfold cfV cfA at *
  clear h
  go_enter func47,ntmps47
  go_wp2_with fail
  refine KM.mono ?_
  rintro e w6 ⟨rfl,hb6⟩
  go_wp2
  go_ret
  exact ⟨rfl,hal.trans (hb6.mono hal.size)⟩
theorem rlength_any (sl fl dr mf ls pg:Nat)(hc:Cn.In ⟨sl,fl,dr,mf,ls,pg⟩)(w:World):Calls prog 64 #[.agg #[.int .i64 (sl:Int),.int .i64 (fl:Int),.int .i64 (dr:Int),.int .i64 (mf:Int),.int .i64 (ls:Int),.int .i64 (pg:Int)]] w fun e w'=>e=.returned (.int .i64 (Cn.len ⟨sl,fl,dr,mf,ls,pg⟩:Int))/\Below w.heap.size w w':=by
 have h1:sl<=64:=hc.2.1
 have h2:fl<=65536:=hc.2.2.2.1
 have h3:dr<=4096:=hc.2.2.2.2.1
 obtain ⟨L,hL⟩:∃L,Cn.len ⟨sl,fl,dr,mf,ls,pg⟩=L:=⟨_,rfl⟩
 have HL:Hid ((L:Int)=36*(dr:Int)+40*(fl:Int)+44*((fl:Int)+(sl:Int))+4):=by
  show _=_
  rw[<-hL]
  unfold Cn.len
  simp
 rw[hL]
 clear hc hL
 go_enter func64,ntmps64
 go_wp2
 go_ret
 exact ⟨by rw[HL.out];rfl,(Qq _ _).alloc (Qj _) _⟩
theorem rpgs_any (sl fl dr mf ls pg:Nat)(hc:Cn.In ⟨sl,fl,dr,mf,ls,pg⟩)(w:World):Calls prog 39 #[.agg #[.int .i64 (sl:Int),.int .i64 (fl:Int),.int .i64 (dr:Int),.int .i64 (mf:Int),.int .i64 (ls:Int),.int .i64 (pg:Int)]] w fun e w'=>e=.returned (.int .i64 (Cn.pgs ⟨sl,fl,dr,mf,ls,pg⟩:Int))/\Below w.heap.size w w':=by
 obtain ⟨b1,b2,b3,b4,b5⟩:=hc.len
 have hal:Below w.heap.size w (w.alloc (.cells #[.int .i64 (sl:Int),.int .i64 (fl:Int),.int .i64 (dr:Int),.int .i64 (mf:Int),.int .i64 (ls:Int),.int .i64 (pg:Int)] 23)):=(Qq _ _).alloc (Qj _) _
 have KL:=rlength_any sl fl dr mf ls pg hc (w.alloc (.cells #[.int .i64 (sl:Int),.int .i64 (fl:Int),.int .i64 (dr:Int),.int .i64 (mf:Int),.int .i64 (ls:Int),.int .i64 (pg:Int)] 23))
 obtain ⟨L,hL⟩:∃L,Cn.len ⟨sl,fl,dr,mf,ls,pg⟩=L:=⟨_,rfl⟩
 obtain ⟨B,hB⟩:∃B,Cn.body ⟨sl,fl,dr,mf,ls,pg⟩=B:=⟨_,rfl⟩
 obtain ⟨M,hM⟩:∃M,(L+B-1) / B=M:=⟨_,rfl⟩
 rw[hL] at b1 b2 KL
 rw[hB] at b3 b4 b5
 have HM:Hid (((L:Int)+((pg:Int)-5)-1) / ((pg:Int)-5)=(M:Int)):=by
  show _=_
  simp only at b5
  rw[<-hM,Int.natCast_ediv,show (pg:Int)-5=(B:Int) by omega]
  congr 1
  omega
 have e:Cn.pgs ⟨sl,fl,dr,mf,ls,pg⟩=M:=by
  show (Cn.len _+Cn.body _-1) / Cn.body _=M
  rw[hL,hB,hM]
 rw[e]
 have p1:64<=pg:=hc.2.2.2.2.2.2.2.2.1
 have p2:pg<=65536:=hc.2.2.2.2.2.2.2.2.2
 clear hL hB hM e hc b3 b4 b5
 go_enter func39,ntmps39
 go_wp2_with fail
 refine KL.mono ?_
 rintro e w6 ⟨rfl,hb6⟩
 go_wp2
 go_ret
 exact ⟨by rw[HM.out];rfl,hal.trans (hb6.mono hal.size)⟩
theorem rno0 (sl fl dr mf ls pg:Int)  (h0:¬1<=sl)(w:World):Calls prog 22 #[.agg #[.int .i64 sl,.int .i64 fl,.int .i64 dr,.int .i64 mf,.int .i64 ls,.int .i64 pg]] w fun e w'=>e=.returned (.int .i64 140)/\Below w.heap.size w w':=by
 go_enter func22,ntmps22
 go_wp2
 go_ret
 exact ⟨rfl,(Qq _ _).alloc (Qj _) _⟩
theorem rno1 (sl fl dr mf ls pg:Int)(h0:1<=sl)(h1:¬sl<=64)(w:World):Calls prog 22 #[.agg #[.int .i64 sl,.int .i64 fl,.int .i64 dr,.int .i64 mf,.int .i64 ls,.int .i64 pg]] w fun e w'=>e=.returned (.int .i64 140)/\Below w.heap.size w w':=by
 go_enter func22,ntmps22
 go_wp2
 go_ret
 exact ⟨rfl,(Qq _ _).alloc (Qj _) _⟩
theorem rno2 (sl fl dr mf ls pg:Int)(h0:1<=sl)(h1:sl<=64)(h2:¬1<=fl)(w:World):Calls prog 22 #[.agg #[.int .i64 sl,.int .i64 fl,.int .i64 dr,.int .i64 mf,.int .i64 ls,.int .i64 pg]] w fun e w'=>e=.returned (.int .i64 140)/\Below w.heap.size w w':=by
 go_enter func22,ntmps22
 go_wp2
 go_ret
 exact ⟨rfl,(Qq _ _).alloc (Qj _) _⟩
theorem rno3 (sl fl dr mf ls pg:Int)(h0:1<=sl)(h1:sl<=64)(h2:1<=fl)(h3:¬fl<=65536)(w:World):Calls prog 22 #[.agg #[.int .i64 sl,.int .i64 fl,.int .i64 dr,.int .i64 mf,.int .i64 ls,.int .i64 pg]] w fun e w'=>e=.returned (.int .i64 140)/\Below w.heap.size w w':=by
 go_enter func22,ntmps22
 go_wp2
 go_ret
 exact ⟨rfl,(Qq _ _).alloc (Qj _) _⟩
theorem rno4 (sl fl dr mf ls pg:Int)(h0:1<=sl)(h1:sl<=64)(h2:1<=fl)(h3:fl<=65536)(h4:¬0<=dr)(w:World):Calls prog 22 #[.agg #[.int .i64 sl,.int .i64 fl,.int .i64 dr,.int .i64 mf,.int .i64 ls,.int .i64 pg]] w fun e w'=>e=.returned (.int .i64 140)/\Below w.heap.size w w':=by
 go_enter func22,ntmps22
 go_wp2
 go_ret
 exact ⟨rfl,(Qq _ _).alloc (Qj _) _⟩
theorem rno5 (sl fl dr mf ls pg:Int)(h0:1<=sl)(h1:sl<=64)(h2:1<=fl)(h3:fl<=65536)(h4:0<=dr)(h5:¬dr<=4096)(w:World):Calls prog 22 #[.agg #[.int .i64 sl,.int .i64 fl,.int .i64 dr,.int .i64 mf,.int .i64 ls,.int .i64 pg]] w fun e w'=>e=.returned (.int .i64 140)/\Below w.heap.size w w':=by
 go_enter func22,ntmps22
 go_wp2
 go_ret
 exact ⟨rfl,(Qq _ _).alloc (Qj _) _⟩
theorem rno6 (sl fl dr mf ls pg:Int)(h0:1<=sl)(h1:sl<=64)(h2:1<=fl)(h3:fl<=65536)(h4:0<=dr)(h5:dr<=4096)(h6:¬0<=mf)(w:World):Calls prog 22 #[.agg #[.int .i64 sl,.int .i64 fl,.int .i64 dr,.int .i64 mf,.int .i64 ls,.int .i64 pg]] w fun e w'=>e=.returned (.int .i64 140)/\Below w.heap.size w w':=by
 go_enter func22,ntmps22
 go_wp2
 go_ret
 exact ⟨rfl,(Qq _ _).alloc (Qj _) _⟩
theorem rno7 (sl fl dr mf ls pg:Int)(h0:1<=sl)(h1:sl<=64)(h2:1<=fl)(h3:fl<=65536)(h4:0<=dr)(h5:dr<=4096)(h6:0<=mf)(h7:¬mf<=65536)(w:World):Calls prog 22 #[.agg #[.int .i64 sl,.int .i64 fl,.int .i64 dr,.int .i64 mf,.int .i64 ls,.int .i64 pg]] w fun e w'=>e=.returned (.int .i64 140)/\Below w.heap.size w w':=by
 go_enter func22,ntmps22
 go_wp2
 go_ret
 exact ⟨rfl,(Qq _ _).alloc (Qj _) _⟩
theorem rno8 (sl fl dr mf ls pg:Int)(h0:1<=sl)(h1:sl<=64)(h2:1<=fl)(h3:fl<=65536)(h4:0<=dr)(h5:dr<=4096)(h6:0<=mf)(h7:mf<=65536)(h8:¬16<=ls)(w:World):Calls prog 22 #[.agg #[.int .i64 sl,.int .i64 fl,.int .i64 dr,.int .i64 mf,.int .i64 ls,.int .i64 pg]] w fun e w'=>e=.returned (.int .i64 140)/\Below w.heap.size w w':=by
 go_enter func22,ntmps22
 go_wp2
 go_ret
 exact ⟨rfl,(Qq _ _).alloc (Qj _) _⟩
theorem rno9 (sl fl dr mf ls pg:Int)(h0:1<=sl)(h1:sl<=64)(h2:1<=fl)(h3:fl<=65536)(h4:0<=dr)(h5:dr<=4096)(h6:0<=mf)(h7:mf<=65536)(h8:16<=ls)(h9:¬ls<=65536)(w:World):Calls prog 22 #[.agg #[.int .i64 sl,.int .i64 fl,.int .i64 dr,.int .i64 mf,.int .i64 ls,.int .i64 pg]] w fun e w'=>e=.returned (.int .i64 140)/\Below w.heap.size w w':=by
 go_enter func22,ntmps22
 go_wp2
 go_ret
 exact ⟨rfl,(Qq _ _).alloc (Qj _) _⟩
theorem rno10 (sl fl dr mf ls pg:Int)(h0:1<=sl)(h1:sl<=64)(h2:1<=fl)(h3:fl<=65536)(h4:0<=dr)(h5:dr<=4096)(h6:0<=mf)(h7:mf<=65536)(h8:16<=ls)(h9:ls<=65536)(h10:¬64<=pg)(w:World):Calls prog 22 #[.agg #[.int .i64 sl,.int .i64 fl,.int .i64 dr,.int .i64 mf,.int .i64 ls,.int .i64 pg]] w fun e w'=>e=.returned (.int .i64 140)/\Below w.heap.size w w':=by
 go_enter func22,ntmps22
 go_wp2
 go_ret
 exact ⟨rfl,(Qq _ _).alloc (Qj _) _⟩
theorem rno11 (sl fl dr mf ls pg:Int)(h0:1<=sl)(h1:sl<=64)(h2:1<=fl)(h3:fl<=65536)(h4:0<=dr)(h5:dr<=4096)(h6:0<=mf)(h7:mf<=65536)(h8:16<=ls)(h9:ls<=65536)(h10:64<=pg)(h11:¬pg<=65536)(w:World):Calls prog 22 #[.agg #[.int .i64 sl,.int .i64 fl,.int .i64 dr,.int .i64 mf,.int .i64 ls,.int .i64 pg]] w fun e w'=>e=.returned (.int .i64 140)/\Below w.heap.size w w':=by
 go_enter func22,ntmps22
 go_wp2
 go_ret
 exact ⟨rfl,(Qq _ _).alloc (Qj _) _⟩
theorem rin (sl fl dr mf ls pg:Nat)(hc:Cn.In ⟨sl,fl,dr,mf,ls,pg⟩)(w:World):Calls prog 22 #[.agg #[.int .i64 (sl:Int),.int .i64 (fl:Int),.int .i64 (dr:Int),.int .i64 (mf:Int),.int .i64 (ls:Int),.int .i64 (pg:Int)]] w fun e w'=>e=.returned (.int .i64 (if Cn.pgs ⟨sl,fl,dr,mf,ls,pg⟩<=1024 then 0 else 140))/\Below w.heap.size w w':=by
 have hal:Below w.heap.size w (w.alloc (.cells #[.int .i64 (sl:Int),.int .i64 (fl:Int),.int .i64 (dr:Int),.int .i64 (mf:Int),.int .i64 (ls:Int),.int .i64 (pg:Int)] 23)):=(Qq _ _).alloc (Qj _) _
 have KP:=rpgs_any sl fl dr mf ls pg hc (w.alloc (.cells #[.int .i64 (sl:Int),.int .i64 (fl:Int),.int .i64 (dr:Int),.int .i64 (mf:Int),.int .i64 (ls:Int),.int .i64 (pg:Int)] 23))
 obtain ⟨M,hM⟩:∃M,Cn.pgs ⟨sl,fl,dr,mf,ls,pg⟩=M:=⟨_,rfl⟩
 rw[hM] at KP ⊢
 obtain ⟨c1,c2,c3,c4,c5,c6,c7,c8,c9,c10⟩:=hc
 simp only at c1 c2 c3 c4 c5 c6 c7 c8 c9 c10
 have d1:1<=(sl:Int):=by omega
 have d2:(sl:Int)<=64:=by omega
 have d3:1<=(fl:Int):=by omega
 have d4:(fl:Int)<=65536:=by omega
 have d5:0<=(dr:Int):=by omega
 have d6:(dr:Int)<=4096:=by omega
 have d7:0<=(mf:Int):=by omega
 have d8:(mf:Int)<=65536:=by omega
 have d9:16<=(ls:Int):=by omega
 have d10:(ls:Int)<=65536:=by omega
 have d11:64<=(pg:Int):=by omega
 have d12:(pg:Int)<=65536:=by omega
 clear hM c1 c2 c3 c4 c5 c6 c7 c8 c9 c10
 by_cases h:M<=1024
 ·rw[if_pos h]
  have hI:¬(1024:Int)<(M:Int):=by omega
  go_enter func22,ntmps22
  go_wp2_with fail
  refine KP.mono ?_
  rintro e w6 ⟨rfl,hb6⟩
  go_wp2
  go_ret
  exact ⟨rfl,hal.trans (hb6.mono hal.size)⟩
 ·rw[if_neg h]
  have hI:(1024:Int)<(M:Int):=by omega
  go_enter func22,ntmps22
  go_wp2_with fail
  refine KP.mono ?_
  rintro e w6 ⟨rfl,hb6⟩
  go_wp2
  go_ret
  exact ⟨rfl,hal.trans (hb6.mono hal.size)⟩
theorem rcheck_any (c:Cf)(w:World):Calls prog 22 #[cfV c] w fun e w'=>e=.returned (.int .i64 (chkE c))/\Below w.heap.size w w':=by
 by_cases h:c.In
 ·obtain ⟨n,hn,rfl⟩:=cn_of h
  have e:chkE n.cf=if n.pgs<=1024 then 0 else 140:=by
   unfold chkE
   by_cases hp:n.pgs<=1024
   ·rw[if_pos hp,if_pos ((may_iff n hn).2 hp)]
   ·rw[if_neg hp,if_neg (fun x=>hp ((may_iff n hn).1 x))]
  rw[e]
  exact rin n.sl n.fl n.dr n.mf n.ls n.pg hn w
 ·rw[show chkE c=140 from if_neg (fun x:c.May=>h x.1)]
  obtain ⟨sl,fl,dr,mf,ls,pg⟩:=c
  simp only[Cf.In] at h
  unfold cfV cfA
  by_cases h0:1<=sl
  case neg=>exact rno0 sl fl dr mf ls pg h0 w
  by_cases h1:sl<=64
  case neg=>exact rno1 sl fl dr mf ls pg h0 h1 w
  by_cases h2:1<=fl
  case neg=>exact rno2 sl fl dr mf ls pg h0 h1 h2 w
  by_cases h3:fl<=65536
  case neg=>exact rno3 sl fl dr mf ls pg h0 h1 h2 h3 w
  by_cases h4:0<=dr
  case neg=>exact rno4 sl fl dr mf ls pg h0 h1 h2 h3 h4 w
  by_cases h5:dr<=4096
  case neg=>exact rno5 sl fl dr mf ls pg h0 h1 h2 h3 h4 h5 w
  by_cases h6:0<=mf
  case neg=>exact rno6 sl fl dr mf ls pg h0 h1 h2 h3 h4 h5 h6 w
  by_cases h7:mf<=65536
  case neg=>exact rno7 sl fl dr mf ls pg h0 h1 h2 h3 h4 h5 h6 h7 w
  by_cases h8:16<=ls
  case neg=>exact rno8 sl fl dr mf ls pg h0 h1 h2 h3 h4 h5 h6 h7 h8 w
  by_cases h9:ls<=65536
  case neg=>exact rno9 sl fl dr mf ls pg h0 h1 h2 h3 h4 h5 h6 h7 h8 h9 w
  by_cases h10:64<=pg
  case neg=>exact rno10 sl fl dr mf ls pg h0 h1 h2 h3 h4 h5 h6 h7 h8 h9 h10 w
  by_cases h11:pg<=65536
  case neg=>exact rno11 sl fl dr mf ls pg h0 h1 h2 h3 h4 h5 h6 h7 h8 h9 h10 h11 w
  exact absurd ⟨h0,h1,h2,h3,h4,h5,h6,h7,h8,h9,h10,h11⟩ h
