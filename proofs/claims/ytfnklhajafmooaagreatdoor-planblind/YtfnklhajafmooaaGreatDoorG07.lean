import Derived.Test.YtfnklhajafmooaaGreatDoorG05
import Derived.Test.YtfnklhajafmooaaGreatDoorG06
set_option maxHeartbeats 1000000
set_option maxRecDepth 20000
namespace Go.Proofs.YtfnklhajafmooaaGreatDoor.Tr
open Go.RowKit Go.Lib Go.Deep Go.Proofs.Tryz
theorem bdr {w W:World}(h:Below w.heap.size w W)(k:Nat):Below w.heap.size w (W.drewN k):=⟨h.os,h.tape,h.output,h.size,h.block⟩
theorem Inn.hd' {w:World}{q:Nat}{dv fv:Value}{ld lf:Nat}{ms:Nat->Nat}{nn:Nat}{T:Ts}(h:Inn w q dv fv ld lf ms nn T):w.ownsRow 0 187 4 dv (jF3 T.D ms).length (rwsC (jF3 T.D ms)):=by
 rw[jCx];exact h.hd
theorem Inn.hf' {w:World}{q:Nat}{dv fv:Value}{ld lf:Nat}{ms:Nat->Nat}{nn:Nat}{T:Ts}(h:Inn w q dv fv ld lf ms nn T):w.ownsRow 0 191 4 fv (jD8 T.F).length (rwsC (jD8 T.F)):=by
 rw[jDv];exact h.hf
theorem Inn.lenD {w:World}{q:Nat}{dv fv:Value}{ld lf:Nat}{ms:Nat->Nat}{nn:Nat}{T:Ts}(h:Inn w q dv fv ld lf ms nn T):(jF3 T.D ms).length<=4097:=by
 rw[jCx];have:=h.dl;have:=h.lim;omega
theorem Inn.lenF {w:World}{q:Nat}{dv fv:Value}{ld lf:Nat}{ms:Nat->Nat}{nn:Nat}{T:Ts}(h:Inn w q dv fv ld lf ms nn T):(jD8 T.F).length<=65536:=by
 rw[jDv];have:=h.fl;have:=h.lim;omega
theorem fldD (w:World)(a b c:Value):(Instr.field 144 (.agg #[a,b,c]) 1).run prog w=.ok c w:=by kernel_rfl
theorem fldF (w:World)(a b c:Value):(Instr.field 147 (.agg #[a,b,c]) 1).run prog w=.ok c w:=by kernel_rfl
theorem jD0 (w:World)(q:Nat)(dv fv:Value)(ld lf:Nat)(ms:Nat->Nat)(nn:Nat)(T:Ts)(hI:Inn w q dv fv ld lf ms nn T)(i:Nat)(d:Nat × ByteArray)(hi:T.D[i]?=some (some d)) :
 Calls prog 132 #[.pointer (some ⟨q,0,none⟩),.int .i64 (i:Int)] w fun e w'=>e=.returned (.map (some (ms i)))/\Below w.heap.size w w':=by
 have hg:=get_d w q dv _ hI.cells.2.1 hI.hd' (Qk hI.lenD (by omega)) i (dRow (some d) (ms i)) (by rw[jDx,hi];rfl) (some (ms i)) rfl
 generalize ms i=m at *
 clear hI hi
 go_enter func132,ntmps132
 go_wp2_with fail
 refine hg.mono ?_
 rintro e w2 ⟨rfl,hb⟩
 have HB:Hid _:=hb
 have hfl:=fldD w2 (.int .i64 ((dRow (some d) m).p:Int)) (.string (dRow (some d) m).n) (.map (some m))
 clear hb hg
 go_wp2_with fail
 go_ret
 exact ⟨rfl,HB.out⟩
theorem jDy (w:World)(A B:Array Value)(s t:TypeId):∃W,(w.alloc (.cells A s)).alloc (.cells B t)=W/\Below w.heap.size w W/\W.heap[w.heap.size]?=some (.cells A s (0,0))/\W.heap[w.heap.size+1]?=some (.cells B t (0,0)):=by
 have hb1:Below w.heap.size w (w.alloc (.cells A s)):=(Qq _ _).alloc (Qj _) _
 refine ⟨_,rfl,hb1.alloc hb1.size _,(QK _ _ _ (by simp)).trans (jA2 w _),?_⟩
 have:=jA2 (w.alloc (.cells A s)) (.cells B t)
 rw[show (w.alloc (.cells A s)).heap.size=w.heap.size+1 by simp] at this
 exact this
theorem jA4 (w:World)(A:Array Value)(s:TypeId):∃W,w.alloc (.cells A s)=W/\Below w.heap.size w W/\W.heap[w.heap.size]?=some (.cells A s (0,0)):=⟨_,rfl,(Qq _ _).alloc (Qj _) _,jA2 w _⟩
theorem jM5 (w:World)(q:Nat)(F:List Nat)(nn:Nat)(T:Ts)(hL:Lay w q F nn T)(p:Nat)(n:ByteArray)(kd no:Nat)(ht:tk T p)(hn:n.size<=maxLen)(hnn:nn<maxLen) :
 Calls prog 118 #[.pointer (some ⟨q,0,none⟩),.agg #[.int .i64 (kd:Int),.int .i64 (no:Int)],.agg #[.int .i64 (p:Int),.string n]] w fun e w'=>e=.returned (.tuple #[])/\Turn F w w' q (nn+1) (jA6 T p n (some (kd,no))):=by
 obtain ⟨dv,fv,ld,lf,ms,rfl,hI⟩:=hL
 obtain ⟨d,hd⟩:=ht
 obtain ⟨W,hW,hb,k0,k1⟩:=jDy w #[.int .i64 (kd:Int),.int .i64 (no:Int)] #[.int .i64 (p:Int),.string n] 153 141
 have hin:=jD0 W.drew q dv fv ld lf ms nn T (hI.below hb.drew) p d hd
 have HX:Hid (∀w5,Below W.drew.heap.size W.drew w5->w5.cell? ⟨w.heap.size,0,none⟩=some (.int .i64 (kd:Int))/\w5.cell? ⟨w.heap.size,1,none⟩=some (.int .i64 (no:Int))/\w5.cell? ⟨w.heap.size+1,0,none⟩=some (.int .i64 (p:Int))/\w5.cell? ⟨w.heap.size+1,1,none⟩=some (.string n) /\
  ∃w6,(Instr.mapUpdate 142 (.map (some (ms p))) (.string n) (.agg #[.int .i64 (kd:Int),.int .i64 (no:Int)])).run prog w5=.ok () w6/\Hid (Turn (fp q dv fv T.D ms) w w6 q (nn+1) (jA6 T p n (some (kd,no))))):=fun w5 hb5=>by
  have hb':Below w.heap.size w w5:=hb.drew.trans (hb5.mono hb.size)
  have q0:=(hb5.block _ (jAv k0)).trans k0
  have q1:=(hb5.block _ (jAv k1)).trans k1
  refine ⟨(jAj q0).trans rfl,(jAj q0).trans rfl,(jAj q1).trans rfl,(jAj q1).trans rfl,?_⟩
  obtain ⟨Dt,hm,hT⟩:=(hI.below hb').hm p d hd
  obtain ⟨w6,hX1,hX2,hX3⟩:=World.ownsMap.update (w:=w5) (t:=142) hm jOj underlying142 hnn (WideMaps.keyOf_string_mk underlying9 hn) (jM3 kd no)
  refine ⟨w6,hX1,jB8 (jBv (Only.refl _ _) hb') hX3 (fun k e=>.inl ?_),_,⟨dv,fv,ld,lf,ms,rfl,(hI.below hb').hang hd hX3 (Nat.le_succ _) hX2 (hT.put (ky n) (kd,no))⟩,fun k hk=>.inl hk⟩
  injection e with e
  subst e
  exact jBx.2 (.inr (.inr (.inr ⟨p,d,hd,rfl⟩)))
 have i0:W.cell? ⟨w.heap.size,0,none⟩=some (.int .i64 (kd:Int)):=(jAj k0).trans rfl
 have i1:W.cell? ⟨w.heap.size,1,none⟩=some (.int .i64 (no:Int)):=(jAj k0).trans rfl
 have i2:W.cell? ⟨w.heap.size+1,0,none⟩=some (.int .i64 (p:Int)):=(jAj k1).trans rfl
 have i3:W.cell? ⟨w.heap.size+1,1,none⟩=some (.string n):=(jAj k1).trans rfl
 generalize ms p=m at *
 generalize fp q dv fv T.D ms=F at *
 clear hI hd hb k0 k1 hn hnn
 go_enter func118,ntmps118
 go_wp2_with fail
 go_region_with (go_at_call 132;refine hin.mono ?_;rintro e w5 ⟨rfl,hb5⟩;obtain ⟨x0,x1,x2,x3,w6,hX1,HT⟩:=HX.out w5 hb5;clear hb5)
 all_goals
  go_wp2
  go_end0
  exact ⟨rfl,HT.out⟩
def rsV (r:Rs)(v:Value):Value:=.agg #[.int .i64 r.code,.string e0,.int .i64 r.n,v,.int .i64 r.kind,.int .i64 r.size]
def efV (x:Ef):Value:=.agg #[.int .i64 x.kind,.int .i64 x.file,.int .i64 x.gone,.int .i64 x.at_,.int .i64 x.n,.string x.data,.int .i64 x.size]
def Did (F:List Nat)(w w':World)(q nn:Nat)(A:Ans)(e:Ending):Prop:=∃v,e=.returned (.tuple #[rsV A.1 v,efV A.2.1])/\Pa.Own w' w.heap.size v A.1.names/\Turn F w w' q nn A.2.2
abbrev R0:Array Value:=#[.int .i64 0,.string { data:=#[] },.int .i64 0,.slice none 0 0,.int .i64 0,.int .i64 0]
abbrev E0:Array Value:=#[.int .i64 0,.int .i64 0,.int .i64 0,.int .i64 0,.int .i64 0,.string { data:=#[] },.int .i64 0]
theorem jB7:(prog.info? 66).map (·.size)=some 6:=by kernel_rfl
theorem jB5:(prog.info? 68).map (·.size)=some 7:=by kernel_rfl
theorem jB4 {W:World}{g:Nat}{t:TypeId}{x0 x1 x2 x3 x4 x5:Value}(h:W.heap[g]?=some (.cells #[x0,x1,x2,x3,x4,x5] t (0,0))):W.cell? ⟨g,0,none⟩=some x0/\W.cell? ⟨g,1,none⟩=some x1/\W.cell? ⟨g,2,none⟩=some x2/\W.cell? ⟨g,3,none⟩=some x3/\W.cell? ⟨g,4,none⟩=some x4/\W.cell? ⟨g,5,none⟩=some x5 :=
 ⟨(jAj h).trans rfl,(jAj h).trans rfl,(jAj h).trans rfl,(jAj h).trans rfl,(jAj h).trans rfl,(jAj h).trans rfl⟩
theorem jCq {W:World}{g:Nat}{t:TypeId}{y0 y1 y2 y3 y4 y5 y6:Value}(h:W.heap[g]?=some (.cells #[y0,y1,y2,y3,y4,y5,y6] t (0,0))):W.cell? ⟨g,0,none⟩=some y0/\W.cell? ⟨g,1,none⟩=some y1/\W.cell? ⟨g,2,none⟩=some y2/\W.cell? ⟨g,3,none⟩=some y3/\W.cell? ⟨g,4,none⟩=some y4/\W.cell? ⟨g,5,none⟩=some y5/\W.cell? ⟨g,6,none⟩=some y6 :=
 ⟨(jAj h).trans rfl,(jAj h).trans rfl,(jAj h).trans rfl,(jAj h).trans rfl,(jAj h).trans rfl,(jAj h).trans rfl,(jAj h).trans rfl⟩
theorem jC8 {W:World}{g:Nat}{t:TypeId}{z0 z1 z2 z3 z4 z5 z6 z7:Value}(h:W.heap[g]?=some (.cells #[z0,z1,z2,z3,z4,z5,z6,z7] t (0,0))):W.cell? ⟨g,0,none⟩=some z0/\W.cell? ⟨g,1,none⟩=some z1/\W.cell? ⟨g,2,none⟩=some z2/\W.cell? ⟨g,3,none⟩=some z3/\W.cell? ⟨g,4,none⟩=some z4/\W.cell? ⟨g,5,none⟩=some z5/\W.cell? ⟨g,6,none⟩=some z6/\W.cell? ⟨g,7,none⟩=some z7 :=
 ⟨(jAj h).trans rfl,(jAj h).trans rfl,(jAj h).trans rfl,(jAj h).trans rfl,(jAj h).trans rfl,(jAj h).trans rfl,(jAj h).trans rfl,(jAj h).trans rfl⟩
theorem putRE {W:World}{g b:Nat}{t s:TypeId}{x0 x1 x2 x3 x4 x5 y0 y1 y2 y3 y4 y5 y6 r0 r1 r2 r3 r4 r5 f0 f1 f2 f3 f4 f5 f6:Value}(h:W.heap[g]?=some (.cells #[x0,x1,x2,x3,x4,x5] t (0,0)))(h2:W.heap[b]?=some (.cells #[y0,y1,y2,y3,y4,y5,y6] s (0,0)))(hgb:g≠b) :
 (((((((((((((W.setCell ⟨g,0,none⟩ r0).setCell ⟨g,1,none⟩ r1).setCell ⟨g,2,none⟩ r2).setCell ⟨g,3,none⟩ r3).setCell ⟨g,4,none⟩ r4).setCell ⟨g,5,none⟩ r5).setCell ⟨b,0,none⟩ f0).setCell ⟨b,1,none⟩ f1).setCell ⟨b,2,none⟩ f2).setCell ⟨b,3,none⟩ f3).setCell ⟨b,4,none⟩ f4).setCell ⟨b,5,none⟩ f5).setCell ⟨b,6,none⟩ f6).heap[g]?=some (.cells #[r0,r1,r2,r3,r4,r5] t (0,0))/\(((((((((((((W.setCell ⟨g,0,none⟩ r0).setCell ⟨g,1,none⟩ r1).setCell ⟨g,2,none⟩ r2).setCell ⟨g,3,none⟩ r3).setCell ⟨g,4,none⟩ r4).setCell ⟨g,5,none⟩ r5).setCell ⟨b,0,none⟩ f0).setCell ⟨b,1,none⟩ f1).setCell ⟨b,2,none⟩ f2).setCell ⟨b,3,none⟩ f3).setCell ⟨b,4,none⟩ f4).setCell ⟨b,5,none⟩ f5).setCell ⟨b,6,none⟩ f6).heap[b]?=some (.cells #[f0,f1,f2,f3,f4,f5,f6] s (0,0)):=by
 have h3:((((((W.setCell ⟨g,0,none⟩ r0).setCell ⟨g,1,none⟩ r1).setCell ⟨g,2,none⟩ r2).setCell ⟨g,3,none⟩ r3).setCell ⟨g,4,none⟩ r4).setCell ⟨g,5,none⟩ r5).heap[b]?=some (.cells #[y0,y1,y2,y3,y4,y5,y6] s (0,0)):=by
  repeat rw[Qy _ _ _ _ (Ne.symm hgb)]
  exact h2
 refine ⟨?_,put7A h3⟩
 repeat rw[Qy _ _ _ _ hgb]
 exact put6A h
theorem jA3 {w W:World}{g b:Nat}{r0 r1 r2 r3 r4 r5 f0 f1 f2 f3 f4 f5 f6:Value}(h:Below w.heap.size w W)(hg:w.heap.size<=g)(hb:w.heap.size<=b):Below w.heap.size w (((((((((((((W.setCell ⟨g,0,none⟩ r0).setCell ⟨g,1,none⟩ r1).setCell ⟨g,2,none⟩ r2).setCell ⟨g,3,none⟩ r3).setCell ⟨g,4,none⟩ r4).setCell ⟨g,5,none⟩ r5).setCell ⟨b,0,none⟩ f0).setCell ⟨b,1,none⟩ f1).setCell ⟨b,2,none⟩ f2).setCell ⟨b,3,none⟩ f3).setCell ⟨b,4,none⟩ f4).setCell ⟨b,5,none⟩ f5).setCell ⟨b,6,none⟩ f6) :=
 (((((((((((((h.setCell hg _).setCell hg _).setCell hg _).setCell hg _).setCell hg _).setCell hg _).setCell hb _).setCell hb _).setCell hb _).setCell hb _).setCell hb _).setCell hb _).setCell hb _)
theorem putE_below {w W:World}{b:Nat}{f0 f1 f2 f3 f4 f5 f6:Value}(h:Below w.heap.size w W)(hb:w.heap.size<=b):Below w.heap.size w (((((((W.setCell ⟨b,0,none⟩ f0).setCell ⟨b,1,none⟩ f1).setCell ⟨b,2,none⟩ f2).setCell ⟨b,3,none⟩ f3).setCell ⟨b,4,none⟩ f4).setCell ⟨b,5,none⟩ f5).setCell ⟨b,6,none⟩ f6) :=
 (((((((h.setCell hb _).setCell hb _).setCell hb _).setCell hb _).setCell hb _).setCell hb _).setCell hb _)
theorem jL3 (w:World):Calls prog 60 #[] w fun e w'=>e=.returned (efV Ef.no)/\Below w.heap.size w w':=by
 go_enter func60,ntmps60
 go_wp2_with fail
 refine Qw (jB9 rfl _ _ w.heap.size 68 _ (0,0) _ rfl (jA2 w _) underlying68 rfl jB5) rfl ?_
 exact ⟨rfl,(Qq _ _).alloc (Qj _) _⟩
theorem jB2 (w:World)(c:Int):Calls prog 33 #[.int .i64 c] w fun e w'=>e=.returned (.tuple #[rsV (Rs.no c) (.slice none 0 0),efV Ef.no])/\Below w.heap.size w w':=by
 obtain ⟨W,hW,hb,k0,k1⟩:=jDy w R0 E0 66 68
 have hne:=jL3 W
 have HX:Hid (∀w2,Below W.heap.size W w2->Below w.heap.size w w2/\w2.heap[w.heap.size]?=some (.cells R0 66 (0,0))/\w2.heap[w.heap.size+1]?=some (.cells E0 68 (0,0))):=fun w2 h2=>⟨hb.trans (h2.mono hb.size),(h2.block _ (jAv k0)).trans k0,(h2.block _ (jAv k1)).trans k1⟩
 clear hb k0 k1
 unfold R0 E0 at hW
 go_enter func33,ntmps33
 go_wp2_with fail
 refine hne.mono ?_
 rintro e w2 ⟨rfl,hb2⟩
 obtain ⟨hb,q0,q1⟩:=HX.out w2 hb2
 have HB:Hid _:=hb
 have HQ0:Hid _:=q0
 have HQ1:Hid _:=q1
 obtain ⟨a0,a1,a2,a3,a4,a5⟩:=jB4 q0
 obtain ⟨b0,b1,b2,b3,b4,b5,b6⟩:=jCq q1
 have fz0:∀j,w2.frozen? ⟨w.heap.size,j,none⟩=false:=fun j=>jAq q0
 have fz1:∀j,w2.frozen? ⟨w.heap.size+1,j,none⟩=false:=fun j=>jAq q1
 clear hb q0 q1 hb2 HX hne hW
 unfold efV Ef.no
 go_wp2_with fail
 refine Qw (jAz rfl _ _ w.heap.size 66 _ (0,0) _ (w.heap.size+1) 68 _ (0,0) _ rfl (putRE HQ0.out HQ1.out (by omega)).1 underlying66 rfl jB7 rfl (putRE HQ0.out HQ1.out (by omega)).2 underlying68 rfl jB5) rfl ?_
 exact ⟨rfl,jA3 HB.out (Qj _) (by omega)⟩
theorem jC5 (w:World)(A B C:Array Value)(s t u:TypeId):∃W,((w.alloc (.cells A s)).alloc (.cells B t)).alloc (.cells C u)=W/\Below w.heap.size w W/\W.heap[w.heap.size]?=some (.cells A s (0,0))/\W.heap[w.heap.size+1]?=some (.cells B t (0,0))/\W.heap[w.heap.size+1+1]?=some (.cells C u (0,0)):=by
 obtain ⟨W,rfl,hb,k0,k1⟩:=jDy w A B s t
 have hs:((w.alloc (.cells A s)).alloc (.cells B t)).heap.size=w.heap.size+1+1:=by simp
 refine ⟨_,rfl,hb.alloc hb.size _,(QK _ _ _ (by rw[hs];omega)).trans k0,(QK _ _ _ (by rw[hs];omega)).trans k1,?_⟩
 have:=jA2 ((w.alloc (.cells A s)).alloc (.cells B t)) (.cells C u)
 rw[hs] at this
 exact this
theorem jFy (w:World)(r0 r2 r4 r5:Int)(sa:Option Addr)(a b:Nat):Calls prog 119 #[.agg #[.int .i64 r0,.string e0,.int .i64 r2,.slice sa a b,.int .i64 r4,.int .i64 r5]] w fun e w'=>e=.returned (.tuple #[.agg #[.int .i64 r0,.string e0,.int .i64 r2,.slice sa a b,.int .i64 r4,.int .i64 r5],efV Ef.no])/\Below w.heap.size w w':=by
 obtain ⟨W,hW,hb,kp,k0,k1⟩:=jC5 w #[.int .i64 r0,.string e0,.int .i64 r2,.slice sa a b,.int .i64 r4,.int .i64 r5] R0 E0 66 66 68
 have hne:=jL3 W.drew
 have HX:Hid (∀w2,Below W.drew.heap.size W.drew w2->Below w.heap.size w w2/\w2.heap[w.heap.size]?=some (.cells #[.int .i64 r0,.string e0,.int .i64 r2,.slice sa a b,.int .i64 r4,.int .i64 r5] 66 (0,0))/\w2.heap[w.heap.size+1]?=some (.cells R0 66 (0,0))/\w2.heap[w.heap.size+1+1]?=some (.cells E0 68 (0,0))):=fun w2 h2=>⟨hb.drew.trans (h2.mono hb.size),(h2.block _ (jAv kp)).trans kp,(h2.block _ (jAv k0)).trans k0,(h2.block _ (jAv k1)).trans k1⟩
 obtain ⟨p0,p1,p2,p3,p4,p5⟩:=jB4 kp
 clear hb k0 k1 kp
 unfold R0 E0 at hW
 unfold efV Ef.no at hne
 go_enter func119,ntmps119
 go_wp2_with fail
 go_region_with (go_at_call 60;refine hne.mono ?_;rintro e w2 ⟨rfl,hb2⟩;obtain ⟨hb,qp,q0,q1⟩:=HX.out w2 hb2;have HB:Hid _:=hb;have HQ0:Hid _:=q0;have HQ1:Hid _:=q1;obtain ⟨c0,c1,c2,c3,c4,c5⟩:=jB4 qp;obtain ⟨a0,a1,a2,a3,a4,a5⟩:=jB4 q0;obtain ⟨b0,b1,b2,b3,b4,b5,b6⟩:=jCq q1;have fz0:∀j,w2.frozen? ⟨w.heap.size+1,j,none⟩=false:=fun j=>jAq q0;have fz1:∀j,w2.frozen? ⟨w.heap.size+1+1,j,none⟩=false:=fun j=>jAq q1;clear hb qp q0 q1 hb2)
 all_goals
  go_wp2_with fail
  refine Qw (jAz rfl _ _ (w.heap.size+1) 66 _ (0,0) _ (w.heap.size+1+1) 68 _ (0,0) _ rfl (putRE HQ0.out HQ1.out (by omega)).1 underlying66 rfl jB7 rfl (putRE HQ0.out HQ1.out (by omega)).2 underlying68 rfl jB5) rfl ?_
  exact ⟨rfl,jA3 HB.out (by omega) (by omega)⟩
theorem effect_any (w:World)(q:Nat)(dv fv:Value)(ld lf:Nat)(ms:Nat->Nat)(nn:Nat)(T:Ts)(hI:Inn w q dv fv ld lf ms nn T)(k:Int)(i p s:Nat)(n:ByteArray)(hi:T.F[i]?=some (some (p,n,s))) :
 Calls prog 121 #[.pointer (some ⟨q,0,none⟩),.int .i64 k,.int .i64 (i:Int)] w fun e w'=>e=.returned (efV ⟨k,i,-1,0,0,e0,s⟩)/\Below w.heap.size w w':=by
 obtain ⟨W,hW,hb,k0⟩:=jA4 w E0 68
 have hI':=hI.below hb
 have hg:=get_f W q fv _ hI'.cells.2.2.2.2.1 hI'.hf' (Qk hI'.lenF (by omega)) i (fRow (some (p,n,s))) (by rw[jD5,hi];rfl) (s:Int) rfl
 have HX:Hid (∀w2,Below W.heap.size W w2->Below w.heap.size w w2/\w2.heap[w.heap.size]?=some (.cells E0 68 (0,0))):=fun w2 h2=>⟨hb.trans (h2.mono hb.size),(h2.block _ (jAv k0)).trans k0⟩
 have hfl:=fun w=>fldF w (.int .i64 (p:Int)) (.string n) (.int .i64 (s:Int))
 clear hI hI' hi hb k0
 unfold E0 at hW
 unfold fRow at hg
 go_enter func121,ntmps121
 go_wp2_with fail
 refine hg.mono ?_
 rintro e w2 ⟨rfl,hb2⟩
 obtain ⟨hb,q1⟩:=HX.out w2 hb2
 have HB:Hid _:=hb
 have HQ1:Hid _:=q1
 have hf2:=hfl w2
 obtain ⟨b0,b1,b2,b3,b4,b5,b6⟩:=jCq q1
 have fz1:∀j,w2.frozen? ⟨w.heap.size,j,none⟩=false:=fun j=>jAq q1
 clear hb q1 hb2 HX hg hW hfl
 go_wp2_with fail
 refine Qw (jB9 rfl _ _ w.heap.size 68 _ (0,0) _ rfl (put7A HQ1.out) underlying68 rfl jB5) rfl ?_
 exact ⟨rfl,putE_below HB.out (Qj _)⟩
