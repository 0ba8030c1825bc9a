import Derived.Test.YtfnklhajafmooaaGreatDoorG36
import Derived.Test.YtfnklhajafmooaaGreatDoorG38
set_option maxHeartbeats 4000000
set_option maxRecDepth 100000
namespace Go.Proofs.YtfnklhajafmooaaGreatDoor.Tr
open Go.RowKit Go.Lib Go.Deep Go.Shelf Go.Proofs.Tryz
attribute [local go_sem] Oper.semAt_some
theorem callsF {F:Fence}{n:Nat}{P:Program}{f:FuncId}{args:Array Value}{w:World}{R:Ending->World->Prop}(hF:F=Fence.wide)(h:Calls P f args w R):CallsIn F n P f args w R:=by
 subst hF
 exact callsIn_wide.2 h
theorem results_cellB {fn:Func}{p:Tmp}(h:fn.results=#[.cell p 4])(tmps:Array Value)(w:World)(g:Nat){b:Bool}(hp:tmps.getD p undef=.pointer (some ⟨g,0,none⟩))(hc:w.cell? ⟨g,0,none⟩=some (.bool b)):(results fn tmps).run prog w=.ok (.bool b) w:=by
 have hp':tmps[p]?.getD undef=.pointer (some ⟨g,0,none⟩):=by simpa using hp
 have hl:(loadVar 4 ⟨g,0,none⟩).run prog w=.ok (.bool b) w:=by
  go_simp
 simp[results,h,hp',asAddr,hl]
structure Ent (w W:World)(q:Nat)(F:List Nat)(nn:Nat)(T:Ts)(B:Nat)(a:Option Addr)(len c:Nat)(L:List Nd):Prop where
 lay:∃F',Lay W q F' nn T/\∀k,k∈F'->k∈F\/w.heap.size<=k
 only:Only F w W
 row:W.ownsRow B 91 5 (.slice a len c) len (ndsc L)
 box:W.heap[w.heap.size]?=some (.cells #[.pointer (some ⟨q,0,none⟩)] 92 (0,0))
 res:W.heap[w.heap.size+1]?=some (.cells #[.bool false] 4 (0,0))
theorem Ent.below {w W V:World}{q:Nat}{F:List Nat}{nn:Nat}{T:Ts}{B:Nat}{a:Option Addr}{len c:Nat}{L:List Nd}(h:Ent w W q F nn T B a len c L)(hb:Below W.heap.size W V):Ent w V q F nn T B a len c L:=by
 obtain ⟨F',h1,h2⟩:=h.lay
 exact ⟨⟨F',h1.below hb,h2⟩,jBv h.only hb,jA0 h.row fun g hg=>hb.block _ (h.row.lt g hg).2,(hb.block _ (jAv h.box)).trans h.box,(hb.block _ (jAv h.res)).trans h.res⟩
theorem bey_at (T:Ts)(f d m:Nat):∀k,Bey (entL (newT f d m) ((told T).take k)) ((told T).drop k)
 | 0=>bey_told f d m
 | k+1=>by
   have ih:=bey_at T f d m k
   cases hx:(told T)[k]? with
   | none =>
     have hl:=List.getElem?_eq_none_iff.1 hx
     rw[List.drop_of_length_le (by omega)]
     exact ⟨fun x h=>(by cases h),fun x h=>(by cases h),fun x h=>(by cases h)⟩
   | some x =>
     have hl:=(QV.1 hx).1
     have e:(told T).drop k=x :: (told T).drop (k+1):=by rw[List.drop_eq_getElem_cons hl,(QV.1 hx).2]
     rw[e] at ih
     have hp:((told T).drop k).Pairwise ndLt:=(jGz T).sublist (List.drop_sublist _ _)
     rw[e] at hp
     rw[List.take_add_one,hx]
     show Bey (entL (newT f d m) ((told T).take k++[x])) _
     rw[entL_snoc]
     exact ih.step (List.pairwise_cons.1 hp).1
theorem Ent.turn {w V w':World}{q:Nat}{S F':List Nat}{nn N:Nat}{U U':Ts}{B:Nat}{a:Option Addr}{len c:Nat}{L:List Nd}(h:Ent w V q S nn U B a len c L)(hl:Lay V q F' nn U)(hF':∀k,k∈F'->k∈S\/w.heap.size<=k)(ht:Turn F' V w' q N U'):Ent w w' q S N U' B a len c L:=by
 obtain ⟨h1,h2⟩:=jC1 h.only hF' ht
 have hk:∀{k:Nat} {cur:Array Value} {e:TypeId},V.heap[k]?=some (.cells cur e (0,0))->¬(e=138\/e=187\/e=191)->w'.heap[k]?=V.heap[k]?:=fun {k cur e} hc he=>ht.1.block k (jAv hc) (hl.notin hc he)
 refine ⟨h2,h1,jA0 h.row fun g hg=>?_,(hk h.box (by decide)).trans h.box,(hk h.res (by decide)).trans h.res⟩
 obtain ⟨cur,hc⟩:=jA1 h.row hg
 exact hk hc (by decide)
theorem ent_step (w V:World)(q:Nat)(S:List Nat)(nn:Nat)(U:Ts)(B:Nat)(a:Option Addr)(len c:Nat)(L:List Nd)(h:Ent w V q S nn U B a len c L)(x:Nd)(hn:Pa.nm x.name=true)(hk:(x.kind=1/\x.size=0/\U.D.length<=x.number/\x.number<U.dr/\U.M x.number=fun _=>none)\/(x.kind=2/\x.size<=U.most/\U.F.length<=x.number/\x.number<U.fr)) :
 Calls prog 145 #[.pointer (some ⟨q,0,none⟩),.agg (ndA x)] V fun e w'=>e=.returned (.bool true)/\Ent w w' q S nn (entT U x) B a len c L:=by
 obtain ⟨F',hl,hF'⟩:=h.lay
 obtain ⟨xk,xn,xp,xm,xs⟩:=x
 rcases hk with ⟨e1,e2,e3,e4,e5⟩ | ⟨e1,e2,e3,e4⟩
 ·simp only at e1 e2 e3 e4 e5 hn
  subst e1 e2
  refine (enterD_any V q F' nn U hl xn xp xm hn e3 e5 e4).mono ?_
  rintro e w' ⟨rfl,ht⟩
  exact ⟨rfl,h.turn hl hF' ht⟩
 ·simp only at e1 e2 e3 e4 hn
  subst e1
  refine (enterF_any V q F' nn U hl xn xp xm hn xs e2 e3 e4).mono ?_
  rintro e w' ⟨rfl,ht⟩
  exact ⟨rfl,h.turn hl hF' ht⟩
theorem fill_in (F:Fence)(n:Nat)(h1:F.fn 105)(h2:F.fn 57)(h3:F.fn 63)(h4:F.fn 83)(h5:F.fn 100)(h6:F.fn 143)(h7:F.fn 145)(h8:F.fn 146)(hro:F.round=none)(hFw:Hid (F=Fence.wide))(hn:3<=n)
 (w:World) (q:Nat) (S:List Nat) (f d m:Nat) (hL:Lay w q S 0 (newT f d m)) (T:Ts) (dp:Nat->Nat) (hv:Inv T dp) (hfr:T.fr=f) (hdr:T.dr=d+1) (hms:∀x∈told T,x.size<=m) (B:Nat) (a:Option Addr) (len c:Nat) (hlen:len=(told T).length) (hrow:w.ownsRow B 91 5 (.slice a len c) len (ndsc (told T))) (hlb:len<=1000000) :
 CallsIn F n prog 105 #[.pointer (some ⟨q,0,none⟩),.slice a len c] w fun e w'=>e=.returned (.bool true)/\Turn S w w' q 200000 { entL (newT f d m) (told T) with M:=T.M }:=by
 have h1':1<=n:=by omega
 obtain ⟨W,hW,hb,k0,k1⟩:=jDy w #[.pointer (some ⟨q,0,none⟩)] #[.bool false] 92 4
 have HE0:Hid (Ent w W q S 0 (newT f d m) B a len c (told T)):=⟨⟨S,hL.below hb,fun k hk=>.inl hk⟩,jBv (Only.refl _ _) hb,jA0 hrow fun g hg=>hb.block _ (hrow.lt g hg).2,k0,k1⟩
 have HSO:Hid (∀V,Ent w V q S 0 (newT f d m) B a len c (told T)->Calls prog 143 #[.slice a len c,.func (.func 144) #[] #[]] V fun e w'=>e=.returned (.bool true)/\Below V.heap.size V w'):=fun V hV=>isSorted_any V B a len c (told T) hlen hV.row hlb (jGz T)
 have HLN:Hid (len=(told T).length):=hlen
 clear hL hb k0 k1 hrow hlen
 refine callsIn_of_wp_marks func105 rfl h1 ?_ hro
 simp only[ntmps105,List.size_toArray,List.length_cons,List.length_nil,Nat.reduceAdd,Nat.reduceSub,Array.replicate_succ,Array.replicate_zero,List.push_toArray,List.append_toArray,List.nil_append,List.cons_append]
 gi_wp2_with (gi_at_call 143;refine (callsF hFw.out (HSO.out _ HE0.out)).mono ?_;rintro e w2 ⟨rfl,hb2⟩)
 have HE2:Hid (Ent w w2 q S 0 (newT f d m) B a len c (told T)):=HE0.out.below hb2
 clear HE0 HSO hb2 hW
 gi_loopw [16] (fun i wr=>∃k:Nat,k<=len/\i=.int .i64 (k:Int)/\Hid (Ent w wr q S 0 (entL (newT f d m) ((told T).take k)) B a len c (told T)))
  (fun i _=>len-(intOf i).toNat)
 case atStart=>exact ⟨0,Kj _,rfl,HE2.out⟩
 case round =>
  obtain ⟨k,hk,rfl,HE⟩:=hrel
  clear HE2
  by_cases hlt:k<len
  ·have hltI:(k:Int)<(len:Int):=by omega
   have hw1:IntKind.i64.wrap ((k:Int)+1)=((k+1:Nat):Int):=by rw[QX];omega
   obtain ⟨x,hx⟩:∃x,(told T)[k]?=some x:=⟨_,Qv (by have:=HLN.out;omega)⟩
   have e1:∃g,a=some ⟨g,0,none⟩:=by
    rcases HE.out.row.2 with ⟨h1,h2⟩ | ⟨g,cap,cur,h1,_⟩
    ·omega
    ·injection h1 with h1 _ _;exact ⟨g,h1⟩
   obtain ⟨g,rfl⟩:=e1
   obtain ⟨x0,x1,x2,x3,x4⟩:=jKy HE.out.row HLN.out hx
   have HST:Hid (∀V,Below wr.heap.size wr V->Calls prog 145 #[.pointer (some ⟨q,0,none⟩),.agg (ndA x)] V fun e w'=>e=.returned (.bool true)/\Ent w w' q S 0 (entL (newT f d m) ((told T).take (k+1))) B (some ⟨g,0,none⟩) len c (told T)):=fun V hV=>by
    have hmem:=List.mem_of_getElem? hx
    have hB:Bey (entL (newT f d m) ((told T).take k)) ((told T).drop k):=bey_at T f d m k
    have hxd:x∈(told T).drop k:=List.mem_of_getElem? (i:=0) (by rw[List.getElem?_drop];exact hx)
    obtain ⟨s1,s2,s3,s4⟩:=jN7 (newT f d m) ((told T).take k)
    rw[List.take_add_one,hx]
    show Calls _ _ _ _ fun e w'=>_/\Ent w w' q S 0 (entL (newT f d m) ((told T).take k++[x])) B _ len c (told T)
    rw[entL_snoc]
    refine ent_step w V q S 0 _ B _ len c (told T) (HE.out.below hV) x (told_name hv hmem) ?_
    rcases told_room hv hmem with ⟨r1,r2,r3⟩ | ⟨r1,r2⟩
    ·exact .inl ⟨r1,(jOq hv hmem).2 r1,hB.d x hxd r1,by rw[s2];show _<d+1;omega,by rw[s4];rfl⟩
    ·exact .inr ⟨r1,by rw[s3];exact hms x hmem,hB.f x hxd (by omega),by rw[s1];show _<f;omega⟩
   have hb0:wr.cell? ⟨w.heap.size,0,none⟩=some (.pointer (some ⟨q,0,none⟩)):=(jAj HE.out.box).trans rfl
   obtain ⟨xk,xn,xp,xm,xs⟩:=x
   simp only at x0 x1 x2 x3 x4
   unfold ndA at HST
   simp only at HST
   clear hx
   have hba:Below wr.heap.size wr (wr.alloc (.cells #[.int .i64 (xk:Int),.int .i64 (xn:Int),.int .i64 (xp:Int),.string xm,.int .i64 (xs:Int)] 91)):=(Qq _ _).alloc (Qj _) _
   have hb1:(wr.alloc (.cells #[.int .i64 (xk:Int),.int .i64 (xn:Int),.int .i64 (xp:Int),.string xm,.int .i64 (xs:Int)] 91)).cell? ⟨w.heap.size,0,none⟩=some (.pointer (some ⟨q,0,none⟩)):=(hba.cell (jAv HE.out.box)).trans hb0
   gi_wp2_with (gi_at_call 145;refine (callsF hFw.out (HST.out _ hba)).mono ?_;rintro e w5 ⟨rfl,he5⟩)
   have HE5:Hid _:=he5
   clear he5
   exact ⟨⟨k+1,by omega,by first | rfl | simp,HE5.out⟩,by simp[intOf];omega⟩
  ·obtain rfl:k=len:=by omega
   have hT1:(told T).take k=told T:=Qf (by have:=HLN.out;omega)
   rw[hT1] at HE
   clear hT1
   have hD:=load_D hv f d m
   have hF:=load_F (T:=T) f d m
   have hM:(entL (newT f d m) (told T)).M=fun _ _=>none:=(jN7 (newT f d m) (told T)).2.2.2
   obtain ⟨U,hU⟩:∃U,entL (newT f d m) (told T)=U:=⟨_,rfl⟩
   rw[hU] at HE hD hF hM
   obtain ⟨F',⟨dv,fv,ld,lf,ms,hFe,hI⟩,hF'⟩:=HE.out.lay
   have hb0:wr.cell? ⟨w.heap.size,0,none⟩=some (.pointer (some ⟨q,0,none⟩)):=(jAj HE.out.box).trans rfl
   gi_wp2_with (gi_at_call 57;refine (all_d F (n-1) h2 hro _ _).mono ?_;rintro e w' ⟨rfl,rfl⟩)
   obtain ⟨V0,hV0⟩:∃V0,wr.alloc (.cells #[.pointer (some ⟨q,0,none⟩)] 184)=V0:=⟨_,rfl⟩
   obtain ⟨bn,hbn⟩:∃bn,wr.heap.size=bn:=⟨_,rfl⟩
   have hbV:Below wr.heap.size wr V0:=by rw[<-hV0];exact (Qq _ _).alloc (Qj _) _
   have kB:V0.heap[bn]?=some (.cells #[.pointer (some ⟨q,0,none⟩)] 184 (0,0)):=by rw[<-hV0,<-hbn];exact jA2 wr _
   have kBc:V0.cell? ⟨bn,0,none⟩=some (.pointer (some ⟨q,0,none⟩)):=(jAj kB).trans rfl
   have hszV:V0.heap.size=bn+1:=by rw[<-hV0,<-hbn];simp
   rw[hV0,hbn]
   have hI0:=hI.below hbV
   have hroot:U.D[0]?=some (some (0,e0)):=(hD 0 _).2 hv.root
   have hlenD:(rsD U.D ms).length<=70000:=by
    rw[jOx]
    have:=hI0.dl
    have:=hI0.lim
    omega
   have hlenF:U.F.length<=70000:=by
    have:=hI0.fl
    have:=hI0.lim
    omega
   rcases rows_d hI0 with ⟨_,e2,_⟩ | ⟨g,cap,hR⟩
   ·exfalso
    have h9:=jAy hroot
    rw[<-jOx U.D ms,e2] at h9
    cases h9
   have hFlt:∀k,k∈fp q dv fv U.D ms->k<V0.heap.size:=fun k hk=>hI0.lt hk
   have hgo:dv.ownBlock=some g:=by
    have c1:=hI0.cells.2.1
    rw[hR.cq] at c1
    injection c1 with c1
    rw[<-c1]
    rfl
   have hHg0:Hg w V0 V0 q dv fv ld lf ms U.D 0 U:=⟨hI0,Only.refl _ _,(hbV.block _ (jAv HE.out.box)).trans HE.out.box,(hbV.block _ (jAv HE.out.res)).trans HE.out.res⟩
   have hxV:w.heap.size+1<V0.heap.size:=jAv hHg0.res
   have hUDp:∀l:List Cm,(hgD U l).D=U.D:=fun l=>(jM1 U l).2.2.2.1
   have hcm:∀x:Row_ (rsD U.D ms),T.D[x.1.i]?=some (some (x.1.p,x.1.n))/\(x.1.i≠0->T.M x.1.p (ky x.1.n)=some (1,x.1.i)):=fun x=>cmD hv hD (k:=(rsD U.D ms).length) (jM2 (jAy x.2) x.2)
   refine wpIn_rangeFunc_ownH hro h1' (gf:=83) (lb:=#[.pointer (some ⟨bn,0,none⟩)]) rfl h4 (enters_of func83 (by kernel_rfl) rfl)
    (stopsk_d F (n-1) h4 hro (by omega) bn V0.heap.size q g (rsD U.D ms) hlenD V0 (by omega) (Qj _) kBc (.inr ⟨cap,hR⟩)) (fun h k=>h.trans k) (kg_put hR.lq hR.lg) (Qq _ _) (fun _=>rfl)
    (fun pre W=>Hg w V0 W q dv fv ld lf ms U.D pre.length (hgD U (pre.map Subtype.val)))
    (fun _ pre _=>∃(pre':List (Row_ (rsD U.D ms))) (x:Row_ (rsD U.D ms)),pre=pre'++[x]/\x.1.i≠0/\(hgD U (pre'.map Subtype.val)).M x.1.p (ky x.1.n)≠none)
    (Hg.own (fun pre:List (Row_ (rsD U.D ms))=>pre.length) (fun pre=>hgD U (pre.map Subtype.val)) (fun pre=>hUDp _) hFlt hxV)
    (fun _ _ _ _ _ hs _ _=>hs)
    hHg0
    (fun x a' W=>∃Bx,V0.heap.size<=Bx/\W.heap[Bx]?=some (.cells #[.int .i64 (x.1.p:Int),.string x.1.n,.map (some x.1.x)] 144 (0,0))/\a'={ tmps:=#[.pointer (some ⟨q,0,none⟩),.slice a k c,.pointer (some ⟨w.heap.size,0,none⟩),undef,.pointer (some ⟨w.heap.size+1,0,none⟩),undef,u6,.int .i64 (x.1.i:Int),.pointer (some ⟨Bx,0,none⟩),undef,undef,.slice a k c,.bool true,.bool false,.slice a k c,.int .i64 (k:Int),.int .i64 (k:Int),.bool false,u18,u19,u20,u21,u22,u23,u24,.pointer (some ⟨q,0,none⟩),.pointer (some ⟨q,0,none⟩),.pointer (some ⟨q,0,none⟩),.func (.func 83) #[] #[.pointer (some ⟨bn,0,none⟩)],.int .i64 (x.1.i:Int),.agg #[.int .i64 (x.1.p:Int),.string x.1.n,.map (some x.1.x)],undef,undef,undef,undef,undef,undef,undef,undef,undef,undef,undef,undef,undef,undef,undef,undef,undef,undef,undef,undef,undef,undef,undef,undef],defers:=[] })
    (fun x a' _ X Y row hs hg hr=>by obtain ⟨Bx,e1,e2,e3⟩:=hs;exact ⟨Bx,e1,jK1 (β:=Unit) Bx _ _ () X Y row e2 hg (fun r e=>(hr r e).2),e3⟩)
    ?assign ?body ?done ?stop
   case assign =>
    rintro l pre x W K hHg hK
    gi_wp2
    skip
    have hsz:=hHg.only.size
    exact hK _ _ ((KeepsOthers.alloc _ _).from _) (Kg.of_below ((Qq W.heap.size W).alloc (Qj _) _) (Qx hR.lq hsz) (Qx hR.lg hsz)) (hHg.grow (hUDp _) hFlt hxV (World.grownBy_alloc _ _ none) (fun r e=>by cases e)) ⟨W.heap.size,hsz,jA2 W _,rfl⟩
   case body =>
    rintro l pre x a' W hl ⟨r,hr⟩ hHg ⟨Bx,hBx,bX,rfl⟩ hlt
    obtain ⟨c1,c2⟩:=hcm x
    have hd1:1<=n-1-1:=by omega
    have h8':(F.inRound l).fn 146:=h8
    obtain ⟨⟨xi,xp,xn,xx⟩,hxr⟩:=x
    simp only at c1 c2 bX
    have y0:W.cell? ⟨Bx,0,none⟩=some (.int .i64 (xp:Int)):=(jAj bX).trans rfl
    have y1:W.cell? ⟨Bx,1,none⟩=some (.string xn):=(jAj bX).trans rfl
    have z0:W.cell? ⟨w.heap.size,0,none⟩=some (.pointer (some ⟨q,0,none⟩)):=(jAj hHg.box).trans rfl
    have z1:W.cell? ⟨w.heap.size+1,0,none⟩=some (.bool false):=(jAj hHg.res).trans rfl
    by_cases hx:xi=0
    ·have hxI:((xi:Int) != 0)=false:=by simp[hx]
     have hxI2:(xi:Int)=0:=by omega
     have HF:Hid (Hg w V0 W q dv fv ld lf ms U.D (pre++[(⟨⟨xi,xp,xn,xx⟩,hxr⟩:Row_ (rsD U.D ms))]).length (hgD U ((pre++[(⟨⟨xi,xp,xn,xx⟩,hxr⟩:Row_ (rsD U.D ms))]).map Subtype.val))):=by
      show Hg _ _ _ _ _ _ _ _ _ _ _ _
      rw[List.map_append,List.length_append]
      show Hg _ _ _ _ _ _ _ _ _ _ _ (hgD U (_++[_]))
      rw[hgD_snoc]
      unfold hgD1
      rw[if_pos hx]
      exact hHg.up (by simp)
     gi_wp2
     skip
     exact ⟨KeepsFrom.refl _ _,Kg.refl _ _ _,HF.out⟩
    ·have hxI:((xi:Int) != 0)=true:=by simp[hx]
     have c3:=c2 hx
     have hrt:jE3 (hgD U (pre.map Subtype.val)) 16 xp=true:=by
      rw[jN5 (hUDp _)]
      exact jN8 hv hD 16 xp (hv.hP _ _ _ c3) (by have:=(hv.d1 _ _ _ c3).1;omega)
     have hpl:pre.length<70000:=Qx hlt hlenD
     have hset:=settle_hg w V0 W q dv fv ld lf ms U.D pre.length _ hHg 1 xi xp xn ⟨_,by rw[hUDp];exact hroot⟩ (by have:=jE7 (hv.hN _ _ _ c3);unfold maxLen;omega) (by unfold maxLen;omega) hrt (fun v hm=>by
      rcases hgD_M U _ hm with h9 | ⟨y,_,_,_,_,h9⟩
      ·rw[hM] at h9;cases h9
      ·rw[h9];simp) W (Qq _ _)
     obtain ⟨dd,hdd⟩:=hv.hP _ _ _ c3
     have hddU:=(hD _ _).2 hdd
     by_cases hfree:(hgD U (pre.map Subtype.val)).M xp (ky xn)=none
     ·have hs2:Calls prog 146 #[.pointer (some ⟨q,0,none⟩),.agg #[.int .i64 1,.int .i64 (xi:Int)],.agg #[.int .i64 (xp:Int),.string xn]] W fun e w'=>e=.returned (.bool true)/\Hid (Hg w V0 w' q dv fv ld lf ms U.D (pre++[(⟨⟨xi,xp,xn,xx⟩,hxr⟩:Row_ (rsD U.D ms))]).length (hgD U ((pre++[(⟨⟨xi,xp,xn,xx⟩,hxr⟩:Row_ (rsD U.D ms))]).map Subtype.val))/\KeepsFrom V0.heap.size W w'/\Kg q g W w'):=hset.mono fun e w' h9=>by
       rcases h9 with ⟨a1,a2,a3,a4⟩ | ⟨_,a2,_⟩
       ·obtain ⟨b1,b2,b3⟩:=hHg.step (hUDp _) (by rw[hUDp];exact hddU) a3 a4 hFlt
        refine ⟨a1,?_,b2,b3 g (.inl hgo)⟩
        rw[List.map_append,List.length_append]
        show Hg _ _ _ _ _ _ _ _ _ _ _ (hgD U (_++[_]))
        rw[hgD_snoc]
        unfold hgD1
        rw[if_neg hx]
        exact b1
       ·exact absurd hfree a2
      clear hset
      gi_wp2_with (gi_at_call 146;refine (CallsIn.inRound l (callsF hFw.out hs2)).mono ?_;rintro e w5 ⟨rfl,hg5⟩)
      skip
      exact ⟨hg5.out.2.1,hg5.out.2.2,hg5.out.1⟩
     ·have hs2:Calls prog 146 #[.pointer (some ⟨q,0,none⟩),.agg #[.int .i64 1,.int .i64 (xi:Int)],.agg #[.int .i64 (xp:Int),.string xn]] W fun e w'=>e=.returned (.bool false)/\Below W.heap.size W w':=hset.mono fun e w' h9=>by
       rcases h9 with ⟨_,a2,_,_⟩ | ⟨a1,_,a3⟩
       ·exact absurd a2 hfree
       ·exact ⟨a1,a3⟩
      clear hset
      gi_wp2_with (gi_at_call 146;refine (CallsIn.inRound l (callsF hFw.out hs2)).mono ?_;rintro e w5 ⟨rfl,hb5⟩;have z5:=(hb5.block _ (jAv hHg.res)).trans hHg.res;have z6:w5.cell? ⟨w.heap.size+1,0,none⟩=some (.bool false):=(jAj z5).trans rfl;have z7:w5.frozen? ⟨w.heap.size+1,0,none⟩=false:=jAq z5)
      skip
      exact ⟨⟨by have:=hb5.size;simpa using this,fun k o hB hk ho=>(Qy _ _ _ _ (by show k≠w.heap.size+1;omega)).trans ((hb5.block k (jAv hk)).trans hk)⟩,pre,_,rfl,hx,hfree⟩
   case stop =>
    rintro D2 c2 pre W hD2 ⟨k2,hk2,e2⟩ ⟨pre',x,rfl,hx,hm⟩ hK2
    exfalso
    rw[List.map_append] at e2
    exact hm (placeD hv hD hM (k:=k2) (pre:=pre'.map Subtype.val) (x:=x.1) e2.symm hx).2
   case done =>
    rintro D2 zs W2 hD2 hzs hHg hK2
    have hzl:zs.length<=70000:=by
     have h9:=congrArg List.length hzs
     rw[List.length_map] at h9
     rw[h9]
     exact Qk (jH0 _ _) hlenD
    rw[hzs] at hHg
    obtain ⟨nz,hnz⟩:∃nz,zs.length=nz:=⟨_,rfl⟩
    rw[hnz] at hHg hzl
    have hU2:=jM1 U (upto (rsD U.D ms) (rsD U.D ms).length)
    obtain ⟨U2,hU2e⟩:∃U2,hgD U (upto (rsD U.D ms) (rsD U.D ms).length)=U2:=⟨_,rfl⟩
    rw[hU2e] at hHg hU2
    have z0:W2.cell? ⟨w.heap.size,0,none⟩=some (.pointer (some ⟨q,0,none⟩)):=(jAj hHg.box).trans rfl
    gi_wp2_with (gi_at_call 63;refine (all_f F (n-1) h3 hro _ _).mono ?_;rintro e w' ⟨rfl,rfl⟩)
    obtain ⟨V2,hV2⟩:∃V2,W2.alloc (.cells #[.pointer (some ⟨q,3,none⟩)] 188)=V2:=⟨_,rfl⟩
    obtain ⟨bf,hbf⟩:∃bf,W2.heap.size=bf:=⟨_,rfl⟩
    have hbV2:Below W2.heap.size W2 V2:=by rw[<-hV2];exact (Qq _ _).alloc (Qj _) _
    have kF:V2.heap[bf]?=some (.cells #[.pointer (some ⟨q,3,none⟩)] 188 (0,0)):=by rw[<-hV2,<-hbf];exact jA2 W2 _
    have kFc:V2.cell? ⟨bf,0,none⟩=some (.pointer (some ⟨q,3,none⟩)):=(jAj kF).trans rfl
    have hszV2:V2.heap.size=bf+1:=by rw[<-hV2,<-hbf];simp
    rw[hV2,hbf]
    have hsW2:=hHg.only.size
    have hI2:=hHg.inn.below hbV2
    have hD2l:D2<W2.heap.size:=(Array.getElem?_eq_some_iff.1 hK2).1
    have hKV:V2.heap[D2]?=some (.deferred (some [])):=(hbV2.block _ hD2l).trans hK2
    have hFlt2:∀k,k∈fp q dv fv U.D ms->k<V2.heap.size:=fun k hk=>Qx (hFlt k hk) (by omega)
    have hHg2:Hg w V2 V2 q dv fv ld lf ms U.D nz U2:=⟨hI2,Only.refl _ _,(hbV2.block _ (jAv hHg.box)).trans hHg.box,(hbV2.block _ (jAv hHg.res)).trans hHg.res⟩
    have hxV2:w.heap.size+1<V2.heap.size:=jAv hHg2.res
    have hUFp:∀l:List Cm,(hgF U2 l).D=U.D:=fun l=>(hgF_stay U2 l).2.2.2.1.trans hU2.2.2.2.1
    obtain ⟨g2,hg2l,hgo2,hrows⟩:∃g2,g2<V2.heap.size/\(fv.ownBlock=some g2\/g2=g)/\((V2.cell? ⟨q,4,none⟩=some (.slice none 0 0)/\U.F=[]/\q<V2.heap.size)\/∃cap,Rs_f V2 V2.heap.size q g2 cap U.F):=by
     rcases rows_f hI2 with ⟨e1,e2,e3⟩ | ⟨g2,cap2,hR2⟩
     ·rw[hU2.2.2.2.2] at e2
      exact ⟨g,Qx hR.lg (by omega),.inr rfl,.inl ⟨e1,e2,e3⟩⟩
     ·rw[hU2.2.2.2.2] at hR2
      refine ⟨g2,hR2.lg,.inl ?_,.inr ⟨cap2,hR2⟩⟩
      have c1:=hI2.cells.2.2.2.2.1
      rw[hR2.cq] at c1
      injection c1 with c1
      rw[<-c1]
      rfl
    have hql:q<V2.heap.size:=Qx hR.lq (by omega)
    have hcf:∀x:Row_ U.F,T.M x.1.p (ky x.1.n)=some (2,x.1.i):=fun x=>(cmF hv hF (k:=U.F.length) (jM2 (jAy x.2) x.2)).2
    refine wpIn_rangeFunc_ownH hro h1' (gf:=100) (lb:=#[.pointer (some ⟨bf,0,none⟩)]) rfl h5 (enters_of func100 (by kernel_rfl) rfl)
     (stopsk_f F (n-1) h5 hro (by omega) bf V2.heap.size q g2 U.F hlenF V2 (by omega) (Qj _) kFc hrows) (fun h k=>h.trans k) (kg_put hql hg2l) (Qq _ _) (fun _=>rfl)
     (fun pre W=>Hg w V2 W q dv fv ld lf ms U.D (nz+pre.length) (hgF U2 (pre.map Subtype.val))/\W.heap[D2]?=some (.deferred (some [])))
     (fun _ pre _=>∃(pre':List (Row_ U.F)) (x:Row_ U.F),pre=pre'++[x]/\(hgF U2 (pre'.map Subtype.val)).M x.1.p (ky x.1.n)≠none)
     (OwnFrom.and (Hg.own (fun pre:List (Row_ U.F)=>nz+pre.length) (fun pre=>hgF U2 (pre.map Subtype.val)) (fun pre=>hUFp _) hFlt2 hxV2) (fun _ X Y row hs hg hr=>(hg.block D2 (Array.getElem?_eq_some_iff.1 hs).1 (fun e=>by have:=(hr D2 e.symm).1;omega)).trans hs))
     (fun _ _ _ _ _ hs _ _=>hs)
     ⟨hHg2,hKV⟩
     (fun x a' W=>∃Bx,V2.heap.size<=Bx/\W.heap[Bx]?=some (.cells #[.int .i64 (x.1.p:Int),.string x.1.n,.int .i64 (x.1.x:Int)] 147 (0,0))/\a'={ tmps:=#[.pointer (some ⟨q,0,none⟩),.slice a k c,.pointer (some ⟨w.heap.size,0,none⟩),undef,.pointer (some ⟨w.heap.size+1,0,none⟩),undef,u6,undef,undef,.int .i64 (x.1.i:Int),.pointer (some ⟨Bx,0,none⟩),.slice a k c,.bool true,.bool false,.slice a k c,.int .i64 (k:Int),.int .i64 (k:Int),.bool false,u18,u19,u20,u21,u22,u23,u24,.pointer (some ⟨q,0,none⟩),.pointer (some ⟨q,0,none⟩),.pointer (some ⟨q,0,none⟩),.func (.func 83) #[] #[.pointer (some ⟨bn,0,none⟩)],undef,undef,undef,undef,undef,undef,undef,undef,undef,undef,undef,undef,undef,.pointer (some ⟨q,0,none⟩),.pointer (some ⟨q,0,none⟩),.pointer (some ⟨q,3,none⟩),.func (.func 100) #[] #[.pointer (some ⟨bf,0,none⟩)],.int .i64 (x.1.i:Int),.agg #[.int .i64 (x.1.p:Int),.string x.1.n,.int .i64 (x.1.x:Int)],undef,undef,undef,undef,undef,undef,undef],defers:=[] })
     (fun x a' _ X Y row hs hg hr=>by obtain ⟨Bx,e1,e2,e3⟩:=hs;exact ⟨Bx,e1,jK1 (β:=Unit) Bx _ _ () X Y row e2 hg (fun r e=>(hr r e).2),e3⟩)
     ?assign2 ?body2 ?done2 ?stop2
    case assign2 =>
     rintro l pre x W K ⟨hHg,hKD⟩ hK
     gi_wp2
     skip
     have hsz:=hHg.only.size
     exact hK _ _ ((KeepsOthers.alloc _ _).from _) (Kg.of_below ((Qq W.heap.size W).alloc (Qj _) _) (Qx hql hsz) (Qx hg2l hsz)) ⟨hHg.grow (hUFp _) hFlt2 hxV2 (World.grownBy_alloc _ _ none) (fun r e=>by cases e),(QK W _ _ (Array.getElem?_eq_some_iff.1 hKD).1).trans hKD⟩ ⟨W.heap.size,hsz,jA2 W _,rfl⟩
    case body2 =>
     rintro l pre x a' W hl ⟨r,hr⟩ ⟨hHg,hKD⟩ ⟨Bx,hBx,bX,rfl⟩ hlt
     have c3:=hcf x
     have hd1:1<=n-1-1:=by omega
     have h8':(F.inRound l).fn 146:=h8
     obtain ⟨⟨xi,xp,xn,xx⟩,hxr⟩:=x
     simp only at c3 bX
     have y0:W.cell? ⟨Bx,0,none⟩=some (.int .i64 (xp:Int)):=(jAj bX).trans rfl
     have y1:W.cell? ⟨Bx,1,none⟩=some (.string xn):=(jAj bX).trans rfl
     have z0:W.cell? ⟨w.heap.size,0,none⟩=some (.pointer (some ⟨q,0,none⟩)):=(jAj hHg.box).trans rfl
     have z1:W.cell? ⟨w.heap.size+1,0,none⟩=some (.bool false):=(jAj hHg.res).trans rfl
     have hrt:jE3 (hgF U2 (pre.map Subtype.val)) 16 xp=true:=by
      rw[jN5 (hUFp _)]
      exact jN8 hv hD 16 xp (hv.hP _ _ _ c3) (by have:=(hv.d1 _ _ _ c3).1;omega)
     have hpl:pre.length<70000:=Qx hlt hlenF
     have hset:=settle_hg w V2 W q dv fv ld lf ms U.D (nz+pre.length) _ hHg 2 xi xp xn ⟨_,by rw[hUFp];exact hroot⟩ (by have:=jE7 (hv.hN _ _ _ c3);unfold maxLen;omega) (by unfold maxLen;omega) hrt (fun v hm=>by
      rcases hgF_M U2 _ hm with h9 | ⟨y,_,_,_,h9⟩
      ·rw[<-hU2e] at h9
       rcases hgD_M U _ h9 with h9 | ⟨y,_,_,_,_,h9⟩
       ·rw[hM] at h9;cases h9
       ·rw[h9];simp
      ·rw[h9];simp) W (Qq _ _)
     obtain ⟨dd,hdd⟩:=hv.hP _ _ _ c3
     have hddU:=(hD _ _).2 hdd
     by_cases hfree:(hgF U2 (pre.map Subtype.val)).M xp (ky xn)=none
     ·have hs2:Calls prog 146 #[.pointer (some ⟨q,0,none⟩),.agg #[.int .i64 2,.int .i64 (xi:Int)],.agg #[.int .i64 (xp:Int),.string xn]] W fun e w'=>e=.returned (.bool true)/\Hid ((Hg w V2 w' q dv fv ld lf ms U.D (nz+(pre++[(⟨⟨xi,xp,xn,xx⟩,hxr⟩:Row_ U.F)]).length) (hgF U2 ((pre++[(⟨⟨xi,xp,xn,xx⟩,hxr⟩:Row_ U.F)]).map Subtype.val))/\w'.heap[D2]?=some (.deferred (some [])))/\KeepsFrom V2.heap.size W w'/\Kg q g2 W w'):=hset.mono fun e w' h9=>by
       rcases h9 with ⟨a1,a2,a3,a4⟩ | ⟨_,a2,_⟩
       ·have hdU:(hgF U2 (pre.map Subtype.val)).D[xp]?=some (some dd):=by rw[hUFp];exact hddU
        obtain ⟨b1,b2,b3⟩:=hHg.step (hUFp _) hdU a3 a4 hFlt2
        have hml:ms xp<V0.heap.size:=hFlt _ (jBx.2 (.inr (.inr (.inr ⟨xp,dd,hddU,rfl⟩))))
        refine ⟨a1,⟨?_,?_⟩,b2,?_⟩
        ·rw[List.map_append,List.length_append]
         show Hg _ _ _ _ _ _ _ _ _ _ _ (hgF U2 (_++[_]))
         rw[hgF_snoc]
         exact b1
        ·exact (a4.block D2 (Array.getElem?_eq_some_iff.1 hKD).1 (fun e=>by injection e with e;omega)).trans hKD
        ·rcases hgo2 with e | e
         ·exact b3 g2 (.inr e)
         ·rw[e];exact b3 g (.inl hgo)
       ·exact absurd hfree a2
      clear hset
      gi_wp2_with (gi_at_call 146;refine (CallsIn.inRound l (callsF hFw.out hs2)).mono ?_;rintro e w5 ⟨rfl,hg5⟩)
      skip
      exact ⟨hg5.out.2.1,hg5.out.2.2,hg5.out.1⟩
     ·have hs2:Calls prog 146 #[.pointer (some ⟨q,0,none⟩),.agg #[.int .i64 2,.int .i64 (xi:Int)],.agg #[.int .i64 (xp:Int),.string xn]] W fun e w'=>e=.returned (.bool false)/\Below W.heap.size W w':=hset.mono fun e w' h9=>by
       rcases h9 with ⟨_,a2,_,_⟩ | ⟨a1,_,a3⟩
       ·exact absurd a2 hfree
       ·exact ⟨a1,a3⟩
      clear hset
      gi_wp2_with (gi_at_call 146;refine (CallsIn.inRound l (callsF hFw.out hs2)).mono ?_;rintro e w5 ⟨rfl,hb5⟩;have z5:=(hb5.block _ (jAv hHg.res)).trans hHg.res;have z6:w5.cell? ⟨w.heap.size+1,0,none⟩=some (.bool false):=(jAj z5).trans rfl;have z7:w5.frozen? ⟨w.heap.size+1,0,none⟩=false:=jAq z5)
      skip
      exact ⟨⟨by have:=hb5.size;simpa using this,fun k o hB hk ho=>(Qy _ _ _ _ (by show k≠w.heap.size+1;omega)).trans ((hb5.block k (jAv hk)).trans hk)⟩,pre,_,rfl,hfree⟩
    case stop2 =>
     rintro D3 c2 pre W hD3 ⟨k2,hk2,e2⟩ ⟨pre',x,rfl,hm⟩ hK3
     exfalso
     rw[List.map_append] at e2
     have h9:=(placeF hv hD hF hM (ms:=ms) (j:=(rsD U.D ms).length) (k:=k2) (pre:=pre'.map Subtype.val) (x:=x.1) e2.symm).2
     rw[hU2e] at h9
     exact hm h9
    case done2 =>
     rintro D3 zs3 W3 hD3 hzs3 ⟨hHg3,hKD3⟩ hK3
     have hzl3:zs3.length<=70000:=by
      have h9:=congrArg List.length hzs3
      rw[List.length_map] at h9
      rw[h9]
      exact Qk (jH0 _ _) hlenF
     rw[hzs3] at hHg3
     have z3:W3.cell? ⟨w.heap.size+1,0,none⟩=some (.bool false):=(jAj hHg3.res).trans rfl
     have f3:W3.frozen? ⟨w.heap.size+1,0,none⟩=false:=jAq hHg3.res
     gi_wp2
     obtain ⟨X,hX⟩:∃X,W3.setCell ⟨w.heap.size+1,0,none⟩ (.bool true)=X:=⟨_,rfl⟩
     rw[hX]
     have eX:∀k,k≠w.heap.size+1->X.heap[k]?=W3.heap[k]?:=fun k hk=>by rw[<-hX];exact Qy _ _ _ _ hk
     have kX:X.heap[w.heap.size+1]?=some (.cells #[.bool true] 4 (0,0)):=by rw[<-hX];exact QJ _ _ 0 _ _ (.bool true) hHg3.res
     have sX:X.heap.size=W3.heap.size:=by rw[<-hX];simp
     have nd:∀k:Nat,W3.heap[k]?=some (.deferred (some []))->k≠w.heap.size+1:=fun k h e=>by
      rw[e,hHg3.res] at h
      cases h
     have hX2:X.heap[D3]?=some (.deferred (some [])):=(eX D3 (nd _ hK3)).trans hK3
     refine ⟨by simp,.inl ⟨_,_,rfl,run_takeDeferred hX2,?_⟩⟩
     have hDD:D2≠D3:=by omega
     have hXD:(X.putObj D3 (.deferred none)).heap[D2]?=some (.deferred (some [])):=(World.putObj_heap_other hDD).trans ((eX D2 (nd _ hKD3)).trans hKD3)
     refine ⟨by simp,.inl ⟨_,_,rfl,run_takeDeferred hXD,?_⟩⟩
     obtain ⟨Y,hY⟩:∃Y,(X.putObj D3 (.deferred none)).putObj D2 (.deferred none)=Y:=⟨_,rfl⟩
     rw[hY]
     have eY:∀k,k≠w.heap.size+1->k≠D2->k≠D3->Y.heap[k]?=W3.heap[k]?:=fun k k1 k2 k3=>by
      rw[<-hY]
      exact ((World.putObj_heap_other k2).trans (World.putObj_heap_other k3)).trans (eX k k1)
     have kY:Y.heap[w.heap.size+1]?=some (.cells #[.bool true] 4 (0,0)):=by
      rw[<-hY]
      exact (World.putObj_heap_other (by omega)).trans ((World.putObj_heap_other (by omega)).trans kX)
     have sY:Y.heap.size=W3.heap.size:=by rw[<-hY];simp[World.putObj,sX]
     have oY:Y.os=W3.os/\Y.tape=W3.tape/\Y.output=W3.output:=by
      rw[<-hY,<-hX]
      exact ⟨rfl,rfl,rfl⟩
     have hT3:hgF U2 (upto U.F U.F.length)={ U with M:=T.M }:=by
      obtain ⟨a1,a2,a3,a4,a5⟩:=hgF_stay U2 (upto U.F U.F.length)
      have a6:=load_M hv hD hF hM ms
      rw[hU2e] at a6
      obtain ⟨b1,b2,b3,b4,b5⟩:=hU2
      generalize hgF U2 (upto U.F U.F.length)=Z at *
      obtain ⟨z1,z2,z3,z4,z5,z6⟩:=Z
      simp only at a1 a2 a3 a4 a5 a6
      rw[a1,a2,a3,a4,a5,a6,b1,b2,b3,b4,b5]
     rw[hT3] at hHg3
     have hfin:Turn S w Y q 200000 { U with M:=T.M }:=by
      have s0:=HE.out.only.size
      have s1:=hHg3.only.size
      have s2:=hbV2.size
      have s3:=hbV.size
      refine ⟨⟨?_,?_,?_,by omega,fun k hk hkS=>?_⟩,fp q dv fv U.D ms,⟨dv,fv,ld,lf,ms,rfl,(hHg3.inn.up (N:=200000) (by omega)).keep fun k hk=>?_⟩,fun k hk=>hF' k (by rw[hFe];exact hk)⟩
      ·exact oY.1.trans (hHg3.only.os.trans (hbV2.os.trans (hHg.only.os.trans (hbV.os.trans HE.out.only.os))))
      ·exact oY.2.1.trans (hHg3.only.tape.trans (hbV2.tape.trans (hHg.only.tape.trans (hbV.tape.trans HE.out.only.tape))))
      ·exact oY.2.2.trans (hHg3.only.output.trans (hbV2.output.trans (hHg.only.output.trans (hbV.output.trans HE.out.only.output))))
      ·have hkF:k ∉ fp q dv fv U.D ms:=fun h9=>by
        rcases hF' k (by rw[hFe];exact h9) with h8 | h8
        ·exact hkS h8
        ·omega
       rw[eY k (by omega) (by omega) (by omega),hHg3.only.block k (by omega) hkF,hbV2.block k (by omega),hHg.only.block k (by omega) hkF,hbV.block k (by omega)]
       exact HE.out.only.block k hk hkS
      ·have h9:k<V0.heap.size:=hFlt k hk
       refine eY k (fun e=>?_) (by omega) (by omega)
       exact hHg3.inn.notin (e▸hHg3.res) (by decide) hk
     have hcY:Y.cell? ⟨w.heap.size+1,0,none⟩=some (.bool true):=(jAj kY).trans rfl
     rw[hU]
     exact ⟨.bool true,results_cellB rfl _ _ (w.heap.size+1) rfl hcY,rfl,hfin⟩
end Go.Proofs.YtfnklhajafmooaaGreatDoor.Tr
namespace Go.Proofs.YtfnklhajafmooaaGreatDoor.Tr
open Go.RowKit Go.Lib Go.Deep Go.Proofs.Tryz
def ldT (f d m:Nat)(T:Ts):Ts:={ entL (newT f d m) (told T) with M:=T.M }
theorem fill_any (w:World)(q:Nat)(S:List Nat)(f d m:Nat)(hL:Lay w q S 0 (newT f d m))(T:Ts)(dp:Nat->Nat)(hv:Inv T dp)(hfr:T.fr=f)(hdr:T.dr=d+1)(hms:∀x∈told T,x.size<=m)(B:Nat)(a:Option Addr)(len c:Nat)(hlen:len=(told T).length)(hrow:w.ownsRow B 91 5 (.slice a len c) len (ndsc (told T)))(hlb:len<=1000000) :
 Calls prog 105 #[.pointer (some ⟨q,0,none⟩),.slice a len c] w fun e w'=>e=.returned (.bool true)/\Turn S w w' q 200000 (ldT f d m T) :=
 callsIn_wide.1 (fill_in Fence.wide 3 trivial trivial trivial trivial trivial trivial trivial trivial rfl rfl (Qj _) w q S f d m hL T dp hv hfr hdr hms B a len c hlen hrow hlb)
theorem load_tre (w:World)(f d m:Nat)(hf1:1<=f)(hf:f<=65536)(hd:d<=4096)(hm:m<=65536)(T:Ts)(dp:Nat->Nat)(hv:Inv T dp)(hfr:T.fr=f)(hdr:T.dr=d+1)(hms:∀x∈told T,x.size<=m)(B:Nat)(a:Option Addr)(len c:Nat)(hlen:len=(told T).length)(hrow:w.ownsRow B 91 5 (.slice a len c) len (ndsc (told T)))(hlb:len<=1000000) :
 Calls prog 69 #[.agg #[.int .i64 (f:Int),.int .i64 (d:Int),.slice a len c],.int .i64 (m:Int)] w fun e w'=>∃b q,e=.returned (.tuple #[.pointer (some ⟨b,0,none⟩),.int .i64 0])/\Hid (Tre w' w.heap.size b q 200000 (ldT f d m T))/\Below w.heap.size w w':=by
 obtain ⟨W,hW,hb,k0⟩:=jA4 w #[.int .i64 (f:Int),.int .i64 (d:Int),.slice a len c] 49
 have h1:=isMost_any W m hm
 have h2:=jG9 W f d hf1 hf hd
 have h3:=jFq W f d m hf hd hm
 have HFL:Hid (∀V q S,Below W.heap.size W V->Lay V q S 0 (newT f d m)->Calls prog 105 #[.pointer (some ⟨q,0,none⟩),.slice a len c] V fun e w'=>e=.returned (.bool true)/\Turn S V w' q 200000 (ldT f d m T)):=fun V q S hV hl=>fill_any V q S f d m hl T dp hv hfr hdr hms B a len c hlen (jA0 (jA0 hrow fun g hg=>hb.block _ (hrow.lt g hg).2) fun g hg=>hV.block _ (Qx (hrow.lt g hg).2 hb.size)) hlb
 have x0:W.cell? ⟨w.heap.size,0,none⟩=some (.int .i64 (f:Int)):=(jAj k0).trans rfl
 have x1:W.cell? ⟨w.heap.size,1,none⟩=some (.int .i64 (d:Int)):=(jAj k0).trans rfl
 have HB:Hid (Below w.heap.size w W):=hb
 have HK:Hid (∀V,Below W.heap.size W V->V.cell? ⟨w.heap.size,2,none⟩=some (.slice a len c)):=fun V hV=>(jAj ((hV.block _ (jAv k0)).trans k0)).trans rfl
 obtain ⟨Z,hZ⟩:∃Z,ldT f d m T=Z:=⟨_,rfl⟩
 rw[hZ] at HFL ⊢
 clear hv hfr hdr hms hlen hrow hlb hb k0 hZ
 go_enter func69,ntmps69
 go_wp2_with fail
 refine h1.mono ?_
 rintro e w1 ⟨rfl,hw1⟩
 subst w1
 go_wp2_with fail
 refine h2.mono ?_
 rintro e w1 ⟨rfl,hw1⟩
 subst w1
 go_wp2_with fail
 refine h3.mono ?_
 rintro e w1 ⟨q,rfl,hq,HL,hb1⟩
 obtain ⟨S,hlS,hSk⟩:=HL.out
 have hfl:=HFL.out w1 q S hb1 hlS
 have HSK:Hid (∀k,k∈S->W.heap.size<=k):=hSk
 have HB1:Hid _:=hb1
 have x2:=HK.out w1 hb1
 clear hlS hSk HL hb1 h1 h2 h3 x0 x1
 go_wp2_with fail
 refine hfl.mono ?_
 rintro e w2 ⟨rfl,ht2⟩
 have HT2:Hid _:=ht2
 clear ht2 hfl x2
 go_wp2
 go_ret2
 obtain ⟨ho,F2,hl2,hk2⟩:=HT2.out
 have hbA:Below w2.heap.size w2 (w2.alloc (.cells #[.pointer (some ⟨q,0,none⟩)] 94)):=(Qq _ _).alloc (Qj _) _
 have hbw1:Below w.heap.size w w1:=jBq HB1.out HB.out
 have hb2:Below w.heap.size w w2:=hbw1.trans ⟨ho.os,ho.tape,ho.output,ho.size,fun k hk=>ho.block k (Qx hk hbw1.size) (fun hm=>by have:=HSK.out k hm;have:=HB.out.size;omega)⟩
 refine ⟨w2.heap.size,q,rfl,⟨jA2 w2 _,hb2.size,F2,hl2.below hbA,fun k hk=>?_⟩,jBq hbA hb2⟩
 rcases hk2 k hk with h9 | h9
 ·exact Qk HB.out.size (HSK.out k h9)
 ·exact Qk hbw1.size h9
theorem ld_stay (f d m:Nat)(T:Ts):(ldT f d m T).fr=f/\(ldT f d m T).dr=d+1/\(ldT f d m T).most=m:=by
 obtain ⟨h1,h2,h3,_⟩:=jN7 (newT f d m) (told T)
 exact ⟨h1,h2,h3⟩
