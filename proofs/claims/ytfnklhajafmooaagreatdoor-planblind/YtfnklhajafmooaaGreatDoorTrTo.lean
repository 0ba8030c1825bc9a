import Derived.Test.YtfnklhajafmooaaGreatDoorTrIt
import Derived.Test.YtfnklhajafmooaaGreatDoorG09
set_option maxHeartbeats 4000000
set_option maxRecDepth 100000
namespace Go.Proofs.YtfnklhajafmooaaGreatDoor.Tr
open Go.RowKit Go.Lib Go.Deep Go.Shelf Go.Proofs.Tryz
attribute [local go_sem] Oper.semAt_some
def ndc (n:Nd):List Value:=[.int .i64 (n.kind:Int),.int .i64 (n.number:Int),.int .i64 (n.parent:Int),.string n.name,.int .i64 (n.size:Int)]
def ndsc (l:List Nd):List Value:=l.flatMap ndc
theorem ndsc_snoc (l:List Nd)(n:Nd):ndsc (l++[n])=ndsc l++ndc n:=by simp[ndsc]
theorem ndc_one (n:Nd):∀u∈ndc n,u.oneCell'=true:=fun u hu=>by
 simp[ndc] at hu
 rcases hu with rfl | rfl | rfl | rfl | rfl <;> rfl
theorem cells_nd (W:World)(n:Nd):∀(j:Nat) u,(ndc n)[j]?=some u->(W.alloc (.cells #[.int .i64 (n.kind:Int),.int .i64 (n.number:Int),.int .i64 (n.parent:Int),.string n.name,.int .i64 (n.size:Int)] 91)).cell? ((⟨W.heap.size,0,none⟩:Addr).add j)=some u:=fun j u h=>by
 have e:(⟨W.heap.size,0,none⟩:Addr).add j=⟨W.heap.size,j,none⟩:=by simp[Addr.add];omega
 rw[e,jAj (jA2 W _)]
 simpa[ndc] using h
theorem infoN:(prog.info? 91).map (fun i=>(i.zero,i.size,i.bytes))=some (some (.agg #[.int .i64 0,.int .i64 0,.int .i64 0,.string { data:=#[] },.int .i64 0]),5,48):=by kernel_rfl
def f1 (pre:List Cm):List Nd:=pre.filterMap fun x=>if x.i=0 then none else some ⟨1,x.i,x.p,x.n,0⟩
def f2 (L:List Nd)(pre:List Cm):List Nd:=L++pre.map fun x=>⟨2,x.i,x.p,x.n,x.x⟩
theorem f1_miss (pre:List Cm){x:Cm}(h:x.i=0):f1 (pre++[x])=f1 pre:=by simp[f1,h]
theorem f1_hit (pre:List Cm){x:Cm}(h:¬x.i=0):f1 (pre++[x])=f1 pre++[⟨1,x.i,x.p,x.n,0⟩]:=by simp[f1,h]
theorem f2_snoc (L:List Nd)(pre:List Cm)(x:Cm):f2 L (pre++[x])=f2 L pre++[⟨2,x.i,x.p,x.n,x.x⟩]:=by simp[f2]
theorem f1_len (pre:List Cm):(f1 pre).length<=pre.length:=List.length_filterMap_le _ _
theorem f2_len (L:List Nd)(pre:List Cm):(f2 L pre).length=L.length+pre.length:=by simp[f2]
theorem jK1 {β:Type}(b:Nat)(cs:Array Value)(t:TypeId):Own (fun (_:β) W=>W.heap[b]?=some (.cells cs t (0,0))):=fun s X Y row hs hg hr=>(hg.block b (jAv hs) (fun e=>by
 obtain ⟨o,ho,hc⟩:=hr b e.symm
 rw[hs] at ho
 cases ho
 cases hc)).trans hs
theorem wp_merge {P:Program}{c:Code}{Q:Exit->Act->World->Prop}{a:Act}{w:World}{A:Act}{W:World}(h1:Code.wp P c (fun e a' w'=>match e with | .normal=>a'=A/\w'=W | _=>False) a w)(h2:Q .normal A W):Code.wp P c Q a w :=
 Code.wp_mono (fun e a w h=>by
  cases e with
  | normal=>obtain ⟨rfl,rfl⟩:=h;exact h2
  | _=>exact h.elim) h1
theorem jB1 {w:World}{B B' n size e:Nat}{v:Value}{xs:List Value}(h:w.ownsRow B e size v n xs)(hB:B'<=B):w.ownsRow B' e size v n xs:=by
 obtain ⟨q0,q⟩:=h
 refine ⟨q0,?_⟩
 rcases q with q | ⟨g1,cap1,cur1,q1,q2,q3⟩
 ·exact .inl q
 ·exact .inr ⟨g1,cap1,cur1,q1,Qk hB q2,q3⟩
theorem sizeTS:(prog.info? 49).map (·.size)=some 3:=by kernel_rfl
theorem told_in (F:Fence)(n:Nat)(h1:F.fn 38)(h2:F.fn 57)(h3:F.fn 63)(h4:F.fn 83)(h5:F.fn 100)(hro:F.round=none)(hFw:Hid (F=Fence.wide))(hn:3<=n)(q fr dr:Nat)(rd rf:List (Option (Nat × ByteArray × Nat)))(hld:rd.length<=70000)(hlf:rf.length<=70000)(hdr:1<=dr)(hdm:dr<=70000)(w:World)(cf:w.cell? ⟨q,3,none⟩=some (.int .i64 (fr:Int)))(cd:w.cell? ⟨q,0,none⟩=some (.int .i64 (dr:Int)))
 (hD:(w.cell? ⟨q,1,none⟩=some (.slice none 0 0)/\rd=[]/\q<w.heap.size)\/∃g cap,Rs_d w w.heap.size q g cap rd) (hF:(w.cell? ⟨q,4,none⟩=some (.slice none 0 0)/\rf=[]/\q<w.heap.size)\/∃g cap,Rs_f w w.heap.size q g cap rf) :
 CallsIn F n prog 38 #[.pointer (some ⟨q,0,none⟩)] w fun e W'=>∃v,e=.returned (.agg #[.int .i64 (fr:Int),.int .i64 ((dr:Int)-1),v])/\W'.ownsRow w.heap.size 91 5 v (f2 (f1 (upto rd rd.length)) (upto rf rf.length)).length (ndsc (f2 (f1 (upto rd rd.length)) (upto rf rf.length)))/\Below w.heap.size w W':=by
 have h1':1<=n:=by omega
 obtain ⟨i0,hi,hz0,hz1,hz2⟩:=info_parts infoN
 have hqd:q<w.heap.size:=by
  rcases hD with h | ⟨g,cap,h⟩
  ·exact h.2.2
  ·exact h.lq
 obtain ⟨w1,hw1⟩:∃w1,w.alloc (.cells #[.int .i64 0,.int .i64 0,.slice none 0 0] 49)=w1:=⟨_,rfl⟩
 have hsz1:w1.heap.size=w.heap.size+1:=by rw[<-hw1];simp
 have hb1:Below w.heap.size w w1:=by rw[<-hw1];exact (Qq _ _).alloc (Qj _) _
 have kr:w1.heap[w.heap.size]?=some (.cells #[.int .i64 0,.int .i64 0,.slice none 0 0] 49 (0,0)):=by rw[<-hw1];exact jA2 w _
 have HW1:Hid _:=hw1
 refine callsIn_of_wp_marks func38 rfl h1 ?_ hro
 simp only[ntmps38,List.size_toArray,List.length_cons,List.length_nil,Nat.reduceAdd,Nat.reduceSub,Array.replicate_succ,Array.replicate_zero,List.push_toArray,List.append_toArray,List.nil_append,List.cons_append]
 gi_wp2_with (gi_at_call 57;refine (all_d F (n-1) h2 hro _ _).mono ?_;rintro e w' ⟨rfl,rfl⟩)
 skip
 have bO:=Boxed.new w1 47 (.slice none 0 0)
 have bN:=Boxed.new (w1.alloc (.cells #[.slice none 0 0] 47)) 184 (.pointer (some ⟨q,0,none⟩))
 rw[World.size_alloc] at bN
 have hB0:Below (w.heap.size+1) w1 ((w1.alloc (.cells #[.slice none 0 0] 47)).alloc (.cells #[.pointer (some ⟨q,0,none⟩)] 184)):=by rw[<-hsz1];exact ((Qq _ w1).alloc (Qj _) _).alloc (by simp) _
 rw[hsz1] at bO bN
 obtain ⟨W0,hW0⟩:∃W0,(w1.alloc (.cells #[.slice none 0 0] 47)).alloc (.cells #[.pointer (some ⟨q,0,none⟩)] 184)=W0:=⟨_,rfl⟩
 have hsz0:W0.heap.size=w.heap.size+3:=by rw[<-hW0];simp[hsz1]
 have bO':=bO.alloc (.cells #[.pointer (some ⟨q,0,none⟩)] 184)
 rw[hW0] at bO' bN hB0 ⊢
 have hbw0:Below w.heap.size w W0:=hb1.trans (hB0.mono (by omega))
 have hD0:(W0.cell? ⟨q,1,none⟩=some (.slice none 0 0)/\rd=[]/\q<w.heap.size+1)\/∃g cap,Rs_d W0 (w.heap.size+1) q g cap rd:=by
  rcases hD with ⟨e1,e2,e3⟩ | ⟨g,cap,h⟩
  ·exact .inl ⟨(hbw0.cell (p:=⟨q,1,none⟩) e3).trans e1,e2,by omega⟩
  ·have:=h.below hbw0
   exact .inr ⟨g,cap,this.cq,Nat.lt_succ_of_lt this.lq,Nat.lt_succ_of_lt this.lg,this.no,this.ys⟩
 refine wpIn_rangeFunc_ownH hro h1' (gf:=83) (lb:=#[.pointer (some ⟨w.heap.size+1+1,0,none⟩)]) rfl h4 (enters_of func83 (by kernel_rfl) rfl)
  (stops_d F (n-1) h4 hro (by omega) (w.heap.size+1+1) (w.heap.size+1) q rd hld W0 (by omega) (by omega) bN.cell hD0) belowK_t (belowK_b (by omega)) (Qq _ _) (fun _=>rfl)
  (fun pre W=>(∃v,Boxed W (w.heap.size+1) 47 v/\W.ownsRow (w.heap.size+1) 91 5 v (f1 pre).length (ndsc (f1 pre))/\True)/\Below (w.heap.size+1) w1 W)
  (fun _ _ _=>False)
  (OwnFrom.and (Own.from (holdsRow_own (w.heap.size+1) (w.heap.size+1) 47 91 5 (fun pre=>(f1 pre).length) (fun pre=>ndsc (f1 pre)) (fun _ _=>True)) _) (ownFrom_below (by omega) (by omega)))
  (fun _ _ _ _ _ hs _ _=>hs)
  ⟨⟨_,bO',World.ownsRow_nil _ _ _ _,trivial⟩,hB0⟩
  (fun x a' W=>∃Bx,w.heap.size+1<Bx/\W.heap[Bx]?=some (.cells #[.int .i64 (x.p:Int),.string x.n,.map (some x.x)] 144 (0,0))/\a'={ tmps:=#[.pointer (some ⟨q,0,none⟩),undef,.pointer (some ⟨w.heap.size,0,none⟩),.pointer (some ⟨w.heap.size+1,0,none⟩),.int .i64 (x.i:Int),.pointer (some ⟨Bx,0,none⟩),undef,undef,.pointer (some ⟨q,0,none⟩),.pointer (some ⟨q,0,none⟩),.pointer (some ⟨q,0,none⟩),.func (.func 83) #[] #[.pointer (some ⟨w.heap.size+1+1,0,none⟩)],.int .i64 (x.i:Int),.agg #[.int .i64 (x.p:Int),.string x.n,.map (some x.x)],undef,undef,undef,undef,undef,undef,undef,undef,undef,undef,undef,undef,undef,undef,undef,undef,undef,undef,undef,undef,undef,undef,undef,undef,undef,undef,undef,undef,undef,undef,undef,undef,undef,undef,undef,undef,undef,undef,undef,undef,undef,undef,undef,undef,undef],defers:=[] })
  (fun x a' _ X Y row hs hg hr=>by obtain ⟨Bx,e1,e2,e3⟩:=hs;exact ⟨Bx,e1,jK1 (β:=Unit) Bx _ _ () X Y row e2 hg (fun r e=>(hr r e).2),e3⟩)
  ?assign ?body ?done ?stop
 case assign =>
  rintro l pre x W K ⟨⟨v,hv,hrow,-⟩,hB1⟩ hK
  gi_wp2
  skip
  exact hK _ _ ((KeepsOthers.alloc _ _).from _) ((Qq _ W).alloc (by have:=hB1.size;omega) _) ⟨⟨v,hv.alloc _,hrow.alloc _,trivial⟩,hB1.alloc (by have:=hB1.size;omega) _⟩ ⟨W.heap.size,hv.lt,jA2 W _,rfl⟩
 case body =>
  rintro l pre x a' W hl ⟨r,hr⟩ ⟨⟨v,hv,hrow,-⟩,hB⟩ ⟨Bx,hBx,bX,rfl⟩ hlt
  have hc:=hv.cell
  have x0:W.cell? ⟨Bx,0,none⟩=some (.int .i64 (x.p:Int)):=(jAj bX).trans rfl
  have x1:W.cell? ⟨Bx,1,none⟩=some (.string x.n):=(jAj bX).trans rfl
  have hpl:=f1_len pre
  by_cases hx:x.i=0
  ·have hxI:((x.i:Int) != 0)=false:=by simp[hx]
   have hxI2:(x.i:Int)=0:=by omega
   gi_wp2
   skip
   exact ⟨KeepsFrom.refl _ _,Qq _ _,⟨v,hv,by rw[f1_miss pre hx];exact hrow,trivial⟩,hB⟩
  ·have hxI:((x.i:Int) != 0)=true:=by simp[hx]
   gi_wp2_with (gi_at_builtin;refine wpListIn_append_own _ rfl _ _ 47 rfl (w.heap.size+1) 91 i0 _ 5 48 underlying47 hi hz0 hz1 hz2 rfl (by decide) _ _ _ rfl (hrow.alloc _) ⟨W.heap.size,0,none⟩ 1 1 (ndc ⟨1,x.i,x.p,x.n,0⟩) rfl rfl (cells_nd W ⟨1,x.i,x.p,x.n,0⟩) (ndc_one ⟨1,x.i,x.p,x.n,0⟩) (by unfold maxLen;omega) (by omega) (by have:=hB.size;simp;omega) ?_;intro v' w2 hown' hgrow _;obtain ⟨g',cap',rfl⟩:=ownsRow_succ hown';obtain ⟨hv1,hv2,hr2,hk2,hb2⟩:=hv.appended (by decide) hrow (by have:=hB.size;omega) (Qj _) hown' hgrow;have hc1:=hv1.cell;have hf1:=hv1.frozen)
   skip
   exact ⟨hk2.from _,hb2,⟨_,hv2,by rw[f1_hit pre hx,ndsc_snoc];simpa using hr2,trivial⟩,hB.trans hb2⟩
 case done =>
  rintro D zs W hD1 rfl ⟨⟨v,hv,hrow,-⟩,hB1⟩ hK
  have hcb:=hv.cell
  gi_wp2_with (gi_at_call 63;refine (all_f F (n-1) h3 hro _ _).mono ?_;rintro e w' ⟨rfl,rfl⟩)
  obtain ⟨L0,hL0⟩:∃L0,f1 (upto rd rd.length)=L0:=⟨_,rfl⟩
  have hL0l:L0.length<=70000:=by rw[<-hL0];exact Qk (f1_len _) (Qk (jH0 _ _) hld)
  rw[hL0] at hrow
  have hDlt:D<W.heap.size:=(Array.getElem?_eq_some_iff.1 hK).1
  have hWs:=hB1.size
  obtain ⟨V0,hV0⟩:∃V0,W.alloc (.cells #[.pointer (some ⟨q,3,none⟩)] 188)=V0:=⟨_,rfl⟩
  obtain ⟨g2,hg2⟩:∃g2,W.heap.size=g2:=⟨_,rfl⟩
  have hszV:V0.heap.size=g2+1:=by rw[<-hV0,<-hg2];simp
  have bF:Boxed V0 g2 188 (.pointer (some ⟨q,3,none⟩)):=by rw[<-hV0,<-hg2];exact Boxed.new W 188 _
  have hv0:Boxed V0 (w.heap.size+1) 47 v:=by rw[<-hV0];exact hv.alloc _
  have hrow0:V0.ownsRow (w.heap.size+1) 91 5 v L0.length (ndsc L0):=by rw[<-hV0];exact hrow.alloc _
  have hBV:Below (w.heap.size+1) w1 V0:=by rw[<-hV0];exact hB1.alloc (by omega) _
  have hKV:V0.heap[D]?=some (.deferred (some [])):=by rw[<-hV0];exact (QK W _ _ hDlt).trans hK
  have hbwV:Below w.heap.size w V0:=hb1.trans (hBV.mono (by omega))
  have hF0:(V0.cell? ⟨q,4,none⟩=some (.slice none 0 0)/\rf=[]/\q<w.heap.size+1)\/∃g cap,Rs_f V0 (w.heap.size+1) q g cap rf:=by
   rcases hF with ⟨e1,e2,e3⟩ | ⟨g,cap,h⟩
   ·exact .inl ⟨(hbwV.cell (p:=⟨q,4,none⟩) e3).trans e1,e2,by omega⟩
   ·have:=h.below hbwV
    exact .inr ⟨g,cap,this.cq,Nat.lt_succ_of_lt this.lq,Nat.lt_succ_of_lt this.lg,this.no,this.ys⟩
  rw[hV0,hg2]
  refine wpIn_rangeFunc_ownH hro h1' (gf:=100) (lb:=#[.pointer (some ⟨g2,0,none⟩)]) rfl h5 (enters_of func100 (by kernel_rfl) rfl)
   (stops_f F (n-1) h5 hro (by omega) g2 (w.heap.size+1) q rf hlf V0 (by omega) (by omega) bF.cell hF0) belowK_t (belowK_b (by omega)) (Qq _ _) (fun _=>rfl)
   (fun pre V=>((∃v,Boxed V (w.heap.size+1) 47 v/\V.ownsRow (w.heap.size+1) 91 5 v (f2 L0 pre).length (ndsc (f2 L0 pre))/\True)/\Below (w.heap.size+1) w1 V)/\V.heap[D]?=some (.deferred (some [])))
   (fun _ _ _=>False)
   (OwnFrom.and (OwnFrom.and (Own.from (holdsRow_own (w.heap.size+1) (w.heap.size+1) 47 91 5 (fun pre=>(f2 L0 pre).length) (fun pre=>ndsc (f2 L0 pre)) (fun _ _=>True)) _) (ownFrom_below (by omega) (by omega))) (fun _ X Y row hs hg hr=>(hg.block D (Array.getElem?_eq_some_iff.1 hs).1 (fun e=>by have:=(hr D e.symm).1;omega)).trans hs))
   (fun _ _ _ _ _ hs _ _=>hs)
   ⟨⟨⟨_,hv0,by simpa[f2] using hrow0,trivial⟩,hBV⟩,hKV⟩
   (fun x a' V=>∃Bx,w.heap.size+1<Bx/\V.heap[Bx]?=some (.cells #[.int .i64 (x.p:Int),.string x.n,.int .i64 (x.x:Int)] 147 (0,0))/\a'={ tmps:=#[.pointer (some ⟨q,0,none⟩),undef,.pointer (some ⟨w.heap.size,0,none⟩),.pointer (some ⟨w.heap.size+1,0,none⟩),undef,undef,.int .i64 (x.i:Int),.pointer (some ⟨Bx,0,none⟩),.pointer (some ⟨q,0,none⟩),.pointer (some ⟨q,0,none⟩),.pointer (some ⟨q,0,none⟩),.func (.func 83) #[] #[.pointer (some ⟨w.heap.size+1+1,0,none⟩)],undef,undef,undef,undef,undef,undef,undef,undef,undef,undef,undef,undef,undef,undef,undef,.pointer (some ⟨q,0,none⟩),.pointer (some ⟨q,0,none⟩),.pointer (some ⟨q,3,none⟩),.func (.func 100) #[] #[.pointer (some ⟨g2,0,none⟩)],.int .i64 (x.i:Int),.agg #[.int .i64 (x.p:Int),.string x.n,.int .i64 (x.x:Int)],undef,undef,undef,undef,undef,undef,undef,undef,undef,undef,undef,undef,undef,undef,undef,undef,undef,undef,undef,undef,undef,undef,undef,undef,undef,undef],defers:=[] })
   (fun x a' _ X Y row hs hg hr=>by obtain ⟨Bx,e1,e2,e3⟩:=hs;exact ⟨Bx,e1,jK1 (β:=Unit) Bx _ _ () X Y row e2 hg (fun r e=>(hr r e).2),e3⟩)
   ?assign2 ?body2 ?done2 ?stop2
  case assign2 =>
   rintro l pre x V K ⟨⟨⟨v,hv,hrow,-⟩,hB1⟩,hKD⟩ hK
   gi_wp2
   exact hK _ _ ((KeepsOthers.alloc _ _).from _) ((Qq _ V).alloc (by have:=hB1.size;omega) _) ⟨⟨⟨v,hv.alloc _,hrow.alloc _,trivial⟩,hB1.alloc (by have:=hB1.size;omega) _⟩,(QK V _ _ (Array.getElem?_eq_some_iff.1 hKD).1).trans hKD⟩ ⟨V.heap.size,hv.lt,jA2 V _,rfl⟩
  case body2 =>
   rintro l pre x a' W hl ⟨r,hr⟩ ⟨⟨⟨v,hv,hrow,-⟩,hB⟩,hKD⟩ ⟨Bx,hBx,bX,rfl⟩ hlt
   have hc:=hv.cell
   have x0:W.cell? ⟨Bx,0,none⟩=some (.int .i64 (x.p:Int)):=(jAj bX).trans rfl
   have x1:W.cell? ⟨Bx,1,none⟩=some (.string x.n):=(jAj bX).trans rfl
   have x2:W.cell? ⟨Bx,2,none⟩=some (.int .i64 (x.x:Int)):=(jAj bX).trans rfl
   have hpl:(f2 L0 pre).length<=70000+pre.length:=by rw[f2_len];omega
   gi_wp2_with (gi_at_builtin;refine wpListIn_append_own _ rfl _ _ 47 rfl (w.heap.size+1) 91 i0 _ 5 48 underlying47 hi hz0 hz1 hz2 rfl (by decide) _ _ _ rfl (hrow.alloc _) ⟨W.heap.size,0,none⟩ 1 1 (ndc ⟨2,x.i,x.p,x.n,x.x⟩) rfl rfl (cells_nd W ⟨2,x.i,x.p,x.n,x.x⟩) (ndc_one ⟨2,x.i,x.p,x.n,x.x⟩) (by unfold maxLen;omega) (by omega) (by have:=hB.size;simp;omega) ?_;intro v' w2 hown' hgrow _;obtain ⟨g',cap',rfl⟩:=ownsRow_succ hown';obtain ⟨hv1,hv2,hr2,hk2,hb2⟩:=hv.appended (by decide) hrow (by have:=hB.size;omega) (Qj _) hown' hgrow;have hc1:=hv1.cell;have hf1:=hv1.frozen)
   exact ⟨hk2.from _,hb2,⟨⟨_,hv2,by rw[f2_snoc,ndsc_snoc];simpa using hr2,trivial⟩,hB.trans hb2⟩,(hk2.same D _ hKD rfl)⟩
  case done2 =>
   rintro D2 zs W hD2 rfl ⟨⟨⟨v,hv,hrow,-⟩,hB2⟩,hKD⟩ hK2
   have hcb:=hv.cell
   have hbW:Below w.heap.size w W:=hb1.trans (hB2.mono (by omega))
   have cf':=(hbW.cell (p:=⟨q,3,none⟩) hqd).trans cf
   have cd':=(hbW.cell (p:=⟨q,0,none⟩) hqd).trans cd
   have kr':W.heap[w.heap.size]?=_:=(hB2.block w.heap.size (by omega)).trans kr
   have r0:W.cell? ⟨w.heap.size,0,none⟩=some (.int .i64 0):=(jAj kr').trans rfl
   have r1:W.cell? ⟨w.heap.size,1,none⟩=some (.int .i64 0):=(jAj kr').trans rfl
   have r2:W.cell? ⟨w.heap.size,2,none⟩=some (.slice none 0 0):=(jAj kr').trans rfl
   have fr':∀j,W.frozen? ⟨w.heap.size,j,none⟩=false:=fun j=>jAq kr'
   have hwd:IntKind.i64.wrap ((dr:Int)-1)=(dr:Int)-1:=by rw[QX];omega
   obtain ⟨va,vc,hva⟩:∃va vc,v=.slice va (f2 L0 (upto rf rf.length)).length vc:=by
    rcases hrow.2 with ⟨e1,e2⟩ | ⟨g,cap,cur,e1,_⟩
    ·exact ⟨none,0,by rw[e2];exact e1⟩
    ·exact ⟨_,cap,e1⟩
   subst hva
   obtain ⟨NN,hNN⟩:∃NN,(f2 L0 (upto rf rf.length)).length=NN:=⟨_,rfl⟩
   have HNN:Hid _:=hNN
   rw[hNN] at hcb hrow hv
   gi_wp2
   obtain rfl:=hFw.out
   refine wpIn_wide.2 ?_
   have hne:¬q=w.heap.size:=by omega
   have HSN:Hid ((((W.drew.setCell ⟨w.heap.size,0,none⟩ (.int .i64 (fr:Int))).setCell ⟨w.heap.size,1,none⟩ (.int .i64 ((dr:Int)-1))).setCell ⟨w.heap.size,2,none⟩ (.slice va NN vc)).cell? ⟨q,3,none⟩=some (.int .i64 (fr:Int))/\(((W.drew.setCell ⟨w.heap.size,0,none⟩ (.int .i64 (fr:Int))).setCell ⟨w.heap.size,1,none⟩ (.int .i64 ((dr:Int)-1))).setCell ⟨w.heap.size,2,none⟩ (.slice va NN vc)).cell? ⟨q,0,none⟩=some (.int .i64 (dr:Int))/\(((W.drew.setCell ⟨w.heap.size,0,none⟩ (.int .i64 (fr:Int))).setCell ⟨w.heap.size,1,none⟩ (.int .i64 ((dr:Int)-1))).setCell ⟨w.heap.size,2,none⟩ (.slice va NN vc)).cell? ⟨w.heap.size+1,0,none⟩=some (.slice va NN vc)):=by
    have e:∀k,k≠w.heap.size->(((W.drew.setCell ⟨w.heap.size,0,none⟩ (.int .i64 (fr:Int))).setCell ⟨w.heap.size,1,none⟩ (.int .i64 ((dr:Int)-1))).setCell ⟨w.heap.size,2,none⟩ (.slice va NN vc)).heap[k]?=W.heap[k]?:=fun k hk=>by rw[Qy _ _ _ _ hk,Qy _ _ _ _ hk,Qy _ _ _ _ hk];rfl
    have c:∀(k j:Nat) (v:Value),k≠w.heap.size->W.cell? ⟨k,j,none⟩=some v->(((W.drew.setCell ⟨w.heap.size,0,none⟩ (.int .i64 (fr:Int))).setCell ⟨w.heap.size,1,none⟩ (.int .i64 ((dr:Int)-1))).setCell ⟨w.heap.size,2,none⟩ (.slice va NN vc)).cell? ⟨k,j,none⟩=some v:=fun k j v hk h=>by simp only[World.cell?] at h ⊢;rw[e k hk];exact h
    exact ⟨c _ _ _ hne cf',c _ _ _ hne cd',c _ _ _ (by omega) hcb⟩
   apply wp_merge
   ·skip
    refine wp_region_held_drew (S:=fun V=>V.cell? ⟨q,3,none⟩=some (.int .i64 (fr:Int))/\V.cell? ⟨q,0,none⟩=some (.int .i64 (dr:Int))/\V.cell? ⟨w.heap.size+1,0,none⟩=some (.slice va NN vc)) (by kernel_rfl) ⟨cf',cd',hcb⟩ ?_
    intro hS
    refine tQ 0 ⟨some 46,.move (.tmp 0),_,_,_,none⟩ (.pointer (some ⟨q,0,none⟩)) rfl hS ?_
    (try simp only[Act.put,sA,sB,sC])
    refine tQ 1 ⟨some 47,.nilCheck (.tmp 46),_,_,_,none⟩ (.pointer (some ⟨q,0,none⟩)) rfl hS ?_
    (try simp only[Act.put,sA,sB,sC])
    refine tQ 2 ⟨some 48,.fieldAddr 138 (.tmp 47) 1,_,_,_,none⟩ (.pointer (some ⟨q,3,none⟩)) rfl hS ?_
    (try simp only[Act.put,sA,sB,sC])
    refine tQ 3 ⟨some 49,.fieldAddr 136 (.tmp 48) 0,_,_,_,none⟩ (.pointer (some ⟨q,3,none⟩)) rfl hS ?_
    (try simp only[Act.put,sA,sB,sC])
    refine tQ 4 ⟨some 50,.load 3 (.tmp 49),_,_,_,none⟩ (.int .i64 (fr:Int)) rfl hS ?_ (Or.inl ⟨by rfl,by intro x hx;have h1:=hx.1;go_simp⟩)
    (try simp only[Act.put,sA,sB,sC])
    refine tQ 5 ⟨some 51,.move (.tmp 0),_,_,_,none⟩ (.pointer (some ⟨q,0,none⟩)) rfl hS ?_
    (try simp only[Act.put,sA,sB,sC])
    refine tQ 6 ⟨some 52,.nilCheck (.tmp 51),_,_,_,none⟩ (.pointer (some ⟨q,0,none⟩)) rfl hS ?_
    (try simp only[Act.put,sA,sB,sC])
    refine tQ 7 ⟨some 53,.fieldAddr 138 (.tmp 52) 0,_,_,_,none⟩ (.pointer (some ⟨q,0,none⟩)) rfl hS ?_
    (try simp only[Act.put,sA,sB,sC])
    refine tQ 8 ⟨some 54,.fieldAddr 133 (.tmp 53) 0,_,_,_,none⟩ (.pointer (some ⟨q,0,none⟩)) rfl hS ?_
    (try simp only[Act.put,sA,sB,sC])
    refine tQ 9 ⟨some 55,.load 3 (.tmp 54),_,_,_,none⟩ (.int .i64 (dr:Int)) rfl hS ?_ (Or.inl ⟨by rfl,by intro x hx;have h1:=hx.2.1;go_simp⟩)
    (try simp only[Act.put,sA,sB,sC])
    refine tQ 10 ⟨some 56,.binOp .sub 3 (.tmp 55) (.const (.int .i64 1)) 3,_,_,_,none⟩ (.int .i64 ((dr:Int)-1)) rfl hS ?_
    (try simp only[Act.put,sA,sB,sC])
    refine tQ 11 ⟨some 57,.load 47 (.tmp 3),_,_,_,none⟩ (.slice va NN vc) rfl hS ?_ (Or.inl ⟨by rfl,by intro x hx;have h1:=hx.2.2;go_simp⟩)
    (try simp only[Act.put,sA,sB,sC])
    refine tQ 12 ⟨some 58,.build 49 #[(0,.tmp 50),(1,.tmp 56),(2,.tmp 57)],_,_,_,none⟩ (.agg #[.int .i64 (fr:Int),.int .i64 ((dr:Int)-1),.slice va NN vc]) rfl hS ?_
    (try simp only[Act.put,sA,sB,sC])
    refine wpAnyH_ready (rs:=[13]) (by kernel_rfl) (by simp) ?_
    refine AllReadyH.cons (o:=⟨none,.store 49 (.tmp 2) (.tmp 58),_,_,_,none⟩) rfl (fun K hK=>?_) AllReadyH.nil
    go_simp
    have hS2:=HSN.out
    refine hK.out _ _ hS2 (fun _=>?_)
    clear hK K hS
    (try simp only[Act.put])
    refine wpAnyH_done (by kernel_rfl) ?_ _
    exact ⟨rfl,rfl⟩
   ·gi_wp2
    obtain ⟨X,hX⟩:∃X,((((W.setCell ⟨w.heap.size,0,none⟩ (.int .i64 (fr:Int))).setCell ⟨w.heap.size,1,none⟩ (.int .i64 ((dr:Int)-1))).setCell ⟨w.heap.size,2,none⟩ (.slice va NN vc)).drew)=X:=⟨_,rfl⟩
    rw[hX]
    have eX:∀k,k≠w.heap.size->X.heap[k]?=W.heap[k]?:=fun k hk=>by
     rw[<-hX]
     show ((((W.setCell ⟨w.heap.size,0,none⟩ (.int .i64 (fr:Int))).setCell ⟨w.heap.size,1,none⟩ (.int .i64 ((dr:Int)-1))).setCell ⟨w.heap.size,2,none⟩ (.slice va NN vc))).heap[k]?=_
     rw[Qy _ _ _ _ hk,Qy _ _ _ _ hk,Qy _ _ _ _ hk]
    have kX:X.heap[w.heap.size]?=some (.cells #[.int .i64 (fr:Int),.int .i64 ((dr:Int)-1),.slice va NN vc] 49 (0,0)):=by
     rw[<-hX]
     exact put3A kr'
    have hbX:Below w.heap.size w X:=by
     rw[<-hX]
     exact (((hbW.setCell (by simp) _).setCell (by simp) _).setCell (by simp) _).drew
    have nd:∀k:Nat,W.heap[k]?=some (.deferred (some []))->k≠w.heap.size:=fun k h e=>by
     rw[e,kr'] at h
     cases h
    have hX2:X.heap[D2]?=some (.deferred (some [])):=(eX D2 (nd _ hK2)).trans hK2
    refine ⟨by simp,.inl ⟨_,_,rfl,run_takeDeferred hX2,?_⟩⟩
    have hDD:D≠D2:=by omega
    have hXD:(X.putObj D2 (.deferred none)).heap[D]?=some (.deferred (some [])):=(World.putObj_heap_other hDD).trans ((eX D (nd _ hKD)).trans hKD)
    refine ⟨by simp,.inl ⟨_,_,rfl,run_takeDeferred hXD,?_⟩⟩
    have kY:((X.putObj D2 (.deferred none)).putObj D (.deferred none)).heap[w.heap.size]?=some (.cells #[.int .i64 (fr:Int),.int .i64 ((dr:Int)-1),.slice va NN vc] 49 (0,0)):=(World.putObj_heap_other (fun e=>nd _ hKD e.symm)).trans ((World.putObj_heap_other (fun e=>nd _ hK2 e.symm)).trans kX)
    refine ⟨_,jB9 rfl _ _ w.heap.size 49 _ (0,0) _ rfl kY underlying49 rfl sizeTS,_,rfl,?_,?_⟩
    ·have hk:=jA0 hrow (W':=(X.putObj D2 (.deferred none)).putObj D (.deferred none)) (fun g hg=>by
      obtain ⟨cur,hcur⟩:=jA1 hrow hg
      have n1:g≠w.heap.size:=fun e=>by
       rw[e,kr'] at hcur
       injection hcur with hcur
       injection hcur with _ hcur _
       exact absurd hcur (by decide)
      have n2:g≠D2:=fun e=>by rw[e,hK2] at hcur;cases hcur
      have n3:g≠D:=fun e=>by rw[e,hKD] at hcur;cases hcur
      exact (World.putObj_heap_other n3).trans ((World.putObj_heap_other n2).trans (eX g n1)))
     exact jB1 hk (Nat.le_succ _)
    ·exact (hbX.trans (belowK_b (w:=w) (Qj _) X D2 _ _ (by omega) hX2 rfl rfl)).trans (belowK_b (w:=w) (Qj _) _ D _ _ (by omega) hXD rfl rfl)
  case stop2 =>
   rintro D c pre W _ _ h _
   exact h.elim
 case stop =>
  rintro D c pre W _ _ h _
  exact h.elim
