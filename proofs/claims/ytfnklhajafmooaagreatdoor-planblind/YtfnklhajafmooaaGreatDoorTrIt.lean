import Derived.Test.YtfnklhajafmooaaGreatDoorG07
import Derived.RangeFuncNested
import Derived.RangeFuncBound
import Derived.RangeFuncCalls
import Derived.RangeFuncLeaves
import Derived.RangeFuncBox
import Derived.Shelf.Abstract
import Derived.Shelf.RegionOpen
import Derived.OwnWalkIn
import Derived.TacticsInMore
import Derived.LoopNIn
import Derived.LoopIn
set_option maxHeartbeats 4000000
set_option maxRecDepth 100000
namespace Go.Proofs.YtfnklhajafmooaaGreatDoor.Tr
open Go.RowKit Go.Lib Go.Deep Go.Shelf Go.Proofs.Tryz
attribute [local go_sem] Oper.semAt_some
structure Cm where
 i:Nat
 p:Nat
 n:ByteArray
 x:Nat
def upto (rs:List (Option (Nat × ByteArray × Nat)))(k:Nat):List Cm:=(rs.take k).zipIdx.filterMap fun r=>r.1.map fun d=>⟨r.2,d.1,d.2.1,d.2.2⟩
theorem jE2 {rs:List (Option (Nat × ByteArray × Nat))}{k:Nat}{o:Option (Nat × ByteArray × Nat)}(h:rs[k]?=some o):upto rs (k+1)=upto rs k++(o.map fun d=>(⟨k,d.1,d.2.1,d.2.2⟩:Cm)).toList:=by
 have hk:=(QV.1 h).1
 unfold upto
 rw[List.take_add_one,h,List.zipIdx_append,List.filterMap_append]
 congr 1
 have hl:(rs.take k).length=k:=by rw[List.length_take];omega
 cases o with
 | none=>simp[hl]
 | some d=>simp[hl]
theorem jH0 (rs:List (Option (Nat × ByteArray × Nat)))(k:Nat):(upto rs k).length<=k:=by
 unfold upto
 refine Qk (List.length_filterMap_le _ _) ?_
 rw[List.length_zipIdx,List.length_take]
 omega
theorem upto_all (rs:List (Option (Nat × ByteArray × Nat))){k:Nat}(h:rs.length<=k):upto rs k=upto rs rs.length:=by
 unfold upto
 rw[Qf h,Qh]
structure Rs_d (W:World)(n₀ q g cap:Nat)(rs:List (Option (Nat × ByteArray × Nat))):Prop where
 cq:W.cell? ⟨q,1,none⟩=some (.slice (some ⟨g,0,none⟩) rs.length cap)
 lq:q<n₀
 lg:g<n₀
 no:∀k,rs[k]?=some none->W.cell? ⟨g,k*4,none⟩=some (.bool false)/\W.cell? ⟨g,k*4+1,none⟩=some (.int .i64 0)/\W.cell? ⟨g,k*4+2,none⟩=some (.string { data:=#[] })/\W.cell? ⟨g,k*4+3,none⟩=some (.map none)
 ys:∀k (p:Nat) (n:ByteArray) (x:Nat),rs[k]?=some (some (p,n,x))->W.cell? ⟨g,k*4,none⟩=some (.bool true)/\W.cell? ⟨g,k*4+1,none⟩=some (.int .i64 (p:Int))/\W.cell? ⟨g,k*4+2,none⟩=some (.string n)/\W.cell? ⟨g,k*4+3,none⟩=some (.map (some x))
theorem Rs_d.below {W X:World}{n₀ q g cap:Nat}{rs:List (Option (Nat × ByteArray × Nat))}(h:Rs_d W n₀ q g cap rs)(hb:Below n₀ W X):Rs_d X n₀ q g cap rs:=by
 have k:∀(j:Nat) (v:Value),W.cell? ⟨g,j,none⟩=some v->X.cell? ⟨g,j,none⟩=some v:=fun j v e=>(hb.cell (p:=⟨g,j,none⟩) h.lg).trans e
 exact ⟨(hb.cell (p:=⟨q,1,none⟩) h.lq).trans h.cq,h.lq,h.lg,fun i hi=>⟨k _ _ (h.no i hi).1,k _ _ (h.no i hi).2.1,k _ _ (h.no i hi).2.2.1,k _ _ (h.no i hi).2.2.2⟩,fun i p n x hi=>⟨k _ _ (h.ys i p n x hi).1,k _ _ (h.ys i p n x hi).2.1,k _ _ (h.ys i p n x hi).2.2.1,k _ _ (h.ys i p n x hi).2.2.2⟩⟩
theorem all1_d (F:Fence)(n:Nat)(hf:F.fn 83)(hro:F.round=none)(hn:1<=n)(l Bn n₀ q g cap:Nat)(rs:List (Option (Nat × ByteArray × Nat)))(hlen:rs.length<=70000)(J Jx:List Cm->World->Prop)
 (W:World) (hJ:AbidesFrom W.heap.size J)
 (hY:∀pre (x:Cm) W1,J pre W1->pre.length<rs.length->YieldAt F (n-1) prog l #[.int .i64 (x.i:Int),.agg #[.int .i64 (x.p:Int),.string x.n,.map (some x.x)]] W1 fun e W'=>(e=.returned (.bool true)/\J (pre++[x]) W'/\Below n₀ W1 W')\/(e=.returned (.bool false)/\Jx (pre++[x]) W'))
 (hn₀:n₀<=W.heap.size) (hBn:W.cell? ⟨Bn,0,none⟩=some (.pointer (some ⟨q,0,none⟩))) (hR:Rs_d W n₀ q g cap rs) (h0:J [] W) :
 CallsIn F n prog 83 #[.func (.yield l) #[] #[],.pointer (some ⟨Bn,0,none⟩)] W fun e W'=>(∃v,e=.returned v)/\((∃ys,ys=upto rs rs.length/\J ys W')\/(∃pre,(∃k,k<=rs.length/\pre=upto rs k)/\Jx pre W')):=by
 have cq:=hR.cq
 have HR0:Hid _:=hR
 have HN0:Hid _:=hn₀
 have HJ:Hid _:=hJ
 have HY:Hid _:=hY
 obtain ⟨N,hN⟩:∃N,rs.length=N:=⟨_,rfl⟩
 have HN:Hid (rs.length=N):=hN
 rw[hN] at cq hlen
 clear hR hJ hY hN
 refine callsIn_of_wp func83 rfl hf ?_ hro
 simp only[ntmps83,List.size_toArray,List.length_cons,List.length_nil,Nat.reduceAdd,Nat.reduceSub,Array.replicate_succ,Array.replicate_zero,List.push_toArray,List.append_toArray,List.nil_append,List.cons_append]
 gi_wp2
 gi_loopw [10] (fun i wr=>∃k:Nat,k<=N/\i=.int .i64 (k:Int)/\Hid (J (upto rs k) wr)/\Hid (Below n₀ W wr)/\Hid (W.heap.size<=wr.heap.size))
  (fun i _=>N-(intOf i).toNat)
 case atStart=>exact ⟨0,Kj _,rfl,h0,Qq _ _,Qj _⟩
 case round =>
  obtain ⟨k,hk,rfl,HJs,HB,HSZ⟩:=hrel
  by_cases hlt:k<N
  ·have hltI:(k:Int)<(N:Int):=by omega
   have hw1:IntKind.i64.wrap ((k:Int)+1)=((k+1:Nat):Int):=by rw[QX];omega
   have HRr:Hid _:=HR0.out.below HB.out
   cases hrk:rs[k]? with
   | none=>exact absurd (List.getElem?_eq_none_iff.1 hrk) (by have:=HN.out;omega)
   | some o =>
     cases o with
     | none =>
       obtain ⟨y0,y1,y2,y3⟩:=HRr.out.no k hrk
       have HU:Hid (upto rs (k+1)=upto rs k):=(jE2 hrk).trans (by simp)
       clear hrk
       gi_wp2
       refine ⟨fun _ h=>(by cases h),?_⟩
       gi_wp2
       go_roundw
       case rel=>exact ⟨k+1,by omega,by first | rfl | simp,by show J _ _;rw[HU.out];exact HJ.out _ _ _ none HJs.out (World.grownBy_alloc _ _ _) (fun r e=>(by cases e)),HB.out.alloc (Qk HN0.out HSZ.out) _,by show _<=_;have:=HSZ.out;simp;omega⟩
       case measure=>simp[intOf];omega
     | some d =>
       obtain ⟨p,nm,x⟩:=d
       obtain ⟨y0,y1,y2,y3⟩:=HRr.out.ys k p nm x hrk
       have HU:Hid (upto rs (k+1)=upto rs k++[⟨k,p,nm,x⟩]):=(jE2 hrk).trans (by simp)
       have hJ1:J (upto rs k) (wr.alloc (.cells #[.bool true,.int .i64 (p:Int),.string nm,.map (some x)] 187)):=HJ.out _ _ _ none HJs.out (World.grownBy_alloc _ _ _) (fun r e=>(by cases e))
       obtain ⟨fn,tmps,assign,body,hy,hRR⟩:=HY.out _ ⟨k,p,nm,x⟩ _ hJ1 (by have:=jH0 rs k;have:=HN.out;omega)
       dsimp only at hy
       clear hrk hJ1
       gi_wp2
       refine hRR.mono ?_
       rintro e W3 (⟨rfl,hJ3,hk3⟩ | ⟨rfl,hJx3⟩)
       ·gi_wp2
        go_roundw
        case rel=>exact ⟨k+1,by omega,by first | rfl | simp,by show J _ _;rw[HU.out];exact hJ3,(HB.out.alloc (Qk HN0.out HSZ.out) _).trans hk3,by show _<=_;have h1:=HSZ.out;have h2:=hk3.size;simp at h2;omega⟩
        case measure=>simp[intOf];omega
       ·gi_wp2
        refine Qw (results_none rfl _ _ _) rfl ?_
        exact ⟨⟨_,rfl⟩,.inr ⟨_,⟨k+1,by have:=HN.out;omega,HU.out.symm⟩,hJx3⟩⟩
  ·obtain rfl:k=N:=by omega
   gi_wp2
   go_end0
   have hN:=HN.out
   subst hN
   exact ⟨⟨_,rfl⟩,.inl ⟨_,rfl,HJs.out⟩⟩
theorem all1_nil_d (F:Fence)(n:Nat)(hf:F.fn 83)(hro:F.round=none)(l Bn q:Nat)(J:List Cm->World->Prop)(W:World)(hBn:W.cell? ⟨Bn,0,none⟩=some (.pointer (some ⟨q,0,none⟩)))(cq:W.cell? ⟨q,1,none⟩=some (.slice none 0 0))(h0:J [] W) :
 CallsIn F n prog 83 #[.func (.yield l) #[] #[],.pointer (some ⟨Bn,0,none⟩)] W fun e W'=>(∃v,e=.returned v)/\J [] W':=by
 refine callsIn_of_wp func83 rfl hf ?_ hro
 simp only[ntmps83,List.size_toArray,List.length_cons,List.length_nil,Nat.reduceAdd,Nat.reduceSub,Array.replicate_succ,Array.replicate_zero,List.push_toArray,List.append_toArray,List.nil_append,List.cons_append]
 gi_wp2
 gi_loopw [10] (fun i wr=>i=.int .i64 0/\J [] wr) (fun _ _=>0)
 case atStart=>exact ⟨rfl,h0⟩
 case round =>
  obtain ⟨rfl,hJs⟩:=hrel
  gi_wp2
  go_end0
  exact ⟨⟨_,rfl⟩,hJs⟩
theorem all_d (F:Fence)(n:Nat)(hf:F.fn 57)(hro:F.round=none)(q:Nat)(w:World) :
 CallsIn F n prog 57 #[.pointer (some ⟨q,0,none⟩)] w fun e w'=>e=.returned (.func (.func 83) #[] #[.pointer (some ⟨w.heap.size,0,none⟩)])/\w'=w.alloc (.cells #[.pointer (some ⟨q,0,none⟩)] 184):=by
 refine callsIn_of_wp func57 rfl hf ?_ hro
 simp only[ntmps57,List.size_toArray,List.length_cons,List.length_nil,Nat.reduceAdd,Nat.reduceSub,Array.replicate_succ,Array.replicate_zero,List.push_toArray,List.append_toArray,List.nil_append,List.cons_append]
 gi_wp2
 go_ret
 exact ⟨rfl,rfl⟩
theorem stops_d (F:Fence)(n:Nat)(hf:F.fn 83)(hro:F.round=none)(hn:1<=n)(Bn n₀ q:Nat)(rs:List (Option (Nat × ByteArray × Nat)))(hlen:rs.length<=70000)(w:World)(hBn:Bn<w.heap.size)(hn₀:n₀<=w.heap.size)
 (hc:w.cell? ⟨Bn,0,none⟩=some (.pointer (some ⟨q,0,none⟩))) (hI:(w.cell? ⟨q,1,none⟩=some (.slice none 0 0)/\rs=[]/\q<n₀)\/∃g cap,Rs_d w n₀ q g cap rs) :
 SeqStopsK F n prog 83 #[.pointer (some ⟨Bn,0,none⟩)] (fun x:Cm=>#[.int .i64 (x.i:Int),.agg #[.int .i64 (x.p:Int),.string x.n,.map (some x.x)]]) (Below n₀) (fun ys=>ys=upto rs rs.length) (fun pre=>∃k,k<=rs.length/\pre=upto rs k) rs.length w:=fun l J Jx W hW hJ _ hY h0=>by
 have hc':=(hW.cell (p:=⟨Bn,0,none⟩) hBn).trans hc
 rcases hI with ⟨h1,rfl,hq⟩ | ⟨g,cap,hR⟩
 ·exact (all1_nil_d F n hf hro l Bn q J W hc' ((hW.cell (p:=⟨q,1,none⟩) (Qx hq hn₀)).trans h1) h0).mono fun e W' ⟨he,hj⟩=>⟨he,.inl ⟨_,rfl,hj⟩⟩
 ·exact all1_d F n hf hro hn l Bn n₀ q g cap rs hlen J Jx W hJ hY (Qk hn₀ hW.size) hc' (hR.below (hW.mono hn₀)) h0
structure Rs_f (W:World)(n₀ q g cap:Nat)(rs:List (Option (Nat × ByteArray × Nat))):Prop where
 cq:W.cell? ⟨q,4,none⟩=some (.slice (some ⟨g,0,none⟩) rs.length cap)
 lq:q<n₀
 lg:g<n₀
 no:∀k,rs[k]?=some none->W.cell? ⟨g,k*4,none⟩=some (.bool false)/\W.cell? ⟨g,k*4+1,none⟩=some (.int .i64 0)/\W.cell? ⟨g,k*4+2,none⟩=some (.string { data:=#[] })/\W.cell? ⟨g,k*4+3,none⟩=some (.int .i64 0)
 ys:∀k (p:Nat) (n:ByteArray) (x:Nat),rs[k]?=some (some (p,n,x))->W.cell? ⟨g,k*4,none⟩=some (.bool true)/\W.cell? ⟨g,k*4+1,none⟩=some (.int .i64 (p:Int))/\W.cell? ⟨g,k*4+2,none⟩=some (.string n)/\W.cell? ⟨g,k*4+3,none⟩=some (.int .i64 (x:Int))
theorem Rs_f.below {W X:World}{n₀ q g cap:Nat}{rs:List (Option (Nat × ByteArray × Nat))}(h:Rs_f W n₀ q g cap rs)(hb:Below n₀ W X):Rs_f X n₀ q g cap rs:=by
 have k:∀(j:Nat) (v:Value),W.cell? ⟨g,j,none⟩=some v->X.cell? ⟨g,j,none⟩=some v:=fun j v e=>(hb.cell (p:=⟨g,j,none⟩) h.lg).trans e
 exact ⟨(hb.cell (p:=⟨q,4,none⟩) h.lq).trans h.cq,h.lq,h.lg,fun i hi=>⟨k _ _ (h.no i hi).1,k _ _ (h.no i hi).2.1,k _ _ (h.no i hi).2.2.1,k _ _ (h.no i hi).2.2.2⟩,fun i p n x hi=>⟨k _ _ (h.ys i p n x hi).1,k _ _ (h.ys i p n x hi).2.1,k _ _ (h.ys i p n x hi).2.2.1,k _ _ (h.ys i p n x hi).2.2.2⟩⟩
theorem all1_f (F:Fence)(n:Nat)(hf:F.fn 100)(hro:F.round=none)(hn:1<=n)(l Bn n₀ q g cap:Nat)(rs:List (Option (Nat × ByteArray × Nat)))(hlen:rs.length<=70000)(J Jx:List Cm->World->Prop)
 (W:World) (hJ:AbidesFrom W.heap.size J)
 (hY:∀pre (x:Cm) W1,J pre W1->pre.length<rs.length->YieldAt F (n-1) prog l #[.int .i64 (x.i:Int),.agg #[.int .i64 (x.p:Int),.string x.n,.int .i64 (x.x:Int)]] W1 fun e W'=>(e=.returned (.bool true)/\J (pre++[x]) W'/\Below n₀ W1 W')\/(e=.returned (.bool false)/\Jx (pre++[x]) W'))
 (hn₀:n₀<=W.heap.size) (hBn:W.cell? ⟨Bn,0,none⟩=some (.pointer (some ⟨q,3,none⟩))) (hR:Rs_f W n₀ q g cap rs) (h0:J [] W) :
 CallsIn F n prog 100 #[.func (.yield l) #[] #[],.pointer (some ⟨Bn,0,none⟩)] W fun e W'=>(∃v,e=.returned v)/\((∃ys,ys=upto rs rs.length/\J ys W')\/(∃pre,(∃k,k<=rs.length/\pre=upto rs k)/\Jx pre W')):=by
 have cq:=hR.cq
 have HR0:Hid _:=hR
 have HN0:Hid _:=hn₀
 have HJ:Hid _:=hJ
 have HY:Hid _:=hY
 obtain ⟨N,hN⟩:∃N,rs.length=N:=⟨_,rfl⟩
 have HN:Hid (rs.length=N):=hN
 rw[hN] at cq hlen
 clear hR hJ hY hN
 refine callsIn_of_wp func100 rfl hf ?_ hro
 simp only[ntmps100,List.size_toArray,List.length_cons,List.length_nil,Nat.reduceAdd,Nat.reduceSub,Array.replicate_succ,Array.replicate_zero,List.push_toArray,List.append_toArray,List.nil_append,List.cons_append]
 gi_wp2
 gi_loopw [10] (fun i wr=>∃k:Nat,k<=N/\i=.int .i64 (k:Int)/\Hid (J (upto rs k) wr)/\Hid (Below n₀ W wr)/\Hid (W.heap.size<=wr.heap.size))
  (fun i _=>N-(intOf i).toNat)
 case atStart=>exact ⟨0,Kj _,rfl,h0,Qq _ _,Qj _⟩
 case round =>
  obtain ⟨k,hk,rfl,HJs,HB,HSZ⟩:=hrel
  by_cases hlt:k<N
  ·have hltI:(k:Int)<(N:Int):=by omega
   have hw1:IntKind.i64.wrap ((k:Int)+1)=((k+1:Nat):Int):=by rw[QX];omega
   have HRr:Hid _:=HR0.out.below HB.out
   cases hrk:rs[k]? with
   | none=>exact absurd (List.getElem?_eq_none_iff.1 hrk) (by have:=HN.out;omega)
   | some o =>
     cases o with
     | none =>
       obtain ⟨y0,y1,y2,y3⟩:=HRr.out.no k hrk
       have HU:Hid (upto rs (k+1)=upto rs k):=(jE2 hrk).trans (by simp)
       clear hrk
       gi_wp2
       refine ⟨fun _ h=>(by cases h),?_⟩
       gi_wp2
       go_roundw
       case rel=>exact ⟨k+1,by omega,by first | rfl | simp,by show J _ _;rw[HU.out];exact HJ.out _ _ _ none HJs.out (World.grownBy_alloc _ _ _) (fun r e=>(by cases e)),HB.out.alloc (Qk HN0.out HSZ.out) _,by show _<=_;have:=HSZ.out;simp;omega⟩
       case measure=>simp[intOf];omega
     | some d =>
       obtain ⟨p,nm,x⟩:=d
       obtain ⟨y0,y1,y2,y3⟩:=HRr.out.ys k p nm x hrk
       have HU:Hid (upto rs (k+1)=upto rs k++[⟨k,p,nm,x⟩]):=(jE2 hrk).trans (by simp)
       have hJ1:J (upto rs k) (wr.alloc (.cells #[.bool true,.int .i64 (p:Int),.string nm,.int .i64 (x:Int)] 191)):=HJ.out _ _ _ none HJs.out (World.grownBy_alloc _ _ _) (fun r e=>(by cases e))
       obtain ⟨fn,tmps,assign,body,hy,hRR⟩:=HY.out _ ⟨k,p,nm,x⟩ _ hJ1 (by have:=jH0 rs k;have:=HN.out;omega)
       dsimp only at hy
       clear hrk hJ1
       gi_wp2
       refine hRR.mono ?_
       rintro e W3 (⟨rfl,hJ3,hk3⟩ | ⟨rfl,hJx3⟩)
       ·gi_wp2
        go_roundw
        case rel=>exact ⟨k+1,by omega,by first | rfl | simp,by show J _ _;rw[HU.out];exact hJ3,(HB.out.alloc (Qk HN0.out HSZ.out) _).trans hk3,by show _<=_;have h1:=HSZ.out;have h2:=hk3.size;simp at h2;omega⟩
        case measure=>simp[intOf];omega
       ·gi_wp2
        refine Qw (results_none rfl _ _ _) rfl ?_
        exact ⟨⟨_,rfl⟩,.inr ⟨_,⟨k+1,by have:=HN.out;omega,HU.out.symm⟩,hJx3⟩⟩
  ·obtain rfl:k=N:=by omega
   gi_wp2
   go_end0
   have hN:=HN.out
   subst hN
   exact ⟨⟨_,rfl⟩,.inl ⟨_,rfl,HJs.out⟩⟩
theorem all1_nil_f (F:Fence)(n:Nat)(hf:F.fn 100)(hro:F.round=none)(l Bn q:Nat)(J:List Cm->World->Prop)(W:World)(hBn:W.cell? ⟨Bn,0,none⟩=some (.pointer (some ⟨q,3,none⟩)))(cq:W.cell? ⟨q,4,none⟩=some (.slice none 0 0))(h0:J [] W) :
 CallsIn F n prog 100 #[.func (.yield l) #[] #[],.pointer (some ⟨Bn,0,none⟩)] W fun e W'=>(∃v,e=.returned v)/\J [] W':=by
 refine callsIn_of_wp func100 rfl hf ?_ hro
 simp only[ntmps100,List.size_toArray,List.length_cons,List.length_nil,Nat.reduceAdd,Nat.reduceSub,Array.replicate_succ,Array.replicate_zero,List.push_toArray,List.append_toArray,List.nil_append,List.cons_append]
 gi_wp2
 gi_loopw [10] (fun i wr=>i=.int .i64 0/\J [] wr) (fun _ _=>0)
 case atStart=>exact ⟨rfl,h0⟩
 case round =>
  obtain ⟨rfl,hJs⟩:=hrel
  gi_wp2
  go_end0
  exact ⟨⟨_,rfl⟩,hJs⟩
theorem all_f (F:Fence)(n:Nat)(hf:F.fn 63)(hro:F.round=none)(q:Nat)(w:World) :
 CallsIn F n prog 63 #[.pointer (some ⟨q,3,none⟩)] w fun e w'=>e=.returned (.func (.func 100) #[] #[.pointer (some ⟨w.heap.size,0,none⟩)])/\w'=w.alloc (.cells #[.pointer (some ⟨q,3,none⟩)] 188):=by
 refine callsIn_of_wp func63 rfl hf ?_ hro
 simp only[ntmps63,List.size_toArray,List.length_cons,List.length_nil,Nat.reduceAdd,Nat.reduceSub,Array.replicate_succ,Array.replicate_zero,List.push_toArray,List.append_toArray,List.nil_append,List.cons_append]
 gi_wp2
 go_ret
 exact ⟨rfl,rfl⟩
theorem stops_f (F:Fence)(n:Nat)(hf:F.fn 100)(hro:F.round=none)(hn:1<=n)(Bn n₀ q:Nat)(rs:List (Option (Nat × ByteArray × Nat)))(hlen:rs.length<=70000)(w:World)(hBn:Bn<w.heap.size)(hn₀:n₀<=w.heap.size)
 (hc:w.cell? ⟨Bn,0,none⟩=some (.pointer (some ⟨q,3,none⟩))) (hI:(w.cell? ⟨q,4,none⟩=some (.slice none 0 0)/\rs=[]/\q<n₀)\/∃g cap,Rs_f w n₀ q g cap rs) :
 SeqStopsK F n prog 100 #[.pointer (some ⟨Bn,0,none⟩)] (fun x:Cm=>#[.int .i64 (x.i:Int),.agg #[.int .i64 (x.p:Int),.string x.n,.int .i64 (x.x:Int)]]) (Below n₀) (fun ys=>ys=upto rs rs.length) (fun pre=>∃k,k<=rs.length/\pre=upto rs k) rs.length w:=fun l J Jx W hW hJ _ hY h0=>by
 have hc':=(hW.cell (p:=⟨Bn,0,none⟩) hBn).trans hc
 rcases hI with ⟨h1,rfl,hq⟩ | ⟨g,cap,hR⟩
 ·exact (all1_nil_f F n hf hro l Bn q J W hc' ((hW.cell (p:=⟨q,4,none⟩) (Qx hq hn₀)).trans h1) h0).mono fun e W' ⟨he,hj⟩=>⟨he,.inl ⟨_,rfl,hj⟩⟩
 ·exact all1_f F n hf hro hn l Bn n₀ q g cap rs hlen J Jx W hJ hY (Qk hn₀ hW.size) hc' (hR.below (hW.mono hn₀)) h0
