import Derived.Test.YtfnklhajafmooaaGreatDoorG25
import Derived.Lib.SlicesS
import Derived.Deep.Slices
import Derived.Deep.Strs
import Derived.ProofKit
import Derived.OpenShut
import Derived.ShutString
import Derived.SizedLaws
import Derived.JoinedCond
import Derived.Carry
set_option maxHeartbeats 2000000
set_option maxRecDepth 40000
namespace Go.Proofs.YtfnklhajafmooaaGreatDoor.Tr
open Go.RowKit Go.Lib Go.Deep Go.Proofs.Tryz
theorem jIq (w:World)(x:Int):Calls prog 207 #[.int .i64 x] w fun e w'=>e=.returned (.bool false)/\w'=w:=by
 go_enter func207,ntmps207
 go_wp2
 go_ret
 exact ⟨rfl,rfl⟩
theorem compare_lt (w:World)(x y:Int)(h:x<y):Calls prog 177 #[.int .i64 x,.int .i64 y] w fun e w'=>e=.returned (.int .i64 (-1))/\w'=w:=by
 have h1:=jIq w x
 have h2:=jIq w y
 go_enter func177,ntmps177
 go_wp2_with fail
 refine h1.mono ?_
 rintro e w1 ⟨rfl,hw1⟩
 subst w1
 go_wp2_with fail
 refine h2.mono ?_
 rintro e w1 ⟨rfl,hw1⟩
 subst w1
 go_wp2
 go_ret
 exact ⟨rfl,rfl⟩
theorem jHx (w:World)(x y:Int)(h:y<x):Calls prog 177 #[.int .i64 x,.int .i64 y] w fun e w'=>e=.returned (.int .i64 1)/\w'=w:=by
 have h1:=jIq w x
 have h2:=jIq w y
 have hn:¬x<y:=by omega
 go_enter func177,ntmps177
 go_wp2_with fail
 refine h1.mono ?_
 rintro e w1 ⟨rfl,hw1⟩
 subst w1
 go_wp2_with fail
 refine h2.mono ?_
 rintro e w1 ⟨rfl,hw1⟩
 subst w1
 go_wp2
 go_ret
 exact ⟨rfl,rfl⟩
theorem compare_eq (w:World)(x:Int):Calls prog 177 #[.int .i64 x,.int .i64 x] w fun e w'=>e=.returned (.int .i64 0)/\w'=w:=by
 have h1:=jIq w x
 have hn:¬x<x:=by omega
 go_enter func177,ntmps177
 go_wp2_with fail
 refine h1.mono ?_
 rintro e w1 ⟨rfl,hw1⟩
 subst w1
 go_wp2_with fail
 refine h1.mono ?_
 rintro e w1 ⟨rfl,hw1⟩
 subst w1
 go_wp2
 go_ret
 exact ⟨rfl,rfl⟩
theorem or_any (w:World)(g c:Nat)(x y z:Int)(hz:z=if x=0 then y else x)(c0:w.cell? ⟨g,0,none⟩=some (.int .i64 x))(c1:w.cell? ⟨g,1,none⟩=some (.int .i64 y)):Calls prog 176 #[.slice (some ⟨g,0,none⟩) 2 c] w fun e w'=>e=.returned (.int .i64 z)/\w'=w:=by
 have HZ:Hid (z=if x=0 then y else x):=hz
 clear hz
 go_enter func176,ntmps176
 go_wp2_with fail
 go_loopg [8] 2 (fun gk kv wr=>∃k:Nat,k+gk=2/\kv=.int .i64 (k:Int)/\Hid (wr=w)/\Hid (1<=k->x=0)/\Hid (2<=k->y=0))
 case atStart=>exact ⟨0,by omega,rfl,rfl,fun h=>absurd h (by omega),fun h=>absurd h (by omega)⟩
 case round =>
  obtain ⟨k,hk,rfl,HW,HX,HY⟩:=hrel
  obtain rfl:wr=w:=HW.out
  have hc:k=0\/k=1\/k=2:=by omega
  rcases hc with rfl | rfl | rfl
  ·by_cases hx:x=0
   ·subst hx
    go_wp2
    go_roundg 1
    case measure=>omega
    case rel=>exact ⟨1,by omega,rfl,rfl,fun _=>(by first | rfl | trivial),fun h=>absurd h (by omega)⟩
   ·have hxb:(x != 0)=true:=by simpa using hx
    have HE:Hid (z=x):=HZ.out.trans (if_neg hx)
    go_wp2
    go_ret
    exact ⟨by rw[HE.out];rfl,rfl⟩
  ·have hx:=HX.out (Qj _)
   have HE:Hid (z=y):=HZ.out.trans (if_pos hx)
   by_cases hy:y=0
   ·subst hy
    go_wp2
    go_roundg 0
    case measure=>omega
    case rel=>exact ⟨2,by omega,rfl,rfl,fun _=>HX.out (Qj _),fun _=>(by first | rfl | trivial)⟩
   ·have hyb:(y != 0)=true:=by simpa using hy
    clear hx HX HY HZ
    go_wp2
    go_ret
    exact ⟨by rw[HE.out];rfl,rfl⟩
  ·have hx:=HX.out (by omega)
   have hy:=HY.out (Qj _)
   have HE:Hid (z=0):=HZ.out.trans (by rw[if_pos hx,hy])
   clear hx hy HX HY HZ
   go_wp2
   go_ret
   exact ⟨by rw[HE.out];rfl,rfl⟩
def ndA (x:Nd):Array Value:=#[.int .i64 (x.kind:Int),.int .i64 (x.number:Int),.int .i64 (x.parent:Int),.string x.name,.int .i64 (x.size:Int)]
theorem byKind_any (w:World)(x y:Nd)(h:ndLt y x):Calls prog 144 #[.agg (ndA x),.agg (ndA y)] w fun e w'=>e=.returned (.int .i64 1)/\Below w.heap.size w w':=by
 obtain ⟨W,hW,hb,k0,k1⟩:=jDy w (ndA x) (ndA y) 91 91
 obtain ⟨xk,xn,xp,xm,xs⟩:=x
 obtain ⟨yk,yn,yp,ym,ys⟩:=y
 have x0:W.cell? ⟨w.heap.size,0,none⟩=some (.int .i64 (xk:Int)):=(jAj k0).trans rfl
 have x1:W.cell? ⟨w.heap.size,1,none⟩=some (.int .i64 (xn:Int)):=(jAj k0).trans rfl
 have y0:W.cell? ⟨w.heap.size+1,0,none⟩=some (.int .i64 (yk:Int)):=(jAj k1).trans rfl
 have y1:W.cell? ⟨w.heap.size+1,1,none⟩=some (.int .i64 (yn:Int)):=(jAj k1).trans rfl
 have hab:∃a b:Int,(∀V:World,Calls prog 177 #[.int .i64 (xk:Int),.int .i64 (yk:Int)] V fun e w'=>e=.returned (.int .i64 a)/\w'=V)/\(∀V:World,Calls prog 177 #[.int .i64 (xn:Int),.int .i64 (yn:Int)] V fun e w'=>e=.returned (.int .i64 b)/\w'=V)/\1=if a=0 then b else a:=by
  rcases h with h | ⟨h1,h2⟩
  ·have hk:(yk:Int)<(xk:Int):=by simp only at h;omega
   have hn:(xn:Int)<(yn:Int)\/(xn:Int)=(yn:Int)\/(yn:Int)<(xn:Int):=by omega
   rcases hn with hn | hn | hn
   ·exact ⟨1,-1,fun V=>jHx V _ _ hk,fun V=>compare_lt V _ _ hn,by decide⟩
   ·rw[hn]
    exact ⟨1,0,fun V=>jHx V _ _ hk,fun V=>compare_eq V _,by decide⟩
   ·exact ⟨1,1,fun V=>jHx V _ _ hk,fun V=>jHx V _ _ hn,by decide⟩
  ·simp only at h1 h2
   subst h1
   have hn:(yn:Int)<(xn:Int):=by omega
   exact ⟨0,1,fun V=>compare_eq V _,fun V=>jHx V _ _ hn,by decide⟩
 obtain ⟨a,b,hck,hcn,hz⟩:=hab
 have HCK:Hid _:=hck
 have HCN:Hid _:=hcn
 have HZ:Hid (1=if a=0 then b else a):=hz
 have HB:Hid (Below w.heap.size w W):=hb
 obtain ⟨V5,hV5⟩:∃V5,W.alloc (.cells #[.int .i64 a,.int .i64 b] 3)=V5:=⟨_,rfl⟩
 have hb5:Below W.heap.size W V5:=by rw[<-hV5];exact (Qq _ _).alloc (Qj _) _
 have k5:V5.heap[W.heap.size]?=some (.cells #[.int .i64 a,.int .i64 b] 3 (0,0)):=by rw[<-hV5];exact jA2 W _
 have hor:=or_any V5.drew W.heap.size 2 a b 1 hz ((jAj k5).trans rfl) ((jAj k5).trans rfl)
 have q0:=(hb5.block _ (jAv k0)).trans k0
 have q1:=(hb5.block _ (jAv k1)).trans k1
 have hS5:V5.drew.cell? ⟨w.heap.size,0,none⟩=some (.int .i64 (xk:Int))/\V5.drew.cell? ⟨w.heap.size,1,none⟩=some (.int .i64 (xn:Int))/\V5.drew.cell? ⟨w.heap.size+1,0,none⟩=some (.int .i64 (yk:Int))/\V5.drew.cell? ⟨w.heap.size+1,1,none⟩=some (.int .i64 (yn:Int)):=⟨(jAj q0).trans rfl,(jAj q0).trans rfl,(jAj q1).trans rfl,(jAj q1).trans rfl⟩
 have HB5:Hid (Below w.heap.size w V5.drew):=(jBq hb5 hb).drew
 rw[<-hV5] at hor hS5 HB5
 clear hV5 hb5 k5 q0 q1
 clear hck hcn hz h hb
 unfold ndA at *
 simp only at hW ⊢
 go_enter func144,ntmps144
 go_wp2_with fail
 go_region_held_law (fun V=>V.cell? ⟨w.heap.size,0,none⟩=some (.int .i64 (xk:Int))/\V.cell? ⟨w.heap.size,1,none⟩=some (.int .i64 (xn:Int))/\V.cell? ⟨w.heap.size+1,0,none⟩=some (.int .i64 (yk:Int))/\V.cell? ⟨w.heap.size+1,1,none⟩=some (.int .i64 (yn:Int))) (first | exact ⟨x0,x1,y0,y1⟩ | exact hS5 | go_keep) (first | (go_at_call 176;with_reducible refine hor.mono ?_;rintro e w4 ⟨rfl,hw4⟩;subst w4) | (go_at_call 177;(first | with_reducible refine (HCK.out _).mono ?_ | with_reducible refine (HCN.out _).mono ?_);rintro e w3 ⟨rfl,hw3⟩;subst w3))
 go_wp2
 go_ret
 exact ⟨rfl,HB5.out⟩
theorem isSorted_any (w:World)(B:Nat)(a:Option Addr)(n c:Nat)(L:List Nd)(hn:n=L.length)(hA:w.ownsRow B 91 5 (.slice a n c) n (ndsc L))(hb:n<=1000000)(hs:L.Pairwise ndLt) :
 Calls prog 143 #[.slice a n c,.func (.func 144) #[] #[]] w fun e w'=>e=.returned (.bool true)/\Below w.heap.size w w':=by
 have HC:Hid (∀V:World,Below w.heap.size w V->∀i x,L[i]?=some x->∃g:Nat,a=some ⟨g,0,none⟩/\V.cell? ⟨g,i*5,none⟩=some (.int .i64 (x.kind:Int))/\V.cell? ⟨g,i*5+1,none⟩=some (.int .i64 (x.number:Int))/\V.cell? ⟨g,i*5+2,none⟩=some (.int .i64 (x.parent:Int))/\V.cell? ⟨g,i*5+3,none⟩=some (.string x.name)/\V.cell? ⟨g,i*5+4,none⟩=some (.int .i64 (x.size:Int))):=fun V hV i x hx=>by
  have hA':=jA0 hA (W':=V) (fun k hk=>hV.block _ (hA.lt k hk).2)
  have e1:∃g,a=some ⟨g,0,none⟩:=by
   rcases hA.2 with ⟨h1,h2⟩ | ⟨g,cap,cur,h1,_⟩
   ·have:=(QV.1 hx).1
    omega
   ·injection h1 with h1 _ _;exact ⟨g,h1⟩
  obtain ⟨g,rfl⟩:=e1
  exact ⟨g,rfl,jKy hA' hn hx⟩
 have HLT:Hid (∀m x y,L[m+1]?=some x->L[m]?=some y->ndLt y x):=fun m x y h1 h2=>by
  obtain ⟨k1,e1⟩:=QV.1 h1
  obtain ⟨k2,e2⟩:=QV.1 h2
  rw[<-e1,<-e2]
  exact List.pairwise_iff_getElem.1 hs m (m+1) k2 k1 (by omega)
 have HN:Hid (n=L.length):=hn
 clear hA hs hn
 have hw0:IntKind.i64.wrap ((n:Int)-1)=(n:Int)-1:=by rw[QX];omega
 go_enter func143,ntmps143
 go_wp2_with fail
 go_loopg [5] n (fun gk iv wr=>Hid (Below w.heap.size w wr)/\((gk=0/\iv=.int .i64 (-1))\/∃j:Nat,gk=j+1/\j<n/\iv=.int .i64 (j:Int)))
 case atStart =>
  refine ⟨Qq _ _,?_⟩
  cases n with
  | zero=>exact .inl ⟨rfl,rfl⟩
  | succ j=>exact .inr ⟨j,rfl,by omega,by rw[show ((j+1:Nat):Int)-1=(j:Int) by omega]⟩
 case round =>
  obtain ⟨HB,hcase⟩:=hrel
  rcases hcase with ⟨rfl,rfl⟩ | ⟨j,rfl,hjn,rfl⟩
  ·go_wp2
   go_ret
   exact ⟨rfl,HB.out⟩
  ·cases j with
   | zero =>
     go_wp2
     go_ret
     exact ⟨rfl,HB.out⟩
   | succ m =>
     obtain ⟨x,hx⟩:∃x,L[m+1]?=some x:=⟨_,Qv (by have:=HN.out;omega)⟩
     obtain ⟨y,hy⟩:∃y,L[m]?=some y:=⟨_,Qv (by have:=HN.out;omega)⟩
     obtain ⟨k,hk⟩:∃k,m+1=k:=⟨_,rfl⟩
     have hlt:=HLT.out m x y hx hy
     rw[hk] at hx hjn ⊢
     have hk0:(0:Int)<(k:Int):=by omega
     have hkn:(k:Int)<(n:Int):=by omega
     have hmn:(m:Int)<(n:Int):=by omega
     have hw1:IntKind.i64.wrap ((k:Int)-1)=(m:Int):=by rw[QX];omega
     have HCX:Hid _:=fun V hV=>HC.out V hV k x hx
     have HCY:Hid _:=fun V hV=>HC.out V hV m y hy
     obtain ⟨g,rfl,x0,x1,x2,x3,x4⟩:=HC.out wr HB.out k x hx
     obtain ⟨g',hg',y0,y1,y2,y3,y4⟩:=HC.out wr HB.out m y hy
     injection hg' with hg'
     injection hg' with hg' _ _
     subst hg'
     have hby:=byKind_any wr.drew x y hlt
     unfold ndA at hby
     have HBD:Hid (Below w.heap.size w wr.drew):=HB.out.drew
     have HS:Hid (∀V,Below wr.drew.heap.size wr.drew V->Below w.heap.size w V):=fun V hV=>jBq hV HBD.out
     obtain ⟨xk,xn,xp,xm,xs⟩:=x
     obtain ⟨yk,yn,yp,ym,ys⟩:=y
     simp only at HCX HCY hby x0 x1 x2 x3 x4 y0 y1 y2 y3 y4
     clear hx hy hlt HC HLT
     have HS0:Hid (∀V,Below wr.heap.size wr V->V.cell? ⟨g,k*5,none⟩=some (.int .i64 (xk:Int))/\V.cell? ⟨g,k*5+1,none⟩=some (.int .i64 (xn:Int))/\V.cell? ⟨g,k*5+2,none⟩=some (.int .i64 (xp:Int))/\V.cell? ⟨g,k*5+3,none⟩=some (.string xm)/\V.cell? ⟨g,k*5+4,none⟩=some (.int .i64 (xs:Int))/\V.cell? ⟨g,m*5,none⟩=some (.int .i64 (yk:Int))/\V.cell? ⟨g,m*5+1,none⟩=some (.int .i64 (yn:Int))/\V.cell? ⟨g,m*5+2,none⟩=some (.int .i64 (yp:Int))/\V.cell? ⟨g,m*5+3,none⟩=some (.string ym)/\V.cell? ⟨g,m*5+4,none⟩=some (.int .i64 (ys:Int))):=fun V hV=>by
      obtain ⟨g1,e1,a0,a1,a2,a3,a4⟩:=HCX.out V (jBq hV HB.out)
      obtain ⟨g2,e2,b0,b1,b2,b3,b4⟩:=HCY.out V (jBq hV HB.out)
      injection e1 with e1
      injection e1 with e1 _ _
      injection e2 with e2
      injection e2 with e2 _ _
      subst e1 e2
      exact ⟨a0,a1,a2,a3,a4,b0,b1,b2,b3,b4⟩
     clear HCX HCY
     go_wp2_with fail
     go_region_held_law (fun V=>V.cell? ⟨g,k*5,none⟩=some (.int .i64 (xk:Int))/\V.cell? ⟨g,k*5+1,none⟩=some (.int .i64 (xn:Int))/\V.cell? ⟨g,k*5+2,none⟩=some (.int .i64 (xp:Int))/\V.cell? ⟨g,k*5+3,none⟩=some (.string xm)/\V.cell? ⟨g,k*5+4,none⟩=some (.int .i64 (xs:Int))/\V.cell? ⟨g,m*5,none⟩=some (.int .i64 (yk:Int))/\V.cell? ⟨g,m*5+1,none⟩=some (.int .i64 (yn:Int))/\V.cell? ⟨g,m*5+2,none⟩=some (.int .i64 (yp:Int))/\V.cell? ⟨g,m*5+3,none⟩=some (.string ym)/\V.cell? ⟨g,m*5+4,none⟩=some (.int .i64 (ys:Int))) (first | exact HS0.out _ (Qq _ _).drew | exact HS0.out _ hb3 | exact HS0.out _ (Qq _ _)) (first | (go_at_call 144;(refine hby.mono ?_;rintro e w3 ⟨rfl,hb3'⟩;have hb3:=jBq hb3' (Qq wr.heap.size wr).drew;have HB3:Hid _:=HS.out _ hb3')))
     clear hb3 hb3' x0 x1 x2 x3 x4 y0 y1 y2 y3 y4 hby
     have hjm:(k:Int)-1=(m:Int):=by omega
     go_wp2
     go_roundg (m+1)
     case measure=>omega
     case rel=>exact ⟨HB3.out,.inr ⟨m,rfl,by omega,by first | rfl | (rw[hjm])⟩⟩
theorem Lay.keep {w W:World}{q:Nat}{F:List Nat}{nn:Nat}{T:Ts}(h:Lay w q F nn T)(h2:∀k,k∈F->W.heap[k]?=w.heap[k]?):Lay W q F nn T:=by
 obtain ⟨dv,fv,ld,lf,ms,hFe,hI⟩:=h
 exact ⟨dv,fv,ld,lf,ms,hFe,hI.keep fun k hk=>h2 k (by rw[hFe];exact hk)⟩
end Go.Proofs.YtfnklhajafmooaaGreatDoor.Tr
namespace Go.Proofs.YtfnklhajafmooaaGreatDoor.Tr
open Go.ChangeShapes Go.WideShapes Go.ChangeAt Go.RowKit Go.Deep Go.Proofs.Tryz
theorem sized_of {H:Type}{ts:List TypeId}{ds:List (DataW H)}(h:(DataW.weightsEach prog ts ds).all (·<=reachBytes)=true){j:Nat}{d:DataW H}{t:TypeId}{n:Nat}(ht:ts[j]?=some t)(hd:ds[j]?=some d)(hn:n∈d.weights prog t):n<=140737488355328:=by
 have h1:=Qg (List.all_eq_true.1 h _ (DataW.weights_mem_each ht hd n hn))
 unfold reachBytes at h1
 omega
theorem cells3i:prog.cellsOf 3=1:=by kernel_rfl
theorem cells9s:prog.cellsOf 9=1:=by kernel_rfl
theorem cellsOp:prog.cellsOf 72=6:=by kernel_rfl
theorem bytesOp:prog.bytesOf 72=72:=by kernel_rfl
theorem wf_range {n:Int}(h:(Lit.int .i64 n).wf=true):-9223372036854775808<=n/\n<=9223372036854775807:=by
 have e1:IntKind.i64.min=-9223372036854775808:=by decide
 have e2:IntKind.i64.max=9223372036854775807:=by decide
 simp only[Lit.wf,Bool.and_eq_true,decide_eq_true_eq] at h
 omega
def opC (o:Op):List Value:=[.int .i64 o.kind,.string o.path,.string o.to_,.int .i64 o.at_,.int .i64 o.n,.string o.data]
theorem op_of {H:Type}{enc:TypeId × Value->H}{W:World}{cs:List Value}{y:DataW H × List MemPlace}{fuel:Nat}(hl:cs.length=6)(h2:DataW.trod enc prog W 0 (fun _=>true) true fuel 72 cs=some y):∃o:Op,cs=opC o/\o.at_<=9223372036854775807/\o.data.size<=9223372036854775807:=by
 obtain ⟨xs,k,hk,hxy,_,hxl,hfl⟩:=DataW.trod_struct underlying72 h2
 match xs,hxl,cs,hl with
 | [y0,y1,y2,y3,y4,y5],_,[v0,v1,v2,v3,v4,v5],_ =>
   have g0:=hfl 0 _ rfl
   have g1:=hfl 1 _ rfl
   have g2:=hfl 2 _ rfl
   have g3:=hfl 3 _ rfl
   have g4:=hfl 4 _ rfl
   have g5:=hfl 5 _ rfl
   simp[cells3i,cells9s] at g0 g1 g2 g3 g4 g5
   obtain ⟨i0,a0,_,z0⟩:=DataW.trod_int underlying3 g0
   obtain ⟨i1,a1,_,z1⟩:=DataW.trod_string underlying9 g1
   obtain ⟨i2,a2,_,z2⟩:=DataW.trod_string underlying9 g2
   obtain ⟨i3,a3,_,z3⟩:=DataW.trod_int underlying3 g3
   obtain ⟨i4,a4,_,z4⟩:=DataW.trod_int underlying3 g4
   obtain ⟨i5,a5,_,z5⟩:=DataW.trod_string underlying9 g5
   simp at a0 a1 a2 a3 a4 a5
   subst a0 a1 a2 a3 a4 a5
   refine ⟨⟨i0,i1,i2,i3,i4,i5⟩,rfl,(wf_range z3).2,?_⟩
   have:i5.data.toList.length=i5.size:=(Lib.size_eq i5).symm
   show i5.size<=9223372036854775807
   unfold maxLen at z5
   omega
theorem ops_of {H:Type}{enc:TypeId × Value->H}{W:World}{a:Option Addr}{len cap:Nat}{d:DataW H}{ps:List MemPlace}(h:DataW.Trod enc prog W 0 (fun _=>true) true 29 (.slice a len cap) d ps) :
 ∃O:List Op,IsO W a len O/\(len=0\/∃m,len<=m/\m*72∈d.weights prog 29):=by
 obtain ⟨fuel,hf⟩:=h
 rcases open_slice underlying29 hf with ⟨hcs,_⟩ | ⟨x,len',cap',m,n,D,Pl,hcs,_,hl,hm,hmm,hx0,hx⟩
 ·simp[Value.cells] at hcs
  obtain ⟨rfl,rfl,rfl⟩:=hcs
  exact ⟨[],⟨rfl,fun i o h=>(by cases h),fun o h=>(by cases h)⟩,.inl rfl⟩
 ·simp[Value.cells] at hcs
  obtain ⟨rfl,rfl,rfl⟩:=hcs
  simp only[if_true] at hmm
  subst hmm
  have hy1:d=.slice ((List.range len).map D) ((List.range (m-len)).map fun j=>D (len+j)):=by
   simp only[Prod.mk.injEq] at hx0
   exact hx0.1
  have hwm:m*72∈DataW.weights (H:=H) prog 29 d:=by
   rw[hy1]
   simp only[DataW.weights,underlying29,bytesOp]
   refine List.mem_cons.2 (.inl ?_)
   simp
   omega
  have each:∀i,i<len->∃o:Op,(∀j u,(opC o)[j]?=some u->W.cell? (x.add (i*6+j))=some u)/\o.at_<=9223372036854775807/\o.data.size<=9223372036854775807:=by
   intro i hi
   obtain ⟨cs',h1,h2⟩:=hx i (by omega)
   rw[cellsOp] at h1
   obtain ⟨_,hlen,hcell⟩:=World.cells?_some h1
   obtain ⟨o,rfl,ho⟩:=op_of hlen h2
   refine ⟨o,fun j u hu=>?_,ho⟩
   have hj:=(QV.1 hu).1
   have e:=hcell j (by rw[hlen] at hj;exact hj)
   rw[add_add] at e
   rw[e]
   simpa using hu
  haveI:Inhabited Op:=⟨⟨0,e0,e0,0,0,e0⟩⟩
  obtain ⟨q,hq⟩:=choose_lt each
  have hget:∀i o,((List.range len).map q)[i]?=some o->i<len/\q i=o:=fun i o ho=>by
   have hi:=(QV.1 ho).1
   simp at hi
   rw[List.getElem?_map,List.getElem?_range hi] at ho
   exact ⟨hi,QW ho⟩
  refine ⟨(List.range len).map q,⟨by simp,fun i o ho=>?_,fun o ho=>?_⟩,.inr ⟨m,by omega,hwm⟩⟩
  ·obtain ⟨hi,rfl⟩:=hget _ _ ho
   have hc:=(hq i hi).1
   obtain ⟨b,off,spot⟩:=x
   have h0:=(hq 0 (by omega)).1 0 _ rfl
   have hspot:spot=none:=by simpa[Addr.add] using World.cell?_spot h0
   subst hspot
   have e:∀j,(⟨b,off,none⟩:Addr).add j=⟨b,off+j,none⟩:=fun j=>Addr.add_lit _ _ _
   have c:∀j u,(opC (q i))[j]?=some u->W.cell? ⟨b,off+i*6+j,none⟩=some u:=fun j u hu=>by
    have:=hc j u hu
    rw[e] at this
    rw[Nat.add_assoc]
    exact this
   exact ⟨b,off,rfl,block_lt_of_cell (c 0 _ rfl),c 0 _ rfl,c 1 _ rfl,c 2 _ rfl,c 3 _ rfl,c 4 _ rfl,c 5 _ rfl⟩
  ·obtain ⟨i,hi⟩:=List.mem_iff_getElem?.1 ho
   obtain ⟨h1,rfl⟩:=hget _ _ hi
   exact (hq i h1).2
end Go.Proofs.YtfnklhajafmooaaGreatDoor.Tr
namespace Go.Proofs.YtfnklhajafmooaaGreatDoor.Tr
open Go.RowKit Go.Lib Go.Deep Go.Proofs.Tryz
theorem jL9 {n:ByteArray}(h:Pa.nm n=true):Pa.nameE n=0:=by
 unfold Pa.nameE
 simp[h]
theorem enterD_any (w:World)(q:Nat)(F:List Nat)(nn:Nat)(T:Ts)(hL:Lay w q F nn T)(xn xp:Nat)(xm:ByteArray)(hn:Pa.nm xm=true)(hx:T.D.length<=xn)(hME:T.M xn=fun _=>none)(hr:xn<T.dr) :
 Calls prog 145 #[.pointer (some ⟨q,0,none⟩),.agg #[.int .i64 1,.int .i64 (xn:Int),.int .i64 (xp:Int),.string xm,.int .i64 0]] w fun e w'=>e=.returned (.bool true)/\Turn F w w' q nn { T with D:=gapL T.D xn (some (xp,xm)) }:=by
 obtain ⟨W,hW,hb,k0⟩:=jA4 w #[.int .i64 1,.int .i64 (xn:Int),.int .i64 (xp:Int),.string xm,.int .i64 0] 91
 have hnm:=Pa.jL8 xm W
 rw[jL9 hn] at hnm
 have HCL:Hid (∀V:World,Calls prog 99 #[.string xm] V fun e w'=>e=.returned (.string xm)/\Below V.heap.size V w'):=fun V=>Pa.jG7 xm (by have:=jE7 hn;omega) V
 have HK:Hid (∀V,Below W.heap.size W V->V.heap[w.heap.size]?=some (.cells #[.int .i64 1,.int .i64 (xn:Int),.int .i64 (xp:Int),.string xm,.int .i64 0] 91 (0,0))):=fun V hV=>(hV.block _ (jAv k0)).trans k0
 have HSK:Hid (∀V,Below W.heap.size W V->V.cell? ⟨w.heap.size,2,none⟩=some (.int .i64 (xp:Int))/\V.cell? ⟨w.heap.size,3,none⟩=some (.string xm)):=fun V hV=>⟨(jAj (HK.out V hV)).trans rfl,(jAj (HK.out V hV)).trans rfl⟩
 have HB:Hid (Below w.heap.size w W):=hb
 have HFL:Hid (∀k,k∈F->k<w.heap.size):=hL.lt
 have HCD:Hid (∀(V:World) (m:Nat),Below w.heap.size w V->w.heap.size<=m->V.ownsMap prog 9 jF2 m 0 (.map [])->Calls prog 65 #[.pointer (some ⟨q,0,none⟩),.int .i64 (xn:Int),.agg #[.int .i64 (xp:Int),.string xm,.map (some m)]] V fun e w'=>e=.returned (.bool true)/\Turn F w w' q nn { T with D:=gapL T.D xn (some (xp,xm)) }/\Only F V w'):=fun V m h1 h2 h3=>claimD_any w V q m F nn T hL h1 h2 h3 xn hx hME hr xp xm
 have HND:Hid (∀V:World,Calls prog 66 #[.agg #[.int .i64 (xp:Int),.string xm]] V fun e w'=>∃m,e=.returned (.agg #[.int .i64 (xp:Int),.string xm,.map (some m)])/\V.heap.size<=m/\w'.ownsMap prog 9 jF2 m 0 (.map [])/\Below V.heap.size V w'):=fun V=>jLz V xp xm
 have x3:W.cell? ⟨w.heap.size,3,none⟩=some (.string xm):=(jAj k0).trans rfl
 clear hL hn hx hME hr k0 hb
 go_enter func145,ntmps145
 go_wp2_with fail
 refine hnm.mono ?_
 rintro e w2 ⟨rfl,hb2⟩
 have HB2:Hid (Below W.heap.size W w2):=hb2
 obtain ⟨x2,x3'⟩:=HSK.out _ hb2
 clear hnm hb2 x3
 go_upto_region 3 with fail
 go_cut [5] (fun u wx=>∃g,u=.pointer (some ⟨g,0,none⟩)/\Hid (wx.heap[g]?=some (.cells #[.int .i64 (xp:Int),.string xm] 141 (0,0))/\W.heap.size<=g/\Below W.heap.size W wx))
 case first =>
  refine wp_region_held_drew (S:=fun V=>V.cell? ⟨w.heap.size,2,none⟩=some (.int .i64 (xp:Int))/\V.cell? ⟨w.heap.size,3,none⟩=some (.string xm)) (by kernel_rfl) ⟨x2,x3'⟩ ?_
  intro hS
  have HBV:Hid (Below W.heap.size W w2.drew):=HB2.out.drew
  clear x2 x3' hW HB2
  revert hS HBV
  generalize w2.drew=V
  intro hS HBV
  refine tQ 0 ⟨some 10,.fieldAddr 91 (.tmp 3) 2,_,_,_,none⟩ (.pointer (some ⟨w.heap.size,2,none⟩)) rfl hS ?_
  (try simp only[Act.put,sA,sB,sC])
  refine tQ 1 ⟨some 11,.load 3 (.tmp 10),_,_,_,none⟩ (.int .i64 (xp:Int)) rfl hS ?_ (Or.inl ⟨by rfl,by intro x hx;have h1:=hx.1;go_simp⟩)
  (try simp only[Act.put,sA,sB,sC])
  refine tQ 2 ⟨some 12,.fieldAddr 91 (.tmp 3) 3,_,_,_,none⟩ (.pointer (some ⟨w.heap.size,3,none⟩)) rfl hS ?_
  (try simp only[Act.put,sA,sB,sC])
  refine tQ 3 ⟨some 13,.load 9 (.tmp 12),_,_,_,none⟩ (.string xm) rfl hS ?_ (Or.inl ⟨by rfl,by intro x hx;have h1:=hx.2;go_simp⟩)
  (try simp only[Act.put,sA,sB,sC])
  refine wpAnyH_ready (rs:=[4,6]) (by kernel_rfl) (by simp) ?_
  refine AllReadyH.cons (o:={ dst:=some 14,op:=.call { callee:=.value (.func 99),args:=#[.tmp 13],argTypes:=#[9] },type:=_,pos:=_,after:=_,guard:=none }) rfl (fun K hK=>?_) (AllReadyH.cons (o:=⟨some 5,.alloc 141,_,_,_,none⟩) rfl (fun K hK=>?_) AllReadyH.nil)
  ·go_simp
   refine (HCL.out _).mono ?_
   rintro e W2 ⟨rfl,hbA⟩
   have HB2:Hid (Below W.heap.size W W2):=jBq hbA HBV.out
   have hS2:=HSK.out _ HB2.out
   refine hK.out _ _ hS2 (fun _=>?_)
   clear hK K hS HBV hbA
   (try simp only[Act.put,sA,sB,sC])
   revert HB2 hS2
   generalize W2=V
   intro HBV hS
   refine tQ 5 ⟨some 15,.build 141 #[(0,.tmp 11),(1,.tmp 14)],_,_,_,none⟩ (.agg #[.int .i64 (xp:Int),.string xm]) rfl hS ?_
   (try simp only[Act.put,sA,sB,sC])
   refine wpAnyH_ready (rs:=[6]) (by kernel_rfl) (by simp) ?_
   refine AllReadyH.cons (o:=⟨some 5,.alloc 141,_,_,_,none⟩) rfl (fun K hK=>?_) AllReadyH.nil
   go_simp
   have hbA:Below V.heap.size V (V.alloc (.cells #[.int .i64 0,.string { data:=#[] }] 141)):=(Qq _ _).alloc (Qj _) _
   have HB2:Hid (Below W.heap.size W (V.alloc (.cells #[.int .i64 0,.string { data:=#[] }] 141))):=jBq hbA HBV.out
   have hS2:=HSK.out _ HB2.out
   have HT2:Hid ((V.alloc (.cells #[.int .i64 0,.string { data:=#[] }] 141)).heap[V.heap.size]?=some (.cells #[.int .i64 0,.string { data:=#[] }] 141 (0,0))/\W.heap.size<=V.heap.size):=⟨jA2 V _,HBV.out.size⟩
   refine hK.out _ _ hS2 (fun _=>?_)
   clear hK K hS HBV hbA
   (try simp only[Act.put,sA,sB,sC])
   revert HB2 hS2 HT2
   generalize (V.alloc (.cells #[.int .i64 0,.string { data:=#[] }] 141))=V2
   generalize V.heap.size=g
   intro HBV hS HT
   revert HBV hS HT
   generalize V2=V
   intro HBV hS HT
   refine wpAnyH_ready (rs:=[7]) (by kernel_rfl) (by simp) ?_
   refine AllReadyH.cons (o:=⟨none,.store 141 (.tmp 5) (.tmp 15),_,_,_,none⟩) rfl (fun K hK=>?_) AllReadyH.nil
   refine jA5 rfl 141 (.tmp 5) (.tmp 15) rfl g #[.int .i64 (xp:Int),.string xm] (by simp[Act.eval]) (by simp[Act.eval]) 141 _ HT.out.1 jK2 rfl (by simp[Value.oneCell']) ?_
   have HB2:Hid (Below W.heap.size W (V.setRow g #[.int .i64 (xp:Int),.string xm])):=jAx HBV.out HT.out.2 _
   have hS2:=HSK.out _ HB2.out
   have HT2:Hid ((V.setRow g #[.int .i64 (xp:Int),.string xm]).heap[g]?=some (.cells #[.int .i64 (xp:Int),.string xm] 141 (0,0))/\W.heap.size<=g):=⟨Qa _ _ _ _ _ _ HT.out.1,HT.out.2⟩
   refine hK.out _ _ hS2 (fun _=>?_)
   clear hK K hS HT HBV
   (try simp only[Act.put])
   revert HB2 hS2 HT2
   generalize (V.setRow g #[.int .i64 (xp:Int),.string xm])=V2
   intro HBV hS HT
   revert HBV hS HT
   generalize V2=V
   intro HBV hS HT
   refine wpAnyH_done (by kernel_rfl) ?_ _
   go_wp2_with fail
   go_meet
   exact ⟨g,rfl,⟨HT.out.1,HT.out.2,HBV.out⟩⟩
  ·go_simp
   have hbA:Below V.heap.size V (V.alloc (.cells #[.int .i64 0,.string { data:=#[] }] 141)):=(Qq _ _).alloc (Qj _) _
   have HB2:Hid (Below W.heap.size W (V.alloc (.cells #[.int .i64 0,.string { data:=#[] }] 141))):=jBq hbA HBV.out
   have hS2:=HSK.out _ HB2.out
   have HT2:Hid ((V.alloc (.cells #[.int .i64 0,.string { data:=#[] }] 141)).heap[V.heap.size]?=some (.cells #[.int .i64 0,.string { data:=#[] }] 141 (0,0))/\W.heap.size<=V.heap.size):=⟨jA2 V _,HBV.out.size⟩
   refine hK.out _ _ hS2 (fun _=>?_)
   clear hK K hS HBV hbA
   (try simp only[Act.put,sA,sB,sC])
   revert HB2 hS2 HT2
   generalize (V.alloc (.cells #[.int .i64 0,.string { data:=#[] }] 141))=V2
   generalize V.heap.size=g
   intro HBV hS HT
   revert HBV hS HT
   generalize V2=V
   intro HBV hS HT
   refine wpAnyH_ready (rs:=[4]) (by kernel_rfl) (by simp) ?_
   refine AllReadyH.cons (o:={ dst:=some 14,op:=.call { callee:=.value (.func 99),args:=#[.tmp 13],argTypes:=#[9] },type:=_,pos:=_,after:=_,guard:=none }) rfl (fun K hK=>?_) AllReadyH.nil
   go_simp
   refine (HCL.out _).mono ?_
   rintro e W2 ⟨rfl,hbA⟩
   have HB2:Hid (Below W.heap.size W W2):=jBq hbA HBV.out
   have hS2:=HSK.out _ HB2.out
   have HT2:Hid (W2.heap[g]?=some (.cells #[.int .i64 0,.string { data:=#[] }] 141 (0,0))/\W.heap.size<=g):=⟨(hbA.block _ (jAv HT.out.1)).trans HT.out.1,HT.out.2⟩
   refine hK.out _ _ hS2 (fun _=>?_)
   clear hK K hS HBV hbA HT
   (try simp only[Act.put,sA,sB,sC])
   revert HB2 hS2 HT2
   generalize W2=V
   intro HBV hS HT
   refine tQ 5 ⟨some 15,.build 141 #[(0,.tmp 11),(1,.tmp 14)],_,_,_,none⟩ (.agg #[.int .i64 (xp:Int),.string xm]) rfl hS ?_
   (try simp only[Act.put,sA,sB,sC])
   refine wpAnyH_ready (rs:=[7]) (by kernel_rfl) (by simp) ?_
   refine AllReadyH.cons (o:=⟨none,.store 141 (.tmp 5) (.tmp 15),_,_,_,none⟩) rfl (fun K hK=>?_) AllReadyH.nil
   refine jA5 rfl 141 (.tmp 5) (.tmp 15) rfl g #[.int .i64 (xp:Int),.string xm] (by simp[Act.eval]) (by simp[Act.eval]) 141 _ HT.out.1 jK2 rfl (by simp[Value.oneCell']) ?_
   have HB2:Hid (Below W.heap.size W (V.setRow g #[.int .i64 (xp:Int),.string xm])):=jAx HBV.out HT.out.2 _
   have hS2:=HSK.out _ HB2.out
   have HT2:Hid ((V.setRow g #[.int .i64 (xp:Int),.string xm]).heap[g]?=some (.cells #[.int .i64 (xp:Int),.string xm] 141 (0,0))/\W.heap.size<=g):=⟨Qa _ _ _ _ _ _ HT.out.1,HT.out.2⟩
   refine hK.out _ _ hS2 (fun _=>?_)
   clear hK K hS HT HBV
   (try simp only[Act.put])
   revert HB2 hS2 HT2
   generalize (V.setRow g #[.int .i64 (xp:Int),.string xm])=V2
   intro HBV hS HT
   revert HBV hS HT
   generalize V2=V
   intro HBV hS HT
   refine wpAnyH_done (by kernel_rfl) ?_ _
   go_wp2_with fail
   go_meet
   exact ⟨g,rfl,⟨HT.out.1,HT.out.2,HBV.out⟩⟩
 case rest =>
 obtain ⟨g,rfl,HL⟩:=hcut
 clear x2 x3' hW HB2 HCL
 obtain ⟨l1,l2,l3⟩:=HL.out
 have k3:=HK.out _ l3
 have y0:wc.cell? ⟨w.heap.size,0,none⟩=some (.int .i64 1):=(jAj k3).trans rfl
 have y1:wc.cell? ⟨w.heap.size,1,none⟩=some (.int .i64 (xn:Int)):=(jAj k3).trans rfl
 have y4:wc.cell? ⟨w.heap.size,4,none⟩=some (.int .i64 0):=(jAj k3).trans rfl
 have z0:wc.cell? ⟨g,0,none⟩=some (.int .i64 (xp:Int)):=(jAj l1).trans rfl
 have z1:wc.cell? ⟨g,1,none⟩=some (.string xm):=(jAj l1).trans rfl
 have HS6:Hid (∀V:World,(∀k,w.heap.size<=k->k<wc.heap.size->V.heap[k]?=wc.heap[k]?)->V.cell? ⟨w.heap.size,1,none⟩=some (.int .i64 (xn:Int))/\V.cell? ⟨w.heap.size,4,none⟩=some (.int .i64 0)/\V.cell? ⟨g,0,none⟩=some (.int .i64 (xp:Int))/\V.cell? ⟨g,1,none⟩=some (.string xm)):=fun V hV=>by
  have j3:=(hV _ (Qj _) (jAv k3)).trans k3
  have j1:=(hV _ (Qk HB.out.size l2) (jAv l1)).trans l1
  exact ⟨(jAj j3).trans rfl,(jAj j3).trans rfl,(jAj j1).trans rfl,(jAj j1).trans rfl⟩
 have HBC:Hid (Below w.heap.size w wc):=jBq l3 HB.out
 have hbd:Below wc.heap.size wc wc.drew:=(Qq _ _).drew
 clear l1 l2 l3 k3
 go_wp2_with fail
 skip
 go_region_held_law (fun V=>V.cell? ⟨w.heap.size,1,none⟩=some (.int .i64 (xn:Int))/\V.cell? ⟨w.heap.size,4,none⟩=some (.int .i64 0)/\V.cell? ⟨g,0,none⟩=some (.int .i64 (xp:Int))/\V.cell? ⟨g,1,none⟩=some (.string xm)) (first | exact HS6.out _ (fun _ _ _=>rfl) | exact HS6.out _ hk8 | exact HS6.out _ hk9) (first | (go_at_call 65;refine (HCD.out w8 m hbw8 hm8 ho8).mono ?_;rintro e w9 ⟨rfl,ht9,hy9⟩;have HT9:Hid _:=ht9;have hk9:∀k,w.heap.size<=k->k<wc.heap.size->w9.heap[k]?=wc.heap[k]?:=fun k h1 h2=>(hy9.block k (Qx h2 hb8.size) (fun hm=>by have:=HFL.out k hm;omega)).trans (hk8 k h1 h2)) | (go_at_call 66;refine (HND.out _).mono ?_;rintro e w8 ⟨m,rfl,hm8',ho8,hb8'⟩;have hb8:Below wc.heap.size wc w8:=hbd.trans hb8';have hm8:w.heap.size<=m:=Qk HBC.out.size hm8';have hbw8:Below w.heap.size w w8:=jBq hb8 HBC.out;have hk8:∀k,w.heap.size<=k->k<wc.heap.size->w8.heap[k]?=wc.heap[k]?:=fun k _ h2=>hb8.block k h2))
 go_wp2
 go_ret
 exact ⟨rfl,HT9.out⟩
theorem enterF_any (w:World)(q:Nat)(F:List Nat)(nn:Nat)(T:Ts)(hL:Lay w q F nn T)(xn xp:Nat)(xm:ByteArray)(hn:Pa.nm xm=true)(xs:Nat)(hs:xs<=T.most)(hx:T.F.length<=xn)(hr:xn<T.fr) :
 Calls prog 145 #[.pointer (some ⟨q,0,none⟩),.agg #[.int .i64 2,.int .i64 (xn:Int),.int .i64 (xp:Int),.string xm,.int .i64 (xs:Int)]] w fun e w'=>e=.returned (.bool true)/\Turn F w w' q nn { T with F:=gapL T.F xn (some (xp,xm,xs)) }:=by
 obtain ⟨W,hW,hb,k0⟩:=jA4 w #[.int .i64 2,.int .i64 (xn:Int),.int .i64 (xp:Int),.string xm,.int .i64 (xs:Int)] 91
 have hnm:=Pa.jL8 xm W
 rw[jL9 hn] at hnm
 have HCL:Hid (∀V:World,Calls prog 99 #[.string xm] V fun e w'=>e=.returned (.string xm)/\Below V.heap.size V w'):=fun V=>Pa.jG7 xm (by have:=jE7 hn;omega) V
 have HK:Hid (∀V,Below W.heap.size W V->V.heap[w.heap.size]?=some (.cells #[.int .i64 2,.int .i64 (xn:Int),.int .i64 (xp:Int),.string xm,.int .i64 (xs:Int)] 91 (0,0))):=fun V hV=>(hV.block _ (jAv k0)).trans k0
 have HSK:Hid (∀V,Below W.heap.size W V->V.cell? ⟨w.heap.size,2,none⟩=some (.int .i64 (xp:Int))/\V.cell? ⟨w.heap.size,3,none⟩=some (.string xm)):=fun V hV=>⟨(jAj (HK.out V hV)).trans rfl,(jAj (HK.out V hV)).trans rfl⟩
 have HB:Hid (Below w.heap.size w W):=hb
 have HFL:Hid (∀k,k∈F->k<w.heap.size):=hL.lt
 have HCF:Hid (∀V:World,Below w.heap.size w V->Calls prog 161 #[.pointer (some ⟨q,3,none⟩),.int .i64 (xn:Int),.agg #[.int .i64 (xp:Int),.string xm,.int .i64 (xs:Int)]] V fun e w'=>e=.returned (.bool true)/\Turn F w w' q nn { T with F:=gapL T.F xn (some (xp,xm,xs)) }/\Only F V w'):=fun V h1=>(claimF_any V q F nn T (hL.below h1) xn hx hr xp xs xm).mono fun e w' ⟨a1,a2,a3⟩=>⟨a1,Turn.ahead h1 a2,a3⟩
 have HMO:Hid (∀V,Below W.heap.size W V->V.cell? ⟨q,6,none⟩=some (.int .i64 (T.most:Int))):=fun V hV=>by
  obtain ⟨dv,fv,ld,lf,ms,-,hI⟩:=(hL.below hb).below hV
  exact (jAj hI.hq).trans rfl
 have hsI:(xs:Int)<=(T.most:Int):=by omega
 have hs0:(0:Int)<=(xs:Int):=by omega
 obtain ⟨mo,hmo⟩:∃mo,T.most=mo:=⟨_,rfl⟩
 have HMQ:Hid (∀w',Turn F w w' q nn { T with F:=gapL T.F xn (some (xp,xm,xs)) }->w'.cell? ⟨q,6,none⟩=some (.int .i64 (mo:Int))):=fun w' ht=>by
  obtain ⟨_,F',⟨dv,fv,ld,lf,ms,-,hI⟩,_⟩:=ht
  rw[<-hmo]
  exact (jAj hI.hq).trans rfl
 rw[hmo] at hsI HMO
 clear hmo
 have x3:W.cell? ⟨w.heap.size,3,none⟩=some (.string xm):=(jAj k0).trans rfl
 clear hL hn hx hs hr k0 hb
 go_enter func145,ntmps145
 go_wp2_with fail
 refine hnm.mono ?_
 rintro e w2 ⟨rfl,hb2⟩
 have HB2:Hid (Below W.heap.size W w2):=hb2
 obtain ⟨x2,x3'⟩:=HSK.out _ hb2
 clear hnm hb2 x3
 go_upto_region 3 with fail
 go_cut [5] (fun u wx=>∃g,u=.pointer (some ⟨g,0,none⟩)/\Hid (wx.heap[g]?=some (.cells #[.int .i64 (xp:Int),.string xm] 141 (0,0))/\W.heap.size<=g/\Below W.heap.size W wx))
 case first =>
  refine wp_region_held_drew (S:=fun V=>V.cell? ⟨w.heap.size,2,none⟩=some (.int .i64 (xp:Int))/\V.cell? ⟨w.heap.size,3,none⟩=some (.string xm)) (by kernel_rfl) ⟨x2,x3'⟩ ?_
  intro hS
  have HBV:Hid (Below W.heap.size W w2.drew):=HB2.out.drew
  clear x2 x3' hW HB2
  revert hS HBV
  generalize w2.drew=V
  intro hS HBV
  refine tQ 0 ⟨some 10,.fieldAddr 91 (.tmp 3) 2,_,_,_,none⟩ (.pointer (some ⟨w.heap.size,2,none⟩)) rfl hS ?_
  (try simp only[Act.put,sA,sB,sC])
  refine tQ 1 ⟨some 11,.load 3 (.tmp 10),_,_,_,none⟩ (.int .i64 (xp:Int)) rfl hS ?_ (Or.inl ⟨by rfl,by intro x hx;have h1:=hx.1;go_simp⟩)
  (try simp only[Act.put,sA,sB,sC])
  refine tQ 2 ⟨some 12,.fieldAddr 91 (.tmp 3) 3,_,_,_,none⟩ (.pointer (some ⟨w.heap.size,3,none⟩)) rfl hS ?_
  (try simp only[Act.put,sA,sB,sC])
  refine tQ 3 ⟨some 13,.load 9 (.tmp 12),_,_,_,none⟩ (.string xm) rfl hS ?_ (Or.inl ⟨by rfl,by intro x hx;have h1:=hx.2;go_simp⟩)
  (try simp only[Act.put,sA,sB,sC])
  refine wpAnyH_ready (rs:=[4,6]) (by kernel_rfl) (by simp) ?_
  refine AllReadyH.cons (o:={ dst:=some 14,op:=.call { callee:=.value (.func 99),args:=#[.tmp 13],argTypes:=#[9] },type:=_,pos:=_,after:=_,guard:=none }) rfl (fun K hK=>?_) (AllReadyH.cons (o:=⟨some 5,.alloc 141,_,_,_,none⟩) rfl (fun K hK=>?_) AllReadyH.nil)
  ·go_simp
   refine (HCL.out _).mono ?_
   rintro e W2 ⟨rfl,hbA⟩
   have HB2:Hid (Below W.heap.size W W2):=jBq hbA HBV.out
   have hS2:=HSK.out _ HB2.out
   refine hK.out _ _ hS2 (fun _=>?_)
   clear hK K hS HBV hbA
   (try simp only[Act.put,sA,sB,sC])
   revert HB2 hS2
   generalize W2=V
   intro HBV hS
   refine tQ 5 ⟨some 15,.build 141 #[(0,.tmp 11),(1,.tmp 14)],_,_,_,none⟩ (.agg #[.int .i64 (xp:Int),.string xm]) rfl hS ?_
   (try simp only[Act.put,sA,sB,sC])
   refine wpAnyH_ready (rs:=[6]) (by kernel_rfl) (by simp) ?_
   refine AllReadyH.cons (o:=⟨some 5,.alloc 141,_,_,_,none⟩) rfl (fun K hK=>?_) AllReadyH.nil
   go_simp
   have hbA:Below V.heap.size V (V.alloc (.cells #[.int .i64 0,.string { data:=#[] }] 141)):=(Qq _ _).alloc (Qj _) _
   have HB2:Hid (Below W.heap.size W (V.alloc (.cells #[.int .i64 0,.string { data:=#[] }] 141))):=jBq hbA HBV.out
   have hS2:=HSK.out _ HB2.out
   have HT2:Hid ((V.alloc (.cells #[.int .i64 0,.string { data:=#[] }] 141)).heap[V.heap.size]?=some (.cells #[.int .i64 0,.string { data:=#[] }] 141 (0,0))/\W.heap.size<=V.heap.size):=⟨jA2 V _,HBV.out.size⟩
   refine hK.out _ _ hS2 (fun _=>?_)
   clear hK K hS HBV hbA
   (try simp only[Act.put,sA,sB,sC])
   revert HB2 hS2 HT2
   generalize (V.alloc (.cells #[.int .i64 0,.string { data:=#[] }] 141))=V2
   generalize V.heap.size=g
   intro HBV hS HT
   revert HBV hS HT
   generalize V2=V
   intro HBV hS HT
   refine wpAnyH_ready (rs:=[7]) (by kernel_rfl) (by simp) ?_
   refine AllReadyH.cons (o:=⟨none,.store 141 (.tmp 5) (.tmp 15),_,_,_,none⟩) rfl (fun K hK=>?_) AllReadyH.nil
   refine jA5 rfl 141 (.tmp 5) (.tmp 15) rfl g #[.int .i64 (xp:Int),.string xm] (by simp[Act.eval]) (by simp[Act.eval]) 141 _ HT.out.1 jK2 rfl (by simp[Value.oneCell']) ?_
   have HB2:Hid (Below W.heap.size W (V.setRow g #[.int .i64 (xp:Int),.string xm])):=jAx HBV.out HT.out.2 _
   have hS2:=HSK.out _ HB2.out
   have HT2:Hid ((V.setRow g #[.int .i64 (xp:Int),.string xm]).heap[g]?=some (.cells #[.int .i64 (xp:Int),.string xm] 141 (0,0))/\W.heap.size<=g):=⟨Qa _ _ _ _ _ _ HT.out.1,HT.out.2⟩
   refine hK.out _ _ hS2 (fun _=>?_)
   clear hK K hS HT HBV
   (try simp only[Act.put])
   revert HB2 hS2 HT2
   generalize (V.setRow g #[.int .i64 (xp:Int),.string xm])=V2
   intro HBV hS HT
   revert HBV hS HT
   generalize V2=V
   intro HBV hS HT
   refine wpAnyH_done (by kernel_rfl) ?_ _
   go_wp2_with fail
   go_meet
   exact ⟨g,rfl,⟨HT.out.1,HT.out.2,HBV.out⟩⟩
  ·go_simp
   have hbA:Below V.heap.size V (V.alloc (.cells #[.int .i64 0,.string { data:=#[] }] 141)):=(Qq _ _).alloc (Qj _) _
   have HB2:Hid (Below W.heap.size W (V.alloc (.cells #[.int .i64 0,.string { data:=#[] }] 141))):=jBq hbA HBV.out
   have hS2:=HSK.out _ HB2.out
   have HT2:Hid ((V.alloc (.cells #[.int .i64 0,.string { data:=#[] }] 141)).heap[V.heap.size]?=some (.cells #[.int .i64 0,.string { data:=#[] }] 141 (0,0))/\W.heap.size<=V.heap.size):=⟨jA2 V _,HBV.out.size⟩
   refine hK.out _ _ hS2 (fun _=>?_)
   clear hK K hS HBV hbA
   (try simp only[Act.put,sA,sB,sC])
   revert HB2 hS2 HT2
   generalize (V.alloc (.cells #[.int .i64 0,.string { data:=#[] }] 141))=V2
   generalize V.heap.size=g
   intro HBV hS HT
   revert HBV hS HT
   generalize V2=V
   intro HBV hS HT
   refine wpAnyH_ready (rs:=[4]) (by kernel_rfl) (by simp) ?_
   refine AllReadyH.cons (o:={ dst:=some 14,op:=.call { callee:=.value (.func 99),args:=#[.tmp 13],argTypes:=#[9] },type:=_,pos:=_,after:=_,guard:=none }) rfl (fun K hK=>?_) AllReadyH.nil
   go_simp
   refine (HCL.out _).mono ?_
   rintro e W2 ⟨rfl,hbA⟩
   have HB2:Hid (Below W.heap.size W W2):=jBq hbA HBV.out
   have hS2:=HSK.out _ HB2.out
   have HT2:Hid (W2.heap[g]?=some (.cells #[.int .i64 0,.string { data:=#[] }] 141 (0,0))/\W.heap.size<=g):=⟨(hbA.block _ (jAv HT.out.1)).trans HT.out.1,HT.out.2⟩
   refine hK.out _ _ hS2 (fun _=>?_)
   clear hK K hS HBV hbA HT
   (try simp only[Act.put,sA,sB,sC])
   revert HB2 hS2 HT2
   generalize W2=V
   intro HBV hS HT
   refine tQ 5 ⟨some 15,.build 141 #[(0,.tmp 11),(1,.tmp 14)],_,_,_,none⟩ (.agg #[.int .i64 (xp:Int),.string xm]) rfl hS ?_
   (try simp only[Act.put,sA,sB,sC])
   refine wpAnyH_ready (rs:=[7]) (by kernel_rfl) (by simp) ?_
   refine AllReadyH.cons (o:=⟨none,.store 141 (.tmp 5) (.tmp 15),_,_,_,none⟩) rfl (fun K hK=>?_) AllReadyH.nil
   refine jA5 rfl 141 (.tmp 5) (.tmp 15) rfl g #[.int .i64 (xp:Int),.string xm] (by simp[Act.eval]) (by simp[Act.eval]) 141 _ HT.out.1 jK2 rfl (by simp[Value.oneCell']) ?_
   have HB2:Hid (Below W.heap.size W (V.setRow g #[.int .i64 (xp:Int),.string xm])):=jAx HBV.out HT.out.2 _
   have hS2:=HSK.out _ HB2.out
   have HT2:Hid ((V.setRow g #[.int .i64 (xp:Int),.string xm]).heap[g]?=some (.cells #[.int .i64 (xp:Int),.string xm] 141 (0,0))/\W.heap.size<=g):=⟨Qa _ _ _ _ _ _ HT.out.1,HT.out.2⟩
   refine hK.out _ _ hS2 (fun _=>?_)
   clear hK K hS HT HBV
   (try simp only[Act.put])
   revert HB2 hS2 HT2
   generalize (V.setRow g #[.int .i64 (xp:Int),.string xm])=V2
   intro HBV hS HT
   revert HBV hS HT
   generalize V2=V
   intro HBV hS HT
   refine wpAnyH_done (by kernel_rfl) ?_ _
   go_wp2_with fail
   go_meet
   exact ⟨g,rfl,⟨HT.out.1,HT.out.2,HBV.out⟩⟩
 case rest =>
 obtain ⟨g,rfl,HL⟩:=hcut
 clear x2 x3' hW HB2 HCL
 obtain ⟨l1,l2,l3⟩:=HL.out
 have k3:=HK.out _ l3
 have y0:wc.cell? ⟨w.heap.size,0,none⟩=some (.int .i64 2):=(jAj k3).trans rfl
 have y1:wc.cell? ⟨w.heap.size,1,none⟩=some (.int .i64 (xn:Int)):=(jAj k3).trans rfl
 have y4:wc.cell? ⟨w.heap.size,4,none⟩=some (.int .i64 (xs:Int)):=(jAj k3).trans rfl
 have z0:wc.cell? ⟨g,0,none⟩=some (.int .i64 (xp:Int)):=(jAj l1).trans rfl
 have z1:wc.cell? ⟨g,1,none⟩=some (.string xm):=(jAj l1).trans rfl
 have HS6:Hid (∀V:World,(∀k,w.heap.size<=k->k<wc.heap.size->V.heap[k]?=wc.heap[k]?)->V.cell? ⟨w.heap.size,1,none⟩=some (.int .i64 (xn:Int))/\V.cell? ⟨w.heap.size,4,none⟩=some (.int .i64 (xs:Int))/\V.cell? ⟨g,0,none⟩=some (.int .i64 (xp:Int))/\V.cell? ⟨g,1,none⟩=some (.string xm)):=fun V hV=>by
  have j3:=(hV _ (Qj _) (jAv k3)).trans k3
  have j1:=(hV _ (Qk HB.out.size l2) (jAv l1)).trans l1
  exact ⟨(jAj j3).trans rfl,(jAj j3).trans rfl,(jAj j1).trans rfl,(jAj j1).trans rfl⟩
 have HBC:Hid (Below w.heap.size w wc):=jBq l3 HB.out
 have hbd:Below wc.heap.size wc wc.drew:=(Qq _ _).drew
 have HM6:Hid (∀V,Below wc.heap.size wc V->V.cell? ⟨q,6,none⟩=some (.int .i64 (mo:Int))):=fun V hV=>HMO.out V (jBq hV l3)
 clear l1 l2 l3 k3
 go_wp2_with fail
 skip
 go_region_held_law (fun V=>(V.cell? ⟨w.heap.size,1,none⟩=some (.int .i64 (xn:Int))/\V.cell? ⟨w.heap.size,4,none⟩=some (.int .i64 (xs:Int))/\V.cell? ⟨g,0,none⟩=some (.int .i64 (xp:Int))/\V.cell? ⟨g,1,none⟩=some (.string xm))/\V.cell? ⟨q,6,none⟩=some (.int .i64 (mo:Int))) (first | exact ⟨HS6.out _ (fun _ _ _=>rfl),HM6.out _ hbd⟩ | exact ⟨HS6.out _ hk9,HMQ.out _ HT9.out⟩) (first | (go_at_call 161;refine (HCF.out wc.drew HBC.out.drew).mono ?_;rintro e w9 ⟨rfl,ht9,hy9⟩;have HT9:Hid (Turn F w w9 q nn { T with F:=gapL T.F xn (some (xp,xm,xs)) }):=ht9;have hk9:∀k,w.heap.size<=k->k<wc.heap.size->w9.heap[k]?=wc.heap[k]?:=fun k h1 h2=>hy9.block k h2 (fun hm=>by have:=HFL.out k hm;omega)))
 go_wp2
 go_ret
 exact ⟨rfl,HT9.out⟩
