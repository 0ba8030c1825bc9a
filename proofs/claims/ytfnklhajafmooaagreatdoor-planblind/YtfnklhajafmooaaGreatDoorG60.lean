import Derived.Test.YtfnklhajafmooaaGreatDoorCards
import Derived.Test.YtfnklhajafmooaaGreatDoorTie
import Derived.ProofKit
import Derived.OpenShut
import Derived.LaidSub
import Derived.Deep.DeepHandedRow
import Derived.Lib.LaidTab
import Derived.Test.YtfnklhajafmooaaGreatDoorG26
set_option maxRecDepth 40000
namespace Go.Proofs.YtfnklhajafmooaaGreatDoor.Pa
open Go.ChangeShapes Go.WideShapes Go.ChangeAt Go.RowKit Go.Proofs.Tryz
def lay (cs:Array Value):Obj->Obj
 | .cells _ t fr=>.cells cs t fr
 | o=>o
def firstC:Array Value:=(Go.Pinned.utf8FirstZ.map fun (n:Nat)=>Value.int .u8 (n:Int)).toArray
def accC:Array Value:=(([128,191,160,191,128,159,144,191,128,143]:List Nat).map fun (n:Nat)=>Value.int .u8 (n:Int)).toArray++(List.replicate 22 (Value.int .u8 0)).toArray
end Go.Proofs.YtfnklhajafmooaaGreatDoor.Pa
namespace Go.Proofs.YtfnklhajafmooaaGreatDoor.Ix
open Go.ChangeShapes Go.WideShapes Go.ChangeAt Go.RowKit Go.Proofs.Tryz
def nRs:String:=(Rows.planQueueRow.named[0]?).getD default
theorem gRs:prog.globalNamed nRs=some 0:=by kernel_rfl
theorem gRsT:(prog.globals[0]?).map (·.type)=some 255:=by kernel_rfl
theorem cellsR4:prog.cellsOf 255=4:=by kernel_rfl
theorem cellsR1:prog.cellsOf 3=1:=by kernel_rfl
def rsC:Array Value:=#[.int .i64 36,.int .i64 40,.int .i64 40,.int .i64 4]
theorem rt_of_laid {W:World}(h:laidMetH prog [(nRs,Rows.laid_casket_index_rowSizes)] W):RT W:=by
 have h1:Lib.TabIs prog W nRs .i64 [36,40,40,4] :=
  Lib.tabIs_of_head (rest:=[]) gRs gRsT underlying255 underlying3 cellsR1 cellsR4 h
 unfold Lib.TabIs World.var? at h1
 rw[gRs,Option.bind_some] at h1
 cases e:W.heap[0]? with
 | none=>rw[e] at h1;cases h1
 | some o =>
   rw[e] at h1
   cases o with
   | cells cs t fr=>exact ⟨t,fr,by rw[e];rw[show cs=_ from QW h1];rfl⟩
   | _=>cases h1
def lay (cs:Array Value):Obj->Obj
 | .cells _ t fr=>.cells cs t fr
 | o=>o
theorem cellsCf:prog.cellsOf 23=6:=by kernel_rfl
theorem cf_of {H:Type}{enc:TypeId × Value->H}{W:World}{base:Nat}{v:Value}{d:DataW H}{ps:List MemPlace}(hv:Value.okWide prog W .any base 23 v)(h:DataW.Trod enc prog W 0 (fun _=>true) true 23 v d ps):∃c:Cf,v=cfV c:=by
 obtain ⟨cs,rfl,hcs⟩:=okWide_struct underlying23 hv
 rw[cellsCf] at hcs
 obtain ⟨x0,x1,x2,x3,x4,x5,rfl⟩:∃x0 x1 x2 x3 x4 x5,cs=#[x0,x1,x2,x3,x4,x5]:=by
  obtain ⟨l⟩:=cs
  match l,hcs with
  | [x0,x1,x2,x3,x4,x5],_=>exact ⟨x0,x1,x2,x3,x4,x5,rfl⟩
 obtain ⟨fuel,hf⟩:=h
 obtain ⟨xs,k,hk,hxy,_,hxl,hfl⟩:=DataW.trod_struct underlying23 hf
 match xs,hxl with
 | [y0,y1,y2,y3,y4,y5],_ =>
   have g0:=hfl 0 _ rfl
   have g1:=hfl 1 _ rfl
   have g2:=hfl 2 _ rfl
   have g3:=hfl 3 _ rfl
   have g4:=hfl 4 _ rfl
   have g5:=hfl 5 _ rfl
   simp[cellsR1,Value.cells] at g0 g1 g2 g3 g4 g5
   obtain ⟨i0,a0,_⟩:=DataW.trod_int underlying3 g0
   obtain ⟨i1,a1,_⟩:=DataW.trod_int underlying3 g1
   obtain ⟨i2,a2,_⟩:=DataW.trod_int underlying3 g2
   obtain ⟨i3,a3,_⟩:=DataW.trod_int underlying3 g3
   obtain ⟨i4,a4,_⟩:=DataW.trod_int underlying3 g4
   obtain ⟨i5,a5,_⟩:=DataW.trod_int underlying3 g5
   simp at a0 a1 a2 a3 a4 a5
   subst a0 a1 a2 a3 a4 a5
   exact ⟨⟨i0,i1,i2,i3,i4,i5⟩,rfl⟩
