import Derived.WalkKit
import Derived.Lib.SliceRun
import Derived.Lib.BufferWrite
import Derived.Laws.CopyOwn
import Derived.Laws.IdiomStrings
import Derived.Deep.OwnRows
import Derived.WalkLawsBesides
import Derived.Deep.RegionLaw
import Derived.Deep.LoopGhost
import Derived.LoopN
import Derived.Deep.MidRow
import Derived.BigQuiet
import Derived.KernelRfl
import Derived.ArgAppend
import Derived.Test.YtfnklhajafmooaaGreatDoorRows
import Derived.OwnWalk
import Derived.OrdersHeld
import Derived.BigFrame
import Derived.BigRegion
namespace Go.Proofs.YtfnklhajafmooaaGreatDoor
open Go.RowKit Go.Lib
structure Only (S:List Nat)(w w':World):Prop where
 os:w'.os=w.os
 tape:w'.tape=w.tape
 output:w'.output=w.output
 size:w.heap.size<=w'.heap.size
 block:∀k,k<w.heap.size->k ∉ S->w'.heap[k]?=w.heap[k]?
theorem Only.refl (S:List Nat)(w:World):Only S w w:=⟨rfl,rfl,rfl,Nat.le_refl _,fun _ _ _=>rfl⟩
theorem Only.trans {S:List Nat}{a b c:World}(h:Only S a b)(k:Only S b c):Only S a c :=
 ⟨k.os.trans h.os,k.tape.trans h.tape,k.output.trans h.output,Nat.le_trans h.size k.size,fun i hi hS=>(k.block i (Nat.lt_of_lt_of_le hi h.size) hS).trans (h.block i hi hS)⟩
theorem Only.setCell {S:List Nat}{a w:World}(h:Only S a w){p:Addr}(hp:p.block∈S)(u:Value):Only S a (w.setCell p u) :=
 h.trans ⟨rfl,rfl,rfl,by simp[World.setCell],fun k _ hS=>Below.heap_setCell _ _ _ _ (fun e=>hS (e▸hp))⟩
theorem Only.mono {S T:List Nat}{a w:World}(h:Only S a w)(hs:∀k∈S,k∈T):Only T a w :=
 ⟨h.os,h.tape,h.output,h.size,fun k hk hT=>h.block k hk (fun e=>hT (hs k e))⟩
theorem Only.below {S:List Nat}{a w:World}{B:Nat}(h:Only S a w)(hB:B<=a.heap.size)(hs:∀k∈S,B<=k):Below B a w :=
 ⟨h.os,h.tape,h.output,h.size,fun k hk=>h.block k (by omega) (fun e=>by have:=hs k e;omega)⟩
theorem jAv {w:World}{k:Nat}{o:Obj}(h:w.heap[k]?=some o):k<w.heap.size:=(Array.getElem?_eq_some_iff.1 h).1
theorem jAj {w:World}{k j:Nat}{c:Array Value}{t:TypeId}{fr:Nat × Nat}(h:w.heap[k]?=some (.cells c t fr)):w.cell? ⟨k,j,none⟩=c[j]?:=by
 simp[World.cell?,h]
theorem jAq {w:World}{k j:Nat}{c:Array Value}{t:TypeId}(h:w.heap[k]?=some (.cells c t (0,0))):w.frozen? ⟨k,j,none⟩=false:=by
 simp[World.frozen?,h]
theorem jA2 (w:World)(o:Obj):(w.alloc o).heap[w.heap.size]?=some o:=by
 show (w.heap.push o)[w.heap.size]?=_
 simp
end Go.Proofs.YtfnklhajafmooaaGreatDoor
namespace Go.Proofs.YtfnklhajafmooaaGreatDoor
open Go.RowKit Go.Lib
theorem jM8 {w w':World}{B:Nat}{v:Value}{e:TypeId}{size n:Nat}{xs:List Value}(h:w.grownBy w' v.ownBlock)(hB:B<=w.heap.size)(ho:w.ownsRow B e size v n xs):Below B w w':=by
 refine ⟨h.os,h.tape,h.output,h.size,fun k hk=>h.block k (by omega) ?_⟩
 rcases ho.2 with ⟨rfl,_⟩ | ⟨g,cap,cur,rfl,hb,_⟩
 ·simp[Value.ownBlock]
 ·simp[Value.ownBlock];omega
theorem cells_new (w:World)(cs:Array Value)(e:TypeId)(j:Nat)(u:Value)(h:cs[j]?=some u):(w.alloc (.cells cs e)).cell? ((⟨w.heap.size,0,none⟩:Addr).add j)=some u:=by
 rw[Addr.add_lit,Nat.zero_add,jAj (jA2 w _)]
 exact h
end Go.Proofs.YtfnklhajafmooaaGreatDoor
namespace Go.Proofs.YtfnklhajafmooaaGreatDoor
open Go.RowKit Go.Lib
end Go.Proofs.YtfnklhajafmooaaGreatDoor
namespace Go.Proofs.YtfnklhajafmooaaGreatDoor
open Go.RowKit Go.Lib
end Go.Proofs.YtfnklhajafmooaaGreatDoor
namespace Go.Proofs.YtfnklhajafmooaaGreatDoor
open Go.RowKit Go.Lib
theorem jBj {R:World->Prop}(w:World){Q:World->Prop}(hq:Q w)(h:∀w2,Q w2->R w2):R w:=h w hq
end Go.Proofs.YtfnklhajafmooaaGreatDoor
namespace Go.Proofs.YtfnklhajafmooaaGreatDoor
open Go.RowKit Go.Lib
end Go.Proofs.YtfnklhajafmooaaGreatDoor
namespace Go.Proofs.YtfnklhajafmooaaGreatDoor
open Go.RowKit Go.Lib
theorem jB6 (w:World)(g i:Nat)(cs:Array Value)(t:TypeId)(fr:Nat × Nat)(v:Value)(hg:w.heap[g]?=some (.cells cs t fr)):(w.setCell ⟨g,i,none⟩ v).heap[g]?=some (.cells (cs.setIfInBounds i v) t fr):=by
 rw[setCell_eq_setRow w g i cs t fr v hg]
 exact setRow_heap w g cs _ t _ hg
end Go.Proofs.YtfnklhajafmooaaGreatDoor
namespace Go.Proofs.YtfnklhajafmooaaGreatDoor
open Go.RowKit Go.Lib
def str (l:List UInt8):ByteArray:=⟨l.toArray⟩
theorem str_size (l:List UInt8):(str l).size=l.length:=by simp[str,ByteArray.size]
theorem str_data (l:List UInt8):(str l).data.toList=l:=by simp[str]
theorem str_of (s:ByteArray):str s.data.toList=s:=by simp[str]
end Go.Proofs.YtfnklhajafmooaaGreatDoor
namespace Go.Proofs.YtfnklhajafmooaaGreatDoor
open Go.RowKit Go.Lib
end Go.Proofs.YtfnklhajafmooaaGreatDoor
namespace Go.Proofs.YtfnklhajafmooaaGreatDoor
open Go.RowKit Go.Lib
section
variable {P:Program} {ops:Array Oper} {Q:Exit->Act->World->Prop} {md:Region.Mode} {S:World->Prop}
end
end Go.Proofs.YtfnklhajafmooaaGreatDoor
namespace Go.Proofs.YtfnklhajafmooaaGreatDoor.Kr
open Go.RowKit Go.Lib
end Go.Proofs.YtfnklhajafmooaaGreatDoor.Kr
namespace Go.Proofs.YtfnklhajafmooaaGreatDoor
open Go.RowKit Go.Lib Go.Deep
theorem sA {α:Type _}(l:List α)(i:Nat)(a:α):l.toArray.setIfInBounds i a=(l.set i a).toArray:=List.setIfInBounds_toArray l i a
theorem sB {α:Type _}{x:α}{xs:List α}{a:α}:(x :: xs).set 0 a=a :: xs:=rfl
theorem sC {α:Type _}{x:α}{xs:List α}{i:Nat}{a:α}:(x :: xs).set (i+1) a=x :: xs.set i a:=rfl
theorem tQ {P:Program}{ops:Array Oper}{Q:Exit->Act->World->Prop}{md:Region.Mode}{S:World->Prop}(i:Nat)(oi:Oper)(v:Value){fuel:Nat}{listed:Array Bool}{a:Act}{w:World}(hi:ops[i]?=some oi)(hS:S w)(h:wpAnyH P md ops Q S fuel (listed.setIfInBounds i true) (a.put oi.dst v) w)(hy:YieldsIf P ops S oi v a:=by exact Or.inl ⟨by rfl,by intro x _;go_simp⟩)(hs:Region.noSelect ops=true:=by kernel_rfl)(hf:Region.free md ops listed i=true:=by kernel_rfl)(hr:(Region.ready md ops listed).contains i=true:=by kernel_rfl)(hQ:∀c a w,Q (.panic c) (a.put oi.dst v) w->Q (.panic c) a w:=by exact fun _ _ _ h=>h):wpAnyH P md ops Q S (fuel+1) listed a w:=wpAnyH_take hi hs hf hr hQ hy hS h
theorem Qj:∀(n:Nat),n<=n:=@Nat.le_refl
theorem Qq:∀(B:Nat) (w:World),Below B w w:=@Below.refl
theorem Qv:∀{α:Type _} {l:List α} {i:Nat} (h:i<l.length),l[i]?=some l[i]:=@List.getElem?_eq_getElem
theorem Qx:∀{n m k:Nat},n<m->m<=k->n<k:=@Nat.lt_of_lt_of_le
theorem Qy:∀(w:World) (a:Addr) (k:Nat) (v:Value),k≠a.block->(w.setCell a v).heap[k]?=w.heap[k]?:=@heap_setCell_other
theorem Qz:∀(w:World) (g k:Nat) (cs:Array Value),k≠g->(w.setRow g cs).heap[k]?=w.heap[k]?:=@setRow_other
theorem Qw:∀{P:Program} {fn:Func} {R:Ending->World->Prop} {a:Act} {w:World} {v:Value},Sem.run P (results fn a.tmps) w=Result.ok v w->a.defers=[]->R (Ending.returned v) w->bodyPost P fn R Exit.ret a w:=@bodyPost_ret
theorem Qk:∀{n m k:Nat},n<=m->m<=k->n<=k:=@Nat.le_trans
theorem QJ:∀(w:World) (g i:Nat) (cs:Array Value) (t:TypeId) (v:Value),w.heap[g]?=some (Obj.cells cs t)->(w.setCell { block:=g,off:=i } v).heap[g]?=some (Obj.cells (cs.setIfInBounds i v) t):=@heap_setCell_same
theorem QQ:∀{p:Prop} [Decidable p],p->Decidable.decide p=Bool.true:=@decide_eq_true
theorem QV:∀{α:Type _} {i:Nat} {a:α} {l:List α},l[i]?=some a↔∃h,l[i]=a:=@List.getElem?_eq_some_iff
theorem QX:∀(n:Int),IntKind.i64.wrap n=(n+9223372036854775808) % 18446744073709551616-9223372036854775808:=@IntKind.wrap_i64
theorem QY:∀{p:Prop} [Decidable p],¬p->Decidable.decide p=Bool.false:=@decide_eq_false
theorem QZ:∀{α:Type _} {xs:Array α} {i j:Nat} {a:α},(xs.setIfInBounds i a)[j]?=if i=j then if i<xs.size then some a else none else xs[j]?:=@Array.getElem?_setIfInBounds
theorem QW:∀{α:Type _} {val val_1:α},some val=some val_1->val=val_1:=@Option.some.inj
theorem QK:∀(w:World) (o:Obj) (k:Nat),k<w.heap.size->(w.alloc o).heap[k]?=w.heap[k]?:=@Below.heap_alloc
theorem Qa:∀(w:World) (g:Nat) (old cs:Array Value) (t:TypeId) (fr:Nat × Nat),w.heap[g]?=some (Obj.cells old t fr)->(w.setRow g cs).heap[g]?=some (Obj.cells cs t fr):=@setRow_heap
theorem Qb:∀{α:Type _} {l:List α},l.length=0->l=[]:=@List.eq_nil_of_length_eq_zero
theorem Qc:∀{n:Nat} {α:Type _} {a:α} {i:Nat},(List.replicate n a)[i]?=if i<n then some a else none:=@List.getElem?_replicate
theorem Qd:∀{α:Type _} {l₁ l₂:List α} {i:Nat},l₁.length<=i->(l₁++l₂)[i]?=l₂[i-l₁.length]?:=@List.getElem?_append_right
theorem Qf:∀{α:Type _} {i:Nat} {l:List α},l.length<=i->List.take i l=l:=@List.take_of_length_le
theorem Qg:∀{p:Prop} [Decidable p],Decidable.decide p=Bool.true->p:=@of_decide_eq_true
theorem Qh:∀{α:Type _} {l:List α},List.take l.length l=l:=@List.take_length
theorem QA:∀{α:Type _} (y:α) {a:α} {l:List α},a∈l->a∈y :: l:=@List.mem_cons_of_mem
theorem QB:∀{p:Prop} [Decidable p],¬¬p->p:=@Decidable.of_not_not
theorem Kj:∀(n:Nat),0<=n:=@Nat.zero_le
