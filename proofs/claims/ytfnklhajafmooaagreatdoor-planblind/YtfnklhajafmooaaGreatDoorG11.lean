import Derived.Test.YtfnklhajafmooaaGreatDoorG07
import Derived.Test.YtfnklhajafmooaaGreatDoorG10
import Derived.Deep.RegionWith
import Derived.Deep.DeepCutAuto
set_option maxHeartbeats 2000000
set_option maxRecDepth 20000
namespace Go.Proofs.YtfnklhajafmooaaGreatDoor.Tr
open Go.RowKit Go.Lib Go.Deep Go.Proofs.Tryz
abbrev ZO:Array Value:=#[.nilFunc,.bool false,.bool false,.bool false]
abbrev ZR:Array Value:=#[.int .i64 0,.string { data:=#[] },.string { data:=#[] },.int .i64 0,.int .i64 0,.string { data:=#[] },.slice none 0 0,.slice none 0 0]
def opA:Array Value:=#[.nilFunc,.bool false,.bool false,.bool false,.func (.func 85) #[] #[],.bool false,.bool false,.bool false,.func (.func 86) #[] #[],.bool false,.bool false,.bool false,.func (.func 87) #[] #[],.bool false,.bool true,.bool true,.func (.func 88) #[] #[],.bool false,.bool true,.bool false,.func (.func 89) #[] #[],.bool false,.bool false,.bool true,.func (.func 90) #[] #[],.bool true,.bool false,.bool false,.func (.func 91) #[] #[],.bool false,.bool false,.bool false,.func (.func 92) #[] #[],.bool false,.bool false,.bool false,.func (.func 93) #[] #[],.bool false,.bool false,.bool false,.func (.func 94) #[] #[],.bool false,.bool false,.bool false]
theorem sizeOA:(prog.info? 156).map (·.size)=some 44:=by kernel_rfl
theorem jCy:(prog.info? 99).map (·.size)=some 4:=by kernel_rfl
theorem jCz:(prog.info? 101).map (·.size)=some 8:=by kernel_rfl
theorem jAx {w W:World}(h:Below w.heap.size w W){g:Nat}(hg:w.heap.size<=g)(cs:Array Value):Below w.heap.size w (W.setRow g cs):=h.trans ⟨rfl,rfl,rfl,by rw[size_setRow];exact Qj _ |> fun _=>(by omega:W.heap.size<=W.heap.size),fun k hk=>Qz _ _ _ _ (by omega)⟩
theorem operations_any (w:World):Calls prog 61 #[] w fun e w'=>e=.returned (.agg opA)/\Below w.heap.size w w':=by
 obtain ⟨W,hW,hb,k0⟩:=jA4 w #[.nilFunc,.bool false,.bool false,.bool false,.nilFunc,.bool false,.bool false,.bool false,.nilFunc,.bool false,.bool false,.bool false,.nilFunc,.bool false,.bool false,.bool false,.nilFunc,.bool false,.bool false,.bool false,.nilFunc,.bool false,.bool false,.bool false,.nilFunc,.bool false,.bool false,.bool false,.nilFunc,.bool false,.bool false,.bool false,.nilFunc,.bool false,.bool false,.bool false,.nilFunc,.bool false,.bool false,.bool false,.nilFunc,.bool false,.bool false,.bool false] 156
 have hone:opA.all (·.oneCell')=true:=by simp[opA,Value.oneCell']
 have HB:Hid _:=hb
 have HK:Hid _:=k0
 clear hb
 go_enter func61,ntmps61
 go_wp2_with (refine wpList_store_row rfl 156 (.tmp 0) (.tmp 11) rfl w.heap.size opA rfl rfl 156 _ k0 sizeOA rfl hone ?_)
 refine Qw (jB9 rfl _ _ w.heap.size 156 opA (0,0) _ rfl (Qa _ _ _ _ _ _ HK.out) underlying156 rfl sizeOA) rfl ?_
 exact ⟨rfl,jAx HB.out (Qj _) _⟩
theorem jA5 {P:Program}{ops:Array Oper}{o:Oper}{a:Act}{w:World}{K:Act->World->Prop}{Q:Exit->Act->World->Prop}{E:Prop}(hgd:o.guard=none)(ty:TypeId)(x y:Operand)(ho:o.op=.store ty x y)
 (g:Nat) (cells:Array Value) (hx:a.eval x=.pointer (some ⟨g,0,none⟩)) (hy:a.eval y=.agg cells)
 (t:TypeId) (old:Array Value) (hg:w.heap[g]?=some (.cells old t (0,0))) (hi:(P.info? ty).map (·.size)=some cells.size)
 (hold:old.size=cells.size) (h1:cells.all (·.oneCell')=true)
 (h:K (a.put o.dst undef) (w.setRow g cells)):if Region.wanted o (yielded ops a.tmps)=true then Oper.wp P o a w K Q else E:=by
 have hw:Region.wanted o (yielded ops a.tmps)=true:=by simp[Region.wanted,hgd]
 rw[if_pos hw]
 exact wp_store_row ty x y ho g cells hx hy t old hg hi hold h1 h
def Row (k:Int)(f:FuncId)(bt ba bn:Bool):Prop:=∀W:World,(Instr.index 156 (.agg opA) (.int .i64 k)).run prog W=.ok (.agg #[.func (.func f) #[] #[],.bool bt,.bool ba,.bool bn]) W
theorem row1:Row 1 85 false false false:=fun W=>by kernel_rfl
theorem row2:Row 2 86 false false false:=fun W=>by kernel_rfl
theorem row3:Row 3 87 false true true:=fun W=>by kernel_rfl
theorem row4:Row 4 88 false true false:=fun W=>by kernel_rfl
theorem row5:Row 5 89 false false true:=fun W=>by kernel_rfl
theorem row6:Row 6 90 true false false:=fun W=>by kernel_rfl
theorem row7:Row 7 91 false false false:=fun W=>by kernel_rfl
theorem row8:Row 8 92 false false false:=fun W=>by kernel_rfl
theorem row9:Row 9 93 false false false:=fun W=>by kernel_rfl
theorem row10:Row 10 94 false false false:=fun W=>by kernel_rfl
structure Lk (W X:World)(g5 g6:Nat)(A B:Array Value):Prop where
 h5:X.heap[g5]?=some (.cells A 99 (0,0))
 h6:X.heap[g6]?=some (.cells B 101 (0,0))
 b5:W.heap.size<=g5
 b6:W.heap.size<=g6
 hb:Below W.heap.size W X
theorem jKj {X:World}{g p:Nat}{A B:Array Value}{s t:TypeId}{a b:Nat × Nat}(h1:X.heap[g]?=some (.cells A s a))(h2:X.heap[p]?=some (.cells B t b))(h:s≠t):g≠p:=fun e=>by
 rw[e,h2] at h1
 injection h1 with h1
 injection h1 with _ h1 _
 exact h h1.symm
theorem jBq {w X Y:World}(h:Below X.heap.size X Y)(hX:Below w.heap.size w X):Below w.heap.size w Y:=hX.trans (h.mono hX.size)
theorem Lk.below {W X Y:World}{g5 g6:Nat}{A B:Array Value}(h:Lk W X g5 g6 A B)(hb:Below X.heap.size X Y):Lk W Y g5 g6 A B:=⟨(hb.block _ (jAv h.h5)).trans h.h5,(hb.block _ (jAv h.h6)).trans h.h6,h.b5,h.b6,jBq hb h.hb⟩
theorem Lk.set6 {W X:World}{g5 g6:Nat}{A:Array Value}{z0 z1 z2 z3 z4 z5 z6 z7 v:Value}(h:Lk W X g5 g6 A #[z0,z1,z2,z3,z4,z5,z6,z7]):Lk W (X.setCell ⟨g6,6,none⟩ v) g5 g6 A #[z0,z1,z2,z3,z4,z5,v,z7] :=
 ⟨(Qy _ _ _ _ (jKj h.h5 h.h6 (by decide))).trans h.h5,QJ _ _ 6 _ _ v h.h6,h.b5,h.b6,h.hb.setCell h.b6 _⟩
theorem Lk.set7 {W X:World}{g5 g6:Nat}{A:Array Value}{z0 z1 z2 z3 z4 z5 z6 z7 v:Value}(h:Lk W X g5 g6 A #[z0,z1,z2,z3,z4,z5,z6,z7]):Lk W (X.setCell ⟨g6,7,none⟩ v) g5 g6 A #[z0,z1,z2,z3,z4,z5,z6,v] :=
 ⟨(Qy _ _ _ _ (jKj h.h5 h.h6 (by decide))).trans h.h5,QJ _ _ 7 _ _ v h.h6,h.b5,h.b6,h.hb.setCell h.b6 _⟩
structure Bs (w X:World)(C:Array Value):Prop where
 hp:X.heap[w.heap.size]?=some (.cells C 72 (0,0))
 h1:X.heap[w.heap.size+1]?=some (.cells ZO 99 (0,0))
 h2:X.heap[w.heap.size+1+1]?=some (.cells ZR 101 (0,0))
 hb:Below w.heap.size w X
theorem Bs.below {w X Y:World}{C:Array Value}(h:Bs w X C)(hb:Below X.heap.size X Y):Bs w Y C:=⟨(hb.block _ (jAv h.hp)).trans h.hp,(hb.block _ (jAv h.h1)).trans h.h1,(hb.block _ (jAv h.h2)).trans h.h2,jBq hb h.hb⟩
theorem Bs.of {w W X:World}{C:Array Value}(h:Bs w W C)(hb:Below W.heap.size W X):Bs w X C:=h.below hb
theorem Bs.set {w X:World}{C:Array Value}{g j:Nat}{v:Value}(h:Bs w X C)(hg:w.heap.size+1+1<g):Bs w (X.setCell ⟨g,j,none⟩ v) C:=⟨(Qy _ _ _ _ (by show w.heap.size≠g;omega)).trans h.hp,(Qy _ _ _ _ (by show w.heap.size+1≠g;omega)).trans h.h1,(Qy _ _ _ _ (by show w.heap.size+1+1≠g;omega)).trans h.h2,h.hb.setCell (by show w.heap.size<=g;omega) _⟩
theorem jH3 {W:World}{g:Nat}{t:TypeId}{x0 x1 x2 x3:Value}(h:W.heap[g]?=some (.cells #[x0,x1,x2,x3] t (0,0))):W.cell? ⟨g,0,none⟩=some x0/\W.cell? ⟨g,1,none⟩=some x1/\W.cell? ⟨g,2,none⟩=some x2/\W.cell? ⟨g,3,none⟩=some x3 :=
 ⟨(jAj h).trans rfl,(jAj h).trans rfl,(jAj h).trans rfl,(jAj h).trans rfl⟩
def AskN (w w':World)(e:Ending)(c:Int):Prop:=e=.returned (.tuple #[.agg ZO,.agg ZR,.int .i64 c])/\Below w.heap.size w w'
def AskY (w w':World)(e:Ending)(f:FuncId)(bt ba bn:Bool)(ok oa on:Int)(op ot od:ByteArray):Prop:=∃sa n sc ta tn tc,e=.returned (.tuple #[.agg #[.func (.func f) #[] #[],.bool bt,.bool ba,.bool bn],.agg #[.int .i64 ok,.string op,.string ot,.int .i64 oa,.int .i64 on,.string od,.slice sa n sc,.slice ta tn tc],.int .i64 0])/\Pa.See w' (.slice sa n sc) (Pa.jB3 op)/\(bt=true->Pa.See w' (.slice ta tn tc) (Pa.jB3 ot))/\Below w.heap.size w w'
def AskP (w w':World)(e:Ending)(E:Int)(f:FuncId)(bt ba bn:Bool)(ok oa on:Int)(op ot od:ByteArray):Prop:=(E=0/\AskY w w' e f bt ba bn ok oa on op ot od)\/(E≠0/\AskN w w' e E)
theorem jJ1 {W:World}{B g j:Nat}{v x:Value}{L:List ByteArray}(h:Pa.Own W B v L)(hg:g<B):Pa.Own (W.setCell ⟨g,j,none⟩ x) B v L:=jA0 h fun k hk=>Qy _ _ _ _ (by have:=(h.lt k hk).1;show k≠g;omega)
theorem jE1 {W:World}{B g:Nat}{v:Value}{cs:Array Value}{L:List ByteArray}(h:Pa.Own W B v L)(hg:g<B):Pa.Own (W.setRow g cs) B v L:=jA0 h fun k hk=>Qz _ _ _ _ (by have:=(h.lt k hk).1;omega)
theorem askedL (w:World)(f:FuncId)(bt ba bn:Bool)(ok oa on:Int)(op ot od:ByteArray)(hk:ok<1):Calls prog 34 #[.agg #[.int .i64 ok,.string op,.string ot,.int .i64 oa,.int .i64 on,.string od]] w fun e w'=>AskP w w' e 127 f bt ba bn ok oa on op ot od:=by
 obtain ⟨W,hW,hb,kp,k1,k2⟩:=jC5 w #[.int .i64 ok,.string op,.string ot,.int .i64 oa,.int .i64 on,.string od] ZO ZR 72 99 101
 have HBW:Hid (Bs w W #[.int .i64 ok,.string op,.string ot,.int .i64 oa,.int .i64 on,.string od]):=⟨kp,k1,k2,hb⟩
 obtain ⟨p0,p1,p2,p3,p4,p5⟩:=jB4 kp
 obtain ⟨E,HEV⟩:∃E:Int,Hid (E=127):=⟨127,rfl⟩
 rw[<-HEV.out]
 have HEN:Hid ((127:Int)≠0):=by show (127:Int)≠0;omega
 have h1:=hk
 clear hb kp k1 k2
 unfold ZO ZR at hW
 go_enter func34,ntmps34
 go_upto_region 2 with fail
 go_wp2_with (first
  | (refine wpList_store_row rfl 99 (.tmp 2) (.tmp 16) rfl (w.heap.size+1) ZO rfl rfl 99 _ HBW.out.h1 jCy rfl (by simp[Value.oneCell']) ?_)
  | (refine wpList_store_row rfl 101 (.tmp 3) (.tmp 17) rfl (w.heap.size+1+1) ZR rfl rfl 101 _ ((Qz _ _ _ _ (by omega)).trans HBW.out.h2) jCz rfl (by simp[Value.oneCell']) ?_))
 refine Qw (jBz rfl _ _ (w.heap.size+1) 99 ZO (0,0) _ (w.heap.size+1+1) 101 ZR (0,0) _ rfl ((Qz _ _ _ _ (by omega)).trans (Qa _ _ _ _ _ _ HBW.out.h1)) underlying99 rfl jCy rfl (Qa _ _ _ _ _ _ ((Qz _ _ _ _ (by omega)).trans HBW.out.h2)) underlying101 rfl jCz) rfl ?_
 rw[HEV.out]
 exact .inr ⟨HEN.out,rfl,jAx (jAx HBW.out.hb (by omega) _) (by omega) _⟩
theorem askedG (w:World)(f:FuncId)(bt ba bn:Bool)(ok oa on:Int)(op ot od:ByteArray)(hk:10<ok):Calls prog 34 #[.agg #[.int .i64 ok,.string op,.string ot,.int .i64 oa,.int .i64 on,.string od]] w fun e w'=>AskP w w' e 127 f bt ba bn ok oa on op ot od:=by
 obtain ⟨W,hW,hb,kp,k1,k2⟩:=jC5 w #[.int .i64 ok,.string op,.string ot,.int .i64 oa,.int .i64 on,.string od] ZO ZR 72 99 101
 have HBW:Hid (Bs w W #[.int .i64 ok,.string op,.string ot,.int .i64 oa,.int .i64 on,.string od]):=⟨kp,k1,k2,hb⟩
 obtain ⟨p0,p1,p2,p3,p4,p5⟩:=jB4 kp
 obtain ⟨E,HEV⟩:∃E:Int,Hid (E=127):=⟨127,rfl⟩
 rw[<-HEV.out]
 have HEN:Hid ((127:Int)≠0):=by show (127:Int)≠0;omega
 have h1:¬ok<1:=by omega
 have h2:decide (ok<1)=false:=by simp[h1]
 have h3:ok > 10:=hk
 clear hb kp k1 k2
 unfold ZO ZR at hW
 go_enter func34,ntmps34
 go_upto_region 2 with fail
 go_wp2_with (first
  | (refine wpList_store_row rfl 99 (.tmp 2) (.tmp 16) rfl (w.heap.size+1) ZO rfl rfl 99 _ HBW.out.h1 jCy rfl (by simp[Value.oneCell']) ?_)
  | (refine wpList_store_row rfl 101 (.tmp 3) (.tmp 17) rfl (w.heap.size+1+1) ZR rfl rfl 101 _ ((Qz _ _ _ _ (by omega)).trans HBW.out.h2) jCz rfl (by simp[Value.oneCell']) ?_))
 refine Qw (jBz rfl _ _ (w.heap.size+1) 99 ZO (0,0) _ (w.heap.size+1+1) 101 ZR (0,0) _ rfl ((Qz _ _ _ _ (by omega)).trans (Qa _ _ _ _ _ _ HBW.out.h1)) underlying99 rfl jCy rfl (Qa _ _ _ _ _ _ ((Qz _ _ _ _ (by omega)).trans HBW.out.h2)) underlying101 rfl jCz) rfl ?_
 rw[HEV.out]
 exact .inr ⟨HEN.out,rfl,jAx (jAx HBW.out.hb (by omega) _) (by omega) _⟩
