import Derived.Test.YtfnklhajafmooaaGreatDoorG27
set_option maxHeartbeats 1000000
set_option maxRecDepth 20000
namespace Go.Proofs.YtfnklhajafmooaaGreatDoor.Po
open Go.RowKit Go.Lib Go.Deep Go.Proofs.Tryz
def jL7 (f s:Int):Bool:=decide (1<=f/\f<=65536/\1<=s/\s<=64)
theorem jG9 (f s:Int)(w:World):Calls prog 43 #[.int .i64 f,.int .i64 s] w fun e w'=>e=.returned (.bool (jL7 f s))/\w'=w:=by
 unfold jL7
 by_cases h1:1<=f <;> by_cases h2:f<=65536 <;> by_cases h3:1<=s <;> by_cases h4:s<=64
 all_goals
  simp only[h1,h2,h3,h4,and_self,and_true,and_false,decide_true,decide_false]
  go_enter func43,ntmps43
  go_wp2
  go_ret
  exact ⟨rfl,rfl⟩
theorem isText_any (s:ByteArray)(hs:s.size<=maxLen)(w:World):Calls prog 208 #[.string s] w fun e w'=>e=.returned (.bool (decide (jH2 s)))/\w'=w:=by
 unfold jH2
 unfold maxLen at hs
 by_cases h1:s.size=0
 ·obtain rfl:s={ data:=#[] }:=ba_ext (Qb h1)
  clear hs
  simp only[h1,true_or,decide_true]
  go_enter func208,ntmps208
  go_wp2
  go_ret
  exact ⟨rfl,rfl⟩
 ·have hE1:s.toList.isEmpty=false:=by
   rw[toList_data]
   cases hl:s.data.toList with
   | nil=>exact absurd (show s.data.toList.length=0 by rw[hl];rfl) h1
   | cons a l=>rfl
  by_cases h2:s.size=16
  ·have h2':(s.size:Int)=16:=by omega
   simp only[h2,or_true,decide_true]
   go_enter func208,ntmps208
   go_wp2
   go_ret
   exact ⟨rfl,rfl⟩
  ·have h2':((s.size:Int) == 16)=false:=beq_false_of_ne (by omega)
   simp only[h1,h2,or_self,decide_false]
   go_enter func208,ntmps208
   go_wp2
   go_ret
   exact ⟨rfl,rfl⟩
theorem isStored_any (o:Ob)(hn:o.nm.size<=maxLen)(ht:o.tg.size<=maxLen)(w:World):Calls prog 181 #[obV o] w fun e w'=>e=.returned (.bool (decide (stored o)))/\Below w.heap.size w w':=by
 obtain ⟨nm,tg,bk,ow⟩:=o
 obtain ⟨W,hW,hb,k0⟩:=jA4 w #[.string nm,.string tg,.int .i64 bk,.int .i64 ow] 60
 have i0:W.cell? ⟨w.heap.size,0,none⟩=some (.string nm):=(jAj k0).trans rfl
 have i1:W.cell? ⟨w.heap.size,1,none⟩=some (.string tg):=(jAj k0).trans rfl
 have i2:W.cell? ⟨w.heap.size,2,none⟩=some (.int .i64 bk):=(jAj k0).trans rfl
 have c1:=isText_any nm hn W
 have c2:=isText_any tg ht W
 have HB:Hid _:=hb
 clear hb k0 hn ht
 unfold obV
 dsimp only
 have N1:∀x:Bool,(decide (jH2 nm))=x->Hid (Calls prog 208 #[.string nm] W fun e w'=>e=.returned (.bool x)/\w'=W):=fun x hx=>by rw[<-hx];exact c1
 have N2:∀x:Bool,(decide (jH2 tg))=x->Hid (Calls prog 208 #[.string tg] W fun e w'=>e=.returned (.bool x)/\w'=W):=fun x hx=>by rw[<-hx];exact c2
 clear c1 c2
 by_cases h1:jH2 nm
 ·have C1:=N1 true (QQ h1)
  by_cases h2:jH2 tg
  ·have C2:=N2 true (QQ h2)
   by_cases h3:0<=bk
   ·by_cases h4:bk<=1048576
    ·rw[show decide (stored ⟨nm,tg,bk,ow⟩)=true from QQ ⟨h1,h2,h3,h4⟩]
     clear N1 N2 h1 h2
     go_enter func181,ntmps181
     go_wp2_with fail
     refine C1.out.mono ?_
     rintro e w2 ⟨rfl,rfl⟩
     go_wp2_with fail
     refine C2.out.mono ?_
     rintro e w2 ⟨rfl,rfl⟩
     go_wp2
     go_ret
     exact ⟨rfl,HB.out⟩
    ·have h4':decide (bk<=1048576)=false:=QY h4
     rw[show decide (stored ⟨nm,tg,bk,ow⟩)=false from QY (fun x=>h4 x.2.2.2)]
     clear N1 N2 h1 h2
     go_enter func181,ntmps181
     go_wp2_with fail
     refine C1.out.mono ?_
     rintro e w2 ⟨rfl,rfl⟩
     go_wp2_with fail
     refine C2.out.mono ?_
     rintro e w2 ⟨rfl,rfl⟩
     go_wp2
     go_ret
     exact ⟨rfl,HB.out⟩
   ·rw[show decide (stored ⟨nm,tg,bk,ow⟩)=false from QY (fun x=>h3 x.2.2.1)]
    clear N1 N2 h1 h2
    go_enter func181,ntmps181
    go_wp2_with fail
    refine C1.out.mono ?_
    rintro e w2 ⟨rfl,rfl⟩
    go_wp2_with fail
    refine C2.out.mono ?_
    rintro e w2 ⟨rfl,rfl⟩
    go_wp2
    go_ret
    exact ⟨rfl,HB.out⟩
  ·have C2:=N2 false (QY h2)
   rw[show decide (stored ⟨nm,tg,bk,ow⟩)=false from QY (fun x=>h2 x.2.1)]
   clear N1 N2 h1 h2
   go_enter func181,ntmps181
   go_wp2_with fail
   refine C1.out.mono ?_
   rintro e w2 ⟨rfl,rfl⟩
   go_wp2_with fail
   refine C2.out.mono ?_
   rintro e w2 ⟨rfl,rfl⟩
   go_wp2
   go_ret
   exact ⟨rfl,HB.out⟩
 ·have C1:=N1 false (QY h1)
  rw[show decide (stored ⟨nm,tg,bk,ow⟩)=false from QY (fun x=>h1 x.1)]
  clear N1 N2 h1
  go_enter func181,ntmps181
  go_wp2_with fail
  refine C1.out.mono ?_
  rintro e w2 ⟨rfl,rfl⟩
  go_wp2
  go_ret
  exact ⟨rfl,HB.out⟩
theorem jHz (w:World)(pb q:Nat)(h:w.cell? ⟨pb,0,none⟩=some (.pointer (some ⟨q,0,none⟩))):Calls prog 52 #[.pointer (some ⟨pb,0,none⟩)] w fun e w'=>e=.returned (.bool true)/\w'=w:=by
 go_enter func52,ntmps52
 go_wp2
 go_ret
 exact ⟨rfl,rfl⟩
theorem jNy (o:Ob)(b:Bool)(w:World):Calls prog 185 #[.agg #[.string o.nm,.string o.tg,.int .i64 o.bk,.int .i64 o.ow,.bool b]] w fun e w'=>e=.returned (.bool (decide (o.ow=-1)))/\Below w.heap.size w w':=by
 obtain ⟨nm,tg,bk,ow⟩:=o
 dsimp only
 obtain ⟨W,hW,hb,k0⟩:=jA4 w #[.string nm,.string tg,.int .i64 bk,.int .i64 ow,.bool b] 166
 have i0:W.cell? ⟨w.heap.size,3,none⟩=some (.int .i64 ow):=(jAj k0).trans rfl
 have HB:Hid _:=hb
 clear hb k0
 by_cases h1:ow=-1
 ·simp only[h1,decide_true] at *
  go_enter func185,ntmps185
  go_wp2
  go_ret
  exact ⟨rfl,HB.out⟩
 ·have h1':(ow == -1)=false:=beq_false_of_ne h1
  simp only[h1,decide_false] at *
  go_enter func185,ntmps185
  go_wp2
  go_ret
  exact ⟨rfl,HB.out⟩
theorem jNz (o:Ob)(b:Bool)(w:World):Calls prog 150 #[.agg #[.string o.nm,.string o.tg,.int .i64 o.bk,.int .i64 o.ow,.bool b]] w fun e w'=>e=.returned (.bool (decide (o.ow=-1) && !b))/\Below w.heap.size w w':=by
 obtain ⟨W,hW,hb,k0⟩:=jA4 w #[.string o.nm,.string o.tg,.int .i64 o.bk,.int .i64 o.ow,.bool b] 166
 have c1:=jNy o b W
 obtain ⟨nm,tg,bk,ow⟩:=o
 dsimp only at *
 have i0:W.cell? ⟨w.heap.size,0,none⟩=some (.string nm):=(jAj k0).trans rfl
 have i1:W.cell? ⟨w.heap.size,1,none⟩=some (.string tg):=(jAj k0).trans rfl
 have i2:W.cell? ⟨w.heap.size,2,none⟩=some (.int .i64 bk):=(jAj k0).trans rfl
 have i3:W.cell? ⟨w.heap.size,3,none⟩=some (.int .i64 ow):=(jAj k0).trans rfl
 have i4:W.cell? ⟨w.heap.size,4,none⟩=some (.bool b):=(jAj k0).trans rfl
 have HB:Hid (∀w2,Below W.heap.size W w2->Below w.heap.size w w2/\w2.cell? ⟨w.heap.size,4,none⟩=some (.bool b)):=fun w2 h2=>⟨hb.trans (h2.mono hb.size),(jAj ((h2.block _ (jAv k0)).trans k0)).trans rfl⟩
 clear hb k0
 by_cases h1:ow=-1
 ·cases b
  ·simp only[h1,decide_true,Bool.not_false,Bool.and_true] at *
   go_enter func150,ntmps150
   go_wp2_with (go_at_call 185;refine c1.mono ?_;rintro e w2 ⟨rfl,h2⟩;obtain ⟨HB2,j4⟩:=HB.out w2 h2;have HB3:Hid _:=HB2;clear HB2 h2)
   go_ret
   exact ⟨rfl,HB3.out⟩
  ·simp only[h1,decide_true,Bool.not_true,Bool.and_false] at *
   go_enter func150,ntmps150
   go_wp2_with (go_at_call 185;refine c1.mono ?_;rintro e w2 ⟨rfl,h2⟩;obtain ⟨HB2,j4⟩:=HB.out w2 h2;have HB3:Hid _:=HB2;clear HB2 h2)
   go_ret
   exact ⟨rfl,HB3.out⟩
 ·simp only[h1,decide_false,Bool.false_and] at *
  go_enter func150,ntmps150
  go_wp2_with (go_at_call 185;refine c1.mono ?_;rintro e w2 ⟨rfl,h2⟩;obtain ⟨HB2,j4⟩:=HB.out w2 h2;have HB3:Hid _:=HB2;clear HB2 h2)
  go_ret
  exact ⟨rfl,HB3.out⟩
end Go.Proofs.YtfnklhajafmooaaGreatDoor.Po
namespace Go.Proofs.YtfnklhajafmooaaGreatDoor.Po
open Go.RowKit Go.Lib Go.Deep Go.Shelf Go.Proofs.Tryz
theorem jG7 (s:ByteArray)(hs:s.size<=281474976710656)(w:World):Calls prog 99 #[.string s] w fun e w'=>e=.returned (.string s)/\Below w.heap.size w w':=by
 have h:=Any.stringslite_Clone jN2 s w hs
 have h':Calls prog 140 #[.string s] w fun e w'=>e=.returned (.string s)/\Below w.heap.size w w':=h
 clear h
 go_enter func99,ntmps99
 go_wp2_with (go_at_call 140;refine h'.mono ?_;rintro e w1 ⟨rfl,hb1⟩)
 go_ret
 exact ⟨rfl,hb1⟩
theorem jEx {w:World}{g:Nat}{a b c d:Value}{ty:TypeId}(h:w.heap[g]?=some (.cells #[a,b,c,d] ty (0,0))){x y z u:Value}:((((w.setCell ⟨g,0,none⟩ x).setCell ⟨g,1,none⟩ y).setCell ⟨g,2,none⟩ z).setCell ⟨g,3,none⟩ u).heap[g]?=some (.cells #[x,y,z,u] ty (0,0)) :=
 (jB6 _ _ _ _ _ _ _ ((jB6 _ _ _ _ _ _ _ ((jB6 _ _ _ _ _ _ _ ((jB6 _ _ _ _ _ _ _ h).trans rfl)).trans rfl)).trans rfl)).trans rfl
theorem sizeOb:(prog.info? 60).map (·.size)=some 4:=by kernel_rfl
structure OwX (w:World)(o:Ob)(V:World):Prop where
 bl:Below w.heap.size w V
 a:V.heap[w.heap.size]?=some (.cells #[.string o.nm,.string o.tg,.int .i64 o.bk,.int .i64 o.ow] 60 (0,0))
 b:V.heap[w.heap.size+1]?=some (.cells #[.string { data:=#[] },.string { data:=#[] },.int .i64 0,.int .i64 0] 60 (0,0))
theorem OwX.below {w V V':World}{o:Ob}(h:OwX w o V)(hb:Below V.heap.size V V'):OwX w o V':=⟨h.bl.trans (hb.mono h.bl.size),(hb.block _ (jAv h.a)).trans h.a,(hb.block _ (jAv h.b)).trans h.b⟩
theorem OwX.s0 {w V:World}{o:Ob}(h:OwX w o V):OwX w o (V.setCell ⟨w.heap.size,0,none⟩ (.string o.nm)):=⟨h.bl.setCell (Qj _) _,(jB6 _ _ _ _ _ _ _ h.a).trans rfl,(Qy _ _ _ _ (by show w.heap.size+1≠w.heap.size;omega)).trans h.b⟩
theorem OwX.s1 {w V:World}{o:Ob}(h:OwX w o V):OwX w o (V.setCell ⟨w.heap.size,1,none⟩ (.string o.tg)):=⟨h.bl.setCell (Qj _) _,(jB6 _ _ _ _ _ _ _ h.a).trans rfl,(Qy _ _ _ _ (by show w.heap.size+1≠w.heap.size;omega)).trans h.b⟩
theorem OwX.cells {w V:World}{o:Ob}(h:OwX w o V):V.cell? ⟨w.heap.size,0,none⟩=some (.string o.nm)/\V.cell? ⟨w.heap.size,1,none⟩=some (.string o.tg)/\V.frozen? ⟨w.heap.size,0,none⟩=false/\V.frozen? ⟨w.heap.size,1,none⟩=false:=⟨(jAj h.a).trans rfl,(jAj h.a).trans rfl,jAq h.a,jAq h.a⟩
theorem OwX.more {w V:World}{o:Ob}(h:OwX w o V):V.cell? ⟨w.heap.size,2,none⟩=some (.int .i64 o.bk)/\V.cell? ⟨w.heap.size,3,none⟩=some (.int .i64 o.ow):=⟨(jAj h.a).trans rfl,(jAj h.a).trans rfl⟩
theorem OwX.res {w V:World}{o:Ob}(h:OwX w o V):V.cell? ⟨w.heap.size+1,0,none⟩=some (.string { data:=#[] })/\V.cell? ⟨w.heap.size+1,1,none⟩=some (.string { data:=#[] })/\V.cell? ⟨w.heap.size+1,2,none⟩=some (.int .i64 0)/\V.cell? ⟨w.heap.size+1,3,none⟩=some (.int .i64 0)/\V.frozen? ⟨w.heap.size+1,0,none⟩=false/\V.frozen? ⟨w.heap.size+1,1,none⟩=false/\V.frozen? ⟨w.heap.size+1,2,none⟩=false/\V.frozen? ⟨w.heap.size+1,3,none⟩=false:=⟨(jAj h.b).trans rfl,(jAj h.b).trans rfl,(jAj h.b).trans rfl,(jAj h.b).trans rfl,jAq h.b,jAq h.b,jAq h.b,jAq h.b⟩
theorem owned_any (o:Ob)(hn:o.nm.size<=16)(ht:o.tg.size<=16)(w:World):Calls prog 149 #[obV o] w fun e w'=>e=.returned (obV o)/\Below w.heap.size w w':=by
 obtain ⟨W,hW,hb,k0,k1⟩:=jDy w #[.string o.nm,.string o.tg,.int .i64 o.bk,.int .i64 o.ow] #[.string { data:=#[] },.string { data:=#[] },.int .i64 0,.int .i64 0] 60 60
 have X0:OwX w o W:=⟨hb,k0,k1⟩
 have XD:OwX w o W.drew:=⟨hb.drew,k0,k1⟩
 have CN:Hid (∀V,OwX w o V->Calls prog 99 #[.string o.nm] V fun e w'=>e=.returned (.string o.nm)/\OwX w o w'):=fun V hV=>(jG7 o.nm (by omega) V).mono (by rintro e w' ⟨rfl,h⟩;exact ⟨rfl,hV.below h⟩)
 have CT:Hid (∀V,OwX w o V->Calls prog 99 #[.string o.tg] V fun e w'=>e=.returned (.string o.tg)/\OwX w o w'):=fun V hV=>(jG7 o.tg (by omega) V).mono (by rintro e w' ⟨rfl,h⟩;exact ⟨rfl,hV.below h⟩)
 obtain ⟨x0,x1,f0,f1⟩:=X0.cells
 clear hb k0 k1 hn ht
 unfold obV
 go_enter func149,ntmps149
 go_wp2_with fail
 go_region_held_law (fun V=>OwX w o V/\V.cell? ⟨w.heap.size,0,none⟩=some (.string o.nm)/\V.cell? ⟨w.heap.size,1,none⟩=some (.string o.tg)/\V.frozen? ⟨w.heap.size,0,none⟩=false/\V.frozen? ⟨w.heap.size,1,none⟩=false) (first | exact ⟨by assumption,OwX.cells (by assumption)⟩ | exact ⟨OwX.s0 (by assumption),OwX.cells (OwX.s0 (by assumption))⟩ | exact ⟨OwX.s1 (by assumption),OwX.cells (OwX.s1 (by assumption))⟩ | exact ⟨OwX.s1 (OwX.s0 (by assumption)),OwX.cells (OwX.s1 (OwX.s0 (by assumption)))⟩ | exact ⟨OwX.s0 (OwX.s1 (by assumption)),OwX.cells (OwX.s0 (OwX.s1 (by assumption)))⟩ | go_keep) (first | (go_at_call 99;refine (CT.out _ (by assumption)).mono ?_;rintro e w6 ⟨rfl,hb6⟩) | (go_at_call 99;refine (CN.out _ (by assumption)).mono ?_;rintro e w5 ⟨rfl,hb5⟩))
 all_goals
  refine jBj (Q:=fun V=>OwX w o V) _ (by first | exact OwX.s1 (OwX.s0 (by assumption)) | exact OwX.s0 (OwX.s1 (by assumption))) ?_
  intro V hV
  obtain ⟨y0,y1,-,-⟩:=hV.cells
  obtain ⟨y2,y3⟩:=hV.more
  obtain ⟨z0,z1,z2,z3,z4,z5,z6,z7⟩:=hV.res
  have HV:Hid _:=hV
  clear hV
  go_wp2
  refine Qw (Tr.jB9 rfl _ _ (w.heap.size+1) 60 _ (0,0) _ rfl (jEx HV.out.b) underlying60 rfl sizeOb) rfl ?_
  exact ⟨rfl,(((HV.out.bl.setCell (by simp) _).setCell (by simp) _).setCell (by simp) _).setCell (by simp) _⟩
end Go.Proofs.YtfnklhajafmooaaGreatDoor.Po
namespace Go.Proofs.YtfnklhajafmooaaGreatDoor.Po
open Go.RowKit Go.Lib Go.Deep Go.Proofs.Tryz
def Top (w:World)(pb q:Nat):Prop:=w.heap[pb]?=some (.cells #[.pointer (some ⟨q,0,none⟩)] 121 (0,0))
theorem Top.cell {w:World}{pb q:Nat}(h:Top w pb q):w.cell? ⟨pb,0,none⟩=some (.pointer (some ⟨q,0,none⟩)):=(jAj h).trans rfl
theorem Top.below {w W:World}{pb q:Nat}(h:Top w pb q)(hb:Below w.heap.size w W):Top W pb q:=(hb.block _ (jAv h)).trans h
theorem Top.keep {w W:World}{pb q nn N:Nat}{F:List Nat}{S S':Ps}(h:Top w pb q)(hL:Lay w q F nn S)(hT:Turn F w W q N S'):Top W pb q:=(hT.1.block _ (jAv h) (hL.notin h (by decide))).trans h
def jHj (S:Ps)(i:Int):Int:=if rowN S i then 0 else 131
theorem jM9 (w:World)(pb q:Nat)(F:List Nat)(nn:Nat)(S:Ps)(i:Int)(ht:Top w pb q)(hL:Lay w q F nn S):Calls prog 158 #[.pointer (some ⟨pb,0,none⟩),.int .i64 i] w fun e w'=>e=.returned (.int .i64 (jHj S i))/\w'=w:=by
 obtain ⟨rv,mv,oa,na,room,h,rfl,hI⟩:=hL
 have c0:=ht.cell
 have hm:=jHz w pb q c0
 obtain ⟨-,c1,-⟩:=hI.cells
 obtain ⟨a,cap,rfl⟩:=jBy hI.hr
 clear hI ht
 by_cases h0:0<=i
 ·by_cases h1:i<(S.R.length:Int)
  ·rw[show jHj S i=0 from if_pos ⟨h0,h1⟩]
   generalize S.R.length=N at *
   go_enter func158,ntmps158
   go_wp2_with (go_at_call 52;refine hm.mono ?_;rintro e w2 ⟨rfl,rfl⟩)
   go_ret
   exact ⟨rfl,rfl⟩
  ·rw[show jHj S i=131 from if_neg (fun x=>h1 x.2)]
   generalize S.R.length=N at *
   go_enter func158,ntmps158
   go_wp2_with (go_at_call 52;refine hm.mono ?_;rintro e w2 ⟨rfl,rfl⟩)
   go_ret
   exact ⟨rfl,rfl⟩
 ·rw[show jHj S i=131 from if_neg (fun x=>h0 x.1)]
  generalize S.R.length=N at *
  go_enter func158,ntmps158
  go_wp2_with (go_at_call 52;refine hm.mono ?_;rintro e w2 ⟨rfl,rfl⟩)
  go_ret
  exact ⟨rfl,rfl⟩
theorem jK9 (w:World)(q:Nat)(F:List Nat)(nn:Nat)(S:Ps)(f:Int)(hL:Lay w q F nn S):Calls prog 179 #[.pointer (some ⟨q,0,none⟩),.int .i64 f] w fun e w'=>e=.returned (.bool (decide (jF7 S f)))/\w'=w:=by
 obtain ⟨rv,mv,oa,na,room,h,rfl,hI⟩:=hL
 obtain ⟨c0,-⟩:=hI.cells
 by_cases h0:0<=f
 ·by_cases h1:f<(S.fl:Int)
  ·rw[show decide (jF7 S f)=true from QQ ⟨h0,h1⟩]
   generalize S.fl=N at *
   clear hI
   go_enter func179,ntmps179
   go_wp2
   go_ret
   exact ⟨rfl,rfl⟩
  ·rw[show decide (jF7 S f)=false from QY (fun x=>h1 x.2)]
   have h1':decide (f<(S.fl:Int))=false:=QY h1
   generalize S.fl=N at *
   clear hI
   go_enter func179,ntmps179
   go_wp2
   go_ret
   exact ⟨rfl,rfl⟩
 ·rw[show decide (jF7 S f)=false from QY (fun x=>h0 x.1)]
  have h0':decide (0<=f)=false:=QY h0
  clear hI
  go_enter func179,ntmps179
  go_wp2
  go_ret
  exact ⟨rfl,rfl⟩
theorem natD_inj {a:Int}{b:Nat}(h:(DataW.lit (.int .i64 a):DataW Unit)=natD b):a=b:=by
 unfold natD at h
 injection h with h
 injection h
theorem look_ok {K:Type}{lit:K->Lit}{w:World}{m n t kt:Nat}{D:DataW Unit}{f:K->Option Nat}(h:w.ownsMap prog kt intR m n D)(hD:Tab lit D f)(hK:Maps.Keyed prog kt)(hu:prog.underlying t=some (.map kt 3)){key:Value}{k:K}(hk:keyOf prog kt key=some (lit k)) :
 (Instr.lookup t (.map (some m)) key true).run prog w=.ok (.tuple #[.int .i64 (((f k).getD 0:Nat):Int),.bool (f k).isSome]) w:=by
 obtain ⟨v,ps,h1,h2⟩:=h.look_ok hK hu (zeroInt w) (plainElem_int underlying3 (by decide):intR (.int .i64 0)=_) hk
 obtain ⟨a,rfl,h3,_⟩:=plainElem_int_inv underlying3 h2
 rw[h1,hD.has k]
 simp only[Prod.mk.injEq] at h3
 have h3:=h3.1
 have hh:=hD.has k
 cases hf:f k with
 | none =>
   rw[hf] at hh
   rw[Maps.atKey_of_not_has hh] at h3
   injection h3 with h3
   injection h3 with _ h3
   rw[<-h3]
   rfl
 | some x =>
   rw[hD.at_ _ x hf] at h3
   have e:=natD_inj h3.symm
   subst e
   rfl
theorem keyI_mk {k:Int}(h:(Lit.int .i64 k).wf=true):keyOf prog 3 (.int .i64 k)=some (litI k):=Maps.keyOf_int_mk underlying3 h
theorem keyS_mk {s:ByteArray}(h:s.size<=maxLen):keyOf prog 9 (.string s)=some (litS (kyB s)):=WideMaps.keyOf_string_mk underlying9 h
theorem isHeld_any (w:World)(q:Nat)(F:List Nat)(nn:Nat)(S:Ps)(f:Int)(hL:Lay w q F nn S)(hf:jF7 S f):Calls prog 180 #[.pointer (some ⟨q,0,none⟩),.int .i64 f] w fun e w'=>e=.returned (.bool (jD7 S.R f))/\w'=w:=by
 obtain ⟨rv,mv,oa,na,room,h,rfl,hI⟩:=hL
 obtain ⟨-,-,c2,-⟩:=hI.cells
 obtain ⟨D,g,hm,hT,hIs⟩:=hI.ho
 have hw:(Lit.int .i64 f).wf=true:=by
  have:=hI.lim
  obtain ⟨i,rfl⟩:∃i:Nat,f=i:=⟨f.toNat,by unfold jF7 at hf;omega⟩
  exact wf_nat (by unfold jF7 at hf;omega)
 have hl:=look_ok (t:=113) hm hT keyI underlying113 (keyI_mk hw)
 rw[held_iff hIs f (by unfold jF7 at hf;omega)] at hl
 generalize jD7 S.R f=x at *
 clear hI hm hT hIs hw
 go_enter func180,ntmps180
 go_wp2
 go_ret
 exact ⟨rfl,rfl⟩
theorem isOther_any (w:World)(q:Nat)(F:List Nat)(nn:Nat)(S:Ps)(n:ByteArray)(i:Nat)(hL:Lay w q F nn S)(hn:n.size<=maxLen):Calls prog 182 #[.pointer (some ⟨q,0,none⟩),.string n,.int .i64 (i:Int)] w fun e w'=>e=.returned (.bool (jJj S.R n i))/\w'=w:=by
 obtain ⟨rv,mv,oa,na,room,h,rfl,hI⟩:=hL
 obtain ⟨-,-,-,c3,-⟩:=hI.cells
 obtain ⟨D,g,hm,hT,hIs⟩:=hI.hn
 have hl:=look_ok (t:=114) hm hT keyS underlying114 (keyS_mk hn)
 have ho:=other_iff hIs n i
 rw[<-ho]
 generalize g (kyB n)=x at *
 clear hI hm hT hIs ho hn
 cases x with
 | none =>
   simp only[Option.isSome_none,Option.getD_none] at *
   go_enter func182,ntmps182
   go_wp2
   go_ret
   exact ⟨rfl,rfl⟩
 | some j =>
   simp only[Option.isSome_some,Option.getD_some] at *
   by_cases e:j=i
   ·subst e
    simp only[ne_eq,not_true_eq_false,decide_false]
    go_enter func182,ntmps182
    go_wp2
    go_ret
    exact ⟨rfl,rfl⟩
   ·have e1:((j:Int) != (i:Int))=true:=bne_iff_ne.2 (by omega)
    simp only[ne_eq,e,not_false_eq_true,decide_true]
    go_enter func182,ntmps182
    go_wp2
    go_ret
    exact ⟨rfl,rfl⟩
theorem info_parts {P:Program}{e:TypeId}{z:Value}{s b:Nat}(h:(P.info? e).map (fun i=>(i.zero,i.size,i.bytes))=some (some z,s,b)):∃i0,P.info? e=some i0/\i0.zero=some z/\i0.size=s/\i0.bytes=b:=by
 cases hq:P.info? e with
 | none=>rw[hq] at h;cases h
 | some i =>
   rw[hq] at h
   simp at h
   exact ⟨i,rfl,h.1,h.2.1,h.2.2⟩
theorem info3:(prog.info? 3).map (fun i=>(i.zero,i.size,i.bytes))=some (some (.int .i64 0),1,8):=by kernel_rfl
theorem jLj {P:Program}{ops:Array Oper}{rest:List Oper}{o:Oper}{a:Act}{w:World}{Q:Exit->Act->World->Prop}(hgd:o.guard=none)(s x:Operand)(t u:TypeId)
 (ho:o.op=.call { callee:=.builtin .append,args:=#[s,x],argTypes:=#[t,u] }) (v x' v':Value) (w':World) (hs:a.eval s=v) (hx:a.eval x=x')
 (hr:∀ty,(Builtin.append_ #[t,u] ty #[v,x']).run P w=.ok v' w') (h:wpList P ops Q rest (a.put o.dst v') w'):wpList P ops Q (o :: rest) a w:=by
 refine wpList_plain hgd fun K hK=>?_
 unfold Oper.wp execOp
 simp only[ho,resolve,invoke,builtin,Sem.run_bind,Sem.run_pure,Result.andThen_ok,List.map_toArray,List.map_cons,List.map_nil,hs,hx,hr]
 exact hK _ _ h
def See (w:World)(sz:Nat)(v:Value)(n:Nat)(xs:List Value):Prop :=
 xs.length=n*sz/\(∀u∈xs,u.oneCell'=true)/\∃a c,v=.slice a n c/\n<=c/\(a=none->c=0)/\(0<n->∃b off,a=some ⟨b,off,none⟩/\b<w.heap.size/\∀(j:Nat) u,xs[j]?=some u->w.cell? ⟨b,off+j,none⟩=some u)
theorem See.below {w w':World}{sz n:Nat}{v:Value}{xs:List Value}(h:See w sz v n xs)(hb:Below w.heap.size w w'):See w' sz v n xs:=by
 obtain ⟨h0,h5,a,c,h1,h2,h3,h4⟩:=h
 refine ⟨h0,h5,a,c,h1,h2,h3,fun hn=>?_⟩
 obtain ⟨b,off,e,hlt,hc⟩:=h4 hn
 exact ⟨b,off,e,Qx hlt hb.size,fun j u hu=>(hb.cell (p:=⟨b,off+j,none⟩) hlt).trans (hc j u hu)⟩
theorem See.form {w:World}{sz n:Nat}{v:Value}{xs:List Value}(h:See w sz v n xs):∃a c,v=.slice a n c:=by
 obtain ⟨h0,h5,a,c,h1,_⟩:=h
 exact ⟨a,c,h1⟩
theorem jIy {w:World}{ops:Array Oper}{rest:List Oper}{o:Oper}{a:Act}{Q:Exit->Act->World->Prop}(hgd:o.guard=none)(s x:Operand)(t e:TypeId)
 (ho:o.op=.call { callee:=.builtin .append,args:=#[s,x],argTypes:=#[t,t] }) (z:Value) (sz by_:Nat) (ht:prog.underlying t=some (.slice e)) (hinf:(prog.info? e).map (fun i=>(i.zero,i.size,i.bytes))=some (some z,sz,by_)) (hzs:z.cells.size=sz) (hsz:0<sz)
 (B:Nat) (v xv:Value) (nA nL:Nat) (A L:List Value) (hs:a.eval s=v) (hown:w.ownsRow B e sz v nA A) (hx:a.eval x=xv) (hL:See w sz xv nL L) (h63:nA+nL<=maxLen) (hb:(nA+nL)*by_<=140737488355328) (hB:B<=w.heap.size)
 (h:∀v' w',w'.ownsRow B e sz v' (nA+nL) (A++L)->w.grownBy w' v.ownBlock->wpList prog ops Q rest (a.put o.dst v') w'):wpList prog ops Q (o :: rest) a w:=by
 obtain ⟨i0,hi,hz0,hz1,hz2⟩:=info_parts hinf
 obtain ⟨hlen,hone,ad,c,rfl,hc,hnil,hcell⟩:=hL
 cases ad with
 | none =>
   obtain rfl:=hnil rfl
   obtain rfl:nL=0:=by omega
   obtain rfl:L=[]:=Qb (by rw[hlen];omega)
   refine wpList_append_own_none hgd s x t ho B e i0 sz ht hi v nA A hs hown hx ?_
   exact h v w (by rw[List.append_nil];exact hown) ⟨rfl,rfl,rfl,Qj _,fun _ _ _=>rfl⟩
 | some ad =>
   refine wpList_append_own w hgd s x t ho B e i0 z sz by_ ht hi hz0 hz1 hz2 hzs hsz v nA A hs hown ad nL c L hx hlen
    (fun j u hu=>?_) hone h63 hb hB (fun v' w' ho' hg _=>h v' w' ho' hg)
   have hn:0<nL:=by
    have:=(QV.1 hu).1
    rw[hlen] at this
    rcases Nat.eq_zero_or_pos nL with h0 | h0
    ·rw[h0] at this;omega
    ·exact h0
   obtain ⟨b,off,e,_,hcc⟩:=hcell hn
   injection e with e
   subst e
   rw[Addr.add_lit]
   exact hcc j u hu
theorem jI1 {w w':World}{B:Nat}{v:Value}{e:TypeId}{size n:Nat}{xs:List Value}(h:w.grownBy w' v.ownBlock)(hB:B<=w.heap.size)(ho:w.ownsRow B e size v n xs):Below B w w':=jM8 h hB ho
theorem grow_any (n:Nat)(h0:0<n)(hn:n<=4294967296)(w:World) :
 Calls prog 159 #[.slice none 0 0,.int .i64 (n:Int)] w fun e w'=>∃v,e=.returned v/\w'.ownsRow w.heap.size 3 1 v 0 []/\Below w.heap.size w w':=by
 obtain ⟨i0,hi,hz0,hz1,hz2⟩:=info_parts info3
 have hge:=grownCap_ge w n 0 3
 have hcm:=grownCap_le_maxLen w n 0 3 (by unfold maxLen;omega)
 have hrun:=fun ty=>run_append_grow_zeros (P:=prog) w 44 3 ty 3 i0 (.int .i64 0) .i64 .i64 underlying44 underlying3 hi hz0 none 0 0 [] (run_firstCells_none w.drew _ 0 0 0) n h0 (by rw[hz1];omega) (by omega) (by omega) (by rw[hz2];omega) (by rw[hz2];exact growslice_fits (by omega) (by omega))
 simp only[Nat.zero_add] at hrun
 obtain ⟨C,hC⟩:∃C,grownCap w n 0 3=C:=⟨_,rfl⟩
 rw[hC] at hge hcm hrun
 obtain ⟨cur,hcur⟩:∃cur:Array Value,([]:List Value).toArray++Builtin.zeroCells (Value.int .i64 0).cells n++Builtin.zeroCells (Value.int .i64 0).cells (C-n)=cur:=⟨_,rfl⟩
 rw[hcur] at hrun
 have hsz:cur.size=C*1:=by
  rw[<-hcur]
  have hz1:(Value.int .i64 0).cells.size=1:=rfl
  simp only[Array.size_append,List.size_toArray,List.length_nil,size_zeroCells,hz1]
  omega
 have hown:(w.drew.alloc (.cells cur 3)).ownsRow w.heap.size 3 1 (.slice (some ⟨w.heap.size,0,none⟩) 0 C) 0 []:=World.ownsRow_made w.drew cur C (Qj _) hcm hsz
 have hbel:Below w.heap.size w (w.drew.alloc (.cells cur 3)):=((Qq w.heap.size w).drew).alloc (Qj _) _
 have hn1:(0:Int)<(n:Int):=by omega
 have hn2:¬(n:Int)<0:=by omega
 clear hC hcur hsz
 go_enter func159,ntmps159
 go_wp2_with (at_builtin;refine jLj rfl _ _ 44 3 rfl (.slice none 0 0) (.int .i64 (n:Int)) _ _ rfl rfl hrun ?_)
 go_ret
 exact ⟨_,rfl,hown,hbel⟩
theorem grow0_any (w:World):Calls prog 159 #[.slice none 0 0,.int .i64 0] w fun e w'=>∃v,e=.returned v/\w'.ownsRow w.heap.size 3 1 v 0 []/\Below w.heap.size w w':=by
 go_enter func159,ntmps159
 go_wp2
 go_ret
 exact ⟨_,rfl,World.ownsRow_nil _ _ _ _,Qq _ _⟩
theorem growE_any (n:Nat)(hn:n<=4294967296)(w:World):Calls prog 159 #[.slice none 0 0,.int .i64 (n:Int)] w fun e w'=>∃v,e=.returned v/\w'.ownsRow w.heap.size 3 1 v 0 []/\Below w.heap.size w w':=by
 rcases Nat.eq_zero_or_pos n with rfl | h
 ·exact grow0_any w
 ·exact grow_any n h hn w
theorem concat_any (w:World)(b:Nat)(v1 v2:Value)(n1 n2:Nat)(A L:List Value)(hb0:w.cell? ⟨b,0,none⟩=some v1)(hb1:w.cell? ⟨b,1,none⟩=some v2)(h1:See w 1 v1 n1 A)(h2:See w 1 v2 n2 L)(hsm:n1+n2<=4294967296) :
 Calls prog 115 #[.slice (some ⟨b,0,none⟩) 2 2] w fun e w'=>∃v,e=.returned v/\w'.ownsRow w.heap.size 3 1 v (n1+n2) (A++L)/\Below w.heap.size w w':=by
 have hblt:b<w.heap.size:=block_lt_of_cell hb0
 have HL1:Hid (See w 1 v1 n1 A):=h1
 have HL2:Hid (See w 1 v2 n2 L):=h2
 have HB:Hid (∀W,Below w.heap.size w W->W.cell? ⟨b,0,none⟩=some v1/\W.cell? ⟨b,1,none⟩=some v2):=fun W hb=>⟨(hb.cell (p:=⟨b,0,none⟩) hblt).trans hb0,(hb.cell (p:=⟨b,1,none⟩) hblt).trans hb1⟩
 have HM:Hid (n1+n2<=maxLen/\n1<=maxLen):=⟨by unfold maxLen;omega,by unfold maxLen;omega⟩
 obtain ⟨a1,k1,rfl⟩:=h1.form
 obtain ⟨a2,k2,rfl⟩:=h2.form
 have w1:IntKind.i64.wrap ((n1:Int)+(n2:Int))=(n1:Int)+(n2:Int):=by rw[QX];omega
 have w0:¬((n1:Int)<0):=by omega
 have w2:¬((n1:Int)+(n2:Int)<0):=by omega
 have hgr:=growE_any (n1+n2) hsm w
 rw[show ((n1+n2:Nat):Int)=(n1:Int)+(n2:Int) by omega] at hgr
 clear h1 h2 hblt
 go_enter func115,ntmps115
 go_wp2
 go_loopg [3,11] 2 (fun gk v i wr=>(gk=2/\i=.int .i64 0/\v=.int .i64 0/\w=wr)\/(gk=1/\i=.int .i64 1/\v=.int .i64 (n1:Int)/\w=wr)\/(gk=0/\i=.int .i64 2/\v=.int .i64 ((n1:Int)+(n2:Int))/\w=wr))
 case atStart=>exact Or.inl ⟨rfl,rfl,rfl,rfl⟩
 case round =>
  rcases hrel with ⟨rfl,rfl,rfl,rfl⟩ | ⟨rfl,rfl,rfl,rfl⟩ | ⟨rfl,rfl,rfl,rfl⟩
  ·go_wp2
   go_roundg 1
   case measure=>omega
   case rel=>exact Or.inr (Or.inl ⟨rfl,rfl,rfl,rfl⟩)
  ·go_wp2
   go_roundg 0
   case measure=>omega
   case rel=>exact Or.inr (Or.inr ⟨rfl,rfl,rfl,rfl⟩)
  ·go_wp2_with fail
   refine hgr.mono ?_
   rintro e w2 ⟨v0,rfl,hown,hb2⟩
   clear hgr hb0 hb1
   go_wp2
   go_loopg [6,27] 2 (fun gk v i wr=>Below w.heap.size w wr/\((gk=2/\i=.int .i64 0/\wr.ownsRow w.heap.size 3 1 v 0 [])\/(gk=1/\i=.int .i64 1/\wr.ownsRow w.heap.size 3 1 v n1 A)\/(gk=0/\i=.int .i64 2/\wr.ownsRow w.heap.size 3 1 v (n1+n2) (A++L))))
   case atStart=>exact ⟨hb2,Or.inl ⟨rfl,rfl,hown⟩⟩
   case round =>
    clear hown hb2
    obtain ⟨hbel,⟨rfl,rfl,hown⟩ | ⟨rfl,rfl,hown⟩ | ⟨rfl,rfl,hown⟩⟩:=hrel
    ·obtain ⟨hb0,hb1⟩:=HB.out wr hbel
     have hs1:=HL1.out.below hbel
     obtain ⟨aa,cc,rfl⟩:=jBy hown
     go_wp2_with (at_builtin;refine jIy rfl _ _ 44 3 rfl (.int .i64 0) 1 8 underlying44 info3 rfl (by decide) w.heap.size _ _ 0 n1 [] A rfl hown rfl hs1 (by have:=HM.out;omega) (by omega) hbel.size ?_;intro v' w' hown' hg')
     have R:w'.ownsRow w.heap.size 3 1 v' n1 A:=by rw[Nat.zero_add] at hown';exact hown'
     have hb2:=hbel.trans (jI1 hg' hbel.size hown)
     clear hown hown' hb0 hb1 hbel hg' hs1
     go_wp2
     go_roundg 1
     case measure=>omega
     case rel=>exact ⟨hb2,Or.inr (Or.inl ⟨rfl,rfl,R⟩)⟩
    ·obtain ⟨hb0,hb1⟩:=HB.out wr hbel
     have hs2:=HL2.out.below hbel
     obtain ⟨aa,cc,rfl⟩:=jBy hown
     go_wp2_with (at_builtin;refine jIy rfl _ _ 44 3 rfl (.int .i64 0) 1 8 underlying44 info3 rfl (by decide) w.heap.size _ _ n1 n2 A L rfl hown rfl hs2 (by have:=HM.out;omega) (by omega) hbel.size ?_;intro v' w' hown' hg')
     have hb2:=hbel.trans (jI1 hg' hbel.size hown)
     have R:Hid (w'.ownsRow w.heap.size 3 1 v' (n1+n2) (A++L)):=hown'
     clear hown hown' hb0 hb1 hbel hg' hs2
     go_wp2
     go_roundg 0
     case measure=>omega
     case rel=>exact ⟨hb2,Or.inr (Or.inr ⟨rfl,rfl,R.out⟩)⟩
    ·go_wp2
     go_ret
     exact ⟨_,rfl,hown,hbel⟩
