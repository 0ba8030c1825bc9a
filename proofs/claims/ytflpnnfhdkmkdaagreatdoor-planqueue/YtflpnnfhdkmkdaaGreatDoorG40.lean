import Derived.Test.YtflpnnfhdkmkdaaGreatDoorG34
import Derived.Sort.OwnSorted
import Derived.Sort.OwnSortedInts
namespace Go.Proofs.YtflpnnfhdkmkdaaGreatDoor.Po.Pn
open Go.RowKit Go.Lib
theorem filt_at {α:Type}{p:α->Bool}{L:List α}{i:Nat}{x:α}(h:L[i]?=some x)(hp:p x=true):(L.filter p)[((L.take i).filter p).length]?=some x:=by
 have hl:=jAy h
 have e:L=L.take i++x :: L.drop (i+1):=by
  have h1:=(List.take_append_drop i L).symm
  rw[List.drop_eq_getElem_cons hl] at h1
  rw[List.getElem?_eq_getElem hl] at h
  rw[Option.some.inj h] at h1
  exact h1
 have e2:L.filter p=(L.take i).filter p++x :: (L.drop (i+1)).filter p:=by
  conv=>lhs;rw[e]
  rw[List.filter_append,List.filter_cons,if_pos hp]
 rw[e2,List.getElem?_append_right (Nat.le_refl _),Nat.sub_self]
 rfl
theorem filt_succ {α:Type}{p:α->Bool}{L:List α}{i:Nat}{x:α}(h:L[i]?=some x):((L.take (i+1)).filter p).length=((L.take i).filter p).length+if p x=true then 1 else 0:=by
 rw[List.take_add_one,h,List.filter_append,List.length_append]
 simp only[Option.toList_some,List.filter_cons,List.filter_nil]
 split <;> rfl
structure Qs (P S:Ps)(L M:List Nat):Prop where
 was:P.Q=(L.filter fun i=>decide (owAt P i=-1))++M
 is:S.Q=M++L.filter fun i=>decide (owAt S i=-1)
 out:∀i,i∈M->i ∉ L
theorem qs_of {c:Ix.Cn}{T:Tr.Ts}{dp:Nat->Nat}{P:Ps}(d:Dk c T dp P)(O:List Tr.Op)(hO:O.length<=c.sl):Qs P (endB c T P O) (jG8 c T P O) (midB c T P O).Q:=by
 obtain ⟨b,hl⟩:=jM8 d O hO
 obtain ⟨hg,he⟩:=end_eq d O hO
 refine ⟨b.que,?_,fun i hi hm=>b.out i hm hi⟩
 have ho:∀i,owAt (endB c T P O) i=owAt (midB c T P O) i:=fun i=>by rw[he];rfl
 simp only[ho]
 rw[he]
end Go.Proofs.YtflpnnfhdkmkdaaGreatDoor.Po.Pn
namespace Go.Proofs.YtflpnnfhdkmkdaaGreatDoor.Po.Pn
open Go.RowKit Go.Lib Go.Deep
def filL (L:List Tr.Nd):List Nat:=(L.filter fun x=>decide (x.kind=2)).map Tr.Nd.number
theorem fil_succ {L:List Tr.Nd}{k:Nat}{x:Tr.Nd}(h:L[k]?=some x):filL (L.take (k+1))=filL (L.take k)++if x.kind=2 then [x.number] else []:=by
 unfold filL
 rw[List.take_add_one,h,List.filter_append,List.map_append]
 simp only[Option.toList_some,List.filter_cons,List.filter_nil]
 by_cases e:x.kind=2
 ·simp[e]
 ·simp[e]
theorem fil_le (L:List Tr.Nd)(k:Nat):(filL (L.take k)).length<=k:=by
 unfold filL
 rw[List.length_map]
 exact Nat.le_trans (List.length_filter_le _ _) (by rw[List.length_take];omega)
set_option maxRecDepth 20000 in
set_option maxHeartbeats 1000000 in
theorem filesOf_any (w:World)(B:Nat)(a:Option Addr)(n c:Nat)(L:List Tr.Nd)(hn:n=L.length)(hA:w.ownsRow B 91 5 (.slice a n c) n (Tr.ndsc L))(hb:n<=1000000) :
 Calls Tryz.prog 72 #[.slice a n c] w fun e w'=>∃v,e=.returned v/\Hid (w'.ownsRow w.heap.size 3 1 v (filL L).length (nsC (filL L)))/\Below w.heap.size w w':=by
 obtain ⟨i0,hi,hz0,hz1,hz2⟩:=info_parts info3
 have HND:Hid (∀(V:World) (k:Nat),Below w.heap.size w V->k<n->∃(x:Tr.Nd) (g:Nat),L[k]?=some x/\a=some ⟨g,0,none⟩/\V.cell? ⟨g,k*5,none⟩=some (.int .i64 (x.kind:Int))/\V.cell? ⟨g,k*5+1,none⟩=some (.int .i64 (x.number:Int))/\V.cell? ⟨g,k*5+2,none⟩=some (.int .i64 (x.parent:Int))/\V.cell? ⟨g,k*5+3,none⟩=some (.string x.name)/\V.cell? ⟨g,k*5+4,none⟩=some (.int .i64 (x.size:Int))):=fun V k hV hk=>by
  have e1:∃g,a=some ⟨g,0,none⟩:=by
   rcases hA.2 with ⟨h1,h2⟩ | ⟨g,cap,cur,h1,_⟩
   ·omega
   ·injection h1 with h1 _ _;exact ⟨g,h1⟩
  obtain ⟨g,rfl⟩:=e1
  have hx:=List.getElem?_eq_getElem (l:=L) (i:=k) (by omega)
  have hA':=jA0 hA (W':=V) (fun k hk=>hV.block _ (hA.lt k hk).2)
  exact ⟨_,g,hx,rfl,Tr.jMz hA' hn hx⟩
 have HF:Hid (L.take n=L):=by rw[hn];exact List.take_length
 clear hA hn
 go_enter Tryz.func72,Tryz.ntmps72
 go_wp2_with fail
 go_loopg [3,8] n (fun gk v iv wr=>∃k:Nat,gk=n-k/\k<=n/\iv=.int .i64 (k:Int)/\wr.ownsRow w.heap.size 3 1 v (filL (L.take k)).length (nsC (filL (L.take k)))/\Below w.heap.size w wr)
 case atStart=>exact ⟨0,by omega,by omega,rfl,World.ownsRow_nil _ _ _ _,Below.refl _ _⟩
 case round =>
  obtain ⟨k,hgk,hkn,rfl,hrow,hbe⟩:=hrel
  by_cases hk:k<n
  ·have hkI:(k:Int)<(n:Int):=by omega
   have w1:IntKind.i64.wrap ((k:Int)+1)=((k+1:Nat):Int):=by rw[IntKind.wrap_i64];omega
   obtain ⟨x,g,hx,rfl,c0,c1,c2,c3,c4⟩:=HND.out wr k hbe hk
   have hs:=fil_succ hx
   have hle:=fil_le L k
   obtain ⟨xk,xn,xp,xm,xs⟩:=x
   dsimp only at *
   obtain ⟨U,hU,hbU,kU⟩:=jA5 wr #[.int .i64 (xk:Int),.int .i64 (xn:Int),.int .i64 (xp:Int),.string xm,.int .i64 (xs:Int)] 91
   have HU:Hid _:=hU
   have u0:U.cell? ⟨wr.heap.size,0,none⟩=some (.int .i64 (xk:Int)):=(jAj kU).trans rfl
   have u1:U.cell? ⟨wr.heap.size,1,none⟩=some (.int .i64 (xn:Int)):=(jAj kU).trans rfl
   have hrU:=jA7 hrow hbU
   have hbU':=hbe.trans (hbU.mono hbe.size)
   have hsz:=hbU'.size
   by_cases hkk:xk=2
   ·have hkk':((xk:Int) == 2)=true:=by simp[hkk]
    rw[if_pos hkk] at hs
    clear hkk hU hrow hbe hbU kU hx
    go_upto_region 5 with fail
    rw[HU.out]
    go_wp2_with (at_builtin;refine wpList_append_own _ rfl _ _ 44 rfl w.heap.size 3 i0 (.int .i64 0) 1 8 Tryz.underlying44 hi hz0 hz1 hz2 rfl (by decide) _ _ _ rfl (hrU.alloc _) ⟨U.heap.size,0,none⟩ 1 1 [.int .i64 (xn:Int)] rfl rfl (cell_one_new _ _ _) (by simp[Value.oneCell']) (by unfold maxLen at *;omega) (by omega) (by simp;omega) ?_;intro v' w3 hown' hg3 hnil3;go_frame)
    go_roundg (n-(k+1))
    case measure=>omega
    case rel =>
     refine ⟨k+1,rfl,by omega,rfl,?_,?_⟩
     ·rw[hs,List.length_append,jI0]
      exact hown'
     ·exact (hbU'.alloc hsz _).grown hg3 (by simp;omega) (fun j hj=>(hrU.lt j hj).1)
   ·have hkk':((xk:Int) == 2)=false:=by simp;omega
    rw[if_neg hkk,List.append_nil] at hs
    clear hkk hU hrow hbe hbU kU hx
    go_upto_region 5 with fail
    rw[HU.out]
    go_wp2
    go_roundg (n-(k+1))
    case measure=>omega
    case rel =>
     refine ⟨k+1,rfl,by omega,rfl,?_,hbU'⟩
     rw[hs]
     exact hrU
  ·obtain rfl:k=n:=by omega
   have hkI:¬(k:Int)<(k:Int):=by omega
   rw[HF.out] at hrow
   have HR:Hid _:=hrow
   clear hrow
   go_wp2
   go_ret
   exact ⟨_,rfl,HR,hbe⟩
def ownL (R:List Ob):List Int:=(R.filter fun o=>decide (o.ow≠-1)).map Ob.ow
theorem own_succ {L:List Ob}{k:Nat}{x:Ob}(h:L[k]?=some x):ownL (L.take (k+1))=ownL (L.take k)++if x.ow≠-1 then [x.ow] else []:=by
 unfold ownL
 rw[List.take_add_one,h,List.filter_append,List.map_append]
 simp only[Option.toList_some,List.filter_cons,List.filter_nil]
 by_cases e:x.ow=-1
 ·simp[e]
 ·simp[e]
theorem own_le (L:List Ob)(k:Nat):(ownL (L.take k)).length<=k:=by
 unfold ownL
 rw[List.length_map]
 exact Nat.le_trans (List.length_filter_le _ _) (by rw[List.length_take];omega)
theorem zsC_append (a b:List Int):zsC (a++b)=zsC a++zsC b:=by unfold zsC;rw[List.map_append]
set_option maxRecDepth 20000 in
set_option maxHeartbeats 1000000 in
theorem ownersOf_any (w:World)(B:Nat)(a:Option Addr)(n c:Nat)(L:List Ob)(hn:n=L.length)(hA:w.ownsRow B 60 4 (.slice a n c) n (obsC L))(hb:n<=1000000) :
 Calls Tryz.prog 73 #[.slice a n c] w fun e w'=>∃v,e=.returned v/\Hid (w'.ownsRow w.heap.size 3 1 v (ownL L).length (zsC ((ownL L).mergeSort fun x y=>decide (x<=y))))/\Below w.heap.size w w':=by
 obtain ⟨i0,hi,hz0,hz1,hz2⟩:=info_parts info3
 have HND:Hid (∀(V:World) (k:Nat),Below w.heap.size w V->k<n->∃(x:Ob) (g:Nat),L[k]?=some x/\a=some ⟨g,0,none⟩/\V.cell? ⟨g,k*4,none⟩=some (.string x.nm)/\V.cell? ⟨g,k*4+1,none⟩=some (.string x.tg)/\V.cell? ⟨g,k*4+2,none⟩=some (.int .i64 x.bk)/\V.cell? ⟨g,k*4+3,none⟩=some (.int .i64 x.ow)):=fun V k hV hk=>by
  have e1:∃g,a=some ⟨g,0,none⟩:=by
   rcases hA.2 with ⟨h1,h2⟩ | ⟨g,cap,cur,h1,_⟩
   ·omega
   ·injection h1 with h1 _ _;exact ⟨g,h1⟩
  obtain ⟨g,rfl⟩:=e1
  have hx:=List.getElem?_eq_getElem (l:=L) (i:=k) (by omega)
  have hA':=jA0 hA (W':=V) (fun k hk=>hV.block _ (hA.lt k hk).2)
  have c:=fun j (hj:j<4)=>(hA'.cellAt (k*4+j) (by omega)).trans (jD3 obC 4 jG3 L k _ hx j hj)
  exact ⟨_,g,hx,rfl,c 0 (by omega),c 1 (by omega),c 2 (by omega),c 3 (by omega)⟩
 have hso:=fun blk off cap (ss:List Int) (w:World) hH hb hl=>Any.slices_Sort_int (ρ:=soiRen) soiLays blk off cap ss w hH hb hl
 change ∀blk off cap (ss:List Int) (w:World) _ _ _,Calls Tryz.prog 107 _ _ _ at hso
 have hsn:=fun (w:World)=>Any.slices_Sort_int_none (ρ:=soiRen) soiLays none 0 w
 change ∀w:World,Calls Tryz.prog 107 _ _ _ at hsn
 have HSO:Hid _:=hso
 have HSN:Hid _:=hsn
 clear hso hsn
 have HF:Hid (L.take n=L):=by rw[hn];exact List.take_length
 clear hA hn
 go_enter Tryz.func73,Tryz.ntmps73
 go_wp2_with fail
 go_loopg [3,8] n (fun gk v iv wr=>∃k:Nat,gk=n-k/\k<=n/\iv=.int .i64 (k:Int)/\wr.ownsRow w.heap.size 3 1 v (ownL (L.take k)).length (zsC (ownL (L.take k)))/\Below w.heap.size w wr)
 case atStart=>exact ⟨0,by omega,by omega,rfl,World.ownsRow_nil _ _ _ _,Below.refl _ _⟩
 case round =>
  obtain ⟨k,hgk,hkn,rfl,hrow,hbe⟩:=hrel
  by_cases hk:k<n
  ·have hkI:(k:Int)<(n:Int):=by omega
   have w1:IntKind.i64.wrap ((k:Int)+1)=((k+1:Nat):Int):=by rw[IntKind.wrap_i64];omega
   obtain ⟨x,g,hx,rfl,c0,c1,c2,c3⟩:=HND.out wr k hbe hk
   have hs:=own_succ hx
   have hle:=own_le L k
   obtain ⟨xm,xt,xb,xn⟩:=x
   dsimp only at *
   obtain ⟨U,hU,hbU,kU⟩:=jA5 wr #[.string xm,.string xt,.int .i64 xb,.int .i64 xn] 60
   have HU:Hid _:=hU
   have u3:U.cell? ⟨wr.heap.size,3,none⟩=some (.int .i64 xn):=(jAj kU).trans rfl
   have hrU:=jA7 hrow hbU
   have hbU':=hbe.trans (hbU.mono hbe.size)
   have hsz:=hbU'.size
   by_cases hkk:xn≠-1
   ·have hkk':(xn == -1)=false:=by simpa using hkk
    rw[if_pos hkk] at hs
    clear hkk hU hrow hbe hbU kU hx
    go_upto_region 5 with fail
    rw[HU.out]
    go_wp2_with (at_builtin;refine wpList_append_own _ rfl _ _ 44 rfl w.heap.size 3 i0 (.int .i64 0) 1 8 Tryz.underlying44 hi hz0 hz1 hz2 rfl (by decide) _ _ _ rfl (hrU.alloc _) ⟨U.heap.size,0,none⟩ 1 1 [.int .i64 xn] rfl rfl (cell_one_new _ _ _) (by simp[Value.oneCell']) (by unfold maxLen at *;omega) (by omega) (by simp;omega) ?_;intro v' w3 hown' hg3 hnil3;go_frame)
    go_roundg (n-(k+1))
    case measure=>omega
    case rel =>
     refine ⟨k+1,rfl,by omega,rfl,?_,?_⟩
     ·rw[hs,List.length_append,zsC_append]
      exact hown'
     ·exact (hbU'.alloc hsz _).grown hg3 (by simp;omega) (fun j hj=>(hrU.lt j hj).1)
   ·have hkk':(xn == -1)=true:=by simpa using hkk
    rw[if_neg hkk,List.append_nil] at hs
    clear hkk hU hrow hbe hbU kU hx
    go_upto_region 5 with fail
    rw[HU.out]
    go_wp2
    go_roundg (n-(k+1))
    case measure=>omega
    case rel =>
     refine ⟨k+1,rfl,by omega,rfl,?_,hbU'⟩
     rw[hs]
     exact hrU
  ·obtain rfl:k=n:=by omega
   have hkI:¬(k:Int)<(k:Int):=by omega
   rw[HF.out] at hrow
   have hml:((ownL L).mergeSort fun x y=>decide (x<=y)).length=(ownL L).length:=by simp
   have hle:=own_le L k
   rw[HF.out] at hle
   have HB:Hid (Below w.heap.size w wr):=hbe
   rcases hrow.2 with ⟨hnil,hlen⟩ | ⟨g,cap,cur,rfl,hbase,hb,h1,h2,h3,h4⟩
   ·subst hnil
    have he:ownL L=[]:=List.eq_nil_of_length_eq_zero hlen
    have hc:=HSN.out wr
    have HE:Hid (∀V:World,V.ownsRow w.heap.size 3 1 (.slice none 0 0) (ownL L).length (zsC ((ownL L).mergeSort fun x y=>decide (x<=y)))):=fun V=>by
     rw[he,show zsC (List.mergeSort [] fun x y=>decide (x<=y))=[] by simp[zsC]]
     exact World.ownsRow_nil _ _ _ _
    clear hrow hbe hml hle hlen he
    go_wp2_with (go_at_call 107;refine hc.mono ?_;rintro e w' ⟨rfl,rfl⟩)
    go_ret
    exact ⟨_,rfl,HE.out _,HB.out⟩
   ·have hH:Go.Sort.Holds (Value.int .i64) wr g 0 (ownL L).toArray:=holds_of_blockI hb (by rw[Nat.mul_one] at h4;exact h4)
    have hgl:g<wr.heap.size:=(Array.getElem?_eq_some_iff.1 hb).1
    have hc:=HSO.out g 0 cap (ownL L) wr hH hgl (by omega)
    have HX:Hid (∀nn os,(Go.Sort.grow (Go.Sort.putRow (Value.int .i64) (Go.Sort.ahead wr nn) g 0 ((ownL L).mergeSort fun x y=>decide (x<=y)).toArray) os).ownsRow w.heap.size 3 1 (.slice (some ⟨g,0,none⟩) (ownL L).length cap) (ownL L).length (zsC ((ownL L).mergeSort fun x y=>decide (x<=y)))/\Below w.heap.size w (Go.Sort.grow (Go.Sort.putRow (Value.int .i64) (Go.Sort.ahead wr nn) g 0 ((ownL L).mergeSort fun x y=>decide (x<=y)).toArray) os)):=fun nn os =>
     ⟨ownsRow_sortedI (by simp) hbase hb h1 h2 h3,hbe.grown (grownBy_sortedI _) hbe.size (fun j hj=>by cases hj;exact hbase)⟩
    clear hrow hbe hH hb h4 h3 h2 hml hle
    go_wp2_with (go_at_call 107;refine hc.mono ?_;rintro e w' ⟨rfl,nn,os,rfl⟩)
    go_ret
    exact ⟨_,rfl,(HX.out nn os).1,(HX.out nn os).2⟩
end Go.Proofs.YtflpnnfhdkmkdaaGreatDoor.Po.Pn
