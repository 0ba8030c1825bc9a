import Derived.Sort.OwnSorted
import Derived.Sort.OwnSortedInts
import Derived.Test.YtfnklhajafmooaaGreatDoorPnG
import Derived.Test.YtfnklhajafmooaaGreatDoorG39
set_option maxHeartbeats 2000000
set_option maxRecDepth 20000
namespace Go.Proofs.YtfnklhajafmooaaGreatDoor.Po.Pn
open Go.RowKit Go.Lib Go.Deep Go.Proofs.Tryz
def filL (L:List Tr.Nd):List Nat:=(L.filter fun x=>decide (x.kind=2)).map Tr.Nd.number
theorem fil_succ {L:List Tr.Nd}{k:Nat}{x:Tr.Nd}(h:L[k]?=some x):filL (L.take (k+1))=filL (L.take k)++if x.kind=2 then [x.number] else []:=by
 unfold filL
 rw[List.take_add_one,h,List.filter_append,List.map_append]
 simp only[Option.toList_some,List.filter_cons,List.filter_nil]
 by_cases e:x.kind=2
 ·simp[e]
 ·simp[e]
theorem fil_le (L:List Tr.Nd)(k:Nat):(filL (L.take k)).length<=k:=by
 unfold filL
 rw[List.length_map]
 exact Qk (List.length_filter_le _ _) (by rw[List.length_take];omega)
theorem filesOf_any (w:World)(B:Nat)(a:Option Addr)(n c:Nat)(L:List Tr.Nd)(hn:n=L.length)(hA:w.ownsRow B 91 5 (.slice a n c) n (Tr.ndsc L))(hb:n<=1000000) :
 Calls prog 72 #[.slice a n c] w fun e w'=>∃v,e=.returned v/\Hid (w'.ownsRow w.heap.size 3 1 v (filL L).length (nsC (filL L)))/\Below w.heap.size w w':=by
 obtain ⟨i0,hi,hz0,hz1,hz2⟩:=info_parts info3
 have HND:Hid (∀(V:World) (k:Nat),Below w.heap.size w V->k<n->∃(x:Tr.Nd) (g:Nat),L[k]?=some x/\a=some ⟨g,0,none⟩/\V.cell? ⟨g,k*5,none⟩=some (.int .i64 (x.kind:Int))/\V.cell? ⟨g,k*5+1,none⟩=some (.int .i64 (x.number:Int))/\V.cell? ⟨g,k*5+2,none⟩=some (.int .i64 (x.parent:Int))/\V.cell? ⟨g,k*5+3,none⟩=some (.string x.name)/\V.cell? ⟨g,k*5+4,none⟩=some (.int .i64 (x.size:Int))):=fun V k hV hk=>by
  have e1:∃g,a=some ⟨g,0,none⟩:=by
   rcases hA.2 with ⟨h1,h2⟩ | ⟨g,cap,cur,h1,_⟩
   ·omega
   ·injection h1 with h1 _ _;exact ⟨g,h1⟩
  obtain ⟨g,rfl⟩:=e1
  have hx:=Qv (l:=L) (i:=k) (by omega)
  have hA':=jA0 hA (W':=V) (fun k hk=>hV.block _ (hA.lt k hk).2)
  exact ⟨_,g,hx,rfl,Tr.jKy hA' hn hx⟩
 have HF:Hid (L.take n=L):=by rw[hn];exact Qh
 clear hA hn
 go_enter func72,ntmps72
 go_wp2_with fail
 go_loopg [3,8] n (fun gk v iv wr=>∃k:Nat,gk=n-k/\k<=n/\iv=.int .i64 (k:Int)/\wr.ownsRow w.heap.size 3 1 v (filL (L.take k)).length (nsC (filL (L.take k)))/\Below w.heap.size w wr)
 case atStart=>exact ⟨0,by omega,by omega,rfl,World.ownsRow_nil _ _ _ _,Qq _ _⟩
 case round =>
  obtain ⟨k,hgk,hkn,rfl,hrow,hbe⟩:=hrel
  by_cases hk:k<n
  ·have hkI:(k:Int)<(n:Int):=by omega
   have w1:IntKind.i64.wrap ((k:Int)+1)=((k+1:Nat):Int):=by rw[QX];omega
   obtain ⟨x,g,hx,rfl,c0,c1,c2,c3,c4⟩:=HND.out wr k hbe hk
   have hs:=fil_succ hx
   have hle:=fil_le L k
   obtain ⟨xk,xn,xp,xm,xs⟩:=x
   dsimp only at *
   obtain ⟨U,hU,hbU,kU⟩:=jA4 wr #[.int .i64 (xk:Int),.int .i64 (xn:Int),.int .i64 (xp:Int),.string xm,.int .i64 (xs:Int)] 91
   have HU:Hid _:=hU
   have u0:U.cell? ⟨wr.heap.size,0,none⟩=some (.int .i64 (xk:Int)):=(jAj kU).trans rfl
   have u1:U.cell? ⟨wr.heap.size,1,none⟩=some (.int .i64 (xn:Int)):=(jAj kU).trans rfl
   have hrU:=jA7 hrow hbU
   have hbU':=hbe.trans (hbU.mono hbe.size)
   have hsz:=hbU'.size
   by_cases hkk:xk=2
   ·have hkk':((xk:Int) == 2)=true:=by simp[hkk]
    rw[if_pos hkk] at hs
    clear hkk hU hrow hbe hbU kU hx
    go_upto_region 5 with fail
    rw[HU.out]
    go_wp2_with (at_builtin;refine wpList_append_own _ rfl _ _ 44 rfl w.heap.size 3 i0 (.int .i64 0) 1 8 underlying44 hi hz0 hz1 hz2 rfl (by decide) _ _ _ rfl (hrU.alloc _) ⟨U.heap.size,0,none⟩ 1 1 [.int .i64 (xn:Int)] rfl rfl (cell_one_new _ _ _) (by simp[Value.oneCell']) (by unfold maxLen at *;omega) (by omega) (by simp;omega) ?_;intro v' w3 hown' hg3 hnil3;go_frame)
    go_roundg (n-(k+1))
    case measure=>omega
    case rel =>
     refine ⟨k+1,rfl,by omega,rfl,?_,?_⟩
     ·rw[hs,List.length_append,jI2]
      exact hown'
     ·exact (hbU'.alloc hsz _).grown hg3 (by simp;omega) (fun j hj=>(hrU.lt j hj).1)
   ·have hkk':((xk:Int) == 2)=false:=by simp;omega
    rw[if_neg hkk,List.append_nil] at hs
    clear hkk hU hrow hbe hbU kU hx
    go_upto_region 5 with fail
    rw[HU.out]
    go_wp2
    go_roundg (n-(k+1))
    case measure=>omega
    case rel =>
     refine ⟨k+1,rfl,by omega,rfl,?_,hbU'⟩
     rw[hs]
     exact hrU
  ·obtain rfl:k=n:=by omega
   have hkI:¬(k:Int)<(k:Int):=by omega
   rw[HF.out] at hrow
   have HR:Hid _:=hrow
   clear hrow
   go_wp2
   go_ret
   exact ⟨_,rfl,HR,hbe⟩
def ownL (R:List Ob):List Int:=(R.filter fun o=>decide (o.ow≠-1)).map Ob.ow
theorem own_succ {L:List Ob}{k:Nat}{x:Ob}(h:L[k]?=some x):ownL (L.take (k+1))=ownL (L.take k)++if x.ow≠-1 then [x.ow] else []:=by
 unfold ownL
 rw[List.take_add_one,h,List.filter_append,List.map_append]
 simp only[Option.toList_some,List.filter_cons,List.filter_nil]
 by_cases e:x.ow=-1
 ·simp[e]
 ·simp[e]
theorem own_le (L:List Ob)(k:Nat):(ownL (L.take k)).length<=k:=by
 unfold ownL
 rw[List.length_map]
 exact Qk (List.length_filter_le _ _) (by rw[List.length_take];omega)
theorem zsC_append (a b:List Int):zsC (a++b)=zsC a++zsC b:=by unfold zsC;rw[List.map_append]
theorem ownersOf_any (w:World)(B:Nat)(a:Option Addr)(n c:Nat)(L:List Ob)(hn:n=L.length)(hA:w.ownsRow B 60 4 (.slice a n c) n (obsC L))(hb:n<=1000000) :
 Calls prog 73 #[.slice a n c] w fun e w'=>∃v,e=.returned v/\Hid (w'.ownsRow w.heap.size 3 1 v (ownL L).length (zsC ((ownL L).mergeSort fun x y=>decide (x<=y))))/\Below w.heap.size w w':=by
 obtain ⟨i0,hi,hz0,hz1,hz2⟩:=info_parts info3
 have HND:Hid (∀(V:World) (k:Nat),Below w.heap.size w V->k<n->∃(x:Ob) (g:Nat),L[k]?=some x/\a=some ⟨g,0,none⟩/\V.cell? ⟨g,k*4,none⟩=some (.string x.nm)/\V.cell? ⟨g,k*4+1,none⟩=some (.string x.tg)/\V.cell? ⟨g,k*4+2,none⟩=some (.int .i64 x.bk)/\V.cell? ⟨g,k*4+3,none⟩=some (.int .i64 x.ow)):=fun V k hV hk=>by
  have e1:∃g,a=some ⟨g,0,none⟩:=by
   rcases hA.2 with ⟨h1,h2⟩ | ⟨g,cap,cur,h1,_⟩
   ·omega
   ·injection h1 with h1 _ _;exact ⟨g,h1⟩
  obtain ⟨g,rfl⟩:=e1
  have hx:=Qv (l:=L) (i:=k) (by omega)
  have hA':=jA0 hA (W':=V) (fun k hk=>hV.block _ (hA.lt k hk).2)
  have c:=fun j (hj:j<4)=>(hA'.cellAt (k*4+j) (by omega)).trans (jDz obC 4 jGy L k _ hx j hj)
  exact ⟨_,g,hx,rfl,c 0 (by omega),c 1 (by omega),c 2 (by omega),c 3 (by omega)⟩
 have hso:=fun blk off cap (ss:List Int) (w:World) hH hb hl=>Any.slices_Sort_int (ρ:=soiRen) soiLays blk off cap ss w hH hb hl
 change ∀blk off cap (ss:List Int) (w:World) _ _ _,Calls prog 107 _ _ _ at hso
 have hsn:=fun (w:World)=>Any.slices_Sort_int_none (ρ:=soiRen) soiLays none 0 w
 change ∀w:World,Calls prog 107 _ _ _ at hsn
 have HSO:Hid _:=hso
 have HSN:Hid _:=hsn
 clear hso hsn
 have HF:Hid (L.take n=L):=by rw[hn];exact Qh
 clear hA hn
 go_enter func73,ntmps73
 go_wp2_with fail
 go_loopg [3,8] n (fun gk v iv wr=>∃k:Nat,gk=n-k/\k<=n/\iv=.int .i64 (k:Int)/\wr.ownsRow w.heap.size 3 1 v (ownL (L.take k)).length (zsC (ownL (L.take k)))/\Below w.heap.size w wr)
 case atStart=>exact ⟨0,by omega,by omega,rfl,World.ownsRow_nil _ _ _ _,Qq _ _⟩
 case round =>
  obtain ⟨k,hgk,hkn,rfl,hrow,hbe⟩:=hrel
  by_cases hk:k<n
  ·have hkI:(k:Int)<(n:Int):=by omega
   have w1:IntKind.i64.wrap ((k:Int)+1)=((k+1:Nat):Int):=by rw[QX];omega
   obtain ⟨x,g,hx,rfl,c0,c1,c2,c3⟩:=HND.out wr k hbe hk
   have hs:=own_succ hx
   have hle:=own_le L k
   obtain ⟨xm,xt,xb,xn⟩:=x
   dsimp only at *
   obtain ⟨U,hU,hbU,kU⟩:=jA4 wr #[.string xm,.string xt,.int .i64 xb,.int .i64 xn] 60
   have HU:Hid _:=hU
   have u3:U.cell? ⟨wr.heap.size,3,none⟩=some (.int .i64 xn):=(jAj kU).trans rfl
   have hrU:=jA7 hrow hbU
   have hbU':=hbe.trans (hbU.mono hbe.size)
   have hsz:=hbU'.size
   by_cases hkk:xn≠-1
   ·have hkk':(xn == -1)=false:=by simpa using hkk
    rw[if_pos hkk] at hs
    clear hkk hU hrow hbe hbU kU hx
    go_upto_region 5 with fail
    rw[HU.out]
    go_wp2_with (at_builtin;refine wpList_append_own _ rfl _ _ 44 rfl w.heap.size 3 i0 (.int .i64 0) 1 8 underlying44 hi hz0 hz1 hz2 rfl (by decide) _ _ _ rfl (hrU.alloc _) ⟨U.heap.size,0,none⟩ 1 1 [.int .i64 xn] rfl rfl (cell_one_new _ _ _) (by simp[Value.oneCell']) (by unfold maxLen at *;omega) (by omega) (by simp;omega) ?_;intro v' w3 hown' hg3 hnil3;go_frame)
    go_roundg (n-(k+1))
    case measure=>omega
    case rel =>
     refine ⟨k+1,rfl,by omega,rfl,?_,?_⟩
     ·rw[hs,List.length_append,zsC_append]
      exact hown'
     ·exact (hbU'.alloc hsz _).grown hg3 (by simp;omega) (fun j hj=>(hrU.lt j hj).1)
   ·have hkk':(xn == -1)=true:=by simpa using hkk
    rw[if_neg hkk,List.append_nil] at hs
    clear hkk hU hrow hbe hbU kU hx
    go_upto_region 5 with fail
    rw[HU.out]
    go_wp2
    go_roundg (n-(k+1))
    case measure=>omega
    case rel =>
     refine ⟨k+1,rfl,by omega,rfl,?_,hbU'⟩
     rw[hs]
     exact hrU
  ·obtain rfl:k=n:=by omega
   have hkI:¬(k:Int)<(k:Int):=by omega
   rw[HF.out] at hrow
   have hml:((ownL L).mergeSort fun x y=>decide (x<=y)).length=(ownL L).length:=by simp
   have hle:=own_le L k
   rw[HF.out] at hle
   have HB:Hid (Below w.heap.size w wr):=hbe
   rcases hrow.2 with ⟨hnil,hlen⟩ | ⟨g,cap,cur,rfl,hbase,hb,h1,h2,h3,h4⟩
   ·subst hnil
    have he:ownL L=[]:=Qb hlen
    have hc:=HSN.out wr
    have HE:Hid (∀V:World,V.ownsRow w.heap.size 3 1 (.slice none 0 0) (ownL L).length (zsC ((ownL L).mergeSort fun x y=>decide (x<=y)))):=fun V=>by
     rw[he,show zsC (List.mergeSort [] fun x y=>decide (x<=y))=[] by simp[zsC]]
     exact World.ownsRow_nil _ _ _ _
    clear hrow hbe hml hle hlen he
    go_wp2_with (go_at_call 107;refine hc.mono ?_;rintro e w' ⟨rfl,rfl⟩)
    go_ret
    exact ⟨_,rfl,HE.out _,HB.out⟩
   ·have hH:Go.Sort.Holds (Value.int .i64) wr g 0 (ownL L).toArray:=holds_of_blockI hb (by rw[Nat.mul_one] at h4;exact h4)
    have hgl:g<wr.heap.size:=(Array.getElem?_eq_some_iff.1 hb).1
    have hc:=HSO.out g 0 cap (ownL L) wr hH hgl (by omega)
    have HX:Hid (∀nn os,(Go.Sort.grow (Go.Sort.putRow (Value.int .i64) (Go.Sort.ahead wr nn) g 0 ((ownL L).mergeSort fun x y=>decide (x<=y)).toArray) os).ownsRow w.heap.size 3 1 (.slice (some ⟨g,0,none⟩) (ownL L).length cap) (ownL L).length (zsC ((ownL L).mergeSort fun x y=>decide (x<=y)))/\Below w.heap.size w (Go.Sort.grow (Go.Sort.putRow (Value.int .i64) (Go.Sort.ahead wr nn) g 0 ((ownL L).mergeSort fun x y=>decide (x<=y)).toArray) os)):=fun nn os =>
     ⟨ownsRow_sortedI (by simp) hbase hb h1 h2 h3,hbe.grown (grownBy_sortedI _) hbe.size (fun j hj=>by cases hj;exact hbase)⟩
    clear hrow hbe hH hb h4 h3 h2 hml hle
    go_wp2_with (go_at_call 107;refine hc.mono ?_;rintro e w' ⟨rfl,nn,os,rfl⟩)
    go_ret
    exact ⟨_,rfl,(HX.out nn os).1,(HX.out nn os).2⟩
theorem fil_mem {T:Tr.Ts}{x:Nat}:x∈filL (Tr.told T)↔Tr.tkF T x:=by
 unfold filL
 rw[List.mem_map]
 constructor
 ·rintro ⟨y,hy,rfl⟩
  obtain ⟨h1,h2⟩:=List.mem_filter.1 hy
  have hk:y.kind=2:=Qg h2
  rcases Tr.jE9 h1 with h | h
  ·omega
  ·exact ⟨_,h.2⟩
 ·rintro ⟨⟨p,n,s⟩,hr⟩
  exact ⟨_,List.mem_filter.2 ⟨Tr.jM0 hr,rfl⟩,rfl⟩
theorem fil_sorted (T:Tr.Ts):(filL (Tr.told T)).Pairwise (fun a b=>a<b):=by
 unfold filL
 rw[List.pairwise_map]
 refine ((Tr.jGz T).filter _).imp_of_mem fun {a b} ha hb h=>?_
 have h1:a.kind=2:=Qg (List.mem_filter.1 ha).2
 have h2:b.kind=2:=Qg (List.mem_filter.1 hb).2
 rcases h with h | h
 ·omega
 ·exact h.2
theorem own_mem {S:Ps}(hG:Good S){z:Int}:z∈ownL S.R↔∃x:Nat,z=x/\jD7 S.R (x:Int)=true:=by
 unfold ownL
 rw[List.mem_map]
 constructor
 ·rintro ⟨o,ho,rfl⟩
  obtain ⟨h1,h2⟩:=List.mem_filter.1 ho
  have h3:o.ow≠-1:=Qg h2
  obtain ⟨i,hi⟩:=List.mem_iff_getElem?.1 h1
  have h4:=(hG.st i o hi).2.1
  refine ⟨o.ow.toNat,by omega,jGv.2 ⟨i,o,hi,by omega⟩⟩
 ·rintro ⟨x,rfl,h⟩
  obtain ⟨i,o,hi,e⟩:=jGv.1 h
  exact ⟨o,List.mem_filter.2 ⟨List.mem_iff_getElem?.2 ⟨i,hi⟩,QQ (by omega)⟩,e⟩
theorem fil_own {c:Ix.Cn}{T:Tr.Ts}{dp:Nat->Nat}{P:Ps}(d:Dk c T dp P):(ownL P.R).mergeSort (fun x y=>decide (x<=y))=(filL (Tr.told T)).map fun (n:Nat)=>(n:Int):=by
 have hn1:(ownL P.R).Nodup:=jJ5 P.R d.good.ou
 have hs:=fil_sorted T
 have hn2:((filL (Tr.told T)).map fun (n:Nat)=>(n:Int)).Nodup:=List.pairwise_map.2 (hs.imp fun {a b} h e=>by omega)
 refine List.Perm.eq_of_pairwise (le:=fun a b:Int=>decide (a<=b)=true) (fun a b _ _ h1 h2=>by simp only[decide_eq_true_eq] at h1 h2;omega) (List.pairwise_mergeSort (fun a b c h1 h2=>by simp only[decide_eq_true_eq] at *;omega) (fun a b=>by simp only[Bool.or_eq_true,decide_eq_true_eq];omega) _) (List.pairwise_map.2 (hs.imp fun {a b} h=>by simp only[decide_eq_true_eq];omega)) ?_
 refine (List.mergeSort_perm _ _).trans ((List.perm_ext_iff_of_nodup hn1 hn2).2 fun z=>?_)
 rw[own_mem d.good,List.mem_map]
 constructor
 ·rintro ⟨x,rfl,h⟩
  exact ⟨x,fil_mem.2 ((d.hold x).2 h),rfl⟩
 ·rintro ⟨x,h,rfl⟩
  exact ⟨x,rfl,(d.hold x).1 (fil_mem.1 h)⟩
theorem jJ3 {w:World}{B1 B2 n m:Nat}{v1 v2:Value}{Z:List Int}(h1:w.ownsRow B1 3 1 v1 n (zsC Z))(h2:w.ownsRow B2 3 1 v2 m (zsC Z)):Calls prog 71 #[v1,v2] w fun e w'=>e=.returned (.bool true)/\∃q,w'=w.drewN q:=by
 have l1:Z.length=n:=by have:=h1.1;unfold zsC at this;simpa using this
 have l2:Z.length=m:=by have:=h2.1;unfold zsC at this;simpa using this
 have hget:∀j,j<Z.length->(zsC Z)[j]?=some (.int .i64 (Z.getD j 0)):=fun j hj=>by
  unfold zsC
  rw[List.getElem?_map,Qv hj]
  simp[List.getD,Qv hj]
 rcases h1.2 with ⟨rfl,e1⟩ | ⟨g,cap,cur,rfl,a1,a2,a3,a4,a5,a6⟩
 ·obtain ⟨a,c,rfl⟩:=jBy h2
  have e0:n=0:=e1
  subst e0
  have:=Any.slices_Equal_int_empty (ρ:=eqiRen) eqiLays none a 0 m c w (by omega)
  rw[QQ (by omega)] at this
  exact this.mono fun e w' ⟨h,h'⟩=>⟨h,0,h'⟩
 ·rcases h2.2 with ⟨rfl,e1⟩ | ⟨g2,cap2,cur2,rfl,b1,b2,b3,b4,b5,b6⟩
  ·have e0:n=0:=by omega
   subst e0
   have e0:m=0:=e1
   subst e0
   have:=Any.slices_Equal_int_empty (ρ:=eqiRen) eqiLays (some ⟨g,0,none⟩) none cap 0 0 w (by omega)
   exact this.mono fun e w' ⟨h,h'⟩=>⟨h,0,h'⟩
  ·have:=Any.slices_Equal_int (ρ:=eqiRen) eqiLays g 0 n cap g2 0 m cap2 Z Z w (by omega) (by omega) (by unfold maxLen at *;omega) (by unfold maxLen at *;omega) (fun j hj=>by rw[Nat.zero_add,h1.cellAt j (by omega)];exact hget j hj) (fun j hj=>by rw[Nat.zero_add,h2.cellAt j (by omega)];exact hget j hj)
   rw[Qf (by omega),Qf (by omega),beq_self_eq_true] at this
   exact this
structure Wk (w w':World)(b q pb pq nn pn:Nat)(T:Tr.Ts)(P:Ps):Prop where
 ex:∃F PF,w'.heap[b]?=some (.cells #[.pointer (some ⟨q,0,none⟩)] 94 (0,0))/\Tr.Lay w' q F nn T/\Ok w' pb pq PF pn P/\(∀k,k∈F->w.heap.size<=k)/\(∀k,k∈PF->w.heap.size<=k)/\(∀k,k∈F->k ∉ PF)/\w.heap.size<=b/\w.heap.size<=pb
theorem Wk.below {w w' W:World}{b q pb pq nn pn:Nat}{T:Tr.Ts}{P:Ps}(h:Wk w w' b q pb pq nn pn T P)(hb:Below w'.heap.size w' W):Wk w W b q pb pq nn pn T P:=by
 obtain ⟨F,PF,h1,h2,h3,h4,h5,h6,h7,h8⟩:=h.ex
 exact ⟨F,PF,(hb.block _ (jAv h1)).trans h1,h2.below hb,⟨h3.top.below hb,h3.lay.below hb,h3.good,h3.nn⟩,h4,h5,h6,h7,h8⟩
theorem working_any (w:World)(c:Ix.Cn)(hin:c.In)(T:Tr.Ts)(dp:Nat->Nat)(P:Ps)(d:Dk c T dp P)(B1:Nat)(a:Option Addr)(n cc:Nat)(hn:n=(Tr.told T).length)(hnb:n<=1000000)(hA:w.ownsRow B1 91 5 (.slice a n cc) n (Tr.ndsc (Tr.told T)))(B2:Nat)(oa qa:Option Addr)(on oc qn qc:Nat)(hon:on=P.R.length)(hqn:qn=P.Q.length)(h1:w.ownsRow B2 60 4 (.slice oa on oc) on (obsC P.R))(h2:w.ownsRow B2 3 1 (.slice qa qn qc) qn (nsC P.Q)) :
 Calls prog 48 #[Ix.cfV c.cf,.agg #[.int .i64 (c.fl:Int),.int .i64 (c.dr:Int),.slice a n cc],.agg #[.slice oa on oc,.slice qa qn qc]] w fun e w'=>∃b q pb pq,e=.returned (.tuple #[.pointer (some ⟨b,0,none⟩),.pointer (some ⟨pb,0,none⟩),.bool true])/\Hid (Wk w w' b q pb pq 200000 P.R.length (Tr.ldT c.fl c.dr c.mf T) P)/\Below w.heap.size w w':=by
 obtain ⟨i1,i2,i3,i4,i5,i6,i7,i8,i9,i10⟩:=hin
 obtain ⟨W,hW,hb,k0,k1,k2⟩:=Tr.jC5 w #[.int .i64 (c.sl:Int),.int .i64 (c.fl:Int),.int .i64 (c.dr:Int),.int .i64 (c.mf:Int),.int .i64 (c.ls:Int),.int .i64 (c.pg:Int)] #[.int .i64 (c.fl:Int),.int .i64 (c.dr:Int),.slice a n cc] #[.slice oa on oc,.slice qa qn qc] 23 49 46
 have HC:Hid (∀V,Below W.heap.size W V->(V.cell? ⟨w.heap.size,0,none⟩=some (.int .i64 (c.sl:Int))/\V.cell? ⟨w.heap.size,1,none⟩=some (.int .i64 (c.fl:Int))/\V.cell? ⟨w.heap.size,2,none⟩=some (.int .i64 (c.dr:Int))/\V.cell? ⟨w.heap.size,3,none⟩=some (.int .i64 (c.mf:Int)))/\(V.cell? ⟨w.heap.size+1,0,none⟩=some (.int .i64 (c.fl:Int))/\V.cell? ⟨w.heap.size+1,1,none⟩=some (.int .i64 (c.dr:Int))/\V.cell? ⟨w.heap.size+1,2,none⟩=some (.slice a n cc))/\V.cell? ⟨w.heap.size+1+1,0,none⟩=some (.slice oa on oc)/\V.cell? ⟨w.heap.size+1+1,1,none⟩=some (.slice qa qn qc)):=fun V hV=>by
  have g0:=(hV.block _ (jAv k0)).trans k0
  have g1:=(hV.block _ (jAv k1)).trans k1
  have g2:=(hV.block _ (jAv k2)).trans k2
  exact ⟨⟨(jAj g0).trans rfl,(jAj g0).trans rfl,(jAj g0).trans rfl,(jAj g0).trans rfl⟩,⟨(jAj g1).trans rfl,(jAj g1).trans rfl,(jAj g1).trans rfl⟩,(jAj g2).trans rfl,(jAj g2).trans rfl⟩
 have keepA:∀V,Below W.heap.size W V->V.ownsRow B1 91 5 (.slice a n cc) n (Tr.ndsc (Tr.told T)):=fun V hV=>jA7 (jA7 hA hb) hV
 have keep1:∀V,Below W.heap.size W V->V.ownsRow B2 60 4 (.slice oa on oc) on (obsC P.R):=fun V hV=>jA7 (jA7 h1 hb) hV
 have keep2:∀V,Below W.heap.size W V->V.ownsRow B2 3 1 (.slice qa qn qc) qn (nsC P.Q):=fun V hV=>jA7 (jA7 h2 hb) hV
 have hLd:=Tr.load_tre W c.fl c.dr c.mf i3 i4 i5 i6 T dp d.inv d.fr d.dr (fun x hx=>by have:=(Tr.jOq d.inv hx).1;rw[d.most] at this;exact this) B1 a n cc hn (keepA W (Qq _ _)) hnb
 have HPL:Hid (∀V,Below W.heap.size W V->Calls prog 70 #[.agg #[.slice oa on oc,.slice qa qn qc],.int .i64 (c.fl:Int),.int .i64 (c.sl:Int)] V fun e w'=>∃pb pq,e=.returned (.tuple #[.pointer (some ⟨pb,0,none⟩),.int .i64 0])/\Hid (∃PF,Ok w' pb pq PF P.R.length P/\V.heap.size<=pb/\∀k,k∈PF->V.heap.size<=k)/\Below V.heap.size V w'):=fun V hV=>by
  have hs1:=keep1 V hV
  have hs2:=keep2 V hV
  rw[hon] at hs1
  rw[hqn] at hs2
  have hsd:=sd_state hs1 hs2
  rw[<-hon,<-hqn] at hsd
  refine (load_any V _ P.R (zQ P.Q) hsd (fun k o ho=>by have:=d.good.nm ho;unfold maxLen;omega) (by rw[zQ_len];have:=d.good.ql;have:=d.good.fl;omega) (by have:=d.good.fl;omega) (c.fl:Int) (c.sl:Int)).mono ?_
  rintro e w' ⟨hbe,hex⟩
  have hr:jL7 (c.fl:Int) (c.sl:Int)=true:=QQ (by omega)
  have hy:P.R.length=(c.fl:Int).toNat+(c.sl:Int).toNat/\Fits (c.fl:Int).toNat P.R (zQ P.Q):=by
   rw[Int.toNat_natCast,Int.toNat_natCast]
   exact ⟨d.len,d.pfl▸(fits_iff d.good).2 d.set⟩
  rcases hex with ⟨h,_⟩ | ⟨_,h,_⟩ | ⟨_,_,pb,pq,PF,rfl,hok,g1,g2⟩
  ·rw[hr] at h;cases h
  ·exact absurd hy h
  ·refine ⟨pb,pq,rfl,⟨PF,?_,g1,g2⟩,hbe⟩
   have e1:(⟨(c.fl:Int).toNat,P.R,(zQ P.Q).map Int.toNat⟩:Ps)=P:=by
    rw[zQ_back,Int.toNat_natCast,<-d.pfl]
   rw[e1] at hok
   exact hok
 have HFI:Hid (∀V,Below W.heap.size W V->Calls prog 72 #[.slice a n cc] V fun e w'=>∃v,e=.returned v/\Hid (w'.ownsRow V.heap.size 3 1 v (filL (Tr.told T)).length (zsC ((ownL P.R).mergeSort fun x y=>decide (x<=y))))/\Below V.heap.size V w'):=fun V hV=>by
  refine (filesOf_any V B1 a n cc (Tr.told T) hn (keepA V hV) hnb).mono ?_
  rintro e w' ⟨v,rfl,HO,hb'⟩
  rw[nsC_zs,<-fil_own d] at HO
  exact ⟨v,rfl,HO,hb'⟩
 have HOW:Hid (∀V,Below W.heap.size W V->Calls prog 73 #[.slice oa on oc] V fun e w'=>∃v,e=.returned v/\Hid (w'.ownsRow V.heap.size 3 1 v (ownL P.R).length (zsC ((ownL P.R).mergeSort fun x y=>decide (x<=y))))/\Below V.heap.size V w'):=fun V hV=>ownersOf_any V B2 oa on oc P.R hon (keep1 V hV) (by have:=d.good.fl;omega)
 have HEQ:Hid (∀(V:World) B1 B2 n m v1 v2,V.ownsRow B1 3 1 v1 n (zsC ((ownL P.R).mergeSort fun x y=>decide (x<=y)))->V.ownsRow B2 3 1 v2 m (zsC ((ownL P.R).mergeSort fun x y=>decide (x<=y)))->Calls prog 71 #[v1,v2] V fun e w'=>e=.returned (.bool true)/\∃q,w'=V.drewN q):=fun V B1 B2 n m v1 v2 h1 h2=>jJ3 h1 h2
 have HB:Hid (Below w.heap.size w W):=hb
 obtain ⟨⟨x0,x1,x2,x3⟩,⟨y0,y1,y2⟩,z0,z1⟩:=HC.out W (Qq _ _)
 generalize (ownL P.R).mergeSort (fun x y=>decide (x<=y))=ZS at *
 generalize (ownL P.R).length=zl at *
 generalize (filL (Tr.told T)).length=fl at *
 rw[show Ix.cfV c.cf=.agg #[.int .i64 (c.sl:Int),.int .i64 (c.fl:Int),.int .i64 (c.dr:Int),.int .i64 (c.mf:Int),.int .i64 (c.ls:Int),.int .i64 (c.pg:Int)] from rfl]
 clear hA h1 h2 d keepA keep1 keep2 hb k0 k1 k2 hon hqn hn
 go_enter func48,ntmps48
 go_wp2_with fail
 refine hLd.mono ?_
 rintro e w1 ⟨b,q,rfl,HT1,hb1⟩
 have HB1:Hid (Below W.heap.size W w1):=hb1
 have hpl:=HPL.out w1 hb1
 clear x0 x1 x2 x3 y0 y1 y2 z0 z1
 obtain ⟨⟨x0,x1,x2,x3⟩,⟨y0,y1,y2⟩,z0,z1⟩:=HC.out w1 hb1
 clear hb1 hLd
 go_wp2_with fail
 refine hpl.mono ?_
 rintro e w2 ⟨pb,pq,rfl,HP2,hb2⟩
 have hbW2:=HB1.out.trans (hb2.mono HB1.out.size)
 have HB2:Hid (Below w1.heap.size w1 w2/\Below W.heap.size W w2):=⟨hb2,hbW2⟩
 clear x0 x1 x2 x3 y0 y1 y2 z0 z1
 obtain ⟨⟨x0,x1,x2,x3⟩,⟨y0,y1,y2⟩,z0,z1⟩:=HC.out w2 hbW2
 clear hb2 hbW2 hpl
 have HS:Hid (∀V,Below W.heap.size W V->V.cell? ⟨w.heap.size+1,2,none⟩=some (.slice a n cc)/\V.cell? ⟨w.heap.size+1+1,0,none⟩=some (.slice oa on oc)):=fun V hV=>⟨(HC.out V hV).2.1.2.2,(HC.out V hV).2.2.1⟩
 have HBD:Hid (∀j,Below W.heap.size W (w2.drewN j)):=fun j=>bdr HB2.out.2 j
 have HB2D:Hid (∀j,Below w2.heap.size w2 (w2.drewN j)):=fun j=>bdr (Qq _ _) j
 go_wp2_with fail
 go_region_held_law (fun V=>V.cell? ⟨w.heap.size+1,2,none⟩=some (.slice a n cc)/\V.cell? ⟨w.heap.size+1+1,0,none⟩=some (.slice oa on oc)) (first | exact HS.out _ (HBD.out _) | exact HS.out _ hbW5 | exact HS.out _ hbW6 | exact HS.out _ hbW7 | go_keep) (first
  | (go_at_call 72;refine (HFI.out _ (HBD.out 1)).mono ?_;rintro e w5 ⟨v5,rfl,HO5,hb5⟩;have hbW5:Below W.heap.size W w5:=(HBD.out 1).trans (hb5.mono (HBD.out 1).size);have H25:Below w2.heap.size w2 w5:=(HB2D.out 1).trans (hb5.mono (HB2D.out 1).size))
  | (go_at_call 73;refine (HOW.out w5 hbW5).mono ?_;rintro e w6 ⟨v6,rfl,HO6,hb6⟩;have hbW6:Below W.heap.size W w6:=hbW5.trans (hb6.mono hbW5.size);have H26:Below w2.heap.size w2 w6:=H25.trans (hb6.mono H25.size))
  | (go_at_call 71;refine (HEQ.out w6 _ _ _ _ v5 v6 (jA7 HO5.out hb6) HO6.out).mono ?_;rintro e w7 ⟨rfl,q7,hw7⟩;have hbW7:Below W.heap.size W w7:=(by rw[hw7];exact bdr hbW6 q7);have H27:Below w2.heap.size w2 w7:=(by rw[hw7];exact bdr H26 q7)))
 all_goals
  go_wp2
  go_ret3
  rw[hw7] at hbW7 H27
  refine ⟨b,q,pb,pq,rfl,Wk.below ?_ H27,HB.out.trans (hbW7.mono HB.out.size)⟩
  obtain ⟨hb0,hB0,F,hL,hF⟩:=HT1.out
  obtain ⟨PF,hok,g1,g2⟩:=HP2.out
  have hsW:=HB.out.size
  have hs1:=HB1.out.size
  refine ⟨F,PF,(HB2.out.1.block _ (jAv hb0)).trans hb0,hL.below HB2.out.1,hok,fun k hk=>?_,fun k hk=>?_,fun k hk hk'=>?_,by omega,by omega⟩
  ·have:=hF k hk;omega
  ·have:=g2 k hk;omega
  ·have:=hL.lt k hk
   have:=g2 k hk'
   omega
def setsL:List Value->Nat->List Value->List Value
 | xs,_,[]=>xs
 | xs,o,v :: vs=>setsL (xs.set o v) (o+1) vs
theorem sets_mid:∀(vs A B C:List Value),vs.length=B.length->setsL (A++(B++C)) A.length vs=A++(vs++C)
 | [],A,B,C,h=>by
   obtain rfl:=Qb h.symm
   rfl
 | v :: vs,A,[],C,h=>by cases h
 | v :: vs,A,b :: B,C,h=>by
   have e:(A++(b :: B++C)).set A.length v=(A++[v])++(B++C):=by
    rw[List.set_append_right _ _ (Qj _),Nat.sub_self]
    simp
   show setsL ((A++(b :: B++C)).set A.length v) (A.length+1) vs=_
   rw[e,show A.length+1=(A++[v]).length by simp,sets_mid vs (A++[v]) B C (by simpa using h)]
   simp
theorem flat_put {α:Type}(f:α->List Value)(k:Nat)(hf:∀a,(f a).length=k)(l:List α)(i:Nat)(was x:α)(hi:l[i]?=some was):setsL (l.flatMap f) (i*k) (f x)=(l.set i x).flatMap f:=by
 have hl:=jAy hi
 have e:l=l.take i++was :: l.drop (i+1):=by
  have h1:=(List.take_append_drop i l).symm
  rw[List.drop_eq_getElem_cons hl] at h1
  rw[Qv hl] at hi
  rw[QW hi] at h1
  exact h1
 have h2:l.flatMap f=(l.take i).flatMap f++(f was++(l.drop (i+1)).flatMap f):=by
  conv=>lhs;rw[e]
  rw[List.flatMap_append,List.flatMap_cons]
 have h3:((l.take i).flatMap f).length=i*k:=by
  rw[jEv f k hf,List.length_take]
  congr 1
  omega
 rw[h2,<-h3,sets_mid (f x) _ (f was) _ (by rw[hf,hf])]
 rw[List.set_eq_take_append_cons_drop,if_pos hl,List.flatMap_append,List.flatMap_cons]
theorem sts_put {w:World}{B g cap n:Nat}{l:List ((Tr.Rs × Tr.Ef) × Value)}(h:w.ownsRow B 75 13 (.slice (some ⟨g,0,none⟩) n cap) n (stsC l)){i:Nat}{was:(Tr.Rs × Tr.Ef) × Value}(hi:l[i]?=some was)(x:(Tr.Rs × Tr.Ef) × Value) :
 (((((((((((((w.setCell ⟨g,i*13,none⟩ (.int .i64 x.1.1.code)).setCell ⟨g,i*13+1,none⟩ (.string Tr.e0)).setCell ⟨g,i*13+2,none⟩ (.int .i64 x.1.1.n)).setCell ⟨g,i*13+3,none⟩ (x.2)).setCell ⟨g,i*13+4,none⟩ (.int .i64 x.1.1.kind)).setCell ⟨g,i*13+5,none⟩ (.int .i64 x.1.1.size)).setCell ⟨g,i*13+6,none⟩ (.int .i64 x.1.2.kind)).setCell ⟨g,i*13+6+1,none⟩ (.int .i64 x.1.2.file)).setCell ⟨g,i*13+6+2,none⟩ (.int .i64 x.1.2.gone)).setCell ⟨g,i*13+6+3,none⟩ (.int .i64 x.1.2.at_)).setCell ⟨g,i*13+6+4,none⟩ (.int .i64 x.1.2.n)).setCell ⟨g,i*13+6+5,none⟩ (.string x.1.2.data)).setCell ⟨g,i*13+6+6,none⟩ (.int .i64 x.1.2.size)).ownsRow B 75 13 (.slice (some ⟨g,0,none⟩) n cap) n (stsC (l.set i x))/\w.grownBy (((((((((((((w.setCell ⟨g,i*13,none⟩ (.int .i64 x.1.1.code)).setCell ⟨g,i*13+1,none⟩ (.string Tr.e0)).setCell ⟨g,i*13+2,none⟩ (.int .i64 x.1.1.n)).setCell ⟨g,i*13+3,none⟩ (x.2)).setCell ⟨g,i*13+4,none⟩ (.int .i64 x.1.1.kind)).setCell ⟨g,i*13+5,none⟩ (.int .i64 x.1.1.size)).setCell ⟨g,i*13+6,none⟩ (.int .i64 x.1.2.kind)).setCell ⟨g,i*13+6+1,none⟩ (.int .i64 x.1.2.file)).setCell ⟨g,i*13+6+2,none⟩ (.int .i64 x.1.2.gone)).setCell ⟨g,i*13+6+3,none⟩ (.int .i64 x.1.2.at_)).setCell ⟨g,i*13+6+4,none⟩ (.int .i64 x.1.2.n)).setCell ⟨g,i*13+6+5,none⟩ (.string x.1.2.data)).setCell ⟨g,i*13+6+6,none⟩ (.int .i64 x.1.2.size)) (some g):=by
 have h0:=h.stored (i*13) (.int .i64 x.1.1.code)
 have h1:=h0.1.stored (i*13+1) (.string Tr.e0)
 have h2:=h1.1.stored (i*13+2) (.int .i64 x.1.1.n)
 have h3:=h2.1.stored (i*13+3) (x.2)
 have h4:=h3.1.stored (i*13+4) (.int .i64 x.1.1.kind)
 have h5:=h4.1.stored (i*13+5) (.int .i64 x.1.1.size)
 have h6:=h5.1.stored (i*13+6) (.int .i64 x.1.2.kind)
 have h7:=h6.1.stored (i*13+6+1) (.int .i64 x.1.2.file)
 have h8:=h7.1.stored (i*13+6+2) (.int .i64 x.1.2.gone)
 have h9:=h8.1.stored (i*13+6+3) (.int .i64 x.1.2.at_)
 have h10:=h9.1.stored (i*13+6+4) (.int .i64 x.1.2.n)
 have h11:=h10.1.stored (i*13+6+5) (.string x.1.2.data)
 have h12:=h11.1.stored (i*13+6+6) (.int .i64 x.1.2.size)
 have e:((((((((((((((stsC l).set (i*13) (.int .i64 x.1.1.code)).set (i*13+1) (.string Tr.e0)).set (i*13+2) (.int .i64 x.1.1.n)).set (i*13+3) (x.2)).set (i*13+4) (.int .i64 x.1.1.kind)).set (i*13+5) (.int .i64 x.1.1.size)).set (i*13+6) (.int .i64 x.1.2.kind)).set (i*13+6+1) (.int .i64 x.1.2.file)).set (i*13+6+2) (.int .i64 x.1.2.gone)).set (i*13+6+3) (.int .i64 x.1.2.at_)).set (i*13+6+4) (.int .i64 x.1.2.n)).set (i*13+6+5) (.string x.1.2.data)).set (i*13+6+6) (.int .i64 x.1.2.size))=stsC (l.set i x):=by
  have:=flat_put stC 13 jJz l i was x hi
  rw[show stC x=[.int .i64 x.1.1.code,.string Tr.e0,.int .i64 x.1.1.n,x.2,.int .i64 x.1.1.kind,.int .i64 x.1.1.size,.int .i64 x.1.2.kind,.int .i64 x.1.2.file,.int .i64 x.1.2.gone,.int .i64 x.1.2.at_,.int .i64 x.1.2.n,.string x.1.2.data,.int .i64 x.1.2.size] from rfl] at this
  simp only[setsL] at this
  exact this
 rw[e] at h12
 exact ⟨h12.1,((((((((((((h0.2.trans h1.2).trans h2.2).trans h3.2).trans h4.2).trans h5.2).trans h6.2).trans h7.2).trans h8.2).trans h9.2).trans h10.2).trans h11.2).trans h12.2)⟩
