import Derived.Shelf.LaysM
import Derived.Shelf.Strconv.Clone
import Derived.Shelf.Strings.Repeat
import Derived.Shelf.Small.Bits
import Derived.Test.YtfnklhajafmooaaGreatDoorG01
import Derived.Test.YtfnklhajafmooaaGreatDoorFrA
namespace Go.Proofs.YtfnklhajafmooaaGreatDoor.Fr
open Go.Shelf Go.Proofs.Tryz
def lenRen:Go.Shelf.Ren:=⟨fun | 125=>54 | 128=>79 | 129=>80 | n=>n,fun | 46=>130 | 3=>3 | 51=>181 | 53=>183 | 4=>4 | 5=>5 | 9=>9 | n=>n,fun | n=>n⟩
theorem lenLays:Go.Proofs.Lays.n125 prog lenRen:={
 mixed:=by kernel_rfl
 f125:=func54.trans (congrArg some (by kernel_rfl))
 f128:=func79.trans (congrArg some (by kernel_rfl))
 f129:=func80.trans (congrArg some (by kernel_rfl))
 t3:=underlying3
 a3:=isAgg3
 z3:=sizeOf3
 v3:=zeroValue3
 t4:=underlying4
 a4:=isAgg4
 z4:=sizeOf4
 v4:=zeroValue4
 t5:=underlying5
 a5:=isAgg5
 z5:=sizeOf5
 v5:=zeroValue5
 t9:=underlying9
 a9:=isAgg9
 z9:=sizeOf9
 v9:=zeroValue9
 t46:=underlying130
 a46:=isAgg130
 z46:=sizeOf130
 v46:=zeroValue130
 t51:=underlying181
 a51:=isAgg181
 z51:=sizeOf181
 v51:=zeroValue181
 t53:=underlying183
 a53:=isAgg183
 z53:=sizeOf183
 v53:=zeroValue183 }
end Go.Proofs.YtfnklhajafmooaaGreatDoor.Fr
namespace Go.Proofs.YtfnklhajafmooaaGreatDoor.Fr
open Go.RowKit Go.Lib Go.Deep Go.Proofs.Tryz
theorem len_any (x:Nat)(hx:x<=18446744073709551615)(w:World):Calls prog 54 #[.int .u64 (x:Int)] w fun e w'=>e=.returned (.int .i64 (Lib.bitLen x:Int))/\w'=w:=by
 have h:=Any.bits_Len (ρ:=lenRen) lenLays (x:Int) w (by omega) (by omega)
 rw[Int.toNat_natCast] at h
 exact h
theorem bucket_any (n:Nat)(hn:n<=1048576)(w:World):Calls prog 30 #[.int .i64 (n:Int)] w fun e w'=>e=.returned (.int .i64 (bk n:Int))/\w'=w:=by
 by_cases h:n<=1
 ·have h':(n:Int)<=1:=by omega
  have e:bk n=n:=if_pos h
  rw[e]
  clear e
  go_enter func30,ntmps30
  go_wp2
  go_ret
  exact ⟨rfl,rfl⟩
 ·have h':¬(n:Int)<=1:=by omega
  have HE:Hid (bk n=(n+st n-1) / st n*st n):=bk_big n (by omega)
  have h3:=ex_spec n (by omega) hn
  have h4:=ex_pos n (by omega) hn
  have h5:=sx_spec (ex n) h4 h3.2
  have h1:=len_any n (by omega)
  have h2:=len_any (ex n) (by omega)
  have h6:Lib.bitLen n=ex n+1:=bitLen_of h3.1 (by omega)
  have h7:st n<=n:=by
   refine Qk ?_ h3.1.1
   unfold st
   exact Nat.pow_le_pow_right (by omega) (by omega)
  have h8:=st_pos n
  obtain ⟨e,s,p,b,hB,HE,g1,g2,g3,g4,h1,h2,h7,h8,HP⟩:∃e s p b:Nat,bk n=b/\Hid (b=(n+p-1) / p*p)/\1<=e/\e<=20/\s<=e/\s<=5 /\
   (∀w,Calls prog 54 #[.int .u64 (n:Int)] w fun e' w'=>e'=.returned (.int .i64 ((e+1:Nat):Int))/\w'=w) /\
   (∀w,Calls prog 54 #[.int .u64 (e:Int)] w fun e' w'=>e'=.returned (.int .i64 (s:Int))/\w'=w)/\p<=n/\0<p/\Hid (p=2 ^ (e-s)) :=
   ⟨ex n,sx (ex n),st n,bk n,rfl,HE,h4,h3.2,h5.2.2.2.2.1,h5.2.2.2.2.2,h6▸h1,h2,h7,h8,rfl⟩
  rw[hB]
  clear h3 h4 h5 h6 hB
  have a1:((e+1:Nat):Int)-1=(e:Int):=by omega
  have a2:(e:Int)-(s:Int)=((e-s:Nat):Int):=by omega
  have a3:IntKind.i64.wrap (2 ^ (e-s))=(p:Int):=by
   rw[show ((2:Int) ^ (e-s))=(p:Int) by rw[HP.out];simp,QX]
   omega
  have a4:wrap64 (((n:Int)+(p:Int)-1) / (p:Int)*(p:Int))=(b:Int):=by
   have e5:((n:Int)+(p:Int)-1) / (p:Int)*(p:Int)=(b:Int):=by
    rw[HE.out,show (n:Int)+(p:Int)-1=((n+p-1:Nat):Int) by omega]
    simp
   rw[e5]
   have:=(up_le n p h8).2
   rw[<-HE.out] at this
   unfold wrap64
   omega
  go_enter func30,ntmps30
  go_wp2_with fail
  refine (h1 _).mono ?_
  rintro e w' ⟨rfl,rfl⟩
  go_wp2_with fail
  refine (h2 _).mono ?_
  rintro e w' ⟨rfl,rfl⟩
  go_wp2
  go_ret
  exact ⟨by rw[a4];rfl,rfl⟩
def sizE (n l:Int):Int:=if n<0\/l<0 then 1 else if 1048571<n\/1048576<l then 3 else 0
def sizY (n l:Int):Nat:=if n<0\/l<0 then 0 else if 1048571<n\/1048576<l then 0 else bk (max (n.toNat+5) l.toNat)
theorem size_any (n l:Int)(w:World):Calls prog 12 #[.int .i64 n,.int .i64 l] w fun e w'=>e=.returned (.tuple #[.int .i64 (sizY n l:Int),.int .i64 (sizE n l)])/\w'=w:=by
 by_cases h1:n<0
 ·have e1:sizY n l=0:=if_pos (.inl h1)
  have e2:sizE n l=1:=if_pos (.inl h1)
  rw[e1,e2]
  clear e1 e2
  go_enter func12,ntmps12
  go_wp2
  go_ret2
  exact ⟨rfl,rfl⟩
 ·by_cases h2:l<0
  ·have e1:sizY n l=0:=if_pos (.inr h2)
   have e2:sizE n l=1:=if_pos (.inr h2)
   rw[e1,e2]
   clear e1 e2
   go_enter func12,ntmps12
   go_wp2
   go_ret2
   exact ⟨rfl,rfl⟩
  ·have h0:¬(n<0\/l<0):=by omega
   by_cases h3:1048571<n
   ·have e1:sizY n l=0:=by unfold sizY;rw[if_neg h0,if_pos (.inl h3)]
    have e2:sizE n l=3:=by unfold sizE;rw[if_neg h0,if_pos (.inl h3)]
    rw[e1,e2]
    clear e1 e2 h0
    go_enter func12,ntmps12
    go_wp2
    go_ret2
    exact ⟨rfl,rfl⟩
   ·by_cases h4:1048576<l
    ·have e1:sizY n l=0:=by unfold sizY;rw[if_neg h0,if_pos (.inr h4)]
     have e2:sizE n l=3:=by unfold sizE;rw[if_neg h0,if_pos (.inr h4)]
     rw[e1,e2]
     clear e1 e2 h0
     go_enter func12,ntmps12
     go_wp2
     go_ret2
     exact ⟨rfl,rfl⟩
    ·have e1:sizY n l=bk (max (n.toNat+5) l.toNat):=by unfold sizY;rw[if_neg h0,if_neg (by omega)]
     have e2:sizE n l=0:=by unfold sizE;rw[if_neg h0,if_neg (by omega)]
     rw[e1,e2]
     clear e1 e2 h0
     obtain ⟨m,rfl⟩:∃m:Nat,n=(m:Int):=⟨n.toNat,by omega⟩
     obtain ⟨k,rfl⟩:∃k:Nat,l=(k:Int):=⟨l.toNat,by omega⟩
     rw[Int.toNat_natCast,Int.toNat_natCast]
     have hb:=bucket_any (max (m+5) k) (by omega)
     rw[show ((max (m+5) k:Nat):Int)=max ((m:Int)+5) (k:Int) by omega] at hb
     go_enter func12,ntmps12
     go_wp2_with fail
     refine (hb _).mono ?_
     rintro e w' ⟨rfl,rfl⟩
     go_wp2
     go_ret2
     exact ⟨rfl,rfl⟩
