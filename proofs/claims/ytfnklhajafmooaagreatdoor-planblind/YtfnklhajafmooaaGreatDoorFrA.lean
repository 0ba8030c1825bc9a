import Derived.Lib.BitFns
namespace Go.Proofs.YtfnklhajafmooaaGreatDoor.Fr
open Go.Lib
def IsExp (e n:Nat):Prop:=2 ^ e<=n/\n<2 ^ (e+1)
theorem exp_unique {e f n:Nat}(h:IsExp e n)(k:IsExp f n):e=f:=by
 rcases Nat.lt_trichotomy e f with h1 | h1 | h1
 ·have:=Nat.pow_le_pow_right (n:=2) (by omega) (show e+1<=f by omega)
  have:=h.2;have:=k.1;omega
 ·exact h1
 ·have:=Nat.pow_le_pow_right (n:=2) (by omega) (show f+1<=e by omega)
  have:=h.1;have:=k.2;omega
theorem jI8:∀(f x:Nat),x<2 ^ f->(x=0->bitLenAux f x=0)/\(0<x->1<=bitLenAux f x/\IsExp (bitLenAux f x-1) x)
 | 0,x,h=>by
   have:x=0:=by simp at h;omega
   subst this
   exact ⟨fun _=>rfl,fun h=>by omega⟩
 | f+1,x,h=>by
   unfold bitLenAux
   by_cases h0:x=0
   ·rw[if_pos h0];exact ⟨fun _=>rfl,fun h=>by omega⟩
   ·rw[if_neg h0]
    refine ⟨fun h=>absurd h h0,fun _=>⟨by omega,?_⟩⟩
    obtain ⟨i0,i1⟩:=jI8 f (x / 2) (by rw[Nat.pow_succ] at h;omega)
    by_cases h2:x / 2=0
    ·rw[i0 h2]
     exact ⟨by simp;omega,by simp;omega⟩
    ·obtain ⟨j1,j2,j3⟩:=i1 (by omega)
     obtain ⟨m,hm⟩:∃m,bitLenAux f (x / 2)=m+1:=⟨_,(Nat.sub_add_cancel j1).symm⟩
     rw[hm] at j2 j3 ⊢
     rw[Nat.add_sub_cancel] at j2 j3
     rw[show 1+(m+1)-1=m+1 by omega]
     unfold IsExp
     rw[Nat.pow_succ] at j3 ⊢
     rw[Nat.pow_succ (n:=2) (m:=m+1)]
     rw[Nat.pow_succ (n:=2) (m:=m)]
     omega
theorem jK3 (x:Nat)(h:0<x)(h2:x<2 ^ 64):1<=bitLen x/\IsExp (bitLen x-1) x:=(jI8 64 x h2).2 h
theorem bitLen_of {e x:Nat}(h:IsExp e x)(h2:x<2 ^ 64):bitLen x=e+1:=by
 have hx:0<x:=Nat.lt_of_lt_of_le (Nat.pow_pos (by omega)) h.1
 obtain ⟨h3,h4⟩:=jK3 x hx h2
 have:=exp_unique h h4
 omega
def ex (n:Nat):Nat:=bitLen n-1
def sx (e:Nat):Nat:=bitLen e
def st (n:Nat):Nat:=2 ^ (ex n-sx (ex n))
def bk (n:Nat):Nat:=if n<=1 then n else (n+st n-1) / st n*st n
theorem ex_spec (n:Nat)(h1:1<=n)(h2:n<=1048576):IsExp (ex n) n/\ex n<=20:=by
 have h:=(jK3 n (by omega) (by omega)).2
 refine ⟨h,?_⟩
 apply Nat.le_of_not_lt
 intro h3
 have:=Nat.pow_le_pow_right (n:=2) (by omega) (show 21<=bitLen n-1 from h3)
 have:=h.1
 omega
theorem ex_pos (n:Nat)(h1:2<=n)(h2:n<=1048576):1<=ex n:=by
 have h:=(ex_spec n (by omega) h2).1
 apply Nat.one_le_iff_ne_zero.2
 intro h0
 rw[h0] at h
 have:=h.2
 omega
theorem sx_spec (e:Nat)(h1:1<=e)(h2:e<=20):1<=sx e/\e<2 ^ sx e/\2 ^ (sx e-1)<=e/\2 ^ sx e<=2*e/\sx e<=e/\sx e<=5:=by
 obtain ⟨h3,h4,h5⟩:=jK3 e (by omega) (by omega)
 change 1<=sx e at h3
 change 2 ^ (sx e-1)<=e at h4
 change e<2 ^ (sx e-1+1) at h5
 obtain ⟨m,hm⟩:∃m,sx e=m+1:=⟨_,(Nat.sub_add_cancel h3).symm⟩
 rw[hm] at h4 h5 ⊢
 rw[Nat.add_sub_cancel] at h4 h5 ⊢
 have h6:=Nat.lt_two_pow_self (n:=m)
 refine ⟨by omega,h5,h4,by rw[Nat.pow_succ];omega,by omega,?_⟩
 apply Nat.le_of_not_lt
 intro h7
 have:=Nat.pow_le_pow_right (n:=2) (by omega) (show 5<=m by omega)
 omega
theorem st_pos (n:Nat):0<st n:=Nat.pow_pos (by omega)
theorem up_le (n s:Nat)(h:0<s):n<=(n+s-1) / s*s/\(n+s-1) / s*s<=n+s-1:=by
 have h1:=Nat.div_add_mod (n+s-1) s
 have h2:=Nat.mod_lt (n+s-1) h
 rw[Nat.mul_comm] at h1
 omega
theorem bk_big (n:Nat)(h:2<=n):bk n=(n+st n-1) / st n*st n:=if_neg (by omega)
