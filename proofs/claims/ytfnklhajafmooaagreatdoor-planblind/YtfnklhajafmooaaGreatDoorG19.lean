import Derived.Test.YtfnklhajafmooaaGreatDoorG09
set_option maxHeartbeats 4000000
set_option maxRecDepth 20000
namespace Go.Proofs.YtfnklhajafmooaaGreatDoor.Tr
open Go.RowKit Go.Lib Go.Deep Go.Proofs.Tryz
theorem dirD_any (w:World)(q:Nat)(F:List Nat)(nn:Nat)(T:Ts)(hL:Lay w q F nn T)(i:Nat)(d:Nat × ByteArray)(hi:T.D[i]?=some (some d)):∃m:Nat,
 (∀W,Below w.heap.size w W->Calls prog 165 #[.pointer (some ⟨q,0,none⟩),.int .i64 (i:Int)] W fun e w'=>e=.returned (.agg #[.int .i64 (d.1:Int),.string d.2,.map (some m)])/\Below W.heap.size W w') /\
 ∀W,Below w.heap.size w W->∀(p:Nat) (n:ByteArray),Calls prog 59 #[.pointer (some ⟨q,0,none⟩),.int .i64 (i:Int),.agg #[.int .i64 (p:Int),.string n,.map (some m)]] W fun e w'=>e=.returned (.tuple #[])/\Turn F w w' q nn (setD T i (some (p,n))):=by
 obtain ⟨dv,fv,ld,lf,ms,rfl,hI0⟩:=hL
 refine ⟨ms i,fun W hb=>?_,fun W hb p n=>?_⟩
 ·have hI:=hI0.below hb
  exact get_d W q dv _ hI.cells.2.1 hI.hd' (Qk hI.lenD (by omega)) i (dRow (some d) (ms i)) (by rw[jDx,hi];rfl) (some (ms i)) rfl
 ·have hI:=hI0.below hb
  obtain ⟨g,cap,hg⟩:=jC2 hI.hd' (i:=i) (r:=dRow (some d) (ms i)) (by rw[jDx,hi];rfl)
  have c1:=hI.cells.2.1
  have hf:=hI.hd'
  rw[hg] at c1 hf
  refine (set_d W q g cap (jF3 T.D ms) c1 hf (Qk hI.lenD (by omega)) i (by rw[jCx];exact jAy hi) p n (some (ms i))).mono ?_
  rintro e w' ⟨rfl,w0,hb0,hW⟩
  exact ⟨rfl,Turn.ahead hb (lay_putD (ld':=ld) hI hg hi (some (p,n)) hb0 (Qj _) (fun e=>by cases e) (.inr ⟨hW,rfl⟩))⟩
theorem fileF_any (w:World)(q:Nat)(F:List Nat)(nn:Nat)(T:Ts)(hL:Lay w q F nn T)(i p s:Nat)(n:ByteArray)(hi:T.F[i]?=some (some (p,n,s))) :
 (∀W,Below w.heap.size w W->Calls prog 124 #[.pointer (some ⟨q,3,none⟩),.int .i64 (i:Int)] W fun e w'=>e=.returned (.agg #[.int .i64 (p:Int),.string n,.int .i64 (s:Int)])/\Below W.heap.size W w') /\
 ∀W,Below w.heap.size w W->∀(p':Nat) (n':ByteArray),Calls prog 162 #[.pointer (some ⟨q,3,none⟩),.int .i64 (i:Int),.agg #[.int .i64 (p':Int),.string n',.int .i64 (s:Int)]] W fun e w'=>e=.returned (.tuple #[])/\Turn F w w' q nn (setF T i (some (p',n',s))) :=
 ⟨fun W hb=>getF_any W q F nn T (hL.below hb) i p s n hi,fun W hb p' n'=>(setF_any W q F nn T (hL.below hb) i (jAy hi) p' s n').mono fun _e _w' ⟨h1,h2⟩=>⟨h1,Turn.ahead hb h2⟩⟩
theorem moveD_any (w:World)(q:Nat)(F:List Nat)(nn:Nat)(T:Ts)(hL:Lay w q F nn T)(par no p2:Nat)(nm n2:ByteArray)(d:Nat × ByteArray)(hd:T.D[no]?=some (some d))(ht:tk T par)(ht2:tk T p2)(hn:nm.size<=32)(hn2:n2.size<=32)(hnn:nn<maxLen) :
 Calls prog 128 #[.pointer (some ⟨q,0,none⟩),.agg #[.int .i64 (par:Int),.string nm,.int .i64 1,.int .i64 (no:Int)],.agg #[.int .i64 (p2:Int),.string n2]] w fun e w'=>e=.returned (.tuple #[])/\Turn F w w' q (nn+1) (setD (jA6 (jA6 T par nm none) p2 n2 (some (1,no))) no (some (p2,n2))):=by
 obtain ⟨W,hW,hb,k0,k1⟩:=jDy w #[.int .i64 (par:Int),.string nm,.int .i64 1,.int .i64 (no:Int)] #[.int .i64 (p2:Int),.string n2] 210 141
 have hLW:=hL.below hb
 have hun:=jI7 W q F nn T hLW par nm ht (by unfold maxLen;omega)
 have s0:W.cell? ⟨w.heap.size,0,none⟩=some (.int .i64 (par:Int)):=(jAj k0).trans rfl
 have s1:W.cell? ⟨w.heap.size,1,none⟩=some (.string nm):=(jAj k0).trans rfl
 have HK0:Hid _:=k0
 have HK1:Hid _:=k1
 have HLW:Hid _:=hLW
 have HBW:Hid (Below w.heap.size w W):=hb
 have HD:Hid (T.D[no]?=some (some d)):=hd
 have HT2:Hid (tk T p2):=ht2
 clear hb k0 k1 hLW hL hd ht ht2
 go_enter func128,ntmps128
 go_wp2_with fail
 refine hun.mono ?_
 rintro e w3 ⟨rfl,hT3⟩
 have HK03:Hid _:=Turn.keep hT3 HLW.out HK0.out (by decide)
 have HK13:Hid _:=Turn.keep hT3 HLW.out HK1.out (by decide)
 obtain ⟨ho3,F3,hL3,hF3⟩:=hT3
 have hha:=jM5 w3 q F3 nn _ hL3 p2 n2 1 no HT2.out (by unfold maxLen;omega) hnn
 have t2:w3.cell? ⟨w.heap.size,2,none⟩=some (.int .i64 1):=(jAj HK03.out).trans rfl
 have t3:w3.cell? ⟨w.heap.size,3,none⟩=some (.int .i64 (no:Int)):=(jAj HK03.out).trans rfl
 have u0:w3.cell? ⟨w.heap.size+1,0,none⟩=some (.int .i64 (p2:Int)):=(jAj HK13.out).trans rfl
 have u1:w3.cell? ⟨w.heap.size+1,1,none⟩=some (.string n2):=(jAj HK13.out).trans rfl
 have HL3:Hid _:=hL3
 have HO3:Hid (Only F w w3):=(jBv (Only.refl F w) HBW.out).trans ho3
 have HF3:Hid (∀k,k∈F3->k∈F\/w.heap.size<=k):=fun k hk=>by
  rcases hF3 k hk with h | h
  ·exact .inl h
  ·exact .inr (Qk HBW.out.size h)
 clear ho3 hF3 hL3 hun
 go_wp2_with fail
 refine hha.mono ?_
 rintro e w4 ⟨rfl,hT4⟩
 have HK04:Hid _:=Turn.keep hT4 HL3.out HK03.out (by decide)
 have HK14:Hid _:=Turn.keep hT4 HL3.out HK13.out (by decide)
 have v2:w4.cell? ⟨w.heap.size,2,none⟩=some (.int .i64 1):=(jAj HK04.out).trans rfl
 have v3:w4.cell? ⟨w.heap.size,3,none⟩=some (.int .i64 (no:Int)):=(jAj HK04.out).trans rfl
 have HT4:Hid (Turn F w w4 q (nn+1) (jA6 (jA6 T par nm none) p2 n2 (some (1,no)))):=jC1 HO3.out HF3.out hT4
 obtain ⟨ho4,F4,hL4,hF4⟩:=HT4.out
 obtain ⟨m,hget,hset⟩:=dirD_any w4 q F4 (nn+1) _ hL4 no d HD.out
 have v3o:∀o,(w4.alloc o).cell? ⟨w.heap.size,3,none⟩=some (.int .i64 (no:Int)):=fun o=>(jAj ((QK w4 o _ (jAv HK04.out)).trans HK04.out)).trans rfl
 have v3d:∀o,(w4.drew.alloc o).cell? ⟨w.heap.size,3,none⟩=some (.int .i64 (no:Int)):=fun o=>(jAj ((QK w4.drew o _ (jAv HK04.out)).trans HK04.out)).trans rfl
 have HGET:Hid _:=hget
 have HSET:Hid _:=hset
 have HO4:Hid (Only F w w4):=ho4
 have HF4:Hid (∀k,k∈F4->k∈F\/w.heap.size<=k):=hF4
 clear hT4 hha ho4 hL4 hF4 hget hset
 go_wp2_with fail
 go_region_with (go_at_call 165;refine (HGET.out _ (by first | exact (Qq _ w4).drew | exact ((Qq _ w4).drew).alloc (Qj _) _ | exact ((Qq _ w4).alloc (Qj _) _).drew)).mono ?_;rintro e w5 ⟨rfl,hb5⟩;(first | (have kz:w5.heap[w4.heap.size]?=some (.cells #[.int .i64 0,.string { data:=#[] },.map none] 144 (0,0)):=(hb5.block w4.heap.size (by simp)).trans (jA2 w4 _);have z0:w5.cell? ⟨w4.heap.size,0,none⟩=some (.int .i64 0):=(jAj kz).trans rfl;have z1:w5.cell? ⟨w4.heap.size,1,none⟩=some (.string { data:=#[] }):=(jAj kz).trans rfl;have z2:w5.cell? ⟨w4.heap.size,2,none⟩=some (.map none):=(jAj kz).trans rfl;have fz:∀j,w5.frozen? ⟨w4.heap.size,j,none⟩=false:=fun j=>jAq kz;have HKZ:Hid _:=kz;clear kz;have HB5:Hid _:=hb5;clear hb5) | (have HB5:Hid _:=hb5;clear hb5)))
 all_goals
  first
   | (refine jBj (R:=fun W=>Exit.then _ _ _ _ W) (Q:=fun W6=>Hid (Below w4.heap.size w4 W6)/\Hid (W6.heap[w5.heap.size]?=some (.cells #[.int .i64 (d.1:Int),.string d.2,.map (some m)] 144 (0,0)))) _ ⟨((Qq w4.heap.size w4).drew.trans HB5.out).alloc HB5.out.size _,jA2 w5 _⟩ ?_
      rintro W6 ⟨HB6,HK6'⟩
      have hge:w4.heap.size<=w5.heap.size:=HB5.out.size
      have hk6:=HK6'.out
      generalize w5.heap.size=B at hk6 hge ⊢)
   | (refine jBj (R:=fun W=>Exit.then _ _ _ _ W) (Q:=fun W6=>Hid (Below w4.heap.size w4 W6)/\Hid (W6.heap[w4.heap.size]?=some (.cells #[.int .i64 (d.1:Int),.string d.2,.map (some m)] 144 (0,0)))) _ ⟨(((((Qq w4.heap.size w4).alloc (Qj _) _).drew.trans (HB5.out.mono (by simp))).setCell (Qj _) _).setCell (Qj _) _).setCell (Qj _) _,put3A HKZ.out⟩ ?_
      rintro W6 ⟨HB6,HK6'⟩
      have hk6:=HK6'.out
      clear HKZ HB5 z0 z1 z2 fz
      generalize hBB:w4.heap.size=B at hk6 ⊢
      have hge:w4.heap.size<=B:=Nat.le_of_eq hBB
      clear hBB)
  have y0:W6.cell? ⟨B,0,none⟩=some (.int .i64 (d.1:Int)):=(jAj hk6).trans rfl
  have y1:W6.cell? ⟨B,1,none⟩=some (.string d.2):=(jAj hk6).trans rfl
  have y2:W6.cell? ⟨B,2,none⟩=some (.map (some m)):=(jAj hk6).trans rfl
  have fzB:∀j,W6.frozen? ⟨B,j,none⟩=false:=fun j=>jAq hk6
  have HK16:Hid _:=(HB6.out.block _ (jAv HK14.out)).trans HK14.out
  have HK06:Hid _:=(HB6.out.block _ (jAv HK04.out)).trans HK04.out
  have u06:W6.cell? ⟨w.heap.size+1,0,none⟩=some (.int .i64 (p2:Int)):=(jAj HK16.out).trans rfl
  have u16:W6.cell? ⟨w.heap.size+1,1,none⟩=some (.string n2):=(jAj HK16.out).trans rfl
  obtain ⟨V,hV⟩:∃V,(W6.setCell ⟨B,0,none⟩ (.int .i64 (p2:Int))).setCell ⟨B,1,none⟩ (.string n2)=V:=⟨_,rfl⟩
  have hbV:Below w4.heap.size w4 V:=hV▸(HB6.out.setCell hge _).setCell hge _
  have kV:V.heap[B]?=some (.cells #[.int .i64 (p2:Int),.string n2,.map (some m)] 144 (0,0)):=hV▸QJ _ _ 1 _ _ _ (QJ _ _ 0 _ _ _ hk6)
  have hltB:w.heap.size+1<w4.heap.size:=jAv HK14.out
  have x0:V.cell? ⟨B,0,none⟩=some (.int .i64 (p2:Int)):=(jAj kV).trans rfl
  have x1:V.cell? ⟨B,1,none⟩=some (.string n2):=(jAj kV).trans rfl
  have x2:V.cell? ⟨B,2,none⟩=some (.map (some m)):=(jAj kV).trans rfl
  have v3V:V.cell? ⟨w.heap.size,3,none⟩=some (.int .i64 (no:Int)):=(jAj ((hbV.block _ (jAv HK04.out)).trans HK04.out)).trans rfl
  have hset:=HSET.out V.drew hbV.drew p2 n2
  clear hk6 kV hbV hltB hge v3o v3d
  go_wp2_with fail
  go_region_with (go_at_call 59;refine hset.mono ?_;rintro e w7 ⟨rfl,hT7⟩;have HT7:Hid (Turn F4 w4 w7 q (nn+1) (setD (jA6 (jA6 T par nm none) p2 n2 (some (1,no))) no (some (p2,n2)))):=hT7;clear hT7)
  all_goals
   go_wp2_with fail
   first
    | (refine Qw (results_none rfl _ _ _) rfl ?_;exact ⟨rfl,jC1 HO4.out HF4.out HT7.out⟩)
    | (go_end0;exact ⟨rfl,jC1 HO4.out HF4.out HT7.out⟩)
theorem moveF_any (w:World)(q:Nat)(F:List Nat)(nn:Nat)(T:Ts)(hL:Lay w q F nn T)(par no p2:Nat)(nm n2:ByteArray)(p0 s:Nat)(n0:ByteArray)(hd:T.F[no]?=some (some (p0,n0,s)))(ht:tk T par)(ht2:tk T p2)(hn:nm.size<=32)(hn2:n2.size<=32)(hnn:nn<maxLen) :
 Calls prog 128 #[.pointer (some ⟨q,0,none⟩),.agg #[.int .i64 (par:Int),.string nm,.int .i64 2,.int .i64 (no:Int)],.agg #[.int .i64 (p2:Int),.string n2]] w fun e w'=>e=.returned (.tuple #[])/\Turn F w w' q (nn+1) (setF (jA6 (jA6 T par nm none) p2 n2 (some (2,no))) no (some (p2,n2,s))):=by
 obtain ⟨W,hW,hb,k0,k1⟩:=jDy w #[.int .i64 (par:Int),.string nm,.int .i64 2,.int .i64 (no:Int)] #[.int .i64 (p2:Int),.string n2] 210 141
 have hLW:=hL.below hb
 have hun:=jI7 W q F nn T hLW par nm ht (by unfold maxLen;omega)
 have s0:W.cell? ⟨w.heap.size,0,none⟩=some (.int .i64 (par:Int)):=(jAj k0).trans rfl
 have s1:W.cell? ⟨w.heap.size,1,none⟩=some (.string nm):=(jAj k0).trans rfl
 have HK0:Hid _:=k0
 have HK1:Hid _:=k1
 have HLW:Hid _:=hLW
 have HBW:Hid (Below w.heap.size w W):=hb
 have HD:Hid (T.F[no]?=some (some (p0,n0,s))):=hd
 have HT2:Hid (tk T p2):=ht2
 clear hb k0 k1 hLW hL hd ht ht2
 go_enter func128,ntmps128
 go_wp2_with fail
 refine hun.mono ?_
 rintro e w3 ⟨rfl,hT3⟩
 have HK03:Hid _:=Turn.keep hT3 HLW.out HK0.out (by decide)
 have HK13:Hid _:=Turn.keep hT3 HLW.out HK1.out (by decide)
 obtain ⟨ho3,F3,hL3,hF3⟩:=hT3
 have hha:=jM5 w3 q F3 nn _ hL3 p2 n2 2 no HT2.out (by unfold maxLen;omega) hnn
 have t2:w3.cell? ⟨w.heap.size,2,none⟩=some (.int .i64 2):=(jAj HK03.out).trans rfl
 have t3:w3.cell? ⟨w.heap.size,3,none⟩=some (.int .i64 (no:Int)):=(jAj HK03.out).trans rfl
 have u0:w3.cell? ⟨w.heap.size+1,0,none⟩=some (.int .i64 (p2:Int)):=(jAj HK13.out).trans rfl
 have u1:w3.cell? ⟨w.heap.size+1,1,none⟩=some (.string n2):=(jAj HK13.out).trans rfl
 have HL3:Hid _:=hL3
 have HO3:Hid (Only F w w3):=(jBv (Only.refl F w) HBW.out).trans ho3
 have HF3:Hid (∀k,k∈F3->k∈F\/w.heap.size<=k):=fun k hk=>by
  rcases hF3 k hk with h | h
  ·exact .inl h
  ·exact .inr (Qk HBW.out.size h)
 clear ho3 hF3 hL3 hun
 go_wp2_with fail
 refine hha.mono ?_
 rintro e w4 ⟨rfl,hT4⟩
 have HK04:Hid _:=Turn.keep hT4 HL3.out HK03.out (by decide)
 have HK14:Hid _:=Turn.keep hT4 HL3.out HK13.out (by decide)
 have v2:w4.cell? ⟨w.heap.size,2,none⟩=some (.int .i64 2):=(jAj HK04.out).trans rfl
 have v3:w4.cell? ⟨w.heap.size,3,none⟩=some (.int .i64 (no:Int)):=(jAj HK04.out).trans rfl
 have HT4:Hid (Turn F w w4 q (nn+1) (jA6 (jA6 T par nm none) p2 n2 (some (2,no)))):=jC1 HO3.out HF3.out hT4
 obtain ⟨ho4,F4,hL4,hF4⟩:=HT4.out
 obtain ⟨hget,hset⟩:=fileF_any w4 q F4 (nn+1) _ hL4 no p0 s n0 HD.out
 have v3o:∀o,(w4.alloc o).cell? ⟨w.heap.size,3,none⟩=some (.int .i64 (no:Int)):=fun o=>(jAj ((QK w4 o _ (jAv HK04.out)).trans HK04.out)).trans rfl
 have v3d:∀o,(w4.drew.alloc o).cell? ⟨w.heap.size,3,none⟩=some (.int .i64 (no:Int)):=fun o=>(jAj ((QK w4.drew o _ (jAv HK04.out)).trans HK04.out)).trans rfl
 have HGET:Hid _:=hget
 have HSET:Hid _:=hset
 have HO4:Hid (Only F w w4):=ho4
 have HF4:Hid (∀k,k∈F4->k∈F\/w.heap.size<=k):=hF4
 clear hT4 hha ho4 hL4 hF4 hget hset
 go_wp2_with fail
 go_region_with (go_at_call 124;refine (HGET.out _ (by first | exact (Qq _ w4).drew | exact ((Qq _ w4).drew).alloc (Qj _) _ | exact ((Qq _ w4).alloc (Qj _) _).drew)).mono ?_;rintro e w5 ⟨rfl,hb5⟩;(first | (have kz:w5.heap[w4.heap.size]?=some (.cells #[.int .i64 0,.string { data:=#[] },.int .i64 0] 147 (0,0)):=(hb5.block w4.heap.size (by simp)).trans (jA2 w4 _);have z0:w5.cell? ⟨w4.heap.size,0,none⟩=some (.int .i64 0):=(jAj kz).trans rfl;have z1:w5.cell? ⟨w4.heap.size,1,none⟩=some (.string { data:=#[] }):=(jAj kz).trans rfl;have z2:w5.cell? ⟨w4.heap.size,2,none⟩=some (.int .i64 0):=(jAj kz).trans rfl;have fz:∀j,w5.frozen? ⟨w4.heap.size,j,none⟩=false:=fun j=>jAq kz;have HKZ:Hid _:=kz;clear kz;have HB5:Hid _:=hb5;clear hb5) | (have HB5:Hid _:=hb5;clear hb5)))
 all_goals
  first
   | (refine jBj (R:=fun W=>Exit.then _ _ _ _ W) (Q:=fun W6=>Hid (Below w4.heap.size w4 W6)/\Hid (W6.heap[w5.heap.size]?=some (.cells #[.int .i64 (p0:Int),.string n0,.int .i64 (s:Int)] 147 (0,0)))) _ ⟨((Qq w4.heap.size w4).drew.trans HB5.out).alloc HB5.out.size _,jA2 w5 _⟩ ?_
      rintro W6 ⟨HB6,HK6'⟩
      have hge:w4.heap.size<=w5.heap.size:=HB5.out.size
      have hk6:=HK6'.out
      generalize w5.heap.size=B at hk6 hge ⊢)
   | (refine jBj (R:=fun W=>Exit.then _ _ _ _ W) (Q:=fun W6=>Hid (Below w4.heap.size w4 W6)/\Hid (W6.heap[w4.heap.size]?=some (.cells #[.int .i64 (p0:Int),.string n0,.int .i64 (s:Int)] 147 (0,0)))) _ ⟨(((((Qq w4.heap.size w4).alloc (Qj _) _).drew.trans (HB5.out.mono (by simp))).setCell (Qj _) _).setCell (Qj _) _).setCell (Qj _) _,put3A HKZ.out⟩ ?_
      rintro W6 ⟨HB6,HK6'⟩
      have hk6:=HK6'.out
      clear HKZ HB5 z0 z1 z2 fz
      generalize hBB:w4.heap.size=B at hk6 ⊢
      have hge:w4.heap.size<=B:=Nat.le_of_eq hBB
      clear hBB)
  have y0:W6.cell? ⟨B,0,none⟩=some (.int .i64 (p0:Int)):=(jAj hk6).trans rfl
  have y1:W6.cell? ⟨B,1,none⟩=some (.string n0):=(jAj hk6).trans rfl
  have y2:W6.cell? ⟨B,2,none⟩=some (.int .i64 (s:Int)):=(jAj hk6).trans rfl
  have fzB:∀j,W6.frozen? ⟨B,j,none⟩=false:=fun j=>jAq hk6
  have HK16:Hid _:=(HB6.out.block _ (jAv HK14.out)).trans HK14.out
  have HK06:Hid _:=(HB6.out.block _ (jAv HK04.out)).trans HK04.out
  have u06:W6.cell? ⟨w.heap.size+1,0,none⟩=some (.int .i64 (p2:Int)):=(jAj HK16.out).trans rfl
  have u16:W6.cell? ⟨w.heap.size+1,1,none⟩=some (.string n2):=(jAj HK16.out).trans rfl
  obtain ⟨V,hV⟩:∃V,(W6.setCell ⟨B,0,none⟩ (.int .i64 (p2:Int))).setCell ⟨B,1,none⟩ (.string n2)=V:=⟨_,rfl⟩
  have hbV:Below w4.heap.size w4 V:=hV▸(HB6.out.setCell hge _).setCell hge _
  have kV:V.heap[B]?=some (.cells #[.int .i64 (p2:Int),.string n2,.int .i64 (s:Int)] 147 (0,0)):=hV▸QJ _ _ 1 _ _ _ (QJ _ _ 0 _ _ _ hk6)
  have hltB:w.heap.size+1<w4.heap.size:=jAv HK14.out
  have x0:V.cell? ⟨B,0,none⟩=some (.int .i64 (p2:Int)):=(jAj kV).trans rfl
  have x1:V.cell? ⟨B,1,none⟩=some (.string n2):=(jAj kV).trans rfl
  have x2:V.cell? ⟨B,2,none⟩=some (.int .i64 (s:Int)):=(jAj kV).trans rfl
  have v3V:V.cell? ⟨w.heap.size,3,none⟩=some (.int .i64 (no:Int)):=(jAj ((hbV.block _ (jAv HK04.out)).trans HK04.out)).trans rfl
  have hset:=HSET.out V.drew hbV.drew p2 n2
  clear hk6 kV hbV hltB hge v3o v3d
  go_wp2_with fail
  go_region_with (go_at_call 162;refine hset.mono ?_;rintro e w7 ⟨rfl,hT7⟩;have HT7:Hid (Turn F4 w4 w7 q (nn+1) (setF (jA6 (jA6 T par nm none) p2 n2 (some (2,no))) no (some (p2,n2,s)))):=hT7;clear hT7)
  all_goals
   go_wp2_with fail
   first
    | (refine Qw (results_none rfl _ _ _) rfl ?_;exact ⟨rfl,jC1 HO4.out HF4.out HT7.out⟩)
    | (go_end0;exact ⟨rfl,jC1 HO4.out HF4.out HT7.out⟩)
