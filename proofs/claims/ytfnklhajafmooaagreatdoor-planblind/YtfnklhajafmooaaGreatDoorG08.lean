import Derived.Test.YtfnklhajafmooaaGreatDoorG07
set_option maxHeartbeats 2000000
set_option maxRecDepth 20000
namespace Go.Proofs.YtfnklhajafmooaaGreatDoor.Tr
open Go.RowKit Go.Lib Go.Deep Go.Proofs.Tryz
theorem jI7 (w:World)(q:Nat)(F:List Nat)(nn:Nat)(T:Ts)(hL:Lay w q F nn T)(p:Nat)(n:ByteArray)(ht:tk T p)(hn:n.size<=maxLen) :
 Calls prog 130 #[.pointer (some ⟨q,0,none⟩),.agg #[.int .i64 (p:Int),.string n]] w fun e w'=>e=.returned (.tuple #[])/\Turn F w w' q nn (jA6 T p n none):=by
 obtain ⟨dv,fv,ld,lf,ms,rfl,hI⟩:=hL
 obtain ⟨d,hd⟩:=ht
 obtain ⟨W,hW,hb,k1⟩:=jA4 w #[.int .i64 (p:Int),.string n] 141
 have hin:=jD0 W.drew q dv fv ld lf ms nn T (hI.below hb.drew) p d hd
 have HX:Hid (∀w5,Below W.drew.heap.size W.drew w5->w5.cell? ⟨w.heap.size,0,none⟩=some (.int .i64 (p:Int))/\w5.cell? ⟨w.heap.size,1,none⟩=some (.string n) /\
  ∃w6,(Builtin.delete_ #[142,9] 0 #[.map (some (ms p)),.string n]).run prog w5=.ok (.tuple #[]) w6/\Hid (Turn (fp q dv fv T.D ms) w w6 q nn (jA6 T p n none))):=fun w5 hb5=>by
  have hb':Below w.heap.size w w5:=hb.drew.trans (hb5.mono hb.size)
  have q1:=(hb5.block _ (jAv k1)).trans k1
  refine ⟨(jAj q1).trans rfl,(jAj q1).trans rfl,?_⟩
  obtain ⟨Dt,hm,hT⟩:=(hI.below hb').hm p d hd
  obtain ⟨w6,hX1,hX2,hX3'⟩:=hm.drop (t:=142) jOj underlying142 (WideMaps.keyOf_string_mk underlying9 hn) 0
  have hX3:=hX3'.grown
  refine ⟨w6,hX1,jB8 (jBv (Only.refl _ _) hb') hX3 (fun k e=>.inl ?_),_,⟨dv,fv,ld,lf,ms,rfl,(hI.below hb').hang hd hX3 (Qj _) hX2 (hT.del (ky n))⟩,fun k hk=>.inl hk⟩
  injection e with e
  subst e
  exact jBx.2 (.inr (.inr (.inr ⟨p,d,hd,rfl⟩)))
 have i2:W.cell? ⟨w.heap.size,0,none⟩=some (.int .i64 (p:Int)):=(jAj k1).trans rfl
 have i3:W.cell? ⟨w.heap.size,1,none⟩=some (.string n):=(jAj k1).trans rfl
 generalize ms p=m at *
 generalize fp q dv fv T.D ms=F at *
 clear hI hd hb k1 hn
 go_enter func130,ntmps130
 go_wp2_with fail
 go_region_with (go_at_call 132;refine hin.mono ?_;rintro e w5 ⟨rfl,hb5⟩;obtain ⟨x2,x3,w6,hX1,HT⟩:=HX.out w5 hb5;clear hb5)
 all_goals
  go_wp2
  go_end0
  exact ⟨rfl,HT.out⟩
theorem jK2:(prog.info? 141).map (·.size)=some 2:=by kernel_rfl
theorem sizeDir:(prog.info? 144).map (·.size)=some 3:=by kernel_rfl
theorem jLz (w:World)(p:Nat)(n:ByteArray) :
 Calls prog 66 #[.agg #[.int .i64 (p:Int),.string n]] w fun e w'=>∃m,e=.returned (.agg #[.int .i64 (p:Int),.string n,.map (some m)])/\w.heap.size<=m/\w'.ownsMap prog 9 jF2 m 0 (.map [])/\Below w.heap.size w w':=by
 obtain ⟨W,hW,hb,k0,k1⟩:=jDy w #[.int .i64 (p:Int),.string n] #[.int .i64 0,.string { data:=#[] },.map none] 141 144
 have i2:W.cell? ⟨w.heap.size,0,none⟩=some (.int .i64 (p:Int)):=(jAj k0).trans rfl
 have i3:W.cell? ⟨w.heap.size,1,none⟩=some (.string n):=(jAj k0).trans rfl
 obtain ⟨V,hV⟩:∃V,W.alloc (.map #[] 0)=V:=⟨_,rfl⟩
 have hmm:=@run_makeMap prog
 have hown:V.ownsMap prog 9 jF2 W.heap.size 0 (.map []):=hV▸World.ownsMap_made W _ _ _
 have k1':V.heap[w.heap.size+1]?=_:=(hV▸QK W _ _ (jAv k1):V.heap[w.heap.size+1]?=W.heap[w.heap.size+1]?).trans k1
 have hbV:Below w.heap.size w V:=hV▸hb.alloc hb.size _
 have c0:V.cell? ⟨w.heap.size+1,0,none⟩=some (.int .i64 0):=(jAj k1').trans rfl
 have c1:V.cell? ⟨w.heap.size+1,1,none⟩=some (.string { data:=#[] }):=(jAj k1').trans rfl
 have c2:V.cell? ⟨w.heap.size+1,2,none⟩=some (.map none):=(jAj k1').trans rfl
 have fz:∀j,V.frozen? ⟨w.heap.size+1,j,none⟩=false:=fun j=>jAq k1'
 have HK:Hid _:=k1'
 have HP:Hid (∃m,m=W.heap.size/\w.heap.size<=m/\((V.setCell ⟨w.heap.size+1,0,none⟩ (.int .i64 (p:Int))).setCell ⟨w.heap.size+1,1,none⟩ (.string n) |>.setCell ⟨w.heap.size+1,2,none⟩ (.map (some W.heap.size))).ownsMap prog 9 jF2 m 0 (.map [])/\Below w.heap.size w ((V.setCell ⟨w.heap.size+1,0,none⟩ (.int .i64 (p:Int))).setCell ⟨w.heap.size+1,1,none⟩ (.string n) |>.setCell ⟨w.heap.size+1,2,none⟩ (.map (some W.heap.size)))):=by
  have hne:W.heap.size≠w.heap.size+1:=fun e=>by have:=jAv k1;omega
  refine ⟨_,rfl,hb.size,jC6 hown ?_,((hbV.setCell (by simp) _).setCell (by simp) _).setCell (by simp) _⟩
  rw[Qy _ _ _ _ hne,Qy _ _ _ _ hne,Qy _ _ _ _ hne]
 clear hb k0 k1 hown k1' hbV
 go_enter func66,ntmps66
 go_wp2_with fail
 refine Qw (jB9 rfl _ _ (w.heap.size+1) 144 _ (0,0) _ rfl (put3A HK.out) underlying144 rfl sizeDir) rfl ?_
 obtain ⟨m,rfl,h1,h2,h3⟩:=HP.out
 exact ⟨_,rfl,h1,h2,h3⟩
def spA (a:Sp):Array Value:=#[.int .i64 (a.par:Int),.string a.nm,.int .i64 (a.kd:Int),.int .i64 (a.no:Int)]
def spV (a:Sp):Value:=.agg (spA a)
theorem jD1:(prog.info? 210).map (·.size)=some 4:=by kernel_rfl
theorem _root_.Go.Proofs.YtfnklhajafmooaaGreatDoor.Pa.See.cellK {w:World}{a:Option Addr}{n c:Nat}{L:List ByteArray}(h:Pa.See w (.slice a n c) L){k:Nat}{x:ByteArray}(hk:L[k]?=some x):∃b off,a=some ⟨b,off,none⟩/\w.cell? ⟨b,off+k,none⟩=some (.string x):=by
 obtain ⟨a',c',e,_,_,h4⟩:=h
 injection e with e1 e2 e3
 subst e1
 obtain ⟨b,off,e,_,hc⟩:=h4 (fun e=>by rw[e] at hk;cases hk)
 exact ⟨b,off,e,hc k x hk⟩
theorem jM6 (w:World)(q:Nat)(F:List Nat)(nn:Nat)(T:Ts)(dp:Nat->Nat)(hL:Lay w q F nn T)(hv:Inv T dp)(v:Value)(L:List ByteArray)(hs:Pa.See w v L)(hnm:L.all Pa.nm=true)(hl:L.length<=16) :
 Calls prog 160 #[.pointer (some ⟨q,0,none⟩),v] w fun e w'=>e=.returned (.tuple #[spV (fndA T L).1,.int .i64 (fndA T L).2])/\Below w.heap.size w w':=by
 obtain ⟨dv,fv,ld,lf,ms,-,hI⟩:=hL
 have HA:Hid (∀W,Below w.heap.size w W->Pa.See W v L):=fun W hb=>hs.below hb
 obtain ⟨sa,sc,rfl,-⟩:=hs
 obtain ⟨n,hln⟩:∃n,L.length=n:=⟨_,rfl⟩
 obtain ⟨W,hW,hb,k0,k1⟩:=jDy w #[.int .i64 0,.string { data:=#[] },.int .i64 0,.int .i64 0] #[.int .i64 0,.string { data:=#[] },.int .i64 1,.int .i64 0] 210 210
 rw[hln] at HA hl ⊢
 have HL:Hid (L.length=n):=hln
 have HI:Hid (Inn w q dv fv ld lf ms nn T):=hI
 have HV:Hid (Inv T dp):=hv
 have HNM:Hid (∀x∈L,Pa.nm x=true):=List.all_eq_true.1 hnm
 have HB0:Hid (Below w.heap.size w W):=hb
 have HK0:Hid _:=k0
 have HK1:Hid (W.heap[w.heap.size+1]?=some (.cells (spA Sp.root) 210 (0,0))):=k1
 clear hI hv hb k0 k1 hln hnm
 subst hW
 go_enter func160,ntmps160
 go_wp2_with fail
 go_loopg [14] n (fun gk iv wr=>∃(k:Nat) (a:Sp),k+gk=n/\iv=.int .i64 (k:Int)/\Hid (Below w.heap.size w wr)/\Hid (wr.heap[w.heap.size]?=some (.cells #[.int .i64 0,.string { data:=#[] },.int .i64 0,.int .i64 0] 210 (0,0)))/\Hid (wr.heap[w.heap.size+1]?=some (.cells (spA a) 210 (0,0)))/\Hid (fndA T L=fnd T a (L.drop k))/\Hid (a.kd=0\/a.kd=2\/(a.kd=1/\tk T a.no)))
 case atStart=>exact ⟨0,Sp.root,by omega,rfl,HB0.out,HK0.out,HK1.out,rfl,.inr (.inr ⟨rfl,_,HV.out.root⟩)⟩
 case round =>
  obtain ⟨k,a,hk,rfl,HW,HZ,HS,HF,HD⟩:=hrel
  have HKG:Hid (k+gk=n):=hk
  have hkn:k<=n:=by omega
  clear hk
  obtain ⟨par,nm,kd,no⟩:=a
  have s0:wr.cell? ⟨w.heap.size+1,0,none⟩=some (.int .i64 (par:Int)):=(jAj HS.out).trans rfl
  have s1:wr.cell? ⟨w.heap.size+1,1,none⟩=some (.string nm):=(jAj HS.out).trans rfl
  have s2:wr.cell? ⟨w.heap.size+1,2,none⟩=some (.int .i64 (kd:Int)):=(jAj HS.out).trans rfl
  have s3:wr.cell? ⟨w.heap.size+1,3,none⟩=some (.int .i64 (no:Int)):=(jAj HS.out).trans rfl
  have z0:wr.cell? ⟨w.heap.size,0,none⟩=some (.int .i64 0):=(jAj HZ.out).trans rfl
  have z1:wr.cell? ⟨w.heap.size,1,none⟩=some (.string { data:=#[] }):=(jAj HZ.out).trans rfl
  have z2:wr.cell? ⟨w.heap.size,2,none⟩=some (.int .i64 0):=(jAj HZ.out).trans rfl
  have z3:wr.cell? ⟨w.heap.size,3,none⟩=some (.int .i64 0):=(jAj HZ.out).trans rfl
  have fzz:∀j,wr.frozen? ⟨w.heap.size,j,none⟩=false:=fun j=>jAq HZ.out
  by_cases hlt:k<n
  ·have hltI:(k:Int)<(n:Int):=by omega
   obtain ⟨x,hx⟩:∃x,L[k]?=some x:=⟨_,Qv (by have:=HL.out;omega)⟩
   obtain ⟨b,off,rfl,hc⟩:=(HA.out _ HW.out).cellK hx
   have hdr:L.drop k=x :: L.drop (k+1):=by
    have h2:=QV.1 hx
    rw[List.drop_eq_getElem_cons h2.1,h2.2]
   have HF2:Hid (fndA T L=fnd T ⟨par,nm,kd,no⟩ (x :: L.drop (k+1))):=by
    show _=_
    rw[HF.out,hdr]
   rcases HD.out with h0 | h2 | ⟨h1,ht⟩
   ·obtain rfl:kd=0:=h0
    have HE:Hid (fndA T L=(Sp.zero,120)):=HF2.out.trans rfl
    go_wp2_with fail
    refine Qw (jA8 rfl _ _ w.heap.size 210 _ (0,0) _ rfl (jEx HZ.out) underlying210 rfl jD1) rfl ?_
    rw[HE.out]
    exact ⟨rfl,(((HW.out.setCell (Qj _) _).setCell (Qj _) _).setCell (Qj _) _).setCell (Qj _) _⟩
   ·obtain rfl:kd=2:=h2
    have HE:Hid (fndA T L=(Sp.zero,122)):=HF2.out.trans rfl
    go_wp2_with fail
    refine Qw (jA8 rfl _ _ w.heap.size 210 _ (0,0) _ rfl (jEx HZ.out) underlying210 rfl jD1) rfl ?_
    rw[HE.out]
    exact ⟨rfl,(((HW.out.setCell (Qj _) _).setCell (Qj _) _).setCell (Qj _) _).setCell (Qj _) _⟩
   ·obtain rfl:kd=1:=h1
    obtain ⟨d,hd⟩:=ht
    obtain ⟨W3,hW3,hb3,k3⟩:=jA4 wr #[.int .i64 (no:Int),.string x] 141
    have hbW3:Below w.heap.size w W3:=HW.out.trans (hb3.mono HW.out.size)
    have hin:=jD0 W3.drew q dv fv ld lf ms nn T (HI.out.below hbW3.drew) no d hd
    have hxs:x.size<=maxLen:=by
     have:=(Pa.nm_free (HNM.out x (List.mem_of_getElem? hx))).2.2
     rw[<-ByteArray.size_data,<-Array.length_toList]
     unfold maxLen
     omega
    have HE:Hid (fndA T L=fnd T (nxt T ⟨par,nm,1,no⟩ x) (L.drop (k+1))):=HF2.out.trans rfl
    have HD2:Hid ((nxt T ⟨par,nm,1,no⟩ x).kd=0\/(nxt T ⟨par,nm,1,no⟩ x).kd=2\/((nxt T ⟨par,nm,1,no⟩ x).kd=1/\tk T (nxt T ⟨par,nm,1,no⟩ x).no)):=by
     rcases nxt_kd HV.out ⟨par,nm,1,no⟩ x with h | h | ⟨h,h5⟩
     ·exact .inl h
     ·exact .inr (.inl h)
     ·obtain ⟨_,n',h6,_⟩:=HV.out.dirD h5
      exact .inr (.inr ⟨h,_,h6⟩)
    obtain ⟨k2,hk2⟩:∃k2,(nxt T ⟨par,nm,1,no⟩ x).kd=k2:=⟨_,rfl⟩
    obtain ⟨n2,hn2⟩:∃n2,(nxt T ⟨par,nm,1,no⟩ x).no=n2:=⟨_,rfl⟩
    have HN2:Hid (nxt T ⟨par,nm,1,no⟩ x=⟨no,x,k2,n2⟩):=by rw[<-hk2,<-hn2];rfl
    have HX:Hid (∀w5,Below W3.drew.heap.size W3.drew w5->Below w.heap.size w w5/\w5.heap[wr.heap.size]?=some (.cells #[.int .i64 (no:Int),.string x] 141 (0,0))/\w5.heap[w.heap.size]?=some (.cells #[.int .i64 0,.string { data:=#[] },.int .i64 0,.int .i64 0] 210 (0,0))/\w5.heap[w.heap.size+1]?=some (.cells #[.int .i64 (par:Int),.string nm,.int .i64 1,.int .i64 (no:Int)] 210 (0,0)) /\
     (Instr.lookup 142 (.map (some (ms no))) (.string x) false).run prog w5=.ok (.agg #[.int .i64 (k2:Int),.int .i64 (n2:Int)]) w5):=fun w5 hb5=>by
     have hb':Below w.heap.size w w5:=hbW3.drew.trans (hb5.mono hbW3.size)
     obtain ⟨Dt,hm,hT⟩:=(HI.out.below hb').hm no d hd
     have hlo:=look_any hm hT x hxs
     refine ⟨hb',(hb5.block _ (jAv k3)).trans k3,?_,?_,?_⟩
     ·exact ((hb5.block _ (Qx (jAv HZ.out) hb3.size)).trans (hb3.block _ (jAv HZ.out))).trans HZ.out
     ·exact ((hb5.block _ (Qx (jAv HS.out) hb3.size)).trans (hb3.block _ (jAv HS.out))).trans HS.out
     ·rw[hlo,<-hk2,<-hn2]
      rfl
    have p0:W3.cell? ⟨wr.heap.size,0,none⟩=some (.int .i64 (no:Int)):=(jAj k3).trans rfl
    have p1:W3.cell? ⟨wr.heap.size,1,none⟩=some (.string x):=(jAj k3).trans rfl
    generalize ms no=m at *
    clear hd hx hdr hbW3 hb3 k3 hk2 hn2 hxs
    go_wp2_with fail
    go_region_with (go_at_call 132;refine hin.mono ?_;rintro e w5 ⟨rfl,hb5⟩;obtain ⟨hb',r0,r1,r2,hlo⟩:=HX.out w5 hb5;have HB5:Hid _:=hb';have HR1:Hid _:=r1;have HR2:Hid _:=r2;have g0:w5.cell? ⟨wr.heap.size,0,none⟩=some (.int .i64 (no:Int)):=(jAj r0).trans rfl;have g1:w5.cell? ⟨wr.heap.size,1,none⟩=some (.string x):=(jAj r0).trans rfl;have t0:w5.cell? ⟨w.heap.size+1,0,none⟩=some (.int .i64 (par:Int)):=(jAj r2).trans rfl;have t1:w5.cell? ⟨w.heap.size+1,1,none⟩=some (.string nm):=(jAj r2).trans rfl;have t2:w5.cell? ⟨w.heap.size+1,2,none⟩=some (.int .i64 1):=(jAj r2).trans rfl;have t3:w5.cell? ⟨w.heap.size+1,3,none⟩=some (.int .i64 (no:Int)):=(jAj r2).trans rfl;have fz5:∀j,w5.frozen? ⟨w.heap.size+1,j,none⟩=false:=fun j=>jAq r2;clear hb5 hb' r0 r1 r2)
    all_goals
     go_wp2_with fail
     go_roundg (gk-1)
     case measure=>have:=HKG.out;omega
     case rel =>
      refine ⟨k+1,⟨no,x,k2,n2⟩,by have:=HKG.out;omega,by go_num,?_,?_,?_,HE.out.trans (by rw[HN2.out]),by rw[<-HN2.out];exact HD2.out⟩
      ·exact (((HB5.out.setCell (by simp) _).setCell (by simp) _).setCell (by simp) _).setCell (by simp) _
      ·show _=_
       rw[Qy _ _ _ _ (by simp),Qy _ _ _ _ (by simp),Qy _ _ _ _ (by simp),Qy _ _ _ _ (by simp)]
       exact HR1.out
      ·exact jEx HR2.out
  ·obtain rfl:k=n:=by omega
   have hltI:¬(k:Int)<(k:Int):=by omega
   have HE:Hid (fndA T L=(⟨par,nm,kd,no⟩,0)):=by
    show _=_
    rw[HF.out,List.drop_eq_nil_of_le (by rw[HL.out];exact Qj _)]
    rfl
   go_wp2_with fail
   refine Qw (jA8 rfl _ _ w.heap.size 210 _ (0,0) _ rfl (jEx HZ.out) underlying210 rfl jD1) rfl ?_
   rw[HE.out]
   exact ⟨rfl,(((HW.out.setCell (Qj _) _).setCell (Qj _) _).setCell (Qj _) _).setCell (Qj _) _⟩
theorem jG3 (w:World)(q:Nat)(F:List Nat)(nn:Nat)(T:Ts)(dp:Nat->Nat)(hL:Lay w q F nn T)(hv:Inv T dp)(v:Value)(L:List ByteArray)(hs:Pa.See w v L)(hnm:L.all Pa.nm=true)(hl:L.length<=16) :
 Calls prog 125 #[.pointer (some ⟨q,0,none⟩),v] w fun e w'=>e=.returned (.tuple #[spV (fndS T L).1,.int .i64 (fndS T L).2])/\Below w.heap.size w w':=by
 obtain ⟨W,hW,hb,k0⟩:=jA4 w #[.int .i64 0,.string { data:=#[] },.int .i64 0,.int .i64 0] 210
 have hc:=jM6 W q F nn T dp (hL.below hb) hv v L (hs.below hb) hnm hl
 have HX:Hid (∀w2,Below W.heap.size W w2->Below w.heap.size w w2/\w2.heap[w.heap.size]?=some (.cells #[.int .i64 0,.string { data:=#[] },.int .i64 0,.int .i64 0] 210 (0,0))):=fun w2 h2=>⟨hb.trans (h2.mono hb.size),(h2.block _ (jAv k0)).trans k0⟩
 obtain ⟨sa,sc,rfl,-⟩:=hs
 generalize L.length=n at *
 have HE:Hid (fndS T L=if (fndA T L).2=0/\(fndA T L).1.kd=0 then (Sp.zero,120) else fndA T L):=rfl
 generalize fndA T L=r at *
 generalize fndS T L=r2 at *
 obtain ⟨⟨par,nm,kd,no⟩,e⟩:=r
 unfold spV spA at hc
 clear hL hv hnm hl hb k0
 have go:∀(r3:Sp × Int),(e=0/\kd=0->r3=(Sp.zero,120))->(¬(e=0/\kd=0)->r3=(⟨par,nm,kd,no⟩,e))->Calls prog 125 #[.pointer (some ⟨q,0,none⟩),.slice sa n sc] w fun e w'=>e=.returned (.tuple #[spV r3.1,.int .i64 r3.2])/\Below w.heap.size w w':=fun r3 hy hno=>by
  have fin:∀w2,Hid (w2.heap[w.heap.size]?=some (.cells #[.int .i64 0,.string { data:=#[] },.int .i64 0,.int .i64 0] 210 (0,0)))->Below w.heap.size w w2->∃W3,w2.alloc (.cells #[.int .i64 (par:Int),.string nm,.int .i64 (kd:Int),.int .i64 (no:Int)] 210)=W3/\Hid (Below w.heap.size w W3)/\Hid (W3.heap[w.heap.size]?=some (.cells #[.int .i64 0,.string { data:=#[] },.int .i64 0,.int .i64 0] 210 (0,0)))/\W3.heap[w2.heap.size]?=some (.cells #[.int .i64 (par:Int),.string nm,.int .i64 (kd:Int),.int .i64 (no:Int)] 210 (0,0)):=fun w2 hz hb=>by
   obtain ⟨W3,h3,hb3,k3⟩:=jA4 w2 #[.int .i64 (par:Int),.string nm,.int .i64 (kd:Int),.int .i64 (no:Int)] 210
   exact ⟨W3,h3,hb.trans (hb3.mono hb.size),(hb3.block _ (jAv hz.out)).trans hz.out,k3⟩
  have HFin:Hid _:=fin
  clear fin
  by_cases he:e=0
  ·subst he
   by_cases hk:kd=0
   ·obtain rfl:=hy ⟨rfl,hk⟩
    subst hk
    clear hy hno
    go_enter func125,ntmps125
    go_wp2_with fail
    refine hc.mono ?_
    rintro e w2 ⟨rfl,hb2⟩
    obtain ⟨hbw,q0⟩:=HX.out w2 hb2
    obtain ⟨W3,hW3',HB,HQ,k3⟩:=HFin.out w2 q0 hbw
    have hW3:w2.alloc (.cells #[.int .i64 (par:Int),.string nm,.int .i64 0,.int .i64 (no:Int)] 210)=W3:=hW3'
    clear hW3'
    have s0:W3.cell? ⟨w2.heap.size,0,none⟩=some (.int .i64 (par:Int)):=(jAj k3).trans rfl
    have s1:W3.cell? ⟨w2.heap.size,1,none⟩=some (.string nm):=(jAj k3).trans rfl
    have s2:W3.cell? ⟨w2.heap.size,2,none⟩=some (.int .i64 0):=(jAj k3).trans rfl
    have s3:W3.cell? ⟨w2.heap.size,3,none⟩=some (.int .i64 (no:Int)):=(jAj k3).trans rfl
    have z0:W3.cell? ⟨w.heap.size,0,none⟩=some (.int .i64 0):=(jAj HQ.out).trans rfl
    have z1:W3.cell? ⟨w.heap.size,1,none⟩=some (.string { data:=#[] }):=(jAj HQ.out).trans rfl
    have z2:W3.cell? ⟨w.heap.size,2,none⟩=some (.int .i64 0):=(jAj HQ.out).trans rfl
    have z3:W3.cell? ⟨w.heap.size,3,none⟩=some (.int .i64 0):=(jAj HQ.out).trans rfl
    have fzz:∀j,W3.frozen? ⟨w.heap.size,j,none⟩=false:=fun j=>jAq HQ.out
    clear hb2 hbw q0 k3 hc HX HFin
    go_wp2_with fail
    refine Qw (jA8 rfl _ _ w.heap.size 210 _ (0,0) _ rfl (jEx HQ.out) underlying210 rfl jD1) rfl ?_
    exact ⟨rfl,(((HB.out.setCell (Qj _) _).setCell (Qj _) _).setCell (Qj _) _).setCell (Qj _) _⟩
   ·obtain rfl:=hno (fun h=>hk h.2)
    have hkI:¬(kd:Int)=0:=by omega
    clear hy hno
    go_enter func125,ntmps125
    go_wp2_with fail
    refine hc.mono ?_
    rintro e w2 ⟨rfl,hb2⟩
    obtain ⟨hbw,q0⟩:=HX.out w2 hb2
    obtain ⟨W3,hW3',HB,HQ,k3⟩:=HFin.out w2 q0 hbw
    have hW3:w2.alloc (.cells #[.int .i64 (par:Int),.string nm,.int .i64 (kd:Int),.int .i64 (no:Int)] 210)=W3:=hW3'
    clear hW3'
    have s0:W3.cell? ⟨w2.heap.size,0,none⟩=some (.int .i64 (par:Int)):=(jAj k3).trans rfl
    have s1:W3.cell? ⟨w2.heap.size,1,none⟩=some (.string nm):=(jAj k3).trans rfl
    have s2:W3.cell? ⟨w2.heap.size,2,none⟩=some (.int .i64 (kd:Int)):=(jAj k3).trans rfl
    have s3:W3.cell? ⟨w2.heap.size,3,none⟩=some (.int .i64 (no:Int)):=(jAj k3).trans rfl
    have z0:W3.cell? ⟨w.heap.size,0,none⟩=some (.int .i64 0):=(jAj HQ.out).trans rfl
    have z1:W3.cell? ⟨w.heap.size,1,none⟩=some (.string { data:=#[] }):=(jAj HQ.out).trans rfl
    have z2:W3.cell? ⟨w.heap.size,2,none⟩=some (.int .i64 0):=(jAj HQ.out).trans rfl
    have z3:W3.cell? ⟨w.heap.size,3,none⟩=some (.int .i64 0):=(jAj HQ.out).trans rfl
    have fzz:∀j,W3.frozen? ⟨w.heap.size,j,none⟩=false:=fun j=>jAq HQ.out
    clear hb2 hbw q0 k3 hc HX HFin
    go_wp2_with fail
    refine Qw (jA8 rfl _ _ w.heap.size 210 _ (0,0) _ rfl (jEx HQ.out) underlying210 rfl jD1) rfl ?_
    exact ⟨rfl,(((HB.out.setCell (Qj _) _).setCell (Qj _) _).setCell (Qj _) _).setCell (Qj _) _⟩
  ·obtain rfl:=hno (fun h=>he h.1)
   clear hy hno
   go_enter func125,ntmps125
   go_wp2_with fail
   refine hc.mono ?_
   rintro e w2 ⟨rfl,hb2⟩
   obtain ⟨hbw,q0⟩:=HX.out w2 hb2
   obtain ⟨W3,hW3',HB,HQ,k3⟩:=HFin.out w2 q0 hbw
   have hW3:w2.alloc (.cells #[.int .i64 (par:Int),.string nm,.int .i64 (kd:Int),.int .i64 (no:Int)] 210)=W3:=hW3'
   clear hW3'
   have s0:W3.cell? ⟨w2.heap.size,0,none⟩=some (.int .i64 (par:Int)):=(jAj k3).trans rfl
   have s1:W3.cell? ⟨w2.heap.size,1,none⟩=some (.string nm):=(jAj k3).trans rfl
   have s2:W3.cell? ⟨w2.heap.size,2,none⟩=some (.int .i64 (kd:Int)):=(jAj k3).trans rfl
   have s3:W3.cell? ⟨w2.heap.size,3,none⟩=some (.int .i64 (no:Int)):=(jAj k3).trans rfl
   have z0:W3.cell? ⟨w.heap.size,0,none⟩=some (.int .i64 0):=(jAj HQ.out).trans rfl
   have z1:W3.cell? ⟨w.heap.size,1,none⟩=some (.string { data:=#[] }):=(jAj HQ.out).trans rfl
   have z2:W3.cell? ⟨w.heap.size,2,none⟩=some (.int .i64 0):=(jAj HQ.out).trans rfl
   have z3:W3.cell? ⟨w.heap.size,3,none⟩=some (.int .i64 0):=(jAj HQ.out).trans rfl
   have fzz:∀j,W3.frozen? ⟨w.heap.size,j,none⟩=false:=fun j=>jAq HQ.out
   clear hb2 hbw q0 k3 hc HX HFin
   go_wp2_with fail
   refine Qw (jA8 rfl _ _ w.heap.size 210 _ (0,0) _ rfl (jEx HQ.out) underlying210 rfl jD1) rfl ?_
   exact ⟨rfl,(((HB.out.setCell (Qj _) _).setCell (Qj _) _).setCell (Qj _) _).setCell (Qj _) _⟩
 refine go r2 (fun h=>?_) (fun h=>?_)
 ·exact HE.out.trans (if_pos h)
 ·exact HE.out.trans (if_neg h)
theorem jG4 (w:World)(q:Nat)(F:List Nat)(nn:Nat)(T:Ts)(dp:Nat->Nat)(hL:Lay w q F nn T)(hv:Inv T dp)(v:Value)(L:List ByteArray)(hs:Pa.See w v L)(hnm:L.all Pa.nm=true)(hl:L.length<=16) :
 Calls prog 122 #[.pointer (some ⟨q,0,none⟩),v] w fun e w'=>e=.returned (.tuple #[spV (fndF T L).1,.int .i64 (fndF T L).2])/\Below w.heap.size w w':=by
 obtain ⟨W,hW,hb,k0⟩:=jA4 w #[.int .i64 0,.string { data:=#[] },.int .i64 0,.int .i64 0] 210
 have hc:=jG3 W q F nn T dp (hL.below hb) hv v L (hs.below hb) hnm hl
 have HX:Hid (∀w2,Below W.heap.size W w2->Below w.heap.size w w2/\w2.heap[w.heap.size]?=some (.cells #[.int .i64 0,.string { data:=#[] },.int .i64 0,.int .i64 0] 210 (0,0))):=fun w2 h2=>⟨hb.trans (h2.mono hb.size),(h2.block _ (jAv k0)).trans k0⟩
 obtain ⟨sa,sc,rfl,-⟩:=hs
 generalize L.length=n at *
 have HE:Hid (fndF T L=if (fndS T L).2=0/\(fndS T L).1.kd=1 then (Sp.zero,123) else fndS T L):=rfl
 generalize fndS T L=r at *
 generalize fndF T L=r2 at *
 obtain ⟨⟨par,nm,kd,no⟩,e⟩:=r
 unfold spV spA at hc
 clear hL hv hnm hl hb k0
 have go:∀(r3:Sp × Int),(e=0/\kd=1->r3=(Sp.zero,123))->(¬(e=0/\kd=1)->r3=(⟨par,nm,kd,no⟩,e))->Calls prog 122 #[.pointer (some ⟨q,0,none⟩),.slice sa n sc] w fun e w'=>e=.returned (.tuple #[spV r3.1,.int .i64 r3.2])/\Below w.heap.size w w':=fun r3 hy hno=>by
  have fin:∀w2,Hid (w2.heap[w.heap.size]?=some (.cells #[.int .i64 0,.string { data:=#[] },.int .i64 0,.int .i64 0] 210 (0,0)))->Below w.heap.size w w2->∃W3,w2.alloc (.cells #[.int .i64 (par:Int),.string nm,.int .i64 (kd:Int),.int .i64 (no:Int)] 210)=W3/\Hid (Below w.heap.size w W3)/\Hid (W3.heap[w.heap.size]?=some (.cells #[.int .i64 0,.string { data:=#[] },.int .i64 0,.int .i64 0] 210 (0,0)))/\W3.heap[w2.heap.size]?=some (.cells #[.int .i64 (par:Int),.string nm,.int .i64 (kd:Int),.int .i64 (no:Int)] 210 (0,0)):=fun w2 hz hb=>by
   obtain ⟨W3,h3,hb3,k3⟩:=jA4 w2 #[.int .i64 (par:Int),.string nm,.int .i64 (kd:Int),.int .i64 (no:Int)] 210
   exact ⟨W3,h3,hb.trans (hb3.mono hb.size),(hb3.block _ (jAv hz.out)).trans hz.out,k3⟩
  have HFin:Hid _:=fin
  clear fin
  by_cases he:e=0
  ·subst he
   by_cases hk:kd=1
   ·obtain rfl:=hy ⟨rfl,hk⟩
    subst hk
    clear hy hno
    go_enter func122,ntmps122
    go_wp2_with fail
    refine hc.mono ?_
    rintro e w2 ⟨rfl,hb2⟩
    obtain ⟨hbw,q0⟩:=HX.out w2 hb2
    obtain ⟨W3,hW3',HB,HQ,k3⟩:=HFin.out w2 q0 hbw
    have hW3:w2.alloc (.cells #[.int .i64 (par:Int),.string nm,.int .i64 1,.int .i64 (no:Int)] 210)=W3:=hW3'
    clear hW3'
    have s0:W3.cell? ⟨w2.heap.size,0,none⟩=some (.int .i64 (par:Int)):=(jAj k3).trans rfl
    have s1:W3.cell? ⟨w2.heap.size,1,none⟩=some (.string nm):=(jAj k3).trans rfl
    have s2:W3.cell? ⟨w2.heap.size,2,none⟩=some (.int .i64 1):=(jAj k3).trans rfl
    have s3:W3.cell? ⟨w2.heap.size,3,none⟩=some (.int .i64 (no:Int)):=(jAj k3).trans rfl
    have z0:W3.cell? ⟨w.heap.size,0,none⟩=some (.int .i64 0):=(jAj HQ.out).trans rfl
    have z1:W3.cell? ⟨w.heap.size,1,none⟩=some (.string { data:=#[] }):=(jAj HQ.out).trans rfl
    have z2:W3.cell? ⟨w.heap.size,2,none⟩=some (.int .i64 0):=(jAj HQ.out).trans rfl
    have z3:W3.cell? ⟨w.heap.size,3,none⟩=some (.int .i64 0):=(jAj HQ.out).trans rfl
    have fzz:∀j,W3.frozen? ⟨w.heap.size,j,none⟩=false:=fun j=>jAq HQ.out
    clear hb2 hbw q0 k3 hc HX HFin
    go_wp2_with fail
    refine Qw (jA8 rfl _ _ w.heap.size 210 _ (0,0) _ rfl (jEx HQ.out) underlying210 rfl jD1) rfl ?_
    exact ⟨rfl,(((HB.out.setCell (Qj _) _).setCell (Qj _) _).setCell (Qj _) _).setCell (Qj _) _⟩
   ·obtain rfl:=hno (fun h=>hk h.2)
    have hkI:¬(kd:Int)=1:=by omega
    clear hy hno
    go_enter func122,ntmps122
    go_wp2_with fail
    refine hc.mono ?_
    rintro e w2 ⟨rfl,hb2⟩
    obtain ⟨hbw,q0⟩:=HX.out w2 hb2
    obtain ⟨W3,hW3',HB,HQ,k3⟩:=HFin.out w2 q0 hbw
    have hW3:w2.alloc (.cells #[.int .i64 (par:Int),.string nm,.int .i64 (kd:Int),.int .i64 (no:Int)] 210)=W3:=hW3'
    clear hW3'
    have s0:W3.cell? ⟨w2.heap.size,0,none⟩=some (.int .i64 (par:Int)):=(jAj k3).trans rfl
    have s1:W3.cell? ⟨w2.heap.size,1,none⟩=some (.string nm):=(jAj k3).trans rfl
    have s2:W3.cell? ⟨w2.heap.size,2,none⟩=some (.int .i64 (kd:Int)):=(jAj k3).trans rfl
    have s3:W3.cell? ⟨w2.heap.size,3,none⟩=some (.int .i64 (no:Int)):=(jAj k3).trans rfl
    have z0:W3.cell? ⟨w.heap.size,0,none⟩=some (.int .i64 0):=(jAj HQ.out).trans rfl
    have z1:W3.cell? ⟨w.heap.size,1,none⟩=some (.string { data:=#[] }):=(jAj HQ.out).trans rfl
    have z2:W3.cell? ⟨w.heap.size,2,none⟩=some (.int .i64 0):=(jAj HQ.out).trans rfl
    have z3:W3.cell? ⟨w.heap.size,3,none⟩=some (.int .i64 0):=(jAj HQ.out).trans rfl
    have fzz:∀j,W3.frozen? ⟨w.heap.size,j,none⟩=false:=fun j=>jAq HQ.out
    clear hb2 hbw q0 k3 hc HX HFin
    go_wp2_with fail
    refine Qw (jA8 rfl _ _ w.heap.size 210 _ (0,0) _ rfl (jEx HQ.out) underlying210 rfl jD1) rfl ?_
    exact ⟨rfl,(((HB.out.setCell (Qj _) _).setCell (Qj _) _).setCell (Qj _) _).setCell (Qj _) _⟩
  ·obtain rfl:=hno (fun h=>he h.1)
   clear hy hno
   go_enter func122,ntmps122
   go_wp2_with fail
   refine hc.mono ?_
   rintro e w2 ⟨rfl,hb2⟩
   obtain ⟨hbw,q0⟩:=HX.out w2 hb2
   obtain ⟨W3,hW3',HB,HQ,k3⟩:=HFin.out w2 q0 hbw
   have hW3:w2.alloc (.cells #[.int .i64 (par:Int),.string nm,.int .i64 (kd:Int),.int .i64 (no:Int)] 210)=W3:=hW3'
   clear hW3'
   have s0:W3.cell? ⟨w2.heap.size,0,none⟩=some (.int .i64 (par:Int)):=(jAj k3).trans rfl
   have s1:W3.cell? ⟨w2.heap.size,1,none⟩=some (.string nm):=(jAj k3).trans rfl
   have s2:W3.cell? ⟨w2.heap.size,2,none⟩=some (.int .i64 (kd:Int)):=(jAj k3).trans rfl
   have s3:W3.cell? ⟨w2.heap.size,3,none⟩=some (.int .i64 (no:Int)):=(jAj k3).trans rfl
   have z0:W3.cell? ⟨w.heap.size,0,none⟩=some (.int .i64 0):=(jAj HQ.out).trans rfl
   have z1:W3.cell? ⟨w.heap.size,1,none⟩=some (.string { data:=#[] }):=(jAj HQ.out).trans rfl
   have z2:W3.cell? ⟨w.heap.size,2,none⟩=some (.int .i64 0):=(jAj HQ.out).trans rfl
   have z3:W3.cell? ⟨w.heap.size,3,none⟩=some (.int .i64 0):=(jAj HQ.out).trans rfl
   have fzz:∀j,W3.frozen? ⟨w.heap.size,j,none⟩=false:=fun j=>jAq HQ.out
   clear hb2 hbw q0 k3 hc HX HFin
   go_wp2_with fail
   refine Qw (jA8 rfl _ _ w.heap.size 210 _ (0,0) _ rfl (jEx HQ.out) underlying210 rfl jD1) rfl ?_
   exact ⟨rfl,(((HB.out.setCell (Qj _) _).setCell (Qj _) _).setCell (Qj _) _).setCell (Qj _) _⟩
 refine go r2 (fun h=>?_) (fun h=>?_)
 ·exact HE.out.trans (if_pos h)
 ·exact HE.out.trans (if_neg h)
theorem jOz (w:World)(q:Nat)(F:List Nat)(nn:Nat)(T:Ts)(dp:Nat->Nat)(hL:Lay w q F nn T)(hv:Inv T dp)(v:Value)(L:List ByteArray)(hs:Pa.See w v L)(hnm:L.all Pa.nm=true)(hl:L.length<=16) :
 Calls prog 131 #[.pointer (some ⟨q,0,none⟩),v] w fun e w'=>e=.returned (.tuple #[spV (fndD T L).1,.int .i64 (fndD T L).2])/\Below w.heap.size w w':=by
 obtain ⟨W,hW,hb,k0⟩:=jA4 w #[.int .i64 0,.string { data:=#[] },.int .i64 0,.int .i64 0] 210
 have hc:=jG3 W q F nn T dp (hL.below hb) hv v L (hs.below hb) hnm hl
 have HX:Hid (∀w2,Below W.heap.size W w2->Below w.heap.size w w2/\w2.heap[w.heap.size]?=some (.cells #[.int .i64 0,.string { data:=#[] },.int .i64 0,.int .i64 0] 210 (0,0))):=fun w2 h2=>⟨hb.trans (h2.mono hb.size),(h2.block _ (jAv k0)).trans k0⟩
 obtain ⟨sa,sc,rfl,-⟩:=hs
 generalize L.length=n at *
 have HE:Hid (fndD T L=if (fndS T L).2=0/\(fndS T L).1.kd=2 then (Sp.zero,122) else fndS T L):=rfl
 generalize fndS T L=r at *
 generalize fndD T L=r2 at *
 obtain ⟨⟨par,nm,kd,no⟩,e⟩:=r
 unfold spV spA at hc
 clear hL hv hnm hl hb k0
 have go:∀(r3:Sp × Int),(e=0/\kd=2->r3=(Sp.zero,122))->(¬(e=0/\kd=2)->r3=(⟨par,nm,kd,no⟩,e))->Calls prog 131 #[.pointer (some ⟨q,0,none⟩),.slice sa n sc] w fun e w'=>e=.returned (.tuple #[spV r3.1,.int .i64 r3.2])/\Below w.heap.size w w':=fun r3 hy hno=>by
  have fin:∀w2,Hid (w2.heap[w.heap.size]?=some (.cells #[.int .i64 0,.string { data:=#[] },.int .i64 0,.int .i64 0] 210 (0,0)))->Below w.heap.size w w2->∃W3,w2.alloc (.cells #[.int .i64 (par:Int),.string nm,.int .i64 (kd:Int),.int .i64 (no:Int)] 210)=W3/\Hid (Below w.heap.size w W3)/\Hid (W3.heap[w.heap.size]?=some (.cells #[.int .i64 0,.string { data:=#[] },.int .i64 0,.int .i64 0] 210 (0,0)))/\W3.heap[w2.heap.size]?=some (.cells #[.int .i64 (par:Int),.string nm,.int .i64 (kd:Int),.int .i64 (no:Int)] 210 (0,0)):=fun w2 hz hb=>by
   obtain ⟨W3,h3,hb3,k3⟩:=jA4 w2 #[.int .i64 (par:Int),.string nm,.int .i64 (kd:Int),.int .i64 (no:Int)] 210
   exact ⟨W3,h3,hb.trans (hb3.mono hb.size),(hb3.block _ (jAv hz.out)).trans hz.out,k3⟩
  have HFin:Hid _:=fin
  clear fin
  by_cases he:e=0
  ·subst he
   by_cases hk:kd=2
   ·obtain rfl:=hy ⟨rfl,hk⟩
    subst hk
    clear hy hno
    go_enter func131,ntmps131
    go_wp2_with fail
    refine hc.mono ?_
    rintro e w2 ⟨rfl,hb2⟩
    obtain ⟨hbw,q0⟩:=HX.out w2 hb2
    obtain ⟨W3,hW3',HB,HQ,k3⟩:=HFin.out w2 q0 hbw
    have hW3:w2.alloc (.cells #[.int .i64 (par:Int),.string nm,.int .i64 2,.int .i64 (no:Int)] 210)=W3:=hW3'
    clear hW3'
    have s0:W3.cell? ⟨w2.heap.size,0,none⟩=some (.int .i64 (par:Int)):=(jAj k3).trans rfl
    have s1:W3.cell? ⟨w2.heap.size,1,none⟩=some (.string nm):=(jAj k3).trans rfl
    have s2:W3.cell? ⟨w2.heap.size,2,none⟩=some (.int .i64 2):=(jAj k3).trans rfl
    have s3:W3.cell? ⟨w2.heap.size,3,none⟩=some (.int .i64 (no:Int)):=(jAj k3).trans rfl
    have z0:W3.cell? ⟨w.heap.size,0,none⟩=some (.int .i64 0):=(jAj HQ.out).trans rfl
    have z1:W3.cell? ⟨w.heap.size,1,none⟩=some (.string { data:=#[] }):=(jAj HQ.out).trans rfl
    have z2:W3.cell? ⟨w.heap.size,2,none⟩=some (.int .i64 0):=(jAj HQ.out).trans rfl
    have z3:W3.cell? ⟨w.heap.size,3,none⟩=some (.int .i64 0):=(jAj HQ.out).trans rfl
    have fzz:∀j,W3.frozen? ⟨w.heap.size,j,none⟩=false:=fun j=>jAq HQ.out
    clear hb2 hbw q0 k3 hc HX HFin
    go_wp2_with fail
    refine Qw (jA8 rfl _ _ w.heap.size 210 _ (0,0) _ rfl (jEx HQ.out) underlying210 rfl jD1) rfl ?_
    exact ⟨rfl,(((HB.out.setCell (Qj _) _).setCell (Qj _) _).setCell (Qj _) _).setCell (Qj _) _⟩
   ·obtain rfl:=hno (fun h=>hk h.2)
    have hkI:¬(kd:Int)=2:=by omega
    clear hy hno
    go_enter func131,ntmps131
    go_wp2_with fail
    refine hc.mono ?_
    rintro e w2 ⟨rfl,hb2⟩
    obtain ⟨hbw,q0⟩:=HX.out w2 hb2
    obtain ⟨W3,hW3',HB,HQ,k3⟩:=HFin.out w2 q0 hbw
    have hW3:w2.alloc (.cells #[.int .i64 (par:Int),.string nm,.int .i64 (kd:Int),.int .i64 (no:Int)] 210)=W3:=hW3'
    clear hW3'
    have s0:W3.cell? ⟨w2.heap.size,0,none⟩=some (.int .i64 (par:Int)):=(jAj k3).trans rfl
    have s1:W3.cell? ⟨w2.heap.size,1,none⟩=some (.string nm):=(jAj k3).trans rfl
    have s2:W3.cell? ⟨w2.heap.size,2,none⟩=some (.int .i64 (kd:Int)):=(jAj k3).trans rfl
    have s3:W3.cell? ⟨w2.heap.size,3,none⟩=some (.int .i64 (no:Int)):=(jAj k3).trans rfl
    have z0:W3.cell? ⟨w.heap.size,0,none⟩=some (.int .i64 0):=(jAj HQ.out).trans rfl
    have z1:W3.cell? ⟨w.heap.size,1,none⟩=some (.string { data:=#[] }):=(jAj HQ.out).trans rfl
    have z2:W3.cell? ⟨w.heap.size,2,none⟩=some (.int .i64 0):=(jAj HQ.out).trans rfl
    have z3:W3.cell? ⟨w.heap.size,3,none⟩=some (.int .i64 0):=(jAj HQ.out).trans rfl
    have fzz:∀j,W3.frozen? ⟨w.heap.size,j,none⟩=false:=fun j=>jAq HQ.out
    clear hb2 hbw q0 k3 hc HX HFin
    go_wp2_with fail
    refine Qw (jA8 rfl _ _ w.heap.size 210 _ (0,0) _ rfl (jEx HQ.out) underlying210 rfl jD1) rfl ?_
    exact ⟨rfl,(((HB.out.setCell (Qj _) _).setCell (Qj _) _).setCell (Qj _) _).setCell (Qj _) _⟩
  ·obtain rfl:=hno (fun h=>he h.1)
   clear hy hno
   go_enter func131,ntmps131
   go_wp2_with fail
   refine hc.mono ?_
   rintro e w2 ⟨rfl,hb2⟩
   obtain ⟨hbw,q0⟩:=HX.out w2 hb2
   obtain ⟨W3,hW3',HB,HQ,k3⟩:=HFin.out w2 q0 hbw
   have hW3:w2.alloc (.cells #[.int .i64 (par:Int),.string nm,.int .i64 (kd:Int),.int .i64 (no:Int)] 210)=W3:=hW3'
   clear hW3'
   have s0:W3.cell? ⟨w2.heap.size,0,none⟩=some (.int .i64 (par:Int)):=(jAj k3).trans rfl
   have s1:W3.cell? ⟨w2.heap.size,1,none⟩=some (.string nm):=(jAj k3).trans rfl
   have s2:W3.cell? ⟨w2.heap.size,2,none⟩=some (.int .i64 (kd:Int)):=(jAj k3).trans rfl
   have s3:W3.cell? ⟨w2.heap.size,3,none⟩=some (.int .i64 (no:Int)):=(jAj k3).trans rfl
   have z0:W3.cell? ⟨w.heap.size,0,none⟩=some (.int .i64 0):=(jAj HQ.out).trans rfl
   have z1:W3.cell? ⟨w.heap.size,1,none⟩=some (.string { data:=#[] }):=(jAj HQ.out).trans rfl
   have z2:W3.cell? ⟨w.heap.size,2,none⟩=some (.int .i64 0):=(jAj HQ.out).trans rfl
   have z3:W3.cell? ⟨w.heap.size,3,none⟩=some (.int .i64 0):=(jAj HQ.out).trans rfl
   have fzz:∀j,W3.frozen? ⟨w.heap.size,j,none⟩=false:=fun j=>jAq HQ.out
   clear hb2 hbw q0 k3 hc HX HFin
   go_wp2_with fail
   refine Qw (jA8 rfl _ _ w.heap.size 210 _ (0,0) _ rfl (jEx HQ.out) underlying210 rfl jD1) rfl ?_
   exact ⟨rfl,(((HB.out.setCell (Qj _) _).setCell (Qj _) _).setCell (Qj _) _).setCell (Qj _) _⟩
 refine go r2 (fun h=>?_) (fun h=>?_)
 ·exact HE.out.trans (if_pos h)
 ·exact HE.out.trans (if_neg h)
theorem jL4 (w:World)(q:Nat)(F:List Nat)(nn:Nat)(T:Ts)(dp:Nat->Nat)(hL:Lay w q F nn T)(hv:Inv T dp)(v:Value)(L:List ByteArray)(hs:Pa.See w v L)(hnm:L.all Pa.nm=true)(hl:L.length<=16) :
 Calls prog 116 #[.pointer (some ⟨q,0,none⟩),v] w fun e w'=>e=.returned (.tuple #[spV (fndN T L).1,.int .i64 (fndN T L).2])/\Below w.heap.size w w':=by
 obtain ⟨W,hW,hb,k0⟩:=jA4 w #[.int .i64 0,.string { data:=#[] },.int .i64 0,.int .i64 0] 210
 have hc:=jM6 W q F nn T dp (hL.below hb) hv v L (hs.below hb) hnm hl
 have HX:Hid (∀w2,Below W.heap.size W w2->Below w.heap.size w w2/\w2.heap[w.heap.size]?=some (.cells #[.int .i64 0,.string { data:=#[] },.int .i64 0,.int .i64 0] 210 (0,0))):=fun w2 h2=>⟨hb.trans (h2.mono hb.size),(h2.block _ (jAv k0)).trans k0⟩
 obtain ⟨sa,sc,rfl,-⟩:=hs
 generalize L.length=n at *
 have HE:Hid (fndN T L=if (fndA T L).2=0/\(fndA T L).1.kd≠0 then (Sp.zero,121) else fndA T L):=rfl
 generalize fndA T L=r at *
 generalize fndN T L=r2 at *
 obtain ⟨⟨par,nm,kd,no⟩,e⟩:=r
 unfold spV spA at hc
 clear hL hv hnm hl hb k0
 have go:∀(r3:Sp × Int),(e=0/\kd≠0->r3=(Sp.zero,121))->(¬(e=0/\kd≠0)->r3=(⟨par,nm,kd,no⟩,e))->Calls prog 116 #[.pointer (some ⟨q,0,none⟩),.slice sa n sc] w fun e w'=>e=.returned (.tuple #[spV r3.1,.int .i64 r3.2])/\Below w.heap.size w w':=fun r3 hy hno=>by
  have fin:∀w2,Hid (w2.heap[w.heap.size]?=some (.cells #[.int .i64 0,.string { data:=#[] },.int .i64 0,.int .i64 0] 210 (0,0)))->Below w.heap.size w w2->∃W3,w2.alloc (.cells #[.int .i64 (par:Int),.string nm,.int .i64 (kd:Int),.int .i64 (no:Int)] 210)=W3/\Hid (Below w.heap.size w W3)/\Hid (W3.heap[w.heap.size]?=some (.cells #[.int .i64 0,.string { data:=#[] },.int .i64 0,.int .i64 0] 210 (0,0)))/\W3.heap[w2.heap.size]?=some (.cells #[.int .i64 (par:Int),.string nm,.int .i64 (kd:Int),.int .i64 (no:Int)] 210 (0,0)):=fun w2 hz hb=>by
   obtain ⟨W3,h3,hb3,k3⟩:=jA4 w2 #[.int .i64 (par:Int),.string nm,.int .i64 (kd:Int),.int .i64 (no:Int)] 210
   exact ⟨W3,h3,hb.trans (hb3.mono hb.size),(hb3.block _ (jAv hz.out)).trans hz.out,k3⟩
  have HFin:Hid _:=fin
  clear fin
  by_cases he:e=0
  ·subst he
   by_cases hk:kd≠0
   ·obtain rfl:=hy ⟨rfl,hk⟩
    have hkI:¬(kd:Int)=0:=by omega
    clear hy hno
    go_enter func116,ntmps116
    go_wp2_with fail
    refine hc.mono ?_
    rintro e w2 ⟨rfl,hb2⟩
    obtain ⟨hbw,q0⟩:=HX.out w2 hb2
    obtain ⟨W3,hW3',HB,HQ,k3⟩:=HFin.out w2 q0 hbw
    have hW3:w2.alloc (.cells #[.int .i64 (par:Int),.string nm,.int .i64 (kd:Int),.int .i64 (no:Int)] 210)=W3:=hW3'
    clear hW3'
    have s0:W3.cell? ⟨w2.heap.size,0,none⟩=some (.int .i64 (par:Int)):=(jAj k3).trans rfl
    have s1:W3.cell? ⟨w2.heap.size,1,none⟩=some (.string nm):=(jAj k3).trans rfl
    have s2:W3.cell? ⟨w2.heap.size,2,none⟩=some (.int .i64 (kd:Int)):=(jAj k3).trans rfl
    have s3:W3.cell? ⟨w2.heap.size,3,none⟩=some (.int .i64 (no:Int)):=(jAj k3).trans rfl
    have z0:W3.cell? ⟨w.heap.size,0,none⟩=some (.int .i64 0):=(jAj HQ.out).trans rfl
    have z1:W3.cell? ⟨w.heap.size,1,none⟩=some (.string { data:=#[] }):=(jAj HQ.out).trans rfl
    have z2:W3.cell? ⟨w.heap.size,2,none⟩=some (.int .i64 0):=(jAj HQ.out).trans rfl
    have z3:W3.cell? ⟨w.heap.size,3,none⟩=some (.int .i64 0):=(jAj HQ.out).trans rfl
    have fzz:∀j,W3.frozen? ⟨w.heap.size,j,none⟩=false:=fun j=>jAq HQ.out
    clear hb2 hbw q0 k3 hc HX HFin
    go_wp2_with fail
    refine Qw (jA8 rfl _ _ w.heap.size 210 _ (0,0) _ rfl (jEx HQ.out) underlying210 rfl jD1) rfl ?_
    exact ⟨rfl,(((HB.out.setCell (Qj _) _).setCell (Qj _) _).setCell (Qj _) _).setCell (Qj _) _⟩
   ·obtain rfl:=hno (fun h=>hk h.2)
    obtain rfl:kd=0:=by omega
    clear hy hno
    go_enter func116,ntmps116
    go_wp2_with fail
    refine hc.mono ?_
    rintro e w2 ⟨rfl,hb2⟩
    obtain ⟨hbw,q0⟩:=HX.out w2 hb2
    obtain ⟨W3,hW3',HB,HQ,k3⟩:=HFin.out w2 q0 hbw
    have hW3:w2.alloc (.cells #[.int .i64 (par:Int),.string nm,.int .i64 0,.int .i64 (no:Int)] 210)=W3:=hW3'
    clear hW3'
    have s0:W3.cell? ⟨w2.heap.size,0,none⟩=some (.int .i64 (par:Int)):=(jAj k3).trans rfl
    have s1:W3.cell? ⟨w2.heap.size,1,none⟩=some (.string nm):=(jAj k3).trans rfl
    have s2:W3.cell? ⟨w2.heap.size,2,none⟩=some (.int .i64 0):=(jAj k3).trans rfl
    have s3:W3.cell? ⟨w2.heap.size,3,none⟩=some (.int .i64 (no:Int)):=(jAj k3).trans rfl
    have z0:W3.cell? ⟨w.heap.size,0,none⟩=some (.int .i64 0):=(jAj HQ.out).trans rfl
    have z1:W3.cell? ⟨w.heap.size,1,none⟩=some (.string { data:=#[] }):=(jAj HQ.out).trans rfl
    have z2:W3.cell? ⟨w.heap.size,2,none⟩=some (.int .i64 0):=(jAj HQ.out).trans rfl
    have z3:W3.cell? ⟨w.heap.size,3,none⟩=some (.int .i64 0):=(jAj HQ.out).trans rfl
    have fzz:∀j,W3.frozen? ⟨w.heap.size,j,none⟩=false:=fun j=>jAq HQ.out
    clear hb2 hbw q0 k3 hc HX HFin
    go_wp2_with fail
    refine Qw (jA8 rfl _ _ w.heap.size 210 _ (0,0) _ rfl (jEx HQ.out) underlying210 rfl jD1) rfl ?_
    exact ⟨rfl,(((HB.out.setCell (Qj _) _).setCell (Qj _) _).setCell (Qj _) _).setCell (Qj _) _⟩
  ·obtain rfl:=hno (fun h=>he h.1)
   clear hy hno
   go_enter func116,ntmps116
   go_wp2_with fail
   refine hc.mono ?_
   rintro e w2 ⟨rfl,hb2⟩
   obtain ⟨hbw,q0⟩:=HX.out w2 hb2
   obtain ⟨W3,hW3',HB,HQ,k3⟩:=HFin.out w2 q0 hbw
   have hW3:w2.alloc (.cells #[.int .i64 (par:Int),.string nm,.int .i64 (kd:Int),.int .i64 (no:Int)] 210)=W3:=hW3'
   clear hW3'
   have s0:W3.cell? ⟨w2.heap.size,0,none⟩=some (.int .i64 (par:Int)):=(jAj k3).trans rfl
   have s1:W3.cell? ⟨w2.heap.size,1,none⟩=some (.string nm):=(jAj k3).trans rfl
   have s2:W3.cell? ⟨w2.heap.size,2,none⟩=some (.int .i64 (kd:Int)):=(jAj k3).trans rfl
   have s3:W3.cell? ⟨w2.heap.size,3,none⟩=some (.int .i64 (no:Int)):=(jAj k3).trans rfl
   have z0:W3.cell? ⟨w.heap.size,0,none⟩=some (.int .i64 0):=(jAj HQ.out).trans rfl
   have z1:W3.cell? ⟨w.heap.size,1,none⟩=some (.string { data:=#[] }):=(jAj HQ.out).trans rfl
   have z2:W3.cell? ⟨w.heap.size,2,none⟩=some (.int .i64 0):=(jAj HQ.out).trans rfl
   have z3:W3.cell? ⟨w.heap.size,3,none⟩=some (.int .i64 0):=(jAj HQ.out).trans rfl
   have fzz:∀j,W3.frozen? ⟨w.heap.size,j,none⟩=false:=fun j=>jAq HQ.out
   clear hb2 hbw q0 k3 hc HX HFin
   go_wp2_with fail
   refine Qw (jA8 rfl _ _ w.heap.size 210 _ (0,0) _ rfl (jEx HQ.out) underlying210 rfl jD1) rfl ?_
   exact ⟨rfl,(((HB.out.setCell (Qj _) _).setCell (Qj _) _).setCell (Qj _) _).setCell (Qj _) _⟩
 refine go r2 (fun h=>?_) (fun h=>?_)
 ·exact HE.out.trans (if_pos h)
 ·exact HE.out.trans (if_neg h)
