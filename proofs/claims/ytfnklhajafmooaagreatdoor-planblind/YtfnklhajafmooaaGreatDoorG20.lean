import Derived.Test.YtfnklhajafmooaaGreatDoorG18
import Derived.Test.YtfnklhajafmooaaGreatDoorG19
import Derived.Test.YtfnklhajafmooaaGreatDoorG14
import Derived.Test.YtfnklhajafmooaaGreatDoorG10
set_option maxHeartbeats 2000000
set_option maxRecDepth 20000
namespace Go.Proofs.YtfnklhajafmooaaGreatDoor.Tr
open Go.RowKit Go.Lib Go.Deep Go.Proofs.Tryz
def gapL {α:Type}(l:List (Option α))(x:Nat)(v:Option α):List (Option α):=(l++List.replicate (x+1-l.length) none).set x v
theorem jI3 {α:Type}{l:List (Option α)}{x:Nat}{v:Option α}(hx:l.length<=x):(gapL l x v).length=x+1:=by
 unfold gapL
 rw[List.length_set,List.length_append,List.length_replicate]
 omega
theorem gapL_get {α:Type}{l:List (Option α)}{x:Nat}{v:Option α}(hx:l.length<=x)(j:Nat):(gapL l x v)[j]?=if j=x then some v else if j<l.length then l[j]? else if j<x then some none else none:=by
 unfold gapL
 rw[List.getElem?_set]
 by_cases hj:x=j
 ·subst hj
  rw[if_pos rfl,if_pos rfl,if_pos (by rw[List.length_append,List.length_replicate];omega)]
 ·rw[if_neg hj,if_neg (fun e=>hj e.symm)]
  by_cases hl:j<l.length
  ·rw[if_pos hl,List.getElem?_append_left hl]
  ·rw[if_neg hl,Qd (by omega),Qc]
   by_cases hj2:j<x
   ·rw[if_pos hj2,if_pos (by omega)]
   ·rw[if_neg hj2,if_neg (by omega)]
theorem jFv {α:Type}{l:List (Option α)}{x:Nat}{o:α}(hx:l.length<=x){j:Nat}{d:α}:(gapL l x (some o))[j]?=some (some d)↔(j=x/\d=o)\/l[j]?=some (some d):=by
 rw[gapL_get hx]
 by_cases hj:j=x
 ·rw[if_pos hj]
  constructor
  ·intro h
   injection h with h
   injection h with h
   exact .inl ⟨hj,h.symm⟩
  ·rintro (⟨_,rfl⟩ | h)
   ·rfl
   ·have:=(QV.1 h).1
    omega
 ·rw[if_neg hj]
  by_cases hl:j<l.length
  ·rw[if_pos hl]
   exact ⟨.inr,fun h=>h.elim (fun h=>absurd h.1 hj) id⟩
  ·rw[if_neg hl,List.getElem?_eq_none (by omega)]
   split
   ·simp[hj]
   ·simp[hj]
theorem gapR_get {rs:List Rw}{x:Nat}{z r:Rw}(hx:rs.length<=x)(j:Nat):(gapR rs x z r)[j]?=if j=x then some r else if j<rs.length then rs[j]? else if j<x then some z else none:=by
 unfold gapR
 rw[List.getElem?_set]
 by_cases hj:x=j
 ·subst hj
  rw[if_pos rfl,if_pos rfl,if_pos (by rw[List.length_append,List.length_replicate];omega)]
 ·rw[if_neg hj,if_neg (fun e=>hj e.symm)]
  by_cases hl:j<rs.length
  ·rw[if_pos hl,List.getElem?_append_left hl]
  ·rw[if_neg hl,Qd (by omega),Qc]
   by_cases hj2:j<x
   ·rw[if_pos hj2,if_pos (by omega)]
   ·rw[if_neg hj2,if_neg (by omega)]
theorem fRows_gap (F:List (Option (Nat × ByteArray × Nat)))(x:Nat)(o:Option (Nat × ByteArray × Nat))(hx:F.length<=x):jD8 (gapL F x o)=gapR (jD8 F) x ⟨false,0,e0,.int .i64 0⟩ (fRow o):=by
 apply List.ext_getElem?
 intro j
 rw[jD5,gapL_get hx,gapR_get (by rw[jDv];exact hx),jDv,jD5]
 split
 ·rfl
 ·split
  ·rfl
  ·split <;> rfl
theorem dRows_gap (D:List (Option (Nat × ByteArray)))(ms:Nat->Nat)(x:Nat)(o:Option (Nat × ByteArray))(m:Nat)(hx:D.length<=x):jF3 (gapL D x o) (fun i=>if i=x then m else ms i)=gapR (jF3 D ms) x ⟨false,0,e0,.map none⟩ (dRow o m):=by
 apply List.ext_getElem?
 intro j
 rw[jDx,gapL_get hx,gapR_get (by rw[jCx];exact hx),jCx,jDx]
 by_cases hj:j=x
 ·rw[if_pos hj,if_pos hj,hj,Option.map_some,if_pos rfl]
 ·rw[if_neg hj,if_neg hj]
  split
  ·simp only
  ·split <;> rfl
theorem lay_claimF {w W:World}{q:Nat}{dv fv fv':Value}{ld lf:Nat}{ms:Nat->Nat}{nn:Nat}{T:Ts}(h:Inn w q dv fv ld lf ms nn T){x:Nat}(hx:T.F.length<=x)(hr:x<T.fr)(o:Nat × ByteArray × Nat)(hC:Clm w W q (stA T dv fv ld lf) 4 fv 191 (gapR (jD8 T.F) x ⟨false,0,e0,.int .i64 0⟩ (fRow (some o))) fv') :
 Turn (fp q dv fv T.D ms) w W q nn { T with F:=gapL T.F x (some o) }:=by
 have hR:=hC.hr
 rw[<-fRows_gap T.F x (some o) hx,jDv] at hR
 refine ⟨hC.ho.mono (fun k hk=>fpF hk),_,⟨dv,fv',ld,lf,ms,rfl,h.turnF (lf':=lf) (gapL T.F x (some o)) hC.ho hC.hq hR (fun j hj=>?_) ?_ ?_⟩,fun k hk=>?_⟩
 ·obtain ⟨d,hd⟩:=h.hlf j hj
  exact ⟨d,(jFv hx).2 (.inr hd)⟩
 ·rw[jI3 hx];have:=h.lfl;omega
 ·rw[jI3 hx];omega
 ·rcases jBx.1 hk with h1 | h1 | h1 | h1
  ·exact .inl (jBx.2 (.inl h1))
  ·exact .inl (jBx.2 (.inr (.inl h1)))
  ·rcases hC.hv k h1 with h2 | h2
   ·exact .inl (jBx.2 (.inr (.inr (.inl h2))))
   ·exact .inr h2
  ·exact .inl (jBx.2 (.inr (.inr (.inr h1))))
theorem lay_claimD {w0 w W:World}{q m:Nat}{dv dv' fv:Value}{ld lf:Nat}{ms:Nat->Nat}{nn:Nat}{T:Ts}(h0:Inn w0 q dv fv ld lf ms nn T)(hb:Below w0.heap.size w0 w)(hm0:w0.heap.size<=m)(hmm:w.ownsMap prog 9 jF2 m 0 (.map [])){x:Nat}(hx:T.D.length<=x)(hME:T.M x=fun _=>none)(hr:x<T.dr)(o:Nat × ByteArray)(hC:Clm w W q (stA T dv fv ld lf) 1 dv 187 (gapR (jF3 T.D ms) x ⟨false,0,e0,.map none⟩ (dRow (some o) m)) dv') :
 Turn (fp q dv fv T.D ms) w0 W q nn { T with D:=gapL T.D x (some o) }:=by
 have h:=h0.below hb
 have hR:=hC.hr
 rw[<-dRows_gap T.D ms x (some o) m hx,jCx] at hR
 have hnew:∀(i:Nat) d,T.D[i]?=some (some d)->ms i≠m:=fun i d hd e=>by
  have:=h0.lt (jBx.2 (.inr (.inr (.inr ⟨i,d,hd,rfl⟩))))
  omega
 have hin:∀(i:Nat) d,T.D[i]?=some (some d)->i≠x:=fun i d hd e=>by
  have:=(QV.1 hd).1
  omega
 have hmW:W.heap[m]?=w.heap[m]?:=by
  obtain ⟨es,cl,h3⟩:=jDq hmm
  refine hC.ho.block m hmm.lt (fun e=>?_)
  simp only[List.mem_cons,Option.mem_toList] at e
  rcases e with e | e
  ·rw[e,h.hq] at h3;cases h3
  ·obtain ⟨c,hc⟩:=jA1 h.hd e
   rw[hc] at h3;cases h3
 refine ⟨(jBv (Only.refl _ _) hb).trans (hC.ho.mono (fun k hk=>fpD hk)),_,⟨dv',fv,ld,lf,fun i=>if i=x then m else ms i,rfl,h.turnD (ld':=ld) (gapL T.D x (some o)) hC.ho hC.hq hR (fun j hj=>?_) ?_ ?_ (fun j d hj=>?_) (fun i j d e hi hj he=>?_)⟩,fun k hk=>?_⟩
 ·obtain ⟨d,hd⟩:=h.hld j hj
  exact ⟨d,(jFv hx).2 (.inr hd)⟩
 ·rw[jI3 hx];have:=h.ldl;omega
 ·rw[jI3 hx];omega
 ·rcases (jFv hx).1 hj with ⟨h1,h2⟩ | h1
  ·right
   rw[if_pos h1]
   exact ⟨jC6 hmm hmW,by rw[h1];exact hME⟩
  ·left
   rw[if_neg (hin j d h1)]
   exact ⟨d,h1,rfl⟩
 ·rcases (jFv hx).1 hi with ⟨h1,h2⟩ | h1 <;> rcases (jFv hx).1 hj with ⟨h3,h4⟩ | h3
  ·rw[h1,h3]
  ·simp only[if_pos h1,if_neg (hin j e h3)] at he
   exact absurd he.symm (hnew j e h3)
  ·simp only[if_neg (hin i d h1),if_pos h3] at he
   exact absurd he (hnew i d h1)
  ·simp only[if_neg (hin i d h1),if_neg (hin j e h3)] at he
   exact h0.hi i j d e h1 h3 he
 ·rcases jBx.1 hk with h1 | h1 | h1 | ⟨j,d,h1,h2⟩
  ·exact .inl (jBx.2 (.inl h1))
  ·rcases hC.hv k h1 with h2 | h2
   ·exact .inl (jBx.2 (.inr (.inl h2)))
   ·exact .inr (Qk hb.size h2)
  ·exact .inl (jBx.2 (.inr (.inr (.inl h1))))
  ·rcases (jFv hx).1 (show (gapL T.D x (some o))[j]?=some (some d) from h1) with ⟨h3,_⟩ | h3
   ·rw[if_pos h3] at h2
    exact .inr (by rw[h2];exact hm0)
   ·rw[if_neg (hin j d h3)] at h2
    exact .inl (jBx.2 (.inr (.inr (.inr ⟨j,d,h3,h2⟩))))
theorem claimD_any (w0 w:World)(q m:Nat)(F:List Nat)(nn:Nat)(T:Ts)(hL:Lay w0 q F nn T)(hb:Below w0.heap.size w0 w)(hm0:w0.heap.size<=m)(hmm:w.ownsMap prog 9 jF2 m 0 (.map []))(x:Nat)(hx:T.D.length<=x)(hME:T.M x=fun _=>none)(hr:x<T.dr)(p:Nat)(n:ByteArray) :
 Calls prog 65 #[.pointer (some ⟨q,0,none⟩),.int .i64 (x:Int),.agg #[.int .i64 (p:Int),.string n,.map (some m)]] w fun e w'=>e=.returned (.bool true)/\Turn F w0 w' q nn { T with D:=gapL T.D x (some (p,n)) }/\Only F w w':=by
 obtain ⟨dv,fv,ld,lf,ms,rfl,hI0⟩:=hL
 have hI:=hI0.below hb
 refine (claimG_d w q T.dr _ dv (jF3 T.D ms) hI.hq rfl rfl hI.hd' (Qk hI.lenD (by omega)) x (by rw[jCx];exact hx) hr (by have:=hI.lim;omega) p n (some m)).mono ?_
 rintro e w' ⟨rfl,v',hC⟩
 exact ⟨rfl,lay_claimD hI0 hb hm0 hmm hx hME hr (p,n) hC,hC.ho.mono (fun k hk=>fpD hk)⟩
theorem claimF_any (w:World)(q:Nat)(F:List Nat)(nn:Nat)(T:Ts)(hL:Lay w q F nn T)(x:Nat)(hx:T.F.length<=x)(hr:x<T.fr)(p s:Nat)(n:ByteArray) :
 Calls prog 161 #[.pointer (some ⟨q,3,none⟩),.int .i64 (x:Int),.agg #[.int .i64 (p:Int),.string n,.int .i64 (s:Int)]] w fun e w'=>e=.returned (.bool true)/\Turn F w w' q nn { T with F:=gapL T.F x (some (p,n,s)) }/\Only F w w':=by
 obtain ⟨dv,fv,ld,lf,ms,rfl,hI⟩:=hL
 refine (claimG_f w q T.fr _ fv (jD8 T.F) hI.hq rfl rfl hI.hf' (Qk hI.lenF (by omega)) x (by rw[jDv];exact hx) hr (by have:=hI.lim;omega) p n s).mono ?_
 rintro e w' ⟨rfl,v',hC⟩
 exact ⟨rfl,lay_claimF hI hx hr (p,n,s) hC,hC.ho.mono (fun k hk=>fpF hk)⟩
def jE3 (T:Ts):Nat->Nat->Bool
 | 0,_=>false
 | k+1,p=>if p=0 then true else match T.D[p]? with
   | some (some d)=>jE3 T k d.1
   | _=>false
theorem jI4 {T:Ts}{k:Nat}:jE3 T (k+1) 0=true:=by simp[jE3]
theorem jGj {T:Ts}{k p:Nat}(hp:p≠0)(h:∀d,T.D[p]?≠some (some d)):jE3 T (k+1) p=false:=by
 unfold jE3
 rw[if_neg hp]
 split
 ·next d hd=>exact absurd hd (h d)
 ·rfl
theorem jI5 {T:Ts}{k p:Nat}{d:Nat × ByteArray}(hp:p≠0)(h:T.D[p]?=some (some d)):jE3 T (k+1) p=jE3 T k d.1:=by
 rw[jE3,if_neg hp,h]
theorem fldD0 (w:World)(a b c:Value):(Instr.field 144 (.agg #[a,b,c]) 0).run prog w=.ok (.agg #[a,b]) w:=by kernel_rfl
theorem hasD_any (w:World)(q:Nat)(F:List Nat)(nn:Nat)(T:Ts)(hL:Lay w q F nn T)(i:Nat):Calls prog 101 #[.pointer (some ⟨q,0,none⟩),.int .i64 (i:Int)] w fun e w'=>∃r,e=.returned (.bool r)/\(r=true↔∃d,T.D[i]?=some (some d))/\w'=w:=by
 obtain ⟨dv,fv,ld,lf,ms,rfl,hI⟩:=hL
 refine (has_d w q dv _ hI.cells.2.1 hI.hd' (Qk hI.lenD (by omega)) i).mono ?_
 rintro e w' ⟨rfl,rfl⟩
 refine ⟨_,rfl,?_,rfl⟩
 unfold hasR
 rw[show ((i:Int)).toNat=i from Int.toNat_natCast i,jDx]
 cases hd:T.D[i]? with
 | none=>simp
 | some o=>cases o with
   | none=>simp[dRow]
   | some d=>simp[dRow]
theorem jL2 (w:World)(q:Nat)(F:List Nat)(nn:Nat)(T:Ts)(hL:Lay w q F nn T)(p:Nat)(n:ByteArray) :
 Calls prog 178 #[.pointer (some ⟨q,0,none⟩),.agg #[.int .i64 (p:Int),.string n]] w fun e w'=>e=.returned (.bool (jE3 T 16 p))/\Below w.heap.size w w':=by
 obtain ⟨W,hW,hb,k0⟩:=jA4 w #[.int .i64 (p:Int),.string n] 141
 have HL:Hid (∀V,Below w.heap.size w V->Lay V q F nn T):=fun V hb=>hL.below hb
 have HB:Hid (Below w.heap.size w W):=hb
 have HK:Hid _:=k0
 clear hL hb k0
 go_enter func178,ntmps178
 go_wp2_with fail
 go_loopg [5] 16 (fun gk kv wr=>∃(k p':Nat) (n':ByteArray),k+gk=16/\kv=.int .i64 (k:Int)/\Hid (jE3 T 16 p=jE3 T gk p')/\Hid (wr.heap[w.heap.size]?=some (.cells #[.int .i64 (p':Int),.string n'] 141 (0,0)))/\Hid (Below w.heap.size w wr))
 case atStart=>exact ⟨0,p,n,by omega,rfl,rfl,HK.out,HB.out⟩
 case round =>
  obtain ⟨k,p',n',hk,rfl,HR,HC,HBw⟩:=hrel
  by_cases hlt:k<16
  ·obtain ⟨j,rfl⟩:∃j,gk=j+1:=⟨gk-1,by omega⟩
   have hltI:(k:Int)<16:=by omega
   have w1':IntKind.i64.wrap ((k:Int)+1)=((k+1:Nat):Int):=by rw[QX];omega
   have c0:wr.cell? ⟨w.heap.size,0,none⟩=some (.int .i64 (p':Int)):=(jAj HC.out).trans rfl
   by_cases hp:p'=0
   ·subst hp
    have HRT:Hid (jE3 T 16 p=true):=HR.out.trans jI4
    go_wp2
    go_ret
    exact ⟨by rw[HRT.out];rfl,HBw.out⟩
   ·have hpI:((p':Int) == 0)=false:=by simpa using hp
    have hpI2:¬(p':Int)=0:=by omega
    have c0':wr.drew.cell? ⟨w.heap.size,0,none⟩=some (.int .i64 (p':Int)):=c0
    have hhas:=hasD_any wr.drew q F nn T (HL.out _ HBw.out.drew) p'
    by_cases hd:∃d,T.D[p']?=some (some d)
    ·obtain ⟨d,hd⟩:=hd
     obtain ⟨m,hget,-⟩:=dirD_any wr q F nn T (HL.out _ HBw.out) p' d hd
     have hh:Calls prog 101 #[.pointer (some ⟨q,0,none⟩),.int .i64 (p':Int)] wr.drew fun e w'=>e=.returned (.bool true)/\w'=wr.drew:=hhas.mono fun e w' ⟨r,h1,h2,h3⟩=>⟨by rw[h1,h2.2 ⟨d,hd⟩],h3⟩
     have HGT:Hid (∀V,Below wr.heap.size wr V->Calls prog 165 #[.pointer (some ⟨q,0,none⟩),.int .i64 (p':Int)] V fun e w'=>e=.returned (.agg #[.int .i64 (d.1:Int),.string d.2,.map (some m)])/\Below V.heap.size V w'):=hget
     have HRD:Hid (jE3 T 16 p=jE3 T j d.1):=HR.out.trans (jI5 hp hd)
     obtain ⟨d1,d2⟩:=d
     simp only at HGT HRD
     clear hhas hget hd HR
     go_wp2_with fail
     go_region_with (go_at_call 101;refine hh.mono ?_;rintro e w3 ⟨rfl,hw3⟩;subst w3)
     all_goals
      have hfl:∀V:World,(Instr.field 144 (.agg #[.int .i64 (d1:Int),.string d2,.map (some m)]) 0).run prog V=.ok (.agg #[.int .i64 (d1:Int),.string d2]) V:=fun V=>fldD0 V _ _ _
      have HBD:Hid (Below w.heap.size w wr.drew):=HBw.out.drew
      have HCD:Hid (wr.drew.heap[w.heap.size]?=_):=HC.out
      have HGT2:Hid (∀V,Below wr.drew.heap.size wr.drew V->Calls prog 165 #[.pointer (some ⟨q,0,none⟩),.int .i64 (p':Int)] V fun e w'=>e=.returned (.agg #[.int .i64 (d1:Int),.string d2,.map (some m)])/\Below V.heap.size V w'):=fun V hb=>HGT.out V ((Qq _ _).drew.trans hb)
      clear c0 hh HGT
      revert c0' HBD HCD HGT2
      generalize wr.drew=V
      intro c0' HBD HCD HGT2
      have c0:V.drew.cell? ⟨w.heap.size,0,none⟩=some (.int .i64 (p':Int)):=c0'
      have hget:=HGT2.out V.drew (Qq _ _).drew
      go_wp2_with fail
      go_region_with (go_at_call 165;refine hget.mono ?_;rintro e w4 ⟨rfl,hb4⟩;have k4:=(hb4.block _ (jAv HCD.out)).trans HCD.out;have g0:w4.cell? ⟨w.heap.size,0,none⟩=some (.int .i64 (p':Int)):=(jAj k4).trans rfl;have g1:w4.cell? ⟨w.heap.size,1,none⟩=some (.string n'):=(jAj k4).trans rfl;have fz:∀j,w4.frozen? ⟨w.heap.size,j,none⟩=false:=fun j=>jAq k4)
     all_goals
      have HF:Hid (((w4.setCell ⟨w.heap.size,0,none⟩ (.int .i64 (d1:Int))).setCell ⟨w.heap.size,1,none⟩ (.string d2)).heap[w.heap.size]?=some (.cells #[.int .i64 (d1:Int),.string d2] 141 (0,0))/\Below w.heap.size w ((w4.setCell ⟨w.heap.size,0,none⟩ (.int .i64 (d1:Int))).setCell ⟨w.heap.size,1,none⟩ (.string d2))):=by
       have hbb:Below w.heap.size w w4:=HBD.out.drew.trans (hb4.mono HBD.out.size)
       exact ⟨QJ _ _ 1 _ _ (.string d2) (QJ _ _ 0 _ _ (.int .i64 (d1:Int)) k4),(hbb.setCell (Qj _) _).setCell (Qj _) _⟩
      clear hb4 k4
      go_wp2
      go_roundg j
      case measure=>omega
      case rel=>exact ⟨k+1,d1,d2,by omega,rfl,HRD.out,HF.out.1,HF.out.2⟩
    ·have HRF:Hid (jE3 T 16 p=false):=HR.out.trans (jGj hp fun d h=>hd ⟨d,h⟩)
     have hh:Calls prog 101 #[.pointer (some ⟨q,0,none⟩),.int .i64 (p':Int)] wr.drew fun e w'=>e=.returned (.bool false)/\w'=wr.drew:=hhas.mono fun e w' ⟨r,h1,h2,h3⟩=>⟨by
      cases r with
      | false=>exact h1
      | true=>exact absurd (h2.1 rfl) hd,h3⟩
     have HBD:Hid _:=HBw.out.drew
     clear hhas hd
     go_wp2_with fail
     go_region_with (go_at_call 101;refine hh.mono ?_;rintro e w3 ⟨rfl,hw3⟩;subst w3)
     all_goals
      go_wp2
      go_ret
      exact ⟨by rw[HRF.out];rfl,HBD.out⟩
  ·obtain rfl:k=16:=by omega
   obtain rfl:gk=0:=by omega
   have HRF:Hid (jE3 T 16 p=false):=HR.out
   go_wp2
   go_ret
   exact ⟨by rw[HRF.out];rfl,HBw.out⟩
theorem fileAt {T:Ts}{dp:Nat->Nat}(hv:Inv T dp){L:List ByteArray}{b:Sp}(g:Got T dp L b)(hk:b.kd=2):L≠[]/\tk T b.par/\b.nm.size<=32/\∃s,T.F[b.no]?=some (some (b.par,b.nm,s)):=by
 have hL:L≠[]:=fun e=>by rw[g.rt e] at hk;cases hk
 have sp:=g.sp hL
 have hm:=sp.there (by omega)
 rw[hk] at hm
 obtain ⟨n',s,h1,h2⟩:=hv.fileF hm
 obtain rfl:=ky_inj h2
 exact ⟨hL,sp.ht,jE7 sp.hn,s,h1⟩
theorem filesTwo {T:Ts}{dp:Nat->Nat}(hv:Inv T dp){P Q:List ByteArray}{a b:Sp}(gP:Got T dp P a)(gQ:Got T dp Q b)(ka:a.kd=2)(kb:b.kd=2)(h:P≠Q):a.no≠b.no:=fun e=>by
 obtain ⟨hP,_,_,s,h1⟩:=fileAt hv gP ka
 obtain ⟨hQ,_,_,s',h2⟩:=fileAt hv gQ kb
 rw[e,h2] at h1
 simp only[Option.some.injEq,Prod.mk.injEq] at h1
 exact h (gP.eq hv gQ hP hQ ⟨h1.1,h1.2.1⟩)
theorem spotAt {T:Ts}{dp:Nat->Nat}{L:List ByteArray}{b:Sp}(g:Got T dp L b)(hL:L≠[]):tk T b.par/\b.nm.size<=32:=⟨(g.sp hL).ht,jE7 (g.sp hL).hn⟩
theorem equal_ne (w:World)(a a2:Option Addr)(n c m c2:Nat)(h:n≠m)(_hn:n<=4096)(_hm:m<=4096):Calls prog 126 #[.slice a n c,.slice a2 m c2] w fun e w'=>e=.returned (.bool false)/\Below w.heap.size w w':=by
 have h1:¬(n:Int)=(m:Int):=by omega
 have h2:((n:Int) != (m:Int))=true:=by simp[h1]
 go_enter func126,ntmps126
 go_wp2_with fail
 go_ret
 exact ⟨rfl,Qq _ _⟩
theorem equal_all (w:World)(a a2:Option Addr)(n c m c2:Nat)(P Q:List ByteArray)(h1:Pa.See w (.slice a n c) P)(h2:Pa.See w (.slice a2 m c2) Q)(hn:P.length<=4096)(hm:Q.length<=4096):Calls prog 126 #[.slice a n c,.slice a2 m c2] w fun e w'=>e=.returned (.bool (decide (P=Q)))/\Below w.heap.size w w':=by
 by_cases hl:P.length=Q.length
 ·exact Pa.jJ3 w _ _ P Q h1 h2 hl (by omega)
 ·rw[QY (fun e=>hl (by rw[e]))]
  have e1:n=P.length:=by
   obtain ⟨_,_,e,_⟩:=h1
   injection e
  have e2:m=Q.length:=by
   obtain ⟨_,_,e,_⟩:=h2
   injection e
  subst e1
  subst e2
  exact equal_ne w a a2 _ c _ c2 hl hn hm
