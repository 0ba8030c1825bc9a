import Derived.Test.YtfnklhajafmooaaGreatDoorG03
import Derived.Test.YtfnklhajafmooaaGreatDoorTrZ
import Derived.Maps.OwnSet
import Derived.Maps.Ext
import Derived.Maps.AppendAt
import Derived.Maps.RangeWalk
import Derived.Deep.RegionHeldLaw
set_option maxRecDepth 20000
namespace Go.Proofs.YtfnklhajafmooaaGreatDoor.Tr
open Go.RowKit Go.Lib Go.Proofs.Tryz
theorem jB9 {P:Program}{fn:Func}{p:Tmp}{ty:TypeId}(h:fn.results=#[.cell p ty])(tmps:Array Value)(w:World)(g:Nat)(t:TypeId)(cs:Array Value)(fr:Nat × Nat)(d:TypeDesc)
 (hp:tmps.getD p undef=.pointer (some ⟨g,0,none⟩)) (hg:w.heap[g]?=some (.cells cs t fr)) (hu:P.underlying ty=some d) (hd:(match d with | .struct _ | .array _ _=>true | _=>false)=true) (hi:(P.info? ty).map (·.size)=some cs.size) :
 (results fn tmps).run P w=.ok (.agg cs) w:=by
 have hp':tmps[p]?.getD undef=.pointer (some ⟨g,0,none⟩):=by simpa using hp
 simp[results,h,hp',asAddr,run_loadVar_row w g t ty cs fr d hg hu hd hi]
theorem jAz {P:Program}{fn:Func}{p p2:Tmp}{ty ty2:TypeId}(h:fn.results=#[.cell p ty,.cell p2 ty2])(tmps:Array Value)(w:World)(g:Nat)(t:TypeId)(cs:Array Value)(fr:Nat × Nat)(d:TypeDesc)(g2:Nat)(t2:TypeId)(cs2:Array Value)(fr2:Nat × Nat)(d2:TypeDesc)
 (hp:tmps.getD p undef=.pointer (some ⟨g,0,none⟩)) (hg:w.heap[g]?=some (.cells cs t fr)) (hu:P.underlying ty=some d) (hd:(match d with | .struct _ | .array _ _=>true | _=>false)=true) (hi:(P.info? ty).map (·.size)=some cs.size)
 (hp2:tmps.getD p2 undef=.pointer (some ⟨g2,0,none⟩)) (hg2:w.heap[g2]?=some (.cells cs2 t2 fr2)) (hu2:P.underlying ty2=some d2) (hd2:(match d2 with | .struct _ | .array _ _=>true | _=>false)=true) (hi2:(P.info? ty2).map (·.size)=some cs2.size) :
 (results fn tmps).run P w=.ok (.tuple #[.agg cs,.agg cs2]) w:=by
 have hp':tmps[p]?.getD undef=.pointer (some ⟨g,0,none⟩):=by simpa using hp
 have hp2':tmps[p2]?.getD undef=.pointer (some ⟨g2,0,none⟩):=by simpa using hp2
 simp[results,h,hp',hp2',asAddr,run_loadVar_row w g t ty cs fr d hg hu hd hi,run_loadVar_row w g2 t2 ty2 cs2 fr2 d2 hg2 hu2 hd2 hi2]
theorem jBz {P:Program}{fn:Func}{p p2 u:Tmp}{ty ty2:TypeId}(h:fn.results=#[.cell p ty,.cell p2 ty2,.tmp u])(tmps:Array Value)(w:World)(g:Nat)(t:TypeId)(cs:Array Value)(fr:Nat × Nat)(d:TypeDesc)(g2:Nat)(t2:TypeId)(cs2:Array Value)(fr2:Nat × Nat)(d2:TypeDesc)
 (hp:tmps.getD p undef=.pointer (some ⟨g,0,none⟩)) (hg:w.heap[g]?=some (.cells cs t fr)) (hu:P.underlying ty=some d) (hd:(match d with | .struct _ | .array _ _=>true | _=>false)=true) (hi:(P.info? ty).map (·.size)=some cs.size)
 (hp2:tmps.getD p2 undef=.pointer (some ⟨g2,0,none⟩)) (hg2:w.heap[g2]?=some (.cells cs2 t2 fr2)) (hu2:P.underlying ty2=some d2) (hd2:(match d2 with | .struct _ | .array _ _=>true | _=>false)=true) (hi2:(P.info? ty2).map (·.size)=some cs2.size) :
 (results fn tmps).run P w=.ok (.tuple #[.agg cs,.agg cs2,tmps.getD u undef]) w:=by
 have hp':tmps[p]?.getD undef=.pointer (some ⟨g,0,none⟩):=by simpa using hp
 have hp2':tmps[p2]?.getD undef=.pointer (some ⟨g2,0,none⟩):=by simpa using hp2
 simp[results,h,hp',hp2',asAddr,run_loadVar_row w g t ty cs fr d hg hu hd hi,run_loadVar_row w g2 t2 ty2 cs2 fr2 d2 hg2 hu2 hd2 hi2]
theorem jA8 {P:Program}{fn:Func}{p u:Tmp}{ty:TypeId}(h:fn.results=#[.cell p ty,.tmp u])(tmps:Array Value)(w:World)(g:Nat)(t:TypeId)(cs:Array Value)(fr:Nat × Nat)(d:TypeDesc)
 (hp:tmps.getD p undef=.pointer (some ⟨g,0,none⟩)) (hg:w.heap[g]?=some (.cells cs t fr)) (hu:P.underlying ty=some d) (hd:(match d with | .struct _ | .array _ _=>true | _=>false)=true) (hi:(P.info? ty).map (·.size)=some cs.size) :
 (results fn tmps).run P w=.ok (.tuple #[.agg cs,tmps.getD u undef]) w:=by
 have hp':tmps[p]?.getD undef=.pointer (some ⟨g,0,none⟩):=by simpa using hp
 simp[results,h,hp',asAddr,run_loadVar_row w g t ty cs fr d hg hu hd hi]
theorem put2A {W:World}{g:Nat}{t:TypeId}{x0 x1 y0 y1:Value}(h:W.heap[g]?=some (.cells #[x0,x1] t (0,0))):((W.setCell ⟨g,0,none⟩ y0).setCell ⟨g,1,none⟩ y1).heap[g]?=some (.cells #[y0,y1] t (0,0)):=by
 have h0:(W.setCell ⟨g,0,none⟩ y0).heap[g]?=some (.cells #[y0,x1] t (0,0)):=QJ _ _ 0 _ _ y0 h
 have h1:((W.setCell ⟨g,0,none⟩ y0).setCell ⟨g,1,none⟩ y1).heap[g]?=some (.cells #[y0,y1] t (0,0)):=QJ _ _ 1 _ _ y1 h0
 exact h1
theorem put3A {W:World}{g:Nat}{t:TypeId}{x0 x1 x2 y0 y1 y2:Value}(h:W.heap[g]?=some (.cells #[x0,x1,x2] t (0,0))):(((W.setCell ⟨g,0,none⟩ y0).setCell ⟨g,1,none⟩ y1).setCell ⟨g,2,none⟩ y2).heap[g]?=some (.cells #[y0,y1,y2] t (0,0)):=by
 have h0:(W.setCell ⟨g,0,none⟩ y0).heap[g]?=some (.cells #[y0,x1,x2] t (0,0)):=QJ _ _ 0 _ _ y0 h
 have h1:((W.setCell ⟨g,0,none⟩ y0).setCell ⟨g,1,none⟩ y1).heap[g]?=some (.cells #[y0,y1,x2] t (0,0)):=QJ _ _ 1 _ _ y1 h0
 have h2:(((W.setCell ⟨g,0,none⟩ y0).setCell ⟨g,1,none⟩ y1).setCell ⟨g,2,none⟩ y2).heap[g]?=some (.cells #[y0,y1,y2] t (0,0)):=QJ _ _ 2 _ _ y2 h1
 exact h2
theorem jEx {W:World}{g:Nat}{t:TypeId}{x0 x1 x2 x3 y0 y1 y2 y3:Value}(h:W.heap[g]?=some (.cells #[x0,x1,x2,x3] t (0,0))):((((W.setCell ⟨g,0,none⟩ y0).setCell ⟨g,1,none⟩ y1).setCell ⟨g,2,none⟩ y2).setCell ⟨g,3,none⟩ y3).heap[g]?=some (.cells #[y0,y1,y2,y3] t (0,0)):=by
 have h0:(W.setCell ⟨g,0,none⟩ y0).heap[g]?=some (.cells #[y0,x1,x2,x3] t (0,0)):=QJ _ _ 0 _ _ y0 h
 have h1:((W.setCell ⟨g,0,none⟩ y0).setCell ⟨g,1,none⟩ y1).heap[g]?=some (.cells #[y0,y1,x2,x3] t (0,0)):=QJ _ _ 1 _ _ y1 h0
 have h2:(((W.setCell ⟨g,0,none⟩ y0).setCell ⟨g,1,none⟩ y1).setCell ⟨g,2,none⟩ y2).heap[g]?=some (.cells #[y0,y1,y2,x3] t (0,0)):=QJ _ _ 2 _ _ y2 h1
 have h3:((((W.setCell ⟨g,0,none⟩ y0).setCell ⟨g,1,none⟩ y1).setCell ⟨g,2,none⟩ y2).setCell ⟨g,3,none⟩ y3).heap[g]?=some (.cells #[y0,y1,y2,y3] t (0,0)):=QJ _ _ 3 _ _ y3 h2
 exact h3
theorem put6A {W:World}{g:Nat}{t:TypeId}{x0 x1 x2 x3 x4 x5 y0 y1 y2 y3 y4 y5:Value}(h:W.heap[g]?=some (.cells #[x0,x1,x2,x3,x4,x5] t (0,0))):((((((W.setCell ⟨g,0,none⟩ y0).setCell ⟨g,1,none⟩ y1).setCell ⟨g,2,none⟩ y2).setCell ⟨g,3,none⟩ y3).setCell ⟨g,4,none⟩ y4).setCell ⟨g,5,none⟩ y5).heap[g]?=some (.cells #[y0,y1,y2,y3,y4,y5] t (0,0)):=by
 have h0:(W.setCell ⟨g,0,none⟩ y0).heap[g]?=some (.cells #[y0,x1,x2,x3,x4,x5] t (0,0)):=QJ _ _ 0 _ _ y0 h
 have h1:((W.setCell ⟨g,0,none⟩ y0).setCell ⟨g,1,none⟩ y1).heap[g]?=some (.cells #[y0,y1,x2,x3,x4,x5] t (0,0)):=QJ _ _ 1 _ _ y1 h0
 have h2:(((W.setCell ⟨g,0,none⟩ y0).setCell ⟨g,1,none⟩ y1).setCell ⟨g,2,none⟩ y2).heap[g]?=some (.cells #[y0,y1,y2,x3,x4,x5] t (0,0)):=QJ _ _ 2 _ _ y2 h1
 have h3:((((W.setCell ⟨g,0,none⟩ y0).setCell ⟨g,1,none⟩ y1).setCell ⟨g,2,none⟩ y2).setCell ⟨g,3,none⟩ y3).heap[g]?=some (.cells #[y0,y1,y2,y3,x4,x5] t (0,0)):=QJ _ _ 3 _ _ y3 h2
 have h4:(((((W.setCell ⟨g,0,none⟩ y0).setCell ⟨g,1,none⟩ y1).setCell ⟨g,2,none⟩ y2).setCell ⟨g,3,none⟩ y3).setCell ⟨g,4,none⟩ y4).heap[g]?=some (.cells #[y0,y1,y2,y3,y4,x5] t (0,0)):=QJ _ _ 4 _ _ y4 h3
 have h5:((((((W.setCell ⟨g,0,none⟩ y0).setCell ⟨g,1,none⟩ y1).setCell ⟨g,2,none⟩ y2).setCell ⟨g,3,none⟩ y3).setCell ⟨g,4,none⟩ y4).setCell ⟨g,5,none⟩ y5).heap[g]?=some (.cells #[y0,y1,y2,y3,y4,y5] t (0,0)):=QJ _ _ 5 _ _ y5 h4
 exact h5
theorem put7A {W:World}{g:Nat}{t:TypeId}{x0 x1 x2 x3 x4 x5 x6 y0 y1 y2 y3 y4 y5 y6:Value}(h:W.heap[g]?=some (.cells #[x0,x1,x2,x3,x4,x5,x6] t (0,0))):(((((((W.setCell ⟨g,0,none⟩ y0).setCell ⟨g,1,none⟩ y1).setCell ⟨g,2,none⟩ y2).setCell ⟨g,3,none⟩ y3).setCell ⟨g,4,none⟩ y4).setCell ⟨g,5,none⟩ y5).setCell ⟨g,6,none⟩ y6).heap[g]?=some (.cells #[y0,y1,y2,y3,y4,y5,y6] t (0,0)):=by
 have h0:(W.setCell ⟨g,0,none⟩ y0).heap[g]?=some (.cells #[y0,x1,x2,x3,x4,x5,x6] t (0,0)):=QJ _ _ 0 _ _ y0 h
 have h1:((W.setCell ⟨g,0,none⟩ y0).setCell ⟨g,1,none⟩ y1).heap[g]?=some (.cells #[y0,y1,x2,x3,x4,x5,x6] t (0,0)):=QJ _ _ 1 _ _ y1 h0
 have h2:(((W.setCell ⟨g,0,none⟩ y0).setCell ⟨g,1,none⟩ y1).setCell ⟨g,2,none⟩ y2).heap[g]?=some (.cells #[y0,y1,y2,x3,x4,x5,x6] t (0,0)):=QJ _ _ 2 _ _ y2 h1
 have h3:((((W.setCell ⟨g,0,none⟩ y0).setCell ⟨g,1,none⟩ y1).setCell ⟨g,2,none⟩ y2).setCell ⟨g,3,none⟩ y3).heap[g]?=some (.cells #[y0,y1,y2,y3,x4,x5,x6] t (0,0)):=QJ _ _ 3 _ _ y3 h2
 have h4:(((((W.setCell ⟨g,0,none⟩ y0).setCell ⟨g,1,none⟩ y1).setCell ⟨g,2,none⟩ y2).setCell ⟨g,3,none⟩ y3).setCell ⟨g,4,none⟩ y4).heap[g]?=some (.cells #[y0,y1,y2,y3,y4,x5,x6] t (0,0)):=QJ _ _ 4 _ _ y4 h3
 have h5:((((((W.setCell ⟨g,0,none⟩ y0).setCell ⟨g,1,none⟩ y1).setCell ⟨g,2,none⟩ y2).setCell ⟨g,3,none⟩ y3).setCell ⟨g,4,none⟩ y4).setCell ⟨g,5,none⟩ y5).heap[g]?=some (.cells #[y0,y1,y2,y3,y4,y5,x6] t (0,0)):=QJ _ _ 5 _ _ y5 h4
 have h6:(((((((W.setCell ⟨g,0,none⟩ y0).setCell ⟨g,1,none⟩ y1).setCell ⟨g,2,none⟩ y2).setCell ⟨g,3,none⟩ y3).setCell ⟨g,4,none⟩ y4).setCell ⟨g,5,none⟩ y5).setCell ⟨g,6,none⟩ y6).heap[g]?=some (.cells #[y0,y1,y2,y3,y4,y5,y6] t (0,0)):=QJ _ _ 6 _ _ y6 h5
 exact h6
theorem jLv {T:Ts}{L:List ByteArray}(h:(fndN T L).2=0):fndN T L=fndA T L/\(fndA T L).2=0/\(fndA T L).1.kd=0:=by
 unfold fndN at h ⊢
 by_cases hc:(fndA T L).2=0/\(fndA T L).1.kd≠0
 ·rw[if_pos hc] at h;cases h
 ·rw[if_neg hc] at h ⊢
  refine ⟨rfl,h,?_⟩
  by_cases h2:(fndA T L).1.kd=0
  ·exact h2
  ·exact absurd ⟨h,h2⟩ hc
theorem jF0 {T:Ts}{L:List ByteArray}(h:(fndS T L).2=0):fndS T L=fndA T L/\(fndA T L).2=0/\(fndA T L).1.kd≠0:=by
 unfold fndS at h ⊢
 by_cases hc:(fndA T L).2=0/\(fndA T L).1.kd=0
 ·rw[if_pos hc] at h;cases h
 ·rw[if_neg hc] at h ⊢
  exact ⟨rfl,h,fun h2=>hc ⟨h,h2⟩⟩
theorem jG6 {T:Ts}{L:List ByteArray}(h:(fndF T L).2=0):fndF T L=fndA T L/\(fndA T L).2=0/\(fndA T L).1.kd≠0/\(fndA T L).1.kd≠1:=by
 unfold fndF at h ⊢
 by_cases hc:(fndS T L).2=0/\(fndS T L).1.kd=1
 ·rw[if_pos hc] at h;cases h
 ·rw[if_neg hc] at h ⊢
  obtain ⟨h1,h2,h3⟩:=jF0 h
  exact ⟨h1,h2,h3,fun h4=>hc ⟨h,by rw[h1];exact h4⟩⟩
theorem jN4 {T:Ts}{L:List ByteArray}(h:(fndD T L).2=0):fndD T L=fndA T L/\(fndA T L).2=0/\(fndA T L).1.kd≠0/\(fndA T L).1.kd≠2:=by
 unfold fndD at h ⊢
 by_cases hc:(fndS T L).2=0/\(fndS T L).1.kd=2
 ·rw[if_pos hc] at h;cases h
 ·rw[if_neg hc] at h ⊢
  obtain ⟨h1,h2,h3⟩:=jF0 h
  exact ⟨h1,h2,h3,fun h4=>hc ⟨h,by rw[h1];exact h4⟩⟩
theorem jG2 {T:Ts}{L:List ByteArray}(h:(fndA T L).1.kd≠1):L≠[]:=fun e=>by
 subst e
 exact h rfl
structure Got (T:Ts)(dp:Nat->Nat)(L:List ByteArray)(b:Sp):Prop where
 sp:L≠[]->Spot T dp b L.length
 up:L≠[]->Lds T L.dropLast b.par
 nm:L≠[]->L.getLast?=some b.nm
 dir:b.kd=1->tk T b.no/\Lds T L b.no/\dp b.no=L.length
 rt:L=[]->b=Sp.root
theorem got {T:Ts}{dp:Nat->Nat}(h:Inv T dp){L:List ByteArray}(hL:L.all Pa.nm=true)(he:(fndA T L).2=0):Got T dp L (fndA T L).1:=by
 obtain ⟨h1,h2⟩:=jN3 h hL he
 exact ⟨fun h3=>(h1 h3).1,fun h3=>(h1 h3).2.1,fun h3=>(h1 h3).2.2,h2,fun h3=>by subst h3;rfl⟩
theorem Got.eq {T:Ts}{dp:Nat->Nat}(h:Inv T dp){P Q:List ByteArray}{a b:Sp}(hP:Got T dp P a)(hQ:Got T dp Q b)(h1:P≠[])(h2:Q≠[])(e:b.par=a.par/\b.nm=a.nm):P=Q:=by
 have e1:=(hP.up h1).eq h (e.1▸hQ.up h2)
 have e2:P.getLast?=Q.getLast?:=by rw[hP.nm h1,hQ.nm h2,e.2]
 rw[<-List.dropLast_concat_getLast h1,<-List.dropLast_concat_getLast h2,e1]
 rw[List.getLast?_eq_some_getLast h1,List.getLast?_eq_some_getLast h2] at e2
 rw[QW e2]
theorem jF1 {o:Op}(h:askE o=0):1<=o.kind/\o.kind<=10/\Pa.jA9 o.path=0/\(o.kind=6->Pa.jA9 o.to_=0)/\((o.kind=3\/o.kind=4)->0<=o.at_)/\((o.kind=3\/o.kind=5)->0<=o.n):=by
 unfold askE at h
 by_cases h1:o.kind<1\/10<o.kind
 ·rw[if_pos h1] at h;cases h
 ·rw[if_neg h1] at h
  by_cases h2:Pa.jA9 o.path≠0
  ·rw[if_pos h2] at h;exact absurd h h2
  ·rw[if_neg h2] at h
   by_cases h3:o.kind=6/\Pa.jA9 o.to_≠0
   ·rw[if_pos h3] at h;exact absurd h h3.2
   ·rw[if_neg h3] at h
    by_cases h4:((o.kind=3\/o.kind=4)/\o.at_<0)\/((o.kind=3\/o.kind=5)/\o.n<0)
    ·rw[if_pos h4] at h;cases h
    ·refine ⟨by omega,by omega,QB h2,fun e=>?_,fun e=>?_,fun e=>?_⟩
     ·by_cases h5:Pa.jA9 o.to_=0
      ·exact h5
      ·exact absurd ⟨e,h5⟩ h3
     ·rcases Int.lt_or_le o.at_ 0 with h5 | h5
      ·exact absurd (.inl ⟨e,h5⟩) h4
      ·exact h5
     ·rcases Int.lt_or_le o.n 0 with h5 | h5
      ·exact absurd (.inr ⟨e,h5⟩) h4
      ·exact h5
theorem jF5 {s:ByteArray}(h:Pa.jA9 s=0):(Pa.jB3 s).all Pa.nm=true/\(Pa.jB3 s).length<=16:=Pa.fault_zero.1 (Pa.parse_text h).1
theorem tarE_ok {T:Ts}{P Q:List ByteArray}{a:Sp}(h:tarE T P Q a=0):¬(a.kd=1/\P <+: Q)/\(fndA T Q).2=0/\(fndA T Q).1.kd≠1/\¬((fndA T Q).1.kd=2/\a.kd=1)/\(a.kd=1->∀j,Rch T a.no j->Q.length+j<=16):=by
 unfold tarE at h
 by_cases h1:a.kd=1/\P <+: Q
 ·rw[if_pos h1] at h;cases h
 ·rw[if_neg h1] at h
  by_cases h2:(fndA T Q).2≠0
  ·rw[if_pos h2] at h;exact absurd h h2
  ·rw[if_neg h2] at h
   by_cases h3:(fndA T Q).1.kd=1
   ·rw[if_pos h3] at h;cases h
   ·rw[if_neg h3] at h
    by_cases h4:(fndA T Q).1.kd=2/\a.kd=1
    ·rw[if_pos h4] at h;cases h
    ·rw[if_neg h4] at h
     by_cases h5:a.kd=1/\∃j,Rch T a.no j/\16<Q.length+j
     ·rw[if_pos h5] at h;cases h
     ·refine ⟨h1,QB h2,h3,h4,fun e j hj=>?_⟩
      rcases Nat.lt_or_ge 16 (Q.length+j) with h6 | h6
      ·exact absurd ⟨e,j,hj,h6⟩ h5
      ·exact h6
theorem inv_ren {T:Ts}{dp:Nat->Nat}(h:Inv T dp){P Q:List ByteArray}(hP:P.all Pa.nm=true)(hQ:Q.all Pa.nm=true)(hl:Q.length<=16):∃dp',Inv (renT T P Q).2.2 dp':=by
 unfold renT
 by_cases h1:(fndS T P).2≠0
 ·rw[if_pos h1];exact ⟨dp,h⟩
 ·rw[if_neg h1]
  by_cases h2:P=Q
  ·rw[if_pos h2];exact ⟨dp,h⟩
  ·rw[if_neg h2]
   by_cases h3:tarE T P Q (fndS T P).1≠0
   ·rw[if_pos h3];exact ⟨dp,h⟩
   ·rw[if_neg h3]
    obtain ⟨e1,e2,e3⟩:=jF0 (QB h1)
    obtain ⟨t1,t2,t3,t4,t5⟩:=tarE_ok (QB h3)
    rw[e1] at *
    have gP:=got h hP e2
    have gQ:=got h hQ t2
    have hQ0:=jG2 t3
    generalize fndA T P=fa at *
    generalize fndA T Q=fb at *
    have sQ:=gQ.sp hQ0
    have kQ:=sQ.kd h
    by_cases hk:fa.1.kd=1
    ·have hP0:P≠[]:=fun e=>t1 ⟨hk,by rw[e];exact List.nil_prefix⟩
     have kb:fb.1.kd=0:=by
      rcases kQ with k | k | k
      ·exact k
      ·exact absurd k t3
      ·exact absurd ⟨k,hk⟩ t4
     rw[if_pos kb]
     refine inv_mvD h (gP.sp hP0) sQ hk kb (fun hu=>t1 ⟨hk,?_⟩) hl (t5 hk)
     exact (Lds.und h hu (gP.dir hk).2.1 _ (gQ.up hQ0)).trans (List.dropLast_prefix Q)
    ·have hP0:P≠[]:=fun e=>hk (by rw[gP.rt e];rfl)
     have sP:=gP.sp hP0
     have ka:fa.1.kd=2:=by
      rcases sP.kd h with k | k | k
      ·exact absurd k e3
      ·exact absurd k hk
      ·exact k
     have kb:fb.1.kd=0\/fb.1.kd=2:=by
      rcases kQ with k | k | k
      ·exact .inl k
      ·exact absurd k t3
      ·exact .inr k
     have:=inv_mvF h sP sQ ka kb (fun e=>h2 (gP.eq h gQ hP0 hQ0 e)) hl
     by_cases kz:fb.1.kd=0
     ·rw[if_pos kz] at this ⊢
      exact ⟨dp,this⟩
     ·rw[if_neg kz] at this ⊢
      exact ⟨dp,this⟩
theorem inv_do {T:Ts}{dp:Nat->Nat}(h:Inv T dp)(o:Op):∃dp',Inv (doT T o).2.2 dp':=by
 unfold doT
 by_cases ha:askE o≠0
 ·rw[if_pos ha];exact ⟨dp,h⟩
 rw[if_neg ha]
 obtain ⟨k1,k2,pP,pQ,kA,kN⟩:=jF1 (QB ha)
 obtain ⟨nP,lP⟩:=jF5 pP
 generalize Pa.jB3 o.path=P at *
 have file:∀{b:Sp},(fndF T P).2=0->(fndF T P).1=b->Spot T dp b P.length/\b.kd=2:=fun {b} he hb=>by
  obtain ⟨e1,e2,e3,e4⟩:=jG6 he
  have g:=got h nP e2
  rw[e1] at hb
  subst hb
  have s:=g.sp (jG2 e4)
  rcases s.kd h with k | k | k
  ·exact absurd k e3
  ·exact absurd k e4
  ·exact ⟨s,k⟩
 by_cases c1:o.kind=1
 ·rw[if_pos c1]
  unfold mkdT
  by_cases he:(fndN T P).2≠0
  ·rw[if_pos he];exact ⟨dp,h⟩
  ·rw[if_neg he]
   obtain ⟨e1,e2,e3⟩:=jLv (QB he)
   by_cases hr:lowL T.D<T.dr
   ·rw[if_pos hr,e1]
    exact ⟨_,inv_mk h ((got h nP e2).sp (jG2 (T:=T) (by rw[e3];decide))) e3 lP hr⟩
   ·rw[if_neg hr];exact ⟨dp,h⟩
 rw[if_neg c1]
 by_cases c2:o.kind=2
 ·rw[if_pos c2]
  unfold creT
  by_cases he:(fndN T P).2≠0
  ·rw[if_pos he];exact ⟨dp,h⟩
  ·rw[if_neg he]
   obtain ⟨e1,e2,e3⟩:=jLv (QB he)
   by_cases hr:lowL T.F<T.fr
   ·rw[if_pos hr,e1]
    exact ⟨_,inv_cr h ((got h nP e2).sp (jG2 (T:=T) (by rw[e3];decide))) e3 lP hr⟩
   ·rw[if_neg hr];exact ⟨dp,h⟩
 rw[if_neg c2]
 by_cases c3:o.kind=3
 ·rw[if_pos c3]
  unfold reaT
  by_cases he:(fndF T P).2≠0
  ·rw[if_pos he];exact ⟨dp,h⟩
  ·rw[if_neg he];exact ⟨dp,h⟩
 rw[if_neg c3]
 by_cases c4:o.kind=4
 ·rw[if_pos c4]
  unfold wriT
  by_cases he:(fndF T P).2≠0
  ·rw[if_pos he];exact ⟨dp,h⟩
  ·rw[if_neg he]
   obtain ⟨s,k⟩:=file (QB he) rfl
   by_cases hb:(T.most:Int)-o.at_<o.data.size
   ·rw[if_pos hb];exact ⟨dp,h⟩
   ·rw[if_neg hb]
    by_cases hz:o.data.size=0
    ·simp only[if_pos hz];exact ⟨dp,h⟩
    ·simp only[if_neg hz]
     have hM:=s.there (by omega)
     rw[k] at hM
     obtain ⟨n0,s0,hF,_⟩:=h.fileF hM
     refine ⟨dp,inv_size h hF ?_⟩
     have hsz:szF T (fndF T P).1.no=s0:=by unfold szF;rw[hF]
     unfold wriS
     rw[if_neg hz,hsz]
     have:=h.hS _ _ _ _ hF
     have:=kA (.inr c4)
     omega
 rw[if_neg c4]
 by_cases c5:o.kind=5
 ·rw[if_pos c5]
  unfold cutT
  by_cases he:(fndF T P).2≠0
  ·rw[if_pos he];exact ⟨dp,h⟩
  ·rw[if_neg he]
   obtain ⟨s,k⟩:=file (QB he) rfl
   by_cases hb:(T.most:Int)<o.n
   ·rw[if_pos hb];exact ⟨dp,h⟩
   ·rw[if_neg hb]
    have hM:=s.there (by omega)
    rw[k] at hM
    obtain ⟨n0,s0,hF,_⟩:=h.fileF hM
    exact ⟨dp,inv_size h hF (by omega)⟩
 rw[if_neg c5]
 by_cases c6:o.kind=6
 ·rw[if_pos c6]
  obtain ⟨nQ,lQ⟩:=jF5 (pQ c6)
  exact inv_ren h nP nQ lQ
 rw[if_neg c6]
 by_cases c7:o.kind=7
 ·rw[if_pos c7]
  unfold remT
  by_cases he:(fndF T P).2≠0
  ·rw[if_pos he];exact ⟨dp,h⟩
  ·rw[if_neg he]
   obtain ⟨s,k⟩:=file (QB he) rfl
   exact ⟨dp,inv_rm h s k⟩
 rw[if_neg c7]
 by_cases c8:o.kind=8
 ·rw[if_pos c8]
  unfold rmdT
  by_cases hL:P=[]
  ·rw[if_pos hL];exact ⟨dp,h⟩
  ·rw[if_neg hL]
   by_cases he:(fndD T P).2≠0
   ·rw[if_pos he];exact ⟨dp,h⟩
   ·rw[if_neg he]
    obtain ⟨e1,e2,e3,e4⟩:=jN4 (QB he)
    by_cases hE:∃k,(T.M (fndD T P).1.no k).isSome=true
    ·rw[if_pos hE];exact ⟨dp,h⟩
    ·rw[if_neg hE]
     have g:=got h nP e2
     rw[e1] at hE ⊢
     have s:=g.sp hL
     refine ⟨dp,inv_rd h s ?_ (fun k=>?_)⟩
     ·rcases s.kd h with k | k | k
      ·exact absurd k e3
      ·exact k
      ·exact absurd k e4
     ·cases hq:T.M (fndA T P).1.no k with
      | none=>rfl
      | some v=>exact absurd ⟨k,by rw[hq];rfl⟩ hE
 rw[if_neg c8]
 by_cases c9:o.kind=9
 ·rw[if_pos c9]
  unfold lisT
  by_cases he:(fndD T P).2≠0
  ·rw[if_pos he];exact ⟨dp,h⟩
  ·rw[if_neg he];exact ⟨dp,h⟩
 rw[if_neg c9]
 unfold staT
 by_cases he:(fndS T P).2≠0
 ·rw[if_pos he];exact ⟨dp,h⟩
 ·rw[if_neg he]
  by_cases hk:(fndS T P).1.kd=1
  ·rw[if_pos hk];exact ⟨dp,h⟩
  ·rw[if_neg hk];exact ⟨dp,h⟩
end Go.Proofs.YtfnklhajafmooaaGreatDoor.Tr
namespace Go.Proofs.YtfnklhajafmooaaGreatDoor.Tr
open Go.RowKit Go.Lib Go.Deep Go.Proofs.Tryz
structure Rw where
 t:Bool
 p:Nat
 n:ByteArray
 x:Value
def rwC (r:Rw):List Value:=[.bool r.t,.int .i64 (r.p:Int),.string r.n,r.x]
def rwsC (rs:List Rw):List Value:=rs.flatMap rwC
theorem jIv (r:Rw)(rs:List Rw):rwsC (r :: rs)=.bool r.t :: .int .i64 (r.p:Int) :: .string r.n :: r.x :: rwsC rs:=rfl
theorem jH1 (a b:List Rw):rwsC (a++b)=rwsC a++rwsC b:=by simp[rwsC]
theorem jK0:∀(rs:List Rw) (i:Nat) (r:Rw),rs[i]?=some r->∀j,j<4->(rwsC rs)[i*4+j]?=(rwC r)[j]?
 | [],i,r,h,j,hj=>by cases h
 | a :: rs,0,r,h,j,hj=>by
   simp only[List.getElem?_cons_zero,Option.some.injEq] at h
   subst h
   rw[Nat.zero_mul,Nat.zero_add]
   show (rwC a++rwsC rs)[j]?=_
   rw[List.getElem?_append_left (by simpa[rwC] using hj)]
 | a :: rs,i+1,r,h,j,hj=>by
   rw[List.getElem?_cons_succ] at h
   rw[jIv,show (i+1)*4+j=(i*4+j)+1+1+1+1 by omega]
   simp only[List.getElem?_cons_succ]
   exact jK0 rs i r h j hj
theorem rwsC_set:∀(rs:List Rw) (i:Nat) (r:Rw),((((rwsC rs).set (i*4) (.bool r.t)).set (i*4+1) (.int .i64 (r.p:Int))).set (i*4+2) (.string r.n)).set (i*4+3) r.x=rwsC (rs.set i r)
 | [],i,r=>by simp[rwsC]
 | a :: rs,0,r=>by
   rw[jIv]
   simp only[Nat.zero_mul,Nat.zero_add,List.set_cons_zero,List.set_cons_succ,jIv]
 | a :: rs,i+1,r=>by
   rw[jIv,show (i+1)*4=i*4+1+1+1+1 by omega,show i*4+1+1+1+1+1=(i*4+1)+1+1+1+1 by omega,show i*4+1+1+1+1+2=(i*4+2)+1+1+1+1 by omega,show i*4+1+1+1+1+3=(i*4+3)+1+1+1+1 by omega]
   simp only[List.set_cons_succ,jIv]
   rw[<-rwsC_set rs i r]
def put4 (W:World)(g o:Nat)(r:Rw):World:=(((W.setCell ⟨g,o,none⟩ (.bool r.t)).setCell ⟨g,o+1,none⟩ (.int .i64 (r.p:Int))).setCell ⟨g,o+2,none⟩ (.string r.n)).setCell ⟨g,o+3,none⟩ r.x
theorem jEz {w:World}{B ty g cap:Nat}{rs:List Rw}(h:w.ownsRow B ty 4 (.slice (some ⟨g,0,none⟩) rs.length cap) rs.length (rwsC rs))(i:Nat)(r:Rw) :
 (put4 w g (i*4) r).ownsRow B ty 4 (.slice (some ⟨g,0,none⟩) rs.length cap) rs.length (rwsC (rs.set i r))/\w.grownBy (put4 w g (i*4) r) (some g):=by
 have h1:=h.stored (i*4) (.bool r.t)
 have h2:=h1.1.stored (i*4+1) (.int .i64 (r.p:Int))
 have h3:=h2.1.stored (i*4+2) (.string r.n)
 have h4:=h3.1.stored (i*4+3) r.x
 rw[rwsC_set] at h4
 exact ⟨h4.1,((h1.2.trans h2.2).trans h3.2).trans h4.2⟩
theorem jFx {w:World}{B ty:Nat}{v:Value}{rs:List Rw}(h:w.ownsRow B ty 4 v rs.length (rwsC rs)):∃a cap,v=.slice a rs.length cap:=by
 rcases h.2 with ⟨h1,h2⟩ | ⟨g,cap,cur,h1,_⟩
 ·exact ⟨none,0,by rw[h2];exact h1⟩
 ·exact ⟨_,cap,h1⟩
theorem jC2 {w:World}{B ty:Nat}{v:Value}{rs:List Rw}(h:w.ownsRow B ty 4 v rs.length (rwsC rs)){i:Nat}{r:Rw}(hi:rs[i]?=some r):∃g cap,v=.slice (some ⟨g,0,none⟩) rs.length cap:=by
 rcases h.2 with ⟨h1,h2⟩ | ⟨g,cap,cur,h1,_⟩
 ·have:=(QV.1 hi).1
  omega
 ·exact ⟨g,cap,h1⟩
theorem jC3 {w:World}{B ty g cap:Nat}{rs:List Rw}(h:w.ownsRow B ty 4 (.slice (some ⟨g,0,none⟩) rs.length cap) rs.length (rwsC rs)){i:Nat}{r:Rw}(hi:rs[i]?=some r) :
 w.cell? ⟨g,i*4,none⟩=some (.bool r.t)/\w.cell? ⟨g,i*4+1,none⟩=some (.int .i64 (r.p:Int))/\w.cell? ⟨g,i*4+2,none⟩=some (.string r.n)/\w.cell? ⟨g,i*4+3,none⟩=some r.x:=by
 have hl:=(QV.1 hi).1
 refine ⟨?_,?_,?_,?_⟩
 ·rw[h.cellAt (i*4) (by omega)];exact jK0 rs i r hi 0 (by omega)
 ·rw[h.cellAt (i*4+1) (by omega)];exact jK0 rs i r hi 1 (by omega)
 ·rw[h.cellAt (i*4+2) (by omega)];exact jK0 rs i r hi 2 (by omega)
 ·rw[h.cellAt (i*4+3) (by omega)];exact jK0 rs i r hi 3 (by omega)
def nodeD (v:Nat × Nat):DataW Unit:=.agg [.lit (.int .i64 (v.1:Int)),.lit (.int .i64 (v.2:Int))]
def jF2 (v:Value):Option (DataW Unit × List MemPlace) :=
 match v with
 | .agg a=>match a.toList with
   | [.int .i64 (.ofNat k),.int .i64 (.ofNat n)]=>some (nodeD (k,n),[])
   | _=>none
 | _=>none
theorem jM3 (k n:Nat):jF2 (.agg #[.int .i64 (k:Int),.int .i64 (n:Int)])=some (nodeD (k,n),[]):=rfl
theorem nodeR_inv {v:Value}{y:DataW Unit × List MemPlace}(h:jF2 v=some y):∃k n:Nat,v=.agg #[.int .i64 (k:Int),.int .i64 (n:Int)]/\y=(nodeD (k,n),[]):=by
 unfold jF2 at h
 split at h
 ·rename_i a
  split at h
  ·rename_i k n e
   refine ⟨k,n,?_,(QW h).symm⟩
   rw[<-Array.toList_inj.1 (show a.toList=(#[.int .i64 (k:Int),.int .i64 (n:Int)]:Array Value).toList from e)]
  ·cases h
 ·cases h
theorem jN9 {a b:Nat × Nat}(h:nodeD a=nodeD b):a=b:=by
 unfold nodeD at h
 injection h with h
 injection h with h1 h2
 injection h2 with h2 _
 injection h1 with h1
 injection h1 with _ h1
 injection h2 with h2
 injection h2 with _ h2
 exact Prod.ext (by omega) (by omega)
structure Tab (D:DataW Unit)(f:Key->Option (Nat × Nat)):Prop where
 isMap:Maps.IsMap D
 has:∀k,Maps.has D (.string k)=(f k).isSome
 at_:∀k b,f k=some b->∀z,D.atKey (.string k) z=nodeD b
theorem tab_nil:Tab (.map []) (fun _=>none):=⟨Maps.isMap_empty,fun _=>rfl,fun _ _ h=>by cases h⟩
theorem Tab.put {D:DataW Unit}{f:Key->Option (Nat × Nat)}(h:Tab D f)(n:Key)(b:Nat × Nat):Tab (D.put (.string n) (nodeD b)) (fun k=>if k=n then some b else f k):=by
 refine ⟨h.isMap.put _ _,fun k=>?_,fun k x hx z=>?_⟩
 ·by_cases he:k=n
  ·subst he
   rw[Maps.has_put_same h.isMap (by simp[WideAt.IsKeyLit])]
   simp
  ·rw[Maps.has_put_other (fun e=>he (by injection e)),h.has k]
   simp[he]
 ·by_cases he:k=n
  ·subst he
   simp only[if_true,Option.some.injEq] at hx
   rw[Maps.atKey_put_same h.isMap (by simp[WideAt.IsKeyLit]),hx]
  ·rw[Maps.atKey_put_other (fun e=>he (by injection e))]
   simp only[if_neg he] at hx
   exact h.at_ k x hx z
theorem Tab.del {D:DataW Unit}{f:Key->Option (Nat × Nat)}(h:Tab D f)(n:Key):Tab (D.del (.string n)) (fun k=>if k=n then none else f k):=by
 refine ⟨h.isMap.del _,fun k=>?_,fun k x hx z=>?_⟩
 ·by_cases he:k=n
  ·subst he
   rw[Maps.has_del_same]
   simp
  ·rw[Maps.has_del_other (fun e=>he (by injection e)),h.has k]
   simp[he]
 ·by_cases he:k=n
  ·subst he
   simp at hx
  ·rw[Maps.atKey_del_other (fun e=>he (by injection e))]
   simp only[if_neg he] at hx
   exact h.at_ k x hx z
theorem zeroNode (w:World):(zeroValue 153).run prog w=.ok (.agg #[.int .i64 0,.int .i64 0]) w:=by kernel_rfl
theorem jOj:Maps.Keyed prog 9:=Maps.string_keyed underlying9
theorem look_any {w:World}{m n:Nat}{D:DataW Unit}{f:Key->Option (Nat × Nat)}(h:w.ownsMap prog 9 jF2 m n D)(hD:Tab D f)(t:ByteArray)(ht:t.size<=maxLen) :
 (Instr.lookup 142 (.map (some m)) (.string t) false).run prog w=.ok (.agg #[.int .i64 (((f (ky t)).getD (0,0)).1:Int),.int .i64 (((f (ky t)).getD (0,0)).2:Int)]) w:=by
 obtain ⟨v,ps,h1,h2⟩:=h.lookup (t:=142) jOj underlying142 (zeroNode w) (jM3 0 0) (WideMaps.keyOf_string_mk underlying9 ht)
 obtain ⟨a,b,rfl,h3⟩:=nodeR_inv h2
 rw[h1]
 simp only[Prod.mk.injEq] at h3
 have h3:=h3.1
 have hh:=hD.has t.data.toList
 unfold ky
 cases hf:f t.data.toList with
 | none =>
   rw[hf] at hh
   rw[Maps.atKey_of_not_has hh] at h3
   have e:=jN9 h3
   injection e with e1 e2
   rw[<-e1,<-e2]
   rfl
 | some x =>
   rw[hD.at_ _ x hf] at h3
   have e:=jN9 h3
   subst e
   rfl
def dRow (o:Option (Nat × ByteArray))(m:Nat):Rw:=match o with
 | some d=>⟨true,d.1,d.2,.map (some m)⟩
 | none=>⟨false,0,e0,.map none⟩
def fRow (o:Option (Nat × ByteArray × Nat)):Rw:=match o with
 | some d=>⟨true,d.1,d.2.1,.int .i64 (d.2.2:Int)⟩
 | none=>⟨false,0,e0,.int .i64 0⟩
def jF3 (D:List (Option (Nat × ByteArray)))(ms:Nat->Nat):List Rw:=D.mapIdx fun i o=>dRow o (ms i)
def jD8 (F:List (Option (Nat × ByteArray × Nat))):List Rw:=F.map fRow
theorem jCx (D:List (Option (Nat × ByteArray)))(ms:Nat->Nat):(jF3 D ms).length=D.length:=by simp[jF3]
theorem jDv (F:List (Option (Nat × ByteArray × Nat))):(jD8 F).length=F.length:=by simp[jD8]
theorem jDx (D:List (Option (Nat × ByteArray)))(ms:Nat->Nat)(i:Nat):(jF3 D ms)[i]?=(D[i]?).map fun o=>dRow o (ms i):=by simp[jF3]
theorem jD5 (F:List (Option (Nat × ByteArray × Nat)))(i:Nat):(jD8 F)[i]?=(F[i]?).map fRow:=by simp[jD8]
def layR (rs:List Rw)(x:Nat)(r:Rw):List Rw:=if x<rs.length then rs.set x r else rs++[r]
theorem dRows_lay (D:List (Option (Nat × ByteArray)))(ms:Nat->Nat)(x:Nat)(o:Option (Nat × ByteArray))(m:Nat)(hx:x<=D.length):jF3 (layL D x o) (fun i=>if i=x then m else ms i)=layR (jF3 D ms) x (dRow o m):=by
 apply List.ext_getElem?
 intro i
 rw[jDx,jKq o hx]
 unfold layR
 rw[jCx]
 by_cases hl:x<D.length
 ·rw[if_pos hl,List.getElem?_set,jCx]
  by_cases hi:i=x
  ·subst hi;rw[if_pos rfl,if_pos rfl,if_pos rfl,if_pos hl];rfl
  ·rw[if_neg hi,if_neg hi,if_neg (fun e=>hi e.symm),jDx]
 ·rw[if_neg hl]
  obtain rfl:x=D.length:=by omega
  by_cases hi:i=D.length
  ·subst hi
   rw[if_pos rfl,if_pos rfl,Qd (by rw[jCx];exact Qj _),jCx]
   simp
  ·rw[if_neg hi,if_neg hi]
   by_cases h2:i<D.length
   ·rw[List.getElem?_append_left (by rw[jCx];exact h2),jDx]
   ·rw[List.getElem?_eq_none (by omega),List.getElem?_eq_none (by simp[jCx];omega)]
    rfl
theorem fRows_lay (F:List (Option (Nat × ByteArray × Nat)))(x:Nat)(o:Option (Nat × ByteArray × Nat)):jD8 (layL F x o)=layR (jD8 F) x (fRow o):=by
 unfold layL layR jD8
 rw[List.length_map]
 by_cases hl:x<F.length
 ·rw[if_pos hl,if_pos hl,List.map_set]
 ·rw[if_neg hl,if_neg hl,List.map_append]
  rfl
theorem jA0 {W W':World}{B e n size:Nat}{v:Value}{xs:List Value}(h:W.ownsRow B e size v n xs)(hk:∀g,v.ownBlock=some g->W'.heap[g]?=W.heap[g]?):W'.ownsRow B e size v n xs:=by
 obtain ⟨q0,q⟩:=h
 refine ⟨q0,?_⟩
 rcases q with q | ⟨g1,cap1,cur1,q1,q2,q3,q4⟩
 ·exact .inl q
 ·exact .inr ⟨g1,cap1,cur1,q1,q2,(hk g1 (by rw[q1];rfl)).trans q3,q4⟩
theorem _root_.Go.World.ownsRow.below0 {W W':World}{e n size:Nat}{v:Value}{xs:List Value}{B:Nat}(h:W.ownsRow B e size v n xs)(hb:Below W.heap.size W W'):W'.ownsRow B e size v n xs:=jA0 h fun g hg=>hb.block g (h.lt g hg).2
theorem jA1 {w:World}{B n size e k:Nat}{v:Value}{xs:List Value}(h:w.ownsRow B e size v n xs)(hv:v.ownBlock=some k):∃cur,w.heap[k]?=some (.cells cur e (0,0)):=by
 rcases h.2 with ⟨q1,_⟩ | ⟨g1,cap1,cur1,q1,q2,q3,q4⟩
 ·rw[q1] at hv;cases hv
 ·rw[q1] at hv
  simp[Value.ownBlock] at hv
  subst hv
  exact ⟨cur1,q3⟩
theorem jC6 {W W':World}{P:Program}{k:TypeId}{R:Value->Option (DataW Unit × List MemPlace)}{b n:Nat}{D:DataW Unit}(h:W.ownsMap P k R b n D)(hk:W'.heap[b]?=W.heap[b]?):W'.ownsMap P k R b n D:=by
 obtain ⟨es,clock,h1,h2⟩:=h
 exact ⟨es,clock,hk.trans h1,h2⟩
theorem jDq {W:World}{P:Program}{k:TypeId}{R:Value->Option (DataW Unit × List MemPlace)}{b n:Nat}{D:DataW Unit}(h:W.ownsMap P k R b n D):∃es clock,W.heap[b]?=some (.map es clock):=by
 obtain ⟨es,clock,h1,_⟩:=h
 exact ⟨es,clock,h1⟩
theorem jBv {S:List Nat}{a w w':World}(h:Only S a w)(hb:Below w.heap.size w w'):Only S a w':=h.trans ⟨hb.os,hb.tape,hb.output,hb.size,fun k hk _=>hb.block k hk⟩
theorem jB8 {S:List Nat}{a w w':World}{row:Option Nat}(h:Only S a w)(hg:w.grownBy w' row)(hr:∀k,row=some k->k∈S\/a.heap.size<=k):Only S a w' :=
 ⟨hg.os.trans h.os,hg.tape.trans h.tape,hg.output.trans h.output,Qk h.size hg.size,fun k hk hS=>(hg.block k (Qx hk h.size) (fun e=>by
   rcases hr k e.symm with h1 | h1
   ·exact hS h1
   ·omega)).trans (h.block k hk hS)⟩
def stA (T:Ts)(dv fv:Value)(ld lf:Nat):Array Value:=#[.int .i64 (T.dr:Int),dv,.int .i64 (ld:Int),.int .i64 (T.fr:Int),fv,.int .i64 (lf:Int),.int .i64 (T.most:Int)]
structure Inn (w:World)(q:Nat)(dv fv:Value)(ld lf:Nat)(ms:Nat->Nat)(nn:Nat)(T:Ts):Prop where
 hq:w.heap[q]?=some (.cells (stA T dv fv ld lf) 138 (0,0))
 hd:w.ownsRow 0 187 4 dv T.D.length (rwsC (jF3 T.D ms))
 hf:w.ownsRow 0 191 4 fv T.F.length (rwsC (jD8 T.F))
 hm:∀(i:Nat) d,T.D[i]?=some (some d)->∃Dt,w.ownsMap prog 9 jF2 (ms i) nn Dt/\Tab Dt (T.M i)
 hi:∀(i j:Nat) d e,T.D[i]?=some (some d)->T.D[j]?=some (some e)->ms i=ms j->i=j
 hld:∀i,i<ld->∃d,T.D[i]?=some (some d)
 hlf:∀i,i<lf->∃d,T.F[i]?=some (some d)
 ldl:ld<=T.D.length
 lfl:lf<=T.F.length
 dl:T.D.length<=T.dr
 fl:T.F.length<=T.fr
 lim:T.fr<=65536/\T.dr<=4097/\T.most<=65536
def mpL (D:List (Option (Nat × ByteArray)))(ms:Nat->Nat):List Nat:=(List.range D.length).filterMap fun i=>if (D[i]?).join.isSome=true then some (ms i) else none
theorem mem_mpL {D:List (Option (Nat × ByteArray))}{ms:Nat->Nat}{k:Nat}:k∈mpL D ms↔∃(i:Nat) (d:Nat × ByteArray),D[i]?=some (some d)/\k=ms i:=by
 unfold mpL
 rw[List.mem_filterMap]
 constructor
 ·rintro ⟨i,hi,h⟩
  cases hq:D[i]? with
  | none=>rw[hq] at h;simp at h
  | some o =>
    cases o with
    | none=>rw[hq] at h;simp at h
    | some d =>
      rw[hq] at h
      simp at h
      exact ⟨i,d,hq,h.symm⟩
 ·rintro ⟨i,d,h,rfl⟩
  exact ⟨i,List.mem_range.2 (jAy h),by rw[h];simp⟩
def fp (q:Nat)(dv fv:Value)(D:List (Option (Nat × ByteArray)))(ms:Nat->Nat):List Nat:=q :: (dv.ownBlock.toList++(fv.ownBlock.toList++mpL D ms))
theorem jBx {k q:Nat}{dv fv:Value}{D:List (Option (Nat × ByteArray))}{ms:Nat->Nat}:k∈fp q dv fv D ms↔k=q\/dv.ownBlock=some k\/fv.ownBlock=some k\/∃(i:Nat) (d:Nat × ByteArray),D[i]?=some (some d)/\k=ms i:=by
 unfold fp
 simp only[List.mem_cons,List.mem_append,Option.mem_toList,mem_mpL]
def Lay (w:World)(q:Nat)(F:List Nat)(nn:Nat)(T:Ts):Prop:=∃dv fv ld lf ms,F=fp q dv fv T.D ms/\Inn w q dv fv ld lf ms nn T
def Turn (F:List Nat)(w w':World)(q nn:Nat)(T:Ts):Prop:=Only F w w'/\∃F',Lay w' q F' nn T/\∀k,k∈F'->k∈F\/w.heap.size<=k
theorem Inn.kinds {w:World}{q:Nat}{dv fv:Value}{ld lf:Nat}{ms:Nat->Nat}{nn:Nat}{T:Ts}(h:Inn w q dv fv ld lf ms nn T){k:Nat}(hk:k∈fp q dv fv T.D ms) :
 (∃es clock,w.heap[k]?=some (.map es clock))\/∃cur e,w.heap[k]?=some (.cells cur e (0,0))/\(e=138\/e=187\/e=191):=by
 rcases jBx.1 hk with rfl | hv | hv | ⟨i,d,h1,rfl⟩
 ·exact .inr ⟨_,_,h.hq,.inl rfl⟩
 ·obtain ⟨cur,hc⟩:=jA1 h.hd hv
  exact .inr ⟨_,_,hc,.inr (.inl rfl)⟩
 ·obtain ⟨cur,hc⟩:=jA1 h.hf hv
  exact .inr ⟨_,_,hc,.inr (.inr rfl)⟩
 ·obtain ⟨Dt,h2,_⟩:=h.hm i d h1
  exact .inl (jDq h2)
theorem Inn.lt {w:World}{q:Nat}{dv fv:Value}{ld lf:Nat}{ms:Nat->Nat}{nn:Nat}{T:Ts}(h:Inn w q dv fv ld lf ms nn T){k:Nat}(hk:k∈fp q dv fv T.D ms):k<w.heap.size:=by
 rcases h.kinds hk with ⟨es,cl,h1⟩ | ⟨c',e',h1,h2⟩
 ·exact (Array.getElem?_eq_some_iff.1 h1).1
 ·exact (Array.getElem?_eq_some_iff.1 h1).1
theorem Inn.notin {w:World}{q:Nat}{dv fv:Value}{ld lf:Nat}{ms:Nat->Nat}{nn:Nat}{T:Ts}(h:Inn w q dv fv ld lf ms nn T){k:Nat}{cur:Array Value}{e:TypeId}{fr:Nat × Nat}(hk:w.heap[k]?=some (.cells cur e fr))
 (he:¬(e=138\/e=187\/e=191)):k ∉ fp q dv fv T.D ms:=fun hm=>by
 rcases h.kinds hm with ⟨es,cl,h1⟩ | ⟨c',e',h1,h2⟩
 ·rw[hk] at h1;cases h1
 ·rw[hk] at h1
  injection h1 with h1
  injection h1 with _ h1 _
  subst h1
  exact he h2
theorem Inn.keep {w W:World}{q:Nat}{dv fv:Value}{ld lf:Nat}{ms:Nat->Nat}{nn:Nat}{T:Ts}(h:Inn w q dv fv ld lf ms nn T)(h1:∀k,k∈fp q dv fv T.D ms->W.heap[k]?=w.heap[k]?):Inn W q dv fv ld lf ms nn T :=
 ⟨(h1 q (jBx.2 (.inl rfl))).trans h.hq,jA0 h.hd fun g hg=>h1 g (jBx.2 (.inr (.inl hg))),jA0 h.hf fun g hg=>h1 g (jBx.2 (.inr (.inr (.inl hg)))),
   fun i d hd=>by
    obtain ⟨Dt,h2,h3⟩:=h.hm i d hd
    exact ⟨Dt,jC6 h2 (h1 _ (jBx.2 (.inr (.inr (.inr ⟨i,d,hd,rfl⟩))))),h3⟩,h.hi,h.hld,h.hlf,h.ldl,h.lfl,h.dl,h.fl,h.lim⟩
theorem Inn.below {w W:World}{q:Nat}{dv fv:Value}{ld lf:Nat}{ms:Nat->Nat}{nn:Nat}{T:Ts}(h:Inn w q dv fv ld lf ms nn T)(hb:Below w.heap.size w W):Inn W q dv fv ld lf ms nn T:=h.keep fun k hk=>hb.block k (h.lt hk)
theorem Inn.cells {w:World}{q:Nat}{dv fv:Value}{ld lf:Nat}{ms:Nat->Nat}{nn:Nat}{T:Ts}(h:Inn w q dv fv ld lf ms nn T) :
 w.cell? ⟨q,0,none⟩=some (.int .i64 (T.dr:Int))/\w.cell? ⟨q,1,none⟩=some dv/\w.cell? ⟨q,2,none⟩=some (.int .i64 (ld:Int))/\w.cell? ⟨q,3,none⟩=some (.int .i64 (T.fr:Int))/\w.cell? ⟨q,4,none⟩=some fv/\w.cell? ⟨q,5,none⟩=some (.int .i64 (lf:Int))/\w.cell? ⟨q,6,none⟩=some (.int .i64 (T.most:Int)) :=
 ⟨(jAj h.hq).trans rfl,(jAj h.hq).trans rfl,(jAj h.hq).trans rfl,(jAj h.hq).trans rfl,(jAj h.hq).trans rfl,(jAj h.hq).trans rfl,(jAj h.hq).trans rfl⟩
theorem Inn.frozen {w:World}{q:Nat}{dv fv:Value}{ld lf:Nat}{ms:Nat->Nat}{nn:Nat}{T:Ts}(h:Inn w q dv fv ld lf ms nn T)(j:Nat):w.frozen? ⟨q,j,none⟩=false:=jAq h.hq
theorem Lay.below {w W:World}{q:Nat}{F:List Nat}{nn:Nat}{T:Ts}(h:Lay w q F nn T)(hb:Below w.heap.size w W):Lay W q F nn T:=by
 obtain ⟨dv,fv,ld,lf,ms,hF,hI⟩:=h
 exact ⟨dv,fv,ld,lf,ms,hF,hI.below hb⟩
theorem Lay.lt {w:World}{q:Nat}{F:List Nat}{nn:Nat}{T:Ts}(h:Lay w q F nn T):∀k,k∈F->k<w.heap.size:=by
 obtain ⟨dv,fv,ld,lf,ms,rfl,hI⟩:=h
 exact fun k hk=>hI.lt hk
theorem Lay.notin {w:World}{q:Nat}{F:List Nat}{nn:Nat}{T:Ts}(h:Lay w q F nn T){k:Nat}{cur:Array Value}{e:TypeId}{fr:Nat × Nat}(hk:w.heap[k]?=some (.cells cur e fr))
 (he:¬(e=138\/e=187\/e=191)):k ∉ F:=by
 obtain ⟨dv,fv,ld,lf,ms,rfl,hI⟩:=h
 exact hI.notin hk he
theorem Lay.up {w:World}{q:Nat}{F:List Nat}{nn:Nat}{T:Ts}(h:Lay w q F nn T){N:Nat}(hN:nn<=N):Lay w q F N T:=by
 obtain ⟨dv,fv,ld,lf,ms,hF,hI⟩:=h
 exact ⟨dv,fv,ld,lf,ms,hF,hI.hq,hI.hd,hI.hf,fun i d hd=>by
  obtain ⟨Dt,h2,h3⟩:=hI.hm i d hd
  exact ⟨Dt,h2.mono hN,h3⟩,hI.hi,hI.hld,hI.hlf,hI.ldl,hI.lfl,hI.dl,hI.fl,hI.lim⟩
theorem jC1 {F F':List Nat}{w w' w'':World}{q nn:Nat}{T:Ts}(ho:Only F w w')(hF:∀k,k∈F'->k∈F\/w.heap.size<=k)(h:Turn F' w' w'' q nn T):Turn F w w'' q nn T:=by
 obtain ⟨h1,F2,h2,h3⟩:=h
 refine ⟨⟨h1.os.trans ho.os,h1.tape.trans ho.tape,h1.output.trans ho.output,Qk ho.size h1.size,fun k hk hS=>(h1.block k (Qx hk ho.size) (fun e=>?_)).trans (ho.block k hk hS)⟩,F2,h2,fun k hk=>?_⟩
 ·rcases hF k e with h | h
  ·exact hS h
  ·omega
 ·rcases h3 k hk with h | h
  ·exact hF k h
  ·exact .inr (Qk ho.size h)
theorem Turn.below {F:List Nat}{w w' W:World}{q nn:Nat}{T:Ts}(h:Turn F w w' q nn T)(hb:Below w'.heap.size w' W):Turn F w W q nn T:=by
 obtain ⟨h1,F2,h2,h3⟩:=h
 exact ⟨jBv h1 hb,F2,h2.below hb,h3⟩
theorem Turn.ahead {F:List Nat}{w w' W:World}{q nn:Nat}{T:Ts}(hb:Below w.heap.size w w')(h:Turn F w' W q nn T):Turn F w W q nn T:=jC1 (jBv (Only.refl _ _) hb) (fun _ hk=>.inl hk) h
theorem jF8 {w:World}{b j:Nat}(v:Value):Only [b] w (w.setCell ⟨b,j,none⟩ v):=⟨rfl,rfl,rfl,by simp,fun k _ hn=>Qy _ _ _ _ (fun e=>hn (by simp[e]))⟩
theorem jGq {S:List Nat}{a w:World}(h:Only S a w)(n:Nat):Only S a (w.drewN n):=⟨h.os,h.tape,h.output,h.size,h.block⟩
def hasR (rs:List Rw)(x:Int):Bool:=decide (0<=x) && (match rs[x.toNat]? with | some r=>r.t | none=>false)
def lowR (rs:List Rw):Nat:=rs.findIdx fun r=>!r.t
theorem lowR_le (rs:List Rw):lowR rs<=rs.length:=List.findIdx_le_length
theorem lowR_eq {rs:List Rw}{k:Nat}(h1:∀i,i<k->∃r,rs[i]?=some r/\r.t=true)(h2:∀r,rs[k]?=some r->r.t=false)(hk:k<=rs.length):lowR rs=k:=by
 have hle:=lowR_le rs
 rcases Nat.lt_trichotomy (lowR rs) k with h | h | h
 ·obtain ⟨r,hr,ht⟩:=h1 _ h
  have hlt:=jAy hr
  have:=List.findIdx_getElem (p:=fun r:Rw=>!r.t) (xs:=rs) (w:=hlt)
  rw[Qv hlt] at hr
  injection hr with hr
  unfold lowR at hr
  rw[hr,ht] at this
  cases this
 ·exact h
 ·have hlt:k<rs.length:=by omega
  have:=List.not_of_lt_findIdx h
  have h3:=h2 _ (Qv hlt)
  rw[h3] at this
  cases this
structure Clm (w w':World)(q:Nat)(A:Array Value)(o:Nat)(v:Value)(ty:TypeId)(rs:List Rw)(v':Value):Prop where
 hq:w'.heap[q]?=some (.cells (A.setIfInBounds o v') 138 (0,0))
 hr:w'.ownsRow 0 ty 4 v' rs.length (rwsC rs)
 ho:Only (q :: v.ownBlock.toList) w w'
 hv:∀k,v'.ownBlock=some k->v.ownBlock=some k\/w.heap.size<=k
theorem Inn.hang {w W:World}{q:Nat}{dv fv:Value}{ld lf:Nat}{ms:Nat->Nat}{nn N:Nat}{T:Ts}(h:Inn w q dv fv ld lf ms nn T){p:Nat}{d:Nat × ByteArray}(hp:T.D[p]?=some (some d))(hg:w.grownBy W (some (ms p))){n:ByteArray}{v:Option (Nat × Nat)}{Dt:DataW Unit}(hN:nn<=N)
 (h1:W.ownsMap prog 9 jF2 (ms p) N Dt) (h2:Tab Dt (fun k=>if k=ky n then v else T.M p k)):Inn W q dv fv ld lf ms N (jA6 T p n v):=by
 obtain ⟨D0,h3,-⟩:=h.hm p d hp
 obtain ⟨es,cl,h4⟩:=jDq h3
 have ne:∀{k:Nat} {cur:Array Value} {e:TypeId},w.heap[k]?=some (.cells cur e (0,0))->W.heap[k]?=w.heap[k]?:=fun {k cur e} hk=>hg.block k (jAv hk) (fun e2=>by
  injection e2 with e2
  rw[e2,h4] at hk
  cases hk)
 refine ⟨(ne h.hq).trans h.hq,jA0 h.hd fun g hg'=>?_,jA0 h.hf fun g hg'=>?_,fun i e hi=>?_,h.hi,h.hld,h.hlf,h.ldl,h.lfl,h.dl,h.fl,h.lim⟩
 ·obtain ⟨cur,hc⟩:=jA1 h.hd hg'
  exact ne hc
 ·obtain ⟨cur,hc⟩:=jA1 h.hf hg'
  exact ne hc
 ·by_cases hip:i=p
  ·subst hip
   refine ⟨Dt,h1,?_⟩
   have:(jA6 T i n v).M i=fun k=>if k=ky n then v else T.M i k:=by
    funext k
    simp[jA6,putM]
   rw[this]
   exact h2
  ·obtain ⟨D1,h5,h6⟩:=h.hm i e hi
   refine ⟨D1,(jC6 h5 (hg.block _ h5.lt (fun e2=>?_))).mono hN,?_⟩
   ·injection e2 with e2
    exact hip (h.hi i p e d hi hp e2)
   ·have:(jA6 T p n v).M i=T.M i:=by
     funext k
     simp[jA6,putM,hip]
    rw[this]
    exact h6
