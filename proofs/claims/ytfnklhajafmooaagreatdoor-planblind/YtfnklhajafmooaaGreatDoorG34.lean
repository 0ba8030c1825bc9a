import Derived.Test.YtfnklhajafmooaaGreatDoorG33
set_option maxHeartbeats 1000000
set_option maxRecDepth 20000
namespace Go.Proofs.YtfnklhajafmooaaGreatDoor.Po.Pn
open Go.RowKit Go.Lib Go.Deep Go.Proofs.Tryz
structure Tc (w wr:World)(pb q bb:Nat)(F0:List Nat)(E:Option (Nat × Array Value))(v:Value)(nn:Nat)(S:Ps)(L:List Nat):Prop where
 ex:∃F,Ok wr pb q F nn S/\(∀k,k∈F->k∈F0\/w.heap.size<=k)/\Only F0 w wr/\wr.heap[bb]?=some (.cells #[.pointer (some ⟨pb,0,none⟩),v] 175 (0,0))/\w.heap.size<=bb/\wr.ownsRow w.heap.size 3 1 v L.length (nsC L)/\(∀g,v.ownBlock=some g->g ∉ F)/\(∀b cs,E=some (b,cs)->wr.heap[b]?=some (.cells cs 68 (0,0)))
theorem Tc.turn {w wr w':World}{pb q bb:Nat}{F0 F:List Nat}{E:Option (Nat × Array Value)}{v:Value}{nn N:Nat}{S S':Ps}{L:List Nat}(hK:Ok wr pb q F nn S)(h1:∀k,k∈F->k∈F0\/w.heap.size<=k)(ho:Only F0 w wr)(hbb:wr.heap[bb]?=some (.cells #[.pointer (some ⟨pb,0,none⟩),v] 175 (0,0)))(hb2:w.heap.size<=bb)(hv:wr.ownsRow w.heap.size 3 1 v L.length (nsC L))(hg:(∀g,v.ownBlock=some g->g ∉ F)/\(∀b cs,E=some (b,cs)->wr.heap[b]?=some (.cells cs 68 (0,0))))(hT:Turn F wr w' q N S')(hG:Good S')(hN:N<9223372036854775800):Tc w w' pb q bb F0 E v N S' L:=by
 have htop:=hK.top.keep hK.lay hT
 obtain ⟨ho2,F',hL,hF⟩:=hT
 refine ⟨F',⟨htop,hL,hG,hN⟩,fun k hk=>?_,?_,?_,hb2,?_,fun g hg' hm=>?_,fun b cs he=>(ho2.block b (jAv (hg.2 b cs he)) (hK.lay.notin (hg.2 b cs he) (by decide))).trans (hg.2 b cs he)⟩
 ·rcases hF k hk with h2 | h2
  ·exact h1 k h2
  ·exact .inr (Qk ho.size h2)
 ·refine ⟨ho2.os.trans ho.os,ho2.tape.trans ho.tape,ho2.output.trans ho.output,Qk ho.size ho2.size,fun k hk hn=>(ho2.block k (Qx hk ho.size) fun hm=>?_).trans (ho.block k hk hn)⟩
  rcases h1 k hm with h2 | h2
  ·exact hn h2
  ·omega
 ·exact (ho2.block bb (jAv hbb) (hK.lay.notin hbb (by decide))).trans hbb
 ·exact jA0 hv fun g hg'=>ho2.block g (hv.lt g hg').2 (hg.1 g hg')
 ·rcases hF g hm with h2 | h2
  ·exact hg.1 g hg' h2
  ·have:=(hv.lt g hg').2
   omega
theorem Tc.call {w wr:World}{pb q bb:Nat}{F0:List Nat}{E:Option (Nat × Array Value)}{v:Value}{nn N:Nat}{S S':Ps}{L:List Nat}{f:Nat}{args:Array Value}{r:Value}(h:Tc w wr pb q bb F0 E v nn S L)(hG:Good S')(hN:N<9223372036854775800)(hc:∀F,Ok wr pb q F nn S->Calls prog f args wr fun e w'=>e=.returned r/\Turn F wr w' q N S'):Calls prog f args wr fun e w'=>e=.returned r/\Hid (Tc w w' pb q bb F0 E v N S' L):=by
 obtain ⟨F,hK,h1,ho,hbb,hb2,hv,hg⟩:=h.ex
 refine (hc F hK).mono ?_
 rintro e w' ⟨he,hT⟩
 exact ⟨he,Tc.turn hK h1 ho hbb hb2 hv hg hT hG hN⟩
theorem Tc.below {w wr W:World}{pb q bb:Nat}{F0:List Nat}{E:Option (Nat × Array Value)}{v:Value}{nn:Nat}{S:Ps}{L:List Nat}(h:Tc w wr pb q bb F0 E v nn S L)(hb:Below wr.heap.size wr W):Tc w W pb q bb F0 E v nn S L:=by
 obtain ⟨F,hK,h1,ho,hbb,hb2,hv,hg⟩:=h.ex
 exact Tc.turn hK h1 ho hbb hb2 hv hg (hK.lay.turn hb) hK.good hK.nn
theorem Tc.cells {w wr:World}{pb q bb:Nat}{F0:List Nat}{E:Option (Nat × Array Value)}{v:Value}{nn:Nat}{S:Ps}{L:List Nat}(h:Tc w wr pb q bb F0 E v nn S L):wr.cell? ⟨bb,0,none⟩=some (.pointer (some ⟨pb,0,none⟩))/\wr.cell? ⟨bb,1,none⟩=some v:=by
 obtain ⟨F,hK,h1,ho,hbb,hb2,hv,hg⟩:=h.ex
 exact ⟨(jAj hbb).trans rfl,(jAj hbb).trans rfl⟩
theorem Tc.good {w wr:World}{pb q bb:Nat}{F0:List Nat}{E:Option (Nat × Array Value)}{v:Value}{nn:Nat}{S:Ps}{L:List Nat}(h:Tc w wr pb q bb F0 E v nn S L):Good S:=by
 obtain ⟨F,hK,_⟩:=h.ex
 exact hK.good
theorem jNv {w wr:World}{pb q bb:Nat}{F0:List Nat}{E:Option (Nat × Array Value)}{v:Value}{nn:Nat}{S:Ps}{L:List Nat}(h:Tc w wr pb q bb F0 E v nn S L)(hn:nn<9223372036854775800):Calls prog 112 #[.pointer (some ⟨bb,0,none⟩)] wr fun e w'=>e=.returned (.int .i64 (hdQ S:Int))/\Hid (Tc w w' pb q bb F0 E v nn (popS S) L):=by
 obtain ⟨c0,c1⟩:=h.cells
 have hp:=h.call (S':=popS S) (good_pop h.good) hn fun F hK=>pop_any wr pb q F nn S hK
 have e1:popY S=(hdQ S:Int):=rfl
 rw[e1] at hp
 generalize popE S=ee at hp
 clear h c1 e1
 go_enter func112,ntmps112
 go_wp2_with fail
 refine hp.mono ?_
 rintro e w' ⟨rfl,HT⟩
 go_wp2
 go_ret
 exact ⟨rfl,HT⟩
theorem jMq {w wr:World}{pb q bb:Nat}{F0:List Nat}{E:Option (Nat × Array Value)}{v:Value}{nn:Nat}{S:Ps}{L:List Nat}(h:Tc w wr pb q bb F0 E v nn S L)(hn:nn+1<9223372036854775800)(f:Int):Calls prog 108 #[.pointer (some ⟨bb,0,none⟩),.int .i64 f] wr fun e w'=>e=.returned (.int .i64 (hdQ S:Int))/\Hid (Tc w w' pb q bb F0 E v (nn+1) (asgS (popS S) (hdQ S) f) L):=by
 have hd:=jNv h (by omega)
 have HA:Hid (∀w1,Tc w w1 pb q bb F0 E v nn (popS S) L->w1.cell? ⟨bb,0,none⟩=some (.pointer (some ⟨pb,0,none⟩))/\Calls prog 153 #[.pointer (some ⟨pb,0,none⟩),.int .i64 (hdQ S:Int),.int .i64 f] w1 fun e w'=>e=.returned (.int .i64 (asgE (popS S) (hdQ S) f))/\Hid (Tc w w' pb q bb F0 E v (nn+1) (asgS (popS S) (hdQ S) f) L)):=fun w1 h1=>⟨h1.cells.1,h1.call (good_asgS h1.good _ _) hn fun F hK=>asg_any w1 pb q F nn (popS S) (hdQ S) f hK⟩
 generalize asgE (popS S) (hdQ S) f=ee at HA
 clear h
 go_enter func108,ntmps108
 go_wp2_with fail
 refine hd.mono ?_
 rintro e w1 ⟨rfl,HT⟩
 obtain ⟨c0,ha⟩:=HA.out w1 HT.out
 go_wp2_with fail
 refine ha.mono ?_
 rintro e w2 ⟨rfl,HT2⟩
 go_wp2
 go_ret
 exact ⟨rfl,HT2⟩
theorem jNx {w wr:World}{pb q bb:Nat}{F0:List Nat}{E:Option (Nat × Array Value)}{v:Value}{nn:Nat}{S:Ps}{L:List Nat}(h:Tc w wr pb q bb F0 E v nn S L)(f:Int)(hf:0<=f)(hh:jD7 S.R f=true):Calls prog 110 #[.pointer (some ⟨bb,0,none⟩),.int .i64 f] wr fun e w'=>e=.returned (.int .i64 (byO S f:Int))/\w'=wr:=by
 obtain ⟨o,ho,rfl⟩:=byO_get hh
 obtain ⟨c0,c1⟩:=h.cells
 obtain ⟨F,hK,_⟩:=h.ex
 have hb:=byOwner_any wr pb q F nn S hK _ o ho hf
 generalize byO S o.ow=r at *
 clear h c1 hK ho hh
 go_enter func110,ntmps110
 go_wp2_with fail
 refine hb.mono ?_
 rintro e w' ⟨rfl,rfl⟩
 go_wp2
 go_ret
 exact ⟨rfl,rfl⟩
theorem release_any {w wr:World}{pb q bb:Nat}{F0:List Nat}{E:Option (Nat × Array Value)}{v:Value}{nn:Nat}{S:Ps}{L:List Nat}(h:Tc w wr pb q bb F0 E v nn S L)(hn:nn+1<9223372036854775800)(f:Int)(hf:0<=f)(hh:jD7 S.R f=true):Calls prog 111 #[.pointer (some ⟨bb,0,none⟩),.int .i64 f] wr fun e w'=>e=.returned (.int .i64 (byO S f:Int))/\Hid (Tc w w' pb q bb F0 E v (nn+1) (relS S (byO S f)) L):=by
 have hd:=jNx h f hf hh
 obtain ⟨c0,c1⟩:=h.cells
 have ha:=h.call (good_relS h.good (byO S f)) hn fun F hK=>rel_any wr pb q F nn S (byO S f) hK
 generalize relE S (byO S f)=ee at ha
 clear h c1 hh
 go_enter func111,ntmps111
 go_wp2_with fail
 refine hd.mono ?_
 rintro e w1 ⟨rfl,rfl⟩
 go_wp2_with fail
 refine ha.mono ?_
 rintro e w2 ⟨rfl,HT2⟩
 go_wp2
 go_ret
 exact ⟨rfl,HT2⟩
theorem Tc.up {w wr:World}{pb q bb:Nat}{F0:List Nat}{E:Option (Nat × Array Value)}{v:Value}{nn N:Nat}{S:Ps}{L:List Nat}(h:Tc w wr pb q bb F0 E v nn S L)(hN:nn<=N)(hb:N<9223372036854775800):Tc w wr pb q bb F0 E v N S L:=by
 obtain ⟨F,hK,h1,ho,hbb,hb2,hv,hg⟩:=h.ex
 exact ⟨F,⟨hK.top,hK.lay.up hN,hK.good,hb⟩,h1,ho,hbb,hb2,hv,hg⟩
theorem jJx {L:List Nat}{i n:Nat}(h:L[i]?=some n):(nsC L)[i]?=some (.int .i64 (n:Int)):=by unfold nsC;rw[List.getElem?_map,h];rfl
theorem contains_any {w:World}{B:Nat}{v:Value}{L:List Nat}(h:w.ownsRow B 3 1 v L.length (nsC L))(r:Nat):Calls prog 154 #[v,.int .i64 (r:Int)] w fun e w'=>e=.returned (.bool (decide (r∈L)))/\w'=w:=by
 rcases h.2 with ⟨rfl,h2⟩ | ⟨g,cap,cur,rfl,h1,h2,h3,h4,h5,h6⟩
 ·have:L=[]:=Qb h2
  subst this
  have:=Any.slices_Contains_int_empty (ρ:=ctiRen) ctiLays none 0 (r:Int) w
  exact this
 ·have hc:=Any.slices_Contains_int (ρ:=ctiRen) ctiLays g 0 L.length cap (L.map fun (n:Nat)=>(n:Int)) (r:Int) w (by simp) (by unfold maxLen at *;omega) (fun j hj=>by
   rw[List.length_map] at hj
   have hx:=h.cellAt j (by omega)
   rw[Nat.zero_add,hx,jJx (Qv hj)]
   simp[List.getD,hj])
  rw[Qf (by simp)] at hc
  have e:(L.map fun (n:Nat)=>(n:Int)).contains (r:Int)=decide (r∈L):=by
   rw[Bool.eq_iff_iff]
   simp
   exact ⟨fun ⟨a,h,e⟩=>(by omega:a=r)▸h,fun h=>⟨r,h,rfl⟩⟩
  rw[e] at hc
  exact hc
theorem unless_any {w wr:World}{pb q bb:Nat}{F0:List Nat}{E:Option (Nat × Array Value)}{v:Value}{nn:Nat}{S:Ps}{L:List Nat}(h:Tc w wr pb q bb F0 E v nn S L)(hn:nn<9223372036854775800)(r:Nat):Calls prog 109 #[.pointer (some ⟨bb,0,none⟩),.int .i64 (r:Int)] wr fun e w'=>e=.returned (.int .i64 ((if r∈L then hdQ S else r:Nat):Int))/\Hid (Tc w w' pb q bb F0 E v nn (if r∈L then popS S else S) L):=by
 obtain ⟨c0,c1⟩:=h.cells
 obtain ⟨F,hK,h1,ho,hbb,hb2,hv,hg⟩:=h.ex
 have hc:=contains_any hv r
 have hd:=jNv h hn
 have HT:Hid (Tc w wr pb q bb F0 E v nn S L):=h
 obtain ⟨a,cap,rfl⟩:=jBy hv
 clear hK h1 ho hbb hb2 hv hg h
 by_cases hm:r∈L
 ·rw[QQ hm] at hc
  rw[if_pos hm,if_pos hm]
  clear HT
  go_enter func109,ntmps109
  go_wp2_with fail
  refine hc.mono ?_
  rintro e w1 ⟨rfl,rfl⟩
  go_wp2_with fail
  refine hd.mono ?_
  rintro e w2 ⟨rfl,HT2⟩
  go_wp2
  go_ret
  exact ⟨rfl,HT2⟩
 ·rw[QY hm] at hc
  rw[if_neg hm,if_neg hm]
  clear hd
  go_enter func109,ntmps109
  go_wp2_with fail
  refine hc.mono ?_
  rintro e w1 ⟨rfl,rfl⟩
  go_wp2
  go_ret
  exact ⟨rfl,HT⟩
theorem rowT_2 (S:Ps)(L:List Nat)(f:Int):rowT S L (2,f)=(if byO S f∈L then hdQ S else byO S f,if byO S f∈L then popS S else S):=by
 show (if byO S f∈L then (hdQ S,popS S) else (byO S f,S))=_
 split <;> rfl
theorem rowT_3 (S:Ps)(L:List Nat)(f:Int):rowT S L (3,f)=(if byO S f∈L then hdQ (relS S (byO S f)) else byO S f,if byO S f∈L then popS (relS S (byO S f)) else relS S (byO S f)):=by
 have e:hdQ (relS S (byO S f))=hdQ S:=by
  unfold hdQ relS
  split <;> rfl
 rw[e]
 show (if byO S f∈L then (hdQ S,popS (relS S (byO S f))) else (byO S f,relS S (byO S f)))=_
 split <;> rfl
theorem rowT_1 (S:Ps)(L:List Nat)(f:Int):rowT S L (1,f)=(hdQ S,asgS (popS S) (hdQ S) f):=rfl
theorem rowT_0 (S:Ps)(L:List Nat):rowT S L (0,0)=(hdQ S,popS S):=rfl
def efV7 (e:Tr.Ef):Array Value:=#[.int .i64 e.kind,.int .i64 e.file,.int .i64 e.gone,.int .i64 e.at_,.int .i64 e.n,.string e.data,.int .i64 e.size]
theorem rowFor_any {w wr:World}{pb q bb:Nat}{F0:List Nat}{E:Option (Nat × Array Value)}{v:Value}{nn:Nat}{S:Ps}{L:List Nat}(h:Tc w wr pb q bb F0 E v nn S L)(hn:nn+1<9223372036854775800)(e:Tr.Ef)(hh:(cls e).1=2\/(cls e).1=3->0<=(cls e).2/\jD7 S.R (cls e).2=true) :
 Calls prog 74 #[.pointer (some ⟨bb,0,none⟩),.agg (efV7 e)] wr fun x w'=>x=.returned (.int .i64 ((rowT S L (cls e)).1:Int))/\Hid (Tc w w' pb q bb F0 E v (nn+1) (rowT S L (cls e)).2 L):=by
 obtain ⟨W,hW,hb,k0⟩:=jA4 wr (efV7 e) 68
 have hT:=h.below hb
 obtain ⟨p0,p1,p2,-⟩:=Tr.jCq k0
 obtain ⟨k,f,g,a_,n_,d_,s_⟩:=e
 dsimp only at p0 p1 p2
 unfold efV7 at hW ⊢
 dsimp only at hW ⊢
 clear h hb k0
 by_cases h1:k=1
 ·subst h1
  have hc:cls ⟨1,f,g,a_,n_,d_,s_⟩=(1,f):=rfl
  rw[hc,rowT_1]
  have hg:=jMq hT hn f
  clear hT hh hc
  go_enter func74,ntmps74
  go_wp2_with fail
  refine hg.mono ?_
  rintro e w1 ⟨rfl,HT⟩
  go_wp2
  go_ret
  exact ⟨rfl,HT⟩
 by_cases h2:k=2\/k=3\/k=4
 ·have hc:cls ⟨k,f,g,a_,n_,d_,s_⟩=(2,f):=by unfold cls;rw[if_neg h1,if_pos h2]
  rw[hc] at hh
  obtain ⟨hf,hl⟩:=hh (.inl rfl)
  have hx:=jNx hT f hf hl
  have hu:=unless_any hT (by omega) (byO S f)
  rw[hc,rowT_2]
  have HU:Hid (∀w',Tc w w' pb q bb F0 E v nn (if byO S f∈L then popS S else S) L->Tc w w' pb q bb F0 E v (nn+1) (if byO S f∈L then popS S else S) L):=fun w' h'=>h'.up (by omega) hn
  generalize (if byO S f∈L then hdQ S else byO S f)=rr at *
  generalize (if byO S f∈L then popS S else S)=SS at *
  clear hT hh hc
  rcases h2 with rfl | rfl | rfl
  all_goals
   go_enter func74,ntmps74
   go_wp2_with fail
   refine hx.mono ?_
   rintro e w1 ⟨rfl,rfl⟩
   go_wp2_with fail
   refine hu.mono ?_
   rintro e w1 ⟨rfl,HT⟩
   go_wp2
   go_ret
   exact ⟨rfl,HU.out _ HT.out⟩
 by_cases h3:k=5\/k=6
 ·obtain ⟨x,hx0,hc⟩:∃x,(k=5->x=f)/\(k=6->x=g)/\cls ⟨k,f,g,a_,n_,d_,s_⟩=(3,x):=by
   rcases h3 with rfl | rfl
   ·exact ⟨f,fun _=>rfl,fun h=>(by cases h),rfl⟩
   ·exact ⟨g,fun h=>(by cases h),fun _=>rfl,rfl⟩
  obtain ⟨hx1,hc⟩:=hc
  rw[hc] at hh
  obtain ⟨hf,hl⟩:=hh (.inr rfl)
  have hx:=release_any hT hn x hf hl
  have HU:Hid (∀w1,Tc w w1 pb q bb F0 E v (nn+1) (relS S (byO S x)) L->Calls prog 109 #[.pointer (some ⟨bb,0,none⟩),.int .i64 (byO S x:Int)] w1 fun e w'=>e=.returned (.int .i64 ((if byO S x∈L then hdQ (relS S (byO S x)) else byO S x:Nat):Int))/\Hid (Tc w w' pb q bb F0 E v (nn+1) (if byO S x∈L then popS (relS S (byO S x)) else relS S (byO S x)) L)):=fun w1 h'=>unless_any h' hn (byO S x)
  rw[hc,rowT_3]
  generalize (if byO S x∈L then hdQ (relS S (byO S x)) else byO S x)=rr at *
  generalize (if byO S x∈L then popS (relS S (byO S x)) else relS S (byO S x))=SS at *
  clear hT hh hc
  rcases h3 with rfl | rfl
  ·obtain rfl:=hx0 rfl
   clear hx0 hx1
   go_enter func74,ntmps74
   go_wp2_with fail
   refine hx.mono ?_
   rintro e w1 ⟨rfl,HT1⟩
   have hu:=HU.out w1 HT1.out
   go_wp2_with fail
   refine hu.mono ?_
   rintro e w2 ⟨rfl,HT⟩
   go_wp2
   go_ret
   exact ⟨rfl,HT⟩
  ·obtain rfl:=hx1 rfl
   clear hx0 hx1
   go_enter func74,ntmps74
   go_wp2_with fail
   refine hx.mono ?_
   rintro e w1 ⟨rfl,HT1⟩
   have hu:=HU.out w1 HT1.out
   go_wp2_with fail
   refine hu.mono ?_
   rintro e w2 ⟨rfl,HT⟩
   go_wp2
   go_ret
   exact ⟨rfl,HT⟩
 ·have hc:cls ⟨k,f,g,a_,n_,d_,s_⟩=(0,0):=by unfold cls;rw[if_neg h1,if_neg h2,if_neg (fun h=>h3 (.inl h)),if_neg (fun h=>h3 (.inr h))]
  rw[hc,rowT_0]
  have hd:=jNv hT (by omega)
  have HU:Hid (∀w',Tc w w' pb q bb F0 E v nn (popS S) L->Tc w w' pb q bb F0 E v (nn+1) (popS S) L):=fun w' h'=>h'.up (by omega) hn
  have g1:(k == 1)=false:=by simpa using h1
  have g2:(k == 2)=false:=by simp;omega
  have g3:(k == 3)=false:=by simp;omega
  have g4:(k == 4)=false:=by simp;omega
  have g5:(k == 5)=false:=by simp;omega
  have g6:(k == 6)=false:=by simp;omega
  clear hT hh hc h2 h3
  go_enter func74,ntmps74
  go_wp2_with fail
  refine hd.mono ?_
  rintro e w1 ⟨rfl,HT⟩
  go_wp2
  go_ret
  exact ⟨rfl,HU.out _ HT.out⟩
theorem jJy {w:World}{pb q nn:Nat}{F:List Nat}{S:Ps}(hK:Ok w pb q F nn S)(i:Nat)(hi:i<S.R.length):Calls prog 77 #[.pointer (some ⟨pb,0,none⟩),.int .i64 (i:Int)] w fun e w'=>e=.returned (.int .i64 (owAt S i))/\Below w.heap.size w w':=by
 have ha:=at_any w pb q F nn S (i:Int) hK
 have hrn:rowN S (i:Int):=⟨by omega,by omega⟩
 rw[if_pos hrn,show atE S (i:Int)=0 from if_pos hrn] at ha
 unfold obV at ha
 unfold owAt
 generalize jC9 S (i:Int)=o at *
 obtain ⟨nm,tg,bk,ow⟩:=o
 dsimp only at *
 clear hK hrn hi
 go_enter func77,ntmps77
 go_wp2_with fail
 refine ha.mono ?_
 rintro e w1 ⟨rfl,hb⟩
 obtain ⟨W,hW,hbW,k0⟩:=jA4 w1 #[.string nm,.string tg,.int .i64 bk,.int .i64 ow] 60
 have HW:Hid _:=hW
 have HB:Hid (Below w.heap.size w W):=hb.trans (hbW.mono hb.size)
 have c3:W.cell? ⟨w1.heap.size,3,none⟩=some (.int .i64 ow):=(jAj k0).trans rfl
 clear hb hbW k0 hW
 go_upto_region 2 with fail
 rw[HW.out]
 go_wp2
 go_ret
 exact ⟨rfl,HB.out⟩
theorem Tc.row {w wr:World}{pb q bb:Nat}{F0:List Nat}{E:Option (Nat × Array Value)}{v:Value}{nn:Nat}{S:Ps}{L:List Nat}(h:Tc w wr pb q bb F0 E v nn S L):∃a c,v=.slice a L.length c/\∀(k i:Nat),L[k]?=some i->∃g,a=some ⟨g,0,none⟩/\wr.cell? ⟨g,k,none⟩=some (.int .i64 (i:Int)):=by
 obtain ⟨F,hK,h1,ho,hbb,hb2,hv,hg⟩:=h.ex
 rcases hv.2 with ⟨rfl,e⟩ | ⟨g,cap,cur,rfl,_⟩
 ·have:L=[]:=Qb e
  subst this
  exact ⟨none,0,rfl,fun k i h=>by cases h⟩
 ·refine ⟨some ⟨g,0,none⟩,cap,rfl,fun k i hk=>⟨g,rfl,?_⟩⟩
  rw[hv.cellAt k (by have:=jAy hk;omega)]
  exact jJx hk
theorem jL5 {w wr:World}{pb q bb:Nat}{F0:List Nat}{E:Option (Nat × Array Value)}{v:Value}{nn:Nat}{S:Ps}{L:List Nat}(h:Tc w wr pb q bb F0 E v nn S L)(hn:nn<9223372036854775800)(hl:∀i,i∈L->i<S.R.length)(hLn:L.length<=64)(hlen:∀k,k<=L.length->(pshL S (L.take k)).R.length=S.R.length) :
 Calls prog 75 #[.pointer (some ⟨bb,0,none⟩)] wr fun e w'=>e=.returned (.tuple #[])/\Hid (Tc w w' pb q bb F0 E v nn (pshL S L) L):=by
 obtain ⟨c0,c1⟩:=h.cells
 obtain ⟨a,c,rfl,-⟩:=h.row
 obtain ⟨n,hnL⟩:∃n,L.length=n:=⟨_,rfl⟩
 have HS:Hid (∀(k i:Nat) (V:World),L[k]?=some i->Tc w V pb q bb F0 E (.slice a n c) nn (pshL S (L.take k)) L->(V.cell? ⟨bb,0,none⟩=some (.pointer (some ⟨pb,0,none⟩))/\∃g,a=some ⟨g,0,none⟩/\V.cell? ⟨g,k,none⟩=some (.int .i64 (i:Int)))/\Calls prog 77 #[.pointer (some ⟨pb,0,none⟩),.int .i64 (i:Int)] V fun e w'=>e=.returned (.int .i64 (owAt (pshL S (L.take k)) i))/\Below V.heap.size V w'):=fun k i V hk hV=>by
  obtain ⟨F,hK,_⟩:=hV.ex
  obtain ⟨a',c',e,hc⟩:=hV.row
  injection e with e1 _ _
  subst e1
  exact ⟨⟨hV.cells.1,hc k i hk⟩,jJy hK i (by rw[hlen k (by have:=jAy hk;omega)];exact hl i (List.mem_iff_getElem?.2 ⟨k,hk⟩))⟩
 have HP:Hid (∀(k i:Nat) (V:World),L[k]?=some i->owAt (pshL S (L.take k)) i=-1->Tc w V pb q bb F0 E (.slice a n c) nn (pshL S (L.take k)) L->V.cell? ⟨bb,0,none⟩=some (.pointer (some ⟨pb,0,none⟩))/\∃ee,Calls prog 113 #[.pointer (some ⟨pb,0,none⟩),.int .i64 (i:Int)] V fun e w'=>e=.returned (.int .i64 ee)/\Hid (Tc w w' pb q bb F0 E (.slice a n c) nn (pshL S (L.take (k+1))) L)):=fun k i V hk ho hV=>by
  refine ⟨hV.cells.1,jJ0 (pshL S (L.take k)) (i:Int),?_⟩
  rw[psh_take S L k i hk]
  unfold psh1
  rw[if_pos ho]
  exact hV.call (good_pushS hV.good _) hn fun F hK=>push_any V pb q F nn _ (i:Int) hK
 have HN:Hid (∀(k i:Nat) (V W:World),L[k]?=some i->owAt (pshL S (L.take k)) i≠-1->Tc w V pb q bb F0 E (.slice a n c) nn (pshL S (L.take k)) L->Below V.heap.size V W->Tc w W pb q bb F0 E (.slice a n c) nn (pshL S (L.take (k+1))) L):=fun k i V W hk ho hV hb=>by
  rw[psh_take S L k i hk]
  unfold psh1
  rw[if_neg ho]
  exact hV.below hb
 have HE:Hid (∀V:World,Tc w V pb q bb F0 E (.slice a n c) nn (pshL S (L.take n)) L->Tc w V pb q bb F0 E (.slice a n c) nn (pshL S L) L):=fun V hV=>by
  rw[<-hnL,Qh] at hV
  rw[<-hnL]
  exact hV
 have HG:Hid (∀k:Nat,k<n->∃i:Nat,L[k]?=some i):=fun k hk=>⟨_,Qv (by omega)⟩
 have H0:Hid (Tc w wr pb q bb F0 E (.slice a n c) nn (pshL S (L.take 0)) L):=by
  rw[List.take_zero,<-hnL]
  exact h
 rw[hnL] at c1 hLn ⊢
 clear h hl hlen hnL
 go_enter func75,ntmps75
 go_wp2_with fail
 go_loopg [9] n (fun gk iv wx=>∃k:Nat,gk=n-k/\k<=n/\iv=.int .i64 (k:Int)/\Hid (Tc w wx pb q bb F0 E (.slice a n c) nn (pshL S (L.take k)) L))
 case atStart=>exact ⟨0,by omega,by omega,rfl,H0⟩
 case round =>
  clear c0 c1 H0
  obtain ⟨k,hgk,hkn,rfl,HT⟩:=hrel
  by_cases hk:k<n
  ·have hkI:(k:Int)<(n:Int):=by omega
   have w1:IntKind.i64.wrap ((k:Int)+1)=((k+1:Nat):Int):=by rw[QX];omega
   obtain ⟨i,hi⟩:=HG.out k hk
   obtain ⟨⟨d0,g,rfl,dg⟩,hoc⟩:=HS.out k i _ hi HT.out
   have HI:Hid (L[k]?=some i):=hi
   have HOW:Hid (∀V,Below _ _ V->_):=fun V hb=>(HT.out.below hb:Tc w V pb q bb F0 E (.slice (some ⟨g,0,none⟩) n c) nn (pshL S (L.take k)) L)
   by_cases ho:owAt (pshL S (L.take k)) i=-1
   ·rw[ho] at hoc
    have HO:Hid (owAt (pshL S (L.take k)) i=-1):=ho
    clear hi ho
    go_wp2_with fail
    refine hoc.mono ?_
    rintro e w2 ⟨rfl,hb2⟩
    obtain ⟨x0,ee,hp⟩:=HP.out k i w2 HI.out HO.out (HOW.out w2 hb2)
    clear d0 dg hoc hb2
    go_wp2_with fail
    refine hp.mono ?_
    rintro e w3 ⟨rfl,HT3⟩
    go_wp2
    go_roundg (n-(k+1))
    case measure=>omega
    case rel=>exact ⟨k+1,rfl,by omega,rfl,HT3⟩
   ·have HO:Hid (owAt (pshL S (L.take k)) i≠-1):=ho
    obtain ⟨ow,how⟩:∃ow,owAt (pshL S (L.take k)) i=ow:=⟨_,rfl⟩
    rw[how] at hoc ho
    have ho':(ow == -1)=false:=by simpa using ho
    clear hi ho how
    go_wp2_with fail
    refine hoc.mono ?_
    rintro e w2 ⟨rfl,hb2⟩
    have HT3:Hid (Tc w w2 pb q bb F0 E (.slice (some ⟨g,0,none⟩) n c) nn (pshL S (L.take (k+1))) L):=HN.out k i _ w2 HI.out HO.out HT.out hb2
    clear d0 dg hoc hb2
    go_wp2
    go_roundg (n-(k+1))
    case measure=>omega
    case rel=>exact ⟨k+1,rfl,by omega,rfl,HT3⟩
  ·obtain rfl:k=n:=by omega
   have hkI:¬(k:Int)<(k:Int):=by omega
   have HX:Hid _:=HE.out _ HT.out
   go_wp2
   go_end0
   exact ⟨rfl,HX⟩
def stC (x:(Tr.Rs × Tr.Ef) × Value):List Value:=[.int .i64 x.1.1.code,.string Tr.e0,.int .i64 x.1.1.n,x.2,.int .i64 x.1.1.kind,.int .i64 x.1.1.size,.int .i64 x.1.2.kind,.int .i64 x.1.2.file,.int .i64 x.1.2.gone,.int .i64 x.1.2.at_,.int .i64 x.1.2.n,.string x.1.2.data,.int .i64 x.1.2.size]
def stsC (l:List ((Tr.Rs × Tr.Ef) × Value)):List Value:=l.flatMap stC
theorem jJz (x:(Tr.Rs × Tr.Ef) × Value):(stC x).length=13:=rfl
theorem stsC_len (l:List ((Tr.Rs × Tr.Ef) × Value)):(stsC l).length=l.length*13:=jEv stC 13 jJz l
theorem say_held {K:Nat}{P S:Ps}{L:List Nat}{T T':Tr.Ts}{e:Tr.Ef}(b:Bt K P S L (Tr.tkF T))(hs:Tr.Say T e T'):(cls e).1=2\/(cls e).1=3->0<=(cls e).2/\jD7 S.R (cls e).2=true:=by
 cases hs with
 | none he hi=>subst he;intro h;rcases h with h | h <;> cases h
 | made hk hfi _ hi=>intro h;unfold cls at h;rw[if_pos hk] at h;rcases h with h | h <;> cases h
 | touch n hk hfi _ hn hi =>
   intro _
   have hc:cls e=(2,(n:Int)):=by unfold cls;rw[if_neg (by omega),if_pos hk,hfi]
   rw[hc]
   exact ⟨by show (0:Int)<=n;omega,(b.hold n).1 hn⟩
 | gone n hk hfi hn hi =>
   intro _
   have hc:cls e=(3,(n:Int)):=by unfold cls;rw[if_neg (by omega),if_neg (by omega),if_pos hk,hfi]
   rw[hc]
   exact ⟨by show (0:Int)<=n;omega,(b.hold n).1 hn⟩
 | over n g hk hfi hgo _ hn hng hi =>
   intro _
   have hc:cls e=(3,(g:Int)):=by unfold cls;rw[if_neg (by omega),if_neg (by omega),if_neg (by omega),if_pos hk,hgo]
   rw[hc]
   exact ⟨by show (0:Int)<=g;omega,(b.hold g).1 hn⟩
def zEf:Tr.Ef:=⟨0,0,0,0,0,Tr.e0,0⟩
theorem info3:(prog.info? 3).map (fun i=>(i.zero,i.size,i.bytes))=some (some (.int .i64 0),1,8):=by kernel_rfl
theorem step_app {P:Program}{ops:Array Oper}{o:Oper}{a:Act}{w:World}{K:Act->World->Prop}{Q:Exit->Act->World->Prop}{E:Prop}(hg:o.guard=none)(s x:Operand)(t u:TypeId)(ho:o.op=Op.call { callee:=Callee.builtin Builtin.append,args:=#[s,x],argTypes:=#[t,u] })
 (v x' v':Value) (w':World) (hs:a.eval s=v) (hx:a.eval x=x') (hr:(Builtin.append_ #[t,u] o.type #[v,x']).run P w=.ok v' w') (hK:K (a.put o.dst v') w') :
 if Region.wanted o (yielded ops a.tmps)=true then Oper.wp P o a w K Q else E:=by
 have hw:Region.wanted o (yielded ops a.tmps)=true:=by simp[Region.wanted,hg]
 rw[if_pos hw]
 unfold Oper.wp execOp
 simp only[ho,resolve,invoke,builtin,Sem.run_bind,Sem.run_pure,Result.andThen_ok,List.map_toArray,List.map_cons,List.map_nil,hs,hx,hr]
 exact hK
theorem Tc.app {w wr:World}{pb q bb:Nat}{F0:List Nat}{E:Option (Nat × Array Value)}{v:Value}{nn:Nat}{S:Ps}{L:List Nat}(h:Tc w wr pb q bb F0 E v nn S L)(hl:L.length<=64)(r:Nat):∃v' w6,(Builtin.append_ #[44,44] 44 #[v,.slice (some ⟨wr.heap.size,0,none⟩) 1 1]).run prog (wr.alloc (.cells #[.int .i64 (r:Int)] 3))=.ok v' w6/\w6.cell? ⟨bb,1,none⟩=some v/\w6.frozen? ⟨bb,1,none⟩=false/\Hid (∀b cs,E=some (b,cs)->w6.heap[b]?=some (.cells cs 68 (0,0)))/\Hid (Tc w (w6.setCell ⟨bb,1,none⟩ v') pb q bb F0 E v' nn S (L++[r])):=by
 obtain ⟨F,hK,h1,ho,hbb,hb2,hv,hg⟩:=h.ex
 obtain ⟨i0,hi,hz0,hz1,hz2⟩:=info_parts info3
 have hbA:Below wr.heap.size wr (wr.alloc (.cells #[.int .i64 (r:Int)] 3)):=(Qq _ _).alloc (Qj _) _
 have hsz:(wr.alloc (.cells #[.int .i64 (r:Int)] 3)).heap.size=wr.heap.size+1:=by simp
 obtain ⟨v',w6,hr,h2,h3,h4,h5⟩:=run_append_own_at (P:=prog) (wr.alloc (.cells #[.int .i64 (r:Int)] 3)) w.heap.size 44 44 3 i0 (.int .i64 0) 1 8 underlying44 hi hz0 hz1 hz2 rfl (by decide) v L.length (nsC L) (hv.alloc _) ⟨wr.heap.size,0,none⟩ 1 1 [.int .i64 (r:Int)] rfl (by
  intro j u hj
  rcases j with _ | j
  ·have:u=.int .i64 (r:Int):=by simpa using hj.symm
   subst this
   rw[Addr.add_lit]
   exact (jAj (jA2 wr _)).trans rfl
  ·simp at hj) (by simp[Value.oneCell']) (by unfold maxLen;omega) (by omega) (by have:=ho.size;omega)
 have hsame:∀k,k<wr.heap.size->v.ownBlock≠some k->w6.heap[k]?=wr.heap[k]?:=fun k hk hn=>(h3.block k (by omega) (fun e=>hn e.symm)).trans (hbA.block k hk)
 have hvb:∀g,v.ownBlock=some g->g≠bb:=fun g hg' e=>by
  obtain ⟨cur,hc⟩:=jA1 hv hg'
  rw[e,hbb] at hc
  injection hc with hc
  injection hc with _ hc _
  cases hc
 have hbb6:w6.heap[bb]?=some (.cells #[.pointer (some ⟨pb,0,none⟩),v] 175 (0,0)):=(hsame bb (jAv hbb) (fun e=>hvb bb e rfl)).trans hbb
 have hvp:∀g,v.ownBlock=some g->g≠pb:=fun g hg' e=>by
  obtain ⟨cur,hc⟩:=jA1 hv hg'
  have:=hK.top
  unfold Top at this
  rw[e,this] at hc
  injection hc with hc
  injection hc with _ hc _
  cases hc
 have hbp:pb≠bb:=fun e=>by
  have:=hK.top
  unfold Top at this
  rw[e,hbb] at this
  injection this with this
  injection this with _ this _
  cases this
 have hsame2:∀k,k<wr.heap.size->v.ownBlock≠some k->k≠bb->(w6.setCell ⟨bb,1,none⟩ v').heap[k]?=wr.heap[k]?:=fun k hk hn hne=>(Qy _ _ _ _ hne).trans (hsame k hk hn)
 have hE6:∀b cs,E=some (b,cs)->w6.heap[b]?=some (.cells cs 68 (0,0)):=fun b cs he=>by
  have hb:=hg.2 b cs he
  refine (hsame b (jAv hb) (fun e=>?_)).trans hb
  obtain ⟨cur,hc⟩:=jA1 hv e
  rw[hb] at hc
  injection hc with hc
  injection hc with _ hc _
  cases hc
 have hbF:bb ∉ F:=hK.lay.notin hbb (by decide)
 refine ⟨v',w6,hr,(jAj hbb6).trans rfl,jAq hbb6,hE6,F,⟨?_,?_,hK.good,hK.nn⟩,h1,?_,?_,hb2,?_,fun g hg' hm=>?_,fun b cs he=>?_⟩
 ·exact (hsame2 pb (jAv hK.top) (fun e=>hvp pb e rfl) hbp).trans hK.top
 ·exact hK.lay.keep fun k hk=>hsame2 k (hK.lay.lt k hk) (fun e=>hg.1 k e hk) (fun e=>hbF (e▸hk))
 ·refine ⟨?_,?_,?_,?_,fun k hk hn=>?_⟩
  ·exact (h3.os.trans hbA.os).trans ho.os
  ·exact (h3.tape.trans hbA.tape).trans ho.tape
  ·exact (h3.output.trans hbA.output).trans ho.output
  ·have:=ho.size
   have:=h3.size
   have hz:(w6.setCell ⟨bb,1,none⟩ v').heap.size=w6.heap.size:=by simp
   omega
  ·have hs:=ho.size
   rw[hsame2 k (by omega) (fun e=>by have:=(hv.lt k e).1;omega) (by omega)]
   exact ho.block k hk hn
 ·rw[QJ _ _ _ _ _ _ hbb6]
  rfl
 ·rw[List.length_append,jI2]
  refine jA0 h2 fun g hg'=>Qy _ _ _ _ fun e=>?_
  rcases h5 with h6 | h6
  ·exact hvb g (h6▸hg') e
  ·rw[h6] at hg'
   injection hg' with hg'
   have:=jAv hbb
   change g=bb at e
   omega
 ·rcases h5 with h6 | h6
  ·exact hg.1 g (h6▸hg') hm
  ·rw[h6] at hg'
   injection hg' with hg'
   have:=hK.lay.lt g hm
   omega
 ·have hb:=hg.2 b cs he
  refine (Qy _ _ _ _ (fun e=>?_)).trans (hE6 b cs he)
  change b=bb at e
  rw[e,hbb] at hb
  injection hb with hb
  injection hb with _ hb _
  cases hb
theorem Tc.some {w wr X:World}{pb q bb b:Nat}{F0:List Nat}{E:Option (Nat × Array Value)}{v:Value}{nn:Nat}{S:Ps}{L:List Nat}{cs:Array Value}(h:Tc w wr pb q bb F0 E v nn S L)(hb:Below wr.heap.size wr X)(hX:X.heap[b]?=Option.some (.cells cs 68 (0,0))):Tc w X pb q bb F0 (Option.some (b,cs)) v nn S L:=by
 obtain ⟨F,hK,h1,ho,hbb,hb2,hv,hg⟩:=(h.below hb).ex
 exact ⟨F,hK,h1,ho,hbb,hb2,hv,hg.1,fun b' cs' e=>by
  injection e with e
  injection e with e1 e2
  subst e1 e2
  exact hX⟩
theorem Tc.none {w wr:World}{pb q bb:Nat}{F0:List Nat}{E:Option (Nat × Array Value)}{v:Value}{nn:Nat}{S:Ps}{L:List Nat}(h:Tc w wr pb q bb F0 E v nn S L):Tc w wr pb q bb F0 Option.none v nn S L:=by
 obtain ⟨F,hK,h1,ho,hbb,hb2,hv,hg⟩:=h.ex
 exact ⟨F,hK,h1,ho,hbb,hb2,hv,hg.1,fun b cs e=>by cases e⟩
theorem Tc.eff {w wr:World}{pb q bb b:Nat}{F0:List Nat}{v:Value}{nn:Nat}{S:Ps}{L:List Nat}{cs:Array Value}(h:Tc w wr pb q bb F0 (Option.some (b,cs)) v nn S L):wr.heap[b]?=Option.some (.cells cs 68 (0,0)):=by
 obtain ⟨F,hK,h1,ho,hbb,hb2,hv,hg⟩:=h.ex
 exact hg.2 _ _ rfl
