import Derived.Test.YtfnklhajafmooaaGreatDoorG30
set_option maxHeartbeats 1000000
set_option maxRecDepth 20000
namespace Go.Proofs.YtfnklhajafmooaaGreatDoor.Po
open Go.RowKit Go.Lib Go.Deep Go.Proofs.Tryz
structure Ok (w:World)(pb q:Nat)(F:List Nat)(nn:Nat)(S:Ps):Prop where
 top:Top w pb q
 lay:Lay w q F nn S
 good:Good S
 nn:nn<9223372036854775800
theorem Good.ow {S:Ps}(h:Good S){i:Nat}{o:Ob}(hi:S.R[i]?=some o):-1<=o.ow/\o.ow<=65600:=by
 have h1:=h.st i o hi
 have h2:=h.fl
 omega
theorem Good.nm {S:Ps}(h:Good S){i:Nat}{o:Ob}(hi:S.R[i]?=some o):o.nm.size<=16/\o.tg.size<=16:=by
 obtain ⟨⟨h1,h2,_⟩,_⟩:=h.st i o hi
 unfold jH2 at h1 h2
 omega
theorem jMq (w:World)(q:Nat)(F:List Nat)(nn:Nat)(S:Ps)(i:Nat)(was:Ob)(f:Int)(hL:Lay w q F nn S)(hG:Good S)(hN:nn<9223372036854775800)(hi:S.R[i]?=some was)(hf:-1<=f/\f<=65600)(ho:f≠-1->∀(j:Nat) o,j≠i->S.R[j]?=some o->o.ow≠f) :
 Calls prog 195 #[.pointer (some ⟨q,0,none⟩),.int .i64 (i:Int),.int .i64 f] w fun e w'=>e=.returned (.tuple #[])/\Turn F w w' q (nn+1) (putP S i (owO was f)):=by
 have hL0:=hL
 obtain ⟨rv,mv,oa,na,room,h,rfl,hI⟩:=hL
 obtain ⟨g,cap,rfl⟩:=hI.form hi
 have hlt:(i:Int)<(S.R.length:Int):=by have:=jAy hi;omega
 obtain ⟨-,c1,-⟩:=hI.cells
 obtain ⟨r0,r1,r2,r3,-⟩:=hI.row hi
 obtain ⟨V,hV,hb,k0⟩:=jA4 w #[.string was.nm,.string was.tg,.int .i64 was.bk,.int .i64 was.ow] 60
 obtain ⟨U,hU⟩:∃U,V.setCell ⟨w.heap.size,3,none⟩ (.int .i64 f)=U:=⟨_,rfl⟩
 have hbU:Below w.heap.size w U:=by rw[<-hU];exact hb.setCell (Qj _) _
 have kU:U.heap[w.heap.size]?=some (.cells #[.string was.nm,.string was.tg,.int .i64 was.bk,.int .i64 f] 60 (0,0)):=by rw[<-hU];exact (jB6 _ _ _ _ _ _ _ k0).trans rfl
 have x0:U.cell? ⟨w.heap.size,0,none⟩=some (.string was.nm):=(jAj kU).trans rfl
 have x1:U.cell? ⟨w.heap.size,1,none⟩=some (.string was.tg):=(jAj kU).trans rfl
 have x2:U.cell? ⟨w.heap.size,2,none⟩=some (.int .i64 was.bk):=(jAj kU).trans rfl
 have x3:U.cell? ⟨w.heap.size,3,none⟩=some (.int .i64 f):=(jAj kU).trans rfl
 have y3:V.cell? ⟨w.heap.size,3,none⟩=some (.int .i64 was.ow):=(jAj k0).trans rfl
 have fz:V.frozen? ⟨w.heap.size,3,none⟩=false:=jAq k0
 have hput:=put_any U q _ nn S i was (owO was f) (hL0.below hbU) hi (hG.nm hi).1 (hG.nm hi).1 (hG.ow hi) hf ho (fun hn j o hj hoj e=>hj (hG.nu j i o was hoj hi e (by rw[e];exact hn))) (by unfold maxLen;omega)
 unfold obV owO at hput
 unfold owO
 have HE:Hid (∀w',Turn (fp q (.slice (some ⟨g,0,none⟩) S.R.length cap) mv oa na) U w' q (nn+1) (putP S i ⟨was.nm,was.tg,was.bk,f⟩)->Turn (fp q (.slice (some ⟨g,0,none⟩) S.R.length cap) mv oa na) w w' q (nn+1) (putP S i ⟨was.nm,was.tg,was.bk,f⟩)):=fun w' hT=>Turn.ahead hbU hT
 obtain ⟨wn,wt,wb,wo⟩:=was
 dsimp only at *
 generalize S.R.length=N at *
 clear hI hi hL0 hb hbU k0 kU ho hG
 go_enter func195,ntmps195
 go_wp2_with fail
 refine hput.mono ?_
 rintro e w' ⟨rfl,hT⟩
 have HT:Hid _:=HE.out w' hT
 clear hT hput
 go_wp2
 go_end0
 exact ⟨rfl,HT.out⟩
theorem jMz {w:World}{pb q nn:Nat}{F:List Nat}{S:Ps}(h:Ok w pb q F nn S)(i:Int):Calls prog 158 #[.pointer (some ⟨pb,0,none⟩),.int .i64 i] w fun e w'=>e=.returned (.int .i64 (jHj S i))/\w'=w:=jM9 w pb q F nn S i h.top h.lay
theorem sizePs:(prog.info? 46).map (·.size)=some 2:=by kernel_rfl
theorem at_any (w:World)(pb q:Nat)(F:List Nat)(nn:Nat)(S:Ps)(i:Int)(hK:Ok w pb q F nn S):Calls prog 114 #[.pointer (some ⟨pb,0,none⟩),.int .i64 i] w fun e w'=>e=.returned (.tuple #[obV (if rowN S i then jC9 S i else zOb),.int .i64 (atE S i)])/\Below w.heap.size w w':=by
 obtain ⟨V,hV,hb,k0⟩:=jA4 w #[.string { data:=#[] },.string { data:=#[] },.int .i64 0,.int .i64 0] 60
 have hKV:Ok V pb q F nn S:=⟨hK.top.below hb,hK.lay.below hb,hK.good,hK.nn⟩
 have hf:=jMz hKV i
 have HB:Hid _:=hb
 have HK:Hid _:=k0
 have z0:V.cell? ⟨w.heap.size,0,none⟩=some (.string { data:=#[] }):=(jAj k0).trans rfl
 have z1:V.cell? ⟨w.heap.size,1,none⟩=some (.string { data:=#[] }):=(jAj k0).trans rfl
 have z2:V.cell? ⟨w.heap.size,2,none⟩=some (.int .i64 0):=(jAj k0).trans rfl
 have z3:V.cell? ⟨w.heap.size,3,none⟩=some (.int .i64 0):=(jAj k0).trans rfl
 have fz:∀j,V.frozen? ⟨w.heap.size,j,none⟩=false:=fun j=>jAq k0
 have f0:=fz 0
 have f1:=fz 1
 have f2:=fz 2
 have f3:=fz 3
 by_cases h1:rowN S i
 ·rw[show atE S i=0 from if_pos h1,if_pos h1]
  rw[show jHj S i=0 from if_pos h1] at hf
  have hi:=jH7 h1
  obtain ⟨j,rfl⟩:∃j:Nat,i=j:=⟨i.toNat,by unfold rowN at h1;omega⟩
  rw[Int.toNat_natCast] at hi
  obtain ⟨rv,mv,oa,na,room,h,rfl,hI⟩:=hKV.lay
  obtain ⟨g,cap,rfl⟩:=hI.form hi
  have c0:=hKV.top.cell
  obtain ⟨-,c1,-⟩:=hI.cells
  obtain ⟨r0,r1,r2,r3,-⟩:=hI.row hi
  have hlt:(j:Int)<(S.R.length:Int):=by have:=jAy hi;omega
  unfold obV
  generalize jC9 S (j:Int)=o at *
  generalize S.R.length=N at *
  obtain ⟨nm,tg,bk,ow⟩:=o
  dsimp only at *
  clear hI hi h1 hK hKV hb k0 fz
  go_enter func114,ntmps114
  go_wp2_with (go_at_call 158;refine hf.mono ?_;rintro e w2 ⟨rfl,rfl⟩)
  refine Qw (Tr.jA8 rfl _ _ w.heap.size 60 _ (0,0) _ rfl (jEx HK.out) underlying60 rfl sizeOb) rfl ?_
  exact ⟨rfl,(((HB.out.setCell (by simp) _).setCell (by simp) _).setCell (by simp) _).setCell (by simp) _⟩
 ·rw[show atE S i=131 from if_neg h1,if_neg h1]
  rw[show jHj S i=131 from if_neg h1] at hf
  unfold obV zOb e0
  dsimp only
  clear h1 hK hKV hb k0 fz
  go_enter func114,ntmps114
  go_wp2_with (go_at_call 158;refine hf.mono ?_;rintro e w2 ⟨rfl,rfl⟩)
  refine Qw (Tr.jA8 rfl _ _ w.heap.size 60 _ (0,0) _ rfl (jEx HK.out) underlying60 rfl sizeOb) rfl ?_
  exact ⟨rfl,(((HB.out.setCell (by simp) _).setCell (by simp) _).setCell (by simp) _).setCell (by simp) _⟩
theorem row_of {S:Ps}{i:Int}(h:rowN S i):∃j:Nat,i=j/\S.R[j]?=some (jC9 S i):=by
 have:=jH7 h
 refine ⟨i.toNat,?_,this⟩
 unfold rowN at h
 omega
theorem push_any (w:World)(pb q:Nat)(F:List Nat)(nn:Nat)(S:Ps)(i:Int)(hK:Ok w pb q F nn S):Calls prog 113 #[.pointer (some ⟨pb,0,none⟩),.int .i64 i] w fun e w'=>e=.returned (.int .i64 (jJ0 S i))/\Turn F w w' q nn (jJ8 S i):=by
 have hf:=jMz hK i
 have c0:=hK.top.cell
 by_cases h1:rowN S i
 ·rw[show jHj S i=0 from if_pos h1] at hf
  obtain ⟨j,rfl,hi⟩:=row_of h1
  have hKL:=hK.lay
  obtain ⟨rv,mv,oa,na,room,h,rfl,hI⟩:=hK.lay
  obtain ⟨g,cap,rfl⟩:=hI.form hi
  obtain ⟨-,c1,-⟩:=hI.cells
  obtain ⟨r0,r1,r2,r3,r4⟩:=hI.row hi
  have hlt:(j:Int)<(S.R.length:Int):=by have:=jAy hi;omega
  have hout:=jNz (jC9 S (j:Int)) (decide (j∈S.Q)) w
  have hbo:(decide ((jC9 S (j:Int)).ow=-1) && !decide (j∈S.Q))=outL S (j:Int):=by unfold outL;rw[Int.toNat_natCast]
  rw[hbo] at hout
  by_cases h2:outL S (j:Int)=true
  ·have e1:jJ0 S (j:Int)=0:=by unfold jJ0;rw[if_pos h1,if_pos h2]
   have e2:jJ8 S (j:Int)=jL6 S j:=by unfold jJ8;rw[if_pos e1,Int.toNat_natCast]
   rw[e1,e2]
   rw[h2] at hout
   have HP:Hid (∀V,Below w.heap.size w V->V.cell? ⟨pb,0,none⟩=some (.pointer (some ⟨q,0,none⟩))/\Calls prog 45 #[.pointer (some ⟨q,0,none⟩),.int .i64 (j:Int)] V fun e w'=>e=.returned (.tuple #[])/\Hid (Turn (fp q (.slice (some ⟨g,0,none⟩) S.R.length cap) mv oa na) w w' q nn (jL6 S j))):=fun V hb=>by
    refine ⟨(hK.top.below hb).cell,(jN1 V q _ nn S j _ (hKL.below hb) hi hK.good.ql).mono ?_⟩
    rintro e w' ⟨rfl,hT⟩
    exact ⟨rfl,Turn.ahead hb hT⟩
   generalize jC9 S (j:Int)=o at *
   generalize S.R.length=N at *
   obtain ⟨nm,tg,bk,ow⟩:=o
   dsimp only at *
   clear hI hi h1 hK hKL hbo h2 e1 e2
   go_enter func113,ntmps113
   go_wp2_with (first
    | (go_at_call 150;refine hout.mono ?_;rintro e w3 ⟨rfl,hb3⟩;obtain ⟨d0,hpu⟩:=HP.out w3 hb3;clear hb3 HP)
    | (go_at_call 158;refine hf.mono ?_;rintro e w2 ⟨rfl,rfl⟩)
    | (go_at_call 45;refine hpu.mono ?_;rintro e w4 ⟨rfl,HT⟩))
   go_ret
   exact ⟨rfl,HT.out⟩
  ·have e1:jJ0 S (j:Int)=132:=by unfold jJ0;rw[if_pos h1,if_neg h2]
   have e2:jJ8 S (j:Int)=S:=by unfold jJ8;rw[e1,if_neg (by decide)]
   rw[e1,e2]
   rw[Bool.not_eq_true] at h2
   rw[h2] at hout
   have HP:Hid (∀V,Below w.heap.size w V->Turn (fp q (.slice (some ⟨g,0,none⟩) S.R.length cap) mv oa na) w V q nn S):=fun V hb=>hKL.turn hb
   generalize jC9 S (j:Int)=o at *
   generalize S.R.length=N at *
   obtain ⟨nm,tg,bk,ow⟩:=o
   dsimp only at *
   clear hI hi h1 hK hKL hbo h2 e1 e2
   go_enter func113,ntmps113
   go_wp2_with (first
    | (go_at_call 150;refine hout.mono ?_;rintro e w3 ⟨rfl,hb3⟩;have HT:Hid _:=HP.out w3 hb3;clear hb3 HP)
    | (go_at_call 158;refine hf.mono ?_;rintro e w2 ⟨rfl,rfl⟩))
   go_ret
   exact ⟨rfl,HT.out⟩
 ·rw[show jHj S i=131 from if_neg h1] at hf
  have e1:jJ0 S i=131:=by unfold jJ0;rw[if_neg h1]
  have e2:jJ8 S i=S:=by unfold jJ8;rw[e1,if_neg (by decide)]
  rw[e1,e2]
  have HT:Hid (Turn F w w q nn S):=hK.lay.turn (Qq _ _)
  clear hK h1 e1 e2
  go_enter func113,ntmps113
  go_wp2_with (go_at_call 158;refine hf.mono ?_;rintro e w2 ⟨rfl,rfl⟩)
  go_ret
  exact ⟨rfl,HT.out⟩
theorem pop_any (w:World)(pb q:Nat)(F:List Nat)(nn:Nat)(S:Ps)(hK:Ok w pb q F nn S):Calls prog 157 #[.pointer (some ⟨pb,0,none⟩)] w fun e w'=>e=.returned (.tuple #[.int .i64 (popY S),.int .i64 (popE S)])/\Turn F w w' q nn (popS S):=by
 have c0:=hK.top.cell
 have hm:=jHz w pb q c0
 unfold popY popE
 cases hq:S.Q with
 | nil =>
   have hp:=spop0_any w q F nn S hK.lay hq
   have e2:popS S=S:=by unfold popS;rw[hq];obtain ⟨a,b,c⟩:=S;simp only at hq;subst hq;rfl
   rw[e2,if_pos rfl]
   have HT:Hid (Turn F w w q nn S):=hK.lay.turn (Qq _ _)
   simp only[List.head?_nil,Option.getD_none]
   clear hK e2
   go_enter func157,ntmps157
   go_wp2_with (first
    | (go_at_call 198;refine hp.mono ?_;rintro e w2 ⟨rfl,rfl⟩)
    | (go_at_call 52;refine hm.mono ?_;rintro e w2 ⟨rfl,rfl⟩))
   go_ret2
   exact ⟨rfl,HT.out⟩
 | cons a Q =>
   obtain ⟨o,h1,h2⟩:=hK.good.qd a (by rw[hq];simp)
   have hp:=spop_any w q F nn S a Q o hK.lay hq hK.good.qn h1
   rw[if_neg (by simp)]
   simp only[List.head?_cons,Option.getD_some]
   clear hK h1 h2 hq
   go_enter func157,ntmps157
   go_wp2_with (first
    | (go_at_call 198;refine hp.mono ?_;rintro e w2 ⟨rfl,hT⟩;have HT:Hid _:=hT;clear hT)
    | (go_at_call 52;refine hm.mono ?_;rintro e w2 ⟨rfl,rfl⟩))
   go_ret2
   exact ⟨rfl,HT.out⟩
theorem asg_any (w:World)(pb q:Nat)(F:List Nat)(nn:Nat)(S:Ps)(i f:Int)(hK:Ok w pb q F nn S):Calls prog 153 #[.pointer (some ⟨pb,0,none⟩),.int .i64 i,.int .i64 f] w fun e w'=>e=.returned (.int .i64 (asgE S i f))/\Turn F w w' q (nn+1) (asgS S i f):=by
 have hf:=jMz hK i
 have c0:=hK.top.cell
 by_cases h1:rowN S i
 ·rw[show jHj S i=0 from if_pos h1] at hf
  have hfi:=jK9 w q F nn S f hK.lay
  by_cases h2:jF7 S f
  ·rw[show decide (jF7 S f)=true from QQ h2] at hfi
   obtain ⟨j,rfl,hi⟩:=row_of h1
   have hKL:=hK.lay
   obtain ⟨rv,mv,oa,na,room,h,rfl,hI⟩:=hK.lay
   obtain ⟨g,cap,rfl⟩:=hI.form hi
   obtain ⟨-,c1,-⟩:=hI.cells
   obtain ⟨r0,r1,r2,r3,r4⟩:=hI.row hi
   have hlt:(j:Int)<(S.R.length:Int):=by have:=jAy hi;omega
   have hout:=jNz (jC9 S (j:Int)) (decide (j∈S.Q)) w
   have hbo:(decide ((jC9 S (j:Int)).ow=-1) && !decide (j∈S.Q))=outL S (j:Int):=by unfold outL;rw[Int.toNat_natCast]
   rw[hbo] at hout
   have HH:Hid (∀V,Below w.heap.size w V->V.cell? ⟨pb,0,none⟩=some (.pointer (some ⟨q,0,none⟩))/\Calls prog 180 #[.pointer (some ⟨q,0,none⟩),.int .i64 f] V fun e w'=>e=.returned (.bool (jD7 S.R f))/\w'=V):=fun V hb=>⟨(hK.top.below hb).cell,isHeld_any V q _ nn S f (hKL.below hb) h2⟩
   by_cases h3:outL S (j:Int)=true
   ·rw[h3] at hout
    by_cases h4:jD7 S.R f=false
    ·have e1:asgE S (j:Int) f=0:=by unfold asgE;rw[if_pos h1,if_pos h2,if_pos ⟨h3,h4⟩]
     have e2:asgS S (j:Int) f=putP S j (owO (jC9 S (j:Int)) f):=by unfold asgS;rw[if_pos e1,Int.toNat_natCast]
     rw[e1,e2]
     have HP:Hid (∀V,Below w.heap.size w V->V.cell? ⟨pb,0,none⟩=some (.pointer (some ⟨q,0,none⟩))/\Calls prog 195 #[.pointer (some ⟨q,0,none⟩),.int .i64 (j:Int),.int .i64 f] V fun e w'=>e=.returned (.tuple #[])/\Hid (Turn (fp q (.slice (some ⟨g,0,none⟩) S.R.length cap) mv oa na) w w' q (nn+1) (putP S j (owO (jC9 S (j:Int)) f)))):=fun V hb=>by
      refine ⟨(hK.top.below hb).cell,(jMq V q _ nn S j _ f (hKL.below hb) hK.good hK.nn hi ?_ (fun _ k o _ ho=>held_no h4 k o ho)).mono ?_⟩
      ·have:=hI.lim
       unfold jF7 at h2
       omega
      ·rintro e w' ⟨rfl,hT⟩
       exact ⟨rfl,Turn.ahead hb hT⟩
     simp only[h4] at HH
     generalize hg1:putP S j (owO (jC9 S (j:Int)) f)=S2 at *
     generalize jC9 S (j:Int)=o at *
     generalize S.R.length=N at *
     obtain ⟨nm,tg,bk,ow⟩:=o
     dsimp only at *
     clear hI hi h1 hK hKL hbo h2 e1 e2 h3 h4 hg1
     go_enter func153,ntmps153
     go_wp2_with (first
      | (go_at_call 150;refine hout.mono ?_;rintro e w3 ⟨rfl,hb3⟩;obtain ⟨d0,hpu⟩:=HP.out w3 hb3;obtain ⟨-,hhe⟩:=HH.out w3 hb3;clear hb3 HP HH)
      | (go_at_call 158;refine hf.mono ?_;rintro e w2 ⟨rfl,rfl⟩)
      | (go_at_call 179;refine hfi.mono ?_;rintro e w2 ⟨rfl,rfl⟩)
      | (go_at_call 180;refine hhe.mono ?_;rintro e w2 ⟨rfl,rfl⟩)
      | (go_at_call 195;refine hpu.mono ?_;rintro e w4 ⟨rfl,HT⟩))
     go_ret
     exact ⟨rfl,HT.out⟩
    ·have e1:asgE S (j:Int) f=132:=by unfold asgE;rw[if_pos h1,if_pos h2,if_neg (fun x=>h4 x.2)]
     have e2:asgS S (j:Int) f=S:=by unfold asgS;rw[e1,if_neg (by decide)]
     rw[e1,e2]
     rw[Bool.not_eq_false] at h4
     simp only[h4] at HH
     have HP:Hid (∀V,Below w.heap.size w V->Turn (fp q (.slice (some ⟨g,0,none⟩) S.R.length cap) mv oa na) w V q (nn+1) S):=fun V hb=>(hKL.turn hb).up (Nat.le_succ _)
     generalize jC9 S (j:Int)=o at *
     generalize S.R.length=N at *
     obtain ⟨nm,tg,bk,ow⟩:=o
     dsimp only at *
     clear hI hi h1 hK hKL hbo h2 e1 e2 h3 h4
     go_enter func153,ntmps153
     go_wp2_with (first
      | (go_at_call 150;refine hout.mono ?_;rintro e w3 ⟨rfl,hb3⟩;have HT:Hid _:=HP.out w3 hb3;obtain ⟨d0,hhe⟩:=HH.out w3 hb3;clear hb3 HP HH)
      | (go_at_call 158;refine hf.mono ?_;rintro e w2 ⟨rfl,rfl⟩)
      | (go_at_call 179;refine hfi.mono ?_;rintro e w2 ⟨rfl,rfl⟩)
      | (go_at_call 180;refine hhe.mono ?_;rintro e w2 ⟨rfl,rfl⟩))
     go_ret
     exact ⟨rfl,HT.out⟩
   ·have e1:asgE S (j:Int) f=132:=by unfold asgE;rw[if_pos h1,if_pos h2,if_neg (fun x=>h3 x.1)]
    have e2:asgS S (j:Int) f=S:=by unfold asgS;rw[e1,if_neg (by decide)]
    rw[e1,e2]
    rw[Bool.not_eq_true] at h3
    rw[h3] at hout
    have HP:Hid (∀V,Below w.heap.size w V->Turn (fp q (.slice (some ⟨g,0,none⟩) S.R.length cap) mv oa na) w V q (nn+1) S):=fun V hb=>(hKL.turn hb).up (Nat.le_succ _)
    generalize jC9 S (j:Int)=o at *
    generalize S.R.length=N at *
    obtain ⟨nm,tg,bk,ow⟩:=o
    dsimp only at *
    clear hI hi h1 hK hKL hbo h2 e1 e2 h3 HH
    go_enter func153,ntmps153
    go_wp2_with (first
     | (go_at_call 150;refine hout.mono ?_;rintro e w3 ⟨rfl,hb3⟩;have HT:Hid _:=HP.out w3 hb3;clear hb3 HP)
     | (go_at_call 158;refine hf.mono ?_;rintro e w2 ⟨rfl,rfl⟩)
     | (go_at_call 179;refine hfi.mono ?_;rintro e w2 ⟨rfl,rfl⟩))
    go_ret
    exact ⟨rfl,HT.out⟩
  ·rw[show decide (jF7 S f)=false from QY h2] at hfi
   have e1:asgE S i f=1:=by unfold asgE;rw[if_pos h1,if_neg h2]
   have e2:asgS S i f=S:=by unfold asgS;rw[e1,if_neg (by decide)]
   rw[e1,e2]
   have HT:Hid (Turn F w w q (nn+1) S):=(hK.lay.turn (Qq _ _)).up (Nat.le_succ _)
   clear hK h1 h2 e1 e2
   go_enter func153,ntmps153
   go_wp2_with (first
    | (go_at_call 158;refine hf.mono ?_;rintro e w2 ⟨rfl,rfl⟩)
    | (go_at_call 179;refine hfi.mono ?_;rintro e w2 ⟨rfl,rfl⟩))
   go_ret
   exact ⟨rfl,HT.out⟩
 ·rw[show jHj S i=131 from if_neg h1] at hf
  have e1:asgE S i f=131:=by unfold asgE;rw[if_neg h1]
  have e2:asgS S i f=S:=by unfold asgS;rw[e1,if_neg (by decide)]
  rw[e1,e2]
  have HT:Hid (Turn F w w q (nn+1) S):=(hK.lay.turn (Qq _ _)).up (Nat.le_succ _)
  clear hK h1 e1 e2
  go_enter func153,ntmps153
  go_wp2_with (go_at_call 158;refine hf.mono ?_;rintro e w2 ⟨rfl,rfl⟩)
  go_ret
  exact ⟨rfl,HT.out⟩
theorem rel_any (w:World)(pb q:Nat)(F:List Nat)(nn:Nat)(S:Ps)(i:Int)(hK:Ok w pb q F nn S):Calls prog 156 #[.pointer (some ⟨pb,0,none⟩),.int .i64 i] w fun e w'=>e=.returned (.int .i64 (relE S i))/\Turn F w w' q (nn+1) (relS S i):=by
 have hf:=jMz hK i
 have c0:=hK.top.cell
 by_cases h1:rowN S i
 ·rw[show jHj S i=0 from if_pos h1] at hf
  obtain ⟨j,rfl,hi⟩:=row_of h1
  have hKL:=hK.lay
  obtain ⟨rv,mv,oa,na,room,h,rfl,hI⟩:=hK.lay
  obtain ⟨g,cap,rfl⟩:=hI.form hi
  obtain ⟨-,c1,-⟩:=hI.cells
  obtain ⟨r0,r1,r2,r3,r4⟩:=hI.row hi
  have hlt:(j:Int)<(S.R.length:Int):=by have:=jAy hi;omega
  have hdu:=jNy (jC9 S (j:Int)) (decide (j∈S.Q)) w
  generalize decide (j∈S.Q)=bq at *
  by_cases h3:(jC9 S (j:Int)).ow=-1
  ·rw[QQ h3] at hdu
   have e1:relE S (j:Int)=132:=by unfold relE;rw[if_pos h1,if_pos h3]
   have e2:relS S (j:Int)=S:=by unfold relS;rw[e1,if_neg (by decide)]
   rw[e1,e2]
   have HP:Hid (∀V,Below w.heap.size w V->Turn (fp q (.slice (some ⟨g,0,none⟩) S.R.length cap) mv oa na) w V q (nn+1) S):=fun V hb=>(hKL.turn hb).up (Nat.le_succ _)
   generalize jC9 S (j:Int)=o at *
   generalize S.R.length=N at *
   obtain ⟨nm,tg,bk,ow⟩:=o
   dsimp only at *
   clear hI hi h1 hK hKL e1 e2 h3
   go_enter func156,ntmps156
   go_wp2_with (first
    | (go_at_call 185;refine hdu.mono ?_;rintro e w3 ⟨rfl,hb3⟩;have HT:Hid _:=HP.out w3 hb3;clear hb3 HP)
    | (go_at_call 158;refine hf.mono ?_;rintro e w2 ⟨rfl,rfl⟩))
   go_ret
   exact ⟨rfl,HT.out⟩
  ·rw[QY h3] at hdu
   have e1:relE S (j:Int)=0:=by unfold relE;rw[if_pos h1,if_neg h3]
   have e2:relS S (j:Int)=putP S j (owO (jC9 S (j:Int)) (-1)):=by unfold relS;rw[if_pos e1,Int.toNat_natCast]
   rw[e1,e2]
   have HP:Hid (∀V,Below w.heap.size w V->V.cell? ⟨pb,0,none⟩=some (.pointer (some ⟨q,0,none⟩))/\Calls prog 195 #[.pointer (some ⟨q,0,none⟩),.int .i64 (j:Int),.int .i64 (-1)] V fun e w'=>e=.returned (.tuple #[])/\Hid (Turn (fp q (.slice (some ⟨g,0,none⟩) S.R.length cap) mv oa na) w w' q (nn+1) (putP S j (owO (jC9 S (j:Int)) (-1))))):=fun V hb=>by
    refine ⟨(hK.top.below hb).cell,(jMq V q _ nn S j _ (-1) (hKL.below hb) hK.good hK.nn hi (by omega) (fun x=>absurd rfl x)).mono ?_⟩
    rintro e w' ⟨rfl,hT⟩
    exact ⟨rfl,Turn.ahead hb hT⟩
   generalize hg1:putP S j (owO (jC9 S (j:Int)) (-1))=S2 at *
   generalize jC9 S (j:Int)=o at *
   generalize S.R.length=N at *
   obtain ⟨nm,tg,bk,ow⟩:=o
   dsimp only at *
   clear hI hi h1 hK hKL e1 e2 h3 hg1
   go_enter func156,ntmps156
   go_wp2_with (first
    | (go_at_call 185;refine hdu.mono ?_;rintro e w3 ⟨rfl,hb3⟩;obtain ⟨d0,hpu⟩:=HP.out w3 hb3;clear hb3 HP)
    | (go_at_call 158;refine hf.mono ?_;rintro e w2 ⟨rfl,rfl⟩)
    | (go_at_call 195;refine hpu.mono ?_;rintro e w4 ⟨rfl,HT⟩))
   go_ret
   exact ⟨rfl,HT.out⟩
 ·rw[show jHj S i=131 from if_neg h1] at hf
  have e1:relE S i=131:=by unfold relE;rw[if_neg h1]
  have e2:relS S i=S:=by unfold relS;rw[e1,if_neg (by decide)]
  rw[e1,e2]
  have HT:Hid (Turn F w w q (nn+1) S):=(hK.lay.turn (Qq _ _)).up (Nat.le_succ _)
  clear hK h1 e1 e2
  go_enter func156,ntmps156
  go_wp2_with (go_at_call 158;refine hf.mono ?_;rintro e w2 ⟨rfl,rfl⟩)
  go_ret
  exact ⟨rfl,HT.out⟩
theorem infoRow:(prog.info? 166).map (fun i=>(i.zero,i.size,i.bytes))=some (some (.agg #[.string { data:=#[] },.string { data:=#[] },.int .i64 0,.int .i64 0,.bool false]),5,56):=by kernel_rfl
theorem infoOb:(prog.info? 60).map (fun i=>(i.zero,i.size,i.bytes))=some (some (.agg #[.string { data:=#[] },.string { data:=#[] },.int .i64 0,.int .i64 0]),4,48):=by kernel_rfl
theorem jH8 {α:Type}(f:α->List Value)(k:Nat)(hf:∀a,(f a).length=k)(hk:0<k)(z:Value)(a:α)(hz:z.cells.toList=f a)(n:Nat):(madeCells z.cells (n*k)).toList=(List.replicate n a).flatMap f:=by
 have hsz:z.cells.size=k:=by rw[<-Array.length_toList,hz,hf]
 apply List.ext_getElem?
 intro j
 by_cases hj:j<n*k
 ·have h1:j / k<n:=Nat.div_lt_of_lt_mul (by rw[Nat.mul_comm];exact hj)
  have h2:j % k<k:=Nat.mod_lt _ hk
  have h3:=jDz f k hf (List.replicate n a) (j / k) a (by rw[Qc,if_pos h1]) (j % k) h2
  rw[show j / k*k+j % k=j by rw[Nat.mul_comm];exact Nat.div_add_mod j k] at h3
  rw[h3,<-hz]
  have h4:j % z.cells.size<z.cells.size:=by rw[hsz];exact h2
  rw[Array.getElem?_toList,Array.getElem?_toList]
  unfold madeCells
  rw[Array.getElem?_map,Array.getElem?_range,if_pos hj]
  show some (z.cells[j % z.cells.size]!)=z.cells[j % k]?
  rw[getElem!_pos z.cells (j % z.cells.size) h4,<-hsz,Array.getElem?_eq_getElem h4]
 ·rw[List.getElem?_eq_none (by rw[Array.length_toList,size_madeCells];omega),List.getElem?_eq_none (by rw[jEv f k hf,List.length_replicate];omega)]
def jG5 (n k:Nat):List (Ob × Bool):=List.replicate k (dOb,false)++List.replicate (n-k) (zOb,false)
theorem half_len {n k:Nat}(h:k<=n):(jG5 n k).length=n:=by unfold jG5;simp;omega
theorem half_get {n k:Nat}(h:k<n):(jG5 n k)[k]?=some (zOb,false):=by
 unfold jG5
 rw[Qd (by simp),List.length_replicate,Nat.sub_self,Qc,if_pos (by omega)]
theorem half_set {n k:Nat}(h:k<n):(jG5 n k).set k (dOb,false)=jG5 n (k+1):=by
 unfold jG5
 rw[List.set_append_right _ _ (by simp),List.length_replicate,Nat.sub_self,show n-k=(n-(k+1))+1 by omega,List.replicate_succ,List.set_cons_zero,List.replicate_succ',List.append_assoc]
 rfl
theorem half_full (f s:Nat):jG5 (f+s) (f+s)=jFz (jD9 f s):=by
 unfold jG5
 apply List.ext_getElem?
 intro j
 rw[jEj,Nat.sub_self,List.replicate_zero,List.append_nil]
 show _=((List.replicate (f+s) dOb)[j]?).map _
 rw[Qc,Qc]
 split
 ·simp[jD9]
 ·rfl
theorem is_blank {K:Type}(key:Ob->K)(no:K)(hk:key dOb=no)(n:Nat):Is key no (List.replicate n dOb) (fun _=>none):=fun k i=>by
 refine ⟨fun e=>(by cases e),fun ⟨h1,o,h2,h3⟩=>?_⟩
 rw[Qc] at h2
 split at h2
 ·obtain rfl:=QW h2
  exact absurd (h3.symm.trans hk) h1
 ·cases h2
theorem jFq (w:World)(f s:Nat)(hf:1<=f/\f<=65536)(hs:1<=s/\s<=64):Calls prog 44 #[.int .i64 (f:Int),.int .i64 (s:Int)] w fun e w'=>∃q F,e=.returned (.pointer (some ⟨q,0,none⟩))/\Lay w' q F 0 (jD9 f s)/\(∀k,k∈F->w.heap.size<=k)/\Below w.heap.size w w':=by
 obtain ⟨i0,hi,hz0,hz1,hz2⟩:=info_parts infoRow
 obtain ⟨n,hn⟩:∃n,f+s=n:=⟨_,rfl⟩
 have hnb:1<=n/\n<=65600:=by omega
 have hmk:=run_make (P:=prog) w 112 166 i0 _ underlying112 hi hz0 .i64 .i64 (n:Int) (n:Int) (by omega) (by omega) (by rw[hz2];omega) (by omega)
 rw[Int.toNat_natCast,hz1] at hmk
 have hcs:=jH8 rwC 5 jE4 (by decide) (.agg #[.string { data:=#[] },.string { data:=#[] },.int .i64 0,.int .i64 0,.bool false]) (zOb,false) rfl n
 have hsz:=size_madeCells (Value.agg #[.string { data:=#[] },.string { data:=#[] },.int .i64 0,.int .i64 0,.bool false]).cells (n*5)
 generalize madeCells (Value.agg #[.string { data:=#[] },.string { data:=#[] },.int .i64 0,.int .i64 0,.bool false]).cells (n*5)=C at *
 obtain ⟨W1,hW1⟩:∃W,w.alloc (.cells C 166)=W:=⟨_,rfl⟩
 obtain ⟨W2,hW2⟩:∃W,W1.alloc (.map #[] 0)=W:=⟨_,rfl⟩
 obtain ⟨W3,hW3⟩:∃W,W2.alloc (.map #[] 0)=W:=⟨_,rfl⟩
 have z1:W1.heap.size=w.heap.size+1:=by rw[<-hW1];simp
 have z2:W2.heap.size=w.heap.size+2:=by rw[<-hW2];simp[z1]
 have z3:W3.heap.size=w.heap.size+3:=by rw[<-hW3];simp[z2]
 obtain ⟨W4,hW4⟩:∃W,W3.alloc (.cells #[.int .i64 (f:Int),.slice (some ⟨w.heap.size,0,none⟩) n n,.map (some W1.heap.size),.map (some W2.heap.size),.slice none 0 0,.int .i64 0,.int .i64 0] 118)=W:=⟨_,rfl⟩
 have b1:Below w.heap.size w W1:=by rw[<-hW1];exact (Qq _ _).alloc (Qj _) _
 have b2:Below w.heap.size w W2:=by rw[<-hW2];exact b1.alloc b1.size _
 have b3:Below w.heap.size w W3:=by rw[<-hW3];exact b2.alloc b2.size _
 have b4:Below w.heap.size w W4:=by rw[<-hW4];exact b3.alloc b3.size _
 have s2:∀k,k<W1.heap.size->W2.heap[k]?=W1.heap[k]?:=fun k hk=>by rw[<-hW2];exact QK _ _ _ hk
 have s3:∀k,k<W2.heap.size->W3.heap[k]?=W2.heap[k]?:=fun k hk=>by rw[<-hW3];exact QK _ _ _ hk
 have s4:∀k,k<W3.heap.size->W4.heap[k]?=W3.heap[k]?:=fun k hk=>by rw[<-hW4];exact QK _ _ _ hk
 have hm1:W4.ownsMap prog 3 intR W1.heap.size 0 (.map []):=by
  have:=World.ownsMap_made (H:=Unit) W1 prog 3 intR
  rw[hW2] at this
  exact jC6 this ((s4 _ (by omega)).trans (s3 _ (by omega)))
 have hm2:W4.ownsMap prog 9 intR W2.heap.size 0 (.map []):=by
  have:=World.ownsMap_made (H:=Unit) W2 prog 9 intR
  rw[hW3] at this
  exact jC6 this (s4 _ (by omega))
 have hr:W4.ownsRow w.heap.size 166 5 (.slice (some ⟨w.heap.size,0,none⟩) n n) n (rwsC (jG5 n 0)):=by
  have hx:(w.alloc (.cells C 166)).heap[w.heap.size]?=some (.cells C 166 (0,0)):=jA2 _ _
  rw[hW1] at hx
  refine ⟨?_,.inr ⟨w.heap.size,n,C,rfl,Qj _,?_,Qj _,by unfold maxLen;omega,by rw[hsz],?_⟩⟩
  ·rw[show rwsC (jG5 n 0)=(jG5 n 0).flatMap rwC from rfl,jEv rwC 5 jE4,half_len (Kj _)]
  ·rw[s4 _ (by omega),s3 _ (by omega),s2 _ (by omega)];exact hx
  ·rw[hcs]
   unfold jG5 rwsC
   rw[List.replicate_zero,List.nil_append,Nat.sub_zero]
   exact Qf (by rw[jEv rwC 5 jE4,List.length_replicate];exact Qj _)
 have hq:W4.heap[W3.heap.size]?=some (.cells #[.int .i64 (f:Int),.slice (some ⟨w.heap.size,0,none⟩) n n,.map (some W1.heap.size),.map (some W2.heap.size),.slice none 0 0,.int .i64 0,.int .i64 0] 118 (0,0)):=by
  have:=jA2 W3 (.cells #[.int .i64 (f:Int),.slice (some ⟨w.heap.size,0,none⟩) n n,.map (some W1.heap.size),.map (some W2.heap.size),.slice none 0 0,.int .i64 0,.int .i64 0] 118)
  rw[hW4] at this
  exact this
 have HE:Hid (∀V,Only [w.heap.size] W4 V->V.ownsRow w.heap.size 166 5 (.slice (some ⟨w.heap.size,0,none⟩) n n) n (rwsC (jG5 n n))->∃F,Lay V W3.heap.size F 0 (jD9 f s)/\(∀k,k∈F->w.heap.size<=k)/\Below w.heap.size w V):=fun V ho hro=>by
  have lt4:W4.heap.size=w.heap.size+4:=by rw[<-hW4];simp[z3]
  have keep:∀k,k<W4.heap.size->k≠w.heap.size->V.heap[k]?=W4.heap[k]?:=fun k hk hne=>ho.block k hk (by simpa using hne)
  refine ⟨_,⟨.slice (some ⟨w.heap.size,0,none⟩) n n,.slice none 0 0,W1.heap.size,W2.heap.size,[],0,rfl,?_,?_,World.ownsRow_nil _ _ _ _,⟨_,_,jC6 hm1 (keep _ (by omega) (by omega)),tab_nil _,is_blank _ _ rfl _⟩,⟨_,_,jC6 hm2 (keep _ (by omega) (by omega)),tab_nil _,is_blank _ _ rfl _⟩,by omega,⟨.inr ⟨rfl,rfl⟩,by simp[jD9],fun j hj=>(by simp[jD9] at hj)⟩,by simp,?_⟩,fun k hk=>?_,?_⟩
  ·rw[keep _ (by omega) (by omega)];exact hq
  ·have:(jD9 f s).R.length=n:=by simp[jD9,hn]
   rw[this,<-half_full,hn]
   exact jB1 hro (Kj _)
  ·simp[jD9];omega
  ·rcases jBx.1 hk with rfl | rfl | rfl | h1 | h1
   ·omega
   ·omega
   ·omega
   ·simp[Value.ownBlock] at h1;omega
   ·simp[Value.ownBlock] at h1
  ·exact b4.trans (ho.below b4.size (by simp))
 have hwn:IntKind.i64.wrap ((f:Int)+(s:Int))=(n:Int):=by rw[QX];omega
 have hmm:=@run_makeMap prog
 have RL:Hid (∀V k,Only [w.heap.size] W4 V->V.ownsRow w.heap.size 166 5 (.slice (some ⟨w.heap.size,0,none⟩) n n) n (rwsC (jG5 n k))->k<n->V.cell? ⟨W3.heap.size,1,none⟩=some (.slice (some ⟨w.heap.size,0,none⟩) n n)/\V.cell? ⟨w.heap.size,k*5+3,none⟩=some (.int .i64 0)/\V.frozen? ⟨w.heap.size,k*5+3,none⟩=false/\Only [w.heap.size] W4 (V.setCell ⟨w.heap.size,k*5+3,none⟩ (.int .i64 (-1)))/\(V.setCell ⟨w.heap.size,k*5+3,none⟩ (.int .i64 (-1))).ownsRow w.heap.size 166 5 (.slice (some ⟨w.heap.size,0,none⟩) n n) n (rwsC (jG5 n (k+1)))):=fun V k ho hro hk=>by
  have lt4:W4.heap.size=w.heap.size+4:=by rw[<-hW4];simp[z3]
  have hqV:V.heap[W3.heap.size]?=_:=(ho.block _ (by omega) (by simp;omega)).trans hq
  have hc:=(hro.cellAt (k*5+3) (by omega)).trans (jDz rwC 5 jE4 (jG5 n k) k _ (half_get hk) 3 (by omega))
  have hst:=hro.stored (k*5+3) (.int .i64 (-1))
  rw[show rwsC (jG5 n k)=(jG5 n k).flatMap rwC from rfl,jE0 rwC 5 jE4 (jG5 n k) k _ (dOb,false) (half_get hk) 3 (.int .i64 (-1)) (by omega) rfl,half_set hk] at hst
  exact ⟨(jAj hqV).trans rfl,hc,hro.frozenAt _,ho.setCell (p:=⟨w.heap.size,k*5+3,none⟩) (by simp) _,hst.1⟩
 have cq:W4.cell? ⟨W3.heap.size,1,none⟩=some (.slice (some ⟨w.heap.size,0,none⟩) n n):=(jAj hq).trans rfl
 have O4:=Only.refl [w.heap.size] W4
 generalize hQ3:W3.heap.size=q3 at *
 clear hi hz0 hz1 hz2 hcs hsz b1 b2 b3 b4 s2 s3 s4 hm1 hm2 hq z1 z2 z3 hf hs hn
 go_enter func44,ntmps44
 go_wp2
 go_loopg [21] n (fun gk i wr=>∃k:Nat,gk=n-k/\k<=n/\i=.int .i64 (k:Int)/\Only [w.heap.size] W4 wr/\wr.ownsRow w.heap.size 166 5 (.slice (some ⟨w.heap.size,0,none⟩) n n) n (rwsC (jG5 n k)))
 case atStart=>exact ⟨0,by omega,by omega,rfl,O4,hr⟩
 case round =>
  clear hr O4 cq hmk hmm
  obtain ⟨k,hgk,hkn,rfl,ho,hro⟩:=hrel
  by_cases hk:k<n
  ·have hkI:(k:Int)<(n:Int):=by omega
   obtain ⟨c1,c2,c3,ho2,hr2⟩:=RL.out wr k ho hro hk
   have HO:Hid _:=ho2
   have HR:Hid _:=hr2
   have w1:IntKind.i64.wrap ((k:Int)+1)=((k+1:Nat):Int):=by rw[QX];omega
   clear ho hro ho2 hr2 hW1 hW2 hW3 hW4
   go_wp2
   go_roundg (n-(k+1))
   case measure=>omega
   case rel=>exact ⟨k+1,rfl,by omega,rfl,HO.out,HR.out⟩
  ·obtain rfl:k=n:=by omega
   have HX:Hid _:=HE.out wr ho hro
   have hkI:¬(k:Int)<(k:Int):=by omega
   clear ho hro hW1 hW2 hW3 hW4
   go_wp2
   go_ret
   obtain ⟨F,h1,h2,h3⟩:=HX.out
   exact ⟨q3,rfl,F,h1,h2,h3⟩
theorem new_any (w:World)(f s:Int):Calls prog 24 #[.int .i64 f,.int .i64 s] w fun e w' =>
 if jL7 f s=true then ∃pb q F,e=.returned (.tuple #[.pointer (some ⟨pb,0,none⟩),.int .i64 0])/\Ok w' pb q F 0 (newP f.toNat s.toNat)/\w.heap.size<=pb/\(∀k,k∈F->w.heap.size<=k)/\Below w.heap.size w w'
 else e=.returned (.tuple #[.pointer none,.int .i64 1])/\w'=w:=by
 have hir:=jG9 f s w
 by_cases hb:jL7 f s=true
 ·rw[hb] at hir
  obtain ⟨h1,h2,h3,h4⟩:=Qg hb
  obtain ⟨a,rfl⟩:∃a:Nat,f=a:=⟨f.toNat,by omega⟩
  obtain ⟨b,rfl⟩:∃b:Nat,s=b:=⟨s.toNat,by omega⟩
  simp only[hb,if_true,Int.toNat_natCast]
  have hns:=jFq w a b (by omega) (by omega)
  obtain ⟨n,hn⟩:∃n,a+b=n:=⟨_,rfl⟩
  have HG:Hid (∀k,k<=n->Good ⟨a,List.replicate n dOb,List.range k⟩):=fun k hk=>by
   rw[<-hn]
   exact jK8 (by omega) (by omega) _ List.nodup_range (fun i hi=>by have:=List.mem_range.1 hi;omega)
  have hnb:n<=65600:=by omega
  have HR:Hid (∀V wr q F F' k,Turn F V wr q 0 ⟨a,List.replicate n dOb,List.range k⟩->Lay V q F' 0 (jD9 a b)->k<n->Calls prog 45 #[.pointer (some ⟨q,0,none⟩),.int .i64 (k:Int)] wr fun e w'=>e=.returned (.tuple #[])/\Turn F V w' q 0 ⟨a,List.replicate n dOb,List.range (k+1)⟩):=fun V wr q F F' k hT hL hk=>by
   refine hT.call fun F2 hL2=>(jN1 wr q F2 0 _ k dOb hL2 ?_ (HG.out k (by omega)).ql).mono ?_
   ·show (List.replicate n dOb)[k]?=some dOb
    rw[Qc,if_pos hk]
   ·rintro e w' ⟨rfl,hT2⟩
    refine ⟨rfl,?_⟩
    have e2:jL6 ⟨a,List.replicate n dOb,List.range k⟩ k=⟨a,List.replicate n dOb,List.range (k+1)⟩:=by unfold jL6;rw[List.range_succ]
    rw[e2] at hT2
    exact hT2
  clear hb
  go_enter func24,ntmps24
  go_wp2_with (first
   | (go_at_call 44;refine hns.mono ?_;rintro e w1 ⟨q,F,rfl,hL,hF,hb1⟩;obtain ⟨rv,mv,oa,na,room,hd,hFe,hI⟩:=id hL;obtain ⟨am,cm,hrv⟩:=jBy hI.hr;obtain ⟨-,c1,-⟩:=hI.cells;rw[hrv,show (jD9 a b).R.length=n by simp[jD9,hn]] at c1;clear hI hFe hrv)
   | (go_at_call 43;refine hir.mono ?_;rintro e w2 ⟨rfl,e2⟩;obtain rfl:=e2.symm))
  have T0:Turn F w1 w1 q 0 ⟨a,List.replicate n dOb,List.range 0⟩:=by
   have e0:jD9 a b=⟨a,List.replicate n dOb,List.range 0⟩:=by unfold jD9;rw[hn];rfl
   rw[<-e0]
   exact hL.turn (Qq _ _)
  have HL:Hid _:=hL
  have HB1:Hid (Below w.heap.size w w1):=hb1
  have HFF:Hid (∀k,k∈F->w.heap.size<=k):=hF
  have HEND:Hid (∀wr,Turn F w1 wr q 0 ⟨a,List.replicate n dOb,List.range n⟩->∃pb F',pb=wr.heap.size/\Ok (wr.alloc (.cells #[.pointer (some ⟨q,0,none⟩)] 121)) pb q F' 0 (newP a b)/\w.heap.size<=pb/\(∀k,k∈F'->w.heap.size<=k)/\Below w.heap.size w (wr.alloc (.cells #[.pointer (some ⟨q,0,none⟩)] 121))):=fun wr hT=>by
   obtain ⟨ho,F',hL',hF'⟩:=hT
   have hbw:Below w.heap.size w wr:=by
    refine hb1.trans ?_
    exact ho.below hb1.size hF
   have hal:Below wr.heap.size wr (wr.alloc (.cells #[.pointer (some ⟨q,0,none⟩)] 121)):=(Qq _ _).alloc (Qj _) _
   have en:(⟨a,List.replicate n dOb,List.range n⟩:Ps)=newP a b:=by unfold newP;rw[hn]
   rw[en] at hL'
   refine ⟨_,F',rfl,⟨jA2 _ _,hL'.below hal,good_new (by omega) (by omega),by omega⟩,hbw.size,fun k hk=>?_,hbw.trans (hal.mono hbw.size)⟩
   rcases hF' k hk with h | h
   ·exact hF k h
   ·exact Qk hb1.size h
  clear hL hF hb1 hns hir h1 h2 h3 h4
  go_loopg [20] n (fun gk i wr=>∃k:Nat,gk=n-k/\k<=n/\i=.int .i64 (k:Int)/\Turn F w1 wr q 0 ⟨a,List.replicate n dOb,List.range k⟩)
  case atStart=>exact ⟨0,by omega,by omega,rfl,T0⟩
  case round =>
   clear T0
   obtain ⟨k,hgk,hkn,rfl,hT⟩:=hrel
   by_cases hk:k<n
   ·have hkI:(k:Int)<(n:Int):=by omega
    have hpu:=HR.out w1 wr q F F k hT HL.out hk
    have w1':IntKind.i64.wrap ((k:Int)+1)=((k+1:Nat):Int):=by rw[QX];omega
    clear hT
    go_wp2_with (go_at_call 45;refine hpu.mono ?_;rintro e w3 ⟨rfl,hT3⟩;have HT3:Hid _:=hT3;clear hT3)
    go_roundg (n-(k+1))
    case measure=>omega
    case rel=>exact ⟨k+1,rfl,by omega,rfl,HT3.out⟩
   ·obtain rfl:k=n:=by omega
    have HX:Hid _:=HEND.out wr hT
    have hkI:¬(k:Int)<(k:Int):=by omega
    clear hT
    go_wp2
    go_ret2
    obtain ⟨pb,F',rfl,h1,h2,h3,h4⟩:=HX.out
    exact ⟨_,rfl,q,F',h1,h2,h3,h4⟩
 ·rw[Bool.not_eq_true] at hb
  rw[hb] at hir
  simp only[hb]
  clear hb
  go_enter func24,ntmps24
  go_wp2_with (go_at_call 43;refine hir.mono ?_;rintro e w2 ⟨rfl,rfl⟩)
  go_ret2
  exact ⟨rfl,rfl⟩
