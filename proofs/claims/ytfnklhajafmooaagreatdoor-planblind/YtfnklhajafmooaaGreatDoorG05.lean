import Derived.Test.YtfnklhajafmooaaGreatDoorG04
set_option maxHeartbeats 1000000
set_option maxRecDepth 20000
namespace Go.Proofs.YtfnklhajafmooaaGreatDoor.Tr
open Go.RowKit Go.Lib Go.Deep Go.Proofs.Tryz
theorem sizedI:(prog.info? 144).map (·.size)=some 3:=by kernel_rfl
theorem get_d (w:World)(q:Nat)(v:Value)(rs:List Rw)(c1:w.cell? ⟨q,1,none⟩=some v)(h:w.ownsRow 0 187 4 v rs.length (rwsC rs))(_hl:rs.length<=70000)(i:Nat)(r:Rw)(hi:rs[i]?=some r)(y:Option Nat)(hx:r.x=.map y) :
 Calls prog 165 #[.pointer (some ⟨q,0,none⟩),.int .i64 (i:Int)] w fun e w'=>e=.returned (.agg #[.int .i64 (r.p:Int),.string r.n,.map y])/\Below w.heap.size w w':=by
 obtain ⟨g,cap,rfl⟩:=jC2 h hi
 have hlt:(i:Int)<(rs.length:Int):=by have:=jAy hi;omega
 have hb:Below w.heap.size w (w.alloc (.cells #[.int .i64 0,.string { data:=#[] },.map none] 144)):=(Qq _ _).alloc (Qj _) _
 have hn:=jA2 w (.cells #[.int .i64 0,.string { data:=#[] },.map none] 144)
 have c1':=(hb.cell (p:=⟨q,1,none⟩) (World.block_lt_of_cell? w _ c1)).trans c1
 obtain ⟨k0,k1,k2,k3⟩:=jC3 (h.below0 hb) hi
 rw[hx] at k3
 obtain ⟨t,p,n,x⟩:=r
 generalize rs.length=N at *
 have HB:Hid _:=hb
 have HN:Hid _:=hn
 clear h hi c1 hb hn
 go_enter func165,ntmps165
 go_wp2_with fail
 refine Qw (jB9 rfl _ _ w.heap.size 144 _ (0,0) _ rfl (jA2 w _) underlying144 rfl sizedI) rfl ?_
 exact ⟨rfl,(Qq _ _).alloc (Qj _) _⟩
theorem has_d (w:World)(q:Nat)(v:Value)(rs:List Rw)(c1:w.cell? ⟨q,1,none⟩=some v)(h:w.ownsRow 0 187 4 v rs.length (rwsC rs))(_hl:rs.length<=70000)(x:Int) :
 Calls prog 101 #[.pointer (some ⟨q,0,none⟩),.int .i64 x] w fun e w'=>e=.returned (.bool (hasR rs x))/\w'=w:=by
 by_cases h0:0<=x
 ·obtain ⟨i,rfl⟩:∃i:Nat,x=i:=⟨x.toNat,by omega⟩
  cases hi:rs[i]? with
  | none =>
    have hlt:¬(i:Int)<(rs.length:Int):=by have:=List.getElem?_eq_none_iff.1 hi;omega
    have e:hasR rs i=false:=by unfold hasR;simp[hi]
    rw[e]
    obtain ⟨a,cap,rfl⟩:=jFx h
    generalize rs.length=N at *
    clear h hi e
    go_enter func101,ntmps101
    go_wp2_with fail
    go_ret
    exact ⟨rfl,rfl⟩
  | some r =>
    have hlt:(i:Int)<(rs.length:Int):=by have:=jAy hi;omega
    have e:hasR rs i=r.t:=by unfold hasR;simp[hi]
    rw[e]
    obtain ⟨g,cap,rfl⟩:=jC2 h hi
    obtain ⟨k0,-,-,-⟩:=jC3 h hi
    obtain ⟨t,p,n,z⟩:=r
    generalize rs.length=N at *
    clear h hi e
    go_enter func101,ntmps101
    go_wp2_with fail
    go_ret
    exact ⟨rfl,rfl⟩
 ·have e:hasR rs x=false:=by unfold hasR;simp[h0]
  rw[e]
  clear h c1
  go_enter func101,ntmps101
  go_wp2_with fail
  go_ret
  exact ⟨rfl,rfl⟩
theorem set_d (w:World)(q g cap:Nat)(rs:List Rw)(c1:w.cell? ⟨q,1,none⟩=some (.slice (some ⟨g,0,none⟩) rs.length cap))(h:w.ownsRow 0 187 4 (.slice (some ⟨g,0,none⟩) rs.length cap) rs.length (rwsC rs))(_hl:rs.length<=70000)(i:Nat)(hi:i<rs.length)(p:Nat)(n:ByteArray)(y:Option Nat) :
 Calls prog 59 #[.pointer (some ⟨q,0,none⟩),.int .i64 (i:Int),.agg #[.int .i64 (p:Int),.string n,.map y]] w fun e w'=>e=.returned (.tuple #[])/\∃w0,Below w.heap.size w w0/\w'=put4 w0 g (i*4) ⟨true,p,n,.map y⟩:=by
 have hlt:(i:Int)<(rs.length:Int):=by omega
 obtain ⟨r,hr⟩:∃r,rs[i]?=some r:=⟨_,Qv hi⟩
 have hb:Below w.heap.size w (w.alloc (.cells #[.int .i64 (p:Int),.string n,.map y] 144)):=(Qq _ _).alloc (Qj _) _
 have h':=h.below0 hb.drew
 have c1':=(hb.drew.cell (p:=⟨q,1,none⟩) (World.block_lt_of_cell? w _ c1)).trans c1
 obtain ⟨k0,k1,k2,k3⟩:=jC3 h' hr
 have f0:=h'.frozenAt (i*4)
 have f1:=h'.frozenAt (i*4+1)
 have f2:=h'.frozenAt (i*4+2)
 have f3:=h'.frozenAt (i*4+3)
 have h2:=h.below0 hb
 obtain ⟨l0,l1,l2,l3⟩:=jC3 h2 hr
 have m0:=h2.frozenAt (i*4)
 have m1:=h2.frozenAt (i*4+1)
 have m2:=h2.frozenAt (i*4+2)
 have m3:=h2.frozenAt (i*4+3)
 have HB:Hid _:=hb.drew
 generalize rs.length=N at *
 clear h hr hi h' h2 hb c1
 go_enter func59,ntmps59
 go_wp2_with fail
 go_region
 all_goals
  go_wp2_with fail
  go_end0
  exact ⟨rfl,_,HB.out,rfl⟩
theorem free_d (w:World)(q g cap low:Nat)(rs:List Rw)(c1:w.cell? ⟨q,1,none⟩=some (.slice (some ⟨g,0,none⟩) rs.length cap))(c2:w.cell? ⟨q,2,none⟩=some (.int .i64 (low:Int)))(fq:w.frozen? ⟨q,2,none⟩=false)(hgq:q≠g)(h:w.ownsRow 0 187 4 (.slice (some ⟨g,0,none⟩) rs.length cap) rs.length (rwsC rs))(_hl:rs.length<=70000)(_hlow:low<=rs.length)(i:Nat)(hi:i<rs.length) :
 Calls prog 133 #[.pointer (some ⟨q,0,none⟩),.int .i64 (i:Int)] w fun e w'=>e=.returned (.tuple #[])/\∃w0,Below w.heap.size w w0/\w'=(put4 w0 g (i*4) ⟨false,0,e0,.map none⟩).setCell ⟨q,2,none⟩ (.int .i64 ((min low i:Nat):Int)):=by
 have hlt:(i:Int)<(rs.length:Int):=by omega
 obtain ⟨r,hr⟩:∃r,rs[i]?=some r:=⟨_,Qv hi⟩
 obtain ⟨k0,k1,k2,k3⟩:=jC3 h hr
 have f0:=h.frozenAt (i*4)
 have f1:=h.frozenAt (i*4+1)
 have f2:=h.frozenAt (i*4+2)
 have f3:=h.frozenAt (i*4+3)
 have hgq':g≠q:=fun e=>hgq e.symm
 generalize rs.length=N at *
 clear h hr hi
 go_enter func133,ntmps133
 go_wp2_with fail
 all_goals
  go_end0
  refine ⟨rfl,w,Qq _ _,?_⟩
  unfold put4
  first | (rw[show min low i=i by omega];rfl) | (rw[show min low i=low by omega];rfl)
theorem infodR:(prog.info? 187).map (fun i=>(i.zero,i.size,i.bytes))=some (some (.agg #[.bool false,.int .i64 0,.string { data:=#[] },.map none]),4,40):=by kernel_rfl
theorem zerodR:(Builtin.zeroCells (Value.agg #[.bool false,.int .i64 0,.string { data:=#[] },.map none]).cells 1).toList=rwC ⟨false,0,e0,.map none⟩:=by simp[Builtin.zeroCells,Value.cells,rwC,e0,Array.range]
theorem claim_d (w:World)(q room:Nat)(A:Array Value)(v:Value)(rs:List Rw)(hq:w.heap[q]?=some (.cells A 138 (0,0)))(a0:A[0]?=some (.int .i64 (room:Int)))(a1:A[1]?=some v)
 (h:w.ownsRow 0 187 4 v rs.length (rwsC rs)) (hl:rs.length<=65536) (i:Nat) (hle:i<=rs.length) (hfr:∀r,rs[i]?=some r->r.t=false) (hroom:i<room) (hrm:room<=70000) (p:Nat) (n:ByteArray) (y:Option Nat) :
 Calls prog 65 #[.pointer (some ⟨q,0,none⟩),.int .i64 (i:Int),.agg #[.int .i64 (p:Int),.string n,.map y]] w fun e w'=>e=.returned (.bool true)/\∃v',Clm w w' q A 1 v 187 (layR rs i ⟨true,p,n,.map y⟩) v':=by
 have hb:Below w.heap.size w (w.alloc (.cells #[.int .i64 (p:Int),.string n,.map y] 144)):=(Qq _ _).alloc (Qj _) _
 have hq':=(hb.block _ (jAv hq)).trans hq
 have h':=h.below0 hb
 have c0:=(jAj (j:=0) hq').trans a0
 have c1:=(jAj (j:=1) hq').trans a1
 have fq:(w.alloc (.cells #[.int .i64 (p:Int),.string n,.map y] 144)).frozen? ⟨q,1,none⟩=false:=jAq hq'
 have hhas:=has_d _ q v rs c1 h' (by omega) i
 have hno:hasR rs i=false:=by
  unfold hasR
  cases hr:rs[i]? with
  | none=>simp[hr]
  | some r=>simp[hr,hfr r hr]
 rw[hno] at hhas
 have hri:(i:Int)<(room:Int):=by omega
 obtain ⟨ad,cap,rfl⟩:=jFx h
 by_cases hlt:i<rs.length
 ·have hr2:∃r,rs[i]?=some r:=⟨_,Qv hlt⟩
  obtain ⟨r,hr⟩:=hr2
  obtain ⟨g,cap',e⟩:=jC2 h hr
  injection e with e1 _ e2
  subst e1 e2
  have hset:=set_d _ q g cap rs c1 h' (by omega) i hlt p n y
  have hm:¬(0:Int)<(i:Int)+1-(rs.length:Int):=by omega
  have HP:Hid (∀w0,Below (w.alloc (.cells #[.int .i64 (p:Int),.string n,.map y] 144)).heap.size (w.alloc (.cells #[.int .i64 (p:Int),.string n,.map y] 144)) w0->Clm w (put4 w0 g (i*4) ⟨true,p,n,.map y⟩) q A 1 (.slice (some ⟨g,0,none⟩) rs.length cap) 187 (layR rs i ⟨true,p,n,.map y⟩) (.slice (some ⟨g,0,none⟩) rs.length cap)):=fun w0 hb0=>by
   have hb1:Below w.heap.size w w0:=hb.trans (hb0.mono hb.size)
   obtain ⟨r1,r2⟩:=jEz (h.below0 hb1) i ⟨true,p,n,.map y⟩
   have hgq:g≠q:=fun e=>by
    obtain ⟨cur,hc⟩:=jA1 h (show (Value.slice (some ⟨g,0,none⟩) rs.length cap).ownBlock=some g from rfl)
    rw[e,hq] at hc
    injection hc with hc
    injection hc with _ hc _
    cases hc
   refine ⟨?_,?_,jB8 (jBv (Only.refl _ _) hb1) r2 (fun k e=>?_),fun k e=>.inl e⟩
   ·rw[r2.block q (Qx (jAv hq) hb1.size) (fun e=>hgq (by injection e with e;exact e.symm)),hb1.block q (jAv hq),hq]
    congr 2
    apply Array.ext_getElem?
    intro j
    rw[QZ]
    split
    ·rename_i e
     subst e
     split
     ·exact a1
     ·rename_i hn
      rw[Array.getElem?_eq_none (by omega)] at a1
      cases a1
    ·rfl
   ·unfold layR
    rw[if_pos hlt]
    simpa using r1
   ·injection e with e
    subst e
    exact .inl (by simp[Value.ownBlock])
  generalize rs.length=N at *
  generalize layR rs i ⟨true,p,n,.map y⟩=rs' at *
  clear h h' hr hno hfr hq hq' a0 a1 hle
  go_enter func65,ntmps65
  go_wp2_with fail
  refine hhas.mono ?_
  rintro e w4 ⟨rfl,h4⟩
  rw[h4]
  clear h4 w4 hhas
  go_wp2_with fail
  refine hset.mono ?_
  rintro e w5 ⟨rfl,w0,hb0,h5⟩
  have hP:=HP.out w0 hb0
  rw[<-h5] at hP
  have HP2:Hid _:=hP
  clear hP HP h5 hb0 hset
  go_wp2_with fail
  go_ret
  exact ⟨rfl,_,HP2.out⟩
 ·obtain rfl:i=rs.length:=by omega
  obtain ⟨i0,hi,hz0,hz1,hz2⟩:=info_parts infodR
  have HP:Hid (∀w3 v',w3.ownsRow 0 187 4 v' (rs.length+1) (rwsC rs++(Builtin.zeroCells (Value.agg #[.bool false,.int .i64 0,.string { data:=#[] },.map none]).cells 1).toList)->(w.alloc (.cells #[.int .i64 (p:Int),.string n,.map y] 144)).grownBy w3 (Value.slice ad rs.length cap).ownBlock->(v'.ownBlock=(Value.slice ad rs.length cap).ownBlock\/v'.ownBlock=some (w.alloc (.cells #[.int .i64 (p:Int),.string n,.map y] 144)).heap.size) ->
   ∃g cp,v'=.slice (some ⟨g,0,none⟩) (rs.length+1) cp/\(∃c,w3.cell? ⟨q,1,none⟩=some c)/\w3.frozen? ⟨q,1,none⟩=false/\(w3.setCell ⟨q,1,none⟩ v').cell? ⟨w.heap.size,0,none⟩=some (.int .i64 (p:Int))/\(w3.setCell ⟨q,1,none⟩ v').cell? ⟨w.heap.size,1,none⟩=some (.string n)/\(w3.setCell ⟨q,1,none⟩ v').cell? ⟨w.heap.size,2,none⟩=some (.map y) /\
    Calls prog 59 #[.pointer (some ⟨q,0,none⟩),.int .i64 (rs.length:Int),.agg #[.int .i64 (p:Int),.string n,.map y]] (w3.setCell ⟨q,1,none⟩ v') fun e w'=>e=.returned (.tuple #[])/\Clm w w' q A 1 (.slice ad rs.length cap) 187 (layR rs rs.length ⟨true,p,n,.map y⟩) v'):=fun w3 v' hown hg hvv=>by
   rw[zerodR] at hown
   have hrs:rwsC rs++rwC ⟨false,0,e0,.map none⟩=rwsC (rs++[⟨false,0,e0,.map none⟩]):=by rw[jH1];simp[rwsC]
   have hln:(rs++[(⟨false,0,e0,.map none⟩:Rw)]).length=rs.length+1:=by simp
   rw[hrs,<-hln] at hown
   obtain ⟨g,cp,rfl⟩:=jC2 hown (i:=rs.length) (r:=⟨false,0,e0,.map none⟩) (by simp)
   have hne:some q≠(Value.slice ad rs.length cap).ownBlock:=fun e=>by
    obtain ⟨cur,hc⟩:=jA1 h e.symm
    rw[hq] at hc
    injection hc with hc
    injection hc with _ hc _
    cases hc
   have hq3:w3.heap[q]?=some (.cells A 138 (0,0)):=(hg.block q (jAv hq') hne).trans hq'
   have hq4:=QJ w3 q 1 A _ (.slice (some ⟨g,0,none⟩) (rs++[(⟨false,0,e0,.map none⟩:Rw)]).length cp) hq3
   have hgq:g≠q:=fun e=>by
    obtain ⟨cur,hc⟩:=jA1 hown (show (Value.slice (some ⟨g,0,none⟩) (rs++[(⟨false,0,e0,.map none⟩:Rw)]).length cp).ownBlock=some g from rfl)
    rw[e,hq3] at hc
    injection hc with hc
    injection hc with _ hc _
    cases hc
   have hA:1<A.size:=by
    rcases Nat.lt_or_ge 1 A.size with h1 | h1
    ·exact h1
    ·rw[Array.getElem?_eq_none h1] at a1;cases a1
   have hown4:(w3.setCell ⟨q,1,none⟩ (.slice (some ⟨g,0,none⟩) (rs++[(⟨false,0,e0,.map none⟩:Rw)]).length cp)).ownsRow 0 187 4 (.slice (some ⟨g,0,none⟩) (rs++[(⟨false,0,e0,.map none⟩:Rw)]).length cp) (rs++[(⟨false,0,e0,.map none⟩:Rw)]).length (rwsC (rs++[⟨false,0,e0,.map none⟩])):=jA0 hown fun k hk=>by
    injection hk with hk
    subst hk
    exact Qy _ _ _ _ hgq
   have c14:(w3.setCell ⟨q,1,none⟩ (.slice (some ⟨g,0,none⟩) (rs++[(⟨false,0,e0,.map none⟩:Rw)]).length cp)).cell? ⟨q,1,none⟩=some (.slice (some ⟨g,0,none⟩) (rs++[(⟨false,0,e0,.map none⟩:Rw)]).length cp):=by
    rw[jAj hq4,QZ,if_pos rfl,if_pos hA]
   have hp4:(w3.setCell ⟨q,1,none⟩ (.slice (some ⟨g,0,none⟩) (rs++[(⟨false,0,e0,.map none⟩:Rw)]).length cp)).heap[w.heap.size]?=some (.cells #[.int .i64 (p:Int),.string n,.map y] 144 (0,0)):=by
    rw[Qy _ _ _ _ (fun e=>Nat.lt_irrefl _ (e▸jAv hq)),hg.block w.heap.size (by simp) (fun e=>?_)]
    ·exact jA2 w _
    ·obtain ⟨cur,hc⟩:=jA1 h e.symm
     exact Nat.lt_irrefl _ (jAv hc)
   refine ⟨g,cp,by rw[hln],⟨_,(jAj hq3).trans a1⟩,jAq hq3,(jAj (j:=0) hp4).trans rfl,(jAj (j:=1) hp4).trans rfl,(jAj (j:=2) hp4).trans rfl,(set_d _ q g cp (rs++[⟨false,0,e0,.map none⟩]) c14 hown4 (by rw[hln];omega) rs.length (by rw[hln];omega) p n y).mono ?_⟩
   rintro e w' ⟨rfl,w0,hb0,rfl⟩
   refine ⟨rfl,?_⟩
   obtain ⟨r1,r2⟩:=jEz (hown4.below0 hb0) rs.length ⟨true,p,n,.map y⟩
   have hwsz:w.heap.size<=w3.heap.size:=Qk hb.size hg.size
   have ho3:Only (q :: (Value.slice ad rs.length cap).ownBlock.toList) w w3:=jB8 (jBv (Only.refl _ _) hb) hg (fun k e=>.inl (by simp[e]))
   have ho4:Only (q :: (Value.slice ad rs.length cap).ownBlock.toList) w (w3.setCell ⟨q,1,none⟩ (.slice (some ⟨g,0,none⟩) (rs++[(⟨false,0,e0,.map none⟩:Rw)]).length cp)):=ho3.trans ((jF8 _).mono (by intro k hk;simp at hk;simp[hk]))
   have hgv:(Value.slice ad rs.length cap).ownBlock=some g\/w.heap.size<=g:=by
    rcases hvv with h1 | h1
    ·exact .inl (h1.symm.trans rfl)
    ·right
     have h2:some g=some (w.alloc (.cells #[.int .i64 (p:Int),.string n,.map y] 144)).heap.size:=h1
     injection h2 with h2
     rw[h2]
     exact hb.size
   refine ⟨?_,?_,jB8 (jBv ho4 hb0) r2 (fun k e=>?_),fun k e=>?_⟩
   ·rw[r2.block q (Qx (jAv hq4) hb0.size) (fun e=>hgq (by injection e with e;exact e.symm)),hb0.block q (jAv hq4),hq4,hln]
   ·unfold layR
    rw[if_neg (Nat.lt_irrefl _)]
    have e1:(rs++[(⟨false,0,e0,.map none⟩:Rw)]).set rs.length ⟨true,p,n,.map y⟩=rs++[⟨true,p,n,.map y⟩]:=by simp
    rw[e1,hln] at r1
    rw[show (rs++[(⟨true,p,n,.map y⟩:Rw)]).length=rs.length+1 by simp,hln]
    exact r1
   ·injection e with e
    subst e
    rcases hgv with h1 | h1
    ·exact .inl (by simp[h1])
    ·exact .inr h1
   ·injection e with e
    subst e
    exact hgv
  generalize layR rs rs.length ⟨true,p,n,.map y⟩=rs' at *
  have hm:(rs.length:Int)+1-(rs.length:Int)=1:=by omega
  have hm2:((1:Nat):Int)=1:=rfl
  generalize rwsC rs=xs at *
  generalize rs.length=N at *
  have h1c:∀u∈(Builtin.zeroCells (Value.agg #[.bool false,.int .i64 0,.string { data:=#[] },.map none]).cells 1).toList,u.oneCell'=true:=by
   rw[zerodR]
   intro u hu
   simp only[rwC,List.mem_cons,List.not_mem_nil,or_false] at hu
   rcases hu with rfl | rfl | rfl | rfl <;> rfl
  have hsz:0<=(w.alloc (.cells #[.int .i64 (p:Int),.string n,.map y] 144)).heap.size:=Kj _
  clear hno hfr hq hq' a0 a1 hle h hb
  go_enter func65,ntmps65
  go_wp2_with fail
  refine hhas.mono ?_
  rintro e w4 ⟨rfl,h4⟩
  rw[h4]
  clear h4 w4 hhas
  go_wp2_with (first
   | (go_at_call 59;refine hcall.mono ?_;rintro e w5 ⟨rfl,hP⟩;have HP2:Hid _:=hP;clear hP hcall hc hfz i0' i1' i2')
   | (at_builtin;refine jDj _ rfl _ _ 131 3 rfl 0 187 i0 (Value.agg #[.bool false,.int .i64 0,.string { data:=#[] },.map none]) 4 40 .i64 .i64 underlying131 underlying3 hi hz0 hz1 hz2 rfl (by decide) _ N xs rfl h' 1 (by first | rfl | (simp;done)) (by decide) h1c (by unfold maxLen;omega) (by omega) hsz ?_;intro v' w3 hown hg hvv;obtain ⟨g,cp,rfl,⟨c,hc⟩,hfz,i0',i1',i2',hcall⟩:=HP.out w3 v' hown hg hvv;clear hown hg hvv HP))
  go_ret
  exact ⟨rfl,_,HP2.out⟩
theorem claim0_d (w:World)(q room:Nat)(c0:w.cell? ⟨q,0,none⟩=some (.int .i64 (room:Int)))(i:Nat)(hroom:room<=i)(p:Nat)(n:ByteArray)(y:Option Nat) :
 Calls prog 65 #[.pointer (some ⟨q,0,none⟩),.int .i64 (i:Int),.agg #[.int .i64 (p:Int),.string n,.map y]] w fun e w'=>e=.returned (.bool false)/\Below w.heap.size w w':=by
 have hb:Below w.heap.size w (w.alloc (.cells #[.int .i64 (p:Int),.string n,.map y] 144)):=(Qq _ _).alloc (Qj _) _
 have c0':=(hb.cell (p:=⟨q,0,none⟩) (World.block_lt_of_cell? w _ c0)).trans c0
 have hri:¬(i:Int)<(room:Int):=by omega
 have HB:Hid _:=hb
 clear c0 hb
 go_enter func65,ntmps65
 go_wp2_with fail
 go_ret
 exact ⟨rfl,HB.out⟩
theorem give_d (w:World)(q room low:Nat)(A:Array Value)(v:Value)(rs:List Rw)(hq:w.heap[q]?=some (.cells A 138 (0,0)))(a0:A[0]?=some (.int .i64 (room:Int)))(a1:A[1]?=some v)(a2:A[2]?=some (.int .i64 (low:Int)))
 (h:w.ownsRow 0 187 4 v rs.length (rwsC rs)) (hl:rs.length<=65536) (hlow:low<=rs.length) (hlt:∀i,i<low->∃r,rs[i]?=some r/\r.t=true) (hrm:room<=70000) (p:Nat) (n:ByteArray) (y:Option Nat) :
 Calls prog 117 #[.pointer (some ⟨q,0,none⟩),.agg #[.int .i64 (p:Int),.string n,.map y]] w fun e w'=>e=.returned (.tuple #[.int .i64 (lowR rs:Int),.bool (decide (lowR rs<room))]) /\
  ((lowR rs<room/\∃v',Clm w w' q (A.setIfInBounds 2 (.int .i64 (lowR rs:Int))) 1 v 187 (layR rs (lowR rs) ⟨true,p,n,.map y⟩) v')\/(room<=lowR rs/\w'.heap[q]?=some (.cells (A.setIfInBounds 2 (.int .i64 (lowR rs:Int))) 138 (0,0))/\Only [q] w w')):=by
 have hsz:2<A.size:=by
  rcases Nat.lt_or_ge 2 A.size with h1 | h1
  ·exact h1
  ·rw[Array.getElem?_eq_none h1] at a2;cases a2
 have hb:Below w.heap.size w (w.alloc (.cells #[.int .i64 (p:Int),.string n,.map y] 144)):=(Qq _ _).alloc (Qj _) _
 obtain ⟨ad,cap,rfl⟩:=jFx h
 have HI:Hid (∀(k:Nat) (W:World),W.heap[q]?=some (.cells (A.setIfInBounds 2 (.int .i64 (k:Int))) 138 (0,0))->Only [q] (w.alloc (.cells #[.int .i64 (p:Int),.string n,.map y] 144)) W ->
  W.cell? ⟨q,1,none⟩=some (.slice ad rs.length cap)/\W.cell? ⟨q,2,none⟩=some (.int .i64 (k:Int))/\W.frozen? ⟨q,2,none⟩=false/\W.ownsRow 0 187 4 (.slice ad rs.length cap) rs.length (rwsC rs) /\
  W.cell? ⟨w.heap.size,0,none⟩=some (.int .i64 (p:Int))/\W.cell? ⟨w.heap.size,1,none⟩=some (.string n)/\W.cell? ⟨w.heap.size,2,none⟩=some (.map y)):=fun k W hW ho=>by
  have hi:W.heap[w.heap.size]?=_:=(ho.block w.heap.size (by simp) (by simp;exact fun e=>Nat.lt_irrefl _ (e▸jAv hq))).trans (jA2 w _)
  refine ⟨?_,?_,jAq hW,jA0 (h.below0 hb) fun g hg=>ho.block g (((h.below0 hb).lt g hg).2) ?_,(jAj (j:=0) hi).trans rfl,(jAj (j:=1) hi).trans rfl,(jAj (j:=2) hi).trans rfl⟩
  ·rw[jAj hW,QZ,if_neg (by decide)];exact a1
  ·rw[jAj hW,QZ,if_pos rfl,if_pos hsz]
  ·intro e
   simp at e
   subst e
   obtain ⟨cur,hc⟩:=jA1 h hg
   rw[hq] at hc
   injection hc with hc
   injection hc with _ hc _
   cases hc
 have hA0:A.setIfInBounds 2 (.int .i64 (low:Int))=A:=by
  apply Array.ext_getElem?
  intro j
  rw[QZ]
  split
  ·rename_i e
   subst e
   exact a2.symm
  ·rfl
 have HS:Hid ((w.alloc (.cells #[.int .i64 (p:Int),.string n,.map y] 144)).heap[q]?=some (.cells (A.setIfInBounds 2 (.int .i64 (low:Int))) 138 (0,0))):=by
  show _=_
  rw[hA0]
  exact (hb.block q (jAv hq)).trans hq
 obtain ⟨N,hN⟩:∃N,rs.length=N:=⟨_,rfl⟩
 have HN:Hid (rs.length=N):=hN
 have HT:Hid (∀i,i<low->∃r,rs[i]?=some r/\r.t=true):=hlt
 have HC1:Hid (∀(k:Nat) (W:World),lowR rs=k->k<room->W.heap[q]?=some (.cells (A.setIfInBounds 2 (.int .i64 (k:Int))) 138 (0,0))->Only [q] (w.alloc (.cells #[.int .i64 (p:Int),.string n,.map y] 144)) W ->
  Calls prog 65 #[.pointer (some ⟨q,0,none⟩),.int .i64 (k:Int),.agg #[.int .i64 (p:Int),.string n,.map y]] W fun e w'=>e=.returned (.bool true)/\∃v',Clm w w' q (A.setIfInBounds 2 (.int .i64 (k:Int))) 1 (.slice ad rs.length cap) 187 (layR rs k ⟨true,p,n,.map y⟩) v'):=fun k W ek hk hW ho=>by
  obtain ⟨b1,b2,b3,b4,-⟩:=HI.out k W hW ho
  refine (claim_d W q room _ _ rs hW (by rw[QZ,if_neg (by decide)];exact a0) (by rw[QZ,if_neg (by decide)];exact a1) b4 hl k (by rw[<-ek];exact lowR_le rs) (fun r hr=>?_) hk hrm p n y).mono ?_
  ·have hltk:=jAy hr
   have hf:=List.findIdx_getElem (p:=fun r:Rw=>!r.t) (xs:=rs) (w:=by unfold lowR at ek;rw[ek];exact hltk)
   rw[Qv hltk] at hr
   injection hr with hr
   unfold lowR at ek
   simp only[ek] at hf
   rw[hr] at hf
   simpa using hf
  ·rintro e w' ⟨rfl,v',hC⟩
   have ho1:Only [q] w W:=(jBv (Only.refl _ _) hb).trans ho
   refine ⟨rfl,v',hC.hq,hC.hr,?_,fun k hk=>?_⟩
   ·exact (ho1.mono (by intro k hk;simp at hk;simp[hk])).trans hC.ho
   ·rcases hC.hv k hk with h1 | h1
    ·exact .inl h1
    ·exact .inr (Qk ho1.size h1)
 have HC2:Hid (∀(k:Nat) (W:World),room<=k->W.heap[q]?=some (.cells (A.setIfInBounds 2 (.int .i64 (k:Int))) 138 (0,0))->Only [q] (w.alloc (.cells #[.int .i64 (p:Int),.string n,.map y] 144)) W ->
  Calls prog 65 #[.pointer (some ⟨q,0,none⟩),.int .i64 (k:Int),.agg #[.int .i64 (p:Int),.string n,.map y]] W fun e w'=>e=.returned (.bool false)/\w'.heap[q]?=some (.cells (A.setIfInBounds 2 (.int .i64 (k:Int))) 138 (0,0))/\Only [q] w w'):=fun k W hk hW ho=>by
  refine (claim0_d W q room (by rw[jAj hW,QZ,if_neg (by decide)];exact a0) k hk p n y).mono ?_
  rintro e w' ⟨rfl,hb'⟩
  have ho1:Only [q] w W:=(jBv (Only.refl _ _) hb).trans ho
  exact ⟨rfl,(hb'.block q (jAv hW)).trans hW,jBv ho1 hb'⟩
 have HB0:Hid (Below w.heap.size w (w.alloc (.cells #[.int .i64 (p:Int),.string n,.map y] 144))):=hb
 rw[hN] at HI HC1 hl hlow
 have HLe:Hid (low<=N):=hlow
 clear h hq a0 a1 a2 hlt hb hA0 hsz hN hlow
 go_enter func117,ntmps117
 go_wp2_with fail
 go_loopg [] (N-low) (fun gk wr=>∃k:Nat,k+gk=N/\low<=k/\Hid (∀i,i<k->∃r,rs[i]?=some r/\r.t=true)/\Hid (wr.heap[q]?=some (.cells (A.setIfInBounds 2 (.int .i64 (k:Int))) 138 (0,0)))/\Hid (Only [q] (w.alloc (.cells #[.int .i64 (p:Int),.string n,.map y] 144)) wr))
 case atStart=>exact ⟨low,by have:=HLe.out;omega,Qj _,HT.out,HS.out,Only.refl _ _⟩
 case round =>
  obtain ⟨k,hk,hlk,HK,HW,HO⟩:=hrel
  obtain ⟨c1,c2,f2,hrow,i0,i1,i2⟩:=HI.out k wr HW.out HO.out
  have HKG:Hid (k+gk=N):=hk
  have HLK:Hid (low<=k):=hlk
  have hkN:k<=N:=by omega
  clear hk hlk
  have HE:Hid (∀j,lowR rs=k->(room<=k->Calls prog 65 #[.pointer (some ⟨q,0,none⟩),.int .i64 (k:Int),.agg #[.int .i64 (p:Int),.string n,.map y]] (wr.drewN j) fun e w'=>e=.returned (.bool false)/\Hid (w'.heap[q]?=some (.cells (A.setIfInBounds 2 (.int .i64 (k:Int))) 138 (0,0))/\Only [q] w w')) /\
   (k<room->Calls prog 65 #[.pointer (some ⟨q,0,none⟩),.int .i64 (k:Int),.agg #[.int .i64 (p:Int),.string n,.map y]] (wr.drewN j) fun e w'=>e=.returned (.bool true)/\Hid (∃v',Clm w w' q (A.setIfInBounds 2 (.int .i64 (k:Int))) 1 (.slice ad N cap) 187 (layR rs k ⟨true,p,n,.map y⟩) v'))):=fun j ek =>
   ⟨fun hk=>HC2.out k _ hk HW.out (jGq HO.out j),fun hk=>HC1.out k _ ek hk HW.out (jGq HO.out j)⟩
  have HLow:Hid (k=N\/(∃r,rs[k]?=some r/\r.t=false)->lowR rs=k):=fun hc=>lowR_eq HK.out (fun r hr=>by
   rcases hc with h1 | ⟨r',h1,h2⟩
   ·have:=jAy hr
    have:=HN.out
    omega
   ·rw[hr] at h1
    cases h1
    exact h2) (by have:=HN.out;omega)
  have HRound:Hid (∀j,(∃r,rs[k]?=some r/\r.t=true)->((wr.drewN j).setCell ⟨q,2,none⟩ (.int .i64 ((k:Int)+1))).heap[q]?=some (.cells (A.setIfInBounds 2 (.int .i64 ((k+1:Nat):Int))) 138 (0,0))/\Only [q] (w.alloc (.cells #[.int .i64 (p:Int),.string n,.map y] 144)) ((wr.drewN j).setCell ⟨q,2,none⟩ (.int .i64 ((k:Int)+1)))/\∀i,i<k+1->∃r,rs[i]?=some r/\r.t=true):=fun j hr=>by
   refine ⟨?_,(jGq HO.out j).trans (jF8 _),fun i hi=>?_⟩
   ·rw[QJ _ _ 2 _ _ _ (show (wr.drewN j).heap[q]?=_ from HW.out),Array.setIfInBounds_setIfInBounds]
    rfl
   ·by_cases e:i=k
    ·subst e;exact hr
    ·exact HK.out i (by omega)
  by_cases hlt:k<N
  ·have hltI:(k:Int)<(N:Int):=by omega
   obtain ⟨r,hr⟩:∃r,rs[k]?=some r:=⟨_,Qv (by have:=HN.out;omega)⟩
   have hN:=HN.out
   rw[<-hN] at hrow
   obtain ⟨g,cap',e⟩:=jC2 hrow hr
   rw[e] at hrow
   obtain ⟨k0,-,-,-⟩:=jC3 hrow hr
   injection e with e1 _ e2
   subst e1 e2
   cases ht:r.t with
   | true =>
     rw[ht] at k0
     have HRo:Hid _:=fun j=>HRound.out j ⟨r,hr,ht⟩
     clear hr hrow hN ht HE HLow HRound
     go_wp2_with fail
     go_quiet (fail)
     go_wp2_with fail
     go_roundg (gk-1)
     case measure=>have:=HKG.out;omega
     case rel=>exact ⟨k+1,by have:=HKG.out;omega,by have:=HLK.out;omega,(HRo.out 0).2.2,(HRo.out _).1,(HRo.out _).2.1⟩
   | false =>
     rw[ht] at k0
     have ek:=HLow.out (.inr ⟨r,hr,ht⟩)
     have HEk:Hid _:=fun j=>HE.out j ek
     have HEK:Hid (lowR rs=k):=ek
     clear hr hrow hN ht HE HLow HRound ek
     go_wp2_with fail
     go_quiet (fail)
     go_wp2_with fail
     by_cases hkr:k<room
     ·refine ((HEk.out _).2 hkr).mono ?_
      rintro e w5 ⟨rfl,HP⟩
      go_wp2_with fail
      go_ret2
      rw[HEK.out,HN.out]
      refine ⟨?_,.inl ⟨hkr,HP.out⟩⟩
      simp[hkr]
     ·refine ((HEk.out _).1 (by omega)).mono ?_
      rintro e w5 ⟨rfl,HP⟩
      go_wp2_with fail
      go_ret2
      rw[HEK.out,HN.out]
      refine ⟨?_,.inr ⟨by omega,HP.out⟩⟩
      simp[hkr]
  ·obtain rfl:k=N:=by omega
   have hltI:¬(k:Int)<(k:Int):=by omega
   have ek:=HLow.out (.inl rfl)
   have HEk:Hid _:=fun j=>HE.out j ek
   have HEK:Hid (lowR rs=k):=ek
   clear hrow HE HLow HRound ek
   go_wp2_with fail
   go_quiet (fail)
   go_wp2_with fail
   by_cases hkr:k<room
   ·refine ((HEk.out _).2 hkr).mono ?_
    rintro e w5 ⟨rfl,HP⟩
    go_wp2_with fail
    go_ret2
    rw[HEK.out,HN.out]
    refine ⟨?_,.inl ⟨hkr,HP.out⟩⟩
    simp[hkr]
   ·refine ((HEk.out _).1 (by omega)).mono ?_
    rintro e w5 ⟨rfl,HP⟩
    go_wp2_with fail
    go_ret2
    rw[HEK.out,HN.out]
    refine ⟨?_,.inr ⟨by omega,HP.out⟩⟩
    simp[hkr]
