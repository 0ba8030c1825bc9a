import Derived.Test.YtfnklhajafmooaaGreatDoorG22
set_option maxHeartbeats 4000000
set_option maxRecDepth 100000
namespace Go.Proofs.YtfnklhajafmooaaGreatDoor.Tr
open Go.RowKit Go.Lib Go.Deep Go.Proofs.Tryz
theorem fldN (w:World)(a b:Value):(Instr.field 153 (.agg #[a,b]) 0).run prog w=.ok a w:=by kernel_rfl
theorem rootd_tk {T:Ts}(h0:tk T 0){k p:Nat}(h:jE3 T k p=true):tk T p:=by
 cases k with
 | zero=>simp[jE3] at h
 | succ k =>
   by_cases hp:p=0
   ·subst hp;exact h0
   ·by_cases hd:∃d,T.D[p]?=some (some d)
    ·exact hd
    ·rw[jGj hp fun d h=>hd ⟨d,h⟩] at h
     cases h
theorem settleT_any (w:World)(q:Nat)(F:List Nat)(nn:Nat)(T:Ts)(hL:Lay w q F nn T)(kd no p:Nat)(n:ByteArray)(h0:tk T 0)(hn:n.size<=maxLen)(hr:jE3 T 16 p=true)(v:Nat × Nat)(hv:T.M p (ky n)=some v)(hv0:v.1≠0) :
 Calls prog 146 #[.pointer (some ⟨q,0,none⟩),.agg #[.int .i64 (kd:Int),.int .i64 (no:Int)],.agg #[.int .i64 (p:Int),.string n]] w fun e w'=>e=.returned (.bool false)/\Below w.heap.size w w':=by
 obtain ⟨W,hW,hb,k0,k1⟩:=jDy w #[.int .i64 (kd:Int),.int .i64 (no:Int)] #[.int .i64 (p:Int),.string n] 153 141
 have HIR:Hid (∀V,Below W.heap.size W V->Calls prog 178 #[.pointer (some ⟨q,0,none⟩),.agg #[.int .i64 (p:Int),.string n]] V fun e w'=>e=.returned (.bool true)/\Below V.heap.size V w'):=fun V hV=>by
  have:=jL2 V q F nn T ((hL.below hb).below hV) p n
  rw[hr] at this
  exact this
 have HBW:Hid (Below w.heap.size w W):=hb
 obtain ⟨dv,fv,ld,lf,ms,hFe,hI⟩:=hL
 have HLW:Hid (Lay w q F nn T):=⟨dv,fv,ld,lf,ms,hFe,hI⟩
 have htk:=rootd_tk h0 hr
 obtain ⟨d,hd⟩:=htk
 have HIN:Hid (∀V,Below W.heap.size W V->Calls prog 132 #[.pointer (some ⟨q,0,none⟩),.int .i64 (p:Int)] V fun e w'=>e=.returned (.map (some (ms p)))/\Below V.heap.size V w'):=fun V hV=>jD0 V q dv fv ld lf ms nn T ((hI.below hb).below hV) p d hd
 have HS0:Hid (∀V,Below W.heap.size W V->V.cell? ⟨w.heap.size+1,0,none⟩=some (.int .i64 (p:Int))/\V.cell? ⟨w.heap.size+1,1,none⟩=some (.string n)/\(Instr.lookup 142 (.map (some (ms p))) (.string n) false).run prog V=.ok (.agg #[.int .i64 ((v).1:Int),.int .i64 ((v).2:Int)]) V):=fun V hV=>by
  have k:=(hV.block _ (jAv k1)).trans k1
  refine ⟨(jAj k).trans rfl,(jAj k).trans rfl,?_⟩
  obtain ⟨Dt,hm,hT⟩:=((hI.below hb).below hV).hm p d hd
  have hlo:=look_any hm hT n hn
  rw[hv] at hlo
  exact hlo
 obtain ⟨k2,n2⟩:=v
 simp only at HS0 hv0
 have hkI:((k2:Int) != 0)=true:=by simpa using hv0
 generalize ms p=m at *
 clear hI hFe hd h0 hv
 clear hb k0 k1 hr
 go_enter func146,ntmps146
 go_wp2_with fail
 refine wp_region_held_drew (S:=fun V=>V.cell? ⟨w.heap.size+1,0,none⟩=some (.int .i64 (p:Int))/\V.cell? ⟨w.heap.size+1,1,none⟩=some (.string n)/\(Instr.lookup 142 (.map (some m)) (.string n) false).run prog V=.ok (.agg #[.int .i64 (k2:Int),.int .i64 (n2:Int)]) V) (by kernel_rfl) (HS0.out _ (Qq _ _).drew) ?_
 intro hS
 refine tQ 0 ⟨some 7,.move (.tmp 0),_,_,_,none⟩ (.pointer (some ⟨q,0,none⟩)) rfl hS ?_
 (try simp only[Act.put,sA,sB,sC])
 refine tQ 1 ⟨some 8,.load 141 (.tmp 5),_,_,_,none⟩ (.agg #[.int .i64 (p:Int),.string n]) rfl hS ?_ (Or.inl ⟨by rfl,by intro x hx;have h1:=hx.1;have h2:=hx.2.1;go_simp⟩)
 (try simp only[Act.put,sA,sB,sC])
 refine wpAnyH_ready (rs:=[2]) (by kernel_rfl) (by simp) ?_
 refine AllReadyH.cons (o:={ dst:=some 9,op:=.call { callee:=.value (.func 178),args:=#[.tmp 7,.tmp 8],argTypes:=#[92,141] },type:=_,pos:=_,after:=_,guard:=none }) rfl (fun K hK=>?_) AllReadyH.nil
 go_simp
 refine (HIR.out _ (Qq _ _).drew).mono ?_
 rintro e w6 ⟨rfl,hb6⟩
 have hb46:Below W.heap.size W w6:=((Qq W.heap.size W).drew).trans hb6
 have HB6:Hid _:=hb46
 replace hS:=HS0.out _ hb46
 clear hb6 hb46
 refine hK.out _ _ hS (fun _=>?_)
 clear hK K
 (try simp only[Act.put,sA,sB,sC])
 refine tQ 3 ⟨some 10,.unOp .not 4 (.tmp 9),_,_,_,none⟩ (.bool false) rfl hS ?_
 (try simp only[Act.put,sA,sB,sC])
 refine tQ 4 ⟨some 11,.move (.tmp 10),_,_,_,none⟩ (.bool false) rfl hS ?_
 (try simp only[Act.put,sA,sB,sC])
 refine tQ 5 ⟨some 12,.move (.tmp 0),_,_,_,some (4,false)⟩ (.pointer (some ⟨q,0,none⟩)) rfl hS ?_
 (try simp only[Act.put,sA,sB,sC])
 refine tQ 6 ⟨some 13,.fieldAddr 141 (.tmp 5) 0,_,_,_,some (4,false)⟩ (.pointer (some ⟨(w.heap.size+1),0,none⟩)) rfl hS ?_
 (try simp only[Act.put,sA,sB,sC])
 refine tQ 7 ⟨some 14,.load 3 (.tmp 13),_,_,_,some (4,false)⟩ (.int .i64 (p:Int)) rfl hS ?_ (Or.inl ⟨by rfl,by intro x hx;have h1:=hx.1;go_simp⟩)
 (try simp only[Act.put,sA,sB,sC])
 refine tQ 9 ⟨some 16,.fieldAddr 141 (.tmp 5) 1,_,_,_,some (4,false)⟩ (.pointer (some ⟨(w.heap.size+1),1,none⟩)) rfl hS ?_
 (try simp only[Act.put,sA,sB,sC])
 refine tQ 10 ⟨some 17,.load 9 (.tmp 16),_,_,_,some (4,false)⟩ (.string n) rfl hS ?_ (Or.inl ⟨by rfl,by intro x hx;have h1:=hx.2.1;go_simp⟩)
 (try simp only[Act.put,sA,sB,sC])
 refine wpAnyH_ready (rs:=[8]) (by kernel_rfl) (by simp) ?_
 refine AllReadyH.cons (o:={ dst:=some 15,op:=.call { callee:=.value (.func 132),args:=#[.tmp 12,.tmp 14],argTypes:=#[92,3] },type:=_,pos:=_,after:=_,guard:=some (4,false) }) rfl (fun K hK=>?_) AllReadyH.nil
 go_simp
 refine (HIN.out _ HB6.out).mono ?_
 rintro e w7 ⟨rfl,hb7⟩
 have hb67:Below W.heap.size W w7:=jBq hb7 HB6.out
 have HB7:Hid _:=hb67
 replace hS:=HS0.out _ hb67
 clear hb7 hb67
 refine hK.out _ _ hS (fun _=>?_)
 clear hK K
 (try simp only[Act.put,sA,sB,sC])
 refine tQ 11 ⟨some 18,.lookup 142 (.tmp 15) (.tmp 17) false,_,_,_,some (4,false)⟩ (.agg #[.int .i64 (k2:Int),.int .i64 (n2:Int)]) rfl hS ?_ (Or.inl ⟨by rfl,by intro x hx;have h1:=hx.2.2;go_simp⟩)
 (try simp only[Act.put,sA,sB,sC])
 refine tQ 12 ⟨some 19,.field 153 (.tmp 18) 0,_,_,_,some (4,false)⟩ (.int .i64 (k2:Int)) rfl hS ?_ (Or.inl ⟨by rfl,by intro x _;have h1:=fldN x (.int .i64 (k2:Int)) (.int .i64 (n2:Int));go_simp⟩)
 (try simp only[Act.put,sA,sB,sC])
 refine tQ 13 ⟨some 20,.binOp .neq 3 (.tmp 19) (.const (.int .i64 0)) 3,_,_,_,some (4,false)⟩ (.bool true) rfl hS ?_
 (try simp only[Act.put,sA,sB,sC])
 refine tQ 14 ⟨some 21,.pick (.tmp 11) (.const (.bool true)) (.tmp 20),_,_,_,none⟩ (.bool true) rfl hS ?_
 (try simp only[Act.put,sA,sB,sC])
 refine wpAnyH_done (by kernel_rfl) ?_ _
 clear hS
 go_wp2
 go_ret
 exact ⟨rfl,jBq HB7.out HBW.out⟩
theorem grown_on {w X Y:World}{r:Option Nat}(hb:Below w.heap.size w X)(hg:X.grownBy Y r):w.grownBy Y r:=⟨hg.os.trans hb.os,hg.tape.trans hb.tape,hg.output.trans hb.output,Qk hb.size hg.size,fun k hk hne=>(hg.block k (Qx hk hb.size) hne).trans (hb.block k hk)⟩
theorem hangI_any (w:World)(q:Nat)(dv fv:Value)(ld lf:Nat)(ms:Nat->Nat)(nn:Nat)(T:Ts)(hI:Inn w q dv fv ld lf ms nn T)(p:Nat)(n:ByteArray)(kd no:Nat)(ht:tk T p)(hn:n.size<=maxLen)(hnn:nn<maxLen) :
 Calls prog 118 #[.pointer (some ⟨q,0,none⟩),.agg #[.int .i64 (kd:Int),.int .i64 (no:Int)],.agg #[.int .i64 (p:Int),.string n]] w fun e w'=>e=.returned (.tuple #[])/\Inn w' q dv fv ld lf ms (nn+1) (jA6 T p n (some (kd,no)))/\w.grownBy w' (some (ms p)):=by
 obtain ⟨d,hd⟩:=ht
 obtain ⟨W,hW,hb,k0,k1⟩:=jDy w #[.int .i64 (kd:Int),.int .i64 (no:Int)] #[.int .i64 (p:Int),.string n] 153 141
 have hin:=jD0 W.drew q dv fv ld lf ms nn T (hI.below hb.drew) p d hd
 have HX:Hid (∀w5,Below W.drew.heap.size W.drew w5->w5.cell? ⟨w.heap.size,0,none⟩=some (.int .i64 (kd:Int))/\w5.cell? ⟨w.heap.size,1,none⟩=some (.int .i64 (no:Int))/\w5.cell? ⟨w.heap.size+1,0,none⟩=some (.int .i64 (p:Int))/\w5.cell? ⟨w.heap.size+1,1,none⟩=some (.string n) /\
  ∃w6,(Instr.mapUpdate 142 (.map (some (ms p))) (.string n) (.agg #[.int .i64 (kd:Int),.int .i64 (no:Int)])).run prog w5=.ok () w6/\Hid (Inn w6 q dv fv ld lf ms (nn+1) (jA6 T p n (some (kd,no)))/\w.grownBy w6 (some (ms p)))):=fun w5 hb5=>by
  have hb':Below w.heap.size w w5:=hb.drew.trans (hb5.mono hb.size)
  have q0:=(hb5.block _ (jAv k0)).trans k0
  have q1:=(hb5.block _ (jAv k1)).trans k1
  refine ⟨(jAj q0).trans rfl,(jAj q0).trans rfl,(jAj q1).trans rfl,(jAj q1).trans rfl,?_⟩
  obtain ⟨Dt,hm,hT⟩:=(hI.below hb').hm p d hd
  obtain ⟨w6,hX1,hX2,hX3⟩:=World.ownsMap.update (w:=w5) (t:=142) hm jOj underlying142 hnn (WideMaps.keyOf_string_mk underlying9 hn) (jM3 kd no)
  exact ⟨w6,hX1,(hI.below hb').hang hd hX3 (Nat.le_succ _) hX2 (hT.put (ky n) (kd,no)),grown_on hb' hX3⟩
 have i0:W.cell? ⟨w.heap.size,0,none⟩=some (.int .i64 (kd:Int)):=(jAj k0).trans rfl
 have i1:W.cell? ⟨w.heap.size,1,none⟩=some (.int .i64 (no:Int)):=(jAj k0).trans rfl
 have i2:W.cell? ⟨w.heap.size+1,0,none⟩=some (.int .i64 (p:Int)):=(jAj k1).trans rfl
 have i3:W.cell? ⟨w.heap.size+1,1,none⟩=some (.string n):=(jAj k1).trans rfl
 obtain ⟨m,hm⟩:∃m,ms p=m:=⟨_,rfl⟩
 rw[hm] at hin HX ⊢
 clear hI hd hb k0 k1 hn hnn hm
 go_enter func118,ntmps118
 go_wp2_with fail
 go_region_with (go_at_call 132;refine hin.mono ?_;rintro e w5 ⟨rfl,hb5⟩;obtain ⟨x0,x1,x2,x3,w6,hX1,HT⟩:=HX.out w5 hb5;clear hb5)
 all_goals
  go_wp2
  go_end0
  exact ⟨rfl,HT.out⟩
theorem settleI_any (w:World)(q:Nat)(dv fv:Value)(ld lf:Nat)(ms:Nat->Nat)(nn:Nat)(T:Ts)(hI:Inn w q dv fv ld lf ms nn T)(kd no p:Nat)(n:ByteArray)(h0:tk T 0)(hn:n.size<=maxLen)(hnn:nn<maxLen)(hr:jE3 T 16 p=true)(hv:T.M p (ky n)=none) :
 Calls prog 146 #[.pointer (some ⟨q,0,none⟩),.agg #[.int .i64 (kd:Int),.int .i64 (no:Int)],.agg #[.int .i64 (p:Int),.string n]] w fun e w'=>e=.returned (.bool true)/\Inn w' q dv fv ld lf ms (nn+1) (jA6 T p n (some (kd,no)))/\w.grownBy w' (some (ms p)):=by
 obtain ⟨W,hW,hb,k0,k1⟩:=jDy w #[.int .i64 (kd:Int),.int .i64 (no:Int)] #[.int .i64 (p:Int),.string n] 153 141
 have HIR:Hid (∀V,Below W.heap.size W V->Calls prog 178 #[.pointer (some ⟨q,0,none⟩),.agg #[.int .i64 (p:Int),.string n]] V fun e w'=>e=.returned (.bool true)/\Below V.heap.size V w'):=fun V hV=>by
  have:=jL2 V q _ nn T ((show Lay w q _ nn T from ⟨dv,fv,ld,lf,ms,rfl,hI⟩).below hb |>.below hV) p n
  rw[hr] at this
  exact this
 have HBW:Hid (Below w.heap.size w W):=hb
 have htk:=rootd_tk h0 hr
 obtain ⟨d,hd⟩:=htk
 have HIN:Hid (∀V,Below W.heap.size W V->Calls prog 132 #[.pointer (some ⟨q,0,none⟩),.int .i64 (p:Int)] V fun e w'=>e=.returned (.map (some (ms p)))/\Below V.heap.size V w'):=fun V hV=>jD0 V q dv fv ld lf ms nn T ((hI.below hb).below hV) p d hd
 have HS0:Hid (∀V,Below W.heap.size W V->V.cell? ⟨w.heap.size+1,0,none⟩=some (.int .i64 (p:Int))/\V.cell? ⟨w.heap.size+1,1,none⟩=some (.string n)/\(Instr.lookup 142 (.map (some (ms p))) (.string n) false).run prog V=.ok (.agg #[.int .i64 ((((0,0):Nat × Nat)).1:Int),.int .i64 ((((0,0):Nat × Nat)).2:Int)]) V):=fun V hV=>by
  have k:=(hV.block _ (jAv k1)).trans k1
  refine ⟨(jAj k).trans rfl,(jAj k).trans rfl,?_⟩
  obtain ⟨Dt,hm,hT⟩:=((hI.below hb).below hV).hm p d hd
  have hlo:=look_any hm hT n hn
  rw[hv] at hlo
  exact hlo
 have HKW:Hid (∀V,Below W.heap.size W V->V.heap[w.heap.size]?=some (.cells #[.int .i64 (kd:Int),.int .i64 (no:Int)] 153 (0,0))/\V.heap[w.heap.size+1]?=some (.cells #[.int .i64 (p:Int),.string n] 141 (0,0))):=fun V hV=>⟨(hV.block _ (jAv k0)).trans k0,(hV.block _ (jAv k1)).trans k1⟩
 have HHG:Hid (∀V,Below W.heap.size W V->Calls prog 118 #[.pointer (some ⟨q,0,none⟩),.agg #[.int .i64 (kd:Int),.int .i64 (no:Int)],.agg #[.int .i64 (p:Int),.string n]] V fun e w'=>e=.returned (.tuple #[])/\Inn w' q dv fv ld lf ms (nn+1) (jA6 T p n (some (kd,no)))/\w.grownBy w' (some (ms p))):=fun V hV=>by
  have hbV:Below w.heap.size w V:=jBq hV hb
  refine (hangI_any V q dv fv ld lf ms nn T (hI.below hbV) p n kd no ⟨d,hd⟩ hn hnn).mono ?_
  rintro e w' ⟨h1,h2,h3⟩
  exact ⟨h1,h2,grown_on hbV h3⟩
 obtain ⟨k2,hk2⟩:∃k2:Nat,(0:Nat)=k2:=⟨_,rfl⟩
 obtain ⟨n2,hn2⟩:∃n2:Nat,(0:Nat)=n2:=⟨_,rfl⟩
 have hkI:((k2:Int) != 0)=false:=by simp[<-hk2]
 have HS0:Hid (∀V,Below W.heap.size W V->V.cell? ⟨w.heap.size+1,0,none⟩=some (.int .i64 (p:Int))/\V.cell? ⟨w.heap.size+1,1,none⟩=some (.string n)/\(Instr.lookup 142 (.map (some (ms p))) (.string n) false).run prog V=.ok (.agg #[.int .i64 (k2:Int),.int .i64 (n2:Int)]) V):=fun V hV=>by
  rw[<-hk2,<-hn2]
  exact HS0.out V hV
 clear hk2 hn2
 obtain ⟨m,hm⟩:∃m,ms p=m:=⟨_,rfl⟩
 rw[hm] at HIN HS0 HHG ⊢
 clear hI hd h0 hv hm
 clear hb k0 k1 hr
 go_enter func146,ntmps146
 go_wp2_with fail
 refine wp_region_held_drew (S:=fun V=>V.cell? ⟨w.heap.size+1,0,none⟩=some (.int .i64 (p:Int))/\V.cell? ⟨w.heap.size+1,1,none⟩=some (.string n)/\(Instr.lookup 142 (.map (some m)) (.string n) false).run prog V=.ok (.agg #[.int .i64 (k2:Int),.int .i64 (n2:Int)]) V) (by kernel_rfl) (HS0.out _ (Qq _ _).drew) ?_
 intro hS
 refine tQ 0 ⟨some 7,.move (.tmp 0),_,_,_,none⟩ (.pointer (some ⟨q,0,none⟩)) rfl hS ?_
 (try simp only[Act.put,sA,sB,sC])
 refine tQ 1 ⟨some 8,.load 141 (.tmp 5),_,_,_,none⟩ (.agg #[.int .i64 (p:Int),.string n]) rfl hS ?_ (Or.inl ⟨by rfl,by intro x hx;have h1:=hx.1;have h2:=hx.2.1;go_simp⟩)
 (try simp only[Act.put,sA,sB,sC])
 refine wpAnyH_ready (rs:=[2]) (by kernel_rfl) (by simp) ?_
 refine AllReadyH.cons (o:={ dst:=some 9,op:=.call { callee:=.value (.func 178),args:=#[.tmp 7,.tmp 8],argTypes:=#[92,141] },type:=_,pos:=_,after:=_,guard:=none }) rfl (fun K hK=>?_) AllReadyH.nil
 go_simp
 refine (HIR.out _ (Qq _ _).drew).mono ?_
 rintro e w6 ⟨rfl,hb6⟩
 have hb46:Below W.heap.size W w6:=((Qq W.heap.size W).drew).trans hb6
 have HB6:Hid _:=hb46
 replace hS:=HS0.out _ hb46
 clear hb6 hb46
 refine hK.out _ _ hS (fun _=>?_)
 clear hK K
 (try simp only[Act.put,sA,sB,sC])
 refine tQ 3 ⟨some 10,.unOp .not 4 (.tmp 9),_,_,_,none⟩ (.bool false) rfl hS ?_
 (try simp only[Act.put,sA,sB,sC])
 refine tQ 4 ⟨some 11,.move (.tmp 10),_,_,_,none⟩ (.bool false) rfl hS ?_
 (try simp only[Act.put,sA,sB,sC])
 refine tQ 5 ⟨some 12,.move (.tmp 0),_,_,_,some (4,false)⟩ (.pointer (some ⟨q,0,none⟩)) rfl hS ?_
 (try simp only[Act.put,sA,sB,sC])
 refine tQ 6 ⟨some 13,.fieldAddr 141 (.tmp 5) 0,_,_,_,some (4,false)⟩ (.pointer (some ⟨(w.heap.size+1),0,none⟩)) rfl hS ?_
 (try simp only[Act.put,sA,sB,sC])
 refine tQ 7 ⟨some 14,.load 3 (.tmp 13),_,_,_,some (4,false)⟩ (.int .i64 (p:Int)) rfl hS ?_ (Or.inl ⟨by rfl,by intro x hx;have h1:=hx.1;go_simp⟩)
 (try simp only[Act.put,sA,sB,sC])
 refine tQ 9 ⟨some 16,.fieldAddr 141 (.tmp 5) 1,_,_,_,some (4,false)⟩ (.pointer (some ⟨(w.heap.size+1),1,none⟩)) rfl hS ?_
 (try simp only[Act.put,sA,sB,sC])
 refine tQ 10 ⟨some 17,.load 9 (.tmp 16),_,_,_,some (4,false)⟩ (.string n) rfl hS ?_ (Or.inl ⟨by rfl,by intro x hx;have h1:=hx.2.1;go_simp⟩)
 (try simp only[Act.put,sA,sB,sC])
 refine wpAnyH_ready (rs:=[8]) (by kernel_rfl) (by simp) ?_
 refine AllReadyH.cons (o:={ dst:=some 15,op:=.call { callee:=.value (.func 132),args:=#[.tmp 12,.tmp 14],argTypes:=#[92,3] },type:=_,pos:=_,after:=_,guard:=some (4,false) }) rfl (fun K hK=>?_) AllReadyH.nil
 go_simp
 refine (HIN.out _ HB6.out).mono ?_
 rintro e w7 ⟨rfl,hb7⟩
 have hb67:Below W.heap.size W w7:=jBq hb7 HB6.out
 have HB7:Hid _:=hb67
 replace hS:=HS0.out _ hb67
 clear hb7 hb67
 refine hK.out _ _ hS (fun _=>?_)
 clear hK K
 (try simp only[Act.put,sA,sB,sC])
 refine tQ 11 ⟨some 18,.lookup 142 (.tmp 15) (.tmp 17) false,_,_,_,some (4,false)⟩ (.agg #[.int .i64 (k2:Int),.int .i64 (n2:Int)]) rfl hS ?_ (Or.inl ⟨by rfl,by intro x hx;have h1:=hx.2.2;go_simp⟩)
 (try simp only[Act.put,sA,sB,sC])
 refine tQ 12 ⟨some 19,.field 153 (.tmp 18) 0,_,_,_,some (4,false)⟩ (.int .i64 (k2:Int)) rfl hS ?_ (Or.inl ⟨by rfl,by intro x _;have h1:=fldN x (.int .i64 (k2:Int)) (.int .i64 (n2:Int));go_simp⟩)
 (try simp only[Act.put,sA,sB,sC])
 refine tQ 13 ⟨some 20,.binOp .neq 3 (.tmp 19) (.const (.int .i64 0)) 3,_,_,_,some (4,false)⟩ (.bool false) rfl hS ?_
 (try simp only[Act.put,sA,sB,sC])
 refine tQ 14 ⟨some 21,.pick (.tmp 11) (.const (.bool true)) (.tmp 20),_,_,_,none⟩ (.bool false) rfl hS ?_
 (try simp only[Act.put,sA,sB,sC])
 refine wpAnyH_done (by kernel_rfl) ?_ _
 clear hS
 obtain ⟨j0,j1⟩:=HKW.out _ HB7.out
 have x0:w7.cell? ⟨w.heap.size,0,none⟩=some (.int .i64 (kd:Int)):=(jAj j0).trans rfl
 have x1:w7.cell? ⟨w.heap.size,1,none⟩=some (.int .i64 (no:Int)):=(jAj j0).trans rfl
 have y0:w7.cell? ⟨w.heap.size+1,0,none⟩=some (.int .i64 (p:Int)):=(jAj j1).trans rfl
 have y1:w7.cell? ⟨w.heap.size+1,1,none⟩=some (.string n):=(jAj j1).trans rfl
 have hhg:=HHG.out _ HB7.out
 clear j0 j1
 go_wp2_with fail
 refine hhg.mono ?_
 rintro e w8 ⟨rfl,ht8⟩
 have HT8:Hid _:=ht8
 clear ht8
 go_wp2
 go_ret
 exact ⟨rfl,HT8.out⟩
end Go.Proofs.YtfnklhajafmooaaGreatDoor.Tr
namespace Go.Proofs.YtfnklhajafmooaaGreatDoor.Tr
open Go.RowKit Go.Lib Go.Deep Go.Shelf Go.Proofs.Tryz
attribute [local go_sem] Oper.semAt_some
structure Kg (q g:Nat)(A B:World):Prop where
 size:A.heap.size<=B.heap.size
 hq:B.heap[q]?=A.heap[q]?
 hg:B.heap[g]?=A.heap[g]?
theorem Kg.refl (q g:Nat)(A:World):Kg q g A A:=⟨Qj _,rfl,rfl⟩
theorem Kg.trans {q g:Nat}{A B C:World}(h:Kg q g A B)(h':Kg q g B C):Kg q g A C:=⟨Qk h.size h'.size,h'.hq.trans h.hq,h'.hg.trans h.hg⟩
theorem Kg.of_below {q g n:Nat}{A B:World}(h:Below n A B)(hq:q<n)(hg:g<n):Kg q g A B:=⟨h.size,h.block _ hq,h.block _ hg⟩
theorem Kg.alloc {q g:Nat}{A B:World}(h:Kg q g A B)(hq:q<B.heap.size)(hg:g<B.heap.size)(o:Obj):Kg q g A (B.alloc o):=h.trans (Kg.of_below ((Qq B.heap.size B).alloc (Qj _) o) hq hg)
theorem kg_put {q g n:Nat}(hq:q<n)(hg:g<n)(W:World)(l:Nat)(o o':Obj)(hl:n<=l)(_h:W.heap[l]?=some o)(_:o.isCells=false)(_:o.isWalk=false):Kg q g W (W.putObj l o'):=⟨by simp[World.putObj],World.putObj_heap_other (by omega),World.putObj_heap_other (by omega)⟩
abbrev Row_ (rs:List (Option (Nat × ByteArray × Nat))):Type:={x:Cm // rs[x.i]?=some (some (x.p,x.n,x.x))}
theorem cell_kg {A B:World}{k j:Nat}(h:B.heap[k]?=A.heap[k]?):B.cell? ⟨k,j,none⟩=A.cell? ⟨k,j,none⟩:=by simp only[World.cell?,h]
theorem Rs_d.kg {W X:World}{n₀ q g cap:Nat}{rs:List (Option (Nat × ByteArray × Nat))}(h:Rs_d W n₀ q g cap rs)(hb:Kg q g W X):Rs_d X n₀ q g cap rs:=by
 have k:∀(j:Nat) (v:Value),W.cell? ⟨g,j,none⟩=some v->X.cell? ⟨g,j,none⟩=some v:=fun j v e=>(cell_kg hb.hg).trans e
 exact ⟨(cell_kg hb.hq).trans h.cq,h.lq,h.lg,fun i hi=>⟨k _ _ (h.no i hi).1,k _ _ (h.no i hi).2.1,k _ _ (h.no i hi).2.2.1,k _ _ (h.no i hi).2.2.2⟩,fun i p n x hi=>⟨k _ _ (h.ys i p n x hi).1,k _ _ (h.ys i p n x hi).2.1,k _ _ (h.ys i p n x hi).2.2.1,k _ _ (h.ys i p n x hi).2.2.2⟩⟩
theorem all1k_d (F:Fence)(n:Nat)(hf:F.fn 83)(hro:F.round=none)(hn:1<=n)(l Bn n₀ q g cap:Nat)(rs:List (Option (Nat × ByteArray × Nat)))(hlen:rs.length<=70000)(J Jx:List Cm->World->Prop)
 (W:World) (hJ:AbidesFrom W.heap.size J)
 (hY:∀pre (x:Cm) W1,rs[x.i]?=some (some (x.p,x.n,x.x))->J pre W1->pre.length<rs.length->YieldAt F (n-1) prog l #[.int .i64 (x.i:Int),.agg #[.int .i64 (x.p:Int),.string x.n,.map (some x.x)]] W1 fun e W'=>(e=.returned (.bool true)/\J (pre++[x]) W'/\Kg q g W1 W')\/(e=.returned (.bool false)/\Jx (pre++[x]) W'))
 (hn₀:n₀<=W.heap.size) (hBn:W.cell? ⟨Bn,0,none⟩=some (.pointer (some ⟨q,0,none⟩))) (hR:Rs_d W n₀ q g cap rs) (h0:J [] W) :
 CallsIn F n prog 83 #[.func (.yield l) #[] #[],.pointer (some ⟨Bn,0,none⟩)] W fun e W'=>(∃v,e=.returned v)/\((∃ys,ys=upto rs rs.length/\J ys W')\/(∃pre,(∃k,k<=rs.length/\pre=upto rs k)/\Jx pre W')):=by
 have cq:=hR.cq
 have HR0:Hid _:=hR
 have HN0:Hid _:=hn₀
 have HJ:Hid _:=hJ
 have HY:Hid _:=hY
 obtain ⟨N,hN⟩:∃N,rs.length=N:=⟨_,rfl⟩
 have HN:Hid (rs.length=N):=hN
 rw[hN] at cq hlen
 clear hR hJ hY hN
 refine callsIn_of_wp func83 rfl hf ?_ hro
 simp only[ntmps83,List.size_toArray,List.length_cons,List.length_nil,Nat.reduceAdd,Nat.reduceSub,Array.replicate_succ,Array.replicate_zero,List.push_toArray,List.append_toArray,List.nil_append,List.cons_append]
 gi_wp2
 gi_loopw [10] (fun i wr=>∃k:Nat,k<=N/\i=.int .i64 (k:Int)/\Hid (J (upto rs k) wr)/\Hid (Kg q g W wr)/\Hid (W.heap.size<=wr.heap.size))
  (fun i _=>N-(intOf i).toNat)
 case atStart=>exact ⟨0,Kj _,rfl,h0,Kg.refl _ _ _,Qj _⟩
 case round =>
  obtain ⟨k,hk,rfl,HJs,HB,HSZ⟩:=hrel
  by_cases hlt:k<N
  ·have hltI:(k:Int)<(N:Int):=by omega
   have hw1:IntKind.i64.wrap ((k:Int)+1)=((k+1:Nat):Int):=by rw[QX];omega
   have HRr:Hid _:=HR0.out.kg HB.out
   cases hrk:rs[k]? with
   | none=>exact absurd (List.getElem?_eq_none_iff.1 hrk) (by have:=HN.out;omega)
   | some o =>
     cases o with
     | none =>
       obtain ⟨y0,y1,y2,y3⟩:=HRr.out.no k hrk
       have HU:Hid (upto rs (k+1)=upto rs k):=(jE2 hrk).trans (by simp)
       clear hrk
       gi_wp2
       refine ⟨fun _ h=>(by cases h),?_⟩
       gi_wp2
       go_roundw
       case rel=>exact ⟨k+1,by omega,by first | rfl | simp,by show J _ _;rw[HU.out];exact HJ.out _ _ _ none HJs.out (World.grownBy_alloc _ _ _) (fun r e=>(by cases e)),HB.out.alloc (Qx HR0.out.lq (Qk HN0.out HSZ.out)) (Qx HR0.out.lg (Qk HN0.out HSZ.out)) _,by show _<=_;have:=HSZ.out;simp;omega⟩
       case measure=>simp[intOf];omega
     | some d =>
       obtain ⟨p,nm,x⟩:=d
       obtain ⟨y0,y1,y2,y3⟩:=HRr.out.ys k p nm x hrk
       have HU:Hid (upto rs (k+1)=upto rs k++[⟨k,p,nm,x⟩]):=(jE2 hrk).trans (by simp)
       have hJ1:J (upto rs k) (wr.alloc (.cells #[.bool true,.int .i64 (p:Int),.string nm,.map (some x)] 187)):=HJ.out _ _ _ none HJs.out (World.grownBy_alloc _ _ _) (fun r e=>(by cases e))
       obtain ⟨fn,tmps,assign,body,hy,hRR⟩:=HY.out _ ⟨k,p,nm,x⟩ _ hrk hJ1 (by have:=jH0 rs k;have:=HN.out;omega)
       dsimp only at hy
       clear hrk hJ1
       gi_wp2
       refine hRR.mono ?_
       rintro e W3 (⟨rfl,hJ3,hk3⟩ | ⟨rfl,hJx3⟩)
       ·gi_wp2
        go_roundw
        case rel=>exact ⟨k+1,by omega,by first | rfl | simp,by show J _ _;rw[HU.out];exact hJ3,(HB.out.alloc (Qx HR0.out.lq (Qk HN0.out HSZ.out)) (Qx HR0.out.lg (Qk HN0.out HSZ.out)) _).trans hk3,by show _<=_;have h1:=HSZ.out;have h2:=hk3.size;simp at h2;omega⟩
        case measure=>simp[intOf];omega
       ·gi_wp2
        refine Qw (results_none rfl _ _ _) rfl ?_
        exact ⟨⟨_,rfl⟩,.inr ⟨_,⟨k+1,by have:=HN.out;omega,HU.out.symm⟩,hJx3⟩⟩
  ·obtain rfl:k=N:=by omega
   gi_wp2
   go_end0
   have hN:=HN.out
   subst hN
   exact ⟨⟨_,rfl⟩,.inl ⟨_,rfl,HJs.out⟩⟩
theorem stopsk_d (F:Fence)(n:Nat)(hf:F.fn 83)(hro:F.round=none)(hn:1<=n)(Bn n₀ q g:Nat)(rs:List (Option (Nat × ByteArray × Nat)))(hlen:rs.length<=70000)(w:World)(hBn:Bn<w.heap.size)(hn₀:n₀<=w.heap.size)
 (hc:w.cell? ⟨Bn,0,none⟩=some (.pointer (some ⟨q,0,none⟩))) (hI:(w.cell? ⟨q,1,none⟩=some (.slice none 0 0)/\rs=[]/\q<n₀)\/∃cap,Rs_d w n₀ q g cap rs) :
 SeqStopsK F n prog 83 #[.pointer (some ⟨Bn,0,none⟩)] (fun x:Row_ rs=>#[.int .i64 (x.1.i:Int),.agg #[.int .i64 (x.1.p:Int),.string x.1.n,.map (some x.1.x)]]) (Kg q g) (fun ys=>ys.map Subtype.val=upto rs rs.length) (fun pre=>∃k,k<=rs.length/\pre.map Subtype.val=upto rs k) rs.length w:=fun l J Jx W hW hJ hJx hY h0=>by
 have hc':=(hW.cell (p:=⟨Bn,0,none⟩) hBn).trans hc
 rcases hI with ⟨h1,rfl,hq⟩ | ⟨cap,hR⟩
 ·exact (all1_nil_d F n hf hro l Bn q (fun p W=>p=[]/\J [] W) W hc' ((hW.cell (p:=⟨q,1,none⟩) (Qx hq hn₀)).trans h1) ⟨rfl,h0⟩).mono fun e W' ⟨he,hj⟩=>⟨he,.inl ⟨[],rfl,hj.2⟩⟩
 ·refine (all1k_d F n hf hro hn l Bn n₀ q g cap rs hlen (fun p W=>∃ys:List (Row_ rs),ys.map Subtype.val=p/\J ys W) (fun p W=>∃ys:List (Row_ rs),ys.map Subtype.val=p/\Jx ys W) W (fun s X Y row hs hg hr=>?_) (fun pre x W1 hx hp hl=>?_) (Qk hn₀ hW.size) hc' (hR.below (hW.mono hn₀)) ⟨[],rfl,h0⟩).mono ?_
  ·obtain ⟨ys,h1,h2⟩:=hs
   exact ⟨ys,h1,hJ ys X Y row h2 hg hr⟩
  ·obtain ⟨ys,h1,h2⟩:=hp
   have hyl:ys.length<rs.length:=by rw[<-h1,List.length_map] at hl;exact hl
   obtain ⟨fn,tmps,assign,body,hy,hRR⟩:=hY ys ⟨x,hx⟩ W1 h2 hyl
   refine ⟨fn,tmps,assign,body,hy,hRR.mono ?_⟩
   rintro e W' (⟨a1,a2,a3⟩ | ⟨a1,a2⟩)
   ·exact .inl ⟨a1,⟨ys++[⟨x,hx⟩],by rw[List.map_append,h1];rfl,a2⟩,a3⟩
   ·exact .inr ⟨a1,⟨ys++[⟨x,hx⟩],by rw[List.map_append,h1];rfl,a2⟩⟩
  ·rintro e W' ⟨he,(⟨p,h1,ys,h2,h3⟩ | ⟨p,⟨k,hk,h1⟩,ys,h2,h3⟩)⟩
   ·exact ⟨he,.inl ⟨ys,h2.trans h1,h3⟩⟩
   ·exact ⟨he,.inr ⟨ys,⟨k,hk,h2.trans h1⟩,h3⟩⟩
theorem Rs_f.kg {W X:World}{n₀ q g cap:Nat}{rs:List (Option (Nat × ByteArray × Nat))}(h:Rs_f W n₀ q g cap rs)(hb:Kg q g W X):Rs_f X n₀ q g cap rs:=by
 have k:∀(j:Nat) (v:Value),W.cell? ⟨g,j,none⟩=some v->X.cell? ⟨g,j,none⟩=some v:=fun j v e=>(cell_kg hb.hg).trans e
 exact ⟨(cell_kg hb.hq).trans h.cq,h.lq,h.lg,fun i hi=>⟨k _ _ (h.no i hi).1,k _ _ (h.no i hi).2.1,k _ _ (h.no i hi).2.2.1,k _ _ (h.no i hi).2.2.2⟩,fun i p n x hi=>⟨k _ _ (h.ys i p n x hi).1,k _ _ (h.ys i p n x hi).2.1,k _ _ (h.ys i p n x hi).2.2.1,k _ _ (h.ys i p n x hi).2.2.2⟩⟩
theorem all1k_f (F:Fence)(n:Nat)(hf:F.fn 100)(hro:F.round=none)(hn:1<=n)(l Bn n₀ q g cap:Nat)(rs:List (Option (Nat × ByteArray × Nat)))(hlen:rs.length<=70000)(J Jx:List Cm->World->Prop)
 (W:World) (hJ:AbidesFrom W.heap.size J)
 (hY:∀pre (x:Cm) W1,rs[x.i]?=some (some (x.p,x.n,x.x))->J pre W1->pre.length<rs.length->YieldAt F (n-1) prog l #[.int .i64 (x.i:Int),.agg #[.int .i64 (x.p:Int),.string x.n,.int .i64 (x.x:Int)]] W1 fun e W'=>(e=.returned (.bool true)/\J (pre++[x]) W'/\Kg q g W1 W')\/(e=.returned (.bool false)/\Jx (pre++[x]) W'))
 (hn₀:n₀<=W.heap.size) (hBn:W.cell? ⟨Bn,0,none⟩=some (.pointer (some ⟨q,3,none⟩))) (hR:Rs_f W n₀ q g cap rs) (h0:J [] W) :
 CallsIn F n prog 100 #[.func (.yield l) #[] #[],.pointer (some ⟨Bn,0,none⟩)] W fun e W'=>(∃v,e=.returned v)/\((∃ys,ys=upto rs rs.length/\J ys W')\/(∃pre,(∃k,k<=rs.length/\pre=upto rs k)/\Jx pre W')):=by
 have cq:=hR.cq
 have HR0:Hid _:=hR
 have HN0:Hid _:=hn₀
 have HJ:Hid _:=hJ
 have HY:Hid _:=hY
 obtain ⟨N,hN⟩:∃N,rs.length=N:=⟨_,rfl⟩
 have HN:Hid (rs.length=N):=hN
 rw[hN] at cq hlen
 clear hR hJ hY hN
 refine callsIn_of_wp func100 rfl hf ?_ hro
 simp only[ntmps100,List.size_toArray,List.length_cons,List.length_nil,Nat.reduceAdd,Nat.reduceSub,Array.replicate_succ,Array.replicate_zero,List.push_toArray,List.append_toArray,List.nil_append,List.cons_append]
 gi_wp2
 gi_loopw [10] (fun i wr=>∃k:Nat,k<=N/\i=.int .i64 (k:Int)/\Hid (J (upto rs k) wr)/\Hid (Kg q g W wr)/\Hid (W.heap.size<=wr.heap.size))
  (fun i _=>N-(intOf i).toNat)
 case atStart=>exact ⟨0,Kj _,rfl,h0,Kg.refl _ _ _,Qj _⟩
 case round =>
  obtain ⟨k,hk,rfl,HJs,HB,HSZ⟩:=hrel
  by_cases hlt:k<N
  ·have hltI:(k:Int)<(N:Int):=by omega
   have hw1:IntKind.i64.wrap ((k:Int)+1)=((k+1:Nat):Int):=by rw[QX];omega
   have HRr:Hid _:=HR0.out.kg HB.out
   cases hrk:rs[k]? with
   | none=>exact absurd (List.getElem?_eq_none_iff.1 hrk) (by have:=HN.out;omega)
   | some o =>
     cases o with
     | none =>
       obtain ⟨y0,y1,y2,y3⟩:=HRr.out.no k hrk
       have HU:Hid (upto rs (k+1)=upto rs k):=(jE2 hrk).trans (by simp)
       clear hrk
       gi_wp2
       refine ⟨fun _ h=>(by cases h),?_⟩
       gi_wp2
       go_roundw
       case rel=>exact ⟨k+1,by omega,by first | rfl | simp,by show J _ _;rw[HU.out];exact HJ.out _ _ _ none HJs.out (World.grownBy_alloc _ _ _) (fun r e=>(by cases e)),HB.out.alloc (Qx HR0.out.lq (Qk HN0.out HSZ.out)) (Qx HR0.out.lg (Qk HN0.out HSZ.out)) _,by show _<=_;have:=HSZ.out;simp;omega⟩
       case measure=>simp[intOf];omega
     | some d =>
       obtain ⟨p,nm,x⟩:=d
       obtain ⟨y0,y1,y2,y3⟩:=HRr.out.ys k p nm x hrk
       have HU:Hid (upto rs (k+1)=upto rs k++[⟨k,p,nm,x⟩]):=(jE2 hrk).trans (by simp)
       have hJ1:J (upto rs k) (wr.alloc (.cells #[.bool true,.int .i64 (p:Int),.string nm,.int .i64 (x:Int)] 191)):=HJ.out _ _ _ none HJs.out (World.grownBy_alloc _ _ _) (fun r e=>(by cases e))
       obtain ⟨fn,tmps,assign,body,hy,hRR⟩:=HY.out _ ⟨k,p,nm,x⟩ _ hrk hJ1 (by have:=jH0 rs k;have:=HN.out;omega)
       dsimp only at hy
       clear hrk hJ1
       gi_wp2
       refine hRR.mono ?_
       rintro e W3 (⟨rfl,hJ3,hk3⟩ | ⟨rfl,hJx3⟩)
       ·gi_wp2
        go_roundw
        case rel=>exact ⟨k+1,by omega,by first | rfl | simp,by show J _ _;rw[HU.out];exact hJ3,(HB.out.alloc (Qx HR0.out.lq (Qk HN0.out HSZ.out)) (Qx HR0.out.lg (Qk HN0.out HSZ.out)) _).trans hk3,by show _<=_;have h1:=HSZ.out;have h2:=hk3.size;simp at h2;omega⟩
        case measure=>simp[intOf];omega
       ·gi_wp2
        refine Qw (results_none rfl _ _ _) rfl ?_
        exact ⟨⟨_,rfl⟩,.inr ⟨_,⟨k+1,by have:=HN.out;omega,HU.out.symm⟩,hJx3⟩⟩
  ·obtain rfl:k=N:=by omega
   gi_wp2
   go_end0
   have hN:=HN.out
   subst hN
   exact ⟨⟨_,rfl⟩,.inl ⟨_,rfl,HJs.out⟩⟩
theorem stopsk_f (F:Fence)(n:Nat)(hf:F.fn 100)(hro:F.round=none)(hn:1<=n)(Bn n₀ q g:Nat)(rs:List (Option (Nat × ByteArray × Nat)))(hlen:rs.length<=70000)(w:World)(hBn:Bn<w.heap.size)(hn₀:n₀<=w.heap.size)
 (hc:w.cell? ⟨Bn,0,none⟩=some (.pointer (some ⟨q,3,none⟩))) (hI:(w.cell? ⟨q,4,none⟩=some (.slice none 0 0)/\rs=[]/\q<n₀)\/∃cap,Rs_f w n₀ q g cap rs) :
 SeqStopsK F n prog 100 #[.pointer (some ⟨Bn,0,none⟩)] (fun x:Row_ rs=>#[.int .i64 (x.1.i:Int),.agg #[.int .i64 (x.1.p:Int),.string x.1.n,.int .i64 (x.1.x:Int)]]) (Kg q g) (fun ys=>ys.map Subtype.val=upto rs rs.length) (fun pre=>∃k,k<=rs.length/\pre.map Subtype.val=upto rs k) rs.length w:=fun l J Jx W hW hJ hJx hY h0=>by
 have hc':=(hW.cell (p:=⟨Bn,0,none⟩) hBn).trans hc
 rcases hI with ⟨h1,rfl,hq⟩ | ⟨cap,hR⟩
 ·exact (all1_nil_f F n hf hro l Bn q (fun p W=>p=[]/\J [] W) W hc' ((hW.cell (p:=⟨q,4,none⟩) (Qx hq hn₀)).trans h1) ⟨rfl,h0⟩).mono fun e W' ⟨he,hj⟩=>⟨he,.inl ⟨[],rfl,hj.2⟩⟩
 ·refine (all1k_f F n hf hro hn l Bn n₀ q g cap rs hlen (fun p W=>∃ys:List (Row_ rs),ys.map Subtype.val=p/\J ys W) (fun p W=>∃ys:List (Row_ rs),ys.map Subtype.val=p/\Jx ys W) W (fun s X Y row hs hg hr=>?_) (fun pre x W1 hx hp hl=>?_) (Qk hn₀ hW.size) hc' (hR.below (hW.mono hn₀)) ⟨[],rfl,h0⟩).mono ?_
  ·obtain ⟨ys,h1,h2⟩:=hs
   exact ⟨ys,h1,hJ ys X Y row h2 hg hr⟩
  ·obtain ⟨ys,h1,h2⟩:=hp
   have hyl:ys.length<rs.length:=by rw[<-h1,List.length_map] at hl;exact hl
   obtain ⟨fn,tmps,assign,body,hy,hRR⟩:=hY ys ⟨x,hx⟩ W1 h2 hyl
   refine ⟨fn,tmps,assign,body,hy,hRR.mono ?_⟩
   rintro e W' (⟨a1,a2,a3⟩ | ⟨a1,a2⟩)
   ·exact .inl ⟨a1,⟨ys++[⟨x,hx⟩],by rw[List.map_append,h1];rfl,a2⟩,a3⟩
   ·exact .inr ⟨a1,⟨ys++[⟨x,hx⟩],by rw[List.map_append,h1];rfl,a2⟩⟩
  ·rintro e W' ⟨he,(⟨p,h1,ys,h2,h3⟩ | ⟨p,⟨k,hk,h1⟩,ys,h2,h3⟩)⟩
   ·exact ⟨he,.inl ⟨ys,h2.trans h1,h3⟩⟩
   ·exact ⟨he,.inr ⟨ys,⟨k,hk,h2.trans h1⟩,h3⟩⟩
end Go.Proofs.YtfnklhajafmooaaGreatDoor.Tr
namespace Go.Proofs.YtfnklhajafmooaaGreatDoor.Tr
open Go.RowKit Go.Lib Go.Deep Go.Proofs.Tryz
theorem upto_lt (rs:List (Option (Nat × ByteArray × Nat)))(k:Nat):(upto rs k).Pairwise fun a b=>a.i<b.i:=by
 induction k with
 | zero=>simp[upto]
 | succ k ih =>
   cases h:rs[k]? with
   | none =>
     have hl:=List.getElem?_eq_none_iff.1 h
     rw[upto_all rs (show rs.length<=k+1 by omega),<-upto_all rs hl]
     exact ih
   | some o =>
     rw[jE2 h]
     refine List.pairwise_append.2 ⟨ih,?_,fun a ha b hb=>?_⟩
     ·cases o <;> simp
     ·cases o with
      | none=>simp at hb
      | some d =>
        simp at hb
        subst hb
        exact (upto_mem ha).1
theorem cmD {T U:Ts}{dp:Nat->Nat}(hv:Inv T dp)(hD:Sme U.D T.D){ms:Nat->Nat}{k:Nat}{x:Cm}(h:x∈upto (rsD U.D ms) k):T.D[x.i]?=some (some (x.p,x.n))/\(x.i≠0->T.M x.p (ky x.n)=some (1,x.i)):=by
 have h1:=(upto_mem h).2
 rw[jOy] at h1
 have h2:T.D[x.i]?=some (some (x.p,x.n)):=by
  refine (hD _ _).1 ?_
  cases hu:U.D[x.i]? with
  | none=>rw[hu] at h1;cases h1
  | some o =>
    rw[hu] at h1
    cases o with
    | none=>cases h1
    | some d =>
      simp only[Option.map_some,Option.some.injEq,Prod.mk.injEq] at h1
      rw[<-h1.1,<-h1.2.1]
 exact ⟨h2,fun hi=>(hv.hM _ _ _).2 (.inl ⟨rfl,hi,_,h2,rfl⟩)⟩
theorem cmF {T U:Ts}{dp:Nat->Nat}(hv:Inv T dp)(hF:Sme U.F T.F){k:Nat}{x:Cm}(h:x∈upto U.F k):T.F[x.i]?=some (some (x.p,x.n,x.x))/\T.M x.p (ky x.n)=some (2,x.i):=by
 have h2:=(hF _ _).1 (upto_mem h).2
 exact ⟨h2,(hv.hM _ _ _).2 (.inr ⟨rfl,_,_,h2,rfl⟩)⟩
theorem jN5 {T U:Ts}(h:T.D=U.D):∀k p,jE3 T k p=jE3 U k p
 | 0,_=>rfl
 | k+1,p=>by
   by_cases hp:p=0
   ·subst hp;rw[jI4,jI4]
   ·cases hd:U.D[p]? with
    | none=>rw[jGj hp (fun d=>by rw[h,hd];exact fun e=>by cases e),jGj hp (fun d=>by rw[hd];exact fun e=>by cases e)]
    | some o=>cases o with
      | none=>rw[jGj hp (fun d=>by rw[h,hd];exact fun e=>by cases e),jGj hp (fun d=>by rw[hd];exact fun e=>by cases e)]
      | some d=>rw[jI5 hp (by rw[h];exact hd),jI5 hp hd,jN5 h k d.1]
theorem placeD {T U:Ts}{dp:Nat->Nat}(hv:Inv T dp)(hD:Sme U.D T.D)(hM:U.M=fun _ _=>none){ms:Nat->Nat}{k:Nat}{pre:List Cm}{x:Cm}(h:upto (rsD U.D ms) k=pre++[x])(hx:x.i≠0):jE3 (hgD U pre) 16 x.p=true/\(hgD U pre).M x.p (ky x.n)=none:=by
 have hmx:x∈upto (rsD U.D ms) k:=by rw[h];simp
 obtain ⟨c1,c2⟩:=cmD hv hD hmx
 have c3:=c2 hx
 refine ⟨?_,?_⟩
 ·rw[jN5 (jM1 U pre).2.2.2.1]
  exact jN8 hv hD 16 x.p (hv.hP _ _ _ c3) (by have:=(hv.d1 _ _ _ c3).1;omega)
 ·cases hm:(hgD U pre).M x.p (ky x.n) with
  | none=>rfl
  | some v =>
    exfalso
    rcases hgD_M U pre hm with h1 | ⟨y,h1,h2,h3,h4,h5⟩
    ·rw[hM] at h1;cases h1
    ·have hmy:y∈upto (rsD U.D ms) k:=by rw[h];exact List.mem_append_left _ h1
     have c4:=(cmD hv hD hmy).2 h2
     rw[h3,h4,c3] at c4
     injection c4 with c4
     injection c4 with _ c4
     have hp:=upto_lt (rsD U.D ms) k
     rw[h] at hp
     have:=(List.pairwise_append.1 hp).2.2 y h1 x (by simp)
     omega
theorem placeF {T U:Ts}{dp:Nat->Nat}(hv:Inv T dp)(hD:Sme U.D T.D)(hF:Sme U.F T.F)(hM:U.M=fun _ _=>none){ms:Nat->Nat}{j k:Nat}{pre:List Cm}{x:Cm}(h:upto U.F k=pre++[x]):jE3 (hgF (hgD U (upto (rsD U.D ms) j)) pre) 16 x.p=true/\(hgF (hgD U (upto (rsD U.D ms) j)) pre).M x.p (ky x.n)=none:=by
 have hmx:x∈upto U.F k:=by rw[h];simp
 obtain ⟨c1,c3⟩:=cmF hv hF hmx
 refine ⟨?_,?_⟩
 ·rw[jN5 ((hgF_stay _ pre).2.2.2.1.trans (jM1 U _).2.2.2.1)]
  exact jN8 hv hD 16 x.p (hv.hP _ _ _ c3) (by have:=(hv.d1 _ _ _ c3).1;omega)
 ·cases hm:(hgF (hgD U (upto (rsD U.D ms) j)) pre).M x.p (ky x.n) with
  | none=>rfl
  | some v =>
    exfalso
    rcases hgF_M _ pre hm with h1 | ⟨y,h1,h3,h4,h5⟩
    ·rcases hgD_M U _ h1 with h2 | ⟨y,h2,h3,h4,h5,h6⟩
     ·rw[hM] at h2;cases h2
     ·have c4:=(cmD hv hD h2).2 h3
      rw[h4,h5,c3] at c4
      injection c4 with c4
      injection c4 with c4 _
      omega
    ·have hmy:y∈upto U.F k:=by rw[h];exact List.mem_append_left _ h1
     have c4:=(cmF hv hF hmy).2
     rw[h3,h4,c3] at c4
     injection c4 with c4
     injection c4 with _ c4
     have hp:=upto_lt U.F k
     rw[h] at hp
     have:=(List.pairwise_append.1 hp).2.2 y h1 x (by simp)
     omega
theorem hang_some {T:Ts}{p q:Nat}{n:ByteArray}{k:Key}{v:Nat × Nat}(h:(T.M p k).isSome=true):((jA6 T q n (some v)).M p k).isSome=true:=by
 show (if p=q/\k=ky n then some v else T.M p k).isSome=true
 split
 ·rfl
 ·exact h
theorem hgD_keeps {p:Nat}{k:Key}:∀(l:List Cm) (T:Ts),(T.M p k).isSome=true->((hgD T l).M p k).isSome=true
 | [],_,h=>h
 | a :: l,T,h=>hgD_keeps l (hgD1 T a) (by unfold hgD1;split;exact h;exact hang_some h)
theorem jN6 {p:Nat}{k:Key}:∀(l:List Cm) (T:Ts),(T.M p k).isSome=true->((hgF T l).M p k).isSome=true
 | [],_,h=>h
 | a :: l,T,h=>jN6 l (jA6 T a.p a.n (some (2,a.i))) (hang_some h)
theorem hang_here (T:Ts)(p:Nat)(n:ByteArray)(v:Nat × Nat):((jA6 T p n (some v)).M p (ky n)).isSome=true:=by
 show (if p=p/\ky n=ky n then some v else T.M p (ky n)).isSome=true
 rw[if_pos ⟨rfl,rfl⟩]
 rfl
theorem hgD_has:∀(l:List Cm) (T:Ts) {x:Cm},x∈l->x.i≠0->((hgD T l).M x.p (ky x.n)).isSome=true
 | a :: l,T,x,h,hx=>by
   rcases List.mem_cons.1 h with rfl | h
   ·exact hgD_keeps l (hgD1 T x) (by unfold hgD1;rw[if_neg hx];exact hang_here _ _ _ _)
   ·exact hgD_has l (hgD1 T a) h hx
theorem hgF_has:∀(l:List Cm) (T:Ts) {x:Cm},x∈l->((hgF T l).M x.p (ky x.n)).isSome=true
 | a :: l,T,x,h=>by
   rcases List.mem_cons.1 h with rfl | h
   ·exact jN6 l _ (hang_here _ _ _ _)
   ·exact hgF_has l _ h
theorem load_M {T U:Ts}{dp:Nat->Nat}(hv:Inv T dp)(hD:Sme U.D T.D)(hF:Sme U.F T.F)(hM:U.M=fun _ _=>none)(ms:Nat->Nat):(hgF (hgD U (upto (rsD U.D ms) (rsD U.D ms).length)) (upto U.F U.F.length)).M=T.M:=by
 have fwd:∀p k v,(hgF (hgD U (upto (rsD U.D ms) (rsD U.D ms).length)) (upto U.F U.F.length)).M p k=some v->T.M p k=some v:=fun p k v h=>by
  rcases hgF_M _ _ h with h1 | ⟨y,h1,h3,h4,h5⟩
  ·rcases hgD_M U _ h1 with h2 | ⟨y,h2,h3,h4,h5,h6⟩
   ·rw[hM] at h2;cases h2
   ·rw[<-h4,<-h5,h6];exact (cmD hv hD h2).2 h3
  ·rw[<-h3,<-h4,h5];exact (cmF hv hF h1).2
 funext p k
 cases ht:T.M p k with
 | none =>
   cases hm:(hgF (hgD U (upto (rsD U.D ms) (rsD U.D ms).length)) (upto U.F U.F.length)).M p k with
   | none=>rfl
   | some v=>rw[fwd p k v hm] at ht;cases ht
 | some v =>
   have hs:((hgF (hgD U (upto (rsD U.D ms) (rsD U.D ms).length)) (upto U.F U.F.length)).M p k).isSome=true:=by
    rcases (hv.hM _ _ _).1 ht with ⟨a1,a2,n,a3,a4⟩ | ⟨a1,n,s,a3,a4⟩
    ·rw[<-a4]
     refine jN6 _ _ (hgD_has (x:=⟨v.2,p,n,ms v.2⟩) _ U (jM2 ?_ ?_) a2)
     ·rw[jOx];exact jAy ((hD _ _).2 a3)
     ·rw[jOy,(hD _ _).2 a3];rfl
    ·rw[<-a4]
     exact hgF_has (x:=⟨v.2,p,n,s⟩) _ _ (jM2 (jAy ((hF _ _).2 a3)) ((hF _ _).2 a3))
   obtain ⟨u,hu⟩:=Option.isSome_iff_exists.1 hs
   rw[hu,<-ht,fwd p k u hu]
theorem load_inv {T U:Ts}{dp:Nat->Nat}(hv:Inv T dp)(hD:Sme U.D T.D)(hF:Sme U.F T.F)(hM:U.M=T.M)(hdl:U.D.length<=U.dr)(hfl:U.F.length<=U.fr)(hs:∀(x p:Nat) (n:ByteArray) (s:Nat),T.F[x]?=some (some (p,n,s))->s<=U.most):Inv U dp:=by
 refine ⟨(hD _ _).2 hv.root,hdl,hfl,fun p k v=>?_,fun p k v h=>?_,fun p k v h=>hv.hN p k v (hM▸h),fun x p n s h=>hs x p n s ((hF _ _).1 h),hv.d0,fun p k v h=>hv.d1 p k v (hM▸h)⟩
 ·rw[hM,hv.hM]
  constructor
  ·rintro (⟨h1,h2,n,h3,h4⟩ | ⟨h1,n,s,h3,h4⟩)
   ·exact .inl ⟨h1,h2,n,(hD _ _).2 h3,h4⟩
   ·exact .inr ⟨h1,n,s,(hF _ _).2 h3,h4⟩
  ·rintro (⟨h1,h2,n,h3,h4⟩ | ⟨h1,n,s,h3,h4⟩)
   ·exact .inl ⟨h1,h2,n,(hD _ _).1 h3,h4⟩
   ·exact .inr ⟨h1,n,s,(hF _ _).1 h3,h4⟩
 ·obtain ⟨d,hd⟩:=hv.hP p k v (hM▸h)
  exact ⟨d,(hD _ _).2 hd⟩
end Go.Proofs.YtfnklhajafmooaaGreatDoor.Tr
namespace Go.Proofs.YtfnklhajafmooaaGreatDoor.Tr
open Go.RowKit Go.Lib Go.Deep Go.Shelf Go.Proofs.Tryz
structure Hg (w X W:World)(q:Nat)(dv fv:Value)(ld lf:Nat)(ms:Nat->Nat)(D0:List (Option (Nat × ByteArray)))(nn:Nat)(U:Ts):Prop where
 inn:Inn W q dv fv ld lf ms nn U
 only:Only (fp q dv fv D0 ms) X W
 box:W.heap[w.heap.size]?=some (.cells #[.pointer (some ⟨q,0,none⟩)] 92 (0,0))
 res:W.heap[w.heap.size+1]?=some (.cells #[.bool false] 4 (0,0))
theorem Inn.up {w:World}{q:Nat}{dv fv:Value}{ld lf:Nat}{ms:Nat->Nat}{nn N:Nat}{T:Ts}(hI:Inn w q dv fv ld lf ms nn T)(hN:nn<=N):Inn w q dv fv ld lf ms N T :=
 ⟨hI.hq,hI.hd,hI.hf,fun i d hd=>by
   obtain ⟨Dt,h2,h3⟩:=hI.hm i d hd
   exact ⟨Dt,h2.mono hN,h3⟩,hI.hi,hI.hld,hI.hlf,hI.ldl,hI.lfl,hI.dl,hI.fl,hI.lim⟩
theorem Hg.up {w X W:World}{q:Nat}{dv fv:Value}{ld lf:Nat}{ms:Nat->Nat}{D0:List (Option (Nat × ByteArray))}{nn N:Nat}{U:Ts}(h:Hg w X W q dv fv ld lf ms D0 nn U)(hN:nn<=N):Hg w X W q dv fv ld lf ms D0 N U:=⟨h.inn.up hN,h.only,h.box,h.res⟩
theorem Hg.step {w X W W':World}{q:Nat}{dv fv:Value}{ld lf:Nat}{ms:Nat->Nat}{D0:List (Option (Nat × ByteArray))}{nn N:Nat}{U U':Ts}(h:Hg w X W q dv fv ld lf ms D0 nn U)(hUD:U.D=D0){p:Nat}{dd:Nat × ByteArray}(hp:U.D[p]?=some (some dd))(hI:Inn W' q dv fv ld lf ms N U')(hg:W.grownBy W' (some (ms p)))(hlt:∀k,k∈fp q dv fv D0 ms->k<X.heap.size) :
 Hg w X W' q dv fv ld lf ms D0 N U'/\KeepsFrom X.heap.size W W'/\∀g,dv.ownBlock=some g\/fv.ownBlock=some g->Kg q g W W':=by
 have hmem:ms p∈fp q dv fv D0 ms:=jBx.2 (.inr (.inr (.inr ⟨p,dd,by rw[<-hUD];exact hp,rfl⟩)))
 obtain ⟨b1,b2,b3,b4⟩:=h.inn.blocks
 obtain ⟨c1,c2,c3⟩:=b4 p dd hp
 obtain ⟨Dt,hm,-⟩:=h.inn.hm p dd hp
 obtain ⟨es,cl,hmap⟩:=jDq hm
 have hne:∀{k:Nat} {A:Array Value} {t:TypeId},W.heap[k]?=some (.cells A t (0,0))->W'.heap[k]?=W.heap[k]?:=fun {k A t} hk=>hg.block k (jAv hk) (fun e=>by
  injection e with e
  rw[e,hmap] at hk
  cases hk)
 refine ⟨⟨hI,⟨hg.os.trans h.only.os,hg.tape.trans h.only.tape,hg.output.trans h.only.output,Qk h.only.size hg.size,fun k hk hkF=>(hg.block k (Qx hk h.only.size) (fun e=>by injection e with e;subst e;exact hkF hmem)).trans (h.only.block k hk hkF)⟩,(hne h.box).trans h.box,(hne h.res).trans h.res⟩,KeepsFrom.of_grownBy hg (fun j e=>by injection e with e;rw[<-e];exact hlt _ hmem),fun g hgo=>?_⟩
 refine ⟨hg.size,hne h.inn.hq,?_⟩
 rcases hgo with hgo | hgo
 ·obtain ⟨c,hc⟩:=jA1 h.inn.hd hgo
  exact hne hc
 ·obtain ⟨c,hc⟩:=jA1 h.inn.hf hgo
  exact hne hc
theorem Hg.grow {w X W W':World}{q:Nat}{dv fv:Value}{ld lf:Nat}{ms:Nat->Nat}{D0:List (Option (Nat × ByteArray))}{nn:Nat}{U:Ts}{row:Option Nat}(h:Hg w X W q dv fv ld lf ms D0 nn U)(hUD:U.D=D0)(hlt:∀k,k∈fp q dv fv D0 ms->k<X.heap.size)(hx:w.heap.size+1<X.heap.size)(hg:W.grownBy W' row)(hr:∀r,row=some r->X.heap.size<=r):Hg w X W' q dv fv ld lf ms D0 nn U:=by
 have hk:∀k,k<X.heap.size->W'.heap[k]?=W.heap[k]?:=fun k hk=>hg.block k (Qx hk h.only.size) (fun e=>by have:=hr k e.symm;omega)
 refine ⟨h.inn.keep fun k hkf=>hk k (hlt k (by rw[<-hUD];exact hkf)),⟨hg.os.trans h.only.os,hg.tape.trans h.only.tape,hg.output.trans h.only.output,Qk h.only.size hg.size,fun k hk1 hkF=>(hk k hk1).trans (h.only.block k hk1 hkF)⟩,(hk _ (by omega)).trans h.box,(hk _ hx).trans h.res⟩
theorem Hg.own {w X:World}{q:Nat}{dv fv:Value}{ld lf:Nat}{ms:Nat->Nat}{D0:List (Option (Nat × ByteArray))}{β:Type}(nn:β->Nat)(U:β->Ts)(hUD:∀b,(U b).D=D0)(hlt:∀k,k∈fp q dv fv D0 ms->k<X.heap.size)(hx:w.heap.size+1<X.heap.size):OwnFrom X.heap.size (fun b W=>Hg w X W q dv fv ld lf ms D0 (nn b) (U b)) :=
 fun b _ _ _ h hg hr=>h.grow (hUD b) hlt hx hg fun r e=>(hr r e).1
theorem settle_hg (w X W:World)(q:Nat)(dv fv:Value)(ld lf:Nat)(ms:Nat->Nat)(D0:List (Option (Nat × ByteArray)))(nn:Nat)(U:Ts)(h:Hg w X W q dv fv ld lf ms D0 nn U)(kd no p:Nat)(n:ByteArray)(h0:tk U 0)(hn:n.size<=maxLen)(hnn:nn<maxLen)(hr:jE3 U 16 p=true)(hkd:∀v,U.M p (ky n)=some v->v.1≠0)(V:World)(hV:Below W.heap.size W V) :
 Calls prog 146 #[.pointer (some ⟨q,0,none⟩),.agg #[.int .i64 (kd:Int),.int .i64 (no:Int)],.agg #[.int .i64 (p:Int),.string n]] V fun e w'=>(e=.returned (.bool true)/\U.M p (ky n)=none/\Inn w' q dv fv ld lf ms (nn+1) (jA6 U p n (some (kd,no)))/\V.grownBy w' (some (ms p)))\/(e=.returned (.bool false)/\U.M p (ky n)≠none/\Below V.heap.size V w'):=by
 have hI:=h.inn.below hV
 cases hm:U.M p (ky n) with
 | none =>
   refine (settleI_any V q dv fv ld lf ms nn U hI kd no p n h0 hn hnn hr hm).mono ?_
   rintro e w' ⟨h1,h2,h3⟩
   exact .inl ⟨h1,rfl,h2,h3⟩
 | some v =>
   refine (settleT_any V q _ nn U ⟨dv,fv,ld,lf,ms,rfl,hI⟩ kd no p n h0 hn hr v hm (hkd v hm)).mono ?_
   rintro e w' ⟨h1,h2⟩
   exact .inr ⟨h1,by simp,h2⟩
