import Derived.Test.YtfnklhajafmooaaGreatDoorG11
set_option maxHeartbeats 16000000
set_option maxRecDepth 20000
namespace Go.Proofs.YtfnklhajafmooaaGreatDoor.Tr
open Go.RowKit Go.Lib Go.Deep Go.Proofs.Tryz
theorem askedX (w:World)(f:FuncId)(ok oa on:Int)(op ot od:ByteArray)(hk1:1<=ok)(hk2:ok<=10)(b1 b2 b3:Bool)(hrow:Row ok f b1 b2 b3)(E:Int)(hc:(b1=false/\b2=false/\b3=false/\E=(if Pa.jA9 op≠0 then Pa.jA9 op else 0))\/(b1=false/\b2=true/\b3=true/\E=(if Pa.jA9 op≠0 then Pa.jA9 op else if oa<0\/on<0 then 1 else 0))\/(b1=false/\b2=true/\b3=false/\E=(if Pa.jA9 op≠0 then Pa.jA9 op else if oa<0 then 1 else 0))\/(b1=false/\b2=false/\b3=true/\E=(if Pa.jA9 op≠0 then Pa.jA9 op else if on<0 then 1 else 0))\/(b1=true/\b2=false/\b3=false/\E=(if Pa.jA9 op≠0 then Pa.jA9 op else if Pa.jA9 ot≠0 then Pa.jA9 ot else 0))) :
 Calls prog 34 #[.agg #[.int .i64 ok,.string op,.string ot,.int .i64 oa,.int .i64 on,.string od]] w fun e w'=>AskP w w' e E f b1 b2 b3 ok oa on op ot od:=by
 obtain ⟨W,hW,hb,kp,k1,k2⟩:=jC5 w #[.int .i64 ok,.string op,.string ot,.int .i64 oa,.int .i64 on,.string od] ZO ZR 72 99 101
 have HBW:Hid (Bs w W #[.int .i64 ok,.string op,.string ot,.int .i64 oa,.int .i64 on,.string od]):=⟨kp,k1,k2,hb⟩
 have HCD:Hid (∀V,Below W.heap.size W V->V.cell? ⟨w.heap.size,0,none⟩=some (.int .i64 ok)/\V.cell? ⟨w.heap.size,1,none⟩=some (.string op)/\V.cell? ⟨w.heap.size,2,none⟩=some (.string ot)/\V.cell? ⟨w.heap.size,3,none⟩=some (.int .i64 oa)/\V.cell? ⟨w.heap.size,4,none⟩=some (.int .i64 on)/\V.cell? ⟨w.heap.size,5,none⟩=some (.string od)):=fun V hb=>jB4 ((hb.block _ (jAv kp)).trans kp)
 obtain ⟨p0,p1,p2,p3,p4,p5⟩:=jB4 kp
 obtain ⟨OA,hOA⟩:∃OA,opA=OA:=⟨_,rfl⟩
 have HOPS:Hid (∀V,Calls prog 61 #[] V fun e w'=>e=.returned (.agg OA)/\Below V.heap.size V w'):=fun V=>by rw[<-hOA];exact operations_any V
 have HROW:Hid (∀V:World,(Instr.index 156 (.agg OA) (.int .i64 ok)).run prog V=.ok (.agg #[.func (.func f) #[] #[],.bool b1,.bool b2,.bool b3]) V):=fun V=>by rw[<-hOA];exact hrow V
 obtain ⟨E1,hE1⟩:∃E1,Pa.jA9 op=E1:=⟨_,rfl⟩
 obtain ⟨L1,hL1⟩:∃L1,Pa.jB3 op=L1:=⟨_,rfl⟩
 have HP1:Hid (∀V,Calls prog 62 #[.string op] V fun e w'=>∃sa n sc,e=.returned (.tuple #[.slice sa n sc,.int .i64 E1])/\Hid (Pa.Own w' V.heap.size (.slice sa n sc) L1)/\Below V.heap.size V w'):=fun V=>(Pa.parse_any op V).mono fun e w' ⟨⟨u,h1,h2⟩,h3⟩=>by
  rw[hE1] at h1
  rw[hL1] at h2
  obtain ⟨a,cap,rfl⟩:=h2.len
  exact ⟨_,_,_,h1,h2,h3⟩
 obtain ⟨E2,hE2⟩:∃E2,Pa.jA9 ot=E2:=⟨_,rfl⟩
 obtain ⟨L2,hL2⟩:∃L2,Pa.jB3 ot=L2:=⟨_,rfl⟩
 have HPT:Hid (∀V,Calls prog 62 #[.string ot] V fun e w'=>∃sa n sc,e=.returned (.tuple #[.slice sa n sc,.int .i64 E2])/\Hid (Pa.Own w' V.heap.size (.slice sa n sc) L2)/\Below V.heap.size V w'):=fun V=>(Pa.parse_any ot V).mono fun e w' ⟨⟨u,h1,h2⟩,h3⟩=>by
  rw[hE2] at h1
  rw[hL2] at h2
  obtain ⟨a,cap,rfl⟩:=h2.len
  exact ⟨_,_,_,h1,h2,h3⟩
 rw[hE1,hE2] at hc
 have HC:Hid ((b1=false/\b2=false/\b3=false/\E=(if E1≠0 then E1 else 0))\/(b1=false/\b2=true/\b3=true/\E=(if E1≠0 then E1 else if oa<0\/on<0 then 1 else 0))\/(b1=false/\b2=true/\b3=false/\E=(if E1≠0 then E1 else if oa<0 then 1 else 0))\/(b1=false/\b2=false/\b3=true/\E=(if E1≠0 then E1 else if on<0 then 1 else 0))\/(b1=true/\b2=false/\b3=false/\E=(if E1≠0 then E1 else if E2≠0 then E2 else 0))):=hc
 have HLA:Hid (Pa.jB3 op=L1):=hL1
 have HLB:Hid (Pa.jB3 op=L1/\Pa.jB3 ot=L2):=⟨hL1,hL2⟩
 have h1':¬ok<1:=by omega
 have h2':¬10<ok:=by omega
 have h3':¬ok > 10:=by omega
 clear hrow hOA hb kp k1 k2 hE1 hL1 hE2 hL2 hc
 unfold ZO ZR at hW
 go_enter func34,ntmps34
 go_upto_region 3 with fail
 go_cut [5,6] (fun u v wx=>∃g5 g6,u=.pointer (some ⟨g5,0,none⟩)/\v=.pointer (some ⟨g6,0,none⟩)/\Hid (Lk W wx g5 g6 #[.func (.func f) #[] #[],.bool b1,.bool b2,.bool b3] #[.int .i64 ok,.string op,.string ot,.int .i64 oa,.int .i64 on,.string od,.slice none 0 0,.slice none 0 0]))
 case first =>
  have hSx:(W.drew.cell? ⟨w.heap.size,0,none⟩=some (.int .i64 ok)/\W.drew.cell? ⟨w.heap.size,1,none⟩=some (.string op)/\W.drew.cell? ⟨w.heap.size,2,none⟩=some (.string ot)/\W.drew.cell? ⟨w.heap.size,3,none⟩=some (.int .i64 oa)/\W.drew.cell? ⟨w.heap.size,4,none⟩=some (.int .i64 on)/\W.drew.cell? ⟨w.heap.size,5,none⟩=some (.string od)):=⟨p0,p1,p2,p3,p4,p5⟩
  refine wp_region_held_drew (S:=fun W=>W.cell? ⟨w.heap.size,0,none⟩=some (.int .i64 ok)/\W.cell? ⟨w.heap.size,1,none⟩=some (.string op)/\W.cell? ⟨w.heap.size,2,none⟩=some (.string ot)/\W.cell? ⟨w.heap.size,3,none⟩=some (.int .i64 oa)/\W.cell? ⟨w.heap.size,4,none⟩=some (.int .i64 on)/\W.cell? ⟨w.heap.size,5,none⟩=some (.string od)) (by kernel_rfl) hSx ?_
  intro hS
  clear hSx p0 p1 p2 p3 p4 p5 hW
  have HB:Hid (Below W.heap.size W W.drew):=(Qq _ _).drew
  revert hS HB
  generalize W.drew=V
  intro hS HB
  refine tQ 1 ⟨some 19,.fieldAddr 72 (.tmp 1) 0,_,_,_,none⟩ (.pointer (some ⟨w.heap.size,0,none⟩)) rfl hS ?_
  (try simp only[Act.put,sA,sB,sC])
  refine tQ 2 ⟨some 20,.load 3 (.tmp 19),_,_,_,none⟩ (.int .i64 ok) rfl hS ?_ (Or.inl ⟨by rfl,by intro x hx;obtain ⟨h0,h1,h2,h3,h4,h5⟩:=hx;go_simp⟩)
  (try simp only[Act.put,sA,sB,sC])
  refine tQ 4 ⟨some 22,.load 72 (.tmp 1),_,_,_,none⟩ (.agg #[.int .i64 ok,.string op,.string ot,.int .i64 oa,.int .i64 on,.string od]) rfl hS ?_ (Or.inl ⟨by rfl,by intro x hx;obtain ⟨h0,h1,h2,h3,h4,h5⟩:=hx;go_simp⟩)
  (try simp only[Act.put,sA,sB,sC])
  refine tQ 5 ⟨some 23,.build 101 #[(0,.tmp 22)],_,_,_,none⟩ (.agg #[.int .i64 ok,.string op,.string ot,.int .i64 oa,.int .i64 on,.string od,.slice none 0 0,.slice none 0 0]) rfl hS ?_
  (try simp only[Act.put,sA,sB,sC])
  refine wpAnyH_ready (rs:=[0,6,7]) (by kernel_rfl) (by simp) ?_
  refine AllReadyH.cons (o:={ dst:=some 18,op:=.call { callee:=.value (.func 61),args:=#[],argTypes:=#[] },type:=_,pos:=_,after:=_,guard:=none }) rfl (fun K hK=>?_) (AllReadyH.cons (o:=⟨some 5,.alloc 99,_,_,_,none⟩) rfl (fun K hK=>?_) (AllReadyH.cons (o:=⟨some 6,.alloc 101,_,_,_,none⟩) rfl (fun K hK=>?_) AllReadyH.nil))
  ·go_simp
   refine (HOPS.out _).mono ?_
   rintro e W2 ⟨rfl,hbA⟩
   have HB2:Hid (Below W.heap.size W W2):=jBq hbA HB.out
   have hS2:=HCD.out _ HB2.out
   refine hK.out _ _ hS2 (fun _=>?_)
   clear hK K hS HB hbA
   (try simp only[Act.put,sA,sB,sC])
   revert HB2 hS2
   generalize W2=V
   intro HB hS
   refine tQ 3 ⟨some 21,.index 156 (.tmp 18) (.tmp 20),_,_,_,none⟩ (.agg #[.func (.func f) #[] #[],.bool b1,.bool b2,.bool b3]) rfl hS ?_ (Or.inl ⟨by rfl,by intro x _;have h0:=HROW.out x;go_simp⟩)
   (try simp only[Act.put,sA,sB,sC])
   refine wpAnyH_ready (rs:=[6,7]) (by kernel_rfl) (by simp) ?_
   refine AllReadyH.cons (o:=⟨some 5,.alloc 99,_,_,_,none⟩) rfl (fun K hK=>?_) (AllReadyH.cons (o:=⟨some 6,.alloc 101,_,_,_,none⟩) rfl (fun K hK=>?_) AllReadyH.nil)
   ·go_simp
    have hbA:Below V.heap.size V (V.alloc (.cells ZO 99)):=(Qq _ _).alloc (Qj _) _
    have HB2:Hid (Below W.heap.size W (V.alloc (.cells ZO 99))):=jBq hbA HB.out
    have hS2:=HCD.out _ HB2.out
    have HT2:Hid ((V.alloc (.cells ZO 99)).heap[V.heap.size]?=some (.cells ZO 99 (0,0))/\W.heap.size<=V.heap.size):=⟨jA2 V _,HB.out.size⟩
    refine hK.out _ _ hS2 (fun _=>?_)
    clear hK K hS HB hbA
    (try simp only[Act.put,sA,sB,sC])
    revert HB2 hS2 HT2
    generalize (V.alloc (.cells ZO 99))=V2
    generalize V.heap.size=g5
    intro HB hS HT
    revert HB hS HT
    generalize V2=V
    intro HB hS HT
    refine wpAnyH_ready (rs:=[7]) (by kernel_rfl) (by simp) ?_
    refine AllReadyH.cons (o:=⟨some 6,.alloc 101,_,_,_,none⟩) rfl (fun K hK=>?_) AllReadyH.nil
    go_simp
    have hbA:Below V.heap.size V (V.alloc (.cells ZR 101)):=(Qq _ _).alloc (Qj _) _
    have HB2:Hid (Below W.heap.size W (V.alloc (.cells ZR 101))):=jBq hbA HB.out
    have hS2:=HCD.out _ HB2.out
    have HT2:Hid ((V.alloc (.cells ZR 101)).heap[g5]?=some (.cells ZO 99 (0,0))/\W.heap.size<=g5):=⟨(hbA.block _ (jAv HT.out.1)).trans HT.out.1,HT.out.2⟩
    have HP2:Hid ((V.alloc (.cells ZR 101)).heap[V.heap.size]?=some (.cells ZR 101 (0,0))/\W.heap.size<=V.heap.size):=⟨jA2 V _,HB.out.size⟩
    refine hK.out _ _ hS2 (fun _=>?_)
    clear hK K hS HB hbA HT
    (try simp only[Act.put,sA,sB,sC])
    revert HB2 hS2 HT2 HP2
    generalize (V.alloc (.cells ZR 101))=V2
    generalize V.heap.size=g6
    intro HB hS HT HP
    revert HB hS HT HP
    generalize V2=V
    intro HB hS HT HP
    refine wpAnyH_ready (rs:=[8]) (by kernel_rfl) (by simp) ?_
    refine AllReadyH.cons (o:=⟨none,.store 99 (.tmp 5) (.tmp 21),_,_,_,none⟩) rfl (fun K hK=>?_) AllReadyH.nil
    refine jA5 rfl 99 (.tmp 5) (.tmp 21) rfl g5 #[.func (.func f) #[] #[],.bool b1,.bool b2,.bool b3] (by simp[Act.eval]) (by simp[Act.eval]) 99 _ HT.out.1 jCy rfl (by simp[Value.oneCell']) ?_
    have HB2:Hid (Below W.heap.size W (V.setRow g5 #[.func (.func f) #[] #[],.bool b1,.bool b2,.bool b3])):=jAx HB.out HT.out.2 _
    have hS2:=HCD.out _ HB2.out
    have HT2:Hid ((V.setRow g5 #[.func (.func f) #[] #[],.bool b1,.bool b2,.bool b3]).heap[g5]?=some (.cells #[.func (.func f) #[] #[],.bool b1,.bool b2,.bool b3] 99 (0,0))/\W.heap.size<=g5):=⟨Qa _ _ _ _ _ _ HT.out.1,HT.out.2⟩
    have HP2:Hid ((V.setRow g5 #[.func (.func f) #[] #[],.bool b1,.bool b2,.bool b3]).heap[g6]?=some (.cells ZR 101 (0,0))/\W.heap.size<=g6):=⟨(Qz _ _ _ _ (jKj HP.out.1 HT.out.1 (by decide))).trans HP.out.1,HP.out.2⟩
    refine hK.out _ _ hS2 (fun _=>?_)
    clear hK K hS HT HP HB
    (try simp only[Act.put])
    revert HB2 hS2 HT2 HP2
    generalize (V.setRow g5 #[.func (.func f) #[] #[],.bool b1,.bool b2,.bool b3])=V2
    intro HB hS HT HP
    revert HB hS HT HP
    generalize V2=V
    intro HB hS HT HP
    refine wpAnyH_ready (rs:=[9]) (by kernel_rfl) (by simp) ?_
    refine AllReadyH.cons (o:=⟨none,.store 101 (.tmp 6) (.tmp 23),_,_,_,none⟩) rfl (fun K hK=>?_) AllReadyH.nil
    refine jA5 rfl 101 (.tmp 6) (.tmp 23) rfl g6 #[.int .i64 ok,.string op,.string ot,.int .i64 oa,.int .i64 on,.string od,.slice none 0 0,.slice none 0 0] (by simp[Act.eval]) (by simp[Act.eval]) 101 _ HP.out.1 jCz rfl (by simp[Value.oneCell']) ?_
    have HB2:Hid (Below W.heap.size W (V.setRow g6 #[.int .i64 ok,.string op,.string ot,.int .i64 oa,.int .i64 on,.string od,.slice none 0 0,.slice none 0 0])):=jAx HB.out HP.out.2 _
    have hS2:=HCD.out _ HB2.out
    have HT2:Hid ((V.setRow g6 #[.int .i64 ok,.string op,.string ot,.int .i64 oa,.int .i64 on,.string od,.slice none 0 0,.slice none 0 0]).heap[g5]?=some (.cells #[.func (.func f) #[] #[],.bool b1,.bool b2,.bool b3] 99 (0,0))/\W.heap.size<=g5):=⟨(Qz _ _ _ _ (jKj HT.out.1 HP.out.1 (by decide))).trans HT.out.1,HT.out.2⟩
    have HP2:Hid ((V.setRow g6 #[.int .i64 ok,.string op,.string ot,.int .i64 oa,.int .i64 on,.string od,.slice none 0 0,.slice none 0 0]).heap[g6]?=some (.cells #[.int .i64 ok,.string op,.string ot,.int .i64 oa,.int .i64 on,.string od,.slice none 0 0,.slice none 0 0] 101 (0,0))/\W.heap.size<=g6):=⟨Qa _ _ _ _ _ _ HP.out.1,HP.out.2⟩
    refine hK.out _ _ hS2 (fun _=>?_)
    clear hK K hS HT HP HB
    (try simp only[Act.put])
    revert HB2 hS2 HT2 HP2
    generalize (V.setRow g6 #[.int .i64 ok,.string op,.string ot,.int .i64 oa,.int .i64 on,.string od,.slice none 0 0,.slice none 0 0])=V2
    intro HB hS HT HP
    revert HB hS HT HP
    generalize V2=V
    intro HB hS HT HP
    refine wpAnyH_done (by kernel_rfl) ?_ _
    go_wp2_with fail
    go_meet
    exact ⟨g5,g6,rfl,rfl,⟨HT.out.1,HP.out.1,HT.out.2,HP.out.2,HB.out⟩⟩
   ·go_simp
    have hbA:Below V.heap.size V (V.alloc (.cells ZR 101)):=(Qq _ _).alloc (Qj _) _
    have HB2:Hid (Below W.heap.size W (V.alloc (.cells ZR 101))):=jBq hbA HB.out
    have hS2:=HCD.out _ HB2.out
    have HP2:Hid ((V.alloc (.cells ZR 101)).heap[V.heap.size]?=some (.cells ZR 101 (0,0))/\W.heap.size<=V.heap.size):=⟨jA2 V _,HB.out.size⟩
    refine hK.out _ _ hS2 (fun _=>?_)
    clear hK K hS HB hbA
    (try simp only[Act.put,sA,sB,sC])
    revert HB2 hS2 HP2
    generalize (V.alloc (.cells ZR 101))=V2
    generalize V.heap.size=g6
    intro HB hS HP
    revert HB hS HP
    generalize V2=V
    intro HB hS HP
    refine wpAnyH_ready (rs:=[6]) (by kernel_rfl) (by simp) ?_
    refine AllReadyH.cons (o:=⟨some 5,.alloc 99,_,_,_,none⟩) rfl (fun K hK=>?_) AllReadyH.nil
    go_simp
    have hbA:Below V.heap.size V (V.alloc (.cells ZO 99)):=(Qq _ _).alloc (Qj _) _
    have HB2:Hid (Below W.heap.size W (V.alloc (.cells ZO 99))):=jBq hbA HB.out
    have hS2:=HCD.out _ HB2.out
    have HP2:Hid ((V.alloc (.cells ZO 99)).heap[g6]?=some (.cells ZR 101 (0,0))/\W.heap.size<=g6):=⟨(hbA.block _ (jAv HP.out.1)).trans HP.out.1,HP.out.2⟩
    have HT2:Hid ((V.alloc (.cells ZO 99)).heap[V.heap.size]?=some (.cells ZO 99 (0,0))/\W.heap.size<=V.heap.size):=⟨jA2 V _,HB.out.size⟩
    refine hK.out _ _ hS2 (fun _=>?_)
    clear hK K hS HB hbA HP
    (try simp only[Act.put,sA,sB,sC])
    revert HB2 hS2 HP2 HT2
    generalize (V.alloc (.cells ZO 99))=V2
    generalize V.heap.size=g5
    intro HB hS HP HT
    revert HB hS HP HT
    generalize V2=V
    intro HB hS HP HT
    refine wpAnyH_ready (rs:=[8]) (by kernel_rfl) (by simp) ?_
    refine AllReadyH.cons (o:=⟨none,.store 99 (.tmp 5) (.tmp 21),_,_,_,none⟩) rfl (fun K hK=>?_) AllReadyH.nil
    refine jA5 rfl 99 (.tmp 5) (.tmp 21) rfl g5 #[.func (.func f) #[] #[],.bool b1,.bool b2,.bool b3] (by simp[Act.eval]) (by simp[Act.eval]) 99 _ HT.out.1 jCy rfl (by simp[Value.oneCell']) ?_
    have HB2:Hid (Below W.heap.size W (V.setRow g5 #[.func (.func f) #[] #[],.bool b1,.bool b2,.bool b3])):=jAx HB.out HT.out.2 _
    have hS2:=HCD.out _ HB2.out
    have HT2:Hid ((V.setRow g5 #[.func (.func f) #[] #[],.bool b1,.bool b2,.bool b3]).heap[g5]?=some (.cells #[.func (.func f) #[] #[],.bool b1,.bool b2,.bool b3] 99 (0,0))/\W.heap.size<=g5):=⟨Qa _ _ _ _ _ _ HT.out.1,HT.out.2⟩
    have HP2:Hid ((V.setRow g5 #[.func (.func f) #[] #[],.bool b1,.bool b2,.bool b3]).heap[g6]?=some (.cells ZR 101 (0,0))/\W.heap.size<=g6):=⟨(Qz _ _ _ _ (jKj HP.out.1 HT.out.1 (by decide))).trans HP.out.1,HP.out.2⟩
    refine hK.out _ _ hS2 (fun _=>?_)
    clear hK K hS HT HP HB
    (try simp only[Act.put])
    revert HB2 hS2 HT2 HP2
    generalize (V.setRow g5 #[.func (.func f) #[] #[],.bool b1,.bool b2,.bool b3])=V2
    intro HB hS HT HP
    revert HB hS HT HP
    generalize V2=V
    intro HB hS HT HP
    refine wpAnyH_ready (rs:=[9]) (by kernel_rfl) (by simp) ?_
    refine AllReadyH.cons (o:=⟨none,.store 101 (.tmp 6) (.tmp 23),_,_,_,none⟩) rfl (fun K hK=>?_) AllReadyH.nil
    refine jA5 rfl 101 (.tmp 6) (.tmp 23) rfl g6 #[.int .i64 ok,.string op,.string ot,.int .i64 oa,.int .i64 on,.string od,.slice none 0 0,.slice none 0 0] (by simp[Act.eval]) (by simp[Act.eval]) 101 _ HP.out.1 jCz rfl (by simp[Value.oneCell']) ?_
    have HB2:Hid (Below W.heap.size W (V.setRow g6 #[.int .i64 ok,.string op,.string ot,.int .i64 oa,.int .i64 on,.string od,.slice none 0 0,.slice none 0 0])):=jAx HB.out HP.out.2 _
    have hS2:=HCD.out _ HB2.out
    have HT2:Hid ((V.setRow g6 #[.int .i64 ok,.string op,.string ot,.int .i64 oa,.int .i64 on,.string od,.slice none 0 0,.slice none 0 0]).heap[g5]?=some (.cells #[.func (.func f) #[] #[],.bool b1,.bool b2,.bool b3] 99 (0,0))/\W.heap.size<=g5):=⟨(Qz _ _ _ _ (jKj HT.out.1 HP.out.1 (by decide))).trans HT.out.1,HT.out.2⟩
    have HP2:Hid ((V.setRow g6 #[.int .i64 ok,.string op,.string ot,.int .i64 oa,.int .i64 on,.string od,.slice none 0 0,.slice none 0 0]).heap[g6]?=some (.cells #[.int .i64 ok,.string op,.string ot,.int .i64 oa,.int .i64 on,.string od,.slice none 0 0,.slice none 0 0] 101 (0,0))/\W.heap.size<=g6):=⟨Qa _ _ _ _ _ _ HP.out.1,HP.out.2⟩
    refine hK.out _ _ hS2 (fun _=>?_)
    clear hK K hS HT HP HB
    (try simp only[Act.put])
    revert HB2 hS2 HT2 HP2
    generalize (V.setRow g6 #[.int .i64 ok,.string op,.string ot,.int .i64 oa,.int .i64 on,.string od,.slice none 0 0,.slice none 0 0])=V2
    intro HB hS HT HP
    revert HB hS HT HP
    generalize V2=V
    intro HB hS HT HP
    refine wpAnyH_done (by kernel_rfl) ?_ _
    go_wp2_with fail
    go_meet
    exact ⟨g5,g6,rfl,rfl,⟨HT.out.1,HP.out.1,HT.out.2,HP.out.2,HB.out⟩⟩
  ·go_simp
   have hbA:Below V.heap.size V (V.alloc (.cells ZO 99)):=(Qq _ _).alloc (Qj _) _
   have HB2:Hid (Below W.heap.size W (V.alloc (.cells ZO 99))):=jBq hbA HB.out
   have hS2:=HCD.out _ HB2.out
   have HT2:Hid ((V.alloc (.cells ZO 99)).heap[V.heap.size]?=some (.cells ZO 99 (0,0))/\W.heap.size<=V.heap.size):=⟨jA2 V _,HB.out.size⟩
   refine hK.out _ _ hS2 (fun _=>?_)
   clear hK K hS HB hbA
   (try simp only[Act.put,sA,sB,sC])
   revert HB2 hS2 HT2
   generalize (V.alloc (.cells ZO 99))=V2
   generalize V.heap.size=g5
   intro HB hS HT
   revert HB hS HT
   generalize V2=V
   intro HB hS HT
   refine wpAnyH_ready (rs:=[0,7]) (by kernel_rfl) (by simp) ?_
   refine AllReadyH.cons (o:={ dst:=some 18,op:=.call { callee:=.value (.func 61),args:=#[],argTypes:=#[] },type:=_,pos:=_,after:=_,guard:=none }) rfl (fun K hK=>?_) (AllReadyH.cons (o:=⟨some 6,.alloc 101,_,_,_,none⟩) rfl (fun K hK=>?_) AllReadyH.nil)
   ·go_simp
    refine (HOPS.out _).mono ?_
    rintro e W2 ⟨rfl,hbA⟩
    have HB2:Hid (Below W.heap.size W W2):=jBq hbA HB.out
    have hS2:=HCD.out _ HB2.out
    have HT2:Hid (W2.heap[g5]?=some (.cells ZO 99 (0,0))/\W.heap.size<=g5):=⟨(hbA.block _ (jAv HT.out.1)).trans HT.out.1,HT.out.2⟩
    refine hK.out _ _ hS2 (fun _=>?_)
    clear hK K hS HB hbA HT
    (try simp only[Act.put,sA,sB,sC])
    revert HB2 hS2 HT2
    generalize W2=V
    intro HB hS HT
    refine tQ 3 ⟨some 21,.index 156 (.tmp 18) (.tmp 20),_,_,_,none⟩ (.agg #[.func (.func f) #[] #[],.bool b1,.bool b2,.bool b3]) rfl hS ?_ (Or.inl ⟨by rfl,by intro x _;have h0:=HROW.out x;go_simp⟩)
    (try simp only[Act.put,sA,sB,sC])
    refine wpAnyH_ready (rs:=[7]) (by kernel_rfl) (by simp) ?_
    refine AllReadyH.cons (o:=⟨some 6,.alloc 101,_,_,_,none⟩) rfl (fun K hK=>?_) AllReadyH.nil
    go_simp
    have hbA:Below V.heap.size V (V.alloc (.cells ZR 101)):=(Qq _ _).alloc (Qj _) _
    have HB2:Hid (Below W.heap.size W (V.alloc (.cells ZR 101))):=jBq hbA HB.out
    have hS2:=HCD.out _ HB2.out
    have HT2:Hid ((V.alloc (.cells ZR 101)).heap[g5]?=some (.cells ZO 99 (0,0))/\W.heap.size<=g5):=⟨(hbA.block _ (jAv HT.out.1)).trans HT.out.1,HT.out.2⟩
    have HP2:Hid ((V.alloc (.cells ZR 101)).heap[V.heap.size]?=some (.cells ZR 101 (0,0))/\W.heap.size<=V.heap.size):=⟨jA2 V _,HB.out.size⟩
    refine hK.out _ _ hS2 (fun _=>?_)
    clear hK K hS HB hbA HT
    (try simp only[Act.put,sA,sB,sC])
    revert HB2 hS2 HT2 HP2
    generalize (V.alloc (.cells ZR 101))=V2
    generalize V.heap.size=g6
    intro HB hS HT HP
    revert HB hS HT HP
    generalize V2=V
    intro HB hS HT HP
    refine wpAnyH_ready (rs:=[8]) (by kernel_rfl) (by simp) ?_
    refine AllReadyH.cons (o:=⟨none,.store 99 (.tmp 5) (.tmp 21),_,_,_,none⟩) rfl (fun K hK=>?_) AllReadyH.nil
    refine jA5 rfl 99 (.tmp 5) (.tmp 21) rfl g5 #[.func (.func f) #[] #[],.bool b1,.bool b2,.bool b3] (by simp[Act.eval]) (by simp[Act.eval]) 99 _ HT.out.1 jCy rfl (by simp[Value.oneCell']) ?_
    have HB2:Hid (Below W.heap.size W (V.setRow g5 #[.func (.func f) #[] #[],.bool b1,.bool b2,.bool b3])):=jAx HB.out HT.out.2 _
    have hS2:=HCD.out _ HB2.out
    have HT2:Hid ((V.setRow g5 #[.func (.func f) #[] #[],.bool b1,.bool b2,.bool b3]).heap[g5]?=some (.cells #[.func (.func f) #[] #[],.bool b1,.bool b2,.bool b3] 99 (0,0))/\W.heap.size<=g5):=⟨Qa _ _ _ _ _ _ HT.out.1,HT.out.2⟩
    have HP2:Hid ((V.setRow g5 #[.func (.func f) #[] #[],.bool b1,.bool b2,.bool b3]).heap[g6]?=some (.cells ZR 101 (0,0))/\W.heap.size<=g6):=⟨(Qz _ _ _ _ (jKj HP.out.1 HT.out.1 (by decide))).trans HP.out.1,HP.out.2⟩
    refine hK.out _ _ hS2 (fun _=>?_)
    clear hK K hS HT HP HB
    (try simp only[Act.put])
    revert HB2 hS2 HT2 HP2
    generalize (V.setRow g5 #[.func (.func f) #[] #[],.bool b1,.bool b2,.bool b3])=V2
    intro HB hS HT HP
    revert HB hS HT HP
    generalize V2=V
    intro HB hS HT HP
    refine wpAnyH_ready (rs:=[9]) (by kernel_rfl) (by simp) ?_
    refine AllReadyH.cons (o:=⟨none,.store 101 (.tmp 6) (.tmp 23),_,_,_,none⟩) rfl (fun K hK=>?_) AllReadyH.nil
    refine jA5 rfl 101 (.tmp 6) (.tmp 23) rfl g6 #[.int .i64 ok,.string op,.string ot,.int .i64 oa,.int .i64 on,.string od,.slice none 0 0,.slice none 0 0] (by simp[Act.eval]) (by simp[Act.eval]) 101 _ HP.out.1 jCz rfl (by simp[Value.oneCell']) ?_
    have HB2:Hid (Below W.heap.size W (V.setRow g6 #[.int .i64 ok,.string op,.string ot,.int .i64 oa,.int .i64 on,.string od,.slice none 0 0,.slice none 0 0])):=jAx HB.out HP.out.2 _
    have hS2:=HCD.out _ HB2.out
    have HT2:Hid ((V.setRow g6 #[.int .i64 ok,.string op,.string ot,.int .i64 oa,.int .i64 on,.string od,.slice none 0 0,.slice none 0 0]).heap[g5]?=some (.cells #[.func (.func f) #[] #[],.bool b1,.bool b2,.bool b3] 99 (0,0))/\W.heap.size<=g5):=⟨(Qz _ _ _ _ (jKj HT.out.1 HP.out.1 (by decide))).trans HT.out.1,HT.out.2⟩
    have HP2:Hid ((V.setRow g6 #[.int .i64 ok,.string op,.string ot,.int .i64 oa,.int .i64 on,.string od,.slice none 0 0,.slice none 0 0]).heap[g6]?=some (.cells #[.int .i64 ok,.string op,.string ot,.int .i64 oa,.int .i64 on,.string od,.slice none 0 0,.slice none 0 0] 101 (0,0))/\W.heap.size<=g6):=⟨Qa _ _ _ _ _ _ HP.out.1,HP.out.2⟩
    refine hK.out _ _ hS2 (fun _=>?_)
    clear hK K hS HT HP HB
    (try simp only[Act.put])
    revert HB2 hS2 HT2 HP2
    generalize (V.setRow g6 #[.int .i64 ok,.string op,.string ot,.int .i64 oa,.int .i64 on,.string od,.slice none 0 0,.slice none 0 0])=V2
    intro HB hS HT HP
    revert HB hS HT HP
    generalize V2=V
    intro HB hS HT HP
    refine wpAnyH_done (by kernel_rfl) ?_ _
    go_wp2_with fail
    go_meet
    exact ⟨g5,g6,rfl,rfl,⟨HT.out.1,HP.out.1,HT.out.2,HP.out.2,HB.out⟩⟩
   ·go_simp
    have hbA:Below V.heap.size V (V.alloc (.cells ZR 101)):=(Qq _ _).alloc (Qj _) _
    have HB2:Hid (Below W.heap.size W (V.alloc (.cells ZR 101))):=jBq hbA HB.out
    have hS2:=HCD.out _ HB2.out
    have HT2:Hid ((V.alloc (.cells ZR 101)).heap[g5]?=some (.cells ZO 99 (0,0))/\W.heap.size<=g5):=⟨(hbA.block _ (jAv HT.out.1)).trans HT.out.1,HT.out.2⟩
    have HP2:Hid ((V.alloc (.cells ZR 101)).heap[V.heap.size]?=some (.cells ZR 101 (0,0))/\W.heap.size<=V.heap.size):=⟨jA2 V _,HB.out.size⟩
    refine hK.out _ _ hS2 (fun _=>?_)
    clear hK K hS HB hbA HT
    (try simp only[Act.put,sA,sB,sC])
    revert HB2 hS2 HT2 HP2
    generalize (V.alloc (.cells ZR 101))=V2
    generalize V.heap.size=g6
    intro HB hS HT HP
    revert HB hS HT HP
    generalize V2=V
    intro HB hS HT HP
    refine wpAnyH_ready (rs:=[0]) (by kernel_rfl) (by simp) ?_
    refine AllReadyH.cons (o:={ dst:=some 18,op:=.call { callee:=.value (.func 61),args:=#[],argTypes:=#[] },type:=_,pos:=_,after:=_,guard:=none }) rfl (fun K hK=>?_) AllReadyH.nil
    go_simp
    refine (HOPS.out _).mono ?_
    rintro e W2 ⟨rfl,hbA⟩
    have HB2:Hid (Below W.heap.size W W2):=jBq hbA HB.out
    have hS2:=HCD.out _ HB2.out
    have HT2:Hid (W2.heap[g5]?=some (.cells ZO 99 (0,0))/\W.heap.size<=g5):=⟨(hbA.block _ (jAv HT.out.1)).trans HT.out.1,HT.out.2⟩
    have HP2:Hid (W2.heap[g6]?=some (.cells ZR 101 (0,0))/\W.heap.size<=g6):=⟨(hbA.block _ (jAv HP.out.1)).trans HP.out.1,HP.out.2⟩
    refine hK.out _ _ hS2 (fun _=>?_)
    clear hK K hS HB hbA HT HP
    (try simp only[Act.put,sA,sB,sC])
    revert HB2 hS2 HT2 HP2
    generalize W2=V
    intro HB hS HT HP
    refine tQ 3 ⟨some 21,.index 156 (.tmp 18) (.tmp 20),_,_,_,none⟩ (.agg #[.func (.func f) #[] #[],.bool b1,.bool b2,.bool b3]) rfl hS ?_ (Or.inl ⟨by rfl,by intro x _;have h0:=HROW.out x;go_simp⟩)
    (try simp only[Act.put,sA,sB,sC])
    refine wpAnyH_ready (rs:=[8]) (by kernel_rfl) (by simp) ?_
    refine AllReadyH.cons (o:=⟨none,.store 99 (.tmp 5) (.tmp 21),_,_,_,none⟩) rfl (fun K hK=>?_) AllReadyH.nil
    refine jA5 rfl 99 (.tmp 5) (.tmp 21) rfl g5 #[.func (.func f) #[] #[],.bool b1,.bool b2,.bool b3] (by simp[Act.eval]) (by simp[Act.eval]) 99 _ HT.out.1 jCy rfl (by simp[Value.oneCell']) ?_
    have HB2:Hid (Below W.heap.size W (V.setRow g5 #[.func (.func f) #[] #[],.bool b1,.bool b2,.bool b3])):=jAx HB.out HT.out.2 _
    have hS2:=HCD.out _ HB2.out
    have HT2:Hid ((V.setRow g5 #[.func (.func f) #[] #[],.bool b1,.bool b2,.bool b3]).heap[g5]?=some (.cells #[.func (.func f) #[] #[],.bool b1,.bool b2,.bool b3] 99 (0,0))/\W.heap.size<=g5):=⟨Qa _ _ _ _ _ _ HT.out.1,HT.out.2⟩
    have HP2:Hid ((V.setRow g5 #[.func (.func f) #[] #[],.bool b1,.bool b2,.bool b3]).heap[g6]?=some (.cells ZR 101 (0,0))/\W.heap.size<=g6):=⟨(Qz _ _ _ _ (jKj HP.out.1 HT.out.1 (by decide))).trans HP.out.1,HP.out.2⟩
    refine hK.out _ _ hS2 (fun _=>?_)
    clear hK K hS HT HP HB
    (try simp only[Act.put])
    revert HB2 hS2 HT2 HP2
    generalize (V.setRow g5 #[.func (.func f) #[] #[],.bool b1,.bool b2,.bool b3])=V2
    intro HB hS HT HP
    revert HB hS HT HP
    generalize V2=V
    intro HB hS HT HP
    refine wpAnyH_ready (rs:=[9]) (by kernel_rfl) (by simp) ?_
    refine AllReadyH.cons (o:=⟨none,.store 101 (.tmp 6) (.tmp 23),_,_,_,none⟩) rfl (fun K hK=>?_) AllReadyH.nil
    refine jA5 rfl 101 (.tmp 6) (.tmp 23) rfl g6 #[.int .i64 ok,.string op,.string ot,.int .i64 oa,.int .i64 on,.string od,.slice none 0 0,.slice none 0 0] (by simp[Act.eval]) (by simp[Act.eval]) 101 _ HP.out.1 jCz rfl (by simp[Value.oneCell']) ?_
    have HB2:Hid (Below W.heap.size W (V.setRow g6 #[.int .i64 ok,.string op,.string ot,.int .i64 oa,.int .i64 on,.string od,.slice none 0 0,.slice none 0 0])):=jAx HB.out HP.out.2 _
    have hS2:=HCD.out _ HB2.out
    have HT2:Hid ((V.setRow g6 #[.int .i64 ok,.string op,.string ot,.int .i64 oa,.int .i64 on,.string od,.slice none 0 0,.slice none 0 0]).heap[g5]?=some (.cells #[.func (.func f) #[] #[],.bool b1,.bool b2,.bool b3] 99 (0,0))/\W.heap.size<=g5):=⟨(Qz _ _ _ _ (jKj HT.out.1 HP.out.1 (by decide))).trans HT.out.1,HT.out.2⟩
    have HP2:Hid ((V.setRow g6 #[.int .i64 ok,.string op,.string ot,.int .i64 oa,.int .i64 on,.string od,.slice none 0 0,.slice none 0 0]).heap[g6]?=some (.cells #[.int .i64 ok,.string op,.string ot,.int .i64 oa,.int .i64 on,.string od,.slice none 0 0,.slice none 0 0] 101 (0,0))/\W.heap.size<=g6):=⟨Qa _ _ _ _ _ _ HP.out.1,HP.out.2⟩
    refine hK.out _ _ hS2 (fun _=>?_)
    clear hK K hS HT HP HB
    (try simp only[Act.put])
    revert HB2 hS2 HT2 HP2
    generalize (V.setRow g6 #[.int .i64 ok,.string op,.string ot,.int .i64 oa,.int .i64 on,.string od,.slice none 0 0,.slice none 0 0])=V2
    intro HB hS HT HP
    revert HB hS HT HP
    generalize V2=V
    intro HB hS HT HP
    refine wpAnyH_done (by kernel_rfl) ?_ _
    go_wp2_with fail
    go_meet
    exact ⟨g5,g6,rfl,rfl,⟨HT.out.1,HP.out.1,HT.out.2,HP.out.2,HB.out⟩⟩
  ·go_simp
   have hbA:Below V.heap.size V (V.alloc (.cells ZR 101)):=(Qq _ _).alloc (Qj _) _
   have HB2:Hid (Below W.heap.size W (V.alloc (.cells ZR 101))):=jBq hbA HB.out
   have hS2:=HCD.out _ HB2.out
   have HP2:Hid ((V.alloc (.cells ZR 101)).heap[V.heap.size]?=some (.cells ZR 101 (0,0))/\W.heap.size<=V.heap.size):=⟨jA2 V _,HB.out.size⟩
   refine hK.out _ _ hS2 (fun _=>?_)
   clear hK K hS HB hbA
   (try simp only[Act.put,sA,sB,sC])
   revert HB2 hS2 HP2
   generalize (V.alloc (.cells ZR 101))=V2
   generalize V.heap.size=g6
   intro HB hS HP
   revert HB hS HP
   generalize V2=V
   intro HB hS HP
   refine wpAnyH_ready (rs:=[0,6]) (by kernel_rfl) (by simp) ?_
   refine AllReadyH.cons (o:={ dst:=some 18,op:=.call { callee:=.value (.func 61),args:=#[],argTypes:=#[] },type:=_,pos:=_,after:=_,guard:=none }) rfl (fun K hK=>?_) (AllReadyH.cons (o:=⟨some 5,.alloc 99,_,_,_,none⟩) rfl (fun K hK=>?_) AllReadyH.nil)
   ·go_simp
    refine (HOPS.out _).mono ?_
    rintro e W2 ⟨rfl,hbA⟩
    have HB2:Hid (Below W.heap.size W W2):=jBq hbA HB.out
    have hS2:=HCD.out _ HB2.out
    have HP2:Hid (W2.heap[g6]?=some (.cells ZR 101 (0,0))/\W.heap.size<=g6):=⟨(hbA.block _ (jAv HP.out.1)).trans HP.out.1,HP.out.2⟩
    refine hK.out _ _ hS2 (fun _=>?_)
    clear hK K hS HB hbA HP
    (try simp only[Act.put,sA,sB,sC])
    revert HB2 hS2 HP2
    generalize W2=V
    intro HB hS HP
    refine tQ 3 ⟨some 21,.index 156 (.tmp 18) (.tmp 20),_,_,_,none⟩ (.agg #[.func (.func f) #[] #[],.bool b1,.bool b2,.bool b3]) rfl hS ?_ (Or.inl ⟨by rfl,by intro x _;have h0:=HROW.out x;go_simp⟩)
    (try simp only[Act.put,sA,sB,sC])
    refine wpAnyH_ready (rs:=[6]) (by kernel_rfl) (by simp) ?_
    refine AllReadyH.cons (o:=⟨some 5,.alloc 99,_,_,_,none⟩) rfl (fun K hK=>?_) AllReadyH.nil
    go_simp
    have hbA:Below V.heap.size V (V.alloc (.cells ZO 99)):=(Qq _ _).alloc (Qj _) _
    have HB2:Hid (Below W.heap.size W (V.alloc (.cells ZO 99))):=jBq hbA HB.out
    have hS2:=HCD.out _ HB2.out
    have HP2:Hid ((V.alloc (.cells ZO 99)).heap[g6]?=some (.cells ZR 101 (0,0))/\W.heap.size<=g6):=⟨(hbA.block _ (jAv HP.out.1)).trans HP.out.1,HP.out.2⟩
    have HT2:Hid ((V.alloc (.cells ZO 99)).heap[V.heap.size]?=some (.cells ZO 99 (0,0))/\W.heap.size<=V.heap.size):=⟨jA2 V _,HB.out.size⟩
    refine hK.out _ _ hS2 (fun _=>?_)
    clear hK K hS HB hbA HP
    (try simp only[Act.put,sA,sB,sC])
    revert HB2 hS2 HP2 HT2
    generalize (V.alloc (.cells ZO 99))=V2
    generalize V.heap.size=g5
    intro HB hS HP HT
    revert HB hS HP HT
    generalize V2=V
    intro HB hS HP HT
    refine wpAnyH_ready (rs:=[8]) (by kernel_rfl) (by simp) ?_
    refine AllReadyH.cons (o:=⟨none,.store 99 (.tmp 5) (.tmp 21),_,_,_,none⟩) rfl (fun K hK=>?_) AllReadyH.nil
    refine jA5 rfl 99 (.tmp 5) (.tmp 21) rfl g5 #[.func (.func f) #[] #[],.bool b1,.bool b2,.bool b3] (by simp[Act.eval]) (by simp[Act.eval]) 99 _ HT.out.1 jCy rfl (by simp[Value.oneCell']) ?_
    have HB2:Hid (Below W.heap.size W (V.setRow g5 #[.func (.func f) #[] #[],.bool b1,.bool b2,.bool b3])):=jAx HB.out HT.out.2 _
    have hS2:=HCD.out _ HB2.out
    have HT2:Hid ((V.setRow g5 #[.func (.func f) #[] #[],.bool b1,.bool b2,.bool b3]).heap[g5]?=some (.cells #[.func (.func f) #[] #[],.bool b1,.bool b2,.bool b3] 99 (0,0))/\W.heap.size<=g5):=⟨Qa _ _ _ _ _ _ HT.out.1,HT.out.2⟩
    have HP2:Hid ((V.setRow g5 #[.func (.func f) #[] #[],.bool b1,.bool b2,.bool b3]).heap[g6]?=some (.cells ZR 101 (0,0))/\W.heap.size<=g6):=⟨(Qz _ _ _ _ (jKj HP.out.1 HT.out.1 (by decide))).trans HP.out.1,HP.out.2⟩
    refine hK.out _ _ hS2 (fun _=>?_)
    clear hK K hS HT HP HB
    (try simp only[Act.put])
    revert HB2 hS2 HT2 HP2
    generalize (V.setRow g5 #[.func (.func f) #[] #[],.bool b1,.bool b2,.bool b3])=V2
    intro HB hS HT HP
    revert HB hS HT HP
    generalize V2=V
    intro HB hS HT HP
    refine wpAnyH_ready (rs:=[9]) (by kernel_rfl) (by simp) ?_
    refine AllReadyH.cons (o:=⟨none,.store 101 (.tmp 6) (.tmp 23),_,_,_,none⟩) rfl (fun K hK=>?_) AllReadyH.nil
    refine jA5 rfl 101 (.tmp 6) (.tmp 23) rfl g6 #[.int .i64 ok,.string op,.string ot,.int .i64 oa,.int .i64 on,.string od,.slice none 0 0,.slice none 0 0] (by simp[Act.eval]) (by simp[Act.eval]) 101 _ HP.out.1 jCz rfl (by simp[Value.oneCell']) ?_
    have HB2:Hid (Below W.heap.size W (V.setRow g6 #[.int .i64 ok,.string op,.string ot,.int .i64 oa,.int .i64 on,.string od,.slice none 0 0,.slice none 0 0])):=jAx HB.out HP.out.2 _
    have hS2:=HCD.out _ HB2.out
    have HT2:Hid ((V.setRow g6 #[.int .i64 ok,.string op,.string ot,.int .i64 oa,.int .i64 on,.string od,.slice none 0 0,.slice none 0 0]).heap[g5]?=some (.cells #[.func (.func f) #[] #[],.bool b1,.bool b2,.bool b3] 99 (0,0))/\W.heap.size<=g5):=⟨(Qz _ _ _ _ (jKj HT.out.1 HP.out.1 (by decide))).trans HT.out.1,HT.out.2⟩
    have HP2:Hid ((V.setRow g6 #[.int .i64 ok,.string op,.string ot,.int .i64 oa,.int .i64 on,.string od,.slice none 0 0,.slice none 0 0]).heap[g6]?=some (.cells #[.int .i64 ok,.string op,.string ot,.int .i64 oa,.int .i64 on,.string od,.slice none 0 0,.slice none 0 0] 101 (0,0))/\W.heap.size<=g6):=⟨Qa _ _ _ _ _ _ HP.out.1,HP.out.2⟩
    refine hK.out _ _ hS2 (fun _=>?_)
    clear hK K hS HT HP HB
    (try simp only[Act.put])
    revert HB2 hS2 HT2 HP2
    generalize (V.setRow g6 #[.int .i64 ok,.string op,.string ot,.int .i64 oa,.int .i64 on,.string od,.slice none 0 0,.slice none 0 0])=V2
    intro HB hS HT HP
    revert HB hS HT HP
    generalize V2=V
    intro HB hS HT HP
    refine wpAnyH_done (by kernel_rfl) ?_ _
    go_wp2_with fail
    go_meet
    exact ⟨g5,g6,rfl,rfl,⟨HT.out.1,HP.out.1,HT.out.2,HP.out.2,HB.out⟩⟩
   ·go_simp
    have hbA:Below V.heap.size V (V.alloc (.cells ZO 99)):=(Qq _ _).alloc (Qj _) _
    have HB2:Hid (Below W.heap.size W (V.alloc (.cells ZO 99))):=jBq hbA HB.out
    have hS2:=HCD.out _ HB2.out
    have HP2:Hid ((V.alloc (.cells ZO 99)).heap[g6]?=some (.cells ZR 101 (0,0))/\W.heap.size<=g6):=⟨(hbA.block _ (jAv HP.out.1)).trans HP.out.1,HP.out.2⟩
    have HT2:Hid ((V.alloc (.cells ZO 99)).heap[V.heap.size]?=some (.cells ZO 99 (0,0))/\W.heap.size<=V.heap.size):=⟨jA2 V _,HB.out.size⟩
    refine hK.out _ _ hS2 (fun _=>?_)
    clear hK K hS HB hbA HP
    (try simp only[Act.put,sA,sB,sC])
    revert HB2 hS2 HP2 HT2
    generalize (V.alloc (.cells ZO 99))=V2
    generalize V.heap.size=g5
    intro HB hS HP HT
    revert HB hS HP HT
    generalize V2=V
    intro HB hS HP HT
    refine wpAnyH_ready (rs:=[0]) (by kernel_rfl) (by simp) ?_
    refine AllReadyH.cons (o:={ dst:=some 18,op:=.call { callee:=.value (.func 61),args:=#[],argTypes:=#[] },type:=_,pos:=_,after:=_,guard:=none }) rfl (fun K hK=>?_) AllReadyH.nil
    go_simp
    refine (HOPS.out _).mono ?_
    rintro e W2 ⟨rfl,hbA⟩
    have HB2:Hid (Below W.heap.size W W2):=jBq hbA HB.out
    have hS2:=HCD.out _ HB2.out
    have HT2:Hid (W2.heap[g5]?=some (.cells ZO 99 (0,0))/\W.heap.size<=g5):=⟨(hbA.block _ (jAv HT.out.1)).trans HT.out.1,HT.out.2⟩
    have HP2:Hid (W2.heap[g6]?=some (.cells ZR 101 (0,0))/\W.heap.size<=g6):=⟨(hbA.block _ (jAv HP.out.1)).trans HP.out.1,HP.out.2⟩
    refine hK.out _ _ hS2 (fun _=>?_)
    clear hK K hS HB hbA HT HP
    (try simp only[Act.put,sA,sB,sC])
    revert HB2 hS2 HT2 HP2
    generalize W2=V
    intro HB hS HT HP
    refine tQ 3 ⟨some 21,.index 156 (.tmp 18) (.tmp 20),_,_,_,none⟩ (.agg #[.func (.func f) #[] #[],.bool b1,.bool b2,.bool b3]) rfl hS ?_ (Or.inl ⟨by rfl,by intro x _;have h0:=HROW.out x;go_simp⟩)
    (try simp only[Act.put,sA,sB,sC])
    refine wpAnyH_ready (rs:=[8]) (by kernel_rfl) (by simp) ?_
    refine AllReadyH.cons (o:=⟨none,.store 99 (.tmp 5) (.tmp 21),_,_,_,none⟩) rfl (fun K hK=>?_) AllReadyH.nil
    refine jA5 rfl 99 (.tmp 5) (.tmp 21) rfl g5 #[.func (.func f) #[] #[],.bool b1,.bool b2,.bool b3] (by simp[Act.eval]) (by simp[Act.eval]) 99 _ HT.out.1 jCy rfl (by simp[Value.oneCell']) ?_
    have HB2:Hid (Below W.heap.size W (V.setRow g5 #[.func (.func f) #[] #[],.bool b1,.bool b2,.bool b3])):=jAx HB.out HT.out.2 _
    have hS2:=HCD.out _ HB2.out
    have HT2:Hid ((V.setRow g5 #[.func (.func f) #[] #[],.bool b1,.bool b2,.bool b3]).heap[g5]?=some (.cells #[.func (.func f) #[] #[],.bool b1,.bool b2,.bool b3] 99 (0,0))/\W.heap.size<=g5):=⟨Qa _ _ _ _ _ _ HT.out.1,HT.out.2⟩
    have HP2:Hid ((V.setRow g5 #[.func (.func f) #[] #[],.bool b1,.bool b2,.bool b3]).heap[g6]?=some (.cells ZR 101 (0,0))/\W.heap.size<=g6):=⟨(Qz _ _ _ _ (jKj HP.out.1 HT.out.1 (by decide))).trans HP.out.1,HP.out.2⟩
    refine hK.out _ _ hS2 (fun _=>?_)
    clear hK K hS HT HP HB
    (try simp only[Act.put])
    revert HB2 hS2 HT2 HP2
    generalize (V.setRow g5 #[.func (.func f) #[] #[],.bool b1,.bool b2,.bool b3])=V2
    intro HB hS HT HP
    revert HB hS HT HP
    generalize V2=V
    intro HB hS HT HP
    refine wpAnyH_ready (rs:=[9]) (by kernel_rfl) (by simp) ?_
    refine AllReadyH.cons (o:=⟨none,.store 101 (.tmp 6) (.tmp 23),_,_,_,none⟩) rfl (fun K hK=>?_) AllReadyH.nil
    refine jA5 rfl 101 (.tmp 6) (.tmp 23) rfl g6 #[.int .i64 ok,.string op,.string ot,.int .i64 oa,.int .i64 on,.string od,.slice none 0 0,.slice none 0 0] (by simp[Act.eval]) (by simp[Act.eval]) 101 _ HP.out.1 jCz rfl (by simp[Value.oneCell']) ?_
    have HB2:Hid (Below W.heap.size W (V.setRow g6 #[.int .i64 ok,.string op,.string ot,.int .i64 oa,.int .i64 on,.string od,.slice none 0 0,.slice none 0 0])):=jAx HB.out HP.out.2 _
    have hS2:=HCD.out _ HB2.out
    have HT2:Hid ((V.setRow g6 #[.int .i64 ok,.string op,.string ot,.int .i64 oa,.int .i64 on,.string od,.slice none 0 0,.slice none 0 0]).heap[g5]?=some (.cells #[.func (.func f) #[] #[],.bool b1,.bool b2,.bool b3] 99 (0,0))/\W.heap.size<=g5):=⟨(Qz _ _ _ _ (jKj HT.out.1 HP.out.1 (by decide))).trans HT.out.1,HT.out.2⟩
    have HP2:Hid ((V.setRow g6 #[.int .i64 ok,.string op,.string ot,.int .i64 oa,.int .i64 on,.string od,.slice none 0 0,.slice none 0 0]).heap[g6]?=some (.cells #[.int .i64 ok,.string op,.string ot,.int .i64 oa,.int .i64 on,.string od,.slice none 0 0,.slice none 0 0] 101 (0,0))/\W.heap.size<=g6):=⟨Qa _ _ _ _ _ _ HP.out.1,HP.out.2⟩
    refine hK.out _ _ hS2 (fun _=>?_)
    clear hK K hS HT HP HB
    (try simp only[Act.put])
    revert HB2 hS2 HT2 HP2
    generalize (V.setRow g6 #[.int .i64 ok,.string op,.string ot,.int .i64 oa,.int .i64 on,.string od,.slice none 0 0,.slice none 0 0])=V2
    intro HB hS HT HP
    revert HB hS HT HP
    generalize V2=V
    intro HB hS HT HP
    refine wpAnyH_done (by kernel_rfl) ?_ _
    go_wp2_with fail
    go_meet
    exact ⟨g5,g6,rfl,rfl,⟨HT.out.1,HP.out.1,HT.out.2,HP.out.2,HB.out⟩⟩
 case rest =>
 obtain ⟨g5,g6,rfl,rfl,HL⟩:=hcut
 rcases HC.out with ⟨rfl,rfl,rfl,hE0⟩ | ⟨rfl,rfl,rfl,hE0⟩ | ⟨rfl,rfl,rfl,hE0⟩ | ⟨rfl,rfl,rfl,hE0⟩ | ⟨rfl,rfl,rfl,hE0⟩
 ·have HE:Hid (E=if E1≠0 then E1 else 0):=hE0
  have HLL:Hid (Pa.jB3 op=L1):=HLA
  clear HC hE0 HLA HLB HPT
  clear p0 p1 p2 p3 p4 p5 hW HOPS HROW
  obtain ⟨-,c1,-⟩:=HCD.out _ HL.out.hb
  go_wp2_with fail
  refine (HP1.out wc).mono ?_
  rintro e w4 ⟨sa,n,sc,rfl,HO4,hb4⟩
  have HL4:Hid _:=HL.out.below hb4
  obtain ⟨z0,z1,z2,z3,z4,z5,z6,z7⟩:=jC8 HL4.out.h6
  have fz4:∀j,w4.frozen? ⟨g6,j,none⟩=false:=fun j=>jAq HL4.out.h6
  have HLw5:Hid _:=HL4.out.set6 (v:=.slice sa n sc)
  have HG6:Hid (g6<wc.heap.size/\w.heap.size+1+1<wc.heap.size/\w.heap.size+1+1<g6):=by
   have h1:=HL4.out.b6
   have h3:=jAv HBW.out.h2
   exact ⟨jAv HL.out.h6,Qx (jAv HBW.out.h2) HL.out.hb.size,by omega⟩
  have HOw5:Hid (Pa.Own (w4.setCell ⟨g6,6,none⟩ (.slice sa n sc)) wc.heap.size (.slice sa n sc) (Pa.jB3 op)):=by
   rw[HLL.out]
   exact jJ1 HO4.out HG6.out.1
  have HBw5:Hid (Bs w (w4.setCell ⟨g6,6,none⟩ (.slice sa n sc)) #[.int .i64 ok,.string op,.string ot,.int .i64 oa,.int .i64 on,.string od]):=((HBW.out.of HL.out.hb).below hb4).set (by have:=HG6.out;omega)
  clear hb4 c1 HP1 HO4
  obtain ⟨w5,hw5⟩:∃w5,w4.setCell ⟨g6,6,none⟩ (.slice sa n sc)=w5:=⟨_,rfl⟩
  rw[hw5] at HLw5 HOw5 HBw5
  by_cases hE:E1=0
  ·subst hE
   obtain ⟨x0,x1,x2,x3⟩:=jH3 HLw5.out.h5
   obtain ⟨c0,c1,c2,c3,c4,c5⟩:=jB4 HBw5.out.hp
   have HEV:Hid (E=0):=HE.out.trans (if_neg (by simp))
   have HZ1:Hid (w5.drew.heap[w.heap.size+1]?=some (.cells ZO 99 (0,0))):=HBw5.out.h1
   have HZ2:Hid ((w5.drew.setRow (w.heap.size+1) #[.func (.func f) #[] #[],.bool false,.bool false,.bool false]).heap[w.heap.size+1+1]?=some (.cells ZR 101 (0,0))):=(Qz _ _ _ _ (by omega)).trans HBw5.out.h2
   have HLT:Hid (w.heap.size+1+1<g5/\w.heap.size+1+1<g6):=by
    have h1:=HLw5.out.b5
    have h2:=HLw5.out.b6
    have h3:=jAv HBW.out.h2
    exact ⟨by omega,by omega⟩
   have HK5:Hid (∀V:World,V.heap[g5]?=w5.heap[g5]?->V.heap[g6]?=w5.heap[g6]?->(V.cell? ⟨g5,0,none⟩=some (.func (.func f) #[] #[])/\V.cell? ⟨g5,1,none⟩=some (.bool false)/\V.cell? ⟨g5,2,none⟩=some (.bool false)/\V.cell? ⟨g5,3,none⟩=some (.bool false))/\V.cell? ⟨g6,0,none⟩=some (.int .i64 ok)/\V.cell? ⟨g6,1,none⟩=some (.string op)/\V.cell? ⟨g6,2,none⟩=some (.string ot)/\V.cell? ⟨g6,3,none⟩=some (.int .i64 oa)/\V.cell? ⟨g6,4,none⟩=some (.int .i64 on)/\V.cell? ⟨g6,5,none⟩=some (.string od)/\V.cell? ⟨g6,6,none⟩=some (.slice sa n sc)/\V.cell? ⟨g6,7,none⟩=some (.slice none 0 0)):=fun V h5 h6=>⟨jH3 (h5.trans HLw5.out.h5),jC8 (h6.trans HLw5.out.h6)⟩
   have HS1:Hid (((w5.drew.setRow (w.heap.size+1) #[.func (.func f) #[] #[],.bool false,.bool false,.bool false]).cell? ⟨g5,0,none⟩=some (.func (.func f) #[] #[])/\(w5.drew.setRow (w.heap.size+1) #[.func (.func f) #[] #[],.bool false,.bool false,.bool false]).cell? ⟨g5,1,none⟩=some (.bool false)/\(w5.drew.setRow (w.heap.size+1) #[.func (.func f) #[] #[],.bool false,.bool false,.bool false]).cell? ⟨g5,2,none⟩=some (.bool false)/\(w5.drew.setRow (w.heap.size+1) #[.func (.func f) #[] #[],.bool false,.bool false,.bool false]).cell? ⟨g5,3,none⟩=some (.bool false))/\(w5.drew.setRow (w.heap.size+1) #[.func (.func f) #[] #[],.bool false,.bool false,.bool false]).cell? ⟨g6,0,none⟩=some (.int .i64 ok)/\(w5.drew.setRow (w.heap.size+1) #[.func (.func f) #[] #[],.bool false,.bool false,.bool false]).cell? ⟨g6,1,none⟩=some (.string op)/\(w5.drew.setRow (w.heap.size+1) #[.func (.func f) #[] #[],.bool false,.bool false,.bool false]).cell? ⟨g6,2,none⟩=some (.string ot)/\(w5.drew.setRow (w.heap.size+1) #[.func (.func f) #[] #[],.bool false,.bool false,.bool false]).cell? ⟨g6,3,none⟩=some (.int .i64 oa)/\(w5.drew.setRow (w.heap.size+1) #[.func (.func f) #[] #[],.bool false,.bool false,.bool false]).cell? ⟨g6,4,none⟩=some (.int .i64 on)/\(w5.drew.setRow (w.heap.size+1) #[.func (.func f) #[] #[],.bool false,.bool false,.bool false]).cell? ⟨g6,5,none⟩=some (.string od)/\(w5.drew.setRow (w.heap.size+1) #[.func (.func f) #[] #[],.bool false,.bool false,.bool false]).cell? ⟨g6,6,none⟩=some (.slice sa n sc)/\(w5.drew.setRow (w.heap.size+1) #[.func (.func f) #[] #[],.bool false,.bool false,.bool false]).cell? ⟨g6,7,none⟩=some (.slice none 0 0)):=HK5.out _ (Qz _ _ _ _ (by have:=HLT.out;omega)) (Qz _ _ _ _ (by have:=HLT.out;omega))
   have HS2:Hid ((((w5.drew.setRow (w.heap.size+1) #[.func (.func f) #[] #[],.bool false,.bool false,.bool false]).setRow (w.heap.size+1+1) #[.int .i64 ok,.string op,.string ot,.int .i64 oa,.int .i64 on,.string od,.slice sa n sc,.slice none 0 0]).cell? ⟨g5,0,none⟩=some (.func (.func f) #[] #[])/\((w5.drew.setRow (w.heap.size+1) #[.func (.func f) #[] #[],.bool false,.bool false,.bool false]).setRow (w.heap.size+1+1) #[.int .i64 ok,.string op,.string ot,.int .i64 oa,.int .i64 on,.string od,.slice sa n sc,.slice none 0 0]).cell? ⟨g5,1,none⟩=some (.bool false)/\((w5.drew.setRow (w.heap.size+1) #[.func (.func f) #[] #[],.bool false,.bool false,.bool false]).setRow (w.heap.size+1+1) #[.int .i64 ok,.string op,.string ot,.int .i64 oa,.int .i64 on,.string od,.slice sa n sc,.slice none 0 0]).cell? ⟨g5,2,none⟩=some (.bool false)/\((w5.drew.setRow (w.heap.size+1) #[.func (.func f) #[] #[],.bool false,.bool false,.bool false]).setRow (w.heap.size+1+1) #[.int .i64 ok,.string op,.string ot,.int .i64 oa,.int .i64 on,.string od,.slice sa n sc,.slice none 0 0]).cell? ⟨g5,3,none⟩=some (.bool false))/\((w5.drew.setRow (w.heap.size+1) #[.func (.func f) #[] #[],.bool false,.bool false,.bool false]).setRow (w.heap.size+1+1) #[.int .i64 ok,.string op,.string ot,.int .i64 oa,.int .i64 on,.string od,.slice sa n sc,.slice none 0 0]).cell? ⟨g6,0,none⟩=some (.int .i64 ok)/\((w5.drew.setRow (w.heap.size+1) #[.func (.func f) #[] #[],.bool false,.bool false,.bool false]).setRow (w.heap.size+1+1) #[.int .i64 ok,.string op,.string ot,.int .i64 oa,.int .i64 on,.string od,.slice sa n sc,.slice none 0 0]).cell? ⟨g6,1,none⟩=some (.string op)/\((w5.drew.setRow (w.heap.size+1) #[.func (.func f) #[] #[],.bool false,.bool false,.bool false]).setRow (w.heap.size+1+1) #[.int .i64 ok,.string op,.string ot,.int .i64 oa,.int .i64 on,.string od,.slice sa n sc,.slice none 0 0]).cell? ⟨g6,2,none⟩=some (.string ot)/\((w5.drew.setRow (w.heap.size+1) #[.func (.func f) #[] #[],.bool false,.bool false,.bool false]).setRow (w.heap.size+1+1) #[.int .i64 ok,.string op,.string ot,.int .i64 oa,.int .i64 on,.string od,.slice sa n sc,.slice none 0 0]).cell? ⟨g6,3,none⟩=some (.int .i64 oa)/\((w5.drew.setRow (w.heap.size+1) #[.func (.func f) #[] #[],.bool false,.bool false,.bool false]).setRow (w.heap.size+1+1) #[.int .i64 ok,.string op,.string ot,.int .i64 oa,.int .i64 on,.string od,.slice sa n sc,.slice none 0 0]).cell? ⟨g6,4,none⟩=some (.int .i64 on)/\((w5.drew.setRow (w.heap.size+1) #[.func (.func f) #[] #[],.bool false,.bool false,.bool false]).setRow (w.heap.size+1+1) #[.int .i64 ok,.string op,.string ot,.int .i64 oa,.int .i64 on,.string od,.slice sa n sc,.slice none 0 0]).cell? ⟨g6,5,none⟩=some (.string od)/\((w5.drew.setRow (w.heap.size+1) #[.func (.func f) #[] #[],.bool false,.bool false,.bool false]).setRow (w.heap.size+1+1) #[.int .i64 ok,.string op,.string ot,.int .i64 oa,.int .i64 on,.string od,.slice sa n sc,.slice none 0 0]).cell? ⟨g6,6,none⟩=some (.slice sa n sc)/\((w5.drew.setRow (w.heap.size+1) #[.func (.func f) #[] #[],.bool false,.bool false,.bool false]).setRow (w.heap.size+1+1) #[.int .i64 ok,.string op,.string ot,.int .i64 oa,.int .i64 on,.string od,.slice sa n sc,.slice none 0 0]).cell? ⟨g6,7,none⟩=some (.slice none 0 0)):=HK5.out _ ((Qz _ _ _ _ (by have:=HLT.out;omega)).trans (Qz _ _ _ _ (by have:=HLT.out;omega))) ((Qz _ _ _ _ (by have:=HLT.out;omega)).trans (Qz _ _ _ _ (by have:=HLT.out;omega)))
   have HF1:Hid (((w5.drew.setRow (w.heap.size+1) #[.func (.func f) #[] #[],.bool false,.bool false,.bool false]).setRow (w.heap.size+1+1) #[.int .i64 ok,.string op,.string ot,.int .i64 oa,.int .i64 on,.string od,.slice sa n sc,.slice none 0 0]).heap[w.heap.size+1]?=some (.cells #[.func (.func f) #[] #[],.bool false,.bool false,.bool false] 99 (0,0))):=(Qz _ _ _ _ (by omega)).trans (Qa _ _ _ _ _ _ HZ1.out)
   have HF2:Hid (((w5.drew.setRow (w.heap.size+1) #[.func (.func f) #[] #[],.bool false,.bool false,.bool false]).setRow (w.heap.size+1+1) #[.int .i64 ok,.string op,.string ot,.int .i64 oa,.int .i64 on,.string od,.slice sa n sc,.slice none 0 0]).heap[w.heap.size+1+1]?=some (.cells #[.int .i64 ok,.string op,.string ot,.int .i64 oa,.int .i64 on,.string od,.slice sa n sc,.slice none 0 0] 101 (0,0))):=Qa _ _ _ _ _ _ HZ2.out
   have hSx:((w5.drew.cell? ⟨g5,0,none⟩=some (.func (.func f) #[] #[])/\w5.drew.cell? ⟨g5,1,none⟩=some (.bool false)/\w5.drew.cell? ⟨g5,2,none⟩=some (.bool false)/\w5.drew.cell? ⟨g5,3,none⟩=some (.bool false))/\w5.drew.cell? ⟨g6,0,none⟩=some (.int .i64 ok)/\w5.drew.cell? ⟨g6,1,none⟩=some (.string op)/\w5.drew.cell? ⟨g6,2,none⟩=some (.string ot)/\w5.drew.cell? ⟨g6,3,none⟩=some (.int .i64 oa)/\w5.drew.cell? ⟨g6,4,none⟩=some (.int .i64 on)/\w5.drew.cell? ⟨g6,5,none⟩=some (.string od)/\w5.drew.cell? ⟨g6,6,none⟩=some (.slice sa n sc)/\w5.drew.cell? ⟨g6,7,none⟩=some (.slice none 0 0)):=HK5.out _ rfl rfl
   clear HK5 HLT
   go_wp2_with fail
   refine wp_region_held_drew (S:=fun V=>(V.cell? ⟨g5,0,none⟩=some (.func (.func f) #[] #[])/\V.cell? ⟨g5,1,none⟩=some (.bool false)/\V.cell? ⟨g5,2,none⟩=some (.bool false)/\V.cell? ⟨g5,3,none⟩=some (.bool false))/\V.cell? ⟨g6,0,none⟩=some (.int .i64 ok)/\V.cell? ⟨g6,1,none⟩=some (.string op)/\V.cell? ⟨g6,2,none⟩=some (.string ot)/\V.cell? ⟨g6,3,none⟩=some (.int .i64 oa)/\V.cell? ⟨g6,4,none⟩=some (.int .i64 on)/\V.cell? ⟨g6,5,none⟩=some (.string od)/\V.cell? ⟨g6,6,none⟩=some (.slice sa n sc)/\V.cell? ⟨g6,7,none⟩=some (.slice none 0 0)) (by kernel_rfl) hSx ?_
   intro hS
   clear hSx
   refine tQ 0 ⟨some 68,.load 99 (.tmp 5),_,_,_,none⟩ (.agg #[.func (.func f) #[] #[],.bool false,.bool false,.bool false]) rfl hS ?_ (Or.inl ⟨by rfl,by intro x hx;obtain ⟨⟨h0,h1,h2,h3⟩,_⟩:=hx;go_simp⟩)
   (try simp only[Act.put,sA,sB,sC])
   refine tQ 1 ⟨some 69,.load 101 (.tmp 6),_,_,_,none⟩ (.agg #[.int .i64 ok,.string op,.string ot,.int .i64 oa,.int .i64 on,.string od,.slice sa n sc,.slice none 0 0]) rfl hS ?_ (Or.inl ⟨by rfl,by intro x hx;obtain ⟨_,h0,h1,h2,h3,h4,h5,h6,h7⟩:=hx;go_simp⟩)
   (try simp only[Act.put,sA,sB,sC])
   refine wpAnyH_ready (rs:=[2]) (by kernel_rfl) (by simp) ?_
   refine AllReadyH.cons (o:=⟨none,.store 99 (.tmp 2) (.tmp 68),_,_,_,none⟩) rfl (fun K hK=>?_) AllReadyH.nil
   refine jA5 rfl 99 (.tmp 2) (.tmp 68) rfl (w.heap.size+1) #[.func (.func f) #[] #[],.bool false,.bool false,.bool false] (by simp[Act.eval]) (by simp[Act.eval]) 99 _ HZ1.out jCy rfl (by simp[Value.oneCell']) ?_
   have hS2:=HS1.out
   refine hK.out _ _ hS2 (fun _=>?_)
   clear hK K hS
   (try simp only[Act.put])
   have hS:=hS2
   clear hS2
   refine wpAnyH_ready (rs:=[3]) (by kernel_rfl) (by simp) ?_
   refine AllReadyH.cons (o:=⟨none,.store 101 (.tmp 3) (.tmp 69),_,_,_,none⟩) rfl (fun K hK=>?_) AllReadyH.nil
   refine jA5 rfl 101 (.tmp 3) (.tmp 69) rfl (w.heap.size+1+1) #[.int .i64 ok,.string op,.string ot,.int .i64 oa,.int .i64 on,.string od,.slice sa n sc,.slice none 0 0] (by simp[Act.eval]) (by simp[Act.eval]) 101 _ HZ2.out jCz rfl (by simp[Value.oneCell']) ?_
   have hS2:=HS2.out
   refine hK.out _ _ hS2 (fun _=>?_)
   clear hK K hS
   (try simp only[Act.put])
   have hS:=hS2
   clear hS2
   refine tQ 4 ⟨some 4,.assign (.const (.int .i64 0)),_,_,_,none⟩ (.int .i64 0) rfl hS ?_
   (try simp only[Act.put,sA,sB,sC])
   refine wpAnyH_done (by kernel_rfl) ?_ _
   clear hS
   go_wp2_with fail
   refine Qw (jBz rfl _ _ (w.heap.size+1) 99 #[.func (.func f) #[] #[],.bool false,.bool false,.bool false] (0,0) _ (w.heap.size+1+1) 101 #[.int .i64 ok,.string op,.string ot,.int .i64 oa,.int .i64 on,.string od,.slice sa n sc,.slice none 0 0] (0,0) _ rfl HF1.out underlying99 rfl jCy rfl HF2.out underlying101 rfl jCz) rfl ?_
   exact .inl ⟨HEV.out,_,_,_,_,_,_,rfl,(jE1 (jE1 (HOw5.out.below (Qq _ _).drew) (by have:=HG6.out;omega)) (by have:=HG6.out;omega)).see,fun h=>(by cases h),jAx (jAx HBw5.out.hb.drew (by omega) _) (by omega) _⟩
  ·have hEb:(E1 != 0)=true:=by simp[hE]
   have HEN:Hid (E1≠0):=hE
   have HEV:Hid (E=E1):=HE.out.trans (if_pos hE)
   clear hE
   go_wp2_with (first
    | (refine wpList_store_row rfl 99 (.tmp 2) (.tmp 33) rfl (w.heap.size+1) ZO rfl rfl 99 _ HBw5.out.h1 jCy rfl (by simp[Value.oneCell']) ?_)
    | (refine wpList_store_row rfl 101 (.tmp 3) (.tmp 34) rfl (w.heap.size+1+1) ZR rfl rfl 101 _ ((Qz _ _ _ _ (by omega)).trans HBw5.out.h2) jCz rfl (by simp[Value.oneCell']) ?_))
   refine Qw (jBz rfl _ _ (w.heap.size+1) 99 ZO (0,0) _ (w.heap.size+1+1) 101 ZR (0,0) _ rfl ((Qz _ _ _ _ (by omega)).trans (Qa _ _ _ _ _ _ HBw5.out.h1)) underlying99 rfl jCy rfl (Qa _ _ _ _ _ _ ((Qz _ _ _ _ (by omega)).trans HBw5.out.h2)) underlying101 rfl jCz) rfl ?_
   rw[HEV.out]
   exact .inr ⟨HEN.out,rfl,jAx (jAx HBw5.out.hb (by omega) _) (by omega) _⟩
 ·have HE:Hid (E=if E1≠0 then E1 else if oa<0\/on<0 then 1 else 0):=hE0
  have HLL:Hid (Pa.jB3 op=L1):=HLA
  clear HC hE0 HLA HLB HPT
  clear p0 p1 p2 p3 p4 p5 hW HOPS HROW
  obtain ⟨-,c1,-⟩:=HCD.out _ HL.out.hb
  go_wp2_with fail
  refine (HP1.out wc).mono ?_
  rintro e w4 ⟨sa,n,sc,rfl,HO4,hb4⟩
  have HL4:Hid _:=HL.out.below hb4
  obtain ⟨z0,z1,z2,z3,z4,z5,z6,z7⟩:=jC8 HL4.out.h6
  have fz4:∀j,w4.frozen? ⟨g6,j,none⟩=false:=fun j=>jAq HL4.out.h6
  have HLw5:Hid _:=HL4.out.set6 (v:=.slice sa n sc)
  have HG6:Hid (g6<wc.heap.size/\w.heap.size+1+1<wc.heap.size/\w.heap.size+1+1<g6):=by
   have h1:=HL4.out.b6
   have h3:=jAv HBW.out.h2
   exact ⟨jAv HL.out.h6,Qx (jAv HBW.out.h2) HL.out.hb.size,by omega⟩
  have HOw5:Hid (Pa.Own (w4.setCell ⟨g6,6,none⟩ (.slice sa n sc)) wc.heap.size (.slice sa n sc) (Pa.jB3 op)):=by
   rw[HLL.out]
   exact jJ1 HO4.out HG6.out.1
  have HBw5:Hid (Bs w (w4.setCell ⟨g6,6,none⟩ (.slice sa n sc)) #[.int .i64 ok,.string op,.string ot,.int .i64 oa,.int .i64 on,.string od]):=((HBW.out.of HL.out.hb).below hb4).set (by have:=HG6.out;omega)
  clear hb4 c1 HP1 HO4
  obtain ⟨w5,hw5⟩:∃w5,w4.setCell ⟨g6,6,none⟩ (.slice sa n sc)=w5:=⟨_,rfl⟩
  rw[hw5] at HLw5 HOw5 HBw5
  by_cases hE:E1=0
  ·subst hE
   obtain ⟨x0,x1,x2,x3⟩:=jH3 HLw5.out.h5
   obtain ⟨c0,c1,c2,c3,c4,c5⟩:=jB4 HBw5.out.hp
   by_cases ha:oa<0
   ·have hda:decide (oa<0)=true:=by simp[ha]
    have HEV:Hid (E=1):=(HE.out.trans (if_neg (by simp))).trans (if_pos (.inl ha))
    have HEN:Hid ((1:Int)≠0):=by show (1:Int)≠0;omega
    go_upto_region 13 with fail
    go_wp2_with (first
     | (refine wpList_store_row rfl 99 (.tmp 2) (.tmp 66) rfl (w.heap.size+1) ZO rfl rfl 99 _ HBw5.out.h1 jCy rfl (by simp[Value.oneCell']) ?_)
     | (refine wpList_store_row rfl 101 (.tmp 3) (.tmp 67) rfl (w.heap.size+1+1) ZR rfl rfl 101 _ ((Qz _ _ _ _ (by omega)).trans HBw5.out.h2) jCz rfl (by simp[Value.oneCell']) ?_))
    refine Qw (jBz rfl _ _ (w.heap.size+1) 99 ZO (0,0) _ (w.heap.size+1+1) 101 ZR (0,0) _ rfl ((Qz _ _ _ _ (by omega)).trans (Qa _ _ _ _ _ _ HBw5.out.h1)) underlying99 rfl jCy rfl (Qa _ _ _ _ _ _ ((Qz _ _ _ _ (by omega)).trans HBw5.out.h2)) underlying101 rfl jCz) rfl ?_
    rw[HEV.out]
    exact .inr ⟨HEN.out,rfl,jAx (jAx HBw5.out.hb (by omega) _) (by omega) _⟩
   ·have hda:decide (oa<0)=false:=by simp[ha]
    by_cases hb:on<0
    ·have hdb:decide (on<0)=true:=by simp[hb]
     have HEV:Hid (E=1):=(HE.out.trans (if_neg (by simp))).trans (if_pos (.inr hb))
     have HEN:Hid ((1:Int)≠0):=by show (1:Int)≠0;omega
     go_upto_region 13 with fail
     go_wp2_with (first
      | (refine wpList_store_row rfl 99 (.tmp 2) (.tmp 66) rfl (w.heap.size+1) ZO rfl rfl 99 _ HBw5.out.h1 jCy rfl (by simp[Value.oneCell']) ?_)
      | (refine wpList_store_row rfl 101 (.tmp 3) (.tmp 67) rfl (w.heap.size+1+1) ZR rfl rfl 101 _ ((Qz _ _ _ _ (by omega)).trans HBw5.out.h2) jCz rfl (by simp[Value.oneCell']) ?_))
     refine Qw (jBz rfl _ _ (w.heap.size+1) 99 ZO (0,0) _ (w.heap.size+1+1) 101 ZR (0,0) _ rfl ((Qz _ _ _ _ (by omega)).trans (Qa _ _ _ _ _ _ HBw5.out.h1)) underlying99 rfl jCy rfl (Qa _ _ _ _ _ _ ((Qz _ _ _ _ (by omega)).trans HBw5.out.h2)) underlying101 rfl jCz) rfl ?_
     rw[HEV.out]
     exact .inr ⟨HEN.out,rfl,jAx (jAx HBw5.out.hb (by omega) _) (by omega) _⟩
    ·have hdb:decide (on<0)=false:=by simp[hb]
     have HEV:Hid (E=0):=(HE.out.trans (if_neg (by simp))).trans (if_neg (fun h=>h.elim ha hb))
     have HZ1:Hid (w5.drew.heap[w.heap.size+1]?=some (.cells ZO 99 (0,0))):=HBw5.out.h1
     have HZ2:Hid ((w5.drew.setRow (w.heap.size+1) #[.func (.func f) #[] #[],.bool false,.bool true,.bool true]).heap[w.heap.size+1+1]?=some (.cells ZR 101 (0,0))):=(Qz _ _ _ _ (by omega)).trans HBw5.out.h2
     have HLT:Hid (w.heap.size+1+1<g5/\w.heap.size+1+1<g6):=by
      have h1:=HLw5.out.b5
      have h2:=HLw5.out.b6
      have h3:=jAv HBW.out.h2
      exact ⟨by omega,by omega⟩
     have HK5:Hid (∀V:World,V.heap[g5]?=w5.heap[g5]?->V.heap[g6]?=w5.heap[g6]?->(V.cell? ⟨g5,0,none⟩=some (.func (.func f) #[] #[])/\V.cell? ⟨g5,1,none⟩=some (.bool false)/\V.cell? ⟨g5,2,none⟩=some (.bool true)/\V.cell? ⟨g5,3,none⟩=some (.bool true))/\V.cell? ⟨g6,0,none⟩=some (.int .i64 ok)/\V.cell? ⟨g6,1,none⟩=some (.string op)/\V.cell? ⟨g6,2,none⟩=some (.string ot)/\V.cell? ⟨g6,3,none⟩=some (.int .i64 oa)/\V.cell? ⟨g6,4,none⟩=some (.int .i64 on)/\V.cell? ⟨g6,5,none⟩=some (.string od)/\V.cell? ⟨g6,6,none⟩=some (.slice sa n sc)/\V.cell? ⟨g6,7,none⟩=some (.slice none 0 0)):=fun V h5 h6=>⟨jH3 (h5.trans HLw5.out.h5),jC8 (h6.trans HLw5.out.h6)⟩
     have HS1:Hid (((w5.drew.setRow (w.heap.size+1) #[.func (.func f) #[] #[],.bool false,.bool true,.bool true]).cell? ⟨g5,0,none⟩=some (.func (.func f) #[] #[])/\(w5.drew.setRow (w.heap.size+1) #[.func (.func f) #[] #[],.bool false,.bool true,.bool true]).cell? ⟨g5,1,none⟩=some (.bool false)/\(w5.drew.setRow (w.heap.size+1) #[.func (.func f) #[] #[],.bool false,.bool true,.bool true]).cell? ⟨g5,2,none⟩=some (.bool true)/\(w5.drew.setRow (w.heap.size+1) #[.func (.func f) #[] #[],.bool false,.bool true,.bool true]).cell? ⟨g5,3,none⟩=some (.bool true))/\(w5.drew.setRow (w.heap.size+1) #[.func (.func f) #[] #[],.bool false,.bool true,.bool true]).cell? ⟨g6,0,none⟩=some (.int .i64 ok)/\(w5.drew.setRow (w.heap.size+1) #[.func (.func f) #[] #[],.bool false,.bool true,.bool true]).cell? ⟨g6,1,none⟩=some (.string op)/\(w5.drew.setRow (w.heap.size+1) #[.func (.func f) #[] #[],.bool false,.bool true,.bool true]).cell? ⟨g6,2,none⟩=some (.string ot)/\(w5.drew.setRow (w.heap.size+1) #[.func (.func f) #[] #[],.bool false,.bool true,.bool true]).cell? ⟨g6,3,none⟩=some (.int .i64 oa)/\(w5.drew.setRow (w.heap.size+1) #[.func (.func f) #[] #[],.bool false,.bool true,.bool true]).cell? ⟨g6,4,none⟩=some (.int .i64 on)/\(w5.drew.setRow (w.heap.size+1) #[.func (.func f) #[] #[],.bool false,.bool true,.bool true]).cell? ⟨g6,5,none⟩=some (.string od)/\(w5.drew.setRow (w.heap.size+1) #[.func (.func f) #[] #[],.bool false,.bool true,.bool true]).cell? ⟨g6,6,none⟩=some (.slice sa n sc)/\(w5.drew.setRow (w.heap.size+1) #[.func (.func f) #[] #[],.bool false,.bool true,.bool true]).cell? ⟨g6,7,none⟩=some (.slice none 0 0)):=HK5.out _ (Qz _ _ _ _ (by have:=HLT.out;omega)) (Qz _ _ _ _ (by have:=HLT.out;omega))
     have HS2:Hid ((((w5.drew.setRow (w.heap.size+1) #[.func (.func f) #[] #[],.bool false,.bool true,.bool true]).setRow (w.heap.size+1+1) #[.int .i64 ok,.string op,.string ot,.int .i64 oa,.int .i64 on,.string od,.slice sa n sc,.slice none 0 0]).cell? ⟨g5,0,none⟩=some (.func (.func f) #[] #[])/\((w5.drew.setRow (w.heap.size+1) #[.func (.func f) #[] #[],.bool false,.bool true,.bool true]).setRow (w.heap.size+1+1) #[.int .i64 ok,.string op,.string ot,.int .i64 oa,.int .i64 on,.string od,.slice sa n sc,.slice none 0 0]).cell? ⟨g5,1,none⟩=some (.bool false)/\((w5.drew.setRow (w.heap.size+1) #[.func (.func f) #[] #[],.bool false,.bool true,.bool true]).setRow (w.heap.size+1+1) #[.int .i64 ok,.string op,.string ot,.int .i64 oa,.int .i64 on,.string od,.slice sa n sc,.slice none 0 0]).cell? ⟨g5,2,none⟩=some (.bool true)/\((w5.drew.setRow (w.heap.size+1) #[.func (.func f) #[] #[],.bool false,.bool true,.bool true]).setRow (w.heap.size+1+1) #[.int .i64 ok,.string op,.string ot,.int .i64 oa,.int .i64 on,.string od,.slice sa n sc,.slice none 0 0]).cell? ⟨g5,3,none⟩=some (.bool true))/\((w5.drew.setRow (w.heap.size+1) #[.func (.func f) #[] #[],.bool false,.bool true,.bool true]).setRow (w.heap.size+1+1) #[.int .i64 ok,.string op,.string ot,.int .i64 oa,.int .i64 on,.string od,.slice sa n sc,.slice none 0 0]).cell? ⟨g6,0,none⟩=some (.int .i64 ok)/\((w5.drew.setRow (w.heap.size+1) #[.func (.func f) #[] #[],.bool false,.bool true,.bool true]).setRow (w.heap.size+1+1) #[.int .i64 ok,.string op,.string ot,.int .i64 oa,.int .i64 on,.string od,.slice sa n sc,.slice none 0 0]).cell? ⟨g6,1,none⟩=some (.string op)/\((w5.drew.setRow (w.heap.size+1) #[.func (.func f) #[] #[],.bool false,.bool true,.bool true]).setRow (w.heap.size+1+1) #[.int .i64 ok,.string op,.string ot,.int .i64 oa,.int .i64 on,.string od,.slice sa n sc,.slice none 0 0]).cell? ⟨g6,2,none⟩=some (.string ot)/\((w5.drew.setRow (w.heap.size+1) #[.func (.func f) #[] #[],.bool false,.bool true,.bool true]).setRow (w.heap.size+1+1) #[.int .i64 ok,.string op,.string ot,.int .i64 oa,.int .i64 on,.string od,.slice sa n sc,.slice none 0 0]).cell? ⟨g6,3,none⟩=some (.int .i64 oa)/\((w5.drew.setRow (w.heap.size+1) #[.func (.func f) #[] #[],.bool false,.bool true,.bool true]).setRow (w.heap.size+1+1) #[.int .i64 ok,.string op,.string ot,.int .i64 oa,.int .i64 on,.string od,.slice sa n sc,.slice none 0 0]).cell? ⟨g6,4,none⟩=some (.int .i64 on)/\((w5.drew.setRow (w.heap.size+1) #[.func (.func f) #[] #[],.bool false,.bool true,.bool true]).setRow (w.heap.size+1+1) #[.int .i64 ok,.string op,.string ot,.int .i64 oa,.int .i64 on,.string od,.slice sa n sc,.slice none 0 0]).cell? ⟨g6,5,none⟩=some (.string od)/\((w5.drew.setRow (w.heap.size+1) #[.func (.func f) #[] #[],.bool false,.bool true,.bool true]).setRow (w.heap.size+1+1) #[.int .i64 ok,.string op,.string ot,.int .i64 oa,.int .i64 on,.string od,.slice sa n sc,.slice none 0 0]).cell? ⟨g6,6,none⟩=some (.slice sa n sc)/\((w5.drew.setRow (w.heap.size+1) #[.func (.func f) #[] #[],.bool false,.bool true,.bool true]).setRow (w.heap.size+1+1) #[.int .i64 ok,.string op,.string ot,.int .i64 oa,.int .i64 on,.string od,.slice sa n sc,.slice none 0 0]).cell? ⟨g6,7,none⟩=some (.slice none 0 0)):=HK5.out _ ((Qz _ _ _ _ (by have:=HLT.out;omega)).trans (Qz _ _ _ _ (by have:=HLT.out;omega))) ((Qz _ _ _ _ (by have:=HLT.out;omega)).trans (Qz _ _ _ _ (by have:=HLT.out;omega)))
     have HF1:Hid (((w5.drew.setRow (w.heap.size+1) #[.func (.func f) #[] #[],.bool false,.bool true,.bool true]).setRow (w.heap.size+1+1) #[.int .i64 ok,.string op,.string ot,.int .i64 oa,.int .i64 on,.string od,.slice sa n sc,.slice none 0 0]).heap[w.heap.size+1]?=some (.cells #[.func (.func f) #[] #[],.bool false,.bool true,.bool true] 99 (0,0))):=(Qz _ _ _ _ (by omega)).trans (Qa _ _ _ _ _ _ HZ1.out)
     have HF2:Hid (((w5.drew.setRow (w.heap.size+1) #[.func (.func f) #[] #[],.bool false,.bool true,.bool true]).setRow (w.heap.size+1+1) #[.int .i64 ok,.string op,.string ot,.int .i64 oa,.int .i64 on,.string od,.slice sa n sc,.slice none 0 0]).heap[w.heap.size+1+1]?=some (.cells #[.int .i64 ok,.string op,.string ot,.int .i64 oa,.int .i64 on,.string od,.slice sa n sc,.slice none 0 0] 101 (0,0))):=Qa _ _ _ _ _ _ HZ2.out
     have hSx:((w5.drew.cell? ⟨g5,0,none⟩=some (.func (.func f) #[] #[])/\w5.drew.cell? ⟨g5,1,none⟩=some (.bool false)/\w5.drew.cell? ⟨g5,2,none⟩=some (.bool true)/\w5.drew.cell? ⟨g5,3,none⟩=some (.bool true))/\w5.drew.cell? ⟨g6,0,none⟩=some (.int .i64 ok)/\w5.drew.cell? ⟨g6,1,none⟩=some (.string op)/\w5.drew.cell? ⟨g6,2,none⟩=some (.string ot)/\w5.drew.cell? ⟨g6,3,none⟩=some (.int .i64 oa)/\w5.drew.cell? ⟨g6,4,none⟩=some (.int .i64 on)/\w5.drew.cell? ⟨g6,5,none⟩=some (.string od)/\w5.drew.cell? ⟨g6,6,none⟩=some (.slice sa n sc)/\w5.drew.cell? ⟨g6,7,none⟩=some (.slice none 0 0)):=HK5.out _ rfl rfl
     clear HK5 HLT
     go_wp2_with fail
     refine wp_region_held_drew (S:=fun V=>(V.cell? ⟨g5,0,none⟩=some (.func (.func f) #[] #[])/\V.cell? ⟨g5,1,none⟩=some (.bool false)/\V.cell? ⟨g5,2,none⟩=some (.bool true)/\V.cell? ⟨g5,3,none⟩=some (.bool true))/\V.cell? ⟨g6,0,none⟩=some (.int .i64 ok)/\V.cell? ⟨g6,1,none⟩=some (.string op)/\V.cell? ⟨g6,2,none⟩=some (.string ot)/\V.cell? ⟨g6,3,none⟩=some (.int .i64 oa)/\V.cell? ⟨g6,4,none⟩=some (.int .i64 on)/\V.cell? ⟨g6,5,none⟩=some (.string od)/\V.cell? ⟨g6,6,none⟩=some (.slice sa n sc)/\V.cell? ⟨g6,7,none⟩=some (.slice none 0 0)) (by kernel_rfl) hSx ?_
     intro hS
     clear hSx
     refine tQ 0 ⟨some 68,.load 99 (.tmp 5),_,_,_,none⟩ (.agg #[.func (.func f) #[] #[],.bool false,.bool true,.bool true]) rfl hS ?_ (Or.inl ⟨by rfl,by intro x hx;obtain ⟨⟨h0,h1,h2,h3⟩,_⟩:=hx;go_simp⟩)
     (try simp only[Act.put,sA,sB,sC])
     refine tQ 1 ⟨some 69,.load 101 (.tmp 6),_,_,_,none⟩ (.agg #[.int .i64 ok,.string op,.string ot,.int .i64 oa,.int .i64 on,.string od,.slice sa n sc,.slice none 0 0]) rfl hS ?_ (Or.inl ⟨by rfl,by intro x hx;obtain ⟨_,h0,h1,h2,h3,h4,h5,h6,h7⟩:=hx;go_simp⟩)
     (try simp only[Act.put,sA,sB,sC])
     refine wpAnyH_ready (rs:=[2]) (by kernel_rfl) (by simp) ?_
     refine AllReadyH.cons (o:=⟨none,.store 99 (.tmp 2) (.tmp 68),_,_,_,none⟩) rfl (fun K hK=>?_) AllReadyH.nil
     refine jA5 rfl 99 (.tmp 2) (.tmp 68) rfl (w.heap.size+1) #[.func (.func f) #[] #[],.bool false,.bool true,.bool true] (by simp[Act.eval]) (by simp[Act.eval]) 99 _ HZ1.out jCy rfl (by simp[Value.oneCell']) ?_
     have hS2:=HS1.out
     refine hK.out _ _ hS2 (fun _=>?_)
     clear hK K hS
     (try simp only[Act.put])
     have hS:=hS2
     clear hS2
     refine wpAnyH_ready (rs:=[3]) (by kernel_rfl) (by simp) ?_
     refine AllReadyH.cons (o:=⟨none,.store 101 (.tmp 3) (.tmp 69),_,_,_,none⟩) rfl (fun K hK=>?_) AllReadyH.nil
     refine jA5 rfl 101 (.tmp 3) (.tmp 69) rfl (w.heap.size+1+1) #[.int .i64 ok,.string op,.string ot,.int .i64 oa,.int .i64 on,.string od,.slice sa n sc,.slice none 0 0] (by simp[Act.eval]) (by simp[Act.eval]) 101 _ HZ2.out jCz rfl (by simp[Value.oneCell']) ?_
     have hS2:=HS2.out
     refine hK.out _ _ hS2 (fun _=>?_)
     clear hK K hS
     (try simp only[Act.put])
     have hS:=hS2
     clear hS2
     refine tQ 4 ⟨some 4,.assign (.const (.int .i64 0)),_,_,_,none⟩ (.int .i64 0) rfl hS ?_
     (try simp only[Act.put,sA,sB,sC])
     refine wpAnyH_done (by kernel_rfl) ?_ _
     clear hS
     go_wp2_with fail
     refine Qw (jBz rfl _ _ (w.heap.size+1) 99 #[.func (.func f) #[] #[],.bool false,.bool true,.bool true] (0,0) _ (w.heap.size+1+1) 101 #[.int .i64 ok,.string op,.string ot,.int .i64 oa,.int .i64 on,.string od,.slice sa n sc,.slice none 0 0] (0,0) _ rfl HF1.out underlying99 rfl jCy rfl HF2.out underlying101 rfl jCz) rfl ?_
     exact .inl ⟨HEV.out,_,_,_,_,_,_,rfl,(jE1 (jE1 (HOw5.out.below (Qq _ _).drew) (by have:=HG6.out;omega)) (by have:=HG6.out;omega)).see,fun h=>(by cases h),jAx (jAx HBw5.out.hb.drew (by omega) _) (by omega) _⟩
  ·have hEb:(E1 != 0)=true:=by simp[hE]
   have HEN:Hid (E1≠0):=hE
   have HEV:Hid (E=E1):=HE.out.trans (if_pos hE)
   clear hE
   go_wp2_with (first
    | (refine wpList_store_row rfl 99 (.tmp 2) (.tmp 33) rfl (w.heap.size+1) ZO rfl rfl 99 _ HBw5.out.h1 jCy rfl (by simp[Value.oneCell']) ?_)
    | (refine wpList_store_row rfl 101 (.tmp 3) (.tmp 34) rfl (w.heap.size+1+1) ZR rfl rfl 101 _ ((Qz _ _ _ _ (by omega)).trans HBw5.out.h2) jCz rfl (by simp[Value.oneCell']) ?_))
   refine Qw (jBz rfl _ _ (w.heap.size+1) 99 ZO (0,0) _ (w.heap.size+1+1) 101 ZR (0,0) _ rfl ((Qz _ _ _ _ (by omega)).trans (Qa _ _ _ _ _ _ HBw5.out.h1)) underlying99 rfl jCy rfl (Qa _ _ _ _ _ _ ((Qz _ _ _ _ (by omega)).trans HBw5.out.h2)) underlying101 rfl jCz) rfl ?_
   rw[HEV.out]
   exact .inr ⟨HEN.out,rfl,jAx (jAx HBw5.out.hb (by omega) _) (by omega) _⟩
 ·have HE:Hid (E=if E1≠0 then E1 else if oa<0 then 1 else 0):=hE0
  have HLL:Hid (Pa.jB3 op=L1):=HLA
  clear HC hE0 HLA HLB HPT
  clear p0 p1 p2 p3 p4 p5 hW HOPS HROW
  obtain ⟨-,c1,-⟩:=HCD.out _ HL.out.hb
  go_wp2_with fail
  refine (HP1.out wc).mono ?_
  rintro e w4 ⟨sa,n,sc,rfl,HO4,hb4⟩
  have HL4:Hid _:=HL.out.below hb4
  obtain ⟨z0,z1,z2,z3,z4,z5,z6,z7⟩:=jC8 HL4.out.h6
  have fz4:∀j,w4.frozen? ⟨g6,j,none⟩=false:=fun j=>jAq HL4.out.h6
  have HLw5:Hid _:=HL4.out.set6 (v:=.slice sa n sc)
  have HG6:Hid (g6<wc.heap.size/\w.heap.size+1+1<wc.heap.size/\w.heap.size+1+1<g6):=by
   have h1:=HL4.out.b6
   have h3:=jAv HBW.out.h2
   exact ⟨jAv HL.out.h6,Qx (jAv HBW.out.h2) HL.out.hb.size,by omega⟩
  have HOw5:Hid (Pa.Own (w4.setCell ⟨g6,6,none⟩ (.slice sa n sc)) wc.heap.size (.slice sa n sc) (Pa.jB3 op)):=by
   rw[HLL.out]
   exact jJ1 HO4.out HG6.out.1
  have HBw5:Hid (Bs w (w4.setCell ⟨g6,6,none⟩ (.slice sa n sc)) #[.int .i64 ok,.string op,.string ot,.int .i64 oa,.int .i64 on,.string od]):=((HBW.out.of HL.out.hb).below hb4).set (by have:=HG6.out;omega)
  clear hb4 c1 HP1 HO4
  obtain ⟨w5,hw5⟩:∃w5,w4.setCell ⟨g6,6,none⟩ (.slice sa n sc)=w5:=⟨_,rfl⟩
  rw[hw5] at HLw5 HOw5 HBw5
  by_cases hE:E1=0
  ·subst hE
   obtain ⟨x0,x1,x2,x3⟩:=jH3 HLw5.out.h5
   obtain ⟨c0,c1,c2,c3,c4,c5⟩:=jB4 HBw5.out.hp
   by_cases ha:oa<0
   ·have hda:decide (oa<0)=true:=by simp[ha]
    have HEV:Hid (E=1):=(HE.out.trans (if_neg (by simp))).trans (if_pos ha)
    have HEN:Hid ((1:Int)≠0):=by show (1:Int)≠0;omega
    go_upto_region 13 with fail
    go_wp2_with (first
     | (refine wpList_store_row rfl 99 (.tmp 2) (.tmp 66) rfl (w.heap.size+1) ZO rfl rfl 99 _ HBw5.out.h1 jCy rfl (by simp[Value.oneCell']) ?_)
     | (refine wpList_store_row rfl 101 (.tmp 3) (.tmp 67) rfl (w.heap.size+1+1) ZR rfl rfl 101 _ ((Qz _ _ _ _ (by omega)).trans HBw5.out.h2) jCz rfl (by simp[Value.oneCell']) ?_))
    refine Qw (jBz rfl _ _ (w.heap.size+1) 99 ZO (0,0) _ (w.heap.size+1+1) 101 ZR (0,0) _ rfl ((Qz _ _ _ _ (by omega)).trans (Qa _ _ _ _ _ _ HBw5.out.h1)) underlying99 rfl jCy rfl (Qa _ _ _ _ _ _ ((Qz _ _ _ _ (by omega)).trans HBw5.out.h2)) underlying101 rfl jCz) rfl ?_
    rw[HEV.out]
    exact .inr ⟨HEN.out,rfl,jAx (jAx HBw5.out.hb (by omega) _) (by omega) _⟩
   ·have hda:decide (oa<0)=false:=by simp[ha]
    have HEV:Hid (E=0):=(HE.out.trans (if_neg (by simp))).trans (if_neg ha)
    have HZ1:Hid (w5.drew.heap[w.heap.size+1]?=some (.cells ZO 99 (0,0))):=HBw5.out.h1
    have HZ2:Hid ((w5.drew.setRow (w.heap.size+1) #[.func (.func f) #[] #[],.bool false,.bool true,.bool false]).heap[w.heap.size+1+1]?=some (.cells ZR 101 (0,0))):=(Qz _ _ _ _ (by omega)).trans HBw5.out.h2
    have HLT:Hid (w.heap.size+1+1<g5/\w.heap.size+1+1<g6):=by
     have h1:=HLw5.out.b5
     have h2:=HLw5.out.b6
     have h3:=jAv HBW.out.h2
     exact ⟨by omega,by omega⟩
    have HK5:Hid (∀V:World,V.heap[g5]?=w5.heap[g5]?->V.heap[g6]?=w5.heap[g6]?->(V.cell? ⟨g5,0,none⟩=some (.func (.func f) #[] #[])/\V.cell? ⟨g5,1,none⟩=some (.bool false)/\V.cell? ⟨g5,2,none⟩=some (.bool true)/\V.cell? ⟨g5,3,none⟩=some (.bool false))/\V.cell? ⟨g6,0,none⟩=some (.int .i64 ok)/\V.cell? ⟨g6,1,none⟩=some (.string op)/\V.cell? ⟨g6,2,none⟩=some (.string ot)/\V.cell? ⟨g6,3,none⟩=some (.int .i64 oa)/\V.cell? ⟨g6,4,none⟩=some (.int .i64 on)/\V.cell? ⟨g6,5,none⟩=some (.string od)/\V.cell? ⟨g6,6,none⟩=some (.slice sa n sc)/\V.cell? ⟨g6,7,none⟩=some (.slice none 0 0)):=fun V h5 h6=>⟨jH3 (h5.trans HLw5.out.h5),jC8 (h6.trans HLw5.out.h6)⟩
    have HS1:Hid (((w5.drew.setRow (w.heap.size+1) #[.func (.func f) #[] #[],.bool false,.bool true,.bool false]).cell? ⟨g5,0,none⟩=some (.func (.func f) #[] #[])/\(w5.drew.setRow (w.heap.size+1) #[.func (.func f) #[] #[],.bool false,.bool true,.bool false]).cell? ⟨g5,1,none⟩=some (.bool false)/\(w5.drew.setRow (w.heap.size+1) #[.func (.func f) #[] #[],.bool false,.bool true,.bool false]).cell? ⟨g5,2,none⟩=some (.bool true)/\(w5.drew.setRow (w.heap.size+1) #[.func (.func f) #[] #[],.bool false,.bool true,.bool false]).cell? ⟨g5,3,none⟩=some (.bool false))/\(w5.drew.setRow (w.heap.size+1) #[.func (.func f) #[] #[],.bool false,.bool true,.bool false]).cell? ⟨g6,0,none⟩=some (.int .i64 ok)/\(w5.drew.setRow (w.heap.size+1) #[.func (.func f) #[] #[],.bool false,.bool true,.bool false]).cell? ⟨g6,1,none⟩=some (.string op)/\(w5.drew.setRow (w.heap.size+1) #[.func (.func f) #[] #[],.bool false,.bool true,.bool false]).cell? ⟨g6,2,none⟩=some (.string ot)/\(w5.drew.setRow (w.heap.size+1) #[.func (.func f) #[] #[],.bool false,.bool true,.bool false]).cell? ⟨g6,3,none⟩=some (.int .i64 oa)/\(w5.drew.setRow (w.heap.size+1) #[.func (.func f) #[] #[],.bool false,.bool true,.bool false]).cell? ⟨g6,4,none⟩=some (.int .i64 on)/\(w5.drew.setRow (w.heap.size+1) #[.func (.func f) #[] #[],.bool false,.bool true,.bool false]).cell? ⟨g6,5,none⟩=some (.string od)/\(w5.drew.setRow (w.heap.size+1) #[.func (.func f) #[] #[],.bool false,.bool true,.bool false]).cell? ⟨g6,6,none⟩=some (.slice sa n sc)/\(w5.drew.setRow (w.heap.size+1) #[.func (.func f) #[] #[],.bool false,.bool true,.bool false]).cell? ⟨g6,7,none⟩=some (.slice none 0 0)):=HK5.out _ (Qz _ _ _ _ (by have:=HLT.out;omega)) (Qz _ _ _ _ (by have:=HLT.out;omega))
    have HS2:Hid ((((w5.drew.setRow (w.heap.size+1) #[.func (.func f) #[] #[],.bool false,.bool true,.bool false]).setRow (w.heap.size+1+1) #[.int .i64 ok,.string op,.string ot,.int .i64 oa,.int .i64 on,.string od,.slice sa n sc,.slice none 0 0]).cell? ⟨g5,0,none⟩=some (.func (.func f) #[] #[])/\((w5.drew.setRow (w.heap.size+1) #[.func (.func f) #[] #[],.bool false,.bool true,.bool false]).setRow (w.heap.size+1+1) #[.int .i64 ok,.string op,.string ot,.int .i64 oa,.int .i64 on,.string od,.slice sa n sc,.slice none 0 0]).cell? ⟨g5,1,none⟩=some (.bool false)/\((w5.drew.setRow (w.heap.size+1) #[.func (.func f) #[] #[],.bool false,.bool true,.bool false]).setRow (w.heap.size+1+1) #[.int .i64 ok,.string op,.string ot,.int .i64 oa,.int .i64 on,.string od,.slice sa n sc,.slice none 0 0]).cell? ⟨g5,2,none⟩=some (.bool true)/\((w5.drew.setRow (w.heap.size+1) #[.func (.func f) #[] #[],.bool false,.bool true,.bool false]).setRow (w.heap.size+1+1) #[.int .i64 ok,.string op,.string ot,.int .i64 oa,.int .i64 on,.string od,.slice sa n sc,.slice none 0 0]).cell? ⟨g5,3,none⟩=some (.bool false))/\((w5.drew.setRow (w.heap.size+1) #[.func (.func f) #[] #[],.bool false,.bool true,.bool false]).setRow (w.heap.size+1+1) #[.int .i64 ok,.string op,.string ot,.int .i64 oa,.int .i64 on,.string od,.slice sa n sc,.slice none 0 0]).cell? ⟨g6,0,none⟩=some (.int .i64 ok)/\((w5.drew.setRow (w.heap.size+1) #[.func (.func f) #[] #[],.bool false,.bool true,.bool false]).setRow (w.heap.size+1+1) #[.int .i64 ok,.string op,.string ot,.int .i64 oa,.int .i64 on,.string od,.slice sa n sc,.slice none 0 0]).cell? ⟨g6,1,none⟩=some (.string op)/\((w5.drew.setRow (w.heap.size+1) #[.func (.func f) #[] #[],.bool false,.bool true,.bool false]).setRow (w.heap.size+1+1) #[.int .i64 ok,.string op,.string ot,.int .i64 oa,.int .i64 on,.string od,.slice sa n sc,.slice none 0 0]).cell? ⟨g6,2,none⟩=some (.string ot)/\((w5.drew.setRow (w.heap.size+1) #[.func (.func f) #[] #[],.bool false,.bool true,.bool false]).setRow (w.heap.size+1+1) #[.int .i64 ok,.string op,.string ot,.int .i64 oa,.int .i64 on,.string od,.slice sa n sc,.slice none 0 0]).cell? ⟨g6,3,none⟩=some (.int .i64 oa)/\((w5.drew.setRow (w.heap.size+1) #[.func (.func f) #[] #[],.bool false,.bool true,.bool false]).setRow (w.heap.size+1+1) #[.int .i64 ok,.string op,.string ot,.int .i64 oa,.int .i64 on,.string od,.slice sa n sc,.slice none 0 0]).cell? ⟨g6,4,none⟩=some (.int .i64 on)/\((w5.drew.setRow (w.heap.size+1) #[.func (.func f) #[] #[],.bool false,.bool true,.bool false]).setRow (w.heap.size+1+1) #[.int .i64 ok,.string op,.string ot,.int .i64 oa,.int .i64 on,.string od,.slice sa n sc,.slice none 0 0]).cell? ⟨g6,5,none⟩=some (.string od)/\((w5.drew.setRow (w.heap.size+1) #[.func (.func f) #[] #[],.bool false,.bool true,.bool false]).setRow (w.heap.size+1+1) #[.int .i64 ok,.string op,.string ot,.int .i64 oa,.int .i64 on,.string od,.slice sa n sc,.slice none 0 0]).cell? ⟨g6,6,none⟩=some (.slice sa n sc)/\((w5.drew.setRow (w.heap.size+1) #[.func (.func f) #[] #[],.bool false,.bool true,.bool false]).setRow (w.heap.size+1+1) #[.int .i64 ok,.string op,.string ot,.int .i64 oa,.int .i64 on,.string od,.slice sa n sc,.slice none 0 0]).cell? ⟨g6,7,none⟩=some (.slice none 0 0)):=HK5.out _ ((Qz _ _ _ _ (by have:=HLT.out;omega)).trans (Qz _ _ _ _ (by have:=HLT.out;omega))) ((Qz _ _ _ _ (by have:=HLT.out;omega)).trans (Qz _ _ _ _ (by have:=HLT.out;omega)))
    have HF1:Hid (((w5.drew.setRow (w.heap.size+1) #[.func (.func f) #[] #[],.bool false,.bool true,.bool false]).setRow (w.heap.size+1+1) #[.int .i64 ok,.string op,.string ot,.int .i64 oa,.int .i64 on,.string od,.slice sa n sc,.slice none 0 0]).heap[w.heap.size+1]?=some (.cells #[.func (.func f) #[] #[],.bool false,.bool true,.bool false] 99 (0,0))):=(Qz _ _ _ _ (by omega)).trans (Qa _ _ _ _ _ _ HZ1.out)
    have HF2:Hid (((w5.drew.setRow (w.heap.size+1) #[.func (.func f) #[] #[],.bool false,.bool true,.bool false]).setRow (w.heap.size+1+1) #[.int .i64 ok,.string op,.string ot,.int .i64 oa,.int .i64 on,.string od,.slice sa n sc,.slice none 0 0]).heap[w.heap.size+1+1]?=some (.cells #[.int .i64 ok,.string op,.string ot,.int .i64 oa,.int .i64 on,.string od,.slice sa n sc,.slice none 0 0] 101 (0,0))):=Qa _ _ _ _ _ _ HZ2.out
    have hSx:((w5.drew.cell? ⟨g5,0,none⟩=some (.func (.func f) #[] #[])/\w5.drew.cell? ⟨g5,1,none⟩=some (.bool false)/\w5.drew.cell? ⟨g5,2,none⟩=some (.bool true)/\w5.drew.cell? ⟨g5,3,none⟩=some (.bool false))/\w5.drew.cell? ⟨g6,0,none⟩=some (.int .i64 ok)/\w5.drew.cell? ⟨g6,1,none⟩=some (.string op)/\w5.drew.cell? ⟨g6,2,none⟩=some (.string ot)/\w5.drew.cell? ⟨g6,3,none⟩=some (.int .i64 oa)/\w5.drew.cell? ⟨g6,4,none⟩=some (.int .i64 on)/\w5.drew.cell? ⟨g6,5,none⟩=some (.string od)/\w5.drew.cell? ⟨g6,6,none⟩=some (.slice sa n sc)/\w5.drew.cell? ⟨g6,7,none⟩=some (.slice none 0 0)):=HK5.out _ rfl rfl
    clear HK5 HLT
    go_wp2_with fail
    refine wp_region_held_drew (S:=fun V=>(V.cell? ⟨g5,0,none⟩=some (.func (.func f) #[] #[])/\V.cell? ⟨g5,1,none⟩=some (.bool false)/\V.cell? ⟨g5,2,none⟩=some (.bool true)/\V.cell? ⟨g5,3,none⟩=some (.bool false))/\V.cell? ⟨g6,0,none⟩=some (.int .i64 ok)/\V.cell? ⟨g6,1,none⟩=some (.string op)/\V.cell? ⟨g6,2,none⟩=some (.string ot)/\V.cell? ⟨g6,3,none⟩=some (.int .i64 oa)/\V.cell? ⟨g6,4,none⟩=some (.int .i64 on)/\V.cell? ⟨g6,5,none⟩=some (.string od)/\V.cell? ⟨g6,6,none⟩=some (.slice sa n sc)/\V.cell? ⟨g6,7,none⟩=some (.slice none 0 0)) (by kernel_rfl) hSx ?_
    intro hS
    clear hSx
    refine tQ 0 ⟨some 68,.load 99 (.tmp 5),_,_,_,none⟩ (.agg #[.func (.func f) #[] #[],.bool false,.bool true,.bool false]) rfl hS ?_ (Or.inl ⟨by rfl,by intro x hx;obtain ⟨⟨h0,h1,h2,h3⟩,_⟩:=hx;go_simp⟩)
    (try simp only[Act.put,sA,sB,sC])
    refine tQ 1 ⟨some 69,.load 101 (.tmp 6),_,_,_,none⟩ (.agg #[.int .i64 ok,.string op,.string ot,.int .i64 oa,.int .i64 on,.string od,.slice sa n sc,.slice none 0 0]) rfl hS ?_ (Or.inl ⟨by rfl,by intro x hx;obtain ⟨_,h0,h1,h2,h3,h4,h5,h6,h7⟩:=hx;go_simp⟩)
    (try simp only[Act.put,sA,sB,sC])
    refine wpAnyH_ready (rs:=[2]) (by kernel_rfl) (by simp) ?_
    refine AllReadyH.cons (o:=⟨none,.store 99 (.tmp 2) (.tmp 68),_,_,_,none⟩) rfl (fun K hK=>?_) AllReadyH.nil
    refine jA5 rfl 99 (.tmp 2) (.tmp 68) rfl (w.heap.size+1) #[.func (.func f) #[] #[],.bool false,.bool true,.bool false] (by simp[Act.eval]) (by simp[Act.eval]) 99 _ HZ1.out jCy rfl (by simp[Value.oneCell']) ?_
    have hS2:=HS1.out
    refine hK.out _ _ hS2 (fun _=>?_)
    clear hK K hS
    (try simp only[Act.put])
    have hS:=hS2
    clear hS2
    refine wpAnyH_ready (rs:=[3]) (by kernel_rfl) (by simp) ?_
    refine AllReadyH.cons (o:=⟨none,.store 101 (.tmp 3) (.tmp 69),_,_,_,none⟩) rfl (fun K hK=>?_) AllReadyH.nil
    refine jA5 rfl 101 (.tmp 3) (.tmp 69) rfl (w.heap.size+1+1) #[.int .i64 ok,.string op,.string ot,.int .i64 oa,.int .i64 on,.string od,.slice sa n sc,.slice none 0 0] (by simp[Act.eval]) (by simp[Act.eval]) 101 _ HZ2.out jCz rfl (by simp[Value.oneCell']) ?_
    have hS2:=HS2.out
    refine hK.out _ _ hS2 (fun _=>?_)
    clear hK K hS
    (try simp only[Act.put])
    have hS:=hS2
    clear hS2
    refine tQ 4 ⟨some 4,.assign (.const (.int .i64 0)),_,_,_,none⟩ (.int .i64 0) rfl hS ?_
    (try simp only[Act.put,sA,sB,sC])
    refine wpAnyH_done (by kernel_rfl) ?_ _
    clear hS
    go_wp2_with fail
    refine Qw (jBz rfl _ _ (w.heap.size+1) 99 #[.func (.func f) #[] #[],.bool false,.bool true,.bool false] (0,0) _ (w.heap.size+1+1) 101 #[.int .i64 ok,.string op,.string ot,.int .i64 oa,.int .i64 on,.string od,.slice sa n sc,.slice none 0 0] (0,0) _ rfl HF1.out underlying99 rfl jCy rfl HF2.out underlying101 rfl jCz) rfl ?_
    exact .inl ⟨HEV.out,_,_,_,_,_,_,rfl,(jE1 (jE1 (HOw5.out.below (Qq _ _).drew) (by have:=HG6.out;omega)) (by have:=HG6.out;omega)).see,fun h=>(by cases h),jAx (jAx HBw5.out.hb.drew (by omega) _) (by omega) _⟩
  ·have hEb:(E1 != 0)=true:=by simp[hE]
   have HEN:Hid (E1≠0):=hE
   have HEV:Hid (E=E1):=HE.out.trans (if_pos hE)
   clear hE
   go_wp2_with (first
    | (refine wpList_store_row rfl 99 (.tmp 2) (.tmp 33) rfl (w.heap.size+1) ZO rfl rfl 99 _ HBw5.out.h1 jCy rfl (by simp[Value.oneCell']) ?_)
    | (refine wpList_store_row rfl 101 (.tmp 3) (.tmp 34) rfl (w.heap.size+1+1) ZR rfl rfl 101 _ ((Qz _ _ _ _ (by omega)).trans HBw5.out.h2) jCz rfl (by simp[Value.oneCell']) ?_))
   refine Qw (jBz rfl _ _ (w.heap.size+1) 99 ZO (0,0) _ (w.heap.size+1+1) 101 ZR (0,0) _ rfl ((Qz _ _ _ _ (by omega)).trans (Qa _ _ _ _ _ _ HBw5.out.h1)) underlying99 rfl jCy rfl (Qa _ _ _ _ _ _ ((Qz _ _ _ _ (by omega)).trans HBw5.out.h2)) underlying101 rfl jCz) rfl ?_
   rw[HEV.out]
   exact .inr ⟨HEN.out,rfl,jAx (jAx HBw5.out.hb (by omega) _) (by omega) _⟩
 ·have HE:Hid (E=if E1≠0 then E1 else if on<0 then 1 else 0):=hE0
  have HLL:Hid (Pa.jB3 op=L1):=HLA
  clear HC hE0 HLA HLB HPT
  clear p0 p1 p2 p3 p4 p5 hW HOPS HROW
  obtain ⟨-,c1,-⟩:=HCD.out _ HL.out.hb
  go_wp2_with fail
  refine (HP1.out wc).mono ?_
  rintro e w4 ⟨sa,n,sc,rfl,HO4,hb4⟩
  have HL4:Hid _:=HL.out.below hb4
  obtain ⟨z0,z1,z2,z3,z4,z5,z6,z7⟩:=jC8 HL4.out.h6
  have fz4:∀j,w4.frozen? ⟨g6,j,none⟩=false:=fun j=>jAq HL4.out.h6
  have HLw5:Hid _:=HL4.out.set6 (v:=.slice sa n sc)
  have HG6:Hid (g6<wc.heap.size/\w.heap.size+1+1<wc.heap.size/\w.heap.size+1+1<g6):=by
   have h1:=HL4.out.b6
   have h3:=jAv HBW.out.h2
   exact ⟨jAv HL.out.h6,Qx (jAv HBW.out.h2) HL.out.hb.size,by omega⟩
  have HOw5:Hid (Pa.Own (w4.setCell ⟨g6,6,none⟩ (.slice sa n sc)) wc.heap.size (.slice sa n sc) (Pa.jB3 op)):=by
   rw[HLL.out]
   exact jJ1 HO4.out HG6.out.1
  have HBw5:Hid (Bs w (w4.setCell ⟨g6,6,none⟩ (.slice sa n sc)) #[.int .i64 ok,.string op,.string ot,.int .i64 oa,.int .i64 on,.string od]):=((HBW.out.of HL.out.hb).below hb4).set (by have:=HG6.out;omega)
  clear hb4 c1 HP1 HO4
  obtain ⟨w5,hw5⟩:∃w5,w4.setCell ⟨g6,6,none⟩ (.slice sa n sc)=w5:=⟨_,rfl⟩
  rw[hw5] at HLw5 HOw5 HBw5
  by_cases hE:E1=0
  ·subst hE
   obtain ⟨x0,x1,x2,x3⟩:=jH3 HLw5.out.h5
   obtain ⟨c0,c1,c2,c3,c4,c5⟩:=jB4 HBw5.out.hp
   by_cases ha:on<0
   ·have hda:decide (on<0)=true:=by simp[ha]
    have HEV:Hid (E=1):=(HE.out.trans (if_neg (by simp))).trans (if_pos ha)
    have HEN:Hid ((1:Int)≠0):=by show (1:Int)≠0;omega
    go_upto_region 13 with fail
    go_wp2_with (first
     | (refine wpList_store_row rfl 99 (.tmp 2) (.tmp 66) rfl (w.heap.size+1) ZO rfl rfl 99 _ HBw5.out.h1 jCy rfl (by simp[Value.oneCell']) ?_)
     | (refine wpList_store_row rfl 101 (.tmp 3) (.tmp 67) rfl (w.heap.size+1+1) ZR rfl rfl 101 _ ((Qz _ _ _ _ (by omega)).trans HBw5.out.h2) jCz rfl (by simp[Value.oneCell']) ?_))
    refine Qw (jBz rfl _ _ (w.heap.size+1) 99 ZO (0,0) _ (w.heap.size+1+1) 101 ZR (0,0) _ rfl ((Qz _ _ _ _ (by omega)).trans (Qa _ _ _ _ _ _ HBw5.out.h1)) underlying99 rfl jCy rfl (Qa _ _ _ _ _ _ ((Qz _ _ _ _ (by omega)).trans HBw5.out.h2)) underlying101 rfl jCz) rfl ?_
    rw[HEV.out]
    exact .inr ⟨HEN.out,rfl,jAx (jAx HBw5.out.hb (by omega) _) (by omega) _⟩
   ·have hda:decide (on<0)=false:=by simp[ha]
    have HEV:Hid (E=0):=(HE.out.trans (if_neg (by simp))).trans (if_neg ha)
    have HZ1:Hid (w5.drew.heap[w.heap.size+1]?=some (.cells ZO 99 (0,0))):=HBw5.out.h1
    have HZ2:Hid ((w5.drew.setRow (w.heap.size+1) #[.func (.func f) #[] #[],.bool false,.bool false,.bool true]).heap[w.heap.size+1+1]?=some (.cells ZR 101 (0,0))):=(Qz _ _ _ _ (by omega)).trans HBw5.out.h2
    have HLT:Hid (w.heap.size+1+1<g5/\w.heap.size+1+1<g6):=by
     have h1:=HLw5.out.b5
     have h2:=HLw5.out.b6
     have h3:=jAv HBW.out.h2
     exact ⟨by omega,by omega⟩
    have HK5:Hid (∀V:World,V.heap[g5]?=w5.heap[g5]?->V.heap[g6]?=w5.heap[g6]?->(V.cell? ⟨g5,0,none⟩=some (.func (.func f) #[] #[])/\V.cell? ⟨g5,1,none⟩=some (.bool false)/\V.cell? ⟨g5,2,none⟩=some (.bool false)/\V.cell? ⟨g5,3,none⟩=some (.bool true))/\V.cell? ⟨g6,0,none⟩=some (.int .i64 ok)/\V.cell? ⟨g6,1,none⟩=some (.string op)/\V.cell? ⟨g6,2,none⟩=some (.string ot)/\V.cell? ⟨g6,3,none⟩=some (.int .i64 oa)/\V.cell? ⟨g6,4,none⟩=some (.int .i64 on)/\V.cell? ⟨g6,5,none⟩=some (.string od)/\V.cell? ⟨g6,6,none⟩=some (.slice sa n sc)/\V.cell? ⟨g6,7,none⟩=some (.slice none 0 0)):=fun V h5 h6=>⟨jH3 (h5.trans HLw5.out.h5),jC8 (h6.trans HLw5.out.h6)⟩
    have HS1:Hid (((w5.drew.setRow (w.heap.size+1) #[.func (.func f) #[] #[],.bool false,.bool false,.bool true]).cell? ⟨g5,0,none⟩=some (.func (.func f) #[] #[])/\(w5.drew.setRow (w.heap.size+1) #[.func (.func f) #[] #[],.bool false,.bool false,.bool true]).cell? ⟨g5,1,none⟩=some (.bool false)/\(w5.drew.setRow (w.heap.size+1) #[.func (.func f) #[] #[],.bool false,.bool false,.bool true]).cell? ⟨g5,2,none⟩=some (.bool false)/\(w5.drew.setRow (w.heap.size+1) #[.func (.func f) #[] #[],.bool false,.bool false,.bool true]).cell? ⟨g5,3,none⟩=some (.bool true))/\(w5.drew.setRow (w.heap.size+1) #[.func (.func f) #[] #[],.bool false,.bool false,.bool true]).cell? ⟨g6,0,none⟩=some (.int .i64 ok)/\(w5.drew.setRow (w.heap.size+1) #[.func (.func f) #[] #[],.bool false,.bool false,.bool true]).cell? ⟨g6,1,none⟩=some (.string op)/\(w5.drew.setRow (w.heap.size+1) #[.func (.func f) #[] #[],.bool false,.bool false,.bool true]).cell? ⟨g6,2,none⟩=some (.string ot)/\(w5.drew.setRow (w.heap.size+1) #[.func (.func f) #[] #[],.bool false,.bool false,.bool true]).cell? ⟨g6,3,none⟩=some (.int .i64 oa)/\(w5.drew.setRow (w.heap.size+1) #[.func (.func f) #[] #[],.bool false,.bool false,.bool true]).cell? ⟨g6,4,none⟩=some (.int .i64 on)/\(w5.drew.setRow (w.heap.size+1) #[.func (.func f) #[] #[],.bool false,.bool false,.bool true]).cell? ⟨g6,5,none⟩=some (.string od)/\(w5.drew.setRow (w.heap.size+1) #[.func (.func f) #[] #[],.bool false,.bool false,.bool true]).cell? ⟨g6,6,none⟩=some (.slice sa n sc)/\(w5.drew.setRow (w.heap.size+1) #[.func (.func f) #[] #[],.bool false,.bool false,.bool true]).cell? ⟨g6,7,none⟩=some (.slice none 0 0)):=HK5.out _ (Qz _ _ _ _ (by have:=HLT.out;omega)) (Qz _ _ _ _ (by have:=HLT.out;omega))
    have HS2:Hid ((((w5.drew.setRow (w.heap.size+1) #[.func (.func f) #[] #[],.bool false,.bool false,.bool true]).setRow (w.heap.size+1+1) #[.int .i64 ok,.string op,.string ot,.int .i64 oa,.int .i64 on,.string od,.slice sa n sc,.slice none 0 0]).cell? ⟨g5,0,none⟩=some (.func (.func f) #[] #[])/\((w5.drew.setRow (w.heap.size+1) #[.func (.func f) #[] #[],.bool false,.bool false,.bool true]).setRow (w.heap.size+1+1) #[.int .i64 ok,.string op,.string ot,.int .i64 oa,.int .i64 on,.string od,.slice sa n sc,.slice none 0 0]).cell? ⟨g5,1,none⟩=some (.bool false)/\((w5.drew.setRow (w.heap.size+1) #[.func (.func f) #[] #[],.bool false,.bool false,.bool true]).setRow (w.heap.size+1+1) #[.int .i64 ok,.string op,.string ot,.int .i64 oa,.int .i64 on,.string od,.slice sa n sc,.slice none 0 0]).cell? ⟨g5,2,none⟩=some (.bool false)/\((w5.drew.setRow (w.heap.size+1) #[.func (.func f) #[] #[],.bool false,.bool false,.bool true]).setRow (w.heap.size+1+1) #[.int .i64 ok,.string op,.string ot,.int .i64 oa,.int .i64 on,.string od,.slice sa n sc,.slice none 0 0]).cell? ⟨g5,3,none⟩=some (.bool true))/\((w5.drew.setRow (w.heap.size+1) #[.func (.func f) #[] #[],.bool false,.bool false,.bool true]).setRow (w.heap.size+1+1) #[.int .i64 ok,.string op,.string ot,.int .i64 oa,.int .i64 on,.string od,.slice sa n sc,.slice none 0 0]).cell? ⟨g6,0,none⟩=some (.int .i64 ok)/\((w5.drew.setRow (w.heap.size+1) #[.func (.func f) #[] #[],.bool false,.bool false,.bool true]).setRow (w.heap.size+1+1) #[.int .i64 ok,.string op,.string ot,.int .i64 oa,.int .i64 on,.string od,.slice sa n sc,.slice none 0 0]).cell? ⟨g6,1,none⟩=some (.string op)/\((w5.drew.setRow (w.heap.size+1) #[.func (.func f) #[] #[],.bool false,.bool false,.bool true]).setRow (w.heap.size+1+1) #[.int .i64 ok,.string op,.string ot,.int .i64 oa,.int .i64 on,.string od,.slice sa n sc,.slice none 0 0]).cell? ⟨g6,2,none⟩=some (.string ot)/\((w5.drew.setRow (w.heap.size+1) #[.func (.func f) #[] #[],.bool false,.bool false,.bool true]).setRow (w.heap.size+1+1) #[.int .i64 ok,.string op,.string ot,.int .i64 oa,.int .i64 on,.string od,.slice sa n sc,.slice none 0 0]).cell? ⟨g6,3,none⟩=some (.int .i64 oa)/\((w5.drew.setRow (w.heap.size+1) #[.func (.func f) #[] #[],.bool false,.bool false,.bool true]).setRow (w.heap.size+1+1) #[.int .i64 ok,.string op,.string ot,.int .i64 oa,.int .i64 on,.string od,.slice sa n sc,.slice none 0 0]).cell? ⟨g6,4,none⟩=some (.int .i64 on)/\((w5.drew.setRow (w.heap.size+1) #[.func (.func f) #[] #[],.bool false,.bool false,.bool true]).setRow (w.heap.size+1+1) #[.int .i64 ok,.string op,.string ot,.int .i64 oa,.int .i64 on,.string od,.slice sa n sc,.slice none 0 0]).cell? ⟨g6,5,none⟩=some (.string od)/\((w5.drew.setRow (w.heap.size+1) #[.func (.func f) #[] #[],.bool false,.bool false,.bool true]).setRow (w.heap.size+1+1) #[.int .i64 ok,.string op,.string ot,.int .i64 oa,.int .i64 on,.string od,.slice sa n sc,.slice none 0 0]).cell? ⟨g6,6,none⟩=some (.slice sa n sc)/\((w5.drew.setRow (w.heap.size+1) #[.func (.func f) #[] #[],.bool false,.bool false,.bool true]).setRow (w.heap.size+1+1) #[.int .i64 ok,.string op,.string ot,.int .i64 oa,.int .i64 on,.string od,.slice sa n sc,.slice none 0 0]).cell? ⟨g6,7,none⟩=some (.slice none 0 0)):=HK5.out _ ((Qz _ _ _ _ (by have:=HLT.out;omega)).trans (Qz _ _ _ _ (by have:=HLT.out;omega))) ((Qz _ _ _ _ (by have:=HLT.out;omega)).trans (Qz _ _ _ _ (by have:=HLT.out;omega)))
    have HF1:Hid (((w5.drew.setRow (w.heap.size+1) #[.func (.func f) #[] #[],.bool false,.bool false,.bool true]).setRow (w.heap.size+1+1) #[.int .i64 ok,.string op,.string ot,.int .i64 oa,.int .i64 on,.string od,.slice sa n sc,.slice none 0 0]).heap[w.heap.size+1]?=some (.cells #[.func (.func f) #[] #[],.bool false,.bool false,.bool true] 99 (0,0))):=(Qz _ _ _ _ (by omega)).trans (Qa _ _ _ _ _ _ HZ1.out)
    have HF2:Hid (((w5.drew.setRow (w.heap.size+1) #[.func (.func f) #[] #[],.bool false,.bool false,.bool true]).setRow (w.heap.size+1+1) #[.int .i64 ok,.string op,.string ot,.int .i64 oa,.int .i64 on,.string od,.slice sa n sc,.slice none 0 0]).heap[w.heap.size+1+1]?=some (.cells #[.int .i64 ok,.string op,.string ot,.int .i64 oa,.int .i64 on,.string od,.slice sa n sc,.slice none 0 0] 101 (0,0))):=Qa _ _ _ _ _ _ HZ2.out
    have hSx:((w5.drew.cell? ⟨g5,0,none⟩=some (.func (.func f) #[] #[])/\w5.drew.cell? ⟨g5,1,none⟩=some (.bool false)/\w5.drew.cell? ⟨g5,2,none⟩=some (.bool false)/\w5.drew.cell? ⟨g5,3,none⟩=some (.bool true))/\w5.drew.cell? ⟨g6,0,none⟩=some (.int .i64 ok)/\w5.drew.cell? ⟨g6,1,none⟩=some (.string op)/\w5.drew.cell? ⟨g6,2,none⟩=some (.string ot)/\w5.drew.cell? ⟨g6,3,none⟩=some (.int .i64 oa)/\w5.drew.cell? ⟨g6,4,none⟩=some (.int .i64 on)/\w5.drew.cell? ⟨g6,5,none⟩=some (.string od)/\w5.drew.cell? ⟨g6,6,none⟩=some (.slice sa n sc)/\w5.drew.cell? ⟨g6,7,none⟩=some (.slice none 0 0)):=HK5.out _ rfl rfl
    clear HK5 HLT
    go_wp2_with fail
    refine wp_region_held_drew (S:=fun V=>(V.cell? ⟨g5,0,none⟩=some (.func (.func f) #[] #[])/\V.cell? ⟨g5,1,none⟩=some (.bool false)/\V.cell? ⟨g5,2,none⟩=some (.bool false)/\V.cell? ⟨g5,3,none⟩=some (.bool true))/\V.cell? ⟨g6,0,none⟩=some (.int .i64 ok)/\V.cell? ⟨g6,1,none⟩=some (.string op)/\V.cell? ⟨g6,2,none⟩=some (.string ot)/\V.cell? ⟨g6,3,none⟩=some (.int .i64 oa)/\V.cell? ⟨g6,4,none⟩=some (.int .i64 on)/\V.cell? ⟨g6,5,none⟩=some (.string od)/\V.cell? ⟨g6,6,none⟩=some (.slice sa n sc)/\V.cell? ⟨g6,7,none⟩=some (.slice none 0 0)) (by kernel_rfl) hSx ?_
    intro hS
    clear hSx
    refine tQ 0 ⟨some 68,.load 99 (.tmp 5),_,_,_,none⟩ (.agg #[.func (.func f) #[] #[],.bool false,.bool false,.bool true]) rfl hS ?_ (Or.inl ⟨by rfl,by intro x hx;obtain ⟨⟨h0,h1,h2,h3⟩,_⟩:=hx;go_simp⟩)
    (try simp only[Act.put,sA,sB,sC])
    refine tQ 1 ⟨some 69,.load 101 (.tmp 6),_,_,_,none⟩ (.agg #[.int .i64 ok,.string op,.string ot,.int .i64 oa,.int .i64 on,.string od,.slice sa n sc,.slice none 0 0]) rfl hS ?_ (Or.inl ⟨by rfl,by intro x hx;obtain ⟨_,h0,h1,h2,h3,h4,h5,h6,h7⟩:=hx;go_simp⟩)
    (try simp only[Act.put,sA,sB,sC])
    refine wpAnyH_ready (rs:=[2]) (by kernel_rfl) (by simp) ?_
    refine AllReadyH.cons (o:=⟨none,.store 99 (.tmp 2) (.tmp 68),_,_,_,none⟩) rfl (fun K hK=>?_) AllReadyH.nil
    refine jA5 rfl 99 (.tmp 2) (.tmp 68) rfl (w.heap.size+1) #[.func (.func f) #[] #[],.bool false,.bool false,.bool true] (by simp[Act.eval]) (by simp[Act.eval]) 99 _ HZ1.out jCy rfl (by simp[Value.oneCell']) ?_
    have hS2:=HS1.out
    refine hK.out _ _ hS2 (fun _=>?_)
    clear hK K hS
    (try simp only[Act.put])
    have hS:=hS2
    clear hS2
    refine wpAnyH_ready (rs:=[3]) (by kernel_rfl) (by simp) ?_
    refine AllReadyH.cons (o:=⟨none,.store 101 (.tmp 3) (.tmp 69),_,_,_,none⟩) rfl (fun K hK=>?_) AllReadyH.nil
    refine jA5 rfl 101 (.tmp 3) (.tmp 69) rfl (w.heap.size+1+1) #[.int .i64 ok,.string op,.string ot,.int .i64 oa,.int .i64 on,.string od,.slice sa n sc,.slice none 0 0] (by simp[Act.eval]) (by simp[Act.eval]) 101 _ HZ2.out jCz rfl (by simp[Value.oneCell']) ?_
    have hS2:=HS2.out
    refine hK.out _ _ hS2 (fun _=>?_)
    clear hK K hS
    (try simp only[Act.put])
    have hS:=hS2
    clear hS2
    refine tQ 4 ⟨some 4,.assign (.const (.int .i64 0)),_,_,_,none⟩ (.int .i64 0) rfl hS ?_
    (try simp only[Act.put,sA,sB,sC])
    refine wpAnyH_done (by kernel_rfl) ?_ _
    clear hS
    go_wp2_with fail
    refine Qw (jBz rfl _ _ (w.heap.size+1) 99 #[.func (.func f) #[] #[],.bool false,.bool false,.bool true] (0,0) _ (w.heap.size+1+1) 101 #[.int .i64 ok,.string op,.string ot,.int .i64 oa,.int .i64 on,.string od,.slice sa n sc,.slice none 0 0] (0,0) _ rfl HF1.out underlying99 rfl jCy rfl HF2.out underlying101 rfl jCz) rfl ?_
    exact .inl ⟨HEV.out,_,_,_,_,_,_,rfl,(jE1 (jE1 (HOw5.out.below (Qq _ _).drew) (by have:=HG6.out;omega)) (by have:=HG6.out;omega)).see,fun h=>(by cases h),jAx (jAx HBw5.out.hb.drew (by omega) _) (by omega) _⟩
  ·have hEb:(E1 != 0)=true:=by simp[hE]
   have HEN:Hid (E1≠0):=hE
   have HEV:Hid (E=E1):=HE.out.trans (if_pos hE)
   clear hE
   go_wp2_with (first
    | (refine wpList_store_row rfl 99 (.tmp 2) (.tmp 33) rfl (w.heap.size+1) ZO rfl rfl 99 _ HBw5.out.h1 jCy rfl (by simp[Value.oneCell']) ?_)
    | (refine wpList_store_row rfl 101 (.tmp 3) (.tmp 34) rfl (w.heap.size+1+1) ZR rfl rfl 101 _ ((Qz _ _ _ _ (by omega)).trans HBw5.out.h2) jCz rfl (by simp[Value.oneCell']) ?_))
   refine Qw (jBz rfl _ _ (w.heap.size+1) 99 ZO (0,0) _ (w.heap.size+1+1) 101 ZR (0,0) _ rfl ((Qz _ _ _ _ (by omega)).trans (Qa _ _ _ _ _ _ HBw5.out.h1)) underlying99 rfl jCy rfl (Qa _ _ _ _ _ _ ((Qz _ _ _ _ (by omega)).trans HBw5.out.h2)) underlying101 rfl jCz) rfl ?_
   rw[HEV.out]
   exact .inr ⟨HEN.out,rfl,jAx (jAx HBw5.out.hb (by omega) _) (by omega) _⟩
 ·have HE:Hid (E=if E1≠0 then E1 else if E2≠0 then E2 else 0):=hE0
  have HLL:Hid (Pa.jB3 op=L1/\Pa.jB3 ot=L2):=HLB
  clear HC hE0 HLA HLB
  clear p0 p1 p2 p3 p4 p5 hW HOPS HROW
  obtain ⟨-,c1,-⟩:=HCD.out _ HL.out.hb
  go_wp2_with fail
  refine (HP1.out wc).mono ?_
  rintro e w4 ⟨sa,n,sc,rfl,HO4,hb4⟩
  have HL4:Hid _:=HL.out.below hb4
  obtain ⟨z0,z1,z2,z3,z4,z5,z6,z7⟩:=jC8 HL4.out.h6
  have fz4:∀j,w4.frozen? ⟨g6,j,none⟩=false:=fun j=>jAq HL4.out.h6
  have HLw5:Hid _:=HL4.out.set6 (v:=.slice sa n sc)
  have HG6:Hid (g6<wc.heap.size/\w.heap.size+1+1<wc.heap.size/\w.heap.size+1+1<g6):=by
   have h1:=HL4.out.b6
   have h3:=jAv HBW.out.h2
   exact ⟨jAv HL.out.h6,Qx (jAv HBW.out.h2) HL.out.hb.size,by omega⟩
  have HOw5:Hid (Pa.Own (w4.setCell ⟨g6,6,none⟩ (.slice sa n sc)) wc.heap.size (.slice sa n sc) (Pa.jB3 op)):=by
   rw[HLL.out.1]
   exact jJ1 HO4.out HG6.out.1
  have HBw5:Hid (Bs w (w4.setCell ⟨g6,6,none⟩ (.slice sa n sc)) #[.int .i64 ok,.string op,.string ot,.int .i64 oa,.int .i64 on,.string od]):=((HBW.out.of HL.out.hb).below hb4).set (by have:=HG6.out;omega)
  clear hb4 c1 HP1 HO4
  obtain ⟨w5,hw5⟩:∃w5,w4.setCell ⟨g6,6,none⟩ (.slice sa n sc)=w5:=⟨_,rfl⟩
  rw[hw5] at HLw5 HOw5 HBw5
  by_cases hE:E1=0
  ·subst hE
   obtain ⟨x0,x1,x2,x3⟩:=jH3 HLw5.out.h5
   obtain ⟨c0,c1,c2,c3,c4,c5⟩:=jB4 HBw5.out.hp
   go_wp2_with fail
   refine (HPT.out w5).mono ?_
   rintro e w6 ⟨ta,tn,tc,rfl,HT6,hb6⟩
   have HLw6:Hid _:=HLw5.out.below hb6
   obtain ⟨y0,y1,y2,y3,y4,y5,y6,y7⟩:=jC8 HLw6.out.h6
   have fz6:∀j,w6.frozen? ⟨g6,j,none⟩=false:=fun j=>jAq HLw6.out.h6
   have HLw7:Hid _:=HLw6.out.set7 (v:=.slice ta tn tc)
   have HG7:Hid (g6<w5.heap.size/\w.heap.size+1+1<w5.heap.size):=⟨jAv HLw5.out.h6,jAv HBw5.out.h2⟩
   have HTw7:Hid (Pa.Own (w6.setCell ⟨g6,7,none⟩ (.slice ta tn tc)) w5.heap.size (.slice ta tn tc) (Pa.jB3 ot)):=by
    rw[HLL.out.2]
    exact jJ1 HT6.out HG7.out.1
   have HOw7:Hid (Pa.Own (w6.setCell ⟨g6,7,none⟩ (.slice ta tn tc)) wc.heap.size (.slice sa n sc) (Pa.jB3 op)):=jJ1 (HOw5.out.below hb6) HG6.out.1
   have HBw7:Hid (Bs w (w6.setCell ⟨g6,7,none⟩ (.slice ta tn tc)) #[.int .i64 ok,.string op,.string ot,.int .i64 oa,.int .i64 on,.string od]):=(HBw5.out.below hb6).set (by have:=HG6.out;omega)
   clear hb6 HPT HT6 x0 x1 x2 x3 c0 c1 c2 c3 c4 c5 hw5
   obtain ⟨w7,hw7⟩:∃w7,w6.setCell ⟨g6,7,none⟩ (.slice ta tn tc)=w7:=⟨_,rfl⟩
   rw[hw7] at HLw7 HTw7 HOw7 HBw7
   by_cases hE2:E2=0
   ·subst hE2
    obtain ⟨x0,x1,x2,x3⟩:=jH3 HLw7.out.h5
    obtain ⟨c0,c1,c2,c3,c4,c5⟩:=jB4 HBw7.out.hp
    have HEV:Hid (E=0):=(HE.out.trans (if_neg (by simp))).trans (if_neg (by simp))
    have HZ1:Hid (w7.drew.heap[w.heap.size+1]?=some (.cells ZO 99 (0,0))):=HBw7.out.h1
    have HZ2:Hid ((w7.drew.setRow (w.heap.size+1) #[.func (.func f) #[] #[],.bool true,.bool false,.bool false]).heap[w.heap.size+1+1]?=some (.cells ZR 101 (0,0))):=(Qz _ _ _ _ (by omega)).trans HBw7.out.h2
    have HLT:Hid (w.heap.size+1+1<g5/\w.heap.size+1+1<g6):=by
     have h1:=HLw7.out.b5
     have h2:=HLw7.out.b6
     have h3:=jAv HBW.out.h2
     exact ⟨by omega,by omega⟩
    have HK5:Hid (∀V:World,V.heap[g5]?=w7.heap[g5]?->V.heap[g6]?=w7.heap[g6]?->(V.cell? ⟨g5,0,none⟩=some (.func (.func f) #[] #[])/\V.cell? ⟨g5,1,none⟩=some (.bool true)/\V.cell? ⟨g5,2,none⟩=some (.bool false)/\V.cell? ⟨g5,3,none⟩=some (.bool false))/\V.cell? ⟨g6,0,none⟩=some (.int .i64 ok)/\V.cell? ⟨g6,1,none⟩=some (.string op)/\V.cell? ⟨g6,2,none⟩=some (.string ot)/\V.cell? ⟨g6,3,none⟩=some (.int .i64 oa)/\V.cell? ⟨g6,4,none⟩=some (.int .i64 on)/\V.cell? ⟨g6,5,none⟩=some (.string od)/\V.cell? ⟨g6,6,none⟩=some (.slice sa n sc)/\V.cell? ⟨g6,7,none⟩=some (.slice ta tn tc)):=fun V h5 h6=>⟨jH3 (h5.trans HLw7.out.h5),jC8 (h6.trans HLw7.out.h6)⟩
    have HS1:Hid (((w7.drew.setRow (w.heap.size+1) #[.func (.func f) #[] #[],.bool true,.bool false,.bool false]).cell? ⟨g5,0,none⟩=some (.func (.func f) #[] #[])/\(w7.drew.setRow (w.heap.size+1) #[.func (.func f) #[] #[],.bool true,.bool false,.bool false]).cell? ⟨g5,1,none⟩=some (.bool true)/\(w7.drew.setRow (w.heap.size+1) #[.func (.func f) #[] #[],.bool true,.bool false,.bool false]).cell? ⟨g5,2,none⟩=some (.bool false)/\(w7.drew.setRow (w.heap.size+1) #[.func (.func f) #[] #[],.bool true,.bool false,.bool false]).cell? ⟨g5,3,none⟩=some (.bool false))/\(w7.drew.setRow (w.heap.size+1) #[.func (.func f) #[] #[],.bool true,.bool false,.bool false]).cell? ⟨g6,0,none⟩=some (.int .i64 ok)/\(w7.drew.setRow (w.heap.size+1) #[.func (.func f) #[] #[],.bool true,.bool false,.bool false]).cell? ⟨g6,1,none⟩=some (.string op)/\(w7.drew.setRow (w.heap.size+1) #[.func (.func f) #[] #[],.bool true,.bool false,.bool false]).cell? ⟨g6,2,none⟩=some (.string ot)/\(w7.drew.setRow (w.heap.size+1) #[.func (.func f) #[] #[],.bool true,.bool false,.bool false]).cell? ⟨g6,3,none⟩=some (.int .i64 oa)/\(w7.drew.setRow (w.heap.size+1) #[.func (.func f) #[] #[],.bool true,.bool false,.bool false]).cell? ⟨g6,4,none⟩=some (.int .i64 on)/\(w7.drew.setRow (w.heap.size+1) #[.func (.func f) #[] #[],.bool true,.bool false,.bool false]).cell? ⟨g6,5,none⟩=some (.string od)/\(w7.drew.setRow (w.heap.size+1) #[.func (.func f) #[] #[],.bool true,.bool false,.bool false]).cell? ⟨g6,6,none⟩=some (.slice sa n sc)/\(w7.drew.setRow (w.heap.size+1) #[.func (.func f) #[] #[],.bool true,.bool false,.bool false]).cell? ⟨g6,7,none⟩=some (.slice ta tn tc)):=HK5.out _ (Qz _ _ _ _ (by have:=HLT.out;omega)) (Qz _ _ _ _ (by have:=HLT.out;omega))
    have HS2:Hid ((((w7.drew.setRow (w.heap.size+1) #[.func (.func f) #[] #[],.bool true,.bool false,.bool false]).setRow (w.heap.size+1+1) #[.int .i64 ok,.string op,.string ot,.int .i64 oa,.int .i64 on,.string od,.slice sa n sc,.slice ta tn tc]).cell? ⟨g5,0,none⟩=some (.func (.func f) #[] #[])/\((w7.drew.setRow (w.heap.size+1) #[.func (.func f) #[] #[],.bool true,.bool false,.bool false]).setRow (w.heap.size+1+1) #[.int .i64 ok,.string op,.string ot,.int .i64 oa,.int .i64 on,.string od,.slice sa n sc,.slice ta tn tc]).cell? ⟨g5,1,none⟩=some (.bool true)/\((w7.drew.setRow (w.heap.size+1) #[.func (.func f) #[] #[],.bool true,.bool false,.bool false]).setRow (w.heap.size+1+1) #[.int .i64 ok,.string op,.string ot,.int .i64 oa,.int .i64 on,.string od,.slice sa n sc,.slice ta tn tc]).cell? ⟨g5,2,none⟩=some (.bool false)/\((w7.drew.setRow (w.heap.size+1) #[.func (.func f) #[] #[],.bool true,.bool false,.bool false]).setRow (w.heap.size+1+1) #[.int .i64 ok,.string op,.string ot,.int .i64 oa,.int .i64 on,.string od,.slice sa n sc,.slice ta tn tc]).cell? ⟨g5,3,none⟩=some (.bool false))/\((w7.drew.setRow (w.heap.size+1) #[.func (.func f) #[] #[],.bool true,.bool false,.bool false]).setRow (w.heap.size+1+1) #[.int .i64 ok,.string op,.string ot,.int .i64 oa,.int .i64 on,.string od,.slice sa n sc,.slice ta tn tc]).cell? ⟨g6,0,none⟩=some (.int .i64 ok)/\((w7.drew.setRow (w.heap.size+1) #[.func (.func f) #[] #[],.bool true,.bool false,.bool false]).setRow (w.heap.size+1+1) #[.int .i64 ok,.string op,.string ot,.int .i64 oa,.int .i64 on,.string od,.slice sa n sc,.slice ta tn tc]).cell? ⟨g6,1,none⟩=some (.string op)/\((w7.drew.setRow (w.heap.size+1) #[.func (.func f) #[] #[],.bool true,.bool false,.bool false]).setRow (w.heap.size+1+1) #[.int .i64 ok,.string op,.string ot,.int .i64 oa,.int .i64 on,.string od,.slice sa n sc,.slice ta tn tc]).cell? ⟨g6,2,none⟩=some (.string ot)/\((w7.drew.setRow (w.heap.size+1) #[.func (.func f) #[] #[],.bool true,.bool false,.bool false]).setRow (w.heap.size+1+1) #[.int .i64 ok,.string op,.string ot,.int .i64 oa,.int .i64 on,.string od,.slice sa n sc,.slice ta tn tc]).cell? ⟨g6,3,none⟩=some (.int .i64 oa)/\((w7.drew.setRow (w.heap.size+1) #[.func (.func f) #[] #[],.bool true,.bool false,.bool false]).setRow (w.heap.size+1+1) #[.int .i64 ok,.string op,.string ot,.int .i64 oa,.int .i64 on,.string od,.slice sa n sc,.slice ta tn tc]).cell? ⟨g6,4,none⟩=some (.int .i64 on)/\((w7.drew.setRow (w.heap.size+1) #[.func (.func f) #[] #[],.bool true,.bool false,.bool false]).setRow (w.heap.size+1+1) #[.int .i64 ok,.string op,.string ot,.int .i64 oa,.int .i64 on,.string od,.slice sa n sc,.slice ta tn tc]).cell? ⟨g6,5,none⟩=some (.string od)/\((w7.drew.setRow (w.heap.size+1) #[.func (.func f) #[] #[],.bool true,.bool false,.bool false]).setRow (w.heap.size+1+1) #[.int .i64 ok,.string op,.string ot,.int .i64 oa,.int .i64 on,.string od,.slice sa n sc,.slice ta tn tc]).cell? ⟨g6,6,none⟩=some (.slice sa n sc)/\((w7.drew.setRow (w.heap.size+1) #[.func (.func f) #[] #[],.bool true,.bool false,.bool false]).setRow (w.heap.size+1+1) #[.int .i64 ok,.string op,.string ot,.int .i64 oa,.int .i64 on,.string od,.slice sa n sc,.slice ta tn tc]).cell? ⟨g6,7,none⟩=some (.slice ta tn tc)):=HK5.out _ ((Qz _ _ _ _ (by have:=HLT.out;omega)).trans (Qz _ _ _ _ (by have:=HLT.out;omega))) ((Qz _ _ _ _ (by have:=HLT.out;omega)).trans (Qz _ _ _ _ (by have:=HLT.out;omega)))
    have HF1:Hid (((w7.drew.setRow (w.heap.size+1) #[.func (.func f) #[] #[],.bool true,.bool false,.bool false]).setRow (w.heap.size+1+1) #[.int .i64 ok,.string op,.string ot,.int .i64 oa,.int .i64 on,.string od,.slice sa n sc,.slice ta tn tc]).heap[w.heap.size+1]?=some (.cells #[.func (.func f) #[] #[],.bool true,.bool false,.bool false] 99 (0,0))):=(Qz _ _ _ _ (by omega)).trans (Qa _ _ _ _ _ _ HZ1.out)
    have HF2:Hid (((w7.drew.setRow (w.heap.size+1) #[.func (.func f) #[] #[],.bool true,.bool false,.bool false]).setRow (w.heap.size+1+1) #[.int .i64 ok,.string op,.string ot,.int .i64 oa,.int .i64 on,.string od,.slice sa n sc,.slice ta tn tc]).heap[w.heap.size+1+1]?=some (.cells #[.int .i64 ok,.string op,.string ot,.int .i64 oa,.int .i64 on,.string od,.slice sa n sc,.slice ta tn tc] 101 (0,0))):=Qa _ _ _ _ _ _ HZ2.out
    have hSx:((w7.drew.cell? ⟨g5,0,none⟩=some (.func (.func f) #[] #[])/\w7.drew.cell? ⟨g5,1,none⟩=some (.bool true)/\w7.drew.cell? ⟨g5,2,none⟩=some (.bool false)/\w7.drew.cell? ⟨g5,3,none⟩=some (.bool false))/\w7.drew.cell? ⟨g6,0,none⟩=some (.int .i64 ok)/\w7.drew.cell? ⟨g6,1,none⟩=some (.string op)/\w7.drew.cell? ⟨g6,2,none⟩=some (.string ot)/\w7.drew.cell? ⟨g6,3,none⟩=some (.int .i64 oa)/\w7.drew.cell? ⟨g6,4,none⟩=some (.int .i64 on)/\w7.drew.cell? ⟨g6,5,none⟩=some (.string od)/\w7.drew.cell? ⟨g6,6,none⟩=some (.slice sa n sc)/\w7.drew.cell? ⟨g6,7,none⟩=some (.slice ta tn tc)):=HK5.out _ rfl rfl
    clear HK5 HLT
    go_wp2_with fail
    refine wp_region_held_drew (S:=fun V=>(V.cell? ⟨g5,0,none⟩=some (.func (.func f) #[] #[])/\V.cell? ⟨g5,1,none⟩=some (.bool true)/\V.cell? ⟨g5,2,none⟩=some (.bool false)/\V.cell? ⟨g5,3,none⟩=some (.bool false))/\V.cell? ⟨g6,0,none⟩=some (.int .i64 ok)/\V.cell? ⟨g6,1,none⟩=some (.string op)/\V.cell? ⟨g6,2,none⟩=some (.string ot)/\V.cell? ⟨g6,3,none⟩=some (.int .i64 oa)/\V.cell? ⟨g6,4,none⟩=some (.int .i64 on)/\V.cell? ⟨g6,5,none⟩=some (.string od)/\V.cell? ⟨g6,6,none⟩=some (.slice sa n sc)/\V.cell? ⟨g6,7,none⟩=some (.slice ta tn tc)) (by kernel_rfl) hSx ?_
    intro hS
    clear hSx
    refine tQ 0 ⟨some 68,.load 99 (.tmp 5),_,_,_,none⟩ (.agg #[.func (.func f) #[] #[],.bool true,.bool false,.bool false]) rfl hS ?_ (Or.inl ⟨by rfl,by intro x hx;obtain ⟨⟨h0,h1,h2,h3⟩,_⟩:=hx;go_simp⟩)
    (try simp only[Act.put,sA,sB,sC])
    refine tQ 1 ⟨some 69,.load 101 (.tmp 6),_,_,_,none⟩ (.agg #[.int .i64 ok,.string op,.string ot,.int .i64 oa,.int .i64 on,.string od,.slice sa n sc,.slice ta tn tc]) rfl hS ?_ (Or.inl ⟨by rfl,by intro x hx;obtain ⟨_,h0,h1,h2,h3,h4,h5,h6,h7⟩:=hx;go_simp⟩)
    (try simp only[Act.put,sA,sB,sC])
    refine wpAnyH_ready (rs:=[2]) (by kernel_rfl) (by simp) ?_
    refine AllReadyH.cons (o:=⟨none,.store 99 (.tmp 2) (.tmp 68),_,_,_,none⟩) rfl (fun K hK=>?_) AllReadyH.nil
    refine jA5 rfl 99 (.tmp 2) (.tmp 68) rfl (w.heap.size+1) #[.func (.func f) #[] #[],.bool true,.bool false,.bool false] (by simp[Act.eval]) (by simp[Act.eval]) 99 _ HZ1.out jCy rfl (by simp[Value.oneCell']) ?_
    have hS2:=HS1.out
    refine hK.out _ _ hS2 (fun _=>?_)
    clear hK K hS
    (try simp only[Act.put])
    have hS:=hS2
    clear hS2
    refine wpAnyH_ready (rs:=[3]) (by kernel_rfl) (by simp) ?_
    refine AllReadyH.cons (o:=⟨none,.store 101 (.tmp 3) (.tmp 69),_,_,_,none⟩) rfl (fun K hK=>?_) AllReadyH.nil
    refine jA5 rfl 101 (.tmp 3) (.tmp 69) rfl (w.heap.size+1+1) #[.int .i64 ok,.string op,.string ot,.int .i64 oa,.int .i64 on,.string od,.slice sa n sc,.slice ta tn tc] (by simp[Act.eval]) (by simp[Act.eval]) 101 _ HZ2.out jCz rfl (by simp[Value.oneCell']) ?_
    have hS2:=HS2.out
    refine hK.out _ _ hS2 (fun _=>?_)
    clear hK K hS
    (try simp only[Act.put])
    have hS:=hS2
    clear hS2
    refine tQ 4 ⟨some 4,.assign (.const (.int .i64 0)),_,_,_,none⟩ (.int .i64 0) rfl hS ?_
    (try simp only[Act.put,sA,sB,sC])
    refine wpAnyH_done (by kernel_rfl) ?_ _
    clear hS
    go_wp2_with fail
    refine Qw (jBz rfl _ _ (w.heap.size+1) 99 #[.func (.func f) #[] #[],.bool true,.bool false,.bool false] (0,0) _ (w.heap.size+1+1) 101 #[.int .i64 ok,.string op,.string ot,.int .i64 oa,.int .i64 on,.string od,.slice sa n sc,.slice ta tn tc] (0,0) _ rfl HF1.out underlying99 rfl jCy rfl HF2.out underlying101 rfl jCz) rfl ?_
    exact .inl ⟨HEV.out,_,_,_,_,_,_,rfl,(jE1 (jE1 (HOw7.out.below (Qq _ _).drew) (by have:=HG6.out;omega)) (by have:=HG6.out;omega)).see,fun _=>(jE1 (jE1 (HTw7.out.below (Qq _ _).drew) (by have:=HG7.out;omega)) (by have:=HG7.out;omega)).see,jAx (jAx HBw7.out.hb.drew (by omega) _) (by omega) _⟩
   ·have hEb:(E2 != 0)=true:=by simp[hE2]
    have HEN:Hid (E2≠0):=hE2
    have HEV:Hid (E=E2):=(HE.out.trans (if_neg (by simp))).trans (if_pos hE2)
    clear hE2
    go_wp2_with (first
     | (refine wpList_store_row rfl 99 (.tmp 2) (.tmp 47) rfl (w.heap.size+1) ZO rfl rfl 99 _ HBw7.out.h1 jCy rfl (by simp[Value.oneCell']) ?_)
     | (refine wpList_store_row rfl 101 (.tmp 3) (.tmp 48) rfl (w.heap.size+1+1) ZR rfl rfl 101 _ ((Qz _ _ _ _ (by omega)).trans HBw7.out.h2) jCz rfl (by simp[Value.oneCell']) ?_))
    refine Qw (jBz rfl _ _ (w.heap.size+1) 99 ZO (0,0) _ (w.heap.size+1+1) 101 ZR (0,0) _ rfl ((Qz _ _ _ _ (by omega)).trans (Qa _ _ _ _ _ _ HBw7.out.h1)) underlying99 rfl jCy rfl (Qa _ _ _ _ _ _ ((Qz _ _ _ _ (by omega)).trans HBw7.out.h2)) underlying101 rfl jCz) rfl ?_
    rw[HEV.out]
    exact .inr ⟨HEN.out,rfl,jAx (jAx HBw7.out.hb (by omega) _) (by omega) _⟩
  ·have hEb:(E1 != 0)=true:=by simp[hE]
   have HEN:Hid (E1≠0):=hE
   have HEV:Hid (E=E1):=HE.out.trans (if_pos hE)
   clear hE
   go_wp2_with (first
    | (refine wpList_store_row rfl 99 (.tmp 2) (.tmp 33) rfl (w.heap.size+1) ZO rfl rfl 99 _ HBw5.out.h1 jCy rfl (by simp[Value.oneCell']) ?_)
    | (refine wpList_store_row rfl 101 (.tmp 3) (.tmp 34) rfl (w.heap.size+1+1) ZR rfl rfl 101 _ ((Qz _ _ _ _ (by omega)).trans HBw5.out.h2) jCz rfl (by simp[Value.oneCell']) ?_))
   refine Qw (jBz rfl _ _ (w.heap.size+1) 99 ZO (0,0) _ (w.heap.size+1+1) 101 ZR (0,0) _ rfl ((Qz _ _ _ _ (by omega)).trans (Qa _ _ _ _ _ _ HBw5.out.h1)) underlying99 rfl jCy rfl (Qa _ _ _ _ _ _ ((Qz _ _ _ _ (by omega)).trans HBw5.out.h2)) underlying101 rfl jCz) rfl ?_
   rw[HEV.out]
   exact .inr ⟨HEN.out,rfl,jAx (jAx HBw5.out.hb (by omega) _) (by omega) _⟩
theorem asked0 (w:World)(f:FuncId)(ok oa on:Int)(op ot od:ByteArray)(hk1:1<=ok)(hk2:ok<=10)(hrow:Row ok f false false false) :
 Calls prog 34 #[.agg #[.int .i64 ok,.string op,.string ot,.int .i64 oa,.int .i64 on,.string od]] w fun e w'=>AskP w w' e (if Pa.jA9 op≠0 then Pa.jA9 op else 0) f false false false ok oa on op ot od:=askedX w f ok oa on op ot od hk1 hk2 _ _ _ hrow _ (.inl ⟨rfl,rfl,rfl,rfl⟩)
theorem asked3 (w:World)(f:FuncId)(ok oa on:Int)(op ot od:ByteArray)(hk1:1<=ok)(hk2:ok<=10)(hrow:Row ok f false true true) :
 Calls prog 34 #[.agg #[.int .i64 ok,.string op,.string ot,.int .i64 oa,.int .i64 on,.string od]] w fun e w'=>AskP w w' e (if Pa.jA9 op≠0 then Pa.jA9 op else if oa<0\/on<0 then 1 else 0) f false true true ok oa on op ot od:=askedX w f ok oa on op ot od hk1 hk2 _ _ _ hrow _ (.inr (.inl ⟨rfl,rfl,rfl,rfl⟩))
theorem asked4 (w:World)(f:FuncId)(ok oa on:Int)(op ot od:ByteArray)(hk1:1<=ok)(hk2:ok<=10)(hrow:Row ok f false true false) :
 Calls prog 34 #[.agg #[.int .i64 ok,.string op,.string ot,.int .i64 oa,.int .i64 on,.string od]] w fun e w'=>AskP w w' e (if Pa.jA9 op≠0 then Pa.jA9 op else if oa<0 then 1 else 0) f false true false ok oa on op ot od:=askedX w f ok oa on op ot od hk1 hk2 _ _ _ hrow _ (.inr (.inr (.inl ⟨rfl,rfl,rfl,rfl⟩)))
theorem asked5 (w:World)(f:FuncId)(ok oa on:Int)(op ot od:ByteArray)(hk1:1<=ok)(hk2:ok<=10)(hrow:Row ok f false false true) :
 Calls prog 34 #[.agg #[.int .i64 ok,.string op,.string ot,.int .i64 oa,.int .i64 on,.string od]] w fun e w'=>AskP w w' e (if Pa.jA9 op≠0 then Pa.jA9 op else if on<0 then 1 else 0) f false false true ok oa on op ot od:=askedX w f ok oa on op ot od hk1 hk2 _ _ _ hrow _ (.inr (.inr (.inr (.inl ⟨rfl,rfl,rfl,rfl⟩))))
theorem asked6 (w:World)(f:FuncId)(ok oa on:Int)(op ot od:ByteArray)(hk1:1<=ok)(hk2:ok<=10)(hrow:Row ok f true false false) :
 Calls prog 34 #[.agg #[.int .i64 ok,.string op,.string ot,.int .i64 oa,.int .i64 on,.string od]] w fun e w'=>AskP w w' e (if Pa.jA9 op≠0 then Pa.jA9 op else if Pa.jA9 ot≠0 then Pa.jA9 ot else 0) f true false false ok oa on op ot od:=askedX w f ok oa on op ot od hk1 hk2 _ _ _ hrow _ (.inr (.inr (.inr (.inr ⟨rfl,rfl,rfl,rfl⟩))))
