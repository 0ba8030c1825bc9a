import Derived.Test.YtfnklhajafmooaaGreatDoorPqLc
set_option maxHeartbeats 4000000
set_option maxRecDepth 20000
namespace Go.Proofs.YtfnklhajafmooaaGreatDoor.Po.Pn
open Go.RowKit Go.Lib Go.Deep Go.Proofs.Tryz
theorem does_no {w x:World}{c:Ix.Cn}(hc:c.May){r:Nat}{T:Tr.Ts}{P:Ps}{sl st wo wq:Value}(h:Rn w x c r T P sl st wo wq)(a:Option Addr)(n oc:Nat)(O:List Tr.Op)(hO:Tr.IsO x a n O)(hn:n*72<=140737488355328)(hle:¬n<=c.sl) :
 Calls prog 8 #[.pointer (some ⟨r,0,none⟩),.slice a n oc] x fun e y=>e=.returned (.bool true)/\Hid (Ky r x y/\Rn w y c r T P (.slice none 0 0) (.slice none 0 0) wo wq):=by
 obtain ⟨b,q,nn,pb,pq,pn,io,iq,nd,hr,hD,hio,hiq,hnd,htl⟩:=h.ex
 obtain ⟨oa,oc1,rfl⟩:=jBy hio
 obtain ⟨qa,qc1,rfl⟩:=jBy hiq
 have hR:∀V,Below x.heap.size x V->V.heap[r]?=some (.cells (rnA c b pb sl st wo wq (.slice oa P.R.length oc1) (.slice qa P.Q.length qc1) nd) 51 (0,0)):=fun V hV=>(hV.block _ (jAv hr)).trans hr
 have HS:Hid (∀V,Below x.heap.size x V->V.cell? ⟨r,0,none⟩=some (.int .i64 (c.sl:Int))/\V.cell? ⟨r,1,none⟩=some (.int .i64 (c.fl:Int))/\V.cell? ⟨r,2,none⟩=some (.int .i64 (c.dr:Int))/\V.cell? ⟨r,3,none⟩=some (.int .i64 (c.mf:Int))/\V.cell? ⟨r,4,none⟩=some (.int .i64 (c.ls:Int))/\V.cell? ⟨r,5,none⟩=some (.int .i64 (c.pg:Int))/\V.cell? ⟨r,6,none⟩=some (.pointer (some ⟨b,0,none⟩))/\V.cell? ⟨r,7,none⟩=some (.pointer (some ⟨pb,0,none⟩))):=fun V hV=>(jG1 (hR V hV)).1
 have HOP:Hid (∀V,Below x.heap.size x V->Calls prog 27 #[.slice a n oc] V fun e w'=>∃a' c',e=.returned (.slice a' n c')/\Hid (Tr.IsO w' a' n O)/\Below V.heap.size V w'):=fun V hV=>ops_any V a n oc O (hO.below hV) hn
 have HMK:Hid (∀V a' c',Below x.heap.size x V->Tr.IsO V a' n O->Calls prog 25 #[.agg #[.int .i64 (c.sl:Int),.int .i64 (c.fl:Int),.int .i64 (c.dr:Int),.int .i64 (c.mf:Int),.int .i64 (c.ls:Int),.int .i64 (c.pg:Int)],.pointer (some ⟨b,0,none⟩),.pointer (some ⟨pb,0,none⟩),.slice a' n c'] V fun e w'=>e=.returned (.tuple #[.agg #[.slice none 0 0,.slice none 0 0],.pointer none,.pointer none,.int .i64 150])/\Hid (Below x.heap.size x w'/\Below V.heap.size V w')):=fun V a' c' hV hI=>by
  refine (make_no V ((h.rt.next h.be).next hV) c hc b q nn pb pq pn T P (hD.below hV) a' n c' O hI hle).mono ?_
  rintro e w' ⟨rfl,hb⟩
  exact ⟨rfl,hV.trans (hb.mono hV.size),hb⟩
 have HFIN:Hid (∀X Y,Below x.heap.size x X->Ky r X Y->Y.heap[r]?=some (.cells (rnA c b pb (.slice none 0 0) (.slice none 0 0) wo wq (.slice oa P.R.length oc1) (.slice qa P.Q.length qc1) nd) 51 (0,0))->Ky r x Y/\Rn w Y c r T P (.slice none 0 0) (.slice none 0 0) wo wq):=fun X Y hX hK hy=>by
  have hKx:Ky r x Y:=(Ky.of hX).trans hK
  exact ⟨hKx,⟨b,q,nn,pb,pq,pn,_,_,nd,hy,hKx.dw hr hD,hKx.row hr hio (by decide),hKx.row hr hiq (by decide),hKx.row hr hnd (by decide),htl⟩,h.rb,hKx.base h.be h.rb,h.rt⟩
 have HRX:Hid (∀V,Below x.heap.size x V->V.heap[r]?=some (.cells (rnA c b pb sl st wo wq (.slice oa P.R.length oc1) (.slice qa P.Q.length qc1) nd) 51 (0,0))):=hR
 have HN:Hid _:=jIj
 generalize P.R.length=pl at *
 generalize P.Q.length=ql at *
 clear hR hr hD hio hiq hnd htl hO h
 go_enter func8,ntmps8
 go_wp2_with fail
 go_cut [5,6,7,8] (fun u5 u6 u7 u8 wx=>∃g5,u5=.pointer (some ⟨g5,0,none⟩)/\u6=.pointer none/\u7=.pointer none/\u8=.int .i64 150/\Hid (wx.heap[g5]?=some (.cells #[.slice none 0 0,.slice none 0 0] 40 (0,0))/\Below x.heap.size x wx))
 case first =>
  have hSx:=HS.out x (Qq _ _)
  refine wp_region_held_drew (S:=fun V=>V.cell? ⟨r,0,none⟩=some (.int .i64 (c.sl:Int))/\V.cell? ⟨r,1,none⟩=some (.int .i64 (c.fl:Int))/\V.cell? ⟨r,2,none⟩=some (.int .i64 (c.dr:Int))/\V.cell? ⟨r,3,none⟩=some (.int .i64 (c.mf:Int))/\V.cell? ⟨r,4,none⟩=some (.int .i64 (c.ls:Int))/\V.cell? ⟨r,5,none⟩=some (.int .i64 (c.pg:Int))/\V.cell? ⟨r,6,none⟩=some (.pointer (some ⟨b,0,none⟩))/\V.cell? ⟨r,7,none⟩=some (.pointer (some ⟨pb,0,none⟩))) (by kernel_rfl) hSx ?_
  intro hS
  have HB0:Hid (Below x.heap.size x x.drew):=(Qq _ _).drew
  clear hSx
  revert hS HB0
  generalize x.drew=V0
  intro hS HB0
  refine tQ 0 ⟨some 10,.move (.tmp 0),_,_,_,none⟩ (.pointer (some ⟨r,0,none⟩)) rfl hS ?_
  (try simp only[Act.put,sA,sB,sC])
  refine tQ 1 ⟨some 11,.nilCheck (.tmp 10),_,_,_,none⟩ (.pointer (some ⟨r,0,none⟩)) rfl hS ?_
  (try simp only[Act.put,sA,sB,sC])
  refine tQ 2 ⟨some 12,.fieldAddr 51 (.tmp 11) 0,_,_,_,none⟩ (.pointer (some ⟨r,0,none⟩)) rfl hS ?_
  (try simp only[Act.put,sA,sB,sC])
  refine tQ 3 ⟨some 13,.load 23 (.tmp 12),_,_,_,none⟩ (.agg #[.int .i64 (c.sl:Int),.int .i64 (c.fl:Int),.int .i64 (c.dr:Int),.int .i64 (c.mf:Int),.int .i64 (c.ls:Int),.int .i64 (c.pg:Int)]) rfl hS ?_ (Or.inl ⟨by rfl,by intro x hx;obtain ⟨h0,h1,h2,h3,h4,h5,h6,h7⟩:=hx;go_simp⟩)
  (try simp only[Act.put,sA,sB,sC])
  refine tQ 4 ⟨some 14,.move (.tmp 0),_,_,_,none⟩ (.pointer (some ⟨r,0,none⟩)) rfl hS ?_
  (try simp only[Act.put,sA,sB,sC])
  refine tQ 5 ⟨some 15,.nilCheck (.tmp 14),_,_,_,none⟩ (.pointer (some ⟨r,0,none⟩)) rfl hS ?_
  (try simp only[Act.put,sA,sB,sC])
  refine tQ 6 ⟨some 16,.fieldAddr 51 (.tmp 15) 1,_,_,_,none⟩ (.pointer (some ⟨r,6,none⟩)) rfl hS ?_
  (try simp only[Act.put,sA,sB,sC])
  refine tQ 7 ⟨some 17,.load 41 (.tmp 16),_,_,_,none⟩ (.pointer (some ⟨b,0,none⟩)) rfl hS ?_ (Or.inl ⟨by rfl,by intro x hx;obtain ⟨h0,h1,h2,h3,h4,h5,h6,h7⟩:=hx;go_simp⟩)
  (try simp only[Act.put,sA,sB,sC])
  refine tQ 8 ⟨some 18,.move (.tmp 0),_,_,_,none⟩ (.pointer (some ⟨r,0,none⟩)) rfl hS ?_
  (try simp only[Act.put,sA,sB,sC])
  refine tQ 9 ⟨some 19,.nilCheck (.tmp 18),_,_,_,none⟩ (.pointer (some ⟨r,0,none⟩)) rfl hS ?_
  (try simp only[Act.put,sA,sB,sC])
  refine tQ 10 ⟨some 20,.fieldAddr 51 (.tmp 19) 2,_,_,_,none⟩ (.pointer (some ⟨r,7,none⟩)) rfl hS ?_
  (try simp only[Act.put,sA,sB,sC])
  refine tQ 11 ⟨some 21,.load 42 (.tmp 20),_,_,_,none⟩ (.pointer (some ⟨pb,0,none⟩)) rfl hS ?_ (Or.inl ⟨by rfl,by intro x hx;obtain ⟨h0,h1,h2,h3,h4,h5,h6,h7⟩:=hx;go_simp⟩)
  (try simp only[Act.put,sA,sB,sC])
  refine tQ 12 ⟨some 22,.move (.tmp 1),_,_,_,none⟩ (.slice a n oc) rfl hS ?_
  (try simp only[Act.put,sA,sB,sC])
  refine wpAnyH_ready (rs:=[13,20]) (by kernel_rfl) (by simp) ?_
  refine AllReadyH.cons (o:={ dst:=some 23,op:=.call { callee:=.value (.func 27),args:=#[.tmp 22],argTypes:=#[29] },type:=_,pos:=_,after:=_,guard:=none }) rfl (fun K hK=>?_) (AllReadyH.cons (o:=⟨some 5,.alloc 40,_,_,_,none⟩) rfl (fun K hK=>?_) AllReadyH.nil)
  ·go_simp
   refine (HOP.out V0 HB0.out).mono ?_
   rintro e V1 ⟨a5,c5,rfl,HI1,hb1⟩
   have HB1:Hid (Below x.heap.size x V1):=HB0.out.trans (hb1.mono HB0.out.size)
   have hS1:=HS.out V1 HB1.out
   refine hK.out _ _ hS1 (fun _=>?_)
   clear hK K hS hb1
   (try simp only[Act.put,sA,sB,sC])
   have hS:=hS1
   clear hS1
   refine wpAnyH_ready (rs:=[14,20]) (by kernel_rfl) (by simp) ?_
   refine AllReadyH.cons (o:={ dst:=some 24,op:=.call { callee:=.value (.func 25),args:=#[.tmp 13,.tmp 17,.tmp 21,.tmp 23],argTypes:=#[23,41,42,29] },type:=_,pos:=_,after:=_,guard:=none }) rfl (fun K hK=>?_) (AllReadyH.cons (o:=⟨some 5,.alloc 40,_,_,_,none⟩) rfl (fun K hK=>?_) AllReadyH.nil)
   ·go_simp
    refine (HMK.out V1 a5 c5 HB1.out HI1.out).mono ?_
    rintro e V2 ⟨rfl,HM2⟩
    have HB2:Hid (Below x.heap.size x V2):=HM2.out.1
    have hS2:=HS.out V2 HB2.out
    refine hK.out _ _ hS2 (fun _=>?_)
    clear hK K hS
    (try simp only[Act.put,sA,sB,sC])
    have hS:=hS2
    clear hS2
    refine tQ 15 ⟨some 9,.move (.tmp 24),_,_,_,none⟩ (.tuple #[.agg #[.slice none 0 0,.slice none 0 0],.pointer none,.pointer none,.int .i64 150]) rfl hS ?_
    (try simp only[Act.put,sA,sB,sC])
    refine tQ 16 ⟨some 25,.extract (.tmp 9) 0,_,_,_,none⟩ (.agg #[.slice none 0 0,.slice none 0 0]) rfl hS ?_
    (try simp only[Act.put,sA,sB,sC])
    refine tQ 17 ⟨some 26,.extract (.tmp 9) 1,_,_,_,none⟩ (.pointer none) rfl hS ?_
    (try simp only[Act.put,sA,sB,sC])
    refine tQ 18 ⟨some 27,.extract (.tmp 9) 2,_,_,_,none⟩ (.pointer none) rfl hS ?_
    (try simp only[Act.put,sA,sB,sC])
    refine tQ 19 ⟨some 28,.extract (.tmp 9) 3,_,_,_,none⟩ (.int .i64 150) rfl hS ?_
    (try simp only[Act.put,sA,sB,sC])
    refine wpAnyH_ready (rs:=[20]) (by kernel_rfl) (by simp) ?_
    refine AllReadyH.cons (o:=⟨some 5,.alloc 40,_,_,_,none⟩) rfl (fun K hK=>?_) AllReadyH.nil
    go_simp
    have hbA:Below V2.heap.size V2 (V2.alloc (.cells #[.slice none 0 0,.slice none 0 0] 40)):=(Qq _ _).alloc (Qj _) _
    have HB3:Hid (Below x.heap.size x (V2.alloc (.cells #[.slice none 0 0,.slice none 0 0] 40))):=HB2.out.trans (hbA.mono HB2.out.size)
    have K3:Hid ((V2.alloc (.cells #[.slice none 0 0,.slice none 0 0] 40)).heap[V2.heap.size]?=some (.cells #[.slice none 0 0,.slice none 0 0] 40 (0,0))):=jA2 _ _
    have HG5:Hid (x.heap.size<=V2.heap.size):=HB2.out.size
    have hS3:=HS.out _ HB3.out
    refine hK.out _ _ hS3 (fun _=>?_)
    clear hK K hS hbA
    (try simp only[Act.put,sA,sB,sC])
    have hS:=hS3
    clear hS3
    revert hS HB3 K3 HG5
    generalize V2.alloc (.cells #[.slice none 0 0,.slice none 0 0] 40)=V3
    generalize V2.heap.size=g5
    intro HB3 K3 HG5 hS
    refine wpAnyH_ready (rs:=[21]) (by kernel_rfl) (by simp) ?_
    refine AllReadyH.cons (o:=⟨none,.store 40 (.tmp 5) (.tmp 25),_,_,_,none⟩) rfl (fun K hK=>?_) AllReadyH.nil
    have y0:V3.cell? ⟨g5,0,none⟩=some (.slice none 0 0):=(jAj K3.out).trans rfl
    have y1:V3.cell? ⟨g5,1,none⟩=some (.slice none 0 0):=(jAj K3.out).trans rfl
    have f0:V3.frozen? ⟨g5,0,none⟩=false:=jAq K3.out
    have f1:V3.frozen? ⟨g5,1,none⟩=false:=jAq K3.out
    go_simp
    have HBE:Hid (Below x.heap.size x ((V3.setCell ⟨g5,0,none⟩ (.slice none 0 0)).setCell ⟨g5,1,none⟩ (.slice none 0 0))):=(HB3.out.setCell (HG5.out) _).setCell (HG5.out) _
    have hSE:=HS.out _ HBE.out
    refine hK.out _ _ hSE (fun _=>?_)
    clear hK K hS y0 y1 f0 f1
    (try simp only[Act.put])
    have hS:=hSE
    clear hSE
    refine tQ 22 ⟨some 6,.assign (.tmp 26),_,_,_,none⟩ (.pointer none) rfl hS ?_
    (try simp only[Act.put,sA,sB,sC])
    refine tQ 23 ⟨some 7,.assign (.tmp 27),_,_,_,none⟩ (.pointer none) rfl hS ?_
    (try simp only[Act.put,sA,sB,sC])
    refine tQ 24 ⟨some 8,.assign (.tmp 28),_,_,_,none⟩ (.int .i64 150) rfl hS ?_
    (try simp only[Act.put,sA,sB,sC])
    refine wpAnyH_done (by kernel_rfl) ?_ _
    clear hS
    go_wp2_with fail
    go_meet
    exact ⟨g5,rfl,rfl,rfl,rfl,jK7 K3.out,HBE.out⟩
   ·go_simp
    have hbA:Below V1.heap.size V1 (V1.alloc (.cells #[.slice none 0 0,.slice none 0 0] 40)):=(Qq _ _).alloc (Qj _) _
    have HB2:Hid (Below x.heap.size x (V1.alloc (.cells #[.slice none 0 0,.slice none 0 0] 40))):=HB1.out.trans (hbA.mono HB1.out.size)
    have K2:Hid ((V1.alloc (.cells #[.slice none 0 0,.slice none 0 0] 40)).heap[V1.heap.size]?=some (.cells #[.slice none 0 0,.slice none 0 0] 40 (0,0))):=jA2 _ _
    have HG5:Hid (x.heap.size<=V1.heap.size):=HB1.out.size
    have HI2:Hid (Tr.IsO (V1.alloc (.cells #[.slice none 0 0,.slice none 0 0] 40)) a5 n O):=HI1.out.below hbA
    have hS2:=HS.out _ HB2.out
    refine hK.out _ _ hS2 (fun _=>?_)
    clear hK K hS hbA
    (try simp only[Act.put,sA,sB,sC])
    have hS:=hS2
    clear hS2
    revert hS HB2 K2 HG5 HI2
    generalize V1.alloc (.cells #[.slice none 0 0,.slice none 0 0] 40)=V2
    generalize V1.heap.size=g5
    intro HB2 K2 HG5 HI2 hS
    refine wpAnyH_ready (rs:=[14]) (by kernel_rfl) (by simp) ?_
    refine AllReadyH.cons (o:={ dst:=some 24,op:=.call { callee:=.value (.func 25),args:=#[.tmp 13,.tmp 17,.tmp 21,.tmp 23],argTypes:=#[23,41,42,29] },type:=_,pos:=_,after:=_,guard:=none }) rfl (fun K hK=>?_) AllReadyH.nil
    go_simp
    refine (HMK.out V2 a5 c5 HB2.out HI2.out).mono ?_
    rintro e V3 ⟨rfl,HM3⟩
    have HB3:Hid (Below x.heap.size x V3):=HM3.out.1
    have K3:Hid (V3.heap[g5]?=some (.cells #[.slice none 0 0,.slice none 0 0] 40 (0,0))):=(HM3.out.2.block _ (jAv K2.out)).trans K2.out
    have hS3:=HS.out V3 HB3.out
    refine hK.out _ _ hS3 (fun _=>?_)
    clear hK K hS
    (try simp only[Act.put,sA,sB,sC])
    have hS:=hS3
    clear hS3
    refine tQ 15 ⟨some 9,.move (.tmp 24),_,_,_,none⟩ (.tuple #[.agg #[.slice none 0 0,.slice none 0 0],.pointer none,.pointer none,.int .i64 150]) rfl hS ?_
    (try simp only[Act.put,sA,sB,sC])
    refine tQ 16 ⟨some 25,.extract (.tmp 9) 0,_,_,_,none⟩ (.agg #[.slice none 0 0,.slice none 0 0]) rfl hS ?_
    (try simp only[Act.put,sA,sB,sC])
    refine tQ 17 ⟨some 26,.extract (.tmp 9) 1,_,_,_,none⟩ (.pointer none) rfl hS ?_
    (try simp only[Act.put,sA,sB,sC])
    refine tQ 18 ⟨some 27,.extract (.tmp 9) 2,_,_,_,none⟩ (.pointer none) rfl hS ?_
    (try simp only[Act.put,sA,sB,sC])
    refine tQ 19 ⟨some 28,.extract (.tmp 9) 3,_,_,_,none⟩ (.int .i64 150) rfl hS ?_
    (try simp only[Act.put,sA,sB,sC])
    refine wpAnyH_ready (rs:=[21]) (by kernel_rfl) (by simp) ?_
    refine AllReadyH.cons (o:=⟨none,.store 40 (.tmp 5) (.tmp 25),_,_,_,none⟩) rfl (fun K hK=>?_) AllReadyH.nil
    have y0:V3.cell? ⟨g5,0,none⟩=some (.slice none 0 0):=(jAj K3.out).trans rfl
    have y1:V3.cell? ⟨g5,1,none⟩=some (.slice none 0 0):=(jAj K3.out).trans rfl
    have f0:V3.frozen? ⟨g5,0,none⟩=false:=jAq K3.out
    have f1:V3.frozen? ⟨g5,1,none⟩=false:=jAq K3.out
    go_simp
    have HBE:Hid (Below x.heap.size x ((V3.setCell ⟨g5,0,none⟩ (.slice none 0 0)).setCell ⟨g5,1,none⟩ (.slice none 0 0))):=(HB3.out.setCell (HG5.out) _).setCell (HG5.out) _
    have hSE:=HS.out _ HBE.out
    refine hK.out _ _ hSE (fun _=>?_)
    clear hK K hS y0 y1 f0 f1
    (try simp only[Act.put])
    have hS:=hSE
    clear hSE
    refine tQ 22 ⟨some 6,.assign (.tmp 26),_,_,_,none⟩ (.pointer none) rfl hS ?_
    (try simp only[Act.put,sA,sB,sC])
    refine tQ 23 ⟨some 7,.assign (.tmp 27),_,_,_,none⟩ (.pointer none) rfl hS ?_
    (try simp only[Act.put,sA,sB,sC])
    refine tQ 24 ⟨some 8,.assign (.tmp 28),_,_,_,none⟩ (.int .i64 150) rfl hS ?_
    (try simp only[Act.put,sA,sB,sC])
    refine wpAnyH_done (by kernel_rfl) ?_ _
    clear hS
    go_wp2_with fail
    go_meet
    exact ⟨g5,rfl,rfl,rfl,rfl,jK7 K3.out,HBE.out⟩
  ·go_simp
   have hbA:Below V0.heap.size V0 (V0.alloc (.cells #[.slice none 0 0,.slice none 0 0] 40)):=(Qq _ _).alloc (Qj _) _
   have HB1:Hid (Below x.heap.size x (V0.alloc (.cells #[.slice none 0 0,.slice none 0 0] 40))):=HB0.out.trans (hbA.mono HB0.out.size)
   have K1:Hid ((V0.alloc (.cells #[.slice none 0 0,.slice none 0 0] 40)).heap[V0.heap.size]?=some (.cells #[.slice none 0 0,.slice none 0 0] 40 (0,0))):=jA2 _ _
   have HG5:Hid (x.heap.size<=V0.heap.size):=HB0.out.size
   have hS1:=HS.out _ HB1.out
   refine hK.out _ _ hS1 (fun _=>?_)
   clear hK K hS hbA
   (try simp only[Act.put,sA,sB,sC])
   have hS:=hS1
   clear hS1
   revert hS HB1 K1 HG5
   generalize V0.alloc (.cells #[.slice none 0 0,.slice none 0 0] 40)=V1
   generalize V0.heap.size=g5
   intro HB1 K1 HG5 hS
   refine wpAnyH_ready (rs:=[13]) (by kernel_rfl) (by simp) ?_
   refine AllReadyH.cons (o:={ dst:=some 23,op:=.call { callee:=.value (.func 27),args:=#[.tmp 22],argTypes:=#[29] },type:=_,pos:=_,after:=_,guard:=none }) rfl (fun K hK=>?_) AllReadyH.nil
   go_simp
   refine (HOP.out V1 HB1.out).mono ?_
   rintro e V2 ⟨a5,c5,rfl,HI2,hb2⟩
   have HB2:Hid (Below x.heap.size x V2):=HB1.out.trans (hb2.mono HB1.out.size)
   have K2:Hid (V2.heap[g5]?=some (.cells #[.slice none 0 0,.slice none 0 0] 40 (0,0))):=(hb2.block _ (jAv K1.out)).trans K1.out
   have hS2:=HS.out V2 HB2.out
   refine hK.out _ _ hS2 (fun _=>?_)
   clear hK K hS hb2
   (try simp only[Act.put,sA,sB,sC])
   have hS:=hS2
   clear hS2
   refine wpAnyH_ready (rs:=[14]) (by kernel_rfl) (by simp) ?_
   refine AllReadyH.cons (o:={ dst:=some 24,op:=.call { callee:=.value (.func 25),args:=#[.tmp 13,.tmp 17,.tmp 21,.tmp 23],argTypes:=#[23,41,42,29] },type:=_,pos:=_,after:=_,guard:=none }) rfl (fun K hK=>?_) AllReadyH.nil
   go_simp
   refine (HMK.out V2 a5 c5 HB2.out HI2.out).mono ?_
   rintro e V3 ⟨rfl,HM3⟩
   have HB3:Hid (Below x.heap.size x V3):=HM3.out.1
   have K3:Hid (V3.heap[g5]?=some (.cells #[.slice none 0 0,.slice none 0 0] 40 (0,0))):=(HM3.out.2.block _ (jAv K2.out)).trans K2.out
   have hS3:=HS.out V3 HB3.out
   refine hK.out _ _ hS3 (fun _=>?_)
   clear hK K hS
   (try simp only[Act.put,sA,sB,sC])
   have hS:=hS3
   clear hS3
   refine tQ 15 ⟨some 9,.move (.tmp 24),_,_,_,none⟩ (.tuple #[.agg #[.slice none 0 0,.slice none 0 0],.pointer none,.pointer none,.int .i64 150]) rfl hS ?_
   (try simp only[Act.put,sA,sB,sC])
   refine tQ 16 ⟨some 25,.extract (.tmp 9) 0,_,_,_,none⟩ (.agg #[.slice none 0 0,.slice none 0 0]) rfl hS ?_
   (try simp only[Act.put,sA,sB,sC])
   refine tQ 17 ⟨some 26,.extract (.tmp 9) 1,_,_,_,none⟩ (.pointer none) rfl hS ?_
   (try simp only[Act.put,sA,sB,sC])
   refine tQ 18 ⟨some 27,.extract (.tmp 9) 2,_,_,_,none⟩ (.pointer none) rfl hS ?_
   (try simp only[Act.put,sA,sB,sC])
   refine tQ 19 ⟨some 28,.extract (.tmp 9) 3,_,_,_,none⟩ (.int .i64 150) rfl hS ?_
   (try simp only[Act.put,sA,sB,sC])
   refine wpAnyH_ready (rs:=[21]) (by kernel_rfl) (by simp) ?_
   refine AllReadyH.cons (o:=⟨none,.store 40 (.tmp 5) (.tmp 25),_,_,_,none⟩) rfl (fun K hK=>?_) AllReadyH.nil
   have y0:V3.cell? ⟨g5,0,none⟩=some (.slice none 0 0):=(jAj K3.out).trans rfl
   have y1:V3.cell? ⟨g5,1,none⟩=some (.slice none 0 0):=(jAj K3.out).trans rfl
   have f0:V3.frozen? ⟨g5,0,none⟩=false:=jAq K3.out
   have f1:V3.frozen? ⟨g5,1,none⟩=false:=jAq K3.out
   go_simp
   have HBE:Hid (Below x.heap.size x ((V3.setCell ⟨g5,0,none⟩ (.slice none 0 0)).setCell ⟨g5,1,none⟩ (.slice none 0 0))):=(HB3.out.setCell (HG5.out) _).setCell (HG5.out) _
   have hSE:=HS.out _ HBE.out
   refine hK.out _ _ hSE (fun _=>?_)
   clear hK K hS y0 y1 f0 f1
   (try simp only[Act.put])
   have hS:=hSE
   clear hSE
   refine tQ 22 ⟨some 6,.assign (.tmp 26),_,_,_,none⟩ (.pointer none) rfl hS ?_
   (try simp only[Act.put,sA,sB,sC])
   refine tQ 23 ⟨some 7,.assign (.tmp 27),_,_,_,none⟩ (.pointer none) rfl hS ?_
   (try simp only[Act.put,sA,sB,sC])
   refine tQ 24 ⟨some 8,.assign (.tmp 28),_,_,_,none⟩ (.int .i64 150) rfl hS ?_
   (try simp only[Act.put,sA,sB,sC])
   refine wpAnyH_done (by kernel_rfl) ?_ _
   clear hS
   go_wp2_with fail
   go_meet
   exact ⟨g5,rfl,rfl,rfl,rfl,jK7 K3.out,HBE.out⟩
 case rest =>
  obtain ⟨g5,rfl,rfl,rfl,rfl,HL⟩:=hcut
  have kr:=HRX.out wc HL.out.2
  obtain ⟨⟨r0,-⟩,⟨r8,r9⟩,-⟩:=jG1 kr
  have hne:g5≠r:=fun e=>by
   have h1:=HL.out.1
   rw[e,kr] at h1
   injection h1 with h1
   injection h1 with _ h1 _
   cases h1
  have f8:wc.frozen? ⟨r,8,none⟩=false:=jAq kr
  have f9:wc.frozen? ⟨r,9,none⟩=false:=jAq kr
  have hleI:(c.sl:Int)<(n:Int):=by omega
  have HKR:Hid _:=kr
  have HG5:Hid (wc.heap[g5]?=some (.cells #[.slice none 0 0,.slice none 0 0] 40 (0,0))/\g5≠r):=⟨HL.out.1,hne⟩
  clear kr hne hle HOP HMK HS
  go_upto_region 4 with fail
  refine jBj (R:=fun V=>Code.wp _ _ _ _ V) (Q:=fun Y=>Ky r wc Y/\Y.heap[r]?=some (.cells (rnA c b pb (.slice none 0 0) (.slice none 0 0) wo wq (.slice oa pl oc1) (.slice qa ql qc1) nd) 51 (0,0))/\Y.heap[g5]?=some (.cells #[.slice none 0 0,.slice none 0 0] 40 (0,0))) _ ⟨((Ky.of (Qq _ _)).set 8 _).set 9 _,rset (rset HKR.out),((Qy _ _ _ _ HG5.out.2).trans (Qy _ _ _ _ HG5.out.2)).trans HG5.out.1⟩ ?_
  rintro Y1 ⟨hK1,k1,g1⟩
  have p0:Y1.cell? ⟨g5,0,none⟩=some (.slice none 0 0):=(jAj g1).trans rfl
  have hnum:=HN.out 150 Y1
  have HX:Hid _:=HFIN.out wc Y1 HL.out.2 hK1 k1
  clear hK1 k1 g1 r0 r8 r9 f8 f9 HFIN
  go_wp2_with fail
  refine hnum.mono ?_
  rintro e w9 ⟨rfl,hw9⟩
  subst w9
  go_wp2
  go_ret
  exact ⟨rfl,HX⟩
