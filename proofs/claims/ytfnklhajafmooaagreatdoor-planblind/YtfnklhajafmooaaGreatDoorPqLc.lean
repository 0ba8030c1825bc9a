import Derived.Test.YtfnklhajafmooaaGreatDoorG46
set_option maxHeartbeats 4000000
set_option maxRecDepth 20000
namespace Go.Proofs.YtfnklhajafmooaaGreatDoor.Po.Pn
open Go.RowKit Go.Lib Go.Deep Go.Proofs.Tryz
theorem jG1 {x:World}{r:Nat}{c:Ix.Cn}{b pb:Nat}{sl st wo wq io iq nd:Value}(h:x.heap[r]?=some (.cells (rnA c b pb sl st wo wq io iq nd) 51 (0,0))):(x.cell? ⟨r,0,none⟩=some (.int .i64 (c.sl:Int))/\x.cell? ⟨r,1,none⟩=some (.int .i64 (c.fl:Int))/\x.cell? ⟨r,2,none⟩=some (.int .i64 (c.dr:Int))/\x.cell? ⟨r,3,none⟩=some (.int .i64 (c.mf:Int))/\x.cell? ⟨r,4,none⟩=some (.int .i64 (c.ls:Int))/\x.cell? ⟨r,5,none⟩=some (.int .i64 (c.pg:Int))/\x.cell? ⟨r,6,none⟩=some (.pointer (some ⟨b,0,none⟩))/\x.cell? ⟨r,7,none⟩=some (.pointer (some ⟨pb,0,none⟩)))/\(x.cell? ⟨r,8,none⟩=some sl/\x.cell? ⟨r,9,none⟩=some st)/\(x.cell? ⟨r,10,none⟩=some wo/\x.cell? ⟨r,11,none⟩=some wq)/\(x.cell? ⟨r,12,none⟩=some io/\x.cell? ⟨r,13,none⟩=some iq)/\x.cell? ⟨r,14,none⟩=some (.int .i64 (c.fl:Int))/\x.cell? ⟨r,15,none⟩=some (.int .i64 (c.dr:Int))/\x.cell? ⟨r,16,none⟩=some nd:=by
 have e:=fun j=>jAj (j:=j) h
 exact ⟨⟨(e 0).trans rfl,(e 1).trans rfl,(e 2).trans rfl,(e 3).trans rfl,(e 4).trans rfl,(e 5).trans rfl,(e 6).trans rfl,(e 7).trans rfl⟩,⟨(e 8).trans rfl,(e 9).trans rfl⟩,⟨(e 10).trans rfl,(e 11).trans rfl⟩,⟨(e 12).trans rfl,(e 13).trans rfl⟩,(e 14).trans rfl,(e 15).trans rfl,(e 16).trans rfl⟩
theorem rset {x:World}{r j:Nat}{A:Array Value}{t:TypeId}{v:Value}(h:x.heap[r]?=some (.cells A t (0,0))):(x.setCell ⟨r,j,none⟩ v).heap[r]?=some (.cells (A.setIfInBounds j v) t (0,0)):=QJ _ _ _ _ _ _ h
theorem Mk.put2 {w x:World}{c:Ix.Cn}{P S:Ps}{R:List Nat}{ss:List (Tr.Rs × Tr.Ef)}{U:Tr.Ts}{n gl gs b q pb pq g:Nat}{cu:Array Value}(h:Mk w x c P S R ss U n gl gs b q pb pq)(hp:x.heap[g]?=some (.cells cu 40 (0,0)))(y0 y1:Value):Mk w ((x.setCell ⟨g,0,none⟩ y0).setCell ⟨g,1,none⟩ y1) c P S R ss U n gl gs b q pb pq:=by
 obtain ⟨F,PF,h1,h2,h3,h4,h5,h6,h7,h8⟩:=h.wk.ex
 obtain ⟨l,r1,r2,r3⟩:=h.st
 have hk:∀k,k≠g->((x.setCell ⟨g,0,none⟩ y0).setCell ⟨g,1,none⟩ y1).heap[k]?=x.heap[k]?:=fun k hk=>(Qy _ _ _ _ hk).trans (Qy _ _ _ _ hk)
 have hne:∀{k:Nat} {cu:Array Value} {t:TypeId},x.heap[k]?=some (.cells cu t (0,0))->t≠40->k≠g:=fun {k cu t} hc ht e=>by
  rw[e,hp] at hc
  injection hc with hc
  injection hc with _ hc _
  exact ht hc.symm
 have hrow:∀{B e sz n:Nat} {v:Value} {xs:List Value},x.ownsRow B e sz v n xs->e≠40->((x.setCell ⟨g,0,none⟩ y0).setCell ⟨g,1,none⟩ y1).ownsRow B e sz v n xs:=fun hr he=>jA0 hr fun j hj=>by
  obtain ⟨cu,hcu⟩:=jA1 hr hj
  exact hk j (hne hcu he)
 exact ⟨⟨F,PF,(hk _ (hne h1 (by decide))).trans h1,h2.keep fun k hk'=>hk k fun e=>h2.notin hp (by decide) (e▸hk'),⟨(hk _ (hne h3.top (by decide))).trans h3.top,h3.lay.keep fun k hk'=>hk k fun e=>h3.lay.notin hp (by decide) (e▸hk'),h3.good,h3.nn⟩,h4,h5,h6,h7,h8⟩,hrow h.sl (by decide),l,hrow r1 (by decide),r2,fun i y hy=>hrow (r3 i y hy) (by decide)⟩
theorem does_ok {w x:World}{c:Ix.Cn}(hc:c.May){r:Nat}{T:Tr.Ts}{P:Ps}{sl st wo wq:Value}(h:Rn w x c r T P sl st wo wq)(a:Option Addr)(n oc:Nat)(O:List Tr.Op)(hO:Tr.IsO x a n O)(hn:n*72<=140737488355328)(hle:n<=c.sl) :
 Calls prog 8 #[.pointer (some ⟨r,0,none⟩),.slice a n oc] x fun e y=>e=.returned (.bool true)/\Hid (Ky r x y/\(∃dp,Dk c (ldC c T) dp P)/\∃sl' st' wo' wq',Rn w y c r (doL (ldC c T) O).2 (endB c (ldC c T) P O) sl' st' wo' wq'/\Lb w y c P (endB c (ldC c T) P O) (jGx c (ldC c T) P O) (doL (ldC c T) O).2 (doL (ldC c T) O).1 n sl' st' wo' wq'):=by
 obtain ⟨b,q,nn,pb,pq,pn,io,iq,nd,hr,hD,hio,hiq,hnd,htl⟩:=h.ex
 obtain ⟨oa,oc1,rfl⟩:=jBy hio
 obtain ⟨qa,qc1,rfl⟩:=jBy hiq
 have hR:∀V,Below x.heap.size x V->V.heap[r]?=some (.cells (rnA c b pb sl st wo wq (.slice oa P.R.length oc1) (.slice qa P.Q.length qc1) nd) 51 (0,0)):=fun V hV=>(hV.block _ (jAv hr)).trans hr
 have HS:Hid (∀V,Below x.heap.size x V->V.cell? ⟨r,0,none⟩=some (.int .i64 (c.sl:Int))/\V.cell? ⟨r,1,none⟩=some (.int .i64 (c.fl:Int))/\V.cell? ⟨r,2,none⟩=some (.int .i64 (c.dr:Int))/\V.cell? ⟨r,3,none⟩=some (.int .i64 (c.mf:Int))/\V.cell? ⟨r,4,none⟩=some (.int .i64 (c.ls:Int))/\V.cell? ⟨r,5,none⟩=some (.int .i64 (c.pg:Int))/\V.cell? ⟨r,6,none⟩=some (.pointer (some ⟨b,0,none⟩))/\V.cell? ⟨r,7,none⟩=some (.pointer (some ⟨pb,0,none⟩))):=fun V hV=>(jG1 (hR V hV)).1
 have HOP:Hid (∀V,Below x.heap.size x V->Calls prog 27 #[.slice a n oc] V fun e w'=>∃a' c',e=.returned (.slice a' n c')/\Hid (Tr.IsO w' a' n O)/\Below V.heap.size V w'):=fun V hV=>ops_any V a n oc O (hO.below hV) hn
 have HMK:Hid (∀V a' c',Below x.heap.size x V->Tr.IsO V a' n O->Calls prog 25 #[.agg #[.int .i64 (c.sl:Int),.int .i64 (c.fl:Int),.int .i64 (c.dr:Int),.int .i64 (c.mf:Int),.int .i64 (c.ls:Int),.int .i64 (c.pg:Int)],.pointer (some ⟨b,0,none⟩),.pointer (some ⟨pb,0,none⟩),.slice a' n c'] V fun e w'=>∃gl gs b' q' pb' pq',e=.returned (.tuple #[.agg #[.slice (some ⟨gl,0,none⟩) c.sl c.sl,.slice (some ⟨gs,0,none⟩) n n],.pointer (some ⟨b',0,none⟩),.pointer (some ⟨pb',0,none⟩),.int .i64 0])/\Hid (Mk V w' c P (endB c (ldC c T) P O) (jGx c (ldC c T) P O) (doL (ldC c T) O).1 (doL (ldC c T) O).2 n gl gs b' q' pb' pq'/\Below x.heap.size x w'/\Below V.heap.size V w'/\Below x.heap.size x V/\∃dp,Dk c (ldC c T) dp P)):=fun V a' c' hV hI=>by
  refine (make_ok V ((h.rt.next h.be).next hV) c hc b q nn pb pq pn T P (hD.below hV) a' n c' O hI hle).mono ?_
  rintro e w' ⟨gl,gs,b',q',pb',pq',rfl,HM,hb,HD⟩
  exact ⟨gl,gs,b',q',pb',pq',rfl,HM.out,hV.trans (hb.mono hV.size),hb,hV,HD.out⟩
 obtain ⟨T',hT'⟩:∃T',(doL (ldC c T) O).2=T':=⟨_,rfl⟩
 obtain ⟨S',hS'⟩:∃S',endB c (ldC c T) P O=S':=⟨_,rfl⟩
 obtain ⟨L',hL'⟩:∃L',jGx c (ldC c T) P O=L':=⟨_,rfl⟩
 obtain ⟨ss,hss⟩:∃ss,(doL (ldC c T) O).1=ss:=⟨_,rfl⟩
 have HNX:Hid ((∃dp,Dk c (ldC c T) dp P)->∃dp,Dk c T' dp S'):=fun ⟨dp,d⟩=>by rw[<-hT',<-hS'];exact d.next O (by rw[hO.hl];exact hle)
 have HPL:Hid ((∃dp,Dk c (ldC c T) dp P)->S'.R.length=P.R.length):=fun hd=>by
  obtain ⟨dp',d'⟩:=HNX.out hd
  obtain ⟨dp,d⟩:=hd
  rw[d'.len,d.len]
 have HSP:Hid (∀V X Y gl gs b' q' pb' pq',Mk V X c P S' L' ss T' n gl gs b' q' pb' pq'->Below x.heap.size x X->Ky r X Y->Calls prog 26 #[.pointer (some ⟨pb',0,none⟩)] Y fun e w'=>∃oa oc qa qc,e=.returned (.agg #[.slice oa S'.R.length oc,.slice qa S'.Q.length qc])/\Hid (w'.ownsRow Y.heap.size 60 4 (.slice oa S'.R.length oc) S'.R.length (obsC S'.R)/\w'.ownsRow Y.heap.size 3 1 (.slice qa S'.Q.length qc) S'.Q.length (nsC S'.Q))/\Below Y.heap.size Y w'):=fun V X Y gl gs b' q' pb' pq' hM hX hK=>by
  obtain ⟨F,PF,g1,g2,g3,_⟩:=hM.wk.ex
  refine (jH9 Y pb' pq' PF _ S' (hK.pool (hR X hX) g3)).mono ?_
  rintro e w' ⟨ov,qv,rfl,h1,h2,hb'⟩
  obtain ⟨oa,oc,rfl⟩:=jBy h1
  obtain ⟨qa,qc,rfl⟩:=jBy h2
  exact ⟨oa,oc,qa,qc,rfl,⟨h1,h2⟩,hb'⟩
 have HST:Hid (∀V X Y gl gs b' q' pb' pq',Mk V X c P S' L' ss T' n gl gs b' q' pb' pq'->Below x.heap.size x X->Ky r X Y->(∃dp,Dk c (ldC c T) dp P)->Calls prog 21 #[.pointer (some ⟨b',0,none⟩)] Y fun e w'=>∃a c',e=.returned (.agg #[.int .i64 (c.fl:Int),.int .i64 (c.dr:Int),.slice a (Tr.told T').length c'])/\Hid (w'.ownsRow Y.heap.size 91 5 (.slice a (Tr.told T').length c') (Tr.told T').length (Tr.ndsc (Tr.told T'))/\(Tr.told T').length<=1000000)/\Below Y.heap.size Y w'):=fun V X Y gl gs b' q' pb' pq' hM hX hK hd=>by
  obtain ⟨F,PF,g1,g2,g3,_⟩:=hM.wk.ex
  obtain ⟨dp,d⟩:=HNX.out hd
  refine (Tr.jKz Y 0 b' q' _ T' ⟨hK.cell (hR X hX) g1 (by decide),Kj _,F,hK.tree (hR X hX) g2,fun _ _=>Kj _⟩ (by rw[d.dr];omega)).mono ?_
  rintro e w' ⟨a,c',rfl,HO,hb',hl⟩
  refine ⟨a,c',?_,⟨HO.out,hl⟩,hb'⟩
  rw[d.fr,show ((T'.dr:Int)-1)=(c.dr:Int) by rw[d.dr];omega]
 have HFIN:Hid (∀V X Y gl gs b' q' pb' pq' oa' oc' qa' qc' na' nc',Mk V X c P S' L' ss T' n gl gs b' q' pb' pq'->Below x.heap.size x X->Below x.heap.size x V->Ky r X Y->(∃dp,Dk c (ldC c T) dp P)->Y.heap[r]?=some (.cells (rnA c b' pb' (.slice (some ⟨gl,0,none⟩) c.sl c.sl) (.slice (some ⟨gs,0,none⟩) n n) (.slice oa P.R.length oc1) (.slice qa P.Q.length qc1) (.slice oa' S'.R.length oc') (.slice qa' S'.Q.length qc') (.slice na' (Tr.told T').length nc')) 51 (0,0))->Y.ownsRow X.heap.size 60 4 (.slice oa' S'.R.length oc') S'.R.length (obsC S'.R)->Y.ownsRow X.heap.size 3 1 (.slice qa' S'.Q.length qc') S'.Q.length (nsC S'.Q)->Y.ownsRow X.heap.size 91 5 (.slice na' (Tr.told T').length nc') (Tr.told T').length (Tr.ndsc (Tr.told T'))->(Tr.told T').length<=1000000->Ky r x Y/\(∃dp,Dk c (ldC c T) dp P)/\∃sl' st' wo' wq',Rn w Y c r T' S' sl' st' wo' wq'/\Lb w Y c P S' L' T' ss n sl' st' wo' wq'):=fun V X Y gl gs b' q' pb' pq' oa' oc' qa' qc' na' nc' hM hX hV hK hd hy o1 o2 o3 o4=>by
  have hrX:=hR X hX
  have hKx:Ky r x Y:=(Ky.of hX).trans hK
  obtain ⟨F,PF,g1,g2,g3,_⟩:=hM.wk.ex
  obtain ⟨l,l1,l2,l3⟩:=hM.st
  have s1:=h.be.size
  have s2:=hV.size
  have s3:=hX.size
  have hbY:=hKx.base h.be h.rb
  refine ⟨hKx,hd,_,_,_,_,⟨⟨b',q',_,pb',pq',_,_,_,_,hy,⟨HNX.out hd,F,PF,hK.cell hrX g1 (by decide),hK.tree hrX g2,hK.pool hrX g3⟩,jB1 o1 (by omega),jB1 o2 (by omega),jB1 o3 (by omega),o4⟩,h.rb,hbY,h.rt⟩,hK.row hrX (jB1 hM.sl (by omega)) (by decide),⟨l,hK.row hrX (jB1 l1 (by omega)) (by decide),l2,fun i y hy'=>hK.row hrX (jB1 (l3 i y hy') (by omega)) (by decide)⟩,hKx.row hr hio (by decide),hKx.row hr hiq (by decide)⟩
 have HRX:Hid (∀V,Below x.heap.size x V->V.heap[r]?=some (.cells (rnA c b pb sl st wo wq (.slice oa P.R.length oc1) (.slice qa P.Q.length qc1) nd) 51 (0,0))):=hR
 have HRC:Hid (∀V,Below x.heap.size x V->(V.cell? ⟨r,0,none⟩=some (.int .i64 (c.sl:Int)))):=fun V hV=>(HS.out V hV).1
 have HN:Hid _:=jIj
 rw[hT',hS',hL',hss]
 rw[hT',hS',hL',hss] at HMK
 generalize P.R.length=pl at *
 generalize P.Q.length=ql at *
 generalize S'.R.length=pl' at *
 generalize S'.Q.length=ql' at *
 generalize (Tr.told T').length=tl' at *
 clear hT' hS' hL' hss hR hr hD hio hiq hnd htl hO h
 go_enter func8,ntmps8
 go_wp2_with fail
 go_cut [5,6,7,8] (fun u5 u6 u7 u8 wx=>∃g5 V gl gs b' q' pb' pq',u5=.pointer (some ⟨g5,0,none⟩)/\u6=.pointer (some ⟨b',0,none⟩)/\u7=.pointer (some ⟨pb',0,none⟩)/\u8=.int .i64 0/\Hid (wx.heap[g5]?=some (.cells #[.slice (some ⟨gl,0,none⟩) c.sl c.sl,.slice (some ⟨gs,0,none⟩) n n] 40 (0,0))/\Mk V wx c P S' L' ss T' n gl gs b' q' pb' pq'/\Below x.heap.size x wx/\Below x.heap.size x V/\∃dp,Dk c (ldC c T) dp P))
 case first =>
  have hSx:=HS.out x (Qq _ _)
  refine wp_region_held_drew (S:=fun V=>V.cell? ⟨r,0,none⟩=some (.int .i64 (c.sl:Int))/\V.cell? ⟨r,1,none⟩=some (.int .i64 (c.fl:Int))/\V.cell? ⟨r,2,none⟩=some (.int .i64 (c.dr:Int))/\V.cell? ⟨r,3,none⟩=some (.int .i64 (c.mf:Int))/\V.cell? ⟨r,4,none⟩=some (.int .i64 (c.ls:Int))/\V.cell? ⟨r,5,none⟩=some (.int .i64 (c.pg:Int))/\V.cell? ⟨r,6,none⟩=some (.pointer (some ⟨b,0,none⟩))/\V.cell? ⟨r,7,none⟩=some (.pointer (some ⟨pb,0,none⟩))) (by kernel_rfl) hSx ?_
  intro hS
  have HB0:Hid (Below x.heap.size x x.drew):=(Qq _ _).drew
  clear hSx
  revert hS HB0
  generalize x.drew=V0
  intro hS HB0
  refine tQ 0 ⟨some 10,.move (.tmp 0),_,_,_,none⟩ (.pointer (some ⟨r,0,none⟩)) rfl hS ?_
  (try simp only[Act.put,sA,sB,sC])
  refine tQ 1 ⟨some 11,.nilCheck (.tmp 10),_,_,_,none⟩ (.pointer (some ⟨r,0,none⟩)) rfl hS ?_
  (try simp only[Act.put,sA,sB,sC])
  refine tQ 2 ⟨some 12,.fieldAddr 51 (.tmp 11) 0,_,_,_,none⟩ (.pointer (some ⟨r,0,none⟩)) rfl hS ?_
  (try simp only[Act.put,sA,sB,sC])
  refine tQ 3 ⟨some 13,.load 23 (.tmp 12),_,_,_,none⟩ (.agg #[.int .i64 (c.sl:Int),.int .i64 (c.fl:Int),.int .i64 (c.dr:Int),.int .i64 (c.mf:Int),.int .i64 (c.ls:Int),.int .i64 (c.pg:Int)]) rfl hS ?_ (Or.inl ⟨by rfl,by intro x hx;obtain ⟨h0,h1,h2,h3,h4,h5,h6,h7⟩:=hx;go_simp⟩)
  (try simp only[Act.put,sA,sB,sC])
  refine tQ 4 ⟨some 14,.move (.tmp 0),_,_,_,none⟩ (.pointer (some ⟨r,0,none⟩)) rfl hS ?_
  (try simp only[Act.put,sA,sB,sC])
  refine tQ 5 ⟨some 15,.nilCheck (.tmp 14),_,_,_,none⟩ (.pointer (some ⟨r,0,none⟩)) rfl hS ?_
  (try simp only[Act.put,sA,sB,sC])
  refine tQ 6 ⟨some 16,.fieldAddr 51 (.tmp 15) 1,_,_,_,none⟩ (.pointer (some ⟨r,6,none⟩)) rfl hS ?_
  (try simp only[Act.put,sA,sB,sC])
  refine tQ 7 ⟨some 17,.load 41 (.tmp 16),_,_,_,none⟩ (.pointer (some ⟨b,0,none⟩)) rfl hS ?_ (Or.inl ⟨by rfl,by intro x hx;obtain ⟨h0,h1,h2,h3,h4,h5,h6,h7⟩:=hx;go_simp⟩)
  (try simp only[Act.put,sA,sB,sC])
  refine tQ 8 ⟨some 18,.move (.tmp 0),_,_,_,none⟩ (.pointer (some ⟨r,0,none⟩)) rfl hS ?_
  (try simp only[Act.put,sA,sB,sC])
  refine tQ 9 ⟨some 19,.nilCheck (.tmp 18),_,_,_,none⟩ (.pointer (some ⟨r,0,none⟩)) rfl hS ?_
  (try simp only[Act.put,sA,sB,sC])
  refine tQ 10 ⟨some 20,.fieldAddr 51 (.tmp 19) 2,_,_,_,none⟩ (.pointer (some ⟨r,7,none⟩)) rfl hS ?_
  (try simp only[Act.put,sA,sB,sC])
  refine tQ 11 ⟨some 21,.load 42 (.tmp 20),_,_,_,none⟩ (.pointer (some ⟨pb,0,none⟩)) rfl hS ?_ (Or.inl ⟨by rfl,by intro x hx;obtain ⟨h0,h1,h2,h3,h4,h5,h6,h7⟩:=hx;go_simp⟩)
  (try simp only[Act.put,sA,sB,sC])
  refine tQ 12 ⟨some 22,.move (.tmp 1),_,_,_,none⟩ (.slice a n oc) rfl hS ?_
  (try simp only[Act.put,sA,sB,sC])
  refine wpAnyH_ready (rs:=[13,20]) (by kernel_rfl) (by simp) ?_
  refine AllReadyH.cons (o:={ dst:=some 23,op:=.call { callee:=.value (.func 27),args:=#[.tmp 22],argTypes:=#[29] },type:=_,pos:=_,after:=_,guard:=none }) rfl (fun K hK=>?_) (AllReadyH.cons (o:=⟨some 5,.alloc 40,_,_,_,none⟩) rfl (fun K hK=>?_) AllReadyH.nil)
  ·go_simp
   refine (HOP.out V0 HB0.out).mono ?_
   rintro e V1 ⟨a5,c5,rfl,HI1,hb1⟩
   have HB1:Hid (Below x.heap.size x V1):=HB0.out.trans (hb1.mono HB0.out.size)
   have hS1:=HS.out V1 HB1.out
   refine hK.out _ _ hS1 (fun _=>?_)
   clear hK K hS hb1
   (try simp only[Act.put,sA,sB,sC])
   have hS:=hS1
   clear hS1
   refine wpAnyH_ready (rs:=[14,20]) (by kernel_rfl) (by simp) ?_
   refine AllReadyH.cons (o:={ dst:=some 24,op:=.call { callee:=.value (.func 25),args:=#[.tmp 13,.tmp 17,.tmp 21,.tmp 23],argTypes:=#[23,41,42,29] },type:=_,pos:=_,after:=_,guard:=none }) rfl (fun K hK=>?_) (AllReadyH.cons (o:=⟨some 5,.alloc 40,_,_,_,none⟩) rfl (fun K hK=>?_) AllReadyH.nil)
   ·go_simp
    refine (HMK.out V1 a5 c5 HB1.out HI1.out).mono ?_
    rintro e V2 ⟨gl,gs,b',q',pb',pq',rfl,HM2⟩
    have HB2:Hid (Below x.heap.size x V2):=HM2.out.2.1
    have hS2:=HS.out V2 HB2.out
    refine hK.out _ _ hS2 (fun _=>?_)
    clear hK K hS
    (try simp only[Act.put,sA,sB,sC])
    have hS:=hS2
    clear hS2
    refine tQ 15 ⟨some 9,.move (.tmp 24),_,_,_,none⟩ (.tuple #[.agg #[.slice (some ⟨gl,0,none⟩) c.sl c.sl,.slice (some ⟨gs,0,none⟩) n n],.pointer (some ⟨b',0,none⟩),.pointer (some ⟨pb',0,none⟩),.int .i64 0]) rfl hS ?_
    (try simp only[Act.put,sA,sB,sC])
    refine tQ 16 ⟨some 25,.extract (.tmp 9) 0,_,_,_,none⟩ (.agg #[.slice (some ⟨gl,0,none⟩) c.sl c.sl,.slice (some ⟨gs,0,none⟩) n n]) rfl hS ?_
    (try simp only[Act.put,sA,sB,sC])
    refine tQ 17 ⟨some 26,.extract (.tmp 9) 1,_,_,_,none⟩ (.pointer (some ⟨b',0,none⟩)) rfl hS ?_
    (try simp only[Act.put,sA,sB,sC])
    refine tQ 18 ⟨some 27,.extract (.tmp 9) 2,_,_,_,none⟩ (.pointer (some ⟨pb',0,none⟩)) rfl hS ?_
    (try simp only[Act.put,sA,sB,sC])
    refine tQ 19 ⟨some 28,.extract (.tmp 9) 3,_,_,_,none⟩ (.int .i64 0) rfl hS ?_
    (try simp only[Act.put,sA,sB,sC])
    refine wpAnyH_ready (rs:=[20]) (by kernel_rfl) (by simp) ?_
    refine AllReadyH.cons (o:=⟨some 5,.alloc 40,_,_,_,none⟩) rfl (fun K hK=>?_) AllReadyH.nil
    go_simp
    have hbA:Below V2.heap.size V2 (V2.alloc (.cells #[.slice none 0 0,.slice none 0 0] 40)):=(Qq _ _).alloc (Qj _) _
    have HB3:Hid (Below x.heap.size x (V2.alloc (.cells #[.slice none 0 0,.slice none 0 0] 40))):=HB2.out.trans (hbA.mono HB2.out.size)
    have K3:Hid ((V2.alloc (.cells #[.slice none 0 0,.slice none 0 0] 40)).heap[V2.heap.size]?=some (.cells #[.slice none 0 0,.slice none 0 0] 40 (0,0))):=jA2 _ _
    have HG5:Hid (x.heap.size<=V2.heap.size):=HB2.out.size
    have HM3:Hid (Mk V1 (V2.alloc (.cells #[.slice none 0 0,.slice none 0 0] 40)) c P S' L' ss T' n gl gs b' q' pb' pq'/\Below x.heap.size x V1/\∃dp,Dk c (ldC c T) dp P):=⟨HM2.out.1.below hbA,HM2.out.2.2.2.1,HM2.out.2.2.2.2⟩
    have hS3:=HS.out _ HB3.out
    refine hK.out _ _ hS3 (fun _=>?_)
    clear hK K hS hbA
    (try simp only[Act.put,sA,sB,sC])
    have hS:=hS3
    clear hS3
    revert hS HB3 K3 HG5 HM3
    generalize V2.alloc (.cells #[.slice none 0 0,.slice none 0 0] 40)=V3
    generalize V2.heap.size=g5
    intro HB3 K3 HG5 HM3 hS
    refine wpAnyH_ready (rs:=[21]) (by kernel_rfl) (by simp) ?_
    refine AllReadyH.cons (o:=⟨none,.store 40 (.tmp 5) (.tmp 25),_,_,_,none⟩) rfl (fun K hK=>?_) AllReadyH.nil
    have y0:V3.cell? ⟨g5,0,none⟩=some (.slice none 0 0):=(jAj K3.out).trans rfl
    have y1:V3.cell? ⟨g5,1,none⟩=some (.slice none 0 0):=(jAj K3.out).trans rfl
    have f0:V3.frozen? ⟨g5,0,none⟩=false:=jAq K3.out
    have f1:V3.frozen? ⟨g5,1,none⟩=false:=jAq K3.out
    go_simp
    have HBE:Hid (Below x.heap.size x ((V3.setCell ⟨g5,0,none⟩ (.slice (some ⟨gl,0,none⟩) c.sl c.sl)).setCell ⟨g5,1,none⟩ (.slice (some ⟨gs,0,none⟩) n n))):=(HB3.out.setCell (HG5.out) _).setCell (HG5.out) _
    have hSE:=HS.out _ HBE.out
    refine hK.out _ _ hSE (fun _=>?_)
    clear hK K hS y0 y1 f0 f1
    (try simp only[Act.put])
    have hS:=hSE
    clear hSE
    refine tQ 22 ⟨some 6,.assign (.tmp 26),_,_,_,none⟩ (.pointer (some ⟨b',0,none⟩)) rfl hS ?_
    (try simp only[Act.put,sA,sB,sC])
    refine tQ 23 ⟨some 7,.assign (.tmp 27),_,_,_,none⟩ (.pointer (some ⟨pb',0,none⟩)) rfl hS ?_
    (try simp only[Act.put,sA,sB,sC])
    refine tQ 24 ⟨some 8,.assign (.tmp 28),_,_,_,none⟩ (.int .i64 0) rfl hS ?_
    (try simp only[Act.put,sA,sB,sC])
    refine wpAnyH_done (by kernel_rfl) ?_ _
    clear hS
    go_wp2_with fail
    go_meet
    first
     | exact ⟨g5,V1,gl,gs,b',q',pb',pq',rfl,rfl,rfl,rfl,jK7 K3.out,HM3.out.1.put2 K3.out _ _,HBE.out,HM3.out.2.1,HM3.out.2.2⟩
     | exact ⟨g5,V2,gl,gs,b',q',pb',pq',rfl,rfl,rfl,rfl,jK7 K3.out,HM3.out.1.put2 K3.out _ _,HBE.out,HM3.out.2.2.2.1,HM3.out.2.2.2.2⟩
   ·go_simp
    have hbA:Below V1.heap.size V1 (V1.alloc (.cells #[.slice none 0 0,.slice none 0 0] 40)):=(Qq _ _).alloc (Qj _) _
    have HB2:Hid (Below x.heap.size x (V1.alloc (.cells #[.slice none 0 0,.slice none 0 0] 40))):=HB1.out.trans (hbA.mono HB1.out.size)
    have K2:Hid ((V1.alloc (.cells #[.slice none 0 0,.slice none 0 0] 40)).heap[V1.heap.size]?=some (.cells #[.slice none 0 0,.slice none 0 0] 40 (0,0))):=jA2 _ _
    have HG5:Hid (x.heap.size<=V1.heap.size):=HB1.out.size
    have HI2:Hid (Tr.IsO (V1.alloc (.cells #[.slice none 0 0,.slice none 0 0] 40)) a5 n O):=HI1.out.below hbA
    have hS2:=HS.out _ HB2.out
    refine hK.out _ _ hS2 (fun _=>?_)
    clear hK K hS hbA
    (try simp only[Act.put,sA,sB,sC])
    have hS:=hS2
    clear hS2
    revert hS HB2 K2 HG5 HI2
    generalize V1.alloc (.cells #[.slice none 0 0,.slice none 0 0] 40)=V2
    generalize V1.heap.size=g5
    intro HB2 K2 HG5 HI2 hS
    refine wpAnyH_ready (rs:=[14]) (by kernel_rfl) (by simp) ?_
    refine AllReadyH.cons (o:={ dst:=some 24,op:=.call { callee:=.value (.func 25),args:=#[.tmp 13,.tmp 17,.tmp 21,.tmp 23],argTypes:=#[23,41,42,29] },type:=_,pos:=_,after:=_,guard:=none }) rfl (fun K hK=>?_) AllReadyH.nil
    go_simp
    refine (HMK.out V2 a5 c5 HB2.out HI2.out).mono ?_
    rintro e V3 ⟨gl,gs,b',q',pb',pq',rfl,HM3⟩
    have HB3:Hid (Below x.heap.size x V3):=HM3.out.2.1
    have K3:Hid (V3.heap[g5]?=some (.cells #[.slice none 0 0,.slice none 0 0] 40 (0,0))):=(HM3.out.2.2.1.block _ (jAv K2.out)).trans K2.out
    have hS3:=HS.out V3 HB3.out
    refine hK.out _ _ hS3 (fun _=>?_)
    clear hK K hS
    (try simp only[Act.put,sA,sB,sC])
    have hS:=hS3
    clear hS3
    refine tQ 15 ⟨some 9,.move (.tmp 24),_,_,_,none⟩ (.tuple #[.agg #[.slice (some ⟨gl,0,none⟩) c.sl c.sl,.slice (some ⟨gs,0,none⟩) n n],.pointer (some ⟨b',0,none⟩),.pointer (some ⟨pb',0,none⟩),.int .i64 0]) rfl hS ?_
    (try simp only[Act.put,sA,sB,sC])
    refine tQ 16 ⟨some 25,.extract (.tmp 9) 0,_,_,_,none⟩ (.agg #[.slice (some ⟨gl,0,none⟩) c.sl c.sl,.slice (some ⟨gs,0,none⟩) n n]) rfl hS ?_
    (try simp only[Act.put,sA,sB,sC])
    refine tQ 17 ⟨some 26,.extract (.tmp 9) 1,_,_,_,none⟩ (.pointer (some ⟨b',0,none⟩)) rfl hS ?_
    (try simp only[Act.put,sA,sB,sC])
    refine tQ 18 ⟨some 27,.extract (.tmp 9) 2,_,_,_,none⟩ (.pointer (some ⟨pb',0,none⟩)) rfl hS ?_
    (try simp only[Act.put,sA,sB,sC])
    refine tQ 19 ⟨some 28,.extract (.tmp 9) 3,_,_,_,none⟩ (.int .i64 0) rfl hS ?_
    (try simp only[Act.put,sA,sB,sC])
    refine wpAnyH_ready (rs:=[21]) (by kernel_rfl) (by simp) ?_
    refine AllReadyH.cons (o:=⟨none,.store 40 (.tmp 5) (.tmp 25),_,_,_,none⟩) rfl (fun K hK=>?_) AllReadyH.nil
    have y0:V3.cell? ⟨g5,0,none⟩=some (.slice none 0 0):=(jAj K3.out).trans rfl
    have y1:V3.cell? ⟨g5,1,none⟩=some (.slice none 0 0):=(jAj K3.out).trans rfl
    have f0:V3.frozen? ⟨g5,0,none⟩=false:=jAq K3.out
    have f1:V3.frozen? ⟨g5,1,none⟩=false:=jAq K3.out
    go_simp
    have HBE:Hid (Below x.heap.size x ((V3.setCell ⟨g5,0,none⟩ (.slice (some ⟨gl,0,none⟩) c.sl c.sl)).setCell ⟨g5,1,none⟩ (.slice (some ⟨gs,0,none⟩) n n))):=(HB3.out.setCell (HG5.out) _).setCell (HG5.out) _
    have hSE:=HS.out _ HBE.out
    refine hK.out _ _ hSE (fun _=>?_)
    clear hK K hS y0 y1 f0 f1
    (try simp only[Act.put])
    have hS:=hSE
    clear hSE
    refine tQ 22 ⟨some 6,.assign (.tmp 26),_,_,_,none⟩ (.pointer (some ⟨b',0,none⟩)) rfl hS ?_
    (try simp only[Act.put,sA,sB,sC])
    refine tQ 23 ⟨some 7,.assign (.tmp 27),_,_,_,none⟩ (.pointer (some ⟨pb',0,none⟩)) rfl hS ?_
    (try simp only[Act.put,sA,sB,sC])
    refine tQ 24 ⟨some 8,.assign (.tmp 28),_,_,_,none⟩ (.int .i64 0) rfl hS ?_
    (try simp only[Act.put,sA,sB,sC])
    refine wpAnyH_done (by kernel_rfl) ?_ _
    clear hS
    go_wp2_with fail
    go_meet
    first
     | exact ⟨g5,V1,gl,gs,b',q',pb',pq',rfl,rfl,rfl,rfl,jK7 K3.out,HM3.out.1.put2 K3.out _ _,HBE.out,HM3.out.2.1,HM3.out.2.2⟩
     | exact ⟨g5,V2,gl,gs,b',q',pb',pq',rfl,rfl,rfl,rfl,jK7 K3.out,HM3.out.1.put2 K3.out _ _,HBE.out,HM3.out.2.2.2.1,HM3.out.2.2.2.2⟩
  ·go_simp
   have hbA:Below V0.heap.size V0 (V0.alloc (.cells #[.slice none 0 0,.slice none 0 0] 40)):=(Qq _ _).alloc (Qj _) _
   have HB1:Hid (Below x.heap.size x (V0.alloc (.cells #[.slice none 0 0,.slice none 0 0] 40))):=HB0.out.trans (hbA.mono HB0.out.size)
   have K1:Hid ((V0.alloc (.cells #[.slice none 0 0,.slice none 0 0] 40)).heap[V0.heap.size]?=some (.cells #[.slice none 0 0,.slice none 0 0] 40 (0,0))):=jA2 _ _
   have HG5:Hid (x.heap.size<=V0.heap.size):=HB0.out.size
   have hS1:=HS.out _ HB1.out
   refine hK.out _ _ hS1 (fun _=>?_)
   clear hK K hS hbA
   (try simp only[Act.put,sA,sB,sC])
   have hS:=hS1
   clear hS1
   revert hS HB1 K1 HG5
   generalize V0.alloc (.cells #[.slice none 0 0,.slice none 0 0] 40)=V1
   generalize V0.heap.size=g5
   intro HB1 K1 HG5 hS
   refine wpAnyH_ready (rs:=[13]) (by kernel_rfl) (by simp) ?_
   refine AllReadyH.cons (o:={ dst:=some 23,op:=.call { callee:=.value (.func 27),args:=#[.tmp 22],argTypes:=#[29] },type:=_,pos:=_,after:=_,guard:=none }) rfl (fun K hK=>?_) AllReadyH.nil
   go_simp
   refine (HOP.out V1 HB1.out).mono ?_
   rintro e V2 ⟨a5,c5,rfl,HI2,hb2⟩
   have HB2:Hid (Below x.heap.size x V2):=HB1.out.trans (hb2.mono HB1.out.size)
   have K2:Hid (V2.heap[g5]?=some (.cells #[.slice none 0 0,.slice none 0 0] 40 (0,0))):=(hb2.block _ (jAv K1.out)).trans K1.out
   have hS2:=HS.out V2 HB2.out
   refine hK.out _ _ hS2 (fun _=>?_)
   clear hK K hS hb2
   (try simp only[Act.put,sA,sB,sC])
   have hS:=hS2
   clear hS2
   refine wpAnyH_ready (rs:=[14]) (by kernel_rfl) (by simp) ?_
   refine AllReadyH.cons (o:={ dst:=some 24,op:=.call { callee:=.value (.func 25),args:=#[.tmp 13,.tmp 17,.tmp 21,.tmp 23],argTypes:=#[23,41,42,29] },type:=_,pos:=_,after:=_,guard:=none }) rfl (fun K hK=>?_) AllReadyH.nil
   go_simp
   refine (HMK.out V2 a5 c5 HB2.out HI2.out).mono ?_
   rintro e V3 ⟨gl,gs,b',q',pb',pq',rfl,HM3⟩
   have HB3:Hid (Below x.heap.size x V3):=HM3.out.2.1
   have K3:Hid (V3.heap[g5]?=some (.cells #[.slice none 0 0,.slice none 0 0] 40 (0,0))):=(HM3.out.2.2.1.block _ (jAv K2.out)).trans K2.out
   have hS3:=HS.out V3 HB3.out
   refine hK.out _ _ hS3 (fun _=>?_)
   clear hK K hS
   (try simp only[Act.put,sA,sB,sC])
   have hS:=hS3
   clear hS3
   refine tQ 15 ⟨some 9,.move (.tmp 24),_,_,_,none⟩ (.tuple #[.agg #[.slice (some ⟨gl,0,none⟩) c.sl c.sl,.slice (some ⟨gs,0,none⟩) n n],.pointer (some ⟨b',0,none⟩),.pointer (some ⟨pb',0,none⟩),.int .i64 0]) rfl hS ?_
   (try simp only[Act.put,sA,sB,sC])
   refine tQ 16 ⟨some 25,.extract (.tmp 9) 0,_,_,_,none⟩ (.agg #[.slice (some ⟨gl,0,none⟩) c.sl c.sl,.slice (some ⟨gs,0,none⟩) n n]) rfl hS ?_
   (try simp only[Act.put,sA,sB,sC])
   refine tQ 17 ⟨some 26,.extract (.tmp 9) 1,_,_,_,none⟩ (.pointer (some ⟨b',0,none⟩)) rfl hS ?_
   (try simp only[Act.put,sA,sB,sC])
   refine tQ 18 ⟨some 27,.extract (.tmp 9) 2,_,_,_,none⟩ (.pointer (some ⟨pb',0,none⟩)) rfl hS ?_
   (try simp only[Act.put,sA,sB,sC])
   refine tQ 19 ⟨some 28,.extract (.tmp 9) 3,_,_,_,none⟩ (.int .i64 0) rfl hS ?_
   (try simp only[Act.put,sA,sB,sC])
   refine wpAnyH_ready (rs:=[21]) (by kernel_rfl) (by simp) ?_
   refine AllReadyH.cons (o:=⟨none,.store 40 (.tmp 5) (.tmp 25),_,_,_,none⟩) rfl (fun K hK=>?_) AllReadyH.nil
   have y0:V3.cell? ⟨g5,0,none⟩=some (.slice none 0 0):=(jAj K3.out).trans rfl
   have y1:V3.cell? ⟨g5,1,none⟩=some (.slice none 0 0):=(jAj K3.out).trans rfl
   have f0:V3.frozen? ⟨g5,0,none⟩=false:=jAq K3.out
   have f1:V3.frozen? ⟨g5,1,none⟩=false:=jAq K3.out
   go_simp
   have HBE:Hid (Below x.heap.size x ((V3.setCell ⟨g5,0,none⟩ (.slice (some ⟨gl,0,none⟩) c.sl c.sl)).setCell ⟨g5,1,none⟩ (.slice (some ⟨gs,0,none⟩) n n))):=(HB3.out.setCell (HG5.out) _).setCell (HG5.out) _
   have hSE:=HS.out _ HBE.out
   refine hK.out _ _ hSE (fun _=>?_)
   clear hK K hS y0 y1 f0 f1
   (try simp only[Act.put])
   have hS:=hSE
   clear hSE
   refine tQ 22 ⟨some 6,.assign (.tmp 26),_,_,_,none⟩ (.pointer (some ⟨b',0,none⟩)) rfl hS ?_
   (try simp only[Act.put,sA,sB,sC])
   refine tQ 23 ⟨some 7,.assign (.tmp 27),_,_,_,none⟩ (.pointer (some ⟨pb',0,none⟩)) rfl hS ?_
   (try simp only[Act.put,sA,sB,sC])
   refine tQ 24 ⟨some 8,.assign (.tmp 28),_,_,_,none⟩ (.int .i64 0) rfl hS ?_
   (try simp only[Act.put,sA,sB,sC])
   refine wpAnyH_done (by kernel_rfl) ?_ _
   clear hS
   go_wp2_with fail
   go_meet
   first
    | exact ⟨g5,V1,gl,gs,b',q',pb',pq',rfl,rfl,rfl,rfl,jK7 K3.out,HM3.out.1.put2 K3.out _ _,HBE.out,HM3.out.2.1,HM3.out.2.2⟩
    | exact ⟨g5,V2,gl,gs,b',q',pb',pq',rfl,rfl,rfl,rfl,jK7 K3.out,HM3.out.1.put2 K3.out _ _,HBE.out,HM3.out.2.2.2.1,HM3.out.2.2.2.2⟩
 case rest =>
  obtain ⟨g5,V,gl,gs,b',q',pb',pq',rfl,rfl,rfl,rfl,HL⟩:=hcut
  have hbX:=HL.out.2.2.1
  have kr:=HRX.out wc hbX
  obtain ⟨⟨r0,-,-,-,-,-,r6,r7⟩,⟨r8,r9⟩,⟨r10,r11⟩,⟨r12,r13⟩,r14,r15,r16⟩:=jG1 kr
  have p0:wc.cell? ⟨g5,0,none⟩=some (.slice (some ⟨gl,0,none⟩) c.sl c.sl):=(jAj HL.out.1).trans rfl
  have p1:wc.cell? ⟨g5,1,none⟩=some (.slice (some ⟨gs,0,none⟩) n n):=(jAj HL.out.1).trans rfl
  have hne:g5≠r:=fun e=>by
   have h1:=HL.out.1
   rw[e,kr] at h1
   injection h1 with h1
   injection h1 with _ h1 _
   cases h1
  have fz:∀j,wc.frozen? ⟨r,j,none⟩=false:=fun j=>jAq kr
  have f8:=fz 8
  have f9:=fz 9
  have f10:=fz 10
  have f11:=fz 11
  have hleI:¬(c.sl:Int)<(n:Int):=by omega
  have HNQ:Hid (∀j,Calls prog 14 #[.int .i64 0] (wc.drewN j) fun e w'=>e=.returned (.int .i64 0)/\w'=wc.drewN j):=fun j=>HN.out 0 _
  have HKR:Hid _:=kr
  have HNE:Hid _:=hne
  clear hbX kr hne fz hle HOP HMK HS HRC
  go_upto_region 5 with fail
  go_quiet ((go_at_call 14;exact Calls.quiet_of_same (HNQ.out _)))
  go_upto_region 9 with fail
  refine jBj (R:=fun V=>Code.wp _ _ _ _ V) (Q:=fun Y=>Ky r wc Y/\Y.heap[r]?=some (.cells (rnA c b pb (.slice (some ⟨gl,0,none⟩) c.sl c.sl) (.slice (some ⟨gs,0,none⟩) n n) (.slice oa pl oc1) (.slice qa ql qc1) (.slice oa pl oc1) (.slice qa ql qc1) nd) 51 (0,0))) _ ⟨((((Ky.of (Tr.bdr (Qq _ _) _)).set 8 _).set 9 _).set 10 _).set 11 _,rset (rset (rset (rset (HKR.out:(wc.drewN _).heap[r]?=_))))⟩ ?_
  rintro Y1 ⟨hK1,k1⟩
  have hsp:=HSP.out V wc Y1 gl gs b' q' pb' pq' HL.out.2.1 HL.out.2.2.1 hK1
  have HK1:Hid _:=hK1
  have HR1:Hid _:=k1
  clear hK1 k1 r0 r6 r7 r8 r9 r10 r11 r12 r13 r14 r15 r16 p0 p1 f8 f9 f10 f11 HSP
  go_wp2_with fail
  refine hsp.mono ?_
  rintro e Y2 ⟨oa',oc',qa',qc',rfl,HO2,hb2⟩
  have kr2:=(hb2.block _ (jAv HR1.out)).trans HR1.out
  obtain ⟨-,-,-,⟨r12,r13⟩,-⟩:=jG1 kr2
  have f12:Y2.frozen? ⟨r,12,none⟩=false:=jAq kr2
  have f13:Y2.frozen? ⟨r,13,none⟩=false:=jAq kr2
  have HK2:Hid (Ky r wc Y2):=HK1.out.trans (Ky.of hb2)
  have HR2:Hid _:=kr2
  clear kr2 hb2 hsp
  go_upto_region 10 with fail
  refine jBj (R:=fun V=>Code.wp _ _ _ _ V) (Q:=fun Y=>Ky r Y2 Y/\Y.heap[r]?=some (.cells (rnA c b pb (.slice (some ⟨gl,0,none⟩) c.sl c.sl) (.slice (some ⟨gs,0,none⟩) n n) (.slice oa pl oc1) (.slice qa ql qc1) (.slice oa' pl' oc') (.slice qa' ql' qc') nd) 51 (0,0))) _ ⟨((Ky.of (Qq _ _)).set 12 _).set 13 _,rset (rset HR2.out)⟩ ?_
  rintro Y3 ⟨hK3,k3⟩
  have HK3:Hid (Ky r wc Y3):=HK2.out.trans hK3
  have HO3:Hid (Y3.ownsRow wc.heap.size 60 4 (.slice oa' pl' oc') pl' (obsC S'.R)/\Y3.ownsRow wc.heap.size 3 1 (.slice qa' ql' qc') ql' (nsC S'.Q)):=⟨jB1 (hK3.row HR2.out HO2.out.1 (by decide)) HK1.out.size,jB1 (hK3.row HR2.out HO2.out.2 (by decide)) HK1.out.size⟩
  have hst:=HST.out V wc Y3 gl gs b' q' pb' pq' HL.out.2.1 HL.out.2.2.1 HK3.out HL.out.2.2.2.2
  have HR3:Hid _:=k3
  clear hK3 k3 r12 r13 f12 f13 HO2 HST
  go_wp2_with fail
  refine hst.mono ?_
  rintro e Y4 ⟨na',nc',rfl,HO4,hb4⟩
  have kr4:=(hb4.block _ (jAv HR3.out)).trans HR3.out
  obtain ⟨⟨-,-,-,-,-,-,r6,r7⟩,-,-,-,r14,r15,r16⟩:=jG1 kr4
  have f6:Y4.frozen? ⟨r,6,none⟩=false:=jAq kr4
  have f7:Y4.frozen? ⟨r,7,none⟩=false:=jAq kr4
  have f14:Y4.frozen? ⟨r,14,none⟩=false:=jAq kr4
  have f15:Y4.frozen? ⟨r,15,none⟩=false:=jAq kr4
  have f16:Y4.frozen? ⟨r,16,none⟩=false:=jAq kr4
  have HK4:Hid (Ky r wc Y4):=HK3.out.trans (Ky.of hb4)
  have HO5:Hid (Y4.ownsRow wc.heap.size 60 4 (.slice oa' pl' oc') pl' (obsC S'.R)/\Y4.ownsRow wc.heap.size 3 1 (.slice qa' ql' qc') ql' (nsC S'.Q)/\Y4.ownsRow wc.heap.size 91 5 (.slice na' tl' nc') tl' (Tr.ndsc (Tr.told T'))/\tl'<=1000000):=⟨jA7 HO3.out.1 hb4,jA7 HO3.out.2 hb4,jB1 HO4.out.1 HK3.out.size,HO4.out.2⟩
  have HR4:Hid _:=kr4
  clear kr4 hb4 hst HO3 HO4
  go_upto_region 13 with fail
  refine jBj (R:=fun V=>Code.wp _ _ _ _ V) (Q:=fun Y=>Ky r Y4 Y/\Y.heap[r]?=some (.cells (rnA c b' pb' (.slice (some ⟨gl,0,none⟩) c.sl c.sl) (.slice (some ⟨gs,0,none⟩) n n) (.slice oa pl oc1) (.slice qa ql qc1) (.slice oa' pl' oc') (.slice qa' ql' qc') (.slice na' tl' nc')) 51 (0,0))) _ ⟨(((((Ky.of (Qq _ _)).set 14 _).set 15 _).set 16 _).set 6 _).set 7 _,rset (rset (rset (rset (rset HR4.out))))⟩ ?_
  rintro Y5 ⟨hK5,k5⟩
  obtain ⟨-,-,⟨r10,-⟩,⟨r12,-⟩,-⟩:=jG1 k5
  have hKj:=fun j=>hK5.trans (Ky.of (r:=r) (Tr.bdr (Qq Y5.heap.size Y5) j))
  have HX:Hid (∀j:Nat,_):=fun j=>HFIN.out V wc (Y5.drewN j) gl gs b' q' pb' pq' oa' oc' qa' qc' na' nc' HL.out.2.1 HL.out.2.2.1 HL.out.2.2.2.1 (HK4.out.trans (hKj j)) HL.out.2.2.2.2 k5 ((hKj j).row HR4.out HO5.out.1 (by decide)) ((hKj j).row HR4.out HO5.out.2.1 (by decide)) ((hKj j).row HR4.out HO5.out.2.2.1 (by decide)) HO5.out.2.2.2
  have hpp:=HPL.out HL.out.2.2.2.2
  have hpp':((pl':Int) == (pl:Int))=true:=by simp[hpp]
  clear hK5 hKj k5 r6 r7 r14 r15 r16 f6 f7 f14 f15 f16 HFIN hpp HR1 HR2 HR3 HR4 HO5
  go_quiet (fail)
  go_wp2
  go_ret
  exact ⟨by first | rfl | simp,HX.out _⟩
