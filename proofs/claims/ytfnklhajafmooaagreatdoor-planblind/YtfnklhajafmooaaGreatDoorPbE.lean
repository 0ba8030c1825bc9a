import Derived.Test.YtfnklhajafmooaaGreatDoorG50
import Derived.Deep.CutBlock
set_option maxHeartbeats 4000000
set_option maxRecDepth 20000
namespace Go.Proofs.YtfnklhajafmooaaGreatDoor.Po.Pn
open Go.RowKit Go.Lib Go.Deep Go.Proofs.Tryz
theorem planBlind_no (w:World)(hT:Ix.RT w)(c:Ix.Cf)(hc:¬c.May)(a1:Option Addr)(n1 bc1:Nat)(a2:Option Addr)(n2 bc2:Nat):Calls prog 5 #[Ix.cfV c,.slice a1 n1 bc1,.slice a2 n2 bc2] w fun e w'=>e=.returned (.bool true)/\Below w.heap.size w w':=by
 obtain ⟨c0,c1,c2,c3,c4,c5⟩:=c
 obtain ⟨W,hW,hb,k0⟩:=jA4 w #[.int .i64 c0,.int .i64 c1,.int .i64 c2,.int .i64 c3,.int .i64 c4,.int .i64 c5] 23
 have HST:Hid (∀V,Below W.heap.size W V->Calls prog 7 #[.agg #[.int .i64 c0,.int .i64 c1,.int .i64 c2,.int .i64 c3,.int .i64 c4,.int .i64 c5]] V fun e w'=>e=.returned (.tuple #[.pointer none,.bool true])/\Below V.heap.size V w'):=fun V hV=>start_no V ((hT.next hb).next hV) ⟨c0,c1,c2,c3,c4,c5⟩ hc
 rw[show Ix.cfV ⟨c0,c1,c2,c3,c4,c5⟩=.agg #[.int .i64 c0,.int .i64 c1,.int .i64 c2,.int .i64 c3,.int .i64 c4,.int .i64 c5] from rfl]
 have HC:Hid (∀V,Below W.heap.size W V->V.cell? ⟨w.heap.size,0,none⟩=some (.int .i64 c0)/\V.cell? ⟨w.heap.size,1,none⟩=some (.int .i64 c1)/\V.cell? ⟨w.heap.size,2,none⟩=some (.int .i64 c2)/\V.cell? ⟨w.heap.size,3,none⟩=some (.int .i64 c3)/\V.cell? ⟨w.heap.size,4,none⟩=some (.int .i64 c4)/\V.cell? ⟨w.heap.size,5,none⟩=some (.int .i64 c5)):=fun V hV=>Tr.jB4 ((hV.block _ (jAv k0)).trans k0)
 obtain ⟨x0,x1,x2,x3,x4,x5⟩:=Tr.jB4 k0
 have HB:Hid (Below w.heap.size w W):=hb
 have hst:=HST.out W (Qq _ _)
 clear hc hT k0 hb
 go_enter func5,ntmps5
 go_wp2_with fail
 refine hst.mono ?_
 rintro e y ⟨rfl,hy⟩
 have hst2:=HST.out y hy
 clear x0 x1 x2 x3 x4 x5 hst
 obtain ⟨x0,x1,x2,x3,x4,x5⟩:=HC.out y hy
 have HY:Hid _:=hy
 clear hy
 go_wp2_with fail
 refine hst2.mono ?_
 rintro e z ⟨rfl,hz⟩
 have HZ:Hid (Below w.heap.size w z):=by
  have h1:=HB.out.trans (HY.out.mono HB.out.size)
  exact h1.trans (hz.mono h1.size)
 clear x0 x1 x2 x3 x4 x5 hst2 hz HST HC
 go_wp2
 go_ret
 exact ⟨rfl,HZ.out⟩
theorem planBlind_walk (w:World)(hT:Ix.RT w)(c:Ix.Cf)(a1:Option Addr)(n1 bc1:Nat)(B1:List (List Tr.Op))(hB1:IsB w a1 n1 B1)(hn1:n1<=9223372036854775807)(a2:Option Addr)(n2 bc2:Nat)(B2:List (List Tr.Op))(hB2:IsB w a2 n2 B2)(hn2:n2<=9223372036854775807):Calls prog 5 #[Ix.cfV c,.slice a1 n1 bc1,.slice a2 n2 bc2] w fun e w'=>e=.returned (.bool true)/\Below w.heap.size w w':=by
 by_cases hc:c.May
 ·obtain ⟨cn,hcn,rfl⟩:=hc.cn
  obtain ⟨W,hW,hb,k0⟩:=jA4 w (cfA cn) 23
  have HST:Hid (∀V,Below W.heap.size W V->Calls prog 7 #[.agg (cfA cn)] V fun e w'=>∃r,e=.returned (.tuple #[.pointer (some ⟨r,0,none⟩),.bool true])/\Hid (Rn V w' cn r (Tr.newT cn.fl cn.dr cn.mf) (newP cn.fl cn.sl) (.slice none 0 0) (.slice none 0 0) (.slice none 0 0) (.slice none 0 0))):=fun V hV=>start_yes V ((hT.next hb).next hV) cn hcn
  rw[show Ix.cfV cn.cf=.agg (cfA cn) from rfl]
  have HC:Hid (∀V,Below W.heap.size W V->V.cell? ⟨w.heap.size,0,none⟩=some (.int .i64 (cn.sl:Int))/\V.cell? ⟨w.heap.size,1,none⟩=some (.int .i64 (cn.fl:Int))/\V.cell? ⟨w.heap.size,2,none⟩=some (.int .i64 (cn.dr:Int))/\V.cell? ⟨w.heap.size,3,none⟩=some (.int .i64 (cn.mf:Int))/\V.cell? ⟨w.heap.size,4,none⟩=some (.int .i64 (cn.ls:Int))/\V.cell? ⟨w.heap.size,5,none⟩=some (.int .i64 (cn.pg:Int))):=fun V hV=>Tr.jB4 ((hV.block _ (jAv k0)).trans k0)
  have HBW:Hid (∀V,Below W.heap.size W V->Below w.heap.size w V):=fun V hV=>hb.trans (hV.mono hb.size)
  have HIW:Hid (∀(a:Option Addr) (n:Nat) (B:List (List Tr.Op)),IsB w a n B->∀k,k<n->∃O pb po oa on oc,a=some ⟨pb,po,none⟩/\on*72<=140737488355328/\∀V,Below W.heap.size W V->V.cell? ⟨pb,po+k,none⟩=some (.slice oa on oc)/\Tr.IsO V oa on O):=fun a n B hB k hk=>by
   obtain ⟨O,hO⟩:∃O,B[k]?=some O:=⟨_,Qv (by rw[hB.hl];exact hk)⟩
   obtain ⟨pb,po,e,hp,oa,on,oc,hc,hI,hn⟩:=hB.at_ k O hO
   exact ⟨O,pb,po,oa,on,oc,e,hn,fun V hV=>⟨((hb.trans (hV.mono hb.size)).cell hp).trans hc,hI.below (hb.trans (hV.mono hb.size))⟩⟩
  have HI1:=HIW.out a1 n1 B1 hB1
  have HI2:=HIW.out a2 n2 B2 hB2
  have H1:Hid _:=HI1
  have H2:Hid _:=HI2
  have HDW:Hid (∀x r r' a n oc O,Pw W x cn r r'->Tr.IsO x a n O->n*72<=140737488355328->Calls prog 8 #[.pointer (some ⟨r,0,none⟩),.slice a n oc] x fun e y=>e=.returned (.bool true)/\Hid (Pw W y cn r r')):=fun x r r' a n oc O h1 h2 h3=>does_w hcn h1 a n oc O h2 h3
  have HDA:Hid (∀x r r' a n oc O,Pr W x cn r r'->Tr.IsO x a n O->n*72<=140737488355328->n<=cn.sl->Calls prog 8 #[.pointer (some ⟨r,0,none⟩),.slice a n oc] x fun e y=>e=.returned (.bool true)/\Hid (Pm W y cn r r')):=fun x r r' a n oc O h1 h2 h3 h4=>does_a hcn h1 a n oc O h2 h3 h4
  have HDB:Hid (∀x r r' a n oc O,Pm W x cn r r'->Tr.IsO x a n O->n*72<=140737488355328->n<=cn.sl->Calls prog 8 #[.pointer (some ⟨r',0,none⟩),.slice a n oc] x fun e y=>e=.returned (.bool true)/\Hid (Pf W y cn r r')):=fun x r r' a n oc O h1 h2 h3 h4=>does_b hcn h1 a n oc O h2 h3 h4
  have HBO:Hid (∀y r r',Pf W y cn r r'->∃gs cs ta n ct go co qa cq gs' cs' ta' n' ct' go' co' qa' cq' pl pl' ql ql' za zb ka kb,Both W y cn r r' gs cs ta n ct go co qa cq gs' cs' ta' n' ct' go' co' qa' cq' pl pl' ql ql' za zb ka kb):=fun y r r' h=>both_of hcn h
  have HSE:Hid (∀s:Nat,s<=65536->∀V,Calls prog 12 #[.int .i64 (s:Int),.int .i64 (cn.ls:Int)] V fun e w'=>e=.returned (.tuple #[.int .i64 (Fr.sizY (s:Int) cn.ls:Nat),.int .i64 0])/\w'=V):=fun s hs V=>by
   have:=Fr.size_any (s:Int) (cn.ls:Int) V
   have e:Fr.sizE (s:Int) (cn.ls:Int)=0:=by
    have:=hcn.1.2.2.2.2.2.2.2.1
    unfold Fr.sizE
    rw[if_neg (by omega),if_neg (by omega)]
   rwa [e] at this
  have HSA:Hid (∀s:Int,∃p e:Int,∀V,Calls prog 12 #[.int .i64 s,.int .i64 (cn.ls:Int)] V fun x w'=>x=.returned (.tuple #[.int .i64 p,.int .i64 e])/\w'=V):=fun s=>⟨_,_,fun V=>Fr.size_any s (cn.ls:Int) V⟩
  have HN:Hid _:=jIj
  have HK:Hid (1<=cn.sl/\cn.sl<=64):=⟨hcn.1.1,hcn.1.2.1⟩
  have HRT:Hid (Ix.RT W):=hT.next hb
  obtain ⟨x0,x1,x2,x3,x4,x5⟩:=Tr.jB4 k0
  have hst:=HST.out W (Qq _ _)
  unfold cfA at *
  clear hcn hc hB1 hB2 hb k0 hT HI1 HI2 HIW
  go_enter func5,ntmps5
  go_wp2_with fail
  refine hst.mono ?_
  rintro e W1 ⟨ra,rfl,HR1⟩
  have hb1:=HR1.out.be
  have hst2:=HST.out W1 hb1
  clear x0 x1 x2 x3 x4 x5 hst
  obtain ⟨x0,x1,x2,x3,x4,x5⟩:=HC.out W1 hb1
  clear hb1
  go_wp2_with fail
  refine hst2.mono ?_
  rintro e W2 ⟨rb,rfl,HR2⟩
  have HPR:Hid (Pr W W2 cn ra rb):=⟨_,_,_,_,_,_,_,_,_,_,_,_,HR1.out.below HR2.out.be,HR2.out.base HR1.out.be HRT.out,by have:=HR1.out.lt;have:=HR2.out.rb;omega,rfl⟩
  clear x0 x1 x2 x3 x4 x5 hst2 HR1 HR2 HST HRT
  go_wp2_with fail
  go_loopg [11] n1 (fun gk iv wr=>∃k:Nat,gk=n1-k/\k<=n1/\k<=n2/\iv=.int .i64 (k:Int)/\Hid (Pr W wr cn ra rb))
  case atStart=>exact ⟨0,by omega,by omega,by omega,rfl,HPR⟩
  case round =>
   clear HPR
   obtain ⟨k,hgk,hkn,hkn2,rfl,HPR⟩:=hrel
   by_cases hk:k<n1
   ·have hkI:(k:Int)<(n1:Int):=by omega
    by_cases hk2:k<n2
    ·have hkI2:(k:Int)<(n2:Int):=by omega
     have w1:IntKind.i64.wrap ((k:Int)+1)=((k+1:Nat):Int):=by rw[QX];omega
     obtain ⟨O1,p1,o1,s1,m1,c1,rfl,hm1,hi1⟩:=H1.out k hk
     obtain ⟨O2,p2,o2,s2,m2,c2,rfl,hm2,hi2⟩:=H2.out k hk2
     have HI:Hid (∀V,Below W.heap.size W V->(V.cell? ⟨p1,o1+k,none⟩=some (.slice s1 m1 c1)/\V.cell? ⟨p2,o2+k,none⟩=some (.slice s2 m2 c2)/\V.cell? ⟨w.heap.size,0,none⟩=some (.int .i64 (cn.sl:Int)))/\Tr.IsO V s1 m1 O1/\Tr.IsO V s2 m2 O2):=fun V hV=>⟨⟨(hi1 V hV).1,(hi2 V hV).1,(HC.out V hV).1⟩,(hi1 V hV).2,(hi2 V hV).2⟩
     have HM:Hid (m1*72<=140737488355328/\m2*72<=140737488355328):=⟨hm1,hm2⟩
     obtain ⟨⟨cb1,cb2,hca⟩,-,-⟩:=HI.out wr HPR.out.pw.be
     have HYB:Hid (∀j,Below W.heap.size W (wr.drewN j)/\Pr W (wr.drewN j) cn ra rb):=fun j=>⟨Tr.bdr HPR.out.pw.be j,HPR.out.below (Tr.bdr (Qq _ _) j)⟩
     clear hi1 hi2 H1 H2
     by_cases hle:m1<=cn.sl/\m2<=cn.sl
     ·obtain ⟨hle1,hle2⟩:=hle
      have e1:¬(cn.sl:Int)<(m1:Int):=by omega
      have e2:¬(cn.sl:Int)<(m2:Int):=by omega
      have e3:decide (cn.sl<m1)=false:=by simp;omega
      have e4:decide (cn.sl<m2)=false:=by simp;omega
      clear hm1 hm2 HPR HDW
      go_wp2_with fail
      go_quiet (fail)
      go_wp2_with fail
      refine (HDA.out _ ra rb s1 m1 c1 O1 (HYB.out _).2 (HI.out _ (HYB.out _).1).2.1 HM.out.1 hle1).mono ?_
      rintro e y1 ⟨rfl,HM1⟩
      clear cb1 cb2 hca HYB
      obtain ⟨⟨cb1,cb2,hca⟩,-,hI2⟩:=HI.out y1 HM1.out.be
      have hdb:=HDB.out y1 ra rb s2 m2 c2 O2 HM1.out hI2 HM.out.2 hle2
      clear hI2
      go_wp2_with fail
      refine hdb.mono ?_
      rintro e y ⟨rfl,HF⟩
      obtain ⟨gs,cs,ta,n,ct,go,co,qa,cq,gs',cs',ta',n',ct',go',co',qa',cq',pl,pl',ql,ql',za,zb,ka,kb,b1,b2,b3,b4,b5,b6,b7,b8,b9⟩:=HBO.out y ra rb HF.out
      have A1:Hid _:=b1
      have A2:Hid _:=b2
      have A3:Hid _:=b3
      have A4:Hid _:=b4
      have A5:Hid _:=b5
      have A6:Hid _:=b6
      have A8:Hid _:=b8
      have A9:Hid _:=b9
      have HCY:Hid (∀V,Below y.heap.size y V->V.cell? ⟨w.heap.size,0,none⟩=some (.int .i64 (cn.sl:Int))/\V.cell? ⟨w.heap.size,4,none⟩=some (.int .i64 (cn.ls:Int))):=fun V hV=>by
       have:=HC.out V (b8.trans (hV.mono b8.size))
       exact ⟨this.1,this.2.2.2.2.1⟩
      have B0:Hid (∀V j,Below y.heap.size y V->Below y.heap.size y (V.drewN j)):=fun V j hV=>Tr.bdr hV j
      obtain ⟨hK1,hK2⟩:=HK.out
      clear b1 b2 b3 b4 b5 b6 b8 b9 cb1 cb2 hca hdb HM1 HDA HDB HBO HF
      go_upto_block 2 with fail
      go_cut [12] (fun _ wx=>Hid (∀i,i<cn.sl->ka i=kb i)/\Hid (Below y.heap.size y wx))
      case first =>
       as_aux_lemma =>
       go_wp2_with fail
       go_loopg [12] cn.sl (fun gk jv wx=>∃j:Nat,gk=cn.sl-j/\j<=cn.sl/\jv=.int .i64 (j:Int)/\Hid (∀i,i<j->ka i=kb i)/\Below y.heap.size y wx)
       case atStart=>exact ⟨0,by omega,by omega,rfl,fun i hi=>absurd hi (by omega),Qq _ _⟩
       case round =>
        obtain ⟨j,hgj,hjn,rfl,HS,hbe⟩:=hrel
        obtain ⟨hca,hc4⟩:=HCY.out _ hbe
        by_cases hj:j<cn.sl
        ·have hjI:(j:Int)<(cn.sl:Int):=by omega
         have w2:IntKind.i64.wrap ((j:Int)+1)=((j+1:Nat):Int):=by rw[QX];omega
         have hj64:j<=64:=by omega
         have HX:Hid (∀i,Below y.heap.size y (wr.drewN i)):=fun i=>B0.out _ i hbe
         have HCC:Hid (∀V,Below y.heap.size y V->V.cell? ⟨ra,9,none⟩=some (.slice ta n ct)/\V.cell? ⟨rb,9,none⟩=some (.slice ta' n' ct')):=fun V hV=>⟨(A1.out V hV).2.1,(A2.out V hV).2.1⟩
         obtain ⟨a1,a2,hka⟩:∃a1 a2,ka j=(a1,a2):=⟨_,_,rfl⟩
         obtain ⟨b1,b2,hkb⟩:∃b1 b2,kb j=(b1,b2):=⟨_,_,rfl⟩
         have HA:Hid (∀V,Below y.heap.size y V->Calls prog 11 #[.slice ta n ct,.int .i64 (j:Int)] V fun e w'=>e=.returned (.agg #[.int .i64 a1,.int .i64 a2])/\Below V.heap.size V w'):=fun V hV=>by
          have:=A3.out V j hV hj64
          rw[hka] at this
          exact this
         have HB:Hid (∀V,Below y.heap.size y V->Calls prog 11 #[.slice ta' n' ct',.int .i64 (j:Int)] V fun e w'=>e=.returned (.agg #[.int .i64 b1,.int .i64 b2])/\Below V.heap.size V w'):=fun V hV=>by
          have:=A4.out V j hV hj64
          rw[hkb] at this
          exact this
         by_cases he:a1=b1/\a2=b2
         ·obtain ⟨rfl,rfl⟩:=he
          have HS2:Hid (∀i,i<j+1->ka i=kb i):=fun i hi=>by
           by_cases e:i=j
           ·rw[e,hka,hkb]
           ·exact HS.out i (by omega)
          clear hbe hka hkb HS
          go_wp2_with fail
          clear hca hc4
          go_region_held_law (fun V=>V.cell? ⟨ra,9,none⟩=some (.slice ta n ct)/\V.cell? ⟨rb,9,none⟩=some (.slice ta' n' ct')) (first | exact HCC.out _ (HX.out _) | exact HCC.out _ hbz2 | exact HCC.out _ hbz1 | go_keep) (first
           | (go_at_call 11;refine (HB.out _ hbz1).mono ?_;rintro e z2 ⟨rfl,hz2⟩;have hbz2:Below y.heap.size y z2:=hbz1.trans (hz2.mono hbz1.size))
           | (go_at_call 11;refine (HA.out _ (HX.out _)).mono ?_;rintro e z1 ⟨rfl,hz1⟩;have hbz1:Below y.heap.size y z1:=(HX.out _).trans (hz1.mono (HX.out _).size)))
          have HZ2:Hid _:=hbz2
          clear hbz2 hbz1 hz1 hz2
          go_wp2
          go_roundg (cn.sl-(j+1))
          case measure=>omega
          case rel=>exact ⟨j+1,rfl,by omega,rfl,HS2,HZ2.out⟩
         ·by_cases h1:a1=b1
          ·subst h1
           have h2:¬a2=b2:=fun h=>he ⟨rfl,h⟩
           have h2':(a2 == b2)=false:=beq_false_of_ne h2
           clear hbe hka hkb HS
           go_wp2_with fail
           clear hca hc4
           go_region_held_law (fun V=>V.cell? ⟨ra,9,none⟩=some (.slice ta n ct)/\V.cell? ⟨rb,9,none⟩=some (.slice ta' n' ct')) (first | exact HCC.out _ (HX.out _) | exact HCC.out _ hbz2 | exact HCC.out _ hbz1 | go_keep) (first
            | (go_at_call 11;refine (HB.out _ hbz1).mono ?_;rintro e z2 ⟨rfl,hz2⟩;have hbz2:Below y.heap.size y z2:=hbz1.trans (hz2.mono hbz1.size))
            | (go_at_call 11;refine (HA.out _ (HX.out _)).mono ?_;rintro e z1 ⟨rfl,hz1⟩;have hbz1:Below y.heap.size y z1:=(HX.out _).trans (hz1.mono (HX.out _).size)))
           have HZ2:Hid _:=hbz2
           clear hbz2 hbz1 hz1 hz2
           go_wp2
           go_ret
           exact ⟨rfl,HBW.out _ (A8.out.trans (HZ2.out.mono A8.out.size))⟩
          ·have h1':(a1 == b1)=false:=beq_false_of_ne h1
           clear hbe hka hkb HS
           go_wp2_with fail
           clear hca hc4
           go_region_held_law (fun V=>V.cell? ⟨ra,9,none⟩=some (.slice ta n ct)/\V.cell? ⟨rb,9,none⟩=some (.slice ta' n' ct')) (first | exact HCC.out _ (HX.out _) | exact HCC.out _ hbz2 | exact HCC.out _ hbz1 | go_keep) (first
            | (go_at_call 11;refine (HB.out _ hbz1).mono ?_;rintro e z2 ⟨rfl,hz2⟩;have hbz2:Below y.heap.size y z2:=hbz1.trans (hz2.mono hbz1.size))
            | (go_at_call 11;refine (HA.out _ (HX.out _)).mono ?_;rintro e z1 ⟨rfl,hz1⟩;have hbz1:Below y.heap.size y z1:=(HX.out _).trans (hz1.mono (HX.out _).size)))
           have HZ2:Hid _:=hbz2
           clear hbz2 hbz1 hz1 hz2
           go_wp2
           go_ret
           exact ⟨rfl,HBW.out _ (A8.out.trans (HZ2.out.mono A8.out.size))⟩
        ·have hjI:¬(j:Int)<(cn.sl:Int):=by omega
         have HS2:Hid (∀i,i<cn.sl->ka i=kb i):=fun i hi=>HS.out i (by omega)
         have HBX:Hid _:=hbe
         clear hbe HS
         go_wp2
         go_meet
         exact ⟨HS2,HBX⟩
      case rest =>
      obtain ⟨HKK,HBX⟩:=hcut
      obtain ⟨B1,rfl,B3,B4,B5⟩:=A9.out HKK.out
      have HB1:Hid _:=B1
      have HB3:Hid _:=B3
      have HB4:Hid _:=B4
      have HB5:Hid _:=B5
      clear B1 B3 B4 B5 A9 A3 A4 HKK
      go_upto_block 4 with fail
      go_cut [13,14,15,16,17,18,19] (fun _ _ _ _ _ _ _ wx=>Hid (Below y.heap.size y wx))
      case first =>
       as_aux_lemma =>
       clear HB3 HB4 HB5
       go_wp2_with fail
       go_loopg [13] cn.sl (fun gk jv wx=>∃i:Nat,gk=cn.sl-i/\i<=cn.sl/\jv=.int .i64 (i:Int)/\Below y.heap.size y wx)
       case atStart=>exact ⟨0,by omega,by omega,rfl,HBX.out⟩
       case round =>
        obtain ⟨i,hgi,hin,rfl,hbi⟩:=hrel
        obtain ⟨hca,hc4⟩:=HCY.out _ hbi
        by_cases hi:i<cn.sl
        ·have hiI:(i:Int)<(cn.sl:Int):=by omega
         have w2:IntKind.i64.wrap ((i:Int)+1)=((i+1:Nat):Int):=by rw[QX];omega
         obtain ⟨ob,wv,fv,ba,bb,⟨sa,sb,sc⟩⟩:=HB1.out i hi
         obtain ⟨U1,hU1,hbU1,kU1⟩:=jA4 wr #[.int .i64 (ob:Int),.int .i64 wv,.int .i64 fv,.int .i64 ba] 53
         obtain ⟨U2,hU2,hbU2,kU2⟩:=jA4 U1 #[.int .i64 (ob:Int),.int .i64 wv,.int .i64 fv,.int .i64 bb] 53
         have hy1:Below y.heap.size y U1:=hbi.trans (hbU1.mono hbi.size)
         have hy2:Below y.heap.size y U2:=hy1.trans (hbU2.mono hy1.size)
         have k1':=(hbU2.block _ (jAv kU1)).trans kU1
         have HCU:Hid (∀V,Below U2.heap.size U2 V->(V.cell? ⟨wr.heap.size,2,none⟩=some (.int .i64 fv)/\V.cell? ⟨w.heap.size,4,none⟩=some (.int .i64 (cn.ls:Int)))/\V.cell? ⟨wr.heap.size,3,none⟩=some (.int .i64 ba)/\V.cell? ⟨U1.heap.size,3,none⟩=some (.int .i64 bb)):=fun V hV=>by
          have a1:=(hV.block _ (jAv k1')).trans k1'
          have a2:=(hV.block _ (jAv kU2)).trans kU2
          exact ⟨⟨(jAj a1).trans rfl,(HCY.out V (hy2.trans (hV.mono hy2.size))).2⟩,(jAj a1).trans rfl,(jAj a2).trans rfl⟩
         have HYU:Hid (∀V,Below U2.heap.size U2 V->Below y.heap.size y V):=fun V hV=>hy2.trans (hV.mono hy2.size)
         obtain ⟨x8,-⟩:=A1.out wr hbi
         obtain ⟨s0,s1',s2',s3⟩:=sa wr hbi
         obtain ⟨y8,-⟩:=A2.out U1 hy1
         obtain ⟨t0,t1,t2,t3⟩:=sb U1 hy1
         have f0:U2.cell? ⟨wr.heap.size,0,none⟩=some (.int .i64 (ob:Int)):=(jAj k1').trans rfl
         have f1:U2.cell? ⟨wr.heap.size,1,none⟩=some (.int .i64 wv):=(jAj k1').trans rfl
         have f2:U2.cell? ⟨wr.heap.size,2,none⟩=some (.int .i64 fv):=(jAj k1').trans rfl
         have f3:U2.cell? ⟨wr.heap.size,3,none⟩=some (.int .i64 ba):=(jAj k1').trans rfl
         have q0:U2.cell? ⟨U1.heap.size,0,none⟩=some (.int .i64 (ob:Int)):=(jAj kU2).trans rfl
         have q1:U2.cell? ⟨U1.heap.size,1,none⟩=some (.int .i64 wv):=(jAj kU2).trans rfl
         have q2:U2.cell? ⟨U1.heap.size,2,none⟩=some (.int .i64 fv):=(jAj kU2).trans rfl
         have q3:U2.cell? ⟨U1.heap.size,3,none⟩=some (.int .i64 bb):=(jAj kU2).trans rfl
         obtain ⟨P1,E1,P2,E2,HF1,HF2,hcase⟩:∃P1 E1 P2 E2:Int,Hid (∀V,Calls prog 12 #[.int .i64 (za fv),.int .i64 (cn.ls:Int)] V fun x w'=>x=.returned (.tuple #[.int .i64 P1,.int .i64 E1])/\w'=V)/\Hid (∀V,Calls prog 12 #[.int .i64 (zb fv),.int .i64 (cn.ls:Int)] V fun x w'=>x=.returned (.tuple #[.int .i64 P2,.int .i64 E2])/\w'=V)/\((fv<0/\bb=ba)\/(0<=fv/\E1=0/\E2=0/\P1=ba/\P2=bb)):=by
          rcases sc with ⟨h1,h2⟩ | ⟨h0,s,s',e1,e2,l1,l2,h3,h4⟩
          ·obtain ⟨p,e,h5⟩:=HSA.out (za fv)
           obtain ⟨p',e',h6⟩:=HSA.out (zb fv)
           exact ⟨p,e,p',e',h5,h6,.inl ⟨h1,h2.symm⟩⟩
          ·refine ⟨ba,0,bb,0,?_,?_,.inr ⟨h0,rfl,rfl,rfl,rfl⟩⟩
           ·rw[e1,h3]
            exact HSE.out s l1
           ·rw[e2,h4]
            exact HSE.out s' l2
         have HU:Hid (Below U2.heap.size U2 U2.drew):=Tr.bdr (Qq _ _) 1
         clear hbi sa sb sc hbU1 hbU2 kU1 kU2 k1' hy1 hy2
         go_upto_region 24 with fail
         clear hU1 hU2
         go_upto_region 26 with fail
         go_cut [180] (fun v wx=>v=.bool false/\wx=U2)
         case first =>
          rcases hcase with ⟨hf,hbb⟩ | ⟨hf,-⟩
          ·have hf3:decide (fv<0)=true:=QQ hf
           subst hbb
           go_wp2
           go_meet
           exact ⟨by simp,rfl⟩
          ·have hf1:¬fv<0:=by omega
           have hf3:decide (fv<0)=false:=QY hf1
           go_wp2
           go_meet
           exact ⟨by simp,rfl⟩
         case rest =>
         obtain ⟨rfl,rfl⟩:=hcut
         go_upto_region 28 with fail
         clear f0 f1 f2 f3 q0 q1 q2 q3 x8 y8 s0 s1' s2' s3 t0 t1 t2 t3
         go_region_held_law (fun V=>V.cell? ⟨wr.heap.size,2,none⟩=some (.int .i64 fv)/\V.cell? ⟨w.heap.size,4,none⟩=some (.int .i64 (cn.ls:Int))) (first | with_reducible exact (HCU.out _ hz1).1 | with_reducible exact (HCU.out _ HU.out).1 | go_keep) (first
          | (go_at_call 13;refine (A5.out _ fv (HYU.out _ HU.out)).mono ?_;rintro e z1 ⟨rfl,gz1⟩;have hz1:Below wc.heap.size wc z1:=HU.out.trans (gz1.mono HU.out.size))
          | (go_at_call 12;refine (HF1.out _).mono ?_;rintro e zq ⟨rfl,hzq⟩;subst zq))
         have HZ1:Hid (Below wc.heap.size wc z1.drew):=Tr.bdr hz1 1
         clear gz1 hz1
         go_upto_region 29 with fail
         go_region_held_law (fun V=>V.cell? ⟨wr.heap.size,2,none⟩=some (.int .i64 fv)/\V.cell? ⟨w.heap.size,4,none⟩=some (.int .i64 (cn.ls:Int))) (first | with_reducible exact (HCU.out _ hz2).1 | with_reducible exact (HCU.out _ HZ1.out).1 | go_keep) (first
          | (go_at_call 13;refine (A6.out _ fv (HYU.out _ HZ1.out)).mono ?_;rintro e z2 ⟨rfl,gz2⟩;have hz2:Below wc.heap.size wc z2:=HZ1.out.trans (gz2.mono HZ1.out.size))
          | (go_at_call 12;refine (HF2.out _).mono ?_;rintro e zq ⟨rfl,hzq⟩;subst zq))
         have HZ2:Hid (∀j,Below wc.heap.size wc (z2.drewN j)):=fun j=>Tr.bdr hz2 j
         obtain ⟨⟨f2,c4⟩,f3,q3⟩:=HCU.out _ hz2
         clear gz2 hz2
         go_upto_region 30 with fail
         rcases hcase with ⟨hf,-⟩ | ⟨hf,rfl,rfl,rfl,rfl⟩
         ·have hf1:¬0<=fv:=by omega
          have hf2:decide (0<=fv)=false:=QY hf1
          go_wp2
          go_roundg (cn.sl-(i+1))
          case measure=>omega
          case rel=>exact ⟨i+1,rfl,by omega,rfl,HYU.out _ (HZ2.out 0)⟩
         ·have hf2:decide (0<=fv)=true:=QQ hf
          by_cases hpq:P1=P2
          ·subst hpq
           go_wp2_with fail
           refine (HN.out _ _).mono ?_
           rintro e zq ⟨rfl,hzq⟩
           subst zq
           go_wp2_with fail
           refine (HN.out _ _).mono ?_
           rintro e zq ⟨rfl,hzq⟩
           subst zq
           go_wp2
           go_roundg (cn.sl-(i+1))
           case measure=>omega
           case rel=>exact ⟨i+1,rfl,by omega,rfl,HYU.out _ (HZ2.out 0)⟩
          ·have hpq':(P1 == P2)=false:=beq_false_of_ne hpq
           go_wp2_with fail
           refine (HN.out _ _).mono ?_
           rintro e zq ⟨rfl,hzq⟩
           subst zq
           go_wp2_with fail
           refine (HN.out _ _).mono ?_
           rintro e zq ⟨rfl,hzq⟩
           subst zq
           go_wp2
           go_roundg (cn.sl-(i+1))
           case measure=>omega
           case rel=>exact ⟨i+1,rfl,by omega,rfl,HYU.out _ (HZ2.out 0)⟩
        ·have hiI:¬(i:Int)<(cn.sl:Int):=by omega
         have HBI:Hid _:=hbi
         clear hbi
         go_wp2
         go_meet
         exact HBI
      case rest =>
      have HBC:Hid (Below y.heap.size y wc):=hcut
      clear hcut HB1
      go_upto_block 6 with fail
      go_cut [20] (fun _ wx=>Hid (Below y.heap.size y wx))
      case first =>
       as_aux_lemma =>
       clear HB4 HB5
       go_wp2_with fail
       go_loopg [20] pl' (fun gk jv wx=>∃i:Nat,gk=pl'-i/\i<=pl'/\jv=.int .i64 (i:Int)/\Below y.heap.size y wx)
       case atStart=>exact ⟨0,by omega,by omega,rfl,HBC.out⟩
       case round =>
        obtain ⟨i,hgi,hin,rfl,hbi⟩:=hrel
        obtain ⟨-,-,x12,-⟩:=A1.out _ hbi
        obtain ⟨-,-,y12,-⟩:=A2.out _ hbi
        by_cases hi:i<pl'
        ·have hiI:(i:Int)<(pl':Int):=by omega
         have w2:IntKind.i64.wrap ((i:Int)+1)=((i+1:Nat):Int):=by rw[QX];omega
         obtain ⟨o,ho⟩:=HB3.out i hi
         obtain ⟨g1,g2⟩:=ho _ hbi
         have HX:Hid (∀j,Below y.heap.size y (wr.drewN j)):=fun j=>B0.out _ j hbi
         clear hbi ho
         go_wp2_with fail
         go_quiet (fail)
         go_wp2
         go_roundg (pl'-(i+1))
         case measure=>omega
         case rel=>exact ⟨i+1,rfl,by omega,rfl,HX.out _⟩
        ·have hiI:¬(i:Int)<(pl':Int):=by omega
         have HBI:Hid _:=hbi
         clear hbi
         go_wp2
         go_meet
         exact HBI
      case rest =>
      have HBD:Hid (Below y.heap.size y wc.drew):=B0.out _ 1 hcut.out
      have HBD0:Hid (Below y.heap.size y wc):=hcut
      have HCD:Hid (∀V,Below y.heap.size y V->V.cell? ⟨ra,13,none⟩=some (.slice qa ql cq)/\V.cell? ⟨rb,13,none⟩=some (.slice qa' ql' cq')):=fun V hV=>⟨(A1.out V hV).2.2.2,(A2.out V hV).2.2.2⟩
      clear hcut HB3 HBC HBX A5 A6 HCY
      go_upto_region 37 with fail
      go_region_held_law (fun V=>V.cell? ⟨ra,13,none⟩=some (.slice qa ql cq)/\V.cell? ⟨rb,13,none⟩=some (.slice qa' ql' cq')) (first | with_reducible exact HCD.out _ hz1 | with_reducible exact HCD.out _ HBD.out | go_keep) (first
       | (go_at_call 15;refine (HB4.out _ HBD.out).mono ?_;rintro e z1 ⟨rfl,gz1⟩;have hz1:Below y.heap.size y z1:=HBD.out.trans (gz1.mono HBD.out.size)))
      have HPZ:Hid (Pr W z1 cn ra rb):=HB5.out _ hz1
      clear gz1 hz1 HBD HBD0 HCD HB4 HB5
      go_wp2
      go_roundg (n1-(k+1))
      case measure=>omega
      case rel=>exact ⟨k+1,rfl,by omega,by omega,rfl,HPZ⟩
     ·as_aux_lemma =>
      have HX:Hid (∀V,Below W.heap.size W V->(V.cell? ⟨p1,o1+k,none⟩=some (.slice s1 m1 c1)/\V.cell? ⟨p2,o2+k,none⟩=some (.slice s2 m2 c2))/\Tr.IsO V s1 m1 O1/\Tr.IsO V s2 m2 O2):=fun V hV=>⟨⟨(HI.out V hV).1.1,(HI.out V hV).1.2.1⟩,(HI.out V hV).2⟩
      clear HDA HDB HBO HPR
      by_cases hle1:m1<=cn.sl
      ·have hle2:¬m2<=cn.sl:=fun h=>hle ⟨hle1,h⟩
       have e1:¬(cn.sl:Int)<(m1:Int):=by omega
       have e2:(cn.sl:Int)<(m2:Int):=by omega
       have e3:decide (cn.sl<m1)=false:=by simp;omega
       have e4:decide (cn.sl<m2)=true:=by simp;omega
       clear hm1 hm2
       go_wp2_with fail
       go_quiet (fail)
       go_wp2_with fail
       refine (HDW.out _ ra rb s1 m1 c1 O1 (HYB.out _).2.pw (HX.out _ (HYB.out _).1).2.1 HM.out.1).mono ?_
       rintro e y1 ⟨rfl,HP1⟩
       clear cb1 cb2 hca HYB
       obtain ⟨⟨cb1,cb2⟩,-,hI2⟩:=HX.out y1 HP1.out.be
       have hdb:=HDW.out y1 rb ra s2 m2 c2 O2 HP1.out.swap hI2 HM.out.2
       clear hI2
       go_wp2_with fail
       refine hdb.mono ?_
       rintro e y2 ⟨rfl,HP2⟩
       go_wp2
       go_ret
       exact ⟨rfl,HBW.out _ HP2.out.be⟩
      ·have e1:(cn.sl:Int)<(m1:Int):=by omega
       have e3:decide (cn.sl<m1)=true:=by simp;omega
       clear hm1 hm2
       go_wp2_with fail
       go_quiet (fail)
       go_wp2_with fail
       refine (HDW.out _ ra rb s1 m1 c1 O1 (HYB.out _).2.pw (HX.out _ (HYB.out _).1).2.1 HM.out.1).mono ?_
       rintro e y1 ⟨rfl,HP1⟩
       clear cb1 cb2 hca HYB
       obtain ⟨⟨cb1,cb2⟩,-,hI2⟩:=HX.out y1 HP1.out.be
       have hdb:=HDW.out y1 rb ra s2 m2 c2 O2 HP1.out.swap hI2 HM.out.2
       clear hI2
       go_wp2_with fail
       refine hdb.mono ?_
       rintro e y2 ⟨rfl,HP2⟩
       go_wp2
       go_ret
       exact ⟨rfl,HBW.out _ HP2.out.be⟩
    ·have hkI2:¬(k:Int)<(n2:Int):=by omega
     go_wp2
     go_ret
     exact ⟨rfl,HBW.out _ HPR.out.pw.be⟩
   ·have hkI:¬(k:Int)<(n1:Int):=by omega
    go_wp2
    go_ret
    exact ⟨rfl,HBW.out _ HPR.out.pw.be⟩
 ·exact planBlind_no w hT c hc a1 n1 bc1 a2 n2 bc2
