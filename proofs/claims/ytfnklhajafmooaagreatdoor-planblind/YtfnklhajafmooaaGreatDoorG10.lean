import Derived.Test.YtfnklhajafmooaaGreatDoorG02
import Derived.Laws.RangeAny
import Derived.Lib.OthersKept
import Derived.Shelf.LaysM
import Derived.Shelf.Strings.OnBuilder
import Derived.Shelf.Strings.Split
import Derived.Shelf.Strings.Prefix
import Derived.Shelf.Slices.Equal
import Derived.Shelf.Slices.Turned
import Derived.Shelf.Strconv.Clone
import Derived.Deep.RegionHeldLaw
set_option maxHeartbeats 1000000
set_option maxRecDepth 20000
namespace Go.Proofs.YtfnklhajafmooaaGreatDoor.Pa
open Go.RowKit Go.Lib Go.Proofs.Tryz
theorem jL1 (s:ByteArray)(i:Nat)(h:i<s.size)(c:UInt8)(hc:s.data.toList[i]?=some c):s[i]'h=c:=by
 have h2:=(QV.1 hc).2
 rw[<-h2]
 simp[ByteArray.getElem_eq_getElem_data]
theorem decode_at (s:ByteArray)(pos:Nat)(h:pos<s.size)(c:UInt8)(hc:s.data.toList[pos]?=some c)(hn:c.toNat<128):Utf8.decode s pos=(c.toNat,1):=by
 have hce:=jL1 s pos h c hc
 have hd:=decode_ascii s pos h (by rw[hce];exact hn)
 rw[hce] at hd
 exact hd
theorem decode_up (s:ByteArray)(pos:Nat)(h:pos<s.size)(c:UInt8)(hc:s.data.toList[pos]?=some c)(hn:¬c.toNat<128):128<=(Utf8.decode s pos).1:=by
 have hce:=jL1 s pos h c hc
 exact (decode_high s pos h (by rw[hce];omega)).1
theorem nb_iff (c:UInt8):nb c=true↔33<=c.toNat/\c.toNat<=126/\c.toNat≠47:=by
 simp only[nb,Bool.and_eq_true,decide_eq_true_eq]
 exact ⟨fun h=>⟨h.1.1,h.1.2,h.2⟩,fun h=>⟨⟨h.1,h.2.1⟩,h.2.2⟩⟩
theorem nm_iff {s:ByteArray}(h0:s.toList≠[])(h1:s.toList≠[46])(h2:s.toList≠[46,46])(h3:s.size<=32):nm s=s.data.toList.all nb:=by
 rw[toList_data] at h0 h1 h2
 have h4:s.data.toList.length=s.size:=(size_eq s).symm
 have h5:1<=s.data.toList.length:=by cases h:s.data.toList with | nil=>exact absurd h h0 | cons a b=>simp
 simp[nm,isN,h1,h2,h4,h3]
 omega
theorem isName_any (s:ByteArray)(w:World):Calls prog 174 #[.string s] w fun e w'=>e=.returned (.bool (nm s))/\Below w.heap.size w w':=by
 have hl:s.data.toList.length=s.size:=(size_eq s).symm
 obtain ⟨R,hR⟩:∃R,nm s=R:=⟨_,rfl⟩
 rw[hR]
 have HR:Hid (nm s=R):=hR
 clear hR
 by_cases h0:s.toList=[]
 ·have hR0:R=false:=by
   rw[<-HR.out]
   rw[toList_data] at h0
   simp[nm,isN,h0]
  subst hR0
  have he:s.toList.isEmpty=true:=by rw[h0];rfl
  clear h0
  go_enter func174,ntmps174
  go_wp2
  go_ret
  exact ⟨rfl,Qq _ _⟩
 have he0:s.toList.isEmpty=false:=by
  cases h:s.toList with
  | nil=>exact absurd h h0
  | cons a b=>rfl
 by_cases h1:s.toList=[46]
 ·have hR0:R=false:=by
   rw[<-HR.out]
   rw[toList_data] at h1
   simp[nm,isN,h1]
  subst hR0
  have he:(s.toList == [46])=true:=by rw[h1];rfl
  clear h0 h1
  go_enter func174,ntmps174
  go_wp2
  go_ret
  exact ⟨rfl,Qq _ _⟩
 have he1:(s.toList == [46])=false:=beq_eq_false_iff_ne.2 h1
 by_cases h2:s.toList=[46,46]
 ·have hR0:R=false:=by
   rw[<-HR.out]
   rw[toList_data] at h2
   simp[nm,isN,h2]
  subst hR0
  have he:(s.toList == [46,46])=true:=by rw[h2];rfl
  clear h0 h1 h2
  go_enter func174,ntmps174
  go_wp2
  go_ret
  exact ⟨rfl,Qq _ _⟩
 have he2:(s.toList == [46,46])=false:=beq_eq_false_iff_ne.2 h2
 by_cases h3:s.size<=32
 ·have h3I:¬(32:Int)<(s.size:Int):=by omega
  have HN:Hid (s.data.toList.all nb=R):=(nm_iff h0 h1 h2 h3).symm.trans HR.out
  clear h0 h1 h2 HR
  obtain ⟨n,hn⟩:∃n,s.size=n:=⟨_,rfl⟩
  rw[hn] at hl h3 h3I
  have HS:Hid (s.size=n):=hn
  go_enter func174,ntmps174
  go_wp2
  go_loopg [] n (fun gk wr=>∃pos:Nat,pos+gk=n/\wr.heap[w.heap.size]?=some (.stringIter s pos)/\Below w.heap.size w wr/\Hid (∀i x,i<pos->s.data.toList[i]?=some x->nb x=true))
  case atStart=>exact ⟨0,by omega,World.iter_heap w s 0,(Qq _ _).alloc (Qj _) _,fun i x h=>by omega⟩
  case round =>
   obtain ⟨pos,hk,hit,hbw,HZ⟩:=hrel
   by_cases hp:pos<n
   ·obtain ⟨c,hc⟩:∃c,s.data.toList[pos]?=some c:=⟨_,Qv (by omega)⟩
    have hnx:∀ty,(Instr.next (.pointer (some ⟨w.heap.size,0,none⟩)) true ty).run prog wr=_:=fun ty=>Lib.run_next_any_at wr w.heap.size s pos ty hit (by omega)
    by_cases hb:nb c=true
    ·obtain ⟨b1,b2,b3⟩:=(nb_iff c).1 hb
     have hd:=decode_at s pos (by omega) c hc (by omega)
     rw[hd] at hnx
     have hit2:=Lib.iterAt_heap wr w.heap.size s pos (pos+1) hit
     have hbw2:=Lib.below_iterAt hbw (k:=w.heap.size) (Qj _) s (pos+1)
     have HZ2:Hid (∀i x,i<pos+1->s.data.toList[i]?=some x->nb x=true):=fun i x hi hx=>by
      by_cases h:i=pos
      ·subst h;rw[hc] at hx;injection hx with hx;subst hx;exact hb
      ·exact HZ.out i x (by omega) hx
     clear hd hc hit hbw hb
     generalize c.toNat=cn at *
     generalize wr.iterAt w.heap.size s (pos+1)=W1 at *
     have c1:¬(cn:Int)<33:=by omega
     have c2:¬(126:Int)<(cn:Int):=by omega
     have c3:¬(cn:Int)=47:=by omega
     change ∀ty,(Instr.next (.pointer (some ⟨w.heap.size,0,none⟩)) true ty).run prog wr=.ok (.tuple #[.bool true,.int .i64 pos,.int .i32 cn]) W1 at hnx
     go_wp2
     go_roundg (gk-1)
     case measure=>omega
     case rel=>exact ⟨pos+1,by omega,hit2,hbw2,HZ2⟩
    ·obtain rfl:R=false:=by
      rw[<-HN.out]
      apply Bool.eq_false_iff.2
      intro h
      exact hb (List.all_eq_true.1 h c (List.mem_of_getElem? hc))
     have hr:(Utf8.decode s pos).1<33\/126<(Utf8.decode s pos).1\/(Utf8.decode s pos).1=47:=by
      by_cases h128:c.toNat<128
      ·rw[decode_at s pos (by omega) c hc h128]
       have hh:¬(33<=c.toNat/\c.toNat<=126/\c.toNat≠47):=fun h=>hb ((nb_iff c).2 h)
       show c.toNat<33\/126<c.toNat\/c.toNat=47
       omega
      ·have:=decode_up s pos (by omega) c hc h128
       omega
     have hbw2:=Lib.below_iterAt hbw (k:=w.heap.size) (Qj _) s (pos+(Utf8.decode s pos).2)
     generalize wr.iterAt w.heap.size s (pos+(Utf8.decode s pos).2)=W1 at *
     generalize (Utf8.decode s pos).1=r at *
     clear hc hb
     by_cases r1:r<33
     ·have r1':(r:Int)<33:=by omega
      clear hr
      go_wp2
      go_ret
      exact ⟨rfl,hbw2⟩
     have r1':¬(r:Int)<33:=by omega
     by_cases r2:126<r
     ·have r2':(126:Int)<(r:Int):=by omega
      clear hr
      go_wp2
      go_ret
      exact ⟨rfl,hbw2⟩
     have r2':¬(126:Int)<(r:Int):=by omega
     have r3:r=47:=by omega
     have r3':(r:Int)=47:=by omega
     clear hr r3
     go_wp2
     go_ret
     exact ⟨rfl,hbw2⟩
   ·have hnx:∀ty,(Instr.next (.pointer (some ⟨w.heap.size,0,none⟩)) true ty).run prog wr=_:=fun ty=>Lib.run_next_end_at wr w.heap.size s pos ty hit (by omega)
    obtain rfl:R=true:=by
     rw[<-HN.out,List.all_eq_true]
     intro c hc
     obtain ⟨i,hi⟩:=List.mem_iff_getElem?.1 hc
     have h1:=(QV.1 hi).1
     exact HZ.out i c (by omega) hi
    go_wp2
    go_ret
    exact ⟨rfl,hbw⟩
 ·obtain rfl:R=false:=by
   rw[<-HR.out]
   simp[nm,isN,hl]
   omega
  have h3I:(32:Int)<(s.size:Int):=by omega
  clear h0 h1 h2
  go_enter func174,ntmps174
  go_wp2
  go_ret
  exact ⟨rfl,Qq _ _⟩
theorem jL8 (s:ByteArray)(w:World):Calls prog 139 #[.string s] w fun e w'=>e=.returned (.int .i64 (nameE s))/\Below w.heap.size w w':=by
 have h:=isName_any s w
 unfold nameE
 cases hb:nm s
 ·rw[hb] at h
  go_enter func139,ntmps139
  go_wp2_with (go_at_call 174;refine h.mono ?_;rintro e w1 ⟨rfl,hb1⟩)
  go_ret
  exact ⟨rfl,hb1⟩
 ·rw[hb] at h
  go_enter func139,ntmps139
  go_wp2_with (go_at_call 174;refine h.mono ?_;rintro e w1 ⟨rfl,hb1⟩)
  go_ret
  exact ⟨rfl,hb1⟩
theorem nameE_of {s:ByteArray}(h:nm s=false):nameE s=111:=by unfold nameE;rw[h];rfl
theorem jL9 {s:ByteArray}(h:nm s=true):nameE s=0:=by unfold nameE;rw[h];rfl
theorem See.cell {w:World}{a:Option Addr}{n c:Nat}{L:List ByteArray}(h:See w (.slice a n c) L){k:Nat}{x:ByteArray}(hx:L[k]?=some x):∃b off,a=some ⟨b,off,none⟩/\w.cell? ⟨b,off+k,none⟩=some (.string x):=by
 obtain ⟨a',c',h1,_,_,h4⟩:=h
 injection h1 with e1 _ e2
 subst e1 e2
 obtain ⟨b,off,e,_,hc⟩:=h4 (fun e=>by rw[e] at hx;cases hx)
 exact ⟨b,off,e,hc k x hx⟩
theorem fault_bad {L:List ByteArray}{k:Nat}{x:ByteArray}(hx:L[k]?=some x)(h:nm x=false):jH5 L=111:=by
 unfold jH5
 rw[if_neg]
 intro hh
 have:=List.all_eq_true.1 hh x (List.mem_of_getElem? hx)
 rw[h] at this
 cases this
theorem all_of {L:List ByteArray}{n:Nat}(hl:L.length=n)(h:∀i x,i<n->L[i]?=some x->nm x=true):L.all nm=true:=by
 rw[List.all_eq_true]
 intro c hc
 obtain ⟨i,hi⟩:=List.mem_iff_getElem?.1 hc
 exact h i c (by have:=(QV.1 hi).1;omega) hi
theorem jM9 (w:World)(v:Value)(L:List ByteArray)(h1:See w v L)(hn:L.length<=9223372036854775000):Calls prog 97 #[v] w fun e w'=>e=.returned (.int .i64 (jH5 L))/\Below w.heap.size w w':=by
 have HA:Hid (∀W,Below w.heap.size w W->See W v L):=fun W hb=>h1.below hb
 obtain ⟨a1,k1,rfl,-⟩:=h1
 obtain ⟨n,hl⟩:∃n,L.length=n:=⟨_,rfl⟩
 rw[hl] at HA hn ⊢
 have HL:Hid (L.length=n):=hl
 obtain ⟨R,hR⟩:∃R,jH5 L=R:=⟨_,rfl⟩
 rw[hR]
 have HR:Hid (jH5 L=R):=hR
 clear hl hR
 go_enter func97,ntmps97
 go_wp2_with fail
 go_loopg [8] n (fun gk iv wr=>∃k:Nat,k+gk=n/\iv=.int .i64 (k:Int)/\Hid (Below w.heap.size w wr)/\Hid (∀i x,i<k->L[i]?=some x->nm x=true))
 case atStart=>exact ⟨0,by omega,rfl,Qq _ _,fun i x h=>by omega⟩
 case round =>
  obtain ⟨k,hk,rfl,HW,HZ⟩:=hrel
  have HKG:Hid (k+gk=n):=hk
  have hkn:k<=n:=by omega
  clear hk
  by_cases hlt:k<n
  ·have hltI:(k:Int)<(n:Int):=by omega
   obtain ⟨x,hx⟩:∃x,L[k]?=some x:=⟨_,Qv (by have:=HL.out;omega)⟩
   obtain ⟨b,off,rfl,hc⟩:=(HA.out _ HW.out).cell hx
   cases hb:nm x
   ·have h2:¬(111:Int)=0:=by decide
    have hc1:=jL8 x wr
    rw[nameE_of hb] at hc1
    obtain rfl:R=111:=by rw[<-HR.out];exact fault_bad hx hb
    clear hx hb
    go_wp2_with (go_at_call 139;refine hc1.mono ?_;rintro e w1 ⟨rfl,hb1⟩)
    go_ret
    exact ⟨rfl,HW.out.trans (hb1.mono HW.out.size)⟩
   ·have hc1:=jL8 x wr
    rw[jL9 hb] at hc1
    have HZ2:Hid (∀i x,i<k+1->L[i]?=some x->nm x=true):=fun i y hi hy=>by
     by_cases h:i=k
     ·subst h;rw[hx] at hy;injection hy with hy;subst hy;exact hb
     ·exact HZ.out i y (by omega) hy
    clear hx hb
    go_wp2_with (go_at_call 139;refine hc1.mono ?_;rintro e w1 ⟨rfl,hb1⟩)
    go_roundg (gk-1)
    case measure=>have:=HKG.out;omega
    case rel=>exact ⟨k+1,by have:=HKG.out;omega,by go_num,HW.out.trans (hb1.mono HW.out.size),HZ2⟩
  ·obtain rfl:k=n:=by omega
   have hltI:¬(k:Int)<(k:Int):=by omega
   have ha:=all_of HL.out HZ.out
   by_cases h16:k<=16
   ·have h16I:¬(16:Int)<(k:Int):=by omega
    obtain rfl:R=0:=by rw[<-HR.out];unfold jH5;rw[if_pos ha,if_pos (by rw[HL.out];exact h16)]
    clear ha
    go_wp2
    go_ret
    exact ⟨rfl,HW.out⟩
   ·have h16I:(16:Int)<(k:Int):=by omega
    obtain rfl:R=112:=by rw[<-HR.out];unfold jH5;rw[if_pos ha,if_neg (by rw[HL.out];exact h16)]
    clear ha
    go_wp2
    go_ret
    exact ⟨rfl,HW.out⟩
end Go.Proofs.YtfnklhajafmooaaGreatDoor.Pa
namespace Go.Proofs.YtfnklhajafmooaaGreatDoor.Pa
open Go.Shelf Go.Proofs.Tryz
def equRen:Go.Shelf.Ren:=⟨fun | 193=>126 | n=>n,fun | 31=>64 | 9=>9 | 4=>4 | 3=>3 | 0=>0 | n=>n,fun | n=>n⟩
theorem equLays:Go.Proofs.Lays.n193 prog equRen:={
 mixed:=by kernel_rfl
 f193:=func126.trans (congrArg some (by kernel_rfl))
 t0:=underlying0
 a0:=isAgg0
 z0:=sizeOf0
 v0:=zeroValue0
 t3:=underlying3
 a3:=isAgg3
 z3:=sizeOf3
 v3:=zeroValue3
 t4:=underlying4
 a4:=isAgg4
 z4:=sizeOf4
 v4:=zeroValue4
 t9:=underlying9
 a9:=isAgg9
 z9:=sizeOf9
 v9:=zeroValue9
 t31:=underlying64
 a31:=isAgg64
 z31:=sizeOf64
 v31:=zeroValue64 }
def splRen:Go.Shelf.Ren:=⟨fun | 221=>138 | 268=>171 | 138=>172 | 143=>173 | 195=>202 | 197=>203 | 218=>204 | 219=>205 | 260=>224 | 217=>225 | 225=>226 | 224=>227 | 267=>228 | 266=>234 | 314=>235 | n=>n,fun | 9=>9 | 3=>3 | 31=>64 | 4=>4 | 0=>0 | 105=>277 | 21=>21 | 5=>5 | 46=>130 | 119=>296 | 139=>299 | 138=>298 | 146=>300 | 51=>181 | n=>n,fun | 1=>1 | 3=>2 | 4=>3 | n=>n⟩
theorem splLays:Go.Proofs.Lays.n221 prog splRen:={
 mixed:=by kernel_rfl
 f138:=func172.trans (congrArg some (by kernel_rfl))
 f143:=func173.trans (congrArg some (by kernel_rfl))
 f195:=func202.trans (congrArg some (by kernel_rfl))
 f197:=func203.trans (congrArg some (by kernel_rfl))
 f217:=func225.trans (congrArg some (by kernel_rfl))
 f218:=func204.trans (congrArg some (by kernel_rfl))
 f219:=func205.trans (congrArg some (by kernel_rfl))
 f221:=func138.trans (congrArg some (by kernel_rfl))
 f224:=func227.trans (congrArg some (by kernel_rfl))
 f225:=func226.trans (congrArg some (by kernel_rfl))
 f260:=func224.trans (congrArg some (by kernel_rfl))
 f266:=func234.trans (congrArg some (by kernel_rfl))
 f267:=func228.trans (congrArg some (by kernel_rfl))
 f268:=func171.trans (congrArg some (by kernel_rfl))
 f314:=func235.trans (congrArg some (by kernel_rfl))
 t0:=underlying0
 a0:=isAgg0
 z0:=sizeOf0
 v0:=zeroValue0
 t3:=underlying3
 a3:=isAgg3
 z3:=sizeOf3
 v3:=zeroValue3
 t4:=underlying4
 a4:=isAgg4
 z4:=sizeOf4
 v4:=zeroValue4
 t5:=underlying5
 a5:=isAgg5
 z5:=sizeOf5
 v5:=zeroValue5
 t9:=underlying9
 a9:=isAgg9
 z9:=sizeOf9
 v9:=zeroValue9
 t21:=underlying21
 a21:=isAgg21
 z21:=sizeOf21
 v21:=zeroValue21
 t31:=underlying64
 a31:=isAgg64
 z31:=sizeOf64
 v31:=zeroValue64
 t46:=underlying130
 a46:=isAgg130
 z46:=sizeOf130
 v46:=zeroValue130
 t51:=underlying181
 a51:=isAgg181
 z51:=sizeOf181
 v51:=zeroValue181
 t105:=underlying277
 a105:=isAgg277
 z105:=sizeOf277
 v105:=zeroValue277
 t119:=underlying296
 a119:=isAgg296
 z119:=sizeOf296
 t138:=underlying298
 a138:=isAgg298
 z138:=sizeOf298
 v138:=zeroValue298
 t139:=underlying299
 a139:=isAgg299
 z139:=sizeOf299
 v139:=zeroValue299
 t146:=underlying300
 a146:=isAgg300
 z146:=sizeOf300
 v146:=zeroValue300
 g1:=by kernel_rfl
 g3:=by kernel_rfl
 g4:=by kernel_rfl }
def hpreRen:Go.Shelf.Ren:=⟨fun | 99=>136 | 206=>169 | n=>n,fun | 9=>9 | 4=>4 | 3=>3 | n=>n,fun | n=>n⟩
theorem hpreLays:Go.Proofs.Lays.n99 prog hpreRen:={
 mixed:=by kernel_rfl
 f99:=func136.trans (congrArg some (by kernel_rfl))
 f206:=func169.trans (congrArg some (by kernel_rfl))
 t3:=underlying3
 a3:=isAgg3
 z3:=sizeOf3
 v3:=zeroValue3
 t4:=underlying4
 a4:=isAgg4
 z4:=sizeOf4
 v4:=zeroValue4
 t9:=underlying9
 a9:=isAgg9
 z9:=sizeOf9
 v9:=zeroValue9 }
def hsufRen:Go.Shelf.Ren:=⟨fun | 100=>137 | 207=>170 | n=>n,fun | 9=>9 | 4=>4 | 3=>3 | n=>n,fun | n=>n⟩
theorem hsufLays:Go.Proofs.Lays.n100 prog hsufRen:={
 mixed:=by kernel_rfl
 f100:=func137.trans (congrArg some (by kernel_rfl))
 f207:=func170.trans (congrArg some (by kernel_rfl))
 t3:=underlying3
 a3:=isAgg3
 z3:=sizeOf3
 v3:=zeroValue3
 t4:=underlying4
 a4:=isAgg4
 z4:=sizeOf4
 v4:=zeroValue4
 t9:=underlying9
 a9:=isAgg9
 z9:=sizeOf9
 v9:=zeroValue9 }
def cloneRen:Go.Shelf.Ren:=⟨fun | 316=>140 | n=>n,fun | 9=>9 | 3=>3 | 4=>4 | 37=>253 | 0=>0 | 127=>254 | 5=>5 | n=>n,fun | n=>n⟩
theorem jN2:Go.Proofs.LaysM.n316 prog cloneRen:={
 mixed:=by kernel_rfl
 f316:=func140.trans (congrArg some (by kernel_rfl))
 t0:=underlying0
 a0:=isAgg0
 z0:=sizeOf0
 v0:=zeroValue0
 t3:=underlying3
 a3:=isAgg3
 z3:=sizeOf3
 v3:=zeroValue3
 t4:=underlying4
 a4:=isAgg4
 z4:=sizeOf4
 v4:=zeroValue4
 t9:=underlying9
 a9:=isAgg9
 z9:=sizeOf9
 v9:=zeroValue9
 t37:=underlying253
 a37:=isAgg253
 z37:=sizeOf253
 v37:=zeroValue253
 t127:=underlying254
 a127:=isAgg254
 z127:=sizeOf254
 v127:=zeroValue254
 t5:=underlying5
 a5:=isAgg5
 z5:=sizeOf5
 v5:=zeroValue5
 i0:=by kernel_rfl
 i3:=by kernel_rfl
 i4:=by kernel_rfl
 i5:=by kernel_rfl
 i9:=by kernel_rfl
 i37:=by kernel_rfl
 i127:=by kernel_rfl }
end Go.Proofs.YtfnklhajafmooaaGreatDoor.Pa
namespace Go.Proofs.YtfnklhajafmooaaGreatDoor.Pa
open Go.RowKit Go.Lib Go.Proofs.Tryz
theorem jJ3 (w:World)(v u:Value)(P Q:List ByteArray)(h1:See w v P)(h2:See w u Q)(hl:P.length=Q.length)(hn:P.length<=9223372036854775807) :
 Calls prog 126 #[v,u] w fun e w'=>e=.returned (.bool (decide (P=Q)))/\Below w.heap.size w w':=by
 obtain ⟨a,c,rfl,hc,hnil,hcell⟩:=h1
 obtain ⟨a2,c2,rfl,hc2,hnil2,hcell2⟩:=h2
 by_cases h0:P=[]
 ·subst h0
  obtain rfl:Q=[]:=Qb hl.symm
  exact (Any.slices_Equal_string_empty equLays a a2 c 0 c2 w (by omega)).mono fun e w' ⟨he,hw⟩=>⟨he,hw▸Qq _ _⟩
 ·obtain ⟨b,off,rfl,_,hcc⟩:=hcell h0
  obtain ⟨b2,off2,rfl,_,hcc2⟩:=hcell2 (fun e=>h0 (Qb (by rw[hl,e];rfl)))
  have cells:∀(L:List ByteArray) (b off:Nat),(∀(i:Nat) s,L[i]?=some s->w.cell? ⟨b,off+i,none⟩=some (.string s))->∀j,j<L.length->w.cell? ⟨b,off+j,none⟩=some (.string (L.getD j ByteArray.empty)):=fun L b off h j hj=>by
   have e:L[j]?=some L[j]:=Qv hj
   rw[h j _ e,List.getD_eq_getElem?_getD,e]
   rfl
  refine (Any.slices_Equal_string equLays b off P.length c b2 off2 Q.length c2 P Q w (Qj _) (Qj _) hn (by omega) (cells P b off hcc) (cells Q b2 off2 hcc2)).mono fun e w' ⟨he,q,hw⟩=>⟨?_,hw▸bdN w q⟩
  rw[he,Qh,Qh]
theorem prefix_take (P Q:List ByteArray):decide (P=Q.take P.length)=decide (P <+: Q):=by
 by_cases hp:P <+: Q
 ·rw[QQ hp,QQ (List.prefix_iff_eq_take.1 hp)]
 ·rw[QY hp,QY fun e=>hp (List.prefix_iff_eq_take.2 e)]
theorem jD0 (w:World)(v u:Value)(P Q:List ByteArray)(h1:See w v P)(h2:See w u Q)(hn:P.length<=9223372036854775000):Calls prog 163 #[v,u] w fun e w'=>e=.returned (.bool (decide (P <+: Q)))/\Below w.heap.size w w':=by
 by_cases hm:P.length<=Q.length
 ·have hq:=prefix_take P Q
  have HT:Hid (∀a c,u=.slice a Q.length c->Calls prog 126 #[v,.slice a P.length c] w fun e w'=>e=.returned (.bool (decide (P=Q.take P.length)))/\Below w.heap.size w w'):=fun a c e=>by
   subst e
   exact jJ3 w v _ P (Q.take P.length) h1 (h2.take hm) (by rw[List.length_take];omega) (by omega)
  obtain ⟨a1,k1,rfl,-⟩:=h1
  obtain ⟨a2,k2,rfl,hq2,hz,hsome⟩:=h2
  have HQ:=HT.out a2 k2 rfl
  rw[hq] at HQ
  clear HT hq
  generalize decide (P <+: Q)=R at *
  have hnone:a2=none->Q.length=0:=fun e=>by have:=hz e;omega
  clear hsome
  generalize P.length=n at *
  generalize Q.length=m at *
  go_enter func163,ntmps163
  go_wp2_with (go_at_call 126;refine HQ.mono ?_;rintro e w1 ⟨rfl,hb1⟩)
  go_ret
  exact ⟨rfl,hb1⟩
 ·have e:decide (P <+: Q)=false:=QY fun h=>hm h.length_le
  rw[e]
  obtain ⟨a1,k1,rfl,-⟩:=h1
  obtain ⟨a2,k2,rfl,-⟩:=h2
  generalize P.length=n at *
  generalize Q.length=m at *
  go_enter func163,ntmps163
  go_wp2
  go_ret
  exact ⟨rfl,Qq _ _⟩
theorem hp_head (l:List UInt8):hasPrefix l [47]=decide (l.head?=some 47):=by
 unfold hasPrefix
 cases l with
 | nil=>rfl
 | cons x t =>
   by_cases h:x=47
   ·subst h;rfl
   ·simp[List.isPrefixOf,h,Ne.symm h]
theorem hs_last (l:List UInt8):hasSuffix l [47]=decide (l.getLast?=some 47):=by
 unfold hasSuffix List.isSuffixOf
 rw[<-List.head?_reverse]
 exact hp_head l.reverse
theorem hasP_any (s:ByteArray)(w:World):Calls prog 136 #[.string s,.string { data:=#[47] }] w fun e w'=>e=.returned (.bool (decide (s.data.toList.head?=some 47)))/\w'=w:=by
 have h:=Any.strings_HasPrefix hpreLays s { data:=#[47] } w
 rw[show (({ data:=#[47] }:ByteArray).data.toList)=[47] from rfl,hp_head] at h
 exact h
theorem hasS_any (s:ByteArray)(w:World)(hs:s.size<=9223372036854775807):Calls prog 137 #[.string s,.string { data:=#[47] }] w fun e w'=>e=.returned (.bool (decide (s.data.toList.getLast?=some 47)))/\w'=w:=by
 have h:=Any.strings_HasSuffix hsufLays s { data:=#[47] } w hs
 rw[show (({ data:=#[47] }:ByteArray).data.toList)=[47] from rfl,hs_last] at h
 exact h
theorem rooted_any (s:ByteArray)(w:World):Calls prog 95 #[.string s] w fun e w'=>e=.returned (.bool (jFj s.data.toList))/\w'=w:=by
 have hl:s.data.toList.length=s.size:=(size_eq s).symm
 by_cases h1:1024<s.size
 ·have e:jFj s.data.toList=false:=by simp[jFj,hl];omega
  rw[e]
  have h1I:(1024:Int)<(s.size:Int):=by omega
  go_enter func95,ntmps95
  go_wp2
  go_ret
  exact ⟨rfl,rfl⟩
 have h1I:¬(1024:Int)<(s.size:Int):=by omega
 have hp:=hasP_any s
 have hsf:=fun w=>hasS_any s w (by omega)
 by_cases h2:s.data.toList.head?=some 47
 ·rw[QQ h2] at hp
  by_cases h3:s.data.toList=[47]
  ·have e:jFj s.data.toList=true:=rooted_mk (by omega) h2 (.inl h3)
   rw[e]
   have h3':(s.toList == [47])=true:=by rw[toList_data,h3];rfl
   clear h2 h3
   go_enter func95,ntmps95
   go_wp2_with (first | (go_at_call 136;refine (hp _).mono ?_;rintro e w1 ⟨rfl,rfl⟩))
   go_ret
   exact ⟨rfl,rfl⟩
  ·have h3':(s.toList == [47])=false:=by rw[toList_data];exact beq_eq_false_iff_ne.2 h3
   by_cases h4:s.data.toList.getLast?=some 47
   ·have e:jFj s.data.toList=false:=by simp[jFj,h3,h4]
    rw[e]
    rw[QQ h4] at hsf
    clear h2 h3 h4
    go_enter func95,ntmps95
    go_wp2_with (first | (go_at_call 136;refine (hp _).mono ?_;rintro e w1 ⟨rfl,rfl⟩) | (go_at_call 137;refine (hsf _).mono ?_;rintro e w1 ⟨rfl,rfl⟩))
    go_ret
    exact ⟨rfl,rfl⟩
   ·have e:jFj s.data.toList=true:=rooted_mk (by omega) h2 (.inr h4)
    rw[e]
    rw[QY h4] at hsf
    clear h2 h3 h4
    go_enter func95,ntmps95
    go_wp2_with (first | (go_at_call 136;refine (hp _).mono ?_;rintro e w1 ⟨rfl,rfl⟩) | (go_at_call 137;refine (hsf _).mono ?_;rintro e w1 ⟨rfl,rfl⟩))
    go_ret
    exact ⟨rfl,rfl⟩
 ·have e:jFj s.data.toList=false:=by simp[jFj,h2]
  rw[e]
  rw[QY h2] at hp
  clear h2
  go_enter func95,ntmps95
  go_wp2_with (first | (go_at_call 136;refine (hp _).mono ?_;rintro e w1 ⟨rfl,rfl⟩))
  go_ret
  exact ⟨rfl,rfl⟩
theorem jG7 (s:ByteArray)(hs:s.size<=281474976710656)(w:World):Calls prog 99 #[.string s] w fun e w'=>e=.returned (.string s)/\Below w.heap.size w w':=by
 have h:=Any.stringslite_Clone jN2 s w hs
 have h':Calls prog 140 #[.string s] w fun e w'=>e=.returned (.string s)/\Below w.heap.size w w':=h
 clear h
 go_enter func99,ntmps99
 go_wp2_with (go_at_call 140;refine h'.mono ?_;rintro e w1 ⟨rfl,hb1⟩)
 go_ret
 exact ⟨rfl,hb1⟩
theorem make_cap (n:Nat)(hn:n<=1000)(w:World):(Instr.makeSlice 64 (.int .i64 0) (.int .i64 (n:Int))).run prog w=.ok (.slice (some ⟨w.heap.size,0,none⟩) 0 n) (w.alloc (.cells (madeCells #[.string { data:=#[] }] n) 9)):=by
 obtain ⟨i0,hi,hz0,hz1,hz2⟩:=info_9
 have h:=run_make (P:=prog) w 64 9 i0 (.string { data:=#[] }) underlying64 hi hz0 .i64 .i64 0 n (by omega) (by omega) (by rw[hz2];omega) (by omega)
 simpa[hz1,Value.cells] using h
theorem made_own (n:Nat)(hn:n<=1000)(w:World):Own (w.alloc (.cells (madeCells #[.string { data:=#[] }] n) 9)) w.heap.size (.slice (some ⟨w.heap.size,0,none⟩) 0 n) [] :=
 World.ownsRow_made w _ n (Qj _) (by unfold maxLen;omega) (by simp[madeCells])
theorem each_any (w:World)(v:Value)(L:List ByteArray)(h1:See w v L)(hn:L.length<=16)(hs:∀s∈L,s.size<=32):Calls prog 98 #[v,.func (.func 99) #[] #[]] w fun e w'=>(∃u,e=.returned u/\Own w' w.heap.size u L)/\Below w.heap.size w w':=by
 have HA:Hid (∀W,Below w.heap.size w W->See W v L):=fun W hb=>h1.below hb
 obtain ⟨a1,k1,rfl,-⟩:=h1
 obtain ⟨n,hl⟩:∃n,L.length=n:=⟨_,rfl⟩
 rw[hl] at HA hn ⊢
 have HL:Hid (L.length=n):=hl
 have HS:Hid (∀s∈L,s.size<=32):=hs
 have hmk:=make_cap n (by omega)
 have HO:=made_own n (by omega) w
 have HB0:Hid (Below w.heap.size w (w.alloc (.cells (madeCells #[.string { data:=#[] }] n) 9))):=(Qq _ _).alloc (Qj _) _
 clear hl hs
 generalize madeCells #[.string { data:=#[] }] n=cs at *
 go_enter func98,ntmps98
 go_wp2_with fail
 go_loopg [5,13] n (fun gk ov iv wr=>∃k:Nat,k+gk=n/\iv=.int .i64 (k:Int)/\Own wr w.heap.size ov (L.take k)/\Hid (Below w.heap.size w wr))
 case atStart=>exact ⟨0,by omega,rfl,HO,HB0⟩
 case round =>
  obtain ⟨k,hk,rfl,hown,HW⟩:=hrel
  have HKG:Hid (k+gk=n):=hk
  have hkn:k<=n:=by omega
  clear hk
  by_cases hlt:k<n
  ·have hltI:(k:Int)<(n:Int):=by omega
   obtain ⟨x,hx⟩:∃x,L[k]?=some x:=⟨_,Qv (by have:=HL.out;omega)⟩
   obtain ⟨b,off,rfl,hc⟩:=(HA.out _ HW.out).cell hx
   have hcl:=jG7 x (by have:=HS.out x (List.mem_of_getElem? hx);omega) wr
   have HX:Hid (L.take (k+1)=L.take k++[x]):=by show _=_;rw[List.take_add_one,hx];rfl
   have HKL:Hid ((L.take k).length=k):=by show _=_;rw[List.length_take,HL.out];omega
   clear hx
   have HO1:Hid _:=hown
   clear hown
   go_wp2_with (first
    | (go_at_call 99;refine hcl.mono ?_;rintro e w1 ⟨rfl,hb1⟩)
    | (at_builtin;refine jIy rfl _ _ rfl w.heap.size _ _ (L.take k) [x] rfl (World.ownsRow.alloc (Own.below (B:=w.heap.size) (L:=L.take k) HO1.out hb1) _) rfl (see_new w1 _ [x] 1 1 rfl rfl (Qj _)) (by rw[HKL.out];simp;omega) (by have:=hb1.size;have:=HW.out.size;simp;omega) ?_;intro v2 w2 ho2 hb2))
   go_roundg (gk-1)
   case measure=>have:=HKG.out;omega
   case rel=>exact ⟨k+1,by have:=HKG.out;omega,by go_num,by rw[HX.out];exact ho2,(HW.out.trans ((hb1.alloc hb1.size _).mono HW.out.size)).trans hb2⟩
  ·obtain rfl:k=n:=by omega
   have hltI:¬(k:Int)<(k:Int):=by omega
   rw[Qf (by rw[HL.out];exact Qj _)] at hown
   have HE:Hid _:=hown
   clear hown
   go_wp2
   go_ret
   exact ⟨⟨_,rfl,HE.out⟩,HW.out⟩
theorem index_one (c:UInt8):∀l:List UInt8,Lib.index l [c]=Lib.indexByte l c
 | []=>by simp[Lib.index,Lib.indexByte]
 | x :: l=>by
   have ih:=index_one c l
   by_cases h:x=c
   ·subst h
    simp[Lib.index,Lib.indexByte,List.isPrefixOf]
   ·simp[Lib.index,Lib.indexByte,List.isPrefixOf,h,Ne.symm h,ih]
theorem index_cut (p r:List UInt8)(hp:(47:UInt8) ∉ p):Lib.index (p++47 :: r) [47]=(p.length:Int):=by
 induction p with
 | nil=>simp[Lib.index,List.isPrefixOf]
 | cons x p ih =>
   have hx:x≠47:=fun e=>hp (by simp[e])
   have hi:=ih (fun h=>hp (QA _ h))
   rw[List.cons_append,Lib.index]
   have h1:([47]:List UInt8).isPrefixOf (x :: (p++47 :: r))=false:=by simp[List.isPrefixOf,Ne.symm hx]
   rw[h1,hi]
   have h2:¬((p.length:Int) == -1)=true:=by simp
   simp[h2]
theorem splitK_glue (ps:List (List UInt8))(r:List UInt8)(hp:∀p∈ps,(47:UInt8) ∉ p):splitK [47] 0 ps.length (glue 47 ps++r)=ps++[r]:=by
 induction ps with
 | nil=>simp[splitK,glue]
 | cons a ps ih =>
   have e:glue 47 (a :: ps)++r=a++47 :: (glue 47 ps++r):=by rw[jNj];simp
   rw[e,List.length_cons,splitK,index_cut a _ (hp a (by simp))]
   have h2:¬((a.length:Int) == -1)=true:=by simp
   rw[if_neg h2,Int.toNat_natCast,Nat.add_zero]
   have e1:(a++47 :: (glue 47 ps++r)).take a.length=a:=by simp
   have e2:(a++47 :: (glue 47 ps++r)).drop (a.length+([47]:List UInt8).length)=glue 47 ps++r:=by
    rw[<-List.drop_drop]
    simp
   rw[e1,e2,ih (fun p h=>hp p (QA _ h))]
   rfl
theorem count_glue (ps:List (List UInt8))(r:List UInt8)(hp:∀p∈ps,(47:UInt8) ∉ p)(hr:(47:UInt8) ∉ r):(glue 47 ps++r).count 47=ps.length:=by
 induction ps with
 | nil=>simp[glue,List.count_eq_zero.2 hr]
 | cons a ps ih =>
   have e:glue 47 (a :: ps)++r=a++47 :: (glue 47 ps++r):=by rw[jNj];simp
   rw[e,List.count_append,List.count_cons,ih (fun p h=>hp p (QA _ h)),List.count_eq_zero.2 (hp a (by simp))]
   simp
theorem splitK_pieces (t:List UInt8):splitK [47] 0 (t.count 47) t=jEy t:=by
 have h:=cut_glue 47 t
 obtain ⟨ps,r,hc⟩:∃ps r,cutS 47 t=(ps,r):=⟨_,_,rfl⟩
 rw[hc] at h
 unfold jEy
 rw[hc]
 obtain ⟨h1,h2,h3⟩:=h
 dsimp only at h1 h2 h3 ⊢
 rw[<-h1,count_glue ps r h2 h3,splitK_glue ps r h2]
theorem pieces_len (t:List UInt8):(jEy t).length=t.count 47+1:=by
 have h:=cut_glue 47 t
 unfold jEy
 rw[List.length_append]
 conv=>rhs;rw[<-h.1,count_glue _ _ h.2.1 h.2.2]
 rfl
theorem split_pcs (s:ByteArray):splitB { data:=#[47] } 0 (s.data.toList.count 47) s=(jEy s.data.toList).map str:=by
 have h:=splitB_data { data:=#[47] } 0 (s.data.toList.count 47) s
 rw[show (({ data:=#[47] }:ByteArray).data.toList)=[47] from rfl,splitK_pieces] at h
 rw[<-h,map_data_str]
theorem split_any (s:ByteArray)(hs:s.size<=1024)(w:World):Calls prog 96 #[.string s,.string { data:=#[47] }] w fun e w'=>(∃u,e=.returned u/\See w' u ((jEy s.data.toList).map str))/\Below w.heap.size w w':=by
 have hcb:Lib.countB s { data:=#[47] }=s.data.toList.count 47:=by
  show Lib.count s.data.toList [47]=_
  exact Lib.count_one 47 _
 have hcl:s.data.toList.count 47<=s.size:=by
  rw[size_eq s]
  exact List.count_le_length
 have hg:=Any.strings_genSplit_core splLays (by kernel_rfl) s { data:=#[47] } 0 (-1) (s.data.toList.count 47+1) w (by omega) (by decide) (Kj _)
  (fun x c _=>by
    refine (Any.strings_Index_one (ρ:=splRen) { splLays with } x 47 _).mono fun e w' ⟨he,hw⟩=>⟨?_,hw⟩
    rw[he,<-index_one])
  (by
    refine (Any.strings_Count_one (ρ:=splRen) { splLays with } s 47 w).mono fun e w' ⟨he,hw⟩=>⟨?_,hw⟩
    rw[he,hcb]
    rfl)
  (by decide) (by decide) (by rw[if_pos (by decide),hcb];omega)
 rw[Nat.add_sub_cancel,split_pcs] at hg
 have hpl:((jEy s.data.toList).map str).length=s.data.toList.count 47+1:=by rw[List.length_map,pieces_len]
 have hce:Lib.cellsOf ((jEy s.data.toList).map str) (s.data.toList.count 47+1)=(sc ((jEy s.data.toList).map str)).toArray:=by
  rw[<-hpl];exact Lib.cellsOf_full _
 rw[hpl,hce] at hg
 have HSee:Hid (See (w.alloc (.cells (sc ((jEy s.data.toList).map str)).toArray 9)) (.slice (some ⟨w.heap.size,0,none⟩) (s.data.toList.count 47+1) (s.data.toList.count 47+1)) ((jEy s.data.toList).map str)):=see_new w _ _ _ _ rfl hpl.symm (Qj _)
 have hg':Calls prog 138 #[.string s,.string { data:=#[47] },.int .i64 0,.int .i64 (-1)] w fun e w'=>e=.returned (.slice (some ⟨w.heap.size,0,none⟩) (s.data.toList.count 47+1) (s.data.toList.count 47+1))/\w'=w.alloc (.cells (sc ((jEy s.data.toList).map str)).toArray 9):=hg
 clear hg hce hpl hcl hcb
 generalize (jEy s.data.toList).map str=L at *
 generalize s.data.toList.count 47+1=n at *
 generalize (sc L).toArray=cs at *
 go_enter func96,ntmps96
 go_wp2_with (go_at_call 138;refine hg'.mono ?_;rintro e w1 ⟨rfl,rfl⟩)
 go_ret
 exact ⟨⟨_,rfl,HSee.out⟩,(Qq _ _).alloc (Qj _) _⟩
theorem slice_tail {P:Program}(W:World)(t:TypeId)(ht:P.underlying t=some .string)(s:ByteArray)(h:1<=s.size) :
 (Instr.slice t (.string s) (some (.int .i64 1)) none none).run P W=.ok (.string (str s.data.toList.tail)) W:=by
 rw[run_slice_string_l (P:=P) W t s ht .i64 1 (by omega) (by omega)]
 congr 2
 rw[<-str_of (s.extract _ _),extract_data,show (1:Int).toNat=1 from rfl,Qf (by rw[List.length_drop,size_eq s];omega),List.drop_one]
theorem parse_any (s:ByteArray)(w:World):Calls prog 62 #[.string s] w fun e w'=>(∃u,e=.returned (.tuple #[u,.int .i64 (jA9 s)])/\Own w' w.heap.size u (jB3 s))/\Below w.heap.size w w':=by
 have hr:=rooted_any s
 by_cases h1:jFj s.data.toList=true
 ·rw[h1] at hr
  by_cases h2:s.data.toList=[47]
  ·have eE:jA9 s=0:=by unfold jA9;rw[if_pos h1,if_pos h2]
   have eY:jB3 s=[]:=by unfold jB3;rw[if_pos eE,if_pos h2]
   rw[eE,eY]
   have h2':(s.toList == [47])=true:=by rw[toList_data,h2];rfl
   clear h1 h2
   go_enter func62,ntmps62
   go_wp2_with (go_at_call 95;refine (hr _).mono ?_;rintro e w1 ⟨rfl,rfl⟩)
   go_ret2
   exact ⟨⟨_,rfl,Own.nil _ _⟩,Qq _ _⟩
  ·have h2':(s.toList == [47])=false:=by rw[toList_data];exact beq_eq_false_iff_ne.2 h2
   have hsz:s.size<=1024:=by have:=(jH6 h1).1;rw[size_eq s];exact this
   have hs1:1<=s.size:=by
    have:=(jH6 h1).2.1
    rw[size_eq s]
    cases hd:s.data.toList with
    | nil=>rw[hd] at this;cases this
    | cons x t=>simp
   have hsl:=fun W=>slice_tail (P:=prog) W 9 underlying9 s hs1
   have hsp:=split_any (str s.data.toList.tail) (by rw[str_size,List.length_tail,<-size_eq s];omega)
   rw[str_data] at hsp
   have hpl:((jEy s.data.toList.tail).map str).length<=9223372036854775000:=by
    rw[List.length_map,pieces_len]
    have:s.data.toList.tail.count 47<=s.data.toList.tail.length:=List.count_le_length
    rw[List.length_tail,<-size_eq s] at this
    omega
   have HF:Hid (∀W v,See W v (pcs s)->Calls prog 97 #[v] W fun e w'=>e=.returned (.int .i64 (jH5 (pcs s)))/\Below W.heap.size W w'):=fun W v hv=>jM9 W v _ hv hpl
   have eE:jA9 s=jH5 (pcs s):=by unfold jA9;rw[if_pos h1,if_neg h2]
   rw[eE]
   generalize str s.data.toList.tail=tl at *
   change ∀w,Calls prog 96 #[.string tl,.string { data:=#[47] }] w fun e w'=>(∃u,e=.returned u/\See w' u (pcs s))/\Below w.heap.size w w' at hsp
   by_cases hf:jH5 (pcs s)=0
   ·have eY:jB3 s=pcs s:=by unfold jB3;rw[eE,if_pos hf,if_neg h2]
    have HEa:Hid (∀W v,See W v (pcs s)->Calls prog 98 #[v,.func (.func 99) #[] #[]] W fun e w'=>(∃u,e=.returned u/\Own w' W.heap.size u (pcs s))/\Below W.heap.size W w'):=fun W v hv=>by
     obtain ⟨ha,hn⟩:=fault_zero.1 hf
     exact each_any W v _ hv hn (fun x hx=>by have:=(nm_free (List.all_eq_true.1 ha x hx)).2.2;rw[size_eq x];exact this)
    rw[eY,hf]
    rw[hf] at HF
    clear h1 h2 hf eE eY hpl
    generalize pcs s=L at *
    go_enter func62,ntmps62
    go_wp2_with (first
     | (go_at_call 95;refine (hr _).mono ?_;rintro e w1 ⟨rfl,rfl⟩)
     | (go_at_call 96;refine (hsp _).mono ?_;rintro e w2 ⟨⟨v2,rfl,hv2⟩,hb2⟩)
     | (go_at_call 97;refine (HF.out _ _ hv2).mono ?_;rintro e w3 ⟨rfl,hb3⟩)
     | (go_at_call 98;refine (HEa.out _ _ (hv2.below hb3)).mono ?_;rintro e w4 ⟨⟨v4,rfl,ho4⟩,hb4⟩))
    go_ret2
    have h13:=hb2.trans (hb3.mono hb2.size)
    exact ⟨⟨_,rfl,ho4.mono h13.size⟩,h13.trans (hb4.mono h13.size)⟩
   ·have eY:jB3 s=[]:=by unfold jB3;rw[eE,if_neg hf]
    rw[eY]
    have hfI:¬jH5 (pcs s)=(0:Int):=hf
    clear h1 h2 eE eY hpl hf
    generalize jH5 (pcs s)=E at *
    generalize pcs s=L at *
    go_enter func62,ntmps62
    go_wp2_with (first
     | (go_at_call 95;refine (hr _).mono ?_;rintro e w1 ⟨rfl,rfl⟩)
     | (go_at_call 96;refine (hsp _).mono ?_;rintro e w2 ⟨⟨v2,rfl,hv2⟩,hb2⟩)
     | (go_at_call 97;refine (HF.out _ _ hv2).mono ?_;rintro e w3 ⟨rfl,hb3⟩))
    go_ret2
    exact ⟨⟨_,rfl,Own.nil _ _⟩,hb2.trans (hb3.mono hb2.size)⟩
 ·have h1':jFj s.data.toList=false:=Bool.eq_false_iff.2 h1
  rw[h1'] at hr
  have eE:jA9 s=110:=by unfold jA9;rw[if_neg h1]
  have eY:jB3 s=[]:=by unfold jB3;rw[eE];rfl
  rw[eE,eY]
  clear h1 h1'
  go_enter func62,ntmps62
  go_wp2_with (go_at_call 95;refine (hr _).mono ?_;rintro e w1 ⟨rfl,rfl⟩)
  go_ret2
  exact ⟨⟨_,rfl,Own.nil _ _⟩,Qq _ _⟩
