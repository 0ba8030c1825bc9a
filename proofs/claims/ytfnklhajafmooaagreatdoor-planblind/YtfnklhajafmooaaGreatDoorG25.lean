import Derived.Test.YtfnklhajafmooaaGreatDoorG22
import Derived.Test.YtfnklhajafmooaaGreatDoorG23
import Derived.Test.YtfnklhajafmooaaGreatDoorTrO6
import Derived.Test.YtfnklhajafmooaaGreatDoorG24
import Derived.Test.YtfnklhajafmooaaGreatDoorTrO9
import Derived.Test.YtfnklhajafmooaaGreatDoorTrOa
import Derived.Test.YtfnklhajafmooaaGreatDoorTrAq
namespace Go.Proofs.YtfnklhajafmooaaGreatDoor.Tr
open Go.RowKit Go.Lib Go.Deep Go.Proofs.Tryz
theorem do1 (w:World)(b q:Nat)(F:List Nat)(nn:Nat)(T:Ts)(dp:Nat->Nat)(oa on:Int)(op ot od:ByteArray)(hbk:w.heap[b]?=some (.cells #[.pointer (some ⟨q,0,none⟩)] 94 (0,0)))(hL:Lay w q F nn T)(hv:Inv T dp)(hnn:nn<=8796093022207)(_hoa:oa<=9223372036854775807)(_hod:od.size<=9223372036854775807) :
 Calls prog 17 #[.pointer (some ⟨b,0,none⟩),.agg #[.int .i64 1,.string op,.string ot,.int .i64 oa,.int .i64 on,.string od]] w fun e w'=>Did F w w' q (nn+1) (doT T ⟨1,op,ot,oa,on,od⟩) e:=by
 have hE:askE ⟨1,op,ot,oa,on,od⟩=if Pa.jA9 op≠0 then Pa.jA9 op else 0:=by unfold askE;simp
 refine jH4 w b q F nn T _ (if Pa.jA9 op≠0 then Pa.jA9 op else 0) 85 false false false 1 oa on op ot od hbk hL (fun V=>asked0 V 85 1 oa on op ot od (by omega) (by omega) row1) (fun _ _=>by kernel_rfl) (fun h0 V sa n sc ta tn tc hb hs ht=>?_) (fun h0=>?_)
 ·rw[<-hE] at h0
  obtain ⟨_,_,h3,h4,h5,h6⟩:=jF1 h0
  obtain ⟨h1,h2⟩:=jF5 h3
  have e:doT T ⟨1,op,ot,oa,on,od⟩=mkdT T (Pa.jB3 op):=by
   unfold doT
   rw[if_neg (fun h=>h h0)]
   simp
  rw[e]
  exact mkdir_any V q F nn T dp (hL.below hb) hv _ sa n sc hs h1 h2 1 oa on op ot od ta tn tc (by unfold maxLen;omega)
 ·rw[<-hE] at h0 ⊢
  unfold doT
  rw[if_pos h0]
theorem do2 (w:World)(b q:Nat)(F:List Nat)(nn:Nat)(T:Ts)(dp:Nat->Nat)(oa on:Int)(op ot od:ByteArray)(hbk:w.heap[b]?=some (.cells #[.pointer (some ⟨q,0,none⟩)] 94 (0,0)))(hL:Lay w q F nn T)(hv:Inv T dp)(hnn:nn<=8796093022207)(_hoa:oa<=9223372036854775807)(_hod:od.size<=9223372036854775807) :
 Calls prog 17 #[.pointer (some ⟨b,0,none⟩),.agg #[.int .i64 2,.string op,.string ot,.int .i64 oa,.int .i64 on,.string od]] w fun e w'=>Did F w w' q (nn+1) (doT T ⟨2,op,ot,oa,on,od⟩) e:=by
 have hE:askE ⟨2,op,ot,oa,on,od⟩=if Pa.jA9 op≠0 then Pa.jA9 op else 0:=by unfold askE;simp
 refine jH4 w b q F nn T _ (if Pa.jA9 op≠0 then Pa.jA9 op else 0) 86 false false false 2 oa on op ot od hbk hL (fun V=>asked0 V 86 2 oa on op ot od (by omega) (by omega) row2) (fun _ _=>by kernel_rfl) (fun h0 V sa n sc ta tn tc hb hs ht=>?_) (fun h0=>?_)
 ·rw[<-hE] at h0
  obtain ⟨_,_,h3,h4,h5,h6⟩:=jF1 h0
  obtain ⟨h1,h2⟩:=jF5 h3
  have e:doT T ⟨2,op,ot,oa,on,od⟩=creT T (Pa.jB3 op):=by
   unfold doT
   rw[if_neg (fun h=>h h0)]
   simp
  rw[e]
  exact create_any V q F nn T dp (hL.below hb) hv _ sa n sc hs h1 h2 2 oa on op ot od ta tn tc (by unfold maxLen;omega)
 ·rw[<-hE] at h0 ⊢
  unfold doT
  rw[if_pos h0]
theorem do3 (w:World)(b q:Nat)(F:List Nat)(nn:Nat)(T:Ts)(dp:Nat->Nat)(oa on:Int)(op ot od:ByteArray)(hbk:w.heap[b]?=some (.cells #[.pointer (some ⟨q,0,none⟩)] 94 (0,0)))(hL:Lay w q F nn T)(hv:Inv T dp)(_hnn:nn<=8796093022207)(hoa:oa<=9223372036854775807)(_hod:od.size<=9223372036854775807) :
 Calls prog 17 #[.pointer (some ⟨b,0,none⟩),.agg #[.int .i64 3,.string op,.string ot,.int .i64 oa,.int .i64 on,.string od]] w fun e w'=>Did F w w' q (nn+1) (doT T ⟨3,op,ot,oa,on,od⟩) e:=by
 have hE:askE ⟨3,op,ot,oa,on,od⟩=if Pa.jA9 op≠0 then Pa.jA9 op else if oa<0\/on<0 then 1 else 0:=by unfold askE;simp
 refine jH4 w b q F nn T _ (if Pa.jA9 op≠0 then Pa.jA9 op else if oa<0\/on<0 then 1 else 0) 87 false true true 3 oa on op ot od hbk hL (fun V=>asked3 V 87 3 oa on op ot od (by omega) (by omega) row3) (fun _ _=>by kernel_rfl) (fun h0 V sa n sc ta tn tc hb hs ht=>?_) (fun h0=>?_)
 ·rw[<-hE] at h0
  obtain ⟨_,_,h3,h4,h5,h6⟩:=jF1 h0
  obtain ⟨h1,h2⟩:=jF5 h3
  have e:doT T ⟨3,op,ot,oa,on,od⟩=reaT T (Pa.jB3 op) ⟨3,op,ot,oa,on,od⟩:=by
   unfold doT
   rw[if_neg (fun h=>h h0)]
   simp
  rw[e]
  exact read_any V q F nn T dp (hL.below hb) hv _ sa n sc hs h1 h2 3 oa on op ot od ta tn tc (h6 (.inl rfl)) (h5 (.inl rfl)) hoa
 ·rw[<-hE] at h0 ⊢
  unfold doT
  rw[if_pos h0]
theorem do4 (w:World)(b q:Nat)(F:List Nat)(nn:Nat)(T:Ts)(dp:Nat->Nat)(oa on:Int)(op ot od:ByteArray)(hbk:w.heap[b]?=some (.cells #[.pointer (some ⟨q,0,none⟩)] 94 (0,0)))(hL:Lay w q F nn T)(hv:Inv T dp)(_hnn:nn<=8796093022207)(hoa:oa<=9223372036854775807)(hod:od.size<=9223372036854775807) :
 Calls prog 17 #[.pointer (some ⟨b,0,none⟩),.agg #[.int .i64 4,.string op,.string ot,.int .i64 oa,.int .i64 on,.string od]] w fun e w'=>Did F w w' q (nn+1) (doT T ⟨4,op,ot,oa,on,od⟩) e:=by
 have hE:askE ⟨4,op,ot,oa,on,od⟩=if Pa.jA9 op≠0 then Pa.jA9 op else if oa<0 then 1 else 0:=by unfold askE;simp
 refine jH4 w b q F nn T _ (if Pa.jA9 op≠0 then Pa.jA9 op else if oa<0 then 1 else 0) 88 false true false 4 oa on op ot od hbk hL (fun V=>asked4 V 88 4 oa on op ot od (by omega) (by omega) row4) (fun _ _=>by kernel_rfl) (fun h0 V sa n sc ta tn tc hb hs ht=>?_) (fun h0=>?_)
 ·rw[<-hE] at h0
  obtain ⟨_,_,h3,h4,h5,h6⟩:=jF1 h0
  obtain ⟨h1,h2⟩:=jF5 h3
  have e:doT T ⟨4,op,ot,oa,on,od⟩=wriT T (Pa.jB3 op) ⟨4,op,ot,oa,on,od⟩:=by
   unfold doT
   rw[if_neg (fun h=>h h0)]
   simp
  rw[e]
  exact write_any V q F nn T dp (hL.below hb) hv _ sa n sc hs h1 h2 4 oa on op ot od ta tn tc (h5 (.inr rfl)) hoa hod
 ·rw[<-hE] at h0 ⊢
  unfold doT
  rw[if_pos h0]
theorem do5 (w:World)(b q:Nat)(F:List Nat)(nn:Nat)(T:Ts)(dp:Nat->Nat)(oa on:Int)(op ot od:ByteArray)(hbk:w.heap[b]?=some (.cells #[.pointer (some ⟨q,0,none⟩)] 94 (0,0)))(hL:Lay w q F nn T)(hv:Inv T dp)(_hnn:nn<=8796093022207)(_hoa:oa<=9223372036854775807)(_hod:od.size<=9223372036854775807) :
 Calls prog 17 #[.pointer (some ⟨b,0,none⟩),.agg #[.int .i64 5,.string op,.string ot,.int .i64 oa,.int .i64 on,.string od]] w fun e w'=>Did F w w' q (nn+1) (doT T ⟨5,op,ot,oa,on,od⟩) e:=by
 have hE:askE ⟨5,op,ot,oa,on,od⟩=if Pa.jA9 op≠0 then Pa.jA9 op else if on<0 then 1 else 0:=by unfold askE;simp
 refine jH4 w b q F nn T _ (if Pa.jA9 op≠0 then Pa.jA9 op else if on<0 then 1 else 0) 89 false false true 5 oa on op ot od hbk hL (fun V=>asked5 V 89 5 oa on op ot od (by omega) (by omega) row5) (fun _ _=>by kernel_rfl) (fun h0 V sa n sc ta tn tc hb hs ht=>?_) (fun h0=>?_)
 ·rw[<-hE] at h0
  obtain ⟨_,_,h3,h4,h5,h6⟩:=jF1 h0
  obtain ⟨h1,h2⟩:=jF5 h3
  have e:doT T ⟨5,op,ot,oa,on,od⟩=cutT T (Pa.jB3 op) ⟨5,op,ot,oa,on,od⟩:=by
   unfold doT
   rw[if_neg (fun h=>h h0)]
   simp
  rw[e]
  exact cut_any V q F nn T dp (hL.below hb) hv _ sa n sc hs h1 h2 5 oa on op ot od ta tn tc (h6 (.inr rfl))
 ·rw[<-hE] at h0 ⊢
  unfold doT
  rw[if_pos h0]
theorem do6 (w:World)(b q:Nat)(F:List Nat)(nn:Nat)(T:Ts)(dp:Nat->Nat)(oa on:Int)(op ot od:ByteArray)(hbk:w.heap[b]?=some (.cells #[.pointer (some ⟨q,0,none⟩)] 94 (0,0)))(hL:Lay w q F nn T)(hv:Inv T dp)(hnn:nn<=8796093022207)(_hoa:oa<=9223372036854775807)(_hod:od.size<=9223372036854775807) :
 Calls prog 17 #[.pointer (some ⟨b,0,none⟩),.agg #[.int .i64 6,.string op,.string ot,.int .i64 oa,.int .i64 on,.string od]] w fun e w'=>Did F w w' q (nn+1) (doT T ⟨6,op,ot,oa,on,od⟩) e:=by
 have hE:askE ⟨6,op,ot,oa,on,od⟩=if Pa.jA9 op≠0 then Pa.jA9 op else if Pa.jA9 ot≠0 then Pa.jA9 ot else 0:=by unfold askE;simp
 refine jH4 w b q F nn T _ (if Pa.jA9 op≠0 then Pa.jA9 op else if Pa.jA9 ot≠0 then Pa.jA9 ot else 0) 90 true false false 6 oa on op ot od hbk hL (fun V=>asked6 V 90 6 oa on op ot od (by omega) (by omega) row6) (fun _ _=>by kernel_rfl) (fun h0 V sa n sc ta tn tc hb hs ht=>?_) (fun h0=>?_)
 ·rw[<-hE] at h0
  obtain ⟨_,_,h3,h4,h5,h6⟩:=jF1 h0
  obtain ⟨h1,h2⟩:=jF5 h3
  have e:doT T ⟨6,op,ot,oa,on,od⟩=renT T (Pa.jB3 op) (Pa.jB3 ot):=by
   unfold doT
   rw[if_neg (fun h=>h h0)]
   simp
  rw[e]
  exact rename_any V q F nn T dp (hL.below hb) hv _ sa n sc hs h1 h2 6 oa on op ot od ta tn tc _ (ht rfl) (jF5 (h4 rfl)).1 (jF5 (h4 rfl)).2 (by unfold maxLen;omega)
 ·rw[<-hE] at h0 ⊢
  unfold doT
  rw[if_pos h0]
theorem do7 (w:World)(b q:Nat)(F:List Nat)(nn:Nat)(T:Ts)(dp:Nat->Nat)(oa on:Int)(op ot od:ByteArray)(hbk:w.heap[b]?=some (.cells #[.pointer (some ⟨q,0,none⟩)] 94 (0,0)))(hL:Lay w q F nn T)(hv:Inv T dp)(_hnn:nn<=8796093022207)(_hoa:oa<=9223372036854775807)(_hod:od.size<=9223372036854775807) :
 Calls prog 17 #[.pointer (some ⟨b,0,none⟩),.agg #[.int .i64 7,.string op,.string ot,.int .i64 oa,.int .i64 on,.string od]] w fun e w'=>Did F w w' q (nn+1) (doT T ⟨7,op,ot,oa,on,od⟩) e:=by
 have hE:askE ⟨7,op,ot,oa,on,od⟩=if Pa.jA9 op≠0 then Pa.jA9 op else 0:=by unfold askE;simp
 refine jH4 w b q F nn T _ (if Pa.jA9 op≠0 then Pa.jA9 op else 0) 91 false false false 7 oa on op ot od hbk hL (fun V=>asked0 V 91 7 oa on op ot od (by omega) (by omega) row7) (fun _ _=>by kernel_rfl) (fun h0 V sa n sc ta tn tc hb hs ht=>?_) (fun h0=>?_)
 ·rw[<-hE] at h0
  obtain ⟨_,_,h3,h4,h5,h6⟩:=jF1 h0
  obtain ⟨h1,h2⟩:=jF5 h3
  have e:doT T ⟨7,op,ot,oa,on,od⟩=remT T (Pa.jB3 op):=by
   unfold doT
   rw[if_neg (fun h=>h h0)]
   simp
  rw[e]
  exact remove_any V q F nn T dp (hL.below hb) hv _ sa n sc hs h1 h2 7 oa on op ot od ta tn tc
 ·rw[<-hE] at h0 ⊢
  unfold doT
  rw[if_pos h0]
theorem do8 (w:World)(b q:Nat)(F:List Nat)(nn:Nat)(T:Ts)(dp:Nat->Nat)(oa on:Int)(op ot od:ByteArray)(hbk:w.heap[b]?=some (.cells #[.pointer (some ⟨q,0,none⟩)] 94 (0,0)))(hL:Lay w q F nn T)(hv:Inv T dp)(_hnn:nn<=8796093022207)(_hoa:oa<=9223372036854775807)(_hod:od.size<=9223372036854775807) :
 Calls prog 17 #[.pointer (some ⟨b,0,none⟩),.agg #[.int .i64 8,.string op,.string ot,.int .i64 oa,.int .i64 on,.string od]] w fun e w'=>Did F w w' q (nn+1) (doT T ⟨8,op,ot,oa,on,od⟩) e:=by
 have hE:askE ⟨8,op,ot,oa,on,od⟩=if Pa.jA9 op≠0 then Pa.jA9 op else 0:=by unfold askE;simp
 refine jH4 w b q F nn T _ (if Pa.jA9 op≠0 then Pa.jA9 op else 0) 92 false false false 8 oa on op ot od hbk hL (fun V=>asked0 V 92 8 oa on op ot od (by omega) (by omega) row8) (fun _ _=>by kernel_rfl) (fun h0 V sa n sc ta tn tc hb hs ht=>?_) (fun h0=>?_)
 ·rw[<-hE] at h0
  obtain ⟨_,_,h3,h4,h5,h6⟩:=jF1 h0
  obtain ⟨h1,h2⟩:=jF5 h3
  have e:doT T ⟨8,op,ot,oa,on,od⟩=rmdT T (Pa.jB3 op):=by
   unfold doT
   rw[if_neg (fun h=>h h0)]
   simp
  rw[e]
  exact rmdir_any V q F nn T dp (hL.below hb) hv _ sa n sc hs h1 h2 8 oa on op ot od ta tn tc
 ·rw[<-hE] at h0 ⊢
  unfold doT
  rw[if_pos h0]
theorem do9 (w:World)(b q:Nat)(F:List Nat)(nn:Nat)(T:Ts)(dp:Nat->Nat)(oa on:Int)(op ot od:ByteArray)(hbk:w.heap[b]?=some (.cells #[.pointer (some ⟨q,0,none⟩)] 94 (0,0)))(hL:Lay w q F nn T)(hv:Inv T dp)(hnn:nn<=8796093022207)(_hoa:oa<=9223372036854775807)(_hod:od.size<=9223372036854775807) :
 Calls prog 17 #[.pointer (some ⟨b,0,none⟩),.agg #[.int .i64 9,.string op,.string ot,.int .i64 oa,.int .i64 on,.string od]] w fun e w'=>Did F w w' q (nn+1) (doT T ⟨9,op,ot,oa,on,od⟩) e:=by
 have hE:askE ⟨9,op,ot,oa,on,od⟩=if Pa.jA9 op≠0 then Pa.jA9 op else 0:=by unfold askE;simp
 refine jH4 w b q F nn T _ (if Pa.jA9 op≠0 then Pa.jA9 op else 0) 93 false false false 9 oa on op ot od hbk hL (fun V=>asked0 V 93 9 oa on op ot od (by omega) (by omega) row9) (fun _ _=>by kernel_rfl) (fun h0 V sa n sc ta tn tc hb hs ht=>?_) (fun h0=>?_)
 ·rw[<-hE] at h0
  obtain ⟨_,_,h3,h4,h5,h6⟩:=jF1 h0
  obtain ⟨h1,h2⟩:=jF5 h3
  have e:doT T ⟨9,op,ot,oa,on,od⟩=lisT T (Pa.jB3 op):=by
   unfold doT
   rw[if_neg (fun h=>h h0)]
   simp
  rw[e]
  exact jMx V q F nn T dp (hL.below hb) hv _ sa n sc hs h1 h2 9 oa on op ot od ta tn tc hnn
 ·rw[<-hE] at h0 ⊢
  unfold doT
  rw[if_pos h0]
theorem do10 (w:World)(b q:Nat)(F:List Nat)(nn:Nat)(T:Ts)(dp:Nat->Nat)(oa on:Int)(op ot od:ByteArray)(hbk:w.heap[b]?=some (.cells #[.pointer (some ⟨q,0,none⟩)] 94 (0,0)))(hL:Lay w q F nn T)(hv:Inv T dp)(_hnn:nn<=8796093022207)(_hoa:oa<=9223372036854775807)(_hod:od.size<=9223372036854775807) :
 Calls prog 17 #[.pointer (some ⟨b,0,none⟩),.agg #[.int .i64 10,.string op,.string ot,.int .i64 oa,.int .i64 on,.string od]] w fun e w'=>Did F w w' q (nn+1) (doT T ⟨10,op,ot,oa,on,od⟩) e:=by
 have hE:askE ⟨10,op,ot,oa,on,od⟩=if Pa.jA9 op≠0 then Pa.jA9 op else 0:=by unfold askE;simp
 refine jH4 w b q F nn T _ (if Pa.jA9 op≠0 then Pa.jA9 op else 0) 94 false false false 10 oa on op ot od hbk hL (fun V=>asked0 V 94 10 oa on op ot od (by omega) (by omega) row10) (fun _ _=>by kernel_rfl) (fun h0 V sa n sc ta tn tc hb hs ht=>?_) (fun h0=>?_)
 ·rw[<-hE] at h0
  obtain ⟨_,_,h3,h4,h5,h6⟩:=jF1 h0
  obtain ⟨h1,h2⟩:=jF5 h3
  have e:doT T ⟨10,op,ot,oa,on,od⟩=staT T (Pa.jB3 op):=by
   unfold doT
   rw[if_neg (fun h=>h h0)]
   simp
  rw[e]
  exact stat_any V q F nn T dp (hL.below hb) hv _ sa n sc hs h1 h2 10 oa on op ot od ta tn tc
 ·rw[<-hE] at h0 ⊢
  unfold doT
  rw[if_pos h0]
theorem do_any (w:World)(b q:Nat)(F:List Nat)(nn:Nat)(T:Ts)(dp:Nat->Nat)(o:Op)(hbk:w.heap[b]?=some (.cells #[.pointer (some ⟨q,0,none⟩)] 94 (0,0)))(hL:Lay w q F nn T)(hv:Inv T dp)(hnn:nn<=8796093022207)(hoa:o.at_<=9223372036854775807)(hod:o.data.size<=9223372036854775807) :
 Calls prog 17 #[.pointer (some ⟨b,0,none⟩),.agg #[.int .i64 o.kind,.string o.path,.string o.to_,.int .i64 o.at_,.int .i64 o.n,.string o.data]] w fun e w'=>Did F w w' q (nn+1) (doT T o) e:=by
 obtain ⟨ok,op,ot,oa,on,od⟩:=o
 by_cases h1:ok<1
 ·have hE:askE ⟨ok,op,ot,oa,on,od⟩=127:=by unfold askE;rw[if_pos (.inl h1)]
  refine jH4 w b q F nn T _ 127 85 false false false ok oa on op ot od hbk hL (fun V=>askedL V _ _ _ _ ok oa on op ot od h1) (fun _ _=>by kernel_rfl) (fun h0=>absurd h0 (by omega)) (fun _=>?_)
  unfold doT
  rw[hE,if_pos (by omega)]
 ·by_cases h2:10<ok
  ·have hE:askE ⟨ok,op,ot,oa,on,od⟩=127:=by unfold askE;rw[if_pos (.inr h2)]
   refine jH4 w b q F nn T _ 127 85 false false false ok oa on op ot od hbk hL (fun V=>askedG V _ _ _ _ ok oa on op ot od h2) (fun _ _=>by kernel_rfl) (fun h0=>absurd h0 (by omega)) (fun _=>?_)
   unfold doT
   rw[hE,if_pos (by omega)]
  ·have h3:ok=1\/ok=2\/ok=3\/ok=4\/ok=5\/ok=6\/ok=7\/ok=8\/ok=9\/ok=10:=by omega
   rcases h3 with rfl | rfl | rfl | rfl | rfl | rfl | rfl | rfl | rfl | rfl
   ·exact do1 w b q F nn T dp oa on op ot od hbk hL hv hnn hoa hod
   ·exact do2 w b q F nn T dp oa on op ot od hbk hL hv hnn hoa hod
   ·exact do3 w b q F nn T dp oa on op ot od hbk hL hv hnn hoa hod
   ·exact do4 w b q F nn T dp oa on op ot od hbk hL hv hnn hoa hod
   ·exact do5 w b q F nn T dp oa on op ot od hbk hL hv hnn hoa hod
   ·exact do6 w b q F nn T dp oa on op ot od hbk hL hv hnn hoa hod
   ·exact do7 w b q F nn T dp oa on op ot od hbk hL hv hnn hoa hod
   ·exact do8 w b q F nn T dp oa on op ot od hbk hL hv hnn hoa hod
   ·exact do9 w b q F nn T dp oa on op ot od hbk hL hv hnn hoa hod
   ·exact do10 w b q F nn T dp oa on op ot od hbk hL hv hnn hoa hod
theorem jI6:∀(l:List Nd) (i:Nat) (x:Nd),l[i]?=some x->∀j,j<5->(ndsc l)[i*5+j]?=(ndc x)[j]?
 | [],i,x,h,j,hj=>by cases h
 | a :: l,0,x,h,j,hj=>by
   simp only[List.getElem?_cons_zero,Option.some.injEq] at h
   subst h
   rw[Nat.zero_mul,Nat.zero_add]
   show (ndc a++ndsc l)[j]?=_
   rw[List.getElem?_append_left (by simpa[ndc] using hj)]
 | a :: l,i+1,x,h,j,hj=>by
   rw[List.getElem?_cons_succ] at h
   show (ndc a++ndsc l)[(i+1)*5+j]?=_
   rw[Qd (by simp[ndc];omega),show (i+1)*5+j-(ndc a).length=i*5+j by simp[ndc];omega]
   exact jI6 l i x h j hj
theorem jKy {w:World}{B g cap n:Nat}{l:List Nd}(h:w.ownsRow B 91 5 (.slice (some ⟨g,0,none⟩) n cap) n (ndsc l))(hn:n=l.length){i:Nat}{x:Nd}(hi:l[i]?=some x):w.cell? ⟨g,i*5,none⟩=some (.int .i64 (x.kind:Int))/\w.cell? ⟨g,i*5+1,none⟩=some (.int .i64 (x.number:Int))/\w.cell? ⟨g,i*5+2,none⟩=some (.int .i64 (x.parent:Int))/\w.cell? ⟨g,i*5+3,none⟩=some (.string x.name)/\w.cell? ⟨g,i*5+4,none⟩=some (.int .i64 (x.size:Int)):=by
 have hl:=(QV.1 hi).1
 refine ⟨?_,?_,?_,?_,?_⟩
 ·rw[h.cellAt (i*5) (by omega)];exact jI6 l i x hi 0 (by omega)
 ·rw[h.cellAt (i*5+1) (by omega)];exact jI6 l i x hi 1 (by omega)
 ·rw[h.cellAt (i*5+2) (by omega)];exact jI6 l i x hi 2 (by omega)
 ·rw[h.cellAt (i*5+3) (by omega)];exact jI6 l i x hi 3 (by omega)
 ·rw[h.cellAt (i*5+4) (by omega)];exact jI6 l i x hi 4 (by omega)
def Room (A T:Ts):Prop:=A.fr=T.fr/\A.dr=T.dr/\A.most=T.most
theorem Room.rfl' (T:Ts):Room T T:=⟨rfl,rfl,rfl⟩
theorem mov_room {T:Ts}{a b:Sp}:Room (movT T a b) T:=by
 unfold movT
 split
 ·exact ⟨rfl,rfl,rfl⟩
 ·exact ⟨rfl,rfl,rfl⟩
theorem mkd_room {T:Ts}{L:List ByteArray}:Room (mkdT T L).2.2 T:=by
 unfold mkdT
 repeat' split
 all_goals first
  | exact ⟨rfl,rfl,rfl⟩
  | (dsimp only;split <;> exact ⟨rfl,rfl,rfl⟩)
theorem cre_room {T:Ts}{L:List ByteArray}:Room (creT T L).2.2 T:=by
 unfold creT
 repeat' split
 all_goals first
  | exact ⟨rfl,rfl,rfl⟩
  | (dsimp only;split <;> exact ⟨rfl,rfl,rfl⟩)
theorem rea_room {T:Ts}{L:List ByteArray}{o:Op}:Room (reaT T L o).2.2 T:=by
 unfold reaT
 repeat' split
 all_goals first
  | exact ⟨rfl,rfl,rfl⟩
  | (dsimp only;split <;> exact ⟨rfl,rfl,rfl⟩)
theorem wri_room {T:Ts}{L:List ByteArray}{o:Op}:Room (wriT T L o).2.2 T:=by
 unfold wriT
 repeat' split
 all_goals first
  | exact ⟨rfl,rfl,rfl⟩
  | (dsimp only;split <;> exact ⟨rfl,rfl,rfl⟩)
theorem cut_room {T:Ts}{L:List ByteArray}{o:Op}:Room (cutT T L o).2.2 T:=by
 unfold cutT
 repeat' split
 all_goals first
  | exact ⟨rfl,rfl,rfl⟩
  | (dsimp only;split <;> exact ⟨rfl,rfl,rfl⟩)
theorem rem_room {T:Ts}{L:List ByteArray}:Room (remT T L).2.2 T:=by
 unfold remT
 repeat' split
 all_goals first
  | exact ⟨rfl,rfl,rfl⟩
  | (dsimp only;split <;> exact ⟨rfl,rfl,rfl⟩)
theorem rmd_room {T:Ts}{L:List ByteArray}:Room (rmdT T L).2.2 T:=by
 unfold rmdT
 repeat' split
 all_goals first
  | exact ⟨rfl,rfl,rfl⟩
  | (dsimp only;split <;> exact ⟨rfl,rfl,rfl⟩)
theorem lis_room {T:Ts}{L:List ByteArray}:Room (lisT T L).2.2 T:=by
 unfold lisT
 repeat' split
 all_goals first
  | exact ⟨rfl,rfl,rfl⟩
  | (dsimp only;split <;> exact ⟨rfl,rfl,rfl⟩)
theorem sta_room {T:Ts}{L:List ByteArray}:Room (staT T L).2.2 T:=by
 unfold staT
 repeat' split
 all_goals first
  | exact ⟨rfl,rfl,rfl⟩
  | (dsimp only;split <;> exact ⟨rfl,rfl,rfl⟩)
theorem ren_room {T:Ts}{P Q:List ByteArray}:Room (renT T P Q).2.2 T:=by
 unfold renT
 split
 ·exact ⟨rfl,rfl,rfl⟩
 split
 ·exact ⟨rfl,rfl,rfl⟩
 split
 ·exact ⟨rfl,rfl,rfl⟩
 split
 ·exact mov_room
 ·exact mov_room
theorem do_room {T:Ts}{o:Op}:Room (doT T o).2.2 T:=by
 unfold doT
 split
 ·exact ⟨rfl,rfl,rfl⟩
 split
 ·exact mkd_room
 split
 ·exact cre_room
 split
 ·exact rea_room
 split
 ·exact wri_room
 split
 ·exact cut_room
 split
 ·exact ren_room
 split
 ·exact rem_room
 split
 ·exact rmd_room
 split
 ·exact lis_room
 ·exact sta_room
structure IsO (w:World)(a:Option Addr)(len:Nat)(O:List Op):Prop where
 hl:O.length=len
 at_:∀i o,O[i]?=some o->∃pb po,a=some ⟨pb,po,none⟩/\pb<w.heap.size/\w.cell? ⟨pb,po+i*6,none⟩=some (.int .i64 o.kind)/\w.cell? ⟨pb,po+i*6+1,none⟩=some (.string o.path)/\w.cell? ⟨pb,po+i*6+2,none⟩=some (.string o.to_)/\w.cell? ⟨pb,po+i*6+3,none⟩=some (.int .i64 o.at_)/\w.cell? ⟨pb,po+i*6+4,none⟩=some (.int .i64 o.n)/\w.cell? ⟨pb,po+i*6+5,none⟩=some (.string o.data)
 bd:∀o∈O,o.at_<=9223372036854775807/\o.data.size<=9223372036854775807
theorem IsO.below {w W:World}{a:Option Addr}{len:Nat}{O:List Op}(h:IsO w a len O)(hb:Below w.heap.size w W):IsO W a len O:=⟨h.hl,fun i o ho=>by
 obtain ⟨pb,po,e,hp,c0,c1,c2,c3,c4,c5⟩:=h.at_ i o ho
 exact ⟨pb,po,e,Qx hp hb.size,(hb.cell hp).trans c0,(hb.cell hp).trans c1,(hb.cell hp).trans c2,(hb.cell hp).trans c3,(hb.cell hp).trans c4,(hb.cell hp).trans c5⟩,h.bd⟩
theorem told_len {w:World}{q:Nat}{F:List Nat}{nn:Nat}{T:Ts}(h:Lay w q F nn T):(told T).length<=1000000:=by
 obtain ⟨dv,fv,ld,lf,ms,-,hI⟩:=h
 have h1:=hI.dl
 have h2:=hI.fl
 have h3:=hI.lim
 unfold told toldD toldF
 rw[List.length_append]
 have e1:=List.length_filterMap_le (fun r:Option (Nat × ByteArray) × Nat=>r.1.map fun d=>(⟨1,r.2,d.1,d.2,0⟩:Nd)) (T.D.zipIdx.drop 1)
 have e2:=List.length_filterMap_le (fun r:Option (Nat × ByteArray × Nat) × Nat=>r.1.map fun f=>(⟨2,r.2,f.1,f.2.1,f.2.2⟩:Nd)) T.F.zipIdx
 simp only[List.length_drop,List.length_zipIdx] at e1 e2
 omega
theorem jKz (w:World)(B b q nn:Nat)(T:Ts)(h:Tre w B b q nn T)(hdr:1<=T.dr):Calls prog 21 #[.pointer (some ⟨b,0,none⟩)] w fun e w'=>∃a c,e=.returned (.agg #[.int .i64 (T.fr:Int),.int .i64 ((T.dr:Int)-1),.slice a (told T).length c])/\Hid (w'.ownsRow w.heap.size 91 5 (.slice a (told T).length c) (told T).length (ndsc (told T)))/\Below w.heap.size w w'/\(told T).length<=1000000:=by
 obtain ⟨F,hL,hF⟩:=h.lay
 refine (jH9 w b q F nn T h.hb hL hdr).mono ?_
 rintro e w' ⟨a,k,c,rfl,HO,hb⟩
 have hk:k=(told T).length:=by
  rcases HO.out.2 with ⟨e1,e2⟩ | ⟨g,cap,cur,e1,_⟩
  ·injection e1 with _ e1 _;omega
  ·injection e1
 subst hk
 exact ⟨a,c,rfl,HO,hb,told_len hL⟩
