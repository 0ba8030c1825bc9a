import Derived.Test.YtfnklhajafmooaaGreatDoorG01
import Derived.Laws.AppendOwnNone
set_option maxRecDepth 20000
namespace Go.Proofs.YtfnklhajafmooaaGreatDoor.Pa
open Go.RowKit Go.Lib Go.Proofs.Tryz
def step (c:UInt8)(s:List (List UInt8) × List UInt8)(x:UInt8):List (List UInt8) × List UInt8:=if x=c then (s.1++[s.2],[]) else (s.1,s.2++[x])
def cutS (c:UInt8)(l:List UInt8):List (List UInt8) × List UInt8:=l.foldl (step c) ([],[])
def glue (c:UInt8)(ps:List (List UInt8)):List UInt8:=(ps.map fun p=>p++[c]).flatten
theorem glue_append (c:UInt8)(a b:List (List UInt8)):glue c (a++b)=glue c a++glue c b:=by simp[glue]
theorem jNj (c:UInt8)(a:List UInt8)(b:List (List UInt8)):glue c (a :: b)=a++[c]++glue c b:=by simp[glue]
theorem fold_cut (c:UInt8)(l:List UInt8)(ps:List (List UInt8))(r:List UInt8)(hp:∀p∈ps,c ∉ p)(hr:c ∉ r) :
 glue c (l.foldl (step c) (ps,r)).1++(l.foldl (step c) (ps,r)).2=glue c ps++r++l/\(∀p∈(l.foldl (step c) (ps,r)).1,c ∉ p)/\c ∉ (l.foldl (step c) (ps,r)).2:=by
 induction l generalizing ps r with
 | nil=>exact ⟨by simp,hp,hr⟩
 | cons x l ih =>
   rw[List.foldl_cons]
   by_cases h:x=c
   ·have e:step c (ps,r) x=(ps++[r],[]):=by simp[step,h]
    rw[e]
    obtain ⟨h1,h2,h3⟩:=ih (ps++[r]) [] (fun p hp'=>by
     rcases List.mem_append.1 hp' with h' | h'
     ·exact hp p h'
     ·simp at h';subst h';exact hr) (by simp)
    refine ⟨?_,h2,h3⟩
    rw[h1,glue_append,h]
    simp[glue]
   ·have e:step c (ps,r) x=(ps,r++[x]):=by simp[step,h]
    rw[e]
    obtain ⟨h1,h2,h3⟩:=ih ps (r++[x]) hp (by simp;exact ⟨hr,fun e=>h e.symm⟩)
    exact ⟨by rw[h1];simp,h2,h3⟩
theorem cut_glue (c:UInt8)(l:List UInt8):glue c (cutS c l).1++(cutS c l).2=l/\(∀p∈(cutS c l).1,c ∉ p)/\c ∉ (cutS c l).2:=by
 have h:=fold_cut c l [] [] (by simp) (by simp)
 rw[show glue c []++[]++l=l by simp[glue]] at h
 exact h
def nb (b:UInt8):Bool:=decide (33<=b.toNat) && decide (b.toNat<=126) && decide (b.toNat≠47)
def isN (l:List UInt8):Bool:=decide (1<=l.length) && decide (l.length<=32) && decide (l≠[46]) && decide (l≠[46,46]) && l.all nb
def nm (s:ByteArray):Bool:=isN s.data.toList
def nameE (s:ByteArray):Int:=if nm s=true then 0 else 111
def jH5 (L:List ByteArray):Int:=if L.all nm=true then (if L.length<=16 then 0 else 112) else 111
def jEy (t:List UInt8):List (List UInt8):=(cutS 47 t).1++[(cutS 47 t).2]
def jFj (t:List UInt8):Bool:=decide (t.length<=1024) && decide (t.head?=some 47) && (decide (t=[47]) || decide (t.getLast?≠some 47))
def pcs (s:ByteArray):List ByteArray:=(jEy s.data.toList.tail).map str
def jA9 (s:ByteArray):Int:=if jFj s.data.toList=true then (if s.data.toList=[47] then 0 else jH5 (pcs s)) else 110
def jB3 (s:ByteArray):List ByteArray:=if jA9 s=0 then (if s.data.toList=[47] then [] else pcs s) else []
def slashed (L:List ByteArray):List UInt8:=(L.map fun s=>47 :: s.data.toList).flatten
def textL (L:List ByteArray):List UInt8:=if L=[] then [47] else slashed L
def textY (L:List ByteArray):ByteArray:=if jH5 L=0 then str (textL L) else str []
theorem nm_free {s:ByteArray}(h:nm s=true):(47:UInt8) ∉ s.data.toList/\s.data.toList≠[]/\s.data.toList.length<=32:=by
 simp only[nm,isN,Bool.and_eq_true,decide_eq_true_eq] at h
 obtain ⟨⟨⟨⟨h1,h2⟩,_⟩,_⟩,h5⟩:=h
 refine ⟨fun hm=>?_,fun e=>by rw[e] at h1;simp at h1,h2⟩
 have:=List.all_eq_true.1 h5 _ hm
 simp[nb] at this
theorem fault_zero {L:List ByteArray}:jH5 L=0↔L.all nm=true/\L.length<=16:=by
 unfold jH5
 by_cases h1:L.all nm=true
 ·rw[if_pos h1]
  by_cases h2:L.length<=16
  ·rw[if_pos h2];exact ⟨fun _=>⟨h1,h2⟩,fun _=>rfl⟩
  ·rw[if_neg h2];exact ⟨fun h=>(by cases h),fun h=>absurd h.2 h2⟩
 ·rw[if_neg h1];exact ⟨fun h=>(by cases h),fun h=>absurd h.1 h1⟩
theorem fault_nil:jH5 []=0:=rfl
theorem glue_slash (c:UInt8)(ps:List (List UInt8))(r:List UInt8):c :: (glue c ps++r)=((ps++[r]).map (c :: ·)).flatten:=by
 induction ps with
 | nil=>simp[glue]
 | cons a ps ih =>
   rw[jNj,List.cons_append,List.map_cons,List.flatten_cons,<-ih]
   simp
theorem sl_pieces (t:List UInt8):((jEy t).map (47 :: ·)).flatten=47 :: t/\∀p∈jEy t,(47:UInt8) ∉ p:=by
 have h:=cut_glue 47 t
 refine ⟨?_,fun p hp=>?_⟩
 ·unfold jEy
  rw[<-glue_slash,h.1]
 ·rcases List.mem_append.1 hp with h' | h'
  ·exact h.2.1 p h'
  ·simp at h';subst h';exact h.2.2
theorem slashed_data (L:List ByteArray):slashed L=((L.map fun s=>s.data.toList).map (47 :: ·)).flatten:=by
 unfold slashed
 rw[List.map_map]
 rfl
theorem map_str_data (ps:List (List UInt8)):(ps.map str).map (fun s=>s.data.toList)=ps:=by
 rw[List.map_map]
 have:(fun s:ByteArray=>s.data.toList) ∘ str=id:=by funext l;simp[str_data]
 rw[this,List.map_id]
theorem map_data_str (L:List ByteArray):(L.map (fun s=>s.data.toList)).map str=L:=by
 rw[List.map_map]
 have:str ∘ (fun s:ByteArray=>s.data.toList)=id:=by funext s;simp[str_of]
 rw[this,List.map_id]
theorem pcs_ne (s:ByteArray):pcs s≠[]:=by
 unfold pcs jEy
 simp
theorem slashed_pcs (s:ByteArray)(h:s.data.toList.head?=some 47):slashed (pcs s)=s.data.toList:=by
 unfold pcs
 rw[slashed_data,map_str_data,(sl_pieces _).1]
 cases hs:s.data.toList with
 | nil=>rw[hs] at h;cases h
 | cons x t=>rw[hs] at h;simp at h;subst h;rfl
theorem jH6 {t:List UInt8}(h:jFj t=true):t.length<=1024/\t.head?=some 47/\(t=[47]\/t.getLast?≠some 47):=by
 simp only[jFj,Bool.and_eq_true,Bool.or_eq_true,decide_eq_true_eq] at h
 exact ⟨h.1.1,h.1.2,h.2⟩
theorem rooted_mk {t:List UInt8}(h1:t.length<=1024)(h2:t.head?=some 47)(h3:t=[47]\/t.getLast?≠some 47):jFj t=true:=by
 simp only[jFj,Bool.and_eq_true,Bool.or_eq_true,decide_eq_true_eq]
 exact ⟨⟨h1,h2⟩,h3⟩
theorem parse_text {s:ByteArray}(h:jA9 s=0):jH5 (jB3 s)=0/\textY (jB3 s)=s:=by
 have h0:=h
 unfold jB3
 rw[if_pos h]
 unfold jA9 at h
 by_cases hr:jFj s.data.toList=true
 ·rw[if_pos hr] at h
  by_cases h1:s.data.toList=[47]
  ·rw[if_pos h1]
   refine ⟨rfl,?_⟩
   unfold textY textL
   rw[if_pos fault_nil,if_pos rfl,<-h1,str_of]
  ·rw[if_neg h1] at h ⊢
   refine ⟨h,?_⟩
   unfold textY textL
   rw[if_pos h,if_neg (pcs_ne s),slashed_pcs s (jH6 hr).2.1,str_of]
 ·rw[if_neg hr] at h;cases h
def sc (L:List ByteArray):List Value:=L.map Value.string
theorem sc_length (L:List ByteArray):(sc L).length=L.length:=by simp[sc]
theorem sc_at (L:List ByteArray)(j:Nat)(s:ByteArray)(h:L[j]?=some s):(sc L)[j]?=some (.string s):=by simp[sc,h]
theorem sc_back {L:List ByteArray}{j:Nat}{u:Value}(h:(sc L)[j]?=some u):∃s,L[j]?=some s/\u=.string s:=by
 unfold sc at h
 rw[List.getElem?_map] at h
 obtain ⟨s,hs,rfl⟩:=Option.map_eq_some_iff.1 h
 exact ⟨s,hs,rfl⟩
theorem sc_one (L:List ByteArray):∀u∈sc L,u.oneCell'=true:=fun u hu=>by
 obtain ⟨s,_,rfl⟩:=List.mem_map.1 hu
 rfl
theorem sc_append (a b:List ByteArray):sc (a++b)=sc a++sc b:=by simp[sc]
theorem bdN (w:World)(n:Nat):Below w.heap.size w (w.drewN n):=⟨rfl,rfl,rfl,Qj _,fun _ _=>rfl⟩
theorem info9:(prog.info? 9).map (fun i=>(i.zero,i.size,i.bytes))=some (some (.string { data:=#[] }),1,16):=by kernel_rfl
theorem info_9:∃i0,prog.info? 9=some i0/\i0.zero=some (.string { data:=#[] })/\i0.size=1/\i0.bytes=16:=by
 have h:=info9
 cases hq:prog.info? 9 with
 | none=>rw[hq] at h;cases h
 | some i =>
   rw[hq] at h
   simp at h
   exact ⟨i,rfl,h.1,h.2.1,h.2.2⟩
def Own (w:World)(B:Nat)(v:Value)(L:List ByteArray):Prop:=w.ownsRow B 9 1 v L.length (sc L)
def See (w:World)(v:Value)(L:List ByteArray):Prop :=
 ∃a c,v=.slice a L.length c/\L.length<=c/\(a=none->c=0)/\(L≠[]->∃b off,a=some ⟨b,off,none⟩/\b<w.heap.size/\∀(i:Nat) s,L[i]?=some s->w.cell? ⟨b,off+i,none⟩=some (.string s))
theorem See.below {w w':World}{v:Value}{L:List ByteArray}(h:See w v L)(hb:Below w.heap.size w w'):See w' v L:=by
 obtain ⟨a,c,h1,h2,h3,h4⟩:=h
 refine ⟨a,c,h1,h2,h3,fun hn=>?_⟩
 obtain ⟨b,off,e,hlt,hc⟩:=h4 hn
 exact ⟨b,off,e,Qx hlt hb.size,fun i s hs=>(hb.cell (p:=⟨b,off+i,none⟩) hlt).trans (hc i s hs)⟩
theorem Own.nil (w:World)(B:Nat):Own w B (.slice none 0 0) []:=World.ownsRow_nil _ _ _ _
theorem Own.len {w:World}{B:Nat}{v:Value}{L:List ByteArray}(h:Own w B v L):∃a cap,v=.slice a L.length cap:=by
 rcases h.2 with ⟨h1,h2⟩ | ⟨g,cap,cur,h1,_⟩
 ·exact ⟨none,0,by rw[h2];exact h1⟩
 ·exact ⟨_,cap,h1⟩
theorem Own.see {w:World}{B:Nat}{v:Value}{L:List ByteArray}(h:Own w B v L):See w v L:=by
 rcases h.2 with ⟨h1,h2⟩ | ⟨g,cap,cur,h1,h2,h3,h4,h5,h6,h7⟩
 ·exact ⟨none,0,by rw[h2];exact h1,by omega,fun _=>rfl,fun h=>absurd (Qb h2) h⟩
 ·refine ⟨_,cap,h1,h4,fun e=>(by cases e),fun _=>⟨g,0,rfl,jAv h3,fun i s hs=>?_⟩⟩
  have hi:=(QV.1 hs).1
  have hu:=sc_at L i s hs
  rw[<-h7,List.getElem?_take,if_pos (by omega),Array.getElem?_toList] at hu
  rw[Nat.zero_add,jAj h3]
  exact hu
theorem Own.below {w w':World}{B:Nat}{v:Value}{L:List ByteArray}(h:Own w B v L)(hb:Below w.heap.size w w'):Own w' B v L:=by
 obtain ⟨h1,h2⟩:=h
 refine ⟨h1,?_⟩
 rcases h2 with h0 | ⟨g,cap,cur,e1,e2,e3,e4⟩
 ·exact .inl h0
 ·exact .inr ⟨g,cap,cur,e1,e2,(hb.block _ (jAv e3)).trans e3,e4⟩
theorem Own.mono {w:World}{B B':Nat}{v:Value}{L:List ByteArray}(h:Own w B v L)(hB:B'<=B):Own w B' v L:=by
 obtain ⟨h1,h2⟩:=h
 refine ⟨h1,?_⟩
 rcases h2 with h0 | ⟨g,cap,cur,e1,e2,e3⟩
 ·exact .inl h0
 ·exact .inr ⟨g,cap,cur,e1,by omega,e3⟩
theorem See.take {w:World}{a:Option Addr}{c n:Nat}{L:List ByteArray}(h:See w (.slice a L.length c) L)(hn:n<=L.length):See w (.slice a n c) (L.take n):=by
 obtain ⟨a',c',h1,h2,h3,h4⟩:=h
 injection h1 with e1 _ e2
 subst e1 e2
 have hl:(L.take n).length=n:=by rw[List.length_take];omega
 refine ⟨a,c,by rw[hl],by omega,h3,fun hne=>?_⟩
 obtain ⟨b,off,e,hlt,hc⟩:=h4 (fun e=>hne (by rw[e];simp))
 refine ⟨b,off,e,hlt,fun i s hs=>hc i s ?_⟩
 rw[List.getElem?_take] at hs
 by_cases hi:i<n
 ·rw[if_pos hi] at hs;exact hs
 ·rw[if_neg hi] at hs;cases hs
theorem jIy {w:World}{ops:Array Oper}{rest:List Oper}{o:Oper}{a:Act}{Q:Exit->Act->World->Prop}(hgd:o.guard=none)(s x:Operand)
 (ho:o.op=.call { callee:=.builtin .append,args:=#[s,x],argTypes:=#[64,64] })
 (B:Nat) (v xv:Value) (A L:List ByteArray) (hs:a.eval s=v) (hown:Own w B v A) (hx:a.eval x=xv) (hL:See w xv L) (hb:(A.length+L.length)*16<=140737488355328) (hB:B<=w.heap.size)
 (h:∀v' w',Own w' B v' (A++L)->Below B w w'->wpList prog ops Q rest (a.put o.dst v') w'):wpList prog ops Q (o :: rest) a w:=by
 obtain ⟨i0,hi,hz0,hz1,hz2⟩:=info_9
 obtain ⟨ad,c,rfl,hc,hnil,hcell⟩:=hL
 cases ad with
 | none =>
   have hL0:L=[]:=by
    by_cases hn:L=[]
    ·exact hn
    ·obtain ⟨b,off,e,_⟩:=hcell hn
     cases e
   subst hL0
   obtain rfl:=hnil rfl
   refine wpList_append_own_none hgd s x 64 ho B 9 i0 1 underlying64 hi v A.length (sc A) hs hown hx ?_
   exact h v w (by rw[List.append_nil];exact hown) (Qq _ _)
 | some ad =>
   refine wpList_append_own w hgd s x 64 ho B 9 i0 (.string { data:=#[] }) 1 16 underlying64 hi hz0 hz1 hz2 rfl (by decide) v A.length (sc A) hs hown ad L.length c (sc L) hx (by rw[sc_length];omega)
    (fun j u hu=>?_) (sc_one L) (by unfold maxLen;omega) hb hB (fun v' w' ho' hg _=>?_)
   ·obtain ⟨t,ht,rfl⟩:=sc_back hu
    obtain ⟨b,off,e,_,hcc⟩:=hcell (fun e=>by rw[e] at ht;cases ht)
    injection e with e
    subst e
    rw[Addr.add_lit]
    exact hcc j t ht
   ·refine h v' w' ?_ (jM8 hg hB hown)
    unfold Own
    rw[sc_append,List.length_append]
    exact ho'
theorem see_new (w:World)(cs:Array Value)(L:List ByteArray)(n c:Nat)(h:cs=(sc L).toArray)(hn:n=L.length)(hc:n<=c):See (w.alloc (.cells cs 9)) (.slice (some ⟨w.heap.size,0,none⟩) n c) L:=by
 subst h hn
 refine ⟨_,_,rfl,hc,fun e=>(by cases e),fun _=>⟨w.heap.size,0,rfl,by simp,fun i s hs=>?_⟩⟩
 rw[Nat.zero_add,jAj (jA2 w _)]
 simpa using sc_at L i s hs
