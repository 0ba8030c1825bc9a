import Derived.Test.YtdgokfehgjkalaaBaseM
import Derived.Test.YtdgokfehgjkalaaSoA
import Derived.Maps.OwnSet
import Derived.Maps.Ext
import Derived.Maps.AppendAt
import Derived.Maps.RangeWalk
import Derived.Sort.KeysCollected
import Derived.Sort.OwnSorted
import Derived.Deep.RegionHeldLaw
namespace Go.Proofs.Ytdgokfehgjkalaa.Wd
open Go.RowKit Go.Lib Go.Deep

/-- a store call, as the trace has it -/
structure Cal where
  kind : Int
  name : ByteArray
  blob : ByteArray
  code : Int
  reply : ByteArray
  names : List (List UInt8)

/-- what a store holds -/
abbrev Sto := List UInt8 → Option ByteArray
def ky (n : ByteArray) : List UInt8 := n.data.toList
def putF (f : Sto) (n b : ByteArray) : Sto := fun k => if k = ky n then some b else f k
def delF (f : Sto) (n : ByteArray) : Sto := fun k => if k = ky n then none else f k
theorem ky_inj {a b : ByteArray} (h : ky a = ky b) : a = b := ByteArray.ext (Array.toList_inj.1 h)
theorem ky_str (k : List UInt8) : ky (str k) = k := str_data k

/-- a world's state -/
structure Wst where
  f : Sto
  cur : ByteArray
  pen : ByteArray
  stp : Bool
  off : Bool
  left : Nat
  tr : List Cal
  ah : List Sto
  pu : List Nat
  nn : Nat
  pn : Nat

def begS (S : Wst) : Wst := { S with ah := S.ah ++ [S.f] }
def layS (S : Wst) (n b : ByteArray) : Wst := { S with f := putF S.f n b, nn := S.nn + 1 }
def dropS (S : Wst) (n : ByteArray) : Wst := { S with f := delF S.f n }
def cntS (S : Wst) : Wst := { S with pu := S.pu ++ [S.tr.length] }
def useS (S : Wst) : Wst := if S.left = 0 then S else { S with left := S.left - 1, off := decide (S.left = 1) }
def logS (S : Wst) (c : Cal) : Wst := { S with tr := S.tr ++ [c] }
def endS (S : Wst) (c : Cal) : Wst := useS (logS S c)

/-- rising names, all of them -/
def Rises (ks : List (List UInt8)) (f : Sto) : Prop := ks.Pairwise (fun a b => leB a b = true) ∧ ks.Nodup ∧ ∀ k, k ∈ ks ↔ (f k).isSome = true
theorem rises_eq {ks ls : List (List UInt8)} {f : Sto} (h : Rises ks f) (h' : Rises ls f) : ks = ls := by
  have hp : ks.Perm ls := (List.perm_ext_iff_of_nodup h.2.1 h'.2.1).2 fun x => (h.2.2 x).trans (h'.2.2 x).symm
  refine List.Perm.eq_of_pairwise (le := fun a b => leB a b = true) (fun a b _ _ h1 h2 => ?_) h.1 h'.1 hp
  simp only [leB, decide_eq_true_eq] at h1 h2
  exact List.le_antisymm h1 h2
open Classical in
noncomputable def keysL (f : Sto) : List (List UInt8) := if h : ∃ ks, Rises ks f then h.choose else []
theorem keysL_eq {ks : List (List UInt8)} {f : Sto} (h : Rises ks f) : keysL f = ks := by
  have he : ∃ ks, Rises ks f := ⟨ks, h⟩
  unfold keysL
  rw [dif_pos he]
  exact rises_eq he.choose_spec h
theorem rises_sort {ss : List (List UInt8)} {f : Sto} (hn : ss.Nodup) (hm : ∀ k, k ∈ ss ↔ (f k).isSome = true) : Rises (ss.mergeSort fun x y => decide (x ≤ y)) f := by
  have tr : ∀ a b c : List UInt8, leB a b = true → leB b c = true → leB a c = true := fun a b c h1 h2 => by simp only [leB, decide_eq_true_eq] at *; exact List.le_trans h1 h2
  have to : ∀ a b : List UInt8, (leB a b || leB b a) = true := fun a b => by simp only [leB, Bool.or_eq_true, decide_eq_true_eq]; exact List.le_total a b
  refine ⟨List.pairwise_mergeSort tr to ss, (List.mergeSort_perm ss _).nodup_iff.2 hn, fun k => ?_⟩
  rw [(List.mergeSort_perm ss _).mem_iff, hm]

/-! what lies in memory -/
def blobD (k : List UInt8) (b : ByteArray) : DataW Unit := .agg [.lit (.string k), .lit (.string b.data.toList)]
def blobR (v : Value) : Option (DataW Unit × List MemPlace) :=
  match v with
  | .agg a => match a.toList with
    | [.string n, .string b] => some (blobD n.data.toList b, [])
    | _ => none
  | _ => none
theorem blobR_mk (n b : ByteArray) : blobR (.agg #[.string n, .string b]) = some (blobD n.data.toList b, []) := rfl
theorem blobR_inv {v : Value} {y : DataW Unit × List MemPlace} (h : blobR v = some y) : ∃ n b, v = .agg #[.string n, .string b] ∧ y = (blobD n.data.toList b, []) := by
  unfold blobR at h
  split at h
  · rename_i a
    split at h
    · rename_i n b e
      refine ⟨n, b, ?_, (Option.some.inj h).symm⟩
      rw [← Array.toList_inj.1 (show a.toList = (#[.string n, .string b] : Array Value).toList from e)]
    · cases h
  · cases h
theorem blobD_inj {k l : List UInt8} {a b : ByteArray} (h : blobD k a = blobD l b) : k = l ∧ a = b := by
  unfold blobD at h
  injection h with h
  injection h with h1 h2
  injection h2 with h2 _
  injection h1 with h1
  injection h1 with h1
  injection h2 with h2
  injection h2 with h2
  exact ⟨h1, ByteArray.ext (Array.toList_inj.1 h2)⟩
/-- what the map holds -/
structure Tab (D : DataW Unit) (f : Sto) : Prop where
  isMap : Maps.IsMap D
  has : ∀ k, Maps.has D (.string k) = (f k).isSome
  at_ : ∀ k b, f k = some b → ∀ z, D.atKey (.string k) z = blobD k b
theorem tab_nil : Tab (.map []) (fun _ => none) := ⟨Maps.isMap_empty, fun _ => rfl, fun _ _ h => by cases h⟩
theorem Tab.put {D : DataW Unit} {f : Sto} (h : Tab D f) (n b : ByteArray) : Tab (D.put (.string (ky n)) (blobD (ky n) b)) (putF f n b) := by
  refine ⟨h.isMap.put _ _, fun k => ?_, fun k x hx z => ?_⟩
  · by_cases he : k = ky n
    · subst he
      rw [Maps.has_put_same h.isMap (by simp [WideAt.IsKeyLit])]
      simp [putF]
    · rw [Maps.has_put_other (fun e => he (by injection e)), h.has k]
      simp [putF, he]
  · by_cases he : k = ky n
    · subst he
      simp only [putF, if_true, Option.some.injEq] at hx
      rw [Maps.atKey_put_same h.isMap (by simp [WideAt.IsKeyLit]), hx]
    · rw [Maps.atKey_put_other (fun e => he (by injection e))]
      simp only [putF, if_neg he] at hx
      exact h.at_ k x hx z
theorem Tab.del {D : DataW Unit} {f : Sto} (h : Tab D f) (n : ByteArray) : Tab (D.del (.string (ky n))) (delF f n) := by
  refine ⟨h.isMap.del _, fun k => ?_, fun k x hx z => ?_⟩
  · by_cases he : k = ky n
    · subst he
      rw [Maps.has_del_same]
      simp [delF]
    · rw [Maps.has_del_other (fun e => he (by injection e)), h.has k]
      simp [delF, he]
  · by_cases he : k = ky n
    · subst he
      simp [delF] at hx
    · rw [Maps.atKey_del_other (fun e => he (by injection e))]
      simp only [delF, if_neg he] at hx
      exact h.at_ k x hx z

def noR (v : Value) : Option (DataW Unit × List MemPlace) :=
  match v with
  | .slice none 0 0 => some (.nil, [])
  | _ => none
theorem noR_inv {v : Value} {y : DataW Unit × List MemPlace} (h : noR v = some y) : v = .slice none 0 0 := by
  unfold noR at h
  split at h
  · rfl
  · cases h
def calCells (p : Cal × Value) : List Value := [.int .i64 p.1.kind, .string p.1.name, .string p.1.blob, .int .i64 p.1.code, .string p.1.reply, p.2]
def trCells (tr : List Cal) (nv : List Value) : List Value := (tr.zip nv).flatMap calCells
theorem trCells_snoc {tr : List Cal} {nv : List Value} (h : nv.length = tr.length) (c : Cal) (v : Value) : trCells (tr ++ [c]) (nv ++ [v]) = trCells tr nv ++ calCells (c, v) := by
  unfold trCells
  rw [List.zip_append h.symm, List.flatMap_append]
  simp

/-- a chain of changes, from its last one on -/
inductive Chn (w : World) : Option Addr → Sto → Prop
  | nil : Chn w none (fun _ => none)
  | lay {b : Nat} {nm bl : ByteArray} {nx : Option Addr} {g : Sto} : w.heap[b]? = some (.cells #[.string nm, .string bl, .bool false, .pointer nx] 111 (0, 0)) → Chn w nx g → Chn w (some ⟨b, 0, none⟩) (putF g nm bl)
  | drop {b : Nat} {nm bl : ByteArray} {nx : Option Addr} {g : Sto} : w.heap[b]? = some (.cells #[.string nm, .string bl, .bool true, .pointer nx] 111 (0, 0)) → Chn w nx g → Chn w (some ⟨b, 0, none⟩) (delF g nm)
theorem Chn.keep {w W : World} {a : Option Addr} {f : Sto} (h : Chn w a f) (hk : ∀ (k : Nat) (cur : Array Value), w.heap[k]? = some (.cells cur 111 (0, 0)) → W.heap[k]? = w.heap[k]?) : Chn W a f := by
  induction h with
  | nil => exact .nil
  | lay h1 _ ih => exact .lay ((hk _ _ h1).trans h1) ih
  | drop h1 _ ih => exact .drop ((hk _ _ h1).trans h1) ih

def stA (m : Nat) (la : Option Addr) (S : Wst) (tv av uv : Value) (pl : Nat) : Array Value :=
  #[.map (some m), .pointer la, .string S.cur, .string S.pen, .bool S.stp, .bool S.off, .int .i64 (S.left : Int), tv, av, uv, .map (some pl), .int .i64 (S.pn : Int)]
/-- a world's state at block q, in all its parts -/
structure Inn (w : World) (q m pl : Nat) (la : Option Addr) (tv av uv : Value) (D : DataW Unit) (al : List (Option Addr)) (nv : List Value) (S : Wst) : Prop where
  hq : w.heap[q]? = some (.cells (stA m la S tv av uv pl) 76 (0, 0))
  ht : w.ownsRow 0 90 6 tv S.tr.length (trCells S.tr nv)
  hnl : nv.length = S.tr.length
  hnv : ∀ (i : Nat) (c : Cal) (v : Value), S.tr[i]? = some c → nv[i]? = some v → w.ownsRow 0 9 1 v c.names.length (c.names.map encStr)
  ha : w.ownsRow 0 67 1 av S.ah.length (al.map Value.pointer)
  hal : al.length = S.ah.length
  hch : ∀ (i : Nat) (a : Option Addr) (g : Sto), al[i]? = some a → S.ah[i]? = some g → Chn w a g
  hu : w.ownsRow 0 3 1 uv S.pu.length (S.pu.map fun (i : Nat) => Value.int .i64 (i : Int))
  hm : w.ownsMap Try.prog 9 blobR m S.nn D
  hD : Tab D S.f
  hp : w.ownsMap Try.prog 3 noR pl 0 (.map [])
  hc : Chn w la S.f
  hle : S.left ≤ 9223372036854775807
  hmp : m ≠ pl
def fp (q m pl : Nat) (tv av uv : Value) : List Nat := [q, m, pl] ++ (tv.ownBlock.toList ++ (av.ownBlock.toList ++ uv.ownBlock.toList))
/-- F: the blocks that a call may turn -/
def St (w : World) (q : Nat) (F : List Nat) (S : Wst) : Prop := ∃ m pl la tv av uv D al nv, F = fp q m pl tv av uv ∧ Inn w q m pl la tv av uv D al nv S
def Turn (F : List Nat) (w w' : World) (q : Nat) (S : Wst) : Prop := Only F w w' ∧ ∃ F', St w' q F' S ∧ ∀ k, k ∈ F' → k ∈ F ∨ w.heap.size ≤ k

theorem owns_keep {W W' : World} {B e n size : Nat} {v : Value} {xs : List Value} (h : W.ownsRow B e size v n xs) (hk : ∀ g, v.ownBlock = some g → W'.heap[g]? = W.heap[g]?) : W'.ownsRow B e size v n xs := by
  obtain ⟨q0, q⟩ := h
  refine ⟨q0, ?_⟩
  rcases q with q | ⟨g1, cap1, cur1, q1, q2, q3, q4⟩
  · exact .inl q
  · exact .inr ⟨g1, cap1, cur1, q1, q2, (hk g1 (by rw [q1]; rfl)).trans q3, q4⟩
theorem owns_block {w : World} {B n size e k : Nat} {v : Value} {xs : List Value} (h : w.ownsRow B e size v n xs) (hv : v.ownBlock = some k) : ∃ cur, w.heap[k]? = some (.cells cur e (0, 0)) := by
  rcases h.2 with ⟨q1, _⟩ | ⟨g1, cap1, cur1, q1, q2, q3, q4⟩
  · rw [q1] at hv; cases hv
  · rw [q1] at hv
    simp [Value.ownBlock] at hv
    subst hv
    exact ⟨cur1, q3⟩
theorem map_keep {W W' : World} {P : Program} {k : TypeId} {R : Value → Option (DataW Unit × List MemPlace)} {b n : Nat} {D : DataW Unit} (h : W.ownsMap P k R b n D) (hk : W'.heap[b]? = W.heap[b]?) : W'.ownsMap P k R b n D := by
  obtain ⟨es, clock, h1, h2⟩ := h
  exact ⟨es, clock, hk.trans h1, h2⟩
theorem map_block {W : World} {P : Program} {k : TypeId} {R : Value → Option (DataW Unit × List MemPlace)} {b n : Nat} {D : DataW Unit} (h : W.ownsMap P k R b n D) : ∃ es clock, W.heap[b]? = some (.map es clock) := by
  obtain ⟨es, clock, h1, _⟩ := h
  exact ⟨es, clock, h1⟩

theorem mem_fp {k q m pl : Nat} {tv av uv : Value} : k ∈ fp q m pl tv av uv ↔ k = q ∨ k = m ∨ k = pl ∨ tv.ownBlock = some k ∨ av.ownBlock = some k ∨ uv.ownBlock = some k := by
  unfold fp
  simp only [List.cons_append, List.nil_append, List.mem_cons, List.mem_append, Option.mem_toList]
/-- what a state keeps -/
theorem Inn.keep {w W : World} {q m pl : Nat} {la : Option Addr} {tv av uv : Value} {D : DataW Unit} {al : List (Option Addr)} {nv : List Value} {S : Wst} (h : Inn w q m pl la tv av uv D al nv S) (h1 : ∀ k, k ∈ fp q m pl tv av uv → W.heap[k]? = w.heap[k]?)
    (h2 : ∀ (k : Nat) (cur : Array Value), w.heap[k]? = some (.cells cur 111 (0, 0)) → W.heap[k]? = w.heap[k]?) (h3 : ∀ (k : Nat) (cur : Array Value), w.heap[k]? = some (.cells cur 9 (0, 0)) → W.heap[k]? = w.heap[k]?) : Inn W q m pl la tv av uv D al nv S := by
  refine ⟨(h1 q (mem_fp.2 (.inl rfl))).trans h.hq, owns_keep h.ht fun g hg => h1 g (mem_fp.2 (.inr (.inr (.inr (.inl hg))))), h.hnl, fun i c v hc hv => owns_keep (h.hnv i c v hc hv) fun g hg => ?_,
    owns_keep h.ha fun g hg => h1 g (mem_fp.2 (.inr (.inr (.inr (.inr (.inl hg)))))), h.hal, fun i a g ha hg => (h.hch i a g ha hg).keep h2, owns_keep h.hu fun g hg => h1 g (mem_fp.2 (.inr (.inr (.inr (.inr (.inr hg)))))),
    map_keep h.hm (h1 m (mem_fp.2 (.inr (.inl rfl)))), h.hD, map_keep h.hp (h1 pl (mem_fp.2 (.inr (.inr (.inl rfl))))), h.hc.keep h2, h.hle, h.hmp⟩
  obtain ⟨cur, hcur⟩ := owns_block (h.hnv i c v hc hv) hg
  exact h3 g cur hcur
/-- what the blocks are that may turn -/
theorem Inn.kinds {w : World} {q m pl : Nat} {la : Option Addr} {tv av uv : Value} {D : DataW Unit} {al : List (Option Addr)} {nv : List Value} {S : Wst} (h : Inn w q m pl la tv av uv D al nv S) {k : Nat} (hk : k ∈ fp q m pl tv av uv) :
    (∃ es clock, w.heap[k]? = some (.map es clock)) ∨ ∃ cur e, w.heap[k]? = some (.cells cur e (0, 0)) ∧ (e = 76 ∨ e = 90 ∨ e = 67 ∨ e = 3) := by
  rcases mem_fp.1 hk with rfl | rfl | rfl | hv | hv | hv
  · exact .inr ⟨_, _, h.hq, .inl rfl⟩
  · exact .inl (map_block h.hm)
  · exact .inl (map_block h.hp)
  · obtain ⟨cur, hc⟩ := owns_block h.ht hv
    exact .inr ⟨_, _, hc, .inr (.inl rfl)⟩
  · obtain ⟨cur, hc⟩ := owns_block h.ha hv
    exact .inr ⟨_, _, hc, .inr (.inr (.inl rfl))⟩
  · obtain ⟨cur, hc⟩ := owns_block h.hu hv
    exact .inr ⟨_, _, hc, .inr (.inr (.inr rfl))⟩
theorem Inn.notin {w : World} {q m pl : Nat} {la : Option Addr} {tv av uv : Value} {D : DataW Unit} {al : List (Option Addr)} {nv : List Value} {S : Wst} (h : Inn w q m pl la tv av uv D al nv S) {k : Nat} {cur : Array Value} {e : TypeId} {fr : Nat × Nat} (hk : w.heap[k]? = some (.cells cur e fr))
    (he : ¬ (e = 76 ∨ e = 90 ∨ e = 67 ∨ e = 3)) : k ∉ fp q m pl tv av uv := fun hm => by
  rcases h.kinds hm with ⟨es, cl, h1⟩ | ⟨c', e', h1, h2⟩
  · rw [hk] at h1; cases h1
  · rw [hk] at h1
    injection h1 with h1
    injection h1 with _ h1 _
    subst h1
    exact he h2
theorem Inn.lt {w : World} {q m pl : Nat} {la : Option Addr} {tv av uv : Value} {D : DataW Unit} {al : List (Option Addr)} {nv : List Value} {S : Wst} (h : Inn w q m pl la tv av uv D al nv S) {k : Nat} (hk : k ∈ fp q m pl tv av uv) : k < w.heap.size := by
  rcases h.kinds hk with ⟨es, cl, h1⟩ | ⟨c', e', h1, h2⟩
  · exact (Array.getElem?_eq_some_iff.1 h1).1
  · exact (Array.getElem?_eq_some_iff.1 h1).1
theorem Inn.below {w W : World} {q m pl : Nat} {la : Option Addr} {tv av uv : Value} {D : DataW Unit} {al : List (Option Addr)} {nv : List Value} {S : Wst} (h : Inn w q m pl la tv av uv D al nv S) (hb : Below w.heap.size w W) : Inn W q m pl la tv av uv D al nv S :=
  h.keep (fun k hk => hb.block k (h.lt hk)) (fun k _ hc => hb.block k (heap_lt hc)) (fun k _ hc => hb.block k (heap_lt hc))

theorem St.below {w W : World} {q : Nat} {F : List Nat} {S : Wst} (h : St w q F S) (hb : Below w.heap.size w W) : St W q F S := by
  obtain ⟨m, pl, la, tv, av, uv, D, al, nv, hF, hI⟩ := h
  exact ⟨m, pl, la, tv, av, uv, D, al, nv, hF, hI.below hb⟩
theorem St.lt {w : World} {q : Nat} {F : List Nat} {S : Wst} (h : St w q F S) : ∀ k, k ∈ F → k < w.heap.size := by
  obtain ⟨m, pl, la, tv, av, uv, D, al, nv, rfl, hI⟩ := h
  exact fun k hk => hI.lt hk
theorem St.notin {w : World} {q : Nat} {F : List Nat} {S : Wst} (h : St w q F S) {k : Nat} {cur : Array Value} {e : TypeId} {fr : Nat × Nat} (hk : w.heap[k]? = some (.cells cur e fr)) (he : ¬ (e = 76 ∨ e = 90 ∨ e = 67 ∨ e = 3)) : k ∉ F := by
  obtain ⟨m, pl, la, tv, av, uv, D, al, nv, rfl, hI⟩ := h
  exact hI.notin hk he
theorem only_below {S : List Nat} {a w w' : World} (h : Only S a w) (hb : Below w.heap.size w w') : Only S a w' := h.trans ⟨hb.os, hb.tape, hb.output, hb.size, fun k hk _ => hb.block k hk⟩
theorem only_grown {S : List Nat} {a w w' : World} {row : Option Nat} (h : Only S a w) (hg : w.grownBy w' row) (hr : ∀ k, row = some k → k ∈ S ∨ a.heap.size ≤ k) : Only S a w' :=
  ⟨hg.os.trans h.os, hg.tape.trans h.tape, hg.output.trans h.output, Nat.le_trans h.size hg.size, fun k hk hS => (hg.block k (Nat.lt_of_lt_of_le hk h.size) (fun e => by
    rcases hr k e.symm with h1 | h1
    · exact hS h1
    · omega)).trans (h.block k hk hS)⟩
theorem St.turn {w W : World} {q : Nat} {F : List Nat} {S : Wst} (h : St w q F S) (hb : Below w.heap.size w W) : Turn F w W q S := ⟨only_below (Only.refl _ _) hb, F, h.below hb, fun _ hk => .inl hk⟩
/-- one turn behind another -/
theorem turn_trans {F F' : List Nat} {w w' w'' : World} {q : Nat} {S : Wst} (ho : Only F w w') (hF : ∀ k, k ∈ F' → k ∈ F ∨ w.heap.size ≤ k) (h : Turn F' w' w'' q S) : Turn F w w'' q S := by
  obtain ⟨h1, F2, h2, h3⟩ := h
  refine ⟨⟨h1.os.trans ho.os, h1.tape.trans ho.tape, h1.output.trans ho.output, Nat.le_trans ho.size h1.size, fun k hk hS => (h1.block k (Nat.lt_of_lt_of_le hk ho.size) (fun e => ?_)).trans (ho.block k hk hS)⟩, F2, h2, fun k hk => ?_⟩
  · rcases hF k e with h | h
    · exact hS h
    · omega
  · rcases h3 k hk with h | h
    · exact hF k h
    · exact .inr (Nat.le_trans ho.size h)
theorem Turn.below {F : List Nat} {w w' W : World} {q : Nat} {S : Wst} (h : Turn F w w' q S) (hb : Below w'.heap.size w' W) : Turn F w W q S := by
  obtain ⟨h1, F2, h2, h3⟩ := h
  exact ⟨only_below h1 hb, F2, h2.below hb, h3⟩
theorem Turn.ahead {F : List Nat} {w w' W : World} {q : Nat} {S : Wst} (hb : Below w.heap.size w w') (h : Turn F w' W q S) : Turn F w W q S := turn_trans (only_below (Only.refl _ _) hb) (fun _ hk => .inl hk) h

end Go.Proofs.Ytdgokfehgjkalaa.Wd
