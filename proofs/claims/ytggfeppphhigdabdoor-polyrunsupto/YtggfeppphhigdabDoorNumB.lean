import Derived.Test.YtggfeppphhigdabDoorNumA
namespace Go.Proofs.YtggfeppphhigdabDoor
open Go.RowKit Go.Lib Go.Deep

/-- a list, filled up with zeros -/
def fill (n : Nat) (l : List Nat) : List Nat := l ++ List.replicate (n - l.length) 0
theorem fill_length (n : Nat) (l : List Nat) (h : l.length ≤ n) : (fill n l).length = n := by simp [fill]; omega
theorem fill_full (n : Nat) (l : List Nat) (h : l.length = n) : fill n l = l := by simp [fill, h]
theorem fill_set (n k : Nat) (l : List Nat) (x : Nat) (hk : l.length = k) (h : k < n) : (fill n l).set k x = fill n (l ++ [x]) := by
  subst hk
  have e : n - l.length = (n - (l.length + 1)) + 1 := by omega
  simp [fill, e, List.replicate_succ]

/-- what spread holds -/
structure Sp (w wr : World) (n done : List Nat) : Prop where
  src : Nb .u64 54 wr w.heap.size n
  res : Nb .u64 54 wr (w.heap.size + 1) (fill 5 done)
  bel : Below w.heap.size w wr

theorem results_cell_tmp {P : Program} {fn : Func} {p u : Tmp} {ty : TypeId} (h : fn.results = #[.cell p ty, .tmp u]) (tmps : Array Value) (w : World) (g : Nat) (t : TypeId) (cs : Array Value) (fr : Nat × Nat) (d : TypeDesc)
    (hp : tmps.getD p undef = .pointer (some ⟨g, 0, none⟩)) (hg : w.heap[g]? = some (.cells cs t fr)) (hu : P.underlying ty = some d) (hd : (match d with | .struct _ | .array _ _ => true | _ => false) = true) (hi : (P.info? ty).map (·.size) = some cs.size) :
    (results fn tmps).run P w = .ok (.tuple #[.agg cs, tmps.getD u undef]) w := by
  have hp' : tmps[p]?.getD undef = .pointer (some ⟨g, 0, none⟩) := by simpa using hp
  simp [results, h, hp', asAddr, run_loadVar_row w g t ty cs fr d hg hu hd hi]

set_option maxRecDepth 20000 in
set_option maxHeartbeats 1000000 in
theorem spread_any (n : List Nat) (hn : n.length = 5) (hM : ∀ i, n.getD i 0 < 1152921504606846976) (w : World) :
    Calls Tryd.prog 26 #[.agg (ns .u64 n)] w fun e w' => e = .returned (.tuple #[.agg (ns .u64 (lim (vl 67108864 n))), .int .u64 ((vl 67108864 n / 1361129467683753853853498429727072845824 : Nat) : Int)]) ∧ Below w.heap.size w w' := by
  unfold lim
  have HS0 : Hid (Sp w ((w.alloc (.cells (ns .u64 n) 54)).alloc (.cells (ns .u64 (List.replicate 5 0)) 54)) n []) :=
    ⟨(Nb.new _ _ _ _).alloc _, Nb.newN _ _ _ _ _ (by simp), ((Below.refl _ _).alloc (Nat.le_refl _) _).alloc (by simp) _⟩
  rw [zeros5] at HS0
  have HM : Hid (∀ i, n.getD i 0 < 1152921504606846976) := hM
  clear hM
  go_enter Tryd.func26, Tryd.ntmps26
  go_wp2
  go_loopg [3, 5] 5 (fun gk ov i wr => ∃ k : Nat, k + gk = 5 ∧ i = .int .i64 k ∧ ov = .int .u64 ((vl 67108864 (n.take k) / 67108864 ^ k : Nat) : Int) ∧ vl 67108864 (n.take k) / 67108864 ^ k ≤ 1152921504606846976 ∧ Sp w wr n (dg 67108864 k (vl 67108864 (n.take k))))
  case atStart => exact ⟨0, by omega, rfl, by simp [vl], by simp [vl], HS0.out⟩
  case round =>
    clear HS0
    obtain ⟨k, hkk, rfl, rfl, hc, HS⟩ := hrel
    have HK : Hid (k + gk = 5) := hkk
    have hk' : k ≤ 5 := by omega
    clear hkk
    by_cases hlt : k < 5
    · have hltI : (k : Int) < 5 := by omega
      have hV := vl_take_succ 67108864 n k (by omega)
      have HD := carry_digit 67108864 k (vl 67108864 (n.take k)) (n.getD k 0) (by omega)
      have HO := carry_over 67108864 k (vl 67108864 (n.take k)) (n.getD k 0) (by omega)
      rw [← hV] at HD HO
      have hx := HM.out k
      have c0 := HS.src.cell k (by omega)
      have hlen : (dg 67108864 k (vl 67108864 (n.take k))).length = k := dg_length _ _ _
      have c1 := HS.res.cell k (by rw [fill_length _ _ (by omega)]; exact hlt)
      have f1 := HS.res.frozen k
      have HR : Hid (Sp w (wr.setCell ⟨w.heap.size + 1, k, none⟩ (.int .u64 (((vl 67108864 (n.take k) / 67108864 ^ k + n.getD k 0) % 67108864 : Nat) : Int))) n (dg 67108864 (k + 1) (vl 67108864 (n.take (k + 1))))) := by
        refine ⟨HS.src.beside (by simp) _, ?_, HS.bel.setCell (by simp) _⟩
        have h := HS.res.put k ((vl 67108864 (n.take k) / 67108864 ^ k + n.getD k 0) % 67108864)
        rw [fill_set 5 k _ _ hlen hlt, ← HD] at h
        exact h
      have HO' : Hid (vl 67108864 (n.take (k + 1)) / 67108864 ^ (k + 1) = (vl 67108864 (n.take k) / 67108864 ^ k + n.getD k 0) / 67108864) := HO
      clear HD HO hV HS hlen
      revert hc hx c0 c1 HR HO'
      generalize (fill 5 (dg 67108864 k (vl 67108864 (n.take k)))).getD k 0 = z
      generalize vl 67108864 (n.take k) / 67108864 ^ k = c
      generalize n.getD k 0 = x
      intro hc hx c0 c1 HR HO'
      have hand : bits .and .u64 ((c : Int) + (x : Int)) 67108863 = (((c + x) % 67108864 : Nat) : Int) := by
        have := u64_and_nat (c + x) 67108863 (by omega) (by omega)
        rw [nat_mask26, Int.natCast_add] at this
        exact this
      have hshr : ((c : Int) + (x : Int)) / 67108864 = (((c + x) / 67108864 : Nat) : Int) := by omega
      have hle : (c + x) / 67108864 ≤ 1152921504606846976 := by omega
      revert HR HO' hand hshr hle
      generalize (c + x) / 67108864 = o
      generalize (c + x) % 67108864 = d
      intro HR HO' hand hshr hle
      go_wp2
      go_roundg (gk - 1)
      case measure => have := HK.out; omega
      case rel => exact ⟨k + 1, by have := HK.out; omega, by go_num, by rw [HO'.out], by rw [HO'.out]; exact hle, HR.out⟩
    · obtain rfl : k = 5 := by omega
      rw [List.take_of_length_le (by omega)] at HS hc ⊢
      have hlen : (dg 67108864 5 (vl 67108864 n)).length = 5 := dg_length _ _ _
      have hres := HS.res
      rw [fill_full 5 _ hlen] at hres
      have hbel := HS.bel
      clear HS HK HM
      rw [show (67108864 : Nat) ^ 5 = 1361129467683753853853498429727072845824 from rfl]
      have HT := hres.store (dg 67108864 5 (vl 67108864 n)) rfl
      have hth := hres.there 5 hlen
      have hbel' : Below w.heap.size w (wr.setCells (w.heap.size + 1) 0 (ns .u64 (dg 67108864 5 (vl 67108864 n))).toList) := Below.setCells hbel (by simp) _ _
      have hsz := ns5 _ hlen
      have hone := ns_one .u64 (dg 67108864 5 (vl 67108864 n))
      have hsz5 : (ns .u64 (dg 67108864 5 (vl 67108864 n))).size = 5 := by rw [ns_size, hlen]
      rw [← hsz5] at hth
      unfold Nb at HT hres
      revert hres HT hth hbel' hsz hone
      generalize hC : ns .u64 (dg 67108864 5 (vl 67108864 n)) = C
      generalize hO : vl 67108864 n / 1361129467683753853853498429727072845824 = o
      intro hres HT hth hbel' hsz hone
      have HE : Hid (ns .u64 (dg 67108864 5 (vl 67108864 n)) = C ∧ vl 67108864 n / 1361129467683753853853498429727072845824 = o) := ⟨hC, hO⟩
      clear hC hO
      go_wp2_with (first | (refine wpList_load_row rfl 54 (.tmp 2) rfl (w.heap.size + 1) rfl 54 _ (0, 0) _ hres Tryd.underlying54 rfl hsz ?_) | (refine wpList_store_mid rfl 54 (.tmp 2) (.tmp 20) rfl (w.heap.size + 1) 0 _ rfl rfl hth hsz hone ?_))
      refine bodyPost_ret (results_cell_tmp rfl _ _ (w.heap.size + 1) 54 _ (0, 0) _ rfl HT Tryd.underlying54 rfl hsz) rfl ?_
      rw [HE.out.1, HE.out.2]
      exact ⟨rfl, hbel'⟩

end Go.Proofs.YtggfeppphhigdabDoor
