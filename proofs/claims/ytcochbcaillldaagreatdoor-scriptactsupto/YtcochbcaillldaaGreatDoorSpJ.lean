import Derived.Test.YtcochbcaillldaaGreatDoorSpI
namespace Go.Proofs.YtcochbcaillldaaGreatDoor.Sc
open Go.RowKit Go.Lib Go.Deep

def ch1 (o : OpR) (c : UInt8) : List UInt8 :=
  if c = 112 then 32 :: byL o.path else if c = 116 then 32 :: byL o.to else if c = 100 then 32 :: byL o.data else if c = 97 then 32 :: itoa o.at_ else if c = 110 then 32 :: itoa o.n else []
def lineL (o : OpR) (nm sh : List UInt8) : List UInt8 := nm ++ sh.flatMap (ch1 o)
theorem strs_app (a b : List UInt8) : str a ++ str b = str (a ++ b) := by
  apply ByteArray.ext
  simp [str]
theorem lineL_take (o : OpR) (nm l : List UInt8) (j : Nat) (c : UInt8) (h : l[j]? = some c) : lineL o nm (l.take (j + 1)) = lineL o nm (l.take j) ++ ch1 o c := by
  unfold lineL
  rw [take_succ_of l j c h, List.flatMap_append]
  simp
theorem ch1_len (o : OpR) (hok : o.Ok) (c : UInt8) : (ch1 o c).length ≤ 3200000 := by
  have hp := hok.path
  have ht := hok.to
  have hd := hok.data
  have h1 := byL_len o.path
  have h2 := byL_len o.to
  have h3 := byL_len o.data
  have h4 := itoa_len o.at_ hok.at_.1 hok.at_.2
  have h5 := itoa_len o.n hok.n.1 hok.n.2
  unfold ch1
  repeat' split
  all_goals (simp only [List.length_cons, List.length_nil]; omega)
theorem lineL_len (o : OpR) (hok : o.Ok) (nm sh : List UInt8) : (lineL o nm sh).length ≤ nm.length + 3200000 * sh.length := by
  unfold lineL
  induction sh with
  | nil => simp
  | cons a t ih =>
    have h := ch1_len o hok a
    simp only [List.flatMap_cons, List.length_append, List.length_cons] at ih ⊢
    omega
/-- the two steps of a word written behind a text -/
theorem two_sums (T U : List UInt8) (hT : T.length ≤ 20000000) (hU : U.length ≤ 4000000) : ∃ y z : ByteArray, (str T ++ ({ data := #[32] } : ByteArray) = y ∧ ¬ 9223372036854775807 < (str T).size + 1) ∧ (y ++ str U = z ∧ ¬ 9223372036854775807 < y.size + (str U).size) ∧ z = str (T ++ 32 :: U) := by
  refine ⟨_, _, ⟨rfl, by rw [str_size]; omega⟩, ⟨rfl, ?_⟩, ?_⟩
  · show ¬ 9223372036854775807 < (str T ++ str [32]).size + (str U).size
    rw [strs_app, str_size, str_size, List.length_append]
    simp only [List.length_cons, List.length_nil]
    omega
  · show str T ++ str [32] ++ str U = _
    rw [strs_app, strs_app, List.append_assoc]
    rfl
set_option maxRecDepth 20000 in
set_option maxHeartbeats 4000000 in
theorem opLine_any (o : OpR) (hok : o.Ok) (k : Nat) (hk : o.kind = k) (sh nm : ByteArray) (hsh : shapeL[k]? = some sh) (hnm : opsL[k]? = some nm) (w : World) (ht : ITab w) :
    Calls Tryz.prog 66 #[.agg o.cells] w fun e w' => e = .returned (.string (str (lineL o nm.data.toList sh.data.toList))) ∧ Below w.heap.size w w' := by
  obtain ⟨W, hW⟩ : ∃ W, w.alloc (.cells o.cells 54) = W := ⟨_, rfl⟩
  have hbW : Below w.heap.size w W := by rw [← hW]; exact (Below.refl _ _).alloc (Nat.le_refl _) _
  have hWs : W.heap.size = w.heap.size + 1 := by rw [← hW]; simp
  have hoW : OpAt W w.heap.size o := by
    rw [← hW]
    exact heap_alloc_new _ _
  have hos := ops_any W
  rw [hWs] at hos
  have hb1 := (Below.refl W.heap.size W).alloc (Nat.le_refl _) (.cells (opsL.map Value.string).toArray 9)
  have hs1 := heap_alloc_new W (.cells (opsL.map Value.string).toArray 9)
  rw [hWs] at hs1
  obtain ⟨V, hV⟩ : ∃ V, W.alloc (.cells (opsL.map Value.string).toArray 9) = V := ⟨_, rfl⟩
  have hVs : V.heap.size = w.heap.size + 1 + 1 := by rw [← hV]; simp [hWs]
  rw [hV] at hos hb1 hs1
  have hos2 := opShape_any V
  rw [hVs] at hos2
  have hb2 := (Below.refl V.heap.size V).alloc (Nat.le_refl _) (.cells (shapeL.map Value.string).toArray 9)
  have hs2 := heap_alloc_new V (.cells (shapeL.map Value.string).toArray 9)
  rw [hVs] at hs2
  have hl1 : w.heap.size + 1 < V.heap.size := by omega
  obtain ⟨U, hU⟩ : ∃ U, V.alloc (.cells (shapeL.map Value.string).toArray 9) = U := ⟨_, rfl⟩
  rw [hU] at hos2 hb2 hs2
  have hs1 : V.heap[w.heap.size + 1]? = some (.cells (opsL.map Value.string).toArray 9 (0, 0)) := hs1
  have hs1U : U.heap[w.heap.size + 1]? = some (.cells (opsL.map Value.string).toArray 9 (0, 0)) := (hb2.block _ hl1).trans hs1
  have hs2U : U.heap[w.heap.size + 1 + 1]? = some (.cells (shapeL.map Value.string).toArray 9 (0, 0)) := hs2
  have c1 : U.cell? ⟨w.heap.size + 1, k, none⟩ = some (.string nm) := by
    rw [Lib.cell_of_heap hs1U]
    simp [hnm]
  have c2 : U.cell? ⟨w.heap.size + 1 + 1, k, none⟩ = some (.string sh) := by
    rw [Lib.cell_of_heap hs2U]
    simp [hsh]
  have hk11 : (k : Int) < 11 := by
    have := (List.getElem?_eq_some_iff.1 hsh).1
    have e : shapeL.length = 11 := rfl
    omega
  have hoU := (hoW.below hb1 hoW.lt).below hb2 (by have := hoW.lt; omega)
  have hbU : Below w.heap.size w U := (hbW.trans (hb1.mono hbW.size)).trans (hb2.mono (by omega))
  have q0 := hoU.six.1
  rw [hk] at q0
  have HS : Hid (sh.data.toList.length = sh.size) := (size_eq sh).symm
  have HK : Hid (o.kind = k) := hk
  have HT : Hid (ITab w) := ht
  have HOK : Hid o.Ok := hok
  obtain ⟨n, hn⟩ : ∃ n, sh.size = n := ⟨_, rfl⟩
  have HN : Hid (sh.size = n) := hn
  have hnb : n ≤ 3 := by
    have h : ∀ x ∈ shapeL, x.size ≤ 3 := by decide
    rw [← hn]
    exact h sh (List.mem_of_getElem? hsh)
  have HM : Hid (nm.data.toList.length ≤ 6) := by
    have h : ∀ x ∈ opsL, x.data.toList.length ≤ 6 := by decide
    exact h nm (List.mem_of_getElem? hnm)
  clear hs1 hs2 hs1U hs2U hb1 hb2 hV hU hWs hVs hl1 hoW hsh hnm ht hok hbW
  unfold OpR.cells at hW ⊢
  rw [hk] at hW ⊢
  have HW : Hid (_ = W) := hW
  clear hk hW
  go_enter Tryz.func66, Tryz.ntmps66
  go_wp2_with fail
  rw [HW.out]
  refine hos.mono ?_
  rintro e w1 ⟨rfl, rfl⟩
  clear hos HW
  go_wp2_with (go_at_call 106; refine hos2.mono ?_; rintro e w2 ⟨rfl, rfl⟩; clear hos2)
  --loop
  have HO : Hid (OpAt w2 w.heap.size o) := hoU
  have HB : Hid (Below w.heap.size w w2) := hbU
  clear hs1 c1 c2 hoU hbU q0
  have h0 : nm = str (lineL o nm.data.toList (sh.data.toList.take 0)) := by
    apply ByteArray.ext
    simp [str, lineL]
  go_loopg [5, 7] n (fun gk s i wr => ∃ (j : Nat) (T : ByteArray), j + gk = n ∧ s = .string T ∧ i = .int .i64 (j : Int) ∧ Hid (T = str (lineL o nm.data.toList (sh.data.toList.take j))) ∧ Hid (OpAt wr w.heap.size o) ∧ Hid (Below w.heap.size w wr))
  case atStart => exact ⟨0, nm, by omega, rfl, rfl, h0, HO, HB⟩
  case round =>
    clear HO HB h0
    obtain ⟨j, T, hj, rfl, rfl, HL, HO, HB⟩ := hrel
    have hHS := HS.out
    rw [HN.out] at hHS
    by_cases hlt : j < n
    · have hltI : (j : Int) < (n : Int) := by omega
      obtain ⟨c, hc⟩ : ∃ c, sh.data.toList[j]? = some c := ⟨_, List.getElem?_eq_getElem (by omega)⟩
      have hix := fun U => index_at (P := Tryz.prog) U 9 sh .i64 j c Tryz.underlying9 hc
      have hst := lineL_take o nm.data.toList sh.data.toList j c hc
      have hTl := lineL_len o HOK.out nm.data.toList (sh.data.toList.take j)
      have hHM := HM.out
      have htl : (sh.data.toList.take j).length ≤ 3 := by rw [List.length_take]; omega
      obtain ⟨X, hX⟩ : ∃ X, lineL o nm.data.toList (sh.data.toList.take j) = X := ⟨_, rfl⟩
      rw [hX] at hst hTl
      have hTX : T = str X := HL.out.trans (by rw [hX])
      have hXl : X.length ≤ 20000000 := by omega
      obtain ⟨c0, c1, c2, c3, c4, c5⟩ := HO.out.six
      have hnbB := HB.out
      have hcl := ch1_len o HOK.out c
      clear hc c0 hHM htl hTl hX
      by_cases h112 : c = 112
      · have e112 : (c.toNat : Int) = 112 := by rw [h112]; rfl
        have hd : ch1 o c = 32 :: byL o.path := by simp [ch1, h112]
        rw [hd] at hst hcl
        obtain ⟨y, z, ⟨e1, z1⟩, ⟨e2, z2⟩, hz⟩ := two_sums X (byL o.path) hXl (by simp only [List.length_cons] at hcl; omega)
        rw [← hTX] at e1 z1
        have HZ : Hid (z = str (lineL o nm.data.toList (sh.data.toList.take (j + 1)))) := hz.trans (by rw [hst])
        have hct := written_any o.path (by have := HOK.out.path; omega) wr
        have HOa : Hid (∀ U, Below wr.heap.size wr U → OpAt U w.heap.size o) := fun U hb => HO.out.below hb HO.out.lt
        obtain ⟨u, hu⟩ : ∃ u, str (byL o.path) = u := ⟨_, rfl⟩
        rw [hu] at hct e2 z2
        clear h112 hst hd hz hTX hXl hcl hu
        go_wp2_with (go_at_call 64; refine hct.mono ?_; rintro e w5 ⟨rfl, hb5⟩; clear hct)
        have HO2 : Hid (OpAt w5 w.heap.size o) := HOa.out _ hb5
        have HB2 : Hid (Below w.heap.size w w5) := hnbB.trans (hb5.mono hnbB.size)
        go_roundg (gk - 1)
        case measure => omega
        case rel => exact ⟨j + 1, z, by omega, rfl, by go_num, HZ, HO2, HB2⟩
      have e112 : ¬ (c.toNat : Int) = 112 := fun e => h112 (UInt8.toNat_inj.1 (by have : (((112 : UInt8).toNat : Nat) : Int) = 112 := rfl; omega))
      by_cases h116 : c = 116
      · have e116 : (c.toNat : Int) = 116 := by rw [h116]; rfl
        have hd : ch1 o c = 32 :: byL o.to := by simp [ch1, h116]
        rw [hd] at hst hcl
        obtain ⟨y, z, ⟨e1, z1⟩, ⟨e2, z2⟩, hz⟩ := two_sums X (byL o.to) hXl (by simp only [List.length_cons] at hcl; omega)
        rw [← hTX] at e1 z1
        have HZ : Hid (z = str (lineL o nm.data.toList (sh.data.toList.take (j + 1)))) := hz.trans (by rw [hst])
        have hct := written_any o.to (by have := HOK.out.to; omega) wr
        have HOa : Hid (∀ U, Below wr.heap.size wr U → OpAt U w.heap.size o) := fun U hb => HO.out.below hb HO.out.lt
        obtain ⟨u, hu⟩ : ∃ u, str (byL o.to) = u := ⟨_, rfl⟩
        rw [hu] at hct e2 z2
        clear h116 hst hd hz hTX hXl hcl hu
        go_wp2_with (go_at_call 64; refine hct.mono ?_; rintro e w5 ⟨rfl, hb5⟩; clear hct)
        have HO2 : Hid (OpAt w5 w.heap.size o) := HOa.out _ hb5
        have HB2 : Hid (Below w.heap.size w w5) := hnbB.trans (hb5.mono hnbB.size)
        go_roundg (gk - 1)
        case measure => omega
        case rel => exact ⟨j + 1, z, by omega, rfl, by go_num, HZ, HO2, HB2⟩
      have e116 : ¬ (c.toNat : Int) = 116 := fun e => h116 (UInt8.toNat_inj.1 (by have : (((116 : UInt8).toNat : Nat) : Int) = 116 := rfl; omega))
      by_cases h100 : c = 100
      · have e100 : (c.toNat : Int) = 100 := by rw [h100]; rfl
        have hd : ch1 o c = 32 :: byL o.data := by simp [ch1, h100]
        rw [hd] at hst hcl
        obtain ⟨y, z, ⟨e1, z1⟩, ⟨e2, z2⟩, hz⟩ := two_sums X (byL o.data) hXl (by simp only [List.length_cons] at hcl; omega)
        rw [← hTX] at e1 z1
        have HZ : Hid (z = str (lineL o nm.data.toList (sh.data.toList.take (j + 1)))) := hz.trans (by rw [hst])
        have hct := written_any o.data (by have := HOK.out.data; omega) wr
        have HOa : Hid (∀ U, Below wr.heap.size wr U → OpAt U w.heap.size o) := fun U hb => HO.out.below hb HO.out.lt
        obtain ⟨u, hu⟩ : ∃ u, str (byL o.data) = u := ⟨_, rfl⟩
        rw [hu] at hct e2 z2
        clear h100 hst hd hz hTX hXl hcl hu
        go_wp2_with (go_at_call 64; refine hct.mono ?_; rintro e w5 ⟨rfl, hb5⟩; clear hct)
        have HO2 : Hid (OpAt w5 w.heap.size o) := HOa.out _ hb5
        have HB2 : Hid (Below w.heap.size w w5) := hnbB.trans (hb5.mono hnbB.size)
        go_roundg (gk - 1)
        case measure => omega
        case rel => exact ⟨j + 1, z, by omega, rfl, by go_num, HZ, HO2, HB2⟩
      have e100 : ¬ (c.toNat : Int) = 100 := fun e => h100 (UInt8.toNat_inj.1 (by have : (((100 : UInt8).toNat : Nat) : Int) = 100 := rfl; omega))
      by_cases h97 : c = 97
      · have e97 : (c.toNat : Int) = 97 := by rw [h97]; rfl
        have hd : ch1 o c = 32 :: itoa o.at_ := by simp [ch1, h97]
        rw [hd] at hst hcl
        obtain ⟨y, z, ⟨e1, z1⟩, ⟨e2, z2⟩, hz⟩ := two_sums X (itoa o.at_) hXl (by simp only [List.length_cons] at hcl; omega)
        rw [← hTX] at e1 z1
        have HZ : Hid (z = str (lineL o nm.data.toList (sh.data.toList.take (j + 1)))) := hz.trans (by rw [hst])
        have hct := rNumber_any o.at_ HOK.out.at_ wr (HT.out.below HB.out HT.out.lt)
        have HOa : Hid (∀ U, Below wr.heap.size wr U → OpAt U w.heap.size o) := fun U hb => HO.out.below hb HO.out.lt
        obtain ⟨u, hu⟩ : ∃ u, str (itoa o.at_) = u := ⟨_, rfl⟩
        rw [hu] at hct e2 z2
        clear h97 hst hd hz hTX hXl hcl hu
        go_wp2_with (go_at_call 42; refine hct.mono ?_; rintro e w5 ⟨rfl, hb5⟩; clear hct)
        have HO2 : Hid (OpAt w5 w.heap.size o) := HOa.out _ hb5
        have HB2 : Hid (Below w.heap.size w w5) := hnbB.trans (hb5.mono hnbB.size)
        go_roundg (gk - 1)
        case measure => omega
        case rel => exact ⟨j + 1, z, by omega, rfl, by go_num, HZ, HO2, HB2⟩
      have e97 : ¬ (c.toNat : Int) = 97 := fun e => h97 (UInt8.toNat_inj.1 (by have : (((97 : UInt8).toNat : Nat) : Int) = 97 := rfl; omega))
      by_cases h110 : c = 110
      · have e110 : (c.toNat : Int) = 110 := by rw [h110]; rfl
        have hd : ch1 o c = 32 :: itoa o.n := by simp [ch1, h110]
        rw [hd] at hst hcl
        obtain ⟨y, z, ⟨e1, z1⟩, ⟨e2, z2⟩, hz⟩ := two_sums X (itoa o.n) hXl (by simp only [List.length_cons] at hcl; omega)
        rw [← hTX] at e1 z1
        have HZ : Hid (z = str (lineL o nm.data.toList (sh.data.toList.take (j + 1)))) := hz.trans (by rw [hst])
        have hct := rNumber_any o.n HOK.out.n wr (HT.out.below HB.out HT.out.lt)
        have HOa : Hid (∀ U, Below wr.heap.size wr U → OpAt U w.heap.size o) := fun U hb => HO.out.below hb HO.out.lt
        obtain ⟨u, hu⟩ : ∃ u, str (itoa o.n) = u := ⟨_, rfl⟩
        rw [hu] at hct e2 z2
        clear h110 hst hd hz hTX hXl hcl hu
        go_wp2_with (go_at_call 42; refine hct.mono ?_; rintro e w5 ⟨rfl, hb5⟩; clear hct)
        have HO2 : Hid (OpAt w5 w.heap.size o) := HOa.out _ hb5
        have HB2 : Hid (Below w.heap.size w w5) := hnbB.trans (hb5.mono hnbB.size)
        go_roundg (gk - 1)
        case measure => omega
        case rel => exact ⟨j + 1, z, by omega, rfl, by go_num, HZ, HO2, HB2⟩
      have e110 : ¬ (c.toNat : Int) = 110 := fun e => h110 (UInt8.toNat_inj.1 (by have : (((110 : UInt8).toNat : Nat) : Int) = 110 := rfl; omega))
      have hd : ch1 o c = [] := by simp [ch1, h112, h116, h100, h97, h110]
      rw [hd, List.append_nil] at hst
      have HZ : Hid (T = str (lineL o nm.data.toList (sh.data.toList.take (j + 1)))) := hTX.trans (by rw [hst])
      clear h112 h116 h100 h97 h110 hst hd hTX hXl hcl
      go_wp2_with fail
      go_roundg (gk - 1)
      case measure => omega
      case rel => exact ⟨j + 1, T, by omega, rfl, by go_num, HZ, HO, HB⟩
    · obtain rfl : j = n := by omega
      have hltI : ¬ (j : Int) < (j : Int) := by omega
      have hfin := HL.out
      rw [List.take_of_length_le (by omega)] at hfin
      have HF : Hid (T = str (lineL o nm.data.toList sh.data.toList)) := hfin
      clear hfin
      go_wp2_with fail
      go_ret
      exact ⟨by rw [HF.out]; rfl, HB.out⟩
end Go.Proofs.YtcochbcaillldaaGreatDoor.Sc
