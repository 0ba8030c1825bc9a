import Derived.Test.YtlmopjbfagijeaaGreatDoorYcM
import Derived.Test.YtlmopjbfagijeaaGreatDoorYgM
import Derived.Test.YtlmopjbfagijeaaGreatDoorYeM
namespace Go.Proofs.YtlmopjbfagijeaaGreatDoor.Sc
open Go.RowKit Go.Lib Go.Deep

theorem sizeOp : (Tryz.prog.info? 54).map (·.size) = some 6 := by kernel_rfl
def shapeL : List ByteArray := [{ data := #[] }, { data := #[112] }, { data := #[112] }, { data := #[112, 97, 110] }, { data := #[112, 97, 100] }, { data := #[112, 110] }, { data := #[112, 116] }, { data := #[112] }, { data := #[112] }, { data := #[112] }, { data := #[112] }]
def opsL : List ByteArray := [{ data := #[] }, { data := #[109, 107, 100, 105, 114] }, { data := #[99, 114, 101, 97, 116, 101] }, { data := #[114, 101, 97, 100] }, { data := #[119, 114, 105, 116, 101] }, { data := #[99, 117, 116] }, { data := #[114, 101, 110, 97, 109, 101] }, { data := #[114, 101, 109, 111, 118, 101] }, { data := #[114, 109, 100, 105, 114] }, { data := #[108, 105, 115, 116] }, { data := #[115, 116, 97, 116] }]
set_option maxRecDepth 20000 in
set_option maxHeartbeats 1000000 in
theorem opShape_any (w : World) :
    Calls Tryz.prog 106 #[] w fun e w' => e = .returned (.slice (some ⟨w.heap.size, 0, none⟩) 11 11) ∧ w' = w.alloc (.cells (shapeL.map Value.string).toArray 9) := by
  go_enter Tryz.func106, Tryz.ntmps106
  go_wp2_with fail
  go_ret
  exact ⟨rfl, rfl⟩
set_option maxRecDepth 20000 in
set_option maxHeartbeats 1000000 in
theorem ops_any (w : World) :
    Calls Tryz.prog 107 #[] w fun e w' => e = .returned (.slice (some ⟨w.heap.size, 0, none⟩) 11 11) ∧ w' = w.alloc (.cells (opsL.map Value.string).toArray 9) := by
  go_enter Tryz.func107, Tryz.ntmps107
  go_wp2_with fail
  go_ret
  exact ⟨rfl, rfl⟩
def put1 (o x : OpR) (c : UInt8) : OpR :=
  if c = 112 then { x with path := o.path } else if c = 116 then { x with to := o.to } else if c = 100 then { x with data := o.data } else if c = 97 then { x with at_ := o.at_ } else if c = 110 then { x with n := o.n } else x
def zeroO (k : Int) : OpR := ⟨k, nil_, nil_, 0, 0, nil_⟩
def namedR (o : OpR) (sh : List UInt8) : OpR := sh.foldl (put1 o) (zeroO o.kind)
theorem putP {w : World} {g : Nat} {x : OpR} (h : OpAt w g x) (u : ByteArray) : OpAt (w.setCell ⟨g, 1, none⟩ (.string u)) g { x with path := u } := by
  unfold OpAt at h ⊢
  simp [World.setCell, Array.getElem?_modify, h, OpR.cells]
theorem putT {w : World} {g : Nat} {x : OpR} (h : OpAt w g x) (u : ByteArray) : OpAt (w.setCell ⟨g, 2, none⟩ (.string u)) g { x with to := u } := by
  unfold OpAt at h ⊢
  simp [World.setCell, Array.getElem?_modify, h, OpR.cells]
theorem putA {w : World} {g : Nat} {x : OpR} (h : OpAt w g x) (u : Int) : OpAt (w.setCell ⟨g, 3, none⟩ (.int .i64 u)) g { x with at_ := u } := by
  unfold OpAt at h ⊢
  simp [World.setCell, Array.getElem?_modify, h, OpR.cells]
theorem putN {w : World} {g : Nat} {x : OpR} (h : OpAt w g x) (u : Int) : OpAt (w.setCell ⟨g, 4, none⟩ (.int .i64 u)) g { x with n := u } := by
  unfold OpAt at h ⊢
  simp [World.setCell, Array.getElem?_modify, h, OpR.cells]
theorem putD {w : World} {g : Nat} {x : OpR} (h : OpAt w g x) (u : ByteArray) : OpAt (w.setCell ⟨g, 5, none⟩ (.string u)) g { x with data := u } := by
  unfold OpAt at h ⊢
  simp [World.setCell, Array.getElem?_modify, h, OpR.cells]
theorem namedR_take (o : OpR) (l : List UInt8) (j : Nat) (c : UInt8) (h : l[j]? = some c) : (l.take (j + 1)).foldl (put1 o) (zeroO o.kind) = put1 o ((l.take j).foldl (put1 o) (zeroO o.kind)) c := by
  rw [take_succ_of l j c h, List.foldl_append]
  rfl

set_option maxRecDepth 20000 in
set_option maxHeartbeats 4000000 in
theorem named_any (o : OpR) (k : Nat) (hk : o.kind = k) (sh : ByteArray) (hsh : shapeL[k]? = some sh) (w : World) :
    Calls Tryz.prog 65 #[.agg o.cells] w fun e w' => e = .returned (.agg (namedR o sh.data.toList).cells) ∧ Below w.heap.size w w' := by
  obtain ⟨W, hW⟩ : ∃ W, ((w.alloc (.cells o.cells 54)).alloc (.cells #[.int .i64 0, .string { data := #[] }, .string { data := #[] }, .int .i64 0, .int .i64 0, .string { data := #[] }] 54)).alloc (.cells #[.int .i64 o.kind, .string { data := #[] }, .string { data := #[] }, .int .i64 0, .int .i64 0, .string { data := #[] }] 54) = W := ⟨_, rfl⟩
  have hbW : Below w.heap.size w W := by rw [← hW]; exact (((Below.refl _ _).alloc (Nat.le_refl _) _).alloc (by simp) _).alloc (by simp; omega) _
  have hWs : W.heap.size = w.heap.size + 1 + 1 + 1 := by rw [← hW]; simp
  have hoW : OpAt W w.heap.size o := by
    rw [← hW]
    exact (Lib.alloc_old _ _ _ (by simp; omega)).trans ((Lib.alloc_old _ _ _ (by simp)).trans (heap_alloc_new _ _))
  have hrW : OpAt W (w.heap.size + 1) (zeroO 0) := by
    rw [← hW]
    exact (Lib.alloc_old _ _ _ (by simp)).trans (by have h := heap_alloc_new (w.alloc (.cells o.cells 54)) (.cells #[.int .i64 0, .string { data := #[] }, .string { data := #[] }, .int .i64 0, .int .i64 0, .string { data := #[] }] 54); rw [show (w.alloc (.cells o.cells 54)).heap.size = w.heap.size + 1 by simp] at h; exact h)
  have hxW : OpAt W (w.heap.size + 1 + 1) (zeroO o.kind) := by
    have h := heap_alloc_new ((w.alloc (.cells o.cells 54)).alloc (.cells #[.int .i64 0, .string { data := #[] }, .string { data := #[] }, .int .i64 0, .int .i64 0, .string { data := #[] }] 54)) (.cells #[.int .i64 o.kind, .string { data := #[] }, .string { data := #[] }, .int .i64 0, .int .i64 0, .string { data := #[] }] 54)
    rw [hW] at h
    rw [show ((w.alloc (.cells o.cells 54)).alloc (.cells #[.int .i64 0, .string { data := #[] }, .string { data := #[] }, .int .i64 0, .int .i64 0, .string { data := #[] }] 54)).heap.size = w.heap.size + 1 + 1 by simp] at h
    exact h
  have hos := opShape_any W
  rw [hWs] at hos
  have hbS := (Below.refl W.heap.size W).alloc (Nat.le_refl _) (.cells (shapeL.map Value.string).toArray 9)
  have hsS := heap_alloc_new W (.cells (shapeL.map Value.string).toArray 9)
  rw [hWs] at hsS
  obtain ⟨V, hV⟩ : ∃ V, W.alloc (.cells (shapeL.map Value.string).toArray 9) = V := ⟨_, rfl⟩
  rw [hV] at hos hbS hsS
  have hsV : V.heap[w.heap.size + 1 + 1 + 1]? = some (.cells (shapeL.map Value.string).toArray 9 (0, 0)) := hsS
  have cs : V.cell? ⟨w.heap.size + 1 + 1 + 1, k, none⟩ = some (.string sh) := by
    rw [Lib.cell_of_heap hsV]
    simp [hsh]
  have hk11 : (k : Int) < 11 := by
    have := (List.getElem?_eq_some_iff.1 hsh).1
    have e : shapeL.length = 11 := rfl
    omega
  have hoV := hoW.below hbS hoW.lt
  have hxV := hxW.below hbS hxW.lt
  have hrV := hrW.below hbS hrW.lt
  have hbV : Below w.heap.size w V := hbW.trans (hbS.mono hbW.size)
  have q0 := hoV.six.1
  rw [hk] at q0
  have HS : Hid (sh.data.toList.length = sh.size) := (size_eq sh).symm
  have HK : Hid (o.kind = k) := hk
  obtain ⟨n, hn⟩ : ∃ n, sh.size = n := ⟨_, rfl⟩
  have HN : Hid (sh.size = n) := hn
  clear hsS hsV hbS hV hoW hxW hrW hWs
  unfold OpR.cells at hW ⊢
  rw [hk] at hW ⊢
  have HW : Hid (_ = W) := hW
  clear hk hW
  go_enter Tryz.func65, Tryz.ntmps65
  go_wp2_with fail
  rw [HW.out]
  refine hos.mono ?_
  rintro e w1 ⟨rfl, rfl⟩
  clear hos HW
  have HO : Hid (OpAt w1 w.heap.size o) := hoV
  have HX : Hid (OpAt w1 (w.heap.size + 1 + 1) (zeroO o.kind)) := hxV
  have HR : Hid (OpAt w1 (w.heap.size + 1) (zeroO 0)) := hrV
  have HB : Hid (Below w.heap.size w w1) := hbV
  clear hoV hxV hrV hbV hbW
  have hnb : n ≤ 3 := by
    have h : ∀ x ∈ shapeL, x.size ≤ 3 := by decide
    rw [← HN.out]
    exact h sh (List.mem_of_getElem? hsh)
  clear hsh
  go_wp2_with fail
  go_loopg [6] n (fun gk i wr => ∃ j : Nat, j + gk = n ∧ i = .int .i64 (j : Int) ∧ Hid (OpAt wr (w.heap.size + 1 + 1) ((sh.data.toList.take j).foldl (put1 o) (zeroO o.kind))) ∧ Hid (OpAt wr w.heap.size o) ∧ Hid (OpAt wr (w.heap.size + 1) (zeroO 0)) ∧ Hid (Below w.heap.size w wr))
  case atStart => exact ⟨0, by omega, rfl, HX, HO, HR, HB⟩
  case round =>
    clear HX HO HR HB cs q0
    obtain ⟨j, hj, rfl, HX, HO, HR, HB⟩ := hrel
    have hHS := HS.out
    rw [HN.out] at hHS
    by_cases hlt : j < n
    · have hltI : (j : Int) < (n : Int) := by omega
      obtain ⟨c, hc⟩ : ∃ c, sh.data.toList[j]? = some c := ⟨_, List.getElem?_eq_getElem (by omega)⟩
      have hix := fun U => index_at (P := Tryz.prog) U 9 sh .i64 j c Tryz.underlying9 hc
      have hst := namedR_take o sh.data.toList j c hc
      have hx := HX.out
      generalize (sh.data.toList.take j).foldl (put1 o) (zeroO o.kind) = x at hst hx
      obtain ⟨c0, c1, c2, c3, c4, c5⟩ := HO.out.six
      obtain ⟨x0, x1, x2, x3, x4, x5⟩ := hx.six
      have xf := hx.frozen
      clear hc c0 x0
      by_cases h112 : c = 112
      · have e112 : (c.toNat : Int) = 112 := by rw [h112]; rfl
        have HX2 : Hid (OpAt (wr.setCell ⟨w.heap.size + 1 + 1, 1, none⟩ (.string o.path)) (w.heap.size + 1 + 1) ((sh.data.toList.take (j + 1)).foldl (put1 o) (zeroO o.kind))) := by
          show OpAt _ _ _
          rw [hst, show put1 o x c = { x with path := o.path } by simp [put1, h112]]
          exact putP hx o.path
        have HO2 : Hid (OpAt (wr.setCell ⟨w.heap.size + 1 + 1, 1, none⟩ (.string o.path)) w.heap.size o) := (Below.heap_setCell _ _ _ _ (by show w.heap.size ≠ w.heap.size + 1 + 1; omega)).trans HO.out
        have HR2 : Hid (OpAt (wr.setCell ⟨w.heap.size + 1 + 1, 1, none⟩ (.string o.path)) (w.heap.size + 1) (zeroO 0)) := (Below.heap_setCell _ _ _ _ (by show w.heap.size + 1 ≠ w.heap.size + 1 + 1; omega)).trans HR.out
        have HB2 : Hid (Below w.heap.size w (wr.setCell ⟨w.heap.size + 1 + 1, 1, none⟩ (.string o.path))) := HB.out.setCell (p := ⟨w.heap.size + 1 + 1, 1, none⟩) (by show w.heap.size ≤ w.heap.size + 1 + 1; omega) _
        obtain ⟨W2, hW2⟩ : ∃ W2, wr.setCell ⟨w.heap.size + 1 + 1, 1, none⟩ (.string o.path) = W2 := ⟨_, rfl⟩
        rw [hW2] at HX2 HO2 HR2 HB2
        clear h112 hst hx
        go_wp2
        go_roundg (gk - 1)
        case measure => omega
        case rel => exact ⟨j + 1, by omega, by go_num, HX2, HO2, HR2, HB2⟩
      have e112 : ¬ (c.toNat : Int) = 112 := fun e => h112 (UInt8.toNat_inj.1 (by have : (((112 : UInt8).toNat : Nat) : Int) = 112 := rfl; omega))
      by_cases h116 : c = 116
      · have e116 : (c.toNat : Int) = 116 := by rw [h116]; rfl
        have HX2 : Hid (OpAt (wr.setCell ⟨w.heap.size + 1 + 1, 2, none⟩ (.string o.to)) (w.heap.size + 1 + 1) ((sh.data.toList.take (j + 1)).foldl (put1 o) (zeroO o.kind))) := by
          show OpAt _ _ _
          rw [hst, show put1 o x c = { x with to := o.to } by simp [put1, h116]]
          exact putT hx o.to
        have HO2 : Hid (OpAt (wr.setCell ⟨w.heap.size + 1 + 1, 2, none⟩ (.string o.to)) w.heap.size o) := (Below.heap_setCell _ _ _ _ (by show w.heap.size ≠ w.heap.size + 1 + 1; omega)).trans HO.out
        have HR2 : Hid (OpAt (wr.setCell ⟨w.heap.size + 1 + 1, 2, none⟩ (.string o.to)) (w.heap.size + 1) (zeroO 0)) := (Below.heap_setCell _ _ _ _ (by show w.heap.size + 1 ≠ w.heap.size + 1 + 1; omega)).trans HR.out
        have HB2 : Hid (Below w.heap.size w (wr.setCell ⟨w.heap.size + 1 + 1, 2, none⟩ (.string o.to))) := HB.out.setCell (p := ⟨w.heap.size + 1 + 1, 2, none⟩) (by show w.heap.size ≤ w.heap.size + 1 + 1; omega) _
        obtain ⟨W2, hW2⟩ : ∃ W2, wr.setCell ⟨w.heap.size + 1 + 1, 2, none⟩ (.string o.to) = W2 := ⟨_, rfl⟩
        rw [hW2] at HX2 HO2 HR2 HB2
        clear h116 hst hx
        go_wp2
        go_roundg (gk - 1)
        case measure => omega
        case rel => exact ⟨j + 1, by omega, by go_num, HX2, HO2, HR2, HB2⟩
      have e116 : ¬ (c.toNat : Int) = 116 := fun e => h116 (UInt8.toNat_inj.1 (by have : (((116 : UInt8).toNat : Nat) : Int) = 116 := rfl; omega))
      by_cases h100 : c = 100
      · have e100 : (c.toNat : Int) = 100 := by rw [h100]; rfl
        have HX2 : Hid (OpAt (wr.setCell ⟨w.heap.size + 1 + 1, 5, none⟩ (.string o.data)) (w.heap.size + 1 + 1) ((sh.data.toList.take (j + 1)).foldl (put1 o) (zeroO o.kind))) := by
          show OpAt _ _ _
          rw [hst, show put1 o x c = { x with data := o.data } by simp [put1, h100]]
          exact putD hx o.data
        have HO2 : Hid (OpAt (wr.setCell ⟨w.heap.size + 1 + 1, 5, none⟩ (.string o.data)) w.heap.size o) := (Below.heap_setCell _ _ _ _ (by show w.heap.size ≠ w.heap.size + 1 + 1; omega)).trans HO.out
        have HR2 : Hid (OpAt (wr.setCell ⟨w.heap.size + 1 + 1, 5, none⟩ (.string o.data)) (w.heap.size + 1) (zeroO 0)) := (Below.heap_setCell _ _ _ _ (by show w.heap.size + 1 ≠ w.heap.size + 1 + 1; omega)).trans HR.out
        have HB2 : Hid (Below w.heap.size w (wr.setCell ⟨w.heap.size + 1 + 1, 5, none⟩ (.string o.data))) := HB.out.setCell (p := ⟨w.heap.size + 1 + 1, 5, none⟩) (by show w.heap.size ≤ w.heap.size + 1 + 1; omega) _
        obtain ⟨W2, hW2⟩ : ∃ W2, wr.setCell ⟨w.heap.size + 1 + 1, 5, none⟩ (.string o.data) = W2 := ⟨_, rfl⟩
        rw [hW2] at HX2 HO2 HR2 HB2
        clear h100 hst hx
        go_wp2
        go_roundg (gk - 1)
        case measure => omega
        case rel => exact ⟨j + 1, by omega, by go_num, HX2, HO2, HR2, HB2⟩
      have e100 : ¬ (c.toNat : Int) = 100 := fun e => h100 (UInt8.toNat_inj.1 (by have : (((100 : UInt8).toNat : Nat) : Int) = 100 := rfl; omega))
      by_cases h97 : c = 97
      · have e97 : (c.toNat : Int) = 97 := by rw [h97]; rfl
        have HX2 : Hid (OpAt (wr.setCell ⟨w.heap.size + 1 + 1, 3, none⟩ (.int .i64 o.at_)) (w.heap.size + 1 + 1) ((sh.data.toList.take (j + 1)).foldl (put1 o) (zeroO o.kind))) := by
          show OpAt _ _ _
          rw [hst, show put1 o x c = { x with at_ := o.at_ } by simp [put1, h97]]
          exact putA hx o.at_
        have HO2 : Hid (OpAt (wr.setCell ⟨w.heap.size + 1 + 1, 3, none⟩ (.int .i64 o.at_)) w.heap.size o) := (Below.heap_setCell _ _ _ _ (by show w.heap.size ≠ w.heap.size + 1 + 1; omega)).trans HO.out
        have HR2 : Hid (OpAt (wr.setCell ⟨w.heap.size + 1 + 1, 3, none⟩ (.int .i64 o.at_)) (w.heap.size + 1) (zeroO 0)) := (Below.heap_setCell _ _ _ _ (by show w.heap.size + 1 ≠ w.heap.size + 1 + 1; omega)).trans HR.out
        have HB2 : Hid (Below w.heap.size w (wr.setCell ⟨w.heap.size + 1 + 1, 3, none⟩ (.int .i64 o.at_))) := HB.out.setCell (p := ⟨w.heap.size + 1 + 1, 3, none⟩) (by show w.heap.size ≤ w.heap.size + 1 + 1; omega) _
        obtain ⟨W2, hW2⟩ : ∃ W2, wr.setCell ⟨w.heap.size + 1 + 1, 3, none⟩ (.int .i64 o.at_) = W2 := ⟨_, rfl⟩
        rw [hW2] at HX2 HO2 HR2 HB2
        clear h97 hst hx
        go_wp2
        go_roundg (gk - 1)
        case measure => omega
        case rel => exact ⟨j + 1, by omega, by go_num, HX2, HO2, HR2, HB2⟩
      have e97 : ¬ (c.toNat : Int) = 97 := fun e => h97 (UInt8.toNat_inj.1 (by have : (((97 : UInt8).toNat : Nat) : Int) = 97 := rfl; omega))
      by_cases h110 : c = 110
      · have e110 : (c.toNat : Int) = 110 := by rw [h110]; rfl
        have HX2 : Hid (OpAt (wr.setCell ⟨w.heap.size + 1 + 1, 4, none⟩ (.int .i64 o.n)) (w.heap.size + 1 + 1) ((sh.data.toList.take (j + 1)).foldl (put1 o) (zeroO o.kind))) := by
          show OpAt _ _ _
          rw [hst, show put1 o x c = { x with n := o.n } by simp [put1, h110]]
          exact putN hx o.n
        have HO2 : Hid (OpAt (wr.setCell ⟨w.heap.size + 1 + 1, 4, none⟩ (.int .i64 o.n)) w.heap.size o) := (Below.heap_setCell _ _ _ _ (by show w.heap.size ≠ w.heap.size + 1 + 1; omega)).trans HO.out
        have HR2 : Hid (OpAt (wr.setCell ⟨w.heap.size + 1 + 1, 4, none⟩ (.int .i64 o.n)) (w.heap.size + 1) (zeroO 0)) := (Below.heap_setCell _ _ _ _ (by show w.heap.size + 1 ≠ w.heap.size + 1 + 1; omega)).trans HR.out
        have HB2 : Hid (Below w.heap.size w (wr.setCell ⟨w.heap.size + 1 + 1, 4, none⟩ (.int .i64 o.n))) := HB.out.setCell (p := ⟨w.heap.size + 1 + 1, 4, none⟩) (by show w.heap.size ≤ w.heap.size + 1 + 1; omega) _
        obtain ⟨W2, hW2⟩ : ∃ W2, wr.setCell ⟨w.heap.size + 1 + 1, 4, none⟩ (.int .i64 o.n) = W2 := ⟨_, rfl⟩
        rw [hW2] at HX2 HO2 HR2 HB2
        clear h110 hst hx
        go_wp2
        go_roundg (gk - 1)
        case measure => omega
        case rel => exact ⟨j + 1, by omega, by go_num, HX2, HO2, HR2, HB2⟩
      have e110 : ¬ (c.toNat : Int) = 110 := fun e => h110 (UInt8.toNat_inj.1 (by have : (((110 : UInt8).toNat : Nat) : Int) = 110 := rfl; omega))
      have hx2 : put1 o x c = x := by simp [put1, h112, h116, h100, h97, h110]
      have HX2 : Hid (OpAt wr (w.heap.size + 1 + 1) ((sh.data.toList.take (j + 1)).foldl (put1 o) (zeroO o.kind))) := by
        show OpAt _ _ _
        rw [hst, hx2]
        exact hx
      clear h112 h116 h100 h97 h110 hst hx hx2
      go_wp2
      go_roundg (gk - 1)
      case measure => omega
      case rel => exact ⟨j + 1, by omega, by go_num, HX2, HO, HR, HB⟩
    · obtain rfl : j = n := by omega
      have hltI : ¬ (j : Int) < (j : Int) := by omega
      have hx := HX.out
      rw [List.take_of_length_le (by omega)] at hx
      have hr := HR.out
      have hbB := HB.out
      obtain ⟨x, hxe⟩ : ∃ x, namedR o sh.data.toList = x := ⟨_, rfl⟩
      rw [show sh.data.toList.foldl (put1 o) (zeroO o.kind) = x from hxe] at hx
      have HE : Hid (namedR o sh.data.toList = x) := hxe
      clear hxe
      obtain ⟨x0, x1, x2, x3, x4, x5⟩ := hx.six
      obtain ⟨r0, r1, r2, r3, r4, r5⟩ := hr.six
      have rf := hr.frozen
      have hfin : OpAt ((((((wr.setCell ⟨w.heap.size + 1, 0, none⟩ (.int .i64 x.kind)).setCell ⟨w.heap.size + 1, 1, none⟩ (.string x.path)).setCell ⟨w.heap.size + 1, 2, none⟩ (.string x.to)).setCell ⟨w.heap.size + 1, 3, none⟩ (.int .i64 x.at_)).setCell ⟨w.heap.size + 1, 4, none⟩ (.int .i64 x.n)).setCell ⟨w.heap.size + 1, 5, none⟩ (.string x.data)) (w.heap.size + 1) x := by
        unfold OpAt at hr ⊢
        simp [World.setCell, Array.getElem?_modify, hr, OpR.cells]
      have HF : Hid _ := hfin
      have HBF : Hid (Below w.heap.size w ((((((wr.setCell ⟨w.heap.size + 1, 0, none⟩ (.int .i64 x.kind)).setCell ⟨w.heap.size + 1, 1, none⟩ (.string x.path)).setCell ⟨w.heap.size + 1, 2, none⟩ (.string x.to)).setCell ⟨w.heap.size + 1, 3, none⟩ (.int .i64 x.at_)).setCell ⟨w.heap.size + 1, 4, none⟩ (.int .i64 x.n)).setCell ⟨w.heap.size + 1, 5, none⟩ (.string x.data))) :=
        (((((hbB.setCell (by simp) _).setCell (by simp) _).setCell (by simp) _).setCell (by simp) _).setCell (by simp) _).setCell (by simp) _
      clear hfin hbB
      go_wp2
      refine bodyPost_ret (results_cell1 rfl _ _ (w.heap.size + 1) 54 _ (0, 0) _ rfl HF.out Tryz.underlying54 rfl sizeOp) rfl ?_
      rw [HE.out]
      exact ⟨rfl, HBF.out⟩
end Go.Proofs.YtlmopjbfagijeaaGreatDoor.Sc

namespace Go.Proofs.YtlmopjbfagijeaaGreatDoor.Sc
open Go.RowKit Go.Lib Go.Deep

def ch1 (o : OpR) (c : UInt8) : List UInt8 :=
  if c = 112 then 32 :: byL o.path else if c = 116 then 32 :: byL o.to else if c = 100 then 32 :: byL o.data else if c = 97 then 32 :: itoa o.at_ else if c = 110 then 32 :: itoa o.n else []
def lineL (o : OpR) (nm sh : List UInt8) : List UInt8 := nm ++ sh.flatMap (ch1 o)
theorem strs_app (a b : List UInt8) : str a ++ str b = str (a ++ b) := by
  apply ByteArray.ext
  simp [str]
theorem lineL_take (o : OpR) (nm l : List UInt8) (j : Nat) (c : UInt8) (h : l[j]? = some c) : lineL o nm (l.take (j + 1)) = lineL o nm (l.take j) ++ ch1 o c := by
  unfold lineL
  rw [take_succ_of l j c h, List.flatMap_append]
  simp
theorem ch1_len (o : OpR) (hok : o.Ok) (c : UInt8) : (ch1 o c).length ≤ 3200000 := by
  have hp := hok.path
  have ht := hok.to
  have hd := hok.data
  have h1 := byL_len o.path
  have h2 := byL_len o.to
  have h3 := byL_len o.data
  have h4 := itoa_len o.at_ hok.at_.1 hok.at_.2
  have h5 := itoa_len o.n hok.n.1 hok.n.2
  unfold ch1
  repeat' split
  all_goals (simp only [List.length_cons, List.length_nil]; omega)
theorem lineL_len (o : OpR) (hok : o.Ok) (nm sh : List UInt8) : (lineL o nm sh).length ≤ nm.length + 3200000 * sh.length := by
  unfold lineL
  induction sh with
  | nil => simp
  | cons a t ih =>
    have h := ch1_len o hok a
    simp only [List.flatMap_cons, List.length_append, List.length_cons] at ih ⊢
    omega
/-- the two steps of a word written behind a text -/
theorem two_sums (T U : List UInt8) (hT : T.length ≤ 20000000) (hU : U.length ≤ 4000000) : ∃ y z : ByteArray, (str T ++ ({ data := #[32] } : ByteArray) = y ∧ ¬ 9223372036854775807 < (str T).size + 1) ∧ (y ++ str U = z ∧ ¬ 9223372036854775807 < y.size + (str U).size) ∧ z = str (T ++ 32 :: U) := by
  refine ⟨_, _, ⟨rfl, by rw [str_size]; omega⟩, ⟨rfl, ?_⟩, ?_⟩
  · show ¬ 9223372036854775807 < (str T ++ str [32]).size + (str U).size
    rw [strs_app, str_size, str_size, List.length_append]
    simp only [List.length_cons, List.length_nil]
    omega
  · show str T ++ str [32] ++ str U = _
    rw [strs_app, strs_app, List.append_assoc]
    rfl
set_option maxRecDepth 20000 in
set_option maxHeartbeats 4000000 in
theorem opLine_any (o : OpR) (hok : o.Ok) (k : Nat) (hk : o.kind = k) (sh nm : ByteArray) (hsh : shapeL[k]? = some sh) (hnm : opsL[k]? = some nm) (w : World) (ht : ITab w) :
    Calls Tryz.prog 66 #[.agg o.cells] w fun e w' => e = .returned (.string (str (lineL o nm.data.toList sh.data.toList))) ∧ Below w.heap.size w w' := by
  obtain ⟨W, hW⟩ : ∃ W, w.alloc (.cells o.cells 54) = W := ⟨_, rfl⟩
  have hbW : Below w.heap.size w W := by rw [← hW]; exact (Below.refl _ _).alloc (Nat.le_refl _) _
  have hWs : W.heap.size = w.heap.size + 1 := by rw [← hW]; simp
  have hoW : OpAt W w.heap.size o := by
    rw [← hW]
    exact heap_alloc_new _ _
  have hos := ops_any W
  rw [hWs] at hos
  have hb1 := (Below.refl W.heap.size W).alloc (Nat.le_refl _) (.cells (opsL.map Value.string).toArray 9)
  have hs1 := heap_alloc_new W (.cells (opsL.map Value.string).toArray 9)
  rw [hWs] at hs1
  obtain ⟨V, hV⟩ : ∃ V, W.alloc (.cells (opsL.map Value.string).toArray 9) = V := ⟨_, rfl⟩
  have hVs : V.heap.size = w.heap.size + 1 + 1 := by rw [← hV]; simp [hWs]
  rw [hV] at hos hb1 hs1
  have hos2 := opShape_any V
  rw [hVs] at hos2
  have hb2 := (Below.refl V.heap.size V).alloc (Nat.le_refl _) (.cells (shapeL.map Value.string).toArray 9)
  have hs2 := heap_alloc_new V (.cells (shapeL.map Value.string).toArray 9)
  rw [hVs] at hs2
  have hl1 : w.heap.size + 1 < V.heap.size := by omega
  obtain ⟨U, hU⟩ : ∃ U, V.alloc (.cells (shapeL.map Value.string).toArray 9) = U := ⟨_, rfl⟩
  rw [hU] at hos2 hb2 hs2
  have hs1 : V.heap[w.heap.size + 1]? = some (.cells (opsL.map Value.string).toArray 9 (0, 0)) := hs1
  have hs1U : U.heap[w.heap.size + 1]? = some (.cells (opsL.map Value.string).toArray 9 (0, 0)) := (hb2.block _ hl1).trans hs1
  have hs2U : U.heap[w.heap.size + 1 + 1]? = some (.cells (shapeL.map Value.string).toArray 9 (0, 0)) := hs2
  have c1 : U.cell? ⟨w.heap.size + 1, k, none⟩ = some (.string nm) := by
    rw [Lib.cell_of_heap hs1U]
    simp [hnm]
  have c2 : U.cell? ⟨w.heap.size + 1 + 1, k, none⟩ = some (.string sh) := by
    rw [Lib.cell_of_heap hs2U]
    simp [hsh]
  have hk11 : (k : Int) < 11 := by
    have := (List.getElem?_eq_some_iff.1 hsh).1
    have e : shapeL.length = 11 := rfl
    omega
  have hoU := (hoW.below hb1 hoW.lt).below hb2 (by have := hoW.lt; omega)
  have hbU : Below w.heap.size w U := (hbW.trans (hb1.mono hbW.size)).trans (hb2.mono (by omega))
  have q0 := hoU.six.1
  rw [hk] at q0
  have HS : Hid (sh.data.toList.length = sh.size) := (size_eq sh).symm
  have HK : Hid (o.kind = k) := hk
  have HT : Hid (ITab w) := ht
  have HOK : Hid o.Ok := hok
  obtain ⟨n, hn⟩ : ∃ n, sh.size = n := ⟨_, rfl⟩
  have HN : Hid (sh.size = n) := hn
  have hnb : n ≤ 3 := by
    have h : ∀ x ∈ shapeL, x.size ≤ 3 := by decide
    rw [← hn]
    exact h sh (List.mem_of_getElem? hsh)
  have HM : Hid (nm.data.toList.length ≤ 6) := by
    have h : ∀ x ∈ opsL, x.data.toList.length ≤ 6 := by decide
    exact h nm (List.mem_of_getElem? hnm)
  clear hs1 hs2 hs1U hs2U hb1 hb2 hV hU hWs hVs hl1 hoW hsh hnm ht hok hbW
  unfold OpR.cells at hW ⊢
  rw [hk] at hW ⊢
  have HW : Hid (_ = W) := hW
  clear hk hW
  go_enter Tryz.func66, Tryz.ntmps66
  go_wp2_with fail
  rw [HW.out]
  refine hos.mono ?_
  rintro e w1 ⟨rfl, rfl⟩
  clear hos HW
  go_wp2_with (go_at_call 106; refine hos2.mono ?_; rintro e w2 ⟨rfl, rfl⟩; clear hos2)
  --loop
  have HO : Hid (OpAt w2 w.heap.size o) := hoU
  have HB : Hid (Below w.heap.size w w2) := hbU
  clear hs1 c1 c2 hoU hbU q0
  have h0 : nm = str (lineL o nm.data.toList (sh.data.toList.take 0)) := by
    apply ByteArray.ext
    simp [str, lineL]
  go_loopg [5, 7] n (fun gk s i wr => ∃ (j : Nat) (T : ByteArray), j + gk = n ∧ s = .string T ∧ i = .int .i64 (j : Int) ∧ Hid (T = str (lineL o nm.data.toList (sh.data.toList.take j))) ∧ Hid (OpAt wr w.heap.size o) ∧ Hid (Below w.heap.size w wr))
  case atStart => exact ⟨0, nm, by omega, rfl, rfl, h0, HO, HB⟩
  case round =>
    clear HO HB h0
    obtain ⟨j, T, hj, rfl, rfl, HL, HO, HB⟩ := hrel
    have hHS := HS.out
    rw [HN.out] at hHS
    by_cases hlt : j < n
    · have hltI : (j : Int) < (n : Int) := by omega
      obtain ⟨c, hc⟩ : ∃ c, sh.data.toList[j]? = some c := ⟨_, List.getElem?_eq_getElem (by omega)⟩
      have hix := fun U => index_at (P := Tryz.prog) U 9 sh .i64 j c Tryz.underlying9 hc
      have hst := lineL_take o nm.data.toList sh.data.toList j c hc
      have hTl := lineL_len o HOK.out nm.data.toList (sh.data.toList.take j)
      have hHM := HM.out
      have htl : (sh.data.toList.take j).length ≤ 3 := by rw [List.length_take]; omega
      obtain ⟨X, hX⟩ : ∃ X, lineL o nm.data.toList (sh.data.toList.take j) = X := ⟨_, rfl⟩
      rw [hX] at hst hTl
      have hTX : T = str X := HL.out.trans (by rw [hX])
      have hXl : X.length ≤ 20000000 := by omega
      obtain ⟨c0, c1, c2, c3, c4, c5⟩ := HO.out.six
      have hnbB := HB.out
      have hcl := ch1_len o HOK.out c
      clear hc c0 hHM htl hTl hX
      by_cases h112 : c = 112
      · have e112 : (c.toNat : Int) = 112 := by rw [h112]; rfl
        have hd : ch1 o c = 32 :: byL o.path := by simp [ch1, h112]
        rw [hd] at hst hcl
        obtain ⟨y, z, ⟨e1, z1⟩, ⟨e2, z2⟩, hz⟩ := two_sums X (byL o.path) hXl (by simp only [List.length_cons] at hcl; omega)
        rw [← hTX] at e1 z1
        have HZ : Hid (z = str (lineL o nm.data.toList (sh.data.toList.take (j + 1)))) := hz.trans (by rw [hst])
        have hct := written_any o.path (by have := HOK.out.path; omega) wr
        have HOa : Hid (∀ U, Below wr.heap.size wr U → OpAt U w.heap.size o) := fun U hb => HO.out.below hb HO.out.lt
        obtain ⟨u, hu⟩ : ∃ u, str (byL o.path) = u := ⟨_, rfl⟩
        rw [hu] at hct e2 z2
        clear h112 hst hd hz hTX hXl hcl hu
        go_wp2_with (go_at_call 64; refine hct.mono ?_; rintro e w5 ⟨rfl, hb5⟩; clear hct)
        have HO2 : Hid (OpAt w5 w.heap.size o) := HOa.out _ hb5
        have HB2 : Hid (Below w.heap.size w w5) := hnbB.trans (hb5.mono hnbB.size)
        go_roundg (gk - 1)
        case measure => omega
        case rel => exact ⟨j + 1, z, by omega, rfl, by go_num, HZ, HO2, HB2⟩
      have e112 : ¬ (c.toNat : Int) = 112 := fun e => h112 (UInt8.toNat_inj.1 (by have : (((112 : UInt8).toNat : Nat) : Int) = 112 := rfl; omega))
      by_cases h116 : c = 116
      · have e116 : (c.toNat : Int) = 116 := by rw [h116]; rfl
        have hd : ch1 o c = 32 :: byL o.to := by simp [ch1, h116]
        rw [hd] at hst hcl
        obtain ⟨y, z, ⟨e1, z1⟩, ⟨e2, z2⟩, hz⟩ := two_sums X (byL o.to) hXl (by simp only [List.length_cons] at hcl; omega)
        rw [← hTX] at e1 z1
        have HZ : Hid (z = str (lineL o nm.data.toList (sh.data.toList.take (j + 1)))) := hz.trans (by rw [hst])
        have hct := written_any o.to (by have := HOK.out.to; omega) wr
        have HOa : Hid (∀ U, Below wr.heap.size wr U → OpAt U w.heap.size o) := fun U hb => HO.out.below hb HO.out.lt
        obtain ⟨u, hu⟩ : ∃ u, str (byL o.to) = u := ⟨_, rfl⟩
        rw [hu] at hct e2 z2
        clear h116 hst hd hz hTX hXl hcl hu
        go_wp2_with (go_at_call 64; refine hct.mono ?_; rintro e w5 ⟨rfl, hb5⟩; clear hct)
        have HO2 : Hid (OpAt w5 w.heap.size o) := HOa.out _ hb5
        have HB2 : Hid (Below w.heap.size w w5) := hnbB.trans (hb5.mono hnbB.size)
        go_roundg (gk - 1)
        case measure => omega
        case rel => exact ⟨j + 1, z, by omega, rfl, by go_num, HZ, HO2, HB2⟩
      have e116 : ¬ (c.toNat : Int) = 116 := fun e => h116 (UInt8.toNat_inj.1 (by have : (((116 : UInt8).toNat : Nat) : Int) = 116 := rfl; omega))
      by_cases h100 : c = 100
      · have e100 : (c.toNat : Int) = 100 := by rw [h100]; rfl
        have hd : ch1 o c = 32 :: byL o.data := by simp [ch1, h100]
        rw [hd] at hst hcl
        obtain ⟨y, z, ⟨e1, z1⟩, ⟨e2, z2⟩, hz⟩ := two_sums X (byL o.data) hXl (by simp only [List.length_cons] at hcl; omega)
        rw [← hTX] at e1 z1
        have HZ : Hid (z = str (lineL o nm.data.toList (sh.data.toList.take (j + 1)))) := hz.trans (by rw [hst])
        have hct := written_any o.data (by have := HOK.out.data; omega) wr
        have HOa : Hid (∀ U, Below wr.heap.size wr U → OpAt U w.heap.size o) := fun U hb => HO.out.below hb HO.out.lt
        obtain ⟨u, hu⟩ : ∃ u, str (byL o.data) = u := ⟨_, rfl⟩
        rw [hu] at hct e2 z2
        clear h100 hst hd hz hTX hXl hcl hu
        go_wp2_with (go_at_call 64; refine hct.mono ?_; rintro e w5 ⟨rfl, hb5⟩; clear hct)
        have HO2 : Hid (OpAt w5 w.heap.size o) := HOa.out _ hb5
        have HB2 : Hid (Below w.heap.size w w5) := hnbB.trans (hb5.mono hnbB.size)
        go_roundg (gk - 1)
        case measure => omega
        case rel => exact ⟨j + 1, z, by omega, rfl, by go_num, HZ, HO2, HB2⟩
      have e100 : ¬ (c.toNat : Int) = 100 := fun e => h100 (UInt8.toNat_inj.1 (by have : (((100 : UInt8).toNat : Nat) : Int) = 100 := rfl; omega))
      by_cases h97 : c = 97
      · have e97 : (c.toNat : Int) = 97 := by rw [h97]; rfl
        have hd : ch1 o c = 32 :: itoa o.at_ := by simp [ch1, h97]
        rw [hd] at hst hcl
        obtain ⟨y, z, ⟨e1, z1⟩, ⟨e2, z2⟩, hz⟩ := two_sums X (itoa o.at_) hXl (by simp only [List.length_cons] at hcl; omega)
        rw [← hTX] at e1 z1
        have HZ : Hid (z = str (lineL o nm.data.toList (sh.data.toList.take (j + 1)))) := hz.trans (by rw [hst])
        have hct := rNumber_any o.at_ HOK.out.at_ wr (HT.out.below HB.out HT.out.lt)
        have HOa : Hid (∀ U, Below wr.heap.size wr U → OpAt U w.heap.size o) := fun U hb => HO.out.below hb HO.out.lt
        obtain ⟨u, hu⟩ : ∃ u, str (itoa o.at_) = u := ⟨_, rfl⟩
        rw [hu] at hct e2 z2
        clear h97 hst hd hz hTX hXl hcl hu
        go_wp2_with (go_at_call 42; refine hct.mono ?_; rintro e w5 ⟨rfl, hb5⟩; clear hct)
        have HO2 : Hid (OpAt w5 w.heap.size o) := HOa.out _ hb5
        have HB2 : Hid (Below w.heap.size w w5) := hnbB.trans (hb5.mono hnbB.size)
        go_roundg (gk - 1)
        case measure => omega
        case rel => exact ⟨j + 1, z, by omega, rfl, by go_num, HZ, HO2, HB2⟩
      have e97 : ¬ (c.toNat : Int) = 97 := fun e => h97 (UInt8.toNat_inj.1 (by have : (((97 : UInt8).toNat : Nat) : Int) = 97 := rfl; omega))
      by_cases h110 : c = 110
      · have e110 : (c.toNat : Int) = 110 := by rw [h110]; rfl
        have hd : ch1 o c = 32 :: itoa o.n := by simp [ch1, h110]
        rw [hd] at hst hcl
        obtain ⟨y, z, ⟨e1, z1⟩, ⟨e2, z2⟩, hz⟩ := two_sums X (itoa o.n) hXl (by simp only [List.length_cons] at hcl; omega)
        rw [← hTX] at e1 z1
        have HZ : Hid (z = str (lineL o nm.data.toList (sh.data.toList.take (j + 1)))) := hz.trans (by rw [hst])
        have hct := rNumber_any o.n HOK.out.n wr (HT.out.below HB.out HT.out.lt)
        have HOa : Hid (∀ U, Below wr.heap.size wr U → OpAt U w.heap.size o) := fun U hb => HO.out.below hb HO.out.lt
        obtain ⟨u, hu⟩ : ∃ u, str (itoa o.n) = u := ⟨_, rfl⟩
        rw [hu] at hct e2 z2
        clear h110 hst hd hz hTX hXl hcl hu
        go_wp2_with (go_at_call 42; refine hct.mono ?_; rintro e w5 ⟨rfl, hb5⟩; clear hct)
        have HO2 : Hid (OpAt w5 w.heap.size o) := HOa.out _ hb5
        have HB2 : Hid (Below w.heap.size w w5) := hnbB.trans (hb5.mono hnbB.size)
        go_roundg (gk - 1)
        case measure => omega
        case rel => exact ⟨j + 1, z, by omega, rfl, by go_num, HZ, HO2, HB2⟩
      have e110 : ¬ (c.toNat : Int) = 110 := fun e => h110 (UInt8.toNat_inj.1 (by have : (((110 : UInt8).toNat : Nat) : Int) = 110 := rfl; omega))
      have hd : ch1 o c = [] := by simp [ch1, h112, h116, h100, h97, h110]
      rw [hd, List.append_nil] at hst
      have HZ : Hid (T = str (lineL o nm.data.toList (sh.data.toList.take (j + 1)))) := hTX.trans (by rw [hst])
      clear h112 h116 h100 h97 h110 hst hd hTX hXl hcl
      go_wp2_with fail
      go_roundg (gk - 1)
      case measure => omega
      case rel => exact ⟨j + 1, T, by omega, rfl, by go_num, HZ, HO, HB⟩
    · obtain rfl : j = n := by omega
      have hltI : ¬ (j : Int) < (j : Int) := by omega
      have hfin := HL.out
      rw [List.take_of_length_le (by omega)] at hfin
      have HF : Hid (T = str (lineL o nm.data.toList sh.data.toList)) := hfin
      clear hfin
      go_wp2_with fail
      go_ret
      exact ⟨by rw [HF.out]; rfl, HB.out⟩
end Go.Proofs.YtlmopjbfagijeaaGreatDoor.Sc
