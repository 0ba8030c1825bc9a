import Derived.Test.YtaejapdbghbgeaaSgE
namespace Go.Proofs.Ytaejapdbghbgeaa.Se
open Go.RowKit Go.Lib Go.Deep

/-- what a list of laid ones shows -/
theorem see_lay {w : World} {a : Option Addr} {n cap : Nat} {ls : List Lay} (hn : ls.length = n) (h : See w (.slice a n cap) n (layCells ls)) : Hid (∀ (k : Nat) (l : Lay), ls[k]? = some l → ∃ bb off, a = some ⟨bb, off, none⟩ ∧ ∀ W, Below w.heap.size w W → W.cell? ⟨bb, off + k * 5, none⟩ = some (.int .i64 l.row.kind) ∧ W.cell? ⟨bb, off + k * 5 + 1, none⟩ = some (.string l.row.name) ∧ W.cell? ⟨bb, off + k * 5 + 2, none⟩ = some (.string l.row.text) ∧ W.cell? ⟨bb, off + k * 5 + 4, none⟩ = some (.string l.row.blob)) := fun k l hl => by
  have hkl := (List.getElem?_eq_some_iff.1 hl).1
  have at_ := fun j (hj : j < 5) => fc_at (f := layC) (s := 5) (fun _ => rfl) ls k l hl j hj
  obtain ⟨a', bb, off, cap', hv, h2, _, h3⟩ := h.ex
  injection hv with hv1 _ hv2
  obtain ⟨e1, e2⟩ := h2 (by omega)
  refine ⟨bb, off, hv1.trans e1, fun W hb => ⟨?_, ?_, ?_, ?_⟩⟩
  · exact (hb.cell (p := ⟨bb, off + k * 5, none⟩) e2).trans (h3 _ _ (at_ 0 (by omega)))
  · rw [Nat.add_assoc]; exact (hb.cell (p := ⟨bb, off + (k * 5 + 1), none⟩) e2).trans (h3 _ _ (at_ 1 (by omega)))
  · rw [Nat.add_assoc]; exact (hb.cell (p := ⟨bb, off + (k * 5 + 2), none⟩) e2).trans (h3 _ _ (at_ 2 (by omega)))
  · rw [Nat.add_assoc]; exact (hb.cell (p := ⟨bb, off + (k * 5 + 4), none⟩) e2).trans (h3 _ _ (at_ 4 (by omega)))

set_option maxRecDepth 20000 in
set_option maxHeartbeats 4000000 in
theorem opened_any (ls : List Lay) (kind : Int) (name blob : ByteArray) (pb : Nat) (F : List Nat) (n cap : Nat) (a : Option Addr) (w : World) (hn : ls.length = n) (hn2 : n ≤ 4294967296) (hbz : blob.size ≤ 281474976710656) (hp : placeE kind name = 0) (hI : Idl w pb F (ls.map Lay.row)) (hS : See w (.slice a n cap) n (layCells ls)) :
    Calls Try.prog 15 #[.iface 23 (.pointer (some ⟨pb, 0, none⟩)), .slice a n cap, .int .i64 kind, .string name, .string blob] w fun e w' => e = .returned (.bool true) ∧ Below w.heap.size w w' := by
  have m1 := mOpen pb
  have hnum := fun W x => snum_any x W
  have HS := see_lay hn hS
  have hop := open_any w pb F _ kind name blob hbz (by rw [List.length_map]; omega) hI
  have HE : Hid (openE (ls.map Lay.row) kind name blob = if ((ls.map Lay.row).find? (hit kind name blob)).isSome = true then 0 else 81) := by show _ = _; unfold openE; rw [if_neg (by simp [hp])]
  have HY : Hid (openY (ls.map Lay.row) kind name blob = (((ls.map Lay.row).find? (hit kind name blob)).map Row.text).getD { data := #[] }) := by show _ = _; unfold openY; rw [if_neg (by simp [hp])]
  obtain ⟨oe, hoe⟩ : ∃ oe, openE (ls.map Lay.row) kind name blob = oe := ⟨_, rfl⟩
  obtain ⟨oy, hoy⟩ : ∃ oy, openY (ls.map Lay.row) kind name blob = oy := ⟨_, rfl⟩
  rw [hoe, hoy] at hop
  rw [hoe] at HE
  rw [hoy] at HY
  have HN : Hid (ls.length = n) := hn
  clear hoe hoy hS hI hp hn
  go_enter Try.func15, Try.ntmps15
  go_wp2_with fail
  refine hop.mono ?_
  rintro e w2 ⟨rfl, hb2⟩
  have HB2 : Hid (Below w.heap.size w w2) := hb2
  clear hop hb2
  go_wp2_with fail
  go_loopg [13] n (fun gk iv wr => ∃ k : Nat, k + gk = n ∧ iv = .int .i64 (k : Int) ∧ Hid (Below w.heap.size w wr) ∧ Hid (((ls.map Lay.row).take k).find? (hit kind name blob) = none))
  case atStart => exact ⟨0, by omega, rfl, HB2, rfl⟩
  case round =>
    obtain ⟨k, hk, rfl, HB, HV⟩ := hrel
    have HKG : Hid (k + gk = n) := hk
    have hkn : k ≤ n := by omega
    clear hk
    by_cases hlt : k < n
    · have hltI : (k : Int) < (n : Int) := by omega
      obtain ⟨l, hl⟩ : ∃ l, ls[k]? = some l := ⟨_, List.getElem?_eq_getElem (by have := HN.out; omega)⟩
      obtain ⟨bb, off, rfl, hc⟩ := HS.out k l hl
      obtain ⟨c0, c1, c2, c4⟩ := hc _ HB.out
      have HLR : Hid ((ls.map Lay.row)[k]? = some l.row) := by show _ = _; rw [List.getElem?_map, hl]; rfl
      have HBD : Hid (∀ j, Below w.heap.size w (wr.drewN j)) := fun j => HB.out.trans ((bdN wr j).mono HB.out.size)
      have HBD1 : Hid (Below w.heap.size w wr.drew) := HB.out.drew
      have HV2 : Hid (hit kind name blob l.row = false → ((ls.map Lay.row).take (k + 1)).find? (hit kind name blob) = none) := fun hh => by
        rw [take_snoc HLR.out, List.find?_append, HV.out]
        simp [hh]
      have HV3 : Hid (hit kind name blob l.row = true → (ls.map Lay.row).find? (hit kind name blob) = some l.row) := fun hh => by
        have hkl := (List.getElem?_eq_some_iff.1 HLR.out).1
        have e : ls.map Lay.row = (ls.map Lay.row).take k ++ l.row :: (ls.map Lay.row).drop (k + 1) := by
          conv => lhs; rw [← List.take_append_drop k (ls.map Lay.row)]
          rw [List.drop_eq_getElem_cons hkl, (List.getElem?_eq_some_iff.1 HLR.out).2]
        rw [e, List.find?_append, HV.out]
        simp [hh]
      clear hl hc HLR HV
      obtain ⟨⟨kd, nm, bl, tx⟩, sd⟩ := l
      dsimp only at *
      have hhit : hit kind name blob ⟨kd, nm, bl, tx⟩ = decide (kd = kind ∧ nm = name ∧ bl = blob) := rfl
      by_cases h1 : kd = kind
      · by_cases h2 : nm = name
        · by_cases h3 : bl = blob
          · have hv := HV3.out (by rw [hhit]; exact decide_eq_true ⟨h1, h2, h3⟩)
            have e1 : oe = 0 := by rw [HE.out, hv]; rfl
            have e2 : oy = tx := by rw [HY.out, hv]; rfl
            subst h1 h2 h3 e1 e2
            clear HV2 HV3 hhit hv HE HY
            go_wp2_with fail
            refine (hnum _ _).mono ?_
            rintro e w3 ⟨rfl, rfl⟩
            go_wp2
            go_ret
            exact ⟨rfl, HB.out⟩
          · have HV4 : Hid _ := HV2.out (by rw [hhit]; exact decide_eq_false (by simp [h3]))
            have hne := ne_toList h3
            subst h1 h2
            clear HV2 HV3 hhit
            go_wp2_with fail
            go_roundg (gk - 1)
            case measure => have := HKG.out; omega
            case rel => exact ⟨k + 1, by have := HKG.out; omega, by go_num, HB, HV4⟩
        · have HV4 : Hid _ := HV2.out (by rw [hhit]; exact decide_eq_false (by simp [h2]))
          have hne := ne_toList h2
          subst h1
          clear HV2 HV3 hhit
          go_wp2_with fail
          go_roundg (gk - 1)
          case measure => have := HKG.out; omega
          case rel => exact ⟨k + 1, by have := HKG.out; omega, by go_num, HB, HV4⟩
      · have HV4 : Hid _ := HV2.out (by rw [hhit]; exact decide_eq_false (by simp [h1]))
        clear HV2 HV3 hhit
        go_wp2_with fail
        go_roundg (gk - 1)
        case measure => have := HKG.out; omega
        case rel => exact ⟨k + 1, by have := HKG.out; omega, by go_num, HB, HV4⟩
    · obtain rfl : k = n := by omega
      have hltI : ¬ (k : Int) < (k : Int) := by omega
      have hv : (ls.map Lay.row).find? (hit kind name blob) = none := by
        have h := HV.out
        rw [List.take_of_length_le (by rw [List.length_map]; have := HN.out; omega)] at h
        exact h
      have e1 : oe = 81 := by rw [HE.out, hv]; rfl
      have e2 : oy = { data := #[] } := by rw [HY.out, hv]; rfl
      subst e1 e2
      clear hv HV HE HY
      go_wp2_with fail
      refine (hnum _ _).mono ?_
      rintro e w3 ⟨rfl, rfl⟩
      go_wp2
      go_ret
      exact ⟨rfl, HB.out⟩

set_option maxRecDepth 20000 in
set_option maxHeartbeats 4000000 in
theorem back_any (ls : List Lay) (pb : Nat) (F : List Nat) (n cap : Nat) (a : Option Addr) (w : World) (hn : ls.length = n) (hn2 : n ≤ 4294967296) (hbz : ∀ l ∈ ls, l.row.blob.size ≤ 281474976710656 ∧ placeE l.row.kind l.row.name = 0) (hI : Idl w pb F (ls.map Lay.row)) (hS : See w (.slice a n cap) n (layCells ls)) :
    Calls Try.prog 16 #[.iface 23 (.pointer (some ⟨pb, 0, none⟩)), .slice a n cap] w fun e w' => e = .returned (.bool true) ∧ Below w.heap.size w w' := by
  have m1 := mOpen pb
  have m0 := nOpen pb
  have hnum := fun W x => snum_any x W
  have HS := see_lay hn hS
  have HOP : Hid (∀ (k : Nat) (l : Lay), ls[k]? = some l → ∀ W, Below w.heap.size w W → Calls Try.prog 21 #[.pointer (some ⟨pb, 0, none⟩), .int .i64 l.row.kind, .string l.row.name, .string l.row.blob] W fun e w' => e = .returned (.tuple #[.string l.row.text, .int .i64 0]) ∧ Below w.heap.size w w') := fun k l hl W hb => by
    have hz := hbz l (List.mem_of_getElem? hl)
    have hlr : (ls.map Lay.row)[k]? = some l.row := by rw [List.getElem?_map, hl]; rfl
    obtain ⟨_, _, _, D, _, _, _, _, _, hT⟩ := hI.ex
    have hf := hT.find hlr (kind := l.row.kind) (name := l.row.name) (blob := l.row.blob) rfl
    rw [if_pos (show hit l.row.kind l.row.name l.row.blob l.row = true from decide_eq_true ⟨rfl, rfl, rfl⟩)] at hf
    have e1 : openE (ls.map Lay.row) l.row.kind l.row.name l.row.blob = 0 := by unfold openE; rw [if_neg (by simp [hz.2]), hf]; rfl
    have e2 : openY (ls.map Lay.row) l.row.kind l.row.name l.row.blob = l.row.text := by unfold openY; rw [if_neg (by simp [hz.2]), hf]; rfl
    have h := open_any W pb F _ l.row.kind l.row.name l.row.blob hz.1 (by rw [List.length_map]; omega) (hI.below hb)
    rw [e1, e2] at h
    refine h.mono ?_
    rintro e w' ⟨rfl, hb'⟩
    exact ⟨rfl, hb.trans (hb'.mono hb.size)⟩
  have HN : Hid (ls.length = n) := hn
  clear hS hI hbz hn
  go_enter Try.func16, Try.ntmps16
  go_wp2_with fail
  go_loopg [5] n (fun gk iv wr => ∃ k : Nat, k + gk = n ∧ iv = .int .i64 (k : Int) ∧ Hid (Below w.heap.size w wr))
  case atStart => exact ⟨0, by omega, rfl, Below.refl _ _⟩
  case round =>
    obtain ⟨k, hk, rfl, HB⟩ := hrel
    have HKG : Hid (k + gk = n) := hk
    have hkn : k ≤ n := by omega
    clear hk
    by_cases hlt : k < n
    · have hltI : (k : Int) < (n : Int) := by omega
      obtain ⟨l, hl⟩ : ∃ l, ls[k]? = some l := ⟨_, List.getElem?_eq_getElem (by have := HN.out; omega)⟩
      obtain ⟨bb, off, rfl, hc⟩ := HS.out k l hl
      have HP : Hid _ := HOP.out k l hl
      clear hl
      obtain ⟨⟨kd, nm, bl, tx⟩, sd⟩ := l
      dsimp only at *
      have HC : Hid (∀ W, Below w.heap.size w W → W.cell? ⟨bb, off + k * 5, none⟩ = some (.int .i64 kd) ∧ W.cell? ⟨bb, off + k * 5 + 1, none⟩ = some (.string nm) ∧ W.cell? ⟨bb, off + k * 5 + 2, none⟩ = some (.string tx) ∧ W.cell? ⟨bb, off + k * 5 + 4, none⟩ = some (.string bl)) := hc
      have HBN : Hid (∀ j, Below w.heap.size w (wr.drewN j)) := fun j => HB.out.trans ((bdN wr j).mono HB.out.size)
      clear hc
      go_wp2_with fail
      go_region_held_law (fun W => W.cell? ⟨bb, off + k * 5, none⟩ = some (.int .i64 kd) ∧ W.cell? ⟨bb, off + k * 5 + 1, none⟩ = some (.string nm) ∧ W.cell? ⟨bb, off + k * 5 + 2, none⟩ = some (.string tx) ∧ W.cell? ⟨bb, off + k * 5 + 4, none⟩ = some (.string bl)) (first | exact HC.out _ (HBN.out _) | exact HC.out _ hb5 | go_keep) (first | (go_at_call 21; refine (HP.out _ (HBN.out _)).mono ?_; rintro e w5 ⟨rfl, hb5⟩))
      obtain ⟨d0, d1, d2, d4⟩ := HC.out _ hb5
      go_wp2_with fail
      refine (hnum _ _).mono ?_
      rintro e w6 ⟨rfl, rfl⟩
      go_wp2_with fail
      go_roundg (gk - 1)
      case measure => have := HKG.out; omega
      case rel => exact ⟨k + 1, by have := HKG.out; omega, by go_num, hb5⟩
    · obtain rfl : k = n := by omega
      have hltI : ¬ (k : Int) < (k : Int) := by omega
      go_wp2
      go_ret
      exact ⟨rfl, HB.out⟩
end Go.Proofs.Ytaejapdbghbgeaa.Se
