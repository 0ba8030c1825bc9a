import Derived.Test.YtnfddiabhpandaaGreatDoorTrDo
import Derived.Test.YtnfddiabhpandaaGreatDoorO3M
import Derived.Test.YtnfddiabhpandaaGreatDoorO5M
import Derived.Test.YtnfddiabhpandaaGreatDoorTrO8
import Derived.Test.YtnfddiabhpandaaGreatDoorTrO9
import Derived.Test.YtnfddiabhpandaaGreatDoorTrOa
import Derived.Test.YtnfddiabhpandaaGreatDoorTrAq
namespace Go.Proofs.YtnfddiabhpandaaGreatDoor.Tr
open Go.RowKit Go.Lib Go.Deep

theorem do1 (w : World) (b q : Nat) (F : List Nat) (nn : Nat) (T : Ts) (dp : Nat → Nat) (oa on : Int) (op ot od : ByteArray) (hbk : w.heap[b]? = some (.cells #[.pointer (some ⟨q, 0, none⟩)] 78 (0, 0))) (hL : Lay w q F nn T) (hv : Inv T dp) (hnn : nn ≤ 8796093022207) (_hoa : oa ≤ 9223372036854775807) (_hod : od.size ≤ 9223372036854775807) :
    Calls Tryz.prog 12 #[.pointer (some ⟨b, 0, none⟩), .agg #[.int .i64 1, .string op, .string ot, .int .i64 oa, .int .i64 on, .string od]] w fun e w' => Did F w w' q (nn + 1) (doT T ⟨1, op, ot, oa, on, od⟩) e := by
  have hE : askE ⟨1, op, ot, oa, on, od⟩ = if Pa.parseE op ≠ 0 then Pa.parseE op else 0 := by unfold askE; simp
  refine do_row w b q F nn T _ (if Pa.parseE op ≠ 0 then Pa.parseE op else 0) 106 false false false 1 oa on op ot od hbk hL (fun V => asked0 V 106 1 oa on op ot od (by omega) (by omega) row1) (fun _ _ => by kernel_rfl) (fun h0 V sa n sc ta tn tc hb hs ht => ?_) (fun h0 => ?_)
  · rw [← hE] at h0
    obtain ⟨_, _, h3, h4, h5, h6⟩ := askE_ok h0
    obtain ⟨h1, h2⟩ := parsed h3
    have e : doT T ⟨1, op, ot, oa, on, od⟩ = mkdT T (Pa.parseY op) := by
      unfold doT
      rw [if_neg (fun h => h h0)]
      simp
    rw [e]
    exact mkdir_any V q F nn T dp (hL.below hb) hv _ sa n sc hs h1 h2 1 oa on op ot od ta tn tc (by unfold maxLen; omega)
  · rw [← hE] at h0 ⊢
    unfold doT
    rw [if_pos h0]
theorem do2 (w : World) (b q : Nat) (F : List Nat) (nn : Nat) (T : Ts) (dp : Nat → Nat) (oa on : Int) (op ot od : ByteArray) (hbk : w.heap[b]? = some (.cells #[.pointer (some ⟨q, 0, none⟩)] 78 (0, 0))) (hL : Lay w q F nn T) (hv : Inv T dp) (hnn : nn ≤ 8796093022207) (_hoa : oa ≤ 9223372036854775807) (_hod : od.size ≤ 9223372036854775807) :
    Calls Tryz.prog 12 #[.pointer (some ⟨b, 0, none⟩), .agg #[.int .i64 2, .string op, .string ot, .int .i64 oa, .int .i64 on, .string od]] w fun e w' => Did F w w' q (nn + 1) (doT T ⟨2, op, ot, oa, on, od⟩) e := by
  have hE : askE ⟨2, op, ot, oa, on, od⟩ = if Pa.parseE op ≠ 0 then Pa.parseE op else 0 := by unfold askE; simp
  refine do_row w b q F nn T _ (if Pa.parseE op ≠ 0 then Pa.parseE op else 0) 107 false false false 2 oa on op ot od hbk hL (fun V => asked0 V 107 2 oa on op ot od (by omega) (by omega) row2) (fun _ _ => by kernel_rfl) (fun h0 V sa n sc ta tn tc hb hs ht => ?_) (fun h0 => ?_)
  · rw [← hE] at h0
    obtain ⟨_, _, h3, h4, h5, h6⟩ := askE_ok h0
    obtain ⟨h1, h2⟩ := parsed h3
    have e : doT T ⟨2, op, ot, oa, on, od⟩ = creT T (Pa.parseY op) := by
      unfold doT
      rw [if_neg (fun h => h h0)]
      simp
    rw [e]
    exact create_any V q F nn T dp (hL.below hb) hv _ sa n sc hs h1 h2 2 oa on op ot od ta tn tc (by unfold maxLen; omega)
  · rw [← hE] at h0 ⊢
    unfold doT
    rw [if_pos h0]
theorem do3 (w : World) (b q : Nat) (F : List Nat) (nn : Nat) (T : Ts) (dp : Nat → Nat) (oa on : Int) (op ot od : ByteArray) (hbk : w.heap[b]? = some (.cells #[.pointer (some ⟨q, 0, none⟩)] 78 (0, 0))) (hL : Lay w q F nn T) (hv : Inv T dp) (_hnn : nn ≤ 8796093022207) (hoa : oa ≤ 9223372036854775807) (_hod : od.size ≤ 9223372036854775807) :
    Calls Tryz.prog 12 #[.pointer (some ⟨b, 0, none⟩), .agg #[.int .i64 3, .string op, .string ot, .int .i64 oa, .int .i64 on, .string od]] w fun e w' => Did F w w' q (nn + 1) (doT T ⟨3, op, ot, oa, on, od⟩) e := by
  have hE : askE ⟨3, op, ot, oa, on, od⟩ = if Pa.parseE op ≠ 0 then Pa.parseE op else if oa < 0 ∨ on < 0 then 1 else 0 := by unfold askE; simp
  refine do_row w b q F nn T _ (if Pa.parseE op ≠ 0 then Pa.parseE op else if oa < 0 ∨ on < 0 then 1 else 0) 108 false true true 3 oa on op ot od hbk hL (fun V => asked3 V 108 3 oa on op ot od (by omega) (by omega) row3) (fun _ _ => by kernel_rfl) (fun h0 V sa n sc ta tn tc hb hs ht => ?_) (fun h0 => ?_)
  · rw [← hE] at h0
    obtain ⟨_, _, h3, h4, h5, h6⟩ := askE_ok h0
    obtain ⟨h1, h2⟩ := parsed h3
    have e : doT T ⟨3, op, ot, oa, on, od⟩ = reaT T (Pa.parseY op) ⟨3, op, ot, oa, on, od⟩ := by
      unfold doT
      rw [if_neg (fun h => h h0)]
      simp
    rw [e]
    exact read_any V q F nn T dp (hL.below hb) hv _ sa n sc hs h1 h2 3 oa on op ot od ta tn tc (h6 (.inl rfl)) (h5 (.inl rfl)) hoa
  · rw [← hE] at h0 ⊢
    unfold doT
    rw [if_pos h0]
theorem do4 (w : World) (b q : Nat) (F : List Nat) (nn : Nat) (T : Ts) (dp : Nat → Nat) (oa on : Int) (op ot od : ByteArray) (hbk : w.heap[b]? = some (.cells #[.pointer (some ⟨q, 0, none⟩)] 78 (0, 0))) (hL : Lay w q F nn T) (hv : Inv T dp) (_hnn : nn ≤ 8796093022207) (hoa : oa ≤ 9223372036854775807) (hod : od.size ≤ 9223372036854775807) :
    Calls Tryz.prog 12 #[.pointer (some ⟨b, 0, none⟩), .agg #[.int .i64 4, .string op, .string ot, .int .i64 oa, .int .i64 on, .string od]] w fun e w' => Did F w w' q (nn + 1) (doT T ⟨4, op, ot, oa, on, od⟩) e := by
  have hE : askE ⟨4, op, ot, oa, on, od⟩ = if Pa.parseE op ≠ 0 then Pa.parseE op else if oa < 0 then 1 else 0 := by unfold askE; simp
  refine do_row w b q F nn T _ (if Pa.parseE op ≠ 0 then Pa.parseE op else if oa < 0 then 1 else 0) 109 false true false 4 oa on op ot od hbk hL (fun V => asked4 V 109 4 oa on op ot od (by omega) (by omega) row4) (fun _ _ => by kernel_rfl) (fun h0 V sa n sc ta tn tc hb hs ht => ?_) (fun h0 => ?_)
  · rw [← hE] at h0
    obtain ⟨_, _, h3, h4, h5, h6⟩ := askE_ok h0
    obtain ⟨h1, h2⟩ := parsed h3
    have e : doT T ⟨4, op, ot, oa, on, od⟩ = wriT T (Pa.parseY op) ⟨4, op, ot, oa, on, od⟩ := by
      unfold doT
      rw [if_neg (fun h => h h0)]
      simp
    rw [e]
    exact write_any V q F nn T dp (hL.below hb) hv _ sa n sc hs h1 h2 4 oa on op ot od ta tn tc (h5 (.inr rfl)) hoa hod
  · rw [← hE] at h0 ⊢
    unfold doT
    rw [if_pos h0]
theorem do5 (w : World) (b q : Nat) (F : List Nat) (nn : Nat) (T : Ts) (dp : Nat → Nat) (oa on : Int) (op ot od : ByteArray) (hbk : w.heap[b]? = some (.cells #[.pointer (some ⟨q, 0, none⟩)] 78 (0, 0))) (hL : Lay w q F nn T) (hv : Inv T dp) (_hnn : nn ≤ 8796093022207) (_hoa : oa ≤ 9223372036854775807) (_hod : od.size ≤ 9223372036854775807) :
    Calls Tryz.prog 12 #[.pointer (some ⟨b, 0, none⟩), .agg #[.int .i64 5, .string op, .string ot, .int .i64 oa, .int .i64 on, .string od]] w fun e w' => Did F w w' q (nn + 1) (doT T ⟨5, op, ot, oa, on, od⟩) e := by
  have hE : askE ⟨5, op, ot, oa, on, od⟩ = if Pa.parseE op ≠ 0 then Pa.parseE op else if on < 0 then 1 else 0 := by unfold askE; simp
  refine do_row w b q F nn T _ (if Pa.parseE op ≠ 0 then Pa.parseE op else if on < 0 then 1 else 0) 110 false false true 5 oa on op ot od hbk hL (fun V => asked5 V 110 5 oa on op ot od (by omega) (by omega) row5) (fun _ _ => by kernel_rfl) (fun h0 V sa n sc ta tn tc hb hs ht => ?_) (fun h0 => ?_)
  · rw [← hE] at h0
    obtain ⟨_, _, h3, h4, h5, h6⟩ := askE_ok h0
    obtain ⟨h1, h2⟩ := parsed h3
    have e : doT T ⟨5, op, ot, oa, on, od⟩ = cutT T (Pa.parseY op) ⟨5, op, ot, oa, on, od⟩ := by
      unfold doT
      rw [if_neg (fun h => h h0)]
      simp
    rw [e]
    exact cut_any V q F nn T dp (hL.below hb) hv _ sa n sc hs h1 h2 5 oa on op ot od ta tn tc (h6 (.inr rfl))
  · rw [← hE] at h0 ⊢
    unfold doT
    rw [if_pos h0]
theorem do6 (w : World) (b q : Nat) (F : List Nat) (nn : Nat) (T : Ts) (dp : Nat → Nat) (oa on : Int) (op ot od : ByteArray) (hbk : w.heap[b]? = some (.cells #[.pointer (some ⟨q, 0, none⟩)] 78 (0, 0))) (hL : Lay w q F nn T) (hv : Inv T dp) (hnn : nn ≤ 8796093022207) (_hoa : oa ≤ 9223372036854775807) (_hod : od.size ≤ 9223372036854775807) :
    Calls Tryz.prog 12 #[.pointer (some ⟨b, 0, none⟩), .agg #[.int .i64 6, .string op, .string ot, .int .i64 oa, .int .i64 on, .string od]] w fun e w' => Did F w w' q (nn + 1) (doT T ⟨6, op, ot, oa, on, od⟩) e := by
  have hE : askE ⟨6, op, ot, oa, on, od⟩ = if Pa.parseE op ≠ 0 then Pa.parseE op else if Pa.parseE ot ≠ 0 then Pa.parseE ot else 0 := by unfold askE; simp
  refine do_row w b q F nn T _ (if Pa.parseE op ≠ 0 then Pa.parseE op else if Pa.parseE ot ≠ 0 then Pa.parseE ot else 0) 111 true false false 6 oa on op ot od hbk hL (fun V => asked6 V 111 6 oa on op ot od (by omega) (by omega) row6) (fun _ _ => by kernel_rfl) (fun h0 V sa n sc ta tn tc hb hs ht => ?_) (fun h0 => ?_)
  · rw [← hE] at h0
    obtain ⟨_, _, h3, h4, h5, h6⟩ := askE_ok h0
    obtain ⟨h1, h2⟩ := parsed h3
    have e : doT T ⟨6, op, ot, oa, on, od⟩ = renT T (Pa.parseY op) (Pa.parseY ot) := by
      unfold doT
      rw [if_neg (fun h => h h0)]
      simp
    rw [e]
    exact rename_any V q F nn T dp (hL.below hb) hv _ sa n sc hs h1 h2 6 oa on op ot od ta tn tc _ (ht rfl) (parsed (h4 rfl)).1 (parsed (h4 rfl)).2 (by unfold maxLen; omega)
  · rw [← hE] at h0 ⊢
    unfold doT
    rw [if_pos h0]
theorem do7 (w : World) (b q : Nat) (F : List Nat) (nn : Nat) (T : Ts) (dp : Nat → Nat) (oa on : Int) (op ot od : ByteArray) (hbk : w.heap[b]? = some (.cells #[.pointer (some ⟨q, 0, none⟩)] 78 (0, 0))) (hL : Lay w q F nn T) (hv : Inv T dp) (_hnn : nn ≤ 8796093022207) (_hoa : oa ≤ 9223372036854775807) (_hod : od.size ≤ 9223372036854775807) :
    Calls Tryz.prog 12 #[.pointer (some ⟨b, 0, none⟩), .agg #[.int .i64 7, .string op, .string ot, .int .i64 oa, .int .i64 on, .string od]] w fun e w' => Did F w w' q (nn + 1) (doT T ⟨7, op, ot, oa, on, od⟩) e := by
  have hE : askE ⟨7, op, ot, oa, on, od⟩ = if Pa.parseE op ≠ 0 then Pa.parseE op else 0 := by unfold askE; simp
  refine do_row w b q F nn T _ (if Pa.parseE op ≠ 0 then Pa.parseE op else 0) 112 false false false 7 oa on op ot od hbk hL (fun V => asked0 V 112 7 oa on op ot od (by omega) (by omega) row7) (fun _ _ => by kernel_rfl) (fun h0 V sa n sc ta tn tc hb hs ht => ?_) (fun h0 => ?_)
  · rw [← hE] at h0
    obtain ⟨_, _, h3, h4, h5, h6⟩ := askE_ok h0
    obtain ⟨h1, h2⟩ := parsed h3
    have e : doT T ⟨7, op, ot, oa, on, od⟩ = remT T (Pa.parseY op) := by
      unfold doT
      rw [if_neg (fun h => h h0)]
      simp
    rw [e]
    exact remove_any V q F nn T dp (hL.below hb) hv _ sa n sc hs h1 h2 7 oa on op ot od ta tn tc
  · rw [← hE] at h0 ⊢
    unfold doT
    rw [if_pos h0]
theorem do8 (w : World) (b q : Nat) (F : List Nat) (nn : Nat) (T : Ts) (dp : Nat → Nat) (oa on : Int) (op ot od : ByteArray) (hbk : w.heap[b]? = some (.cells #[.pointer (some ⟨q, 0, none⟩)] 78 (0, 0))) (hL : Lay w q F nn T) (hv : Inv T dp) (_hnn : nn ≤ 8796093022207) (_hoa : oa ≤ 9223372036854775807) (_hod : od.size ≤ 9223372036854775807) :
    Calls Tryz.prog 12 #[.pointer (some ⟨b, 0, none⟩), .agg #[.int .i64 8, .string op, .string ot, .int .i64 oa, .int .i64 on, .string od]] w fun e w' => Did F w w' q (nn + 1) (doT T ⟨8, op, ot, oa, on, od⟩) e := by
  have hE : askE ⟨8, op, ot, oa, on, od⟩ = if Pa.parseE op ≠ 0 then Pa.parseE op else 0 := by unfold askE; simp
  refine do_row w b q F nn T _ (if Pa.parseE op ≠ 0 then Pa.parseE op else 0) 113 false false false 8 oa on op ot od hbk hL (fun V => asked0 V 113 8 oa on op ot od (by omega) (by omega) row8) (fun _ _ => by kernel_rfl) (fun h0 V sa n sc ta tn tc hb hs ht => ?_) (fun h0 => ?_)
  · rw [← hE] at h0
    obtain ⟨_, _, h3, h4, h5, h6⟩ := askE_ok h0
    obtain ⟨h1, h2⟩ := parsed h3
    have e : doT T ⟨8, op, ot, oa, on, od⟩ = rmdT T (Pa.parseY op) := by
      unfold doT
      rw [if_neg (fun h => h h0)]
      simp
    rw [e]
    exact rmdir_any V q F nn T dp (hL.below hb) hv _ sa n sc hs h1 h2 8 oa on op ot od ta tn tc
  · rw [← hE] at h0 ⊢
    unfold doT
    rw [if_pos h0]
theorem do9 (w : World) (b q : Nat) (F : List Nat) (nn : Nat) (T : Ts) (dp : Nat → Nat) (oa on : Int) (op ot od : ByteArray) (hbk : w.heap[b]? = some (.cells #[.pointer (some ⟨q, 0, none⟩)] 78 (0, 0))) (hL : Lay w q F nn T) (hv : Inv T dp) (hnn : nn ≤ 8796093022207) (_hoa : oa ≤ 9223372036854775807) (_hod : od.size ≤ 9223372036854775807) :
    Calls Tryz.prog 12 #[.pointer (some ⟨b, 0, none⟩), .agg #[.int .i64 9, .string op, .string ot, .int .i64 oa, .int .i64 on, .string od]] w fun e w' => Did F w w' q (nn + 1) (doT T ⟨9, op, ot, oa, on, od⟩) e := by
  have hE : askE ⟨9, op, ot, oa, on, od⟩ = if Pa.parseE op ≠ 0 then Pa.parseE op else 0 := by unfold askE; simp
  refine do_row w b q F nn T _ (if Pa.parseE op ≠ 0 then Pa.parseE op else 0) 114 false false false 9 oa on op ot od hbk hL (fun V => asked0 V 114 9 oa on op ot od (by omega) (by omega) row9) (fun _ _ => by kernel_rfl) (fun h0 V sa n sc ta tn tc hb hs ht => ?_) (fun h0 => ?_)
  · rw [← hE] at h0
    obtain ⟨_, _, h3, h4, h5, h6⟩ := askE_ok h0
    obtain ⟨h1, h2⟩ := parsed h3
    have e : doT T ⟨9, op, ot, oa, on, od⟩ = lisT T (Pa.parseY op) := by
      unfold doT
      rw [if_neg (fun h => h h0)]
      simp
    rw [e]
    exact list_any V q F nn T dp (hL.below hb) hv _ sa n sc hs h1 h2 9 oa on op ot od ta tn tc hnn
  · rw [← hE] at h0 ⊢
    unfold doT
    rw [if_pos h0]
theorem do10 (w : World) (b q : Nat) (F : List Nat) (nn : Nat) (T : Ts) (dp : Nat → Nat) (oa on : Int) (op ot od : ByteArray) (hbk : w.heap[b]? = some (.cells #[.pointer (some ⟨q, 0, none⟩)] 78 (0, 0))) (hL : Lay w q F nn T) (hv : Inv T dp) (_hnn : nn ≤ 8796093022207) (_hoa : oa ≤ 9223372036854775807) (_hod : od.size ≤ 9223372036854775807) :
    Calls Tryz.prog 12 #[.pointer (some ⟨b, 0, none⟩), .agg #[.int .i64 10, .string op, .string ot, .int .i64 oa, .int .i64 on, .string od]] w fun e w' => Did F w w' q (nn + 1) (doT T ⟨10, op, ot, oa, on, od⟩) e := by
  have hE : askE ⟨10, op, ot, oa, on, od⟩ = if Pa.parseE op ≠ 0 then Pa.parseE op else 0 := by unfold askE; simp
  refine do_row w b q F nn T _ (if Pa.parseE op ≠ 0 then Pa.parseE op else 0) 115 false false false 10 oa on op ot od hbk hL (fun V => asked0 V 115 10 oa on op ot od (by omega) (by omega) row10) (fun _ _ => by kernel_rfl) (fun h0 V sa n sc ta tn tc hb hs ht => ?_) (fun h0 => ?_)
  · rw [← hE] at h0
    obtain ⟨_, _, h3, h4, h5, h6⟩ := askE_ok h0
    obtain ⟨h1, h2⟩ := parsed h3
    have e : doT T ⟨10, op, ot, oa, on, od⟩ = staT T (Pa.parseY op) := by
      unfold doT
      rw [if_neg (fun h => h h0)]
      simp
    rw [e]
    exact stat_any V q F nn T dp (hL.below hb) hv _ sa n sc hs h1 h2 10 oa on op ot od ta tn tc
  · rw [← hE] at h0 ⊢
    unfold doT
    rw [if_pos h0]
/-- what Do answers, and what the tree is behind it -/
theorem do_any (w : World) (b q : Nat) (F : List Nat) (nn : Nat) (T : Ts) (dp : Nat → Nat) (o : Op) (hbk : w.heap[b]? = some (.cells #[.pointer (some ⟨q, 0, none⟩)] 78 (0, 0))) (hL : Lay w q F nn T) (hv : Inv T dp) (hnn : nn ≤ 8796093022207) (hoa : o.at_ ≤ 9223372036854775807) (hod : o.data.size ≤ 9223372036854775807) :
    Calls Tryz.prog 12 #[.pointer (some ⟨b, 0, none⟩), .agg #[.int .i64 o.kind, .string o.path, .string o.to_, .int .i64 o.at_, .int .i64 o.n, .string o.data]] w fun e w' => Did F w w' q (nn + 1) (doT T o) e := by
  obtain ⟨ok, op, ot, oa, on, od⟩ := o
  by_cases h1 : ok < 1
  · have hE : askE ⟨ok, op, ot, oa, on, od⟩ = 127 := by unfold askE; rw [if_pos (.inl h1)]
    refine do_row w b q F nn T _ 127 106 false false false ok oa on op ot od hbk hL (fun V => askedL V _ _ _ _ ok oa on op ot od h1) (fun _ _ => by kernel_rfl) (fun h0 => absurd h0 (by omega)) (fun _ => ?_)
    unfold doT
    rw [hE, if_pos (by omega)]
  · by_cases h2 : 10 < ok
    · have hE : askE ⟨ok, op, ot, oa, on, od⟩ = 127 := by unfold askE; rw [if_pos (.inr h2)]
      refine do_row w b q F nn T _ 127 106 false false false ok oa on op ot od hbk hL (fun V => askedG V _ _ _ _ ok oa on op ot od h2) (fun _ _ => by kernel_rfl) (fun h0 => absurd h0 (by omega)) (fun _ => ?_)
      unfold doT
      rw [hE, if_pos (by omega)]
    · have h3 : ok = 1 ∨ ok = 2 ∨ ok = 3 ∨ ok = 4 ∨ ok = 5 ∨ ok = 6 ∨ ok = 7 ∨ ok = 8 ∨ ok = 9 ∨ ok = 10 := by omega
      rcases h3 with rfl | rfl | rfl | rfl | rfl | rfl | rfl | rfl | rfl | rfl
      · exact do1 w b q F nn T dp oa on op ot od hbk hL hv hnn hoa hod
      · exact do2 w b q F nn T dp oa on op ot od hbk hL hv hnn hoa hod
      · exact do3 w b q F nn T dp oa on op ot od hbk hL hv hnn hoa hod
      · exact do4 w b q F nn T dp oa on op ot od hbk hL hv hnn hoa hod
      · exact do5 w b q F nn T dp oa on op ot od hbk hL hv hnn hoa hod
      · exact do6 w b q F nn T dp oa on op ot od hbk hL hv hnn hoa hod
      · exact do7 w b q F nn T dp oa on op ot od hbk hL hv hnn hoa hod
      · exact do8 w b q F nn T dp oa on op ot od hbk hL hv hnn hoa hod
      · exact do9 w b q F nn T dp oa on op ot od hbk hL hv hnn hoa hod
      · exact do10 w b q F nn T dp oa on op ot od hbk hL hv hnn hoa hod

end Go.Proofs.YtnfddiabhpandaaGreatDoor.Tr
