import Derived.Test.YtckbbbcjpklnmaaDoorIxLb
import Derived.Test.YtckbbbcjpklnmaaDoorIxH0
import Derived.Deep.RegionWith
import Derived.Deep.DeepCutAuto
namespace Go.Proofs.YtckbbbcjpklnmaaDoor.Ix
open Go.RowKit Go.Lib Go.Deep
theorem cell_keep {X : World} {g j : Nat} {v : Value} (h : X.cell? ⟨g, j, none⟩ = some v) (o : Obj) : (X.alloc o).cell? ⟨g, j, none⟩ = some v := ((Below.refl X.heap.size X).alloc (Nat.le_refl _) o).cell (p := ⟨g, j, none⟩) (by have := block_lt_of_cell h; simpa using this) |>.trans h
theorem rst_be {c : Cn} {R : List Rf} {kk : Nat} {wc wx : World} {g : Nat} {z : Int} (h : Rst c R kk wc wx g z) : Below wc.heap.size wc wx := h.1
set_option maxRecDepth 20000 in
set_option maxHeartbeats 8000000 in
/-- the turned byte: its region alone -/
theorem r18 {K0 : Act → World → Prop} {Post : Ending → World → Prop} (sl fl dr mf ls pg : Nat) (R : List Rf) (kk L b1 q cn zn : Nat) (by_ : Int) (St Sy ya yb yz : ByteArray) (w1 w17 : World)
    (HC0 : ∀ X, Below w17.heap.size w17 X → X.cell? ⟨w1.heap.size, 0, none⟩ = some (.int .i64 (sl : Int)) ∧ X.cell? ⟨w1.heap.size, 1, none⟩ = some (.int .i64 (fl : Int)) ∧ X.cell? ⟨w1.heap.size, 2, none⟩ = some (.int .i64 (dr : Int)) ∧ X.cell? ⟨w1.heap.size, 3, none⟩ = some (.int .i64 (mf : Int)) ∧ X.cell? ⟨w1.heap.size, 4, none⟩ = some (.int .i64 (ls : Int)) ∧ X.cell? ⟨w1.heap.size, 5, none⟩ = some (.int .i64 (pg : Int))) (hcb : w1.heap.size < w17.heap.size) (HRT0 : ∀ X, Below w17.heap.size w17 X → RT X)
    (KMd0 : ∀ X, Calls Tryd.prog 19 #[.int .i64 by_, .int .i64 255] X fun e w' => e = .returned (.int .i64 (b1 : Int)) ∧ w' = X)
    (KT0 : ∀ X, RT X → Calls Tryd.prog 17 #[.agg #[.int .i64 (sl : Int), .int .i64 (fl : Int), .int .i64 (dr : Int), .int .i64 (mf : Int), .int .i64 (ls : Int), .int .i64 (pg : Int)], .string Sy] X fun e w' => ∃ i0 i1 i2 i3 i4 i5 a n kp z, e = .returned (.tuple #[.agg #[.int .i64 i0, .int .i64 i1, .int .i64 i2, .int .i64 i3, .int .i64 i4, .int .i64 i5, .slice a n kp], .int .i64 z]) ∧ Gv ⟨sl, fl, dr, mf, ls, pg⟩ R kk X.heap.size w' i0 i1 i2 i3 i4 i5 a n kp z ∧ Below X.heap.size X w')
    (hix : ∀ W, (Instr.index 9 (.string St) (.int .i64 (kk : Int))).run Tryd.prog W = .ok (.int .u8 (cn : Int)) W) (hxor : bits .xor .u8 (cn : Int) (q : Int) = (zn : Int)) (hcat : ya ++ yz ++ yb = Sy)
    (hsla : ∀ W, (Instr.slice 9 (.string St) none (some (.int .i64 (kk : Int))) none).run Tryd.prog W = .ok (.string ya) W) (hslb : ∀ W, (Instr.slice 9 (.string St) (some (.int .i64 ((kk : Int) + 1))) none none).run Tryd.prog W = .ok (.string yb) W)
    (hcv : ∀ (X : World) (g : Nat), X.cell? ⟨g, 0, none⟩ = some (.int .u8 (zn : Int)) → (convert 45 9 (.slice (some ⟨g, 0, none⟩) 1 1)).run Tryd.prog X = .ok (.string yz) X)
    (hza : ya.size = kk) (hzz : yz.size = 1) (hzb : yb.size = L - kk) (hw1 : (1 : Int) + (b1 : Int) = (q : Int)) (hw2 : IntKind.i64.wrap (q : Int) = (q : Int)) (hw3 : IntKind.u8.wrap (q : Int) = (q : Int)) (hw4 : IntKind.i64.wrap ((kk : Int) + 1) = (kk : Int) + 1) (hk63 : kk + 1 ≤ 9223372036854775807) (hk64 : kk + 1 + (L - kk) ≤ 9223372036854775807)
    {t0 t1 t2 t4 t5 t6 t7 t8 t9 t10 t12 t14 t15 t16 t17 t18 t19 t20 t21 t22 t23 t25 t26 t27 t28 t29 t30 t31 t32 t33 t34 t35 t36 t37 t38 t39 t40 t41 t42 t43 t44 t45 t46 t47 t48 t49 t50 t51 t52 t53 t54 t55 t56 t57 t58 t59 t60 t61 t62 t63 t64 t65 t66 t67 t68 t69 t70 t71 t72 t73 t74 t75 t76 t77 t78 t79 t80 t81 t82 t83 t84 t85 t86 t87 t88 t89 t90 t91 t92 t93 t94 t95 t96 t97 t98 t99 t100 t101 t102 t103 t104 t105 t106 t107 t108 t109 t110 t111 t112 t113 t114 t115 t116 t117 t118 t119 t120 t121 t122 t123 t124 t125 t126 t127 t128 t129 t130 t131 t132 t133 t134 t135 t136 t137 t138 t139 t140 t141 t142 t143 t144 t145 t146 t147 t148 t149 t150 t151 t152 t153 t154 t155 t156 t157 t158 t159 t160 t161 t162 t163 t164 t165 : Value}
    (hK0 : ∀ (v113 v114 v115 v116 v117 v118 v119 v120 v121 v122 v123 v124 v125 v126 v127 v128 v129 v130 v131 v132 v133 v134 v135 v136 : Value) (g : Nat) (z : Int) (wx : World), Rst ⟨sl, fl, dr, mf, ls, pg⟩ R kk w17 wx g z → K0 { tmps := (t0 :: t1 :: t2 :: (.int .i64 by_) :: t4 :: t5 :: t6 :: t7 :: t8 :: t9 :: t10 :: (.pointer (some ⟨w1.heap.size, 0, none⟩)) :: t12 :: (.string St) :: t14 :: t15 :: t16 :: t17 :: t18 :: t19 :: t20 :: t21 :: t22 :: t23 :: (.int .i64 (kk : Int)) :: (.pointer (some ⟨g, 0, none⟩)) :: (.int .i64 z) :: t27 :: t28 :: t29 :: t30 :: t31 :: t32 :: t33 :: t34 :: t35 :: t36 :: t37 :: t38 :: t39 :: t40 :: t41 :: t42 :: t43 :: t44 :: t45 :: t46 :: t47 :: t48 :: t49 :: t50 :: t51 :: t52 :: t53 :: t54 :: t55 :: t56 :: t57 :: t58 :: t59 :: t60 :: t61 :: t62 :: t63 :: t64 :: t65 :: t66 :: t67 :: t68 :: t69 :: t70 :: t71 :: t72 :: t73 :: t74 :: t75 :: t76 :: t77 :: t78 :: t79 :: t80 :: t81 :: t82 :: t83 :: t84 :: t85 :: t86 :: t87 :: t88 :: t89 :: t90 :: t91 :: t92 :: t93 :: t94 :: t95 :: t96 :: t97 :: t98 :: t99 :: t100 :: t101 :: t102 :: t103 :: t104 :: t105 :: t106 :: t107 :: t108 :: t109 :: t110 :: t111 :: t112 :: (v113) :: (v114) :: (v115) :: (v116) :: (v117) :: (v118) :: (v119) :: (v120) :: (v121) :: (v122) :: (v123) :: (v124) :: (v125) :: (v126) :: (v127) :: (v128) :: (v129) :: (v130) :: (v131) :: (v132) :: (v133) :: (v134) :: (v135) :: (v136) :: t137 :: t138 :: t139 :: t140 :: t141 :: t142 :: t143 :: t144 :: t145 :: t146 :: t147 :: t148 :: t149 :: t150 :: t151 :: t152 :: t153 :: t154 :: t155 :: t156 :: t157 :: t158 :: t159 :: t160 :: t161 :: t162 :: t163 :: t164 :: t165 :: []).toArray, defers := [] } wx) :
    Code.wp Tryd.prog (Code.region 18 #[{ dst := some 114, op := Op.load 23 (Operand.tmp 11), type := 23, pos := "outright.go:183", after := #[], guard := none }, { dst := some 115, op := Op.move (Operand.tmp 13), type := 9, pos := "outright.go:183", after := #[], guard := none }, { dst := some 116, op := Op.move (Operand.tmp 24), type := 3, pos := "outright.go:183", after := #[], guard := none }, { dst := some 117, op := Op.slice 9 (Operand.tmp 115) none (some (Operand.tmp 116)) none, type := 9, pos := "outright.go:183", after := #[{ on := 1, ground := Ground.data }, { on := 2, ground := Ground.data }], guard := none }, { dst := some 118, op := Op.move (Operand.tmp 13), type := 9, pos := "outright.go:183", after := #[], guard := none }, { dst := some 119, op := Op.move (Operand.tmp 24), type := 3, pos := "outright.go:183", after := #[], guard := none }, { dst := some 120, op := Op.index 9 (Operand.tmp 118) (Operand.tmp 119), type := 5, pos := "outright.go:183", after := #[{ on := 4, ground := Ground.data }, { on := 5, ground := Ground.data }], guard := none }, { dst := some 121, op := Op.move (Operand.tmp 3), type := 3, pos := "outright.go:183", after := #[], guard := none }, { dst := some 122, op := Op.call { callee := Callee.value (Operand.func 19), args := #[Operand.tmp 121, Operand.const (Value.int IntKind.i64 255)], argTypes := #[3, 3] }, type := 3, pos := "outright.go:183", after := #[{ on := 7, ground := Ground.data }], guard := none }, { dst := some 123, op := Op.binOp BinOp.add 3 (Operand.const (Value.int IntKind.i64 1)) (Operand.tmp 122) 3, type := 3, pos := "outright.go:183", after := #[{ on := 8, ground := Ground.data }], guard := none }, { dst := some 124, op := Op.convert 3 5 (Operand.tmp 123), type := 5, pos := "outright.go:183", after := #[{ on := 9, ground := Ground.data }], guard := none }, { dst := some 125, op := Op.binOp BinOp.xor 5 (Operand.tmp 120) (Operand.tmp 124) 5, type := 5, pos := "outright.go:183", after := #[{ on := 6, ground := Ground.data }, { on := 10, ground := Ground.data }], guard := none }, { dst := some 126, op := Op.buildSlice 45 1 #[(0, Operand.tmp 125)], type := 45, pos := "outright.go:183", after := #[{ on := 11, ground := Ground.data }], guard := none }, { dst := some 127, op := Op.convert 45 9 (Operand.tmp 126), type := 9, pos := "outright.go:183", after := #[{ on := 12, ground := Ground.data }], guard := none }, { dst := some 128, op := Op.binOp BinOp.add 9 (Operand.tmp 117) (Operand.tmp 127) 9, type := 9, pos := "outright.go:183", after := #[{ on := 3, ground := Ground.data }, { on := 13, ground := Ground.data }], guard := none }, { dst := some 129, op := Op.move (Operand.tmp 13), type := 9, pos := "outright.go:183", after := #[], guard := none }, { dst := some 130, op := Op.move (Operand.tmp 24), type := 3, pos := "outright.go:183", after := #[], guard := none }, { dst := some 131, op := Op.binOp BinOp.add 3 (Operand.tmp 130) (Operand.const (Value.int IntKind.i64 1)) 3, type := 3, pos := "outright.go:183", after := #[{ on := 16, ground := Ground.data }], guard := none }, { dst := some 132, op := Op.slice 9 (Operand.tmp 129) (some (Operand.tmp 131)) none none, type := 9, pos := "outright.go:183", after := #[{ on := 15, ground := Ground.data }, { on := 17, ground := Ground.data }], guard := none }, { dst := some 133, op := Op.binOp BinOp.add 9 (Operand.tmp 128) (Operand.tmp 132) 9, type := 9, pos := "outright.go:183", after := #[{ on := 14, ground := Ground.data }, { on := 18, ground := Ground.data }], guard := none }, { dst := some 134, op := Op.call { callee := Callee.value (Operand.func 17), args := #[Operand.tmp 114, Operand.tmp 133], argTypes := #[23, 9] }, type := 41, pos := "outright.go:183", after := #[{ on := 0, ground := Ground.data }, { on := 19, ground := Ground.data }, { on := 8, ground := Ground.chain }], guard := none }, { dst := some 113, op := Op.move (Operand.tmp 134), type := 41, pos := "outright.go:183", after := #[{ on := 20, ground := Ground.data }], guard := none }, { dst := some 135, op := Op.extract (Operand.tmp 113) 0, type := 38, pos := "outright.go:183", after := #[{ on := 21, ground := Ground.data }], guard := none }, { dst := some 136, op := Op.extract (Operand.tmp 113) 1, type := 24, pos := "outright.go:183", after := #[{ on := 21, ground := Ground.data }, { on := 25, ground := Ground.gcOnly Departure.lateStores }], guard := none }, { dst := some 25, op := Op.alloc 38, type := 0, pos := "outright.go:183", after := #[], guard := none }, { dst := none, op := Op.store 38 (Operand.tmp 25) (Operand.tmp 135), type := 0, pos := "outright.go:183", after := #[{ on := 24, ground := Ground.data }, { on := 22, ground := Ground.data }, { on := 20, ground := Ground.chain }, { on := 0, ground := Ground.phase }, { on := 1, ground := Ground.phase }, { on := 2, ground := Ground.phase }, { on := 3, ground := Ground.phase }, { on := 4, ground := Ground.phase }, { on := 5, ground := Ground.phase }, { on := 6, ground := Ground.phase }, { on := 7, ground := Ground.phase }, { on := 8, ground := Ground.phase }, { on := 9, ground := Ground.phase }, { on := 10, ground := Ground.phase }, { on := 11, ground := Ground.phase }, { on := 12, ground := Ground.phase }, { on := 13, ground := Ground.phase }, { on := 14, ground := Ground.phase }, { on := 15, ground := Ground.phase }, { on := 16, ground := Ground.phase }, { on := 17, ground := Ground.phase }, { on := 18, ground := Ground.phase }, { on := 19, ground := Ground.phase }, { on := 20, ground := Ground.phase }, { on := 21, ground := Ground.phase }, { on := 22, ground := Ground.phase }, { on := 23, ground := Ground.textOnly Departure.lateStores }, { on := 24, ground := Ground.phase }], guard := none }, { dst := some 26, op := Op.assign (Operand.tmp 136), type := 24, pos := "outright.go:183", after := #[{ on := 23, ground := Ground.data }, { on := 25, ground := Ground.chain }, { on := 0, ground := Ground.phase }, { on := 1, ground := Ground.phase }, { on := 2, ground := Ground.phase }, { on := 3, ground := Ground.phase }, { on := 4, ground := Ground.phase }, { on := 5, ground := Ground.phase }, { on := 6, ground := Ground.phase }, { on := 7, ground := Ground.phase }, { on := 8, ground := Ground.phase }, { on := 9, ground := Ground.phase }, { on := 10, ground := Ground.phase }, { on := 11, ground := Ground.phase }, { on := 12, ground := Ground.phase }, { on := 13, ground := Ground.phase }, { on := 14, ground := Ground.phase }, { on := 15, ground := Ground.phase }, { on := 16, ground := Ground.phase }, { on := 17, ground := Ground.phase }, { on := 18, ground := Ground.phase }, { on := 19, ground := Ground.phase }, { on := 20, ground := Ground.phase }, { on := 21, ground := Ground.phase }, { on := 22, ground := Ground.phase }, { on := 23, ground := Ground.phase }, { on := 24, ground := Ground.phase }, { on := 25, ground := Ground.phase }], guard := none }] true) (Exit.then K0 (bodyPost Tryd.prog Tryd.f4 Post)) { tmps := (t0 :: t1 :: t2 :: (.int .i64 by_) :: t4 :: t5 :: t6 :: t7 :: t8 :: t9 :: t10 :: (.pointer (some ⟨w1.heap.size, 0, none⟩)) :: t12 :: (.string St) :: t14 :: t15 :: t16 :: t17 :: t18 :: t19 :: t20 :: t21 :: t22 :: t23 :: (.int .i64 (kk : Int)) :: t25 :: t26 :: t27 :: t28 :: t29 :: t30 :: t31 :: t32 :: t33 :: t34 :: t35 :: t36 :: t37 :: t38 :: t39 :: t40 :: t41 :: t42 :: t43 :: t44 :: t45 :: t46 :: t47 :: t48 :: t49 :: t50 :: t51 :: t52 :: t53 :: t54 :: t55 :: t56 :: t57 :: t58 :: t59 :: t60 :: t61 :: t62 :: t63 :: t64 :: t65 :: t66 :: t67 :: t68 :: t69 :: t70 :: t71 :: t72 :: t73 :: t74 :: t75 :: t76 :: t77 :: t78 :: t79 :: t80 :: t81 :: t82 :: t83 :: t84 :: t85 :: t86 :: t87 :: t88 :: t89 :: t90 :: t91 :: t92 :: t93 :: t94 :: t95 :: t96 :: t97 :: t98 :: t99 :: t100 :: t101 :: t102 :: t103 :: t104 :: t105 :: t106 :: t107 :: t108 :: t109 :: t110 :: t111 :: t112 :: t113 :: t114 :: t115 :: t116 :: t117 :: t118 :: t119 :: t120 :: t121 :: t122 :: t123 :: t124 :: t125 :: t126 :: t127 :: t128 :: t129 :: t130 :: t131 :: t132 :: t133 :: t134 :: t135 :: t136 :: t137 :: t138 :: t139 :: t140 :: t141 :: t142 :: t143 :: t144 :: t145 :: t146 :: t147 :: t148 :: t149 :: t150 :: t151 :: t152 :: t153 :: t154 :: t155 :: t156 :: t157 :: t158 :: t159 :: t160 :: t161 :: t162 :: t163 :: t164 :: t165 :: []).toArray, defers := [] } w17 := by
  have HKK : Hid _ := hK0
  have KT : Hid _ := KT0
  have HCD : Hid _ := HC0
  have HRT : Hid _ := HRT0
  have KMd2 : Hid _ := KMd0
  obtain ⟨p0, p1, p2, p3, p4, p5⟩ := HC0 w17 (Below.refl _ _)
  clear KT0 HC0 HRT0 KMd0 hK0
  have hS0 : (w17.drew.cell? ⟨w1.heap.size, 0, none⟩ = some (.int .i64 (sl : Int)) ∧ w17.drew.cell? ⟨w1.heap.size, 1, none⟩ = some (.int .i64 (fl : Int)) ∧ w17.drew.cell? ⟨w1.heap.size, 2, none⟩ = some (.int .i64 (dr : Int)) ∧ w17.drew.cell? ⟨w1.heap.size, 3, none⟩ = some (.int .i64 (mf : Int)) ∧ w17.drew.cell? ⟨w1.heap.size, 4, none⟩ = some (.int .i64 (ls : Int)) ∧ w17.drew.cell? ⟨w1.heap.size, 5, none⟩ = some (.int .i64 (pg : Int))) := ⟨p0, p1, p2, p3, p4, p5⟩
  refine wp_region_held_drew (S := fun X => X.cell? ⟨w1.heap.size, 0, none⟩ = some (.int .i64 (sl : Int)) ∧ X.cell? ⟨w1.heap.size, 1, none⟩ = some (.int .i64 (fl : Int)) ∧ X.cell? ⟨w1.heap.size, 2, none⟩ = some (.int .i64 (dr : Int)) ∧ X.cell? ⟨w1.heap.size, 3, none⟩ = some (.int .i64 (mf : Int)) ∧ X.cell? ⟨w1.heap.size, 4, none⟩ = some (.int .i64 (ls : Int)) ∧ X.cell? ⟨w1.heap.size, 5, none⟩ = some (.int .i64 (pg : Int))) (by kernel_rfl) hS0 ?_
  intro hS
  clear hS0 p0 p1 p2 p3 p4 p5
  have HB : Hid (Below w17.heap.size w17 w17.drew) := (Below.refl _ _).drew
  revert hS HB
  generalize w17.drew = V
  intro hS HB
  refine wpAnyH_take (i := 0) (oi := { dst := some 114, op := .load 23 (.tmp 11), type := _, pos := _, after := _, guard := none }) (v := .agg #[.int .i64 (sl : Int), .int .i64 (fl : Int), .int .i64 (dr : Int), .int .i64 (mf : Int), .int .i64 (ls : Int), .int .i64 (pg : Int)]) rfl (by kernel_rfl) (by kernel_rfl) (by kernel_rfl) (fun _ _ _ h => h) (Or.inl ⟨by rfl, by intro x hx; obtain ⟨h0, h1, h2, h3, h4, h5⟩ := hx; go_simp⟩) hS ?_
  (try simp only [Act.put, List.setIfInBounds_toArray, List.set_cons_zero, List.set_cons_succ])
  refine wpAnyH_take (i := 1) (oi := { dst := some 115, op := .move (.tmp 13), type := _, pos := _, after := _, guard := none }) (v := .string St) rfl (by kernel_rfl) (by kernel_rfl) (by kernel_rfl) (fun _ _ _ h => h) (Or.inl ⟨by rfl, by intro x _; go_simp⟩) hS ?_
  (try simp only [Act.put, List.setIfInBounds_toArray, List.set_cons_zero, List.set_cons_succ])
  refine wpAnyH_take (i := 2) (oi := { dst := some 116, op := .move (.tmp 24), type := _, pos := _, after := _, guard := none }) (v := .int .i64 (kk : Int)) rfl (by kernel_rfl) (by kernel_rfl) (by kernel_rfl) (fun _ _ _ h => h) (Or.inl ⟨by rfl, by intro x _; go_simp⟩) hS ?_
  (try simp only [Act.put, List.setIfInBounds_toArray, List.set_cons_zero, List.set_cons_succ])
  refine wpAnyH_take (i := 3) (oi := { dst := some 117, op := .slice 9 (.tmp 115) none (some (.tmp 116)) none, type := _, pos := _, after := _, guard := none }) (v := .string ya) rfl (by kernel_rfl) (by kernel_rfl) (by kernel_rfl) (fun _ _ _ h => h) (Or.inl ⟨by rfl, by intro x _; go_simp⟩) hS ?_
  (try simp only [Act.put, List.setIfInBounds_toArray, List.set_cons_zero, List.set_cons_succ])
  refine wpAnyH_take (i := 4) (oi := { dst := some 118, op := .move (.tmp 13), type := _, pos := _, after := _, guard := none }) (v := .string St) rfl (by kernel_rfl) (by kernel_rfl) (by kernel_rfl) (fun _ _ _ h => h) (Or.inl ⟨by rfl, by intro x _; go_simp⟩) hS ?_
  (try simp only [Act.put, List.setIfInBounds_toArray, List.set_cons_zero, List.set_cons_succ])
  refine wpAnyH_take (i := 5) (oi := { dst := some 119, op := .move (.tmp 24), type := _, pos := _, after := _, guard := none }) (v := .int .i64 (kk : Int)) rfl (by kernel_rfl) (by kernel_rfl) (by kernel_rfl) (fun _ _ _ h => h) (Or.inl ⟨by rfl, by intro x _; go_simp⟩) hS ?_
  (try simp only [Act.put, List.setIfInBounds_toArray, List.set_cons_zero, List.set_cons_succ])
  refine wpAnyH_take (i := 6) (oi := { dst := some 120, op := .index 9 (.tmp 118) (.tmp 119), type := _, pos := _, after := _, guard := none }) (v := .int .u8 (cn : Int)) rfl (by kernel_rfl) (by kernel_rfl) (by kernel_rfl) (fun _ _ _ h => h) (Or.inl ⟨by rfl, by intro x _; go_simp⟩) hS ?_
  (try simp only [Act.put, List.setIfInBounds_toArray, List.set_cons_zero, List.set_cons_succ])
  refine wpAnyH_take (i := 7) (oi := { dst := some 121, op := .move (.tmp 3), type := _, pos := _, after := _, guard := none }) (v := .int .i64 by_) rfl (by kernel_rfl) (by kernel_rfl) (by kernel_rfl) (fun _ _ _ h => h) (Or.inl ⟨by rfl, by intro x _; go_simp⟩) hS ?_
  (try simp only [Act.put, List.setIfInBounds_toArray, List.set_cons_zero, List.set_cons_succ])
  refine wpAnyH_take (i := 15) (oi := { dst := some 129, op := .move (.tmp 13), type := _, pos := _, after := _, guard := none }) (v := .string St) rfl (by kernel_rfl) (by kernel_rfl) (by kernel_rfl) (fun _ _ _ h => h) (Or.inl ⟨by rfl, by intro x _; go_simp⟩) hS ?_
  (try simp only [Act.put, List.setIfInBounds_toArray, List.set_cons_zero, List.set_cons_succ])
  refine wpAnyH_take (i := 16) (oi := { dst := some 130, op := .move (.tmp 24), type := _, pos := _, after := _, guard := none }) (v := .int .i64 (kk : Int)) rfl (by kernel_rfl) (by kernel_rfl) (by kernel_rfl) (fun _ _ _ h => h) (Or.inl ⟨by rfl, by intro x _; go_simp⟩) hS ?_
  (try simp only [Act.put, List.setIfInBounds_toArray, List.set_cons_zero, List.set_cons_succ])
  refine wpAnyH_take (i := 17) (oi := { dst := some 131, op := .binOp .add 3 (.tmp 130) (.const (.int .i64 1)) 3, type := _, pos := _, after := _, guard := none }) (v := .int .i64 ((kk : Int) + 1)) rfl (by kernel_rfl) (by kernel_rfl) (by kernel_rfl) (fun _ _ _ h => h) (Or.inl ⟨by rfl, by intro x _; go_simp⟩) hS ?_
  (try simp only [Act.put, List.setIfInBounds_toArray, List.set_cons_zero, List.set_cons_succ])
  refine wpAnyH_take (i := 18) (oi := { dst := some 132, op := .slice 9 (.tmp 129) (some (.tmp 131)) none none, type := _, pos := _, after := _, guard := none }) (v := .string yb) rfl (by kernel_rfl) (by kernel_rfl) (by kernel_rfl) (fun _ _ _ h => h) (Or.inl ⟨by rfl, by intro x _; go_simp⟩) hS ?_
  (try simp only [Act.put, List.setIfInBounds_toArray, List.set_cons_zero, List.set_cons_succ])
  refine wpAnyH_ready (rs := [8, 24]) (by kernel_rfl) (by simp) ?_
  refine AllReadyH.cons (o := { dst := some 122, op := .call { callee := .value (.func 19), args := #[.tmp 121, .const (.int .i64 255)], argTypes := #[3, 3] }, type := _, pos := _, after := _, guard := none }) rfl (fun K hK => ?_) (AllReadyH.cons (o := { dst := some 25, op := .alloc 38, type := _, pos := _, after := _, guard := none }) rfl (fun K hK => ?_) AllReadyH.nil)
  · go_simp
    refine (KMd2.out _).mono ?_
    rintro e W2 ⟨rfl, hw⟩
    rw [hw]
    clear hw W2
    refine hK.out _ _ hS (fun _ => ?_)
    clear hK K
    (try simp only [Act.put, List.setIfInBounds_toArray, List.set_cons_zero, List.set_cons_succ])
    refine wpAnyH_take (i := 9) (oi := { dst := some 123, op := .binOp .add 3 (.const (.int .i64 1)) (.tmp 122) 3, type := _, pos := _, after := _, guard := none }) (v := .int .i64 (q : Int)) rfl (by kernel_rfl) (by kernel_rfl) (by kernel_rfl) (fun _ _ _ h => h) (Or.inl ⟨by rfl, by intro x _; go_simp⟩) hS ?_
    (try simp only [Act.put, List.setIfInBounds_toArray, List.set_cons_zero, List.set_cons_succ])
    refine wpAnyH_take (i := 10) (oi := { dst := some 124, op := .convert 3 5 (.tmp 123), type := _, pos := _, after := _, guard := none }) (v := .int .u8 (q : Int)) rfl (by kernel_rfl) (by kernel_rfl) (by kernel_rfl) (fun _ _ _ h => h) (Or.inl ⟨by rfl, by intro x _; go_simp⟩) hS ?_
    (try simp only [Act.put, List.setIfInBounds_toArray, List.set_cons_zero, List.set_cons_succ])
    refine wpAnyH_take (i := 11) (oi := { dst := some 125, op := .binOp .xor 5 (.tmp 120) (.tmp 124) 5, type := _, pos := _, after := _, guard := none }) (v := .int .u8 (zn : Int)) rfl (by kernel_rfl) (by kernel_rfl) (by kernel_rfl) (fun _ _ _ h => h) (Or.inl ⟨by rfl, by intro x _; go_simp⟩) hS ?_
    (try simp only [Act.put, List.setIfInBounds_toArray, List.set_cons_zero, List.set_cons_succ])
    refine wpAnyH_ready (rs := [12, 24]) (by kernel_rfl) (by simp) ?_
    refine AllReadyH.cons (o := { dst := some 126, op := .buildSlice 45 1 #[(0, .tmp 125)], type := _, pos := _, after := _, guard := none }) rfl (fun K hK => ?_) (AllReadyH.cons (o := { dst := some 25, op := .alloc 38, type := _, pos := _, after := _, guard := none }) rfl (fun K hK => ?_) AllReadyH.nil)
    · go_simp
      have HB2 : Hid (Below w17.heap.size w17 (V.alloc (.cells #[.int .u8 (zn : Int)] 5))) := below_alloc HB.out _
      have hS2 := HCD.out _ HB2.out
      have hbz2 : (V.alloc (.cells #[.int .u8 (zn : Int)] 5)).cell? ⟨V.heap.size, 0, none⟩ = some (.int .u8 (zn : Int)) := (cell_of_heap (heap_new V _)).trans rfl
      refine hK.out _ _ hS2 (fun _ => ?_)
      clear hK K hS HB
      (try simp only [Act.put, List.setIfInBounds_toArray, List.set_cons_zero, List.set_cons_succ])
      revert HB2 hS2 hbz2
      generalize V.alloc (.cells #[.int .u8 (zn : Int)] 5) = V2
      generalize V.heap.size = h8
      intro HB hS hbz
      revert HB hS hbz
      generalize V2 = V
      intro HB hS hbz
      refine wpAnyH_ready (rs := [13, 24]) (by kernel_rfl) (by simp) ?_
      refine AllReadyH.cons (o := { dst := some 127, op := .convert 45 9 (.tmp 126), type := _, pos := _, after := _, guard := none }) rfl (fun K hK => ?_) (AllReadyH.cons (o := { dst := some 25, op := .alloc 38, type := _, pos := _, after := _, guard := none }) rfl (fun K hK => ?_) AllReadyH.nil)
      · have hcv8 := hcv V h8 hbz
        go_simp
        refine hK.out _ _ hS (fun _ => ?_)
        clear hK K hbz hcv8
        (try simp only [Act.put, List.setIfInBounds_toArray, List.set_cons_zero, List.set_cons_succ])
        refine wpAnyH_take (i := 14) (oi := { dst := some 128, op := .binOp .add 9 (.tmp 117) (.tmp 127) 9, type := _, pos := _, after := _, guard := none }) (v := .string (ya ++ yz)) rfl (by kernel_rfl) (by kernel_rfl) (by kernel_rfl) (fun _ _ _ h => h) (Or.inl ⟨by rfl, by intro x _; go_simp⟩) hS ?_
        (try simp only [Act.put, List.setIfInBounds_toArray, List.set_cons_zero, List.set_cons_succ])
        refine wpAnyH_take (i := 19) (oi := { dst := some 133, op := .binOp .add 9 (.tmp 128) (.tmp 132) 9, type := _, pos := _, after := _, guard := none }) (v := .string Sy) rfl (by kernel_rfl) (by kernel_rfl) (by kernel_rfl) (fun _ _ _ h => h) (Or.inl ⟨by rfl, by intro x _; go_simp⟩) hS ?_
        (try simp only [Act.put, List.setIfInBounds_toArray, List.set_cons_zero, List.set_cons_succ])
        refine wpAnyH_ready (rs := [20, 24]) (by kernel_rfl) (by simp) ?_
        refine AllReadyH.cons (o := { dst := some 134, op := .call { callee := .value (.func 17), args := #[.tmp 114, .tmp 133], argTypes := #[23, 9] }, type := _, pos := _, after := _, guard := none }) rfl (fun K hK => ?_) (AllReadyH.cons (o := { dst := some 25, op := .alloc 38, type := _, pos := _, after := _, guard := none }) rfl (fun K hK => ?_) AllReadyH.nil)
        · go_simp
          refine (KT.out _ (HRT.out _ HB.out)).mono ?_
          rintro e w8 ⟨i0, i1, i2, i3, i4, i5, a8, n8, k8, z8, rfl, HG8, hb8⟩
          have HB2 : Hid (Below w17.heap.size w17 w8) := below_on hb8 HB.out
          have hS2 := HCD.out _ HB2.out
          have HG82 : Hid (∃ B, Gv ⟨sl, fl, dr, mf, ls, pg⟩ R kk B w8 i0 i1 i2 i3 i4 i5 a8 n8 k8 z8) := ⟨_, HG8⟩
          refine hK.out _ _ hS2 (fun _ => ?_)
          clear hK K hS HB HG8 hb8
          (try simp only [Act.put, List.setIfInBounds_toArray, List.set_cons_zero, List.set_cons_succ])
          obtain ⟨B8, hG8⟩ := HG82.out
          have HG83 : Hid _ := hG8
          clear hG8 HG82
          revert HB2 hS2 HG83
          generalize w8 = V
          intro HB hS HG8
          refine wpAnyH_take (i := 21) (oi := { dst := some 113, op := .move (.tmp 134), type := _, pos := _, after := _, guard := none }) (v := .tuple #[.agg #[.int .i64 i0, .int .i64 i1, .int .i64 i2, .int .i64 i3, .int .i64 i4, .int .i64 i5, .slice a8 n8 k8], .int .i64 z8]) rfl (by kernel_rfl) (by kernel_rfl) (by kernel_rfl) (fun _ _ _ h => h) (Or.inl ⟨by rfl, by intro x _; go_simp⟩) hS ?_
          (try simp only [Act.put, List.setIfInBounds_toArray, List.set_cons_zero, List.set_cons_succ])
          refine wpAnyH_take (i := 22) (oi := { dst := some 135, op := .extract (.tmp 113) 0, type := _, pos := _, after := _, guard := none }) (v := .agg #[.int .i64 i0, .int .i64 i1, .int .i64 i2, .int .i64 i3, .int .i64 i4, .int .i64 i5, .slice a8 n8 k8]) rfl (by kernel_rfl) (by kernel_rfl) (by kernel_rfl) (fun _ _ _ h => h) (Or.inl ⟨by rfl, by intro x _; go_simp⟩) hS ?_
          (try simp only [Act.put, List.setIfInBounds_toArray, List.set_cons_zero, List.set_cons_succ])
          refine wpAnyH_take (i := 23) (oi := { dst := some 136, op := .extract (.tmp 113) 1, type := _, pos := _, after := _, guard := none }) (v := .int .i64 z8) rfl (by kernel_rfl) (by kernel_rfl) (by kernel_rfl) (fun _ _ _ h => h) (Or.inl ⟨by rfl, by intro x _; go_simp⟩) hS ?_
          (try simp only [Act.put, List.setIfInBounds_toArray, List.set_cons_zero, List.set_cons_succ])
          refine wpAnyH_ready (rs := [24]) (by kernel_rfl) (by simp) ?_
          refine AllReadyH.cons (o := { dst := some 25, op := .alloc 38, type := _, pos := _, after := _, guard := none }) rfl (fun K hK => ?_) AllReadyH.nil
          go_simp
          have HB2 : Hid (Below w17.heap.size w17 (V.alloc (.cells #[.int .i64 0, .int .i64 0, .int .i64 0, .int .i64 0, .int .i64 0, .int .i64 0, .slice none 0 0] 38))) := below_alloc HB.out _
          have hS2 := HCD.out _ HB2.out
          have HZ2 : Hid ((V.alloc (.cells #[.int .i64 0, .int .i64 0, .int .i64 0, .int .i64 0, .int .i64 0, .int .i64 0, .slice none 0 0] 38)).heap[V.heap.size]? = some (.cells #[.int .i64 0, .int .i64 0, .int .i64 0, .int .i64 0, .int .i64 0, .int .i64 0, .slice none 0 0] 38 (0, 0))) := heap_new V _
          have hgw2 : Hid (w17.heap.size ≤ V.heap.size ∧ w1.heap.size < V.heap.size) := ⟨HB.out.size, Nat.lt_of_lt_of_le (hcb) HB.out.size⟩
          have HGW2 : Hid (Gw ⟨sl, fl, dr, mf, ls, pg⟩ R kk (V.alloc (.cells #[.int .i64 0, .int .i64 0, .int .i64 0, .int .i64 0, .int .i64 0, .int .i64 0, .slice none 0 0] 38)) V.heap.size i0 i1 i2 i3 i4 i5 a8 n8 k8 z8) := gw_alloc HG8.out _
          refine hK.out _ _ hS2 (fun _ => ?_)
          clear hK K hS HB HG8
          (try simp only [Act.put, List.setIfInBounds_toArray, List.set_cons_zero, List.set_cons_succ])
          revert HB2 hS2 HZ2 hgw2 HGW2
          generalize V.alloc (.cells #[.int .i64 0, .int .i64 0, .int .i64 0, .int .i64 0, .int .i64 0, .int .i64 0, .slice none 0 0] 38) = V2
          generalize V.heap.size = g
          intro HB hS HZ hgw HGW
          revert HB hS HZ hgw HGW
          generalize V2 = V
          intro HB hS HZ hgw HGW
          refine wpAnyH_ready (rs := [25]) (by kernel_rfl) (by simp) ?_
          refine AllReadyH.cons (o := { dst := none, op := .store 38 (.tmp 25) (.tmp 135), type := _, pos := _, after := _, guard := none }) rfl (fun K hK => ?_) AllReadyH.nil
          obtain ⟨q0, q1, q2, q3, q4, q5, q6, fz8⟩ := cells7 HZ.out
          go_simp
          clear q0 q1 q2 q3 q4 q5 q6 fz8
          have HR8 := gw_put HGW.out HB.out hgw.out.1 HZ.out
          have hS2 := HCD.out _ (rst_be HR8)
          unfold put7 at HR8 hS2
          have HR9 : Hid _ := HR8
          clear HGW HB HZ HR8
          with_reducible refine hK.out _ _ hS2 (fun _ => ?_)
          clear hK K hS
          (try simp only [Act.put])
          have hS := hS2
          clear hS2
          refine wpAnyH_take (i := 26) (oi := { dst := some 26, op := .assign (.tmp 136), type := _, pos := _, after := _, guard := none }) (v := .int .i64 z8) rfl (by kernel_rfl) (by kernel_rfl) (by kernel_rfl) (fun _ _ _ h => h) (Or.inl ⟨by rfl, by intro x _; go_simp⟩) hS ?_
          (try simp only [Act.put, List.setIfInBounds_toArray, List.set_cons_zero, List.set_cons_succ])
          refine wpAnyH_done (by kernel_rfl) ?_ _
          go_wp2_with fail
          exact HKK.out _ _ _ _ _ _ _ _ _ _ _ _ _ _ _ _ _ _ _ _ _ _ _ _ g z8 _ HR9.out
        · go_simp
          have HB2 : Hid (Below w17.heap.size w17 (V.alloc (.cells #[.int .i64 0, .int .i64 0, .int .i64 0, .int .i64 0, .int .i64 0, .int .i64 0, .slice none 0 0] 38))) := below_alloc HB.out _
          have hS2 := HCD.out _ HB2.out
          have HZ2 : Hid ((V.alloc (.cells #[.int .i64 0, .int .i64 0, .int .i64 0, .int .i64 0, .int .i64 0, .int .i64 0, .slice none 0 0] 38)).heap[V.heap.size]? = some (.cells #[.int .i64 0, .int .i64 0, .int .i64 0, .int .i64 0, .int .i64 0, .int .i64 0, .slice none 0 0] 38 (0, 0))) := heap_new V _
          have hgw2 : Hid (w17.heap.size ≤ V.heap.size ∧ w1.heap.size < V.heap.size) := ⟨HB.out.size, Nat.lt_of_lt_of_le (hcb) HB.out.size⟩
          refine hK.out _ _ hS2 (fun _ => ?_)
          clear hK K hS HB
          (try simp only [Act.put, List.setIfInBounds_toArray, List.set_cons_zero, List.set_cons_succ])
          revert HB2 hS2 HZ2 hgw2
          generalize V.alloc (.cells #[.int .i64 0, .int .i64 0, .int .i64 0, .int .i64 0, .int .i64 0, .int .i64 0, .slice none 0 0] 38) = V2
          generalize V.heap.size = g
          intro HB hS HZ hgw
          revert HB hS HZ hgw
          generalize V2 = V
          intro HB hS HZ hgw
          refine wpAnyH_ready (rs := [20]) (by kernel_rfl) (by simp) ?_
          refine AllReadyH.cons (o := { dst := some 134, op := .call { callee := .value (.func 17), args := #[.tmp 114, .tmp 133], argTypes := #[23, 9] }, type := _, pos := _, after := _, guard := none }) rfl (fun K hK => ?_) AllReadyH.nil
          go_simp
          refine (KT.out _ (HRT.out _ HB.out)).mono ?_
          rintro e w8 ⟨i0, i1, i2, i3, i4, i5, a8, n8, k8, z8, rfl, HG8, hb8⟩
          have HB2 : Hid (Below w17.heap.size w17 w8) := below_on hb8 HB.out
          have hS2 := HCD.out _ HB2.out
          have HZ2 : Hid (w8.heap[g]? = some (.cells #[.int .i64 0, .int .i64 0, .int .i64 0, .int .i64 0, .int .i64 0, .int .i64 0, .slice none 0 0] 38 (0, 0))) := (hb8.block _ (heap_lt HZ.out)).trans HZ.out
          have HGW2 : Hid (Gw ⟨sl, fl, dr, mf, ls, pg⟩ R kk w8 g i0 i1 i2 i3 i4 i5 a8 n8 k8 z8) := gw_call HG8 (heap_lt HZ.out)
          refine hK.out _ _ hS2 (fun _ => ?_)
          clear hK K hS HB HZ HG8 hb8
          (try simp only [Act.put, List.setIfInBounds_toArray, List.set_cons_zero, List.set_cons_succ])
          revert HB2 hS2 HZ2 HGW2
          generalize w8 = V
          intro HB hS HZ HGW
          refine wpAnyH_take (i := 21) (oi := { dst := some 113, op := .move (.tmp 134), type := _, pos := _, after := _, guard := none }) (v := .tuple #[.agg #[.int .i64 i0, .int .i64 i1, .int .i64 i2, .int .i64 i3, .int .i64 i4, .int .i64 i5, .slice a8 n8 k8], .int .i64 z8]) rfl (by kernel_rfl) (by kernel_rfl) (by kernel_rfl) (fun _ _ _ h => h) (Or.inl ⟨by rfl, by intro x _; go_simp⟩) hS ?_
          (try simp only [Act.put, List.setIfInBounds_toArray, List.set_cons_zero, List.set_cons_succ])
          refine wpAnyH_take (i := 22) (oi := { dst := some 135, op := .extract (.tmp 113) 0, type := _, pos := _, after := _, guard := none }) (v := .agg #[.int .i64 i0, .int .i64 i1, .int .i64 i2, .int .i64 i3, .int .i64 i4, .int .i64 i5, .slice a8 n8 k8]) rfl (by kernel_rfl) (by kernel_rfl) (by kernel_rfl) (fun _ _ _ h => h) (Or.inl ⟨by rfl, by intro x _; go_simp⟩) hS ?_
          (try simp only [Act.put, List.setIfInBounds_toArray, List.set_cons_zero, List.set_cons_succ])
          refine wpAnyH_take (i := 23) (oi := { dst := some 136, op := .extract (.tmp 113) 1, type := _, pos := _, after := _, guard := none }) (v := .int .i64 z8) rfl (by kernel_rfl) (by kernel_rfl) (by kernel_rfl) (fun _ _ _ h => h) (Or.inl ⟨by rfl, by intro x _; go_simp⟩) hS ?_
          (try simp only [Act.put, List.setIfInBounds_toArray, List.set_cons_zero, List.set_cons_succ])
          refine wpAnyH_ready (rs := [25]) (by kernel_rfl) (by simp) ?_
          refine AllReadyH.cons (o := { dst := none, op := .store 38 (.tmp 25) (.tmp 135), type := _, pos := _, after := _, guard := none }) rfl (fun K hK => ?_) AllReadyH.nil
          obtain ⟨q0, q1, q2, q3, q4, q5, q6, fz8⟩ := cells7 HZ.out
          go_simp
          clear q0 q1 q2 q3 q4 q5 q6 fz8
          have HR8 := gw_put HGW.out HB.out hgw.out.1 HZ.out
          have hS2 := HCD.out _ (rst_be HR8)
          unfold put7 at HR8 hS2
          have HR9 : Hid _ := HR8
          clear HGW HB HZ HR8
          with_reducible refine hK.out _ _ hS2 (fun _ => ?_)
          clear hK K hS
          (try simp only [Act.put])
          have hS := hS2
          clear hS2
          refine wpAnyH_take (i := 26) (oi := { dst := some 26, op := .assign (.tmp 136), type := _, pos := _, after := _, guard := none }) (v := .int .i64 z8) rfl (by kernel_rfl) (by kernel_rfl) (by kernel_rfl) (fun _ _ _ h => h) (Or.inl ⟨by rfl, by intro x _; go_simp⟩) hS ?_
          (try simp only [Act.put, List.setIfInBounds_toArray, List.set_cons_zero, List.set_cons_succ])
          refine wpAnyH_done (by kernel_rfl) ?_ _
          go_wp2_with fail
          exact HKK.out _ _ _ _ _ _ _ _ _ _ _ _ _ _ _ _ _ _ _ _ _ _ _ _ g z8 _ HR9.out
      · go_simp
        have HB2 : Hid (Below w17.heap.size w17 (V.alloc (.cells #[.int .i64 0, .int .i64 0, .int .i64 0, .int .i64 0, .int .i64 0, .int .i64 0, .slice none 0 0] 38))) := below_alloc HB.out _
        have hS2 := HCD.out _ HB2.out
        have HZ2 : Hid ((V.alloc (.cells #[.int .i64 0, .int .i64 0, .int .i64 0, .int .i64 0, .int .i64 0, .int .i64 0, .slice none 0 0] 38)).heap[V.heap.size]? = some (.cells #[.int .i64 0, .int .i64 0, .int .i64 0, .int .i64 0, .int .i64 0, .int .i64 0, .slice none 0 0] 38 (0, 0))) := heap_new V _
        have hgw2 : Hid (w17.heap.size ≤ V.heap.size ∧ w1.heap.size < V.heap.size) := ⟨HB.out.size, Nat.lt_of_lt_of_le (hcb) HB.out.size⟩
        have hbz2 : (V.alloc (.cells #[.int .i64 0, .int .i64 0, .int .i64 0, .int .i64 0, .int .i64 0, .int .i64 0, .slice none 0 0] 38)).cell? ⟨h8, 0, none⟩ = some (.int .u8 (zn : Int)) := cell_keep hbz _
        refine hK.out _ _ hS2 (fun _ => ?_)
        clear hK K hS HB hbz
        (try simp only [Act.put, List.setIfInBounds_toArray, List.set_cons_zero, List.set_cons_succ])
        revert HB2 hS2 HZ2 hgw2 hbz2
        generalize V.alloc (.cells #[.int .i64 0, .int .i64 0, .int .i64 0, .int .i64 0, .int .i64 0, .int .i64 0, .slice none 0 0] 38) = V2
        generalize V.heap.size = g
        intro HB hS HZ hgw hbz
        revert HB hS HZ hgw hbz
        generalize V2 = V
        intro HB hS HZ hgw hbz
        refine wpAnyH_ready (rs := [13]) (by kernel_rfl) (by simp) ?_
        refine AllReadyH.cons (o := { dst := some 127, op := .convert 45 9 (.tmp 126), type := _, pos := _, after := _, guard := none }) rfl (fun K hK => ?_) AllReadyH.nil
        have hcv8 := hcv V h8 hbz
        go_simp
        refine hK.out _ _ hS (fun _ => ?_)
        clear hK K hbz hcv8
        (try simp only [Act.put, List.setIfInBounds_toArray, List.set_cons_zero, List.set_cons_succ])
        refine wpAnyH_take (i := 14) (oi := { dst := some 128, op := .binOp .add 9 (.tmp 117) (.tmp 127) 9, type := _, pos := _, after := _, guard := none }) (v := .string (ya ++ yz)) rfl (by kernel_rfl) (by kernel_rfl) (by kernel_rfl) (fun _ _ _ h => h) (Or.inl ⟨by rfl, by intro x _; go_simp⟩) hS ?_
        (try simp only [Act.put, List.setIfInBounds_toArray, List.set_cons_zero, List.set_cons_succ])
        refine wpAnyH_take (i := 19) (oi := { dst := some 133, op := .binOp .add 9 (.tmp 128) (.tmp 132) 9, type := _, pos := _, after := _, guard := none }) (v := .string Sy) rfl (by kernel_rfl) (by kernel_rfl) (by kernel_rfl) (fun _ _ _ h => h) (Or.inl ⟨by rfl, by intro x _; go_simp⟩) hS ?_
        (try simp only [Act.put, List.setIfInBounds_toArray, List.set_cons_zero, List.set_cons_succ])
        refine wpAnyH_ready (rs := [20]) (by kernel_rfl) (by simp) ?_
        refine AllReadyH.cons (o := { dst := some 134, op := .call { callee := .value (.func 17), args := #[.tmp 114, .tmp 133], argTypes := #[23, 9] }, type := _, pos := _, after := _, guard := none }) rfl (fun K hK => ?_) AllReadyH.nil
        go_simp
        refine (KT.out _ (HRT.out _ HB.out)).mono ?_
        rintro e w8 ⟨i0, i1, i2, i3, i4, i5, a8, n8, k8, z8, rfl, HG8, hb8⟩
        have HB2 : Hid (Below w17.heap.size w17 w8) := below_on hb8 HB.out
        have hS2 := HCD.out _ HB2.out
        have HZ2 : Hid (w8.heap[g]? = some (.cells #[.int .i64 0, .int .i64 0, .int .i64 0, .int .i64 0, .int .i64 0, .int .i64 0, .slice none 0 0] 38 (0, 0))) := (hb8.block _ (heap_lt HZ.out)).trans HZ.out
        have HGW2 : Hid (Gw ⟨sl, fl, dr, mf, ls, pg⟩ R kk w8 g i0 i1 i2 i3 i4 i5 a8 n8 k8 z8) := gw_call HG8 (heap_lt HZ.out)
        refine hK.out _ _ hS2 (fun _ => ?_)
        clear hK K hS HB HZ HG8 hb8
        (try simp only [Act.put, List.setIfInBounds_toArray, List.set_cons_zero, List.set_cons_succ])
        revert HB2 hS2 HZ2 HGW2
        generalize w8 = V
        intro HB hS HZ HGW
        refine wpAnyH_take (i := 21) (oi := { dst := some 113, op := .move (.tmp 134), type := _, pos := _, after := _, guard := none }) (v := .tuple #[.agg #[.int .i64 i0, .int .i64 i1, .int .i64 i2, .int .i64 i3, .int .i64 i4, .int .i64 i5, .slice a8 n8 k8], .int .i64 z8]) rfl (by kernel_rfl) (by kernel_rfl) (by kernel_rfl) (fun _ _ _ h => h) (Or.inl ⟨by rfl, by intro x _; go_simp⟩) hS ?_
        (try simp only [Act.put, List.setIfInBounds_toArray, List.set_cons_zero, List.set_cons_succ])
        refine wpAnyH_take (i := 22) (oi := { dst := some 135, op := .extract (.tmp 113) 0, type := _, pos := _, after := _, guard := none }) (v := .agg #[.int .i64 i0, .int .i64 i1, .int .i64 i2, .int .i64 i3, .int .i64 i4, .int .i64 i5, .slice a8 n8 k8]) rfl (by kernel_rfl) (by kernel_rfl) (by kernel_rfl) (fun _ _ _ h => h) (Or.inl ⟨by rfl, by intro x _; go_simp⟩) hS ?_
        (try simp only [Act.put, List.setIfInBounds_toArray, List.set_cons_zero, List.set_cons_succ])
        refine wpAnyH_take (i := 23) (oi := { dst := some 136, op := .extract (.tmp 113) 1, type := _, pos := _, after := _, guard := none }) (v := .int .i64 z8) rfl (by kernel_rfl) (by kernel_rfl) (by kernel_rfl) (fun _ _ _ h => h) (Or.inl ⟨by rfl, by intro x _; go_simp⟩) hS ?_
        (try simp only [Act.put, List.setIfInBounds_toArray, List.set_cons_zero, List.set_cons_succ])
        refine wpAnyH_ready (rs := [25]) (by kernel_rfl) (by simp) ?_
        refine AllReadyH.cons (o := { dst := none, op := .store 38 (.tmp 25) (.tmp 135), type := _, pos := _, after := _, guard := none }) rfl (fun K hK => ?_) AllReadyH.nil
        obtain ⟨q0, q1, q2, q3, q4, q5, q6, fz8⟩ := cells7 HZ.out
        go_simp
        clear q0 q1 q2 q3 q4 q5 q6 fz8
        have HR8 := gw_put HGW.out HB.out hgw.out.1 HZ.out
        have hS2 := HCD.out _ (rst_be HR8)
        unfold put7 at HR8 hS2
        have HR9 : Hid _ := HR8
        clear HGW HB HZ HR8
        with_reducible refine hK.out _ _ hS2 (fun _ => ?_)
        clear hK K hS
        (try simp only [Act.put])
        have hS := hS2
        clear hS2
        refine wpAnyH_take (i := 26) (oi := { dst := some 26, op := .assign (.tmp 136), type := _, pos := _, after := _, guard := none }) (v := .int .i64 z8) rfl (by kernel_rfl) (by kernel_rfl) (by kernel_rfl) (fun _ _ _ h => h) (Or.inl ⟨by rfl, by intro x _; go_simp⟩) hS ?_
        (try simp only [Act.put, List.setIfInBounds_toArray, List.set_cons_zero, List.set_cons_succ])
        refine wpAnyH_done (by kernel_rfl) ?_ _
        go_wp2_with fail
        exact HKK.out _ _ _ _ _ _ _ _ _ _ _ _ _ _ _ _ _ _ _ _ _ _ _ _ g z8 _ HR9.out
    · go_simp
      have HB2 : Hid (Below w17.heap.size w17 (V.alloc (.cells #[.int .i64 0, .int .i64 0, .int .i64 0, .int .i64 0, .int .i64 0, .int .i64 0, .slice none 0 0] 38))) := below_alloc HB.out _
      have hS2 := HCD.out _ HB2.out
      have HZ2 : Hid ((V.alloc (.cells #[.int .i64 0, .int .i64 0, .int .i64 0, .int .i64 0, .int .i64 0, .int .i64 0, .slice none 0 0] 38)).heap[V.heap.size]? = some (.cells #[.int .i64 0, .int .i64 0, .int .i64 0, .int .i64 0, .int .i64 0, .int .i64 0, .slice none 0 0] 38 (0, 0))) := heap_new V _
      have hgw2 : Hid (w17.heap.size ≤ V.heap.size ∧ w1.heap.size < V.heap.size) := ⟨HB.out.size, Nat.lt_of_lt_of_le (hcb) HB.out.size⟩
      refine hK.out _ _ hS2 (fun _ => ?_)
      clear hK K hS HB
      (try simp only [Act.put, List.setIfInBounds_toArray, List.set_cons_zero, List.set_cons_succ])
      revert HB2 hS2 HZ2 hgw2
      generalize V.alloc (.cells #[.int .i64 0, .int .i64 0, .int .i64 0, .int .i64 0, .int .i64 0, .int .i64 0, .slice none 0 0] 38) = V2
      generalize V.heap.size = g
      intro HB hS HZ hgw
      revert HB hS HZ hgw
      generalize V2 = V
      intro HB hS HZ hgw
      refine wpAnyH_ready (rs := [12]) (by kernel_rfl) (by simp) ?_
      refine AllReadyH.cons (o := { dst := some 126, op := .buildSlice 45 1 #[(0, .tmp 125)], type := _, pos := _, after := _, guard := none }) rfl (fun K hK => ?_) AllReadyH.nil
      go_simp
      have HB2 : Hid (Below w17.heap.size w17 (V.alloc (.cells #[.int .u8 (zn : Int)] 5))) := below_alloc HB.out _
      have hS2 := HCD.out _ HB2.out
      have HZ2 : Hid ((V.alloc (.cells #[.int .u8 (zn : Int)] 5)).heap[g]? = some (.cells #[.int .i64 0, .int .i64 0, .int .i64 0, .int .i64 0, .int .i64 0, .int .i64 0, .slice none 0 0] 38 (0, 0))) := heap_keep HZ.out
      have hbz2 : (V.alloc (.cells #[.int .u8 (zn : Int)] 5)).cell? ⟨V.heap.size, 0, none⟩ = some (.int .u8 (zn : Int)) := (cell_of_heap (heap_new V _)).trans rfl
      refine hK.out _ _ hS2 (fun _ => ?_)
      clear hK K hS HB HZ
      (try simp only [Act.put, List.setIfInBounds_toArray, List.set_cons_zero, List.set_cons_succ])
      revert HB2 hS2 HZ2 hbz2
      generalize V.alloc (.cells #[.int .u8 (zn : Int)] 5) = V2
      generalize V.heap.size = h8
      intro HB hS HZ hbz
      revert HB hS HZ hbz
      generalize V2 = V
      intro HB hS HZ hbz
      refine wpAnyH_ready (rs := [13]) (by kernel_rfl) (by simp) ?_
      refine AllReadyH.cons (o := { dst := some 127, op := .convert 45 9 (.tmp 126), type := _, pos := _, after := _, guard := none }) rfl (fun K hK => ?_) AllReadyH.nil
      have hcv8 := hcv V h8 hbz
      go_simp
      refine hK.out _ _ hS (fun _ => ?_)
      clear hK K hbz hcv8
      (try simp only [Act.put, List.setIfInBounds_toArray, List.set_cons_zero, List.set_cons_succ])
      refine wpAnyH_take (i := 14) (oi := { dst := some 128, op := .binOp .add 9 (.tmp 117) (.tmp 127) 9, type := _, pos := _, after := _, guard := none }) (v := .string (ya ++ yz)) rfl (by kernel_rfl) (by kernel_rfl) (by kernel_rfl) (fun _ _ _ h => h) (Or.inl ⟨by rfl, by intro x _; go_simp⟩) hS ?_
      (try simp only [Act.put, List.setIfInBounds_toArray, List.set_cons_zero, List.set_cons_succ])
      refine wpAnyH_take (i := 19) (oi := { dst := some 133, op := .binOp .add 9 (.tmp 128) (.tmp 132) 9, type := _, pos := _, after := _, guard := none }) (v := .string Sy) rfl (by kernel_rfl) (by kernel_rfl) (by kernel_rfl) (fun _ _ _ h => h) (Or.inl ⟨by rfl, by intro x _; go_simp⟩) hS ?_
      (try simp only [Act.put, List.setIfInBounds_toArray, List.set_cons_zero, List.set_cons_succ])
      refine wpAnyH_ready (rs := [20]) (by kernel_rfl) (by simp) ?_
      refine AllReadyH.cons (o := { dst := some 134, op := .call { callee := .value (.func 17), args := #[.tmp 114, .tmp 133], argTypes := #[23, 9] }, type := _, pos := _, after := _, guard := none }) rfl (fun K hK => ?_) AllReadyH.nil
      go_simp
      refine (KT.out _ (HRT.out _ HB.out)).mono ?_
      rintro e w8 ⟨i0, i1, i2, i3, i4, i5, a8, n8, k8, z8, rfl, HG8, hb8⟩
      have HB2 : Hid (Below w17.heap.size w17 w8) := below_on hb8 HB.out
      have hS2 := HCD.out _ HB2.out
      have HZ2 : Hid (w8.heap[g]? = some (.cells #[.int .i64 0, .int .i64 0, .int .i64 0, .int .i64 0, .int .i64 0, .int .i64 0, .slice none 0 0] 38 (0, 0))) := (hb8.block _ (heap_lt HZ.out)).trans HZ.out
      have HGW2 : Hid (Gw ⟨sl, fl, dr, mf, ls, pg⟩ R kk w8 g i0 i1 i2 i3 i4 i5 a8 n8 k8 z8) := gw_call HG8 (heap_lt HZ.out)
      refine hK.out _ _ hS2 (fun _ => ?_)
      clear hK K hS HB HZ HG8 hb8
      (try simp only [Act.put, List.setIfInBounds_toArray, List.set_cons_zero, List.set_cons_succ])
      revert HB2 hS2 HZ2 HGW2
      generalize w8 = V
      intro HB hS HZ HGW
      refine wpAnyH_take (i := 21) (oi := { dst := some 113, op := .move (.tmp 134), type := _, pos := _, after := _, guard := none }) (v := .tuple #[.agg #[.int .i64 i0, .int .i64 i1, .int .i64 i2, .int .i64 i3, .int .i64 i4, .int .i64 i5, .slice a8 n8 k8], .int .i64 z8]) rfl (by kernel_rfl) (by kernel_rfl) (by kernel_rfl) (fun _ _ _ h => h) (Or.inl ⟨by rfl, by intro x _; go_simp⟩) hS ?_
      (try simp only [Act.put, List.setIfInBounds_toArray, List.set_cons_zero, List.set_cons_succ])
      refine wpAnyH_take (i := 22) (oi := { dst := some 135, op := .extract (.tmp 113) 0, type := _, pos := _, after := _, guard := none }) (v := .agg #[.int .i64 i0, .int .i64 i1, .int .i64 i2, .int .i64 i3, .int .i64 i4, .int .i64 i5, .slice a8 n8 k8]) rfl (by kernel_rfl) (by kernel_rfl) (by kernel_rfl) (fun _ _ _ h => h) (Or.inl ⟨by rfl, by intro x _; go_simp⟩) hS ?_
      (try simp only [Act.put, List.setIfInBounds_toArray, List.set_cons_zero, List.set_cons_succ])
      refine wpAnyH_take (i := 23) (oi := { dst := some 136, op := .extract (.tmp 113) 1, type := _, pos := _, after := _, guard := none }) (v := .int .i64 z8) rfl (by kernel_rfl) (by kernel_rfl) (by kernel_rfl) (fun _ _ _ h => h) (Or.inl ⟨by rfl, by intro x _; go_simp⟩) hS ?_
      (try simp only [Act.put, List.setIfInBounds_toArray, List.set_cons_zero, List.set_cons_succ])
      refine wpAnyH_ready (rs := [25]) (by kernel_rfl) (by simp) ?_
      refine AllReadyH.cons (o := { dst := none, op := .store 38 (.tmp 25) (.tmp 135), type := _, pos := _, after := _, guard := none }) rfl (fun K hK => ?_) AllReadyH.nil
      obtain ⟨q0, q1, q2, q3, q4, q5, q6, fz8⟩ := cells7 HZ.out
      go_simp
      clear q0 q1 q2 q3 q4 q5 q6 fz8
      have HR8 := gw_put HGW.out HB.out hgw.out.1 HZ.out
      have hS2 := HCD.out _ (rst_be HR8)
      unfold put7 at HR8 hS2
      have HR9 : Hid _ := HR8
      clear HGW HB HZ HR8
      with_reducible refine hK.out _ _ hS2 (fun _ => ?_)
      clear hK K hS
      (try simp only [Act.put])
      have hS := hS2
      clear hS2
      refine wpAnyH_take (i := 26) (oi := { dst := some 26, op := .assign (.tmp 136), type := _, pos := _, after := _, guard := none }) (v := .int .i64 z8) rfl (by kernel_rfl) (by kernel_rfl) (by kernel_rfl) (fun _ _ _ h => h) (Or.inl ⟨by rfl, by intro x _; go_simp⟩) hS ?_
      (try simp only [Act.put, List.setIfInBounds_toArray, List.set_cons_zero, List.set_cons_succ])
      refine wpAnyH_done (by kernel_rfl) ?_ _
      go_wp2_with fail
      exact HKK.out _ _ _ _ _ _ _ _ _ _ _ _ _ _ _ _ _ _ _ _ _ _ _ _ g z8 _ HR9.out
  · go_simp
    have HB2 : Hid (Below w17.heap.size w17 (V.alloc (.cells #[.int .i64 0, .int .i64 0, .int .i64 0, .int .i64 0, .int .i64 0, .int .i64 0, .slice none 0 0] 38))) := below_alloc HB.out _
    have hS2 := HCD.out _ HB2.out
    have HZ2 : Hid ((V.alloc (.cells #[.int .i64 0, .int .i64 0, .int .i64 0, .int .i64 0, .int .i64 0, .int .i64 0, .slice none 0 0] 38)).heap[V.heap.size]? = some (.cells #[.int .i64 0, .int .i64 0, .int .i64 0, .int .i64 0, .int .i64 0, .int .i64 0, .slice none 0 0] 38 (0, 0))) := heap_new V _
    have hgw2 : Hid (w17.heap.size ≤ V.heap.size ∧ w1.heap.size < V.heap.size) := ⟨HB.out.size, Nat.lt_of_lt_of_le (hcb) HB.out.size⟩
    refine hK.out _ _ hS2 (fun _ => ?_)
    clear hK K hS HB
    (try simp only [Act.put, List.setIfInBounds_toArray, List.set_cons_zero, List.set_cons_succ])
    revert HB2 hS2 HZ2 hgw2
    generalize V.alloc (.cells #[.int .i64 0, .int .i64 0, .int .i64 0, .int .i64 0, .int .i64 0, .int .i64 0, .slice none 0 0] 38) = V2
    generalize V.heap.size = g
    intro HB hS HZ hgw
    revert HB hS HZ hgw
    generalize V2 = V
    intro HB hS HZ hgw
    refine wpAnyH_ready (rs := [8]) (by kernel_rfl) (by simp) ?_
    refine AllReadyH.cons (o := { dst := some 122, op := .call { callee := .value (.func 19), args := #[.tmp 121, .const (.int .i64 255)], argTypes := #[3, 3] }, type := _, pos := _, after := _, guard := none }) rfl (fun K hK => ?_) AllReadyH.nil
    go_simp
    refine (KMd2.out _).mono ?_
    rintro e W2 ⟨rfl, hw⟩
    rw [hw]
    clear hw W2
    refine hK.out _ _ hS (fun _ => ?_)
    clear hK K
    (try simp only [Act.put, List.setIfInBounds_toArray, List.set_cons_zero, List.set_cons_succ])
    refine wpAnyH_take (i := 9) (oi := { dst := some 123, op := .binOp .add 3 (.const (.int .i64 1)) (.tmp 122) 3, type := _, pos := _, after := _, guard := none }) (v := .int .i64 (q : Int)) rfl (by kernel_rfl) (by kernel_rfl) (by kernel_rfl) (fun _ _ _ h => h) (Or.inl ⟨by rfl, by intro x _; go_simp⟩) hS ?_
    (try simp only [Act.put, List.setIfInBounds_toArray, List.set_cons_zero, List.set_cons_succ])
    refine wpAnyH_take (i := 10) (oi := { dst := some 124, op := .convert 3 5 (.tmp 123), type := _, pos := _, after := _, guard := none }) (v := .int .u8 (q : Int)) rfl (by kernel_rfl) (by kernel_rfl) (by kernel_rfl) (fun _ _ _ h => h) (Or.inl ⟨by rfl, by intro x _; go_simp⟩) hS ?_
    (try simp only [Act.put, List.setIfInBounds_toArray, List.set_cons_zero, List.set_cons_succ])
    refine wpAnyH_take (i := 11) (oi := { dst := some 125, op := .binOp .xor 5 (.tmp 120) (.tmp 124) 5, type := _, pos := _, after := _, guard := none }) (v := .int .u8 (zn : Int)) rfl (by kernel_rfl) (by kernel_rfl) (by kernel_rfl) (fun _ _ _ h => h) (Or.inl ⟨by rfl, by intro x _; go_simp⟩) hS ?_
    (try simp only [Act.put, List.setIfInBounds_toArray, List.set_cons_zero, List.set_cons_succ])
    refine wpAnyH_ready (rs := [12]) (by kernel_rfl) (by simp) ?_
    refine AllReadyH.cons (o := { dst := some 126, op := .buildSlice 45 1 #[(0, .tmp 125)], type := _, pos := _, after := _, guard := none }) rfl (fun K hK => ?_) AllReadyH.nil
    go_simp
    have HB2 : Hid (Below w17.heap.size w17 (V.alloc (.cells #[.int .u8 (zn : Int)] 5))) := below_alloc HB.out _
    have hS2 := HCD.out _ HB2.out
    have HZ2 : Hid ((V.alloc (.cells #[.int .u8 (zn : Int)] 5)).heap[g]? = some (.cells #[.int .i64 0, .int .i64 0, .int .i64 0, .int .i64 0, .int .i64 0, .int .i64 0, .slice none 0 0] 38 (0, 0))) := heap_keep HZ.out
    have hbz2 : (V.alloc (.cells #[.int .u8 (zn : Int)] 5)).cell? ⟨V.heap.size, 0, none⟩ = some (.int .u8 (zn : Int)) := (cell_of_heap (heap_new V _)).trans rfl
    refine hK.out _ _ hS2 (fun _ => ?_)
    clear hK K hS HB HZ
    (try simp only [Act.put, List.setIfInBounds_toArray, List.set_cons_zero, List.set_cons_succ])
    revert HB2 hS2 HZ2 hbz2
    generalize V.alloc (.cells #[.int .u8 (zn : Int)] 5) = V2
    generalize V.heap.size = h8
    intro HB hS HZ hbz
    revert HB hS HZ hbz
    generalize V2 = V
    intro HB hS HZ hbz
    refine wpAnyH_ready (rs := [13]) (by kernel_rfl) (by simp) ?_
    refine AllReadyH.cons (o := { dst := some 127, op := .convert 45 9 (.tmp 126), type := _, pos := _, after := _, guard := none }) rfl (fun K hK => ?_) AllReadyH.nil
    have hcv8 := hcv V h8 hbz
    go_simp
    refine hK.out _ _ hS (fun _ => ?_)
    clear hK K hbz hcv8
    (try simp only [Act.put, List.setIfInBounds_toArray, List.set_cons_zero, List.set_cons_succ])
    refine wpAnyH_take (i := 14) (oi := { dst := some 128, op := .binOp .add 9 (.tmp 117) (.tmp 127) 9, type := _, pos := _, after := _, guard := none }) (v := .string (ya ++ yz)) rfl (by kernel_rfl) (by kernel_rfl) (by kernel_rfl) (fun _ _ _ h => h) (Or.inl ⟨by rfl, by intro x _; go_simp⟩) hS ?_
    (try simp only [Act.put, List.setIfInBounds_toArray, List.set_cons_zero, List.set_cons_succ])
    refine wpAnyH_take (i := 19) (oi := { dst := some 133, op := .binOp .add 9 (.tmp 128) (.tmp 132) 9, type := _, pos := _, after := _, guard := none }) (v := .string Sy) rfl (by kernel_rfl) (by kernel_rfl) (by kernel_rfl) (fun _ _ _ h => h) (Or.inl ⟨by rfl, by intro x _; go_simp⟩) hS ?_
    (try simp only [Act.put, List.setIfInBounds_toArray, List.set_cons_zero, List.set_cons_succ])
    refine wpAnyH_ready (rs := [20]) (by kernel_rfl) (by simp) ?_
    refine AllReadyH.cons (o := { dst := some 134, op := .call { callee := .value (.func 17), args := #[.tmp 114, .tmp 133], argTypes := #[23, 9] }, type := _, pos := _, after := _, guard := none }) rfl (fun K hK => ?_) AllReadyH.nil
    go_simp
    refine (KT.out _ (HRT.out _ HB.out)).mono ?_
    rintro e w8 ⟨i0, i1, i2, i3, i4, i5, a8, n8, k8, z8, rfl, HG8, hb8⟩
    have HB2 : Hid (Below w17.heap.size w17 w8) := below_on hb8 HB.out
    have hS2 := HCD.out _ HB2.out
    have HZ2 : Hid (w8.heap[g]? = some (.cells #[.int .i64 0, .int .i64 0, .int .i64 0, .int .i64 0, .int .i64 0, .int .i64 0, .slice none 0 0] 38 (0, 0))) := (hb8.block _ (heap_lt HZ.out)).trans HZ.out
    have HGW2 : Hid (Gw ⟨sl, fl, dr, mf, ls, pg⟩ R kk w8 g i0 i1 i2 i3 i4 i5 a8 n8 k8 z8) := gw_call HG8 (heap_lt HZ.out)
    refine hK.out _ _ hS2 (fun _ => ?_)
    clear hK K hS HB HZ HG8 hb8
    (try simp only [Act.put, List.setIfInBounds_toArray, List.set_cons_zero, List.set_cons_succ])
    revert HB2 hS2 HZ2 HGW2
    generalize w8 = V
    intro HB hS HZ HGW
    refine wpAnyH_take (i := 21) (oi := { dst := some 113, op := .move (.tmp 134), type := _, pos := _, after := _, guard := none }) (v := .tuple #[.agg #[.int .i64 i0, .int .i64 i1, .int .i64 i2, .int .i64 i3, .int .i64 i4, .int .i64 i5, .slice a8 n8 k8], .int .i64 z8]) rfl (by kernel_rfl) (by kernel_rfl) (by kernel_rfl) (fun _ _ _ h => h) (Or.inl ⟨by rfl, by intro x _; go_simp⟩) hS ?_
    (try simp only [Act.put, List.setIfInBounds_toArray, List.set_cons_zero, List.set_cons_succ])
    refine wpAnyH_take (i := 22) (oi := { dst := some 135, op := .extract (.tmp 113) 0, type := _, pos := _, after := _, guard := none }) (v := .agg #[.int .i64 i0, .int .i64 i1, .int .i64 i2, .int .i64 i3, .int .i64 i4, .int .i64 i5, .slice a8 n8 k8]) rfl (by kernel_rfl) (by kernel_rfl) (by kernel_rfl) (fun _ _ _ h => h) (Or.inl ⟨by rfl, by intro x _; go_simp⟩) hS ?_
    (try simp only [Act.put, List.setIfInBounds_toArray, List.set_cons_zero, List.set_cons_succ])
    refine wpAnyH_take (i := 23) (oi := { dst := some 136, op := .extract (.tmp 113) 1, type := _, pos := _, after := _, guard := none }) (v := .int .i64 z8) rfl (by kernel_rfl) (by kernel_rfl) (by kernel_rfl) (fun _ _ _ h => h) (Or.inl ⟨by rfl, by intro x _; go_simp⟩) hS ?_
    (try simp only [Act.put, List.setIfInBounds_toArray, List.set_cons_zero, List.set_cons_succ])
    refine wpAnyH_ready (rs := [25]) (by kernel_rfl) (by simp) ?_
    refine AllReadyH.cons (o := { dst := none, op := .store 38 (.tmp 25) (.tmp 135), type := _, pos := _, after := _, guard := none }) rfl (fun K hK => ?_) AllReadyH.nil
    obtain ⟨q0, q1, q2, q3, q4, q5, q6, fz8⟩ := cells7 HZ.out
    go_simp
    clear q0 q1 q2 q3 q4 q5 q6 fz8
    have HR8 := gw_put HGW.out HB.out hgw.out.1 HZ.out
    have hS2 := HCD.out _ (rst_be HR8)
    unfold put7 at HR8 hS2
    have HR9 : Hid _ := HR8
    clear HGW HB HZ HR8
    with_reducible refine hK.out _ _ hS2 (fun _ => ?_)
    clear hK K hS
    (try simp only [Act.put])
    have hS := hS2
    clear hS2
    refine wpAnyH_take (i := 26) (oi := { dst := some 26, op := .assign (.tmp 136), type := _, pos := _, after := _, guard := none }) (v := .int .i64 z8) rfl (by kernel_rfl) (by kernel_rfl) (by kernel_rfl) (fun _ _ _ h => h) (Or.inl ⟨by rfl, by intro x _; go_simp⟩) hS ?_
    (try simp only [Act.put, List.setIfInBounds_toArray, List.set_cons_zero, List.set_cons_succ])
    refine wpAnyH_done (by kernel_rfl) ?_ _
    go_wp2_with fail
    exact HKK.out _ _ _ _ _ _ _ _ _ _ _ _ _ _ _ _ _ _ _ _ _ _ _ _ g z8 _ HR9.out
end Go.Proofs.YtckbbbcjpklnmaaDoor.Ix
