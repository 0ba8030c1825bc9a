import Derived.Test.YtpjigcccjiidpaaExDa
namespace Go.Proofs.Ytpjigcccjiidpaa.Ex
open Go.RowKit Go.Lib Go.Deep

/-- the table of the deeds -/
def dA : Array Value := #[.nilFunc, .nilFunc, .func (.func 24) #[] #[], .func (.func 25) #[] #[], .func (.func 26) #[] #[], .func (.func 27) #[] #[], .func (.func 28) #[] #[], .func (.func 29) #[] #[], .func (.func 30) #[] #[], .func (.func 31) #[] #[], .func (.func 32) #[] #[], .func (.func 33) #[] #[], .func (.func 34) #[] #[], .func (.func 35) #[] #[]]
theorem sizeD : (Try.prog.info? 78).map (·.size) = some 14 := by kernel_rfl
set_option maxRecDepth 20000 in
theorem deeds_any (w : World) : Calls Try.prog 21 #[] w fun e w' => e = .returned (.agg dA) ∧ Below w.heap.size w w' := by
  obtain ⟨W, hW, hb, k0⟩ := one_new w #[.nilFunc, .nilFunc, .nilFunc, .nilFunc, .nilFunc, .nilFunc, .nilFunc, .nilFunc, .nilFunc, .nilFunc, .nilFunc, .nilFunc, .nilFunc, .nilFunc] 78
  have hone : dA.all (·.oneCell') = true := by simp [dA, Value.oneCell']
  have HB : Hid _ := hb
  have HK : Hid _ := k0
  clear hb
  go_enter Try.func21, Try.ntmps21
  go_wp2_with (refine wpList_store_row rfl 78 (.tmp 0) (.tmp 7) rfl w.heap.size dA rfl rfl 78 _ k0 sizeD rfl hone ?_)
  refine bodyPost_ret (Tr.results_cell1 rfl _ _ w.heap.size 78 dA (0, 0) _ rfl (setRow_heap _ _ _ _ _ _ HK.out) Try.underlying78 rfl sizeD) rfl ?_
  exact ⟨rfl, HB.out.trans ⟨rfl, rfl, rfl, by simp, fun k hk => setRow_other _ _ _ _ (by omega)⟩⟩
end Go.Proofs.Ytpjigcccjiidpaa.Ex
