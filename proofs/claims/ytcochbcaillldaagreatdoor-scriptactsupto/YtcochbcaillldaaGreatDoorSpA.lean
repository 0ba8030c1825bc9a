import Derived.Test.YtcochbcaillldaaGreatDoorSpB
namespace Go.Proofs.YtcochbcaillldaaGreatDoor.Sc
open Go.RowKit Go.Lib Go.Deep

set_option maxRecDepth 20000 in
set_option maxHeartbeats 1000000 in
theorem takeS_any (b o : Nat) (s : ByteArray) (w : World) (h : w.cell? ⟨b, o, none⟩ = some (.string s)) (hf : w.frozen? ⟨b, o, none⟩ = false) :
    Calls Tryz.prog 120 #[.pointer (some ⟨b, o, none⟩)] w fun e w' => e = .returned (.string s) ∧ w' = w.setCell ⟨b, o, none⟩ (.string { data := #[] }) := by
  go_enter Tryz.func120, Tryz.ntmps120
  go_wp2
  go_ret
  exact ⟨rfl, rfl⟩

set_option maxRecDepth 20000 in
set_option maxHeartbeats 1000000 in
theorem takeI_any (b o : Nat) (n : Int) (w : World) (h : w.cell? ⟨b, o, none⟩ = some (.int .i64 n)) (hf : w.frozen? ⟨b, o, none⟩ = false) :
    Calls Tryz.prog 99 #[.pointer (some ⟨b, o, none⟩)] w fun e w' => e = .returned (.int .i64 n) ∧ w' = w.setCell ⟨b, o, none⟩ (.int .i64 0) := by
  go_enter Tryz.func99, Tryz.ntmps99
  go_wp2
  go_ret
  exact ⟨rfl, rfl⟩

/-- a form -/
structure Fm where
  kind : Int
  word : ByteArray
  count : Int
  wr : FuncId
  rd : FuncId
def Fm.cells (f : Fm) : List Value := [.int .i64 f.kind, .string f.word, .int .i64 f.count, .func (.func f.wr) #[] #[], .func (.func f.rd) #[] #[]]
def opTab : List Fm := [⟨1, { data := #[109, 107, 100, 105, 114] }, 2, 77, 78⟩, ⟨2, { data := #[99, 114, 101, 97, 116, 101] }, 2, 77, 78⟩, ⟨7, { data := #[114, 101, 109, 111, 118, 101] }, 2, 77, 78⟩, ⟨8, { data := #[114, 109, 100, 105, 114] }, 2, 77, 78⟩, ⟨9, { data := #[108, 105, 115, 116] }, 2, 77, 78⟩, ⟨10, { data := #[115, 116, 97, 116] }, 2, 77, 78⟩, ⟨3, { data := #[114, 101, 97, 100] }, 4, 79, 80⟩, ⟨4, { data := #[119, 114, 105, 116, 101] }, 4, 81, 82⟩, ⟨5, { data := #[99, 117, 116] }, 3, 83, 84⟩, ⟨6, { data := #[114, 101, 110, 97, 109, 101] }, 3, 85, 86⟩]
def tabC (L : List Fm) : Array Value := (L.flatMap Fm.cells).toArray

set_option maxRecDepth 20000 in
set_option maxHeartbeats 1000000 in
theorem operations_any (w : World) :
    Calls Tryz.prog 40 #[] w fun e w' => e = .returned (.slice (some ⟨w.heap.size, 0, none⟩) 10 10) ∧ w' = w.alloc (.cells (tabC opTab) 137) := by
  go_enter Tryz.func40, Tryz.ntmps40
  go_wp2_with fail
  go_ret
  exact ⟨rfl, rfl⟩
end Go.Proofs.YtcochbcaillldaaGreatDoor.Sc
