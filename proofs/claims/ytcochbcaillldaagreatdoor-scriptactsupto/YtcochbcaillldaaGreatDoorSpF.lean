import Derived.Test.YtcochbcaillldaaGreatDoorSpE
namespace Go.Proofs.YtcochbcaillldaaGreatDoor.Sc
open Go.RowKit Go.Lib Go.Deep

def OpR.val (o : OpR) : Value := .agg o.cells
/-- what is left of an operation can be left out -/
def bare (o : OpR) (k : Int) : Bool := o.kind == k && o.path.toList.isEmpty && o.to.toList.isEmpty && o.at_ == 0 && o.n == 0 && o.data.toList.isEmpty
set_option maxRecDepth 20000 in
set_option maxHeartbeats 1000000 in
theorem isBare_any (o r : OpR) (ob : Nat) (w : World) (ho : OpAt w ob o) :
    Calls Tryz.prog 41 #[r.val, .pointer (some ⟨ob, 0, none⟩)] w fun e w' => e = .returned (.bool (bare r o.kind)) ∧ Below w.heap.size w w' := by
  have hA := fun o => (Below.refl w.heap.size w).alloc (Nat.le_refl _) o
  have h0 : ∀ u, (w.alloc u).cell? ⟨ob, 0, none⟩ = some (.int .i64 o.kind) := fun u => ((hA u).cell (p := ⟨ob, 0, none⟩) ho.lt).trans ho.six.1
  obtain ⟨k, p, t, a, n, d⟩ := r
  show Calls _ _ #[.agg #[.int .i64 k, .string p, .string t, .int .i64 a, .int .i64 n, .string d], _] w _
  go_enter Tryz.func41, Tryz.ntmps41
  go_wp2
  all_goals
    go_ret
    refine ⟨congrArg (fun b => Ending.returned (.bool b)) ?_, hA _⟩
    simp_all [bare]

/-- the functions that write a line, by number -/
def shG (f : FuncId) : OpR → Bool × List UInt8 → Bool × List UInt8 :=
  if f = 77 then fun o x => stB x o.path
  else if f = 79 then fun o x => stN (stB x o.path) [o.at_, o.n]
  else if f = 81 then fun o x => stB (stN (stB x o.path) [o.at_]) o.data
  else if f = 83 then fun o x => stN (stB x o.path) [o.n]
  else fun o x => stB (stB x o.path) o.to
def shR (f : FuncId) : OpR → OpR :=
  if f = 77 then fun o => { o with path := nil_ }
  else if f = 79 then fun o => { o with path := nil_, at_ := 0, n := 0 }
  else if f = 81 then fun o => { o with path := nil_, at_ := 0, data := nil_ }
  else if f = 83 then fun o => { o with path := nil_, n := 0 }
  else fun o => { o with path := nil_, to := nil_ }
theorem wr_any (f : Fm) (hf : f ∈ opTab) : Wr f.wr (shG f.wr) (shR f.wr) := by
  unfold opTab at hf
  simp only [List.mem_cons, List.not_mem_nil, or_false] at hf
  rcases hf with rfl | rfl | rfl | rfl | rfl | rfl | rfl | rfl | rfl | rfl
  all_goals first | exact writePath_any | exact writeRead_any | exact writeWrite_any | exact writeCut_any | exact writeRename_any
end Go.Proofs.YtcochbcaillldaaGreatDoor.Sc
