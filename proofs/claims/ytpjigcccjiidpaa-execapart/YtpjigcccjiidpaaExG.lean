import Derived.Test.YtpjigcccjiidpaaExFb
import Derived.Test.YtpjigcccjiidpaaExEc
namespace Go.Proofs.Ytpjigcccjiidpaa.Ex
open Go.RowKit Go.Lib Go.Deep

def rdSt (f k : Nat) (Z : Nat) : St := ⟨⟨⟨0, [], (k : Int), 0, 0⟩, ⟨2, 9, 0, (f : Int), (k : Int), [], (Z : Int)⟩⟩, ⟨none, 0, 0⟩, []⟩
theorem app_bytes (s : List UInt8) (A : List Ed) (f k : Nat) (hk : f + k ≤ edsZ 9 s.length A) :
    app [⟨0, 9, 9, 0⟩] (((edsE 9 s.length A).map mk0 ++ [rdSt f k (edsZ 9 s.length A)]).map (·.s)) [s] = some (List.replicate A.length zRs ++ [⟨0, ((runs s (edsE 9 s.length A)).drop f).take k, (k : Int), 0, 0⟩], [runs s (edsE 9 s.length A)]) := by
  have hl := runs_len 9 A s
  rw [List.map_append, mk0_s]
  unfold app
  rw [if_pos (by rfl)]
  have ho : opn [] (([⟨0, 9, 9, 0⟩] : List Sl).zip [s]) = some [(9, s)] := by
    simp [opn, wi, wo, fnd]
  rw [ho, Option.bind_some, goL_eds]
  generalize runs s (edsE 9 s.length A) = t at *
  have hg : goL [(9, t)] ([rdSt f k (edsZ 9 s.length A)].map (·.s)) = some ([(9, t)], [⟨0, (t.drop f).take k, (k : Int), 0, 0⟩]) := by
    have hf : fnd [(9, t)] 9 = some t := rfl
    have hm : may [(9, t)] (rdSt f k (edsZ 9 s.length A)).s.e = true := by
      unfold may rdSt
      dsimp only
      rw [if_neg (by omega), if_pos rfl, hf]
      simp only [decide_eq_true_eq]
      omega
    rw [List.map_singleton, goL, go1_yes rfl (by unfold rdSt; dsimp only; omega) hm, Option.bind_some]
    dsimp only
    have hb : beh [(9, t)] (rdSt f k (edsZ 9 s.length A)).s.e = [(9, t)] := by unfold beh rdSt; dsimp only; simp
    have hr : rdD [(9, t)] (rdSt f k (edsZ 9 s.length A)).s.e [] = (t.drop f).take k := by
      unfold rdD rdSt ctt
      dsimp only
      rw [if_pos rfl, hf]
      simp
    rw [hb, goL]
    show some ([(9, t)], [(⟨0, rdD [(9, t)] (rdSt f k (edsZ 9 s.length A)).s.e [], (k : Int), 0, 0⟩ : Rs)]) = _
    rw [hr]
  rw [hg, Option.map_some, Option.bind_some]
  have hc : cls [(9, t)] [⟨0, 9, 9, 0⟩] = some [t] := by simp [cls, fnd, wo]
  dsimp only
  rw [hc]
  rfl
theorem eds_ef {file : Int} (hf : wf file) (A : List Ed) (s : List UInt8) : ∀ x ∈ (edsE file s.length A).map mk0, EfW x.s.e := fun x hx => by
  obtain ⟨e, he, rfl⟩ := List.mem_map.1 hx
  obtain ⟨t, z, h⟩ := eds_is file A s e he
  refine ⟨?_, ?_, ?_, ?_⟩
  · show wf e.fl
    rw [h.fl]; exact hf
  · show wf e.gn
    rw [h.gn]; unfold wf; decide
  · show e.at_ ≤ _
    have := h.at_; omega
  · show e.da.length ≤ _
    have := h.da; omega
theorem eds_by (file : Int) (A : List Ed) (s : List UInt8) : ∀ e ∈ edsE file s.length A, (e.kd = 3 ∨ e.kd = 4) ∧ (0 ≤ e.at_ ∧ e.at_ ≤ 200) ∧ (0 ≤ e.n ∧ e.n ≤ 200) ∧ e.da.length ≤ 60 := fun e he => by
  obtain ⟨t, z, h⟩ := eds_is file A s e he
  exact ⟨h.kd, h.at_, h.n, h.da⟩
theorem extract_str (l : List UInt8) (a b : Nat) : (str l).extract a b = str ((l.drop a).take (b - a)) := by
  apply ByteArray.ext
  rw [ByteArray.data_extract]
  apply Array.ext'
  rw [Array.toList_extract]
  simp [str]
end Go.Proofs.Ytpjigcccjiidpaa.Ex
