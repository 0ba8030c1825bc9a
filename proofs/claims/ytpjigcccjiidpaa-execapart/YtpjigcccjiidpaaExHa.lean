import Derived.Test.YtpjigcccjiidpaaExG
namespace Go.Proofs.Ytpjigcccjiidpaa.Ex
open Go.RowKit Go.Lib Go.Deep

theorem app_split (s : List UInt8) (A : List Ed) : app [⟨0, 1, 1, 0⟩, ⟨0, -1, -1, 0⟩] (((edsE 1 s.length A).map mk0).map (·.s)) [s, []] = some (List.replicate A.length zRs, [runs s (edsE 1 s.length A), []]) := by
  rw [mk0_s]
  unfold app
  rw [if_pos (by rfl)]
  have ho : opn [] (([⟨0, 1, 1, 0⟩, ⟨0, -1, -1, 0⟩] : List Sl).zip [s, []]) = some [(1, s)] := by
    simp [opn, wi, wo, fnd]
  have hg := goL_eds 1 A s []
  rw [List.append_nil] at hg
  rw [ho, Option.bind_some, hg, goL, Option.map_some, Option.bind_some]
  have hc : cls [(1, runs s (edsE 1 s.length A))] [⟨0, 1, 1, 0⟩, ⟨0, -1, -1, 0⟩] = some [runs s (edsE 1 s.length A), []] := by simp [cls, fnd, wo]
  dsimp only
  rw [hc, List.append_nil]
  rfl
theorem eds_take (file : Int) : ∀ (A : List Ed) (s k : Nat), (edsE file s A).take k = edsE file s (A.take k)
  | [], _, k => by simp [edsE]
  | e :: A, s, 0 => rfl
  | e :: A, s, k + 1 => by
    show edE file e s :: (edsE file (edZ file e s) A).take k = edE file e s :: edsE file (edZ file e s) (A.take k)
    rw [eds_take file A]
theorem eds_drop (file : Int) : ∀ (A : List Ed) (s : List UInt8) (k : Nat), (edsE file s.length A).drop k = edsE file (runs s (edsE file s.length (A.take k))).length (A.drop k)
  | [], s, k => by simp [edsE]
  | e :: A, s, 0 => rfl
  | e :: A, s, k + 1 => by
    have h := edE_is file e s
    show (edsE file (edZ file e s.length) A).drop k = edsE file (runs (run1 s (edE file e s.length)) (edsE file (edZ file e s.length) (A.take k))).length (A.drop k)
    rw [← h.len, eds_drop file A]
theorem sls_one (l : List Sl) : ∀ u ∈ slsC l, u.oneCell' = true := fun u hu => by
  obtain ⟨n, _, h⟩ := List.mem_flatMap.1 hu
  simp [slC] at h
  rcases h with rfl | rfl | rfl | rfl <;> rfl
/-- slots and contents of ExecSplits' calls -/
theorem apply_split {V : World} {b1 : Nat} {a2 a3 : Option Addr} {n2 c2 c3 : Nat} {s : List UInt8} {A : List Ed} (h1 : V.heap[b1]? = some (.cells #[.int .i64 0, .int .i64 1, .int .i64 1, .int .i64 0, .int .i64 0, .int .i64 (-1), .int .i64 (-1), .int .i64 0] 35 (0, 0))) (h2 : See V 13 (.slice a2 n2 c2) n2 (stsC ((edsE 1 s.length A).map mk0))) (hn : A.length = n2) (hn6 : n2 ≤ 60) (h3 : See V 1 (.slice a3 2 c3) 2 (scC ([s, []].map str))) (hs : s.length ≤ 300) :
    Calls Try.prog 9 #[.agg #[.slice (some ⟨b1, 0, none⟩) 2 2, .slice a2 n2 c2], .slice a3 2 c3] V fun e w' => ∃ q g c, e = .returned (.tuple #[.agg #[.slice (some ⟨q, 0, none⟩) n2 n2, .slice (some ⟨g, 0, none⟩) 2 c], .int .i64 0]) ∧ Below V.heap.size V w' ∧ w'.ownsRow V.heap.size 9 1 (.slice (some ⟨g, 0, none⟩) 2 c) 2 (scC ([runs s (edsE 1 s.length A), []].map str)) := by
  have s1 : See V 4 (.slice (some ⟨b1, 0, none⟩) 2 2) 2 (slsC [⟨0, 1, 1, 0⟩, ⟨0, -1, -1, 0⟩]) := see_blk h1 rfl (fun u hu => sls_one [⟨0, 1, 1, 0⟩, ⟨0, -1, -1, 0⟩] u hu)
  refine (apply_any [⟨0, 1, 1, 0⟩, ⟨0, -1, -1, 0⟩] ((edsE 1 s.length A).map mk0) [s, []] V (some ⟨b1, 0, none⟩) a2 a3 2 2 n2 c2 2 c3 s1 rfl h2 (by rw [List.length_map, edsE_len]; exact hn) h3 rfl (by omega) (by omega) (fun x hx => ?_) (eds_ef (by unfold wf; decide) A s) (fun x hx => ?_) (fun x hx => ?_) (fun c hc => ?_)).mono ?_
  · simp at hx; rcases hx with rfl | rfl <;> exact ⟨by unfold wf; decide, by unfold wf; decide⟩
  · obtain ⟨e, -, rfl⟩ := List.mem_map.1 hx; show 0 ≤ _; omega
  · obtain ⟨e, -, rfl⟩ := List.mem_map.1 hx; exact see_nil _ _
  · simp at hc; rcases hc with rfl | rfl
    · omega
    · exact Nat.zero_le _
  · intro e w' h
    obtain ⟨hb, q, a, l, c, R, rfl, hO⟩ := ap_some (app_split s A) h
    obtain rfl : l = 2 := hO.cl
    obtain ⟨g, rfl, -, -⟩ := hO.text (i := 0) rfl
    exact ⟨q, g, c, rfl, hb, hO.ct⟩
end Go.Proofs.Ytpjigcccjiidpaa.Ex
