import Derived.Test.YtckbbbcjpklnmaaDoorIxV4
namespace Go.Proofs.YtckbbbcjpklnmaaDoor.Ix
open Go.RowKit Go.Lib Go.Deep

theorem rok_parts {D : List UInt8} (h : Rok D) : ∃ sl fl dr mf ls pg M, rdCf D = ⟨sl, fl, dr, mf, ls, pg⟩ ∧ Cn.In ⟨sl, fl, dr, mf, ls, pg⟩ ∧ Cn.pgs ⟨sl, fl, dr, mf, ls, pg⟩ = M ∧ M ≤ 1024 ∧ 1 ≤ M ∧ D.length = 27 + 32 * M := by
  obtain ⟨h1, h2, h3⟩ := h
  have h4 : (rdCf D).In := by have := h2.1.cn.2; rwa [Cn.cf_n] at this
  have h5 : (rdCf D).pgs ≤ 1024 := by have := h2.2; rwa [Cn.cf_n] at this
  refine ⟨(rdCf D).sl, (rdCf D).fl, (rdCf D).dr, (rdCf D).mf, (rdCf D).ls, (rdCf D).pg, _, rfl, h4, rfl, h5, h4.fit.2.2, h3⟩
theorem str_eq {l : List UInt8} {s : ByteArray} : str l = s ↔ l = s.data.toList := by
  constructor
  · intro h
    rw [← h, str_data]
  · intro h
    rw [h, str_of]
/-- a body that is refused -/
theorem decRoot_bad (c : Cf) (s : ByteArray) (hs2 : s.size ≤ 140737488355328) (h : derE c s.data.toList ≠ 0) (w : World) (hT : RT w) :
    Calls Tryd.prog 17 #[cfV c, .string s] w fun e w' => e = .returned (.tuple #[.agg zRoot, .int .i64 (derE c s.data.toList)]) ∧ Below w.heap.size w w' := by
  by_cases hm : c.May
  · by_cases hr : Rok s.data.toList
    · obtain ⟨sl, fl, dr, mf, ls, pg, M, hd, hIn, hM, hM1, hMp, hl⟩ := rok_parts hr
      have hlen : s.size = 27 + 32 * M := by rw [size_eq]; exact hl
      by_cases hq : rootL (rdCf s.data.toList) (rdRs s.data.toList (rdCf s.data.toList).pgs) = s.data.toList
      · have hq' := hq
        rw [hd, hM] at hq'
        have hne : ¬ Cn.cf ⟨sl, fl, dr, mf, ls, pg⟩ = c := fun e => h (derE_zero.2 ⟨hm, hr, hq, by rw [hd]; exact e⟩)
        have e1 : derE c s.data.toList = 140 := by
          unfold derE
          rw [if_pos hm, if_pos ⟨hr, hq⟩, if_neg (fun x => hne (by rw [← hd]; exact cf_ext.1 x))]
        rw [e1]
        exact decRoot_y c.sl c.fl c.dr c.mf c.ls c.pg s _ rfl sl fl dr mf ls pg M hd hIn hM hM1 hMp hlen (str_eq.2 hq') hm hne w hT
      · have hq' := hq
        rw [hd, hM] at hq'
        have e1 : derE c s.data.toList = 141 := by
          unfold derE
          rw [if_pos hm, if_neg (fun x => hq x.2)]
        rw [e1]
        exact decRoot_x c.sl c.fl c.dr c.mf c.ls c.pg s _ rfl sl fl dr mf ls pg M hd hIn hM hM1 hMp hlen (fun e => hq' (str_eq.1 e)) hm w hT
    · have e1 : derE c s.data.toList = 141 := by
        unfold derE
        rw [if_pos hm, if_neg (fun x => hr x.1)]
      rw [e1]
      exact decRoot_no c hm s hs2 hr w hT
  · have e1 : derE c s.data.toList = 140 := by
      unfold derE
      rw [if_neg hm]
    rw [e1]
    exact decRoot_may c hm s w hT
/-- a body that is taken -/
theorem decRoot_good (c : Cn) (s : ByteArray) (h : derE c.cf s.data.toList = 0) (w : World) (hT : RT w) :
    Calls Tryd.prog 17 #[cfV c.cf, .string s] w fun e w' => ∃ a k, e = .returned (.tuple #[.agg (cfA c.cf ++ #[.slice a c.pgs k]), .int .i64 0]) ∧ w'.ownsRow w.heap.size 48 2 (.slice a c.pgs k) c.pgs (rfsC (rdRs s.data.toList c.pgs)) ∧ Below w.heap.size w w' := by
  obtain ⟨hm, hr, hq, hcf⟩ := derE_zero.1 h
  have hcn := Cn.cf_inj hcf
  obtain ⟨sl, fl, dr, mf, ls, pg, M, hd, hIn, hM, hM1, hMp, hl⟩ := rok_parts hr
  have hlen : s.size = 27 + 32 * M := by rw [size_eq]; exact hl
  have hq' := hq
  rw [hd, hM] at hq'
  rw [hd] at hcn
  subst hcn
  have := decRoot_z s _ rfl sl fl dr mf ls pg M hd hIn hM hM1 hMp hlen (str_eq.2 hq') hm w hT
  rw [hM]
  exact this
end Go.Proofs.YtckbbbcjpklnmaaDoor.Ix
