/- Layer 3: sum.Net of three parts, two bytes between, is the Internet's sum of all. No condition. -/
import Derived.Test.YtpmnioadbkhpoaaE1
set_option linter.unusedVariables false
set_option linter.unusedSimpArgs false
namespace Go.Proofs.Ytpmnioadbkhpoaa
open Go Reck

theorem net3_run (K : AV → St → Prop) (L L2 : List Int) (o n c cap o2 n2 c2 cap2 : Nat) (ro ro2 : Bool) (x y : Int) (hb : byteL L) (hl : o + n ≤ L.length) (hn : n ≤ 300) (hev : n % 2 = 0) (hb2 : byteL L2) (hl2 : o2 + n2 ≤ L2.length) (hn2 : n2 ≤ 300) (hx : 0 ≤ x ∧ x ≤ 255) (hy : 0 ≤ y ∧ y ≤ 255)
    (h : K (xi .u16 (netS (fold (true, 0) ((L.drop o).take n ++ [x, y] ++ (L2.drop o2).take n2)).2)) (z3 o n c o2 n2 c2 cap cap2 ro ro2 x y L L2)) : run0 10 [sl ⟨0, 0, 3, none, 3⟩] (z3 o n c o2 n2 c2 cap cap2 ro ro2 x y L L2) K := by
  rw [net3_vc]
  intro z0 hz0
  have hlen := sub_len L o n hl
  refine ⟨⟨(0, 0), ?_⟩, ?_, ?_⟩
  · dsimp only; simp only [and_self, true_and]; exact netI_zero true 0 L o n
  · intro v hI
    have hB := netI_bnd hI hb hn
    refine ⟨fun hlt => ⟨by omega, fun j hj => ⟨by omega, ?_⟩⟩, fun hge => ?_⟩
    · intro z4 h4 z5 h5 z6 h6 z7 h7
      have b := byteL_get hb j
      rw [← h4] at b
      have e5 := wu64 h5 (by omega)
      have e6 := wu64 h6 (by omega)
      have e7 := w64 h7 (by omega)
      refine ⟨(z7, z6), ?_⟩
      dsimp only; simp only [and_self, true_and]
      exact ⟨netI_next hI hl (by omega) hj rfl e7 (by rw [e6, e5, h4]; rfl), by omega⟩
    · exfalso
      have := netI_end hI hl (by omega)
      have hp := fold_par true 0 ((L.drop o).take n)
      rw [this, hlen, if_pos hev] at hp
      simp at hp
  · intro v hI
    have hB := netI_bnd hI hb hn
    refine ⟨fun hlt => ⟨by omega, fun j hj => ⟨by omega, ?_⟩⟩, fun hge => ?_⟩
    · intro z4 h4 z5 h5
      have b := byteL_get hb j
      rw [← h4] at b
      have e5 := wu64 h5 (by omega)
      refine ⟨by omega, fun z21 h21 z6 h6 z7 h7 => ?_⟩
      have e21 : z21 = z4 * 256 := by rw [h21, e5]; exact shl8 b
      have e6 := wu64 h6 (by omega)
      have e7 := w64 h7 (by omega)
      refine ⟨(z7, z6), ?_⟩
      dsimp only; simp only [and_self, true_and]
      exact ⟨netI_next hI hl (by omega) hj rfl e7 (by rw [e6, e21, h4]; rfl), by omega⟩
    · have hE := netI_end hI hl (by omega)
      intro z9 h9
      have e9 := wu64 h9 (by omega)
      refine ⟨by omega, fun z12 h12 z10 h10 z11 h11 z13 h13 z14 h14 => ?_⟩
      have e12 : z12 = x * 256 := by rw [h12, e9]; exact shl8 hx
      have e10 := wu64 h10 (by omega)
      have e11 := wu64 h11 (by omega)
      have e13 := wu64 h13 (by omega)
      have hT : fold (true, 0) ((L.drop o).take n ++ [x, y] ++ (L2.drop o2).take n2) = fold (true, z13) ((L2.drop o2).take n2) := by
        rw [fold_append, fold_append, hE, e13, e10, e12, e11]; rfl
      rw [hT] at h
      refine ⟨⟨(0, z13), ?_⟩, ?_, ?_⟩
      · dsimp only; simp only [and_self, true_and]; exact netI_zero true z13 L2 o2 n2
      all_goals
        intro u hJ
        have hB2 := netI_bnd hJ hb2 hn2
        refine ⟨fun hlt => ⟨by omega, fun j hj => ⟨by omega, ?_⟩⟩, fun hge2 => ⟨⟨u.2, ?_⟩, fun yy hD => ⟨fun hgt => ⟨by omega, fun z31 h31 z32 h32 z33 h33 => ⟨z33, ?_⟩⟩, fun hle z35 h35 z36 h36 => ?_⟩⟩⟩
      · intro z4 h4 z5 h5 z6 h6 z7 h7
        have b := byteL_get hb2 j
        rw [← h4] at b
        have e5 := wu64 h5 (by omega)
        have e6 := wu64 h6 (by omega)
        have e7 := w64 h7 (by omega)
        refine ⟨(z7, z6), ?_⟩
        dsimp only; simp only [and_self, true_and]
        exact ⟨netI_next hJ hl2 (by omega) hj rfl e7 (by rw [e6, e5, h4]; rfl), by omega⟩
      · simp only [and_self, true_and]; exact downI_zero _ (by omega)
      · simp only [and_self, true_and]; exact down_next hD (by omega) hgt h31 h32 h33
      · have := down_end hD (by omega) hle h35 h36
        have e := netI_end hJ hl2 (by omega)
        rw [e, ← this] at h; exact h
      · intro z4 h4 z5 h5
        have b := byteL_get hb2 j
        rw [← h4] at b
        have e5 := wu64 h5 (by omega)
        refine ⟨by omega, fun z21 h21 z6 h6 z7 h7 => ?_⟩
        have e21 : z21 = z4 * 256 := by rw [h21, e5]; exact shl8 b
        have e6 := wu64 h6 (by omega)
        have e7 := w64 h7 (by omega)
        refine ⟨(z7, z6), ?_⟩
        dsimp only; simp only [and_self, true_and]
        exact ⟨netI_next hJ hl2 (by omega) hj rfl e7 (by rw [e6, e21, h4]; rfl), by omega⟩
      · simp only [and_self, true_and]; exact downI_zero _ (by omega)
      · simp only [and_self, true_and]; exact down_next hD (by omega) hgt h31 h32 h33
      · have := down_end hD (by omega) hle h35 h36
        have e := netI_end hJ hl2 (by omega)
        rw [e, ← this] at h; exact h
end Go.Proofs.Ytpmnioadbkhpoaa
