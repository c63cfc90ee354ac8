/- Layer 3: the sums of longer rows. No condition. -/
import Derived.Test.YtpmnioadbkhpoaaH1
set_option linter.unusedVariables false
set_option linter.unusedSimpArgs false
set_option maxRecDepth 10000
namespace Go.Proofs.Ytpmnioadbkhpoaa
open Go Reck
theorem netI_bndW {h : Bool} {s0 : Int} {L : List Int} {o n t : Nat} {k s : Int} (hI : U.netI h s0 L o n t k s) (hb : byteL L) (hn : n ≤ 900) : 0 ≤ k ∧ k ≤ 900 ∧ s0 ≤ s ∧ s ≤ s0 + 65280 * 900 := by
  obtain ⟨j, h1, h2, h3⟩ := hI
  have := fold_bnd h s0 (((L.drop o).take n).take j) (byteL_take (byteL_sub hb o n) j)
  rw [h3] at this
  have h4 : (((L.drop o).take n).take j).length ≤ 900 := by simp; omega
  dsimp only at this
  omega
theorem net1_runW (K : AV → St → Prop) (L : List Int) (o n c cap : Nat) (ro : Bool) (hb : byteL L) (hl : o + n ≤ L.length) (hn : n ≤ 900)
    (h : K (xi .u16 (netS (fold (true, 0) ((L.drop o).take n)).2)) ⟨[pt [aslC ⟨0, o, n, c⟩]], [], 0, [some (bs L cap ro)], 0⟩) : run0 10 [sl ⟨0, 0, 1, none, 1⟩] ⟨[pt [aslC ⟨0, o, n, c⟩]], [], 0, [some (bs L cap ro)], 0⟩ K := by
  rw [net1_vc]
  intro z0 hz0
  refine ⟨⟨(0, 0), ?_⟩, ?_, ?_⟩
  · simp only [and_self, true_and]; exact netI_zero true 0 L o n
  all_goals
    intro x hI
    have hB := netI_bndW hI hb hn
    refine ⟨fun hlt => ⟨by omega, fun j hj => ⟨by omega, ?_⟩⟩, fun hge => ⟨⟨x.2, ?_⟩, fun y hD => ⟨fun hgt => ⟨by omega, fun z11 h11 z12 h12 z13 h13 => ⟨z13, ?_⟩⟩, fun hle z15 h15 z16 h16 => ?_⟩⟩⟩
  · intro z4 h4 z5 h5 z6 h6 z7 h7
    have b := byteL_get hb j
    rw [← h4] at b
    have e5 := wu64 h5 (by omega)
    have e6 := wu64 h6 (by omega)
    have e7 := w64 h7 (by omega)
    refine ⟨(_, _), rfl, ⟨rfl, rfl, rfl⟩, ⟨rfl, rfl, rfl⟩, ⟨rfl, rfl, rfl⟩, rfl, rfl, ⟨rfl, rfl, rfl⟩, ⟨rfl, rfl, rfl⟩, ?_, by dsimp only; omega⟩
    exact netI_next hI hl (by omega) hj rfl e7 (by rw [e6, e5, h4]; rfl)
  · refine ⟨rfl, ⟨rfl, rfl, rfl⟩, ⟨rfl, rfl, rfl⟩, ⟨rfl, rfl, rfl⟩, rfl, rfl, ⟨rfl, rfl, rfl⟩, ⟨rfl, rfl, rfl⟩, downI_zero _ (by omega)⟩
  · refine ⟨rfl, ⟨rfl, rfl, rfl⟩, ⟨rfl, rfl, rfl⟩, ⟨rfl, rfl, rfl⟩, rfl, rfl, ⟨rfl, rfl, rfl⟩, ⟨rfl, rfl, rfl⟩, down_next hD (by omega) hgt h11 h12 h13⟩
  · have := down_end hD (by omega) hle h15 h16
    have e := netI_end hI hl (by omega)
    rw [e, ← this] at h; exact h
  · intro z4 h4 z5 h5
    have b := byteL_get hb j
    rw [← h4] at b
    have e5 := wu64 h5 (by omega)
    refine ⟨by omega, fun z21 h21 z6 h6 z7 h7 => ?_⟩
    have e21 : z21 = z4 * 256 := by rw [h21, e5]; exact shl8 b
    have e6 := wu64 h6 (by omega)
    have e7 := w64 h7 (by omega)
    refine ⟨(_, _), rfl, ⟨rfl, rfl, rfl⟩, ⟨rfl, rfl, rfl⟩, ⟨rfl, rfl, rfl⟩, rfl, rfl, ⟨rfl, rfl, rfl⟩, ⟨rfl, rfl, rfl⟩, ?_, by dsimp only; omega⟩
    exact netI_next hI hl (by omega) hj rfl e7 (by rw [e6, e21, h4]; rfl)
  · refine ⟨rfl, ⟨rfl, rfl, rfl⟩, ⟨rfl, rfl, rfl⟩, ⟨rfl, rfl, rfl⟩, rfl, rfl, ⟨rfl, rfl, rfl⟩, ⟨rfl, rfl, rfl⟩, downI_zero _ (by omega)⟩
  · refine ⟨rfl, ⟨rfl, rfl, rfl⟩, ⟨rfl, rfl, rfl⟩, ⟨rfl, rfl, rfl⟩, rfl, rfl, ⟨rfl, rfl, rfl⟩, ⟨rfl, rfl, rfl⟩, down_next hD (by omega) hgt h11 h12 h13⟩
  · have := down_end hD (by omega) hle h15 h16
    have e := netI_end hI hl (by omega)
    rw [e, ← this] at h; exact h
theorem crc1_runW (K : AV → St → Prop) (L : List Int) (o n c cap : Nat) (ro : Bool) (hb : byteL L) (hl : o + n ≤ L.length) (hn : n ≤ 900)
    (h : K (xi .u32 (U.C L o n)) ⟨[pt [aslC ⟨0, o, n, c⟩]], [], 0, [some (bs L cap ro)], 0⟩) : runB tByte 13 [sl ⟨0, 0, 1, none, 1⟩] ⟨[pt [aslC ⟨0, o, n, c⟩]], [], 0, [some (bs L cap ro)], 0⟩ K := by
  rw [crc1_vc]
  intro z0 h0
  have hlen := sub_len L o n hl
  refine ⟨⟨(0, 4294967295), ?_⟩, ?_⟩
  · dsimp only; simp only [true_and, and_self]
    exact ⟨0, rfl, by omega, rfl, by simp [crcF]⟩
  · rintro ⟨k, w⟩ ⟨j, h1, h2, h3, h4⟩
    dsimp only at *
    refine ⟨fun hlt => ⟨by omega, fun j3 hj3 => ⟨by omega, fun z4 h5 => ?_⟩⟩, fun hge z8 h8 => ?_⟩
    · have b := byteL_get hb j3
      rw [← h5] at b
      refine ⟨by omega, fun z5 h6 z6 h7 => ⟨(z6, z5), ?_⟩⟩
      have e7 := w64 h7 (by omega)
      have hP : ((L.drop o).take n).take (j + 1) = ((L.drop o).take n).take j ++ [z4] := by
        rw [take_get (by omega), sub_get L o n j hl (by omega), h5]
        congr 4; omega
      have ew : w.toNat = crcF (4294967295 : Int).toNat (((L.drop o).take n).take j) := by omega
      dsimp only; simp only [true_and, and_self]
      refine ⟨⟨j + 1, by omega, by omega, ?_, ?_⟩, by omega⟩
      · rw [hP, crcF_snoc, ← ew, h6]; rfl
      · rw [hP, crcF_snoc, ← ew]; exact crcN_lt (by omega) (by omega)
    · have : z8 = U.C L o n := by
        rw [h8, not32 (by omega)]
        unfold U.C
        rw [h3, List.take_of_length_le (by omega)]; rfl
      rw [this]; exact h
theorem tagI_nextW {v0 v : W4} {m0 n0 : Int} {L : List Int} {o n : Nat} {k m nn k' : Int} {v' : W4} {m' n' : Int} (hI : U.tagI v0 m0 n0 L o n k m nn v) (hl : o + n ≤ L.length) (hn : n ≤ 900) (hk : k < n) {j : Nat} (hj : (j : Int) = o + k) (hk' : k' = k + 1)
    (hs : tstep (v, m, nn) (L.getD j 0) = (v', m', n')) (hv : U.in4 v') (hm : inW m') (hn' : n' = nn + 1) : U.tagI v0 m0 n0 L o n k' m' n' v' := by
  obtain ⟨i, h1, h2, h3, h4, h5, h6, h7⟩ := hI
  have hlen := sub_len L o n hl
  have hji : j = o + i := by omega
  refine ⟨i + 1, by rw [hk', h1]; simp, by omega, ?_, hv, hm, by push_cast; omega, h7⟩
  rw [take_get (by omega), tfold_snoc, ← h3, sub_get L o n i hl (by omega), ← hji, hs]
theorem tag_runW (K : AV → St → Prop) (a b : Int) (L : List Int) (o n c cap : Nat) (ro : Bool) (hb : byteL L) (hl : o + n ≤ L.length) (hn : n ≤ 900)
    (h : K (xi .u64 (U.T a b L o n)) ⟨[pt [aslC ⟨0, o, n, c⟩]], [], 0, [some (bs L cap ro)], 0⟩) : runG (tblOr tAdd tRnd) 15 [xi .u64 a, xi .u64 b, sl ⟨0, 0, 1, none, 1⟩] ⟨[pt [aslC ⟨0, o, n, c⟩]], [], 0, [some (bs L cap ro)], 0⟩ K := by
  rw [tag_vc]
  intro z0 e0 z1 e1 z2 e2 z3 e3 z4 e4
  have hini : (z0, z1, z2, z3) = initW a b := by rw [e0, e1, e2, e3]; rfl
  have hv0 : U.in4 (z0, z1, z2, z3) := ⟨e0 ▸ xor_in _ _, e1 ▸ xor_in _ _, e2 ▸ xor_in _ _, e3 ▸ xor_in _ _⟩
  clear e0 e1 e2 e3
  refine ⟨⟨(0, 0, 0, (z0, z1, z2, z3)), ?_⟩, ?_⟩
  · simp only [and_self, true_and]; exact tagI_zero _ _ _ _ _ _ hv0 (by unfold inW; decide) (by decide)
  rintro ⟨k, m, nn, v⟩ hI
  dsimp only at hI ⊢
  obtain ⟨j, h1, h2, h3, h4, h5, h6, h7⟩ := id hI
  refine ⟨fun hlt => ⟨by omega, fun j7 hj => ⟨by omega, fun z8 e8 z9 e9 => ⟨by decide, fun z10 e10 z11 e11 => ?_⟩⟩⟩, fun hge z21 e21 => ⟨by decide, fun z22 e22 z23 e23 => ?_⟩⟩
  · have hc := byteL_get hb j7
    rw [← e8] at hc
    have T := @tstep_of v m nn z8 z9 z10 z11 (shlI .u64 z9 z11) _ _ _ hc (by omega) e9 e10 e11 rfl rfl rfl rfl
    refine ⟨T.1, fun z12 e12 z13 e13 z14 e14 => ⟨by decide, fun z15 e15 => ?_⟩⟩
    have T := @tstep_of v m nn z8 z9 z10 z11 z12 z13 z14 z15 hc (by omega) e9 e10 e11 e12 e13 e14 e15
    obtain ⟨t1, t2, t3, t4, t5⟩ := T
    refine ⟨fun hz => ⟨⟨h4, ⟨t5⟩⟩, fun z16 e16 z17 e17 => ⟨(z17, 0, z14, z16), ?_⟩⟩, fun hz z19 e19 => ⟨(z19, z13, z14, v), ?_⟩⟩
    · have e17 := w64 e17 (by omega)
      simp only [and_self, true_and]
      refine ⟨tagI_nextW hI hl hn (by omega) hj e17 (by rw [← e8, t3 hz, e16]) (e16 ▸ ad_in h4 _) (by unfold inW; decide) t2, by omega⟩
    · have e19 := w64 e19 (by omega)
      simp only [and_self, true_and]
      refine ⟨tagI_nextW hI hl hn (by omega) hj e19 (by rw [← e8, t4 hz]) h4 t5 t2, by omega⟩
  · refine ⟨⟨h4, ⟨e23 ▸ or_in _ _⟩⟩, fun z24 e24 z25 e25 => ?_⟩
    have hz := ad_in h4 z23
    have e24' : z24 = U.ad v z23 := e24
    rw [← e24'] at hz
    refine ⟨⟨⟨hz.out.1, hz.out.2.1, e25 ▸ xor_in _ _, hz.out.2.2.2⟩, by decide⟩, fun z26 e26 z27 e27 z28 e28 z29 e29 => ?_⟩
    have hP : (L.drop o).take n = ((L.drop o).take n).take j := by rw [List.take_of_length_le (l := (L.drop o).take n) (by rw [sub_len L o n hl]; omega)]
    have e : U.T a b L o n = z29 := by
      unfold U.T
      rw [hP, ← hini, ← h3]
      have e21 := wu64 e21 (by omega)
      have : z23 = lastM (v, m, nn) := by rw [e23, e22, e21]; rfl
      rw [← this]
      show finW (U.ad v z23) = _
      rw [← e24', e29, e28, e27, e26, e25]; rfl
    rw [e] at h; exact h
end Go.Proofs.Ytpmnioadbkhpoaa
