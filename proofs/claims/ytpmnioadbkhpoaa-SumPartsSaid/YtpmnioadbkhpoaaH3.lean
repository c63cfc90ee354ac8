/- Layer 3: the sums of three parts are those of the whole. No condition. -/
import Derived.Test.YtpmnioadbkhpoaaH2
set_option linter.unusedVariables false
set_option linter.unusedSimpArgs false
set_option maxRecDepth 10000
set_option maxHeartbeats 1000000
namespace Go.Proofs.Ytpmnioadbkhpoaa
open Go Reck
def P3.sub (p : P3) : List Int := (p.L.drop p.o).take p.n
structure P3.Ok (p : P3) : Prop where
  b : byteL p.L
  l : p.o + p.n ≤ p.L.length
  n : p.n ≤ 300
theorem crcF_append (w : Nat) (l m : List Int) : crcF w (l ++ m) = crcF (crcF w l) m := by simp [crcF]
theorem crcI_zero (w0 : Int) (L : List Int) (o n : Nat) (h : 0 ≤ w0 ∧ w0 ≤ 4294967295) : U.crcI w0 L o n 0 w0 := ⟨0, rfl, by omega, by simp [crcF]; omega, by simp [crcF]; omega⟩
theorem crcI_bnd {w0 : Int} {L : List Int} {o n : Nat} {k w : Int} (hI : U.crcI w0 L o n k w) : 0 ≤ k ∧ 0 ≤ w ∧ w ≤ 4294967295 := by
  obtain ⟨j, h1, h2, h3, h4⟩ := hI
  omega
theorem crcI_next {w0 : Int} {L : List Int} {o n : Nat} {k w k' z : Int} (hI : U.crcI w0 L o n k w) (hl : o + n ≤ L.length) (hb : byteL L) (hk : k < n) {j : Nat} (hj : (j : Int) = o + k) (hz : z = U.crcB w (L.getD j 0)) (hk' : k' = k + 1) : U.crcI w0 L o n k' z := by
  obtain ⟨i, h1, h2, h3, h4⟩ := hI
  have hlen := sub_len L o n hl
  have b := byteL_get hb j
  have hji : j = o + i := by omega
  have hP : ((L.drop o).take n).take (i + 1) = ((L.drop o).take n).take i ++ [L.getD j 0] := by
    rw [take_get (by omega), sub_get L o n i hl (by omega), hji]
  have ew : w.toNat = crcF w0.toNat (((L.drop o).take n).take i) := by omega
  refine ⟨i + 1, by omega, by omega, ?_, ?_⟩
  · rw [hP, crcF_snoc, ← ew, hz]; rfl
  · rw [hP, crcF_snoc, ← ew]; exact crcN_lt (by omega) (by omega)
theorem crcI_end {w0 : Int} {L : List Int} {o n : Nat} {k w : Int} (hI : U.crcI w0 L o n k w) (hl : o + n ≤ L.length) (hk : ¬ k < n) : crcF w0.toNat ((L.drop o).take n) = w.toNat := by
  obtain ⟨j, h1, h2, h3, h4⟩ := hI
  rw [List.take_of_length_le (by rw [sub_len L o n hl]; omega)] at h3
  omega
theorem tfold_append (s : T6) (l m : List Int) : tfold s (l ++ m) = tfold (tfold s l) m := by simp [tfold]
theorem tagI_end {v0 v : W4} {m0 n0 : Int} {L : List Int} {o n : Nat} {k m nn : Int} (hI : U.tagI v0 m0 n0 L o n k m nn v) (hl : o + n ≤ L.length) (hk : ¬ k < n) : tfold (v0, m0, n0) ((L.drop o).take n) = (v, m, nn) := by
  obtain ⟨j, h1, h2, h3, h4⟩ := hI
  rw [List.take_of_length_le (by rw [sub_len L o n hl]; omega)] at h3
  exact h3.symm
theorem crcP_run (K : AV → St → Prop) (p q r : P3) (hp : p.Ok) (hq : q.Ok) (hr : r.Ok) (h : K (xi .u32 (4294967295 - (crcF 4294967295 (p.sub ++ q.sub ++ r.sub) : Nat))) (st3 p q r)) : runB tByte 13 [sl ⟨0, 0, 3, none, 3⟩] (st3 p q r) K := by
  rw [crcP_vc]
  obtain ⟨bp, lp, np⟩ := hp
  obtain ⟨bq, lq, nq⟩ := hq
  obtain ⟨br, lr, nr⟩ := hr
  intro znp hnp
  refine ⟨⟨(0, 4294967295), ?_⟩, ?_⟩
  · dsimp only; simp only [true_and, and_self]; exact crcI_zero _ _ _ _ (by omega)
  rintro ⟨kp, wp⟩ Ip
  dsimp only at Ip ⊢
  have Bp := crcI_bnd Ip
  refine ⟨fun hlt => ⟨by omega, fun j hj => ⟨by omega, fun z4 h4 => ?_⟩⟩, fun gp => ?_⟩
  · have b := byteL_get bp j
    rw [← h4] at b
    refine ⟨by omega, fun z5 h5 z6 h6 => ⟨(z6, z5), ?_⟩⟩
    have e6 := w64 h6 (by omega)
    dsimp only; simp only [true_and, and_self]
    exact ⟨crcI_next Ip lp bp (by omega) hj (by rw [← h4]; exact h5) e6, by omega⟩
  have Ep := crcI_end Ip lp (by omega)
  intro znq hnq
  refine ⟨⟨(0, wp), ?_⟩, ?_⟩
  · dsimp only; simp only [true_and, and_self]; exact crcI_zero _ _ _ _ (by omega)
  rintro ⟨kq, wq⟩ Iq
  dsimp only at Iq ⊢
  have Bq := crcI_bnd Iq
  refine ⟨fun hlt => ⟨by omega, fun j hj => ⟨by omega, fun z4 h4 => ?_⟩⟩, fun gq => ?_⟩
  · have b := byteL_get bq j
    rw [← h4] at b
    refine ⟨by omega, fun z5 h5 z6 h6 => ⟨(z6, z5), ?_⟩⟩
    have e6 := w64 h6 (by omega)
    dsimp only; simp only [true_and, and_self]
    exact ⟨crcI_next Iq lq bq (by omega) hj (by rw [← h4]; exact h5) e6, by omega⟩
  have Eq := crcI_end Iq lq (by omega)
  intro znr hnr
  refine ⟨⟨(0, wq), ?_⟩, ?_⟩
  · dsimp only; simp only [true_and, and_self]; exact crcI_zero _ _ _ _ (by omega)
  rintro ⟨kr, wr⟩ Ir
  dsimp only at Ir ⊢
  have Br := crcI_bnd Ir
  refine ⟨fun hlt => ⟨by omega, fun j hj => ⟨by omega, fun z4 h4 => ?_⟩⟩, fun gr => ?_⟩
  · have b := byteL_get br j
    rw [← h4] at b
    refine ⟨by omega, fun z5 h5 z6 h6 => ⟨(z6, z5), ?_⟩⟩
    have e6 := w64 h6 (by omega)
    dsimp only; simp only [true_and, and_self]
    exact ⟨crcI_next Ir lr br (by omega) hj (by rw [← h4]; exact h5) e6, by omega⟩
  have Er := crcI_end Ir lr (by omega)
  intro z hz
  have e : z = 4294967295 - (crcF 4294967295 (p.sub ++ q.sub ++ r.sub) : Nat) := by
    unfold P3.sub
    rw [hz, not32 (by omega), crcF_append, crcF_append, show (4294967295 : Nat) = (4294967295 : Int).toNat from rfl, Ep, Eq, Er]; omega
  rw [← e] at h; exact h
def TL (a b : Int) (l : List Int) : Int := finW (U.ad (tfold (initW a b, 0, 0) l).1 (lastM (tfold (initW a b, 0, 0) l)))
theorem tagP_run (K : AV → St → Prop) (a b : Int) (p q r : P3) (hp : p.Ok) (hq : q.Ok) (hr : r.Ok) (h : K (xi .u64 (TL a b (p.sub ++ q.sub ++ r.sub))) (st3 p q r)) : runG (tblOr tAdd tRnd) 15 [xi .u64 a, xi .u64 b, sl ⟨0, 0, 3, none, 3⟩] (st3 p q r) K := by
  rw [tagP_vc]
  obtain ⟨bp, lp, np⟩ := hp
  obtain ⟨bq, lq, nq⟩ := hq
  obtain ⟨br, lr, nr⟩ := hr
  intro z0 e0 z1 e1 z2 e2 z3 e3
  have hini : (z0, z1, z2, z3) = initW a b := by rw [e0, e1, e2, e3]; rfl
  have hv0 : U.in4 (z0, z1, z2, z3) := ⟨e0 ▸ xor_in _ _, e1 ▸ xor_in _ _, e2 ▸ xor_in _ _, e3 ▸ xor_in _ _⟩
  clear e0 e1 e2 e3
  intro znp hnp
  refine ⟨⟨(0, 0, 0, (z0, z1, z2, z3)), ?_⟩, ?_⟩
  · dsimp only; simp only [and_self, true_and]; exact tagI_zero _ _ _ _ _ _ hv0 (by unfold inW; decide) (by omega)
  rintro ⟨kp, mp, nnp, vp⟩ Ip
  dsimp only at Ip ⊢
  obtain ⟨jp, h1p, h2p, h3p, h4p, h5p, h6p, h7p⟩ := id Ip
  refine ⟨fun hlt => ⟨by omega, fun j7 hj => ⟨by omega, fun z8 e8 z9 e9 => ⟨by decide, fun z10 e10 z11 e11 => ?_⟩⟩⟩, fun gp => ?_⟩
  · have hc := byteL_get bp j7
    rw [← e8] at hc
    have T := @tstep_of vp mp nnp z8 z9 z10 z11 (shlI .u64 z9 z11) _ _ _ hc (by omega) e9 e10 e11 rfl rfl rfl rfl
    refine ⟨T.1, fun z12 e12 z13 e13 z14 e14 => ⟨by decide, fun z15 e15 => ?_⟩⟩
    have T := @tstep_of vp mp nnp z8 z9 z10 z11 z12 z13 z14 z15 hc (by omega) e9 e10 e11 e12 e13 e14 e15
    obtain ⟨t1, t2, t3, t4, t5⟩ := T
    refine ⟨fun hz => ⟨⟨h4p, ⟨t5⟩⟩, fun z16 e16 z17 e17 => ⟨(z17, 0, z14, z16), ?_⟩⟩, fun hz z19 e19 => ⟨(z19, z13, z14, vp), ?_⟩⟩
    · have e17 := w64 e17 (by omega)
      dsimp only; simp only [and_self, true_and]
      exact ⟨tagI_next Ip lp np (by omega) hj e17 (by rw [← e8, t3 hz, e16]) (e16 ▸ ad_in h4p _) (by unfold inW; decide) t2, by omega⟩
    · have e19 := w64 e19 (by omega)
      dsimp only; simp only [and_self, true_and]
      exact ⟨tagI_next Ip lp np (by omega) hj e19 (by rw [← e8, t4 hz]) h4p t5 t2, by omega⟩
  have Ep := tagI_end Ip lp (by omega)
  intro znq hnq
  refine ⟨⟨(0, mp, nnp, vp), ?_⟩, ?_⟩
  · dsimp only; simp only [and_self, true_and]; exact tagI_zero _ _ _ _ _ _ h4p h5p (by omega)
  rintro ⟨kq, mq, nnq, vq⟩ Iq
  dsimp only at Iq ⊢
  obtain ⟨jq, h1q, h2q, h3q, h4q, h5q, h6q, h7q⟩ := id Iq
  refine ⟨fun hlt => ⟨by omega, fun j7 hj => ⟨by omega, fun z8 e8 z9 e9 => ⟨by decide, fun z10 e10 z11 e11 => ?_⟩⟩⟩, fun gq => ?_⟩
  · have hc := byteL_get bq j7
    rw [← e8] at hc
    have T := @tstep_of vq mq nnq z8 z9 z10 z11 (shlI .u64 z9 z11) _ _ _ hc (by omega) e9 e10 e11 rfl rfl rfl rfl
    refine ⟨T.1, fun z12 e12 z13 e13 z14 e14 => ⟨by decide, fun z15 e15 => ?_⟩⟩
    have T := @tstep_of vq mq nnq z8 z9 z10 z11 z12 z13 z14 z15 hc (by omega) e9 e10 e11 e12 e13 e14 e15
    obtain ⟨t1, t2, t3, t4, t5⟩ := T
    refine ⟨fun hz => ⟨⟨h4q, ⟨t5⟩⟩, fun z16 e16 z17 e17 => ⟨(z17, 0, z14, z16), ?_⟩⟩, fun hz z19 e19 => ⟨(z19, z13, z14, vq), ?_⟩⟩
    · have e17 := w64 e17 (by omega)
      dsimp only; simp only [and_self, true_and]
      exact ⟨tagI_next Iq lq nq (by omega) hj e17 (by rw [← e8, t3 hz, e16]) (e16 ▸ ad_in h4q _) (by unfold inW; decide) t2, by omega⟩
    · have e19 := w64 e19 (by omega)
      dsimp only; simp only [and_self, true_and]
      exact ⟨tagI_next Iq lq nq (by omega) hj e19 (by rw [← e8, t4 hz]) h4q t5 t2, by omega⟩
  have Eq := tagI_end Iq lq (by omega)
  intro znr hnr
  refine ⟨⟨(0, mq, nnq, vq), ?_⟩, ?_⟩
  · dsimp only; simp only [and_self, true_and]; exact tagI_zero _ _ _ _ _ _ h4q h5q (by omega)
  rintro ⟨kr, mr, nnr, vr⟩ Ir
  dsimp only at Ir ⊢
  obtain ⟨jr, h1r, h2r, h3r, h4r, h5r, h6r, h7r⟩ := id Ir
  refine ⟨fun hlt => ⟨by omega, fun j7 hj => ⟨by omega, fun z8 e8 z9 e9 => ⟨by decide, fun z10 e10 z11 e11 => ?_⟩⟩⟩, fun gr => ?_⟩
  · have hc := byteL_get br j7
    rw [← e8] at hc
    have T := @tstep_of vr mr nnr z8 z9 z10 z11 (shlI .u64 z9 z11) _ _ _ hc (by omega) e9 e10 e11 rfl rfl rfl rfl
    refine ⟨T.1, fun z12 e12 z13 e13 z14 e14 => ⟨by decide, fun z15 e15 => ?_⟩⟩
    have T := @tstep_of vr mr nnr z8 z9 z10 z11 z12 z13 z14 z15 hc (by omega) e9 e10 e11 e12 e13 e14 e15
    obtain ⟨t1, t2, t3, t4, t5⟩ := T
    refine ⟨fun hz => ⟨⟨h4r, ⟨t5⟩⟩, fun z16 e16 z17 e17 => ⟨(z17, 0, z14, z16), ?_⟩⟩, fun hz z19 e19 => ⟨(z19, z13, z14, vr), ?_⟩⟩
    · have e17 := w64 e17 (by omega)
      dsimp only; simp only [and_self, true_and]
      exact ⟨tagI_next Ir lr nr (by omega) hj e17 (by rw [← e8, t3 hz, e16]) (e16 ▸ ad_in h4r _) (by unfold inW; decide) t2, by omega⟩
    · have e19 := w64 e19 (by omega)
      dsimp only; simp only [and_self, true_and]
      exact ⟨tagI_next Ir lr nr (by omega) hj e19 (by rw [← e8, t4 hz]) h4r t5 t2, by omega⟩
  have Er := tagI_end Ir lr (by omega)
  intro z21 e21
  refine ⟨by decide, fun z22 e22 z23 e23 => ⟨⟨h4r, ⟨e23 ▸ or_in _ _⟩⟩, fun z24 e24 z25 e25 => ?_⟩⟩
  have hz := ad_in h4r z23
  have e24' : z24 = U.ad vr z23 := e24
  rw [← e24'] at hz
  refine ⟨⟨⟨hz.out.1, hz.out.2.1, e25 ▸ xor_in _ _, hz.out.2.2.2⟩, by decide⟩, fun z26 e26 z27 e27 z28 e28 z29 e29 => ?_⟩
  have e : TL a b (p.sub ++ q.sub ++ r.sub) = z29 := by
    unfold TL P3.sub
    rw [← hini, tfold_append, tfold_append, Ep]
    have Eq2 : tfold (vp, mp, nnp) ((q.L.drop q.o).take q.n) = (vq, mq, nnq) := Eq
    have Er2 : tfold (vq, mq, nnq) ((r.L.drop r.o).take r.n) = (vr, mr, nnr) := Er
    rw [Eq2, Er2]
    have e21 := wu64 e21 (by omega)
    have : z23 = lastM (vr, mr, nnr) := by rw [e23, e22, e21]; rfl
    rw [← this]
    show finW (U.ad vr z23) = _
    rw [← e24', e29, e28, e27, e26, e25]; rfl
  rw [e] at h; exact h
theorem netP_run (K : AV → St → Prop) (p q r : P3) (hp : p.Ok) (hq : q.Ok) (hr : r.Ok) (h : K (xi .u16 (netS (fold (true, 0) (p.sub ++ q.sub ++ r.sub)).2)) (st3 p q r)) : run0 10 [sl ⟨0, 0, 3, none, 3⟩] (st3 p q r) K := by
  rw [netP_vc]
  obtain ⟨bp, lp, np⟩ := hp
  obtain ⟨bq, lq, nq⟩ := hq
  obtain ⟨br, lr, nr⟩ := hr
  intro znp hnp
  refine ⟨⟨(0, 0), ?_⟩, ?_, ?_⟩
  · dsimp only; simp only [and_self, true_and]; exact netI_zero true 0 p.L p.o p.n
  · intro xp Ip
    have Bp := netI_bnd Ip bp np
    refine ⟨fun hlt => ⟨by omega, fun j hj => ⟨by omega, ?_⟩⟩, fun gp => ?_⟩
    · intro z4 h4 z5 h5 z6 h6 z7 h7
      have b := byteL_get bp j
      rw [← h4] at b
      have e5 := wu64 h5 (by omega)
      have e6 := wu64 h6 (by omega)
      have e7 := w64 h7 (by omega)
      refine ⟨(z7, z6), ?_⟩
      dsimp only; simp only [and_self, true_and]
      exact ⟨netI_next Ip lp (by omega) hj rfl e7 (by rw [e6, e5, h4]; rfl), by omega⟩
    · have Ep : fold (true, 0) ((p.L.drop p.o).take p.n) = (false, xp.2) := netI_end Ip lp (by omega)
      intro znq hnq
      refine ⟨⟨(0, xp.2), ?_⟩, ?_, ?_⟩
      · dsimp only; simp only [and_self, true_and]; exact netI_zero false xp.2 q.L q.o q.n
      · intro xq Iq
        have Bq := netI_bnd Iq bq nq
        refine ⟨fun hlt => ⟨by omega, fun j hj => ⟨by omega, ?_⟩⟩, fun gq => ?_⟩
        · intro z4 h4 z5 h5 z6 h6 z7 h7
          have b := byteL_get bq j
          rw [← h4] at b
          have e5 := wu64 h5 (by omega)
          have e6 := wu64 h6 (by omega)
          have e7 := w64 h7 (by omega)
          refine ⟨(z7, z6), ?_⟩
          dsimp only; simp only [and_self, true_and]
          exact ⟨netI_next Iq lq (by omega) hj rfl e7 (by rw [e6, e5, h4]; rfl), by omega⟩
        · have Eq : fold (false, xp.2) ((q.L.drop q.o).take q.n) = (false, xq.2) := netI_end Iq lq (by omega)
          intro znr hnr
          refine ⟨⟨(0, xq.2), ?_⟩, ?_, ?_⟩
          · dsimp only; simp only [and_self, true_and]; exact netI_zero false xq.2 r.L r.o r.n
          · intro xr Ir
            have Br := netI_bnd Ir br nr
            refine ⟨fun hlt => ⟨by omega, fun j hj => ⟨by omega, ?_⟩⟩, fun gr => ?_⟩
            · intro z4 h4 z5 h5 z6 h6 z7 h7
              have b := byteL_get br j
              rw [← h4] at b
              have e5 := wu64 h5 (by omega)
              have e6 := wu64 h6 (by omega)
              have e7 := w64 h7 (by omega)
              refine ⟨(z7, z6), ?_⟩
              dsimp only; simp only [and_self, true_and]
              exact ⟨netI_next Ir lr (by omega) hj rfl e7 (by rw [e6, e5, h4]; rfl), by omega⟩
            · have Er : fold (false, xq.2) ((r.L.drop r.o).take r.n) = (false, xr.2) := netI_end Ir lr (by omega)
              have e : (fold (true, 0) (p.sub ++ q.sub ++ r.sub)).2 = xr.2 := by unfold P3.sub; rw [fold_append, fold_append, Ep, Eq, Er]
              rw [e] at h
              refine ⟨⟨xr.2, ?_⟩, fun yy hD => ⟨fun hgt => ⟨by omega, fun z31 h31 z32 h32 z33 h33 => ⟨z33, ?_⟩⟩, fun hle z35 h35 z36 h36 => ?_⟩⟩
              · simp only [and_self, true_and]; exact downI_zero _ (by omega)
              · simp only [and_self, true_and]; exact down_next hD (by omega) hgt h31 h32 h33
              · have := down_end hD (by omega) hle h35 h36
                rw [← this] at h; exact h
          · intro xr Ir
            have Br := netI_bnd Ir br nr
            refine ⟨fun hlt => ⟨by omega, fun j hj => ⟨by omega, ?_⟩⟩, fun gr => ?_⟩
            · intro z4 h4 z5 h5
              have b := byteL_get br j
              rw [← h4] at b
              have e5 := wu64 h5 (by omega)
              refine ⟨by omega, fun z21 h21 z6 h6 z7 h7 => ?_⟩
              have e21 : z21 = z4 * 256 := by rw [h21, e5]; exact shl8 b
              have e6 := wu64 h6 (by omega)
              have e7 := w64 h7 (by omega)
              refine ⟨(z7, z6), ?_⟩
              dsimp only; simp only [and_self, true_and]
              exact ⟨netI_next Ir lr (by omega) hj rfl e7 (by rw [e6, e21, h4]; rfl), by omega⟩
            · have Er : fold (false, xq.2) ((r.L.drop r.o).take r.n) = (true, xr.2) := netI_end Ir lr (by omega)
              have e : (fold (true, 0) (p.sub ++ q.sub ++ r.sub)).2 = xr.2 := by unfold P3.sub; rw [fold_append, fold_append, Ep, Eq, Er]
              rw [e] at h
              refine ⟨⟨xr.2, ?_⟩, fun yy hD => ⟨fun hgt => ⟨by omega, fun z31 h31 z32 h32 z33 h33 => ⟨z33, ?_⟩⟩, fun hle z35 h35 z36 h36 => ?_⟩⟩
              · simp only [and_self, true_and]; exact downI_zero _ (by omega)
              · simp only [and_self, true_and]; exact down_next hD (by omega) hgt h31 h32 h33
              · have := down_end hD (by omega) hle h35 h36
                rw [← this] at h; exact h
      · intro xq Iq
        have Bq := netI_bnd Iq bq nq
        refine ⟨fun hlt => ⟨by omega, fun j hj => ⟨by omega, ?_⟩⟩, fun gq => ?_⟩
        · intro z4 h4 z5 h5
          have b := byteL_get bq j
          rw [← h4] at b
          have e5 := wu64 h5 (by omega)
          refine ⟨by omega, fun z21 h21 z6 h6 z7 h7 => ?_⟩
          have e21 : z21 = z4 * 256 := by rw [h21, e5]; exact shl8 b
          have e6 := wu64 h6 (by omega)
          have e7 := w64 h7 (by omega)
          refine ⟨(z7, z6), ?_⟩
          dsimp only; simp only [and_self, true_and]
          exact ⟨netI_next Iq lq (by omega) hj rfl e7 (by rw [e6, e21, h4]; rfl), by omega⟩
        · have Eq : fold (false, xp.2) ((q.L.drop q.o).take q.n) = (true, xq.2) := netI_end Iq lq (by omega)
          intro znr hnr
          refine ⟨⟨(0, xq.2), ?_⟩, ?_, ?_⟩
          · dsimp only; simp only [and_self, true_and]; exact netI_zero true xq.2 r.L r.o r.n
          · intro xr Ir
            have Br := netI_bnd Ir br nr
            refine ⟨fun hlt => ⟨by omega, fun j hj => ⟨by omega, ?_⟩⟩, fun gr => ?_⟩
            · intro z4 h4 z5 h5 z6 h6 z7 h7
              have b := byteL_get br j
              rw [← h4] at b
              have e5 := wu64 h5 (by omega)
              have e6 := wu64 h6 (by omega)
              have e7 := w64 h7 (by omega)
              refine ⟨(z7, z6), ?_⟩
              dsimp only; simp only [and_self, true_and]
              exact ⟨netI_next Ir lr (by omega) hj rfl e7 (by rw [e6, e5, h4]; rfl), by omega⟩
            · have Er : fold (true, xq.2) ((r.L.drop r.o).take r.n) = (false, xr.2) := netI_end Ir lr (by omega)
              have e : (fold (true, 0) (p.sub ++ q.sub ++ r.sub)).2 = xr.2 := by unfold P3.sub; rw [fold_append, fold_append, Ep, Eq, Er]
              rw [e] at h
              refine ⟨⟨xr.2, ?_⟩, fun yy hD => ⟨fun hgt => ⟨by omega, fun z31 h31 z32 h32 z33 h33 => ⟨z33, ?_⟩⟩, fun hle z35 h35 z36 h36 => ?_⟩⟩
              · simp only [and_self, true_and]; exact downI_zero _ (by omega)
              · simp only [and_self, true_and]; exact down_next hD (by omega) hgt h31 h32 h33
              · have := down_end hD (by omega) hle h35 h36
                rw [← this] at h; exact h
          · intro xr Ir
            have Br := netI_bnd Ir br nr
            refine ⟨fun hlt => ⟨by omega, fun j hj => ⟨by omega, ?_⟩⟩, fun gr => ?_⟩
            · intro z4 h4 z5 h5
              have b := byteL_get br j
              rw [← h4] at b
              have e5 := wu64 h5 (by omega)
              refine ⟨by omega, fun z21 h21 z6 h6 z7 h7 => ?_⟩
              have e21 : z21 = z4 * 256 := by rw [h21, e5]; exact shl8 b
              have e6 := wu64 h6 (by omega)
              have e7 := w64 h7 (by omega)
              refine ⟨(z7, z6), ?_⟩
              dsimp only; simp only [and_self, true_and]
              exact ⟨netI_next Ir lr (by omega) hj rfl e7 (by rw [e6, e21, h4]; rfl), by omega⟩
            · have Er : fold (true, xq.2) ((r.L.drop r.o).take r.n) = (true, xr.2) := netI_end Ir lr (by omega)
              have e : (fold (true, 0) (p.sub ++ q.sub ++ r.sub)).2 = xr.2 := by unfold P3.sub; rw [fold_append, fold_append, Ep, Eq, Er]
              rw [e] at h
              refine ⟨⟨xr.2, ?_⟩, fun yy hD => ⟨fun hgt => ⟨by omega, fun z31 h31 z32 h32 z33 h33 => ⟨z33, ?_⟩⟩, fun hle z35 h35 z36 h36 => ?_⟩⟩
              · simp only [and_self, true_and]; exact downI_zero _ (by omega)
              · simp only [and_self, true_and]; exact down_next hD (by omega) hgt h31 h32 h33
              · have := down_end hD (by omega) hle h35 h36
                rw [← this] at h; exact h
  · intro xp Ip
    have Bp := netI_bnd Ip bp np
    refine ⟨fun hlt => ⟨by omega, fun j hj => ⟨by omega, ?_⟩⟩, fun gp => ?_⟩
    · intro z4 h4 z5 h5
      have b := byteL_get bp j
      rw [← h4] at b
      have e5 := wu64 h5 (by omega)
      refine ⟨by omega, fun z21 h21 z6 h6 z7 h7 => ?_⟩
      have e21 : z21 = z4 * 256 := by rw [h21, e5]; exact shl8 b
      have e6 := wu64 h6 (by omega)
      have e7 := w64 h7 (by omega)
      refine ⟨(z7, z6), ?_⟩
      dsimp only; simp only [and_self, true_and]
      exact ⟨netI_next Ip lp (by omega) hj rfl e7 (by rw [e6, e21, h4]; rfl), by omega⟩
    · have Ep : fold (true, 0) ((p.L.drop p.o).take p.n) = (true, xp.2) := netI_end Ip lp (by omega)
      intro znq hnq
      refine ⟨⟨(0, xp.2), ?_⟩, ?_, ?_⟩
      · dsimp only; simp only [and_self, true_and]; exact netI_zero true xp.2 q.L q.o q.n
      · intro xq Iq
        have Bq := netI_bnd Iq bq nq
        refine ⟨fun hlt => ⟨by omega, fun j hj => ⟨by omega, ?_⟩⟩, fun gq => ?_⟩
        · intro z4 h4 z5 h5 z6 h6 z7 h7
          have b := byteL_get bq j
          rw [← h4] at b
          have e5 := wu64 h5 (by omega)
          have e6 := wu64 h6 (by omega)
          have e7 := w64 h7 (by omega)
          refine ⟨(z7, z6), ?_⟩
          dsimp only; simp only [and_self, true_and]
          exact ⟨netI_next Iq lq (by omega) hj rfl e7 (by rw [e6, e5, h4]; rfl), by omega⟩
        · have Eq : fold (true, xp.2) ((q.L.drop q.o).take q.n) = (false, xq.2) := netI_end Iq lq (by omega)
          intro znr hnr
          refine ⟨⟨(0, xq.2), ?_⟩, ?_, ?_⟩
          · dsimp only; simp only [and_self, true_and]; exact netI_zero false xq.2 r.L r.o r.n
          · intro xr Ir
            have Br := netI_bnd Ir br nr
            refine ⟨fun hlt => ⟨by omega, fun j hj => ⟨by omega, ?_⟩⟩, fun gr => ?_⟩
            · intro z4 h4 z5 h5 z6 h6 z7 h7
              have b := byteL_get br j
              rw [← h4] at b
              have e5 := wu64 h5 (by omega)
              have e6 := wu64 h6 (by omega)
              have e7 := w64 h7 (by omega)
              refine ⟨(z7, z6), ?_⟩
              dsimp only; simp only [and_self, true_and]
              exact ⟨netI_next Ir lr (by omega) hj rfl e7 (by rw [e6, e5, h4]; rfl), by omega⟩
            · have Er : fold (false, xq.2) ((r.L.drop r.o).take r.n) = (false, xr.2) := netI_end Ir lr (by omega)
              have e : (fold (true, 0) (p.sub ++ q.sub ++ r.sub)).2 = xr.2 := by unfold P3.sub; rw [fold_append, fold_append, Ep, Eq, Er]
              rw [e] at h
              refine ⟨⟨xr.2, ?_⟩, fun yy hD => ⟨fun hgt => ⟨by omega, fun z31 h31 z32 h32 z33 h33 => ⟨z33, ?_⟩⟩, fun hle z35 h35 z36 h36 => ?_⟩⟩
              · simp only [and_self, true_and]; exact downI_zero _ (by omega)
              · simp only [and_self, true_and]; exact down_next hD (by omega) hgt h31 h32 h33
              · have := down_end hD (by omega) hle h35 h36
                rw [← this] at h; exact h
          · intro xr Ir
            have Br := netI_bnd Ir br nr
            refine ⟨fun hlt => ⟨by omega, fun j hj => ⟨by omega, ?_⟩⟩, fun gr => ?_⟩
            · intro z4 h4 z5 h5
              have b := byteL_get br j
              rw [← h4] at b
              have e5 := wu64 h5 (by omega)
              refine ⟨by omega, fun z21 h21 z6 h6 z7 h7 => ?_⟩
              have e21 : z21 = z4 * 256 := by rw [h21, e5]; exact shl8 b
              have e6 := wu64 h6 (by omega)
              have e7 := w64 h7 (by omega)
              refine ⟨(z7, z6), ?_⟩
              dsimp only; simp only [and_self, true_and]
              exact ⟨netI_next Ir lr (by omega) hj rfl e7 (by rw [e6, e21, h4]; rfl), by omega⟩
            · have Er : fold (false, xq.2) ((r.L.drop r.o).take r.n) = (true, xr.2) := netI_end Ir lr (by omega)
              have e : (fold (true, 0) (p.sub ++ q.sub ++ r.sub)).2 = xr.2 := by unfold P3.sub; rw [fold_append, fold_append, Ep, Eq, Er]
              rw [e] at h
              refine ⟨⟨xr.2, ?_⟩, fun yy hD => ⟨fun hgt => ⟨by omega, fun z31 h31 z32 h32 z33 h33 => ⟨z33, ?_⟩⟩, fun hle z35 h35 z36 h36 => ?_⟩⟩
              · simp only [and_self, true_and]; exact downI_zero _ (by omega)
              · simp only [and_self, true_and]; exact down_next hD (by omega) hgt h31 h32 h33
              · have := down_end hD (by omega) hle h35 h36
                rw [← this] at h; exact h
      · intro xq Iq
        have Bq := netI_bnd Iq bq nq
        refine ⟨fun hlt => ⟨by omega, fun j hj => ⟨by omega, ?_⟩⟩, fun gq => ?_⟩
        · intro z4 h4 z5 h5
          have b := byteL_get bq j
          rw [← h4] at b
          have e5 := wu64 h5 (by omega)
          refine ⟨by omega, fun z21 h21 z6 h6 z7 h7 => ?_⟩
          have e21 : z21 = z4 * 256 := by rw [h21, e5]; exact shl8 b
          have e6 := wu64 h6 (by omega)
          have e7 := w64 h7 (by omega)
          refine ⟨(z7, z6), ?_⟩
          dsimp only; simp only [and_self, true_and]
          exact ⟨netI_next Iq lq (by omega) hj rfl e7 (by rw [e6, e21, h4]; rfl), by omega⟩
        · have Eq : fold (true, xp.2) ((q.L.drop q.o).take q.n) = (true, xq.2) := netI_end Iq lq (by omega)
          intro znr hnr
          refine ⟨⟨(0, xq.2), ?_⟩, ?_, ?_⟩
          · dsimp only; simp only [and_self, true_and]; exact netI_zero true xq.2 r.L r.o r.n
          · intro xr Ir
            have Br := netI_bnd Ir br nr
            refine ⟨fun hlt => ⟨by omega, fun j hj => ⟨by omega, ?_⟩⟩, fun gr => ?_⟩
            · intro z4 h4 z5 h5 z6 h6 z7 h7
              have b := byteL_get br j
              rw [← h4] at b
              have e5 := wu64 h5 (by omega)
              have e6 := wu64 h6 (by omega)
              have e7 := w64 h7 (by omega)
              refine ⟨(z7, z6), ?_⟩
              dsimp only; simp only [and_self, true_and]
              exact ⟨netI_next Ir lr (by omega) hj rfl e7 (by rw [e6, e5, h4]; rfl), by omega⟩
            · have Er : fold (true, xq.2) ((r.L.drop r.o).take r.n) = (false, xr.2) := netI_end Ir lr (by omega)
              have e : (fold (true, 0) (p.sub ++ q.sub ++ r.sub)).2 = xr.2 := by unfold P3.sub; rw [fold_append, fold_append, Ep, Eq, Er]
              rw [e] at h
              refine ⟨⟨xr.2, ?_⟩, fun yy hD => ⟨fun hgt => ⟨by omega, fun z31 h31 z32 h32 z33 h33 => ⟨z33, ?_⟩⟩, fun hle z35 h35 z36 h36 => ?_⟩⟩
              · simp only [and_self, true_and]; exact downI_zero _ (by omega)
              · simp only [and_self, true_and]; exact down_next hD (by omega) hgt h31 h32 h33
              · have := down_end hD (by omega) hle h35 h36
                rw [← this] at h; exact h
          · intro xr Ir
            have Br := netI_bnd Ir br nr
            refine ⟨fun hlt => ⟨by omega, fun j hj => ⟨by omega, ?_⟩⟩, fun gr => ?_⟩
            · intro z4 h4 z5 h5
              have b := byteL_get br j
              rw [← h4] at b
              have e5 := wu64 h5 (by omega)
              refine ⟨by omega, fun z21 h21 z6 h6 z7 h7 => ?_⟩
              have e21 : z21 = z4 * 256 := by rw [h21, e5]; exact shl8 b
              have e6 := wu64 h6 (by omega)
              have e7 := w64 h7 (by omega)
              refine ⟨(z7, z6), ?_⟩
              dsimp only; simp only [and_self, true_and]
              exact ⟨netI_next Ir lr (by omega) hj rfl e7 (by rw [e6, e21, h4]; rfl), by omega⟩
            · have Er : fold (true, xq.2) ((r.L.drop r.o).take r.n) = (true, xr.2) := netI_end Ir lr (by omega)
              have e : (fold (true, 0) (p.sub ++ q.sub ++ r.sub)).2 = xr.2 := by unfold P3.sub; rw [fold_append, fold_append, Ep, Eq, Er]
              rw [e] at h
              refine ⟨⟨xr.2, ?_⟩, fun yy hD => ⟨fun hgt => ⟨by omega, fun z31 h31 z32 h32 z33 h33 => ⟨z33, ?_⟩⟩, fun hle z35 h35 z36 h36 => ?_⟩⟩
              · simp only [and_self, true_and]; exact downI_zero _ (by omega)
              · simp only [and_self, true_and]; exact down_next hD (by omega) hgt h31 h32 h33
              · have := down_end hD (by omega) hle h35 h36
                rw [← this] at h; exact h
end Go.Proofs.Ytpmnioadbkhpoaa
