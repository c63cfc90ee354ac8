/- Layer 3: what sum.Tag comes to. No condition. -/
import Derived.Test.YtpmnioadbkhpoaaG5
set_option linter.unusedVariables false
set_option linter.unusedSimpArgs false
set_option maxRecDepth 10000
namespace Go.Proofs.Ytpmnioadbkhpoaa
open Go Reck
theorem or_in (a b : Int) : inW (orI .u64 a b) := by
  unfold inW orI
  rw [show ∀ n, IntKind.wrap .u64 n = n % 18446744073709551616 from wrapU]; omega
theorem ad_in {v : W4} (h : U.in4 v) (m : Int) : U.in4 (U.ad v m) := by
  have h1 : U.in4 (U.rn (v.1, v.2.1, v.2.2.1, xorI .u64 v.2.2.2 m) 2) := rndN_in (v := (v.1, v.2.1, v.2.2.1, xorI .u64 v.2.2.2 m)) ⟨h.out.1, h.out.2.1, h.out.2.2.1, xor_in _ _⟩ 2
  exact ⟨xor_in _ _, h1.out.2.1, h1.out.2.2.1, h1.out.2.2.2⟩
theorem add_run (K : AV → St → Prop) (v : W4) (m : Int) (hv : U.in4 v) (h : K (.inr []) (st4 (U.ad v m))) : runG tRnd 18 [ptr0, xi .u64 m] (st4 v) K := by
  rw [add_vc]
  intro z0 e0
  refine ⟨⟨⟨hv.out.1, hv.out.2.1, hv.out.2.2.1, e0 ▸ xor_in _ _⟩, by decide⟩, fun z1 e1 z2 e2 => ?_⟩
  have : U.ad v m = (z2, z1.2.1, z1.2.2.1, z1.2.2.2) := by rw [e2, e1, e0]; rfl
  rw [this] at h; exact h
theorem tAdd_ok : TblOk Try.prog tAdd := by
  intro f tm σ C h K hK
  unfold tAdd at h
  split at h
  · rename_i hf
    obtain rfl : f = 18 := by simpa using hf
    split at h
    · split at h
      · rename_i k a b c d _ _ v n hv hk
        simp only [Option.some.injEq] at h; subst h
        obtain ⟨⟨k1, k2⟩, k3⟩ := hK
        intro w0 e W hW vs hvs
        rw [xW4_eq hv] at hW
        refine knownC noOv names (conOk_of tRnd_ok) (add_run K v n k1 (k3 _ rfl)) w0 e W hW vs ?_
        obtain ⟨x, y, rfl⟩ : ∃ x y, vs = [x, y] := by
          match vs, map_len hvs with
          | [x, y], _ => exact ⟨x, y, rfl⟩
        simp only [List.map_cons, List.map_nil, List.cons.injEq, and_true] at hvs ⊢
        refine ⟨hvs.1, ?_⟩
        rw [intX_ok hk hvs.2]
        rfl
      · cases h
    · cases h
  · cases h
theorem tRRnd_ok : TblOk Try.prog tRRnd := by
  intro f tm σ C h K hK
  unfold tRRnd at h
  split at h
  · rename_i hf
    obtain rfl : f = 20 := by simpa using hf
    split at h
    · split at h
      · rename_i a b c d k _ _ v n hv hk
        simp only [Option.some.injEq] at h; subst h
        obtain ⟨⟨k1, k2⟩, k3⟩ := hK
        intro w0 e W hW vs hvs
        rw [xW4_eq hv] at hvs
        refine knownC noOv names (conOk_of tRot_ok) (rRounds_run K v n k1 k2 (k3 _ rfl)) w0 e W hW vs ?_
        obtain ⟨x, y, rfl⟩ : ∃ x y, vs = [x, y] := by
          match vs, map_len hvs with
          | [x, y], _ => exact ⟨x, y, rfl⟩
        simp only [List.map_cons, List.map_nil, List.cons.injEq, and_true] at hvs ⊢
        refine ⟨hvs.1, ?_⟩
        rw [intX_ok hk hvs.2]
        rfl
      · cases h
    · cases h
  · cases h
theorem tfold_snoc (s : T6) (l : List Int) (c : Int) : tfold s (l ++ [c]) = tstep (tfold s l) c := by simp [tfold]
def initW (a b : Int) : W4 := (xorI .u64 a 8317987319222330741, xorI .u64 b 7237128888997146477, xorI .u64 a 7816392313619706465, xorI .u64 b 8387220255154660723)
def finW (v : W4) : Int :=
  let r := U.rn (v.1, v.2.1, xorI .u64 v.2.2.1 255, v.2.2.2) 4
  xorI .u64 (xorI .u64 (xorI .u64 r.1 r.2.1) r.2.2.1) r.2.2.2
def lastM (s : T6) : Int := orI .u64 s.2.1 (shlI .u64 s.2.2 56)
def U.T (a b : Int) (L : List Int) (o n : Nat) : Int :=
  finW (U.ad (tfold (initW a b, 0, 0) ((L.drop o).take n)).1 (lastM (tfold (initW a b, 0, 0) ((L.drop o).take n))))
theorem tagI_zero (v0 : W4) (m0 n0 : Int) (L : List Int) (o n : Nat) (hv : U.in4 v0) (hm : inW m0) (hn : 0 ≤ n0 ∧ n0 ≤ 10000) : U.tagI v0 m0 n0 L o n 0 m0 n0 v0 :=
  ⟨0, rfl, Nat.zero_le _, rfl, hv, hm, by omega, hn⟩
theorem tagI_next {v0 v : W4} {m0 n0 : Int} {L : List Int} {o n : Nat} {k m nn k' : Int} {v' : W4} {m' n' : Int} (hI : U.tagI v0 m0 n0 L o n k m nn v) (hl : o + n ≤ L.length) (hn : n ≤ 300) (hk : k < n) {j : Nat} (hj : (j : Int) = o + k) (hk' : k' = k + 1)
    (hs : tstep (v, m, nn) (L.getD j 0) = (v', m', n')) (hv : U.in4 v') (hm : inW m') (hn' : n' = nn + 1) : U.tagI v0 m0 n0 L o n k' m' n' v' := by
  obtain ⟨i, h1, h2, h3, h4, h5, h6, h7⟩ := hI
  have hlen := sub_len L o n hl
  have hji : j = o + i := by omega
  refine ⟨i + 1, by rw [hk', h1]; simp, by omega, ?_, hv, hm, by push_cast; omega, h7⟩
  rw [take_get (by omega), tfold_snoc, ← h3, sub_get L o n i hl (by omega), ← hji, hs]
theorem tstep_of {v : W4} {m nn c z9 z10 z11 z12 z13 z14 z15 : Int} (hc : 0 ≤ c ∧ c ≤ 255) (hnn : 0 ≤ nn ∧ nn ≤ 10400) (e9 : z9 = IntKind.wrap .u64 c) (e10 : z10 = Int.tmod nn 8) (e11 : z11 = IntKind.wrap .i64 (z10 * 8)) (e12 : z12 = shlI .u64 z9 z11) (e13 : z13 = orI .u64 m z12)
    (e14 : z14 = IntKind.wrap .i64 (nn + 1)) (e15 : z15 = Int.tmod z14 8) : 0 ≤ z11 ∧ z14 = nn + 1 ∧ (z15 = 0 → tstep (v, m, nn) c = (U.ad v z13, 0, z14)) ∧ (¬ z15 = 0 → tstep (v, m, nn) c = (v, z13, z14)) ∧ inW z13 := by
  have e9 := wu64 e9 (by omega)
  rw [Int.tmod_eq_emod_of_nonneg (by omega)] at e10
  have e11 := w64 e11 (by omega)
  have e14 := w64 e14 (by omega)
  rw [Int.tmod_eq_emod_of_nonneg (by omega)] at e15
  have em : z13 = orI .u64 m (shlI .u64 c (nn % 8 * 8)) := by rw [e13, e12, e9, e11, e10]
  refine ⟨by omega, e14, fun h => ?_, fun h => ?_, e13 ▸ or_in _ _⟩
  · unfold tstep
    have : (nn + 1) % 8 = 0 := by omega
    simp only [this, if_true]; rw [← em, e14]
  · unfold tstep
    have : ¬ (nn + 1) % 8 = 0 := by omega
    simp only [this, if_false]; rw [← em, e14]
theorem tag_run (K : AV → St → Prop) (a b : Int) (L : List Int) (o n c cap : Nat) (ro : Bool) (hb : byteL L) (hl : o + n ≤ L.length) (hn : n ≤ 300)
    (h : K (xi .u64 (U.T a b L o n)) ⟨[pt [aslC ⟨0, o, n, c⟩]], [], 0, [some (bs L cap ro)], 0⟩) : runG (tblOr tAdd tRnd) 15 [xi .u64 a, xi .u64 b, sl ⟨0, 0, 1, none, 1⟩] ⟨[pt [aslC ⟨0, o, n, c⟩]], [], 0, [some (bs L cap ro)], 0⟩ K := by
  rw [tag_vc]
  intro z0 e0 z1 e1 z2 e2 z3 e3 z4 e4
  have hini : (z0, z1, z2, z3) = initW a b := by rw [e0, e1, e2, e3]; rfl
  have hv0 : U.in4 (z0, z1, z2, z3) := ⟨e0 ▸ xor_in _ _, e1 ▸ xor_in _ _, e2 ▸ xor_in _ _, e3 ▸ xor_in _ _⟩
  clear e0 e1 e2 e3
  refine ⟨⟨(0, 0, 0, (z0, z1, z2, z3)), ?_⟩, ?_⟩
  · simp only [and_self, true_and]; exact tagI_zero _ _ _ _ _ _ hv0 (by unfold inW; decide) (by decide)
  rintro ⟨k, m, nn, v⟩ hI
  dsimp only at hI ⊢
  obtain ⟨j, h1, h2, h3, h4, h5, h6, h7⟩ := id hI
  refine ⟨fun hlt => ⟨by omega, fun j7 hj => ⟨by omega, fun z8 e8 z9 e9 => ⟨by decide, fun z10 e10 z11 e11 => ?_⟩⟩⟩, fun hge z21 e21 => ⟨by decide, fun z22 e22 z23 e23 => ?_⟩⟩
  · have hc := byteL_get hb j7
    rw [← e8] at hc
    have T := @tstep_of v m nn z8 z9 z10 z11 (shlI .u64 z9 z11) _ _ _ hc (by omega) e9 e10 e11 rfl rfl rfl rfl
    refine ⟨T.1, fun z12 e12 z13 e13 z14 e14 => ⟨by decide, fun z15 e15 => ?_⟩⟩
    have T := @tstep_of v m nn z8 z9 z10 z11 z12 z13 z14 z15 hc (by omega) e9 e10 e11 e12 e13 e14 e15
    obtain ⟨t1, t2, t3, t4, t5⟩ := T
    refine ⟨fun hz => ⟨⟨h4, ⟨t5⟩⟩, fun z16 e16 z17 e17 => ⟨(z17, 0, z14, z16), ?_⟩⟩, fun hz z19 e19 => ⟨(z19, z13, z14, v), ?_⟩⟩
    · have e17 := w64 e17 (by omega)
      simp only [and_self, true_and]
      refine ⟨tagI_next hI hl hn (by omega) hj e17 (by rw [← e8, t3 hz, e16]) (e16 ▸ ad_in h4 _) (by unfold inW; decide) t2, by omega⟩
    · have e19 := w64 e19 (by omega)
      simp only [and_self, true_and]
      refine ⟨tagI_next hI hl hn (by omega) hj e19 (by rw [← e8, t4 hz]) h4 t5 t2, by omega⟩
  · refine ⟨⟨h4, ⟨e23 ▸ or_in _ _⟩⟩, fun z24 e24 z25 e25 => ?_⟩
    have hz := ad_in h4 z23
    have e24' : z24 = U.ad v z23 := e24
    rw [← e24'] at hz
    refine ⟨⟨⟨hz.out.1, hz.out.2.1, e25 ▸ xor_in _ _, hz.out.2.2.2⟩, by decide⟩, fun z26 e26 z27 e27 z28 e28 z29 e29 => ?_⟩
    have hP : (L.drop o).take n = ((L.drop o).take n).take j := by rw [List.take_of_length_le (l := (L.drop o).take n) (by rw [sub_len L o n hl]; omega)]
    have e : U.T a b L o n = z29 := by
      unfold U.T
      rw [hP, ← hini, ← h3]
      have e21 := wu64 e21 (by omega)
      have : z23 = lastM (v, m, nn) := by rw [e23, e22, e21]; rfl
      rw [← this]
      show finW (U.ad v z23) = _
      rw [← e24', e29, e28, e27, e26, e25]; rfl
    rw [e] at h; exact h
end Go.Proofs.Ytpmnioadbkhpoaa
