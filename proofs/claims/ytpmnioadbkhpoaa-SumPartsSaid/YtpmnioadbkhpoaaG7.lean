/- Layer 3: the document's tag. No condition. -/
import Derived.Test.YtpmnioadbkhpoaaG6
set_option linter.unusedVariables false
set_option linter.unusedSimpArgs false
set_option maxRecDepth 10000
namespace Go.Proofs.Ytpmnioadbkhpoaa
open Go Reck
theorem getD_sub (L : List Int) (o n k : Nat) (hl : o + n ≤ L.length) : ((L.drop o).take n).getD k 0 = if k < n then L.getD (o + k) 0 else 0 := by
  by_cases h : k < n
  · rw [if_pos h, sub_get L o n k hl h]
  · rw [if_neg h]
    have := sub_len L o n hl
    rw [List.getD_eq_getElem?_getD, List.getElem?_eq_none (by omega)]; rfl
theorem pow8 (t : Nat) (h : t < 8) : (256 : Int) ^ t ≤ 72057594037927936 ∧ (1 : Int) ≤ 256 ^ t := by
  have : ∀ t : Fin 8, (256 : Int) ^ (t.val) ≤ 72057594037927936 ∧ (1 : Int) ≤ 256 ^ t.val := by decide
  exact this ⟨t, h⟩
theorem refMI_next {L : List Int} {o n : Nat} {i k m k' m' : Int} (hI : U.refMI L o n i k m) (hl : o + n ≤ L.length) (hb : byteL L) (hi : 0 ≤ i) (hk : 0 ≤ k) (hk' : k' = k - 1) (hm : m' = m * 256 + (if 8 * i + k < n then L.getD (o + (8 * i + k).toNat) 0 else 0)) : U.refMI L o n i k' m' := by
  obtain ⟨t, h1, h2, h3, h4, h5⟩ := hI
  have hp := pow8 t (by omega)
  have hc := byteL_get hb (o + (8 * i + k).toNat)
  refine ⟨t + 1, by push_cast; omega, by omega, ?_, ?_, ?_⟩
  · show _ = wordFrom _ _ t * 256 + _
    rw [getD_sub L o n _ hl, hm, h3, show 8 * i.toNat + (7 - t) = (8 * i + k).toNat by omega]
    congr 1
    by_cases h : 8 * i + k < n
    · rw [if_pos h, if_pos (by omega)]
    · rw [if_neg h, if_neg (by omega)]
  · split at hm <;> omega
  · rw [Int.pow_succ]
    generalize (256 : Int) ^ t = p at *
    split at hm <;> omega
theorem refMI_small {L : List Int} {o n : Nat} {i k m : Int} (hI : U.refMI L o n i k m) (hk : 0 ≤ k) : 0 ≤ m ∧ m ≤ 72057594037927935 := by
  obtain ⟨t, h1, h2, h3, h4, h5⟩ := hI
  have hp := pow8 t (by omega)
  generalize (256 : Int) ^ t = p at *
  omega
theorem refMI_end {L : List Int} {o n : Nat} {i k m : Int} (hI : U.refMI L o n i k m) (hk : ¬ 0 ≤ k) : m = wordFrom ((L.drop o).take n) i.toNat 8 := by
  obtain ⟨t, h1, h2, h3, h4, h5⟩ := hI
  obtain rfl : t = 8 := by omega
  exact h3
def U.RT (a b : Int) (L : List Int) (o n : Nat) : Int := finW (U.rfold (initW a b) ((L.drop o).take n) (n / 8 + 1))
theorem refTI_next {v0 v : W4} {L : List Int} {o n : Nat} {i m i' : Int} {v' : W4} (hI : U.refTI v0 L o n i v) (hl : o + n ≤ L.length) (hle : i ≤ n / 8) (hi : i' = i + 1)
    (hm : m = if i.toNat = n / 8 then IntKind.wrap .u64 (wordFrom ((L.drop o).take n) i.toNat 8 + ((n % 256 : Nat) : Int) * 72057594037927936) else wordFrom ((L.drop o).take n) i.toNat 8) (hv : v' = U.ad v m) : U.refTI v0 L o n i' v' := by
  obtain ⟨j, h1, h2, h3, h4⟩ := hI
  refine ⟨j + 1, by rw [hi, h1]; simp, by omega, ?_, hv ▸ ad_in h4 _⟩
  show v' = U.ad (U.rfold v0 _ j) _
  rw [← h3, hv, hm, sub_len L o n hl, h1, Int.toNat_natCast]
theorem rTag_run (K : AV → St → Prop) (a b : Int) (L : List Int) (o n c cap : Nat) (ro : Bool) (hb : byteL L) (hl : o + n ≤ L.length) (hn : n ≤ 300)
    (h : K (xi .u64 (U.RT a b L o n)) (ar [bs L cap ro])) : runG tRRnd 16 [xi .u64 a, xi .u64 b, cell (aslC ⟨0, o, n, c⟩)] (ar [bs L cap ro]) K := by
  rw [rTag_vc]
  intro z0 e0 z1 e1 z2 e2 z3 e3
  have hini : (z0, z1, z2, z3) = initW a b := by rw [e0, e1, e2, e3]; rfl
  have hv0 : U.in4 (z0, z1, z2, z3) := ⟨e0 ▸ xor_in _ _, e1 ▸ xor_in _ _, e2 ▸ xor_in _ _, e3 ▸ xor_in _ _⟩
  clear e0 e1 e2 e3
  refine ⟨⟨(0, (z0, z1, z2, z3)), ?_⟩, ?_⟩
  · simp only [and_self, true_and]; exact ⟨0, rfl, by omega, rfl, hv0⟩
  rintro ⟨i, v⟩ hI
  dsimp only at hI ⊢
  obtain ⟨j, h1, h2, h3, h4⟩ := id hI
  intro z6 e6
  refine ⟨by decide, fun z7 e7 => ?_⟩
  have e7 := w64 e7 (by rw [e6, Int.tdiv_eq_ediv_of_nonneg (by omega)]; omega)
  rw [e6, Int.tdiv_eq_ediv_of_nonneg (by omega)] at e7
  refine ⟨fun hle => ⟨⟨(7, 0), ?_⟩, ?_⟩, fun hgt z41 e41 => ?_⟩
  · simp only [and_self, true_and]; exact ⟨0, by simp, by omega, rfl, by decide, by decide⟩
  · rintro ⟨k, m⟩ hM
    dsimp only at hM ⊢
    refine ⟨fun hk z10 e10 z11 e11 z12 e12 z13 e13 => ?_, fun hk z24 e24 => ⟨by decide, fun z25 e25 => ?_⟩⟩
    · have hs := refMI_small hM hk
      have hk7 : k ≤ 7 := by obtain ⟨t, t1, _⟩ := hM; omega
      have e10 := wu64 e10 (by omega)
      have e11 := w64 e11 (by omega)
      have e12 := w64 e12 (by omega)
      refine ⟨fun hlt z14 e14 z15 e15 => ?_, fun hge z22 e22 => ⟨(z22, z10), ?_⟩⟩
      · have e14 := w64 e14 (by omega)
        have e15 := w64 e15 (by omega)
        refine ⟨by omega, fun j16 hj => ⟨by omega, fun z17 e17 z18 e18 z19 e19 z20 e20 => ⟨(z20, z19), ?_⟩⟩⟩
        have hc := byteL_get hb j16
        rw [← e17] at hc
        have e18 := wu64 e18 (by omega)
        have e19 := wu64 e19 (by omega)
        have e20 := w64 e20 (by omega)
        simp only [and_self, true_and]
        refine ⟨refMI_next hM hl hb (by omega) hk e20 ?_, by omega⟩
        rw [if_pos (by omega), e19, e10, e18, e17, show o + (8 * i + k).toNat = j16 by omega]
      · have e22 := w64 e22 (by omega)
        simp only [and_self, true_and]
        refine ⟨refMI_next hM hl hb (by omega) hk e22 ?_, by omega⟩
        rw [if_neg (by omega), e10]; omega
    · have e25 := w64 e25 (by rw [e24, Int.tdiv_eq_ediv_of_nonneg (by omega)]; omega)
      rw [e24, Int.tdiv_eq_ediv_of_nonneg (by omega)] at e25
      have hm := refMI_end hM hk
      have hm2 : 0 ≤ m := by obtain ⟨t, _, _, _, t4, _⟩ := hM; exact t4
      refine ⟨fun he z26 e26 => ⟨by decide, fun z27 e27 z28 e28 z29 e29 z30 e30 z31 e31 => ?_⟩, fun hne z36 e36 => ?_⟩
      · refine ⟨⟨⟨h4.out.1, h4.out.2.1, h4.out.2.2.1, e31 ▸ xor_in _ _⟩, by decide⟩, fun z32 e32 z33 e33 z34 e34 => ⟨(z34, (z33, z32.2.1, z32.2.2.1, z32.2.2.2)), ?_⟩⟩
        simp only [and_self, true_and]
        have e34 := w64 e34 (by omega)
        rw [e26, Int.tmod_eq_emod_of_nonneg (by omega)] at e27
        have e28 := wu64 e28 (by omega)
        have e29 := wu64 e29 (by omega)
        refine ⟨refTI_next hI hl (by omega) e34 (m := z30) ?_ ?_, by omega⟩
        · rw [if_pos (by omega), e30, hm, e29, e28, e27]; push_cast; rfl
        · rw [e33, e32, e31]; rfl
      · refine ⟨⟨⟨h4.out.1, h4.out.2.1, h4.out.2.2.1, e36 ▸ xor_in _ _⟩, by decide⟩, fun z37 e37 z38 e38 z39 e39 => ⟨(z39, (z38, z37.2.1, z37.2.2.1, z37.2.2.2)), ?_⟩⟩
        simp only [and_self, true_and]
        have e39 := w64 e39 (by omega)
        refine ⟨refTI_next hI hl (by omega) e39 (m := m) ?_ ?_, by omega⟩
        · rw [if_neg (by omega), hm]
        · rw [e38, e37, e36]; rfl
  · refine ⟨⟨⟨h4.out.1, h4.out.2.1, e41 ▸ xor_in _ _, h4.out.2.2.2⟩, by decide⟩, fun z42 e42 z43 e43 z44 e44 z45 e45 => ?_⟩
    have e : U.RT a b L o n = z45 := by
      unfold U.RT
      rw [← hini, show n / 8 + 1 = j by omega, ← h3, e45, e44, e43, e42, e41]; rfl
    rw [e] at h; exact h
end Go.Proofs.Ytpmnioadbkhpoaa
