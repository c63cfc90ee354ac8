/- SumNet: for any bytes the statement returns true. No condition. -/
import Derived.Test.YtpmnioadbkhpoaaS6
import Derived.Test.YtpmnioadbkhpoaaRkO
import Derived.RowKit
set_option linter.unusedVariables false
set_option linter.unusedSimpArgs false
namespace Go.Proofs.Ytpmnioadbkhpoaa
open Go Reck Ost

theorem tblOr_ok {P : Program} {a b : Tbl} (ha : TblOk P a) (hb : TblOk P b) : TblOk P (tblOr a b) := by
  intro f tm σ C h
  unfold tblOr at h
  split at h
  · rename_i c hc; simp only [Option.some.injEq] at h; subst h; exact ha f tm σ c hc
  · exact hb f tm σ C h
theorem tShort_ok : TblOk Try.prog tShort := by
  intro f tm σ C h K hK
  unfold tShort at h
  split at h
  · rename_i hf
    obtain rfl : f = 9 := by simpa using hf
    split at h
    · split at h
      · rename_i hs
        obtain rfl := aslX_eq hs
        simp only [Option.some.injEq] at h; subst h
        exact knownC noOv names (conOk_of tbl0_ok) (short_run K _ _ _ _ _ _ hK.1 (hK.2 _ rfl))
      · cases h
    · cases h
  · cases h
theorem tRefNet_ok : TblOk Try.prog tRefNet := by
  intro f tm σ C h K hK
  unfold tRefNet at h
  split at h
  · rename_i hf
    obtain rfl : f = 11 := by simpa using hf
    split at h
    · split at h
      · rename_i hs
        obtain rfl := aslX_eq hs
        simp only [Option.some.injEq] at h; subst h
        exact knownC noOv names (conOk_of tbl0_ok) (refNet_run K _ _ _ _ _ _ hK.1.1.out hK.1.2.1 hK.1.2.2 (hK.2 _ rfl))
      · cases h
    · cases h
  · cases h
theorem tNet1_ok : TblOk Try.prog tNet1 := by
  intro f tm σ C h K hK
  unfold tNet1 at h
  split at h
  · rename_i hf
    obtain rfl : f = 10 := by simpa using hf
    split at h
    · split at h
      · rename_i a L cap ro _ o n c hs
        have hs := aslX_eq hs
        simp only [cell, Sum.inl.injEq] at hs
        subst hs
        simp only [Option.some.injEq] at h; subst h
        obtain ⟨⟨k1, k2, k3⟩, k4⟩ := hK
        have k5 := k4 _ rfl
        clear k4
        unfold U.S at k5
        have hh := net1_run K L o n c cap ro k1.out k2 k3 k5
        exact knownC noOv names (conOk_of tbl0_ok) hh
      · cases h
    · cases h
  · cases h
theorem tAwake_ok : TblOk Try.prog tAwake := by
  intro f tm σ C h K hK
  unfold tAwake at h
  split at h
  · rename_i hf
    obtain rfl : f = 12 := by simpa using hf
    split at h
    · simp only [Option.some.injEq] at h; subst h
      exact knownC noOv names (conOk_of tbl0_ok) (show run0 12 [] emptySt K by rw [awake_vc]; exact hK)
    · cases h
  · cases h
theorem tbl1_ok : TblOk Try.prog tbl1 := tblOr_ok tAwake_ok (tblOr_ok tShort_ok (tblOr_ok tRefNet_ok tNet1_ok))

theorem bytes_wf {zs : List Int} (h : ∀ n ∈ zs, (Lit.int .u8 n).wf = true) : byteL zs := fun n hn => by
  have := h n hn
  simp [Lit.wf, IntKind.min, IntKind.max, IntKind.signed, IntKind.bits] at this
  omega

theorem sumNet_walk (A : Option Addr) (len cap : Nat) (zs : List Int) (w : World) (h : Came2 .u8 w A len cap zs) : Calls Try.prog 3 #[.slice A len cap] w fun e w' => e = .returned (.bool true) ∧ Only (fun _ => False) w w' := by
  obtain ⟨q, h1, h2⟩ := h.base 5
  have hB := bytes_wf h.2.2.2.1
  have hrun : run1 3 [cell (aslC ⟨0, 0, len, cap⟩)] (ar [bs zs 0 true]) := by
    rw [sumNet_vc]
    refine ⟨h.2.1, fun n' hn' => ?_⟩
    have hlen : n' ≤ zs.length ∧ n' ≤ 300 := by rw [hn', h.1]; unfold U.m3; omega
    refine ⟨⟨⟨hB⟩, by simpa using hlen.1, hlen.2⟩, fun z1 hz1 => ⟨⟨⟨hB⟩, by simpa using hlen.1, hlen.2⟩, fun z2 hz2 => ⟨fun _ => trivial, fun hne => absurd (hz1.trans hz2.symm) hne⟩⟩⟩
  exact call_true noOv names (conOk_of tbl1_ok) hrun (w0 := w) (e := arE [q]) (ok_arrs w (l := [bs zs 0 true]) rfl (by simp [bs]) (by
    intro i x p hx hp
    rcases i with _ | i <;> simp at hx hp
    subst hx; subst hp; exact h2 _ rfl)) (vs := [.slice A len cap]) (by simp [h1 (arE [q]) 0 rfl])
end Go.Proofs.Ytpmnioadbkhpoaa
