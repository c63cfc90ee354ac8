/- SumTag: for any key and any bytes the statement returns true. No condition. -/
import Derived.Test.YtpmnioadbkhpoaaG9
set_option linter.unusedVariables false
set_option linter.unusedSimpArgs false
namespace Go.Proofs.Ytpmnioadbkhpoaa
open Go Reck Ost
theorem tTag_ok : TblOk Try.prog tTag := by
  intro f tm σ C h K hK
  unfold tTag at h
  split at h
  · rename_i hf
    obtain rfl : f = 15 := by simpa using hf
    split at h
    · split at h
      · rename_i x y a L cap ro _ _ _ p q o n c hx hy hs
        have hs := aslX_eq hs
        simp only [cell, Sum.inl.injEq] at hs
        subst hs
        simp only [Option.some.injEq] at h; subst h
        obtain ⟨⟨k1, k2, k3⟩, k4⟩ := hK
        intro w0 e W hW vs hvs
        refine knownC noOv names (conOk_of (tblOr_ok tAdd_ok tRnd_ok)) (tag_run K p q L o n c cap ro k1.out k2 k3 (k4 _ rfl)) w0 e W hW vs ?_
        obtain ⟨u, v, s, rfl⟩ : ∃ u v s, vs = [u, v, s] := by
          match vs, map_len hvs with
          | [u, v, s], _ => exact ⟨u, v, s, rfl⟩
        simp only [List.map_cons, List.map_nil, List.cons.injEq, and_true] at hvs ⊢
        refine ⟨?_, ?_, hvs.2.2⟩
        · rw [intX_ok hx hvs.1]; rfl
        · rw [intX_ok hy hvs.2.1]; rfl
      · cases h
    · cases h
  · cases h
theorem tRTag_ok : TblOk Try.prog tRTag := by
  intro f tm σ C h K hK
  unfold tRTag at h
  split at h
  · rename_i hf
    obtain rfl : f = 16 := by simpa using hf
    split at h
    · split at h
      · rename_i x y a L cap ro _ _ _ p q o n c hx hy hs
        obtain rfl := aslX_eq hs
        simp only [Option.some.injEq] at h; subst h
        obtain ⟨⟨k1, k2, k3⟩, k4⟩ := hK
        intro w0 e W hW vs hvs
        have k5 := k4 _ rfl
        rw [tag_eq p q L o n k1.out k2 k3] at k5
        refine knownC noOv names (conOk_of tRRnd_ok) (rTag_run K p q L o n c cap ro k1.out k2 k3 k5) w0 e W hW vs ?_
        obtain ⟨u, v, s, rfl⟩ : ∃ u v s, vs = [u, v, s] := by
          match vs, map_len hvs with
          | [u, v, s], _ => exact ⟨u, v, s, rfl⟩
        simp only [List.map_cons, List.map_nil, List.cons.injEq, and_true] at hvs ⊢
        refine ⟨?_, ?_, hvs.2.2⟩
        · rw [intX_ok hx hvs.1]; rfl
        · rw [intX_ok hy hvs.2.1]; rfl
      · cases h
    · cases h
  · cases h
theorem tbl5_ok : TblOk Try.prog tbl5 := tblOr_ok tAwake_ok (tblOr_ok tShort_ok (tblOr_ok tTag_ok tRTag_ok))
theorem sumTag_walk (x y : Int) (A : Option Addr) (len cap : Nat) (zs : List Int) (w : World) (hx : (Lit.int .u64 x).wf = true) (hy : (Lit.int .u64 y).wf = true) (h : Came2 .u8 w A len cap zs) : Calls Try.prog 5 #[.int .u64 x, .int .u64 y, .slice A len cap] w fun e w' => e = .returned (.bool true) ∧ Only (fun _ => False) w w' := by
  obtain ⟨q, h1, h2⟩ := h.base 5
  have hB := bytes_wf h.2.2.2.1
  have hrun : run5 5 [xi .u64 x, xi .u64 y, cell (aslC ⟨0, 0, len, cap⟩)] (ar [bs zs 0 true]) := by
    rw [sumTag_vc]
    refine ⟨h.2.1, fun n' hn' => ?_⟩
    have hlen : n' ≤ zs.length ∧ n' ≤ 300 := by rw [hn', h.1]; unfold U.m3; omega
    have hl : 0 + n' ≤ zs.length := by omega
    exact ⟨⟨⟨hB⟩, hl, hlen.2⟩, fun z1 hz1 => ⟨⟨⟨hB⟩, hl, hlen.2⟩, fun z2 hz2 => ⟨fun _ => trivial, fun hne => absurd (hz1.trans hz2.symm) hne⟩⟩⟩
  exact call_true noOv names (conOk_of tbl5_ok) hrun (ok_one (A := A) (len := len) (cap := cap) h2) (vs := [.int .u64 x, .int .u64 y, .slice A len cap]) (by simp [h1 (arE [q]) 0 rfl, xi, xint_av])
end Go.Proofs.Ytpmnioadbkhpoaa
