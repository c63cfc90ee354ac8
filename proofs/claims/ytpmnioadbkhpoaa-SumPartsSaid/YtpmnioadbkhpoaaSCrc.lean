/- SumCrc: for any bytes the statement returns true. No condition. -/
import Derived.Test.YtpmnioadbkhpoaaC3
set_option linter.unusedVariables false
set_option linter.unusedSimpArgs false
namespace Go.Proofs.Ytpmnioadbkhpoaa
open Go Reck Ost
theorem ok_one {A : Option Addr} {len cap : Nat} {zs : List Int} {w : World} {q : Option Addr ⊕ (Nat × Nat)} (h2 : ∀ e : Env, e.S = (fun _ => False) → AOk w w e ⟨5, .u8, zs, 0, true⟩ q) : Ok w (arE [q]) (ar [bs zs 0 true]) w :=
  ok_arrs w (l := [bs zs 0 true]) rfl (by simp [bs]) (by
    intro i x p hx hp
    rcases i with _ | i <;> simp at hx hp
    subst hx; subst hp; exact h2 _ rfl)
theorem sumCrc_walk (A : Option Addr) (len cap : Nat) (zs : List Int) (w : World) (h : Came2 .u8 w A len cap zs) : Calls Try.prog 4 #[.slice A len cap] w fun e w' => e = .returned (.bool true) ∧ Only (fun _ => False) w w' := by
  obtain ⟨q, h1, h2⟩ := h.base 5
  have hB := bytes_wf h.2.2.2.1
  have hrun : run2 4 [cell (aslC ⟨0, 0, len, cap⟩)] (ar [bs zs 0 true]) := by
    rw [sumCrc_vc]
    refine ⟨h.2.1, fun n' hn' => ?_⟩
    have hlen : n' ≤ zs.length ∧ n' ≤ 300 := by rw [hn', h.1]; unfold U.m3; omega
    refine ⟨⟨⟨hB⟩, by simpa using hlen.1, hlen.2⟩, fun z1 hz1 => ⟨⟨⟨hB⟩, by simpa using hlen.1, hlen.2⟩, fun z2 hz2 => ⟨fun _ => trivial, fun hne => absurd (hz1.trans hz2.symm) hne⟩⟩⟩
  exact call_true noOv names (conOk_of tbl2_ok) hrun (ok_one (A := A) (len := len) (cap := cap) h2) (vs := [.slice A len cap]) (by simp [h1 (arE [q]) 0 rfl])
end Go.Proofs.Ytpmnioadbkhpoaa
