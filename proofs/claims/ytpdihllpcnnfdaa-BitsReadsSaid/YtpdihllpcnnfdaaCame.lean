/- What came in as integers, as natural numbers. No condition. -/
import Derived.Test.YtpdihllpcnnfdaaAwake
import Derived.OpenShut
set_option linter.unusedSimpArgs false
set_option linter.unusedVariables false
namespace Go.Proofs.Ytpdihllpcnnfdaa
open Go.RowKit Ost

theorem nats_of {lo hi : Int} (h0 : 0 ≤ lo) (zs : List Int) (h : ∀ n ∈ zs, lo ≤ n ∧ n ≤ hi) : ∃ bs : List Nat, zs = bs.map (fun (b : Nat) => (b : Int)) ∧ ∀ b ∈ bs, (b : Int) ≤ hi := by
  refine ⟨zs.map Int.toNat, ?_, ?_⟩
  · rw [List.map_map]
    conv => lhs; rw [← List.map_id zs]
    apply List.map_congr_left
    intro n hn
    have := h n hn
    simp; omega
  · intro b hb
    obtain ⟨n, hn, rfl⟩ := List.mem_map.1 hb
    have := h n hn
    omega

theorem came_u8 {w : World} {A : Option Addr} {len cap : Nat} {zs : List Int} (h : Came .u8 w A len cap zs) : ∃ bs : List Nat, bs.length = len ∧ Sees w A (u8s bs) ∧ (∀ x ∈ bs, x < 256) := by
  obtain ⟨h1, _, _, _, hs, hw⟩ := h
  obtain ⟨bs, rfl, hb⟩ := nats_of (lo := 0) (hi := 255) (by omega) zs (fun n hn => by have := bounds_u8 (hw n hn); omega)
  refine ⟨bs, by simpa using h1, ?_, fun x hx => by have := hb x hx; omega⟩
  simpa [u8s, Function.comp_def] using hs

theorem came_u64 {w : World} {A : Option Addr} {len cap : Nat} {zs : List Int} (h : Came .u64 w A len cap zs) : ∃ bs : List Nat, bs.length = len ∧ Sees w A (u64s bs) ∧ (∀ x ∈ bs, x < 2 ^ 64) := by
  obtain ⟨h1, _, _, _, hs, hw⟩ := h
  obtain ⟨bs, rfl, hb⟩ := nats_of (lo := 0) (hi := 18446744073709551615) (by omega) zs (fun n hn => by have := bounds_u64 (hw n hn); omega)
  refine ⟨bs, by simpa using h1, ?_, fun x hx => by have := hb x hx; omega⟩
  simpa [u64s, Function.comp_def] using hs

theorem right_yes (n : Int) (w : World) (h1 : 1 ≤ n) (h2 : n ≤ 64) : Calls Try.prog 20 #[.int .i64 n] w fun e w' => e = .returned (.bool true) ∧ w = w' := by
  go_enter Try.func20, Try.ntmps20
  go_wp2
  go_ret
  exact ⟨by simp [h2], rfl⟩
theorem right_no (n : Int) (w : World) (h : n < 1 ∨ 64 < n) : Calls Try.prog 20 #[.int .i64 n] w fun e w' => e = .returned (.bool false) ∧ w = w' := by
  rcases h with h | h
  · go_enter Try.func20, Try.ntmps20
    go_wp2
    go_ret
    exact ⟨rfl, rfl⟩
  · have h1 : 1 ≤ n := by omega
    have h2 : ¬ n ≤ 64 := by omega
    go_enter Try.func20, Try.ntmps20
    go_wp2
    go_ret
    exact ⟨by first | (simp; done) | (simp; omega), rfl⟩
end Go.Proofs.Ytpdihllpcnnfdaa
