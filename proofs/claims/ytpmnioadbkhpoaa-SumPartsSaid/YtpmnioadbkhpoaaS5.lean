/- Layer 3: sum.Net of one part is the Internet's sum. No condition. -/
import Derived.Test.YtpmnioadbkhpoaaS4
set_option linter.unusedVariables false
set_option linter.unusedSimpArgs false
namespace Go.Proofs.Ytpmnioadbkhpoaa
open Go Reck

/-! ### Bits of numbers without a sign -/
theorem u64_of (a : Int) (h : 0 ≤ a ∧ a ≤ 18446744073709551615) : (BitVec.ofInt 64 a).toNat = a.toNat := by
  rw [BitVec.toNat_ofInt]; omega
theorem and_mask {a : Int} (j : Nat) (hj : j < 64) (h : 0 ≤ a ∧ a ≤ 18446744073709551615) {m : Int} (hm : m = 2 ^ j - 1) : andI .u64 a m = a % 2 ^ j := by
  have hp : (2 : Nat) ^ j < 2 ^ 64 := Nat.pow_lt_pow_right (by decide) hj
  have hp0 : 0 < (2 : Nat) ^ j := Nat.pow_pos (by decide)
  have e1 : m = (((2 : Nat) ^ j - 1 : Nat) : Int) := by rw [hm, Int.natCast_sub (by omega)]; simp
  have hc : ((2 : Int) ^ j) = (((2 : Nat) ^ j : Nat) : Int) := by simp
  unfold andI
  show IntKind.u64.wrap ((BitVec.ofInt 64 a &&& BitVec.ofInt 64 m).toNat : Int) = _
  rw [BitVec.toNat_and, u64_of a h, u64_of m (by rw [e1]; omega), e1]
  have : ((((2 : Nat) ^ j - 1 : Nat) : Int)).toNat = 2 ^ j - 1 := by omega
  rw [this, Nat.and_two_pow_sub_one_eq_mod, hc]
  have h2 : a.toNat % 2 ^ j < 2 ^ j := Nat.mod_lt _ hp0
  rw [wrap_in (k := .u64) (by simp [IntKind.min, IntKind.max, IntKind.signed, IntKind.bits]; omega)]
  have : a = (a.toNat : Int) := by omega
  rw [this]; simp
theorem shr_at {a : Int} (j : Nat) (hj : j ≤ 64) (h : 0 ≤ a) {m : Int} (hm : m = j) : shrI .u64 a m = a / 2 ^ j := by
  unfold shrI
  rw [hm, Int.toNat_natCast, show min j (IntKind.bits .u64) = j from Nat.min_eq_left hj, Int.fdiv_eq_ediv_of_nonneg]
  exact Int.le_of_lt (Int.pow_pos (by decide))
theorem xor_full16 {a : Int} (h : 0 ≤ a ∧ a ≤ 65535) : xorI .u16 65535 a = 65535 - a := by
  unfold xorI
  show IntKind.u16.wrap ((BitVec.ofInt 16 65535 ^^^ BitVec.ofInt 16 a).toNat : Int) = _
  have e1 : BitVec.ofInt 16 65535 = BitVec.allOnes 16 := by decide
  have e2 : (BitVec.ofInt 16 a).toNat = a.toNat := by rw [BitVec.toNat_ofInt]; omega
  rw [e1, BitVec.allOnes_xor, BitVec.toNat_not, e2, wrap_in (k := .u16) (by simp [IntKind.min, IntKind.max, IntKind.signed, IntKind.bits]; omega)]
  omega
theorem shl8 {a : Int} (h : 0 ≤ a ∧ a ≤ 255) : shlI .u64 a 8 = a * 256 := by
  unfold shlI
  rw [wrap_in (k := .u64) (by simp [IntKind.min, IntKind.max, IntKind.signed, IntKind.bits]; omega)]
  rfl

theorem netI_zero (h : Bool) (s : Int) (L : List Int) (o n : Nat) : U.netI h s L o n (if h then 1 else 0) 0 s :=
  ⟨0, rfl, Nat.zero_le _, by cases h <;> rfl⟩
theorem netI_end {h : Bool} {s0 : Int} {L : List Int} {o n t : Nat} {k s : Int} (hI : U.netI h s0 L o n t k s) (hl : o + n ≤ L.length) (hk : ¬ k < n) : fold (h, s0) ((L.drop o).take n) = (Nat.beq t 1, s) := by
  obtain ⟨j, h1, h2, h3⟩ := hI
  rw [List.take_of_length_le (by rw [sub_len L o n hl]; omega)] at h3
  exact h3
theorem netI_next {h : Bool} {s0 : Int} {L : List Int} {o n t t' : Nat} {k s k' s' : Int} (hI : U.netI h s0 L o n t k s) (hl : o + n ≤ L.length) (hk : k < n) {j : Nat} (hj : (j : Int) = o + k) (ht : Nat.beq t' 1 = !Nat.beq t 1) (hk' : k' = k + 1)
    (hs : s' = s + (if Nat.beq t 1 then L.getD j 0 * 256 else L.getD j 0)) : U.netI h s0 L o n t' k' s' := by
  obtain ⟨i, h1, h2, h3⟩ := hI
  have hlen := sub_len L o n hl
  refine ⟨i + 1, by rw [hk', h1]; simp, by omega, ?_⟩
  have hji : j = o + i := by omega
  rw [take_get (by omega), fold_snoc, h3, sub_get L o n i hl (by omega), ht, hs, hji]
theorem netI_bnd {h : Bool} {s0 : Int} {L : List Int} {o n t : Nat} {k s : Int} (hI : U.netI h s0 L o n t k s) (hb : byteL L) (hn : n ≤ 300) : 0 ≤ k ∧ k ≤ 300 ∧ s0 ≤ s ∧ s ≤ s0 + 65280 * 300 := by
  obtain ⟨j, h1, h2, h3⟩ := hI
  have := fold_bnd h s0 (((L.drop o).take n).take j) (byteL_take (byteL_sub hb o n) j)
  rw [h3] at this
  have h4 : (((L.drop o).take n).take j).length ≤ 300 := by simp; omega
  dsimp only at this
  omega
theorem downI_zero (s : Int) (h : 0 ≤ s) : U.downI s s := ⟨h, rfl, Iff.rfl, Int.le_refl _⟩
theorem down_next {s0 x z11 z12 z13 : Int} (hI : U.downI s0 x) (hb : s0 ≤ 4294967295) (hx : 65535 < x) (h11 : z11 = shrI .u64 x 16) (h12 : z12 = andI .u64 x 65535) (h13 : z13 = IntKind.wrap .u64 (z11 + z12)) : U.downI s0 z13 ∧ z13.toNat < x.toNat := by
  obtain ⟨h1, h2, h3, h4⟩ := hI
  have e11 : z11 = x / 65536 := by rw [h11]; exact shr_at 16 (by omega) h1 rfl
  have e12 : z12 = x % 65536 := by rw [h12]; exact and_mask 16 (by omega) (by omega) rfl
  have e13 : z13 = z11 + z12 := wu64 h13 (by omega)
  exact ⟨⟨by omega, by omega, by omega, by omega⟩, by omega⟩
theorem down_end {s0 x z15 z16 : Int} (hI : U.downI s0 x) (h0 : 0 ≤ s0) (hx : ¬ 65535 < x) (h15 : z15 = IntKind.wrap .u16 x) (h16 : z16 = xorI .u16 65535 z15) : z16 = netS s0 := by
  obtain ⟨h1, h2, h3, h4⟩ := hI
  have e15 : z15 = x := wu16 h15 (by omega)
  rw [h16, e15, xor_full16 (by omega)]
  unfold netS
  by_cases hz : s0 = 0
  · rw [if_pos hz]; omega
  · rw [if_neg hz]; split <;> omega

theorem net1_run (K : AV → St → Prop) (L : List Int) (o n c cap : Nat) (ro : Bool) (hb : byteL L) (hl : o + n ≤ L.length) (hn : n ≤ 300)
    (h : K (xi .u16 (netS (fold (true, 0) ((L.drop o).take n)).2)) ⟨[pt [aslC ⟨0, o, n, c⟩]], [], 0, [some (bs L cap ro)], 0⟩) : run0 10 [sl ⟨0, 0, 1, none, 1⟩] ⟨[pt [aslC ⟨0, o, n, c⟩]], [], 0, [some (bs L cap ro)], 0⟩ K := by
  rw [net1_vc]
  intro z0 hz0
  refine ⟨⟨(0, 0), ?_⟩, ?_, ?_⟩
  · simp only [and_self, true_and]; exact netI_zero true 0 L o n
  all_goals
    intro x hI
    have hB := netI_bnd hI hb hn
    refine ⟨fun hlt => ⟨by omega, fun j hj => ⟨by omega, ?_⟩⟩, fun hge => ⟨⟨x.2, ?_⟩, fun y hD => ⟨fun hgt => ⟨by omega, fun z11 h11 z12 h12 z13 h13 => ⟨z13, ?_⟩⟩, fun hle z15 h15 z16 h16 => ?_⟩⟩⟩
  · intro z4 h4 z5 h5 z6 h6 z7 h7
    have b := byteL_get hb j
    rw [← h4] at b
    have e5 := wu64 h5 (by omega)
    have e6 := wu64 h6 (by omega)
    have e7 := w64 h7 (by omega)
    refine ⟨(_, _), rfl, ⟨rfl, rfl, rfl⟩, ⟨rfl, rfl, rfl⟩, ⟨rfl, rfl, rfl⟩, rfl, rfl, ⟨rfl, rfl, rfl⟩, ⟨rfl, rfl, rfl⟩, ?_, by dsimp only; omega⟩
    exact netI_next hI hl (by omega) hj rfl e7 (by rw [e6, e5, h4]; rfl)
  · refine ⟨rfl, ⟨rfl, rfl, rfl⟩, ⟨rfl, rfl, rfl⟩, ⟨rfl, rfl, rfl⟩, rfl, rfl, ⟨rfl, rfl, rfl⟩, ⟨rfl, rfl, rfl⟩, downI_zero _ (by omega)⟩
  · refine ⟨rfl, ⟨rfl, rfl, rfl⟩, ⟨rfl, rfl, rfl⟩, ⟨rfl, rfl, rfl⟩, rfl, rfl, ⟨rfl, rfl, rfl⟩, ⟨rfl, rfl, rfl⟩, down_next hD (by omega) hgt h11 h12 h13⟩
  · have := down_end hD (by omega) hle h15 h16
    have e := netI_end hI hl (by omega)
    rw [e, ← this] at h; exact h
  · intro z4 h4 z5 h5
    have b := byteL_get hb j
    rw [← h4] at b
    have e5 := wu64 h5 (by omega)
    refine ⟨by omega, fun z21 h21 z6 h6 z7 h7 => ?_⟩
    have e21 : z21 = z4 * 256 := by rw [h21, e5]; exact shl8 b
    have e6 := wu64 h6 (by omega)
    have e7 := w64 h7 (by omega)
    refine ⟨(_, _), rfl, ⟨rfl, rfl, rfl⟩, ⟨rfl, rfl, rfl⟩, ⟨rfl, rfl, rfl⟩, rfl, rfl, ⟨rfl, rfl, rfl⟩, ⟨rfl, rfl, rfl⟩, ?_, by dsimp only; omega⟩
    exact netI_next hI hl (by omega) hj rfl e7 (by rw [e6, e21, h4]; rfl)
  · refine ⟨rfl, ⟨rfl, rfl, rfl⟩, ⟨rfl, rfl, rfl⟩, ⟨rfl, rfl, rfl⟩, rfl, rfl, ⟨rfl, rfl, rfl⟩, ⟨rfl, rfl, rfl⟩, downI_zero _ (by omega)⟩
  · refine ⟨rfl, ⟨rfl, rfl, rfl⟩, ⟨rfl, rfl, rfl⟩, ⟨rfl, rfl, rfl⟩, rfl, rfl, ⟨rfl, rfl, rfl⟩, ⟨rfl, rfl, rfl⟩, down_next hD (by omega) hgt h11 h12 h13⟩
  · have := down_end hD (by omega) hle h15 h16
    have e := netI_end hI hl (by omega)
    rw [e, ← this] at h; exact h
end Go.Proofs.Ytpmnioadbkhpoaa
