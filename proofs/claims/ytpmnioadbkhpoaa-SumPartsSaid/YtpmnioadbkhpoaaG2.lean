/- Layer 3: a word turned. No condition. -/
import Derived.Test.YtpmnioadbkhpoaaG1
set_option linter.unusedVariables false
set_option linter.unusedSimpArgs false
namespace Go.Proofs.Ytpmnioadbkhpoaa
open Go Reck
theorem wrapU (n : Int) : IntKind.wrap .u64 n = n % 18446744073709551616 := by simp [IntKind.wrap, IntKind.signed, IntKind.bits]
/-- A natural number of 64 bits, turned by n places. -/
def rotNat (n v : Nat) : Nat := (v % 2 ^ (64 - n)) * 2 ^ n + v / 2 ^ (64 - n)
theorem rot_step (P Q h l b : Nat) (hPQ : P * Q = 9223372036854775808) (hl : l < P) (hh : h < Q) (hb : b < 2) :
    (((b * P + l) * Q + h) * 2) % 18446744073709551616 + ((b * P + l) * Q + h) / 9223372036854775808 = l * (2 * Q) + (2 * h + b) := by
  have e1 : (b * P + l) * Q + h = b * 9223372036854775808 + (l * Q + h) := by rw [Nat.add_mul, Nat.mul_assoc, hPQ]; omega
  have e2 : l * Q + h < 9223372036854775808 := by
    have : (l + 1) * Q ≤ P * Q := Nat.mul_le_mul_right _ hl
    rw [hPQ, Nat.add_mul] at this; omega
  have e3 : l * (2 * Q) = 2 * (l * Q) := by rw [Nat.mul_left_comm]
  rw [e1, e3]
  generalize l * Q = M at *
  rcases (by omega : b = 0 ∨ b = 1) with rfl | rfl <;> omega
theorem rotN_in (n : Nat) (w : Int) (h : 0 ≤ w ∧ w ≤ 18446744073709551615) : 0 ≤ rotN n w ∧ rotN n w ≤ 18446744073709551615 := by
  cases n with
  | zero => exact h
  | succ n => show 0 ≤ rot1 _ ∧ rot1 _ ≤ _; unfold rot1; rw [wrapU]; omega
theorem rotN_nat (n : Nat) (v : Nat) (hn : n ≤ 64) (hv : v < 18446744073709551616) : rotN n v = (rotNat n v : Nat) := by
  induction n with
  | zero =>
    show (v : Int) = _
    unfold rotNat
    rw [Nat.mod_eq_of_lt (by simpa using hv), Nat.div_eq_of_lt (by simpa using hv)]; simp
  | succ n ih =>
    show rot1 (rotN n v) = _
    have hr := rotN_in n v (by omega)
    rw [ih (by omega)] at hr ⊢
    unfold rot1
    unfold rotNat at *
    rw [wrapU, wrapU]
    have hp : 2 ^ (64 - n) = 2 * 2 ^ (64 - (n + 1)) := by rw [show 64 - n = (64 - (n + 1)) + 1 by omega, Nat.pow_succ, Nat.mul_comm]
    have hq : 2 ^ (n + 1) = 2 * 2 ^ n := by rw [Nat.pow_succ, Nat.mul_comm]
    have hPQ : 2 ^ (64 - (n + 1)) * 2 ^ n = 9223372036854775808 := by rw [← Nat.pow_add, show 64 - (n + 1) + n = 63 by omega]
    have hP0 : 0 < 2 ^ (64 - (n + 1)) := Nat.pow_pos (by decide)
    rw [hp] at hr ⊢
    rw [hq]
    generalize 2 ^ (64 - (n + 1)) = P at *
    generalize 2 ^ n = Q at *
    have hl : v % P < P := Nat.mod_lt _ hP0
    have hb : v / P % 2 < 2 := Nat.mod_lt _ (by decide)
    have hv1 : v = (v / P) * P + v % P := by rw [Nat.mul_comm]; exact (Nat.div_add_mod v P).symm
    have hm : v % (2 * P) = (v / P % 2) * P + v % P := by rw [Nat.mul_comm 2 P, Nat.mod_mul, Nat.mul_comm P]; omega
    have hd : v / (2 * P) = v / P / 2 := by rw [Nat.mul_comm, Nat.div_div_eq_div_mul]
    have hh : v / P / 2 < Q := by
      rw [Nat.div_div_eq_div_mul]
      apply Nat.div_lt_of_lt_mul
      have : P * 2 * Q = 2 * (P * Q) := by rw [Nat.mul_right_comm, Nat.mul_comm]
      rw [this, hPQ]; exact hv
    have key := rot_step P Q (v / P / 2) (v % P) (v / P % 2) hPQ hl hh hb
    rw [hm, hd] at hr ⊢
    have hx : v / P = 2 * (v / P / 2) + v / P % 2 := by omega
    rw [← hx] at key
    generalize ((v / P % 2) * P + v % P) * Q + v / P / 2 = Z at *
    have hz : Z * 2 % 18446744073709551616 + Z / 9223372036854775808 < 18446744073709551616 := by omega
    rw [← key]
    omega
theorem rot_in (w k : Int) (h : 0 ≤ w ∧ w ≤ 18446744073709551615) : 0 ≤ U.rot w k ∧ U.rot w k ≤ 18446744073709551615 := rotN_in _ w h
theorem ofNat64 (a : Nat) (h : a < 18446744073709551616) : (BitVec.ofInt 64 (a : Int)).toNat = a := by
  rw [u64_of _ (by omega)]; simp
theorem or_nat (a b : Nat) (ha : a < 18446744073709551616) (hb : b < 18446744073709551616) : orI .u64 (a : Int) (b : Int) = ((a ||| b : Nat) : Int) := by
  unfold orI
  show IntKind.u64.wrap ((BitVec.ofInt 64 (a : Int) ||| BitVec.ofInt 64 (b : Int)).toNat : Int) = _
  rw [BitVec.toNat_or, ofNat64 a ha, ofNat64 b hb, wrapU]
  have : a ||| b < 2 ^ 64 := Nat.or_lt_two_pow ha hb
  omega
theorem rot_run (K : AV → St → Prop) (w k : Int) (hw : 0 ≤ w ∧ w ≤ 18446744073709551615) (hk : 0 < k ∧ k < 64) (h : K (xi .u64 (U.rot w k)) emptySt) : runT tbl0 21 [xi .u64 w, xi .i64 k] emptySt K := by
  rw [rot_vc]
  intro z0 h0 z1 h1
  have e0 : z0 = k := wu64 h0 (by omega)
  have e1 : z1 = k := by rw [h1, e0, and_mask (m := 63) 6 (by omega) (by omega) rfl]; omega
  refine ⟨by omega, fun z2 h2 z3 h3 => ?_⟩
  have e3 : z3 = 64 - k := by rw [wu64 h3 (by omega), e1]
  refine ⟨by omega, fun z4 h4 z5 h5 => ?_⟩
  have e5 : z5 = U.rot w k := by
    obtain ⟨v, rfl⟩ : ∃ v : Nat, w = v := ⟨w.toNat, by omega⟩
    obtain ⟨n, rfl⟩ : ∃ n : Nat, k = n := ⟨k.toNat, by omega⟩
    have hn : n < 64 := by omega
    have hv : v < 18446744073709551616 := by omega
    have e4 : z4 = ((v / 2 ^ (64 - n) : Nat) : Int) := by
      rw [h4, shr_at (64 - n) (by omega) (by omega) (by omega)]; push_cast; rfl
    have hPQ : 2 ^ (64 - n) * 2 ^ n = 18446744073709551616 := by rw [← Nat.pow_add, show 64 - n + n = 64 by omega]
    have e2 : z2 = ((v % 2 ^ (64 - n) * 2 ^ n : Nat) : Int) := by
      rw [h2, e1]; unfold shlI
      rw [wrapU, Int.toNat_natCast, show min n (IntKind.bits .u64) = n from Nat.min_eq_left (by show n ≤ 64; omega)]
      have : (v : Int) * 2 ^ n = ((v * 2 ^ n : Nat) : Int) := by push_cast; rfl
      have hm : v % 2 ^ (64 - n) * 2 ^ n = v * 2 ^ n % 18446744073709551616 := by rw [← hPQ, Nat.mul_mod_mul_right]
      rw [this, hm]
      omega
    have hlt : v / 2 ^ (64 - n) < 2 ^ n := by
      apply Nat.div_lt_of_lt_mul; rw [hPQ]; exact hv
    have hlt2 : v % 2 ^ (64 - n) * 2 ^ n < 18446744073709551616 := by
      rw [← hPQ]; exact Nat.mul_lt_mul_of_pos_right (Nat.mod_lt _ (Nat.pow_pos (by decide))) (Nat.pow_pos (by decide))
    have hb2 : v / 2 ^ (64 - n) < 18446744073709551616 := Nat.lt_of_le_of_lt (Nat.div_le_self _ _) hv
    rw [h5, e2, e4, or_nat _ _ hlt2 hb2]
    unfold U.rot
    rw [Int.toNat_natCast, rotN_nat n v (by omega) hv]
    unfold rotNat
    have := Nat.shiftLeft_add_eq_or_of_lt hlt (v % 2 ^ (64 - n))
    rw [Nat.shiftLeft_eq] at this
    rw [this]
  rw [← e5] at h; exact h
theorem turn_run (K : AV → St → Prop) (w k : Int) (hw : 0 ≤ w ∧ w ≤ 18446744073709551615) (hk : 0 < k ∧ k < 64) (h : K (xi .u64 (U.rot w k)) emptySt) : runT tbl0 23 [xi .u64 w, xi .i64 k] emptySt K := by
  rw [turn_vc]
  refine ⟨⟨(0, w), rfl, rfl, rfl, ⟨0, rfl, by simp; omega, rfl, hw⟩⟩, ?_⟩
  rintro ⟨i, x⟩ ⟨j, h1, h2, h3, h4⟩
  dsimp only at *
  refine ⟨fun hlt z2 e2 => ⟨by decide, fun z3 e3 z4 e4 z5 e5 => ⟨(z5, z4), rfl, rfl, rfl, ⟨j + 1, ?_, ?_, ?_, ?_⟩, ?_⟩⟩, fun hge => ?_⟩
  · have := w64 e5 (by omega); simp; omega
  · have := w64 e5 (by omega); push_cast; omega
  · show z4 = rot1 (rotN j w)
    rw [Int.tdiv_eq_ediv_of_nonneg (by omega)] at e3
    have e3 := wu64 e3 (by omega)
    rw [e4, e2, e3, ← h3]; rfl
  · show 0 ≤ z4 ∧ z4 ≤ _; rw [e4, wrapU]; omega
  · have := w64 e5 (by omega); dsimp only; omega
  · have : k.toNat = j := by omega
    unfold U.rot at h
    rw [this, ← h3] at h; exact h
theorem tRot_ok : TblOk Try.prog tRot := by
  intro f tm σ C h K hK
  unfold tRot at h
  split at h
  · rename_i hf
    split at h
    · split at h
      · rename_i a b _ _ w k hw hc
        simp only [Option.some.injEq] at h; subst h
        obtain ⟨⟨k1, k2⟩, k3⟩ := hK
        intro w0 e W hk vs hvs
        have hvs' : [xi .u64 w, xi .i64 k].map (Reck.av e) = vs.map some := by
          obtain ⟨x, y, rfl⟩ : ∃ x y, vs = [x, y] := by
            match vs, map_len hvs with
            | [x, y], _ => exact ⟨x, y, rfl⟩
          simp only [List.map_cons, List.map_nil, List.cons.injEq, and_true] at hvs ⊢
          rw [intX_ok hw hvs.1, intX_ok hc hvs.2]
          exact ⟨rfl, rfl⟩
        simp at hf
        rcases hf with rfl | rfl
        · exact knownC noOv names (conOk_of tbl0_ok) (rot_run K w k k1 k2 (k3 _ rfl)) w0 e W hk vs hvs'
        · exact knownC noOv names (conOk_of tbl0_ok) (turn_run K w k k1 k2 (k3 _ rfl)) w0 e W hk vs hvs'
      · cases h
    · cases h
  · cases h
end Go.Proofs.Ytpmnioadbkhpoaa
