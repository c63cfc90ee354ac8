/- Layer 3: the two tags are one. No condition. -/
import Derived.Test.YtpmnioadbkhpoaaG7
set_option linter.unusedVariables false
set_option linter.unusedSimpArgs false
set_option maxRecDepth 10000
namespace Go.Proofs.Ytpmnioadbkhpoaa
open Go Reck
def pw (P : List Int) (i : Nat) : Nat → Int
  | 0 => 0
  | r + 1 => pw P i r + P.getD (8 * i + r) 0 * 256 ^ r
theorem pw_in {P : List Int} (hb : byteL P) (i r : Nat) : 0 ≤ pw P i r ∧ pw P i r < 256 ^ r := by
  induction r with
  | zero => exact ⟨Int.le_refl _, by show (0 : Int) < 1; decide⟩
  | succ r ih =>
    have hc := byteL_get hb (8 * i + r)
    rw [Int.pow_succ]
    show 0 ≤ pw P i r + P.getD (8 * i + r) 0 * 256 ^ r ∧ pw P i r + P.getD (8 * i + r) 0 * 256 ^ r < _
    have h0 : (0 : Int) ≤ 256 ^ r := Int.pow_nonneg (by decide)
    have h1 : 0 ≤ P.getD (8 * i + r) 0 * 256 ^ r := Int.mul_nonneg hc.1 h0
    have h2 : P.getD (8 * i + r) 0 * 256 ^ r ≤ 255 * 256 ^ r := Int.mul_le_mul_of_nonneg_right hc.2 h0
    omega
theorem word_pw (P : List Int) (i : Nat) : wordFrom P i 8 = pw P i 8 := by
  simp only [wordFrom, pw, Nat.reduceSub, Nat.reduceAdd, Nat.add_zero]
  omega
theorem pw_const {P : List Int} (i r : Nat) (h : P.length ≤ 8 * i + r) : ∀ s, pw P i (r + s) = pw P i r := by
  intro s
  induction s with
  | zero => rfl
  | succ s ih =>
    show pw P i (r + s) + P.getD (8 * i + (r + s)) 0 * 256 ^ (r + s) = _
    rw [ih, List.getD_eq_getElem?_getD, List.getElem?_eq_none (by omega)]; simp
theorem or_add {a b : Int} (s : Nat) (ha : 0 ≤ a ∧ a < 2 ^ s) (hb : 0 ≤ b) (h : b * 2 ^ s ≤ 18446744073709551615) (ha2 : a ≤ 18446744073709551615) : orI .u64 a (b * 2 ^ s) = a + b * 2 ^ s := by
  obtain ⟨x, rfl⟩ : ∃ x : Nat, a = x := ⟨a.toNat, by omega⟩
  obtain ⟨y, rfl⟩ : ∃ y : Nat, b = y := ⟨b.toNat, by omega⟩
  have e : ((y : Int) * 2 ^ s) = ((y * 2 ^ s : Nat) : Int) := by push_cast; rfl
  have hx : x < 2 ^ s := by have := ha.2; exact_mod_cast this
  rw [e] at h ⊢
  rw [or_nat x _ (by omega) (by omega)]
  have := Nat.shiftLeft_add_eq_or_of_lt hx y
  rw [Nat.shiftLeft_eq, Nat.or_comm] at this
  rw [← this]; push_cast; omega
theorem pow_256 (r : Nat) : (256 : Int) ^ r = 2 ^ (8 * r) := by rw [Int.pow_mul]; rfl
theorem part_step {P : List Int} (hb : byteL P) (v : W4) (i r : Nat) (hr : r < 8) : tstep (v, pw P i r, ((8 * i + r : Nat) : Int)) (P.getD (8 * i + r) 0) = if r = 7 then (U.ad v (pw P i 8), 0, ((8 * i + 8 : Nat) : Int)) else (v, pw P i (r + 1), ((8 * i + (r + 1) : Nat) : Int)) := by
  have hc := byteL_get hb (8 * i + r)
  have hp := pw_in hb i r
  have hp8 := pow8 r hr
  have hsh : shlI .u64 (P.getD (8 * i + r) 0) (((8 * i + r : Nat) : Int) % 8 * 8) = P.getD (8 * i + r) 0 * 256 ^ r := by
    unfold shlI
    rw [show ((((8 * i + r : Nat) : Int) % 8 * 8).toNat) = 8 * r by omega, show min (8 * r) (IntKind.bits .u64) = 8 * r from Nat.min_eq_left (by show 8 * r ≤ 64; omega), ← pow_256, wrapU]
    have h0 : (0 : Int) ≤ P.getD (8 * i + r) 0 * 256 ^ r := Int.mul_nonneg hc.1 (by omega)
    have h2 : P.getD (8 * i + r) 0 * 256 ^ r ≤ 255 * 256 ^ r := Int.mul_le_mul_of_nonneg_right hc.2 (by omega)
    omega
  have hor : orI .u64 (pw P i r) (shlI .u64 (P.getD (8 * i + r) 0) (((8 * i + r : Nat) : Int) % 8 * 8)) = pw P i (r + 1) := by
    rw [hsh]
    have h2 : P.getD (8 * i + r) 0 * 256 ^ r ≤ 255 * 256 ^ r := Int.mul_le_mul_of_nonneg_right hc.2 (by omega)
    have := or_add (8 * r) (a := pw P i r) (b := P.getD (8 * i + r) 0) (by rw [← pow_256]; exact hp) hc.1 (by rw [← pow_256]; omega) (by omega)
    rw [← pow_256] at this
    rw [this]; rfl
  unfold tstep
  simp only
  rw [hor]
  by_cases h7 : r = 7
  · subst h7
    rw [if_pos (by omega), if_pos rfl]
    congr 2
  · rw [if_neg (by omega), if_neg h7]
    congr 2
theorem part {P : List Int} (hb : byteL P) (v : W4) (i : Nat) : ∀ r, r < 8 → 8 * i + r ≤ P.length → ∀ l, tfold (v, 0, ((8 * i : Nat) : Int)) (((P.drop (8 * i)).take r) ++ l) = tfold (v, pw P i r, ((8 * i + r : Nat) : Int)) l := by
  intro r
  induction r with
  | zero => intro _ _ l; rfl
  | succ r ih =>
    intro hr hl l
    rw [take_get (by simp; omega), List.append_assoc, ih (by omega) (by omega)]
    have hg : (P.drop (8 * i)).getD r 0 = P.getD (8 * i + r) 0 := by simp [List.getD, List.getElem?_drop]
    rw [hg]
    show tfold (tstep _ _) l = _
    rw [part_step hb v i r (by omega), if_neg (by omega)]
theorem whole {P : List Int} (hb : byteL P) (v : W4) (i : Nat) (h : 8 * i + 8 ≤ P.length) : tfold (v, 0, ((8 * i : Nat) : Int)) ((P.drop (8 * i)).take 8) = (U.ad v (pw P i 8), 0, ((8 * i + 8 : Nat) : Int)) := by
  rw [take_get (by simp; omega), part hb v i 7 (by omega) (by omega)]
  have hg : (P.drop (8 * i)).getD 7 0 = P.getD (8 * i + 7) 0 := by simp [List.getD, List.getElem?_drop]
  rw [hg]
  show tstep _ _ = _
  rw [part_step hb v i 7 (by omega), if_pos rfl]
theorem words {P : List Int} (hb : byteL P) (v : W4) : ∀ i, i ≤ P.length / 8 → tfold (v, 0, 0) (P.take (8 * i)) = (U.rfold v P i, 0, ((8 * i : Nat) : Int)) := by
  intro i
  induction i with
  | zero => intro _; rfl
  | succ i ih =>
    intro h
    have e : P.take (8 * (i + 1)) = P.take (8 * i) ++ (P.drop (8 * i)).take 8 := by
      rw [show 8 * (i + 1) = 8 * i + 8 by omega, List.take_add]
    have : tfold (v, 0, 0) (P.take (8 * (i + 1))) = tfold (tfold (v, 0, 0) (P.take (8 * i))) ((P.drop (8 * i)).take 8) := by rw [e]; simp [tfold]
    rw [this, ih (by omega), whole hb _ i (by omega)]
    show _ = (U.ad _ _, _, _)
    rw [if_neg (by omega), word_pw]
    congr 2
theorem tag_eq (a b : Int) (L : List Int) (o n : Nat) (hb : byteL L) (hl : o + n ≤ L.length) (hn : n ≤ 300) : U.T a b L o n = U.RT a b L o n := by
  unfold U.T U.RT
  have hlen := sub_len L o n hl
  have hB := byteL_sub hb o n
  generalize (L.drop o).take n = P at *
  generalize initW a b = v
  have e : P = P.take (8 * (n / 8)) ++ ((P.drop (8 * (n / 8))).take (n % 8) ++ []) := by
    rw [List.append_nil, List.take_of_length_le (l := P.drop _) (by simp; omega), List.take_append_drop]
  have hf : tfold (v, 0, 0) P = (U.rfold v P (n / 8), pw P (n / 8) (n % 8), (n : Int)) := by
    have h1 : tfold (v, 0, 0) P = tfold (tfold (v, 0, 0) (P.take (8 * (n / 8)))) ((P.drop (8 * (n / 8))).take (n % 8) ++ []) := by
      conv => lhs; rw [e]
      simp only [tfold, List.foldl_append]
    rw [h1, words hB v _ (by omega), part hB _ (n / 8) (n % 8) (by omega) (by omega)]
    show (_, _, _) = _
    rw [show 8 * (n / 8) + n % 8 = n by omega]
  rw [hf]
  show finW (U.ad _ (lastM (_, _, _))) = finW (U.ad (U.rfold v P (n / 8)) _)
  rw [if_pos (by omega)]
  congr 2
  unfold lastM
  dsimp only
  have hp := pw_in hB (n / 8) (n % 8)
  have hp8 := pow8 (n % 8) (by omega)
  have hw : wordFrom P (n / 8) 8 = pw P (n / 8) (n % 8) := by
    rw [word_pw]
    have := pw_const (P := P) (n / 8) (n % 8) (by omega) (8 - n % 8)
    rw [show n % 8 + (8 - n % 8) = 8 by omega] at this
    exact this
  have hs : shlI .u64 (n : Int) 56 = ((n % 256 : Nat) : Int) * 2 ^ 56 := by
    unfold shlI
    rw [show min (Int.toNat 56) (IntKind.bits .u64) = 56 from rfl, wrapU]; omega
  have h7 : pw P (n / 8) (n % 8) < 2 ^ 56 := by have : (2 : Int) ^ 56 = 72057594037927936 := rfl; omega
  rw [hs, or_add 56 ⟨hp.1, h7⟩ (by omega) (by omega) (by omega), hw, hlen, wrapU]
  omega
end Go.Proofs.Ytpmnioadbkhpoaa
