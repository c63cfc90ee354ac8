/- The document's own answers for layer 1: what Num and Val return. -/
import Derived.Test.YtpdihllpcnnfdaaCame
set_option linter.unusedSimpArgs false
set_option linter.unusedVariables false
namespace Go.Proofs.Ytpdihllpcnnfdaa
open Go.RowKit Ost

/-- Bits as cells. -/
abbrev b01 (l : List Bool) : List Value := l.map fun (b : Bool) => Value.int .i64 ((b.toNat : Nat) : Int)

theorem b01_get {l : List Bool} {j : Nat} (hj : j < l.length) : (b01 l)[j]? = some (.int .i64 (((l.getD j false).toNat : Nat) : Int)) := by
  simp [b01, hj]
theorem b01_set (l : List Bool) (j : Nat) (b : Bool) : (b01 l).set j (.int .i64 ((b.toNat : Nat) : Int)) = b01 (l.set j b) := by simp [b01, List.map_set]
theorem b01_oneCell (l : List Bool) : ∀ u ∈ b01 l, u.oneCell' = true := by
  intro u hu
  obtain ⟨c, _, rfl⟩ := List.mem_map.1 hu
  rfl

/-- What Num has laid after k rounds. -/
def half (n v k : Nat) : List Bool := List.replicate (n - k) false ++ (num n v).drop (n - k)

theorem half_zero (n v : Nat) : half n v 0 = List.replicate n false := by simp [half, num]
theorem half_all (n v : Nat) : half n v n = num n v := by simp [half]
theorem half_length (n v k : Nat) : (half n v k).length = n := by unfold half; rw [List.length_append, List.length_replicate, List.length_drop, num_length]; omega
theorem half_succ (n v k : Nat) (hk : k < n) : (half n v k).set (n - 1 - k) (v.testBit k) = half n v (k + 1) := by
  apply List.ext_getElem?
  intro j
  unfold half
  by_cases hj : j < n
  · rw [List.getElem?_set]
    by_cases h1 : n - 1 - k = j
    · rw [if_pos h1, if_pos (by simp [num_length]; omega), List.getElem?_append_right (by simp; omega), List.length_replicate, List.getElem?_drop,
        show n - (k + 1) + (j - (n - (k + 1))) = j by omega]
      unfold num
      rw [List.getElem?_map, List.getElem?_range hj]
      simp only [Option.map_some]
      rw [show n - 1 - j = k by omega]
    · rw [if_neg h1]
      by_cases h2 : j < n - 1 - k
      · rw [List.getElem?_append_left (by simp; omega), List.getElem?_append_left (by simp; omega), List.getElem?_replicate, List.getElem?_replicate, if_pos (by omega), if_pos (by omega)]
      · rw [List.getElem?_append_right (by simp; omega), List.getElem?_append_right (by simp; omega), List.length_replicate, List.length_replicate, List.getElem?_drop, List.getElem?_drop,
          show n - k + (j - (n - k)) = j by omega, show n - (k + 1) + (j - (n - (k + 1))) = j by omega]
  · rw [List.getElem?_eq_none (by rw [List.length_set]; simp [num_length]; omega), List.getElem?_eq_none (by simp [num_length]; omega)]

theorem mod2 (v k : Nat) : ((v / 2 ^ k : Nat) : Int) % 2 = (((v.testBit k).toNat : Nat) : Int) := by
  rw [Nat.toNat_testBit]; omega

set_option maxHeartbeats 400000 in
theorem refNum_any (n v : Nat) (w : World) (hn : n ≤ 64) (hv : v < 2 ^ 64) :
    Calls Try.prog 28 #[.int .i64 n, .int .u64 v] w fun e w' => ∃ A c, e = .returned (.slice A n c) ∧ w'.ownsRow w.heap.size 3 1 (.slice A n c) n (b01 (num n v)) ∧ Only (fun _ => False) w w' := by
  obtain ⟨i0, hi, hz0, hz1, hz2⟩ := info_parts info3
  go_enter Try.func28, Try.ntmps28
  go_wp2_with (at_make; refine wpList_make_full _ rfl _ _ 26 rfl w.heap.size 3 i0 (.int .i64 0) 1 Try.underlying26 hi hz0 hz1 .i64 .i64 _ _ n rfl rfl rfl rfl (by rw [hz2]; omega) (by unfold maxLen; omega) (Nat.le_refl _) ?_)
  intro w1 hown1 hg1
  have ho1 : Only (fun _ => False) w w1 := ⟨hg1.os, hg1.tape, hg1.output, hg1.size, fun k hk _ => hg1.block k hk (by simp)⟩
  have e1 : (madeCells #[Value.int .i64 0] n).toList = b01 (List.replicate n false) := by
    simp [toList_madeCells_one, b01]
  rw [e1] at hown1
  clear hg1 e1
  go_wp2
  go_loopw [1, 6] (fun x i wr => ∃ k : Nat, k ≤ n ∧ x = .int .u64 ((v / 2 ^ k : Nat) : Int) ∧ i = .int .i64 ((n : Int) - 1 - (k : Int)) ∧ wr.ownsRow w.heap.size 3 1 (.slice (some ⟨w.heap.size, 0, none⟩) n n) n (b01 (half n v k)) ∧ Only (fun _ => False) w wr) (fun _ i _ => (intOf i + 1).toNat)
  case atStart => exact ⟨0, Nat.zero_le _, by simp, by simp, by rw [half_zero]; exact hown1, ho1⟩
  case round =>
    obtain ⟨k, hk, rfl, rfl, hown, ho⟩ := hrel
    by_cases hlt : k < n
    · have hge : (0 : Int) ≤ (n : Int) - 1 - (k : Int) := by omega
      have hix : ((n : Int) - 1 - (k : Int)).toNat = n - 1 - k := by omega
      have hc := hown.cellAt (n - 1 - k) (by omega)
      rw [b01_get (by rw [half_length]; omega)] at hc
      have hf := hown.frozenAt (n - 1 - k)
      have HM := Ost.hid (mod2 v k)
      obtain ⟨x, HX⟩ : ∃ x, Hid (v / 2 ^ k = x) := ⟨_, rfl⟩
      have hx : x < 18446744073709551616 := by rw [← HX.out]; exact Nat.lt_of_le_of_lt (Nat.div_le_self _ _) hv
      have hst := hown.stored (n - 1 - k) (.int .i64 (((v.testBit k).toNat : Nat) : Int))
      rw [b01_set, half_succ n v k hlt] at hst
      have HST := Ost.hid hst.1
      clear hst
      have HX2 : Hid (v / 2 ^ (k + 1) = x / 2) := by show _ = _; rw [Nat.pow_succ, ← Nat.div_div_eq_div_mul, HX.out]
      rw [HX.out] at HM ⊢
      go_wp2
      go_roundw
      case rel =>
        rw [HM.out]
        exact ⟨k + 1, by omega, by rw [HX2.out]; go_num, by rw [show (n : Int) - 1 - ((k + 1 : Nat) : Int) = (n : Int) - 1 - (k : Int) - 1 by omega], HST.out, ho.setCell (fun h => absurd h (by simp)) _⟩
      case measure => simp [intOf]; omega
    · obtain rfl : k = n := by omega
      go_wp2
      go_ret
      rw [half_all] at hown
      exact ⟨_, _, rfl, hown, ho⟩

theorem refVal_any (A : Option Addr) (n c : Nat) (l : List Bool) (w : World) (hl : l.length = n) (hn : n ≤ 64) (hs : Sees w A (b01 l)) :
    Calls Try.prog 18 #[.slice A n c] w fun e w' => e = .returned (.int .u64 ((val l : Nat) : Int)) ∧ w = w' := by
  have HL := Ost.hid hl
  clear hl
  go_enter Try.func18, Try.ntmps18
  go_wp2
  go_loop [3, 8] (fun x i => ∃ k : Nat, k ≤ n ∧ i = .int .i64 k ∧ x = .int .u64 ((val (l.take k) : Nat) : Int)) (fun _ i => n - (intOf i).toNat)
  case atStart => exact ⟨0, Nat.zero_le _, rfl, by simp [val]⟩
  case round =>
    obtain ⟨k, hk, rfl, rfl⟩ := hrel
    by_cases hlt : k < n
    · have hkl : k < l.length := by have := HL.out; omega
      obtain ⟨b, o, rfl, _, hcell⟩ := hs.at_ (b01_get hkl)
      have HV : Hid (val (l.take (k + 1)) = 2 * val (l.take k) + (l.getD k false).toNat) := by
        show _ = _
        rw [List.take_succ_eq_append_getElem hkl, val_snoc]; simp [List.getD, hkl]
      have hv1 : val (l.take k) < 2 ^ k := by have := val_lt (l.take k); rwa [List.length_take, Nat.min_eq_left (by omega)] at this
      have hv2 : (2 : Nat) ^ k ≤ 2 ^ 63 := Nat.pow_le_pow_right (by omega) (by omega)
      obtain ⟨x, HX⟩ : ∃ x, Hid (val (l.take k) = x) := ⟨_, rfl⟩
      obtain ⟨y, HY⟩ : ∃ y, Hid ((l.getD k false).toNat = y) := ⟨_, rfl⟩
      have hx : x < 9223372036854775808 := by rw [← HX.out]; have : (2 : Nat) ^ 63 = 9223372036854775808 := by decide
                                              omega
      have hy : y ≤ 1 := by rw [← HY.out]; exact Bool.toNat_le _
      clear hv1 hv2
      rw [HX.out]
      rw [HY.out] at hcell
      go_wp2
      go_round
      case rel => exact ⟨k + 1, by omega, by go_num, by rw [HV.out, HX.out, HY.out]; go_num⟩
      case measure => simp [intOf]; omega
    · obtain rfl : k = n := by omega
      go_wp2
      go_ret
      have := HL.out
      exact ⟨ret_int (by rw [List.take_of_length_le (by omega)]), rfl⟩
end Go.Proofs.Ytpdihllpcnnfdaa
