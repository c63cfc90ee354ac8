/- BitsSplit's walk: for every bytes, place and two lengths the law returns true and leaves old memory as it was. No condition. -/
import Derived.Test.YtpdihllpcnnfdaaCame
set_option linter.unusedSimpArgs false
set_option linter.unusedVariables false
namespace Go.Proofs.Ytpdihllpcnnfdaa
open Go.RowKit Ost

theorem split_join (x y n m : Nat) (hx : x < 2 ^ n) (hy : y < 2 ^ m) (h : n + m ≤ 64) : bits .or .u64 (IntKind.u64.wrap ((x : Int) * 2 ^ m)) (y : Int) = ((x * 2 ^ m + y : Nat) : Int) := by
  rw [← join_u64 x y m n hx hy h, IntKind.wrap_u64]
  simp

/-- The law behind the cut of b: bytes bs of length L ≤ 40 in slot 0. -/
def SplitBad (L : Nat) (a n m : Int) : Prop := a < 0 ∨ 8 * (L : Int) < a ∨ (n < 1 ∨ 64 < n) ∨ (m < 1 ∨ 64 < m) ∨ 64 < n + m ∨ 8 * (L : Int) - a < n + m

set_option maxRecDepth 100000 in
set_option maxHeartbeats 2000000 in
theorem split_small (A : Option Addr) (len cap : Nat) (bs : List Nat) (a n m : Int) (w : World) (hl : bs.length = len) (hs : Sees w A (u8s bs)) (h256 : ∀ x ∈ bs, x < 256) (hcap : len ≤ cap) (hmax : cap ≤ maxLen) (hA : A = none → cap = 0) (hlen : len ≤ 40) (w1 : (Lit.int .i64 a).wf = true) (w2 : (Lit.int .i64 n).wf = true) (w3 : (Lit.int .i64 m).wf = true) :
    Calls Try.prog 8 #[.slice A len cap, .int .i64 a, .int .i64 n, .int .i64 m] w fun e w' => e = .returned (.bool true) ∧ Only (fun _ => False) w w' := by
  unfold maxLen at hmax
  have b1 := bounds_i64 w1
  have b2 := bounds_i64 w2
  have b3 := bounds_i64 w3
  clear w1 w2 w3
  have H256 := Ost.hid h256
  have HA := Ost.hid hA
  have HL := Ost.hid hl
  clear h256 hA hl
  by_cases c1 : 0 ≤ a ∧ a ≤ 8 * len ∧ (1 ≤ n ∧ n ≤ 64) ∧ (1 ≤ m ∧ m ≤ 64) ∧ n + m ≤ 64 ∧ n + m ≤ 8 * len - a
  · obtain ⟨c1, c2, ⟨c3, c4⟩, ⟨c5, c6⟩, c7, c8⟩ := c1
    obtain ⟨a', rfl⟩ := Int.eq_ofNat_of_zero_le c1
    obtain ⟨n', rfl⟩ := Int.eq_ofNat_of_zero_le (show 0 ≤ n by omega)
    obtain ⟨m', rfl⟩ := Int.eq_ofNat_of_zero_le (show 0 ≤ m by omega)
    have hspan : a' + (n' + m') ≤ 8 * bs.length := by have := HL.out; omega
    obtain ⟨x, HX⟩ : ∃ x, Hid (val (span bs a' n') = x) := ⟨_, rfl⟩
    obtain ⟨y, HY⟩ : ∃ y, Hid (val (span bs (a' + n') m') = y) := ⟨_, rfl⟩
    have HJ := Ost.hid (split_join x y n' m' (by rw [← HX.out]; have := val_lt (span bs a' n'); rwa [span_length] at this) (by rw [← HY.out]; have := val_lt (span bs (a' + n') m'); rwa [span_length] at this) (by omega))
    have HV : Hid (val (span bs a' (n' + m')) = x * 2 ^ m' + y) := by show _ = _; rw [span_add, val_append, span_length, HX.out, HY.out]
    go_enter Try.func8, Try.ntmps8
    go_wp2_with (go_at_call 20; refine (right_yes _ _ (by omega) (by omega)).mono ?_; rintro e w' ⟨rfl, rfl⟩)
    clear c1
    refine (of_any A len cap bs _ hs HL.out HA.out (by omega) H256.out).mono ?_
    rintro e wx ⟨bi, sv, rfl, hx, hox⟩
    have hbx := hx.blk
    go_wp2_with (fail)
    refine (of_any A len cap bs _ (hs.old hox (fun _ _ e => e)) HL.out HA.out (by omega) H256.out).mono ?_
    rintro e wy ⟨bj, sw, rfl, hy, hoy⟩
    have hby := hy.blk
    have hx := hx.only hoy (fun e => e) (fun _ _ e => e)
    have ho : Only (fun _ => False) w wy := hox.trans hoy (fun _ _ e => e)
    have hwx := hox.size
    clear hox hoy
    go_wp2_with (fail)
    refine (skip_yes _ bi a' sv bs 0 _ hx (by omega)).mono ?_
    rw [Nat.zero_add]
    rintro e w3 ⟨rfl, hx, h3⟩
    have ho := IsIn.old (T := fun _ => False) ho ‹IsIn wy w.heap.size bi sv bs 0 0› (Nat.le_refl _) h3
    have hy := hy.only h3 (by omega) (fun k hk => by have := hby.2.2 k hk; omega)
    clear h3
    go_wp2_with (fail)
    refine (skip_yes _ bj a' sw bs 0 _ hy (by omega)).mono ?_
    rw [Nat.zero_add]
    rintro e w4 ⟨rfl, hy', h4⟩
    have ho := IsIn.old (T := fun _ => False) ho hy hwx h4
    have hx := hx.only h4 (by omega) (fun k hk => by have := hbx.2.2 k hk; omega)
    clear h4 hy
    go_wp2_with (fail)
    refine (inBits_yes _ bi (n' + m') sv bs a' _ hx (by omega) (by omega) (by omega)).mono ?_
    rw [HV.out]
    rintro e w5 ⟨rfl, hx', h5⟩
    have ho := IsIn.old (T := fun _ => False) ho hx (Nat.le_refl _) h5
    have hy := hy'.only h5 (by omega) (fun k hk => by have := hby.2.2 k hk; omega)
    clear h5 hx hy'
    go_wp2_with (fail)
    refine (inBits_yes _ bj n' sw bs a' _ hy (by omega) (by omega) (by omega)).mono ?_
    rw [HX.out]
    rintro e w6 ⟨rfl, hy', h6⟩
    have ho := IsIn.old (T := fun _ => False) ho hy hwx h6
    have hx := hx'.only h6 (by omega) (fun k hk => by have := hbx.2.2 k hk; omega)
    clear h6 hx' hy
    go_wp2_with (fail)
    refine (inBits_yes _ bj m' sw bs (a' + n') _ hy' (by omega) (by omega) (by omega)).mono ?_
    rw [HY.out, Nat.add_assoc]
    rintro e w7 ⟨rfl, hy, h7⟩
    have ho := IsIn.old (T := fun _ => False) ho hy' hwx h7
    have hx' := hx.only h7 (by omega) (fun k hk => by have := hbx.2.2 k hk; omega)
    clear h7 hx hy'
    have hj := HJ.out
    go_wp2_with (fail)
    refine (at_own _ bi sv bs _ 0 _ hx').mono ?_
    rintro e w8 ⟨rfl, rfl⟩
    go_wp2_with (fail)
    refine (at_own _ bj sw bs _ 0 _ hy).mono ?_
    rintro e w8 ⟨rfl, rfl⟩
    go_wp2_with (fail)
    refine (awake_any _).mono ?_
    rintro e w8 ⟨rfl, h8⟩
    go_wp2
    go_ret
    exact ⟨rfl, ho.trans h8 (fun _ _ e => e)⟩
  · have c2 : a < 0 ∨ (¬ a < 0 ∧ (8 * (len : Int) < a ∨ (¬ 8 * (len : Int) < a ∧ ((n < 1 ∨ 64 < n) ∨ ((1 ≤ n ∧ n ≤ 64) ∧ ((m < 1 ∨ 64 < m) ∨ ((1 ≤ m ∧ m ≤ 64) ∧ (64 < n + m ∨ (¬ 64 < n + m ∧ 8 * (len : Int) - a < n + m))))))))) := by omega
    clear c1 H256 HA HL hs
    rcases c2 with c | ⟨c1, c | ⟨c2, c | ⟨⟨c3, c4⟩, c | ⟨⟨c5, c6⟩, c | ⟨c7, c⟩⟩⟩⟩⟩
    all_goals
      go_enter Try.func8, Try.ntmps8
      go_wp2_with (first | (go_at_call 20; refine (right_no _ _ c).mono ?_; rintro e w' ⟨rfl, rfl⟩) | (go_at_call 20; refine (right_yes _ _ (by assumption) (by assumption)).mono ?_; rintro e w' ⟨rfl, rfl⟩) | (go_at_call 15; refine (awake_any _).mono ?_; rintro e w' ⟨rfl, hw⟩))
      go_ret
      exact ⟨rfl, hw⟩

set_option maxRecDepth 100000 in
set_option maxHeartbeats 2000000 in
theorem split_great (A : Option Addr) (len cap : Nat) (bs : List Nat) (a n m : Int) (w : World) (hl : bs.length = 40) (hs : Sees w A (u8s bs)) (h256 : ∀ x ∈ bs, x < 256) (hcap : len ≤ cap) (hmax : cap ≤ maxLen) (hA : A = none → cap = 0) (hlen : ¬ len ≤ 40) (w1 : (Lit.int .i64 a).wf = true) (w2 : (Lit.int .i64 n).wf = true) (w3 : (Lit.int .i64 m).wf = true) :
    Calls Try.prog 8 #[.slice A len cap, .int .i64 a, .int .i64 n, .int .i64 m] w fun e w' => e = .returned (.bool true) ∧ Only (fun _ => False) w w' := by
  unfold maxLen at hmax
  have b1 := bounds_i64 w1
  have b2 := bounds_i64 w2
  have b3 := bounds_i64 w3
  clear w1 w2 w3
  have H256 := Ost.hid h256
  have HA := Ost.hid hA
  have HL := Ost.hid hl
  clear h256 hA hl
  by_cases c1 : 0 ≤ a ∧ a ≤ 8 * 40 ∧ (1 ≤ n ∧ n ≤ 64) ∧ (1 ≤ m ∧ m ≤ 64) ∧ n + m ≤ 64 ∧ n + m ≤ 8 * 40 - a
  · obtain ⟨c1, c2, ⟨c3, c4⟩, ⟨c5, c6⟩, c7, c8⟩ := c1
    obtain ⟨a', rfl⟩ := Int.eq_ofNat_of_zero_le c1
    obtain ⟨n', rfl⟩ := Int.eq_ofNat_of_zero_le (show 0 ≤ n by omega)
    obtain ⟨m', rfl⟩ := Int.eq_ofNat_of_zero_le (show 0 ≤ m by omega)
    have hspan : a' + (n' + m') ≤ 8 * bs.length := by have := HL.out; omega
    obtain ⟨x, HX⟩ : ∃ x, Hid (val (span bs a' n') = x) := ⟨_, rfl⟩
    obtain ⟨y, HY⟩ : ∃ y, Hid (val (span bs (a' + n') m') = y) := ⟨_, rfl⟩
    have HJ := Ost.hid (split_join x y n' m' (by rw [← HX.out]; have := val_lt (span bs a' n'); rwa [span_length] at this) (by rw [← HY.out]; have := val_lt (span bs (a' + n') m'); rwa [span_length] at this) (by omega))
    have HV : Hid (val (span bs a' (n' + m')) = x * 2 ^ m' + y) := by show _ = _; rw [span_add, val_append, span_length, HX.out, HY.out]
    go_enter Try.func8, Try.ntmps8
    go_wp2_with (go_at_call 20; refine (right_yes _ _ (by omega) (by omega)).mono ?_; rintro e w' ⟨rfl, rfl⟩)
    clear c1
    refine (of_any A 40 cap bs _ hs HL.out HA.out (by omega) H256.out).mono ?_
    rintro e wx ⟨bi, sv, rfl, hx, hox⟩
    have hbx := hx.blk
    go_wp2_with (fail)
    refine (of_any A 40 cap bs _ (hs.old hox (fun _ _ e => e)) HL.out HA.out (by omega) H256.out).mono ?_
    rintro e wy ⟨bj, sw, rfl, hy, hoy⟩
    have hby := hy.blk
    have hx := hx.only hoy (fun e => e) (fun _ _ e => e)
    have ho : Only (fun _ => False) w wy := hox.trans hoy (fun _ _ e => e)
    have hwx := hox.size
    clear hox hoy
    go_wp2_with (fail)
    refine (skip_yes _ bi a' sv bs 0 _ hx (by omega)).mono ?_
    rw [Nat.zero_add]
    rintro e w3 ⟨rfl, hx, h3⟩
    have ho := IsIn.old (T := fun _ => False) ho ‹IsIn wy w.heap.size bi sv bs 0 0› (Nat.le_refl _) h3
    have hy := hy.only h3 (by omega) (fun k hk => by have := hby.2.2 k hk; omega)
    clear h3
    go_wp2_with (fail)
    refine (skip_yes _ bj a' sw bs 0 _ hy (by omega)).mono ?_
    rw [Nat.zero_add]
    rintro e w4 ⟨rfl, hy', h4⟩
    have ho := IsIn.old (T := fun _ => False) ho hy hwx h4
    have hx := hx.only h4 (by omega) (fun k hk => by have := hbx.2.2 k hk; omega)
    clear h4 hy
    go_wp2_with (fail)
    refine (inBits_yes _ bi (n' + m') sv bs a' _ hx (by omega) (by omega) (by omega)).mono ?_
    rw [HV.out]
    rintro e w5 ⟨rfl, hx', h5⟩
    have ho := IsIn.old (T := fun _ => False) ho hx (Nat.le_refl _) h5
    have hy := hy'.only h5 (by omega) (fun k hk => by have := hby.2.2 k hk; omega)
    clear h5 hx hy'
    go_wp2_with (fail)
    refine (inBits_yes _ bj n' sw bs a' _ hy (by omega) (by omega) (by omega)).mono ?_
    rw [HX.out]
    rintro e w6 ⟨rfl, hy', h6⟩
    have ho := IsIn.old (T := fun _ => False) ho hy hwx h6
    have hx := hx'.only h6 (by omega) (fun k hk => by have := hbx.2.2 k hk; omega)
    clear h6 hx' hy
    go_wp2_with (fail)
    refine (inBits_yes _ bj m' sw bs (a' + n') _ hy' (by omega) (by omega) (by omega)).mono ?_
    rw [HY.out, Nat.add_assoc]
    rintro e w7 ⟨rfl, hy, h7⟩
    have ho := IsIn.old (T := fun _ => False) ho hy' hwx h7
    have hx' := hx.only h7 (by omega) (fun k hk => by have := hbx.2.2 k hk; omega)
    clear h7 hx hy'
    have hj := HJ.out
    go_wp2_with (fail)
    refine (at_own _ bi sv bs _ 0 _ hx').mono ?_
    rintro e w8 ⟨rfl, rfl⟩
    go_wp2_with (fail)
    refine (at_own _ bj sw bs _ 0 _ hy).mono ?_
    rintro e w8 ⟨rfl, rfl⟩
    go_wp2_with (fail)
    refine (awake_any _).mono ?_
    rintro e w8 ⟨rfl, h8⟩
    go_wp2
    go_ret
    exact ⟨rfl, ho.trans h8 (fun _ _ e => e)⟩
  · have c2 : a < 0 ∨ (¬ a < 0 ∧ (8 * (40 : Int) < a ∨ (¬ 8 * (40 : Int) < a ∧ ((n < 1 ∨ 64 < n) ∨ ((1 ≤ n ∧ n ≤ 64) ∧ ((m < 1 ∨ 64 < m) ∨ ((1 ≤ m ∧ m ≤ 64) ∧ (64 < n + m ∨ (¬ 64 < n + m ∧ 8 * (40 : Int) - a < n + m))))))))) := by omega
    clear c1 H256 HA HL hs
    rcases c2 with c | ⟨c1, c | ⟨c2, c | ⟨⟨c3, c4⟩, c | ⟨⟨c5, c6⟩, c | ⟨c7, c⟩⟩⟩⟩⟩
    all_goals
      go_enter Try.func8, Try.ntmps8
      go_wp2_with (first | (go_at_call 20; refine (right_no _ _ c).mono ?_; rintro e w' ⟨rfl, rfl⟩) | (go_at_call 20; refine (right_yes _ _ (by assumption) (by assumption)).mono ?_; rintro e w' ⟨rfl, rfl⟩) | (go_at_call 15; refine (awake_any _).mono ?_; rintro e w' ⟨rfl, hw⟩))
      go_ret
      exact ⟨rfl, hw⟩

theorem bitsSplit_walk (A : Option Addr) (len cap : Nat) (zs : List Int) (a n m : Int) (w : World) (hc : Came .u8 w A len cap zs) (w1 : (Lit.int .i64 a).wf = true) (w2 : (Lit.int .i64 n).wf = true) (w3 : (Lit.int .i64 m).wf = true) :
    Calls Try.prog 8 #[.slice A len cap, .int .i64 a, .int .i64 n, .int .i64 m] w fun e w' => e = .returned (.bool true) ∧ Only (fun _ => False) w w' := by
  obtain ⟨bs, hl, hs, h256⟩ := came_u8 hc
  obtain ⟨_, hcap, hmax, hA, _, _⟩ := hc
  by_cases hlen : len ≤ 40
  · exact split_small A len cap bs a n m w hl hs h256 hcap hmax hA hlen w1 w2 w3
  · refine split_great A len cap (bs.take 40) a n m w (by rw [List.length_take]; omega) ?_ (fun x hx => h256 x (List.mem_of_mem_take hx)) hcap hmax hA hlen w1 w2 w3
    have := hs.take 40
    simpa [u8s, List.map_take] using this
end Go.Proofs.Ytpdihllpcnnfdaa
