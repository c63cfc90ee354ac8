/- What bits.store does to bytes of the call's own: each bit of the number stands where it was asked, all others stay; and what bits.load reads. Conditions: the place lies within the bytes. -/
import Derived.Test.YtpdihllpcnnfdaaRows
import Derived.Test.YtpdihllpcnnfdaaBase
import Derived.Test.YtpdihllpcnnfdaaMath
set_option linter.unusedSimpArgs false
set_option linter.unusedVariables false
namespace Go.Proofs.Ytpdihllpcnnfdaa
open Go.RowKit Ost

/-- Bytes as cells. -/
abbrev u8s (cs : List Nat) : List Value := cs.map fun (c : Nat) => Value.int .u8 (c : Int)

/-- bits at .. at+n-1 of ds are v's n lowest ones; all others are those of cs. -/
def Stored (cs ds : List Nat) (at_ n v : Nat) : Prop :=
  ds.length = cs.length ∧ (∀ c ∈ ds, c < 256) ∧ ∀ i, i < 8 * cs.length → bitOf ds i = if at_ ≤ i ∧ i < at_ + n then v.testBit (n - 1 - (i - at_)) else bitOf cs i

/-- One round. -/
theorem stored_round {cs ds : List Nat} {a0 n v A m k : Nat} (h : ds.length = cs.length) (hc : ∀ c ∈ ds, c < 256) (hm : m ≤ 8 - A % 8) (hn0 : A + k = a0 + n) (hA : a0 ≤ A) (hmk : m ≤ k) (hlen : a0 + n ≤ 8 * cs.length)
    (hb : ∀ i, i < 8 * cs.length → bitOf ds i = if a0 ≤ i ∧ i < A then v.testBit (n - 1 - (i - a0)) else bitOf cs i) (hA8 : A / 8 < ds.length) :
    (ds.set (A / 8) (((ds.getD (A / 8) 0) &&& (255 - 255 / 2 ^ (8 - m) * 2 ^ (8 - A % 8 - m) % 256)) ||| ((v / 2 ^ (k - m) % 256 * 2 ^ (8 - A % 8 - m) % 256) &&& (255 / 2 ^ (8 - m) * 2 ^ (8 - A % 8 - m) % 256)))).length = cs.length ∧
    (∀ c ∈ (ds.set (A / 8) (((ds.getD (A / 8) 0) &&& (255 - 255 / 2 ^ (8 - m) * 2 ^ (8 - A % 8 - m) % 256)) ||| ((v / 2 ^ (k - m) % 256 * 2 ^ (8 - A % 8 - m) % 256) &&& (255 / 2 ^ (8 - m) * 2 ^ (8 - A % 8 - m) % 256)))), c < 256) ∧
    ∀ i, i < 8 * cs.length → bitOf (ds.set (A / 8) (((ds.getD (A / 8) 0) &&& (255 - 255 / 2 ^ (8 - m) * 2 ^ (8 - A % 8 - m) % 256)) ||| ((v / 2 ^ (k - m) % 256 * 2 ^ (8 - A % 8 - m) % 256) &&& (255 / 2 ^ (8 - m) * 2 ^ (8 - A % 8 - m) % 256)))) i = if a0 ≤ i ∧ i < A + m then v.testBit (n - 1 - (i - a0)) else bitOf cs i := by
  have hcA : ds.getD (A / 8) 0 < 256 := by
    rw [List.getD_eq_getElem?_getD, List.getElem?_eq_getElem hA8]; exact hc _ (List.getElem_mem _)
  refine ⟨by simpa using h, ?_, ?_⟩
  · intro c hcm
    rcases List.mem_or_eq_of_mem_set hcm with h1 | h1
    · exact hc c h1
    · subst h1; exact store_byte_lt _ _ _ _ hcA
  · intro i hi
    rw [bitOf_set _ _ _ _ hA8]
    by_cases hj : i / 8 = A / 8
    · rw [if_pos hj, store_byte_testBit _ _ _ _ _ (by omega) (by omega)]
      by_cases h1 : 8 - A % 8 - m ≤ 7 - i % 8 ∧ 7 - i % 8 < 8 - A % 8 - m + m
      · rw [if_pos h1, if_pos (by omega), Nat.testBit_div_two_pow]
        congr 1; omega
      · rw [if_neg h1]
        have := hb i hi
        unfold bitOf at this
        rw [hj] at this
        rw [this]
        by_cases h2 : a0 ≤ i ∧ i < A
        · rw [if_pos h2, if_pos (by omega)]
        · rw [if_neg h2, if_neg (by omega)]; simp only [bitOf, hj]
    · rw [if_neg hj, hb i hi]
      by_cases h2 : a0 ≤ i ∧ i < A
      · rw [if_pos h2, if_pos (by omega)]
      · rw [if_neg h2, if_neg (by omega)]

theorem u8s_get {cs : List Nat} {j : Nat} (hj : j < cs.length) : (u8s cs)[j]? = some (.int .u8 ((cs.getD j 0 : Nat) : Int)) := by
  simp [u8s, hj]

theorem u8s_set (cs : List Nat) (j c : Nat) : (u8s cs).set j (.int .u8 ((c : Nat) : Int)) = u8s (cs.set j c) := by simp [u8s, List.map_set]

set_option maxHeartbeats 400000 in
theorem store_own (base g len cap at_ n v : Nat) (bs : List Nat) (w : World) (hn : n ≤ 64) (hlen : len ≤ 65536) (hat : at_ + n ≤ 8 * len) (hbs : bs.length = len) (hb256 : ∀ c ∈ bs, c < 256) (hv : v < 2^64)
   (hown : w.ownsRow base 5 1 (.slice (some ⟨g, 0, none⟩) len cap) len (u8s bs)) :
    Calls Try.prog 39 #[.slice (some ⟨g, 0, none⟩) len cap, .int .i64 at_, .int .i64 n, .int .u64 v] w fun e w' => e = .returned (.tuple #[]) ∧
      ∃ ds, Stored bs ds at_ n v ∧ w'.ownsRow base 5 1 (.slice (some ⟨g, 0, none⟩) len cap) len (u8s ds) ∧ Only (fun k => k = g) w w' := by
  go_enter Try.func39, Try.ntmps39
  go_wp2
  go_loopw [1, 2] (fun a m wr => ∃ (A m' : Nat) (ds : List Nat), a = .int .i64 A ∧ m = .int .i64 m' ∧ A + m' = at_ + n ∧ at_ ≤ A ∧ ds.length = len ∧ (∀ c ∈ ds, c < 256) ∧
      (∀ i, i < 8 * bs.length → bitOf ds i = if at_ ≤ i ∧ i < A then v.testBit (n - 1 - (i - at_)) else bitOf bs i) ∧
      wr.ownsRow base 5 1 (.slice (some ⟨g, 0, none⟩) len cap) len (u8s ds) ∧ Only (fun k => k = g) w wr) (fun _ m _ => (intOf m).toNat)
  case atStart => exact ⟨at_, n, bs, rfl, rfl, rfl, Nat.le_refl _, hbs, hb256, fun i hi => by rw [if_neg (by omega)], hown, Only.refl _ _⟩
  case round =>
    obtain ⟨A, m', ds, rfl, rfl, h1, h1b, h3, h4, h5, h6, h7⟩ := hrel
    have H5 := Ost.hid h5
    have H4 := Ost.hid h4
    clear h4 h5
    by_cases hz : 0 < m'
    · have hc : A / 8 < len := by omega
      obtain ⟨c, HC⟩ : ∃ c, Hid (c = ds.getD (A / 8) 0) := ⟨_, rfl⟩
      have hc1 : wr.cell? ⟨g, A / 8, none⟩ = some (.int .u8 (c : Int)) := by rw [h6.cellAt _ (by omega), HC.out]; exact u8s_get (by omega)
      have hc2 : wr.frozen? ⟨g, A / 8, none⟩ = false := h6.frozenAt _
      have hcl : c < 256 := by rw [HC.out, List.getD_eq_getElem?_getD, List.getElem?_eq_getElem (by omega)]; exact H4.out _ (List.getElem_mem _)
      by_cases hmin : m' ≤ 8 - A % 8
      · go_wp2
        have hs := stored_round (m := m') (k := m') (v := v) (by omega) H4.out hmin h1 h1b (Nat.le_refl _) (by omega) H5.out (by omega)
        rw [← HC.out] at hs
        rw [Nat.sub_self, Nat.pow_zero, Nat.div_one] at hs
        have key := store_byte c v (8 - A % 8 - m') m' hcl (by omega)
        simp only [Int.natCast_emod, Int.natCast_mul, Int.natCast_ediv, Int.natCast_pow, Int.cast_ofNat_Int] at key
        have KEY := Ost.hid key
        clear key
        go_roundw
        case rel =>
          rw [KEY.out]
          exact ⟨A + m', 0, _, by go_num, rfl, by omega, by omega, by rw [hs.1]; omega, hs.2.1, hs.2.2, by rw [← u8s_set]; exact (h6.stored _ _).1, h7.setCell (fun _ => rfl) _⟩
        case measure => simp [intOf]; omega
      · have hmin2 : (8 : Int) - (A : Int) % 8 < (m' : Int) := by omega
        go_wp2
        have hs := stored_round (m := 8 - A % 8) (k := m') (v := v) (by omega) H4.out (Nat.le_refl _) h1 h1b (by omega) (by omega) H5.out (by omega)
        rw [← HC.out] at hs
        have key := store_byte c (v / 2 ^ (m' - (8 - A % 8))) 0 (8 - A % 8) hcl (by omega)
        simp only [Nat.sub_self, Nat.pow_zero, Nat.mul_one, Nat.mod_mod] at hs key
        simp only [Int.natCast_emod, Int.natCast_mul, Int.natCast_ediv, Int.natCast_pow, Int.cast_ofNat_Int] at key
        have KEY := Ost.hid key
        clear key
        go_roundw
        case rel =>
          rw [KEY.out]
          exact ⟨A + (8 - A % 8), m' - (8 - A % 8), _, by rw [show ((A + (8 - A % 8) : Nat) : Int) = (A : Int) + (8 - (A : Int) % 8) by omega], by rw [show ((m' - (8 - A % 8) : Nat) : Int) = (m' : Int) - (8 - (A : Int) % 8) by omega], by omega, by omega, by rw [hs.1]; omega, hs.2.1, hs.2.2, by rw [← u8s_set]; exact (h6.stored _ _).1, h7.setCell (fun _ => rfl) _⟩
        case measure => simp [intOf]; omega
    · go_wp2
      go_end0
      exact ⟨rfl, ds, ⟨by omega, H4.out, fun i hi => by rw [H5.out i hi]; by_cases h2 : at_ ≤ i ∧ i < A
                                                        · rw [if_pos h2, if_pos (by omega)]
                                                        · rw [if_neg h2, if_neg (by omega)]⟩, h6, h7⟩
set_option maxHeartbeats 400000 in
theorem load_any (A : Option Addr) (cap at_ n : Nat) (bs : List Nat) (w : World) (hn : n ≤ 64) (hat : at_ + n ≤ 8 * bs.length) (hlen : bs.length ≤ 140737488355328) (hb256 : ∀ c ∈ bs, c < 256) (hs : Sees w A (u8s bs)) :
    Calls Try.prog 36 #[.slice A bs.length cap, .int .i64 at_, .int .i64 n] w fun e w' => e = .returned (.int .u64 (val (span bs at_ n) : Nat)) ∧ ∃ d, w' = w.drewN d := by
  go_enter Try.func36, Try.ntmps36
  go_wp2
  go_loopw [1, 2, 7] (fun a m r wr => ∃ (k d : Nat), k ≤ n ∧ a = .int .i64 ((at_ + k : Nat) : Int) ∧ m = .int .i64 ((n - k : Nat) : Int) ∧ r = .int .u64 ((val (span bs at_ k) : Nat) : Int) ∧ wr = w.drewN d) (fun _ m _ _ => (intOf m).toNat)
  case atStart => exact ⟨0, 0, Nat.zero_le _, rfl, rfl, by simp [span, val], rfl⟩
  case round =>
    obtain ⟨k, d, hk, rfl, rfl, rfl, rfl⟩ := hrel
    by_cases hz : k < n
    · have hc : (at_ + k) / 8 < bs.length := by omega
      obtain ⟨b, o, rfl, _, hcell⟩ := hs.at_ (u8s_get hc)
      obtain ⟨c, HC⟩ : ∃ c, Hid (c = bs.getD ((at_ + k) / 8) 0) := ⟨_, rfl⟩
      rw [← HC.out] at hcell
      obtain ⟨x, HX⟩ : ∃ x, Hid (x = val (span bs at_ k)) := ⟨_, rfl⟩
      rw [← HX.out]
      have hx : x < 2 ^ k := by have := val_lt (span bs at_ k); rw [span_length, ← HX.out] at this; exact this
      have HXX := Ost.hid hx
      clear hx
      obtain ⟨p, HP⟩ : ∃ p, Hid (p = at_ + k) := ⟨_, rfl⟩
      rw [← HP.out] at hcell hc ⊢
      obtain ⟨q, HQ⟩ : ∃ q, Hid (q = n - k) := ⟨_, rfl⟩
      rw [← HQ.out]
      have hq : 0 < q := by have := HQ.out; omega
      have hq2 : q ≤ 64 := by have := HQ.out; omega
      have hp2 : p < 8 * 140737488355328 := by have := HP.out; omega
      have hcb : c < 256 := by
        rw [HC.out, ← HP.out, List.getD_eq_getElem?_getD, List.getElem?_eq_getElem hc]; exact hb256 _ (List.getElem_mem _)
      by_cases hmin : q ≤ 8 - p % 8
      · go_wp2
        go_quiet (fail)
        go_wp2
        have hv := load_step c x (8 - p % 8 - q) q k hcb HXX.out (by omega) (by have := HQ.out; omega)
        have h1 := HQ.out
        have h2 := HP.out
        go_roundw
        case rel =>
          refine ⟨k + q, _, by omega, by rw [h2]; go_num, by rw [show n - (k + q) = 0 by omega]; rfl, ?_, rfl⟩
          rw [hv, span_add, val_append, span_length, ← HX.out, ← h2, span_val _ _ _ hmin, h2, ← HC.out]
        case measure => simp [intOf]; omega
      · have hmin2 : (8 : Int) - (p : Int) % 8 < (q : Int) := by omega
        go_wp2
        go_quiet (fail)
        go_wp2
        have hv := load_step c x 0 (8 - p % 8) k hcb HXX.out (by omega) (by have := HQ.out; omega)
        simp only [Int.pow_zero, Int.ediv_one, Nat.pow_zero, Nat.div_one] at hv
        have h1 := HQ.out
        have h2 := HP.out
        go_roundw
        case rel =>
          refine ⟨k + (8 - p % 8), _, by omega, by rw [show ((at_ + (k + (8 - p % 8)) : Nat) : Int) = (p : Int) + (8 - (p : Int) % 8) by omega], by rw [show ((n - (k + (8 - p % 8)) : Nat) : Int) = (q : Int) - (8 - (p : Int) % 8) by omega], ?_, rfl⟩
          rw [hv, span_add, val_append, span_length, ← HX.out, ← h2, span_val _ _ _ (Nat.le_refl _), Nat.sub_self, Nat.pow_zero, Nat.div_one, h2, ← HC.out]
        case measure => simp [intOf]; omega
    · obtain rfl : k = n := by omega
      rw [Nat.sub_self]
      go_wp2
      go_ret
      exact ⟨rfl, _, rfl⟩

end Go.Proofs.Ytpdihllpcnnfdaa
