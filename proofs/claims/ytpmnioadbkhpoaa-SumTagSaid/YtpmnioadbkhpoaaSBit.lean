/- SumBit: for any bytes and any bit the statement returns true. No condition. -/
import Derived.Test.YtpmnioadbkhpoaaD1
set_option linter.unusedVariables false
set_option linter.unusedSimpArgs false
namespace Go.Proofs.Ytpmnioadbkhpoaa
open Go Reck Ost

theorem step1_inj {a b : Nat} (ha : a < 4294967296) (hb : b < 4294967296) (h : step1 a = step1 b) : a = b := by
  have top : ∀ x : Nat, x < 4294967296 → (x % 2 = 1 → (x / 2 ^^^ 3988292384) / 2147483648 = 1) ∧ (¬ x % 2 = 1 → (x / 2) / 2147483648 = 0) := by
    intro x hx
    refine ⟨fun ho => ?_, fun he => by omega⟩
    have e : (2147483648 : Nat) = 2 ^ 31 := by decide
    rw [e, Nat.xor_div_two_pow]
    have : x / 2 / 2 ^ 31 = 0 := Nat.div_eq_of_lt (by omega)
    rw [this, Nat.zero_xor]
  obtain ⟨a1, a2⟩ := top a ha
  obtain ⟨b1, b2⟩ := top b hb
  unfold step1 at h
  by_cases h1 : a % 2 = 1 <;> by_cases h2 : b % 2 = 1
  · rw [if_pos h1, if_pos h2] at h
    have : (a / 2 ^^^ 3988292384) ^^^ 3988292384 = (b / 2 ^^^ 3988292384) ^^^ 3988292384 := by rw [h]
    rw [Nat.xor_assoc, Nat.xor_assoc, Nat.xor_self, Nat.xor_zero, Nat.xor_zero] at this
    omega
  · rw [if_pos h1, if_neg h2] at h
    have := a1 h1; have := b2 h2; rw [h] at *; omega
  · rw [if_neg h1, if_pos h2] at h
    have := a2 h1; have := b1 h2; rw [h] at *; omega
  · rw [if_neg h1, if_neg h2] at h; omega
theorem iter1_inj {a b : Nat} (ha : a < 4294967296) (hb : b < 4294967296) : ∀ n, iter1 n a = iter1 n b → a = b
  | 0, h => h
  | n + 1, h => iter1_inj ha hb n (step1_inj (iter1_lt ha n) (iter1_lt hb n) h)
theorem xor_cancel (w a b : Nat) (h : w ^^^ a = w ^^^ b) : a = b := by
  have : w ^^^ (w ^^^ a) = w ^^^ (w ^^^ b) := by rw [h]
  simpa [← Nat.xor_assoc] using this
theorem crcN_inj_c {w a b : Nat} (hw : w < 4294967296) (ha : a < 4294967296) (hb : b < 4294967296) (h : crcN w a = crcN w b) : a = b :=
  xor_cancel w a b (iter1_inj (Nat.xor_lt_two_pow (n := 32) hw ha) (Nat.xor_lt_two_pow (n := 32) hw hb) 8 h)
theorem crcN_inj_w {v w c : Nat} (hv : v < 4294967296) (hw : w < 4294967296) (hc : c < 4294967296) (h : crcN v c = crcN w c) : v = w := by
  have := iter1_inj (Nat.xor_lt_two_pow (n := 32) hv hc) (Nat.xor_lt_two_pow (n := 32) hw hc) 8 h
  rw [Nat.xor_comm v, Nat.xor_comm w] at this
  exact xor_cancel c v w this
theorem crcF_inj {v w : Nat} (hv : v < 4294967296) (hw : w < 4294967296) : ∀ (l : List Int), byteL l → crcF v l = crcF w l → v = w := by
  intro l
  induction l generalizing v w with
  | nil => intro _ h; exact h
  | cons c l ih =>
    intro hb h
    have hc := hb c (List.mem_cons_self ..)
    exact crcN_inj_w hv hw (by omega) (ih (crcN_lt hv (by omega)) (crcN_lt hw (by omega)) (fun x hx => hb x (List.mem_cons_of_mem _ hx)) h)
theorem crcF_set {w : Nat} (hw : w < 4294967296) : ∀ (l : List Int) (j : Nat) (y : Int), byteL l → 0 ≤ y ∧ y ≤ 255 → j < l.length → l.getD j 0 ≠ y → crcF w (l.set j y) ≠ crcF w l := by
  intro l
  induction l generalizing w with
  | nil => intro j y _ _ h; simp at h
  | cons c l ih =>
    intro j y hb hy hj hne h
    have hc := hb c (List.mem_cons_self ..)
    have hbl : byteL l := fun x hx => hb x (List.mem_cons_of_mem _ hx)
    cases j with
    | zero =>
      have h1 := crcF_inj (crcN_lt hw (show y.toNat < 4294967296 by omega)) (crcN_lt hw (show c.toNat < 4294967296 by omega)) l hbl h
      have h2 := crcN_inj_c hw (by omega) (by omega) h1
      exact hne (show c = y by omega)
    | succ j => exact ih (crcN_lt hw (by omega)) j y hbl hy (by simpa using hj) (by simpa using hne) h
theorem byteL_set {l : List Int} (h : byteL l) (j : Nat) {y : Int} (hy : 0 ≤ y ∧ y ≤ 255) : byteL (l.set j y) := fun x hx => by
  rcases List.mem_or_eq_of_mem_set hx with hx | rfl
  · exact h x hx
  · exact hy
theorem xor8 {a b : Int} (ha : 0 ≤ a ∧ a ≤ 255) (hb : 0 ≤ b ∧ b ≤ 255) : xorI .u8 a b = (a.toNat ^^^ b.toNat : Nat) ∧ a.toNat ^^^ b.toNat < 256 := by
  have hlt : a.toNat ^^^ b.toNat < 2 ^ 8 := Nat.xor_lt_two_pow (by omega) (by omega)
  refine ⟨?_, hlt⟩
  unfold xorI
  show IntKind.u8.wrap ((BitVec.ofInt 8 a ^^^ BitVec.ofInt 8 b).toNat : Int) = _
  have e : ∀ x : Int, 0 ≤ x ∧ x ≤ 255 → (BitVec.ofInt 8 x).toNat = x.toNat := fun x hx => by rw [BitVec.toNat_ofInt]; omega
  rw [BitVec.toNat_xor, e a ha, e b hb, wrap_in (k := .u8) (by simp [IntKind.min, IntKind.max, IntKind.signed, IntKind.bits]; omega)]
theorem shl_bit {z : Int} (h : 0 ≤ z ∧ z ≤ 7) : 1 ≤ shlI .u8 1 z ∧ shlI .u8 1 z ≤ 128 := by
  have : z = 0 ∨ z = 1 ∨ z = 2 ∨ z = 3 ∨ z = 4 ∨ z = 5 ∨ z = 6 ∨ z = 7 := by omega
  rcases this with rfl | rfl | rfl | rfl | rfl | rfl | rfl | rfl <;> decide

theorem bit_end (L : List Int) (n' n1 j16 : Nat) (z18 z19 y : Int) (hB : byteL L) (hn : n' ≤ L.length) (hn1 : n1 = n') (hj : j16 < n') (hy : 0 ≤ y ∧ y ≤ 255) (hne : L.getD j16 0 ≠ y)
    (h18 : z18 = U.C ((L.take n').set j16 y) 0 n1) (h19 : z19 = U.C L 0 n') : ¬ z18 = z19 := by
  intro he
  subst hn1
  have hlen : (L.take n1).length = n1 := by simp; omega
  have hg : (L.take n1).getD j16 0 = L.getD j16 0 := by simp [List.getD, List.getElem?_take, hj]
  have := crcF_set (w := 4294967295) (by decide) (L.take n1) j16 y (byteL_take hB n1) hy (by omega) (by rw [hg]; exact hne)
  apply this
  have e1 : (List.take n1 (List.drop 0 ((L.take n1).set j16 y))) = (L.take n1).set j16 y := by
    rw [List.drop_zero, List.take_of_length_le (by simp; omega)]
  have e2 : (List.take n1 (List.drop 0 L)) = L.take n1 := by rw [List.drop_zero]
  rw [h18, h19] at he
  unfold U.C at he
  rw [e1, e2] at he
  omega

theorem sumBit_walk (A : Option Addr) (len cap : Nat) (zs : List Int) (bit : Int) (w : World) (h : Came2 .u8 w A len cap zs) (hbit : (Lit.int .i64 bit).wf = true) : Calls Try.prog 7 #[.slice A len cap, .int .i64 bit] w fun e w' => e = .returned (.bool true) ∧ Only (fun _ => False) w w' := by
  obtain ⟨q, h1, h2⟩ := h.base 5
  have hB := bytes_wf h.2.2.2.1
  have hrun : run2 7 [cell (aslC ⟨0, 0, len, cap⟩), xi .i64 bit] (ar [bs zs 0 true]) := by
    rw [sumBit_vc]
    refine ⟨h.2.1, fun n' hn' z1 hz1 => ⟨fun _ => trivial, fun hne z2 hz2 z3 hz3 => ?_⟩⟩
    have hlen : n' ≤ zs.length ∧ n' ≤ 300 := by rw [hn', h.1]; unfold U.m3; omega
    have e3 := w64 hz3 (by omega)
    refine ⟨by omega, fun z4 hz4 => ?_⟩
    have hm : -(z3 : Int) < z4 ∧ z4 < z3 := by
      have hp : (0 : Int) < z3 := by omega
      rw [hz4]
      exact ⟨Int.lt_tmod_of_pos bit hp, Int.tmod_lt_of_pos bit hp⟩
    have hdrop : ([] : List Int) ++ List.take n' (List.drop 0 zs) = zs.take n' := by simp
    have hl2 : (zs.take n').length = n' := by simp; omega
    refine ⟨fun hneg z5 hz5 => ?_, fun hpos => ?_⟩
    · have e5 := w64 hz5 (by omega)
      refine ⟨trivial, by show 0 + n' ≤ _; omega, by decide, by omega, fun l6 n7 c8 h6 h7 h8 => ⟨by decide, fun z9 h9 => ?_⟩⟩
      have hn7 : n7 = n' := by rw [h7]; exact Nat.zero_add n'
      have e9 := w64 h9 (by rw [Int.tdiv_eq_ediv_of_nonneg (by omega)]; omega)
      rw [Int.tdiv_eq_ediv_of_nonneg (by omega)] at e9
      have e6 : l6 = zs.take n' := h6.trans hdrop
      refine ⟨⟨by omega, by omega⟩, fun j10 hj10 => ⟨by rw [e6]; simp at hj10; omega, fun z11 h11 => ⟨by decide, fun z12 h12 z13 h13 => ?_⟩⟩⟩
      rw [Int.tmod_eq_emod_of_nonneg (by omega)] at h12
      have e13 := wu64 h13 (by omega)
      refine ⟨by omega, fun z14 h14 z15 h15 => ⟨⟨by omega, by omega⟩, fun j16 hj16 => ⟨by rw [e6]; simp at hj16; omega, fun l17 h17 => ?_⟩⟩⟩
      have hjj : j16 = j10 := by omega
      have hj' : j16 < n' := by simp at hj16; omega
      have b11 := byteL_get hB j10
      have hg : z11 = zs.getD j10 0 := by rw [h11, e6]; simp [List.getD, List.getElem?_take, show j10 < n' by omega]
      rw [← hg] at b11
      have e14 := shl_bit (z := z13) (by omega)
      rw [← h14] at e14
      obtain ⟨e15, e15'⟩ := xor8 b11 (show 0 ≤ z14 ∧ z14 ≤ 255 by omega)
      rw [← h15] at e15
      have hne2 : zs.getD j16 0 ≠ z15 := by
        rw [hjj, ← hg]
        intro he
        have h0 : z11.toNat ^^^ z14.toNat = z11.toNat ^^^ 0 := by rw [Nat.xor_zero]; omega
        have := xor_cancel _ _ _ h0
        omega
      have e17 : l17 = (zs.take n').set j16 z15 := by rw [h17, e6]
      refine ⟨⟨⟨by rw [e17]; exact byteL_set (byteL_take hB n') _ (by omega)⟩, by have e : l17.length = n' := (by rw [e17, List.length_set, hl2]); show 0 + n7 ≤ l17.length; omega, by omega⟩, fun z18 h18 => ⟨⟨⟨hB⟩, by show 0 + n' ≤ _; omega, hlen.2⟩, fun z19 h19 => ?_⟩⟩
      have := bit_end zs n' n7 j16 z18 z19 z15 hB hlen.1 hn7 hj' (by omega) hne2 (by rw [h18, e17]) h19
      exact ⟨fun _ => trivial, fun hnn => absurd this hnn⟩
    · refine ⟨trivial, by show 0 + n' ≤ _; omega, by decide, by omega, fun l6 n7 c8 h6 h7 h8 => ⟨by decide, fun z9 h9 => ?_⟩⟩
      have hn7 : n7 = n' := by rw [h7]; exact Nat.zero_add n'
      have e9 := w64 h9 (by rw [Int.tdiv_eq_ediv_of_nonneg (by omega)]; omega)
      rw [Int.tdiv_eq_ediv_of_nonneg (by omega)] at e9
      have e6 : l6 = zs.take n' := h6.trans hdrop
      refine ⟨⟨by omega, by omega⟩, fun j10 hj10 => ⟨by rw [e6]; simp at hj10; omega, fun z11 h11 => ⟨by decide, fun z12 h12 z13 h13 => ?_⟩⟩⟩
      rw [Int.tmod_eq_emod_of_nonneg (by omega)] at h12
      have e13 := wu64 h13 (by omega)
      refine ⟨by omega, fun z14 h14 z15 h15 => ⟨⟨by omega, by omega⟩, fun j16 hj16 => ⟨by rw [e6]; simp at hj16; omega, fun l17 h17 => ?_⟩⟩⟩
      have hjj : j16 = j10 := by omega
      have hj' : j16 < n' := by simp at hj16; omega
      have b11 := byteL_get hB j10
      have hg : z11 = zs.getD j10 0 := by rw [h11, e6]; simp [List.getD, List.getElem?_take, show j10 < n' by omega]
      rw [← hg] at b11
      have e14 := shl_bit (z := z13) (by omega)
      rw [← h14] at e14
      obtain ⟨e15, e15'⟩ := xor8 b11 (show 0 ≤ z14 ∧ z14 ≤ 255 by omega)
      rw [← h15] at e15
      have hne2 : zs.getD j16 0 ≠ z15 := by
        rw [hjj, ← hg]
        intro he
        have h0 : z11.toNat ^^^ z14.toNat = z11.toNat ^^^ 0 := by rw [Nat.xor_zero]; omega
        have := xor_cancel _ _ _ h0
        omega
      have e17 : l17 = (zs.take n').set j16 z15 := by rw [h17, e6]
      refine ⟨⟨⟨by rw [e17]; exact byteL_set (byteL_take hB n') _ (by omega)⟩, by have e : l17.length = n' := (by rw [e17, List.length_set, hl2]); show 0 + n7 ≤ l17.length; omega, by omega⟩, fun z18 h18 => ⟨⟨⟨hB⟩, by show 0 + n' ≤ _; omega, hlen.2⟩, fun z19 h19 => ?_⟩⟩
      have := bit_end zs n' n7 j16 z18 z19 z15 hB hlen.1 hn7 hj' (by omega) hne2 (by rw [h18, e17]) h19
      exact ⟨fun _ => trivial, fun hnn => absurd this hnn⟩
  exact call_true noOv names (conOk_of tbl2_ok) hrun (ok_one (A := A) (len := len) (cap := cap) h2) (vs := [.slice A len cap, .int .i64 bit]) (by simp [h1 (arE [q]) 0 rfl, xi, xint_av])
end Go.Proofs.Ytpmnioadbkhpoaa
