/- Layer 3: the frames' sum, bit by bit and byte by byte. No condition. -/
import Derived.Test.YtpmnioadbkhpoaaC1
set_option linter.unusedVariables false
set_option linter.unusedSimpArgs false
namespace Go.Proofs.Ytpmnioadbkhpoaa
open Go Reck

theorem wu32 {n z : Int} (h : z = IntKind.wrap IntKind.u32 n) (hb : 0 ≤ n ∧ n ≤ 4294967295) : z = n := by
  rw [h]; exact wrap_in (k := .u32) (by simp [IntKind.min, IntKind.max, IntKind.signed, IntKind.bits]; omega)
theorem u32_of (a : Int) (h : 0 ≤ a ∧ a ≤ 4294967295) : (BitVec.ofInt 32 a).toNat = a.toNat := by
  rw [BitVec.toNat_ofInt]; omega
theorem xor32 {a b : Int} (ha : 0 ≤ a ∧ a ≤ 4294967295) (hb : 0 ≤ b ∧ b ≤ 4294967295) : xorI .u32 a b = (a.toNat ^^^ b.toNat : Nat) ∧ a.toNat ^^^ b.toNat < 4294967296 := by
  have hlt : a.toNat ^^^ b.toNat < 2 ^ 32 := Nat.xor_lt_two_pow (by omega) (by omega)
  refine ⟨?_, hlt⟩
  unfold xorI
  show IntKind.u32.wrap ((BitVec.ofInt 32 a ^^^ BitVec.ofInt 32 b).toNat : Int) = _
  rw [BitVec.toNat_xor, u32_of a ha, u32_of b hb, wrap_in (k := .u32) (by simp [IntKind.min, IntKind.max, IntKind.signed, IntKind.bits]; omega)]
theorem not32 {a : Int} (ha : 0 ≤ a ∧ a ≤ 4294967295) : xorI .u32 4294967295 a = 4294967295 - a := by
  unfold xorI
  show IntKind.u32.wrap ((BitVec.ofInt 32 4294967295 ^^^ BitVec.ofInt 32 a).toNat : Int) = _
  have e1 : BitVec.ofInt 32 4294967295 = BitVec.allOnes 32 := by decide
  rw [e1, BitVec.allOnes_xor, BitVec.toNat_not, u32_of a ha, wrap_in (k := .u32) (by simp [IntKind.min, IntKind.max, IntKind.signed, IntKind.bits]; omega)]
  omega
theorem and1_32 {a : Int} (ha : 0 ≤ a ∧ a ≤ 4294967295) : andI .u32 a 1 = a % 2 := by
  unfold andI
  show IntKind.u32.wrap ((BitVec.ofInt 32 a &&& BitVec.ofInt 32 1).toNat : Int) = _
  rw [BitVec.toNat_and, u32_of a ha, u32_of 1 (by omega), show (1 : Int).toNat = 1 from rfl, Nat.and_one_is_mod, wrap_in (k := .u32) (by simp [IntKind.min, IntKind.max, IntKind.signed, IntKind.bits]; omega)]
  omega
theorem shr32 {a m : Int} (j : Nat) (hj : j ≤ 32) (h : 0 ≤ a) (hm : m = j) : shrI .u32 a m = (a.toNat / 2 ^ j : Nat) := by
  unfold shrI
  rw [hm, Int.toNat_natCast, show min j (IntKind.bits .u32) = j from Nat.min_eq_left hj, Int.fdiv_eq_ediv_of_nonneg _ (Int.le_of_lt (Int.pow_pos (by decide)))]
  have : a = (a.toNat : Int) := by omega
  rw [this]; simp
theorem step1_lt {w : Nat} (h : w < 4294967296) : step1 w < 4294967296 := by
  unfold step1
  split
  · have : w / 2 ^^^ 3988292384 < 2 ^ 32 := Nat.xor_lt_two_pow (by omega) (by omega)
    exact this
  · omega
theorem iter1_lt {w : Nat} (h : w < 4294967296) : ∀ n, iter1 n w < 4294967296
  | 0 => h
  | n + 1 => step1_lt (iter1_lt h n)
theorem crcN_lt {w c : Nat} (h : w < 4294967296) (hc : c < 4294967296) : crcN w c < 4294967296 := iter1_lt (Nat.xor_lt_two_pow (n := 32) h hc) 8
theorem crcF_lt {w : Nat} (h : w < 4294967296) : ∀ (l : List Int), byteL l → crcF w l < 4294967296 := by
  intro l
  induction l generalizing w with
  | nil => intro _; exact h
  | cons c l ih =>
    intro hb
    have hc := hb c (List.mem_cons_self ..)
    exact ih (crcN_lt h (by omega)) (fun x hx => hb x (List.mem_cons_of_mem _ hx))
theorem crcF_snoc (w : Nat) (l : List Int) (c : Int) : crcF w (l ++ [c]) = crcN (crcF w l) c.toNat := by simp [crcF]

theorem byte_run (K : AV → St → Prop) (w c : Int) (hw : 0 ≤ w ∧ w ≤ 4294967295) (hc : 0 ≤ c ∧ c ≤ 255) (h : K (xi .u32 (U.crcB w c)) emptySt) : runB tbl0 17 [xi .u32 w, xi .u8 c] emptySt K := by
  rw [byte_vc]
  intro z0 h0 z1 h1
  have e0 := wu32 h0 (by omega)
  obtain ⟨x1, x2⟩ := xor32 hw (show 0 ≤ z0 ∧ z0 ≤ 4294967295 by omega)
  rw [← h1] at x1
  have ez : z1.toNat = w.toNat ^^^ c.toNat := by rw [x1, e0]; omega
  have hz : 0 ≤ z1 ∧ z1 ≤ 4294967295 := by omega
  refine ⟨⟨(0, z1), ?_⟩, ?_⟩
  · dsimp only
    simp only [true_and]
    exact ⟨0, rfl, by omega, by simp [iter1]; omega, by simp [iter1]; omega⟩
  · rintro ⟨k, v⟩ ⟨j, h2, h3, h4, h5⟩
    dsimp only at *
    have hv : 0 ≤ v ∧ v ≤ 4294967295 := by omega
    have hvn : v.toNat = iter1 j z1.toNat := by omega
    refine ⟨fun hlt z4 h6 => ⟨fun hodd => ⟨by omega, fun z5 h7 z6 h8 z7 h9 => ⟨(z7, z6), ?_⟩⟩, fun hev => ⟨by omega, fun z9 h7 z10 h8 => ⟨(z10, z9), ?_⟩⟩⟩, fun hge => ?_⟩
    · have e4 := and1_32 hv
      rw [← h6] at e4
      have e5 := shr32 (m := 1) 1 (by omega) hv.1 rfl
      rw [← h7] at e5
      have e6 := (xor32 (a := z5) (b := 3988292384) (by omega) (by omega)).1
      rw [← h8] at e6
      have e7 := w64 h9 (by omega)
      dsimp only
      simp only [true_and]
      refine ⟨⟨j + 1, by omega, by omega, ?_, step1_lt h5⟩, by omega⟩
      rw [e6]
      show _ = ((step1 (iter1 j z1.toNat) : Nat) : Int)
      have e8 : z5.toNat = iter1 j z1.toNat / 2 := by omega
      unfold step1
      rw [if_pos (by omega), e8]; rfl
    · have e4 := and1_32 hv
      rw [← h6] at e4
      have e5 := shr32 (m := 1) 1 (by omega) hv.1 rfl
      rw [← h7] at e5
      have e7 := w64 h8 (by omega)
      dsimp only
      simp only [true_and]
      refine ⟨⟨j + 1, by omega, by omega, ?_, step1_lt h5⟩, by omega⟩
      show _ = ((step1 (iter1 j z1.toNat) : Nat) : Int)
      unfold step1
      rw [if_neg (by omega)]; omega
    · obtain rfl : j = 8 := by omega
      have : v = U.crcB w c := by rw [h4, ez]; rfl
      rw [this]; exact h

theorem wrap32_mod (n : Int) : IntKind.wrap .u32 n = n % 4294967296 := by
  simp [IntKind.wrap, IntKind.signed, IntKind.bits]
theorem div_step (d m : Nat) : d / 2 ^ (m + 1) = d / 2 ^ m / 2 := by rw [Nat.pow_succ, Nat.div_div_eq_div_mul]

/-- The document's bit is the program's. -/
theorem ref_step (v d X : Nat) (h : v ^^^ d = X) : ((v + d) % 2 = 1 → (v / 2 ^^^ 3988292384) ^^^ (d / 2) = step1 X) ∧ (¬ (v + d) % 2 = 1 → (v / 2) ^^^ (d / 2) = step1 X) := by
  have h1 : X % 2 = 1 ↔ (v + d) % 2 = 1 := by rw [← h, Nat.xor_mod_two_eq_one]; omega
  have h2 : X / 2 = v / 2 ^^^ d / 2 := by rw [← h, Nat.xor_div_two]
  unfold step1
  constructor
  · intro ho
    rw [if_pos (h1.2 ho), h2, Nat.xor_assoc, Nat.xor_comm 3988292384, ← Nat.xor_assoc]
  · intro ho
    rw [if_neg (fun hx => ho (h1.1 hx)), h2]

theorem refCrc_run (K : AV → St → Prop) (L : List Int) (o n c cap : Nat) (ro : Bool) (hb : byteL L) (hl : o + n ≤ L.length) (hn : n ≤ 300)
    (h : K (xi .u32 (U.C L o n)) (ar [bs L cap ro])) : runB tbl0 14 [cell (aslC ⟨0, o, n, c⟩)] (ar [bs L cap ro]) K := by
  rw [refCrc_vc]
  intro z0 h0
  have hlen := sub_len L o n hl
  have hB := byteL_sub hb o n
  refine ⟨⟨(0, 4294967295), ?_⟩, ?_⟩
  · dsimp only; simp only [true_and, and_self]
    exact ⟨0, rfl, by omega, rfl, by simp [crcF]⟩
  · rintro ⟨k, w⟩ ⟨j, h1, h2, h3, h4⟩
    dsimp only at *
    refine ⟨fun hlt => ⟨by omega, fun j3 hj3 => ⟨by omega, fun z4 h5 => ⟨⟨(0, w), ?_⟩, ?_⟩⟩⟩, fun hge z21 h21 => ?_⟩
    · dsimp only; simp only [true_and, and_self]
      exact ⟨0, w.toNat, rfl, by omega, by omega, by omega, by simp [iter1]⟩
    · have b := byteL_get hb j3
      rw [← h5] at b
      rintro ⟨i, v⟩ ⟨m, u, g1, g2, g3, g4, g5⟩
      dsimp only at *
      refine ⟨fun hi z7 k7 z8 k8 => ⟨?_, fun z9 k9 z10 k10 => ⟨by decide, fun z11 k11 => ⟨fun hodd => ⟨by decide, fun z12 k12 z13 k13 z14 k14 => ⟨(z14, z13), ?_⟩⟩, fun hev => ⟨by decide, fun z16 k16 z17 k17 => ⟨(z17, z16), ?_⟩⟩⟩⟩⟩, fun hi z19 k19 => ⟨(z19, v), ?_⟩⟩
      · have := wu64 k8 (by omega); omega
      · have e7 := wu32 k7 (by omega)
        have e8 := wu64 k8 (by omega)
        have e9 := shr32 (a := z7) (m := z8) m (by omega) (by omega) (by omega)
        rw [← k9] at e9
        have e10 := wrap32_mod (v + z9)
        rw [← k10] at e10
        have e11 : z11 = z10 % 2 := by rw [k11, Int.tmod_eq_emod_of_nonneg (by omega)]
        have ed : z7.toNat = z4.toNat := by omega
        rw [ed] at e9
        have e12 := wu32 k12 (by rw [Int.tdiv_eq_ediv_of_nonneg (by omega)]; omega)
        rw [Int.tdiv_eq_ediv_of_nonneg (by omega)] at e12
        obtain ⟨e13, e13'⟩ := xor32 (a := z12) (b := 3988292384) (by omega) (by omega)
        rw [← k13] at e13
        have e14 := w64 k14 (by omega)
        have st := (ref_step u (z4.toNat / 2 ^ m) _ g5).1 (by omega)
        have eu : z12.toNat = u / 2 := by omega
        rw [eu] at e13 e13'
        dsimp only; simp only [true_and, and_self]
        exact ⟨⟨m + 1, u / 2 ^^^ 3988292384, by omega, by omega, e13, e13', by rw [div_step]; exact st⟩, by omega⟩
      · have e7 := wu32 k7 (by omega)
        have e8 := wu64 k8 (by omega)
        have e9 := shr32 (a := z7) (m := z8) m (by omega) (by omega) (by omega)
        rw [← k9] at e9
        have e10 := wrap32_mod (v + z9)
        rw [← k10] at e10
        have e11 : z11 = z10 % 2 := by rw [k11, Int.tmod_eq_emod_of_nonneg (by omega)]
        have ed : z7.toNat = z4.toNat := by omega
        rw [ed] at e9
        have e12 := wu32 k16 (by rw [Int.tdiv_eq_ediv_of_nonneg (by omega)]; omega)
        rw [Int.tdiv_eq_ediv_of_nonneg (by omega)] at e12
        have e14 := w64 k17 (by omega)
        have st := (ref_step u (z4.toNat / 2 ^ m) _ g5).2 (by omega)
        dsimp only; simp only [true_and, and_self]
        exact ⟨⟨m + 1, u / 2, by omega, by omega, by omega, by omega, by rw [div_step]; exact st⟩, by omega⟩
      · have e19 := w64 k19 (by omega)
        obtain rfl : m = 8 := by omega
        have hz : z4.toNat / 2 ^ 8 = 0 := Nat.div_eq_of_lt (by omega)
        rw [hz, Nat.xor_zero] at g5
        have hP : ((L.drop o).take n).take (j + 1) = ((L.drop o).take n).take j ++ [z4] := by
          rw [take_get (by omega), sub_get L o n j hl (by omega), h5]
          congr 4; omega
        have ew : w.toNat = crcF (4294967295 : Int).toNat (((L.drop o).take n).take j) := by omega
        dsimp only; simp only [true_and, and_self]
        refine ⟨⟨j + 1, by omega, by omega, ?_, ?_⟩, by omega⟩
        · rw [hP, crcF_snoc, ← ew]; show v = ((iter1 8 (w.toNat ^^^ z4.toNat) : Nat) : Int); omega
        · rw [hP, crcF_snoc, ← ew]; exact crcN_lt (by omega) (by omega)
    · have e := wu32 h21 (by omega)
      have : z21 = U.C L o n := by
        unfold U.C
        rw [e, h3, List.take_of_length_le (by omega)]; rfl
      rw [this]; exact h
end Go.Proofs.Ytpmnioadbkhpoaa
