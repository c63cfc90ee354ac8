/- SumZero: for any bytes ahead and behind the statement returns true. No condition. -/
import Derived.Test.YtpmnioadbkhpoaaE3
set_option linter.unusedVariables false
set_option linter.unusedSimpArgs false
namespace Go.Proofs.Ytpmnioadbkhpoaa
open Go Reck Ost

theorem fold_shift (b : Bool) (s : Int) (l : List Int) : fold (b, s) l = ((fold (b, 0) l).1, s + (fold (b, 0) l).2) := by
  induction l generalizing b s with
  | nil => simp [fold]
  | cons c l ih =>
    show fold (!b, s + (if b then c * 256 else c)) l = ((fold (!b, 0 + (if b then c * 256 else c)) l).1, s + (fold (!b, 0 + (if b then c * 256 else c)) l).2)
    rw [ih (!b) (s + _), ih (!b) (0 + _)]
    simp; omega
theorem shr16_8 {a z : Int} (h : 0 ≤ a ∧ a ≤ 65535) (hz : z = shrI .u16 a 8) : z = a / 256 := by
  rw [hz]; unfold shrI
  rw [Int.fdiv_eq_ediv_of_nonneg _ (by decide)]; rfl
theorem wrap8_mod (n : Int) : IntKind.wrap .u8 n = n % 256 := by simp [IntKind.wrap, IntKind.signed, IntKind.bits]
theorem netS_bnd (S : Int) (h : 0 ≤ S) : 0 ≤ netS S ∧ netS S ≤ 65535 := by
  unfold netS
  split
  · omega
  · split <;> omega
theorem netS_zero (S : Int) (h : 0 ≤ S) : netS (S + netS S) = 0 := by
  unfold netS
  by_cases h0 : S = 0
  · subst h0; decide
  · rw [if_neg h0]
    by_cases h1 : S % 65535 = 0
    · rw [if_pos h1, if_neg (by omega), if_pos (by omega)]; omega
    · rw [if_neg h1, if_neg (by omega), if_pos (by omega)]; omega
theorem zero_end (L L2 : List Int) (o n o2 n2 : Nat) (z7 z8 z9 z10 : Int) (hb : byteL L) (hl : o + n ≤ L.length) (hev : n % 2 = 0) (hb2 : byteL L2) (h7 : z7 = U.S3 L o n 0 0 L2 o2 n2) (h8 : z8 = shrI .u16 z7 8) (h9 : z9 = IntKind.wrap .u8 z8) (h10 : z10 = IntKind.wrap .u8 z7) :
    (0 ≤ z9 ∧ z9 ≤ 255) ∧ (0 ≤ z10 ∧ z10 ≤ 255) ∧ U.S3 L o n z9 z10 L2 o2 n2 = 0 := by
  have hp := fold_par true 0 ((L.drop o).take n)
  rw [sub_len L o n hl, if_pos hev] at hp
  obtain ⟨s1, hs1⟩ : ∃ s1, fold (true, 0) ((L.drop o).take n) = (true, s1) := ⟨_, Prod.ext hp rfl⟩
  have hs0 := (fold_bnd true 0 ((L.drop o).take n) (byteL_sub hb o n)).1
  rw [hs1] at hs0
  have hq0 := (fold_bnd true 0 ((L2.drop o2).take n2) (byteL_sub hb2 o2 n2)).1
  have e : ∀ x y : Int, U.S3 L o n x y L2 o2 n2 = netS (s1 + x * 256 + y + (fold (true, 0) ((L2.drop o2).take n2)).2) := by
    intro x y
    unfold U.S3
    rw [fold_append, fold_append, hs1]
    have : fold (true, s1) [x, y] = (true, s1 + x * 256 + y) := rfl
    rw [this, fold_shift]
  rw [e] at h7 ⊢
  dsimp only at hs0
  have hS : z7 = netS (s1 + (fold (true, 0) ((L2.drop o2).take n2)).2) := by rw [h7]; congr 1; omega
  have hbd := netS_bnd (s1 + (fold (true, 0) ((L2.drop o2).take n2)).2) (by omega)
  rw [← hS] at hbd
  have e8 := shr16_8 hbd h8
  rw [wrap8_mod] at h9 h10
  refine ⟨by omega, by omega, ?_⟩
  have := netS_zero (s1 + (fold (true, 0) ((L2.drop o2).take n2)).2) (by omega)
  rw [← hS] at this
  rw [show s1 + z9 * 256 + z10 + (fold (true, 0) ((L2.drop o2).take n2)).2 = s1 + (fold (true, 0) ((L2.drop o2).take n2)).2 + z7 by omega]
  exact this

theorem tNet3_ok : TblOk Try.prog tNet3 := by
  intro f tm σ C h K hK
  unfold tNet3 at h
  split at h
  · rename_i hf
    obtain rfl : f = 10 := by simpa using hf
    split at h
    · split at h
      · rename_i a b L cap ro L2 cap2 ro2 _ _ _ _ o n c o2 n2 c2 x y hs1 hs2
        have hs1 := aslX_eq hs1
        have hs2 := aslX_eq hs2
        simp only [cell, Sum.inl.injEq] at hs1 hs2
        subst hs1; subst hs2
        simp only [Option.some.injEq] at h; subst h
        obtain ⟨⟨⟨k1, k2, k3⟩, k4, ⟨k5, k6, k7⟩, k8, k9⟩, k10⟩ := hK
        exact knownC noOv names (conOk_of tbl0_ok) (net3_run K L L2 o n c cap o2 n2 c2 cap2 ro ro2 x y k1.out k2 k3 k4 k5.out k6 k7 k8 k9 (k10 _ rfl))
      · cases h
    · cases h
  · cases h
theorem tbl3_ok : TblOk Try.prog tbl3 := tblOr_ok tAwake_ok (tblOr_ok tShort_ok tNet3_ok)

theorem ok_two {zs zs2 : List Int} {w : World} {q q2 : Option Addr ⊕ (Nat × Nat)} (h : ∀ e : Env, e.S = (fun _ => False) → AOk w w e ⟨5, .u8, zs, 0, true⟩ q) (h2 : ∀ e : Env, e.S = (fun _ => False) → AOk w w e ⟨5, .u8, zs2, 0, true⟩ q2) : Ok w (arE [q, q2]) (ar [bs zs 0 true, bs zs2 0 true]) w :=
  ok_arrs w (l := [bs zs 0 true, bs zs2 0 true]) rfl (by simp [bs]) (by
    intro i x p hx hp
    rcases i with _ | _ | i <;> simp at hx hp
    · subst hx; subst hp; exact h _ rfl
    · subst hx; subst hp; exact h2 _ rfl)

theorem sumZero_walk (A : Option Addr) (len cap : Nat) (zs : List Int) (A2 : Option Addr) (len2 cap2 : Nat) (zs2 : List Int) (w : World) (h : Came2 .u8 w A len cap zs) (h' : Came2 .u8 w A2 len2 cap2 zs2) : Calls Try.prog 8 #[.slice A len cap, .slice A2 len2 cap2] w fun e w' => e = .returned (.bool true) ∧ Only (fun _ => False) w w' := by
  obtain ⟨q, h1, h2⟩ := h.base 5
  obtain ⟨q', h1', h2'⟩ := h'.base 5
  have hB := bytes_wf h.2.2.2.1
  have hB2 := bytes_wf h'.2.2.2.1
  have hrun : run3 8 [cell (aslC ⟨0, 0, len, cap⟩), cell (aslC ⟨1, 0, len2, cap2⟩)] (ar [bs zs 0 true, bs zs2 0 true]) := by
    rw [sumZero_vc]
    refine ⟨h.2.1, fun n' hn' => ⟨h'.2.1, fun m' hm' z2 hz2 => ⟨by decide, fun z3 hz3 => ?_⟩⟩⟩
    have hlen : n' ≤ zs.length ∧ n' ≤ 300 := by rw [hn', h.1]; unfold U.m3; omega
    have hlen2 : m' ≤ zs2.length ∧ m' ≤ 300 := by rw [hm', h'.1]; unfold U.m3; omega
    rw [Int.tmod_eq_emod_of_nonneg (by omega)] at hz3
    have hm0 : 0 + m' ≤ zs2.length := by omega
    refine ⟨fun hodd => ⟨by omega, fun o4 n5 c6 ho hn hc => ?_⟩, fun hev => ?_⟩
    · have ho4 : o4 = 0 ∨ o4 = 1 := by split at ho <;> simp at ho <;> omega
      have ho5 : o4 + n5 ≤ zs.length := by omega
      have hn5 : n5 ≤ 300 := by omega
      refine ⟨⟨⟨⟨hB⟩, ho5, hn5⟩, by omega, ⟨⟨hB2⟩, hm0, hlen2.2⟩, by decide, by decide⟩, fun z7 h7 => ⟨by decide, fun z8 h8 z9 h9 z10 h10 => ?_⟩⟩
      obtain ⟨e1, e2, e3⟩ := zero_end zs zs2 o4 n5 0 m' z7 z8 z9 z10 hB ho5 (by omega) hB2 h7 h8 h9 h10
      exact ⟨⟨⟨⟨hB⟩, ho5, hn5⟩, by omega, ⟨⟨hB2⟩, hm0, hlen2.2⟩, e1, e2⟩, fun z11 h11 => ⟨fun _ => trivial, fun hne => absurd (h11.trans e3) hne⟩⟩
    · have ho5 : 0 + n' ≤ zs.length := by omega
      refine ⟨⟨⟨⟨hB⟩, ho5, hlen.2⟩, by omega, ⟨⟨hB2⟩, hm0, hlen2.2⟩, by decide, by decide⟩, fun z7 h7 => ⟨by decide, fun z8 h8 z9 h9 z10 h10 => ?_⟩⟩
      obtain ⟨e1, e2, e3⟩ := zero_end zs zs2 0 n' 0 m' z7 z8 z9 z10 hB ho5 (by omega) hB2 h7 h8 h9 h10
      exact ⟨⟨⟨⟨hB⟩, ho5, hlen.2⟩, by omega, ⟨⟨hB2⟩, hm0, hlen2.2⟩, e1, e2⟩, fun z11 h11 => ⟨fun _ => trivial, fun hne => absurd (h11.trans e3) hne⟩⟩
  exact call_true noOv names (conOk_of tbl3_ok) hrun (ok_two h2 h2') (vs := [.slice A len cap, .slice A2 len2 cap2]) (by simp [h1 (arE [q, q']) 0 rfl, h1' (arE [q, q']) 1 rfl])
end Go.Proofs.Ytpmnioadbkhpoaa
