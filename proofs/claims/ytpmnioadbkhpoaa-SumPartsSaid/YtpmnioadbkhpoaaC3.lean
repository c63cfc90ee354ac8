/- Layer 3: sum.Crc is the frames' sum; the second statement comes to little. No condition. -/
import Derived.Test.YtpmnioadbkhpoaaC2
namespace Go.Proofs.Ytpmnioadbkhpoaa
open Go Reck
set_option maxRecDepth 100000
set_option linter.unusedVariables false
set_option linter.unusedSimpArgs false
theorem crc1_run (K : AV → St → Prop) (L : List Int) (o n c cap : Nat) (ro : Bool) (hb : byteL L) (hl : o + n ≤ L.length) (hn : n ≤ 300)
    (h : K (xi .u32 (U.C L o n)) ⟨[pt [aslC ⟨0, o, n, c⟩]], [], 0, [some (bs L cap ro)], 0⟩) : runB tByte 13 [sl ⟨0, 0, 1, none, 1⟩] ⟨[pt [aslC ⟨0, o, n, c⟩]], [], 0, [some (bs L cap ro)], 0⟩ K := by
  rw [crc1_vc]
  intro z0 h0
  have hlen := sub_len L o n hl
  refine ⟨⟨(0, 4294967295), ?_⟩, ?_⟩
  · dsimp only; simp only [true_and, and_self]
    exact ⟨0, rfl, by omega, rfl, by simp [crcF]⟩
  · rintro ⟨k, w⟩ ⟨j, h1, h2, h3, h4⟩
    dsimp only at *
    refine ⟨fun hlt => ⟨by omega, fun j3 hj3 => ⟨by omega, fun z4 h5 => ?_⟩⟩, fun hge z8 h8 => ?_⟩
    · have b := byteL_get hb j3
      rw [← h5] at b
      refine ⟨by omega, fun z5 h6 z6 h7 => ⟨(z6, z5), ?_⟩⟩
      have e7 := w64 h7 (by omega)
      have hP : ((L.drop o).take n).take (j + 1) = ((L.drop o).take n).take j ++ [z4] := by
        rw [take_get (by omega), sub_get L o n j hl (by omega), h5]
        congr 4; omega
      have ew : w.toNat = crcF (4294967295 : Int).toNat (((L.drop o).take n).take j) := by omega
      dsimp only; simp only [true_and, and_self]
      refine ⟨⟨j + 1, by omega, by omega, ?_, ?_⟩, by omega⟩
      · rw [hP, crcF_snoc, ← ew, h6]; rfl
      · rw [hP, crcF_snoc, ← ew]; exact crcN_lt (by omega) (by omega)
    · have : z8 = U.C L o n := by
        rw [h8, not32 (by omega)]
        unfold U.C
        rw [h3, List.take_of_length_le (by omega)]; rfl
      rw [this]; exact h
def tRefCrc : Tbl := fun f args σ => if f == 14 then match args, σ with
    | [a], ⟨[], [], 0, [some ⟨5, .u8, L, cap, ro⟩], 0⟩ => match aslX a with
      | some ⟨0, o, n, c⟩ => some fun K => (U.B L ∧ o + n ≤ L.length ∧ n ≤ 300) ∧ ∀ z : Int, z = U.C L o n → K (xi .u32 z) (ar [bs L cap ro])
      | _ => none
    | _, _ => none
  else none
def tCrc1 : Tbl := fun f args σ => if f == 13 then match args, σ with
    | [.inl (.inl (.inr (.inr (.inl ⟨0, 0, 1, none, 1⟩))))], ⟨[some ⟨22, [a], none, 1, false⟩], [], 0, [some ⟨5, .u8, L, cap, ro⟩], 0⟩ => match aslX (cell a) with
      | some ⟨0, o, n, c⟩ => some fun K => (U.B L ∧ o + n ≤ L.length ∧ n ≤ 300) ∧ ∀ z : Int, z = U.C L o n → K (xi .u32 z) ⟨[pt [aslC ⟨0, o, n, c⟩]], [], 0, [some (bs L cap ro)], 0⟩
      | _ => none
    | _, _ => none
  else none
theorem tByte_ok : TblOk Try.prog tByte := by
  intro f tm σ C h K hK
  unfold tByte at h
  split at h
  · rename_i hf
    obtain rfl : f = 17 := by simpa using hf
    split at h
    · rename_i a b
      split at h
      · rename_i w c hw hc
        simp only [Option.some.injEq] at h; subst h
        obtain ⟨⟨k1, k2, k3, k4⟩, k5⟩ := hK
        intro w0 e W hk vs hvs
        have hh := byte_run K w c ⟨k1, k2⟩ ⟨k3, k4⟩ (k5 _ rfl)
        refine knownC noOv names (conOk_of tbl0_ok) hh w0 e W hk vs ?_
        obtain ⟨x, y, rfl⟩ : ∃ x y, vs = [x, y] := by
          match vs, map_len hvs with
          | [x, y], _ => exact ⟨x, y, rfl⟩
        simp only [List.map_cons, List.map_nil, List.cons.injEq, and_true] at hvs ⊢
        rw [intX_ok hw hvs.1, intX_ok hc hvs.2]
        exact ⟨rfl, rfl⟩
      · cases h
    · cases h
  · cases h
theorem tRefCrc_ok : TblOk Try.prog tRefCrc := by
  intro f tm σ C h K hK
  unfold tRefCrc at h
  split at h
  · rename_i hf
    obtain rfl : f = 14 := by simpa using hf
    split at h
    · split at h
      · rename_i hs
        obtain rfl := aslX_eq hs
        simp only [Option.some.injEq] at h; subst h
        exact knownC noOv names (conOk_of tbl0_ok) (refCrc_run K _ _ _ _ _ _ hK.1.1.out hK.1.2.1 hK.1.2.2 (hK.2 _ rfl))
      · cases h
    · cases h
  · cases h
theorem tCrc1_ok : TblOk Try.prog tCrc1 := by
  intro f tm σ C h K hK
  unfold tCrc1 at h
  split at h
  · rename_i hf
    obtain rfl : f = 13 := by simpa using hf
    split at h
    · split at h
      · rename_i a L cap ro _ o n c hs
        have hs := aslX_eq hs
        simp only [cell, Sum.inl.injEq] at hs
        subst hs
        simp only [Option.some.injEq] at h; subst h
        obtain ⟨⟨k1, k2, k3⟩, k4⟩ := hK
        exact knownC noOv names (conOk_of tByte_ok) (crc1_run K L o n c cap ro k1.out k2 k3 (k4 _ rfl))
      · cases h
    · cases h
  · cases h
def tbl2 : Tbl := tblOr tbl1 (tblOr tRefCrc tCrc1)
theorem tbl2_ok : TblOk Try.prog tbl2 := tblOr_ok tbl1_ok (tblOr_ok tRefCrc_ok tCrc1_ok)
abbrev run2 (f : Nat) (args : List AV) (σ : St) : Prop := goT Try.prog [] (orcOf inv1 tbl2) (opMem Try.prog) 3000 (.inr (.inr (.inr (.inr f)))) args σ isTrue
theorem sumCrc_vc (L : List Int) (n c : Nat) : (run2 4 [cell (aslC ⟨0, 0, n, c⟩)] (ar [bs L 0 true])) = (n ≤ c ∧ ∀ (n'0 : Nat), n'0 = U.m3 n → (U.B L ∧ OfNat.ofNat (0 : Nat) + n'0 ≤ List.length L ∧ n'0 ≤ (300 : Nat)) ∧ ∀ (z1 : Int), z1 = U.C L (OfNat.ofNat (0 : Nat)) n'0 → (U.B L ∧ OfNat.ofNat (0 : Nat) + n'0 ≤ List.length L ∧ n'0 ≤ (300 : Nat)) ∧ ∀ (z2 : Int), z2 = U.C L (OfNat.ofNat (0 : Nat)) n'0 → (z1 = z2 → True) ∧ (¬z1 = z2 → Err [(200 : Nat)])) := by kernel_rfl
end Go.Proofs.Ytpmnioadbkhpoaa
