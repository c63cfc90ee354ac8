/- Layer 3: the words' rounds. No condition. -/
import Derived.Test.YtpmnioadbkhpoaaG3
set_option linter.unusedVariables false
set_option linter.unusedSimpArgs false
set_option maxRecDepth 10000
namespace Go.Proofs.Ytpmnioadbkhpoaa
open Go Reck
theorem add_in (a b : Int) : inW (addW a b) := by unfold inW addW; rw [wrapU]; omega
theorem xor_in (a b : Int) : inW (xorI .u64 a b) := by
  unfold inW xorI
  rw [show ∀ n, IntKind.wrap .u64 n = n % 18446744073709551616 from wrapU]; omega
theorem rnd_in {v : W4} (h : U.in4 v) : U.in4 (rnd v) := ⟨add_in _ _, xor_in _ _, rot_in _ _ (add_in _ _), xor_in _ _⟩
theorem rndN_in {v : W4} (h : U.in4 v) (n : Nat) : U.in4 (rndN n v) := by
  induction n with
  | zero => exact h
  | succ n ih => exact rnd_in ih
theorem rnd_of {x : W4} {z2 z3 z4 z5 z6 z7 z8 z9 z10 z11 z12 z13 z14 z15 : Int} (e2 : z2 = addW x.1 x.2.1) (e3 : z3 = U.rot x.2.1 13) (e4 : z4 = xorI .u64 z3 z2) (e5 : z5 = U.rot z2 32) (e6 : z6 = addW x.2.2.1 x.2.2.2) (e7 : z7 = U.rot x.2.2.2 16) (e8 : z8 = xorI .u64 z7 z6) (e9 : z9 = addW z5 z8)
    (e10 : z10 = U.rot z8 21) (e11 : z11 = xorI .u64 z10 z9) (e12 : z12 = addW z6 z4) (e13 : z13 = U.rot z4 17) (e14 : z14 = xorI .u64 z13 z12) (e15 : z15 = U.rot z12 32) : rnd x = (z9, z14, z15, z11) := by
  simp only [rnd, e15, e14, e13, e12, e11, e10, e9, e8, e7, e6, e5, e4, e3, e2]
theorem nxt {i z n : Int} {j : Nat} (h1 : i = j) (h2 : (j : Int) ≤ n) (hn : n < 100) (hlt : i < n) (e : z = IntKind.wrap .i64 (i + 1)) : z = ((j + 1 : Nat) : Int) ∧ ((j + 1 : Nat) : Int) ≤ n ∧ (n - z).toNat < (n - i).toNat := by
  have := w64 e (by omega); omega
theorem rounds_run (K : AV → St → Prop) (v : W4) (n : Int) (hv : U.in4 v) (hn : 0 ≤ n ∧ n < 100) (h : K (.inr []) (st4 (U.rn v n))) : runR tRot 19 [ptr0, xi .i64 n] (st4 v) K := by
  rw [rounds_vc]
  refine ⟨⟨(0, v), rfl, rfl, rfl, rfl, rfl, rfl, rfl, ⟨0, rfl, by simp; omega, rfl, hv⟩⟩, ?_⟩
  rintro ⟨i, x⟩ ⟨j, h1, h2, h3, h4⟩
  dsimp only at *
  refine ⟨fun hlt z2 e2 => ?_, fun hge => ?_⟩
  · refine ⟨⟨h4.out.2.1, by decide⟩, fun z3 e3 => ⟨rfl, rfl, fun z4 e4 => ⟨⟨e2 ▸ add_in _ _, by decide⟩, fun z5 e5 => ⟨rfl, fun z6 e6 => ⟨⟨h4.out.2.2.2, by decide⟩, fun z7 e7 => ⟨rfl, rfl, fun z8 e8 z9 e9 => ?_⟩⟩⟩⟩⟩⟩
    refine ⟨⟨e8 ▸ xor_in _ _, by decide⟩, fun z10 e10 => ⟨rfl, rfl, fun z11 e11 z12 e12 => ⟨⟨e4 ▸ xor_in _ _, by decide⟩, fun z13 e13 => ⟨rfl, rfl, fun z14 e14 => ?_⟩⟩⟩⟩
    refine ⟨⟨e12 ▸ add_in _ _, by decide⟩, fun z15 e15 => ⟨rfl, fun z16 e16 => ?_⟩⟩
    have hr := rnd_of e2 e3 e4 e5 e6 e7 e8 e9 e10 e11 e12 e13 e14 e15
    have hi := rnd_in h4
    rw [hr] at hi
    obtain ⟨q1, q2, q3⟩ := nxt h1 h2 hn.2 hlt e16
    exact ⟨(z16, (z9, z14, z15, z11)), rfl, rfl, rfl, rfl, rfl, rfl, rfl, ⟨j + 1, q1, q2, by rw [← hr, h3]; rfl, hi⟩, q3⟩
  · have : n.toNat = j := by omega
    unfold U.rn at h
    rw [this, ← h3] at h; exact h
theorem rRounds_run (K : AV → St → Prop) (v : W4) (n : Int) (hv : U.in4 v) (hn : 0 ≤ n ∧ n < 100) (h : K (rowW (U.rn v n)) emptySt) : runR tRot 20 [rowW v, xi .i64 n] emptySt K := by
  rw [rRounds_vc]
  refine ⟨⟨(0, v), rfl, rfl, rfl, rfl, rfl, rfl, rfl, rfl, rfl, rfl, ⟨0, rfl, by simp; omega, rfl, hv⟩⟩, ?_⟩
  rintro ⟨i, x⟩ ⟨j, h1, h2, h3, h4⟩
  dsimp only at *
  refine ⟨fun hlt z2 e2 => ?_, fun hge => ?_⟩
  · refine ⟨⟨h4.out.2.1, by decide⟩, fun z3 e3 z4 e4 => ⟨⟨e2 ▸ add_in _ _, by decide⟩, fun z5 e5 z6 e6 => ⟨⟨h4.out.2.2.2, by decide⟩, fun z7 e7 z8 e8 z9 e9 => ?_⟩⟩⟩
    refine ⟨⟨e8 ▸ xor_in _ _, by decide⟩, fun z10 e10 z11 e11 z12 e12 => ⟨⟨e4 ▸ xor_in _ _, by decide⟩, fun z13 e13 z14 e14 => ?_⟩⟩
    refine ⟨⟨e12 ▸ add_in _ _, by decide⟩, fun z15 e15 z16 e16 => ?_⟩
    have hr := rnd_of e2 e3 e4 e5 e6 e7 e8 e9 e10 e11 e12 e13 e14 e15
    have hi := rnd_in h4
    rw [hr] at hi
    obtain ⟨q1, q2, q3⟩ := nxt h1 h2 hn.2 hlt e16
    exact ⟨(z16, (z9, z14, z15, z11)), rfl, rfl, rfl, rfl, rfl, rfl, rfl, rfl, rfl, rfl, ⟨j + 1, q1, q2, by rw [← hr, h3]; rfl, hi⟩, q3⟩
  · have : n.toNat = j := by omega
    unfold U.rn at h
    rw [this, ← h3] at h; exact h
def xW : Cell → Option Int
  | .inr (.inr (.inr (.inr (.inr (.inr (.inl (.u64, z))))))) => some z
  | _ => none
theorem xW_eq {c : Cell} {z : Int} (h : xW c = some z) : c = xintC .u64 z := by
  unfold xW at h
  split at h
  · simp only [Option.some.injEq] at h; subst h; rfl
  · cases h
def xW4 (a b c d : Cell) : Option W4 := match xW a, xW b, xW c, xW d with
  | some a, some b, some c, some d => some (a, b, c, d)
  | _, _, _, _ => none
theorem xW4_eq {a b c d : Cell} {v : W4} (h : xW4 a b c d = some v) : [a, b, c, d] = w4 v := by
  unfold xW4 at h
  split at h
  · rename_i h1 h2 h3 h4
    simp only [Option.some.injEq] at h; subst h
    rw [xW_eq h1, xW_eq h2, xW_eq h3, xW_eq h4]; rfl
  · cases h
def tRnd : Tbl := fun f args σ => if f == 19 then match args, σ with
    | [.inl (.inl (.inr (.inl (0, 0)))), k], ⟨[some ⟨43, [a, b, c, d], none, 4, false⟩], [], 0, [], 0⟩ => match xW4 a b c d, intX k with
      | some v, some (.i64, n) => some fun K => (U.in4 v ∧ 0 ≤ n ∧ n < 100) ∧ ∀ z : W4, z = U.rn v n → K (.inr []) (st4 z)
      | _, _ => none
    | _, _ => none
  else none
theorem tRnd_ok : TblOk Try.prog tRnd := by
  intro f tm σ C h K hK
  unfold tRnd at h
  split at h
  · rename_i hf
    obtain rfl : f = 19 := by simpa using hf
    split at h
    · split at h
      · rename_i k a b c d _ _ v n hv hk
        simp only [Option.some.injEq] at h; subst h
        obtain ⟨⟨k1, k2⟩, k3⟩ := hK
        intro w0 e W hW vs hvs
        rw [xW4_eq hv] at hW
        refine knownC noOv names (conOk_of tRot_ok) (rounds_run K v n k1 k2 (k3 _ rfl)) w0 e W hW vs ?_
        obtain ⟨x, y, rfl⟩ : ∃ x y, vs = [x, y] := by
          match vs, map_len hvs with
          | [x, y], _ => exact ⟨x, y, rfl⟩
        simp only [List.map_cons, List.map_nil, List.cons.injEq, and_true] at hvs ⊢
        refine ⟨hvs.1, ?_⟩
        rw [intX_ok hk hvs.2]
        rfl
      · cases h
    · cases h
  · cases h
end Go.Proofs.Ytpmnioadbkhpoaa
