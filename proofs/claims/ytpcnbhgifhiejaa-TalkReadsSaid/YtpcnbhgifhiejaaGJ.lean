/- Parts of a proof, one behind the other: TQ. No condition. -/
import Derived.Test.YtpcnbhgifhiejaaGX
import Derived.Test.YtpcnbhgifhiejaaGI
section
namespace Go.Proofs.Ytpcnbhgifhiejaa
open Go Reck
set_option linter.unusedVariables false
/-- An answer of Parse that is told ahead. -/
def tPaC (b : Bool) : Tbl := fun f args σ => if f == 16 then match args, σ with
    | [s], ⟨[], [], 0, [some ⟨5, .n .u8, L, cap, ro⟩], 0⟩ => match aslX s with
      | some ⟨0, 0, m, c⟩ => match b with
        | true => some fun K => ∃ (kind xid mac ip ticks nonce tag why : Int) (u : List Int), (U.By L ∧ m ≤ L.length ∧ m ≤ 16777216 ∧ U.TMay kind xid mac ip ticks nonce tag why u ∧ U.TKin xid mac ip ticks nonce tag why ∧ U.TWr kind xid mac ip ticks nonce tag why u (List.take m L)) ∧
          K (paT (msgL kind xid mac ip ticks (strC u) nonce tag why) 0) (ar [bs L cap ro])
        | false => some fun K => (U.By L ∧ m ≤ L.length ∧ m ≤ 16777216 ∧ ¬ U.TIs (List.take m L)) ∧ K (paT msg0 5) (ar [bs L cap ro])
      | _ => none
    | _, _ => none
  else none
theorem tPaC_ok (b : Bool) : TblOk Try.prog (tPaC b) := by
  intro f tm σ C h K hK
  unfold tPaC at h
  split at h
  · rename_i hf
    split at h
    · rename_i s L cap ro
      split at h
      · rename_i m c hs
        cases b with
        | true =>
          simp only [Option.some.injEq] at h; subst h
          obtain ⟨kind, xid, mac, ip, ticks, nonce, tag, why, u, ⟨h1, h2, h3, h4, h5, h6⟩, hk⟩ := hK
          refine tParseT_ok f [s] _ _ (by unfold tParseT; rw [if_pos hf]; simp only [hs]; rfl) K ?_
          refine ⟨⟨h1, h2, h3⟩, ?_⟩
          rintro L0 rfl
          refine ⟨fun kind' xid' mac' ip' ticks' nonce' tag' why' u' g1 g2 g3 => ?_, fun hn => absurd ⟨kind, xid, mac, ip, ticks, nonce, tag, why, u, h4, h5, h6⟩ hn⟩
          obtain ⟨rfl, rfl, rfl, rfl, rfl, rfl, rfl, rfl, rfl⟩ := twr_inj h4 g1 h5 g2 h6 g3
          exact hk
        | false =>
          simp only [Option.some.injEq] at h; subst h
          obtain ⟨⟨h1, h2, h3, h4⟩, hk⟩ := hK
          refine tParseT_ok f [s] _ _ (by unfold tParseT; rw [if_pos hf]; simp only [hs]; rfl) K ?_
          refine ⟨⟨h1, h2, h3⟩, ?_⟩
          rintro L0 rfl
          exact ⟨fun kind' xid' mac' ip' ticks' nonce' tag' why' u' g1 g2 g3 => absurd ⟨kind', xid', mac', ip', ticks', nonce', tag', why', u', g1, g2, g3⟩ h4, fun _ => hk⟩
      · cases h
    · cases h
  · cases h
def tRPaC (b : Bool) : Tbl := fun f args σ => if f == 19 then match args, σ with
    | [s], ⟨[], [], 0, [some ⟨5, .n .u8, L, cap, true⟩], 0⟩ => match aslX s with
      | some ⟨0, 0, m, c⟩ => match b with
        | true => some fun K => ∃ (kind xid mac ip ticks nonce tag why : Int) (u : List Int), (U.By L ∧ m ≤ c ∧ m ≤ L.length ∧ m ≤ 16777216 ∧ U.TMay kind xid mac ip ticks nonce tag why u ∧ U.TKin xid mac ip ticks nonce tag why ∧ U.TWr kind xid mac ip ticks nonce tag why u (List.take m L)) ∧
          K (rpaT (msgL kind xid mac ip ticks (strC u) nonce tag why) true) (ar [bs L cap true])
        | false => some fun K => (U.By L ∧ m ≤ c ∧ m ≤ L.length ∧ m ≤ 16777216 ∧ ¬ U.TIs (List.take m L)) ∧ K (rpaT msg0 false) (ar [bs L cap true])
      | _ => none
    | _, _ => none
  else none
theorem tRPaC_ok (b : Bool) : TblOk Try.prog (tRPaC b) := by
  intro f tm σ C h K hK
  unfold tRPaC at h
  split at h
  · rename_i hf
    split at h
    · rename_i s L cap
      split at h
      · rename_i m c hs
        cases b with
        | true =>
          simp only [Option.some.injEq] at h; subst h
          obtain ⟨kind, xid, mac, ip, ticks, nonce, tag, why, u, ⟨h1, h0, h2, h3, h4, h5, h6⟩, hk⟩ := hK
          refine tRPar_ok f [s] _ _ (by unfold tRPar; rw [if_pos hf]; simp only [hs]; rfl) K ?_
          refine ⟨⟨h1, h0, h2, h3⟩, ?_⟩
          rintro L0 rfl
          refine ⟨fun kind' xid' mac' ip' ticks' nonce' tag' why' u' g1 g2 g3 => ?_, fun hn => absurd ⟨kind, xid, mac, ip, ticks, nonce, tag, why, u, h4, h5, h6⟩ hn⟩
          obtain ⟨rfl, rfl, rfl, rfl, rfl, rfl, rfl, rfl, rfl⟩ := twr_inj h4 g1 h5 g2 h6 g3
          exact hk
        | false =>
          simp only [Option.some.injEq] at h; subst h
          obtain ⟨⟨h1, h0, h2, h3, h4⟩, hk⟩ := hK
          refine tRPar_ok f [s] _ _ (by unfold tRPar; rw [if_pos hf]; simp only [hs]; rfl) K ?_
          refine ⟨⟨h1, h0, h2, h3⟩, ?_⟩
          rintro L0 rfl
          exact ⟨fun kind' xid' mac' ip' ticks' nonce' tag' why' u' g1 g2 g3 => absurd ⟨kind', xid', mac', ip', ticks', nonce', tag', why', u', g1, g2, g3⟩ h4, fun _ => hk⟩
      · cases h
    · cases h
  · cases h
def tTQ (b : Bool) : Tbl := tblOr tAwake7 (tblOr (tPaC b) (tblOr (tRPaC b) (tEncC true)))
theorem tTQ_ok (b : Bool) : TblOk Try.prog (tTQ b) := tblOr_ok tAwake7_ok (tblOr_ok (tPaC_ok b) (tblOr_ok (tRPaC_ok b) (tEncC_ok true)))
set_option maxRecDepth 100000
--PLAIN
theorem talkReadsT_vc (L : List Int) (n c cap : Nat) : (goT Try.prog [] (orcOf inv0 (tTQ true)) (opMem Try.prog) 3000 (.inr (.inr (.inr (.inr 4)))) [cell (aslC ⟨0, 0, n, c⟩)] (ar [bs L cap true]) isTrue) = (∀ (z0 : Int), z0 = (↑n : Int) → ((80 : Int) < z0 → ((0 : Int) ≤ (80 : Int) ∧ (80 : Int) ≤ (↑c : Int)) ∧ ∀ (n1 : Nat), (↑n1 : Int) = (80 : Int) → ∃ (y2 : Int), ∃ (y3 : Int), ∃ (y4 : Int), ∃ (y5 : Int), ∃ (y6 : Int), ∃ (y7 : Int), ∃ (y8 : Int), ∃ (y9 : Int), ∃ (y10 : List Int), (U.By L ∧ n1 ≤ List.length L ∧ n1 ≤ (16777216 : Nat) ∧ U.TMay y2 y3 y4 y5 y6 y7 y8 y9 y10 ∧ U.TKin y3 y4 y5 y6 y7 y8 y9 ∧ U.TWr y2 y3 y4 y5 y6 y7 y8 y9 y10 (List.take n1 L)) ∧ ∃ (y11 : Int), ∃ (y12 : Int), ∃ (y13 : Int), ∃ (y14 : Int), ∃ (y15 : Int), ∃ (y16 : Int), ∃ (y17 : Int), ∃ (y18 : Int), ∃ (y19 : List Int), (U.By L ∧ n1 ≤ c ∧ n1 ≤ List.length L ∧ n1 ≤ (16777216 : Nat) ∧ U.TMay y11 y12 y13 y14 y15 y16 y17 y18 y19 ∧ U.TKin y12 y13 y14 y15 y16 y17 y18 ∧ U.TWr y11 y12 y13 y14 y15 y16 y17 y18 y19 (List.take n1 L)) ∧ y11 = y11 ∧ y12 = y12 ∧ y13 = y13 ∧ y14 = y14 ∧ y15 = y15 ∧ y19 = y19 ∧ y16 = y16 ∧ y17 = y17 ∧ y18 = y18 ∧ y2 = y2 ∧ y3 = y3 ∧ y4 = y4 ∧ y5 = y5 ∧ y6 = y6 ∧ y10 = y10 ∧ y7 = y7 ∧ y8 = y8 ∧ y9 = y9 ∧ (¬(y2 = y11 ∧ y3 = y12 ∧ y4 = y13 ∧ y5 = y14 ∧ y6 = y15 ∧ y10 = y19 ∧ y7 = y16 ∧ y8 = y17 ∧ y9 = y18 ∧ True) → Err [(200 : Nat)]) ∧ (¬¬(y2 = y11 ∧ y3 = y12 ∧ y4 = y13 ∧ y5 = y14 ∧ y6 = y15 ∧ y10 = y19 ∧ y7 = y16 ∧ y8 = y17 ∧ y9 = y18 ∧ True) → ((0 : Int) = (0 : Int) → (U.TKin y3 y4 y5 y6 y7 y8 y9 ∧ U.TMay y2 y3 y4 y5 y6 y7 y8 y9 y10) ∧ ∀ (L20 : List Int) (n21 c22 cap23 : Nat), U.TWr y2 y3 y4 y5 y6 y7 y8 y9 y10 L20 → n21 = List.length L20 → n21 ≤ (200 : Nat) → n21 ≤ c22 → c22 ≤ cap23 → ((0 : Int) = (0 : Int) → (Nat.le ((0 : Nat) + n21) (List.length L20) ∧ ByteL (List.take n21 (List.drop ((0 : Nat)) L20))) ∧ ∀ (l'24 : List Int), l'24 = List.take n21 (List.drop ((0 : Nat)) L20) → (Nat.le ((0 : Nat) + n1) (List.length L) ∧ ByteL (List.take n1 (List.drop ((0 : Nat)) L))) ∧ ∀ (l'25 : List Int), l'25 = List.take n1 (List.drop ((0 : Nat)) L) → (l'24 = l'25 → True) ∧ (¬l'24 = l'25 → Err [(200 : Nat)])) ∧ (¬(0 : Int) = (0 : Int) → Err [(200 : Nat)])) ∧ (¬(0 : Int) = (0 : Int) → Err [(200 : Nat)]))) ∧ (¬(80 : Int) < z0 → ∃ (y26 : Int), ∃ (y27 : Int), ∃ (y28 : Int), ∃ (y29 : Int), ∃ (y30 : Int), ∃ (y31 : Int), ∃ (y32 : Int), ∃ (y33 : Int), ∃ (y34 : List Int), (U.By L ∧ n ≤ List.length L ∧ n ≤ (16777216 : Nat) ∧ U.TMay y26 y27 y28 y29 y30 y31 y32 y33 y34 ∧ U.TKin y27 y28 y29 y30 y31 y32 y33 ∧ U.TWr y26 y27 y28 y29 y30 y31 y32 y33 y34 (List.take n L)) ∧ ∃ (y35 : Int), ∃ (y36 : Int), ∃ (y37 : Int), ∃ (y38 : Int), ∃ (y39 : Int), ∃ (y40 : Int), ∃ (y41 : Int), ∃ (y42 : Int), ∃ (y43 : List Int), (U.By L ∧ n ≤ c ∧ n ≤ List.length L ∧ n ≤ (16777216 : Nat) ∧ U.TMay y35 y36 y37 y38 y39 y40 y41 y42 y43 ∧ U.TKin y36 y37 y38 y39 y40 y41 y42 ∧ U.TWr y35 y36 y37 y38 y39 y40 y41 y42 y43 (List.take n L)) ∧ y35 = y35 ∧ y36 = y36 ∧ y37 = y37 ∧ y38 = y38 ∧ y39 = y39 ∧ y43 = y43 ∧ y40 = y40 ∧ y41 = y41 ∧ y42 = y42 ∧ y26 = y26 ∧ y27 = y27 ∧ y28 = y28 ∧ y29 = y29 ∧ y30 = y30 ∧ y34 = y34 ∧ y31 = y31 ∧ y32 = y32 ∧ y33 = y33 ∧ (¬(y26 = y35 ∧ y27 = y36 ∧ y28 = y37 ∧ y29 = y38 ∧ y30 = y39 ∧ y34 = y43 ∧ y31 = y40 ∧ y32 = y41 ∧ y33 = y42 ∧ True) → Err [(200 : Nat)]) ∧ (¬¬(y26 = y35 ∧ y27 = y36 ∧ y28 = y37 ∧ y29 = y38 ∧ y30 = y39 ∧ y34 = y43 ∧ y31 = y40 ∧ y32 = y41 ∧ y33 = y42 ∧ True) → ((0 : Int) = (0 : Int) → (U.TKin y27 y28 y29 y30 y31 y32 y33 ∧ U.TMay y26 y27 y28 y29 y30 y31 y32 y33 y34) ∧ ∀ (L44 : List Int) (n45 c46 cap47 : Nat), U.TWr y26 y27 y28 y29 y30 y31 y32 y33 y34 L44 → n45 = List.length L44 → n45 ≤ (200 : Nat) → n45 ≤ c46 → c46 ≤ cap47 → ((0 : Int) = (0 : Int) → (Nat.le ((0 : Nat) + n45) (List.length L44) ∧ ByteL (List.take n45 (List.drop ((0 : Nat)) L44))) ∧ ∀ (l'48 : List Int), l'48 = List.take n45 (List.drop ((0 : Nat)) L44) → (Nat.le ((0 : Nat) + n) (List.length L) ∧ ByteL (List.take n (List.drop ((0 : Nat)) L))) ∧ ∀ (l'49 : List Int), l'49 = List.take n (List.drop ((0 : Nat)) L) → (l'48 = l'49 → True) ∧ (¬l'48 = l'49 → Err [(200 : Nat)])) ∧ (¬(0 : Int) = (0 : Int) → Err [(200 : Nat)])) ∧ (¬(0 : Int) = (0 : Int) → Err [(200 : Nat)])))) := by kernel_rfl
theorem talkReadsF_vc (L : List Int) (n c cap : Nat) : (goT Try.prog [] (orcOf inv0 (tTQ false)) (opMem Try.prog) 3000 (.inr (.inr (.inr (.inr 4)))) [cell (aslC ⟨0, 0, n, c⟩)] (ar [bs L cap true]) isTrue) = (∀ (z0 : Int), z0 = (↑n : Int) → ((80 : Int) < z0 → ((0 : Int) ≤ (80 : Int) ∧ (80 : Int) ≤ (↑c : Int)) ∧ ∀ (n1 : Nat), (↑n1 : Int) = (80 : Int) → (U.By L ∧ n1 ≤ List.length L ∧ n1 ≤ (16777216 : Nat) ∧ ¬U.TIs (List.take n1 L)) ∧ (U.By L ∧ n1 ≤ c ∧ n1 ≤ List.length L ∧ n1 ≤ (16777216 : Nat) ∧ ¬U.TIs (List.take n1 L)) ∧ (0 : Int) = (0 : Int) ∧ (0 : Int) = (0 : Int) ∧ (0 : Int) = (0 : Int) ∧ (0 : Int) = (0 : Int) ∧ (0 : Int) = (0 : Int) ∧ (0 : Int) = (0 : Int) ∧ (0 : Int) = (0 : Int) ∧ (0 : Int) = (0 : Int) ∧ (0 : Int) = (0 : Int) ∧ (0 : Int) = (0 : Int) ∧ (0 : Int) = (0 : Int) ∧ (0 : Int) = (0 : Int) ∧ (0 : Int) = (0 : Int) ∧ (0 : Int) = (0 : Int) ∧ (0 : Int) = (0 : Int) ∧ (0 : Int) = (0 : Int) ∧ (¬((0 : Int) = (0 : Int) ∧ (0 : Int) = (0 : Int) ∧ (0 : Int) = (0 : Int) ∧ (0 : Int) = (0 : Int) ∧ (0 : Int) = (0 : Int) ∧ ([] : List Int) = [] ∧ (0 : Int) = (0 : Int) ∧ (0 : Int) = (0 : Int) ∧ (0 : Int) = (0 : Int) ∧ True) → Err [(200 : Nat)]) ∧ (¬¬((0 : Int) = (0 : Int) ∧ (0 : Int) = (0 : Int) ∧ (0 : Int) = (0 : Int) ∧ (0 : Int) = (0 : Int) ∧ (0 : Int) = (0 : Int) ∧ ([] : List Int) = [] ∧ (0 : Int) = (0 : Int) ∧ (0 : Int) = (0 : Int) ∧ (0 : Int) = (0 : Int) ∧ True) → ((5 : Int) = (0 : Int) → Err [(200 : Nat)]) ∧ (¬(5 : Int) = (0 : Int) → ((5 : Int) = (5 : Int) → True) ∧ (¬(5 : Int) = (5 : Int) → Err [(200 : Nat)])))) ∧ (¬(80 : Int) < z0 → (U.By L ∧ n ≤ List.length L ∧ n ≤ (16777216 : Nat) ∧ ¬U.TIs (List.take n L)) ∧ (U.By L ∧ n ≤ c ∧ n ≤ List.length L ∧ n ≤ (16777216 : Nat) ∧ ¬U.TIs (List.take n L)) ∧ (0 : Int) = (0 : Int) ∧ (0 : Int) = (0 : Int) ∧ (0 : Int) = (0 : Int) ∧ (0 : Int) = (0 : Int) ∧ (0 : Int) = (0 : Int) ∧ (0 : Int) = (0 : Int) ∧ (0 : Int) = (0 : Int) ∧ (0 : Int) = (0 : Int) ∧ (0 : Int) = (0 : Int) ∧ (0 : Int) = (0 : Int) ∧ (0 : Int) = (0 : Int) ∧ (0 : Int) = (0 : Int) ∧ (0 : Int) = (0 : Int) ∧ (0 : Int) = (0 : Int) ∧ (0 : Int) = (0 : Int) ∧ (0 : Int) = (0 : Int) ∧ (¬((0 : Int) = (0 : Int) ∧ (0 : Int) = (0 : Int) ∧ (0 : Int) = (0 : Int) ∧ (0 : Int) = (0 : Int) ∧ (0 : Int) = (0 : Int) ∧ ([] : List Int) = [] ∧ (0 : Int) = (0 : Int) ∧ (0 : Int) = (0 : Int) ∧ (0 : Int) = (0 : Int) ∧ True) → Err [(200 : Nat)]) ∧ (¬¬((0 : Int) = (0 : Int) ∧ (0 : Int) = (0 : Int) ∧ (0 : Int) = (0 : Int) ∧ (0 : Int) = (0 : Int) ∧ (0 : Int) = (0 : Int) ∧ ([] : List Int) = [] ∧ (0 : Int) = (0 : Int) ∧ (0 : Int) = (0 : Int) ∧ (0 : Int) = (0 : Int) ∧ True) → ((5 : Int) = (0 : Int) → Err [(200 : Nat)]) ∧ (¬(5 : Int) = (0 : Int) → ((5 : Int) = (5 : Int) → True) ∧ (¬(5 : Int) = (5 : Int) → Err [(200 : Nat)]))))) := by kernel_rfl
end Go.Proofs.Ytpcnbhgifhiejaa
end
