/- Parts of a proof, one behind the other: XC XD. No condition. -/
import Derived.Test.YtlfigaddddncmaaDoorGS
section
namespace Go.Proofs.YtlfigaddddncmaaDoor
open Go Reck
set_option linter.unusedVariables false
set_option linter.unusedSimpArgs false
set_option maxRecDepth 100000
def tSound : Tbl := fun f args σ => if f == 43 then match args, σ with
    | [.inl (.inr l)], ⟨[], [], 0, [some ⟨5, .n .u8, B, cap, ro⟩], 0⟩ => match rfX l with
      | some ([dst, src, type, op, sha, spa, tha, tpa, fr, to, proto, ttl, id, sport, dport, seq, ack, flags, win], b) => match aslX (cell b) with
        | some ⟨0, o, n, c⟩ => some fun K => (U.Fits dst src type op sha spa tha tpa fr to proto ttl id sport dport seq ack flags win n → K (lit (.bool true)) (ar [bs B cap ro])) ∧ (¬ U.Fits dst src type op sha spa tha tpa fr to proto ttl id sport dport seq ack flags win n → K (lit (.bool false)) (ar [bs B cap ro]))
        | _ => none
      | _ => none
    | _, _ => none
  else none
theorem tSound_ok : TblOk Tryd.prog tSound := by
  intro f tm σ C h K hK
  unfold tSound at h
  split at h
  · rename_i hf
    obtain rfl : f = 43 := by simpa using hf
    split at h
    · rename_i B cap ro
      split at h
      · rename_i dst src type op sha spa tha tpa fr to proto ttl id sport dport seq ack flags win b hl
        obtain rfl := rfX_eq hl
        split at h
        · rename_i o n c hs
          obtain rfl := cell_inj (aslX_eq hs)
          simp only [Option.some.injEq] at h; subst h
          exact sound_known K dst src type op sha spa tha tpa fr to proto ttl id sport dport seq ack flags win B o n c cap ro hK.1 hK.2
        · cases h
      · cases h
    · cases h
  · cases h
--FOLD eqf dst src type op sha spa tha tpa fr to proto ttl id sport dport seq ack flags win
theorem rmayT_vc (K : AV → St → Prop) (dst src type op sha spa tha tpa fr to proto ttl id sport dport seq ack flags win : Int) (B : List Int) (o n c cap : Nat) : (runI inv0 tSound 25 [rfA dst src type op sha spa tha tpa fr to proto ttl id sport dport seq ack flags win (aslC ⟨0, o, n, c⟩)] (ar [bs B cap true]) K) = ((U.Fits dst src type op sha spa tha tpa fr to proto ttl id sport dport seq ack flags win n → eqf dst src type op sha spa tha tpa fr to proto ttl id sport dport seq ack flags win ((o = o ∧ n = n ∧ c = c) ∧ ∀ (z0 : Int), z0 = (↑n : Int) → (type = (2054 : Int) → (o = o ∧ n = n ∧ c = c) ∧ eqf dst src type op sha spa tha tpa fr to proto ttl id sport dport seq ack flags win ((o = o ∧ n = n ∧ c = c) ∧ eqf dst src type op sha spa tha tpa fr to proto ttl id sport dport seq ack flags win ((o = o ∧ n = n ∧ c = c) ∧ ∀ (z1 : Int), z1 = IntKind.wrap IntKind.i64 ((42 : Int) + z0) → (z1 ≤ (512 : Int) → K (Sum.inl (Sum.inl (Sum.inl (Value.bool true)))) { heap := [], ints := [], opqs := (0 : Nat), arrs := [some { elem := OfNat.ofNat (5 : Nat), k := AK.n IntKind.u8, l := B, cap := cap, ro := true }], junks := (0 : Nat) }) ∧ (¬z1 ≤ (512 : Int) → K (Sum.inl (Sum.inl (Sum.inl (Value.bool false)))) { heap := [], ints := [], opqs := (0 : Nat), arrs := [some { elem := OfNat.ofNat (5 : Nat), k := AK.n IntKind.u8, l := B, cap := cap, ro := true }], junks := (0 : Nat) })))) ∧ (¬type = (2054 : Int) → (¬type = (2048 : Int) → (o = o ∧ n = n ∧ c = c) ∧ eqf dst src type op sha spa tha tpa fr to proto ttl id sport dport seq ack flags win ((o = o ∧ n = n ∧ c = c) ∧ eqf dst src type op sha spa tha tpa fr to proto ttl id sport dport seq ack flags win ((o = o ∧ n = n ∧ c = c) ∧ ∀ (z2 : Int), z2 = IntKind.wrap IntKind.i64 ((14 : Int) + z0) → (z2 ≤ (512 : Int) → K (Sum.inl (Sum.inl (Sum.inl (Value.bool true)))) { heap := [], ints := [], opqs := (0 : Nat), arrs := [some { elem := OfNat.ofNat (5 : Nat), k := AK.n IntKind.u8, l := B, cap := cap, ro := true }], junks := (0 : Nat) }) ∧ (¬z2 ≤ (512 : Int) → K (Sum.inl (Sum.inl (Sum.inl (Value.bool false)))) { heap := [], ints := [], opqs := (0 : Nat), arrs := [some { elem := OfNat.ofNat (5 : Nat), k := AK.n IntKind.u8, l := B, cap := cap, ro := true }], junks := (0 : Nat) })))) ∧ (¬¬type = (2048 : Int) → (proto = (6 : Int) → (o = o ∧ n = n ∧ c = c) ∧ eqf dst src type op sha spa tha tpa fr to proto ttl id sport dport seq ack flags win ((o = o ∧ n = n ∧ c = c) ∧ eqf dst src type op sha spa tha tpa fr to proto ttl id sport dport seq ack flags win ((o = o ∧ n = n ∧ c = c) ∧ ∀ (z3 : Int), z3 = IntKind.wrap IntKind.i64 ((54 : Int) + z0) → (z3 ≤ (512 : Int) → K (Sum.inl (Sum.inl (Sum.inl (Value.bool true)))) { heap := [], ints := [], opqs := (0 : Nat), arrs := [some { elem := OfNat.ofNat (5 : Nat), k := AK.n IntKind.u8, l := B, cap := cap, ro := true }], junks := (0 : Nat) }) ∧ (¬z3 ≤ (512 : Int) → K (Sum.inl (Sum.inl (Sum.inl (Value.bool false)))) { heap := [], ints := [], opqs := (0 : Nat), arrs := [some { elem := OfNat.ofNat (5 : Nat), k := AK.n IntKind.u8, l := B, cap := cap, ro := true }], junks := (0 : Nat) })))) ∧ (¬proto = (6 : Int) → (proto = (17 : Int) → (o = o ∧ n = n ∧ c = c) ∧ eqf dst src type op sha spa tha tpa fr to proto ttl id sport dport seq ack flags win ((o = o ∧ n = n ∧ c = c) ∧ eqf dst src type op sha spa tha tpa fr to proto ttl id sport dport seq ack flags win ((o = o ∧ n = n ∧ c = c) ∧ ∀ (z4 : Int), z4 = IntKind.wrap IntKind.i64 ((42 : Int) + z0) → (z4 ≤ (512 : Int) → K (Sum.inl (Sum.inl (Sum.inl (Value.bool true)))) { heap := [], ints := [], opqs := (0 : Nat), arrs := [some { elem := OfNat.ofNat (5 : Nat), k := AK.n IntKind.u8, l := B, cap := cap, ro := true }], junks := (0 : Nat) }) ∧ (¬z4 ≤ (512 : Int) → K (Sum.inl (Sum.inl (Sum.inl (Value.bool false)))) { heap := [], ints := [], opqs := (0 : Nat), arrs := [some { elem := OfNat.ofNat (5 : Nat), k := AK.n IntKind.u8, l := B, cap := cap, ro := true }], junks := (0 : Nat) })))) ∧ (¬proto = (17 : Int) → (o = o ∧ n = n ∧ c = c) ∧ eqf dst src type op sha spa tha tpa fr to proto ttl id sport dport seq ack flags win ((o = o ∧ n = n ∧ c = c) ∧ eqf dst src type op sha spa tha tpa fr to proto ttl id sport dport seq ack flags win ((o = o ∧ n = n ∧ c = c) ∧ ∀ (z5 : Int), z5 = IntKind.wrap IntKind.i64 ((34 : Int) + z0) → (z5 ≤ (512 : Int) → K (Sum.inl (Sum.inl (Sum.inl (Value.bool true)))) { heap := [], ints := [], opqs := (0 : Nat), arrs := [some { elem := OfNat.ofNat (5 : Nat), k := AK.n IntKind.u8, l := B, cap := cap, ro := true }], junks := (0 : Nat) }) ∧ (¬z5 ≤ (512 : Int) → K (Sum.inl (Sum.inl (Sum.inl (Value.bool false)))) { heap := [], ints := [], opqs := (0 : Nat), arrs := [some { elem := OfNat.ofNat (5 : Nat), k := AK.n IntKind.u8, l := B, cap := cap, ro := true }], junks := (0 : Nat) }))))))))) ∧ (¬U.Fits dst src type op sha spa tha tpa fr to proto ttl id sport dport seq ack flags win n → eqf dst src type op sha spa tha tpa fr to proto ttl id sport dport seq ack flags win ((o = o ∧ n = n ∧ c = c) ∧ K (Sum.inl (Sum.inl (Sum.inl (Value.bool false)))) { heap := [], ints := [], opqs := (0 : Nat), arrs := [some { elem := OfNat.ofNat (5 : Nat), k := AK.n IntKind.u8, l := B, cap := cap, ro := true }], junks := (0 : Nat) }))) := by kernel_rfl
theorem rmayF_vc (K : AV → St → Prop) (dst src type op sha spa tha tpa fr to proto ttl id sport dport seq ack flags win : Int) (B : List Int) (o n c cap : Nat) : (runI inv0 tSound 25 [rfA dst src type op sha spa tha tpa fr to proto ttl id sport dport seq ack flags win (aslC ⟨0, o, n, c⟩)] (ar [bs B cap false]) K) = ((U.Fits dst src type op sha spa tha tpa fr to proto ttl id sport dport seq ack flags win n → eqf dst src type op sha spa tha tpa fr to proto ttl id sport dport seq ack flags win ((o = o ∧ n = n ∧ c = c) ∧ ∀ (z0 : Int), z0 = (↑n : Int) → (type = (2054 : Int) → (o = o ∧ n = n ∧ c = c) ∧ eqf dst src type op sha spa tha tpa fr to proto ttl id sport dport seq ack flags win ((o = o ∧ n = n ∧ c = c) ∧ eqf dst src type op sha spa tha tpa fr to proto ttl id sport dport seq ack flags win ((o = o ∧ n = n ∧ c = c) ∧ ∀ (z1 : Int), z1 = IntKind.wrap IntKind.i64 ((42 : Int) + z0) → (z1 ≤ (512 : Int) → K (Sum.inl (Sum.inl (Sum.inl (Value.bool true)))) { heap := [], ints := [], opqs := (0 : Nat), arrs := [some { elem := OfNat.ofNat (5 : Nat), k := AK.n IntKind.u8, l := B, cap := cap, ro := false }], junks := (0 : Nat) }) ∧ (¬z1 ≤ (512 : Int) → K (Sum.inl (Sum.inl (Sum.inl (Value.bool false)))) { heap := [], ints := [], opqs := (0 : Nat), arrs := [some { elem := OfNat.ofNat (5 : Nat), k := AK.n IntKind.u8, l := B, cap := cap, ro := false }], junks := (0 : Nat) })))) ∧ (¬type = (2054 : Int) → (¬type = (2048 : Int) → (o = o ∧ n = n ∧ c = c) ∧ eqf dst src type op sha spa tha tpa fr to proto ttl id sport dport seq ack flags win ((o = o ∧ n = n ∧ c = c) ∧ eqf dst src type op sha spa tha tpa fr to proto ttl id sport dport seq ack flags win ((o = o ∧ n = n ∧ c = c) ∧ ∀ (z2 : Int), z2 = IntKind.wrap IntKind.i64 ((14 : Int) + z0) → (z2 ≤ (512 : Int) → K (Sum.inl (Sum.inl (Sum.inl (Value.bool true)))) { heap := [], ints := [], opqs := (0 : Nat), arrs := [some { elem := OfNat.ofNat (5 : Nat), k := AK.n IntKind.u8, l := B, cap := cap, ro := false }], junks := (0 : Nat) }) ∧ (¬z2 ≤ (512 : Int) → K (Sum.inl (Sum.inl (Sum.inl (Value.bool false)))) { heap := [], ints := [], opqs := (0 : Nat), arrs := [some { elem := OfNat.ofNat (5 : Nat), k := AK.n IntKind.u8, l := B, cap := cap, ro := false }], junks := (0 : Nat) })))) ∧ (¬¬type = (2048 : Int) → (proto = (6 : Int) → (o = o ∧ n = n ∧ c = c) ∧ eqf dst src type op sha spa tha tpa fr to proto ttl id sport dport seq ack flags win ((o = o ∧ n = n ∧ c = c) ∧ eqf dst src type op sha spa tha tpa fr to proto ttl id sport dport seq ack flags win ((o = o ∧ n = n ∧ c = c) ∧ ∀ (z3 : Int), z3 = IntKind.wrap IntKind.i64 ((54 : Int) + z0) → (z3 ≤ (512 : Int) → K (Sum.inl (Sum.inl (Sum.inl (Value.bool true)))) { heap := [], ints := [], opqs := (0 : Nat), arrs := [some { elem := OfNat.ofNat (5 : Nat), k := AK.n IntKind.u8, l := B, cap := cap, ro := false }], junks := (0 : Nat) }) ∧ (¬z3 ≤ (512 : Int) → K (Sum.inl (Sum.inl (Sum.inl (Value.bool false)))) { heap := [], ints := [], opqs := (0 : Nat), arrs := [some { elem := OfNat.ofNat (5 : Nat), k := AK.n IntKind.u8, l := B, cap := cap, ro := false }], junks := (0 : Nat) })))) ∧ (¬proto = (6 : Int) → (proto = (17 : Int) → (o = o ∧ n = n ∧ c = c) ∧ eqf dst src type op sha spa tha tpa fr to proto ttl id sport dport seq ack flags win ((o = o ∧ n = n ∧ c = c) ∧ eqf dst src type op sha spa tha tpa fr to proto ttl id sport dport seq ack flags win ((o = o ∧ n = n ∧ c = c) ∧ ∀ (z4 : Int), z4 = IntKind.wrap IntKind.i64 ((42 : Int) + z0) → (z4 ≤ (512 : Int) → K (Sum.inl (Sum.inl (Sum.inl (Value.bool true)))) { heap := [], ints := [], opqs := (0 : Nat), arrs := [some { elem := OfNat.ofNat (5 : Nat), k := AK.n IntKind.u8, l := B, cap := cap, ro := false }], junks := (0 : Nat) }) ∧ (¬z4 ≤ (512 : Int) → K (Sum.inl (Sum.inl (Sum.inl (Value.bool false)))) { heap := [], ints := [], opqs := (0 : Nat), arrs := [some { elem := OfNat.ofNat (5 : Nat), k := AK.n IntKind.u8, l := B, cap := cap, ro := false }], junks := (0 : Nat) })))) ∧ (¬proto = (17 : Int) → (o = o ∧ n = n ∧ c = c) ∧ eqf dst src type op sha spa tha tpa fr to proto ttl id sport dport seq ack flags win ((o = o ∧ n = n ∧ c = c) ∧ eqf dst src type op sha spa tha tpa fr to proto ttl id sport dport seq ack flags win ((o = o ∧ n = n ∧ c = c) ∧ ∀ (z5 : Int), z5 = IntKind.wrap IntKind.i64 ((34 : Int) + z0) → (z5 ≤ (512 : Int) → K (Sum.inl (Sum.inl (Sum.inl (Value.bool true)))) { heap := [], ints := [], opqs := (0 : Nat), arrs := [some { elem := OfNat.ofNat (5 : Nat), k := AK.n IntKind.u8, l := B, cap := cap, ro := false }], junks := (0 : Nat) }) ∧ (¬z5 ≤ (512 : Int) → K (Sum.inl (Sum.inl (Sum.inl (Value.bool false)))) { heap := [], ints := [], opqs := (0 : Nat), arrs := [some { elem := OfNat.ofNat (5 : Nat), k := AK.n IntKind.u8, l := B, cap := cap, ro := false }], junks := (0 : Nat) }))))))))) ∧ (¬U.Fits dst src type op sha spa tha tpa fr to proto ttl id sport dport seq ack flags win n → eqf dst src type op sha spa tha tpa fr to proto ttl id sport dport seq ack flags win ((o = o ∧ n = n ∧ c = c) ∧ K (Sum.inl (Sum.inl (Sum.inl (Value.bool false)))) { heap := [], ints := [], opqs := (0 : Nat), arrs := [some { elem := OfNat.ofNat (5 : Nat), k := AK.n IntKind.u8, l := B, cap := cap, ro := false }], junks := (0 : Nat) }))) := by kernel_rfl
end Go.Proofs.YtlfigaddddncmaaDoor
end

section
set_option linter.unusedVariables false
set_option linter.unusedSimpArgs false
set_option maxRecDepth 100000
namespace Go.Proofs.YtlfigaddddncmaaDoor
open Go Reck
theorem wrapI64x (n : Int) : IntKind.wrap .i64 n = (n + 9223372036854775808) % 18446744073709551616 - 9223372036854775808 := by
  simp [IntKind.wrap, IntKind.signed, IntKind.bits, Int.bmod]
  split <;> omega
set_option maxHeartbeats 2000000 in
theorem rmayT_run (K : AV → St → Prop) (dst src type op sha spa tha tpa fr to proto ttl id sport dport seq ack flags win : Int) (B : List Int) (o n c cap : Nat) (hn : n ≤ 16777216)
    (hT : U.May dst src type op sha spa tha tpa fr to proto ttl id sport dport seq ack flags win n → K (lit (.bool true)) (ar [bs B cap true])) (hN : ¬ U.May dst src type op sha spa tha tpa fr to proto ttl id sport dport seq ack flags win n → K (lit (.bool false)) (ar [bs B cap true])) :
    runI inv0 tSound 25 [rfA dst src type op sha spa tha tpa fr to proto ttl id sport dport seq ack flags win (aslC ⟨0, o, n, c⟩)] (ar [bs B cap true]) K := by
  rw [rmayT_vc]
  repeat' (first | rfl | with_reducible apply And.intro | intro _ | fail)
  all_goals (try simp only [wrapI64x] at *)
  all_goals (first
    | (refine hN (fun hM => absurd hM.fits ?_); assumption)
    | (refine hN (fun hM => ?_); have e := hM.size; unfold U.size U.en at e; (repeat' (split at e)) <;> omega)
    | (refine hT ⟨by assumption, ?_⟩; unfold U.size U.en; (repeat' split) <;> omega))
set_option maxHeartbeats 2000000 in
theorem rmayF_run (K : AV → St → Prop) (dst src type op sha spa tha tpa fr to proto ttl id sport dport seq ack flags win : Int) (B : List Int) (o n c cap : Nat) (hn : n ≤ 16777216)
    (hT : U.May dst src type op sha spa tha tpa fr to proto ttl id sport dport seq ack flags win n → K (lit (.bool true)) (ar [bs B cap false])) (hN : ¬ U.May dst src type op sha spa tha tpa fr to proto ttl id sport dport seq ack flags win n → K (lit (.bool false)) (ar [bs B cap false])) :
    runI inv0 tSound 25 [rfA dst src type op sha spa tha tpa fr to proto ttl id sport dport seq ack flags win (aslC ⟨0, o, n, c⟩)] (ar [bs B cap false]) K := by
  rw [rmayF_vc]
  repeat' (first | rfl | with_reducible apply And.intro | intro _ | fail)
  all_goals (try simp only [wrapI64x] at *)
  all_goals (first
    | (refine hN (fun hM => absurd hM.fits ?_); assumption)
    | (refine hN (fun hM => ?_); have e := hM.size; unfold U.size U.en at e; (repeat' (split at e)) <;> omega)
    | (refine hT ⟨by assumption, ?_⟩; unfold U.size U.en; (repeat' split) <;> omega))
def tRMay : Tbl := fun f args σ => if f == 25 then match args, σ with
    | [.inl (.inr l)], ⟨[], [], 0, [some ⟨5, .n .u8, B, cap, ro⟩], 0⟩ => match rfX l with
      | some ([dst, src, type, op, sha, spa, tha, tpa, fr, to, proto, ttl, id, sport, dport, seq, ack, flags, win], b) => match aslX (cell b) with
        | some ⟨0, o, n, c⟩ => some fun K => n ≤ 16777216 ∧ (U.May dst src type op sha spa tha tpa fr to proto ttl id sport dport seq ack flags win n → K (lit (.bool true)) (ar [bs B cap ro])) ∧ (¬ U.May dst src type op sha spa tha tpa fr to proto ttl id sport dport seq ack flags win n → K (lit (.bool false)) (ar [bs B cap ro]))
        | _ => none
      | _ => none
    | _, _ => none
  else none
theorem tRMay_ok : TblOk Tryd.prog tRMay := by
  intro f tm σ C h K hK
  unfold tRMay at h
  split at h
  · rename_i hf
    obtain rfl : f = 25 := by simpa using hf
    split at h
    · rename_i B cap ro
      split at h
      · rename_i dst src type op sha spa tha tpa fr to proto ttl id sport dport seq ack flags win b hl
        obtain rfl := rfX_eq hl
        split at h
        · rename_i o n c hs
          obtain rfl := cell_inj (aslX_eq hs)
          simp only [Option.some.injEq] at h; subst h
          cases ro with
          | true => exact knownC noOv names (conOk_of tSound_ok) (rmayT_run K dst src type op sha spa tha tpa fr to proto ttl id sport dport seq ack flags win B o n c cap hK.1 hK.2.1 hK.2.2)
          | false => exact knownC noOv names (conOk_of tSound_ok) (rmayF_run K dst src type op sha spa tha tpa fr to proto ttl id sport dport seq ack flags win B o n c cap hK.1 hK.2.1 hK.2.2)
        · cases h
      · cases h
    · cases h
  · cases h
end Go.Proofs.YtlfigaddddncmaaDoor
end
