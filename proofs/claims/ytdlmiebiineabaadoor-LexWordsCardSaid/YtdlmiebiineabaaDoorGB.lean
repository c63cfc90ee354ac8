/- Parts of a proof, one behind the other: SA LS4 LS5 LS6 LS7 LS8. No condition. -/
import Derived.Test.YtdlmiebiineabaaDoorGA
import Derived.Shelf.Strconv.Atoi
section
set_option linter.unusedVariables false
set_option linter.unusedSimpArgs false
set_option maxRecDepth 100000
namespace Go.Proofs.YtdlmiebiineabaaDoor
open Go Reck Ost
def atoiRen : Go.Shelf.Ren := ⟨fun f => match f with
  | 244 => 27
  | 247 => 30
  | 287 => 35
  | 321 => 38
  | 322 => 39
  | f => f, fun t => match t with
  | 0 => 0
  | 2 => 2
  | 3 => 3
  | 4 => 4
  | 5 => 5
  | 9 => 9
  | 21 => 21
  | 37 => 52
  | 46 => 65
  | 53 => 62
  | 75 => 49
  | 80 => 90
  | 85 => 57
  | 167 => 56
  | 175 => 63
  | t => t, fun g => g⟩
theorem atoiLays : Lays.n244 Tryd.prog atoiRen := by
  apply Lays.n244.mk
  all_goals (first | (intro w; kernel_rfl) | kernel_rfl)
theorem decFrom_num : ∀ (l : List Int) (acc : Nat), l.all U.dig = true → Lib.decFrom acc (l.map fun z => UInt8.ofNat z.toNat) = some (l.foldl (fun (a : Int) c => a * 10 + (c - 48)) acc).toNat ∧ 0 ≤ l.foldl (fun (a : Int) c => a * 10 + (c - 48)) (acc : Int) := by
  intro l
  induction l with
  | nil => intro acc _; simp [Lib.decFrom]
  | cons c l ih =>
    intro acc h
    simp only [List.all_cons, Bool.and_eq_true] at h
    have hc := dig_of.1 h.1
    obtain ⟨g1, g2⟩ := ih (acc * 10 + (c.toNat - 48)) h.2
    have e : ((acc * 10 + (c.toNat - 48) : Nat) : Int) = (acc : Int) * 10 + (c - 48) := by omega
    rw [e] at g1 g2
    refine ⟨?_, g2⟩
    have hd : Lib.digitVal (UInt8.ofNat c.toNat) = some (c.toNat - 48) := by
      have hb : (UInt8.ofNat c.toNat).toNat = c.toNat := by
        rw [UInt8.toNat_ofNat']; omega
      unfold Lib.digitVal
      rw [hb, if_pos (by omega)]
    simp only [List.map_cons, List.foldl_cons]
    rw [← g1]
    simp only [Lib.decFrom, hd]
theorem bytesWorld_only (w : World) (el : TypeId) (s : ByteArray) : Only (fun _ => False) w (Lib.bytesWorld w el s) :=
  ⟨rfl, rfl, rfl, by rw [Lib.bytesWorld_size]; omega, fun k hk _ => Lib.bytesWorld_at_old w el s k hk⟩
theorem atoi_num (s : List Int) (h0 : 1 ≤ s.length) (hd : U.alld s = true) : Lib.atoi (strZ s).data.toList = some (U.num s) := by
  obtain ⟨c, l, rfl⟩ : ∃ c l, s = c :: l := by cases s with
    | nil => simp at h0
    | cons c l => exact ⟨c, l, rfl⟩
  obtain ⟨g1, g2⟩ := decFrom_num (c :: l) 0 hd
  have hc : U.dig c = true := by unfold U.alld at hd; simp only [List.all_cons, Bool.and_eq_true] at hd; exact hd.1
  have hc := dig_of.1 hc
  have hb : (UInt8.ofNat c.toNat).toNat = c.toNat := by
    rw [UInt8.toNat_ofNat']; omega
  have n1 : ¬ (UInt8.ofNat c.toNat = 45) := by intro h; have := congrArg UInt8.toNat h; rw [hb] at this; simp at this; omega
  have n2 : ¬ (UInt8.ofNat c.toNat = 43) := by intro h; have := congrArg UInt8.toNat h; rw [hb] at this; simp at this; omega
  have e : (strZ (c :: l)).data.toList = UInt8.ofNat c.toNat :: l.map (fun z => UInt8.ofNat z.toNat) := by simp [strZ]
  rw [e]
  unfold Lib.atoi
  dsimp only
  rw [if_neg (by simpa using n1), if_neg (by simpa using n2)]
  simp only [Lib.decNat, List.isEmpty_cons, Bool.false_eq_true, if_false]
  simp only [List.map_cons] at g1
  rw [g1]
  simp only [Option.map_some, U.num]
  congr 1
  exact Int.toNat_of_nonneg g2
def pAtoi : Pat := fun args σ => match args, σ with
  | [x], ⟨[], [], 0, [], 0⟩ => match strX x with
    | some s => some fun K => (1 ≤ s.length ∧ s.length ≤ 18 ∧ U.alld s = true) ∧ ∀ z : Int, z = U.num s → K (.inr [.inl (xintC .i64 z), .inl (.inl .nilIface)]) emptySt
    | none => none
  | _, _ => none
theorem pAtoi_ok : PatOk 27 pAtoi := by
  intro tm σ C h K hK w0 e w hk vs hvs
  unfold pAtoi at h
  split at h
  · split at h
    · rename_i s hs
      simp only [Option.some.injEq] at h; subst h
      obtain ⟨v, rfl, hv⟩ := ones hvs
      obtain ⟨rfl, hb⟩ := strX_ok hs hv
      refine (Any.internal_strconv_Atoi atoiLays (strZ s) (U.num s) (by rw [strZ_size]; exact hK.1.2.1) (atoi_num s hK.1.1 hK.1.2.2) w).mono ?_
      rintro en w' ⟨rfl, t, rfl⟩
      exact ⟨_, _, e, _, rfl, Env.le.refl e, rfl, hk.world (bytesWorld_only w _ t), hK.2 _ rfl⟩
    · cases h
  · cases h
end Go.Proofs.YtdlmiebiineabaaDoor
end

section
namespace Go.Proofs.YtdlmiebiineabaaDoor
open Go Reck
set_option linter.unusedVariables false
structure U.bareI (s : List Int) (t : Nat) (n : Int) (b : List Int) : Prop where
  lo : 0 ≤ n ∧ n ≤ s.length
  eq : U.bare false s = b.take n.toNat ++ U.bare (Nat.beq t 1) (s.drop n.toNat)
  rest : b.drop n.toNat = s.drop n.toNat
  len : b.length = s.length
def rslS (tm : List AV) (t : Nat) : RSl :=
  match rslX (tm.getD t (lit undef)) with
  | some s => s
  | none => ⟨0, 0, 0, 0, 0⟩
def bareInv (c : Code) (tm : List AV) (σ : St) (o i b : Nat) : Inv where
  X := Int × List Int
  tags := [0, 1]
  tag := boolAt o
  J := wrBut [o, i] c
  val t x := [(i, xi .i64 x.1), (o, tagB t)]
  st _ x σ' := match getArr σ' (slotS tm b).a with
    | some y => setArr σ' (slotS tm b).a (some ⟨y.elem, y.k, x.2, y.cap, y.ro⟩)
    | none => σ'
  I t x := U.bareI (slotT tm 0) t x.1 x.2
  m _ x := (slotT tm 0).length - x.1.toNat
  ren := noRen
def invLS4 : InvF := fun c tm σ => match tm.length, firstReg c with
  | 27, some 4 => some (bareInv c tm σ 4 11 3)
  | _, _ => none
set_option maxRecDepth 100000
--PLAIN
theorem kindOf_vc (K : AV → St → Prop) (s : List Int) : (runI inv0 tLS3 20 [cell (strC s)] emptySt K) = ((s = [] → K (Sum.inr [Sum.inl (Sum.inr (Sum.inr (Sum.inr (Sum.inr (Sum.inr (Sum.inr (Sum.inl (IntKind.i64, (0 : Int))))))))), Sum.inl (Sum.inr (Sum.inr (Sum.inr (Sum.inr (Sum.inr (Sum.inr (Sum.inl (IntKind.i64, (20 : Int)))))))))]) { heap := [], ints := [], opqs := (0 : Nat), arrs := [], junks := (0 : Nat) }) ∧ (¬s = [] → ((0 : Int) ≤ (0 : Int) ∧ (0 : Int) < (↑(List.length s) : Int)) ∧ ∀ (z0 : Int), z0 = List.getD s (0 : Nat) (0 : Int) → (0 : Int) ≤ z0 → z0 < (256 : Int) → ((97 : Int) ≤ z0 → (z0 ≤ (122 : Int) → ∀ (z1 : Int), z1 = (↑(List.length s) : Int) → ((16 : Int) < z1 → K (Sum.inr [Sum.inl (Sum.inr (Sum.inr (Sum.inr (Sum.inr (Sum.inr (Sum.inr (Sum.inl (IntKind.i64, (0 : Int))))))))), Sum.inl (Sum.inr (Sum.inr (Sum.inr (Sum.inr (Sum.inr (Sum.inr (Sum.inl (IntKind.i64, (6 : Int)))))))))]) { heap := [], ints := [], opqs := (0 : Nat), arrs := [], junks := (0 : Nat) }) ∧ (¬(16 : Int) < z1 → K (Sum.inr [Sum.inl (Sum.inr (Sum.inr (Sum.inr (Sum.inr (Sum.inr (Sum.inr (Sum.inl (IntKind.i64, (1 : Int))))))))), Sum.inl (Sum.inr (Sum.inr (Sum.inr (Sum.inr (Sum.inr (Sum.inr (Sum.inl (IntKind.i64, (0 : Int)))))))))]) { heap := [], ints := [], opqs := (0 : Nat), arrs := [], junks := (0 : Nat) })) ∧ (¬z0 ≤ (122 : Int) → List.length s ≤ (1000000000000 : Nat) ∧ (U.alld s = true → ∀ (z2 : Int), z2 = (↑(List.length s) : Int) → ((6 : Int) < z2 → K (Sum.inr [Sum.inl (Sum.inr (Sum.inr (Sum.inr (Sum.inr (Sum.inr (Sum.inr (Sum.inl (IntKind.i64, (0 : Int))))))))), Sum.inl (Sum.inr (Sum.inr (Sum.inr (Sum.inr (Sum.inr (Sum.inr (Sum.inl (IntKind.i64, (6 : Int)))))))))]) { heap := [], ints := [], opqs := (0 : Nat), arrs := [], junks := (0 : Nat) }) ∧ (¬(6 : Int) < z2 → ((0 : Int) ≤ (0 : Int) ∧ (0 : Int) < (↑(List.length s) : Int)) ∧ ∀ (z3 : Int), z3 = List.getD s (0 : Nat) (0 : Int) → (0 : Int) ≤ z3 → z3 < (256 : Int) → (z3 = (48 : Int) → (¬s = [(48 : Int)] → K (Sum.inr [Sum.inl (Sum.inr (Sum.inr (Sum.inr (Sum.inr (Sum.inr (Sum.inr (Sum.inl (IntKind.i64, (0 : Int))))))))), Sum.inl (Sum.inr (Sum.inr (Sum.inr (Sum.inr (Sum.inr (Sum.inr (Sum.inl (IntKind.i64, (20 : Int)))))))))]) { heap := [], ints := [], opqs := (0 : Nat), arrs := [], junks := (0 : Nat) }) ∧ (¬¬s = [(48 : Int)] → K (Sum.inr [Sum.inl (Sum.inr (Sum.inr (Sum.inr (Sum.inr (Sum.inr (Sum.inr (Sum.inl (IntKind.i64, (2 : Int))))))))), Sum.inl (Sum.inr (Sum.inr (Sum.inr (Sum.inr (Sum.inr (Sum.inr (Sum.inl (IntKind.i64, (0 : Int)))))))))]) { heap := [], ints := [], opqs := (0 : Nat), arrs := [], junks := (0 : Nat) })) ∧ (¬z3 = (48 : Int) → K (Sum.inr [Sum.inl (Sum.inr (Sum.inr (Sum.inr (Sum.inr (Sum.inr (Sum.inr (Sum.inl (IntKind.i64, (2 : Int))))))))), Sum.inl (Sum.inr (Sum.inr (Sum.inr (Sum.inr (Sum.inr (Sum.inr (Sum.inl (IntKind.i64, (0 : Int)))))))))]) { heap := [], ints := [], opqs := (0 : Nat), arrs := [], junks := (0 : Nat) }))) ∧ (U.alld s = false → K (Sum.inr [Sum.inl (Sum.inr (Sum.inr (Sum.inr (Sum.inr (Sum.inr (Sum.inr (Sum.inl (IntKind.i64, (0 : Int))))))))), Sum.inl (Sum.inr (Sum.inr (Sum.inr (Sum.inr (Sum.inr (Sum.inr (Sum.inl (IntKind.i64, (20 : Int)))))))))]) { heap := [], ints := [], opqs := (0 : Nat), arrs := [], junks := (0 : Nat) }))) ∧ (¬(97 : Int) ≤ z0 → List.length s ≤ (1000000000000 : Nat) ∧ (U.alld s = true → ∀ (z4 : Int), z4 = (↑(List.length s) : Int) → ((6 : Int) < z4 → K (Sum.inr [Sum.inl (Sum.inr (Sum.inr (Sum.inr (Sum.inr (Sum.inr (Sum.inr (Sum.inl (IntKind.i64, (0 : Int))))))))), Sum.inl (Sum.inr (Sum.inr (Sum.inr (Sum.inr (Sum.inr (Sum.inr (Sum.inl (IntKind.i64, (6 : Int)))))))))]) { heap := [], ints := [], opqs := (0 : Nat), arrs := [], junks := (0 : Nat) }) ∧ (¬(6 : Int) < z4 → ((0 : Int) ≤ (0 : Int) ∧ (0 : Int) < (↑(List.length s) : Int)) ∧ ∀ (z5 : Int), z5 = List.getD s (0 : Nat) (0 : Int) → (0 : Int) ≤ z5 → z5 < (256 : Int) → (z5 = (48 : Int) → (¬s = [(48 : Int)] → K (Sum.inr [Sum.inl (Sum.inr (Sum.inr (Sum.inr (Sum.inr (Sum.inr (Sum.inr (Sum.inl (IntKind.i64, (0 : Int))))))))), Sum.inl (Sum.inr (Sum.inr (Sum.inr (Sum.inr (Sum.inr (Sum.inr (Sum.inl (IntKind.i64, (20 : Int)))))))))]) { heap := [], ints := [], opqs := (0 : Nat), arrs := [], junks := (0 : Nat) }) ∧ (¬¬s = [(48 : Int)] → K (Sum.inr [Sum.inl (Sum.inr (Sum.inr (Sum.inr (Sum.inr (Sum.inr (Sum.inr (Sum.inl (IntKind.i64, (2 : Int))))))))), Sum.inl (Sum.inr (Sum.inr (Sum.inr (Sum.inr (Sum.inr (Sum.inr (Sum.inl (IntKind.i64, (0 : Int)))))))))]) { heap := [], ints := [], opqs := (0 : Nat), arrs := [], junks := (0 : Nat) })) ∧ (¬z5 = (48 : Int) → K (Sum.inr [Sum.inl (Sum.inr (Sum.inr (Sum.inr (Sum.inr (Sum.inr (Sum.inr (Sum.inl (IntKind.i64, (2 : Int))))))))), Sum.inl (Sum.inr (Sum.inr (Sum.inr (Sum.inr (Sum.inr (Sum.inr (Sum.inl (IntKind.i64, (0 : Int)))))))))]) { heap := [], ints := [], opqs := (0 : Nat), arrs := [], junks := (0 : Nat) }))) ∧ (U.alld s = false → K (Sum.inr [Sum.inl (Sum.inr (Sum.inr (Sum.inr (Sum.inr (Sum.inr (Sum.inr (Sum.inl (IntKind.i64, (0 : Int))))))))), Sum.inl (Sum.inr (Sum.inr (Sum.inr (Sum.inr (Sum.inr (Sum.inr (Sum.inl (IntKind.i64, (20 : Int)))))))))]) { heap := [], ints := [], opqs := (0 : Nat), arrs := [], junks := (0 : Nat) })))) := by kernel_rfl
theorem bare_vc (K : AV → St → Prop) (s : List Int) : (runI invLS4 tbl0 15 [cell (strC s)] emptySt K) = (∀ (n0 c1 : Nat) (l'2 : List Int), l'2 = s → n0 = List.length s → n0 ≤ c1 → ∀ (z3 : Int), z3 = (↑n0 : Int) → (∃ (y4 : Int × List Int), s = s ∧ ((0 : Nat) = (0 : Nat) ∧ n0 = n0 ∧ c1 = c1) ∧ s = s ∧ ((0 : Nat) = (0 : Nat) ∧ n0 = n0 ∧ c1 = c1) ∧ ((0 : Nat) = (0 : Nat) ∧ n0 = n0 ∧ c1 = c1) ∧ z3 = z3 ∧ (0 : Int) = Prod.fst y4 ∧ (l'2 = Prod.snd y4 ∧ c1 = c1 ∧ false = false) ∧ U.bareI s ((0 : Nat)) (Prod.fst y4) (Prod.snd y4)) ∧ (∀ (x5 : Int × List Int), U.bareI s (0 : Nat) (Prod.fst x5) (Prod.snd x5) → (Prod.fst x5 < z3 → ((0 : Int) ≤ Prod.fst x5 ∧ Prod.fst x5 < (↑n0 : Int)) ∧ ∀ (j6 : Nat), (↑j6 : Int) = (↑((0 : Nat)) : Int) + Prod.fst x5 → j6 < List.length (Prod.snd x5) ∧ ∀ (z7 : Int), z7 = List.getD (Prod.snd x5) j6 (0 : Int) → (z7 = (35 : Int) → (z7 = (10 : Int) → ∀ (z8 : Int), z8 = IntKind.wrap IntKind.i64 (Prod.fst x5 + (1 : Int)) → ∃ (y9 : Int × List Int), s = s ∧ ((0 : Nat) = (0 : Nat) ∧ n0 = n0 ∧ c1 = c1) ∧ s = s ∧ ((0 : Nat) = (0 : Nat) ∧ n0 = n0 ∧ c1 = c1) ∧ ((0 : Nat) = (0 : Nat) ∧ n0 = n0 ∧ c1 = c1) ∧ z3 = z3 ∧ z8 = Prod.fst y9 ∧ (Prod.snd x5 = Prod.snd y9 ∧ c1 = c1 ∧ false = false) ∧ U.bareI s ((0 : Nat)) (Prod.fst y9) (Prod.snd y9) ∧ List.length s - Int.toNat (Prod.fst y9) < List.length s - Int.toNat (Prod.fst x5)) ∧ (¬z7 = (10 : Int) → ((0 : Int) ≤ Prod.fst x5 ∧ Prod.fst x5 < (↑n0 : Int)) ∧ ∀ (j10 : Nat), (↑j10 : Int) = (↑((0 : Nat)) : Int) + Prod.fst x5 → j10 < List.length (Prod.snd x5) ∧ ∀ (l'11 : List Int), l'11 = List.set (Prod.snd x5) j10 (32 : Int) → ∀ (z12 : Int), z12 = IntKind.wrap IntKind.i64 (Prod.fst x5 + (1 : Int)) → ∃ (y13 : Int × List Int), s = s ∧ ((0 : Nat) = (0 : Nat) ∧ n0 = n0 ∧ c1 = c1) ∧ s = s ∧ ((0 : Nat) = (0 : Nat) ∧ n0 = n0 ∧ c1 = c1) ∧ ((0 : Nat) = (0 : Nat) ∧ n0 = n0 ∧ c1 = c1) ∧ z3 = z3 ∧ z12 = Prod.fst y13 ∧ (l'11 = Prod.snd y13 ∧ c1 = c1 ∧ false = false) ∧ U.bareI s ((1 : Nat)) (Prod.fst y13) (Prod.snd y13) ∧ List.length s - Int.toNat (Prod.fst y13) < List.length s - Int.toNat (Prod.fst x5))) ∧ (¬z7 = (35 : Int) → (z7 = (10 : Int) → ∀ (z14 : Int), z14 = IntKind.wrap IntKind.i64 (Prod.fst x5 + (1 : Int)) → ∃ (y15 : Int × List Int), s = s ∧ ((0 : Nat) = (0 : Nat) ∧ n0 = n0 ∧ c1 = c1) ∧ s = s ∧ ((0 : Nat) = (0 : Nat) ∧ n0 = n0 ∧ c1 = c1) ∧ ((0 : Nat) = (0 : Nat) ∧ n0 = n0 ∧ c1 = c1) ∧ z3 = z3 ∧ z14 = Prod.fst y15 ∧ (Prod.snd x5 = Prod.snd y15 ∧ c1 = c1 ∧ false = false) ∧ U.bareI s ((0 : Nat)) (Prod.fst y15) (Prod.snd y15) ∧ List.length s - Int.toNat (Prod.fst y15) < List.length s - Int.toNat (Prod.fst x5)) ∧ (¬z7 = (10 : Int) → ∀ (z16 : Int), z16 = IntKind.wrap IntKind.i64 (Prod.fst x5 + (1 : Int)) → ∃ (y17 : Int × List Int), s = s ∧ ((0 : Nat) = (0 : Nat) ∧ n0 = n0 ∧ c1 = c1) ∧ s = s ∧ ((0 : Nat) = (0 : Nat) ∧ n0 = n0 ∧ c1 = c1) ∧ ((0 : Nat) = (0 : Nat) ∧ n0 = n0 ∧ c1 = c1) ∧ z3 = z3 ∧ z16 = Prod.fst y17 ∧ (Prod.snd x5 = Prod.snd y17 ∧ c1 = c1 ∧ false = false) ∧ U.bareI s ((0 : Nat)) (Prod.fst y17) (Prod.snd y17) ∧ List.length s - Int.toNat (Prod.fst y17) < List.length s - Int.toNat (Prod.fst x5)))) ∧ (¬Prod.fst x5 < z3 → (Nat.le ((0 : Nat) + n0) (List.length (Prod.snd x5)) ∧ ByteL (List.take n0 (List.drop ((0 : Nat)) (Prod.snd x5)))) ∧ ∀ (l'18 : List Int), l'18 = List.take n0 (List.drop ((0 : Nat)) (Prod.snd x5)) → K (Sum.inl (Sum.inl (Sum.inr (Sum.inr (Sum.inr (Sum.inr (Sum.inr (Sum.inr (Sum.inr (Sum.inr (Sum.inr (Sum.inr (Sum.inl l'18))))))))))))) { heap := [], ints := [], opqs := (0 : Nat), arrs := [], junks := (0 : Nat) })) ∧ ∀ (x19 : Int × List Int), U.bareI s (1 : Nat) (Prod.fst x19) (Prod.snd x19) → (Prod.fst x19 < z3 → ((0 : Int) ≤ Prod.fst x19 ∧ Prod.fst x19 < (↑n0 : Int)) ∧ ∀ (j20 : Nat), (↑j20 : Int) = (↑((0 : Nat)) : Int) + Prod.fst x19 → j20 < List.length (Prod.snd x19) ∧ ∀ (z21 : Int), z21 = List.getD (Prod.snd x19) j20 (0 : Int) → (z21 = (35 : Int) → (z21 = (10 : Int) → ∀ (z22 : Int), z22 = IntKind.wrap IntKind.i64 (Prod.fst x19 + (1 : Int)) → ∃ (y23 : Int × List Int), s = s ∧ ((0 : Nat) = (0 : Nat) ∧ n0 = n0 ∧ c1 = c1) ∧ s = s ∧ ((0 : Nat) = (0 : Nat) ∧ n0 = n0 ∧ c1 = c1) ∧ ((0 : Nat) = (0 : Nat) ∧ n0 = n0 ∧ c1 = c1) ∧ z3 = z3 ∧ z22 = Prod.fst y23 ∧ (Prod.snd x19 = Prod.snd y23 ∧ c1 = c1 ∧ false = false) ∧ U.bareI s ((0 : Nat)) (Prod.fst y23) (Prod.snd y23) ∧ List.length s - Int.toNat (Prod.fst y23) < List.length s - Int.toNat (Prod.fst x19)) ∧ (¬z21 = (10 : Int) → ((0 : Int) ≤ Prod.fst x19 ∧ Prod.fst x19 < (↑n0 : Int)) ∧ ∀ (j24 : Nat), (↑j24 : Int) = (↑((0 : Nat)) : Int) + Prod.fst x19 → j24 < List.length (Prod.snd x19) ∧ ∀ (l'25 : List Int), l'25 = List.set (Prod.snd x19) j24 (32 : Int) → ∀ (z26 : Int), z26 = IntKind.wrap IntKind.i64 (Prod.fst x19 + (1 : Int)) → ∃ (y27 : Int × List Int), s = s ∧ ((0 : Nat) = (0 : Nat) ∧ n0 = n0 ∧ c1 = c1) ∧ s = s ∧ ((0 : Nat) = (0 : Nat) ∧ n0 = n0 ∧ c1 = c1) ∧ ((0 : Nat) = (0 : Nat) ∧ n0 = n0 ∧ c1 = c1) ∧ z3 = z3 ∧ z26 = Prod.fst y27 ∧ (l'25 = Prod.snd y27 ∧ c1 = c1 ∧ false = false) ∧ U.bareI s ((1 : Nat)) (Prod.fst y27) (Prod.snd y27) ∧ List.length s - Int.toNat (Prod.fst y27) < List.length s - Int.toNat (Prod.fst x19))) ∧ (¬z21 = (35 : Int) → (z21 = (10 : Int) → ∀ (z28 : Int), z28 = IntKind.wrap IntKind.i64 (Prod.fst x19 + (1 : Int)) → ∃ (y29 : Int × List Int), s = s ∧ ((0 : Nat) = (0 : Nat) ∧ n0 = n0 ∧ c1 = c1) ∧ s = s ∧ ((0 : Nat) = (0 : Nat) ∧ n0 = n0 ∧ c1 = c1) ∧ ((0 : Nat) = (0 : Nat) ∧ n0 = n0 ∧ c1 = c1) ∧ z3 = z3 ∧ z28 = Prod.fst y29 ∧ (Prod.snd x19 = Prod.snd y29 ∧ c1 = c1 ∧ false = false) ∧ U.bareI s ((0 : Nat)) (Prod.fst y29) (Prod.snd y29) ∧ List.length s - Int.toNat (Prod.fst y29) < List.length s - Int.toNat (Prod.fst x19)) ∧ (¬z21 = (10 : Int) → ((0 : Int) ≤ Prod.fst x19 ∧ Prod.fst x19 < (↑n0 : Int)) ∧ ∀ (j30 : Nat), (↑j30 : Int) = (↑((0 : Nat)) : Int) + Prod.fst x19 → j30 < List.length (Prod.snd x19) ∧ ∀ (l'31 : List Int), l'31 = List.set (Prod.snd x19) j30 (32 : Int) → ∀ (z32 : Int), z32 = IntKind.wrap IntKind.i64 (Prod.fst x19 + (1 : Int)) → ∃ (y33 : Int × List Int), s = s ∧ ((0 : Nat) = (0 : Nat) ∧ n0 = n0 ∧ c1 = c1) ∧ s = s ∧ ((0 : Nat) = (0 : Nat) ∧ n0 = n0 ∧ c1 = c1) ∧ ((0 : Nat) = (0 : Nat) ∧ n0 = n0 ∧ c1 = c1) ∧ z3 = z3 ∧ z32 = Prod.fst y33 ∧ (l'31 = Prod.snd y33 ∧ c1 = c1 ∧ false = false) ∧ U.bareI s ((1 : Nat)) (Prod.fst y33) (Prod.snd y33) ∧ List.length s - Int.toNat (Prod.fst y33) < List.length s - Int.toNat (Prod.fst x19)))) ∧ (¬Prod.fst x19 < z3 → (Nat.le ((0 : Nat) + n0) (List.length (Prod.snd x19)) ∧ ByteL (List.take n0 (List.drop ((0 : Nat)) (Prod.snd x19)))) ∧ ∀ (l'34 : List Int), l'34 = List.take n0 (List.drop ((0 : Nat)) (Prod.snd x19)) → K (Sum.inl (Sum.inl (Sum.inr (Sum.inr (Sum.inr (Sum.inr (Sum.inr (Sum.inr (Sum.inr (Sum.inr (Sum.inr (Sum.inr (Sum.inl l'34))))))))))))) { heap := [], ints := [], opqs := (0 : Nat), arrs := [], junks := (0 : Nat) })) := by kernel_rfl
theorem atoi_vc (K : AV → St → Prop) (s : List Int) : (runI inv0 (tblIf 27 pAtoi) 21 [cell (strC s)] emptySt K) = (((1 : Nat) ≤ List.length s ∧ List.length s ≤ (18 : Nat) ∧ U.alld s = true) ∧ ∀ (z0 : Int), z0 = U.num s → K (Sum.inr [Sum.inl (Sum.inr (Sum.inr (Sum.inr (Sum.inr (Sum.inr (Sum.inr (Sum.inl (IntKind.i64, z0)))))))), Sum.inl (Sum.inl Value.nilIface)]) { heap := [], ints := [], opqs := (0 : Nat), arrs := [], junks := (0 : Nat) }) := by kernel_rfl
end Go.Proofs.YtdlmiebiineabaaDoor
end

section
set_option linter.unusedVariables false
set_option linter.unusedSimpArgs false
namespace Go.Proofs.YtdlmiebiineabaaDoor
open Go Reck Ost
theorem kindOf_run (K : AV → St → Prop) (s : List Int) (hl : s.length ≤ 1000000000000) (hh : ¬ s = [] → U.alnum (s.getD 0 0) = true) (hK : K (.inr [.inl (xintC .i64 (U.kind s).1), .inl (xintC .i64 (U.kind s).2)]) emptySt) : runI inv0 tLS3 20 [cell (strC s)] emptySt K := by
  rw [kindOf_vc]
  have key : ∀ a b : Int, U.kind s = (a, b) → K (Sum.inr [Sum.inl (Sum.inr (Sum.inr (Sum.inr (Sum.inr (Sum.inr (Sum.inr (Sum.inl (IntKind.i64, a)))))))), Sum.inl (Sum.inr (Sum.inr (Sum.inr (Sum.inr (Sum.inr (Sum.inr (Sum.inl (IntKind.i64, b))))))))]) { heap := [], ints := [], opqs := (0 : Nat), arrs := [], junks := (0 : Nat) } := by
    intro a b h; rw [h] at hK; exact hK
  refine ⟨fun h => key _ _ (by subst h; rfl), fun h0 => ?_⟩
  have hlen : 0 < s.length := List.length_pos_iff.2 h0
  have ha := alnum_of.1 (hh h0)
  have one : ∀ (P : Prop), (s.length = 1 → s.getD 0 0 = 48 → P) → s = [48] → P := by
    rintro P h rfl; exact h rfl rfl
  have one' : s.getD 0 0 = 48 → ¬ s = [48] → 1 < s.length := by
    intro h1 h2
    match s, hlen with
    | [c], _ => exact absurd (by rw [show c = 48 from h1]) h2
    | _ :: _ :: _, _ => simp
  unfold U.kind at key
  refine ⟨by omega, fun z hz z0 z1 => ⟨fun g1 => ⟨fun g2 y hy => ⟨fun g3 => key _ _ ?_, fun g3 => key _ _ ?_⟩, fun g2 => ⟨hl, fun g3 y hy => ⟨fun g4 => key _ _ ?_, fun g4 => ⟨by omega, fun c hc c0 c1 => ⟨fun g5 => ⟨fun g6 => key _ _ ?_, fun g6 => key _ _ ?_⟩, fun g5 => key _ _ ?_⟩⟩⟩, fun g3 => key _ _ ?_⟩⟩, fun g1 => ⟨hl, fun g3 y hy => ⟨fun g4 => key _ _ ?_, fun g4 => ⟨by omega, fun c hc c0 c1 => ⟨fun g5 => ⟨fun g6 => key _ _ ?_, fun g6 => key _ _ ?_⟩, fun g5 => key _ _ ?_⟩⟩⟩, fun g3 => key _ _ ?_⟩⟩⟩
  all_goals rw [if_neg h0]
  · rw [if_pos (by rw [dig_of]; omega), if_pos (by omega)]
  · rw [if_pos (by rw [dig_of]; omega), if_neg (by omega)]
  · omega
  · omega
  · omega
  · omega
  · omega
  all_goals rw [if_neg (by rw [dig_of]; omega)]
  · rw [if_neg (by simp [g3]), if_pos (by omega)]
  · rw [if_neg (by simp [g3]), if_neg (by omega), if_pos ⟨by omega, one' (by omega) g6⟩]
  · rw [if_neg (by simp [g3]), if_neg (by omega), if_neg (fun hc => one _ (fun h1 _ => by omega) (by simpa using g6))]
  · rw [if_neg (by simp [g3]), if_neg (by omega), if_neg (by omega)]
  · rw [if_pos (by simp [g3])]
def pKindOf : Pat := fun args σ => match args, σ with
  | [x], ⟨[], [], 0, [], 0⟩ => match strX x with
    | some s => some fun K => (s.length ≤ 1000000000000 ∧ (¬ s = [] → U.alnum (s.getD 0 0) = true)) ∧ ∀ a b : Int, a = (U.kind s).1 → b = (U.kind s).2 → K (.inr [.inl (xintC .i64 a), .inl (xintC .i64 b)]) emptySt
    | none => none
  | _, _ => none
theorem pKindOf_ok : PatOk 20 pKindOf := by
  intro tm σ C h K hK w0 e w hk vs hvs
  unfold pKindOf at h
  split at h
  · split at h
    · rename_i s hs
      simp only [Option.some.injEq] at h; subst h
      obtain ⟨v, rfl, hv⟩ := ones hvs
      exact knownC noOv names (conOk_of tLS3_ok) (kindOf_run K s hK.1.1 hK.1.2 (hK.2 _ _ rfl rfl)) w0 e w hk [v] (by simp [as_str hs hv])
    · cases h
  · cases h
def pAtoiP : Pat := fun args σ => match args, σ with
  | [x], ⟨[], [], 0, [], 0⟩ => match strX x with
    | some s => some fun K => (1 ≤ s.length ∧ s.length ≤ 18 ∧ U.alld s = true) ∧ ∀ z : Int, z = U.num s → K (.inr [.inl (xintC .i64 z), .inl (.inl .nilIface)]) emptySt
    | none => none
  | _, _ => none
theorem pAtoiP_ok : PatOk 21 pAtoiP := by
  intro tm σ C h K hK w0 e w hk vs hvs
  unfold pAtoiP at h
  split at h
  · split at h
    · rename_i s hs
      simp only [Option.some.injEq] at h; subst h
      obtain ⟨v, rfl, hv⟩ := ones hvs
      exact knownC noOv names (conOk_of (tblIf_ok pAtoi_ok)) (show runI inv0 (tblIf 27 pAtoi) 21 [cell (strC s)] emptySt K from by rw [atoi_vc]; exact hK) w0 e w hk [v] (by simp [as_str hs hv])
    · cases h
  · cases h
/-! ### A text without its remarks -/
theorem bare_step {s b : List Int} {t t' : Nat} {x y d : Int} {j : Nat} (hl : s.length ≤ 1000000000000) (h : U.bareI s t x b) (hx : x < s.length) (hj : (j : Int) = (OfNat.ofNat (0 : Nat) : Nat) + x) (hy : y = IntKind.wrap .i64 (x + 1))
    (hd : U.bare (Nat.beq t 1) (b.getD j 0 :: s.drop (j + 1)) = d :: U.bare (Nat.beq t' 1) (s.drop (j + 1))) : U.bareI s t' y (b.set j d) ∧ s.length - y.toNat < s.length - x.toNat := by
  have h0 := h.lo
  have h3 := h.rest
  have h4 := h.len
  rw [w64 _ (by omega)] at hy
  have hjx : j = x.toNat := by simp at hj; omega
  subst hjx
  have hyx : y.toNat = x.toNat + 1 := by omega
  have hc : b.getD x.toNat 0 = s.getD x.toNat 0 := by
    rw [drop_at (by omega), drop_at (s := s) (by omega)] at h3
    exact (List.cons.inj h3).1
  refine ⟨⟨by omega, ?_, ?_, by simp [h4]⟩, by omega⟩
  · rw [h.eq, drop_at (s := s) (by omega), ← hc, hd, hyx, List.take_add_one, List.getElem?_set_self (by omega)]
    rw [List.take_set_of_le (by omega)]
    simp
  · rw [hyx, List.drop_set_of_lt (by omega)]
    have := congrArg (List.drop 1) h3
    simpa [List.drop_drop, Nat.add_comm] using this
theorem set_same (b : List Int) (j : Nat) (h : j < b.length) : b.set j (b.getD j 0) = b := by
  rw [List.getD_eq_getElem?_getD, List.getElem?_eq_getElem h]
  simp
theorem bare_byte : ∀ (o : Bool) (s : List Int), s.all byteZ = true → (U.bare o s).all byteZ = true
  | _, [], _ => rfl
  | o, c :: l, h => by
    simp only [List.all_cons, Bool.and_eq_true] at h
    rw [bare_cons]
    split
    · simp [bare_byte false l h.2]; decide
    · split
      · simp [bare_byte true l h.2]; decide
      · simp [bare_byte false l h.2, h.1]
theorem rbare_run (K : AV → St → Prop) (s : List Int) (hl : s.length ≤ 1000000000000) (hb : s.all byteZ = true) (hK : K (cell (strC (U.bare false s))) emptySt) : runI invLS4 tbl0 15 [cell (strC s)] emptySt K := by
  rw [bare_vc]
  intro n c t ht hn hc z hz
  subst ht
  have fin : ∀ (i : Int) (b : List Int) (τ : Nat), U.bareI t τ i b → ¬ i < z → (Nat.le ((OfNat.ofNat (0 : Nat) : Nat) + n) (List.length b) ∧ ByteL (List.take n (List.drop (OfNat.ofNat (0 : Nat)) b))) ∧ ∀ l' : List Int, l' = List.take n (List.drop (OfNat.ofNat (0 : Nat)) b) → K (cell (strC l')) emptySt := by
    intro i b τ h hi
    have h0 := h.lo
    have h4 := h.len
    have e : List.take n (List.drop (OfNat.ofNat (0 : Nat)) b) = U.bare false t := by
      have := h.eq
      rw [List.take_of_length_le (by omega), List.drop_of_length_le (l := t) (by omega)] at this
      rw [this, hn, ← h4]
      simp [U.bare]
    rw [e]
    exact ⟨⟨by simp [hn, h4], ⟨bare_byte false t hb⟩⟩, fun l' h => by rw [h]; exact hK⟩
  have step : ∀ (i : Int) (b : List Int) (τ τ' : Nat) (j : Nat) (d y : Int) (b' : List Int), U.bareI t τ i b → i < z → (j : Int) = (OfNat.ofNat (0 : Nat) : Nat) + i → y = IntKind.wrap .i64 (i + 1) →
      U.bare (Nat.beq τ 1) (b.getD j 0 :: t.drop (j + 1)) = d :: U.bare (Nat.beq τ' 1) (t.drop (j + 1)) → b' = b.set j d →
      ∃ q : Int × List Int, t = t ∧ (OfNat.ofNat (0 : Nat) = (OfNat.ofNat (0 : Nat) : Nat) ∧ n = n ∧ c = c) ∧ t = t ∧ (OfNat.ofNat (0 : Nat) = (OfNat.ofNat (0 : Nat) : Nat) ∧ n = n ∧ c = c) ∧ (OfNat.ofNat (0 : Nat) = (OfNat.ofNat (0 : Nat) : Nat) ∧ n = n ∧ c = c) ∧ z = z ∧ y = Prod.fst q ∧ (b' = Prod.snd q ∧ c = c ∧ false = false) ∧ U.bareI t τ' (Prod.fst q) (Prod.snd q) ∧ t.length - Int.toNat (Prod.fst q) < t.length - Int.toNat i := by
    intro i b τ τ' j d y b' h hi hj hy hd hb'
    subst hb'
    obtain ⟨g1, g2⟩ := bare_step hl h (by omega) hj hy hd
    exact ⟨(y, b.set j d), rfl, ⟨rfl, rfl, rfl⟩, rfl, ⟨rfl, rfl, rfl⟩, ⟨rfl, rfl, rfl⟩, rfl, rfl, ⟨rfl, rfl, rfl⟩, g1, g2⟩
  have lt : ∀ (i : Int) (b : List Int) (τ : Nat), U.bareI t τ i b → i < z → ∀ j : Nat, (j : Int) = (OfNat.ofNat (0 : Nat) : Nat) + i → j < b.length := by
    intro i b τ h hi j hj
    have h0 := h.lo
    have h4 := h.len
    simp at hj; omega
  refine ⟨⟨(0, t), rfl, ⟨rfl, rfl, rfl⟩, rfl, ⟨rfl, rfl, rfl⟩, ⟨rfl, rfl, rfl⟩, rfl, rfl, ⟨rfl, rfl, rfl⟩, ⟨by simp, by simp; rfl, by simp, rfl⟩⟩, ?_, ?_⟩
  · rintro ⟨i, b⟩ h
    dsimp only at h ⊢
    have h0 := h.lo
    refine ⟨fun hi => ⟨by omega, fun j hj => ⟨lt i b _ h hi j hj, fun v hv => ⟨fun g1 => ⟨fun g2 y hy => by omega, fun g2 => ⟨by omega, fun j' hj' => ⟨lt i b _ h hi j' hj', fun b' hb' y hy => ?_⟩⟩⟩, fun g1 => ⟨fun g2 y hy => ?_, fun g2 y hy => ?_⟩⟩⟩⟩, fun hi => fin i b _ h hi⟩
    · have e : j' = j := by omega
      subst e
      exact step i b 0 1 j' 32 y b' h hi hj hy (by rw [← hv, g1, bare_cons, if_neg (by decide), if_pos (Or.inl rfl)]; rfl) hb'
    · exact step i b 0 0 j 10 y b h hi hj hy (by rw [← hv, g2, bare_cons]; rfl) (by rw [← g2, hv, set_same b j (lt i b _ h hi j hj)])
    · exact step i b 0 0 j (b.getD j 0) y b h hi hj hy (by rw [← hv, bare_cons, if_neg g2, if_neg (by simp [g1])]; rfl) (by rw [set_same b j (lt i b _ h hi j hj)])
  · rintro ⟨i, b⟩ h
    dsimp only at h ⊢
    have h0 := h.lo
    refine ⟨fun hi => ⟨by omega, fun j hj => ⟨lt i b _ h hi j hj, fun v hv => ⟨fun g1 => ⟨fun g2 y hy => by omega, fun g2 => ⟨by omega, fun j' hj' => ⟨lt i b _ h hi j' hj', fun b' hb' y hy => ?_⟩⟩⟩, fun g1 => ⟨fun g2 y hy => ?_, fun g2 => ⟨by omega, fun j' hj' => ⟨lt i b _ h hi j' hj', fun b' hb' y hy => ?_⟩⟩⟩⟩⟩⟩, fun hi => fin i b _ h hi⟩
    · have e : j' = j := by omega
      subst e
      exact step i b 1 1 j' 32 y b' h hi hj hy (by rw [← hv, g1, bare_cons, if_neg (by decide), if_pos (Or.inl rfl)]; rfl) hb'
    · exact step i b 1 0 j 10 y b h hi hj hy (by rw [← hv, g2, bare_cons]; rfl) (by rw [← g2, hv, set_same b j (lt i b _ h hi j hj)])
    · have e : j' = j := by omega
      subst e
      exact step i b 1 1 j' 32 y b' h hi hj hy (by rw [← hv, bare_cons, if_neg g2, if_pos (Or.inr (by decide))]; rfl) hb'
def pBare : Pat := fun args σ => match args, σ with
  | [x], ⟨[], [], 0, [], 0⟩ => match strX x with
    | some s => some fun K => s.length ≤ 1000000000000 ∧ ∀ b : List Int, b = U.bare false s → K (cell (strC b)) emptySt
    | none => none
  | _, _ => none
theorem pBare_ok : PatOk 15 pBare := by
  intro tm σ C h K hK w0 e w hk vs hvs
  unfold pBare at h
  split at h
  · split at h
    · rename_i s hs
      simp only [Option.some.injEq] at h; subst h
      obtain ⟨v, rfl, hv⟩ := ones hvs
      exact knownC noOv names (conOk_of tbl0_ok) (rbare_run K s hK.1 (strX_ok hs hv).2 (hK.2 _ rfl)) w0 e w hk [v] (by simp [as_str hs hv])
    · cases h
  · cases h
def tLS5 : Tbl := tblOr (tblIf 20 pKindOf) (tblOr (tblIf 21 pAtoiP) (tblOr (tblIf 15 pBare) tLS3))
theorem tLS5_ok : TblOk Tryd.prog tLS5 := tblOr_ok (tblIf_ok pKindOf_ok) (tblOr_ok (tblIf_ok pAtoiP_ok) (tblOr_ok (tblIf_ok pBare_ok) tLS3_ok))
end Go.Proofs.YtdlmiebiineabaaDoor
end

section
namespace Go.Proofs.YtdlmiebiineabaaDoor
open Go Reck
set_option linter.unusedVariables false
set_option maxRecDepth 100000
--PLAIN
theorem tokenAt_vc (K : AV → St → Prop) (s : List Int) (a : Int) : (runI inv0 tLS5 14 [cell (strC s), xi .i64 a] emptySt K) = (((0 : Int) ≤ a ∧ a ≤ (↑(List.length s) : Int) ∧ (↑(List.length s) : Int) ≤ (↑(List.length s) : Int)) ∧ ∀ (a0 b1 : Nat), (↑a0 : Int) = a → (↑b1 : Int) = (↑(List.length s) : Int) - a → ∀ (l'2 : List Int), l'2 = List.take b1 (List.drop a0 s) → ¬l'2 = [] ∧ ∀ (z3 : Int), z3 = (↑(U.signN l'2) : Int) → ((0 : Int) < z3 → ∀ (z4 : Int), z4 = IntKind.wrap IntKind.i64 (a + z3) → ((0 : Int) ≤ a ∧ a ≤ z4 ∧ z4 ≤ (↑(List.length s) : Int)) ∧ ∀ (a5 b6 : Nat), (↑a5 : Int) = a → (↑b6 : Int) = z4 - a → ∀ (l'7 : List Int), l'7 = List.take b6 (List.drop a5 s) → List.length l'7 ≤ (281474976710656 : Nat) ∧ K (Sum.inr [Sum.inr [Sum.inr (Sum.inr (Sum.inr (Sum.inr (Sum.inr (Sum.inr (Sum.inl (IntKind.i64, (3 : Int)))))))), Sum.inr (Sum.inr (Sum.inr (Sum.inr (Sum.inr (Sum.inr (Sum.inr (Sum.inr (Sum.inr (Sum.inr (Sum.inl l'7)))))))))), Sum.inr (Sum.inr (Sum.inr (Sum.inr (Sum.inr (Sum.inr (Sum.inl (IntKind.i64, (0 : Int)))))))), Sum.inr (Sum.inr (Sum.inr (Sum.inr (Sum.inr (Sum.inr (Sum.inl (IntKind.i64, a)))))))], Sum.inl (Sum.inr (Sum.inr (Sum.inr (Sum.inr (Sum.inr (Sum.inr (Sum.inl (IntKind.i64, (0 : Int)))))))))]) { heap := [], ints := [], opqs := (0 : Nat), arrs := [], junks := (0 : Nat) }) ∧ (¬(0 : Int) < z3 → ((0 : Int) ≤ a ∧ a ≤ (↑(List.length s) : Int) ∧ (↑(List.length s) : Int) ≤ (↑(List.length s) : Int)) ∧ ∀ (a8 b9 : Nat), (↑a8 : Int) = a → (↑b9 : Int) = (↑(List.length s) : Int) - a → ∀ (l'10 : List Int), l'10 = List.take b9 (List.drop a8 s) → List.length l'10 ≤ (1000000000000 : Nat) ∧ ∀ (z11 : Int), z11 = (↑(U.runN l'10) : Int) → ∀ (z12 : Int), z12 = IntKind.wrap IntKind.i64 (a + z11) → ((0 : Int) ≤ a ∧ a ≤ z12 ∧ z12 ≤ (↑(List.length s) : Int)) ∧ ∀ (a13 b14 : Nat), (↑a13 : Int) = a → (↑b14 : Int) = z12 - a → ∀ (l'15 : List Int), l'15 = List.take b14 (List.drop a13 s) → List.length l'15 ≤ (281474976710656 : Nat) ∧ (List.length l'15 ≤ (1000000000000 : Nat) ∧ (¬l'15 = [] → U.alnum (List.getD l'15 (0 : Nat) (0 : Int)) = true)) ∧ ∀ (a16 b17 : Int), a16 = Prod.fst (U.kind l'15) → b17 = Prod.snd (U.kind l'15) → (¬b17 = (0 : Int) → K (Sum.inr [Sum.inr [Sum.inr (Sum.inr (Sum.inr (Sum.inr (Sum.inr (Sum.inr (Sum.inl (IntKind.i64, (0 : Int)))))))), Sum.inl (Value.string { data := { toList := [] } }), Sum.inr (Sum.inr (Sum.inr (Sum.inr (Sum.inr (Sum.inr (Sum.inl (IntKind.i64, (0 : Int)))))))), Sum.inr (Sum.inr (Sum.inr (Sum.inr (Sum.inr (Sum.inr (Sum.inl (IntKind.i64, (0 : Int))))))))], Sum.inl (Sum.inr (Sum.inr (Sum.inr (Sum.inr (Sum.inr (Sum.inr (Sum.inl (IntKind.i64, b17))))))))]) { heap := [], ints := [], opqs := (0 : Nat), arrs := [], junks := (0 : Nat) }) ∧ (¬¬b17 = (0 : Int) → (a16 = (2 : Int) → ((1 : Nat) ≤ List.length l'15 ∧ List.length l'15 ≤ (18 : Nat) ∧ U.alld l'15 = true) ∧ ∀ (z18 : Int), z18 = U.num l'15 → K (Sum.inr [Sum.inr [Sum.inr (Sum.inr (Sum.inr (Sum.inr (Sum.inr (Sum.inr (Sum.inl (IntKind.i64, a16))))))), Sum.inr (Sum.inr (Sum.inr (Sum.inr (Sum.inr (Sum.inr (Sum.inr (Sum.inr (Sum.inr (Sum.inr (Sum.inl l'15)))))))))), Sum.inr (Sum.inr (Sum.inr (Sum.inr (Sum.inr (Sum.inr (Sum.inl (IntKind.i64, z18))))))), Sum.inr (Sum.inr (Sum.inr (Sum.inr (Sum.inr (Sum.inr (Sum.inl (IntKind.i64, a)))))))], Sum.inl (Sum.inr (Sum.inr (Sum.inr (Sum.inr (Sum.inr (Sum.inr (Sum.inl (IntKind.i64, (0 : Int)))))))))]) { heap := [], ints := [], opqs := (0 : Nat), arrs := [], junks := (0 : Nat) }) ∧ (¬a16 = (2 : Int) → K (Sum.inr [Sum.inr [Sum.inr (Sum.inr (Sum.inr (Sum.inr (Sum.inr (Sum.inr (Sum.inl (IntKind.i64, a16))))))), Sum.inr (Sum.inr (Sum.inr (Sum.inr (Sum.inr (Sum.inr (Sum.inr (Sum.inr (Sum.inr (Sum.inr (Sum.inl l'15)))))))))), Sum.inr (Sum.inr (Sum.inr (Sum.inr (Sum.inr (Sum.inr (Sum.inl (IntKind.i64, (0 : Int)))))))), Sum.inr (Sum.inr (Sum.inr (Sum.inr (Sum.inr (Sum.inr (Sum.inl (IntKind.i64, a)))))))], Sum.inl (Sum.inr (Sum.inr (Sum.inr (Sum.inr (Sum.inr (Sum.inr (Sum.inl (IntKind.i64, (0 : Int)))))))))]) { heap := [], ints := [], opqs := (0 : Nat), arrs := [], junks := (0 : Nat) })))) := by kernel_rfl
end Go.Proofs.YtdlmiebiineabaaDoor
end

section
namespace Go.Proofs.YtdlmiebiineabaaDoor
open Go Reck Ost
set_option linter.unusedVariables false
set_option linter.unusedSimpArgs false
theorem tokenAt_run (K : AV → St → Prop) (s : List Int) (a : Int) (hl : s.length ≤ 1000000000000) (ha : 0 ≤ a ∧ a < s.length)
    (hT : (U.tk (s.drop a.toNat)).e = 0 → K (.inr [.inr [xintC .i64 (U.tk (s.drop a.toNat)).k, strC ((s.drop a.toNat).take (U.tk (s.drop a.toNat)).n), xintC .i64 (U.tk (s.drop a.toNat)).z, xintC .i64 a], .inl (xintC .i64 0)]) emptySt)
    (hF : (U.tk (s.drop a.toNat)).e ≠ 0 → K (.inr [.inr [xintC .i64 0, .inl (.string ⟨#[]⟩), xintC .i64 0, xintC .i64 0], .inl (xintC .i64 (U.tk (s.drop a.toNat)).e)]) emptySt) :
    runI inv0 tLS5 14 [cell (strC s), xi .i64 a] emptySt K := by
  rw [tokenAt_vc]
  refine ⟨by omega, fun a0 b1 h0 h1 t ht => ?_⟩
  have e0 : a0 = a.toNat := by omega
  subst e0
  have ht : t = s.drop a.toNat := by rw [ht]; exact List.take_of_length_le (by rw [List.length_drop]; omega)
  subst ht
  obtain ⟨L, hL⟩ : ∃ L, L = s.drop a.toNat := ⟨_, rfl⟩
  have hlen : L.length = s.length - a.toNat := by rw [hL, List.length_drop]
  rw [← hL] at hT hF ⊢
  have hne : ¬ L = [] := by intro h; rw [h] at hlen; simp at hlen; omega
  have hs2 : U.signN L ≤ L.length := by
    unfold U.signN
    split
    · split
      · simp
      · split <;> simp
    · split <;> simp
    · simp
  refine ⟨hne, fun z hz => ⟨fun g1 y hy => ?_, fun g1 => ?_⟩⟩
  · have hk : U.tk L = ⟨0, U.signN L, 3, 0⟩ := by unfold U.tk; rw [if_pos (by omega)]
    rw [hk] at hT
    have hw : y = a + z := by rw [hy]; exact IntWalk.i64_in _ (by omega)
    refine ⟨by omega, fun a5 b6 h5 h6 t ht => ⟨?_, ?_⟩⟩
    · rw [ht, List.length_take]; omega
    · have e5 : a5 = a.toNat := by omega
      have e6 : b6 = U.signN L := by omega
      rw [ht, e5, ← hL, e6]
      exact hT rfl
  · have hs0 : U.signN L = 0 := by omega
    have hk : U.tk L = if (U.kind (L.takeWhile U.alnum)).2 ≠ 0 then ⟨(U.kind (L.takeWhile U.alnum)).2, 0, 0, 0⟩ else ⟨0, (L.takeWhile U.alnum).length, (U.kind (L.takeWhile U.alnum)).1, if (U.kind (L.takeWhile U.alnum)).1 = 2 then U.num (L.takeWhile U.alnum) else 0⟩ := by
      unfold U.tk; rw [if_neg (by omega)]
    refine ⟨by omega, fun a8 b9 h8 h9 t ht => ?_⟩
    have e8 : a8 = a.toNat := by omega
    have ht : t = L := by rw [ht, e8, ← hL]; exact List.take_of_length_le (by omega)
    subst ht
    have hrn := runN_le t
    refine ⟨by omega, fun z11 h11 z12 h12 => ?_⟩
    have hw : z12 = a + z11 := by rw [h12]; exact IntWalk.i64_in _ (by omega)
    refine ⟨by omega, fun a13 b14 h13 h14 w hw' => ?_⟩
    have e13 : a13 = a.toNat := by omega
    have e14 : b14 = U.runN t := by omega
    have hw' : w = t.takeWhile U.alnum := by rw [hw', e13, ← hL, e14, takeW_eq]
    rw [← hw'] at hk
    have hwl : w.length = U.runN t := by rw [hw']; rfl
    have hal : ¬ w = [] → U.alnum (w.getD 0 0) = true := by
      intro hne
      have hall : ∀ x ∈ w, U.alnum x = true := by
        rw [hw']; intro x hx; exact List.all_eq_true.1 List.all_takeWhile x hx
      obtain ⟨c, l, rfl⟩ : ∃ c l, w = c :: l := by cases w with
        | nil => exact absurd rfl hne
        | cons c l => exact ⟨c, l, rfl⟩
      exact hall c (by simp)
    refine ⟨by omega, ⟨by omega, hal⟩, fun k e hk' he => ⟨fun g => ?_, fun g => ?_⟩⟩
    · rw [if_pos (by rw [← he]; exact g)] at hk
      rw [hk] at hF
      subst he
      exact hF g
    · have g : e = 0 := by simpa using g
      rw [if_neg (by rw [← he, g]; simp)] at hk
      rw [hk] at hT
      have hT := hT rfl
      dsimp only at hT
      have htk : t.take w.length = w := by rw [hwl, ← takeW_eq, hw']
      rw [htk] at hT
      subst hk'
      refine ⟨fun g2 => ?_, fun g2 => ?_⟩
      · rw [if_pos g2] at hT
        have hkw : U.kind w = (2, 0) := Prod.ext g2 (by rw [← he, g])
        have hfacts : 1 ≤ w.length ∧ w.length ≤ 18 ∧ U.alld w = true := by
          unfold U.kind at hkw
          split at hkw
          · simp at hkw
          · rename_i hne
            have := List.length_pos_iff.2 hne
            split at hkw
            · split at hkw <;> simp at hkw
            · split at hkw
              · simp at hkw
              · rename_i hd
                split at hkw
                · simp at hkw
                · exact ⟨by omega, by omega, by simpa using hd⟩
        refine ⟨hfacts, fun z hz => ?_⟩
        subst hz
        exact hT
      · rw [if_neg g2] at hT
        exact hT
def pTokenAt : Pat := fun args σ => match args, σ with
  | [x, a], ⟨[], [], 0, [], 0⟩ => match strX x, intX a with
    | some s, some (.i64, a) => some fun K => (s.length ≤ 1000000000000 ∧ 0 ≤ a ∧ a < s.length) ∧ ∀ e : Int, e = (U.tk (s.drop a.toNat)).e →
        (e = 0 → ∀ (k z : Int) (t : List Int), k = (U.tk (s.drop a.toNat)).k → t = (s.drop a.toNat).take (U.tk (s.drop a.toNat)).n → z = (U.tk (s.drop a.toNat)).z → K (.inr [.inr [xintC .i64 k, strC t, xintC .i64 z, xintC .i64 a], .inl (xintC .i64 0)]) emptySt) ∧
        (¬ e = 0 → K (.inr [.inr [xintC .i64 0, .inl (.string ⟨#[]⟩), xintC .i64 0, xintC .i64 0], .inl (xintC .i64 e)]) emptySt)
    | _, _ => none
  | _, _ => none
theorem pTokenAt_ok : PatOk 14 pTokenAt := by
  intro tm σ C h K hK w0 e w hk vs hvs
  unfold pTokenAt at h
  split at h
  · split at h
    · rename_i s a hs ha
      simp only [Option.some.injEq] at h; subst h
      obtain ⟨v, u, rfl, hv, hu⟩ := twos hvs
      obtain ⟨hc, hK⟩ := hK
      obtain ⟨h1, h2⟩ := hK _ rfl
      exact knownC noOv names (conOk_of tLS5_ok) (tokenAt_run K s a hc.1 hc.2 (fun h => h1 h _ _ _ rfl rfl rfl) h2) w0 e w hk [v, u] (by simp [as_str hs hv, as_int ha hu])
    · cases h
  · cases h
def tLS7 : Tbl := tblOr (tblIf 14 pTokenAt) tLS5
theorem tLS7_ok : TblOk Tryd.prog tLS7 := tblOr_ok (tblIf_ok pTokenAt_ok) tLS5_ok
structure U.splI (s : List Int) (a : Int) (L : List (List CV)) (n c : Nat) : Prop where
  lo : 0 ≤ a ∧ a ≤ s.length
  len : L.length = n ∧ n ≤ c ∧ (n : Int) ≤ a
  go : ∀ (R : List (List CV)) (p e : Int), U.Lexed a.toNat (U.bare false (s.drop a.toNat)) L R p e → U.Lexed 0 (U.bare false s) [] R p e
  no : a < s.length → U.blank (s.getD a.toNat 0) = false ∧ ¬ s.getD a.toNat 0 = 35
def splInv (cd : Code) (tm : List AV) (σ : St) (el : TypeId) (sl sa : Nat) (I : List Int → Int → List (List CV) → Nat → Nat → Prop) : Inv where
  X := Int × (List (List CV) × (Nat × Nat))
  tags := [0]
  tag _ _ := 0
  J := wrBut [sl, sa] cd
  val _ x := [(sl, cell (rslC ⟨σ.arrs.length, 4, 0, x.2.2.1, x.2.2.2⟩)), (sa, xi .i64 x.1)]
  st _ x σ' := ⟨σ'.heap, σ'.ints, σ'.opqs, σ'.arrs.dropLast ++ [some ⟨el, .o (.rows [.n .i64, .s, .n .i64, .n .i64] x.2.1), [], x.2.2.2, false⟩], σ'.junks⟩
  I _ x := I (slotT tm 0) x.1 x.2.1 x.2.2.1 x.2.2.2
  m _ x := (slotT tm 0).length - x.1.toNat
  ren tm' σ' := ([], [(rslS tm' sl).a])
def invLS7 : InvF := fun c tm σ => match tm.length, firstReg c with
  | 41, some 5 => some (splInv c tm σ 33 5 6 U.splI)
  | _, _ => none
abbrev runR (inv : InvF) (tbl : Tbl) (f : Nat) (args : List AV) (σ : St) (K : AV → St → Prop) : Prop := goT Tryd.prog [] (orcR inv (fun _ _ _ => none) tbl) (opMem Tryd.prog) 3000 (.inr (.inr (.inr (.inr f)))) args σ (retC σ K)
set_option maxRecDepth 100000
--PLAIN
theorem split_vc (K : AV → St → Prop) (s : List Int) : (runR invLS7 tLS7 7 [cell (strC s)] emptySt K) = (∀ (z0 : Int), z0 = (↑(List.length s) : Int) → ((4096 : Int) < z0 → K (Sum.inr [Sum.inl (Sum.inr (Sum.inr (Sum.inr (Sum.inr (Sum.inr (Sum.inr (Sum.inr (Sum.inr (Sum.inr (Sum.inr (Sum.inr (Sum.inl { a := (0 : Nat), u := (4 : Nat), o := (0 : Nat), n := (0 : Nat), c := (0 : Nat) })))))))))))), Sum.inl (Sum.inr (Sum.inr (Sum.inr (Sum.inr (Sum.inr (Sum.inr (Sum.inl (IntKind.i64, (0 : Int))))))))), Sum.inl (Sum.inr (Sum.inr (Sum.inr (Sum.inr (Sum.inr (Sum.inr (Sum.inl (IntKind.i64, (6 : Int)))))))))]) { heap := [], ints := [], opqs := (0 : Nat), arrs := [some { elem := (33 : Nat), k := AK.o (Obj.rows [CK.n IntKind.i64, CK.s, CK.n IntKind.i64, CK.n IntKind.i64] U.nilL), l := [], cap := (0 : Nat), ro := false }], junks := (0 : Nat) }) ∧ (¬(4096 : Int) < z0 → (List.length s ≤ (1000000000000 : Nat) ∧ (0 : Int) ≤ (0 : Int) ∧ (0 : Int) ≤ (↑(List.length s) : Int)) ∧ ∀ (z1 : Int), U.Pass s (0 : Int) z1 → (∃ (y2 : Int × List (List CV) × Nat × Nat), s = s ∧ ((0 : Nat) = (0 : Nat) ∧ (0 : Nat) = Prod.fst (Prod.snd (Prod.snd y2)) ∧ (0 : Nat) = Prod.snd (Prod.snd (Prod.snd y2))) ∧ z1 = Prod.fst y2 ∧ s = s ∧ z0 = z0 ∧ s = s ∧ z1 = z1 ∧ (U.nilL = U.nilL ∧ (0 : Nat) = (0 : Nat) ∧ false = false) ∧ (U.nilL = Prod.fst (Prod.snd y2) ∧ (0 : Nat) = Prod.snd (Prod.snd (Prod.snd y2)) ∧ false = false) ∧ U.splI s (Prod.fst y2) (Prod.fst (Prod.snd y2)) (Prod.fst (Prod.snd (Prod.snd y2))) (Prod.snd (Prod.snd (Prod.snd y2)))) ∧ ∀ (x3 : Int × List (List CV) × Nat × Nat), U.splI s (Prod.fst x3) (Prod.fst (Prod.snd x3)) (Prod.fst (Prod.snd (Prod.snd x3))) (Prod.snd (Prod.snd (Prod.snd x3))) → ∀ (z4 : Int), z4 = (↑(List.length s) : Int) → (Prod.fst x3 < z4 → (List.length s ≤ (1000000000000 : Nat) ∧ (0 : Int) ≤ Prod.fst x3 ∧ Prod.fst x3 < (↑(List.length s) : Int)) ∧ ∀ (e5 : Int), e5 = (U.tk (List.drop (Int.toNat (Prod.fst x3)) s)).1 → (e5 = (0 : Int) → ∀ (k6 z7 : Int) (t8 : List Int), k6 = (U.tk (List.drop (Int.toNat (Prod.fst x3)) s)).3 → t8 = List.take (U.tk (List.drop (Int.toNat (Prod.fst x3)) s)).2 (List.drop (Int.toNat (Prod.fst x3)) s) → z7 = (U.tk (List.drop (Int.toNat (Prod.fst x3)) s)).4 → (¬(0 : Int) = (0 : Int) → K (Sum.inr [Sum.inl (Sum.inr (Sum.inr (Sum.inr (Sum.inr (Sum.inr (Sum.inr (Sum.inr (Sum.inr (Sum.inr (Sum.inr (Sum.inr (Sum.inl { a := (0 : Nat), u := (3 : Nat) + (1 : Nat), o := (0 : Nat), n := (0 : Nat), c := (0 : Nat) })))))))))))), Sum.inl (Sum.inr (Sum.inr (Sum.inr (Sum.inr (Sum.inr (Sum.inr (Sum.inl (IntKind.i64, Prod.fst x3)))))))), Sum.inl (Sum.inr (Sum.inr (Sum.inr (Sum.inr (Sum.inr (Sum.inr (Sum.inl (IntKind.i64, (0 : Int)))))))))]) { heap := [], ints := [], opqs := (0 : Nat), arrs := [some { elem := (33 : Nat), k := AK.o (Obj.rows [CK.n IntKind.i64, CK.s, CK.n IntKind.i64, CK.n IntKind.i64] U.nilL), l := [], cap := (0 : Nat), ro := false }], junks := (0 : Nat) }) ∧ (¬¬(0 : Int) = (0 : Int) → ((0 : Nat) + Prod.fst (Prod.snd (Prod.snd x3)) ≤ List.length (Prod.fst (Prod.snd x3)) ∧ (0 : Nat) + Prod.snd (Prod.snd (Prod.snd x3)) ≤ Prod.snd (Prod.snd (Prod.snd x3))) ∧ True ∧ Prod.fst (Prod.snd (Prod.snd x3)) ≤ (16777216 : Nat) ∧ (1 : Nat) ≤ (16777216 : Nat) ∧ ∀ (L'9 : List (List CV)) (n'10 c'11 : Nat), L'9 = List.take (Prod.fst (Prod.snd (Prod.snd x3))) (List.drop ((0 : Nat)) (Prod.fst (Prod.snd x3))) ++ [CV.i k6, CV.s t8, CV.i z7, CV.i (Prod.fst x3)] :: U.nilL → n'10 = Prod.fst (Prod.snd (Prod.snd x3)) + (1 : Nat) → n'10 ≤ c'11 → ∀ (z12 : Int), z12 = (↑(List.length t8) : Int) → ∀ (z13 : Int), z13 = IntKind.wrap IntKind.i64 (Prod.fst x3 + z12) → (List.length s ≤ (1000000000000 : Nat) ∧ (0 : Int) ≤ z13 ∧ z13 ≤ (↑(List.length s) : Int)) ∧ ∀ (z14 : Int), U.Pass s z13 z14 → ∃ (y15 : Int × List (List CV) × Nat × Nat), s = s ∧ ((0 : Nat) = (0 : Nat) ∧ n'10 = Prod.fst (Prod.snd (Prod.snd y15)) ∧ c'11 = Prod.snd (Prod.snd (Prod.snd y15))) ∧ z14 = Prod.fst y15 ∧ s = s ∧ z0 = z0 ∧ s = s ∧ z1 = z1 ∧ (U.nilL = U.nilL ∧ (0 : Nat) = (0 : Nat) ∧ false = false) ∧ (L'9 = Prod.fst (Prod.snd y15) ∧ c'11 = Prod.snd (Prod.snd (Prod.snd y15)) ∧ false = false) ∧ U.splI s (Prod.fst y15) (Prod.fst (Prod.snd y15)) (Prod.fst (Prod.snd (Prod.snd y15))) (Prod.snd (Prod.snd (Prod.snd y15))) ∧ List.length s - Int.toNat (Prod.fst y15) < List.length s - Int.toNat (Prod.fst x3))) ∧ (¬e5 = (0 : Int) → (¬e5 = (0 : Int) → K (Sum.inr [Sum.inl (Sum.inr (Sum.inr (Sum.inr (Sum.inr (Sum.inr (Sum.inr (Sum.inr (Sum.inr (Sum.inr (Sum.inr (Sum.inr (Sum.inl { a := (0 : Nat), u := (3 : Nat) + (1 : Nat), o := (0 : Nat), n := (0 : Nat), c := (0 : Nat) })))))))))))), Sum.inl (Sum.inr (Sum.inr (Sum.inr (Sum.inr (Sum.inr (Sum.inr (Sum.inl (IntKind.i64, Prod.fst x3)))))))), Sum.inl (Sum.inr (Sum.inr (Sum.inr (Sum.inr (Sum.inr (Sum.inr (Sum.inl (IntKind.i64, e5))))))))]) { heap := [], ints := [], opqs := (0 : Nat), arrs := [some { elem := (33 : Nat), k := AK.o (Obj.rows [CK.n IntKind.i64, CK.s, CK.n IntKind.i64, CK.n IntKind.i64] U.nilL), l := [], cap := (0 : Nat), ro := false }], junks := (0 : Nat) }) ∧ (¬¬e5 = (0 : Int) → ((0 : Nat) + Prod.fst (Prod.snd (Prod.snd x3)) ≤ List.length (Prod.fst (Prod.snd x3)) ∧ (0 : Nat) + Prod.snd (Prod.snd (Prod.snd x3)) ≤ Prod.snd (Prod.snd (Prod.snd x3))) ∧ True ∧ Prod.fst (Prod.snd (Prod.snd x3)) ≤ (16777216 : Nat) ∧ (1 : Nat) ≤ (16777216 : Nat) ∧ ∀ (L'16 : List (List CV)) (n'17 c'18 : Nat), L'16 = List.take (Prod.fst (Prod.snd (Prod.snd x3))) (List.drop ((0 : Nat)) (Prod.fst (Prod.snd x3))) ++ [CV.i (0 : Int), CV.s [], CV.i (0 : Int), CV.i (0 : Int)] :: U.nilL → n'17 = Prod.fst (Prod.snd (Prod.snd x3)) + (1 : Nat) → n'17 ≤ c'18 → ∀ (z19 : Int), z19 = IntKind.wrap IntKind.i64 (Prod.fst x3 + (0 : Int)) → (List.length s ≤ (1000000000000 : Nat) ∧ (0 : Int) ≤ z19 ∧ z19 ≤ (↑(List.length s) : Int)) ∧ ∀ (z20 : Int), U.Pass s z19 z20 → ∃ (y21 : Int × List (List CV) × Nat × Nat), s = s ∧ ((0 : Nat) = (0 : Nat) ∧ n'17 = Prod.fst (Prod.snd (Prod.snd y21)) ∧ c'18 = Prod.snd (Prod.snd (Prod.snd y21))) ∧ z20 = Prod.fst y21 ∧ s = s ∧ z0 = z0 ∧ s = s ∧ z1 = z1 ∧ (U.nilL = U.nilL ∧ (0 : Nat) = (0 : Nat) ∧ false = false) ∧ (L'16 = Prod.fst (Prod.snd y21) ∧ c'18 = Prod.snd (Prod.snd (Prod.snd y21)) ∧ false = false) ∧ U.splI s (Prod.fst y21) (Prod.fst (Prod.snd y21)) (Prod.fst (Prod.snd (Prod.snd y21))) (Prod.snd (Prod.snd (Prod.snd y21))) ∧ List.length s - Int.toNat (Prod.fst y21) < List.length s - Int.toNat (Prod.fst x3)))) ∧ (¬Prod.fst x3 < z4 → K (Sum.inr [Sum.inl (Sum.inr (Sum.inr (Sum.inr (Sum.inr (Sum.inr (Sum.inr (Sum.inr (Sum.inr (Sum.inr (Sum.inr (Sum.inr (Sum.inl { a := (0 : Nat), u := (4 : Nat), o := (0 : Nat), n := Prod.fst (Prod.snd (Prod.snd x3)), c := Prod.snd (Prod.snd (Prod.snd x3)) })))))))))))), Sum.inl (Sum.inr (Sum.inr (Sum.inr (Sum.inr (Sum.inr (Sum.inr (Sum.inl (IntKind.i64, (0 : Int))))))))), Sum.inl (Sum.inr (Sum.inr (Sum.inr (Sum.inr (Sum.inr (Sum.inr (Sum.inl (IntKind.i64, (0 : Int)))))))))]) { heap := [], ints := [], opqs := (0 : Nat), arrs := [some { elem := (33 : Nat), k := AK.o (Obj.rows [CK.n IntKind.i64, CK.s, CK.n IntKind.i64, CK.n IntKind.i64] (Prod.fst (Prod.snd x3))), l := [], cap := Prod.snd (Prod.snd (Prod.snd x3)), ro := false }], junks := (0 : Nat) }))) := by kernel_rfl
end Go.Proofs.YtdlmiebiineabaaDoor
end

section
set_option linter.unusedVariables false
set_option linter.unusedSimpArgs false
namespace Go.Proofs.YtdlmiebiineabaaDoor
open Go Reck Ost
theorem signN_le (L : List Int) : U.signN L ≤ L.length := by
  unfold U.signN
  split
  · split
    · simp
    · split <;> simp
  · split <;> simp
  · simp
theorem tk_le (L : List Int) : (U.tk L).n ≤ L.length := by
  unfold U.tk
  split
  · exact signN_le L
  · dsimp only
    split
    · simp
    · exact runN_le L
theorem tk_pos (L : List Int) (h : (U.tk L).e = 0) : 1 ≤ (U.tk L).n := by
  unfold U.tk at h ⊢
  split
  · dsimp only; omega
  · rename_i hs
    rw [if_neg hs] at h
    dsimp only at h ⊢
    split
    · rename_i h2; rw [if_pos h2] at h; exact absurd h h2
    · rename_i h2
      dsimp only
      have h2 : (U.kind (L.takeWhile U.alnum)).2 = 0 := by simpa using h2
      by_cases hn : L.takeWhile U.alnum = []
      · rw [hn] at h2; simp [U.kind] at h2
      · exact List.length_pos_iff.2 hn
theorem Lexed.tokAt {s : List Int} {a : Nat} {L R : List (List CV)} {p e : Int} (ha : a < s.length) (hb : U.blank (s.getD a 0) = false) (h35 : ¬ s.getD a 0 = 35) (he : (U.tk (s.drop a)).e = 0)
    (h : U.Lexed (a + (U.tk (s.drop a)).n) (U.bare false (s.drop (a + (U.tk (s.drop a)).n))) (L ++ [[.i (U.tk (s.drop a)).k, .s ((s.drop a).take (U.tk (s.drop a)).n), .i (U.tk (s.drop a)).z, .i a]]) R p e) : U.Lexed a (U.bare false (s.drop a)) L R p e := by
  have hd := drop_at ha
  rw [← List.drop_drop] at h
  rw [hd] at he h ⊢
  obtain ⟨c, hc⟩ : ∃ c, c = s.getD a 0 := ⟨_, rfl⟩
  obtain ⟨l, hl⟩ : ∃ l, l = s.drop (a + 1) := ⟨_, rfl⟩
  rw [← hc, ← hl] at he h ⊢
  rw [← hc] at hb h35
  obtain ⟨g1, g2⟩ := tok_bare c l h35 he
  have g3 := tk_bare c l h35
  rw [← g1, ← g2] at h
  rw [← g3] at h he
  rw [bare_head c l h35] at h he ⊢
  exact U.Lexed.tok a c _ L R p e hb he h
theorem Lexed.badAt {s : List Int} {a : Nat} {L : List (List CV)} (ha : a < s.length) (hb : U.blank (s.getD a 0) = false) (h35 : ¬ s.getD a 0 = 35) (he : (U.tk (s.drop a)).e ≠ 0) : U.Lexed a (U.bare false (s.drop a)) L [] a (U.tk (s.drop a)).e := by
  have hd := drop_at ha
  rw [hd] at he ⊢
  obtain ⟨c, hc⟩ : ∃ c, c = s.getD a 0 := ⟨_, rfl⟩
  rw [← hc] at hb h35 he ⊢
  have g3 := tk_bare c (s.drop (a + 1)) h35
  rw [← g3] at he ⊢
  rw [bare_head c _ h35] at he ⊢
  exact U.Lexed.bad a c _ L hb he
/-- What Split answers. -/
structure U.Split (s : List Int) (L : List (List CV)) (p e : Int) : Prop where
  long : 4096 < s.length → L = [] ∧ p = 0 ∧ e = 6
  short : s.length ≤ 4096 → U.Lexed 0 (U.bare false s) [] L p e
theorem Split.det {s : List Int} {L L' : List (List CV)} {p e p' e' : Int} (h : U.Split s L p e) (h' : U.Split s L' p' e') : L = L' ∧ p = p' ∧ e = e' := by
  rcases Nat.lt_or_ge 4096 s.length with hl | hl
  · obtain ⟨rfl, rfl, rfl⟩ := h.long hl
    obtain ⟨rfl, rfl, rfl⟩ := h'.long hl
    exact ⟨rfl, rfl, rfl⟩
  · exact Lexed.det (h.short hl) (h'.short hl)
def tokK : List CK := [.n .i64, .s, .n .i64, .n .i64]
def tokB (el : TypeId) (L : List (List CV)) (c : Nat) : Option ABlk := some ⟨el, .o (.rows tokK L), [], c, false⟩
def spV (L : Cell) (p e : Int) : AV := .inr [.inl L, .inl (xintC .i64 p), .inl (xintC .i64 e)]
theorem spl_step {s : List Int} {a k z z12 z13 z14 : Int} {w : List Int} {L L' : List (List CV)} {n c n' c' : Nat} (hl : s.length ≤ 4096) (h : U.splI s a L n c) (ha : a < s.length) (he : (U.tk (s.drop a.toNat)).e = 0) (hk : k = (U.tk (s.drop a.toNat)).k) (hw : w = (s.drop a.toNat).take (U.tk (s.drop a.toNat)).n) (hz : z = (U.tk (s.drop a.toNat)).z)
    (hL : L' = L ++ [[CV.i k, CV.s w, CV.i z, CV.i a]]) (hn : n' = n + 1) (hc : n' ≤ c') (h12 : z12 = (w.length : Int)) (h13 : z13 = IntKind.wrap .i64 (a + z12)) :
    (0 ≤ z13 ∧ z13 ≤ (s.length : Int)) ∧ (U.Pass s z13 z14 → U.splI s z14 L' n' c' ∧ s.length - z14.toNat < s.length - a.toNat) := by
  have h0 := h.lo
  have h1 := h.len
  obtain ⟨b1, b2⟩ := h.no ha
  have hp := tk_pos _ he
  have hle := tk_le (s.drop a.toNat)
  rw [List.length_drop] at hle
  have hwl : w.length = (U.tk (s.drop a.toNat)).n := by rw [hw, List.length_take, List.length_drop]; omega
  rw [w64 _ (by omega)] at h13
  refine ⟨by omega, fun hP => ⟨⟨?_, ?_, ?_, hP.no⟩, ?_⟩⟩
  · have := hP.lo; omega
  · have := hP.lo
    rw [hL, List.length_append]
    simp only [List.length_cons, List.length_nil]
    omega
  · intro R p e hh
    refine h.go R p e (Lexed.tokAt (by omega) b1 b2 he ?_)
    have := hP.go _ _ _ _ hh
    rw [hL, hk, hw, hz] at this
    have e1 : z13.toNat = a.toNat + (U.tk (s.drop a.toNat)).n := by omega
    rw [e1] at this
    have e2 : (a.toNat : Int) = a := by omega
    rw [e2]
    exact this
  · have := hP.lo; omega
theorem split_run (K : AV → St → Prop) (s : List Int)
    (hK : ∀ (L : List (List CV)) (n c : Nat) (p e : Int), U.Split s L p e → L.length = n → n ≤ c → n ≤ 4096 → K (spV (rslC ⟨0, 4, 0, n, c⟩) p e) ⟨[], [], 0, [tokB 33 L c], 0⟩) :
    runR invLS7 tLS7 7 [cell (strC s)] emptySt K := by
  rw [split_vc]
  have fin : ∀ (a : Int) (L : List (List CV)) (n c : Nat), s.length ≤ 4096 → U.splI s a L n c → ¬ a < s.length → U.Split s L 0 0 := by
    intro a L n c hl h ha
    refine ⟨fun h => by omega, fun _ => h.go L 0 0 ?_⟩
    rw [List.drop_of_length_le (by have := h.lo; omega)]
    exact U.Lexed.stop _ _
  have bad : ∀ (a : Int) (L : List (List CV)) (n c : Nat) (e : Int), s.length ≤ 4096 → U.splI s a L n c → a < s.length → e = (U.tk (s.drop a.toNat)).e → ¬ e = 0 → U.Split s [] a e := by
    intro a L n c e hl h ha he hne
    have h0 := h.lo
    obtain ⟨b1, b2⟩ := h.no ha
    refine ⟨fun h => by omega, fun _ => h.go [] a e ?_⟩
    have := Lexed.badAt (L := L) (by omega) b1 b2 (by rw [← he]; exact hne)
    rw [he]
    have e2 : (a.toNat : Int) = a := by omega
    rw [e2] at this
    exact this
  intro z0 hz0
  refine ⟨fun hl => hK [] 0 0 0 6 ⟨fun _ => ⟨rfl, rfl, rfl⟩, fun h => by omega⟩ rfl (Nat.le_refl _) (by omega), fun hl => ⟨by omega, fun z1 hP => ⟨⟨(z1, [], 0, 0), rfl, ⟨rfl, rfl, rfl⟩, rfl, rfl, rfl, rfl, rfl, ⟨rfl, rfl, rfl⟩, ⟨rfl, rfl, rfl⟩, ⟨?_, ?_, ?_, hP.no⟩⟩, ?_⟩⟩⟩
  · have := hP.lo; dsimp only; omega
  · have := hP.lo; dsimp only; simp; omega
  · intro R p e h; exact hP.go _ _ _ _ h
  · rintro ⟨a, L, n, c⟩ h
    dsimp only at h ⊢
    have h0 := h.lo
    have h1 := h.len
    intro z4 hz4
    refine ⟨fun ha => ⟨by omega, fun e5 he5 => ⟨fun g k z w hk hw hz => ⟨fun h => absurd rfl h, fun _ => ⟨⟨by simp; omega, by simp⟩, trivial, by omega, by decide, fun L' n' c' hL' hn' hc' z12 h12 z13 h13 => ?_⟩⟩, fun g => ⟨fun _ => hK [] 0 0 a e5 (bad a L n c e5 (by omega) h (by omega) he5 g) rfl (Nat.le_refl _) (by omega), fun g2 => absurd g g2⟩⟩⟩, fun ha => ?_⟩
    · have hLL : List.take n (List.drop (OfNat.ofNat 0) L) = L := List.take_of_length_le (by simp; omega)
      rw [hLL] at hL'
      have step := fun z14 => spl_step (s := s) (a := a) (L := L) (L' := L') (n' := n') (c' := c') (z14 := z14) (by omega) h (by omega) (by rw [← he5]; exact g) hk hw hz hL' (show n' = n + 1 by rw [hn']) hc' h12 h13
      refine ⟨by have := (step 0).1; omega, fun z14 hP' => ?_⟩
      obtain ⟨q1, q2⟩ := (step z14).2 hP'
      exact ⟨(z14, L', n', c'), rfl, ⟨rfl, rfl, rfl⟩, rfl, rfl, rfl, rfl, rfl, ⟨rfl, rfl, rfl⟩, ⟨rfl, rfl, rfl⟩, q1, q2⟩
    · exact hK L n c 0 0 (fin a L n c (by omega) h (by omega)) h1.1 h1.2.1 (by omega)
/-- What is known of Split, at whichever number. -/
def pSplit (el : TypeId) : Pat := fun args σ => match args, σ with
  | [x], ⟨[], [], 0, [], 0⟩ => match strX x with
    | some s => some fun K => ∀ (L : List (List CV)) (n c : Nat) (p e : Int), U.Split s L p e → L.length = n → n ≤ c → n ≤ 4096 → K (spV (rslC ⟨0, 4, 0, n, c⟩) p e) ⟨[], [], 0, [tokB el L c], 0⟩
    | none => none
  | _, _ => none
theorem pSplit_ok : PatOk 7 (pSplit 33) := by
  intro tm σ C h K hK w0 e w hk vs hvs
  unfold pSplit at h
  split at h
  · split at h
    · rename_i s hs
      simp only [Option.some.injEq] at h; subst h
      obtain ⟨v, rfl, hv⟩ := ones hvs
      exact knownC (R := orcR invLS7 (fun _ _ _ => none) tLS7) (n := 3000) noOv names (conOk_ofR tLS7_ok) (split_run K s hK) w0 e w hk [v] (by simp [as_str hs hv])
    · cases h
  · cases h
end Go.Proofs.YtdlmiebiineabaaDoor
end
