/- Parts of a proof, one behind the other: K0 K1 K2 K3 K4. No condition. -/
import Derived.Test.YtfgnfnmbfkjnjaaGB
section
set_option linter.unusedVariables false
set_option linter.unusedSimpArgs false
namespace Go.Proofs.Ytfgnfnmbfkjnjaa
open Go Reck
theorem take_get {l : List Int} {k : Nat} (h : k < l.length) : l.take (k + 1) = l.take k ++ [l.getD k 0] := by
  rw [List.take_succ_eq_append_getElem h]; simp [List.getD, h]
theorem sub_get (L : List Int) (o n k : Nat) (hl : o + n ≤ L.length) (h : k < n) : ((L.drop o).take n).getD k 0 = L.getD (o + k) 0 := by
  simp [List.getD, List.getElem?_take, h, List.getElem?_drop]
theorem sub_len (L : List Int) (o n : Nat) (hl : o + n ≤ L.length) : ((L.drop o).take n).length = n := by simp; omega
def byteL (l : List Int) : Prop := ∀ x ∈ l, 0 ≤ x ∧ x ≤ 255
theorem byteL_sub {L : List Int} (h : byteL L) (o n : Nat) : byteL ((L.drop o).take n) := fun x hx => h x (List.mem_of_mem_drop (List.mem_of_mem_take hx))
theorem byteL_take {L : List Int} (h : byteL L) (n : Nat) : byteL (L.take n) := fun x hx => h x (List.mem_of_mem_take hx)
theorem byteL_get {L : List Int} (h : byteL L) (k : Nat) : 0 ≤ L.getD k 0 ∧ L.getD k 0 ≤ 255 := by
  rw [List.getD_eq_getElem?_getD]
  cases hk : L[k]? with
  | none => simp
  | some x => exact h x (List.mem_of_getElem? hk)
theorem u64_of (a : Int) (h : 0 ≤ a ∧ a ≤ 18446744073709551615) : (BitVec.ofInt 64 a).toNat = a.toNat := by
  rw [BitVec.toNat_ofInt]; omega
theorem and_mask {a : Int} (j : Nat) (hj : j < 64) (h : 0 ≤ a ∧ a ≤ 18446744073709551615) {m : Int} (hm : m = 2 ^ j - 1) : andI .u64 a m = a % 2 ^ j := by
  have hp : (2 : Nat) ^ j < 2 ^ 64 := Nat.pow_lt_pow_right (by decide) hj
  have hp0 : 0 < (2 : Nat) ^ j := Nat.pow_pos (by decide)
  have e1 : m = (((2 : Nat) ^ j - 1 : Nat) : Int) := by rw [hm, Int.natCast_sub (by omega)]; simp
  have hc : ((2 : Int) ^ j) = (((2 : Nat) ^ j : Nat) : Int) := by simp
  unfold andI
  show IntKind.u64.wrap ((BitVec.ofInt 64 a &&& BitVec.ofInt 64 m).toNat : Int) = _
  rw [BitVec.toNat_and, u64_of a h, u64_of m (by rw [e1]; omega), e1]
  have : ((((2 : Nat) ^ j - 1 : Nat) : Int)).toNat = 2 ^ j - 1 := by omega
  rw [this, Nat.and_two_pow_sub_one_eq_mod, hc]
  have h2 : a.toNat % 2 ^ j < 2 ^ j := Nat.mod_lt _ hp0
  rw [wrap_in (k := .u64) (by simp [IntKind.min, IntKind.max, IntKind.signed, IntKind.bits]; omega)]
  have : a = (a.toNat : Int) := by omega
  rw [this]; simp
theorem shr_at {a : Int} (j : Nat) (hj : j ≤ 64) (h : 0 ≤ a) {m : Int} (hm : m = j) : shrI .u64 a m = a / 2 ^ j := by
  unfold shrI
  rw [hm, Int.toNat_natCast, show min j (IntKind.bits .u64) = j from Nat.min_eq_left hj, Int.fdiv_eq_ediv_of_nonneg]
  exact Int.le_of_lt (Int.pow_pos (by decide))
def pt (l : List Cell) : Option Blk := some ⟨26, l, none, l.length, false⟩
end Go.Proofs.Ytfgnfnmbfkjnjaa
end

section
namespace Go.Proofs.Ytfgnfnmbfkjnjaa
open Go Reck
set_option maxRecDepth 100000
set_option linter.unusedVariables false
set_option linter.unusedSimpArgs false
/-- A word turned to the left by one place, and by some. -/
def rot1 (v : Int) : Int := IntKind.wrap .u64 (IntKind.wrap .u64 (v * 2) + v / 9223372036854775808)
def rotN : Nat → Int → Int
  | 0, v => v
  | n + 1, v => rot1 (rotN n v)
def U.rot (w k : Int) : Int := rotN k.toNat w
structure U.turnI (w0 k : Int) (i w : Int) : Prop where
  out : ∃ j : Nat, i = j ∧ (j : Int) ≤ k ∧ w = rotN j w0 ∧ 0 ≤ w ∧ w ≤ 18446744073709551615
def turnInv (c : Code) (tm : List AV) : Inv where
  X := Int × Int
  tags := [0]
  tag _ _ := 0
  J := wrBut [5, 0] c
  val _ x := [(5, xi .i64 x.1), (0, xi .u64 x.2)]
  st _ _ σ := σ
  I _ x := U.turnI (slotI tm 0) (slotI tm 1) x.1 x.2
  m _ x := (slotI tm 1 - x.1).toNat
  ren := noRen
def inv4 (c : Code) (tm : List AV) (σ : St) : Option Inv :=
  match tm.length, firstReg c with
  | 17, some 2 => if isXint (tm.getD 0 (lit undef)) then some (turnInv c tm) else none
  | _, _ => none
abbrev runT (tbl : Tbl) (f : Nat) (args : List AV) (σ : St) (K : AV → St → Prop) : Prop := goT Try.prog [] (orcOf inv4 tbl) (opMem Try.prog) 3000 (.inr (.inr (.inr (.inr f)))) args σ (retC σ K)
def tRot : Tbl := fun f args σ => if f == 57 || f == 59 then match args, σ with
    | [a, b], ⟨[], [], 0, [], 0⟩ => match intX a, intX b with
      | some (.u64, w), some (.i64, k) => some fun K => ((0 ≤ w ∧ w ≤ 18446744073709551615) ∧ 0 < k ∧ k < 64) ∧ ∀ z : Int, z = U.rot w k → K (xi .u64 z) emptySt
      | _, _ => none
    | _, _ => none
  else none
theorem rot_vc (K : AV → St → Prop) (w k : Int) : (runT tbl0 57 [xi .u64 w, xi .i64 k] emptySt K) = (∀ (z0 : Int), z0 = IntKind.wrap IntKind.u64 k → ∀ (z1 : Int), z1 = andI IntKind.u64 z0 (63 : Int) → (0 : Int) ≤ z1 ∧ ∀ (z2 : Int), z2 = shlI IntKind.u64 w z1 → ∀ (z3 : Int), z3 = IntKind.wrap IntKind.u64 ((64 : Int) - z1) → (0 : Int) ≤ z3 ∧ ∀ (z4 : Int), z4 = shrI IntKind.u64 w z3 → ∀ (z5 : Int), z5 = orI IntKind.u64 z2 z4 → K (Sum.inl (Sum.inl (Sum.inr (Sum.inr (Sum.inr (Sum.inr (Sum.inr (Sum.inr (Sum.inl (IntKind.u64, z5)))))))))) { heap := [], ints := [], opqs := (0 : Nat), arrs := [], junks := (0 : Nat) }) := by kernel_rfl
theorem turn_vc (K : AV → St → Prop) (w k : Int) : (runT tbl0 59 [xi .u64 w, xi .i64 k] emptySt K) = ((∃ (y0 : Int × Int), w = Prod.snd y0 ∧ k = k ∧ (0 : Int) = Prod.fst y0 ∧ U.turnI w k (Prod.fst y0) (Prod.snd y0)) ∧ ∀ (x1 : Int × Int), U.turnI w k (Prod.fst x1) (Prod.snd x1) → (Prod.fst x1 < k → ∀ (z2 : Int), z2 = IntKind.wrap IntKind.u64 (Prod.snd x1 * (2 : Int)) → ¬(9223372036854775808 : Int) = (0 : Int) ∧ ∀ (z3 : Int), z3 = IntKind.wrap IntKind.u64 (Int.tdiv (Prod.snd x1) (9223372036854775808 : Int)) → ∀ (z4 : Int), z4 = IntKind.wrap IntKind.u64 (z2 + z3) → ∀ (z5 : Int), z5 = IntKind.wrap IntKind.i64 (Prod.fst x1 + (1 : Int)) → ∃ (y6 : Int × Int), z4 = Prod.snd y6 ∧ k = k ∧ z5 = Prod.fst y6 ∧ U.turnI w k (Prod.fst y6) (Prod.snd y6) ∧ Int.toNat (k - Prod.fst y6) < Int.toNat (k - Prod.fst x1)) ∧ (¬Prod.fst x1 < k → K (Sum.inl (Sum.inl (Sum.inr (Sum.inr (Sum.inr (Sum.inr (Sum.inr (Sum.inr (Sum.inl (IntKind.u64, Prod.snd x1)))))))))) { heap := [], ints := [], opqs := (0 : Nat), arrs := [], junks := (0 : Nat) })) := by kernel_rfl
theorem mix_vc (K : AV → St → Prop) (x y k : Int) : (runT tRot 58 [xi .u64 x, xi .u64 y, xi .i64 k] emptySt K) = (∀ (z0 : Int), z0 = IntKind.wrap IntKind.u64 (x + y) → (((0 : Int) ≤ y ∧ y ≤ (18446744073709551615 : Int)) ∧ (0 : Int) < k ∧ k < (64 : Int)) ∧ ∀ (z1 : Int), z1 = U.rot y k → ∀ (z2 : Int), z2 = xorI IntKind.u64 z1 z0 → K (Sum.inr [Sum.inl (Sum.inr (Sum.inr (Sum.inr (Sum.inr (Sum.inr (Sum.inr (Sum.inl (IntKind.u64, z0)))))))), Sum.inl (Sum.inr (Sum.inr (Sum.inr (Sum.inr (Sum.inr (Sum.inr (Sum.inl (IntKind.u64, z2))))))))]) { heap := [], ints := [], opqs := (0 : Nat), arrs := [], junks := (0 : Nat) }) := by kernel_rfl
end Go.Proofs.Ytfgnfnmbfkjnjaa
end

section
set_option linter.unusedVariables false
set_option linter.unusedSimpArgs false
namespace Go.Proofs.Ytfgnfnmbfkjnjaa
open Go Reck
theorem wrapU (n : Int) : IntKind.wrap .u64 n = n % 18446744073709551616 := by simp [IntKind.wrap, IntKind.signed, IntKind.bits]
/-- A natural number of 64 bits, turned by n places. -/
def rotNat (n v : Nat) : Nat := (v % 2 ^ (64 - n)) * 2 ^ n + v / 2 ^ (64 - n)
theorem rot_step (P Q h l b : Nat) (hPQ : P * Q = 9223372036854775808) (hl : l < P) (hh : h < Q) (hb : b < 2) :
    (((b * P + l) * Q + h) * 2) % 18446744073709551616 + ((b * P + l) * Q + h) / 9223372036854775808 = l * (2 * Q) + (2 * h + b) := by
  have e1 : (b * P + l) * Q + h = b * 9223372036854775808 + (l * Q + h) := by rw [Nat.add_mul, Nat.mul_assoc, hPQ]; omega
  have e2 : l * Q + h < 9223372036854775808 := by
    have : (l + 1) * Q ≤ P * Q := Nat.mul_le_mul_right _ hl
    rw [hPQ, Nat.add_mul] at this; omega
  have e3 : l * (2 * Q) = 2 * (l * Q) := by rw [Nat.mul_left_comm]
  rw [e1, e3]
  generalize l * Q = M at *
  rcases (by omega : b = 0 ∨ b = 1) with rfl | rfl <;> omega
theorem rotN_in (n : Nat) (w : Int) (h : 0 ≤ w ∧ w ≤ 18446744073709551615) : 0 ≤ rotN n w ∧ rotN n w ≤ 18446744073709551615 := by
  cases n with
  | zero => exact h
  | succ n => show 0 ≤ rot1 _ ∧ rot1 _ ≤ _; unfold rot1; rw [wrapU]; omega
theorem rotN_nat (n : Nat) (v : Nat) (hn : n ≤ 64) (hv : v < 18446744073709551616) : rotN n v = (rotNat n v : Nat) := by
  induction n with
  | zero =>
    show (v : Int) = _
    unfold rotNat
    rw [Nat.mod_eq_of_lt (by simpa using hv), Nat.div_eq_of_lt (by simpa using hv)]; simp
  | succ n ih =>
    show rot1 (rotN n v) = _
    have hr := rotN_in n v (by omega)
    rw [ih (by omega)] at hr ⊢
    unfold rot1
    unfold rotNat at *
    rw [wrapU, wrapU]
    have hp : 2 ^ (64 - n) = 2 * 2 ^ (64 - (n + 1)) := by rw [show 64 - n = (64 - (n + 1)) + 1 by omega, Nat.pow_succ, Nat.mul_comm]
    have hq : 2 ^ (n + 1) = 2 * 2 ^ n := by rw [Nat.pow_succ, Nat.mul_comm]
    have hPQ : 2 ^ (64 - (n + 1)) * 2 ^ n = 9223372036854775808 := by rw [← Nat.pow_add, show 64 - (n + 1) + n = 63 by omega]
    have hP0 : 0 < 2 ^ (64 - (n + 1)) := Nat.pow_pos (by decide)
    rw [hp] at hr ⊢
    rw [hq]
    generalize 2 ^ (64 - (n + 1)) = P at *
    generalize 2 ^ n = Q at *
    have hl : v % P < P := Nat.mod_lt _ hP0
    have hb : v / P % 2 < 2 := Nat.mod_lt _ (by decide)
    have hv1 : v = (v / P) * P + v % P := by rw [Nat.mul_comm]; exact (Nat.div_add_mod v P).symm
    have hm : v % (2 * P) = (v / P % 2) * P + v % P := by rw [Nat.mul_comm 2 P, Nat.mod_mul, Nat.mul_comm P]; omega
    have hd : v / (2 * P) = v / P / 2 := by rw [Nat.mul_comm, Nat.div_div_eq_div_mul]
    have hh : v / P / 2 < Q := by
      rw [Nat.div_div_eq_div_mul]
      apply Nat.div_lt_of_lt_mul
      have : P * 2 * Q = 2 * (P * Q) := by rw [Nat.mul_right_comm, Nat.mul_comm]
      rw [this, hPQ]; exact hv
    have key := rot_step P Q (v / P / 2) (v % P) (v / P % 2) hPQ hl hh hb
    rw [hm, hd] at hr ⊢
    have hx : v / P = 2 * (v / P / 2) + v / P % 2 := by omega
    rw [← hx] at key
    generalize ((v / P % 2) * P + v % P) * Q + v / P / 2 = Z at *
    have hz : Z * 2 % 18446744073709551616 + Z / 9223372036854775808 < 18446744073709551616 := by omega
    rw [← key]
    omega
theorem rot_in (w k : Int) (h : 0 ≤ w ∧ w ≤ 18446744073709551615) : 0 ≤ U.rot w k ∧ U.rot w k ≤ 18446744073709551615 := rotN_in _ w h
theorem ofNat64 (a : Nat) (h : a < 18446744073709551616) : (BitVec.ofInt 64 (a : Int)).toNat = a := by
  rw [u64_of _ (by omega)]; simp
theorem or_nat (a b : Nat) (ha : a < 18446744073709551616) (hb : b < 18446744073709551616) : orI .u64 (a : Int) (b : Int) = ((a ||| b : Nat) : Int) := by
  unfold orI
  show IntKind.u64.wrap ((BitVec.ofInt 64 (a : Int) ||| BitVec.ofInt 64 (b : Int)).toNat : Int) = _
  rw [BitVec.toNat_or, ofNat64 a ha, ofNat64 b hb, wrapU]
  have : a ||| b < 2 ^ 64 := Nat.or_lt_two_pow ha hb
  omega
theorem rot_run (K : AV → St → Prop) (w k : Int) (hw : 0 ≤ w ∧ w ≤ 18446744073709551615) (hk : 0 < k ∧ k < 64) (h : K (xi .u64 (U.rot w k)) emptySt) : runT tbl0 57 [xi .u64 w, xi .i64 k] emptySt K := by
  rw [rot_vc]
  intro z0 h0 z1 h1
  have e0 : z0 = k := wu64 h0 (by omega)
  have e1 : z1 = k := by rw [h1, e0, and_mask (m := 63) 6 (by omega) (by omega) rfl]; omega
  refine ⟨by omega, fun z2 h2 z3 h3 => ?_⟩
  have e3 : z3 = 64 - k := by rw [wu64 h3 (by omega), e1]
  refine ⟨by omega, fun z4 h4 z5 h5 => ?_⟩
  have e5 : z5 = U.rot w k := by
    obtain ⟨v, rfl⟩ : ∃ v : Nat, w = v := ⟨w.toNat, by omega⟩
    obtain ⟨n, rfl⟩ : ∃ n : Nat, k = n := ⟨k.toNat, by omega⟩
    have hn : n < 64 := by omega
    have hv : v < 18446744073709551616 := by omega
    have e4 : z4 = ((v / 2 ^ (64 - n) : Nat) : Int) := by
      rw [h4, shr_at (64 - n) (by omega) (by omega) (by omega)]; push_cast; rfl
    have hPQ : 2 ^ (64 - n) * 2 ^ n = 18446744073709551616 := by rw [← Nat.pow_add, show 64 - n + n = 64 by omega]
    have e2 : z2 = ((v % 2 ^ (64 - n) * 2 ^ n : Nat) : Int) := by
      rw [h2, e1]; unfold shlI
      rw [wrapU, Int.toNat_natCast, show min n (IntKind.bits .u64) = n from Nat.min_eq_left (by show n ≤ 64; omega)]
      have : (v : Int) * 2 ^ n = ((v * 2 ^ n : Nat) : Int) := by push_cast; rfl
      have hm : v % 2 ^ (64 - n) * 2 ^ n = v * 2 ^ n % 18446744073709551616 := by rw [← hPQ, Nat.mul_mod_mul_right]
      rw [this, hm]
      omega
    have hlt : v / 2 ^ (64 - n) < 2 ^ n := by
      apply Nat.div_lt_of_lt_mul; rw [hPQ]; exact hv
    have hlt2 : v % 2 ^ (64 - n) * 2 ^ n < 18446744073709551616 := by
      rw [← hPQ]; exact Nat.mul_lt_mul_of_pos_right (Nat.mod_lt _ (Nat.pow_pos (by decide))) (Nat.pow_pos (by decide))
    have hb2 : v / 2 ^ (64 - n) < 18446744073709551616 := Nat.lt_of_le_of_lt (Nat.div_le_self _ _) hv
    rw [h5, e2, e4, or_nat _ _ hlt2 hb2]
    unfold U.rot
    rw [Int.toNat_natCast, rotN_nat n v (by omega) hv]
    unfold rotNat
    have := Nat.shiftLeft_add_eq_or_of_lt hlt (v % 2 ^ (64 - n))
    rw [Nat.shiftLeft_eq] at this
    rw [this]
  rw [← e5] at h; exact h
theorem turn_run (K : AV → St → Prop) (w k : Int) (hw : 0 ≤ w ∧ w ≤ 18446744073709551615) (hk : 0 < k ∧ k < 64) (h : K (xi .u64 (U.rot w k)) emptySt) : runT tbl0 59 [xi .u64 w, xi .i64 k] emptySt K := by
  rw [turn_vc]
  refine ⟨⟨(0, w), rfl, rfl, rfl, ⟨0, rfl, by simp; omega, rfl, hw⟩⟩, ?_⟩
  rintro ⟨i, x⟩ ⟨j, h1, h2, h3, h4⟩
  dsimp only at *
  refine ⟨fun hlt z2 e2 => ⟨by decide, fun z3 e3 z4 e4 z5 e5 => ⟨(z5, z4), rfl, rfl, rfl, ⟨j + 1, ?_, ?_, ?_, ?_⟩, ?_⟩⟩, fun hge => ?_⟩
  · have := w64 e5 (by omega); simp; omega
  · have := w64 e5 (by omega); push_cast; omega
  · show z4 = rot1 (rotN j w)
    rw [Int.tdiv_eq_ediv_of_nonneg (by omega)] at e3
    have e3 := wu64 e3 (by omega)
    rw [e4, e2, e3, ← h3]; rfl
  · show 0 ≤ z4 ∧ z4 ≤ _; rw [e4, wrapU]; omega
  · have := w64 e5 (by omega); dsimp only; omega
  · have : k.toNat = j := by omega
    unfold U.rot at h
    rw [this, ← h3] at h; exact h
theorem tRot_ok : TblOk Try.prog tRot := by
  intro f tm σ C h K hK
  unfold tRot at h
  split at h
  · rename_i hf
    split at h
    · split at h
      · rename_i a b _ _ w k hw hc
        simp only [Option.some.injEq] at h; subst h
        obtain ⟨⟨k1, k2⟩, k3⟩ := hK
        intro w0 e W hk vs hvs
        have hvs' : [xi .u64 w, xi .i64 k].map (Reck.av e) = vs.map some := by
          obtain ⟨x, y, rfl⟩ : ∃ x y, vs = [x, y] := by
            match vs, map_len hvs with
            | [x, y], _ => exact ⟨x, y, rfl⟩
          simp only [List.map_cons, List.map_nil, List.cons.injEq, and_true] at hvs ⊢
          rw [intX_ok hw hvs.1, intX_ok hc hvs.2]
          exact ⟨rfl, rfl⟩
        simp at hf
        rcases hf with rfl | rfl
        · exact knownC noOv names (conOk_of tbl0_ok) (rot_run K w k k1 k2 (k3 _ rfl)) w0 e W hk vs hvs'
        · exact knownC noOv names (conOk_of tbl0_ok) (turn_run K w k k1 k2 (k3 _ rfl)) w0 e W hk vs hvs'
      · cases h
    · cases h
  · cases h
end Go.Proofs.Ytfgnfnmbfkjnjaa
end

section
namespace Go.Proofs.Ytfgnfnmbfkjnjaa
open Go Reck
set_option maxRecDepth 100000
set_option linter.unusedVariables false
set_option linter.unusedSimpArgs false
abbrev W4 := Int × Int × Int × Int
def w4 (v : W4) : List Cell := [xintC .u64 v.1, xintC .u64 v.2.1, xintC .u64 v.2.2.1, xintC .u64 v.2.2.2]
def bl4 (t : Nat) (v : W4) : Option Blk := some ⟨t, w4 v, none, 4, false⟩
def st4 (v : W4) : St := ⟨[bl4 90 v], [], 0, [], 0⟩
def ptr0 : AV := cell (.inr (.inl (0, 0)))
def addW (a b : Int) : Int := IntKind.wrap .u64 (a + b)
def rnd (v : W4) : W4 :=
  let a1 := addW v.1 v.2.1
  let b1 := xorI .u64 (U.rot v.2.1 13) a1
  let a2 := U.rot a1 32
  let c1 := addW v.2.2.1 v.2.2.2
  let d1 := xorI .u64 (U.rot v.2.2.2 16) c1
  let a3 := addW a2 d1
  let d2 := xorI .u64 (U.rot d1 21) a3
  let c2 := addW c1 b1
  let b2 := xorI .u64 (U.rot b1 17) c2
  (a3, b2, U.rot c2 32, d2)
def rndN : Nat → W4 → W4
  | 0, v => v
  | n + 1, v => rnd (rndN n v)
def U.rn (v : W4) (n : Int) : W4 := rndN n.toNat v
def inW (a : Int) : Prop := 0 ≤ a ∧ a ≤ 18446744073709551615
structure U.in4 (v : W4) : Prop where
  out : inW v.1 ∧ inW v.2.1 ∧ inW v.2.2.1 ∧ inW v.2.2.2
structure U.rndI (v : W4) (n : Int) (i : Int) (x : W4) : Prop where
  out : ∃ j : Nat, i = j ∧ (j : Int) ≤ n ∧ x = rndN j v ∧ U.in4 x
def xX : Cell → Int
  | .inr (.inr (.inr (.inr (.inr (.inr (.inl (_, z))))))) => z
  | _ => 0
def blkW (σ : St) : W4 := match σ.heap with
  | some ⟨_, [a, b, c, d], _, _, _⟩ :: _ => (xX a, xX b, xX c, xX d)
  | _ => (0, 0, 0, 0)
def setW (x : W4) (σ : St) : St := match σ.heap with
  | some ⟨t, _, j, c, z⟩ :: l => ⟨some ⟨t, w4 x, j, c, z⟩ :: l, σ.ints, σ.opqs, σ.arrs, σ.junks⟩
  | _ => σ
def rndInv (c : Code) (tm : List AV) (σ : St) (n : Nat) : Inv where
  X := Int × W4
  tags := [0]
  tag _ _ := 0
  J := wrBut [5] c
  val _ x := [(5, xi .i64 x.1)]
  st _ x σ := setW x.2 σ
  I _ x := U.rndI (blkW σ) (slotI tm n) x.1 x.2
  m _ x := (slotI tm n - x.1).toNat
  ren := noRen
def inv5 (c : Code) (tm : List AV) (σ : St) : Option Inv :=
  match tm.length, firstReg c with
  | 120, some 1 => if isXint (tm.getD 4 (lit undef)) then some (rndInv c tm σ 4) else none
  | 57, some 2 => if isXint (tm.getD 1 (lit undef)) then some (rndInv c tm σ 1) else none
  | _, _ => none
abbrev runR (tbl : Tbl) (f : Nat) (args : List AV) (σ : St) (K : AV → St → Prop) : Prop := goT Try.prog [] (orcOf inv5 tbl) (opMem Try.prog) 3000 (.inr (.inr (.inr (.inr f)))) args σ (retC σ K)
def rowW (v : W4) : AV := .inl (.inr (w4 v))
theorem rounds_vc (K : AV → St → Prop) (v : W4) (n : Int) : (runR tRot 51 [ptr0, xi .i64 n] (st4 v) K) = ((∃ (y0 : Int × W4), n = n ∧ n = n ∧ (0 : Int) = Prod.fst y0 ∧ Prod.fst v = Prod.fst (Prod.snd y0) ∧ Prod.fst (Prod.snd v) = Prod.fst (Prod.snd (Prod.snd y0)) ∧ Prod.fst (Prod.snd (Prod.snd v)) = Prod.fst (Prod.snd (Prod.snd (Prod.snd y0))) ∧ Prod.snd (Prod.snd (Prod.snd v)) = Prod.snd (Prod.snd (Prod.snd (Prod.snd y0))) ∧ U.rndI (Prod.fst v, Prod.fst (Prod.snd v), Prod.fst (Prod.snd (Prod.snd v)), Prod.snd (Prod.snd (Prod.snd v))) n (Prod.fst y0) (Prod.snd y0)) ∧ ∀ (x1 : Int × W4), U.rndI (Prod.fst v, Prod.fst (Prod.snd v), Prod.fst (Prod.snd (Prod.snd v)), Prod.snd (Prod.snd (Prod.snd v))) n (Prod.fst x1) (Prod.snd x1) → (Prod.fst x1 < n → ∀ (z2 : Int), z2 = IntKind.wrap IntKind.u64 (Prod.fst (Prod.snd x1) + Prod.fst (Prod.snd (Prod.snd x1))) → (((0 : Int) ≤ Prod.fst (Prod.snd (Prod.snd x1)) ∧ Prod.fst (Prod.snd (Prod.snd x1)) ≤ (18446744073709551615 : Int)) ∧ (0 : Int) < (13 : Int) ∧ (13 : Int) < (64 : Int)) ∧ ∀ (z3 : Int), z3 = U.rot (Prod.fst (Prod.snd (Prod.snd x1))) (13 : Int) → z2 = z2 ∧ Prod.fst (Prod.snd (Prod.snd x1)) = Prod.fst (Prod.snd (Prod.snd x1)) ∧ ∀ (z4 : Int), z4 = xorI IntKind.u64 z3 z2 → (((0 : Int) ≤ z2 ∧ z2 ≤ (18446744073709551615 : Int)) ∧ (0 : Int) < (32 : Int) ∧ (32 : Int) < (64 : Int)) ∧ ∀ (z5 : Int), z5 = U.rot z2 (32 : Int) → z2 = z2 ∧ ∀ (z6 : Int), z6 = IntKind.wrap IntKind.u64 (Prod.fst (Prod.snd (Prod.snd (Prod.snd x1))) + Prod.snd (Prod.snd (Prod.snd (Prod.snd x1)))) → (((0 : Int) ≤ Prod.snd (Prod.snd (Prod.snd (Prod.snd x1))) ∧ Prod.snd (Prod.snd (Prod.snd (Prod.snd x1))) ≤ (18446744073709551615 : Int)) ∧ (0 : Int) < (16 : Int) ∧ (16 : Int) < (64 : Int)) ∧ ∀ (z7 : Int), z7 = U.rot (Prod.snd (Prod.snd (Prod.snd (Prod.snd x1)))) (16 : Int) → z6 = z6 ∧ Prod.snd (Prod.snd (Prod.snd (Prod.snd x1))) = Prod.snd (Prod.snd (Prod.snd (Prod.snd x1))) ∧ ∀ (z8 : Int), z8 = xorI IntKind.u64 z7 z6 → ∀ (z9 : Int), z9 = IntKind.wrap IntKind.u64 (z5 + z8) → (((0 : Int) ≤ z8 ∧ z8 ≤ (18446744073709551615 : Int)) ∧ (0 : Int) < (21 : Int) ∧ (21 : Int) < (64 : Int)) ∧ ∀ (z10 : Int), z10 = U.rot z8 (21 : Int) → z9 = z9 ∧ z8 = z8 ∧ ∀ (z11 : Int), z11 = xorI IntKind.u64 z10 z9 → ∀ (z12 : Int), z12 = IntKind.wrap IntKind.u64 (z6 + z4) → (((0 : Int) ≤ z4 ∧ z4 ≤ (18446744073709551615 : Int)) ∧ (0 : Int) < (17 : Int) ∧ (17 : Int) < (64 : Int)) ∧ ∀ (z13 : Int), z13 = U.rot z4 (17 : Int) → z12 = z12 ∧ z4 = z4 ∧ ∀ (z14 : Int), z14 = xorI IntKind.u64 z13 z12 → (((0 : Int) ≤ z12 ∧ z12 ≤ (18446744073709551615 : Int)) ∧ (0 : Int) < (32 : Int) ∧ (32 : Int) < (64 : Int)) ∧ ∀ (z15 : Int), z15 = U.rot z12 (32 : Int) → z12 = z12 ∧ ∀ (z16 : Int), z16 = IntKind.wrap IntKind.i64 (Prod.fst x1 + (1 : Int)) → ∃ (y17 : Int × W4), n = n ∧ n = n ∧ z16 = Prod.fst y17 ∧ z9 = Prod.fst (Prod.snd y17) ∧ z14 = Prod.fst (Prod.snd (Prod.snd y17)) ∧ z15 = Prod.fst (Prod.snd (Prod.snd (Prod.snd y17))) ∧ z11 = Prod.snd (Prod.snd (Prod.snd (Prod.snd y17))) ∧ U.rndI (Prod.fst v, Prod.fst (Prod.snd v), Prod.fst (Prod.snd (Prod.snd v)), Prod.snd (Prod.snd (Prod.snd v))) n (Prod.fst y17) (Prod.snd y17) ∧ Int.toNat (n - Prod.fst y17) < Int.toNat (n - Prod.fst x1)) ∧ (¬Prod.fst x1 < n → K (Sum.inr []) { heap := [some { elem := (90 : Nat), cells := [Sum.inr (Sum.inr (Sum.inr (Sum.inr (Sum.inr (Sum.inr (Sum.inl (IntKind.u64, Prod.fst (Prod.snd x1)))))))), Sum.inr (Sum.inr (Sum.inr (Sum.inr (Sum.inr (Sum.inr (Sum.inl (IntKind.u64, Prod.fst (Prod.snd (Prod.snd x1))))))))), Sum.inr (Sum.inr (Sum.inr (Sum.inr (Sum.inr (Sum.inr (Sum.inl (IntKind.u64, Prod.fst (Prod.snd (Prod.snd (Prod.snd x1)))))))))), Sum.inr (Sum.inr (Sum.inr (Sum.inr (Sum.inr (Sum.inr (Sum.inl (IntKind.u64, Prod.snd (Prod.snd (Prod.snd (Prod.snd x1))))))))))], j := none, c := (4 : Nat), z := false }], ints := [], opqs := (0 : Nat), arrs := [], junks := (0 : Nat) })) := by kernel_rfl
theorem rRounds_vc (K : AV → St → Prop) (v : W4) (n : Int) : (runR tRot 53 [rowW v, xi .i64 n] emptySt K) = ((∃ (y0 : Int × W4), Prod.fst v = Prod.fst v ∧ Prod.fst (Prod.snd v) = Prod.fst (Prod.snd v) ∧ Prod.fst (Prod.snd (Prod.snd v)) = Prod.fst (Prod.snd (Prod.snd v)) ∧ Prod.snd (Prod.snd (Prod.snd v)) = Prod.snd (Prod.snd (Prod.snd v)) ∧ n = n ∧ (0 : Int) = Prod.fst y0 ∧ Prod.fst v = Prod.fst (Prod.snd y0) ∧ Prod.fst (Prod.snd v) = Prod.fst (Prod.snd (Prod.snd y0)) ∧ Prod.fst (Prod.snd (Prod.snd v)) = Prod.fst (Prod.snd (Prod.snd (Prod.snd y0))) ∧ Prod.snd (Prod.snd (Prod.snd v)) = Prod.snd (Prod.snd (Prod.snd (Prod.snd y0))) ∧ U.rndI (Prod.fst v, Prod.fst (Prod.snd v), Prod.fst (Prod.snd (Prod.snd v)), Prod.snd (Prod.snd (Prod.snd v))) n (Prod.fst y0) (Prod.snd y0)) ∧ ∀ (x1 : Int × W4), U.rndI (Prod.fst v, Prod.fst (Prod.snd v), Prod.fst (Prod.snd (Prod.snd v)), Prod.snd (Prod.snd (Prod.snd v))) n (Prod.fst x1) (Prod.snd x1) → (Prod.fst x1 < n → ∀ (z2 : Int), z2 = IntKind.wrap IntKind.u64 (Prod.fst (Prod.snd x1) + Prod.fst (Prod.snd (Prod.snd x1))) → (((0 : Int) ≤ Prod.fst (Prod.snd (Prod.snd x1)) ∧ Prod.fst (Prod.snd (Prod.snd x1)) ≤ (18446744073709551615 : Int)) ∧ (0 : Int) < (13 : Int) ∧ (13 : Int) < (64 : Int)) ∧ ∀ (z3 : Int), z3 = U.rot (Prod.fst (Prod.snd (Prod.snd x1))) (13 : Int) → ∀ (z4 : Int), z4 = xorI IntKind.u64 z3 z2 → (((0 : Int) ≤ z2 ∧ z2 ≤ (18446744073709551615 : Int)) ∧ (0 : Int) < (32 : Int) ∧ (32 : Int) < (64 : Int)) ∧ ∀ (z5 : Int), z5 = U.rot z2 (32 : Int) → ∀ (z6 : Int), z6 = IntKind.wrap IntKind.u64 (Prod.fst (Prod.snd (Prod.snd (Prod.snd x1))) + Prod.snd (Prod.snd (Prod.snd (Prod.snd x1)))) → (((0 : Int) ≤ Prod.snd (Prod.snd (Prod.snd (Prod.snd x1))) ∧ Prod.snd (Prod.snd (Prod.snd (Prod.snd x1))) ≤ (18446744073709551615 : Int)) ∧ (0 : Int) < (16 : Int) ∧ (16 : Int) < (64 : Int)) ∧ ∀ (z7 : Int), z7 = U.rot (Prod.snd (Prod.snd (Prod.snd (Prod.snd x1)))) (16 : Int) → ∀ (z8 : Int), z8 = xorI IntKind.u64 z7 z6 → ∀ (z9 : Int), z9 = IntKind.wrap IntKind.u64 (z5 + z8) → (((0 : Int) ≤ z8 ∧ z8 ≤ (18446744073709551615 : Int)) ∧ (0 : Int) < (21 : Int) ∧ (21 : Int) < (64 : Int)) ∧ ∀ (z10 : Int), z10 = U.rot z8 (21 : Int) → ∀ (z11 : Int), z11 = xorI IntKind.u64 z10 z9 → ∀ (z12 : Int), z12 = IntKind.wrap IntKind.u64 (z6 + z4) → (((0 : Int) ≤ z4 ∧ z4 ≤ (18446744073709551615 : Int)) ∧ (0 : Int) < (17 : Int) ∧ (17 : Int) < (64 : Int)) ∧ ∀ (z13 : Int), z13 = U.rot z4 (17 : Int) → ∀ (z14 : Int), z14 = xorI IntKind.u64 z13 z12 → (((0 : Int) ≤ z12 ∧ z12 ≤ (18446744073709551615 : Int)) ∧ (0 : Int) < (32 : Int) ∧ (32 : Int) < (64 : Int)) ∧ ∀ (z15 : Int), z15 = U.rot z12 (32 : Int) → ∀ (z16 : Int), z16 = IntKind.wrap IntKind.i64 (Prod.fst x1 + (1 : Int)) → ∃ (y17 : Int × W4), Prod.fst v = Prod.fst v ∧ Prod.fst (Prod.snd v) = Prod.fst (Prod.snd v) ∧ Prod.fst (Prod.snd (Prod.snd v)) = Prod.fst (Prod.snd (Prod.snd v)) ∧ Prod.snd (Prod.snd (Prod.snd v)) = Prod.snd (Prod.snd (Prod.snd v)) ∧ n = n ∧ z16 = Prod.fst y17 ∧ z9 = Prod.fst (Prod.snd y17) ∧ z14 = Prod.fst (Prod.snd (Prod.snd y17)) ∧ z15 = Prod.fst (Prod.snd (Prod.snd (Prod.snd y17))) ∧ z11 = Prod.snd (Prod.snd (Prod.snd (Prod.snd y17))) ∧ U.rndI (Prod.fst v, Prod.fst (Prod.snd v), Prod.fst (Prod.snd (Prod.snd v)), Prod.snd (Prod.snd (Prod.snd v))) n (Prod.fst y17) (Prod.snd y17) ∧ Int.toNat (n - Prod.fst y17) < Int.toNat (n - Prod.fst x1)) ∧ (¬Prod.fst x1 < n → K (Sum.inl (Sum.inr [Sum.inr (Sum.inr (Sum.inr (Sum.inr (Sum.inr (Sum.inr (Sum.inl (IntKind.u64, Prod.fst (Prod.snd x1)))))))), Sum.inr (Sum.inr (Sum.inr (Sum.inr (Sum.inr (Sum.inr (Sum.inl (IntKind.u64, Prod.fst (Prod.snd (Prod.snd x1))))))))), Sum.inr (Sum.inr (Sum.inr (Sum.inr (Sum.inr (Sum.inr (Sum.inl (IntKind.u64, Prod.fst (Prod.snd (Prod.snd (Prod.snd x1)))))))))), Sum.inr (Sum.inr (Sum.inr (Sum.inr (Sum.inr (Sum.inr (Sum.inl (IntKind.u64, Prod.snd (Prod.snd (Prod.snd (Prod.snd x1))))))))))])) { heap := [], ints := [], opqs := (0 : Nat), arrs := [], junks := (0 : Nat) })) := by kernel_rfl
end Go.Proofs.Ytfgnfnmbfkjnjaa
end

section
set_option linter.unusedVariables false
set_option linter.unusedSimpArgs false
set_option maxRecDepth 10000
namespace Go.Proofs.Ytfgnfnmbfkjnjaa
open Go Reck
theorem add_in (a b : Int) : inW (addW a b) := by unfold inW addW; rw [wrapU]; omega
theorem xor_in (a b : Int) : inW (xorI .u64 a b) := by
  unfold inW xorI
  rw [show ∀ n, IntKind.wrap .u64 n = n % 18446744073709551616 from wrapU]; omega
theorem rnd_in {v : W4} (h : U.in4 v) : U.in4 (rnd v) := ⟨add_in _ _, xor_in _ _, rot_in _ _ (add_in _ _), xor_in _ _⟩
theorem rndN_in {v : W4} (h : U.in4 v) (n : Nat) : U.in4 (rndN n v) := by
  induction n with
  | zero => exact h
  | succ n ih => exact rnd_in ih
theorem rnd_of {x : W4} {z2 z3 z4 z5 z6 z7 z8 z9 z10 z11 z12 z13 z14 z15 : Int} (e2 : z2 = addW x.1 x.2.1) (e3 : z3 = U.rot x.2.1 13) (e4 : z4 = xorI .u64 z3 z2) (e5 : z5 = U.rot z2 32) (e6 : z6 = addW x.2.2.1 x.2.2.2) (e7 : z7 = U.rot x.2.2.2 16) (e8 : z8 = xorI .u64 z7 z6) (e9 : z9 = addW z5 z8)
    (e10 : z10 = U.rot z8 21) (e11 : z11 = xorI .u64 z10 z9) (e12 : z12 = addW z6 z4) (e13 : z13 = U.rot z4 17) (e14 : z14 = xorI .u64 z13 z12) (e15 : z15 = U.rot z12 32) : rnd x = (z9, z14, z15, z11) := by
  simp only [rnd, e15, e14, e13, e12, e11, e10, e9, e8, e7, e6, e5, e4, e3, e2]
theorem nxt {i z n : Int} {j : Nat} (h1 : i = j) (h2 : (j : Int) ≤ n) (hn : n < 100) (hlt : i < n) (e : z = IntKind.wrap .i64 (i + 1)) : z = ((j + 1 : Nat) : Int) ∧ ((j + 1 : Nat) : Int) ≤ n ∧ (n - z).toNat < (n - i).toNat := by
  have := w64 e (by omega); omega
theorem rounds_run (K : AV → St → Prop) (v : W4) (n : Int) (hv : U.in4 v) (hn : 0 ≤ n ∧ n < 100) (h : K (.inr []) (st4 (U.rn v n))) : runR tRot 51 [ptr0, xi .i64 n] (st4 v) K := by
  rw [rounds_vc]
  refine ⟨⟨(0, v), rfl, rfl, rfl, rfl, rfl, rfl, rfl, ⟨0, rfl, by simp; omega, rfl, hv⟩⟩, ?_⟩
  rintro ⟨i, x⟩ ⟨j, h1, h2, h3, h4⟩
  dsimp only at *
  refine ⟨fun hlt z2 e2 => ?_, fun hge => ?_⟩
  · refine ⟨⟨h4.out.2.1, by decide⟩, fun z3 e3 => ⟨rfl, rfl, fun z4 e4 => ⟨⟨e2 ▸ add_in _ _, by decide⟩, fun z5 e5 => ⟨rfl, fun z6 e6 => ⟨⟨h4.out.2.2.2, by decide⟩, fun z7 e7 => ⟨rfl, rfl, fun z8 e8 z9 e9 => ?_⟩⟩⟩⟩⟩⟩
    refine ⟨⟨e8 ▸ xor_in _ _, by decide⟩, fun z10 e10 => ⟨rfl, rfl, fun z11 e11 z12 e12 => ⟨⟨e4 ▸ xor_in _ _, by decide⟩, fun z13 e13 => ⟨rfl, rfl, fun z14 e14 => ?_⟩⟩⟩⟩
    refine ⟨⟨e12 ▸ add_in _ _, by decide⟩, fun z15 e15 => ⟨rfl, fun z16 e16 => ?_⟩⟩
    have hr := rnd_of e2 e3 e4 e5 e6 e7 e8 e9 e10 e11 e12 e13 e14 e15
    have hi := rnd_in h4
    rw [hr] at hi
    obtain ⟨q1, q2, q3⟩ := nxt h1 h2 hn.2 hlt e16
    exact ⟨(z16, (z9, z14, z15, z11)), rfl, rfl, rfl, rfl, rfl, rfl, rfl, ⟨j + 1, q1, q2, by rw [← hr, h3]; rfl, hi⟩, q3⟩
  · have : n.toNat = j := by omega
    unfold U.rn at h
    rw [this, ← h3] at h; exact h
theorem rRounds_run (K : AV → St → Prop) (v : W4) (n : Int) (hv : U.in4 v) (hn : 0 ≤ n ∧ n < 100) (h : K (rowW (U.rn v n)) emptySt) : runR tRot 53 [rowW v, xi .i64 n] emptySt K := by
  rw [rRounds_vc]
  refine ⟨⟨(0, v), rfl, rfl, rfl, rfl, rfl, rfl, rfl, rfl, rfl, rfl, ⟨0, rfl, by simp; omega, rfl, hv⟩⟩, ?_⟩
  rintro ⟨i, x⟩ ⟨j, h1, h2, h3, h4⟩
  dsimp only at *
  refine ⟨fun hlt z2 e2 => ?_, fun hge => ?_⟩
  · refine ⟨⟨h4.out.2.1, by decide⟩, fun z3 e3 z4 e4 => ⟨⟨e2 ▸ add_in _ _, by decide⟩, fun z5 e5 z6 e6 => ⟨⟨h4.out.2.2.2, by decide⟩, fun z7 e7 z8 e8 z9 e9 => ?_⟩⟩⟩
    refine ⟨⟨e8 ▸ xor_in _ _, by decide⟩, fun z10 e10 z11 e11 z12 e12 => ⟨⟨e4 ▸ xor_in _ _, by decide⟩, fun z13 e13 z14 e14 => ?_⟩⟩
    refine ⟨⟨e12 ▸ add_in _ _, by decide⟩, fun z15 e15 z16 e16 => ?_⟩
    have hr := rnd_of e2 e3 e4 e5 e6 e7 e8 e9 e10 e11 e12 e13 e14 e15
    have hi := rnd_in h4
    rw [hr] at hi
    obtain ⟨q1, q2, q3⟩ := nxt h1 h2 hn.2 hlt e16
    exact ⟨(z16, (z9, z14, z15, z11)), rfl, rfl, rfl, rfl, rfl, rfl, rfl, rfl, rfl, rfl, ⟨j + 1, q1, q2, by rw [← hr, h3]; rfl, hi⟩, q3⟩
  · have : n.toNat = j := by omega
    unfold U.rn at h
    rw [this, ← h3] at h; exact h
def xW : Cell → Option Int
  | .inr (.inr (.inr (.inr (.inr (.inr (.inl (.u64, z))))))) => some z
  | _ => none
theorem xW_eq {c : Cell} {z : Int} (h : xW c = some z) : c = xintC .u64 z := by
  unfold xW at h
  split at h
  · simp only [Option.some.injEq] at h; subst h; rfl
  · cases h
def xW4 (a b c d : Cell) : Option W4 := match xW a, xW b, xW c, xW d with
  | some a, some b, some c, some d => some (a, b, c, d)
  | _, _, _, _ => none
theorem xW4_eq {a b c d : Cell} {v : W4} (h : xW4 a b c d = some v) : [a, b, c, d] = w4 v := by
  unfold xW4 at h
  split at h
  · rename_i h1 h2 h3 h4
    simp only [Option.some.injEq] at h; subst h
    rw [xW_eq h1, xW_eq h2, xW_eq h3, xW_eq h4]; rfl
  · cases h
def tRnd : Tbl := fun f args σ => if f == 51 then match args, σ with
    | [.inl (.inl (.inr (.inl (0, 0)))), k], ⟨[some ⟨90, [a, b, c, d], none, 4, false⟩], [], 0, [], 0⟩ => match xW4 a b c d, intX k with
      | some v, some (.i64, n) => some fun K => (U.in4 v ∧ 0 ≤ n ∧ n < 100) ∧ ∀ z : W4, z = U.rn v n → K (.inr []) (st4 z)
      | _, _ => none
    | _, _ => none
  else none
theorem tRnd_ok : TblOk Try.prog tRnd := by
  intro f tm σ C h K hK
  unfold tRnd at h
  split at h
  · rename_i hf
    obtain rfl : f = 51 := by simpa using hf
    split at h
    · split at h
      · rename_i k a b c d _ _ v n hv hk
        simp only [Option.some.injEq] at h; subst h
        obtain ⟨⟨k1, k2⟩, k3⟩ := hK
        intro w0 e W hW vs hvs
        rw [xW4_eq hv] at hW
        refine knownC noOv names (conOk_of tRot_ok) (rounds_run K v n k1 k2 (k3 _ rfl)) w0 e W hW vs ?_
        obtain ⟨x, y, rfl⟩ : ∃ x y, vs = [x, y] := by
          match vs, map_len hvs with
          | [x, y], _ => exact ⟨x, y, rfl⟩
        simp only [List.map_cons, List.map_nil, List.cons.injEq, and_true] at hvs ⊢
        refine ⟨hvs.1, ?_⟩
        rw [intX_ok hk hvs.2]
        rfl
      · cases h
    · cases h
  · cases h
end Go.Proofs.Ytfgnfnmbfkjnjaa
end
