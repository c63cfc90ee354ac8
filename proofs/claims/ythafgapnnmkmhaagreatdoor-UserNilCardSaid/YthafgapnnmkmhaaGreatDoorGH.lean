/- Parts of a proof, one behind the other: K0 K1 K2 K3 K4 K5 K6 K7 K8 K9 KA. No condition. -/
import Derived.Test.YthafgapnnmkmhaaGreatDoorGG
section
set_option linter.unusedVariables false
set_option linter.unusedSimpArgs false
namespace Go.Proofs.YthafgapnnmkmhaaGreatDoor
open Go Reck
theorem take_get {l : List Int} {k : Nat} (h : k < l.length) : l.take (k + 1) = l.take k ++ [l.getD k 0] := by
  rw [List.take_succ_eq_append_getElem h]; simp [List.getD, h]
theorem sub_get (L : List Int) (o n k : Nat) (hl : o + n ≤ L.length) (h : k < n) : ((L.drop o).take n).getD k 0 = L.getD (o + k) 0 := by
  simp [List.getD, List.getElem?_take, h, List.getElem?_drop]
theorem sub_len (L : List Int) (o n : Nat) (hl : o + n ≤ L.length) : ((L.drop o).take n).length = n := by simp; omega
def byteL (l : List Int) : Prop := ∀ x ∈ l, 0 ≤ x ∧ x ≤ 255
theorem byteL_sub {L : List Int} (h : byteL L) (o n : Nat) : byteL ((L.drop o).take n) := fun x hx => h x (List.mem_of_mem_drop (List.mem_of_mem_take hx))
theorem byteL_get {L : List Int} (h : byteL L) (k : Nat) : 0 ≤ L.getD k 0 ∧ L.getD k 0 ≤ 255 := by
  rw [List.getD_eq_getElem?_getD]
  cases hk : L[k]? with
  | none => simp
  | some x => exact h x (List.mem_of_getElem? hk)
theorem u64_of (a : Int) (h : 0 ≤ a ∧ a ≤ 18446744073709551615) : (BitVec.ofInt 64 a).toNat = a.toNat := by
  rw [BitVec.toNat_ofInt]; omega
theorem and_mask {a : Int} (j : Nat) (hj : j < 64) (h : 0 ≤ a ∧ a ≤ 18446744073709551615) {m : Int} (hm : m = 2 ^ j - 1) : andI .u64 a m = a % 2 ^ j := by
  have hp : (2 : Nat) ^ j < 2 ^ 64 := Nat.pow_lt_pow_right (by decide) hj
  have hp0 : 0 < (2 : Nat) ^ j := Nat.pow_pos (by decide)
  have e1 : m = (((2 : Nat) ^ j - 1 : Nat) : Int) := by rw [hm, Int.natCast_sub (by omega)]; simp
  have hc : ((2 : Int) ^ j) = (((2 : Nat) ^ j : Nat) : Int) := by simp
  unfold andI
  show IntKind.u64.wrap ((BitVec.ofInt 64 a &&& BitVec.ofInt 64 m).toNat : Int) = _
  rw [BitVec.toNat_and, u64_of a h, u64_of m (by rw [e1]; omega), e1]
  have : ((((2 : Nat) ^ j - 1 : Nat) : Int)).toNat = 2 ^ j - 1 := by omega
  rw [this, Nat.and_two_pow_sub_one_eq_mod, hc]
  have h2 : a.toNat % 2 ^ j < 2 ^ j := Nat.mod_lt _ hp0
  rw [wrap_in (k := .u64) (by simp [IntKind.min, IntKind.max, IntKind.signed, IntKind.bits]; omega)]
  have : a = (a.toNat : Int) := by omega
  rw [this]; simp
theorem shr_at {a : Int} (j : Nat) (hj : j ≤ 64) (h : 0 ≤ a) {m : Int} (hm : m = j) : shrI .u64 a m = a / 2 ^ j := by
  unfold shrI
  rw [hm, Int.toNat_natCast, show min j (IntKind.bits .u64) = j from Nat.min_eq_left hj, Int.fdiv_eq_ediv_of_nonneg]
  exact Int.le_of_lt (Int.pow_pos (by decide))
def pt (l : List Cell) : Option Blk := some ⟨121, l, none, l.length, false⟩
end Go.Proofs.YthafgapnnmkmhaaGreatDoor
end
section
namespace Go.Proofs.YthafgapnnmkmhaaGreatDoor
open Go Reck
set_option maxRecDepth 100000
set_option linter.unusedVariables false
set_option linter.unusedSimpArgs false
def rot1 (v : Int) : Int := IntKind.wrap .u64 (IntKind.wrap .u64 (v * 2) + v / 9223372036854775808)
def rotN : Nat → Int → Int
  | 0, v => v
  | n + 1, v => rot1 (rotN n v)
def U.rot (w k : Int) : Int := rotN k.toNat w
structure U.turnI (w0 k : Int) (i w : Int) : Prop where
  out : ∃ j : Nat, i = j ∧ (j : Int) ≤ k ∧ w = rotN j w0 ∧ 0 ≤ w ∧ w ≤ 18446744073709551615
def turnInv (c : Code) (tm : List AV) : Inv where
  X := Int × Int
  tags := [0]
  tag _ _ := 0
  J := wrBut [5, 0] c
  val _ x := [(5, xi .i64 x.1), (0, xi .u64 x.2)]
  st _ _ σ := σ
  I _ x := U.turnI (slotI tm 0) (slotI tm 1) x.1 x.2
  m _ x := (slotI tm 1 - x.1).toNat
  ren := noRen
def inv4 (c : Code) (tm : List AV) (σ : St) : Option Inv :=
  match tm.length, firstReg c with
  | 17, some 2 => if isXint (tm.getD 0 (lit undef)) then some (turnInv c tm) else none
  | _, _ => none
abbrev runT (tbl : Tbl) (f : Nat) (args : List AV) (σ : St) (K : AV → St → Prop) : Prop := goT Tryz.prog [] (orcOf inv4 tbl) (opMem Tryz.prog) 3000 (.inr (.inr (.inr (.inr f)))) args σ (retC σ K)
def tRot : Tbl := fun f args σ => if f == 136 || f == 118 then match args, σ with
    | [a, b], ⟨[], [], 0, [], 0⟩ => match intX a, intX b with
      | some (.u64, w), some (.i64, k) => some fun K => ((0 ≤ w ∧ w ≤ 18446744073709551615) ∧ 0 < k ∧ k < 64) ∧ ∀ z : Int, z = U.rot w k → K (xi .u64 z) emptySt
      | _, _ => none
    | _, _ => none
  else none
theorem rot_vc (K:AV→St→Prop) (w k:Int):(runT tbl0 136 [xi .u64 w,xi .i64 k] emptySt K)=(∀ (z0:Int),z0=IntKind.wrap IntKind.u64 k→∀ (z1:Int),z1=andI IntKind.u64 z0 (63:Int)→(0:Int)≤z1∧∀ (z2:Int),z2=shlI IntKind.u64 w z1→∀ (z3:Int),z3=IntKind.wrap IntKind.u64 ((64:Int) - z1)→(0:Int)≤z3∧∀ (z4:Int),z4=shrI IntKind.u64 w z3→∀ (z5:Int),z5=orI IntKind.u64 z2 z4→K (Sum.inl (Sum.inl (Sum.inr (Sum.inr (Sum.inr (Sum.inr (Sum.inr (Sum.inr (Sum.inl (IntKind.u64,z5)))))))))) { heap := [],ints := [],opqs := (0:Nat),arrs := [],junks := (0:Nat) }) := by kernel_rfl
theorem turn_vc (K:AV→St→Prop) (w k:Int):(runT tbl0 118 [xi .u64 w,xi .i64 k] emptySt K)=((∃ (y0:Int × Int),w=Prod.snd y0∧k=k∧(0:Int)=Prod.fst y0∧U.turnI w k (Prod.fst y0) (Prod.snd y0))∧∀ (x1:Int × Int),U.turnI w k (Prod.fst x1) (Prod.snd x1)→(Prod.fst x1<k→∀ (z2:Int),z2=IntKind.wrap IntKind.u64 (Prod.snd x1 * (2:Int))→¬(9223372036854775808:Int)=(0:Int)∧∀ (z3:Int),z3=IntKind.wrap IntKind.u64 (Int.tdiv (Prod.snd x1) (9223372036854775808:Int))→∀ (z4:Int),z4=IntKind.wrap IntKind.u64 (z2 + z3)→∀ (z5:Int),z5=IntKind.wrap IntKind.i64 (Prod.fst x1 + (1:Int))→∃ (y6:Int × Int),z4=Prod.snd y6∧k=k∧z5=Prod.fst y6∧U.turnI w k (Prod.fst y6) (Prod.snd y6)∧Int.toNat (k - Prod.fst y6)<Int.toNat (k - Prod.fst x1))∧(¬Prod.fst x1<k→K (Sum.inl (Sum.inl (Sum.inr (Sum.inr (Sum.inr (Sum.inr (Sum.inr (Sum.inr (Sum.inl (IntKind.u64,Prod.snd x1)))))))))) { heap := [],ints := [],opqs := (0:Nat),arrs := [],junks := (0:Nat) })) := by kernel_rfl
end Go.Proofs.YthafgapnnmkmhaaGreatDoor
end
section
set_option linter.unusedVariables false
set_option linter.unusedSimpArgs false
namespace Go.Proofs.YthafgapnnmkmhaaGreatDoor
open Go Reck
theorem wrapU (n : Int) : IntKind.wrap .u64 n = n % 18446744073709551616 := by simp [IntKind.wrap, IntKind.signed, IntKind.bits]
def rotNat (n v : Nat) : Nat := (v % 2 ^ (64 - n)) * 2 ^ n + v / 2 ^ (64 - n)
theorem rot_step (P Q h l b : Nat) (hPQ : P * Q = 9223372036854775808) (hl : l < P) (hh : h < Q) (hb : b < 2) :
    (((b * P + l) * Q + h) * 2) % 18446744073709551616 + ((b * P + l) * Q + h) / 9223372036854775808 = l * (2 * Q) + (2 * h + b) := by
  have e1 : (b * P + l) * Q + h = b * 9223372036854775808 + (l * Q + h) := by rw [Nat.add_mul, Nat.mul_assoc, hPQ]; omega
  have e2 : l * Q + h < 9223372036854775808 := by
    have : (l + 1) * Q ≤ P * Q := Nat.mul_le_mul_right _ hl
    rw [hPQ, Nat.add_mul] at this; omega
  have e3 : l * (2 * Q) = 2 * (l * Q) := by rw [Nat.mul_left_comm]
  rw [e1, e3]
  generalize l * Q = M at *
  rcases (by omega : b = 0 ∨ b = 1) with rfl | rfl <;> omega
theorem rotN_in (n : Nat) (w : Int) (h : 0 ≤ w ∧ w ≤ 18446744073709551615) : 0 ≤ rotN n w ∧ rotN n w ≤ 18446744073709551615 := by
  cases n with
  | zero => exact h
  | succ n => show 0 ≤ rot1 _ ∧ rot1 _ ≤ _; unfold rot1; rw [wrapU]; omega
theorem rotN_nat (n : Nat) (v : Nat) (hn : n ≤ 64) (hv : v < 18446744073709551616) : rotN n v = (rotNat n v : Nat) := by
  induction n with
  | zero =>
    show (v : Int) = _
    unfold rotNat
    rw [Nat.mod_eq_of_lt (by simpa using hv), Nat.div_eq_of_lt (by simpa using hv)]; simp
  | succ n ih =>
    show rot1 (rotN n v) = _
    have hr := rotN_in n v (by omega)
    rw [ih (by omega)] at hr ⊢
    unfold rot1
    unfold rotNat at *
    rw [wrapU, wrapU]
    have hp : 2 ^ (64 - n) = 2 * 2 ^ (64 - (n + 1)) := by rw [show 64 - n = (64 - (n + 1)) + 1 by omega, Nat.pow_succ, Nat.mul_comm]
    have hq : 2 ^ (n + 1) = 2 * 2 ^ n := by rw [Nat.pow_succ, Nat.mul_comm]
    have hPQ : 2 ^ (64 - (n + 1)) * 2 ^ n = 9223372036854775808 := by rw [← Nat.pow_add, show 64 - (n + 1) + n = 63 by omega]
    have hP0 : 0 < 2 ^ (64 - (n + 1)) := Nat.pow_pos (by decide)
    rw [hp] at hr ⊢
    rw [hq]
    generalize 2 ^ (64 - (n + 1)) = P at *
    generalize 2 ^ n = Q at *
    have hl : v % P < P := Nat.mod_lt _ hP0
    have hb : v / P % 2 < 2 := Nat.mod_lt _ (by decide)
    have hv1 : v = (v / P) * P + v % P := by rw [Nat.mul_comm]; exact (Nat.div_add_mod v P).symm
    have hm : v % (2 * P) = (v / P % 2) * P + v % P := by rw [Nat.mul_comm 2 P, Nat.mod_mul, Nat.mul_comm P]; omega
    have hd : v / (2 * P) = v / P / 2 := by rw [Nat.mul_comm, Nat.div_div_eq_div_mul]
    have hh : v / P / 2 < Q := by
      rw [Nat.div_div_eq_div_mul]
      apply Nat.div_lt_of_lt_mul
      have : P * 2 * Q = 2 * (P * Q) := by rw [Nat.mul_right_comm, Nat.mul_comm]
      rw [this, hPQ]; exact hv
    have key := rot_step P Q (v / P / 2) (v % P) (v / P % 2) hPQ hl hh hb
    rw [hm, hd] at hr ⊢
    have hx : v / P = 2 * (v / P / 2) + v / P % 2 := by omega
    rw [← hx] at key
    generalize ((v / P % 2) * P + v % P) * Q + v / P / 2 = Z at *
    have hz : Z * 2 % 18446744073709551616 + Z / 9223372036854775808 < 18446744073709551616 := by omega
    rw [← key]
    omega
theorem rot_in (w k : Int) (h : 0 ≤ w ∧ w ≤ 18446744073709551615) : 0 ≤ U.rot w k ∧ U.rot w k ≤ 18446744073709551615 := rotN_in _ w h
theorem ofNat64 (a : Nat) (h : a < 18446744073709551616) : (BitVec.ofInt 64 (a : Int)).toNat = a := by
  rw [u64_of _ (by omega)]; simp
theorem or_nat (a b : Nat) (ha : a < 18446744073709551616) (hb : b < 18446744073709551616) : orI .u64 (a : Int) (b : Int) = ((a ||| b : Nat) : Int) := by
  unfold orI
  show IntKind.u64.wrap ((BitVec.ofInt 64 (a : Int) ||| BitVec.ofInt 64 (b : Int)).toNat : Int) = _
  rw [BitVec.toNat_or, ofNat64 a ha, ofNat64 b hb, wrapU]
  have : a ||| b < 2 ^ 64 := Nat.or_lt_two_pow ha hb
  omega
theorem rot_run (K : AV → St → Prop) (w k : Int) (hw : 0 ≤ w ∧ w ≤ 18446744073709551615) (hk : 0 < k ∧ k < 64) (h : K (xi .u64 (U.rot w k)) emptySt) : runT tbl0 136 [xi .u64 w, xi .i64 k] emptySt K := by
  rw [rot_vc]
  intro z0 h0 z1 h1
  have e0 : z0 = k := wu64 h0 (by omega)
  have e1 : z1 = k := by rw [h1, e0, and_mask (m := 63) 6 (by omega) (by omega) rfl]; omega
  refine ⟨by omega, fun z2 h2 z3 h3 => ?_⟩
  have e3 : z3 = 64 - k := by rw [wu64 h3 (by omega), e1]
  refine ⟨by omega, fun z4 h4 z5 h5 => ?_⟩
  have e5 : z5 = U.rot w k := by
    obtain ⟨v, rfl⟩ : ∃ v : Nat, w = v := ⟨w.toNat, by omega⟩
    obtain ⟨n, rfl⟩ : ∃ n : Nat, k = n := ⟨k.toNat, by omega⟩
    have hn : n < 64 := by omega
    have hv : v < 18446744073709551616 := by omega
    have e4 : z4 = ((v / 2 ^ (64 - n) : Nat) : Int) := by
      rw [h4, shr_at (64 - n) (by omega) (by omega) (by omega)]; push_cast; rfl
    have hPQ : 2 ^ (64 - n) * 2 ^ n = 18446744073709551616 := by rw [← Nat.pow_add, show 64 - n + n = 64 by omega]
    have e2 : z2 = ((v % 2 ^ (64 - n) * 2 ^ n : Nat) : Int) := by
      rw [h2, e1]; unfold shlI
      rw [wrapU, Int.toNat_natCast, show min n (IntKind.bits .u64) = n from Nat.min_eq_left (by show n ≤ 64; omega)]
      have : (v : Int) * 2 ^ n = ((v * 2 ^ n : Nat) : Int) := by push_cast; rfl
      have hm : v % 2 ^ (64 - n) * 2 ^ n = v * 2 ^ n % 18446744073709551616 := by rw [← hPQ, Nat.mul_mod_mul_right]
      rw [this, hm]
      omega
    have hlt : v / 2 ^ (64 - n) < 2 ^ n := by
      apply Nat.div_lt_of_lt_mul; rw [hPQ]; exact hv
    have hlt2 : v % 2 ^ (64 - n) * 2 ^ n < 18446744073709551616 := by
      rw [← hPQ]; exact Nat.mul_lt_mul_of_pos_right (Nat.mod_lt _ (Nat.pow_pos (by decide))) (Nat.pow_pos (by decide))
    have hb2 : v / 2 ^ (64 - n) < 18446744073709551616 := Nat.lt_of_le_of_lt (Nat.div_le_self _ _) hv
    rw [h5, e2, e4, or_nat _ _ hlt2 hb2]
    unfold U.rot
    rw [Int.toNat_natCast, rotN_nat n v (by omega) hv]
    unfold rotNat
    have := Nat.shiftLeft_add_eq_or_of_lt hlt (v % 2 ^ (64 - n))
    rw [Nat.shiftLeft_eq] at this
    rw [this]
  rw [← e5] at h; exact h
theorem turn_run (K : AV → St → Prop) (w k : Int) (hw : 0 ≤ w ∧ w ≤ 18446744073709551615) (hk : 0 < k ∧ k < 64) (h : K (xi .u64 (U.rot w k)) emptySt) : runT tbl0 118 [xi .u64 w, xi .i64 k] emptySt K := by
  rw [turn_vc]
  refine ⟨⟨(0, w), rfl, rfl, rfl, ⟨0, rfl, by simp; omega, rfl, hw⟩⟩, ?_⟩
  rintro ⟨i, x⟩ ⟨j, h1, h2, h3, h4⟩
  dsimp only at *
  refine ⟨fun hlt z2 e2 => ⟨by decide, fun z3 e3 z4 e4 z5 e5 => ⟨(z5, z4), rfl, rfl, rfl, ⟨j + 1, ?_, ?_, ?_, ?_⟩, ?_⟩⟩, fun hge => ?_⟩
  · have := w64 e5 (by omega); simp; omega
  · have := w64 e5 (by omega); push_cast; omega
  · show z4 = rot1 (rotN j w)
    rw [Int.tdiv_eq_ediv_of_nonneg (by omega)] at e3
    have e3 := wu64 e3 (by omega)
    rw [e4, e2, e3, ← h3]; rfl
  · show 0 ≤ z4 ∧ z4 ≤ _; rw [e4, wrapU]; omega
  · have := w64 e5 (by omega); dsimp only; omega
  · have : k.toNat = j := by omega
    unfold U.rot at h
    rw [this, ← h3] at h; exact h
theorem tRot_ok : TblOk Tryz.prog tRot := by
  intro f tm σ C h K hK
  unfold tRot at h
  split at h
  · rename_i hf
    split at h
    · split at h
      · rename_i a b _ _ w k hw hc
        simp only [Option.some.injEq] at h; subst h
        obtain ⟨⟨k1, k2⟩, k3⟩ := hK
        intro w0 e W hk vs hvs
        have hvs' : [xi .u64 w, xi .i64 k].map (Reck.av e) = vs.map some := by
          obtain ⟨x, y, rfl⟩ : ∃ x y, vs = [x, y] := by
            match vs, map_len hvs with
            | [x, y], _ => exact ⟨x, y, rfl⟩
          simp only [List.map_cons, List.map_nil, List.cons.injEq, and_true] at hvs ⊢
          rw [intX_ok hw hvs.1, intX_ok hc hvs.2]
          exact ⟨rfl, rfl⟩
        simp at hf
        rcases hf with rfl | rfl
        · exact knownC noOv names (conOk_of tbl0_ok) (rot_run K w k k1 k2 (k3 _ rfl)) w0 e W hk vs hvs'
        · exact knownC noOv names (conOk_of tbl0_ok) (turn_run K w k k1 k2 (k3 _ rfl)) w0 e W hk vs hvs'
      · cases h
    · cases h
  · cases h
end Go.Proofs.YthafgapnnmkmhaaGreatDoor
end
section
namespace Go.Proofs.YthafgapnnmkmhaaGreatDoor
open Go Reck
set_option maxRecDepth 100000
set_option linter.unusedVariables false
set_option linter.unusedSimpArgs false
abbrev W4 := Int × Int × Int × Int
def w4 (v : W4) : List Cell := [xintC .u64 v.1, xintC .u64 v.2.1, xintC .u64 v.2.2.1, xintC .u64 v.2.2.2]
def bl4 (t : Nat) (v : W4) : Option Blk := some ⟨t, w4 v, none, 4, false⟩
def st4 (v : W4) : St := ⟨[bl4 178 v], [], 0, [], 0⟩
def ptr0 : AV := cell (.inr (.inl (0, 0)))
def addW (a b : Int) : Int := IntKind.wrap .u64 (a + b)
def rnd (v : W4) : W4 :=
  let a1 := addW v.1 v.2.1
  let b1 := xorI .u64 (U.rot v.2.1 13) a1
  let a2 := U.rot a1 32
  let c1 := addW v.2.2.1 v.2.2.2
  let d1 := xorI .u64 (U.rot v.2.2.2 16) c1
  let a3 := addW a2 d1
  let d2 := xorI .u64 (U.rot d1 21) a3
  let c2 := addW c1 b1
  let b2 := xorI .u64 (U.rot b1 17) c2
  (a3, b2, U.rot c2 32, d2)
def rndN : Nat → W4 → W4
  | 0, v => v
  | n + 1, v => rnd (rndN n v)
def U.rn (v : W4) (n : Int) : W4 := rndN n.toNat v
def inW (a : Int) : Prop := 0 ≤ a ∧ a ≤ 18446744073709551615
structure U.in4 (v : W4) : Prop where
  out : inW v.1 ∧ inW v.2.1 ∧ inW v.2.2.1 ∧ inW v.2.2.2
structure U.rndI (v : W4) (n : Int) (i : Int) (x : W4) : Prop where
  out : ∃ j : Nat, i = j ∧ (j : Int) ≤ n ∧ x = rndN j v ∧ U.in4 x
def xX : Cell → Int
  | .inr (.inr (.inr (.inr (.inr (.inr (.inl (_, z))))))) => z
  | _ => 0
def blkW (σ : St) : W4 := match σ.heap with
  | some ⟨_, [a, b, c, d], _, _, _⟩ :: _ => (xX a, xX b, xX c, xX d)
  | _ => (0, 0, 0, 0)
def setW (x : W4) (σ : St) : St := match σ.heap with
  | some ⟨t, _, j, c, z⟩ :: l => ⟨some ⟨t, w4 x, j, c, z⟩ :: l, σ.ints, σ.opqs, σ.arrs, σ.junks⟩
  | _ => σ
def rndInv (c : Code) (tm : List AV) (σ : St) (n : Nat) : Inv where
  X := Int × W4
  tags := [0]
  tag _ _ := 0
  J := wrBut [5] c
  val _ x := [(5, xi .i64 x.1)]
  st _ x σ := setW x.2 σ
  I _ x := U.rndI (blkW σ) (slotI tm n) x.1 x.2
  m _ x := (slotI tm n - x.1).toNat
  ren := noRen
def inv5 (c : Code) (tm : List AV) (σ : St) : Option Inv :=
  match tm.length, firstReg c with
  | 120, some 1 => if isXint (tm.getD 4 (lit undef)) then some (rndInv c tm σ 4) else none
  | 57, some 2 => if isXint (tm.getD 1 (lit undef)) then some (rndInv c tm σ 1) else none
  | _, _ => none
abbrev runRd (tbl : Tbl) (f : Nat) (args : List AV) (σ : St) (K : AV → St → Prop) : Prop := goT Tryz.prog [] (orcOf inv5 tbl) (opMem Tryz.prog) 3000 (.inr (.inr (.inr (.inr f)))) args σ (retC σ K)
def rowW (v : W4) : AV := .inl (.inr (w4 v))
theorem rounds_vc (K:AV→St→Prop) (v:W4) (n:Int):(runRd tRot 125 [ptr0,xi .i64 n] (st4 v) K)=((∃ (y0:Int × W4),n=n∧n=n∧(0:Int)=Prod.fst y0∧Prod.fst v=Prod.fst (Prod.snd y0)∧Prod.fst (Prod.snd v)=Prod.fst (Prod.snd (Prod.snd y0))∧Prod.fst (Prod.snd (Prod.snd v))=Prod.fst (Prod.snd (Prod.snd (Prod.snd y0)))∧Prod.snd (Prod.snd (Prod.snd v))=Prod.snd (Prod.snd (Prod.snd (Prod.snd y0)))∧U.rndI (Prod.fst v,Prod.fst (Prod.snd v),Prod.fst (Prod.snd (Prod.snd v)),Prod.snd (Prod.snd (Prod.snd v))) n (Prod.fst y0) (Prod.snd y0))∧∀ (x1:Int × W4),U.rndI (Prod.fst v,Prod.fst (Prod.snd v),Prod.fst (Prod.snd (Prod.snd v)),Prod.snd (Prod.snd (Prod.snd v))) n (Prod.fst x1) (Prod.snd x1)→(Prod.fst x1<n→∀ (z2:Int),z2=IntKind.wrap IntKind.u64 (Prod.fst (Prod.snd x1) + Prod.fst (Prod.snd (Prod.snd x1)))→(((0:Int)≤Prod.fst (Prod.snd (Prod.snd x1))∧Prod.fst (Prod.snd (Prod.snd x1))≤(18446744073709551615:Int))∧(0:Int)<(13:Int)∧(13:Int)<(64:Int))∧∀ (z3:Int),z3=U.rot (Prod.fst (Prod.snd (Prod.snd x1))) (13:Int)→z2=z2∧Prod.fst (Prod.snd (Prod.snd x1))=Prod.fst (Prod.snd (Prod.snd x1))∧∀ (z4:Int),z4=xorI IntKind.u64 z3 z2→(((0:Int)≤z2∧z2≤(18446744073709551615:Int))∧(0:Int)<(32:Int)∧(32:Int)<(64:Int))∧∀ (z5:Int),z5=U.rot z2 (32:Int)→z2=z2∧∀ (z6:Int),z6=IntKind.wrap IntKind.u64 (Prod.fst (Prod.snd (Prod.snd (Prod.snd x1))) + Prod.snd (Prod.snd (Prod.snd (Prod.snd x1))))→(((0:Int)≤Prod.snd (Prod.snd (Prod.snd (Prod.snd x1)))∧Prod.snd (Prod.snd (Prod.snd (Prod.snd x1)))≤(18446744073709551615:Int))∧(0:Int)<(16:Int)∧(16:Int)<(64:Int))∧∀ (z7:Int),z7=U.rot (Prod.snd (Prod.snd (Prod.snd (Prod.snd x1)))) (16:Int)→z6=z6∧Prod.snd (Prod.snd (Prod.snd (Prod.snd x1)))=Prod.snd (Prod.snd (Prod.snd (Prod.snd x1)))∧∀ (z8:Int),z8=xorI IntKind.u64 z7 z6→∀ (z9:Int),z9=IntKind.wrap IntKind.u64 (z5 + z8)→(((0:Int)≤z8∧z8≤(18446744073709551615:Int))∧(0:Int)<(21:Int)∧(21:Int)<(64:Int))∧∀ (z10:Int),z10=U.rot z8 (21:Int)→z9=z9∧z8=z8∧∀ (z11:Int),z11=xorI IntKind.u64 z10 z9→∀ (z12:Int),z12=IntKind.wrap IntKind.u64 (z6 + z4)→(((0:Int)≤z4∧z4≤(18446744073709551615:Int))∧(0:Int)<(17:Int)∧(17:Int)<(64:Int))∧∀ (z13:Int),z13=U.rot z4 (17:Int)→z12=z12∧z4=z4∧∀ (z14:Int),z14=xorI IntKind.u64 z13 z12→(((0:Int)≤z12∧z12≤(18446744073709551615:Int))∧(0:Int)<(32:Int)∧(32:Int)<(64:Int))∧∀ (z15:Int),z15=U.rot z12 (32:Int)→z12=z12∧∀ (z16:Int),z16=IntKind.wrap IntKind.i64 (Prod.fst x1 + (1:Int))→∃ (y17:Int × W4),n=n∧n=n∧z16=Prod.fst y17∧z9=Prod.fst (Prod.snd y17)∧z14=Prod.fst (Prod.snd (Prod.snd y17))∧z15=Prod.fst (Prod.snd (Prod.snd (Prod.snd y17)))∧z11=Prod.snd (Prod.snd (Prod.snd (Prod.snd y17)))∧U.rndI (Prod.fst v,Prod.fst (Prod.snd v),Prod.fst (Prod.snd (Prod.snd v)),Prod.snd (Prod.snd (Prod.snd v))) n (Prod.fst y17) (Prod.snd y17)∧Int.toNat (n - Prod.fst y17)<Int.toNat (n - Prod.fst x1))∧(¬Prod.fst x1<n→K (Sum.inr []) { heap := [some { elem := nat_lit 178,cells := [Sum.inr (Sum.inr (Sum.inr (Sum.inr (Sum.inr (Sum.inr (Sum.inl (IntKind.u64,Prod.fst (Prod.snd x1)))))))),Sum.inr (Sum.inr (Sum.inr (Sum.inr (Sum.inr (Sum.inr (Sum.inl (IntKind.u64,Prod.fst (Prod.snd (Prod.snd x1))))))))),Sum.inr (Sum.inr (Sum.inr (Sum.inr (Sum.inr (Sum.inr (Sum.inl (IntKind.u64,Prod.fst (Prod.snd (Prod.snd (Prod.snd x1)))))))))),Sum.inr (Sum.inr (Sum.inr (Sum.inr (Sum.inr (Sum.inr (Sum.inl (IntKind.u64,Prod.snd (Prod.snd (Prod.snd (Prod.snd x1))))))))))],j := none,c := OfNat.ofNat (4:Nat),z := false }],ints := [],opqs := (0:Nat),arrs := [],junks := (0:Nat) })) := by kernel_rfl
theorem rRounds_vc (K:AV→St→Prop) (v:W4) (n:Int):(runRd tRot 97 [rowW v,xi .i64 n] emptySt K)=((∃ (y0:Int × W4),Prod.fst v=Prod.fst v∧Prod.fst (Prod.snd v)=Prod.fst (Prod.snd v)∧Prod.fst (Prod.snd (Prod.snd v))=Prod.fst (Prod.snd (Prod.snd v))∧Prod.snd (Prod.snd (Prod.snd v))=Prod.snd (Prod.snd (Prod.snd v))∧n=n∧(0:Int)=Prod.fst y0∧Prod.fst v=Prod.fst (Prod.snd y0)∧Prod.fst (Prod.snd v)=Prod.fst (Prod.snd (Prod.snd y0))∧Prod.fst (Prod.snd (Prod.snd v))=Prod.fst (Prod.snd (Prod.snd (Prod.snd y0)))∧Prod.snd (Prod.snd (Prod.snd v))=Prod.snd (Prod.snd (Prod.snd (Prod.snd y0)))∧U.rndI (Prod.fst v,Prod.fst (Prod.snd v),Prod.fst (Prod.snd (Prod.snd v)),Prod.snd (Prod.snd (Prod.snd v))) n (Prod.fst y0) (Prod.snd y0))∧∀ (x1:Int × W4),U.rndI (Prod.fst v,Prod.fst (Prod.snd v),Prod.fst (Prod.snd (Prod.snd v)),Prod.snd (Prod.snd (Prod.snd v))) n (Prod.fst x1) (Prod.snd x1)→(Prod.fst x1<n→∀ (z2:Int),z2=IntKind.wrap IntKind.u64 (Prod.fst (Prod.snd x1) + Prod.fst (Prod.snd (Prod.snd x1)))→(((0:Int)≤Prod.fst (Prod.snd (Prod.snd x1))∧Prod.fst (Prod.snd (Prod.snd x1))≤(18446744073709551615:Int))∧(0:Int)<(13:Int)∧(13:Int)<(64:Int))∧∀ (z3:Int),z3=U.rot (Prod.fst (Prod.snd (Prod.snd x1))) (13:Int)→∀ (z4:Int),z4=xorI IntKind.u64 z3 z2→(((0:Int)≤z2∧z2≤(18446744073709551615:Int))∧(0:Int)<(32:Int)∧(32:Int)<(64:Int))∧∀ (z5:Int),z5=U.rot z2 (32:Int)→∀ (z6:Int),z6=IntKind.wrap IntKind.u64 (Prod.fst (Prod.snd (Prod.snd (Prod.snd x1))) + Prod.snd (Prod.snd (Prod.snd (Prod.snd x1))))→(((0:Int)≤Prod.snd (Prod.snd (Prod.snd (Prod.snd x1)))∧Prod.snd (Prod.snd (Prod.snd (Prod.snd x1)))≤(18446744073709551615:Int))∧(0:Int)<(16:Int)∧(16:Int)<(64:Int))∧∀ (z7:Int),z7=U.rot (Prod.snd (Prod.snd (Prod.snd (Prod.snd x1)))) (16:Int)→∀ (z8:Int),z8=xorI IntKind.u64 z7 z6→∀ (z9:Int),z9=IntKind.wrap IntKind.u64 (z5 + z8)→(((0:Int)≤z8∧z8≤(18446744073709551615:Int))∧(0:Int)<(21:Int)∧(21:Int)<(64:Int))∧∀ (z10:Int),z10=U.rot z8 (21:Int)→∀ (z11:Int),z11=xorI IntKind.u64 z10 z9→∀ (z12:Int),z12=IntKind.wrap IntKind.u64 (z6 + z4)→(((0:Int)≤z4∧z4≤(18446744073709551615:Int))∧(0:Int)<(17:Int)∧(17:Int)<(64:Int))∧∀ (z13:Int),z13=U.rot z4 (17:Int)→∀ (z14:Int),z14=xorI IntKind.u64 z13 z12→(((0:Int)≤z12∧z12≤(18446744073709551615:Int))∧(0:Int)<(32:Int)∧(32:Int)<(64:Int))∧∀ (z15:Int),z15=U.rot z12 (32:Int)→∀ (z16:Int),z16=IntKind.wrap IntKind.i64 (Prod.fst x1 + (1:Int))→∃ (y17:Int × W4),Prod.fst v=Prod.fst v∧Prod.fst (Prod.snd v)=Prod.fst (Prod.snd v)∧Prod.fst (Prod.snd (Prod.snd v))=Prod.fst (Prod.snd (Prod.snd v))∧Prod.snd (Prod.snd (Prod.snd v))=Prod.snd (Prod.snd (Prod.snd v))∧n=n∧z16=Prod.fst y17∧z9=Prod.fst (Prod.snd y17)∧z14=Prod.fst (Prod.snd (Prod.snd y17))∧z15=Prod.fst (Prod.snd (Prod.snd (Prod.snd y17)))∧z11=Prod.snd (Prod.snd (Prod.snd (Prod.snd y17)))∧U.rndI (Prod.fst v,Prod.fst (Prod.snd v),Prod.fst (Prod.snd (Prod.snd v)),Prod.snd (Prod.snd (Prod.snd v))) n (Prod.fst y17) (Prod.snd y17)∧Int.toNat (n - Prod.fst y17)<Int.toNat (n - Prod.fst x1))∧(¬Prod.fst x1<n→K (Sum.inl (Sum.inr [Sum.inr (Sum.inr (Sum.inr (Sum.inr (Sum.inr (Sum.inr (Sum.inl (IntKind.u64,Prod.fst (Prod.snd x1)))))))),Sum.inr (Sum.inr (Sum.inr (Sum.inr (Sum.inr (Sum.inr (Sum.inl (IntKind.u64,Prod.fst (Prod.snd (Prod.snd x1))))))))),Sum.inr (Sum.inr (Sum.inr (Sum.inr (Sum.inr (Sum.inr (Sum.inl (IntKind.u64,Prod.fst (Prod.snd (Prod.snd (Prod.snd x1)))))))))),Sum.inr (Sum.inr (Sum.inr (Sum.inr (Sum.inr (Sum.inr (Sum.inl (IntKind.u64,Prod.snd (Prod.snd (Prod.snd (Prod.snd x1))))))))))])) { heap := [],ints := [],opqs := (0:Nat),arrs := [],junks := (0:Nat) })) := by kernel_rfl
end Go.Proofs.YthafgapnnmkmhaaGreatDoor
end
section
set_option linter.unusedVariables false
set_option linter.unusedSimpArgs false
set_option maxRecDepth 10000
namespace Go.Proofs.YthafgapnnmkmhaaGreatDoor
open Go Reck
theorem add_in (a b : Int) : inW (addW a b) := by unfold inW addW; rw [wrapU]; omega
theorem xor_in (a b : Int) : inW (xorI .u64 a b) := by
  unfold inW xorI
  rw [show ∀ n, IntKind.wrap .u64 n = n % 18446744073709551616 from wrapU]; omega
theorem rnd_in {v : W4} (h : U.in4 v) : U.in4 (rnd v) := ⟨add_in _ _, xor_in _ _, rot_in _ _ (add_in _ _), xor_in _ _⟩
theorem rndN_in {v : W4} (h : U.in4 v) (n : Nat) : U.in4 (rndN n v) := by
  induction n with
  | zero => exact h
  | succ n ih => exact rnd_in ih
theorem rnd_of {x : W4} {z2 z3 z4 z5 z6 z7 z8 z9 z10 z11 z12 z13 z14 z15 : Int} (e2 : z2 = addW x.1 x.2.1) (e3 : z3 = U.rot x.2.1 13) (e4 : z4 = xorI .u64 z3 z2) (e5 : z5 = U.rot z2 32) (e6 : z6 = addW x.2.2.1 x.2.2.2) (e7 : z7 = U.rot x.2.2.2 16) (e8 : z8 = xorI .u64 z7 z6) (e9 : z9 = addW z5 z8)
    (e10 : z10 = U.rot z8 21) (e11 : z11 = xorI .u64 z10 z9) (e12 : z12 = addW z6 z4) (e13 : z13 = U.rot z4 17) (e14 : z14 = xorI .u64 z13 z12) (e15 : z15 = U.rot z12 32) : rnd x = (z9, z14, z15, z11) := by
  simp only [rnd, e15, e14, e13, e12, e11, e10, e9, e8, e7, e6, e5, e4, e3, e2]
theorem nxt {i z n : Int} {j : Nat} (h1 : i = j) (h2 : (j : Int) ≤ n) (hn : n < 100) (hlt : i < n) (e : z = IntKind.wrap .i64 (i + 1)) : z = ((j + 1 : Nat) : Int) ∧ ((j + 1 : Nat) : Int) ≤ n ∧ (n - z).toNat < (n - i).toNat := by
  have := w64 e (by omega); omega
theorem rounds_run (K : AV → St → Prop) (v : W4) (n : Int) (hv : U.in4 v) (hn : 0 ≤ n ∧ n < 100) (h : K (.inr []) (st4 (U.rn v n))) : runRd tRot 125 [ptr0, xi .i64 n] (st4 v) K := by
  rw [rounds_vc]
  refine ⟨⟨(0, v), rfl, rfl, rfl, rfl, rfl, rfl, rfl, ⟨0, rfl, by simp; omega, rfl, hv⟩⟩, ?_⟩
  rintro ⟨i, x⟩ ⟨j, h1, h2, h3, h4⟩
  dsimp only at *
  refine ⟨fun hlt z2 e2 => ?_, fun hge => ?_⟩
  · refine ⟨⟨h4.out.2.1, by decide⟩, fun z3 e3 => ⟨rfl, rfl, fun z4 e4 => ⟨⟨e2 ▸ add_in _ _, by decide⟩, fun z5 e5 => ⟨rfl, fun z6 e6 => ⟨⟨h4.out.2.2.2, by decide⟩, fun z7 e7 => ⟨rfl, rfl, fun z8 e8 z9 e9 => ?_⟩⟩⟩⟩⟩⟩
    refine ⟨⟨e8 ▸ xor_in _ _, by decide⟩, fun z10 e10 => ⟨rfl, rfl, fun z11 e11 z12 e12 => ⟨⟨e4 ▸ xor_in _ _, by decide⟩, fun z13 e13 => ⟨rfl, rfl, fun z14 e14 => ?_⟩⟩⟩⟩
    refine ⟨⟨e12 ▸ add_in _ _, by decide⟩, fun z15 e15 => ⟨rfl, fun z16 e16 => ?_⟩⟩
    have hr := rnd_of e2 e3 e4 e5 e6 e7 e8 e9 e10 e11 e12 e13 e14 e15
    have hi := rnd_in h4
    rw [hr] at hi
    obtain ⟨q1, q2, q3⟩ := nxt h1 h2 hn.2 hlt e16
    exact ⟨(z16, (z9, z14, z15, z11)), rfl, rfl, rfl, rfl, rfl, rfl, rfl, ⟨j + 1, q1, q2, by rw [← hr, h3]; rfl, hi⟩, q3⟩
  · have : n.toNat = j := by omega
    unfold U.rn at h
    rw [this, ← h3] at h; exact h
theorem rRounds_run (K : AV → St → Prop) (v : W4) (n : Int) (hv : U.in4 v) (hn : 0 ≤ n ∧ n < 100) (h : K (rowW (U.rn v n)) emptySt) : runRd tRot 97 [rowW v, xi .i64 n] emptySt K := by
  rw [rRounds_vc]
  refine ⟨⟨(0, v), rfl, rfl, rfl, rfl, rfl, rfl, rfl, rfl, rfl, rfl, ⟨0, rfl, by simp; omega, rfl, hv⟩⟩, ?_⟩
  rintro ⟨i, x⟩ ⟨j, h1, h2, h3, h4⟩
  dsimp only at *
  refine ⟨fun hlt z2 e2 => ?_, fun hge => ?_⟩
  · refine ⟨⟨h4.out.2.1, by decide⟩, fun z3 e3 z4 e4 => ⟨⟨e2 ▸ add_in _ _, by decide⟩, fun z5 e5 z6 e6 => ⟨⟨h4.out.2.2.2, by decide⟩, fun z7 e7 z8 e8 z9 e9 => ?_⟩⟩⟩
    refine ⟨⟨e8 ▸ xor_in _ _, by decide⟩, fun z10 e10 z11 e11 z12 e12 => ⟨⟨e4 ▸ xor_in _ _, by decide⟩, fun z13 e13 z14 e14 => ?_⟩⟩
    refine ⟨⟨e12 ▸ add_in _ _, by decide⟩, fun z15 e15 z16 e16 => ?_⟩
    have hr := rnd_of e2 e3 e4 e5 e6 e7 e8 e9 e10 e11 e12 e13 e14 e15
    have hi := rnd_in h4
    rw [hr] at hi
    obtain ⟨q1, q2, q3⟩ := nxt h1 h2 hn.2 hlt e16
    exact ⟨(z16, (z9, z14, z15, z11)), rfl, rfl, rfl, rfl, rfl, rfl, rfl, rfl, rfl, rfl, ⟨j + 1, q1, q2, by rw [← hr, h3]; rfl, hi⟩, q3⟩
  · have : n.toNat = j := by omega
    unfold U.rn at h
    rw [this, ← h3] at h; exact h
def xW : Cell → Option Int
  | .inr (.inr (.inr (.inr (.inr (.inr (.inl (.u64, z))))))) => some z
  | _ => none
theorem xW_eq {c : Cell} {z : Int} (h : xW c = some z) : c = xintC .u64 z := by
  unfold xW at h
  split at h
  · simp only [Option.some.injEq] at h; subst h; rfl
  · cases h
def xW4 (a b c d : Cell) : Option W4 := match xW a, xW b, xW c, xW d with
  | some a, some b, some c, some d => some (a, b, c, d)
  | _, _, _, _ => none
theorem xW4_eq {a b c d : Cell} {v : W4} (h : xW4 a b c d = some v) : [a, b, c, d] = w4 v := by
  unfold xW4 at h
  split at h
  · rename_i h1 h2 h3 h4
    simp only [Option.some.injEq] at h; subst h
    rw [xW_eq h1, xW_eq h2, xW_eq h3, xW_eq h4]; rfl
  · cases h
def tRnd : Tbl := fun f args σ => if f == 125 then match args, σ with
    | [.inl (.inl (.inr (.inl (0, 0)))), k], ⟨[some ⟨178, [a, b, c, d], none, 4, false⟩], [], 0, [], 0⟩ => match xW4 a b c d, intX k with
      | some v, some (.i64, n) => some fun K => (U.in4 v ∧ 0 ≤ n ∧ n < 100) ∧ ∀ z : W4, z = U.rn v n → K (.inr []) (st4 z)
      | _, _ => none
    | _, _ => none
  else none
theorem tRnd_ok : TblOk Tryz.prog tRnd := by
  intro f tm σ C h K hK
  unfold tRnd at h
  split at h
  · rename_i hf
    obtain rfl : f = 125 := by simpa using hf
    split at h
    · split at h
      · rename_i k a b c d _ _ v n hv hk
        simp only [Option.some.injEq] at h; subst h
        obtain ⟨⟨k1, k2⟩, k3⟩ := hK
        intro w0 e W hW vs hvs
        rw [xW4_eq hv] at hW
        refine knownC noOv names (conOk_of tRot_ok) (rounds_run K v n k1 k2 (k3 _ rfl)) w0 e W hW vs ?_
        obtain ⟨x, y, rfl⟩ : ∃ x y, vs = [x, y] := by
          match vs, map_len hvs with
          | [x, y], _ => exact ⟨x, y, rfl⟩
        simp only [List.map_cons, List.map_nil, List.cons.injEq, and_true] at hvs ⊢
        refine ⟨hvs.1, ?_⟩
        rw [intX_ok hk hvs.2]
        rfl
      · cases h
    · cases h
  · cases h
end Go.Proofs.YthafgapnnmkmhaaGreatDoor
end
section
namespace Go.Proofs.YthafgapnnmkmhaaGreatDoor
open Go Reck
set_option maxRecDepth 100000
set_option linter.unusedVariables false
set_option linter.unusedSimpArgs false
abbrev T6 := W4 × Int × Int
def U.ad (v : W4) (m : Int) : W4 :=
  let r := U.rn (v.1, v.2.1, v.2.2.1, xorI .u64 v.2.2.2 m) 2
  (xorI .u64 r.1 m, r.2.1, r.2.2.1, r.2.2.2)
structure U.W (m : Int) : Prop where
  out : inW m
def tWAdd : Tbl := fun f args σ => if f == 124 then match args, σ with
    | [.inl (.inl (.inr (.inl (0, 0)))), k], ⟨[some ⟨178, [a, b, c, d], none, 4, false⟩], [], 0, [], 0⟩ => match xW4 a b c d, intX k with
      | some v, some (.u64, m) => some fun K => (U.in4 v ∧ U.W m) ∧ ∀ z : W4, z = U.ad v m → K (.inr []) (st4 z)
      | _, _ => none
    | _, _ => none
  else none
def tRRnd : Tbl := fun f args σ => if f == 97 then match args, σ with
    | [.inl (.inr [a, b, c, d]), k], ⟨[], [], 0, [], 0⟩ => match xW4 a b c d, intX k with
      | some v, some (.i64, n) => some fun K => (U.in4 v ∧ 0 ≤ n ∧ n < 100) ∧ ∀ z : W4, z = U.rn v n → K (rowW z) emptySt
      | _, _ => none
    | _, _ => none
  else none
def tstep (s : T6) (c : Int) : T6 :=
  let m := orI .u64 s.2.1 (shlI .u64 c (s.2.2 % 8 * 8))
  if (s.2.2 + 1) % 8 = 0 then (U.ad s.1 m, 0, s.2.2 + 1) else (s.1, m, s.2.2 + 1)
def tfold (s : T6) (l : List Int) : T6 := l.foldl tstep s
structure U.tagI (v0 : W4) (m0 n0 : Int) (L : List Int) (o n : Nat) (k m nn : Int) (v : W4) : Prop where
  out : ∃ j : Nat, k = j ∧ j ≤ n ∧ (v, m, nn) = tfold (v0, m0, n0) (((L.drop o).take n).take j) ∧ U.in4 v ∧ inW m ∧ nn = n0 + j ∧ 0 ≤ n0 ∧ n0 ≤ 10000
def wordFrom (P : List Int) (i : Nat) : Nat → Int
  | 0 => 0
  | t + 1 => wordFrom P i t * 256 + P.getD (8 * i + (7 - t)) 0
structure U.refMI (L : List Int) (o n : Nat) (i : Int) (k m : Int) : Prop where
  out : ∃ t : Nat, k = 7 - t ∧ t ≤ 8 ∧ m = wordFrom ((L.drop o).take n) i.toNat t ∧ 0 ≤ m ∧ m < 256 ^ t
def U.rfold (v0 : W4) (P : List Int) : Nat → W4
  | 0 => v0
  | i + 1 => U.ad (U.rfold v0 P i) (if i = P.length / 8 then IntKind.wrap .u64 (wordFrom P i 8 + ((P.length % 256 : Nat) : Int) * 72057594037927936) else wordFrom P i 8)
structure U.refTI (v0 : W4) (L : List Int) (o n : Nat) (i : Int) (v : W4) : Prop where
  out : ∃ j : Nat, i = j ∧ j ≤ n / 8 + 1 ∧ v = U.rfold v0 ((L.drop o).take n) j ∧ U.in4 v
def blkWat (i : Nat) (σ : St) : W4 := match σ.heap.getD i none with
  | some ⟨_, [a, b, c, d], _, _, _⟩ => (xX a, xX b, xX c, xX d)
  | _ => (0, 0, 0, 0)
def setWat (i : Nat) (x : W4) (σ : St) : St := match σ.heap.getD i none with
  | some ⟨t, _, j, c, z⟩ => ⟨σ.heap.set i (some ⟨t, w4 x, j, c, z⟩), σ.ints, σ.opqs, σ.arrs, σ.junks⟩
  | _ => σ
def ptrAt (tm : List AV) (t : Nat) : Nat := match tm.getD t (lit undef) with
  | .inl (.inl (.inr (.inl (i, _)))) => i
  | _ => 0
def tagInv (c : Code) (tm : List AV) (σ : St) : Inv where
  X := Int × Int × Int × W4
  tags := [0]
  tag _ _ := 0
  J := wrBut [31, 8, 9] c
  val _ x := [(31, xi .i64 x.1), (8, xi .u64 x.2.1), (9, xi .i64 x.2.2.1)]
  st _ x σ' := setWat (ptrAt tm 7) x.2.2.2 σ'
  I _ x := U.tagI (blkWat (ptrAt tm 7) σ) (slotI tm 8) (slotI tm 9) (slotA tm 29 σ) (slotS tm 29).o (slotS tm 29).n x.1 x.2.1 x.2.2.1 x.2.2.2
  m _ x := ((slotS tm 29).n - x.1).toNat
  ren := noRen
def refTInv (c : Code) (tm : List AV) (σ : St) : Inv where
  X := Int × W4
  tags := [0]
  tag _ _ := 0
  J := wrBut [8] c
  val _ x := [(8, xi .i64 x.1)]
  st _ x σ' := setWat (ptrAt tm 7) x.2 σ'
  I _ x := U.refTI (blkWat (ptrAt tm 7) σ) (slotA tm 2 σ) (slotS tm 2).o (slotS tm 2).n x.1 x.2
  m _ x := (1000 - x.1).toNat
  ren := noRen
def refMInv (c : Code) (tm : List AV) (σ : St) : Inv where
  X := Int × Int
  tags := [0]
  tag _ _ := 0
  J := wrBut [10, 9] c
  val _ x := [(10, xi .i64 x.1), (9, xi .u64 x.2)]
  st _ _ σ := σ
  I _ x := U.refMI (slotA tm 2 σ) (slotS tm 2).o (slotS tm 2).n (slotI tm 8) x.1 x.2
  m _ x := (x.1 + 1).toNat
  ren := noRen
def inv6 (c : Code) (tm : List AV) (σ : St) : Option Inv :=
  match tm.length, firstReg c with
  | 74, some 8 => if isAsl (tm.getD 29 (lit undef)) then some (tagInv c tm σ) else none
  | 91, some 3 => if isAsl (tm.getD 2 (lit undef)) then some (refTInv c tm σ) else none
  | 91, some 7 => if isXint (tm.getD 8 (lit undef)) then some (refMInv c tm σ) else none
  | _, _ => none
abbrev runG (tbl : Tbl) (f : Nat) (args : List AV) (σ : St) (K : AV → St → Prop) : Prop := goT Tryz.prog [] (orcOf inv6 tbl) (opMem Tryz.prog) 3000 (.inr (.inr (.inr (.inr f)))) args σ (retC σ K)
theorem add_vc (K:AV→St→Prop) (v:W4) (m:Int):(runG tRnd 124 [ptr0,xi .u64 m] (st4 v) K)=(∀ (z0:Int),z0=xorI IntKind.u64 (Prod.snd (Prod.snd (Prod.snd v))) m→(U.in4 (Prod.fst v,Prod.fst (Prod.snd v),Prod.fst (Prod.snd (Prod.snd v)),z0)∧(0:Int)≤(2:Int)∧(2:Int)<(100:Int))∧∀ (z1:W4),z1=U.rn (Prod.fst v,Prod.fst (Prod.snd v),Prod.fst (Prod.snd (Prod.snd v)),z0) (2:Int)→∀ (z2:Int),z2=xorI IntKind.u64 (Prod.fst z1) m→K (Sum.inr []) { heap := [some { elem := nat_lit 178,cells := [Sum.inr (Sum.inr (Sum.inr (Sum.inr (Sum.inr (Sum.inr (Sum.inl (IntKind.u64,z2))))))),Sum.inr (Sum.inr (Sum.inr (Sum.inr (Sum.inr (Sum.inr (Sum.inl (IntKind.u64,Prod.fst (Prod.snd z1)))))))),Sum.inr (Sum.inr (Sum.inr (Sum.inr (Sum.inr (Sum.inr (Sum.inl (IntKind.u64,Prod.fst (Prod.snd (Prod.snd z1))))))))),Sum.inr (Sum.inr (Sum.inr (Sum.inr (Sum.inr (Sum.inr (Sum.inl (IntKind.u64,Prod.snd (Prod.snd (Prod.snd z1)))))))))],j := none,c := OfNat.ofNat (4:Nat),z := false }],ints := [],opqs := (0:Nat),arrs := [],junks := (0:Nat) }) := by kernel_rfl
theorem rTag_vc (K:AV→St→Prop) (a b:Int) (L:List Int) (o n c cap:Nat) (ro:Bool):(runG tRRnd 70 [xi .u64 a,xi .u64 b,cell (aslC ⟨0,o,n,c⟩)] (ar [bs L cap ro]) K)=(∀ (z0:Int),z0=xorI IntKind.u64 a (8317987319222330741:Int)→∀ (z1:Int),z1=xorI IntKind.u64 b (7237128888997146477:Int)→∀ (z2:Int),z2=xorI IntKind.u64 a (7816392313619706465:Int)→∀ (z3:Int),z3=xorI IntKind.u64 b (8387220255154660723:Int)→(∃ (y4:Int × W4),a=a∧b=b∧(o=o∧n=n∧c=c)∧(0:Int)=Prod.fst y4∧a=a∧z0=z0∧b=b∧z1=z1∧a=a∧z2=z2∧b=b∧z3=z3∧z0=z0∧z1=z1∧z2=z2∧z3=z3∧z0=Prod.fst (Prod.snd y4)∧z1=Prod.fst (Prod.snd (Prod.snd y4))∧z2=Prod.fst (Prod.snd (Prod.snd (Prod.snd y4)))∧z3=Prod.snd (Prod.snd (Prod.snd (Prod.snd y4)))∧(L=L∧cap=cap∧ro=ro)∧U.refTI (z0,z1,z2,z3) L o n (Prod.fst y4) (Prod.snd y4))∧∀ (x5:Int × W4),U.refTI (z0,z1,z2,z3) L o n (Prod.fst x5) (Prod.snd x5)→∀ (z6:Int),z6=(↑n:Int)→¬(8:Int)=(0:Int)∧∀ (z7:Int),z7=IntKind.wrap IntKind.i64 (Int.tdiv z6 (8:Int))→(Prod.fst x5≤z7→(∃ (y8:Int × Int),a=a∧b=b∧(o=o∧n=n∧c=c)∧Prod.fst x5=Prod.fst x5∧(0:Int)=Prod.snd y8∧(7:Int)=Prod.fst y8∧a=a∧z0=z0∧b=b∧z1=z1∧a=a∧z2=z2∧b=b∧z3=z3∧z0=z0∧z1=z1∧z2=z2∧z3=z3∧Prod.fst x5=Prod.fst x5∧(o=o∧n=n∧c=c)∧z6=z6∧z7=z7∧true=true∧Prod.fst (Prod.snd x5)=Prod.fst (Prod.snd x5)∧Prod.fst (Prod.snd (Prod.snd x5))=Prod.fst (Prod.snd (Prod.snd x5))∧Prod.fst (Prod.snd (Prod.snd (Prod.snd x5)))=Prod.fst (Prod.snd (Prod.snd (Prod.snd x5)))∧Prod.snd (Prod.snd (Prod.snd (Prod.snd x5)))=Prod.snd (Prod.snd (Prod.snd (Prod.snd x5)))∧(L=L∧cap=cap∧ro=ro)∧U.refMI L o n (Prod.fst x5) (Prod.fst y8) (Prod.snd y8))∧∀ (x9:Int × Int),U.refMI L o n (Prod.fst x5) (Prod.fst x9) (Prod.snd x9)→((0:Int)≤Prod.fst x9→∀ (z10:Int),z10=IntKind.wrap IntKind.u64 (Prod.snd x9 * (256:Int))→∀ (z11:Int),z11=IntKind.wrap IntKind.i64 ((8:Int) * Prod.fst x5)→∀ (z12:Int),z12=IntKind.wrap IntKind.i64 (z11 + Prod.fst x9)→∀ (z13:Int),z13=(↑n:Int)→(z12<z13→∀ (z14:Int),z14=IntKind.wrap IntKind.i64 ((8:Int) * Prod.fst x5)→∀ (z15:Int),z15=IntKind.wrap IntKind.i64 (z14 + Prod.fst x9)→((0:Int)≤z15∧z15<(↑n:Int))∧∀ (j16:Nat),(↑j16:Int)=(↑o:Int) + z15→j16<List.length L∧∀ (z17:Int),z17=List.getD L j16 (0:Int)→∀ (z18:Int),z18=IntKind.wrap IntKind.u64 z17→∀ (z19:Int),z19=IntKind.wrap IntKind.u64 (z10 + z18)→∀ (z20:Int),z20=IntKind.wrap IntKind.i64 (Prod.fst x9 - (1:Int))→∃ (y21:Int × Int),a=a∧b=b∧(o=o∧n=n∧c=c)∧Prod.fst x5=Prod.fst x5∧z19=Prod.snd y21∧z20=Prod.fst y21∧a=a∧z0=z0∧b=b∧z1=z1∧a=a∧z2=z2∧b=b∧z3=z3∧z0=z0∧z1=z1∧z2=z2∧z3=z3∧Prod.fst x5=Prod.fst x5∧(o=o∧n=n∧c=c)∧z6=z6∧z7=z7∧true=true∧Prod.fst (Prod.snd x5)=Prod.fst (Prod.snd x5)∧Prod.fst (Prod.snd (Prod.snd x5))=Prod.fst (Prod.snd (Prod.snd x5))∧Prod.fst (Prod.snd (Prod.snd (Prod.snd x5)))=Prod.fst (Prod.snd (Prod.snd (Prod.snd x5)))∧Prod.snd (Prod.snd (Prod.snd (Prod.snd x5)))=Prod.snd (Prod.snd (Prod.snd (Prod.snd x5)))∧(L=L∧cap=cap∧ro=ro)∧U.refMI L o n (Prod.fst x5) (Prod.fst y21) (Prod.snd y21)∧Int.toNat (Prod.fst y21 + (1:Int))<Int.toNat (Prod.fst x9 + (1:Int)))∧(¬z12<z13→∀ (z22:Int),z22=IntKind.wrap IntKind.i64 (Prod.fst x9 - (1:Int))→∃ (y23:Int × Int),a=a∧b=b∧(o=o∧n=n∧c=c)∧Prod.fst x5=Prod.fst x5∧z10=Prod.snd y23∧z22=Prod.fst y23∧a=a∧z0=z0∧b=b∧z1=z1∧a=a∧z2=z2∧b=b∧z3=z3∧z0=z0∧z1=z1∧z2=z2∧z3=z3∧Prod.fst x5=Prod.fst x5∧(o=o∧n=n∧c=c)∧z6=z6∧z7=z7∧true=true∧Prod.fst (Prod.snd x5)=Prod.fst (Prod.snd x5)∧Prod.fst (Prod.snd (Prod.snd x5))=Prod.fst (Prod.snd (Prod.snd x5))∧Prod.fst (Prod.snd (Prod.snd (Prod.snd x5)))=Prod.fst (Prod.snd (Prod.snd (Prod.snd x5)))∧Prod.snd (Prod.snd (Prod.snd (Prod.snd x5)))=Prod.snd (Prod.snd (Prod.snd (Prod.snd x5)))∧(L=L∧cap=cap∧ro=ro)∧U.refMI L o n (Prod.fst x5) (Prod.fst y23) (Prod.snd y23)∧Int.toNat (Prod.fst y23 + (1:Int))<Int.toNat (Prod.fst x9 + (1:Int))))∧(¬(0:Int)≤Prod.fst x9→∀ (z24:Int),z24=(↑n:Int)→¬(8:Int)=(0:Int)∧∀ (z25:Int),z25=IntKind.wrap IntKind.i64 (Int.tdiv z24 (8:Int))→(Prod.fst x5=z25→∀ (z26:Int),z26=(↑n:Int)→¬(256:Int)=(0:Int)∧∀ (z27:Int),z27=Int.tmod z26 (256:Int)→∀ (z28:Int),z28=IntKind.wrap IntKind.u64 z27→∀ (z29:Int),z29=IntKind.wrap IntKind.u64 (z28 * (72057594037927936:Int))→∀ (z30:Int),z30=IntKind.wrap IntKind.u64 (Prod.snd x9 + z29)→∀ (z31:Int),z31=xorI IntKind.u64 (Prod.snd (Prod.snd (Prod.snd (Prod.snd x5)))) z30→(U.in4 (Prod.fst (Prod.snd x5),Prod.fst (Prod.snd (Prod.snd x5)),Prod.fst (Prod.snd (Prod.snd (Prod.snd x5))),z31)∧(0:Int)≤(2:Int)∧(2:Int)<(100:Int))∧∀ (z32:W4),z32=U.rn (Prod.fst (Prod.snd x5),Prod.fst (Prod.snd (Prod.snd x5)),Prod.fst (Prod.snd (Prod.snd (Prod.snd x5))),z31) (2:Int)→∀ (z33:Int),z33=xorI IntKind.u64 (Prod.fst z32) z30→∀ (z34:Int),z34=IntKind.wrap IntKind.i64 (Prod.fst x5 + (1:Int))→∃ (y35:Int × W4),a=a∧b=b∧(o=o∧n=n∧c=c)∧z34=Prod.fst y35∧a=a∧z0=z0∧b=b∧z1=z1∧a=a∧z2=z2∧b=b∧z3=z3∧z0=z0∧z1=z1∧z2=z2∧z3=z3∧z33=Prod.fst (Prod.snd y35)∧Prod.fst (Prod.snd z32)=Prod.fst (Prod.snd (Prod.snd y35))∧Prod.fst (Prod.snd (Prod.snd z32))=Prod.fst (Prod.snd (Prod.snd (Prod.snd y35)))∧Prod.snd (Prod.snd (Prod.snd z32))=Prod.snd (Prod.snd (Prod.snd (Prod.snd y35)))∧(L=L∧cap=cap∧ro=ro)∧U.refTI (z0,z1,z2,z3) L o n (Prod.fst y35) (Prod.snd y35)∧Int.toNat ((1000:Int) - Prod.fst y35)<Int.toNat ((1000:Int) - Prod.fst x5))∧(¬Prod.fst x5=z25→∀ (z36:Int),z36=xorI IntKind.u64 (Prod.snd (Prod.snd (Prod.snd (Prod.snd x5)))) (Prod.snd x9)→(U.in4 (Prod.fst (Prod.snd x5),Prod.fst (Prod.snd (Prod.snd x5)),Prod.fst (Prod.snd (Prod.snd (Prod.snd x5))),z36)∧(0:Int)≤(2:Int)∧(2:Int)<(100:Int))∧∀ (z37:W4),z37=U.rn (Prod.fst (Prod.snd x5),Prod.fst (Prod.snd (Prod.snd x5)),Prod.fst (Prod.snd (Prod.snd (Prod.snd x5))),z36) (2:Int)→∀ (z38:Int),z38=xorI IntKind.u64 (Prod.fst z37) (Prod.snd x9)→∀ (z39:Int),z39=IntKind.wrap IntKind.i64 (Prod.fst x5 + (1:Int))→∃ (y40:Int × W4),a=a∧b=b∧(o=o∧n=n∧c=c)∧z39=Prod.fst y40∧a=a∧z0=z0∧b=b∧z1=z1∧a=a∧z2=z2∧b=b∧z3=z3∧z0=z0∧z1=z1∧z2=z2∧z3=z3∧z38=Prod.fst (Prod.snd y40)∧Prod.fst (Prod.snd z37)=Prod.fst (Prod.snd (Prod.snd y40))∧Prod.fst (Prod.snd (Prod.snd z37))=Prod.fst (Prod.snd (Prod.snd (Prod.snd y40)))∧Prod.snd (Prod.snd (Prod.snd z37))=Prod.snd (Prod.snd (Prod.snd (Prod.snd y40)))∧(L=L∧cap=cap∧ro=ro)∧U.refTI (z0,z1,z2,z3) L o n (Prod.fst y40) (Prod.snd y40)∧Int.toNat ((1000:Int) - Prod.fst y40)<Int.toNat ((1000:Int) - Prod.fst x5))))∧(¬Prod.fst x5≤z7→∀ (z41:Int),z41=xorI IntKind.u64 (Prod.fst (Prod.snd (Prod.snd (Prod.snd x5)))) (255:Int)→(U.in4 (Prod.fst (Prod.snd x5),Prod.fst (Prod.snd (Prod.snd x5)),z41,Prod.snd (Prod.snd (Prod.snd (Prod.snd x5))))∧(0:Int)≤(4:Int)∧(4:Int)<(100:Int))∧∀ (z42:W4),z42=U.rn (Prod.fst (Prod.snd x5),Prod.fst (Prod.snd (Prod.snd x5)),z41,Prod.snd (Prod.snd (Prod.snd (Prod.snd x5)))) (4:Int)→∀ (z43:Int),z43=xorI IntKind.u64 (Prod.fst z42) (Prod.fst (Prod.snd z42))→∀ (z44:Int),z44=xorI IntKind.u64 z43 (Prod.fst (Prod.snd (Prod.snd z42)))→∀ (z45:Int),z45=xorI IntKind.u64 z44 (Prod.snd (Prod.snd (Prod.snd z42)))→K (Sum.inl (Sum.inl (Sum.inr (Sum.inr (Sum.inr (Sum.inr (Sum.inr (Sum.inr (Sum.inl (IntKind.u64,z45)))))))))) { heap := [],ints := [],opqs := (0:Nat),arrs := [some { elem := OfNat.ofNat (5:Nat),k := AK.n IntKind.u8,l := L,cap := cap,ro := ro }],junks := (0:Nat) })) := by kernel_rfl
end Go.Proofs.YthafgapnnmkmhaaGreatDoor
end
section
set_option linter.unusedVariables false
set_option linter.unusedSimpArgs false
set_option maxRecDepth 10000
namespace Go.Proofs.YthafgapnnmkmhaaGreatDoor
open Go Reck
theorem or_in (a b : Int) : inW (orI .u64 a b) := by
  unfold inW orI
  rw [show ∀ n, IntKind.wrap .u64 n = n % 18446744073709551616 from wrapU]; omega
theorem ad_in {v : W4} (h : U.in4 v) (m : Int) : U.in4 (U.ad v m) := by
  have h1 : U.in4 (U.rn (v.1, v.2.1, v.2.2.1, xorI .u64 v.2.2.2 m) 2) := rndN_in (v := (v.1, v.2.1, v.2.2.1, xorI .u64 v.2.2.2 m)) ⟨h.out.1, h.out.2.1, h.out.2.2.1, xor_in _ _⟩ 2
  exact ⟨xor_in _ _, h1.out.2.1, h1.out.2.2.1, h1.out.2.2.2⟩
theorem wadd_run (K : AV → St → Prop) (v : W4) (m : Int) (hv : U.in4 v) (h : K (.inr []) (st4 (U.ad v m))) : runG tRnd 124 [ptr0, xi .u64 m] (st4 v) K := by
  rw [add_vc]
  intro z0 e0
  refine ⟨⟨⟨hv.out.1, hv.out.2.1, hv.out.2.2.1, e0 ▸ xor_in _ _⟩, by decide⟩, fun z1 e1 z2 e2 => ?_⟩
  have : U.ad v m = (z2, z1.2.1, z1.2.2.1, z1.2.2.2) := by rw [e2, e1, e0]; rfl
  rw [this] at h; exact h
theorem tWAdd_ok : TblOk Tryz.prog tWAdd := by
  intro f tm σ C h K hK
  unfold tWAdd at h
  split at h
  · rename_i hf
    obtain rfl : f = 124 := by simpa using hf
    split at h
    · split at h
      · rename_i k a b c d _ _ v n hv hk
        simp only [Option.some.injEq] at h; subst h
        obtain ⟨⟨k1, k2⟩, k3⟩ := hK
        intro w0 e W hW vs hvs
        rw [xW4_eq hv] at hW
        refine knownC noOv names (conOk_of tRnd_ok) (wadd_run K v n k1 (k3 _ rfl)) w0 e W hW vs ?_
        obtain ⟨x, y, rfl⟩ : ∃ x y, vs = [x, y] := by
          match vs, map_len hvs with
          | [x, y], _ => exact ⟨x, y, rfl⟩
        simp only [List.map_cons, List.map_nil, List.cons.injEq, and_true] at hvs ⊢
        refine ⟨hvs.1, ?_⟩
        rw [intX_ok hk hvs.2]
        rfl
      · cases h
    · cases h
  · cases h
theorem tRRnd_ok : TblOk Tryz.prog tRRnd := by
  intro f tm σ C h K hK
  unfold tRRnd at h
  split at h
  · rename_i hf
    obtain rfl : f = 97 := by simpa using hf
    split at h
    · split at h
      · rename_i a b c d k _ _ v n hv hk
        simp only [Option.some.injEq] at h; subst h
        obtain ⟨⟨k1, k2⟩, k3⟩ := hK
        intro w0 e W hW vs hvs
        rw [xW4_eq hv] at hvs
        refine knownC noOv names (conOk_of tRot_ok) (rRounds_run K v n k1 k2 (k3 _ rfl)) w0 e W hW vs ?_
        obtain ⟨x, y, rfl⟩ : ∃ x y, vs = [x, y] := by
          match vs, map_len hvs with
          | [x, y], _ => exact ⟨x, y, rfl⟩
        simp only [List.map_cons, List.map_nil, List.cons.injEq, and_true] at hvs ⊢
        refine ⟨hvs.1, ?_⟩
        rw [intX_ok hk hvs.2]
        rfl
      · cases h
    · cases h
  · cases h
theorem tfold_snoc (s : T6) (l : List Int) (c : Int) : tfold s (l ++ [c]) = tstep (tfold s l) c := by simp [tfold]
def initW (a b : Int) : W4 := (xorI .u64 a 8317987319222330741, xorI .u64 b 7237128888997146477, xorI .u64 a 7816392313619706465, xorI .u64 b 8387220255154660723)
def finW (v : W4) : Int :=
  let r := U.rn (v.1, v.2.1, xorI .u64 v.2.2.1 255, v.2.2.2) 4
  xorI .u64 (xorI .u64 (xorI .u64 r.1 r.2.1) r.2.2.1) r.2.2.2
def lastM (s : T6) : Int := orI .u64 s.2.1 (shlI .u64 s.2.2 56)
def U.T (a b : Int) (L : List Int) (o n : Nat) : Int :=
  finW (U.ad (tfold (initW a b, 0, 0) ((L.drop o).take n)).1 (lastM (tfold (initW a b, 0, 0) ((L.drop o).take n))))
theorem tagI_zero (v0 : W4) (m0 n0 : Int) (L : List Int) (o n : Nat) (hv : U.in4 v0) (hm : inW m0) (hn : 0 ≤ n0 ∧ n0 ≤ 10000) : U.tagI v0 m0 n0 L o n 0 m0 n0 v0 :=
  ⟨0, rfl, Nat.zero_le _, rfl, hv, hm, by omega, hn⟩
theorem tagI_next {v0 v : W4} {m0 n0 : Int} {L : List Int} {o n : Nat} {k m nn k' : Int} {v' : W4} {m' n' : Int} (hI : U.tagI v0 m0 n0 L o n k m nn v) (hl : o + n ≤ L.length) (hn : n ≤ 300) (hk : k < n) {j : Nat} (hj : (j : Int) = o + k) (hk' : k' = k + 1)
    (hs : tstep (v, m, nn) (L.getD j 0) = (v', m', n')) (hv : U.in4 v') (hm : inW m') (hn' : n' = nn + 1) : U.tagI v0 m0 n0 L o n k' m' n' v' := by
  obtain ⟨i, h1, h2, h3, h4, h5, h6, h7⟩ := hI
  have hlen := sub_len L o n hl
  have hji : j = o + i := by omega
  refine ⟨i + 1, by rw [hk', h1]; simp, by omega, ?_, hv, hm, by push_cast; omega, h7⟩
  rw [take_get (by omega), tfold_snoc, ← h3, sub_get L o n i hl (by omega), ← hji, hs]
theorem tstep_of {v : W4} {m nn c z9 z10 z11 z12 z13 z14 z15 : Int} (hc : 0 ≤ c ∧ c ≤ 255) (hnn : 0 ≤ nn ∧ nn ≤ 10400) (e9 : z9 = IntKind.wrap .u64 c) (e10 : z10 = Int.tmod nn 8) (e11 : z11 = IntKind.wrap .i64 (z10 * 8)) (e12 : z12 = shlI .u64 z9 z11) (e13 : z13 = orI .u64 m z12)
    (e14 : z14 = IntKind.wrap .i64 (nn + 1)) (e15 : z15 = Int.tmod z14 8) : 0 ≤ z11 ∧ z14 = nn + 1 ∧ (z15 = 0 → tstep (v, m, nn) c = (U.ad v z13, 0, z14)) ∧ (¬ z15 = 0 → tstep (v, m, nn) c = (v, z13, z14)) ∧ inW z13 := by
  have e9 := wu64 e9 (by omega)
  rw [Int.tmod_eq_emod_of_nonneg (by omega)] at e10
  have e11 := w64 e11 (by omega)
  have e14 := w64 e14 (by omega)
  rw [Int.tmod_eq_emod_of_nonneg (by omega)] at e15
  have em : z13 = orI .u64 m (shlI .u64 c (nn % 8 * 8)) := by rw [e13, e12, e9, e11, e10]
  refine ⟨by omega, e14, fun h => ?_, fun h => ?_, e13 ▸ or_in _ _⟩
  · unfold tstep
    have : (nn + 1) % 8 = 0 := by omega
    simp only [this, if_true]; rw [← em, e14]
  · unfold tstep
    have : ¬ (nn + 1) % 8 = 0 := by omega
    simp only [this, if_false]; rw [← em, e14]
end Go.Proofs.YthafgapnnmkmhaaGreatDoor
end
section
set_option linter.unusedVariables false
set_option linter.unusedSimpArgs false
set_option maxRecDepth 10000
namespace Go.Proofs.YthafgapnnmkmhaaGreatDoor
open Go Reck
theorem getD_sub (L : List Int) (o n k : Nat) (hl : o + n ≤ L.length) : ((L.drop o).take n).getD k 0 = if k < n then L.getD (o + k) 0 else 0 := by
  by_cases h : k < n
  · rw [if_pos h, sub_get L o n k hl h]
  · rw [if_neg h]
    have := sub_len L o n hl
    rw [List.getD_eq_getElem?_getD, List.getElem?_eq_none (by omega)]; rfl
theorem pow8 (t : Nat) (h : t < 8) : (256 : Int) ^ t ≤ 72057594037927936 ∧ (1 : Int) ≤ 256 ^ t := by
  have : ∀ t : Fin 8, (256 : Int) ^ (t.val) ≤ 72057594037927936 ∧ (1 : Int) ≤ 256 ^ t.val := by decide
  exact this ⟨t, h⟩
theorem refMI_next {L : List Int} {o n : Nat} {i k m k' m' : Int} (hI : U.refMI L o n i k m) (hl : o + n ≤ L.length) (hb : byteL L) (hi : 0 ≤ i) (hk : 0 ≤ k) (hk' : k' = k - 1) (hm : m' = m * 256 + (if 8 * i + k < n then L.getD (o + (8 * i + k).toNat) 0 else 0)) : U.refMI L o n i k' m' := by
  obtain ⟨t, h1, h2, h3, h4, h5⟩ := hI
  have hp := pow8 t (by omega)
  have hc := byteL_get hb (o + (8 * i + k).toNat)
  refine ⟨t + 1, by push_cast; omega, by omega, ?_, ?_, ?_⟩
  · show _ = wordFrom _ _ t * 256 + _
    rw [getD_sub L o n _ hl, hm, h3, show 8 * i.toNat + (7 - t) = (8 * i + k).toNat by omega]
    congr 1
    by_cases h : 8 * i + k < n
    · rw [if_pos h, if_pos (by omega)]
    · rw [if_neg h, if_neg (by omega)]
  · split at hm <;> omega
  · rw [Int.pow_succ]
    generalize (256 : Int) ^ t = p at *
    split at hm <;> omega
theorem refMI_small {L : List Int} {o n : Nat} {i k m : Int} (hI : U.refMI L o n i k m) (hk : 0 ≤ k) : 0 ≤ m ∧ m ≤ 72057594037927935 := by
  obtain ⟨t, h1, h2, h3, h4, h5⟩ := hI
  have hp := pow8 t (by omega)
  generalize (256 : Int) ^ t = p at *
  omega
theorem refMI_end {L : List Int} {o n : Nat} {i k m : Int} (hI : U.refMI L o n i k m) (hk : ¬ 0 ≤ k) : m = wordFrom ((L.drop o).take n) i.toNat 8 := by
  obtain ⟨t, h1, h2, h3, h4, h5⟩ := hI
  obtain rfl : t = 8 := by omega
  exact h3
def U.RT (a b : Int) (L : List Int) (o n : Nat) : Int := finW (U.rfold (initW a b) ((L.drop o).take n) (n / 8 + 1))
theorem refTI_next {v0 v : W4} {L : List Int} {o n : Nat} {i m i' : Int} {v' : W4} (hI : U.refTI v0 L o n i v) (hl : o + n ≤ L.length) (hle : i ≤ n / 8) (hi : i' = i + 1)
    (hm : m = if i.toNat = n / 8 then IntKind.wrap .u64 (wordFrom ((L.drop o).take n) i.toNat 8 + ((n % 256 : Nat) : Int) * 72057594037927936) else wordFrom ((L.drop o).take n) i.toNat 8) (hv : v' = U.ad v m) : U.refTI v0 L o n i' v' := by
  obtain ⟨j, h1, h2, h3, h4⟩ := hI
  refine ⟨j + 1, by rw [hi, h1]; simp, by omega, ?_, hv ▸ ad_in h4 _⟩
  show v' = U.ad (U.rfold v0 _ j) _
  rw [← h3, hv, hm, sub_len L o n hl, h1, Int.toNat_natCast]
theorem rTag_run (K : AV → St → Prop) (a b : Int) (L : List Int) (o n c cap : Nat) (ro : Bool) (hb : byteL L) (hl : o + n ≤ L.length) (hn : n ≤ 900)
    (h : K (xi .u64 (U.RT a b L o n)) (ar [bs L cap ro])) : runG tRRnd 70 [xi .u64 a, xi .u64 b, cell (aslC ⟨0, o, n, c⟩)] (ar [bs L cap ro]) K := by
  rw [rTag_vc]
  intro z0 e0 z1 e1 z2 e2 z3 e3
  have hini : (z0, z1, z2, z3) = initW a b := by rw [e0, e1, e2, e3]; rfl
  have hv0 : U.in4 (z0, z1, z2, z3) := ⟨e0 ▸ xor_in _ _, e1 ▸ xor_in _ _, e2 ▸ xor_in _ _, e3 ▸ xor_in _ _⟩
  clear e0 e1 e2 e3
  refine ⟨⟨(0, (z0, z1, z2, z3)), ?_⟩, ?_⟩
  · simp only [and_self, true_and]; exact ⟨0, rfl, by omega, rfl, hv0⟩
  rintro ⟨i, v⟩ hI
  dsimp only at hI ⊢
  obtain ⟨j, h1, h2, h3, h4⟩ := id hI
  intro z6 e6
  refine ⟨by decide, fun z7 e7 => ?_⟩
  have e7 := w64 e7 (by rw [e6, Int.tdiv_eq_ediv_of_nonneg (by omega)]; omega)
  rw [e6, Int.tdiv_eq_ediv_of_nonneg (by omega)] at e7
  refine ⟨fun hle => ⟨⟨(7, 0), ?_⟩, ?_⟩, fun hgt z41 e41 => ?_⟩
  · simp only [and_self, true_and]; exact ⟨0, by simp, by omega, rfl, by decide, by decide⟩
  · rintro ⟨k, m⟩ hM
    dsimp only at hM ⊢
    refine ⟨fun hk z10 e10 z11 e11 z12 e12 z13 e13 => ?_, fun hk z24 e24 => ⟨by decide, fun z25 e25 => ?_⟩⟩
    · have hs := refMI_small hM hk
      have hk7 : k ≤ 7 := by obtain ⟨t, t1, _⟩ := hM; omega
      have e10 := wu64 e10 (by omega)
      have e11 := w64 e11 (by omega)
      have e12 := w64 e12 (by omega)
      refine ⟨fun hlt z14 e14 z15 e15 => ?_, fun hge z22 e22 => ⟨(z22, z10), ?_⟩⟩
      · have e14 := w64 e14 (by omega)
        have e15 := w64 e15 (by omega)
        refine ⟨by omega, fun j16 hj => ⟨by omega, fun z17 e17 z18 e18 z19 e19 z20 e20 => ⟨(z20, z19), ?_⟩⟩⟩
        have hc := byteL_get hb j16
        rw [← e17] at hc
        have e18 := wu64 e18 (by omega)
        have e19 := wu64 e19 (by omega)
        have e20 := w64 e20 (by omega)
        simp only [and_self, true_and]
        refine ⟨refMI_next hM hl hb (by omega) hk e20 ?_, by omega⟩
        rw [if_pos (by omega), e19, e10, e18, e17, show o + (8 * i + k).toNat = j16 by omega]
      · have e22 := w64 e22 (by omega)
        simp only [and_self, true_and]
        refine ⟨refMI_next hM hl hb (by omega) hk e22 ?_, by omega⟩
        rw [if_neg (by omega), e10]; omega
    · have e25 := w64 e25 (by rw [e24, Int.tdiv_eq_ediv_of_nonneg (by omega)]; omega)
      rw [e24, Int.tdiv_eq_ediv_of_nonneg (by omega)] at e25
      have hm := refMI_end hM hk
      have hm2 : 0 ≤ m := by obtain ⟨t, _, _, _, t4, _⟩ := hM; exact t4
      refine ⟨fun he z26 e26 => ⟨by decide, fun z27 e27 z28 e28 z29 e29 z30 e30 z31 e31 => ?_⟩, fun hne z36 e36 => ?_⟩
      · refine ⟨⟨⟨h4.out.1, h4.out.2.1, h4.out.2.2.1, e31 ▸ xor_in _ _⟩, by decide⟩, fun z32 e32 z33 e33 z34 e34 => ⟨(z34, (z33, z32.2.1, z32.2.2.1, z32.2.2.2)), ?_⟩⟩
        simp only [and_self, true_and]
        have e34 := w64 e34 (by omega)
        rw [e26, Int.tmod_eq_emod_of_nonneg (by omega)] at e27
        have e28 := wu64 e28 (by omega)
        have e29 := wu64 e29 (by omega)
        refine ⟨refTI_next hI hl (by omega) e34 (m := z30) ?_ ?_, by omega⟩
        · rw [if_pos (by omega), e30, hm, e29, e28, e27]; push_cast; rfl
        · rw [e33, e32, e31]; rfl
      · refine ⟨⟨⟨h4.out.1, h4.out.2.1, h4.out.2.2.1, e36 ▸ xor_in _ _⟩, by decide⟩, fun z37 e37 z38 e38 z39 e39 => ⟨(z39, (z38, z37.2.1, z37.2.2.1, z37.2.2.2)), ?_⟩⟩
        simp only [and_self, true_and]
        have e39 := w64 e39 (by omega)
        refine ⟨refTI_next hI hl (by omega) e39 (m := m) ?_ ?_, by omega⟩
        · rw [if_neg (by omega), hm]
        · rw [e38, e37, e36]; rfl
  · refine ⟨⟨⟨h4.out.1, h4.out.2.1, e41 ▸ xor_in _ _, h4.out.2.2.2⟩, by decide⟩, fun z42 e42 z43 e43 z44 e44 z45 e45 => ?_⟩
    have e : U.RT a b L o n = z45 := by
      unfold U.RT
      rw [← hini, show n / 8 + 1 = j by omega, ← h3, e45, e44, e43, e42, e41]; rfl
    rw [e] at h; exact h
end Go.Proofs.YthafgapnnmkmhaaGreatDoor
end
section
set_option linter.unusedVariables false
set_option linter.unusedSimpArgs false
set_option maxRecDepth 10000
namespace Go.Proofs.YthafgapnnmkmhaaGreatDoor
open Go Reck
def pw (P : List Int) (i : Nat) : Nat → Int
  | 0 => 0
  | r + 1 => pw P i r + P.getD (8 * i + r) 0 * 256 ^ r
theorem pw_in {P : List Int} (hb : byteL P) (i r : Nat) : 0 ≤ pw P i r ∧ pw P i r < 256 ^ r := by
  induction r with
  | zero => exact ⟨Int.le_refl _, by show (0 : Int) < 1; decide⟩
  | succ r ih =>
    have hc := byteL_get hb (8 * i + r)
    rw [Int.pow_succ]
    show 0 ≤ pw P i r + P.getD (8 * i + r) 0 * 256 ^ r ∧ pw P i r + P.getD (8 * i + r) 0 * 256 ^ r < _
    have h0 : (0 : Int) ≤ 256 ^ r := Int.pow_nonneg (by decide)
    have h1 : 0 ≤ P.getD (8 * i + r) 0 * 256 ^ r := Int.mul_nonneg hc.1 h0
    have h2 : P.getD (8 * i + r) 0 * 256 ^ r ≤ 255 * 256 ^ r := Int.mul_le_mul_of_nonneg_right hc.2 h0
    omega
theorem word_pw (P : List Int) (i : Nat) : wordFrom P i 8 = pw P i 8 := by
  simp only [wordFrom, pw, Nat.reduceSub, Nat.reduceAdd, Nat.add_zero]
  omega
theorem pw_const {P : List Int} (i r : Nat) (h : P.length ≤ 8 * i + r) : ∀ s, pw P i (r + s) = pw P i r := by
  intro s
  induction s with
  | zero => rfl
  | succ s ih =>
    show pw P i (r + s) + P.getD (8 * i + (r + s)) 0 * 256 ^ (r + s) = _
    rw [ih, List.getD_eq_getElem?_getD, List.getElem?_eq_none (by omega)]; simp
theorem or_add {a b : Int} (s : Nat) (ha : 0 ≤ a ∧ a < 2 ^ s) (hb : 0 ≤ b) (h : b * 2 ^ s ≤ 18446744073709551615) (ha2 : a ≤ 18446744073709551615) : orI .u64 a (b * 2 ^ s) = a + b * 2 ^ s := by
  obtain ⟨x, rfl⟩ : ∃ x : Nat, a = x := ⟨a.toNat, by omega⟩
  obtain ⟨y, rfl⟩ : ∃ y : Nat, b = y := ⟨b.toNat, by omega⟩
  have e : ((y : Int) * 2 ^ s) = ((y * 2 ^ s : Nat) : Int) := by push_cast; rfl
  have hx : x < 2 ^ s := by have := ha.2; exact_mod_cast this
  rw [e] at h ⊢
  rw [or_nat x _ (by omega) (by omega)]
  have := Nat.shiftLeft_add_eq_or_of_lt hx y
  rw [Nat.shiftLeft_eq, Nat.or_comm] at this
  rw [← this]; push_cast; omega
theorem pow_256 (r : Nat) : (256 : Int) ^ r = 2 ^ (8 * r) := by rw [Int.pow_mul]; rfl
theorem part_step {P : List Int} (hb : byteL P) (v : W4) (i r : Nat) (hr : r < 8) : tstep (v, pw P i r, ((8 * i + r : Nat) : Int)) (P.getD (8 * i + r) 0) = if r = 7 then (U.ad v (pw P i 8), 0, ((8 * i + 8 : Nat) : Int)) else (v, pw P i (r + 1), ((8 * i + (r + 1) : Nat) : Int)) := by
  have hc := byteL_get hb (8 * i + r)
  have hp := pw_in hb i r
  have hp8 := pow8 r hr
  have hsh : shlI .u64 (P.getD (8 * i + r) 0) (((8 * i + r : Nat) : Int) % 8 * 8) = P.getD (8 * i + r) 0 * 256 ^ r := by
    unfold shlI
    rw [show ((((8 * i + r : Nat) : Int) % 8 * 8).toNat) = 8 * r by omega, show min (8 * r) (IntKind.bits .u64) = 8 * r from Nat.min_eq_left (by show 8 * r ≤ 64; omega), ← pow_256, wrapU]
    have h0 : (0 : Int) ≤ P.getD (8 * i + r) 0 * 256 ^ r := Int.mul_nonneg hc.1 (by omega)
    have h2 : P.getD (8 * i + r) 0 * 256 ^ r ≤ 255 * 256 ^ r := Int.mul_le_mul_of_nonneg_right hc.2 (by omega)
    omega
  have hor : orI .u64 (pw P i r) (shlI .u64 (P.getD (8 * i + r) 0) (((8 * i + r : Nat) : Int) % 8 * 8)) = pw P i (r + 1) := by
    rw [hsh]
    have h2 : P.getD (8 * i + r) 0 * 256 ^ r ≤ 255 * 256 ^ r := Int.mul_le_mul_of_nonneg_right hc.2 (by omega)
    have := or_add (8 * r) (a := pw P i r) (b := P.getD (8 * i + r) 0) (by rw [← pow_256]; exact hp) hc.1 (by rw [← pow_256]; omega) (by omega)
    rw [← pow_256] at this
    rw [this]; rfl
  unfold tstep
  simp only
  rw [hor]
  by_cases h7 : r = 7
  · subst h7
    rw [if_pos (by omega), if_pos rfl]
    congr 2
  · rw [if_neg (by omega), if_neg h7]
    congr 2
theorem part {P : List Int} (hb : byteL P) (v : W4) (i : Nat) : ∀ r, r < 8 → 8 * i + r ≤ P.length → ∀ l, tfold (v, 0, ((8 * i : Nat) : Int)) (((P.drop (8 * i)).take r) ++ l) = tfold (v, pw P i r, ((8 * i + r : Nat) : Int)) l := by
  intro r
  induction r with
  | zero => intro _ _ l; rfl
  | succ r ih =>
    intro hr hl l
    rw [take_get (by simp; omega), List.append_assoc, ih (by omega) (by omega)]
    have hg : (P.drop (8 * i)).getD r 0 = P.getD (8 * i + r) 0 := by simp [List.getD, List.getElem?_drop]
    rw [hg]
    show tfold (tstep _ _) l = _
    rw [part_step hb v i r (by omega), if_neg (by omega)]
theorem whole {P : List Int} (hb : byteL P) (v : W4) (i : Nat) (h : 8 * i + 8 ≤ P.length) : tfold (v, 0, ((8 * i : Nat) : Int)) ((P.drop (8 * i)).take 8) = (U.ad v (pw P i 8), 0, ((8 * i + 8 : Nat) : Int)) := by
  rw [take_get (by simp; omega), part hb v i 7 (by omega) (by omega)]
  have hg : (P.drop (8 * i)).getD 7 0 = P.getD (8 * i + 7) 0 := by simp [List.getD, List.getElem?_drop]
  rw [hg]
  show tstep _ _ = _
  rw [part_step hb v i 7 (by omega), if_pos rfl]
theorem words {P : List Int} (hb : byteL P) (v : W4) : ∀ i, i ≤ P.length / 8 → tfold (v, 0, 0) (P.take (8 * i)) = (U.rfold v P i, 0, ((8 * i : Nat) : Int)) := by
  intro i
  induction i with
  | zero => intro _; rfl
  | succ i ih =>
    intro h
    have e : P.take (8 * (i + 1)) = P.take (8 * i) ++ (P.drop (8 * i)).take 8 := by
      rw [show 8 * (i + 1) = 8 * i + 8 by omega, List.take_add]
    have : tfold (v, 0, 0) (P.take (8 * (i + 1))) = tfold (tfold (v, 0, 0) (P.take (8 * i))) ((P.drop (8 * i)).take 8) := by rw [e]; simp [tfold]
    rw [this, ih (by omega), whole hb _ i (by omega)]
    show _ = (U.ad _ _, _, _)
    rw [if_neg (by omega), word_pw]
    congr 2
theorem tag_eq (a b : Int) (L : List Int) (o n : Nat) (hb : byteL L) (hl : o + n ≤ L.length) (hn : n ≤ 900) : U.T a b L o n = U.RT a b L o n := by
  unfold U.T U.RT
  have hlen := sub_len L o n hl
  have hB := byteL_sub hb o n
  generalize (L.drop o).take n = P at *
  generalize initW a b = v
  have e : P = P.take (8 * (n / 8)) ++ ((P.drop (8 * (n / 8))).take (n % 8) ++ []) := by
    rw [List.append_nil, List.take_of_length_le (l := P.drop _) (by simp; omega), List.take_append_drop]
  have hf : tfold (v, 0, 0) P = (U.rfold v P (n / 8), pw P (n / 8) (n % 8), (n : Int)) := by
    have h1 : tfold (v, 0, 0) P = tfold (tfold (v, 0, 0) (P.take (8 * (n / 8)))) ((P.drop (8 * (n / 8))).take (n % 8) ++ []) := by
      conv => lhs; rw [e]
      simp only [tfold, List.foldl_append]
    rw [h1, words hB v _ (by omega), part hB _ (n / 8) (n % 8) (by omega) (by omega)]
    show (_, _, _) = _
    rw [show 8 * (n / 8) + n % 8 = n by omega]
  rw [hf]
  show finW (U.ad _ (lastM (_, _, _))) = finW (U.ad (U.rfold v P (n / 8)) _)
  rw [if_pos (by omega)]
  congr 2
  unfold lastM
  dsimp only
  have hp := pw_in hB (n / 8) (n % 8)
  have hp8 := pow8 (n % 8) (by omega)
  have hw : wordFrom P (n / 8) 8 = pw P (n / 8) (n % 8) := by
    rw [word_pw]
    have := pw_const (P := P) (n / 8) (n % 8) (by omega) (8 - n % 8)
    rw [show n % 8 + (8 - n % 8) = 8 by omega] at this
    exact this
  have hs : shlI .u64 (n : Int) 56 = ((n % 256 : Nat) : Int) * 2 ^ 56 := by
    unfold shlI
    rw [show min (Int.toNat 56) (IntKind.bits .u64) = 56 from rfl, wrapU]; omega
  have h7 : pw P (n / 8) (n % 8) < 2 ^ 56 := by have : (2 : Int) ^ 56 = 72057594037927936 := rfl; omega
  rw [hs, or_add 56 ⟨hp.1, h7⟩ (by omega) (by omega) (by omega), hw, hlen, wrapU]
  omega
end Go.Proofs.YthafgapnnmkmhaaGreatDoor
end
section
namespace Go.Proofs.YthafgapnnmkmhaaGreatDoor
open Go Reck
set_option maxRecDepth 100000
set_option linter.unusedVariables false
set_option linter.unusedSimpArgs false
structure P3 where
  o : Nat
  n : Nat
  c : Nat
  cap : Nat
  ro : Bool
  L : List Int
def st3 (p q r : P3) : St := ⟨[some ⟨121, [aslC ⟨0, p.o, p.n, p.c⟩, aslC ⟨1, q.o, q.n, q.c⟩, aslC ⟨2, r.o, r.n, r.c⟩], none, 3, false⟩], [], 0, [some (bs p.L p.cap p.ro), some (bs q.L q.cap q.ro), some (bs r.L r.cap r.ro)], 0⟩
theorem tagP_vc (K:AV→St→Prop) (a b:Int) (p q r:P3):(runG (tblOr tWAdd tRnd) 101 [xi .u64 a,xi .u64 b,sl ⟨0,0,3,none,3⟩] (st3 p q r) K)=(∀ (z0:Int),z0=xorI IntKind.u64 a (8317987319222330741:Int)→∀ (z1:Int),z1=xorI IntKind.u64 b (7237128888997146477:Int)→∀ (z2:Int),z2=xorI IntKind.u64 a (7816392313619706465:Int)→∀ (z3:Int),z3=xorI IntKind.u64 b (8387220255154660723:Int)→∀ (z4:Int),z4=(↑p.2:Int)→(∃ (y5:Int × Int × Int × W4),a=a∧b=b∧(0:Int)=Prod.fst (Prod.snd y5)∧(0:Int)=Prod.fst (Prod.snd (Prod.snd y5))∧(p.1=p.1∧p.2=p.2∧p.3=p.3)∧a=a∧z0=z0∧b=b∧z1=z1∧a=a∧z2=z2∧b=b∧z3=z3∧z0=z0∧z1=z1∧z2=z2∧z3=z3∧true=true∧(p.1=p.1∧p.2=p.2∧p.3=p.3)∧(p.1=p.1∧p.2=p.2∧p.3=p.3)∧z4=z4∧(0:Int)=Prod.fst y5∧(p.1=p.1∧p.2=p.2∧p.3=p.3)∧(q.1=q.1∧q.2=q.2∧q.3=q.3)∧(r.1=r.1∧r.2=r.2∧r.3=r.3)∧z0=Prod.fst (Prod.snd (Prod.snd (Prod.snd y5)))∧z1=Prod.fst (Prod.snd (Prod.snd (Prod.snd (Prod.snd y5))))∧z2=Prod.fst (Prod.snd (Prod.snd (Prod.snd (Prod.snd (Prod.snd y5)))))∧z3=Prod.snd (Prod.snd (Prod.snd (Prod.snd (Prod.snd (Prod.snd y5)))))∧(p.6=p.6∧p.4=p.4∧p.5=p.5)∧(q.6=q.6∧q.4=q.4∧q.5=q.5)∧(r.6=r.6∧r.4=r.4∧r.5=r.5)∧U.tagI (z0,z1,z2,z3) (0:Int) (0:Int) p.6 p.1 p.2 (Prod.fst y5) (Prod.fst (Prod.snd y5)) (Prod.fst (Prod.snd (Prod.snd y5))) (Prod.snd (Prod.snd (Prod.snd y5))))∧∀ (x6:Int × Int × Int × W4),U.tagI (z0,z1,z2,z3) (0:Int) (0:Int) p.6 p.1 p.2 (Prod.fst x6) (Prod.fst (Prod.snd x6)) (Prod.fst (Prod.snd (Prod.snd x6))) (Prod.snd (Prod.snd (Prod.snd x6)))→(Prod.fst x6<z4→((0:Int)≤Prod.fst x6∧Prod.fst x6<(↑p.2:Int))∧∀ (j7:Nat),(↑j7:Int)=(↑p.1:Int) + Prod.fst x6→j7<List.length p.6∧∀ (z8:Int),z8=List.getD p.6 j7 (0:Int)→∀ (z9:Int),z9=IntKind.wrap IntKind.u64 z8→¬(8:Int)=(0:Int)∧∀ (z10:Int),z10=Int.tmod (Prod.fst (Prod.snd (Prod.snd x6))) (8:Int)→∀ (z11:Int),z11=IntKind.wrap IntKind.i64 (z10 * (8:Int))→(0:Int)≤z11∧∀ (z12:Int),z12=shlI IntKind.u64 z9 z11→∀ (z13:Int),z13=orI IntKind.u64 (Prod.fst (Prod.snd x6)) z12→∀ (z14:Int),z14=IntKind.wrap IntKind.i64 (Prod.fst (Prod.snd (Prod.snd x6)) + (1:Int))→¬(8:Int)=(0:Int)∧∀ (z15:Int),z15=Int.tmod z14 (8:Int)→(z15=(0:Int)→(U.in4 (Prod.fst (Prod.snd (Prod.snd (Prod.snd x6))),Prod.fst (Prod.snd (Prod.snd (Prod.snd (Prod.snd x6)))),Prod.fst (Prod.snd (Prod.snd (Prod.snd (Prod.snd (Prod.snd x6))))),Prod.snd (Prod.snd (Prod.snd (Prod.snd (Prod.snd (Prod.snd x6))))))∧U.W z13)∧∀ (z16:W4),z16=U.ad (Prod.fst (Prod.snd (Prod.snd (Prod.snd x6))),Prod.fst (Prod.snd (Prod.snd (Prod.snd (Prod.snd x6)))),Prod.fst (Prod.snd (Prod.snd (Prod.snd (Prod.snd (Prod.snd x6))))),Prod.snd (Prod.snd (Prod.snd (Prod.snd (Prod.snd (Prod.snd x6)))))) z13→∀ (z17:Int),z17=IntKind.wrap IntKind.i64 (Prod.fst x6 + (1:Int))→∃ (y18:Int × Int × Int × W4),a=a∧b=b∧(0:Int)=Prod.fst (Prod.snd y18)∧z14=Prod.fst (Prod.snd (Prod.snd y18))∧(p.1=p.1∧p.2=p.2∧p.3=p.3)∧a=a∧z0=z0∧b=b∧z1=z1∧a=a∧z2=z2∧b=b∧z3=z3∧z0=z0∧z1=z1∧z2=z2∧z3=z3∧true=true∧(p.1=p.1∧p.2=p.2∧p.3=p.3)∧(p.1=p.1∧p.2=p.2∧p.3=p.3)∧z4=z4∧z17=Prod.fst y18∧(p.1=p.1∧p.2=p.2∧p.3=p.3)∧(q.1=q.1∧q.2=q.2∧q.3=q.3)∧(r.1=r.1∧r.2=r.2∧r.3=r.3)∧Prod.fst z16=Prod.fst (Prod.snd (Prod.snd (Prod.snd y18)))∧Prod.fst (Prod.snd z16)=Prod.fst (Prod.snd (Prod.snd (Prod.snd (Prod.snd y18))))∧Prod.fst (Prod.snd (Prod.snd z16))=Prod.fst (Prod.snd (Prod.snd (Prod.snd (Prod.snd (Prod.snd y18)))))∧Prod.snd (Prod.snd (Prod.snd z16))=Prod.snd (Prod.snd (Prod.snd (Prod.snd (Prod.snd (Prod.snd y18)))))∧(p.6=p.6∧p.4=p.4∧p.5=p.5)∧(q.6=q.6∧q.4=q.4∧q.5=q.5)∧(r.6=r.6∧r.4=r.4∧r.5=r.5)∧U.tagI (z0,z1,z2,z3) (0:Int) (0:Int) p.6 p.1 p.2 (Prod.fst y18) (Prod.fst (Prod.snd y18)) (Prod.fst (Prod.snd (Prod.snd y18))) (Prod.snd (Prod.snd (Prod.snd y18)))∧Int.toNat ((↑p.2:Int) - Prod.fst y18)<Int.toNat ((↑p.2:Int) - Prod.fst x6))∧(¬z15=(0:Int)→∀ (z19:Int),z19=IntKind.wrap IntKind.i64 (Prod.fst x6 + (1:Int))→∃ (y20:Int × Int × Int × W4),a=a∧b=b∧z13=Prod.fst (Prod.snd y20)∧z14=Prod.fst (Prod.snd (Prod.snd y20))∧(p.1=p.1∧p.2=p.2∧p.3=p.3)∧a=a∧z0=z0∧b=b∧z1=z1∧a=a∧z2=z2∧b=b∧z3=z3∧z0=z0∧z1=z1∧z2=z2∧z3=z3∧true=true∧(p.1=p.1∧p.2=p.2∧p.3=p.3)∧(p.1=p.1∧p.2=p.2∧p.3=p.3)∧z4=z4∧z19=Prod.fst y20∧(p.1=p.1∧p.2=p.2∧p.3=p.3)∧(q.1=q.1∧q.2=q.2∧q.3=q.3)∧(r.1=r.1∧r.2=r.2∧r.3=r.3)∧Prod.fst (Prod.snd (Prod.snd (Prod.snd x6)))=Prod.fst (Prod.snd (Prod.snd (Prod.snd y20)))∧Prod.fst (Prod.snd (Prod.snd (Prod.snd (Prod.snd x6))))=Prod.fst (Prod.snd (Prod.snd (Prod.snd (Prod.snd y20))))∧Prod.fst (Prod.snd (Prod.snd (Prod.snd (Prod.snd (Prod.snd x6)))))=Prod.fst (Prod.snd (Prod.snd (Prod.snd (Prod.snd (Prod.snd y20)))))∧Prod.snd (Prod.snd (Prod.snd (Prod.snd (Prod.snd (Prod.snd x6)))))=Prod.snd (Prod.snd (Prod.snd (Prod.snd (Prod.snd (Prod.snd y20)))))∧(p.6=p.6∧p.4=p.4∧p.5=p.5)∧(q.6=q.6∧q.4=q.4∧q.5=q.5)∧(r.6=r.6∧r.4=r.4∧r.5=r.5)∧U.tagI (z0,z1,z2,z3) (0:Int) (0:Int) p.6 p.1 p.2 (Prod.fst y20) (Prod.fst (Prod.snd y20)) (Prod.fst (Prod.snd (Prod.snd y20))) (Prod.snd (Prod.snd (Prod.snd y20)))∧Int.toNat ((↑p.2:Int) - Prod.fst y20)<Int.toNat ((↑p.2:Int) - Prod.fst x6)))∧(¬Prod.fst x6<z4→∀ (z21:Int),z21=(↑q.2:Int)→(∃ (y22:Int × Int × Int × W4),a=a∧b=b∧Prod.fst (Prod.snd x6)=Prod.fst (Prod.snd y22)∧Prod.fst (Prod.snd (Prod.snd x6))=Prod.fst (Prod.snd (Prod.snd y22))∧(q.1=q.1∧q.2=q.2∧q.3=q.3)∧a=a∧z0=z0∧b=b∧z1=z1∧a=a∧z2=z2∧b=b∧z3=z3∧z0=z0∧z1=z1∧z2=z2∧z3=z3∧true=true∧(q.1=q.1∧q.2=q.2∧q.3=q.3)∧(q.1=q.1∧q.2=q.2∧q.3=q.3)∧z21=z21∧(0:Int)=Prod.fst y22∧(p.1=p.1∧p.2=p.2∧p.3=p.3)∧(q.1=q.1∧q.2=q.2∧q.3=q.3)∧(r.1=r.1∧r.2=r.2∧r.3=r.3)∧Prod.fst (Prod.snd (Prod.snd (Prod.snd x6)))=Prod.fst (Prod.snd (Prod.snd (Prod.snd y22)))∧Prod.fst (Prod.snd (Prod.snd (Prod.snd (Prod.snd x6))))=Prod.fst (Prod.snd (Prod.snd (Prod.snd (Prod.snd y22))))∧Prod.fst (Prod.snd (Prod.snd (Prod.snd (Prod.snd (Prod.snd x6)))))=Prod.fst (Prod.snd (Prod.snd (Prod.snd (Prod.snd (Prod.snd y22)))))∧Prod.snd (Prod.snd (Prod.snd (Prod.snd (Prod.snd (Prod.snd x6)))))=Prod.snd (Prod.snd (Prod.snd (Prod.snd (Prod.snd (Prod.snd y22)))))∧(p.6=p.6∧p.4=p.4∧p.5=p.5)∧(q.6=q.6∧q.4=q.4∧q.5=q.5)∧(r.6=r.6∧r.4=r.4∧r.5=r.5)∧U.tagI (Prod.fst (Prod.snd (Prod.snd (Prod.snd x6))),Prod.fst (Prod.snd (Prod.snd (Prod.snd (Prod.snd x6)))),Prod.fst (Prod.snd (Prod.snd (Prod.snd (Prod.snd (Prod.snd x6))))),Prod.snd (Prod.snd (Prod.snd (Prod.snd (Prod.snd (Prod.snd x6)))))) (Prod.fst (Prod.snd x6)) (Prod.fst (Prod.snd (Prod.snd x6))) q.6 q.1 q.2 (Prod.fst y22) (Prod.fst (Prod.snd y22)) (Prod.fst (Prod.snd (Prod.snd y22))) (Prod.snd (Prod.snd (Prod.snd y22))))∧∀ (x23:Int × Int × Int × W4),U.tagI (Prod.fst (Prod.snd (Prod.snd (Prod.snd x6))),Prod.fst (Prod.snd (Prod.snd (Prod.snd (Prod.snd x6)))),Prod.fst (Prod.snd (Prod.snd (Prod.snd (Prod.snd (Prod.snd x6))))),Prod.snd (Prod.snd (Prod.snd (Prod.snd (Prod.snd (Prod.snd x6)))))) (Prod.fst (Prod.snd x6)) (Prod.fst (Prod.snd (Prod.snd x6))) q.6 q.1 q.2 (Prod.fst x23) (Prod.fst (Prod.snd x23)) (Prod.fst (Prod.snd (Prod.snd x23))) (Prod.snd (Prod.snd (Prod.snd x23)))→(Prod.fst x23<z21→((0:Int)≤Prod.fst x23∧Prod.fst x23<(↑q.2:Int))∧∀ (j24:Nat),(↑j24:Int)=(↑q.1:Int) + Prod.fst x23→j24<List.length q.6∧∀ (z25:Int),z25=List.getD q.6 j24 (0:Int)→∀ (z26:Int),z26=IntKind.wrap IntKind.u64 z25→¬(8:Int)=(0:Int)∧∀ (z27:Int),z27=Int.tmod (Prod.fst (Prod.snd (Prod.snd x23))) (8:Int)→∀ (z28:Int),z28=IntKind.wrap IntKind.i64 (z27 * (8:Int))→(0:Int)≤z28∧∀ (z29:Int),z29=shlI IntKind.u64 z26 z28→∀ (z30:Int),z30=orI IntKind.u64 (Prod.fst (Prod.snd x23)) z29→∀ (z31:Int),z31=IntKind.wrap IntKind.i64 (Prod.fst (Prod.snd (Prod.snd x23)) + (1:Int))→¬(8:Int)=(0:Int)∧∀ (z32:Int),z32=Int.tmod z31 (8:Int)→(z32=(0:Int)→(U.in4 (Prod.fst (Prod.snd (Prod.snd (Prod.snd x23))),Prod.fst (Prod.snd (Prod.snd (Prod.snd (Prod.snd x23)))),Prod.fst (Prod.snd (Prod.snd (Prod.snd (Prod.snd (Prod.snd x23))))),Prod.snd (Prod.snd (Prod.snd (Prod.snd (Prod.snd (Prod.snd x23))))))∧U.W z30)∧∀ (z33:W4),z33=U.ad (Prod.fst (Prod.snd (Prod.snd (Prod.snd x23))),Prod.fst (Prod.snd (Prod.snd (Prod.snd (Prod.snd x23)))),Prod.fst (Prod.snd (Prod.snd (Prod.snd (Prod.snd (Prod.snd x23))))),Prod.snd (Prod.snd (Prod.snd (Prod.snd (Prod.snd (Prod.snd x23)))))) z30→∀ (z34:Int),z34=IntKind.wrap IntKind.i64 (Prod.fst x23 + (1:Int))→∃ (y35:Int × Int × Int × W4),a=a∧b=b∧(0:Int)=Prod.fst (Prod.snd y35)∧z31=Prod.fst (Prod.snd (Prod.snd y35))∧(q.1=q.1∧q.2=q.2∧q.3=q.3)∧a=a∧z0=z0∧b=b∧z1=z1∧a=a∧z2=z2∧b=b∧z3=z3∧z0=z0∧z1=z1∧z2=z2∧z3=z3∧true=true∧(q.1=q.1∧q.2=q.2∧q.3=q.3)∧(q.1=q.1∧q.2=q.2∧q.3=q.3)∧z21=z21∧z34=Prod.fst y35∧(p.1=p.1∧p.2=p.2∧p.3=p.3)∧(q.1=q.1∧q.2=q.2∧q.3=q.3)∧(r.1=r.1∧r.2=r.2∧r.3=r.3)∧Prod.fst z33=Prod.fst (Prod.snd (Prod.snd (Prod.snd y35)))∧Prod.fst (Prod.snd z33)=Prod.fst (Prod.snd (Prod.snd (Prod.snd (Prod.snd y35))))∧Prod.fst (Prod.snd (Prod.snd z33))=Prod.fst (Prod.snd (Prod.snd (Prod.snd (Prod.snd (Prod.snd y35)))))∧Prod.snd (Prod.snd (Prod.snd z33))=Prod.snd (Prod.snd (Prod.snd (Prod.snd (Prod.snd (Prod.snd y35)))))∧(p.6=p.6∧p.4=p.4∧p.5=p.5)∧(q.6=q.6∧q.4=q.4∧q.5=q.5)∧(r.6=r.6∧r.4=r.4∧r.5=r.5)∧U.tagI (Prod.fst (Prod.snd (Prod.snd (Prod.snd x6))),Prod.fst (Prod.snd (Prod.snd (Prod.snd (Prod.snd x6)))),Prod.fst (Prod.snd (Prod.snd (Prod.snd (Prod.snd (Prod.snd x6))))),Prod.snd (Prod.snd (Prod.snd (Prod.snd (Prod.snd (Prod.snd x6)))))) (Prod.fst (Prod.snd x6)) (Prod.fst (Prod.snd (Prod.snd x6))) q.6 q.1 q.2 (Prod.fst y35) (Prod.fst (Prod.snd y35)) (Prod.fst (Prod.snd (Prod.snd y35))) (Prod.snd (Prod.snd (Prod.snd y35)))∧Int.toNat ((↑q.2:Int) - Prod.fst y35)<Int.toNat ((↑q.2:Int) - Prod.fst x23))∧(¬z32=(0:Int)→∀ (z36:Int),z36=IntKind.wrap IntKind.i64 (Prod.fst x23 + (1:Int))→∃ (y37:Int × Int × Int × W4),a=a∧b=b∧z30=Prod.fst (Prod.snd y37)∧z31=Prod.fst (Prod.snd (Prod.snd y37))∧(q.1=q.1∧q.2=q.2∧q.3=q.3)∧a=a∧z0=z0∧b=b∧z1=z1∧a=a∧z2=z2∧b=b∧z3=z3∧z0=z0∧z1=z1∧z2=z2∧z3=z3∧true=true∧(q.1=q.1∧q.2=q.2∧q.3=q.3)∧(q.1=q.1∧q.2=q.2∧q.3=q.3)∧z21=z21∧z36=Prod.fst y37∧(p.1=p.1∧p.2=p.2∧p.3=p.3)∧(q.1=q.1∧q.2=q.2∧q.3=q.3)∧(r.1=r.1∧r.2=r.2∧r.3=r.3)∧Prod.fst (Prod.snd (Prod.snd (Prod.snd x23)))=Prod.fst (Prod.snd (Prod.snd (Prod.snd y37)))∧Prod.fst (Prod.snd (Prod.snd (Prod.snd (Prod.snd x23))))=Prod.fst (Prod.snd (Prod.snd (Prod.snd (Prod.snd y37))))∧Prod.fst (Prod.snd (Prod.snd (Prod.snd (Prod.snd (Prod.snd x23)))))=Prod.fst (Prod.snd (Prod.snd (Prod.snd (Prod.snd (Prod.snd y37)))))∧Prod.snd (Prod.snd (Prod.snd (Prod.snd (Prod.snd (Prod.snd x23)))))=Prod.snd (Prod.snd (Prod.snd (Prod.snd (Prod.snd (Prod.snd y37)))))∧(p.6=p.6∧p.4=p.4∧p.5=p.5)∧(q.6=q.6∧q.4=q.4∧q.5=q.5)∧(r.6=r.6∧r.4=r.4∧r.5=r.5)∧U.tagI (Prod.fst (Prod.snd (Prod.snd (Prod.snd x6))),Prod.fst (Prod.snd (Prod.snd (Prod.snd (Prod.snd x6)))),Prod.fst (Prod.snd (Prod.snd (Prod.snd (Prod.snd (Prod.snd x6))))),Prod.snd (Prod.snd (Prod.snd (Prod.snd (Prod.snd (Prod.snd x6)))))) (Prod.fst (Prod.snd x6)) (Prod.fst (Prod.snd (Prod.snd x6))) q.6 q.1 q.2 (Prod.fst y37) (Prod.fst (Prod.snd y37)) (Prod.fst (Prod.snd (Prod.snd y37))) (Prod.snd (Prod.snd (Prod.snd y37)))∧Int.toNat ((↑q.2:Int) - Prod.fst y37)<Int.toNat ((↑q.2:Int) - Prod.fst x23)))∧(¬Prod.fst x23<z21→∀ (z38:Int),z38=(↑r.2:Int)→(∃ (y39:Int × Int × Int × W4),a=a∧b=b∧Prod.fst (Prod.snd x23)=Prod.fst (Prod.snd y39)∧Prod.fst (Prod.snd (Prod.snd x23))=Prod.fst (Prod.snd (Prod.snd y39))∧(r.1=r.1∧r.2=r.2∧r.3=r.3)∧a=a∧z0=z0∧b=b∧z1=z1∧a=a∧z2=z2∧b=b∧z3=z3∧z0=z0∧z1=z1∧z2=z2∧z3=z3∧true=true∧(r.1=r.1∧r.2=r.2∧r.3=r.3)∧(r.1=r.1∧r.2=r.2∧r.3=r.3)∧z38=z38∧(0:Int)=Prod.fst y39∧(p.1=p.1∧p.2=p.2∧p.3=p.3)∧(q.1=q.1∧q.2=q.2∧q.3=q.3)∧(r.1=r.1∧r.2=r.2∧r.3=r.3)∧Prod.fst (Prod.snd (Prod.snd (Prod.snd x23)))=Prod.fst (Prod.snd (Prod.snd (Prod.snd y39)))∧Prod.fst (Prod.snd (Prod.snd (Prod.snd (Prod.snd x23))))=Prod.fst (Prod.snd (Prod.snd (Prod.snd (Prod.snd y39))))∧Prod.fst (Prod.snd (Prod.snd (Prod.snd (Prod.snd (Prod.snd x23)))))=Prod.fst (Prod.snd (Prod.snd (Prod.snd (Prod.snd (Prod.snd y39)))))∧Prod.snd (Prod.snd (Prod.snd (Prod.snd (Prod.snd (Prod.snd x23)))))=Prod.snd (Prod.snd (Prod.snd (Prod.snd (Prod.snd (Prod.snd y39)))))∧(p.6=p.6∧p.4=p.4∧p.5=p.5)∧(q.6=q.6∧q.4=q.4∧q.5=q.5)∧(r.6=r.6∧r.4=r.4∧r.5=r.5)∧U.tagI (Prod.fst (Prod.snd (Prod.snd (Prod.snd x23))),Prod.fst (Prod.snd (Prod.snd (Prod.snd (Prod.snd x23)))),Prod.fst (Prod.snd (Prod.snd (Prod.snd (Prod.snd (Prod.snd x23))))),Prod.snd (Prod.snd (Prod.snd (Prod.snd (Prod.snd (Prod.snd x23)))))) (Prod.fst (Prod.snd x23)) (Prod.fst (Prod.snd (Prod.snd x23))) r.6 r.1 r.2 (Prod.fst y39) (Prod.fst (Prod.snd y39)) (Prod.fst (Prod.snd (Prod.snd y39))) (Prod.snd (Prod.snd (Prod.snd y39))))∧∀ (x40:Int × Int × Int × W4),U.tagI (Prod.fst (Prod.snd (Prod.snd (Prod.snd x23))),Prod.fst (Prod.snd (Prod.snd (Prod.snd (Prod.snd x23)))),Prod.fst (Prod.snd (Prod.snd (Prod.snd (Prod.snd (Prod.snd x23))))),Prod.snd (Prod.snd (Prod.snd (Prod.snd (Prod.snd (Prod.snd x23)))))) (Prod.fst (Prod.snd x23)) (Prod.fst (Prod.snd (Prod.snd x23))) r.6 r.1 r.2 (Prod.fst x40) (Prod.fst (Prod.snd x40)) (Prod.fst (Prod.snd (Prod.snd x40))) (Prod.snd (Prod.snd (Prod.snd x40)))→(Prod.fst x40<z38→((0:Int)≤Prod.fst x40∧Prod.fst x40<(↑r.2:Int))∧∀ (j41:Nat),(↑j41:Int)=(↑r.1:Int) + Prod.fst x40→j41<List.length r.6∧∀ (z42:Int),z42=List.getD r.6 j41 (0:Int)→∀ (z43:Int),z43=IntKind.wrap IntKind.u64 z42→¬(8:Int)=(0:Int)∧∀ (z44:Int),z44=Int.tmod (Prod.fst (Prod.snd (Prod.snd x40))) (8:Int)→∀ (z45:Int),z45=IntKind.wrap IntKind.i64 (z44 * (8:Int))→(0:Int)≤z45∧∀ (z46:Int),z46=shlI IntKind.u64 z43 z45→∀ (z47:Int),z47=orI IntKind.u64 (Prod.fst (Prod.snd x40)) z46→∀ (z48:Int),z48=IntKind.wrap IntKind.i64 (Prod.fst (Prod.snd (Prod.snd x40)) + (1:Int))→¬(8:Int)=(0:Int)∧∀ (z49:Int),z49=Int.tmod z48 (8:Int)→(z49=(0:Int)→(U.in4 (Prod.fst (Prod.snd (Prod.snd (Prod.snd x40))),Prod.fst (Prod.snd (Prod.snd (Prod.snd (Prod.snd x40)))),Prod.fst (Prod.snd (Prod.snd (Prod.snd (Prod.snd (Prod.snd x40))))),Prod.snd (Prod.snd (Prod.snd (Prod.snd (Prod.snd (Prod.snd x40))))))∧U.W z47)∧∀ (z50:W4),z50=U.ad (Prod.fst (Prod.snd (Prod.snd (Prod.snd x40))),Prod.fst (Prod.snd (Prod.snd (Prod.snd (Prod.snd x40)))),Prod.fst (Prod.snd (Prod.snd (Prod.snd (Prod.snd (Prod.snd x40))))),Prod.snd (Prod.snd (Prod.snd (Prod.snd (Prod.snd (Prod.snd x40)))))) z47→∀ (z51:Int),z51=IntKind.wrap IntKind.i64 (Prod.fst x40 + (1:Int))→∃ (y52:Int × Int × Int × W4),a=a∧b=b∧(0:Int)=Prod.fst (Prod.snd y52)∧z48=Prod.fst (Prod.snd (Prod.snd y52))∧(r.1=r.1∧r.2=r.2∧r.3=r.3)∧a=a∧z0=z0∧b=b∧z1=z1∧a=a∧z2=z2∧b=b∧z3=z3∧z0=z0∧z1=z1∧z2=z2∧z3=z3∧true=true∧(r.1=r.1∧r.2=r.2∧r.3=r.3)∧(r.1=r.1∧r.2=r.2∧r.3=r.3)∧z38=z38∧z51=Prod.fst y52∧(p.1=p.1∧p.2=p.2∧p.3=p.3)∧(q.1=q.1∧q.2=q.2∧q.3=q.3)∧(r.1=r.1∧r.2=r.2∧r.3=r.3)∧Prod.fst z50=Prod.fst (Prod.snd (Prod.snd (Prod.snd y52)))∧Prod.fst (Prod.snd z50)=Prod.fst (Prod.snd (Prod.snd (Prod.snd (Prod.snd y52))))∧Prod.fst (Prod.snd (Prod.snd z50))=Prod.fst (Prod.snd (Prod.snd (Prod.snd (Prod.snd (Prod.snd y52)))))∧Prod.snd (Prod.snd (Prod.snd z50))=Prod.snd (Prod.snd (Prod.snd (Prod.snd (Prod.snd (Prod.snd y52)))))∧(p.6=p.6∧p.4=p.4∧p.5=p.5)∧(q.6=q.6∧q.4=q.4∧q.5=q.5)∧(r.6=r.6∧r.4=r.4∧r.5=r.5)∧U.tagI (Prod.fst (Prod.snd (Prod.snd (Prod.snd x23))),Prod.fst (Prod.snd (Prod.snd (Prod.snd (Prod.snd x23)))),Prod.fst (Prod.snd (Prod.snd (Prod.snd (Prod.snd (Prod.snd x23))))),Prod.snd (Prod.snd (Prod.snd (Prod.snd (Prod.snd (Prod.snd x23)))))) (Prod.fst (Prod.snd x23)) (Prod.fst (Prod.snd (Prod.snd x23))) r.6 r.1 r.2 (Prod.fst y52) (Prod.fst (Prod.snd y52)) (Prod.fst (Prod.snd (Prod.snd y52))) (Prod.snd (Prod.snd (Prod.snd y52)))∧Int.toNat ((↑r.2:Int) - Prod.fst y52)<Int.toNat ((↑r.2:Int) - Prod.fst x40))∧(¬z49=(0:Int)→∀ (z53:Int),z53=IntKind.wrap IntKind.i64 (Prod.fst x40 + (1:Int))→∃ (y54:Int × Int × Int × W4),a=a∧b=b∧z47=Prod.fst (Prod.snd y54)∧z48=Prod.fst (Prod.snd (Prod.snd y54))∧(r.1=r.1∧r.2=r.2∧r.3=r.3)∧a=a∧z0=z0∧b=b∧z1=z1∧a=a∧z2=z2∧b=b∧z3=z3∧z0=z0∧z1=z1∧z2=z2∧z3=z3∧true=true∧(r.1=r.1∧r.2=r.2∧r.3=r.3)∧(r.1=r.1∧r.2=r.2∧r.3=r.3)∧z38=z38∧z53=Prod.fst y54∧(p.1=p.1∧p.2=p.2∧p.3=p.3)∧(q.1=q.1∧q.2=q.2∧q.3=q.3)∧(r.1=r.1∧r.2=r.2∧r.3=r.3)∧Prod.fst (Prod.snd (Prod.snd (Prod.snd x40)))=Prod.fst (Prod.snd (Prod.snd (Prod.snd y54)))∧Prod.fst (Prod.snd (Prod.snd (Prod.snd (Prod.snd x40))))=Prod.fst (Prod.snd (Prod.snd (Prod.snd (Prod.snd y54))))∧Prod.fst (Prod.snd (Prod.snd (Prod.snd (Prod.snd (Prod.snd x40)))))=Prod.fst (Prod.snd (Prod.snd (Prod.snd (Prod.snd (Prod.snd y54)))))∧Prod.snd (Prod.snd (Prod.snd (Prod.snd (Prod.snd (Prod.snd x40)))))=Prod.snd (Prod.snd (Prod.snd (Prod.snd (Prod.snd (Prod.snd y54)))))∧(p.6=p.6∧p.4=p.4∧p.5=p.5)∧(q.6=q.6∧q.4=q.4∧q.5=q.5)∧(r.6=r.6∧r.4=r.4∧r.5=r.5)∧U.tagI (Prod.fst (Prod.snd (Prod.snd (Prod.snd x23))),Prod.fst (Prod.snd (Prod.snd (Prod.snd (Prod.snd x23)))),Prod.fst (Prod.snd (Prod.snd (Prod.snd (Prod.snd (Prod.snd x23))))),Prod.snd (Prod.snd (Prod.snd (Prod.snd (Prod.snd (Prod.snd x23)))))) (Prod.fst (Prod.snd x23)) (Prod.fst (Prod.snd (Prod.snd x23))) r.6 r.1 r.2 (Prod.fst y54) (Prod.fst (Prod.snd y54)) (Prod.fst (Prod.snd (Prod.snd y54))) (Prod.snd (Prod.snd (Prod.snd y54)))∧Int.toNat ((↑r.2:Int) - Prod.fst y54)<Int.toNat ((↑r.2:Int) - Prod.fst x40)))∧(¬Prod.fst x40<z38→∀ (z55:Int),z55=IntKind.wrap IntKind.u64 (Prod.fst (Prod.snd (Prod.snd x40)))→(0:Int)≤(56:Int)∧∀ (z56:Int),z56=shlI IntKind.u64 z55 (56:Int)→∀ (z57:Int),z57=orI IntKind.u64 (Prod.fst (Prod.snd x40)) z56→(U.in4 (Prod.fst (Prod.snd (Prod.snd (Prod.snd x40))),Prod.fst (Prod.snd (Prod.snd (Prod.snd (Prod.snd x40)))),Prod.fst (Prod.snd (Prod.snd (Prod.snd (Prod.snd (Prod.snd x40))))),Prod.snd (Prod.snd (Prod.snd (Prod.snd (Prod.snd (Prod.snd x40))))))∧U.W z57)∧∀ (z58:W4),z58=U.ad (Prod.fst (Prod.snd (Prod.snd (Prod.snd x40))),Prod.fst (Prod.snd (Prod.snd (Prod.snd (Prod.snd x40)))),Prod.fst (Prod.snd (Prod.snd (Prod.snd (Prod.snd (Prod.snd x40))))),Prod.snd (Prod.snd (Prod.snd (Prod.snd (Prod.snd (Prod.snd x40)))))) z57→∀ (z59:Int),z59=xorI IntKind.u64 (Prod.fst (Prod.snd (Prod.snd z58))) (255:Int)→(U.in4 (Prod.fst z58,Prod.fst (Prod.snd z58),z59,Prod.snd (Prod.snd (Prod.snd z58)))∧(0:Int)≤(4:Int)∧(4:Int)<(100:Int))∧∀ (z60:W4),z60=U.rn (Prod.fst z58,Prod.fst (Prod.snd z58),z59,Prod.snd (Prod.snd (Prod.snd z58))) (4:Int)→∀ (z61:Int),z61=xorI IntKind.u64 (Prod.fst z60) (Prod.fst (Prod.snd z60))→∀ (z62:Int),z62=xorI IntKind.u64 z61 (Prod.fst (Prod.snd (Prod.snd z60)))→∀ (z63:Int),z63=xorI IntKind.u64 z62 (Prod.snd (Prod.snd (Prod.snd z60)))→K (Sum.inl (Sum.inl (Sum.inr (Sum.inr (Sum.inr (Sum.inr (Sum.inr (Sum.inr (Sum.inl (IntKind.u64,z63)))))))))) { heap := [some { elem := nat_lit 121,cells := [Sum.inr (Sum.inr (Sum.inr (Sum.inr (Sum.inr (Sum.inr (Sum.inr (Sum.inl { a := OfNat.ofNat (0:Nat),o := p.1,n := p.2,c := p.3 }))))))),Sum.inr (Sum.inr (Sum.inr (Sum.inr (Sum.inr (Sum.inr (Sum.inr (Sum.inl { a := OfNat.ofNat (1:Nat),o := q.1,n := q.2,c := q.3 }))))))),Sum.inr (Sum.inr (Sum.inr (Sum.inr (Sum.inr (Sum.inr (Sum.inr (Sum.inl { a := OfNat.ofNat (2:Nat),o := r.1,n := r.2,c := r.3 })))))))],j := none,c := OfNat.ofNat (3:Nat),z := false }],ints := [],opqs := (0:Nat),arrs := [some { elem := OfNat.ofNat (5:Nat),k := AK.n IntKind.u8,l := p.6,cap := p.4,ro := p.5 },some { elem := OfNat.ofNat (5:Nat),k := AK.n IntKind.u8,l := q.6,cap := q.4,ro := q.5 },some { elem := OfNat.ofNat (5:Nat),k := AK.n IntKind.u8,l := r.6,cap := r.4,ro := r.5 }],junks := (0:Nat) })))) := by kernel_rfl
end Go.Proofs.YthafgapnnmkmhaaGreatDoor
end
section
set_option linter.unusedVariables false
set_option linter.unusedSimpArgs false
set_option maxRecDepth 10000
set_option maxHeartbeats 1000000
namespace Go.Proofs.YthafgapnnmkmhaaGreatDoor
open Go Reck
def P3.sub (p : P3) : List Int := (p.L.drop p.o).take p.n
structure P3.Ok (p : P3) : Prop where
  b : byteL p.L
  l : p.o + p.n ≤ p.L.length
  n : p.n ≤ 300
theorem tfold_append (s : T6) (l m : List Int) : tfold s (l ++ m) = tfold (tfold s l) m := by simp [tfold]
theorem tagI_end {v0 v : W4} {m0 n0 : Int} {L : List Int} {o n : Nat} {k m nn : Int} (hI : U.tagI v0 m0 n0 L o n k m nn v) (hl : o + n ≤ L.length) (hk : ¬ k < n) : tfold (v0, m0, n0) ((L.drop o).take n) = (v, m, nn) := by
  obtain ⟨j, h1, h2, h3, h4⟩ := hI
  rw [List.take_of_length_le (by rw [sub_len L o n hl]; omega)] at h3
  exact h3.symm
def TL (a b : Int) (l : List Int) : Int := finW (U.ad (tfold (initW a b, 0, 0) l).1 (lastM (tfold (initW a b, 0, 0) l)))
theorem tagP_run (K : AV → St → Prop) (a b : Int) (p q r : P3) (hp : p.Ok) (hq : q.Ok) (hr : r.Ok) (h : K (xi .u64 (TL a b (p.sub ++ q.sub ++ r.sub))) (st3 p q r)) : runG (tblOr tWAdd tRnd) 101 [xi .u64 a, xi .u64 b, sl ⟨0, 0, 3, none, 3⟩] (st3 p q r) K := by
  rw [tagP_vc]
  obtain ⟨bp, lp, np⟩ := hp
  obtain ⟨bq, lq, nq⟩ := hq
  obtain ⟨br, lr, nr⟩ := hr
  intro z0 e0 z1 e1 z2 e2 z3 e3
  have hini : (z0, z1, z2, z3) = initW a b := by rw [e0, e1, e2, e3]; rfl
  have hv0 : U.in4 (z0, z1, z2, z3) := ⟨e0 ▸ xor_in _ _, e1 ▸ xor_in _ _, e2 ▸ xor_in _ _, e3 ▸ xor_in _ _⟩
  clear e0 e1 e2 e3
  intro znp hnp
  refine ⟨⟨(0, 0, 0, (z0, z1, z2, z3)), ?_⟩, ?_⟩
  · dsimp only; simp only [and_self, true_and]; exact tagI_zero _ _ _ _ _ _ hv0 (by unfold inW; decide) (by omega)
  rintro ⟨kp, mp, nnp, vp⟩ Ip
  dsimp only at Ip ⊢
  obtain ⟨jp, h1p, h2p, h3p, h4p, h5p, h6p, h7p⟩ := id Ip
  refine ⟨fun hlt => ⟨by omega, fun j7 hj => ⟨by omega, fun z8 e8 z9 e9 => ⟨by decide, fun z10 e10 z11 e11 => ?_⟩⟩⟩, fun gp => ?_⟩
  · have hc := byteL_get bp j7
    rw [← e8] at hc
    have T := @tstep_of vp mp nnp z8 z9 z10 z11 (shlI .u64 z9 z11) _ _ _ hc (by omega) e9 e10 e11 rfl rfl rfl rfl
    refine ⟨T.1, fun z12 e12 z13 e13 z14 e14 => ⟨by decide, fun z15 e15 => ?_⟩⟩
    have T := @tstep_of vp mp nnp z8 z9 z10 z11 z12 z13 z14 z15 hc (by omega) e9 e10 e11 e12 e13 e14 e15
    obtain ⟨t1, t2, t3, t4, t5⟩ := T
    refine ⟨fun hz => ⟨⟨h4p, ⟨t5⟩⟩, fun z16 e16 z17 e17 => ⟨(z17, 0, z14, z16), ?_⟩⟩, fun hz z19 e19 => ⟨(z19, z13, z14, vp), ?_⟩⟩
    · have e17 := w64 e17 (by omega)
      dsimp only; simp only [and_self, true_and]
      exact ⟨tagI_next Ip lp np (by omega) hj e17 (by rw [← e8, t3 hz, e16]) (e16 ▸ ad_in h4p _) (by unfold inW; decide) t2, by omega⟩
    · have e19 := w64 e19 (by omega)
      dsimp only; simp only [and_self, true_and]
      exact ⟨tagI_next Ip lp np (by omega) hj e19 (by rw [← e8, t4 hz]) h4p t5 t2, by omega⟩
  have Ep := tagI_end Ip lp (by omega)
  intro znq hnq
  refine ⟨⟨(0, mp, nnp, vp), ?_⟩, ?_⟩
  · dsimp only; simp only [and_self, true_and]; exact tagI_zero _ _ _ _ _ _ h4p h5p (by omega)
  rintro ⟨kq, mq, nnq, vq⟩ Iq
  dsimp only at Iq ⊢
  obtain ⟨jq, h1q, h2q, h3q, h4q, h5q, h6q, h7q⟩ := id Iq
  refine ⟨fun hlt => ⟨by omega, fun j7 hj => ⟨by omega, fun z8 e8 z9 e9 => ⟨by decide, fun z10 e10 z11 e11 => ?_⟩⟩⟩, fun gq => ?_⟩
  · have hc := byteL_get bq j7
    rw [← e8] at hc
    have T := @tstep_of vq mq nnq z8 z9 z10 z11 (shlI .u64 z9 z11) _ _ _ hc (by omega) e9 e10 e11 rfl rfl rfl rfl
    refine ⟨T.1, fun z12 e12 z13 e13 z14 e14 => ⟨by decide, fun z15 e15 => ?_⟩⟩
    have T := @tstep_of vq mq nnq z8 z9 z10 z11 z12 z13 z14 z15 hc (by omega) e9 e10 e11 e12 e13 e14 e15
    obtain ⟨t1, t2, t3, t4, t5⟩ := T
    refine ⟨fun hz => ⟨⟨h4q, ⟨t5⟩⟩, fun z16 e16 z17 e17 => ⟨(z17, 0, z14, z16), ?_⟩⟩, fun hz z19 e19 => ⟨(z19, z13, z14, vq), ?_⟩⟩
    · have e17 := w64 e17 (by omega)
      dsimp only; simp only [and_self, true_and]
      exact ⟨tagI_next Iq lq nq (by omega) hj e17 (by rw [← e8, t3 hz, e16]) (e16 ▸ ad_in h4q _) (by unfold inW; decide) t2, by omega⟩
    · have e19 := w64 e19 (by omega)
      dsimp only; simp only [and_self, true_and]
      exact ⟨tagI_next Iq lq nq (by omega) hj e19 (by rw [← e8, t4 hz]) h4q t5 t2, by omega⟩
  have Eq := tagI_end Iq lq (by omega)
  intro znr hnr
  refine ⟨⟨(0, mq, nnq, vq), ?_⟩, ?_⟩
  · dsimp only; simp only [and_self, true_and]; exact tagI_zero _ _ _ _ _ _ h4q h5q (by omega)
  rintro ⟨kr, mr, nnr, vr⟩ Ir
  dsimp only at Ir ⊢
  obtain ⟨jr, h1r, h2r, h3r, h4r, h5r, h6r, h7r⟩ := id Ir
  refine ⟨fun hlt => ⟨by omega, fun j7 hj => ⟨by omega, fun z8 e8 z9 e9 => ⟨by decide, fun z10 e10 z11 e11 => ?_⟩⟩⟩, fun gr => ?_⟩
  · have hc := byteL_get br j7
    rw [← e8] at hc
    have T := @tstep_of vr mr nnr z8 z9 z10 z11 (shlI .u64 z9 z11) _ _ _ hc (by omega) e9 e10 e11 rfl rfl rfl rfl
    refine ⟨T.1, fun z12 e12 z13 e13 z14 e14 => ⟨by decide, fun z15 e15 => ?_⟩⟩
    have T := @tstep_of vr mr nnr z8 z9 z10 z11 z12 z13 z14 z15 hc (by omega) e9 e10 e11 e12 e13 e14 e15
    obtain ⟨t1, t2, t3, t4, t5⟩ := T
    refine ⟨fun hz => ⟨⟨h4r, ⟨t5⟩⟩, fun z16 e16 z17 e17 => ⟨(z17, 0, z14, z16), ?_⟩⟩, fun hz z19 e19 => ⟨(z19, z13, z14, vr), ?_⟩⟩
    · have e17 := w64 e17 (by omega)
      dsimp only; simp only [and_self, true_and]
      exact ⟨tagI_next Ir lr nr (by omega) hj e17 (by rw [← e8, t3 hz, e16]) (e16 ▸ ad_in h4r _) (by unfold inW; decide) t2, by omega⟩
    · have e19 := w64 e19 (by omega)
      dsimp only; simp only [and_self, true_and]
      exact ⟨tagI_next Ir lr nr (by omega) hj e19 (by rw [← e8, t4 hz]) h4r t5 t2, by omega⟩
  have Er := tagI_end Ir lr (by omega)
  intro z21 e21
  refine ⟨by decide, fun z22 e22 z23 e23 => ⟨⟨h4r, ⟨e23 ▸ or_in _ _⟩⟩, fun z24 e24 z25 e25 => ?_⟩⟩
  have hz := ad_in h4r z23
  have e24' : z24 = U.ad vr z23 := e24
  rw [← e24'] at hz
  refine ⟨⟨⟨hz.out.1, hz.out.2.1, e25 ▸ xor_in _ _, hz.out.2.2.2⟩, by decide⟩, fun z26 e26 z27 e27 z28 e28 z29 e29 => ?_⟩
  have e : TL a b (p.sub ++ q.sub ++ r.sub) = z29 := by
    unfold TL P3.sub
    rw [← hini, tfold_append, tfold_append, Ep]
    have Eq2 : tfold (vp, mp, nnp) ((q.L.drop q.o).take q.n) = (vq, mq, nnq) := Eq
    have Er2 : tfold (vq, mq, nnq) ((r.L.drop r.o).take r.n) = (vr, mr, nnr) := Er
    rw [Eq2, Er2]
    have e21 := wu64 e21 (by omega)
    have : z23 = lastM (vr, mr, nnr) := by rw [e23, e22, e21]; rfl
    rw [← this]
    show finW (U.ad vr z23) = _
    rw [← e24', e29, e28, e27, e26, e25]; rfl
  rw [e] at h; exact h
end Go.Proofs.YthafgapnnmkmhaaGreatDoor
end
