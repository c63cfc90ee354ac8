/- Parts of a proof, one behind the other: N1 N2 F1 F2 F3 F4 F5 F6. No condition. -/
import Derived.Test.YtlfigaddddncmaaDoorGB
section
namespace Go.Proofs.YtlfigaddddncmaaDoor
open Go Reck
set_option linter.unusedVariables false
/-- Adding bytes as numbers of sixteen bits. -/
def fold (p : Bool × Int) (l : List Int) : Bool × Int := l.foldl (fun p c => (!p.1, p.2 + (if p.1 then c * 256 else c))) p
structure U.netI (h0 : Bool) (s0 : Int) (L : List Int) (o n : Nat) (t : Nat) (k s : Int) : Prop where
  out : ∃ j : Nat, k = j ∧ j ≤ n ∧ fold (h0, s0) (((L.drop o).take n).take j) = (Nat.beq t 1, s)
structure U.downI (s0 s : Int) : Prop where
  out : 0 ≤ s ∧ s % 65535 = s0 % 65535 ∧ (s = 0 ↔ s0 = 0) ∧ s ≤ s0
structure U.refI (L : List Int) (o n : Nat) (t : Nat) (i s : Int) : Prop where
  out : ∃ j : Nat, i = 2 * j ∧ j ≤ 500 ∧ s = (fold (true, 0) (((L.drop o).take n).take (2 * j))).2 % 65535 ∧ (t = 1 ↔ 0 < (fold (true, 0) (((L.drop o).take n).take (2 * j))).2)

def netInv (c : Code) (tm : List AV) (σ : St) : Inv where
  X := Int × Int
  tags := [0, 1]
  tag := boolAt 4
  J := wrBut [17, 3, 4] c
  val t x := [(17, xi .i64 x.1), (3, xi .u64 x.2), (4, tagB t)]
  st _ _ σ := σ
  I t x := U.netI (slotB tm 4) (slotI tm 3) (slotA tm 15 σ) (slotS tm 15).o (slotS tm 15).n t x.1 x.2
  m _ x := ((slotS tm 15).n - x.1).toNat
  ren := noRen
def downInv (c : Code) (tm : List AV) : Inv where
  X := Int
  tags := [0]
  tag _ _ := 0
  J := wrBut [3] c
  val _ x := [(3, xi .u64 x)]
  st _ _ σ := σ
  I _ x := U.downI (slotI tm 3) x
  m _ x := x.toNat
  ren := noRen
def refInv (c : Code) (tm : List AV) (σ : St) : Inv where
  X := Int × Int
  tags := [0, 1]
  tag := boolAt 4
  J := wrBut [5, 3, 4] c
  val t x := [(5, xi .i64 x.1), (3, xi .i64 x.2), (4, tagB t)]
  st _ _ σ := σ
  I t x := U.refI (slotA tm 0 σ) (slotS tm 0).o (slotS tm 0).n t x.1 x.2
  m _ x := (2000 - x.1).toNat
  ren := noRen
def invN : InvF := fun c tm σ => match tm.length, firstReg c with
  | 45, some 7 => if isAsl (tm.getD 15 (lit undef)) then some (netInv c tm σ) else none
  | 45, some 15 => if isXint (tm.getD 3 (lit undef)) then some (downInv c tm) else none
  | 49, some 4 => if isAsl (tm.getD 0 (lit undef)) then some (refInv c tm σ) else none
  | _, _ => none
structure P3 where
  o : Nat
  n : Nat
  c : Nat
  cap : Nat
  ro : Bool
  L : List Int
def pt (l : List Cell) : Option Blk := some ⟨24, l, none, l.length, false⟩
def st2 (p q : P3) : St := ⟨[some ⟨24, [aslC ⟨0, p.o, p.n, p.c⟩, aslC ⟨1, q.o, q.n, q.c⟩], none, 2, false⟩], [], 0, [some (bs p.L p.cap p.ro), some (bs q.L q.cap q.ro)], 0⟩
set_option maxRecDepth 100000
end Go.Proofs.YtlfigaddddncmaaDoor
end

section
set_option linter.unusedVariables false
set_option linter.unusedSimpArgs false
namespace Go.Proofs.YtlfigaddddncmaaDoor
open Go Reck

theorem fold_snoc (p : Bool × Int) (l : List Int) (c : Int) : fold p (l ++ [c]) = (!(fold p l).1, (fold p l).2 + (if (fold p l).1 then c * 256 else c)) := by
  unfold fold; rw [List.foldl_append]; rfl
theorem fold_append (p : Bool × Int) (l m : List Int) : fold p (l ++ m) = fold (fold p l) m := by simp [fold]
theorem fold_par (b : Bool) (s : Int) (l : List Int) : (fold (b, s) l).1 = if l.length % 2 = 0 then b else !b := by
  induction l generalizing b s with
  | nil => rfl
  | cons c l ih =>
    show (fold (!b, s + (if b then c * 256 else c)) l).1 = _
    rw [ih, List.length_cons]
    by_cases h : l.length % 2 = 0
    · rw [if_pos h, if_neg (by omega)]
    · rw [if_neg h, if_pos (by omega)]; simp
def byteL (l : List Int) : Prop := ∀ x ∈ l, 0 ≤ x ∧ x ≤ 255
theorem fold_bnd (b : Bool) (s : Int) (l : List Int) (h : byteL l) : s ≤ (fold (b, s) l).2 ∧ (fold (b, s) l).2 ≤ s + 65280 * l.length := by
  induction l generalizing b s with
  | nil => simp [fold]
  | cons c l ih =>
    have h1 := ih (!b) (s + (if b then c * 256 else c)) (fun x hx => h x (List.mem_cons_of_mem _ hx))
    have h2 := h c (List.mem_cons_self ..)
    have e : fold (b, s) (c :: l) = fold (!b, s + (if b then c * 256 else c)) l := rfl
    rw [e, List.length_cons]
    have h3 : 0 ≤ (if b then c * 256 else c) ∧ (if b then c * 256 else c) ≤ 65280 := by split <;> omega
    constructor
    · omega
    · have := h1.2; push_cast; omega
theorem take_get {l : List Int} {k : Nat} (h : k < l.length) : l.take (k + 1) = l.take k ++ [l.getD k 0] := by
  rw [List.take_succ_eq_append_getElem h]; simp [List.getD, h]
theorem sub_get (L : List Int) (o n k : Nat) (hl : o + n ≤ L.length) (h : k < n) : ((L.drop o).take n).getD k 0 = L.getD (o + k) 0 := by
  simp [List.getD, List.getElem?_take, h, List.getElem?_drop]
theorem sub_len (L : List Int) (o n : Nat) (hl : o + n ≤ L.length) : ((L.drop o).take n).length = n := by simp; omega
theorem byteL_sub {L : List Int} (h : byteL L) (o n : Nat) : byteL ((L.drop o).take n) := fun x hx => h x (List.mem_of_mem_drop (List.mem_of_mem_take hx))
theorem byteL_take {L : List Int} (h : byteL L) (n : Nat) : byteL (L.take n) := fun x hx => h x (List.mem_of_mem_take hx)
theorem byteL_get {L : List Int} (h : byteL L) (k : Nat) : 0 ≤ L.getD k 0 ∧ L.getD k 0 ≤ 255 := by
  rw [List.getD_eq_getElem?_getD]
  cases hk : L[k]? with
  | none => simp
  | some x => exact h x (List.mem_of_getElem? hk)

/-- The Internet's sum. -/
def netS (S : Int) : Int := 65535 - (if S = 0 then 0 else if S % 65535 = 0 then 65535 else S % 65535)

theorem u64_of (a : Int) (h : 0 ≤ a ∧ a ≤ 18446744073709551615) : (BitVec.ofInt 64 a).toNat = a.toNat := by
  rw [BitVec.toNat_ofInt]; omega
theorem and_mask {a : Int} (j : Nat) (hj : j < 64) (h : 0 ≤ a ∧ a ≤ 18446744073709551615) {m : Int} (hm : m = 2 ^ j - 1) : andI .u64 a m = a % 2 ^ j := by
  have hp : (2 : Nat) ^ j < 2 ^ 64 := Nat.pow_lt_pow_right (by decide) hj
  have hp0 : 0 < (2 : Nat) ^ j := Nat.pow_pos (by decide)
  have e1 : m = (((2 : Nat) ^ j - 1 : Nat) : Int) := by rw [hm, Int.natCast_sub (by omega)]; simp
  have hc : ((2 : Int) ^ j) = (((2 : Nat) ^ j : Nat) : Int) := by simp
  unfold andI
  show IntKind.u64.wrap ((BitVec.ofInt 64 a &&& BitVec.ofInt 64 m).toNat : Int) = _
  rw [BitVec.toNat_and, u64_of a h, u64_of m (by rw [e1]; omega), e1]
  have : ((((2 : Nat) ^ j - 1 : Nat) : Int)).toNat = 2 ^ j - 1 := by omega
  rw [this, Nat.and_two_pow_sub_one_eq_mod, hc]
  have h2 : a.toNat % 2 ^ j < 2 ^ j := Nat.mod_lt _ hp0
  rw [wrap_in (k := .u64) (by simp [IntKind.min, IntKind.max, IntKind.signed, IntKind.bits]; omega)]
  have : a = (a.toNat : Int) := by omega
  rw [this]; simp
theorem shr_at {a : Int} (j : Nat) (hj : j ≤ 64) (h : 0 ≤ a) {m : Int} (hm : m = j) : shrI .u64 a m = a / 2 ^ j := by
  unfold shrI
  rw [hm, Int.toNat_natCast, show min j (IntKind.bits .u64) = j from Nat.min_eq_left hj, Int.fdiv_eq_ediv_of_nonneg]
  exact Int.le_of_lt (Int.pow_pos (by decide))
theorem xor_full16 {a : Int} (h : 0 ≤ a ∧ a ≤ 65535) : xorI .u16 65535 a = 65535 - a := by
  unfold xorI
  show IntKind.u16.wrap ((BitVec.ofInt 16 65535 ^^^ BitVec.ofInt 16 a).toNat : Int) = _
  have e1 : BitVec.ofInt 16 65535 = BitVec.allOnes 16 := by decide
  have e2 : (BitVec.ofInt 16 a).toNat = a.toNat := by rw [BitVec.toNat_ofInt]; omega
  rw [e1, BitVec.allOnes_xor, BitVec.toNat_not, e2, wrap_in (k := .u16) (by simp [IntKind.min, IntKind.max, IntKind.signed, IntKind.bits]; omega)]
  omega
theorem shl8u {a : Int} (h : 0 ≤ a ∧ a ≤ 255) : shlI .u64 a 8 = a * 256 := by
  unfold shlI
  rw [wrap_in (k := .u64) (by simp [IntKind.min, IntKind.max, IntKind.signed, IntKind.bits]; omega)]
  rfl

theorem netI_zero (h : Bool) (s : Int) (L : List Int) (o n : Nat) : U.netI h s L o n (if h then 1 else 0) 0 s :=
  ⟨0, rfl, Nat.zero_le _, by cases h <;> rfl⟩
theorem netI_end {h : Bool} {s0 : Int} {L : List Int} {o n t : Nat} {k s : Int} (hI : U.netI h s0 L o n t k s) (hl : o + n ≤ L.length) (hk : ¬ k < n) : fold (h, s0) ((L.drop o).take n) = (Nat.beq t 1, s) := by
  obtain ⟨j, h1, h2, h3⟩ := hI
  rw [List.take_of_length_le (by rw [sub_len L o n hl]; omega)] at h3
  exact h3
theorem netI_next {h : Bool} {s0 : Int} {L : List Int} {o n t t' : Nat} {k s k' s' : Int} (hI : U.netI h s0 L o n t k s) (hl : o + n ≤ L.length) (hk : k < n) {j : Nat} (hj : (j : Int) = o + k) (ht : Nat.beq t' 1 = !Nat.beq t 1) (hk' : k' = k + 1)
    (hs : s' = s + (if Nat.beq t 1 then L.getD j 0 * 256 else L.getD j 0)) : U.netI h s0 L o n t' k' s' := by
  obtain ⟨i, h1, h2, h3⟩ := hI
  have hlen := sub_len L o n hl
  refine ⟨i + 1, by rw [hk', h1]; simp, by omega, ?_⟩
  have hji : j = o + i := by omega
  rw [take_get (by omega), fold_snoc, h3, sub_get L o n i hl (by omega), ht, hs, hji]
theorem netI_bnd {h : Bool} {s0 : Int} {L : List Int} {o n t : Nat} {k s : Int} (hI : U.netI h s0 L o n t k s) (hb : byteL L) (hn : n ≤ 900) : 0 ≤ k ∧ k ≤ 900 ∧ s0 ≤ s ∧ s ≤ s0 + 65280 * 900 := by
  obtain ⟨j, h1, h2, h3⟩ := hI
  have := fold_bnd h s0 (((L.drop o).take n).take j) (byteL_take (byteL_sub hb o n) j)
  rw [h3] at this
  have h4 : (((L.drop o).take n).take j).length ≤ 900 := by simp; omega
  dsimp only at this
  omega
theorem downI_zero (s : Int) (h : 0 ≤ s) : U.downI s s := ⟨h, rfl, Iff.rfl, Int.le_refl _⟩
theorem down_next {s0 x z11 z12 z13 : Int} (hI : U.downI s0 x) (hb : s0 ≤ 4294967295) (hx : 65535 < x) (h11 : z11 = shrI .u64 x 16) (h12 : z12 = andI .u64 x 65535) (h13 : z13 = IntKind.wrap .u64 (z11 + z12)) : U.downI s0 z13 ∧ z13.toNat < x.toNat := by
  obtain ⟨h1, h2, h3, h4⟩ := hI
  have e11 : z11 = x / 65536 := by rw [h11]; exact shr_at 16 (by omega) h1 rfl
  have e12 : z12 = x % 65536 := by rw [h12]; exact and_mask 16 (by omega) (by omega) rfl
  have e13 : z13 = z11 + z12 := wu64 h13 (by omega)
  exact ⟨⟨by omega, by omega, by omega, by omega⟩, by omega⟩
theorem down_end {s0 x z15 z16 : Int} (hI : U.downI s0 x) (h0 : 0 ≤ s0) (hx : ¬ 65535 < x) (h15 : z15 = IntKind.wrap .u16 x) (h16 : z16 = xorI .u16 65535 z15) : z16 = netS s0 := by
  obtain ⟨h1, h2, h3, h4⟩ := hI
  have e15 : z15 = x := wu16 h15 (by omega)
  rw [h16, e15, xor_full16 (by omega)]
  unfold netS
  by_cases hz : s0 = 0
  · rw [if_pos hz]; omega
  · rw [if_neg hz]; split <;> omega

def P3.sub (p : P3) : List Int := (p.L.drop p.o).take p.n
structure P3.Ok (p : P3) : Prop where
  b : byteL p.L
  l : p.o + p.n ≤ p.L.length
  n : p.n ≤ 900
structure U.B (L : List Int) : Prop where
  out : byteL L
def U.S (L : List Int) (o n : Nat) : Int := netS (fold (true, 0) ((L.drop o).take n)).2
def U.S2 (L M : List Int) (o n o' n' : Nat) : Int := netS (fold (true, 0) ((L.drop o).take n ++ (M.drop o').take n')).2
def tRefNet : Tbl := fun _ _ _ => none
def tNet : Tbl := fun _ _ _ => none
theorem tRefNet_ok : TblOk Tryd.prog tRefNet := by intro f tm σ C h; cases h
theorem tNet_ok : TblOk Tryd.prog tNet := by intro f tm σ C h; cases h
end Go.Proofs.YtlfigaddddncmaaDoor
end

section
namespace Go.Proofs.YtlfigaddddncmaaDoor
open Go Reck
set_option linter.unusedVariables false
def tF1 : Tbl := tblOr tNet tBitsAll
theorem tF1_ok : TblOk Tryd.prog tF1 := tblOr_ok tNet_ok tBitsAll_ok
/-- A frame as the program has it. -/
def frA (dst src type op sha spa tha tpa fr to proto ttl id sport dport seq ack flags win : Int) (body : Cell) : AV := .inl (.inr [xintC .u64 dst, xintC .u64 src, xintC .i64 type, xintC .i64 op, xintC .u64 sha, xintC .u64 tha, xintC .u32 spa, xintC .u32 tpa, xintC .u32 fr, xintC .u32 to, xintC .i64 proto, xintC .i64 ttl, xintC .i64 id, xintC .i64 sport, xintC .i64 dport, xintC .u32 seq, xintC .u32 ack, xintC .i64 flags, xintC .i64 win, body])
def arpA (op sha spa tha tpa : Int) : AV := .inl (.inr [xintC .i64 op, xintC .u64 sha, xintC .u64 tha, xintC .u32 spa, xintC .u32 tpa])
def headA (fr to proto ttl id : Int) : AV := .inl (.inr [xintC .u32 fr, xintC .u32 to, xintC .i64 proto, xintC .i64 ttl, xintC .i64 id])
def endsA (sport dport seq ack flags win : Int) : AV := .inl (.inr [xintC .i64 sport, xintC .i64 dport, xintC .u32 seq, xintC .u32 ack, xintC .i64 flags, xintC .i64 win])
set_option maxRecDepth 100000
theorem ends_vc (K : AV → St → Prop) (p : Int) : (runI inv0 tF1 60 [xi .i64 p] emptySt K) = ((p = (17 : Int) → K (Sum.inr [Sum.inl (Sum.inr (Sum.inr (Sum.inr (Sum.inr (Sum.inr (Sum.inr (Sum.inl (IntKind.i64, (8 : Int))))))))), Sum.inl (Sum.inr (Sum.inr (Sum.inr (Sum.inr (Sum.inr (Sum.inr (Sum.inl (IntKind.i64, (6 : Int)))))))))]) { heap := [], ints := [], opqs := (0 : Nat), arrs := [], junks := (0 : Nat) }) ∧ (¬p = (17 : Int) → (p = (6 : Int) → K (Sum.inr [Sum.inl (Sum.inr (Sum.inr (Sum.inr (Sum.inr (Sum.inr (Sum.inr (Sum.inl (IntKind.i64, (20 : Int))))))))), Sum.inl (Sum.inr (Sum.inr (Sum.inr (Sum.inr (Sum.inr (Sum.inr (Sum.inl (IntKind.i64, (16 : Int)))))))))]) { heap := [], ints := [], opqs := (0 : Nat), arrs := [], junks := (0 : Nat) }) ∧ (¬p = (6 : Int) → K (Sum.inr [Sum.inl (Sum.inr (Sum.inr (Sum.inr (Sum.inr (Sum.inr (Sum.inr (Sum.inl (IntKind.i64, (0 : Int))))))))), Sum.inl (Sum.inr (Sum.inr (Sum.inr (Sum.inr (Sum.inr (Sum.inr (Sum.inl (IntKind.i64, (0 : Int)))))))))]) { heap := [], ints := [], opqs := (0 : Nat), arrs := [], junks := (0 : Nat) }))) := by kernel_rfl
end Go.Proofs.YtlfigaddddncmaaDoor
end

section
set_option linter.unusedVariables false
set_option linter.unusedSimpArgs false
namespace Go.Proofs.YtlfigaddddncmaaDoor
open Go Reck

def U.en (p : Int) : Int := if p = 17 then 8 else if p = 6 then 20 else 0
def U.ea (p : Int) : Int := if p = 17 then 6 else if p = 6 then 16 else 0
theorem ends_run (K : AV → St → Prop) (p : Int) (h : K (.inr [.inl (xintC .i64 (U.en p)), .inl (xintC .i64 (U.ea p))]) emptySt) : runI inv0 tF1 60 [xi .i64 p] emptySt (opn K) := by
  rw [ends_vc]
  unfold U.en U.ea at h
  refine ⟨fun h1 => ?_, fun h1 => ⟨fun h2 => ?_, fun h2 => ?_⟩⟩
  · rw [if_pos h1, if_pos h1] at h; exact h
  · rw [if_neg h1, if_neg h1, if_pos h2, if_pos h2] at h; exact h
  · rw [if_neg h1, if_neg h1, if_neg h2, if_neg h2] at h; exact h

theorem bp {L : List Int} {N : Int} {m c cap : Nat} {l : List Bool} {n : Int} {vs : List Int} (h1 : U.Out L N l) (h2 : m = L.length) (h3 : c ≤ cap) (h4 : m ≤ c) (h5 : 1 ≤ n ∧ n ≤ 64) (h6 : N + vs.length * n ≤ 524288) (h7 : ∀ v ∈ vs, 0 ≤ v ∧ v ≤ 18446744073709551615) : U.BitsPre L N m c cap l n vs := ⟨⟨h1, h2, h3, h4, h5, h6, h7⟩⟩
theorem in1 {a : Int} (h : 0 ≤ a ∧ a ≤ 18446744073709551615) : ∀ v ∈ [a], 0 ≤ v ∧ v ≤ 18446744073709551615 := by simpa using h
theorem in2 {a b : Int} (h : 0 ≤ a ∧ a ≤ 18446744073709551615) (k : 0 ≤ b ∧ b ≤ 18446744073709551615) : ∀ v ∈ [a, b], 0 ≤ v ∧ v ≤ 18446744073709551615 := by simpa using ⟨h, k⟩
theorem in3 {a b c : Int} (h : 0 ≤ a ∧ a ≤ 18446744073709551615) (k : 0 ≤ b ∧ b ≤ 18446744073709551615) (j : 0 ≤ c ∧ c ≤ 18446744073709551615) : ∀ v ∈ [a, b, c], 0 ≤ v ∧ v ≤ 18446744073709551615 := by simpa using ⟨h, k, j⟩
theorem in4 {a b c d : Int} (h : 0 ≤ a ∧ a ≤ 18446744073709551615) (k : 0 ≤ b ∧ b ≤ 18446744073709551615) (j : 0 ≤ c ∧ c ≤ 18446744073709551615) (i : 0 ≤ d ∧ d ≤ 18446744073709551615) : ∀ v ∈ [a, b, c, d], 0 ≤ v ∧ v ≤ 18446744073709551615 := by simpa using ⟨h, k, j, i⟩

/-- What an Out is asked to be. -/
structure U.OutP (L : List Int) (N : Int) (m c cap : Nat) (l : List Bool) : Prop where
  out : U.Out L N l ∧ m = L.length ∧ c ≤ cap ∧ m ≤ c
def outPost (K : AV → St → Prop) (v : AV) (l : List Bool) : Prop := ∀ (L' : List Int) (m' c' cap' : Nat) (N' : Int), U.OutP L' N' m' c' cap' l → N' = l.length → K v (outSt' L' m' c' cap' N')
theorem out_len {L : List Int} {N : Int} {l : List Bool} (h : U.Out L N l) : N = l.length := by
  obtain ⟨_, _, _, h, _⟩ := h; exact h

def U.arpL (l : List Bool) (op sha spa tha tpa : Int) : List Bool := U.apps (U.apps (U.apps (U.apps (U.apps (U.apps (U.apps l 16 [1, 2048]) 8 [6, 4]) 16 [op]) 48 [sha]) 32 [spa]) 48 [tha]) 32 [tpa]
def U.headL (l : List Bool) (fr to proto ttl id len : Int) : List Bool := U.apps (U.apps (U.apps (U.apps (U.apps (U.apps l 4 [4, 5]) 8 [0]) 16 [len, id, 0]) 8 [ttl, proto]) 16 [0]) 32 [fr, to]
def U.endsL (l : List Bool) (sport dport seq ack flags win p len : Int) : List Bool :=
  if p = 17 then U.apps l 16 [sport, dport, len, 0] else if p = 6 then U.apps (U.apps (U.apps (U.apps (U.apps l 16 [sport, dport]) 32 [seq, ack]) 4 [5, 0]) 8 [flags]) 16 [win, 0, 0] else l
/-- The bytes over which the sum of UDP and TCP goes, ahead of all from the ports on. -/
def U.preL (fr to proto n : Int) : List Bool := U.apps (U.apps (U.apps [] 32 [fr, to]) 8 [0, proto]) 16 [n]
structure U.EsIn (A : List Int) (fr to proto n : Int) : Prop where
  out : U.Out A 96 (U.preL fr to proto n)
def U.es (A L : List Int) (o n : Nat) (proto : Int) : Int := if U.S2 A L 0 12 o n = 0 ∧ proto = 17 then 65535 else U.S2 A L 0 12 o n
end Go.Proofs.YtlfigaddddncmaaDoor
end

section
set_option linter.unusedVariables false
set_option linter.unusedSimpArgs false
namespace Go.Proofs.YtlfigaddddncmaaDoor
open Go Reck

def tEnds : Tbl := fun f args σ => if f == 60 then match args, σ with
    | [p], ⟨[], [], 0, [], 0⟩ => match xiX p with
      | some (.i64, p) => some fun K => ∀ a b : Int, a = U.en p → b = U.ea p → K (.inr [.inl (xintC .i64 a), .inl (xintC .i64 b)]) emptySt
      | _ => none
    | _, _ => none
  else none
theorem tEnds_ok : TblOk Tryd.prog tEnds := by
  intro f tm σ C h K hK
  unfold tEnds at h
  split at h
  · rename_i hf
    obtain rfl : f = 60 := by simpa using hf
    split at h
    · split at h
      · rename_i p hp
        obtain rfl := xiX_eq hp
        simp only [Option.some.injEq] at h; subst h
        intro w0 en w hok vs hvs
        exact calls_open (knownC noOv names (conOk_of tF1_ok) (ends_run K p (hK _ _ rfl rfl)) w0 en w hok vs hvs)
      · cases h
    · cases h
  · cases h
def intsK : List IntKind → List Cell → Option (List Int)
  | [], [] => some []
  | k :: ks, c :: l => match xiX (cell c), intsK ks l with
    | some (k', v), some vs => if decide (k' = k) then some (v :: vs) else none
    | _, _ => none
  | _, _ => none
def mkK : List IntKind → List Int → List Cell
  | k :: ks, v :: vs => xintC k v :: mkK ks vs
  | _, _ => []
theorem intsK_eq : ∀ {ks : List IntKind} {l : List Cell} {vs : List Int}, intsK ks l = some vs → l = mkK ks vs ∧ vs.length = ks.length
  | [], [], vs, h => by simp only [intsK, Option.some.injEq] at h; subst h; exact ⟨rfl, rfl⟩
  | [], _ :: _, vs, h => by simp [intsK] at h
  | _ :: _, [], vs, h => by simp [intsK] at h
  | k :: ks, c :: l, vs, h => by
    simp only [intsK] at h
    split at h
    · rename_i k' v vs' h1 h2
      split at h
      · rename_i hk
        simp only [decide_eq_true_eq] at hk; subst hk
        simp only [Option.some.injEq] at h; subst h
        obtain ⟨e1, e2⟩ := intsK_eq h2
        rw [e1, cell_inj (xiX_eq h1)]
        exact ⟨rfl, by simp [e2]⟩
      · cases h
    · cases h
def kArp : List IntKind := [.i64, .u64, .u64, .u32, .u32]
def kHead : List IntKind := [.u32, .u32, .i64, .i64, .i64]
def kEnds : List IntKind := [.i64, .i64, .u32, .u32, .i64, .i64]
def tArp : Tbl := fun _ _ _ => none
def tHead : Tbl := fun _ _ _ => none
def tWEnds : Tbl := fun _ _ _ => none
def tESum : Tbl := fun _ _ _ => none
theorem tArp_ok : TblOk Tryd.prog tArp := by intro f tm σ C h; cases h
theorem tHead_ok : TblOk Tryd.prog tHead := by intro f tm σ C h; cases h
theorem tWEnds_ok : TblOk Tryd.prog tWEnds := by intro f tm σ C h; cases h
theorem tESum_ok : TblOk Tryd.prog tESum := by intro f tm σ C h; cases h
def tF3 : Tbl := tblOr tF1 (tblOr tEnds (tblOr tArp (tblOr tHead (tblOr tWEnds tESum))))
theorem tF3_ok : TblOk Tryd.prog tF3 := tblOr_ok tF1_ok (tblOr_ok tEnds_ok (tblOr_ok tArp_ok (tblOr_ok tHead_ok (tblOr_ok tWEnds_ok tESum_ok))))
end Go.Proofs.YtlfigaddddncmaaDoor
end

section
namespace Go.Proofs.YtlfigaddddncmaaDoor
open Go Reck
set_option linter.unusedVariables false
set_option maxRecDepth 100000
theorem sizeT_vc (K : AV → St → Prop) (dst src type op sha spa tha tpa fr to proto ttl id sport dport seq ack flags win : Int) (B : List Int) (o n c cap : Nat) : (runI inv0 tF3 42 [frA dst src type op sha spa tha tpa fr to proto ttl id sport dport seq ack flags win (aslC ⟨0, o, n, c⟩)] (ar [bs B cap true]) K) = (∀ (z0 : Int), z0 = (↑n : Int) → ∀ (z1 : Int), z1 = IntKind.wrap IntKind.i64 ((14 : Int) + z0) → (type = (2054 : Int) → ∀ (z2 : Int), z2 = IntKind.wrap IntKind.i64 (z1 + (28 : Int)) → K (Sum.inl (Sum.inl (Sum.inr (Sum.inr (Sum.inr (Sum.inr (Sum.inr (Sum.inr (Sum.inl (IntKind.i64, z2)))))))))) { heap := [], ints := [], opqs := (0 : Nat), arrs := [some { elem := OfNat.ofNat (5 : Nat), k := AK.n IntKind.u8, l := B, cap := cap, ro := true }], junks := (0 : Nat) }) ∧ (¬type = (2054 : Int) → (type = (2048 : Int) → ∀ (a3 b4 : Int), a3 = U.en proto → b4 = U.ea proto → ∀ (z5 : Int), z5 = IntKind.wrap IntKind.i64 ((20 : Int) + a3) → ∀ (z6 : Int), z6 = IntKind.wrap IntKind.i64 (z1 + z5) → K (Sum.inl (Sum.inl (Sum.inr (Sum.inr (Sum.inr (Sum.inr (Sum.inr (Sum.inr (Sum.inl (IntKind.i64, z6)))))))))) { heap := [], ints := [], opqs := (0 : Nat), arrs := [some { elem := OfNat.ofNat (5 : Nat), k := AK.n IntKind.u8, l := B, cap := cap, ro := true }], junks := (0 : Nat) }) ∧ (¬type = (2048 : Int) → K (Sum.inl (Sum.inl (Sum.inr (Sum.inr (Sum.inr (Sum.inr (Sum.inr (Sum.inr (Sum.inl (IntKind.i64, z1)))))))))) { heap := [], ints := [], opqs := (0 : Nat), arrs := [some { elem := OfNat.ofNat (5 : Nat), k := AK.n IntKind.u8, l := B, cap := cap, ro := true }], junks := (0 : Nat) }))) := by kernel_rfl
theorem sizeF_vc (K : AV → St → Prop) (dst src type op sha spa tha tpa fr to proto ttl id sport dport seq ack flags win : Int) (B : List Int) (o n c cap : Nat) : (runI inv0 tF3 42 [frA dst src type op sha spa tha tpa fr to proto ttl id sport dport seq ack flags win (aslC ⟨0, o, n, c⟩)] (ar [bs B cap false]) K) = (∀ (z0 : Int), z0 = (↑n : Int) → ∀ (z1 : Int), z1 = IntKind.wrap IntKind.i64 ((14 : Int) + z0) → (type = (2054 : Int) → ∀ (z2 : Int), z2 = IntKind.wrap IntKind.i64 (z1 + (28 : Int)) → K (Sum.inl (Sum.inl (Sum.inr (Sum.inr (Sum.inr (Sum.inr (Sum.inr (Sum.inr (Sum.inl (IntKind.i64, z2)))))))))) { heap := [], ints := [], opqs := (0 : Nat), arrs := [some { elem := OfNat.ofNat (5 : Nat), k := AK.n IntKind.u8, l := B, cap := cap, ro := false }], junks := (0 : Nat) }) ∧ (¬type = (2054 : Int) → (type = (2048 : Int) → ∀ (a3 b4 : Int), a3 = U.en proto → b4 = U.ea proto → ∀ (z5 : Int), z5 = IntKind.wrap IntKind.i64 ((20 : Int) + a3) → ∀ (z6 : Int), z6 = IntKind.wrap IntKind.i64 (z1 + z5) → K (Sum.inl (Sum.inl (Sum.inr (Sum.inr (Sum.inr (Sum.inr (Sum.inr (Sum.inr (Sum.inl (IntKind.i64, z6)))))))))) { heap := [], ints := [], opqs := (0 : Nat), arrs := [some { elem := OfNat.ofNat (5 : Nat), k := AK.n IntKind.u8, l := B, cap := cap, ro := false }], junks := (0 : Nat) }) ∧ (¬type = (2048 : Int) → K (Sum.inl (Sum.inl (Sum.inr (Sum.inr (Sum.inr (Sum.inr (Sum.inr (Sum.inr (Sum.inl (IntKind.i64, z1)))))))))) { heap := [], ints := [], opqs := (0 : Nat), arrs := [some { elem := OfNat.ofNat (5 : Nat), k := AK.n IntKind.u8, l := B, cap := cap, ro := false }], junks := (0 : Nat) }))) := by kernel_rfl
end Go.Proofs.YtlfigaddddncmaaDoor
end

section
set_option linter.unusedVariables false
set_option linter.unusedSimpArgs false
namespace Go.Proofs.YtlfigaddddncmaaDoor
open Go Reck

def U.size (type p n : Int) : Int := if type = 2054 then 42 + n else if type = 2048 then 34 + U.en p + n else 14 + n
theorem en_bnd (p : Int) : 0 ≤ U.en p ∧ U.en p ≤ 20 := by unfold U.en; split <;> (try split) <;> omega
theorem ea_bnd (p : Int) : 0 ≤ U.ea p ∧ U.ea p ≤ 16 := by unfold U.ea; split <;> (try split) <;> omega
theorem en_ea (p : Int) (h : ¬ U.en p = 0) : U.ea p + 2 ≤ U.en p ∧ 8 ≤ U.en p := by
  unfold U.en at *; unfold U.ea; split <;> (try split) <;> simp_all
structure U.Seal (L : List Int) (type p fr to : Int) (L' : List Int) : Prop where
  no : ¬ type = 2048 → L' = L
  one : type = 2048 → U.en p = 0 → U.Sto L 192 16 (U.S L 14 20) L'
  two : type = 2048 → ¬ U.en p = 0 → ∃ A L1, U.EsIn A fr to p (L.length - 34) ∧ U.Sto L 192 16 (U.S L 14 20) L1 ∧ U.Sto L1 (8 * (34 + U.ea p)) 16 (U.es A L 34 (L.length - 34) p) L'
theorem out_by {L : List Int} {N : Int} {l : List Bool} (h : U.Out L N l) : U.By L := by
  obtain ⟨cs, h1, h2, _⟩ := h
  exact ⟨cs, h1, h2.1⟩
theorem by_B {L : List Int} (h : U.By L) : U.B L := by
  obtain ⟨cs, h1, h2⟩ := h
  refine ⟨fun x hx => ?_⟩
  rw [h1] at hx
  obtain ⟨y, hy, rfl⟩ := List.mem_map.1 hx
  have := h2 y hy; omega
theorem out_mod {L : List Int} {N : Int} {l : List Bool} (h : U.Out L N l) : (L.length : Int) = (N + 7) / 8 := by
  obtain ⟨cs, h1, h2, h3, _⟩ := h
  have := h2.2.1
  rw [h1, nz_length, this, h3]; omega
theorem sto_len {L L' : List Int} {a n v : Int} (h : U.Sto L a n v L') : L'.length = L.length := by
  obtain ⟨cs, ds, h1, h2, h3⟩ := h
  rw [h1, h2, nz_length, nz_length, h3.1]
theorem sto_by {L L' : List Int} {a n v : Int} (h : U.Sto L a n v L') : U.By L' := by
  obtain ⟨cs, ds, h1, h2, h3⟩ := h
  exact ⟨ds, h2, h3.2.1⟩
theorem netS_bnd {s : Int} (h : 0 ≤ s) : 0 ≤ netS s ∧ netS s ≤ 65535 := by
  unfold netS
  split
  · omega
  · split <;> omega
theorem S_bnd {L : List Int} (h : U.B L) (o n : Nat) : 0 ≤ U.S L o n ∧ U.S L o n ≤ 65535 :=
  netS_bnd (fold_bnd true 0 _ (byteL_sub h.out o n)).1
theorem S2_bnd {L M : List Int} (h : U.B L) (h' : U.B M) (o n o' n' : Nat) : 0 ≤ U.S2 L M o n o' n' ∧ U.S2 L M o n o' n' ≤ 65535 := by
  refine netS_bnd (fold_bnd true 0 _ ?_).1
  intro x hx
  rcases List.mem_append.1 hx with hx | hx
  · exact byteL_sub h.out o n x hx
  · exact byteL_sub h'.out o' n' x hx
theorem es_bnd {A L : List Int} (h : U.B A) (h' : U.B L) (o n : Nat) (p : Int) : 0 ≤ U.es A L o n p ∧ U.es A L o n p ≤ 65535 := by
  have := S2_bnd h h' 0 12 o n
  unfold U.es
  split <;> omega
theorem cut14 {c o a m : Nat} (h : 34 ≤ c) (ho : (o : Int) = if ((⟨a, 0, m, c⟩ : ASl).c : Int) = 14 then ((0 : Nat) : Int) else ((0 : Nat) : Int) + 14) : o = 14 := by
  dsimp only at ho
  rw [if_neg (by omega)] at ho; omega
theorem sizeT_run (K : AV → St → Prop) (dst src type op sha spa tha tpa fr to proto ttl id sport dport seq ack flags win : Int) (B : List Int) (o n c cap : Nat) (hn : n ≤ 16777216) (h : K (xi .i64 (U.size type proto n)) (ar [bs B cap true])) : runI inv0 tF3 42 [frA dst src type op sha spa tha tpa fr to proto ttl id sport dport seq ack flags win (aslC ⟨0, o, n, c⟩)] (ar [bs B cap true]) K := by
  rw [sizeT_vc]
  unfold U.size at h
  intro z0 h0 z1 h1
  have e1 := w64 h1 (by omega)
  refine ⟨fun ht z2 h2 => ?_, fun ht => ⟨fun ht2 a3 b4 h3 h4 z5 h5 z6 h6 => ?_, fun ht2 => ?_⟩⟩
  · have e2 := w64 h2 (by omega)
    rw [if_pos ht] at h
    have : z2 = 42 + (n : Int) := by omega
    rw [this]; exact h
  · have hb := en_bnd proto
    have e5 := w64 h5 (by omega)
    have e6 := w64 h6 (by omega)
    rw [if_neg ht, if_pos ht2] at h
    have : z6 = 34 + U.en proto + (n : Int) := by omega
    rw [this]; exact h
  · rw [if_neg ht, if_neg ht2] at h
    have : z1 = 14 + (n : Int) := by omega
    rw [this]; exact h
theorem sizeF_run (K : AV → St → Prop) (dst src type op sha spa tha tpa fr to proto ttl id sport dport seq ack flags win : Int) (B : List Int) (o n c cap : Nat) (hn : n ≤ 16777216) (h : K (xi .i64 (U.size type proto n)) (ar [bs B cap false])) : runI inv0 tF3 42 [frA dst src type op sha spa tha tpa fr to proto ttl id sport dport seq ack flags win (aslC ⟨0, o, n, c⟩)] (ar [bs B cap false]) K := by
  rw [sizeF_vc]
  unfold U.size at h
  intro z0 h0 z1 h1
  have e1 := w64 h1 (by omega)
  refine ⟨fun ht z2 h2 => ?_, fun ht => ⟨fun ht2 a3 b4 h3 h4 z5 h5 z6 h6 => ?_, fun ht2 => ?_⟩⟩
  · have e2 := w64 h2 (by omega)
    rw [if_pos ht] at h
    have : z2 = 42 + (n : Int) := by omega
    rw [this]; exact h
  · have hb := en_bnd proto
    have e5 := w64 h5 (by omega)
    have e6 := w64 h6 (by omega)
    rw [if_neg ht, if_pos ht2] at h
    have : z6 = 34 + U.en proto + (n : Int) := by omega
    rw [this]; exact h
  · rw [if_neg ht, if_neg ht2] at h
    have : z1 = 14 + (n : Int) := by omega
    rw [this]; exact h
end Go.Proofs.YtlfigaddddncmaaDoor
end

section
set_option linter.unusedVariables false
set_option linter.unusedSimpArgs false
namespace Go.Proofs.YtlfigaddddncmaaDoor
open Go Reck

def kFr : List IntKind := [.u64, .u64, .i64, .i64, .u64, .u64, .u32, .u32, .u32, .u32, .i64, .i64, .i64, .i64, .i64, .u32, .u32, .i64, .i64]
def frX (l : List Cell) : Option (List Int × Cell) :=
  match intsK kFr (l.take 19), l.drop 19 with
  | some vs, [b] => some (vs, b)
  | _, _ => none
theorem frX_eq {l : List Cell} {vs : List Int} {b : Cell} (h : frX l = some (vs, b)) : l = mkK kFr vs ++ [b] := by
  unfold frX at h
  split at h
  · rename_i vs' b' h1 h2
    simp only [Option.some.injEq, Prod.mk.injEq] at h
    obtain ⟨rfl, rfl⟩ := h
    rw [← (intsK_eq h1).1, ← h2, List.take_append_drop]
  · cases h
def tSize : Tbl := fun f args σ => if f == 42 then match args, σ with
    | [.inl (.inr l)], ⟨[], [], 0, [some ⟨5, .n .u8, B, cap, ro⟩], 0⟩ => match frX l with
      | some ([dst, src, type, op, sha, tha, spa, tpa, fr, to, proto, ttl, id, sport, dport, seq, ack, flags, win], b) => match aslX (cell b) with
        | some ⟨0, o, n, c⟩ => some fun K => n ≤ 16777216 ∧ ∀ z : Int, z = U.size type proto n → K (xi .i64 z) (ar [bs B cap ro])
        | _ => none
      | _ => none
    | _, _ => none
  else none
def tSeal : Tbl := fun _ _ _ => none
theorem tSize_ok : TblOk Tryd.prog tSize := by
  intro f tm σ C h K hK
  unfold tSize at h
  split at h
  · rename_i hf
    obtain rfl : f = 42 := by simpa using hf
    split at h
    · rename_i B cap ro
      split at h
      · rename_i dst src type op sha tha spa tpa fr to proto ttl id sport dport seq ack flags win b hl
        obtain rfl := frX_eq hl
        split at h
        · rename_i o n c hs
          obtain rfl := cell_inj (aslX_eq hs)
          simp only [Option.some.injEq] at h; subst h
          cases ro with
          | true => exact knownC noOv names (conOk_of tF3_ok) (sizeT_run K dst src type op sha spa tha tpa fr to proto ttl id sport dport seq ack flags win B o n c cap hK.1 (hK.2 _ rfl))
          | false => exact knownC noOv names (conOk_of tF3_ok) (sizeF_run K dst src type op sha spa tha tpa fr to proto ttl id sport dport seq ack flags win B o n c cap hK.1 (hK.2 _ rfl))
        · cases h
      · cases h
    · cases h
  · cases h
theorem tSeal_ok : TblOk Tryd.prog tSeal := by intro f tm σ C h; cases h
def tF6 : Tbl := tblOr tF3 (tblOr tSize tSeal)
theorem tF6_ok : TblOk Tryd.prog tF6 := tblOr_ok tF3_ok (tblOr_ok tSize_ok tSeal_ok)
end Go.Proofs.YtlfigaddddncmaaDoor
end
