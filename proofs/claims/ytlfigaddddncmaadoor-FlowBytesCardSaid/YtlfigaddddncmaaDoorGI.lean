/- Parts of a proof, one behind the other: SI YR YS YT YU YV YW. No condition. -/
import Derived.Test.YtlfigaddddncmaaDoorGA
import Derived.Test.YtlfigaddddncmaaDoorRkG
import Derived.Shelf.Strconv.Itoa3
import Derived.Lib.AppendIntMem
import Derived.Test.YtlfigaddddncmaaDoorGD
section
set_option linter.unusedVariables false
set_option maxRecDepth 100000
namespace Go.Proofs.YtlfigaddddncmaaDoor
open Go Reck Ost
def itoaRen : Go.Shelf.Ren := ⟨fun f => match f with
  | 129 => 72
  | 171 => 49
  | 243 => 63
  | 246 => 66
  | 283 => 67
  | 284 => 68
  | 285 => 69
  | 286 => 70
  | 317 => 71
  | 318 => 73
  | 319 => 74
  | 320 => 75
  | 337 => 76
  | 338 => 77
  | f => f, fun t => match t with
  | 0 => 0
  | 2 => 2
  | 3 => 3
  | 4 => 4
  | 5 => 5
  | 9 => 9
  | 20 => 20
  | 37 => 24
  | 46 => 115
  | 51 => 23
  | 53 => 22
  | 171 => 106
  | 173 => 109
  | 212 => 113
  | 213 => 114
  | 232 => 118
  | 233 => 119
  | t => t, fun g => match g with
  | 17 => 1
  | 18 => 2
  | 19 => 3
  | g => g⟩
theorem itoaLays : LaysM.n171 Tryd.prog itoaRen := by
  apply LaysM.n171.mk
  · apply Lays.n171.mk
    all_goals (first | (intro w; kernel_rfl) | kernel_rfl)
  all_goals (first | (intro w; kernel_rfl) | kernel_rfl)
/-- A number's decimal numeral, as bytes. -/
def U.itoa (n : Int) : List Int := (Lib.itoa n).map fun b => (b.toNat : Int)
theorem tab_pow {w0 w : World} {e : Env} {σ : St} (hk : Ok w0 e σ w) {vs : List Value} (h : globAt 1 σ.arrs = some vs) (hv : vs = Lib.pow10Tab.map fun z => Value.int .u64 z) : Lib.TabIs Tryd.prog w "internal/strconv.uint64pow10" .u64 Lib.pow10Tab := by
  subst hv
  obtain ⟨cur, el, fz, h1, h2, _⟩ := hk.globVal h
  unfold Lib.TabIs World.var?
  rw [show Tryd.prog.globalNamed "internal/strconv.uint64pow10" = some 1 by kernel_rfl]
  simp only [Option.bind_some, h1]
  rw [Option.some.injEq]
  apply Array.toList_inj.1
  rw [h2]
theorem itoa_str (n : Int) : strZ (U.itoa n) = ⟨(Lib.itoa n).toArray⟩ ∧ (U.itoa n).all byteZ = true := by
  have h := strZ_lit ⟨(Lib.itoa n).toArray⟩
  exact ⟨h, byteZ_lit ⟨(Lib.itoa n).toArray⟩⟩
structure U.isPow (vs : List Value) : Prop where
  out : vs = Lib.pow10Tab.map fun z => Value.int .u64 z
def tItoa : Tbl := fun f args σ => if f == 49 then match args with
    | [n] => match xiX n, globAt 1 σ.arrs with
      | some (.i64, n), some vs => some fun K => (U.isPow vs ∧ -9223372036854775808 ≤ n ∧ n ≤ 9223372036854775807) ∧ ∀ l : List Int, l = U.itoa n → K (cell (strC l)) σ
      | _, _ => none
    | _ => none
  else none
theorem tItoa_ok : TblOk Tryd.prog tItoa := by
  intro f tm σ C h K hK w0 e w hk vs hvs
  unfold tItoa at h
  split at h
  · rename_i hf
    obtain rfl : f = 49 := by simpa using hf
    split at h
    · split at h
      · rename_i n ps hn hg
        obtain rfl := xiX_eq hn
        simp only [Option.some.injEq] at h; subst h
        obtain ⟨⟨⟨h1⟩, h2, h3⟩, h4⟩ := hK
        obtain ⟨v, rfl⟩ : ∃ v, vs = [v] := by
          match vs, map_len hvs with
          | [v], _ => exact ⟨v, rfl⟩
        simp only [List.map_cons, List.map_nil, List.cons.injEq, and_true] at hvs
        obtain rfl : v = .int .i64 n := by
          have : Reck.av e (xi .i64 n) = some (.int .i64 n) := rfl
          rw [this] at hvs; exact (Option.some.inj hvs).symm
        refine (Any.strconv_Itoa itoaLays n h2 h3 w (tab_pow hk hg h1)).mono ?_
        rintro en w' ⟨rfl, k, os, rfl⟩
        have hb := Lib.below_grow w.heap.size w (Nat.le_refl _) k os
        have hs := itoa_str n
        refine ⟨_, _, e, _, rfl, Env.le.refl e, ?_, hk.world ⟨hb.os, hb.tape, hb.output, hb.size, fun k hk _ => hb.block k hk⟩, h4 _ rfl⟩
        rw [strC_av hs.2 e, hs.1]
      · cases h
    · cases h
  · cases h
end Go.Proofs.YtlfigaddddncmaaDoor
end

section
namespace Go.Proofs.YtlfigaddddncmaaDoor
open Go Reck
set_option linter.unusedVariables false
structure U.digI (n0 : Int) (t : Nat) (n : Int) (s : List Int) : Prop where
  out : 0 ≤ n ∧ n ≤ n0 ∧ (t = 0 → s = []) ∧ U.itoa n0 = U.itoa n ++ s
def digInv (c : Code) (tm : List AV) : Inv where
  X := Int × List Int
  tags := [0, 1]
  tag tm _ := match tm.getD 3 (lit undef) with
    | .inl (.inl (.inl _)) => 0
    | _ => 1
  J := wrBut [0, 3] c
  val t x := if Nat.beq t 0 then [(0, xi .i64 x.1), (3, lit (.string ⟨#[]⟩))] else [(0, xi .i64 x.1), (3, cell (strC x.2))]
  st _ _ σ' := σ'
  I t x := U.digI (slotI tm 0) t x.1 x.2
  m _ x := x.1.toNat
  ren := noRen
def invYR : InvF := fun c tm σ => match tm.length, firstReg c with
  | 23, some 2 => some (digInv c tm)
  | _, _ => none
set_option maxRecDepth 100000
--PLAIN
theorem digits_vc (K : AV → St → Prop) (n : Int) : (runI invYR tbl0 31 [xi .i64 n] emptySt K) = ((∃ (y0 : Int × List Int), n = Prod.fst y0 ∧ U.digI n ((0 : Nat)) (Prod.fst y0) (Prod.snd y0)) ∧ (∀ (x1 : Int × List Int), U.digI n (0 : Nat) (Prod.fst x1) (Prod.snd x1) → ((9 : Int) < Prod.fst x1 → ¬(10 : Int) = (0 : Int) ∧ ∀ (z2 : Int), z2 = Int.tmod (Prod.fst x1) (10 : Int) → ∀ (z3 : Int), z3 = IntKind.wrap IntKind.u8 z2 → ∀ (z4 : Int), z4 = IntKind.wrap IntKind.u8 ((48 : Int) + z3) → ∀ (l'5 : List Int), l'5 = [z4] → (Nat.le ((0 : Nat) + (1 : Nat)) (List.length l'5) ∧ ByteL (List.take ((1 : Nat)) (List.drop ((0 : Nat)) l'5))) ∧ ∀ (l'6 : List Int), l'6 = List.take ((1 : Nat)) (List.drop ((0 : Nat)) l'5) → List.length l'6 + (0 : Nat) ≤ (1000000000000 : Nat) ∧ ∀ (l'7 : List Int), l'7 = l'6 ++ [] → ¬(10 : Int) = (0 : Int) ∧ ∀ (z8 : Int), z8 = IntKind.wrap IntKind.i64 (Int.tdiv (Prod.fst x1) (10 : Int)) → ∃ (y9 : Int × List Int), z8 = Prod.fst y9 ∧ l'7 = Prod.snd y9 ∧ U.digI n ((1 : Nat)) (Prod.fst y9) (Prod.snd y9) ∧ Int.toNat (Prod.fst y9) < Int.toNat (Prod.fst x1)) ∧ (¬(9 : Int) < Prod.fst x1 → ∀ (z10 : Int), z10 = IntKind.wrap IntKind.u8 (Prod.fst x1) → ∀ (z11 : Int), z11 = IntKind.wrap IntKind.u8 ((48 : Int) + z10) → ∀ (l'12 : List Int), l'12 = [z11] → (Nat.le ((0 : Nat) + (1 : Nat)) (List.length l'12) ∧ ByteL (List.take ((1 : Nat)) (List.drop ((0 : Nat)) l'12))) ∧ ∀ (l'13 : List Int), l'13 = List.take ((1 : Nat)) (List.drop ((0 : Nat)) l'12) → List.length l'13 + (0 : Nat) ≤ (1000000000000 : Nat) ∧ ∀ (l'14 : List Int), l'14 = l'13 ++ [] → K (Sum.inl (Sum.inl (Sum.inr (Sum.inr (Sum.inr (Sum.inr (Sum.inr (Sum.inr (Sum.inr (Sum.inr (Sum.inr (Sum.inr l'14)))))))))))) { heap := [], ints := [], opqs := (0 : Nat), arrs := [], junks := (0 : Nat) })) ∧ ∀ (x15 : Int × List Int), U.digI n (1 : Nat) (Prod.fst x15) (Prod.snd x15) → ((9 : Int) < Prod.fst x15 → ¬(10 : Int) = (0 : Int) ∧ ∀ (z16 : Int), z16 = Int.tmod (Prod.fst x15) (10 : Int) → ∀ (z17 : Int), z17 = IntKind.wrap IntKind.u8 z16 → ∀ (z18 : Int), z18 = IntKind.wrap IntKind.u8 ((48 : Int) + z17) → ∀ (l'19 : List Int), l'19 = [z18] → (Nat.le ((0 : Nat) + (1 : Nat)) (List.length l'19) ∧ ByteL (List.take ((1 : Nat)) (List.drop ((0 : Nat)) l'19))) ∧ ∀ (l'20 : List Int), l'20 = List.take ((1 : Nat)) (List.drop ((0 : Nat)) l'19) → List.length l'20 + List.length (Prod.snd x15) ≤ (1000000000000 : Nat) ∧ ∀ (l'21 : List Int), l'21 = l'20 ++ Prod.snd x15 → ¬(10 : Int) = (0 : Int) ∧ ∀ (z22 : Int), z22 = IntKind.wrap IntKind.i64 (Int.tdiv (Prod.fst x15) (10 : Int)) → ∃ (y23 : Int × List Int), z22 = Prod.fst y23 ∧ l'21 = Prod.snd y23 ∧ U.digI n ((1 : Nat)) (Prod.fst y23) (Prod.snd y23) ∧ Int.toNat (Prod.fst y23) < Int.toNat (Prod.fst x15)) ∧ (¬(9 : Int) < Prod.fst x15 → ∀ (z24 : Int), z24 = IntKind.wrap IntKind.u8 (Prod.fst x15) → ∀ (z25 : Int), z25 = IntKind.wrap IntKind.u8 ((48 : Int) + z24) → ∀ (l'26 : List Int), l'26 = [z25] → (Nat.le ((0 : Nat) + (1 : Nat)) (List.length l'26) ∧ ByteL (List.take ((1 : Nat)) (List.drop ((0 : Nat)) l'26))) ∧ ∀ (l'27 : List Int), l'27 = List.take ((1 : Nat)) (List.drop ((0 : Nat)) l'26) → List.length l'27 + List.length (Prod.snd x15) ≤ (1000000000000 : Nat) ∧ ∀ (l'28 : List Int), l'28 = l'27 ++ Prod.snd x15 → K (Sum.inl (Sum.inl (Sum.inr (Sum.inr (Sum.inr (Sum.inr (Sum.inr (Sum.inr (Sum.inr (Sum.inr (Sum.inr (Sum.inr l'28)))))))))))) { heap := [], ints := [], opqs := (0 : Nat), arrs := [], junks := (0 : Nat) })) := by kernel_rfl
end Go.Proofs.YtlfigaddddncmaaDoor
end

section
set_option linter.unusedVariables false
set_option linter.unusedSimpArgs false
namespace Go.Proofs.YtlfigaddddncmaaDoor
open Go Reck
theorem itoa_nn {n : Int} (h : 0 ≤ n) : U.itoa n = (Lib.decDigits n.toNat).map fun b => (b.toNat : Int) := by
  unfold U.itoa Lib.itoa; rw [if_neg (by omega)]
theorem digit_val {u : Nat} (h : u < 10) : ((UInt8.ofNat (48 + u)).toNat : Int) = 48 + u := by
  rw [UInt8.toNat_ofNat']; omega
theorem itoa_small {n : Int} (h : 0 ≤ n ∧ n ≤ 9) : U.itoa n = [48 + n] := by
  rw [itoa_nn h.1, Lib.decDigits, dif_pos (by omega)]
  simp only [List.map_cons, List.map_nil]
  rw [digit_val (by omega)]; congr 1; omega
theorem itoa_step {n : Int} (h : 9 < n) : U.itoa n = U.itoa (n / 10) ++ [48 + n % 10] := by
  rw [itoa_nn (by omega), Lib.decDigits, dif_neg (by omega), itoa_nn (n := n / 10) (by omega), List.map_append]
  congr 1
  · congr 2; omega
  · simp only [List.map_cons, List.map_nil]
    rw [digit_val (by omega)]; congr 1; omega
theorem itoa_len (u : Nat) : (Lib.decDigits u).length ≤ u + 1 := by
  induction u using Nat.strongRecOn with
  | _ u ih =>
    rw [Lib.decDigits]
    split
    · simp
    · have := ih (u / 10) (by omega)
      rw [List.length_append]; simp only [List.length_singleton]; omega
theorem itoa_byte (n : Int) : (U.itoa n).all byteZ = true := (itoa_str n).2
theorem itoa_length {n : Int} (h : 0 ≤ n) : (U.itoa n).length ≤ n.toNat + 1 := by
  rw [itoa_nn h, List.length_map]; exact itoa_len _
theorem one_byte {z : Int} (h : 0 ≤ z ∧ z < 256) (n : Nat) : ByteL (List.take n (List.drop (OfNat.ofNat 0) [z])) := by
  refine ⟨List.all_eq_true.2 fun x hx => ?_⟩
  have hm : x ∈ [z] := List.mem_of_mem_drop (List.mem_of_mem_take hx)
  simp only [List.mem_singleton] at hm; subst hm
  simp only [byteZ, decide_eq_true_eq]; exact h
theorem take_one {z : Int} {l l' : List Int} (h : l = [z]) (h' : l' = List.take (OfNat.ofNat 1) (List.drop (OfNat.ofNat 0) l)) : l' = [z] := by
  rw [h', h]; rfl
theorem digits_run (K : AV → St → Prop) (n : Int) (hn : 0 ≤ n ∧ n ≤ 1000000) (h : ∀ l : List Int, l = U.itoa n → K (cell (strC l)) emptySt) : runI invYR tbl0 31 [xi .i64 n] emptySt K := by
  rw [digits_vc]
  have hlen : ∀ {m : Int} {s : List Int}, U.itoa n = U.itoa m ++ s → s.length ≤ 1000001 := fun {m s} e => by
    have h1 := itoa_length hn.1
    rw [e, List.length_append] at h1; omega
  refine ⟨⟨(n, []), rfl, ⟨hn.1, Int.le_refl _, fun _ => rfl, by simp⟩⟩, ?_, ?_⟩
  all_goals
    rintro ⟨m, s⟩ ⟨i1, i2, i3, i4⟩
    dsimp only at i1 i2 i3 i4 ⊢
    have hl := hlen i4
    refine ⟨fun hlt => ⟨by decide, fun z2 h2 z3 h3 z4 h4 l5 h5 => ?_⟩, fun hge z10 h10 z11 h11 l12 h12 => ?_⟩
  · have e2 : z2 = m % 10 := by rw [h2, Int.tmod_eq_emod_of_nonneg i1]
    rw [wrapU8] at h3 h4
    have e4 : z4 = 48 + m % 10 := by omega
    subst h5
    refine ⟨⟨Nat.le_refl _, one_byte (by omega) _⟩, fun l6 h6 => ⟨by rw [take_one rfl h6]; simp only [List.length_singleton]; omega, fun l7 h7 => ⟨by decide, fun z8 h8 => ?_⟩⟩⟩
    have e8 : z8 = m / 10 := by
      have t : Int.tdiv m 10 = m / 10 := Int.tdiv_eq_ediv_of_nonneg i1
      rw [t] at h8; exact w64 h8 (by omega)
    have e6 := take_one rfl h6
    refine ⟨(z8, l7), rfl, rfl, ⟨by dsimp only; omega, by dsimp only; omega, fun h => by omega, ?_⟩, by dsimp only; omega⟩
    dsimp only
    rw [i4, i3 rfl, itoa_step hlt, e8, h7, e6, e4]; simp
  · rw [wrapU8] at h10 h11
    have e11 : z11 = 48 + m := by omega
    subst h12
    refine ⟨⟨Nat.le_refl _, one_byte (by omega) _⟩, fun l6 h6 => ⟨by rw [take_one rfl h6]; simp only [List.length_singleton]; omega, fun l7 h7 => ?_⟩⟩
    have e6 := take_one rfl h6
    exact h l7 (by rw [i4, i3 rfl, itoa_small (by omega), h7, e6, e11])
  · have e2 : z2 = m % 10 := by rw [h2, Int.tmod_eq_emod_of_nonneg i1]
    rw [wrapU8] at h3 h4
    have e4 : z4 = 48 + m % 10 := by omega
    subst h5
    have e6' : ∀ l6 : List Int, l6 = List.take (OfNat.ofNat 1) (List.drop (OfNat.ofNat 0) [z4]) → l6 = [z4] := fun l6 h6 => take_one rfl h6
    refine ⟨⟨Nat.le_refl _, one_byte (by omega) _⟩, fun l6 h6 => ⟨by rw [e6' l6 h6]; simp only [List.length_singleton]; omega, fun l7 h7 => ⟨by decide, fun z8 h8 => ?_⟩⟩⟩
    have e8 : z8 = m / 10 := by
      have t : Int.tdiv m 10 = m / 10 := Int.tdiv_eq_ediv_of_nonneg i1
      rw [t] at h8; exact w64 h8 (by omega)
    have e6 := e6' l6 h6
    refine ⟨(z8, l7), rfl, rfl, ⟨by dsimp only; omega, by dsimp only; omega, fun h => by omega, ?_⟩, by dsimp only; omega⟩
    dsimp only
    rw [i4, itoa_step hlt, e8, h7, e6, e4]; simp
  · rw [wrapU8] at h10 h11
    have e11 : z11 = 48 + m := by omega
    subst h12
    have e6' : ∀ l6 : List Int, l6 = List.take (OfNat.ofNat 1) (List.drop (OfNat.ofNat 0) [z11]) → l6 = [z11] := fun l6 h6 => take_one rfl h6
    refine ⟨⟨Nat.le_refl _, one_byte (by omega) _⟩, fun l6 h6 => ⟨by rw [e6' l6 h6]; simp only [List.length_singleton]; omega, fun l7 h7 => ?_⟩⟩
    have e6 := e6' l6 h6
    exact h l7 (by rw [i4, itoa_small (by omega), h7, e6, e11])
def tDigits : Tbl := fun f args σ => if f == 31 then match args, σ with
    | [n], ⟨[], [], 0, [], 0⟩ => match xiX n with
      | some (.i64, n) => some fun K => (0 ≤ n ∧ n ≤ 1000000) ∧ ∀ l : List Int, l = U.itoa n → K (cell (strC l)) emptySt
      | _ => none
    | _, _ => none
  else none
theorem tDigits_ok : TblOk Tryd.prog tDigits := by
  intro f tm σ C h K hK
  unfold tDigits at h
  split at h
  · rename_i hf
    obtain rfl : f = 31 := by simpa using hf
    split at h
    · split at h
      · rename_i n hn
        obtain rfl := xiX_eq hn
        simp only [Option.some.injEq] at h; subst h
        exact knownC noOv names (conOk_of tbl0_ok) (digits_run K n hK.1 hK.2)
      · cases h
    · cases h
  · cases h
def tYS : Tbl := tblOr tItoa (tblOr tR2 tDigits)
theorem tYS_ok : TblOk Tryd.prog tYS := tblOr_ok tItoa_ok (tblOr_ok tR2_ok tDigits_ok)
end Go.Proofs.YtlfigaddddncmaaDoor
end

section
namespace Go.Proofs.YtlfigaddddncmaaDoor
open Go Reck
set_option linter.unusedVariables false
set_option maxRecDepth 100000
--PLAIN
theorem end_vc (K : AV → St → Prop) (ip port : Int) : (runI inv0 tYS 29 [xi .u32 ip, xi .i64 port] plcSt K) = ((0 : Int) ≤ (24 : Int) ∧ ∀ (z0 : Int), z0 = shrI IntKind.u32 ip (24 : Int) → ∀ (z1 : Int), z1 = andI IntKind.u32 z0 (255 : Int) → ∀ (z2 : Int), z2 = IntKind.wrap IntKind.i64 z1 → (U.isPow U.pow ∧ (-9223372036854775808 : Int) ≤ z2 ∧ z2 ≤ (9223372036854775807 : Int)) ∧ ∀ (l3 : List Int), l3 = U.itoa z2 → (0 : Nat) + List.length l3 ≤ (1000000000000 : Nat) ∧ ∀ (l'4 : List Int), l'4 = [] ++ l3 → (0 : Nat) + List.length l'4 ≤ (1000000000000 : Nat) ∧ ∀ (l'5 : List Int), l'5 = [] ++ l'4 → (0 : Int) ≤ (16 : Int) ∧ ∀ (z6 : Int), z6 = shrI IntKind.u32 ip (16 : Int) → ∀ (z7 : Int), z7 = andI IntKind.u32 z6 (255 : Int) → ∀ (z8 : Int), z8 = IntKind.wrap IntKind.i64 z7 → (U.isPow U.pow ∧ (-9223372036854775808 : Int) ≤ z8 ∧ z8 ≤ (9223372036854775807 : Int)) ∧ ∀ (l9 : List Int), l9 = U.itoa z8 → (1 : Nat) + List.length l9 ≤ (1000000000000 : Nat) ∧ ∀ (l'10 : List Int), l'10 = [(46 : Int)] ++ l9 → List.length l'5 + List.length l'10 ≤ (1000000000000 : Nat) ∧ ∀ (l'11 : List Int), l'11 = l'5 ++ l'10 → (0 : Int) ≤ (8 : Int) ∧ ∀ (z12 : Int), z12 = shrI IntKind.u32 ip (8 : Int) → ∀ (z13 : Int), z13 = andI IntKind.u32 z12 (255 : Int) → ∀ (z14 : Int), z14 = IntKind.wrap IntKind.i64 z13 → (U.isPow U.pow ∧ (-9223372036854775808 : Int) ≤ z14 ∧ z14 ≤ (9223372036854775807 : Int)) ∧ ∀ (l15 : List Int), l15 = U.itoa z14 → (1 : Nat) + List.length l15 ≤ (1000000000000 : Nat) ∧ ∀ (l'16 : List Int), l'16 = [(46 : Int)] ++ l15 → List.length l'11 + List.length l'16 ≤ (1000000000000 : Nat) ∧ ∀ (l'17 : List Int), l'17 = l'11 ++ l'16 → (0 : Int) ≤ (0 : Int) ∧ ∀ (z18 : Int), z18 = shrI IntKind.u32 ip (0 : Int) → ∀ (z19 : Int), z19 = andI IntKind.u32 z18 (255 : Int) → ∀ (z20 : Int), z20 = IntKind.wrap IntKind.i64 z19 → (U.isPow U.pow ∧ (-9223372036854775808 : Int) ≤ z20 ∧ z20 ≤ (9223372036854775807 : Int)) ∧ ∀ (l21 : List Int), l21 = U.itoa z20 → (1 : Nat) + List.length l21 ≤ (1000000000000 : Nat) ∧ ∀ (l'22 : List Int), l'22 = [(46 : Int)] ++ l21 → List.length l'17 + List.length l'22 ≤ (1000000000000 : Nat) ∧ ∀ (l'23 : List Int), l'23 = l'17 ++ l'22 → List.length l'23 + (1 : Nat) ≤ (1000000000000 : Nat) ∧ ∀ (l'24 : List Int), l'24 = l'23 ++ [(58 : Int)] → (U.isPow U.pow ∧ (-9223372036854775808 : Int) ≤ port ∧ port ≤ (9223372036854775807 : Int)) ∧ ∀ (l25 : List Int), l25 = U.itoa port → List.length l'24 + List.length l25 ≤ (1000000000000 : Nat) ∧ ∀ (l'26 : List Int), l'26 = l'24 ++ l25 → K (Sum.inl (Sum.inl (Sum.inr (Sum.inr (Sum.inr (Sum.inr (Sum.inr (Sum.inr (Sum.inr (Sum.inr (Sum.inr (Sum.inr l'26)))))))))))) { heap := [], ints := [], opqs := (0 : Nat), arrs := [some { elem := (0 : Nat), k := AK.o (Obj.glob (0 : Nat) U.plc), l := [], cap := (0 : Nat), ro := true }, some { elem := (0 : Nat), k := AK.o (Obj.glob (1 : Nat) U.pow), l := [], cap := (0 : Nat), ro := true }], junks := (0 : Nat) }) := by kernel_rfl
theorem dots_vc (K : AV → St → Prop) (ip : Int) : (runI inv0 tYS 32 [xi .u32 ip] emptySt K) = (∀ (z0 : Int), z0 = IntKind.wrap IntKind.u64 ip → (((0 : Int) ≤ (4 : Int) ∧ (4 : Int) ≤ (1000 : Int)) ∧ (0 : Int) ≤ z0 ∧ z0 ≤ (18446744073709551615 : Int)) ∧ ∀ (m1 : Nat) (L2 : List Int), (↑m1 : Int) = (4 : Int) → L2 = U.nb (4 : Int) z0 → ((0 : Int) ≤ (0 : Int) ∧ (0 : Int) < (↑m1 : Int)) ∧ ∀ (j3 : Nat), (↑j3 : Int) = (↑((0 : Nat)) : Int) + (0 : Int) → j3 < List.length L2 ∧ ∀ (z4 : Int), z4 = List.getD L2 j3 (0 : Int) → ∀ (z5 : Int), z5 = IntKind.wrap IntKind.i64 z4 → ((0 : Int) ≤ (1 : Int) ∧ (1 : Int) < (↑m1 : Int)) ∧ ∀ (j6 : Nat), (↑j6 : Int) = (↑((0 : Nat)) : Int) + (1 : Int) → j6 < List.length L2 ∧ ∀ (z7 : Int), z7 = List.getD L2 j6 (0 : Int) → ∀ (z8 : Int), z8 = IntKind.wrap IntKind.i64 z7 → ((0 : Int) ≤ (2 : Int) ∧ (2 : Int) < (↑m1 : Int)) ∧ ∀ (j9 : Nat), (↑j9 : Int) = (↑((0 : Nat)) : Int) + (2 : Int) → j9 < List.length L2 ∧ ∀ (z10 : Int), z10 = List.getD L2 j9 (0 : Int) → ∀ (z11 : Int), z11 = IntKind.wrap IntKind.i64 z10 → ((0 : Int) ≤ (3 : Int) ∧ (3 : Int) < (↑m1 : Int)) ∧ ∀ (j12 : Nat), (↑j12 : Int) = (↑((0 : Nat)) : Int) + (3 : Int) → j12 < List.length L2 ∧ ∀ (z13 : Int), z13 = List.getD L2 j12 (0 : Int) → ∀ (z14 : Int), z14 = IntKind.wrap IntKind.i64 z13 → ((0 : Int) ≤ z5 ∧ z5 ≤ (1000000 : Int)) ∧ ∀ (l15 : List Int), l15 = U.itoa z5 → L2[j12]? = some z13 ∧ L2[j9]? = some z10 ∧ L2[j6]? = some z7 ∧ L2[j3]? = some z4 ∧ List.length l15 + (1 : Nat) ≤ (1000000000000 : Nat) ∧ ∀ (l'16 : List Int), l'16 = l15 ++ [(46 : Int)] → ((0 : Int) ≤ z8 ∧ z8 ≤ (1000000 : Int)) ∧ ∀ (l17 : List Int), l17 = U.itoa z8 → L2[j12]? = some z13 ∧ L2[j9]? = some z10 ∧ L2[j6]? = some z7 ∧ L2[j3]? = some z4 ∧ List.length l'16 + List.length l17 ≤ (1000000000000 : Nat) ∧ ∀ (l'18 : List Int), l'18 = l'16 ++ l17 → List.length l'18 + (1 : Nat) ≤ (1000000000000 : Nat) ∧ ∀ (l'19 : List Int), l'19 = l'18 ++ [(46 : Int)] → ((0 : Int) ≤ z11 ∧ z11 ≤ (1000000 : Int)) ∧ ∀ (l20 : List Int), l20 = U.itoa z11 → L2[j12]? = some z13 ∧ L2[j9]? = some z10 ∧ L2[j6]? = some z7 ∧ L2[j3]? = some z4 ∧ List.length l'19 + List.length l20 ≤ (1000000000000 : Nat) ∧ ∀ (l'21 : List Int), l'21 = l'19 ++ l20 → List.length l'21 + (1 : Nat) ≤ (1000000000000 : Nat) ∧ ∀ (l'22 : List Int), l'22 = l'21 ++ [(46 : Int)] → ((0 : Int) ≤ z14 ∧ z14 ≤ (1000000 : Int)) ∧ ∀ (l23 : List Int), l23 = U.itoa z14 → L2[j12]? = some z13 ∧ L2[j9]? = some z10 ∧ L2[j6]? = some z7 ∧ L2[j3]? = some z4 ∧ List.length l'22 + List.length l23 ≤ (1000000000000 : Nat) ∧ ∀ (l'24 : List Int), l'24 = l'22 ++ l23 → K (Sum.inl (Sum.inl (Sum.inr (Sum.inr (Sum.inr (Sum.inr (Sum.inr (Sum.inr (Sum.inr (Sum.inr (Sum.inr (Sum.inr l'24)))))))))))) { heap := [], ints := [], opqs := (0 : Nat), arrs := [], junks := (0 : Nat) }) := by kernel_rfl
end Go.Proofs.YtlfigaddddncmaaDoor
end

section
set_option linter.unusedVariables false
set_option linter.unusedSimpArgs false
namespace Go.Proofs.YtlfigaddddncmaaDoor
open Go Reck
def U.dots (ip : Int) : List Int := U.itoa (ip / 16777216 % 256) ++ ([46] ++ (U.itoa (ip / 65536 % 256) ++ ([46] ++ (U.itoa (ip / 256 % 256) ++ ([46] ++ U.itoa (ip % 256))))))
def U.endS (ip port : Int) : List Int := U.dots ip ++ ([58] ++ U.itoa port)
theorem shr_and {ip z z' : Int} (h : 0 ≤ ip ∧ ip ≤ 4294967295) (j : Nat) (hj : j ≤ 32) {m : Int} (hm : m = j) (h0 : z = shrI .u32 ip m) (h1 : z' = andI .u32 z 255) : z' = ip / 2 ^ j % 256 := by
  obtain ⟨a, rfl⟩ : ∃ a : Nat, ip = a := ⟨ip.toNat, by omega⟩
  rw [shr_nat .u32 a j hj hm] at h0
  have hlt : a / 2 ^ j < 4294967296 := Nat.lt_of_le_of_lt (Nat.div_le_self _ _) (by omega)
  have h2 := Go.u32_and_nat (a / 2 ^ j) 255 hlt (by omega)
  rw [h1, h0, andI_bits, show (255 : Int) = ((255 : Nat) : Int) from rfl, h2, show (255 : Nat) = 2 ^ 8 - 1 from rfl, Nat.and_two_pow_sub_one_eq_mod]
  simp
theorem pow_is : U.isPow U.pow := ⟨by kernel_rfl⟩
theorem len_byte {x : Int} (h : 0 ≤ x ∧ x < 256) : (U.itoa x).length ≤ 256 := by have := itoa_length h.1; omega
theorem end_run (K : AV → St → Prop) (ip port : Int) (hi : 0 ≤ ip ∧ ip ≤ 4294967295) (hp : 0 ≤ port ∧ port ≤ 1000000) (h : ∀ l : List Int, l = U.endS ip port → K (cell (strC l)) plcSt) : runI inv0 tYS 29 [xi .u32 ip, xi .i64 port] plcSt K := by
  rw [end_vc]
  refine ⟨by decide, fun z0 h0 z1 h1 z2 h2 => ?_⟩
  have e1 := shr_and hi 24 (by omega) rfl h0 h1
  rw [show (2 : Int) ^ 24 = 16777216 from rfl] at e1
  have e2 : z2 = z1 := w64 h2 (by omega)
  have b1 := len_byte (x := z2) (by omega)
  refine ⟨⟨pow_is, by omega, by omega⟩, fun l3 h3 => ⟨by rw [h3]; omega, fun l4 h4 => ⟨by rw [h4, h3, List.nil_append]; omega, fun l5 h5 => ⟨by decide, fun z6 h6 z7 h7 z8 h8 => ?_⟩⟩⟩⟩
  rw [List.nil_append] at h4 h5
  have e7 := shr_and hi 16 (by omega) rfl h6 h7
  rw [show (2 : Int) ^ 16 = 65536 from rfl] at e7
  have e8 : z8 = z7 := w64 h8 (by omega)
  have b2 := len_byte (x := z8) (by omega)
  have c5 : l5.length ≤ 256 := by rw [h5, h4, h3]; exact b1
  refine ⟨⟨pow_is, by omega, by omega⟩, fun l9 h9 => ⟨by rw [h9]; omega, fun l10 h10 => ?_⟩⟩
  have c10 : l10.length ≤ 257 := by rw [h10, h9]; simp only [List.cons_append, List.nil_append, List.length_cons]; omega
  refine ⟨by omega, fun l11 h11 => ⟨by decide, fun z12 h12 z13 h13 z14 h14 => ?_⟩⟩
  have c11 : l11.length ≤ 513 := by rw [h11, List.length_append]; omega
  have e13 := shr_and hi 8 (by omega) rfl h12 h13
  rw [show (2 : Int) ^ 8 = 256 from rfl] at e13
  have e14 : z14 = z13 := w64 h14 (by omega)
  have b3 := len_byte (x := z14) (by omega)
  refine ⟨⟨pow_is, by omega, by omega⟩, fun l15 h15 => ⟨by rw [h15]; omega, fun l16 h16 => ?_⟩⟩
  have c16 : l16.length ≤ 257 := by rw [h16, h15]; simp only [List.cons_append, List.nil_append, List.length_cons]; omega
  refine ⟨by omega, fun l17 h17 => ⟨by decide, fun z18 h18 z19 h19 z20 h20 => ?_⟩⟩
  have c17 : l17.length ≤ 770 := by rw [h17, List.length_append]; omega
  have e19 := shr_and hi 0 (by omega) rfl h18 h19
  rw [show (2 : Int) ^ 0 = 1 from rfl, Int.ediv_one] at e19
  have e20 : z20 = z19 := w64 h20 (by omega)
  have b4 := len_byte (x := z20) (by omega)
  refine ⟨⟨pow_is, by omega, by omega⟩, fun l21 h21 => ⟨by rw [h21]; omega, fun l22 h22 => ?_⟩⟩
  have c22 : l22.length ≤ 257 := by rw [h22, h21]; simp only [List.cons_append, List.nil_append, List.length_cons]; omega
  refine ⟨by omega, fun l23 h23 => ?_⟩
  have c23 : l23.length ≤ 1027 := by rw [h23, List.length_append]; omega
  refine ⟨by omega, fun l24 h24 => ⟨⟨pow_is, by omega, by omega⟩, fun l25 h25 => ?_⟩⟩
  have c24 : l24.length ≤ 1028 := by rw [h24, List.length_append]; simp only [List.length_singleton]; omega
  have c25 : l25.length ≤ 1000001 := by rw [h25]; have := itoa_length hp.1; omega
  refine ⟨by omega, fun l26 h26 => h l26 ?_⟩
  unfold U.endS U.dots
  rw [h26, h24, h23, h17, h11, h5, h4, h3, h10, h9, h16, h15, h22, h21, h25, e2, e1, e8, e7, e14, e13, e20, e19]
  simp only [List.append_assoc]
theorem nb4 {ip : Int} (h : 0 ≤ ip ∧ ip ≤ 4294967295) : U.nb 4 ip = [ip / 16777216 % 256, ip / 65536 % 256, ip / 256 % 256, ip % 256] := by
  obtain ⟨a, rfl⟩ : ∃ a : Nat, ip = a := ⟨ip.toNat, by omega⟩
  have e : U.nb 4 (a : Int) = nz (be 4 a) := rfl
  rw [e]
  simp only [be, nz, List.map_cons, List.map_nil]
  simp
theorem at4 {L : List Int} {a b c d z : Int} {j : Nat} (hL : L = [a, b, c, d]) (hj : j < 4) (hz : z = List.getD L j 0) : L[j]? = some z ∧ z = [a, b, c, d].getD j 0 := by
  subst hL
  refine ⟨?_, hz⟩
  rw [hz, List.getD_eq_getElem?_getD, List.getElem?_eq_getElem (by simpa using hj)]; rfl
theorem dots_run (K : AV → St → Prop) (ip : Int) (hi : 0 ≤ ip ∧ ip ≤ 4294967295) (h : ∀ l : List Int, l = U.dots ip → K (cell (strC l)) emptySt) : runI inv0 tYS 32 [xi .u32 ip] emptySt K := by
  rw [dots_vc]
  intro z0 h0
  rw [wrapU64] at h0
  obtain rfl : z0 = ip := by omega
  refine ⟨⟨by omega, by omega⟩, fun m1 L2 hm hL => ?_⟩
  have hL : L2 = [z0 / 16777216 % 256, z0 / 65536 % 256, z0 / 256 % 256, z0 % 256] := hL.trans (nb4 hi)
  have hl : L2.length = 4 := by rw [hL]; rfl
  refine ⟨⟨by decide, by omega⟩, fun j3 hj3 => ⟨by omega, fun z4 h4 z5 h5 => ⟨⟨by decide, by omega⟩, fun j6 hj6 => ⟨by omega, fun z7 h7 z8 h8 => ⟨⟨by decide, by omega⟩, fun j9 hj9 => ⟨by omega, fun z10 h10 z11 h11 => ⟨⟨by decide, by omega⟩, fun j12 hj12 => ⟨by omega, fun z13 h13 z14 h14 => ?_⟩⟩⟩⟩⟩⟩⟩⟩
  obtain rfl : j3 = 0 := by omega
  obtain rfl : j6 = 1 := by omega
  obtain rfl : j9 = 2 := by omega
  obtain rfl : j12 = 3 := by omega
  obtain ⟨g3, e4⟩ := at4 hL (by omega) h4
  obtain ⟨g6, e7⟩ := at4 hL (by omega) h7
  obtain ⟨g9, e10⟩ := at4 hL (by omega) h10
  obtain ⟨g12, e13⟩ := at4 hL (by omega) h13
  replace e4 : z4 = z0 / 16777216 % 256 := e4
  replace e7 : z7 = z0 / 65536 % 256 := e7
  replace e10 : z10 = z0 / 256 % 256 := e10
  replace e13 : z13 = z0 % 256 := e13
  have e5 : z5 = z4 := w64 h5 (by omega)
  have e8 : z8 = z7 := w64 h8 (by omega)
  have e11 : z11 = z10 := w64 h11 (by omega)
  have e14 : z14 = z13 := w64 h14 (by omega)
  have b1 := len_byte (x := z5) (by omega)
  have b2 := len_byte (x := z8) (by omega)
  have b3 := len_byte (x := z11) (by omega)
  have b4 := len_byte (x := z14) (by omega)
  refine ⟨⟨by omega, by omega⟩, fun l15 h15 => ⟨g12, g9, g6, g3, by rw [h15]; omega, fun l16 h16 => ⟨⟨by omega, by omega⟩, fun l17 h17 => ⟨g12, g9, g6, g3, ?_⟩⟩⟩⟩
  have c16 : l16.length ≤ 257 := by rw [h16, h15, List.length_append]; simp only [List.length_singleton]; omega
  have c17 : l17.length ≤ 256 := by rw [h17]; exact b2
  refine ⟨by omega, fun l18 h18 => ?_⟩
  have c18 : l18.length ≤ 513 := by rw [h18, List.length_append]; omega
  refine ⟨by omega, fun l19 h19 => ⟨⟨by omega, by omega⟩, fun l20 h20 => ⟨g12, g9, g6, g3, ?_⟩⟩⟩
  have c19 : l19.length ≤ 514 := by rw [h19, List.length_append]; simp only [List.length_singleton]; omega
  have c20 : l20.length ≤ 256 := by rw [h20]; exact b3
  refine ⟨by omega, fun l21 h21 => ?_⟩
  have c21 : l21.length ≤ 770 := by rw [h21, List.length_append]; omega
  refine ⟨by omega, fun l22 h22 => ⟨⟨by omega, by omega⟩, fun l23 h23 => ⟨g12, g9, g6, g3, ?_⟩⟩⟩
  have c22 : l22.length ≤ 771 := by rw [h22, List.length_append]; simp only [List.length_singleton]; omega
  have c23 : l23.length ≤ 256 := by rw [h23]; exact b4
  refine ⟨by omega, fun l24 h24 => h l24 ?_⟩
  unfold U.dots
  rw [h24, h22, h21, h19, h18, h16, h15, h17, h20, h23, e5, e4, e8, e7, e11, e10, e14, e13]
  simp only [List.append_assoc]
def tEnd : Tbl := fun f args σ => if f == 29 then match args, σ with
    | [ip, port], ⟨[], [], 0, [some ⟨0, .o (.glob 0 a), [], 0, true⟩, some ⟨0, .o (.glob 1 b), [], 0, true⟩], 0⟩ => match xiX ip, xiX port with
      | some (.u32, ip), some (.i64, port) => some fun K => ((a = U.plc ∧ b = U.pow) ∧ (0 ≤ ip ∧ ip ≤ 4294967295) ∧ 0 ≤ port ∧ port ≤ 1000000) ∧ ∀ l : List Int, l = U.endS ip port → K (cell (strC l)) ⟨[], [], 0, [some ⟨0, .o (.glob 0 a), [], 0, true⟩, some ⟨0, .o (.glob 1 b), [], 0, true⟩], 0⟩
      | _, _ => none
    | _, _ => none
  else none
theorem tEnd_ok : TblOk Tryd.prog tEnd := by
  intro f tm σ C h K hK
  unfold tEnd at h
  split at h
  · rename_i hf
    obtain rfl : f = 29 := by simpa using hf
    split at h
    · split at h
      · rename_i ip port hi hp
        obtain rfl := xiX_eq hi
        obtain rfl := xiX_eq hp
        simp only [Option.some.injEq] at h; subst h
        obtain ⟨⟨⟨rfl, rfl⟩, h1, h2⟩, hK⟩ := hK
        exact knownC noOv names (conOk_of tYS_ok) (end_run K ip port h1 h2 hK)
      · cases h
    · cases h
  · cases h
def tDots : Tbl := fun f args σ => if f == 32 then match args, σ with
    | [ip], ⟨[], [], 0, [], 0⟩ => match xiX ip with
      | some (.u32, ip) => some fun K => (0 ≤ ip ∧ ip ≤ 4294967295) ∧ ∀ l : List Int, l = U.dots ip → K (cell (strC l)) emptySt
      | _ => none
    | _, _ => none
  else none
theorem tDots_ok : TblOk Tryd.prog tDots := by
  intro f tm σ C h K hK
  unfold tDots at h
  split at h
  · rename_i hf
    obtain rfl : f = 32 := by simpa using hf
    split at h
    · split at h
      · rename_i ip hi
        obtain rfl := xiX_eq hi
        simp only [Option.some.injEq] at h; subst h
        exact knownC noOv names (conOk_of tYS_ok) (dots_run K ip hK.1 hK.2)
      · cases h
    · cases h
  · cases h
def tYU : Tbl := tblOr tYI (tblOr tYS (tblOr tEnd tDots))
theorem tYU_ok : TblOk Tryd.prog tYU := tblOr_ok tYI_ok (tblOr_ok tYS_ok (tblOr_ok tEnd_ok tDots_ok))
end Go.Proofs.YtlfigaddddncmaaDoor
end

section
namespace Go.Proofs.YtlfigaddddncmaaDoor
open Go Reck
set_option linter.unusedVariables false
set_option maxRecDepth 100000
--PLAIN
theorem show_vc (K : AV → St → Prop) (a b c d e f g : Int) : (runI inv0 tYU 17 [kyA a b c d e f g] plcSt K) = ((U.KG a b c d e f g → ((U.plc = U.plc ∧ U.pow = U.pow) ∧ ((0 : Int) ≤ c ∧ c ≤ (4294967295 : Int)) ∧ (0 : Int) ≤ f ∧ f ≤ (1000000 : Int)) ∧ ∀ (l0 : List Int), l0 = U.endS c f → e = e ∧ g = g ∧ d = d ∧ f = f ∧ c = c ∧ List.length l0 + (1 : Nat) ≤ (1000000000000 : Nat) ∧ ∀ (l'1 : List Int), l'1 = l0 ++ [(62 : Int)] → ((U.plc = U.plc ∧ U.pow = U.pow) ∧ ((0 : Int) ≤ d ∧ d ≤ (4294967295 : Int)) ∧ (0 : Int) ≤ g ∧ g ≤ (1000000 : Int)) ∧ ∀ (l2 : List Int), l2 = U.endS d g → e = e ∧ g = g ∧ d = d ∧ f = f ∧ c = c ∧ List.length l'1 + List.length l2 ≤ (1000000000000 : Nat) ∧ ∀ (l'3 : List Int), l'3 = l'1 ++ l2 → List.length l'3 + (1 : Nat) ≤ (1000000000000 : Nat) ∧ ∀ (l'4 : List Int), l'4 = l'3 ++ [(47 : Int)] → (e = (6 : Int) → e = e ∧ g = g ∧ d = d ∧ f = f ∧ c = c ∧ List.length l'4 + (3 : Nat) ≤ (1000000000000 : Nat) ∧ ∀ (l'5 : List Int), l'5 = l'4 ++ [(116 : Int), (99 : Int), (112 : Int)] → K (Sum.inl (Sum.inl (Sum.inr (Sum.inr (Sum.inr (Sum.inr (Sum.inr (Sum.inr (Sum.inr (Sum.inr (Sum.inr (Sum.inr l'5)))))))))))) { heap := [], ints := [], opqs := (0 : Nat), arrs := [some { elem := (0 : Nat), k := AK.o (Obj.glob (0 : Nat) U.plc), l := [], cap := (0 : Nat), ro := true }, some { elem := (0 : Nat), k := AK.o (Obj.glob (1 : Nat) U.pow), l := [], cap := (0 : Nat), ro := true }], junks := (0 : Nat) }) ∧ (¬e = (6 : Int) → (e = (17 : Int) → e = e ∧ g = g ∧ d = d ∧ f = f ∧ c = c ∧ List.length l'4 + (3 : Nat) ≤ (1000000000000 : Nat) ∧ ∀ (l'6 : List Int), l'6 = l'4 ++ [(117 : Int), (100 : Int), (112 : Int)] → K (Sum.inl (Sum.inl (Sum.inr (Sum.inr (Sum.inr (Sum.inr (Sum.inr (Sum.inr (Sum.inr (Sum.inr (Sum.inr (Sum.inr l'6)))))))))))) { heap := [], ints := [], opqs := (0 : Nat), arrs := [some { elem := (0 : Nat), k := AK.o (Obj.glob (0 : Nat) U.plc), l := [], cap := (0 : Nat), ro := true }, some { elem := (0 : Nat), k := AK.o (Obj.glob (1 : Nat) U.pow), l := [], cap := (0 : Nat), ro := true }], junks := (0 : Nat) }) ∧ (¬e = (17 : Int) → (U.isPow U.pow ∧ (-9223372036854775808 : Int) ≤ e ∧ e ≤ (9223372036854775807 : Int)) ∧ ∀ (l7 : List Int), l7 = U.itoa e → e = e ∧ g = g ∧ d = d ∧ f = f ∧ c = c ∧ List.length l'4 + List.length l7 ≤ (1000000000000 : Nat) ∧ ∀ (l'8 : List Int), l'8 = l'4 ++ l7 → K (Sum.inl (Sum.inl (Sum.inr (Sum.inr (Sum.inr (Sum.inr (Sum.inr (Sum.inr (Sum.inr (Sum.inr (Sum.inr (Sum.inr l'8)))))))))))) { heap := [], ints := [], opqs := (0 : Nat), arrs := [some { elem := (0 : Nat), k := AK.o (Obj.glob (0 : Nat) U.plc), l := [], cap := (0 : Nat), ro := true }, some { elem := (0 : Nat), k := AK.o (Obj.glob (1 : Nat) U.pow), l := [], cap := (0 : Nat), ro := true }], junks := (0 : Nat) }))) ∧ (¬U.KG a b c d e f g → K (Sum.inl (Sum.inl (Sum.inl (Value.string { data := { toList := [63] } })))) { heap := [], ints := [], opqs := (0 : Nat), arrs := [some { elem := (0 : Nat), k := AK.o (Obj.glob (0 : Nat) U.plc), l := [], cap := (0 : Nat), ro := true }, some { elem := (0 : Nat), k := AK.o (Obj.glob (1 : Nat) U.pow), l := [], cap := (0 : Nat), ro := true }], junks := (0 : Nat) })) := by kernel_rfl
theorem rshow_vc (K : AV → St → Prop) (a b c d e f g : Int) : (runI inv0 tYU 18 [kyA a b c d e f g] emptySt K) = ((U.KG a b c d e f g → ((0 : Int) ≤ e ∧ e ≤ (1000000 : Int)) ∧ ∀ (l0 : List Int), l0 = U.itoa e → (e = (6 : Int) → (e = (17 : Int) → ((0 : Int) ≤ c ∧ c ≤ (4294967295 : Int)) ∧ ∀ (l1 : List Int), l1 = U.dots c → g = g ∧ d = d ∧ f = f ∧ c = c ∧ List.length l1 + (1 : Nat) ≤ (1000000000000 : Nat) ∧ ∀ (l'2 : List Int), l'2 = l1 ++ [(58 : Int)] → ((0 : Int) ≤ f ∧ f ≤ (1000000 : Int)) ∧ ∀ (l3 : List Int), l3 = U.itoa f → g = g ∧ d = d ∧ f = f ∧ c = c ∧ List.length l'2 + List.length l3 ≤ (1000000000000 : Nat) ∧ ∀ (l'4 : List Int), l'4 = l'2 ++ l3 → List.length l'4 + (1 : Nat) ≤ (1000000000000 : Nat) ∧ ∀ (l'5 : List Int), l'5 = l'4 ++ [(62 : Int)] → ((0 : Int) ≤ d ∧ d ≤ (4294967295 : Int)) ∧ ∀ (l6 : List Int), l6 = U.dots d → g = g ∧ d = d ∧ f = f ∧ c = c ∧ List.length l'5 + List.length l6 ≤ (1000000000000 : Nat) ∧ ∀ (l'7 : List Int), l'7 = l'5 ++ l6 → List.length l'7 + (1 : Nat) ≤ (1000000000000 : Nat) ∧ ∀ (l'8 : List Int), l'8 = l'7 ++ [(58 : Int)] → ((0 : Int) ≤ g ∧ g ≤ (1000000 : Int)) ∧ ∀ (l9 : List Int), l9 = U.itoa g → g = g ∧ d = d ∧ f = f ∧ c = c ∧ List.length l'8 + List.length l9 ≤ (1000000000000 : Nat) ∧ ∀ (l'10 : List Int), l'10 = l'8 ++ l9 → List.length l'10 + (1 : Nat) ≤ (1000000000000 : Nat) ∧ ∀ (l'11 : List Int), l'11 = l'10 ++ [(47 : Int)] → List.length l'11 + (3 : Nat) ≤ (1000000000000 : Nat) ∧ ∀ (l'12 : List Int), l'12 = l'11 ++ [(117 : Int), (100 : Int), (112 : Int)] → K (Sum.inl (Sum.inl (Sum.inr (Sum.inr (Sum.inr (Sum.inr (Sum.inr (Sum.inr (Sum.inr (Sum.inr (Sum.inr (Sum.inr l'12)))))))))))) { heap := [], ints := [], opqs := (0 : Nat), arrs := [], junks := (0 : Nat) }) ∧ (¬e = (17 : Int) → ((0 : Int) ≤ c ∧ c ≤ (4294967295 : Int)) ∧ ∀ (l13 : List Int), l13 = U.dots c → g = g ∧ d = d ∧ f = f ∧ c = c ∧ List.length l13 + (1 : Nat) ≤ (1000000000000 : Nat) ∧ ∀ (l'14 : List Int), l'14 = l13 ++ [(58 : Int)] → ((0 : Int) ≤ f ∧ f ≤ (1000000 : Int)) ∧ ∀ (l15 : List Int), l15 = U.itoa f → g = g ∧ d = d ∧ f = f ∧ c = c ∧ List.length l'14 + List.length l15 ≤ (1000000000000 : Nat) ∧ ∀ (l'16 : List Int), l'16 = l'14 ++ l15 → List.length l'16 + (1 : Nat) ≤ (1000000000000 : Nat) ∧ ∀ (l'17 : List Int), l'17 = l'16 ++ [(62 : Int)] → ((0 : Int) ≤ d ∧ d ≤ (4294967295 : Int)) ∧ ∀ (l18 : List Int), l18 = U.dots d → g = g ∧ d = d ∧ f = f ∧ c = c ∧ List.length l'17 + List.length l18 ≤ (1000000000000 : Nat) ∧ ∀ (l'19 : List Int), l'19 = l'17 ++ l18 → List.length l'19 + (1 : Nat) ≤ (1000000000000 : Nat) ∧ ∀ (l'20 : List Int), l'20 = l'19 ++ [(58 : Int)] → ((0 : Int) ≤ g ∧ g ≤ (1000000 : Int)) ∧ ∀ (l21 : List Int), l21 = U.itoa g → g = g ∧ d = d ∧ f = f ∧ c = c ∧ List.length l'20 + List.length l21 ≤ (1000000000000 : Nat) ∧ ∀ (l'22 : List Int), l'22 = l'20 ++ l21 → List.length l'22 + (1 : Nat) ≤ (1000000000000 : Nat) ∧ ∀ (l'23 : List Int), l'23 = l'22 ++ [(47 : Int)] → List.length l'23 + (3 : Nat) ≤ (1000000000000 : Nat) ∧ ∀ (l'24 : List Int), l'24 = l'23 ++ [(116 : Int), (99 : Int), (112 : Int)] → K (Sum.inl (Sum.inl (Sum.inr (Sum.inr (Sum.inr (Sum.inr (Sum.inr (Sum.inr (Sum.inr (Sum.inr (Sum.inr (Sum.inr l'24)))))))))))) { heap := [], ints := [], opqs := (0 : Nat), arrs := [], junks := (0 : Nat) })) ∧ (¬e = (6 : Int) → (e = (17 : Int) → ((0 : Int) ≤ c ∧ c ≤ (4294967295 : Int)) ∧ ∀ (l25 : List Int), l25 = U.dots c → g = g ∧ d = d ∧ f = f ∧ c = c ∧ List.length l25 + (1 : Nat) ≤ (1000000000000 : Nat) ∧ ∀ (l'26 : List Int), l'26 = l25 ++ [(58 : Int)] → ((0 : Int) ≤ f ∧ f ≤ (1000000 : Int)) ∧ ∀ (l27 : List Int), l27 = U.itoa f → g = g ∧ d = d ∧ f = f ∧ c = c ∧ List.length l'26 + List.length l27 ≤ (1000000000000 : Nat) ∧ ∀ (l'28 : List Int), l'28 = l'26 ++ l27 → List.length l'28 + (1 : Nat) ≤ (1000000000000 : Nat) ∧ ∀ (l'29 : List Int), l'29 = l'28 ++ [(62 : Int)] → ((0 : Int) ≤ d ∧ d ≤ (4294967295 : Int)) ∧ ∀ (l30 : List Int), l30 = U.dots d → g = g ∧ d = d ∧ f = f ∧ c = c ∧ List.length l'29 + List.length l30 ≤ (1000000000000 : Nat) ∧ ∀ (l'31 : List Int), l'31 = l'29 ++ l30 → List.length l'31 + (1 : Nat) ≤ (1000000000000 : Nat) ∧ ∀ (l'32 : List Int), l'32 = l'31 ++ [(58 : Int)] → ((0 : Int) ≤ g ∧ g ≤ (1000000 : Int)) ∧ ∀ (l33 : List Int), l33 = U.itoa g → g = g ∧ d = d ∧ f = f ∧ c = c ∧ List.length l'32 + List.length l33 ≤ (1000000000000 : Nat) ∧ ∀ (l'34 : List Int), l'34 = l'32 ++ l33 → List.length l'34 + (1 : Nat) ≤ (1000000000000 : Nat) ∧ ∀ (l'35 : List Int), l'35 = l'34 ++ [(47 : Int)] → List.length l'35 + (3 : Nat) ≤ (1000000000000 : Nat) ∧ ∀ (l'36 : List Int), l'36 = l'35 ++ [(117 : Int), (100 : Int), (112 : Int)] → K (Sum.inl (Sum.inl (Sum.inr (Sum.inr (Sum.inr (Sum.inr (Sum.inr (Sum.inr (Sum.inr (Sum.inr (Sum.inr (Sum.inr l'36)))))))))))) { heap := [], ints := [], opqs := (0 : Nat), arrs := [], junks := (0 : Nat) }) ∧ (¬e = (17 : Int) → ((0 : Int) ≤ c ∧ c ≤ (4294967295 : Int)) ∧ ∀ (l37 : List Int), l37 = U.dots c → g = g ∧ d = d ∧ f = f ∧ c = c ∧ List.length l37 + (1 : Nat) ≤ (1000000000000 : Nat) ∧ ∀ (l'38 : List Int), l'38 = l37 ++ [(58 : Int)] → ((0 : Int) ≤ f ∧ f ≤ (1000000 : Int)) ∧ ∀ (l39 : List Int), l39 = U.itoa f → g = g ∧ d = d ∧ f = f ∧ c = c ∧ List.length l'38 + List.length l39 ≤ (1000000000000 : Nat) ∧ ∀ (l'40 : List Int), l'40 = l'38 ++ l39 → List.length l'40 + (1 : Nat) ≤ (1000000000000 : Nat) ∧ ∀ (l'41 : List Int), l'41 = l'40 ++ [(62 : Int)] → ((0 : Int) ≤ d ∧ d ≤ (4294967295 : Int)) ∧ ∀ (l42 : List Int), l42 = U.dots d → g = g ∧ d = d ∧ f = f ∧ c = c ∧ List.length l'41 + List.length l42 ≤ (1000000000000 : Nat) ∧ ∀ (l'43 : List Int), l'43 = l'41 ++ l42 → List.length l'43 + (1 : Nat) ≤ (1000000000000 : Nat) ∧ ∀ (l'44 : List Int), l'44 = l'43 ++ [(58 : Int)] → ((0 : Int) ≤ g ∧ g ≤ (1000000 : Int)) ∧ ∀ (l45 : List Int), l45 = U.itoa g → g = g ∧ d = d ∧ f = f ∧ c = c ∧ List.length l'44 + List.length l45 ≤ (1000000000000 : Nat) ∧ ∀ (l'46 : List Int), l'46 = l'44 ++ l45 → List.length l'46 + (1 : Nat) ≤ (1000000000000 : Nat) ∧ ∀ (l'47 : List Int), l'47 = l'46 ++ [(47 : Int)] → List.length l'47 + List.length l0 ≤ (1000000000000 : Nat) ∧ ∀ (l'48 : List Int), l'48 = l'47 ++ l0 → K (Sum.inl (Sum.inl (Sum.inr (Sum.inr (Sum.inr (Sum.inr (Sum.inr (Sum.inr (Sum.inr (Sum.inr (Sum.inr (Sum.inr l'48)))))))))))) { heap := [], ints := [], opqs := (0 : Nat), arrs := [], junks := (0 : Nat) }))) ∧ (¬U.KG a b c d e f g → K (Sum.inl (Sum.inl (Sum.inl (Value.string { data := { toList := [63] } })))) { heap := [], ints := [], opqs := (0 : Nat), arrs := [], junks := (0 : Nat) })) := by kernel_rfl
end Go.Proofs.YtlfigaddddncmaaDoor
end

section
set_option linter.unusedVariables false
set_option linter.unusedSimpArgs false
namespace Go.Proofs.YtlfigaddddncmaaDoor
open Go Reck
def U.proS (e : Int) : List Int := if e = 6 then [116, 99, 112] else if e = 17 then [117, 100, 112] else U.itoa e
/-- A key that may be, as text. -/
def U.keyS (c d e f g : Int) : List Int := U.endS c f ++ ([62] ++ (U.endS d g ++ ([47] ++ U.proS e)))
theorem dots_len {ip : Int} (h : 0 ≤ ip ∧ ip ≤ 4294967295) : (U.dots ip).length ≤ 1027 := by
  unfold U.dots
  simp only [List.length_append, List.length_singleton]
  have b1 := len_byte (x := ip / 16777216 % 256) (by omega)
  have b2 := len_byte (x := ip / 65536 % 256) (by omega)
  have b3 := len_byte (x := ip / 256 % 256) (by omega)
  have b4 := len_byte (x := ip % 256) (by omega)
  omega
theorem end_len {ip port : Int} (h : 0 ≤ ip ∧ ip ≤ 4294967295) (hp : 0 ≤ port ∧ port ≤ 1000000) : (U.endS ip port).length ≤ 1001100 := by
  unfold U.endS
  simp only [List.length_append, List.length_singleton]
  have b1 := dots_len h
  have b2 := itoa_length hp.1
  omega
set_option maxHeartbeats 4000000 in
theorem show_run (K : AV → St → Prop) (a b c d e f g : Int) (k : U.KK a b c d e f g) (hT : U.KG a b c d e f g → ∀ l : List Int, l = U.keyS c d e f g → K (cell (strC l)) plcSt) (hF : ¬ U.KG a b c d e f g → K (lit (.string ⟨#[63]⟩)) plcSt) :
    runI inv0 tYU 17 [kyA a b c d e f g] plcSt K := by
  rw [show_vc]
  obtain ⟨k1, k2, k3, k4, k5, k6, k7⟩ := k
  refine ⟨fun hg => ?_, fun hn => hF hn⟩
  have hT := hT hg
  unfold U.keyS U.proS at hT
  obtain ⟨h1, h2, h3, h4⟩ := hg
  have hT6 : e = 6 → ∀ l : List Int, l = U.endS c f ++ ([62] ++ (U.endS d g ++ ([47] ++ [116, 99, 112]))) → K (cell (strC l)) plcSt := fun h l hl => hT l (by rw [if_pos h]; exact hl)
  have hT17 : ¬ e = 6 → e = 17 → ∀ l : List Int, l = U.endS c f ++ ([62] ++ (U.endS d g ++ ([47] ++ [117, 100, 112]))) → K (cell (strC l)) plcSt := fun h h' l hl => hT l (by rw [if_neg h, if_pos h']; exact hl)
  have hTo : ¬ e = 6 → ¬ e = 17 → ∀ l : List Int, l = U.endS c f ++ ([62] ++ (U.endS d g ++ ([47] ++ U.itoa e))) → K (cell (strC l)) plcSt := fun h h' l hl => hT l (by rw [if_neg h, if_neg h']; exact hl)
  have q1 := end_len (ip := c) (port := f) (by omega) (by omega)
  have q2 := end_len (ip := d) (port := g) (by omega) (by omega)
  have q3 := len_byte (x := e) (by omega)
  have q4 := dots_len (ip := c) (by omega)
  have q5 := dots_len (ip := d) (by omega)
  have q6 := itoa_length (n := f) (by omega)
  have q7 := itoa_length (n := g) (by omega)
  have hn : True := trivial
  clear hT
  repeat' (first | exact rfl | exact pow_is | with_reducible apply And.intro | intro _)
  all_goals (first
    | omega
    | exact hT6 (by assumption) _ (by subst_vars; simp only [U.endS, List.append_assoc])
    | exact hT17 (by assumption) (by assumption) _ (by subst_vars; simp only [U.endS, List.append_assoc])
    | exact hTo (by assumption) (by assumption) _ (by subst_vars; simp only [U.endS, List.append_assoc])
    | (subst_vars; (try simp only [List.length_append, List.length_cons, List.length_nil]); omega))
set_option maxHeartbeats 4000000 in
theorem rshow_run (K : AV → St → Prop) (a b c d e f g : Int) (k : U.KK a b c d e f g) (hT : U.KG a b c d e f g → ∀ l : List Int, l = U.keyS c d e f g → K (cell (strC l)) emptySt) (hF : ¬ U.KG a b c d e f g → K (lit (.string ⟨#[63]⟩)) emptySt) :
    runI inv0 tYU 18 [kyA a b c d e f g] emptySt K := by
  rw [rshow_vc]
  obtain ⟨k1, k2, k3, k4, k5, k6, k7⟩ := k
  refine ⟨fun hg => ?_, fun hn => hF hn⟩
  have hT := hT hg
  unfold U.keyS U.proS at hT
  obtain ⟨h1, h2, h3, h4⟩ := hg
  have hT6 : e = 6 → ∀ l : List Int, l = U.endS c f ++ ([62] ++ (U.endS d g ++ ([47] ++ [116, 99, 112]))) → K (cell (strC l)) emptySt := fun h l hl => hT l (by rw [if_pos h]; exact hl)
  have hT17 : ¬ e = 6 → e = 17 → ∀ l : List Int, l = U.endS c f ++ ([62] ++ (U.endS d g ++ ([47] ++ [117, 100, 112]))) → K (cell (strC l)) emptySt := fun h h' l hl => hT l (by rw [if_neg h, if_pos h']; exact hl)
  have hTo : ¬ e = 6 → ¬ e = 17 → ∀ l : List Int, l = U.endS c f ++ ([62] ++ (U.endS d g ++ ([47] ++ U.itoa e))) → K (cell (strC l)) emptySt := fun h h' l hl => hT l (by rw [if_neg h, if_neg h']; exact hl)
  have q1 := end_len (ip := c) (port := f) (by omega) (by omega)
  have q2 := end_len (ip := d) (port := g) (by omega) (by omega)
  have q3 := len_byte (x := e) (by omega)
  have q4 := dots_len (ip := c) (by omega)
  have q5 := dots_len (ip := d) (by omega)
  have q6 := itoa_length (n := f) (by omega)
  have q7 := itoa_length (n := g) (by omega)
  have hn : True := trivial
  clear hT
  repeat' (first | exact rfl | exact pow_is | with_reducible apply And.intro | intro _)
  all_goals (first
    | omega
    | exact hT6 (by assumption) _ (by subst_vars; simp only [U.endS, List.append_assoc])
    | exact hT17 (by assumption) (by assumption) _ (by subst_vars; simp only [U.endS, List.append_assoc])
    | exact hTo (by assumption) (by assumption) _ (by subst_vars; simp only [U.endS, List.append_assoc])
    | (subst_vars; (try simp only [List.length_append, List.length_cons, List.length_nil]); omega))
def tShow : Tbl := fun f args σ => if f == 17 then match args, σ with
    | [.inl (.inr l)], ⟨[], [], 0, [some ⟨0, .o (.glob 0 a), [], 0, true⟩, some ⟨0, .o (.glob 1 b), [], 0, true⟩], 0⟩ => match kyX l with
      | some [src, dst, sip, dip, proto, sport, dport] => some fun K => ((a = U.plc ∧ b = U.pow) ∧ U.KK src dst sip dip proto sport dport) ∧ (U.KG src dst sip dip proto sport dport → ∀ l : List Int, l = U.keyS sip dip proto sport dport → K (cell (strC l)) ⟨[], [], 0, [some ⟨0, .o (.glob 0 a), [], 0, true⟩, some ⟨0, .o (.glob 1 b), [], 0, true⟩], 0⟩) ∧
          (¬ U.KG src dst sip dip proto sport dport → K (lit (.string ⟨#[63]⟩)) ⟨[], [], 0, [some ⟨0, .o (.glob 0 a), [], 0, true⟩, some ⟨0, .o (.glob 1 b), [], 0, true⟩], 0⟩)
      | _ => none
    | _, _ => none
  else none
theorem tShow_ok : TblOk Tryd.prog tShow := by
  intro f tm σ C h K hK
  unfold tShow at h
  split at h
  · rename_i hf
    obtain rfl : f = 17 := by simpa using hf
    split at h
    · split at h
      · rename_i hl
        obtain rfl := kyX_eq hl
        simp only [Option.some.injEq] at h; subst h
        obtain ⟨⟨⟨rfl, rfl⟩, h1⟩, h2, h3⟩ := hK
        exact knownC noOv names (conOk_of tYU_ok) (show_run K _ _ _ _ _ _ _ h1 h2 h3)
      · cases h
    · cases h
  · cases h
def tRShow : Tbl := fun f args σ => if f == 18 then match args, σ with
    | [.inl (.inr l)], ⟨[], [], 0, [], 0⟩ => match kyX l with
      | some [src, dst, sip, dip, proto, sport, dport] => some fun K => U.KK src dst sip dip proto sport dport ∧ (U.KG src dst sip dip proto sport dport → ∀ l : List Int, l = U.keyS sip dip proto sport dport → K (cell (strC l)) emptySt) ∧ (¬ U.KG src dst sip dip proto sport dport → K (lit (.string ⟨#[63]⟩)) emptySt)
      | _ => none
    | _, _ => none
  else none
theorem tRShow_ok : TblOk Tryd.prog tRShow := by
  intro f tm σ C h K hK
  unfold tRShow at h
  split at h
  · rename_i hf
    obtain rfl : f = 18 := by simpa using hf
    split at h
    · split at h
      · rename_i hl
        obtain rfl := kyX_eq hl
        simp only [Option.some.injEq] at h; subst h
        exact knownC noOv names (conOk_of tYU_ok) (rshow_run K _ _ _ _ _ _ _ hK.1 hK.2.1 hK.2.2)
      · cases h
    · cases h
  · cases h
def tYW : Tbl := tblOr tYI (tblOr tShow tRShow)
theorem tYW_ok : TblOk Tryd.prog tYW := tblOr_ok tYI_ok (tblOr_ok tShow_ok tRShow_ok)
end Go.Proofs.YtlfigaddddncmaaDoor
end
