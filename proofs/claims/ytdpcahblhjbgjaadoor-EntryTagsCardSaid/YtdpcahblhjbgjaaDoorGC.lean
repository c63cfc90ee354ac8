/- Parts of a proof, one behind the other: R1 R2 KO YA YB YC. No condition. -/
import Derived.Test.YtdpcahblhjbgjaaDoorGB
import Derived.Deep.Fields
import Derived.OpenShut
section
namespace Go.Proofs.YtdpcahblhjbgjaaDoor
open Go Reck
set_option linter.unusedVariables false
/-- n bytes, the highest first. -/
def be : Nat → Nat → List Nat
  | 0, _ => []
  | k + 1, v => (v / 256 ^ k % 256) :: be k v
def U.nb (n v : Int) : List Int := nz (be n.toNat v.toNat)
def U.vb (l : List Int) : Int := (l.foldl (fun a c => a * 256 + c) 0) % 18446744073709551616
structure U.numI (n : Nat) (v0 i v : Int) (L : List Int) : Prop where
  out : ∃ k : Nat, i = n - 1 - k ∧ k ≤ n ∧ v = v0 / 256 ^ k ∧ L = List.replicate (n - k) 0 ++ nz (be k v0.toNat)
structure U.valI (l : List Int) (i v : Int) : Prop where
  out : ∃ j : Nat, i = j ∧ j ≤ l.length ∧ v = U.vb (l.take j)
def numInv (c : Code) (tm : List AV) (σ : St) : Inv where
  X := Int × Int × List Int
  tags := [0]
  tag _ _ := 0
  J := wrBut [1, 6] c
  val _ x := [(1, xi .u64 x.2.1), (6, xi .i64 x.1)]
  st _ x σ' := match getArr σ' (slotS tm 5).a with
    | some b => setArr σ' (slotS tm 5).a (some ⟨b.elem, b.k, x.2.2, b.cap, b.ro⟩)
    | none => σ'
  I _ x := U.numI (slotS tm 5).n (slotI tm 1) x.1 x.2.1 x.2.2
  m _ x := (x.1 + 1).toNat
  ren := noRen
def valInv (c : Code) (tm : List AV) (σ : St) : Inv where
  X := Int × Int
  tags := [0]
  tag _ _ := 0
  J := wrBut [3, 8] c
  val _ x := [(3, xi .u64 x.2), (8, xi .i64 x.1)]
  st _ _ σ' := σ'
  I _ x := U.valI (slotL tm 6 σ) x.1 x.2
  m _ x := ((slotL tm 6 σ).length - x.1).toNat
  ren := noRen
def invR1 : InvF := fun c tm σ => match tm.length, firstReg c with
  | 24, some 3 => some (numInv c tm σ)
  | 19, some 3 => some (valInv c tm σ)
  | _, _ => none
set_option maxRecDepth 100000
theorem num_vc (K : AV → St → Prop) (n v : Int) : (runI invR1 tbl0 68 [xi .i64 n, xi .u64 v] emptySt K) = (((0 : Int) ≤ n ∧ n ≤ n ∧ n ≤ (16777216 : Int)) ∧ ∀ (n0 m1 : Nat) (l'2 : List Int), (↑n0 : Int) = n → (↑m1 : Int) = n → l'2 = List.replicate m1 (0 : Int) → ∀ (z3 : Int), z3 = IntKind.wrap IntKind.i64 (n - (1 : Int)) → (∃ (y4 : Int × Int × List Int), n = n ∧ v = Prod.fst (Prod.snd y4) ∧ (OfNat.ofNat (0 : Nat) = OfNat.ofNat (0 : Nat) ∧ n0 = n0 ∧ m1 = m1) ∧ z3 = Prod.fst y4 ∧ n = n ∧ (OfNat.ofNat (0 : Nat) = OfNat.ofNat (0 : Nat) ∧ n0 = n0 ∧ m1 = m1) ∧ n = n ∧ z3 = z3 ∧ (l'2 = Prod.snd (Prod.snd y4) ∧ m1 = m1 ∧ false = false) ∧ U.numI n0 v (Prod.fst y4) (Prod.fst (Prod.snd y4)) (Prod.snd (Prod.snd y4))) ∧ ∀ (x5 : Int × Int × List Int), U.numI n0 v (Prod.fst x5) (Prod.fst (Prod.snd x5)) (Prod.snd (Prod.snd x5)) → ((0 : Int) ≤ Prod.fst x5 → ¬(256 : Int) = (0 : Int) ∧ ∀ (z6 : Int), z6 = Int.tmod (Prod.fst (Prod.snd x5)) (256 : Int) → ∀ (z7 : Int), z7 = IntKind.wrap IntKind.u8 z6 → ((0 : Int) ≤ Prod.fst x5 ∧ Prod.fst x5 < (↑n0 : Int)) ∧ ∀ (j8 : Nat), (↑j8 : Int) = (↑(OfNat.ofNat (0 : Nat)) : Int) + Prod.fst x5 → j8 < List.length (Prod.snd (Prod.snd x5)) ∧ ∀ (l'9 : List Int), l'9 = List.set (Prod.snd (Prod.snd x5)) j8 z7 → ¬(256 : Int) = (0 : Int) ∧ ∀ (z10 : Int), z10 = IntKind.wrap IntKind.u64 (Int.tdiv (Prod.fst (Prod.snd x5)) (256 : Int)) → ∀ (z11 : Int), z11 = IntKind.wrap IntKind.i64 (Prod.fst x5 - (1 : Int)) → ∃ (y12 : Int × Int × List Int), n = n ∧ z10 = Prod.fst (Prod.snd y12) ∧ (OfNat.ofNat (0 : Nat) = OfNat.ofNat (0 : Nat) ∧ n0 = n0 ∧ m1 = m1) ∧ z11 = Prod.fst y12 ∧ n = n ∧ (OfNat.ofNat (0 : Nat) = OfNat.ofNat (0 : Nat) ∧ n0 = n0 ∧ m1 = m1) ∧ n = n ∧ z3 = z3 ∧ (l'9 = Prod.snd (Prod.snd y12) ∧ m1 = m1 ∧ false = false) ∧ U.numI n0 v (Prod.fst y12) (Prod.fst (Prod.snd y12)) (Prod.snd (Prod.snd y12)) ∧ Int.toNat (Prod.fst y12 + (1 : Int)) < Int.toNat (Prod.fst x5 + (1 : Int))) ∧ (¬(0 : Int) ≤ Prod.fst x5 → K (Sum.inl (Sum.inl (Sum.inr (Sum.inr (Sum.inr (Sum.inr (Sum.inr (Sum.inr (Sum.inr (Sum.inl { a := (0 : Nat), o := OfNat.ofNat (0 : Nat), n := n0, c := m1 })))))))))) { heap := [], ints := [], opqs := (0 : Nat), arrs := [some { elem := nat_lit 5, k := AK.n IntKind.u8, l := Prod.snd (Prod.snd x5), cap := m1, ro := false }], junks := (0 : Nat) })) := by kernel_rfl
end Go.Proofs.YtdpcahblhjbgjaaDoor
end

section
set_option linter.unusedVariables false
set_option linter.unusedSimpArgs false
namespace Go.Proofs.YtdpcahblhjbgjaaDoor
open Go Reck

theorem wrapS64 (n : Int) : IntKind.wrap .i64 n = (n + 9223372036854775808) % 18446744073709551616 - 9223372036854775808 := by
  simp [IntKind.wrap, IntKind.signed, IntKind.bits, Int.bmod]
  split <;> omega
theorem by_mem' {L : List Int} (h : U.By L) : ∀ x ∈ L, 0 ≤ x ∧ x < 256 := by
  obtain ⟨cs, rfl, hc⟩ := h
  intro x hx
  obtain ⟨c, hc', rfl⟩ := List.mem_map.1 hx
  have := hc c hc'
  omega
theorem be_length : ∀ (k v : Nat), (be k v).length = k
  | 0, _ => rfl
  | k + 1, v => by simp [be, be_length k v]
theorem be_lt : ∀ (k v : Nat), ∀ c ∈ be k v, c < 256
  | 0, _, c, h => by simp [be] at h
  | k + 1, v, c, h => by
    simp only [be, List.mem_cons] at h
    rcases h with rfl | h
    · omega
    · exact be_lt k v c h
theorem vb_snoc (l : List Int) (c : Int) : U.vb (l ++ [c]) = (U.vb l * 256 + c) % 18446744073709551616 := by
  unfold U.vb
  rw [List.foldl_append]
  simp only [List.foldl_cons, List.foldl_nil]
  omega
/-- What bytes say, from the first on. -/
def vbN (l : List Nat) : Nat := l.foldl (fun a c => a * 256 + c) 0
theorem vbN_cast (l : List Nat) (a : Nat) : (nz l).foldl (fun (a : Int) c => a * 256 + c) a = ((l.foldl (fun a c => a * 256 + c) a : Nat) : Int) := by
  induction l generalizing a with
  | nil => rfl
  | cons c l ih =>
    simp only [nz, List.map_cons, List.foldl_cons] at ih ⊢
    rw [← ih]; congr 1
theorem foldl_be : ∀ (k v a : Nat), (be k v).foldl (fun a c => a * 256 + c) a = a * 256 ^ k + v % 256 ^ k
  | 0, v, a => by simp [be, Nat.mod_one]
  | k + 1, v, a => by
    simp only [be, List.foldl_cons]
    rw [foldl_be k v]
    have h1 : v % 256 ^ (k + 1) = v % 256 ^ k + 256 ^ k * (v / 256 ^ k % 256) := by rw [Nat.pow_succ, Nat.mod_mul]
    rw [h1, Nat.add_mul, Nat.pow_succ]
    rw [Nat.mul_assoc a 256, Nat.mul_comm 256 (256 ^ k), Nat.mul_comm (v / 256 ^ k % 256)]
    omega
theorem vb_be (k v : Nat) (hk : k ≤ 8) : U.vb (nz (be k v)) = ((v % 256 ^ k : Nat) : Int) := by
  unfold U.vb
  have h := vbN_cast (be k v) 0
  rw [foldl_be] at h
  rw [show ((0 : Nat) : Int) = 0 from rfl] at h
  rw [h]
  have h1 : 256 ^ k ≤ 256 ^ 8 := Nat.pow_le_pow_right (by decide) hk
  have h2 : v % 256 ^ k < 256 ^ k := Nat.mod_lt _ (Nat.pow_pos (by decide))
  have h3 : (256 : Nat) ^ 8 = 18446744073709551616 := by decide
  omega
theorem vb_nb (n v : Int) (hn : 0 ≤ n ∧ n ≤ 8) (hv : 0 ≤ v ∧ v < 256 ^ n.toNat) : U.vb (U.nb n v) = v := by
  unfold U.nb
  rw [vb_be _ _ (by omega)]
  have h2 : ((256 ^ n.toNat : Nat) : Int) = 256 ^ n.toNat := by simp
  have : v.toNat % 256 ^ n.toNat = v.toNat := Nat.mod_eq_of_lt (by omega)
  omega
theorem nb_length (n v : Int) : (U.nb n v).length = n.toNat := by unfold U.nb; rw [nz_length, be_length]
theorem nb_by (n v : Int) : U.By (U.nb n v) := ⟨be n.toNat v.toNat, rfl, be_lt _ _⟩
/-- Bits are bytes. -/
theorem num_be : ∀ (k v : Nat), num (8 * k) v = nums 8 (be k v)
  | 0, v => by simp [num, nums, be]
  | k + 1, v => by
    have e : nums 8 (be (k + 1) v) = num 8 (v / 256 ^ k % 256) ++ nums 8 (be k v) := by simp [nums, be]
    rw [e, ← num_be k v]
    have hl1 : (num (8 * (k + 1)) v).length = 8 * (k + 1) := num_length _ _
    apply List.ext_getElem
    · rw [List.length_append, num_length, num_length, num_length]; omega
    · intro i h1 h2
      have g1 : (num (8 * (k + 1)) v).getD i false = (num 8 (v / 256 ^ k % 256) ++ num (8 * k) v).getD i false := by
        rw [getD_num, if_pos (by omega)]
        by_cases hi : i < 8
        · rw [Rd.getD_app_l (by rw [num_length]; exact hi), getD_num, if_pos hi]
          have h256 : (256 : Nat) ^ k = 2 ^ (8 * k) := by rw [Nat.pow_mul]
          have hm : (256 : Nat) = 2 ^ 8 := by decide
          rw [h256, hm, Nat.testBit_mod_two_pow, Nat.testBit_div_two_pow]
          have : 8 - 1 - i < 8 := by omega
          simp only [this, decide_true, Bool.true_and]
          congr 1; omega
        · rw [List.getD_eq_getElem?_getD, List.getElem?_append_right (by rw [num_length]; omega), ← List.getD_eq_getElem?_getD, num_length, getD_num, if_pos (by omega)]
          congr 1; omega
      rw [List.getD_eq_getElem?_getD, List.getD_eq_getElem?_getD, List.getElem?_eq_getElem h1, List.getElem?_eq_getElem h2] at g1
      simpa using g1
theorem nums_app (a b : List Nat) : nums 8 (a ++ b) = nums 8 a ++ nums 8 b := by simp [nums]
/-- Bytes of which the bits are told. -/
theorem out_bytes {L : List Int} {N : Int} {cs : List Nat} (h : U.Out L N (nums 8 cs)) (hc : ∀ c ∈ cs, c < 256) : L = nz cs := by
  obtain ⟨ds, rfl, hp, _⟩ := h
  congr 1
  refine hp.eq ⟨hc, by rw [nums_length]; omega, fun i => (Rd.nums_get cs i).symm⟩

theorem num_run (K : AV → St → Prop) (n v : Int) (hn : 0 ≤ n ∧ n ≤ 1000) (hv : 0 ≤ v ∧ v ≤ 18446744073709551615) (h : ∀ (m : Nat), (m : Int) = n → K (cell (aslC ⟨0, 0, m, m⟩)) (ar [bs (U.nb n v) m false])) :
    runI invR1 tbl0 68 [xi .i64 n, xi .u64 v] emptySt K := by
  rw [num_vc]
  refine ⟨⟨hn.1, Int.le_refl _, by omega⟩, fun n0 m1 l2 e0 e1 e2 z3 h3 => ?_⟩
  have hm : m1 = n0 := by omega
  subst hm
  rw [wrapS64] at h3
  refine ⟨⟨(z3, v, l2), rfl, rfl, ⟨rfl, rfl, rfl⟩, rfl, rfl, ⟨rfl, rfl, rfl⟩, rfl, rfl, ⟨rfl, rfl, rfl⟩, ⟨0, by dsimp only; omega, Nat.zero_le _, by simp, by simp [e2, be, nz]⟩⟩, ?_⟩
  rintro ⟨i, w, L⟩ ⟨k, hi, hk, hw, hL⟩
  dsimp only at hi hk hw hL ⊢
  have hp : (0 : Int) < 256 ^ k := Int.pow_pos (by decide)
  have hw0 : 0 ≤ w := by rw [hw]; exact Int.ediv_nonneg hv.1 (by omega)
  have hw1 : w ≤ v := by rw [hw]; exact Int.ediv_le_self _ hv.1
  refine ⟨fun hlt => ⟨by decide, fun z6 h6 z7 h7 => ⟨⟨hlt, by omega⟩, fun j8 h8 => ⟨?_, fun l9 h9 => ⟨by decide, fun z10 h10 z11 h11 => ?_⟩⟩⟩⟩, fun hge => ?_⟩
  · have h8 : (j8 : Int) = 0 + i := h8
    rw [hL, List.length_append, List.length_replicate, nz_length, be_length]; omega
  · have h8 : (j8 : Int) = 0 + i := h8
    rw [wrapU8] at h7
    rw [wrapU64] at h10
    rw [wrapS64] at h11
    have t1 : Int.tmod w 256 = w % 256 := Int.tmod_eq_emod_of_nonneg hw0
    have t2 : Int.tdiv w 256 = w / 256 := Int.tdiv_eq_ediv_of_nonneg hw0
    rw [t1] at h6
    rw [t2] at h10
    have e7 : z7 = w % 256 := by omega
    have e10 : z10 = w / 256 := by omega
    refine ⟨(z11, z10, l9), rfl, rfl, ⟨rfl, rfl, rfl⟩, rfl, rfl, ⟨rfl, rfl, rfl⟩, rfl, rfl, ⟨rfl, rfl, rfl⟩, ⟨k + 1, by dsimp only; omega, by omega, ?_, ?_⟩, by dsimp only; omega⟩
    · dsimp only
      rw [e10, hw, Int.ediv_ediv_of_nonneg (by omega), Int.pow_succ]
    · dsimp only
      have ej : j8 = m1 - k - 1 := by omega
      obtain ⟨r, hr⟩ : ∃ r, m1 - k = r + 1 := ⟨m1 - k - 1, by omega⟩
      rw [h9, hL, hr, List.replicate_succ', List.append_assoc, ej, show m1 - k - 1 = r by omega, show m1 - (k + 1) = r by omega]
      rw [List.set_append_right _ _ (by simp)]
      simp only [List.length_replicate, Nat.sub_self, List.cons_append, List.nil_append, List.set_cons_zero]
      congr 1
      simp only [be, nz, List.map_cons]
      congr 1
      rw [e7, hw]
      obtain ⟨x, rfl⟩ : ∃ x : Nat, v = x := ⟨v.toNat, by omega⟩
      simp
  · have : k = m1 := by omega
    subst this
    have := h k e0
    rw [hL, Nat.sub_self, List.replicate_zero, List.nil_append]
    have e : U.nb n v = nz (be k v.toNat) := by unfold U.nb; rw [show n.toNat = k by omega]
    rw [← e]; exact this
def tNum : Tbl := fun f args σ => if f == 68 then match args, σ with
    | [n, v], ⟨[], [], 0, [], 0⟩ => match xiX n, xiX v with
      | some (.i64, n), some (.u64, v) => some fun K => ((0 ≤ n ∧ n ≤ 1000) ∧ 0 ≤ v ∧ v ≤ 18446744073709551615) ∧ ∀ (m : Nat) (L : List Int), (m : Int) = n → L = U.nb n v → K (cell (aslC ⟨0, 0, m, m⟩)) (ar [bs L m false])
      | _, _ => none
    | _, _ => none
  else none
theorem tNum_ok : TblOk Tryd.prog tNum := by
  intro f tm σ C h K hK
  unfold tNum at h
  split at h
  · rename_i hf
    obtain rfl : f = 68 := by simpa using hf
    split at h
    · split at h
      · rename_i n v hn hv
        obtain rfl := xiX_eq hn
        obtain rfl := xiX_eq hv
        simp only [Option.some.injEq] at h; subst h
        exact knownC noOv names (conOk_of tbl0_ok) (num_run K n v hK.1.1 hK.1.2 (fun m hm => hK.2 m _ hm rfl))
      · cases h
    · cases h
  · cases h
def tVal : Tbl := fun _ _ _ => none
theorem tVal_ok : TblOk Tryd.prog tVal := by intro f tm σ C h; cases h
def tR2 : Tbl := tblOr tNum tVal
theorem tR2_ok : TblOk Tryd.prog tR2 := tblOr_ok tNum_ok tVal_ok
end Go.Proofs.YtdpcahblhjbgjaaDoor
end

section
set_option linter.unusedVariables false
set_option linter.unusedSimpArgs false
set_option maxRecDepth 100000
namespace Go.Proofs.YtdpcahblhjbgjaaDoor
open Go Reck Go.ChangeShapes Go.WideShapes Go.Deep

structure Ky where
  (src dst sip dip proto sport dport : Int)
def Ky.val (s : Ky) : Value := .agg #[.int .u64 s.src, .int .u64 s.dst, .int .u32 s.sip, .int .u32 s.dip, .int .i64 s.proto, .int .i64 s.sport, .int .i64 s.dport]
def keyZ : Ky := ⟨0, 0, 0, 0, 0, 0, 0⟩
structure Ky.ok (s : Ky) (W : World) : Prop where
  wsrc : (Lit.int .u64 s.src).wf = true
  wdst : (Lit.int .u64 s.dst).wf = true
  wsip : (Lit.int .u32 s.sip).wf = true
  wdip : (Lit.int .u32 s.dip).wf = true
  wproto : (Lit.int .i64 s.proto).wf = true
  wsport : (Lit.int .i64 s.sport).wf = true
  wdport : (Lit.int .i64 s.dport).wf = true
theorem key_list {α : Type} : ∀ l : List α, l.length = 7 → ∃ x0 x1 x2 x3 x4 x5 x6, l = [x0, x1, x2, x3, x4, x5, x6]
  | [x0, x1, x2, x3, x4, x5, x6], _ => ⟨x0, x1, x2, x3, x4, x5, x6, rfl⟩
theorem key_fld {H : Type} {enc : TypeId × Value → H} {P : Program} {w : World} {base : Nat} {spare : Nat → Bool} {held : Bool} {t : TypeId} {fs : Array Field} {fuel : Nat} {cs : List Value} {x : DataW H × List MemPlace} (ht : P.underlying t = some (.struct fs)) (hone : oneCellFields P fs = true) (hC : P.cellsOf t = fs.size)
    (h : DataW.trod enc P w base spare held fuel t cs = some x) : ∃ n, cs.length = fs.size ∧ ∀ (i : Nat) (f : Field), fs[i]? = some f → ∃ y, DataW.trod enc P w base spare held n f.type [cs.getD i undef] = some y := by
  obtain ⟨ys, n, _, _, hl, hyl, hfld⟩ := DataW.trod_struct ht h
  refine ⟨n, hl.trans hC, fun i f hi => ?_⟩
  have hlt : i < fs.size := (Array.getElem?_eq_some_iff.1 hi).1
  obtain ⟨ho, hc1⟩ := hone_of hone i f hi
  have e := hfld i f hi
  rw [ho, hc1, take1_drop _ i undef (by omega)] at e
  have hy : i < ys.length := by omega
  exact ⟨ys[i], by rw [← List.getElem?_eq_getElem hy, ← e]⟩
theorem open_key {H : Type} {enc : TypeId × Value → H} {W : World} {b0 : Nat} {held : Bool} {v : Value} {d : DataW H} {p : List MemPlace} (hval : Value.okWide Tryd.prog W .any b0 32 v) (h : DataW.Trod enc Tryd.prog W 0 (fun _ => true) held 32 v d p) : ∃ s : Ky, v = s.val ∧ s.ok W := by
  obtain ⟨cs, rfl, hsz⟩ : ∃ cs, v = .agg cs ∧ cs.size = Tryd.prog.cellsOf 32 := by
    simp only [Value.okWide, Tryd.underlying32] at hval
    obtain ⟨cs, h1, h2, _⟩ := hval
    exact ⟨cs, h1, h2⟩
  have hC : Tryd.prog.cellsOf 32 = 7 := by kernel_rfl
  rw [hC] at hsz
  obtain ⟨fuel, hf⟩ := h
  have hf : DataW.trod enc Tryd.prog W 0 (fun _ => true) held fuel 32 cs.toList = some (d, p) := hf
  obtain ⟨x0, x1, x2, x3, x4, x5, x6, hcs⟩ := key_list cs.toList (by simpa using hsz)
  rw [hcs] at hf
  obtain ⟨n, _, g⟩ := key_fld Tryd.underlying32 (by kernel_rfl) (by kernel_rfl) hf
  obtain rfl : cs = #[x0, x1, x2, x3, x4, x5, x6] := by cases cs; simp_all
  clear hval hcs hf
  obtain ⟨y0, hy0⟩ := g 0 _ rfl
  obtain ⟨z0, e0, _, w0⟩ := DataW.trod_int Tryd.underlying28 hy0
  obtain rfl : x0 = .int .u64 z0 := (List.cons.inj e0).1
  obtain ⟨y1, hy1⟩ := g 1 _ rfl
  obtain ⟨z1, e1, _, w1⟩ := DataW.trod_int Tryd.underlying28 hy1
  obtain rfl : x1 = .int .u64 z1 := (List.cons.inj e1).1
  obtain ⟨y2, hy2⟩ := g 2 _ rfl
  obtain ⟨z2, e2, _, w2⟩ := DataW.trod_int Tryd.underlying30 hy2
  obtain rfl : x2 = .int .u32 z2 := (List.cons.inj e2).1
  obtain ⟨y3, hy3⟩ := g 3 _ rfl
  obtain ⟨z3, e3, _, w3⟩ := DataW.trod_int Tryd.underlying30 hy3
  obtain rfl : x3 = .int .u32 z3 := (List.cons.inj e3).1
  obtain ⟨y4, hy4⟩ := g 4 _ rfl
  obtain ⟨z4, e4, _, w4⟩ := DataW.trod_int Tryd.underlying3 hy4
  obtain rfl : x4 = .int .i64 z4 := (List.cons.inj e4).1
  obtain ⟨y5, hy5⟩ := g 5 _ rfl
  obtain ⟨z5, e5, _, w5⟩ := DataW.trod_int Tryd.underlying3 hy5
  obtain rfl : x5 = .int .i64 z5 := (List.cons.inj e5).1
  obtain ⟨y6, hy6⟩ := g 6 _ rfl
  obtain ⟨z6, e6, _, w6⟩ := DataW.trod_int Tryd.underlying3 hy6
  obtain rfl : x6 = .int .i64 z6 := (List.cons.inj e6).1
  exact ⟨⟨z0, z1, z2, z3, z4, z5, z6⟩, rfl, ⟨w0, w1, w2, w3, w4, w5, w6⟩⟩
end Go.Proofs.YtdpcahblhjbgjaaDoor
end

section
namespace Go.Proofs.YtdpcahblhjbgjaaDoor
open Go Reck
set_option linter.unusedVariables false
def kyL (src dst sip dip proto sport dport : Int) : List Cell := [xintC .u64 src, xintC .u64 dst, xintC .u32 sip, xintC .u32 dip, xintC .i64 proto, xintC .i64 sport, xintC .i64 dport]
def kyA (src dst sip dip proto sport dport : Int) : AV := .inl (.inr (kyL src dst sip dip proto sport dport))
set_option maxRecDepth 100000
--PLAIN
theorem good_vc (K : AV → St → Prop) (src dst sip dip proto sport dport : Int) : (runI inv0 tbl0 46 [kyA src dst sip dip proto sport dport] emptySt K) = (∀ (z0 : Int), z0 = max src dst → ((281474976710655 : Int) < z0 → K (Sum.inl (Sum.inl (Sum.inl (Value.bool false)))) { heap := [], ints := [], opqs := (0 : Nat), arrs := [], junks := (0 : Nat) }) ∧ (¬(281474976710655 : Int) < z0 → (proto < (0 : Int) → K (Sum.inl (Sum.inl (Sum.inl (Value.bool false)))) { heap := [], ints := [], opqs := (0 : Nat), arrs := [], junks := (0 : Nat) }) ∧ (¬proto < (0 : Int) → ((255 : Int) < proto → K (Sum.inl (Sum.inl (Sum.inl (Value.bool false)))) { heap := [], ints := [], opqs := (0 : Nat), arrs := [], junks := (0 : Nat) }) ∧ (¬(255 : Int) < proto → (¬proto = (6 : Int) → (¬proto = (17 : Int) → (sport = (0 : Int) → (dport = (0 : Int) → K (Sum.inl (Sum.inl (Sum.inl (Value.bool true)))) { heap := [], ints := [], opqs := (0 : Nat), arrs := [], junks := (0 : Nat) }) ∧ (¬dport = (0 : Int) → K (Sum.inl (Sum.inl (Sum.inl (Value.bool false)))) { heap := [], ints := [], opqs := (0 : Nat), arrs := [], junks := (0 : Nat) })) ∧ (¬sport = (0 : Int) → K (Sum.inl (Sum.inl (Sum.inl (Value.bool false)))) { heap := [], ints := [], opqs := (0 : Nat), arrs := [], junks := (0 : Nat) })) ∧ (¬¬proto = (17 : Int) → ∀ (z1 : Int), z1 = min sport dport → ((0 : Int) ≤ z1 → ∀ (z2 : Int), z2 = max sport dport → (z2 ≤ (65535 : Int) → K (Sum.inl (Sum.inl (Sum.inl (Value.bool true)))) { heap := [], ints := [], opqs := (0 : Nat), arrs := [], junks := (0 : Nat) }) ∧ (¬z2 ≤ (65535 : Int) → K (Sum.inl (Sum.inl (Sum.inl (Value.bool false)))) { heap := [], ints := [], opqs := (0 : Nat), arrs := [], junks := (0 : Nat) })) ∧ (¬(0 : Int) ≤ z1 → K (Sum.inl (Sum.inl (Sum.inl (Value.bool false)))) { heap := [], ints := [], opqs := (0 : Nat), arrs := [], junks := (0 : Nat) }))) ∧ (¬¬proto = (6 : Int) → ∀ (z3 : Int), z3 = min sport dport → ((0 : Int) ≤ z3 → ∀ (z4 : Int), z4 = max sport dport → (z4 ≤ (65535 : Int) → K (Sum.inl (Sum.inl (Sum.inl (Value.bool true)))) { heap := [], ints := [], opqs := (0 : Nat), arrs := [], junks := (0 : Nat) }) ∧ (¬z4 ≤ (65535 : Int) → K (Sum.inl (Sum.inl (Sum.inl (Value.bool false)))) { heap := [], ints := [], opqs := (0 : Nat), arrs := [], junks := (0 : Nat) })) ∧ (¬(0 : Int) ≤ z3 → K (Sum.inl (Sum.inl (Sum.inl (Value.bool false)))) { heap := [], ints := [], opqs := (0 : Nat), arrs := [], junks := (0 : Nat) })))))) := by kernel_rfl
theorem rgood_vc (K : AV → St → Prop) (src dst sip dip proto sport dport : Int) : (runI inv0 tbl0 34 [kyA src dst sip dip proto sport dport] emptySt K) = (((281474976710656 : Int) ≤ src → K (Sum.inl (Sum.inl (Sum.inl (Value.bool false)))) { heap := [], ints := [], opqs := (0 : Nat), arrs := [], junks := (0 : Nat) }) ∧ (¬(281474976710656 : Int) ≤ src → ((281474976710656 : Int) ≤ dst → K (Sum.inl (Sum.inl (Sum.inl (Value.bool false)))) { heap := [], ints := [], opqs := (0 : Nat), arrs := [], junks := (0 : Nat) }) ∧ (¬(281474976710656 : Int) ≤ dst → (proto < (0 : Int) → K (Sum.inl (Sum.inl (Sum.inl (Value.bool false)))) { heap := [], ints := [], opqs := (0 : Nat), arrs := [], junks := (0 : Nat) }) ∧ (¬proto < (0 : Int) → ((256 : Int) ≤ proto → K (Sum.inl (Sum.inl (Sum.inl (Value.bool false)))) { heap := [], ints := [], opqs := (0 : Nat), arrs := [], junks := (0 : Nat) }) ∧ (¬(256 : Int) ≤ proto → (proto = (6 : Int) → ((0 : Int) ≤ sport → (sport ≤ (65535 : Int) → ((0 : Int) ≤ dport → (dport ≤ (65535 : Int) → K (Sum.inl (Sum.inl (Sum.inl (Value.bool true)))) { heap := [], ints := [], opqs := (0 : Nat), arrs := [], junks := (0 : Nat) }) ∧ (¬dport ≤ (65535 : Int) → K (Sum.inl (Sum.inl (Sum.inl (Value.bool false)))) { heap := [], ints := [], opqs := (0 : Nat), arrs := [], junks := (0 : Nat) })) ∧ (¬(0 : Int) ≤ dport → K (Sum.inl (Sum.inl (Sum.inl (Value.bool false)))) { heap := [], ints := [], opqs := (0 : Nat), arrs := [], junks := (0 : Nat) })) ∧ (¬sport ≤ (65535 : Int) → K (Sum.inl (Sum.inl (Sum.inl (Value.bool false)))) { heap := [], ints := [], opqs := (0 : Nat), arrs := [], junks := (0 : Nat) })) ∧ (¬(0 : Int) ≤ sport → K (Sum.inl (Sum.inl (Sum.inl (Value.bool false)))) { heap := [], ints := [], opqs := (0 : Nat), arrs := [], junks := (0 : Nat) })) ∧ (¬proto = (6 : Int) → (proto = (17 : Int) → ((0 : Int) ≤ sport → (sport ≤ (65535 : Int) → ((0 : Int) ≤ dport → (dport ≤ (65535 : Int) → K (Sum.inl (Sum.inl (Sum.inl (Value.bool true)))) { heap := [], ints := [], opqs := (0 : Nat), arrs := [], junks := (0 : Nat) }) ∧ (¬dport ≤ (65535 : Int) → K (Sum.inl (Sum.inl (Sum.inl (Value.bool false)))) { heap := [], ints := [], opqs := (0 : Nat), arrs := [], junks := (0 : Nat) })) ∧ (¬(0 : Int) ≤ dport → K (Sum.inl (Sum.inl (Sum.inl (Value.bool false)))) { heap := [], ints := [], opqs := (0 : Nat), arrs := [], junks := (0 : Nat) })) ∧ (¬sport ≤ (65535 : Int) → K (Sum.inl (Sum.inl (Sum.inl (Value.bool false)))) { heap := [], ints := [], opqs := (0 : Nat), arrs := [], junks := (0 : Nat) })) ∧ (¬(0 : Int) ≤ sport → K (Sum.inl (Sum.inl (Sum.inl (Value.bool false)))) { heap := [], ints := [], opqs := (0 : Nat), arrs := [], junks := (0 : Nat) })) ∧ (¬proto = (17 : Int) → ((0 : Int) ≤ sport → (sport ≤ (0 : Int) → ((0 : Int) ≤ dport → (dport ≤ (0 : Int) → K (Sum.inl (Sum.inl (Sum.inl (Value.bool true)))) { heap := [], ints := [], opqs := (0 : Nat), arrs := [], junks := (0 : Nat) }) ∧ (¬dport ≤ (0 : Int) → K (Sum.inl (Sum.inl (Sum.inl (Value.bool false)))) { heap := [], ints := [], opqs := (0 : Nat), arrs := [], junks := (0 : Nat) })) ∧ (¬(0 : Int) ≤ dport → K (Sum.inl (Sum.inl (Sum.inl (Value.bool false)))) { heap := [], ints := [], opqs := (0 : Nat), arrs := [], junks := (0 : Nat) })) ∧ (¬sport ≤ (0 : Int) → K (Sum.inl (Sum.inl (Sum.inl (Value.bool false)))) { heap := [], ints := [], opqs := (0 : Nat), arrs := [], junks := (0 : Nat) })) ∧ (¬(0 : Int) ≤ sport → K (Sum.inl (Sum.inl (Sum.inl (Value.bool false)))) { heap := [], ints := [], opqs := (0 : Nat), arrs := [], junks := (0 : Nat) })))))))) := by kernel_rfl
end Go.Proofs.YtdpcahblhjbgjaaDoor
end

section
set_option linter.unusedVariables false
set_option linter.unusedSimpArgs false
namespace Go.Proofs.YtdpcahblhjbgjaaDoor
open Go Reck
/-- A key that may be. -/
structure U.KG (src dst sip dip proto sport dport : Int) : Prop where
  m : src ≤ 281474976710655 ∧ dst ≤ 281474976710655
  p : 0 ≤ proto ∧ proto ≤ 255
  s : 0 ≤ sport ∧ sport ≤ 65535 ∧ 0 ≤ dport ∧ dport ≤ 65535
  z : proto = 6 ∨ proto = 17 ∨ (sport = 0 ∧ dport = 0)
theorem good_run (K : AV → St → Prop) (src dst sip dip proto sport dport : Int) (hT : U.KG src dst sip dip proto sport dport → K (lit (.bool true)) emptySt) (hF : ¬ U.KG src dst sip dip proto sport dport → K (lit (.bool false)) emptySt) :
    runI inv0 tbl0 46 [kyA src dst sip dip proto sport dport] emptySt K := by
  rw [good_vc]
  repeat' (first | with_reducible apply And.intro | intro _)
  all_goals (first | exact hT ⟨by omega, by omega, by omega, by omega⟩ | exact hF (fun h => by obtain ⟨h1, h2, h3, h4⟩ := h; omega))
theorem rgood_run (K : AV → St → Prop) (src dst sip dip proto sport dport : Int) (hT : U.KG src dst sip dip proto sport dport → K (lit (.bool true)) emptySt) (hF : ¬ U.KG src dst sip dip proto sport dport → K (lit (.bool false)) emptySt) :
    runI inv0 tbl0 34 [kyA src dst sip dip proto sport dport] emptySt K := by
  rw [rgood_vc]
  repeat' (first | with_reducible apply And.intro | intro _)
  all_goals (first | exact hT ⟨by omega, by omega, by omega, by omega⟩ | exact hF (fun h => by obtain ⟨h1, h2, h3, h4⟩ := h; omega))
def kyX (l : List Cell) : Option (List Int) :=
  match l with
  | [a, b, c, d, e, f, g] => match xiX (cell a), xiX (cell b), xiX (cell c), xiX (cell d), xiX (cell e), xiX (cell f), xiX (cell g) with
    | some (.u64, a), some (.u64, b), some (.u32, c), some (.u32, d), some (.i64, e), some (.i64, f), some (.i64, g) => some [a, b, c, d, e, f, g]
    | _, _, _, _, _, _, _ => none
  | _ => none
theorem kyX_eq {l : List Cell} {a b c d e f g : Int} (h : kyX l = some [a, b, c, d, e, f, g]) : l = kyL a b c d e f g := by
  unfold kyX at h
  split at h
  · split at h
    · rename_i h1 h2 h3 h4 h5 h6 h7
      simp only [Option.some.injEq, List.cons.injEq, and_true] at h
      obtain ⟨rfl, rfl, rfl, rfl, rfl, rfl, rfl⟩ := h
      rw [cell_inj (xiX_eq h1), cell_inj (xiX_eq h2), cell_inj (xiX_eq h3), cell_inj (xiX_eq h4), cell_inj (xiX_eq h5), cell_inj (xiX_eq h6), cell_inj (xiX_eq h7)]; rfl
    · cases h
  · cases h
def tGood : Tbl := fun f args σ => if f == 46 then match args, σ with
    | [.inl (.inr l)], ⟨[], [], 0, [], 0⟩ => match kyX l with
      | some [src, dst, sip, dip, proto, sport, dport] => some fun K => (U.KG src dst sip dip proto sport dport → K (lit (.bool true)) emptySt) ∧ (¬ U.KG src dst sip dip proto sport dport → K (lit (.bool false)) emptySt)
      | _ => none
    | _, _ => none
  else none
theorem tGood_ok : TblOk Tryd.prog tGood := by
  intro f tm σ C h K hK
  unfold tGood at h
  split at h
  · rename_i hf
    obtain rfl : f = 46 := by simpa using hf
    split at h
    · split at h
      · rename_i hl
        obtain rfl := kyX_eq hl
        simp only [Option.some.injEq] at h; subst h
        exact knownC noOv names (conOk_of tbl0_ok) (good_run K _ _ _ _ _ _ _ hK.1 hK.2)
      · cases h
    · cases h
  · cases h
def tRGood : Tbl := fun f args σ => if f == 34 then match args, σ with
    | [.inl (.inr l)], ⟨[], [], 0, [], 0⟩ => match kyX l with
      | some [src, dst, sip, dip, proto, sport, dport] => some fun K => (U.KG src dst sip dip proto sport dport → K (lit (.bool true)) emptySt) ∧ (¬ U.KG src dst sip dip proto sport dport → K (lit (.bool false)) emptySt)
      | _ => none
    | _, _ => none
  else none
theorem tRGood_ok : TblOk Tryd.prog tRGood := by
  intro f tm σ C h K hK
  unfold tRGood at h
  split at h
  · rename_i hf
    obtain rfl : f = 34 := by simpa using hf
    split at h
    · split at h
      · rename_i hl
        obtain rfl := kyX_eq hl
        simp only [Option.some.injEq] at h; subst h
        exact knownC noOv names (conOk_of tbl0_ok) (rgood_run K _ _ _ _ _ _ _ hK.1 hK.2)
      · cases h
    · cases h
  · cases h
def tKG : Tbl := tblOr tGood tRGood
theorem tKG_ok : TblOk Tryd.prog tKG := tblOr_ok tGood_ok tRGood_ok
end Go.Proofs.YtdpcahblhjbgjaaDoor
end

section
namespace Go.Proofs.YtdpcahblhjbgjaaDoor
open Go Reck
set_option linter.unusedVariables false
def tYB : Tbl := tblOr tBitsAll (tblOr tR2 tKG)
theorem tYB_ok : TblOk Tryd.prog tYB := tblOr_ok tBitsAll_ok (tblOr_ok tR2_ok tKG_ok)
set_option maxRecDepth 100000
--PLAIN
theorem kbytes_vc (K : AV → St → Prop) (src dst sip dip proto sport dport : Int) : (runI inv0 tYB 52 [kyA src dst sip dip proto sport dport] emptySt K) = ((U.KG src dst sip dip proto sport dport → ∀ (L0 : List Int), U.Out L0 (0 : Int) [] → L0 = [] → ∃ (y1 : List Bool), U.BitsPre L0 (0 : Int) (0 : Nat) (0 : Nat) (0 : Nat) y1 (48 : Int) [src, dst] ∧ ∀ (L'2 : List Int) (m'3 c'4 cap'5 : Nat) (N'6 : Int), U.Out L'2 N'6 (U.apps y1 (48 : Int) [src, dst]) → N'6 = (0 : Int) + (↑(List.length [src, dst]) : Int) * (48 : Int) → m'3 = List.length L'2 → c'4 ≤ cap'5 → m'3 ≤ c'4 → ∀ (z7 : Int), z7 = IntKind.wrap IntKind.u64 sip → ∀ (z8 : Int), z8 = IntKind.wrap IntKind.u64 dip → ∃ (y9 : List Bool), U.BitsPre L'2 N'6 m'3 c'4 cap'5 y9 (32 : Int) [z7, z8] ∧ ∀ (L'10 : List Int) (m'11 c'12 cap'13 : Nat) (N'14 : Int), U.Out L'10 N'14 (U.apps y9 (32 : Int) [z7, z8]) → N'14 = N'6 + (↑(List.length [z7, z8]) : Int) * (32 : Int) → m'11 = List.length L'10 → c'12 ≤ cap'13 → m'11 ≤ c'12 → ∀ (z15 : Int), z15 = IntKind.wrap IntKind.u64 proto → ∃ (y16 : List Bool), U.BitsPre L'10 N'14 m'11 c'12 cap'13 y16 (8 : Int) [z15] ∧ ∀ (L'17 : List Int) (m'18 c'19 cap'20 : Nat) (N'21 : Int), U.Out L'17 N'21 (U.apps y16 (8 : Int) [z15]) → N'21 = N'14 + (↑(List.length [z15]) : Int) * (8 : Int) → m'18 = List.length L'17 → c'19 ≤ cap'20 → m'18 ≤ c'19 → ∀ (z22 : Int), z22 = IntKind.wrap IntKind.u64 sport → ∀ (z23 : Int), z23 = IntKind.wrap IntKind.u64 dport → ∃ (y24 : List Bool), U.BitsPre L'17 N'21 m'18 c'19 cap'20 y24 (16 : Int) [z22, z23] ∧ ∀ (L'25 : List Int) (m'26 c'27 cap'28 : Nat) (N'29 : Int), U.Out L'25 N'29 (U.apps y24 (16 : Int) [z22, z23]) → N'29 = N'21 + (↑(List.length [z22, z23]) : Int) * (16 : Int) → m'26 = List.length L'25 → c'27 ≤ cap'28 → m'26 ≤ c'27 → (m'26 = List.length L'25 ∧ m'26 ≤ (16777216 : Nat)) ∧ ∀ (L'30 : List Int) (c'31 cap'32 : Nat), L'30 = L'25 → m'26 ≤ c'31 → c'31 ≤ cap'32 → K (Sum.inl (Sum.inl (Sum.inr (Sum.inr (Sum.inr (Sum.inr (Sum.inr (Sum.inr (Sum.inr (Sum.inl { a := (0 : Nat), o := (0 : Nat), n := m'26, c := c'31 })))))))))) { heap := [], ints := [], opqs := (0 : Nat), arrs := [some { elem := (5 : Nat), k := AK.n IntKind.u8, l := L'30, cap := cap'32, ro := false }], junks := (0 : Nat) }) ∧ (¬U.KG src dst sip dip proto sport dport → K (Sum.inl (Sum.inl (Sum.inl (Value.slice none (0 : Nat) (0 : Nat))))) { heap := [], ints := [], opqs := (0 : Nat), arrs := [], junks := (0 : Nat) })) := by kernel_rfl
theorem rbytes_vc (K : AV → St → Prop) (src dst sip dip proto sport dport : Int) : (runI inv0 tYB 56 [kyA src dst sip dip proto sport dport] emptySt K) = (∀ (z0 : Int), z0 = IntKind.wrap IntKind.i64 src → ∀ (z1 : Int), z1 = IntKind.wrap IntKind.i64 dst → ∀ (z2 : Int), z2 = IntKind.wrap IntKind.i64 sip → ∀ (z3 : Int), z3 = IntKind.wrap IntKind.i64 dip → ∀ (z4 : Int), z4 = IntKind.wrap IntKind.u64 z0 → (((0 : Int) ≤ (6 : Int) ∧ (6 : Int) ≤ (1000 : Int)) ∧ (0 : Int) ≤ z4 ∧ z4 ≤ (18446744073709551615 : Int)) ∧ ∀ (m5 : Nat) (L6 : List Int), (↑m5 : Int) = (6 : Int) → L6 = U.nb (6 : Int) z4 → True ∧ Nat.le ((0 : Nat) + m5) (List.length L6) ∧ (0 : Nat) ≤ (16777216 : Nat) ∧ m5 ≤ (16777216 : Nat) ∧ ∀ (l'7 : List Int) (n'8 c'9 : Nat), l'7 = [] ++ List.take m5 (List.drop ((0 : Nat)) L6) → n'8 = (0 : Nat) + m5 → n'8 ≤ c'9 → ∀ (z10 : Int), z10 = IntKind.wrap IntKind.i64 src → ∀ (z11 : Int), z11 = IntKind.wrap IntKind.i64 dst → ∀ (z12 : Int), z12 = IntKind.wrap IntKind.i64 sip → ∀ (z13 : Int), z13 = IntKind.wrap IntKind.i64 dip → ∀ (z14 : Int), z14 = IntKind.wrap IntKind.u64 z11 → (((0 : Int) ≤ (6 : Int) ∧ (6 : Int) ≤ (1000 : Int)) ∧ (0 : Int) ≤ z14 ∧ z14 ≤ (18446744073709551615 : Int)) ∧ ∀ (m15 : Nat) (L16 : List Int), (↑m15 : Int) = (6 : Int) → L16 = U.nb (6 : Int) z14 → ((0 : Nat) + n'8 ≤ List.length l'7 ∧ (0 : Nat) + c'9 ≤ c'9) ∧ Nat.le ((0 : Nat) + m15) (List.length L16) ∧ n'8 ≤ (16777216 : Nat) ∧ m15 ≤ (16777216 : Nat) ∧ ∀ (l'17 : List Int) (n'18 c'19 : Nat), l'17 = List.take n'8 (List.drop ((0 : Nat)) l'7) ++ List.take m15 (List.drop ((0 : Nat)) L16) → n'18 = n'8 + m15 → n'18 ≤ c'19 → ∀ (z20 : Int), z20 = IntKind.wrap IntKind.i64 src → ∀ (z21 : Int), z21 = IntKind.wrap IntKind.i64 dst → ∀ (z22 : Int), z22 = IntKind.wrap IntKind.i64 sip → ∀ (z23 : Int), z23 = IntKind.wrap IntKind.i64 dip → ∀ (z24 : Int), z24 = IntKind.wrap IntKind.u64 z22 → (((0 : Int) ≤ (4 : Int) ∧ (4 : Int) ≤ (1000 : Int)) ∧ (0 : Int) ≤ z24 ∧ z24 ≤ (18446744073709551615 : Int)) ∧ ∀ (m25 : Nat) (L26 : List Int), (↑m25 : Int) = (4 : Int) → L26 = U.nb (4 : Int) z24 → ((0 : Nat) + n'18 ≤ List.length l'17 ∧ (0 : Nat) + c'19 ≤ c'19) ∧ Nat.le ((0 : Nat) + m25) (List.length L26) ∧ n'18 ≤ (16777216 : Nat) ∧ m25 ≤ (16777216 : Nat) ∧ ∀ (l'27 : List Int) (n'28 c'29 : Nat), l'27 = List.take n'18 (List.drop ((0 : Nat)) l'17) ++ List.take m25 (List.drop ((0 : Nat)) L26) → n'28 = n'18 + m25 → n'28 ≤ c'29 → ∀ (z30 : Int), z30 = IntKind.wrap IntKind.i64 src → ∀ (z31 : Int), z31 = IntKind.wrap IntKind.i64 dst → ∀ (z32 : Int), z32 = IntKind.wrap IntKind.i64 sip → ∀ (z33 : Int), z33 = IntKind.wrap IntKind.i64 dip → ∀ (z34 : Int), z34 = IntKind.wrap IntKind.u64 z33 → (((0 : Int) ≤ (4 : Int) ∧ (4 : Int) ≤ (1000 : Int)) ∧ (0 : Int) ≤ z34 ∧ z34 ≤ (18446744073709551615 : Int)) ∧ ∀ (m35 : Nat) (L36 : List Int), (↑m35 : Int) = (4 : Int) → L36 = U.nb (4 : Int) z34 → ((0 : Nat) + n'28 ≤ List.length l'27 ∧ (0 : Nat) + c'29 ≤ c'29) ∧ Nat.le ((0 : Nat) + m35) (List.length L36) ∧ n'28 ≤ (16777216 : Nat) ∧ m35 ≤ (16777216 : Nat) ∧ ∀ (l'37 : List Int) (n'38 c'39 : Nat), l'37 = List.take n'28 (List.drop ((0 : Nat)) l'27) ++ List.take m35 (List.drop ((0 : Nat)) L36) → n'38 = n'28 + m35 → n'38 ≤ c'39 → ∀ (z40 : Int), z40 = IntKind.wrap IntKind.i64 src → ∀ (z41 : Int), z41 = IntKind.wrap IntKind.i64 dst → ∀ (z42 : Int), z42 = IntKind.wrap IntKind.i64 sip → ∀ (z43 : Int), z43 = IntKind.wrap IntKind.i64 dip → ∀ (z44 : Int), z44 = IntKind.wrap IntKind.u64 proto → (((0 : Int) ≤ (1 : Int) ∧ (1 : Int) ≤ (1000 : Int)) ∧ (0 : Int) ≤ z44 ∧ z44 ≤ (18446744073709551615 : Int)) ∧ ∀ (m45 : Nat) (L46 : List Int), (↑m45 : Int) = (1 : Int) → L46 = U.nb (1 : Int) z44 → ((0 : Nat) + n'38 ≤ List.length l'37 ∧ (0 : Nat) + c'39 ≤ c'39) ∧ Nat.le ((0 : Nat) + m45) (List.length L46) ∧ n'38 ≤ (16777216 : Nat) ∧ m45 ≤ (16777216 : Nat) ∧ ∀ (l'47 : List Int) (n'48 c'49 : Nat), l'47 = List.take n'38 (List.drop ((0 : Nat)) l'37) ++ List.take m45 (List.drop ((0 : Nat)) L46) → n'48 = n'38 + m45 → n'48 ≤ c'49 → ∀ (z50 : Int), z50 = IntKind.wrap IntKind.i64 src → ∀ (z51 : Int), z51 = IntKind.wrap IntKind.i64 dst → ∀ (z52 : Int), z52 = IntKind.wrap IntKind.i64 sip → ∀ (z53 : Int), z53 = IntKind.wrap IntKind.i64 dip → ∀ (z54 : Int), z54 = IntKind.wrap IntKind.u64 sport → (((0 : Int) ≤ (2 : Int) ∧ (2 : Int) ≤ (1000 : Int)) ∧ (0 : Int) ≤ z54 ∧ z54 ≤ (18446744073709551615 : Int)) ∧ ∀ (m55 : Nat) (L56 : List Int), (↑m55 : Int) = (2 : Int) → L56 = U.nb (2 : Int) z54 → ((0 : Nat) + n'48 ≤ List.length l'47 ∧ (0 : Nat) + c'49 ≤ c'49) ∧ Nat.le ((0 : Nat) + m55) (List.length L56) ∧ n'48 ≤ (16777216 : Nat) ∧ m55 ≤ (16777216 : Nat) ∧ ∀ (l'57 : List Int) (n'58 c'59 : Nat), l'57 = List.take n'48 (List.drop ((0 : Nat)) l'47) ++ List.take m55 (List.drop ((0 : Nat)) L56) → n'58 = n'48 + m55 → n'58 ≤ c'59 → ∀ (z60 : Int), z60 = IntKind.wrap IntKind.i64 src → ∀ (z61 : Int), z61 = IntKind.wrap IntKind.i64 dst → ∀ (z62 : Int), z62 = IntKind.wrap IntKind.i64 sip → ∀ (z63 : Int), z63 = IntKind.wrap IntKind.i64 dip → ∀ (z64 : Int), z64 = IntKind.wrap IntKind.u64 dport → (((0 : Int) ≤ (2 : Int) ∧ (2 : Int) ≤ (1000 : Int)) ∧ (0 : Int) ≤ z64 ∧ z64 ≤ (18446744073709551615 : Int)) ∧ ∀ (m65 : Nat) (L66 : List Int), (↑m65 : Int) = (2 : Int) → L66 = U.nb (2 : Int) z64 → ((0 : Nat) + n'58 ≤ List.length l'57 ∧ (0 : Nat) + c'59 ≤ c'59) ∧ Nat.le ((0 : Nat) + m65) (List.length L66) ∧ n'58 ≤ (16777216 : Nat) ∧ m65 ≤ (16777216 : Nat) ∧ ∀ (l'67 : List Int) (n'68 c'69 : Nat), l'67 = List.take n'58 (List.drop ((0 : Nat)) l'57) ++ List.take m65 (List.drop ((0 : Nat)) L66) → n'68 = n'58 + m65 → n'68 ≤ c'69 → K (Sum.inl (Sum.inl (Sum.inr (Sum.inr (Sum.inr (Sum.inr (Sum.inr (Sum.inr (Sum.inr (Sum.inl { a := (0 : Nat), o := (0 : Nat), n := n'68, c := c'69 })))))))))) { heap := [], ints := [], opqs := (0 : Nat), arrs := [some { elem := (5 : Nat), k := AK.n IntKind.u8, l := l'67, cap := c'69, ro := false }], junks := (0 : Nat) }) := by kernel_rfl
end Go.Proofs.YtdpcahblhjbgjaaDoor
end
