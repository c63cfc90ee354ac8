/- Parts of a proof, one behind the other: PP0 PP1 PP2 PP3 PP4 PP5. No condition. -/
import Derived.Test.YtopceemfefhkmaaGA
section
namespace Go.Proofs.Ytopceemfefhkmaa
open Go Reck Ost
set_option linter.unusedVariables false
set_option maxRecDepth 100000
def rg1St (s : ASl) (m v : Int) (L : List Int) (cap : Nat) : St := ⟨[rgB (aslC s) m, some ⟨3, [xintC .i64 v], none, 1, false⟩], [], 0, [some (ib L cap false)], 0⟩
--PLAIN
theorem rgPut1_vc (K : AV → St → Prop) (L : List Int) (o n c cap : Nat) (m v : Int) : (runR inv0 tbl0 27 [ptr 0 0, sl ⟨1, 0, 1, none, 1⟩] (rg1St ⟨0, o, n, c⟩ m v L cap) K) = (∀ (z0 : Int), z0 = (↑n : Int) → ∀ (z1 : Int), z1 = IntKind.wrap IntKind.i64 (m - z0) → (z1 < (1 : Int) → K (Sum.inl (Sum.inl (Sum.inl (Value.bool false)))) { heap := [some { elem := nat_lit 53, cells := [Sum.inr (Sum.inr (Sum.inr (Sum.inr (Sum.inr (Sum.inr (Sum.inr (Sum.inl { a := (0 : Nat), o := o, n := n, c := c }))))))), Sum.inr (Sum.inr (Sum.inr (Sum.inr (Sum.inr (Sum.inr (Sum.inl (IntKind.i64, m)))))))], j := none, c := (2 : Nat), z := false }, some { elem := nat_lit 3, cells := [Sum.inr (Sum.inr (Sum.inr (Sum.inr (Sum.inr (Sum.inr (Sum.inl (IntKind.i64, v)))))))], j := none, c := (1 : Nat), z := false }], ints := [], opqs := (0 : Nat), arrs := [some { elem := (3 : Nat), k := AK.n IntKind.i64, l := L, cap := cap, ro := false }], junks := (0 : Nat) }) ∧ (¬z1 < (1 : Int) → (o + n ≤ List.length L ∧ o + c ≤ cap) ∧ True ∧ n ≤ (16777216 : Nat) ∧ (1 : Nat) ≤ (16777216 : Nat) ∧ ∀ (l'2 : List Int) (n'3 c'4 : Nat), l'2 = List.take n (List.drop o L) ++ [v] → n'3 = n + (1 : Nat) → n'3 ≤ c'4 → K (Sum.inl (Sum.inl (Sum.inl (Value.bool true)))) { heap := [some { elem := nat_lit 53, cells := [Sum.inr (Sum.inr (Sum.inr (Sum.inr (Sum.inr (Sum.inr (Sum.inr (Sum.inl { a := (1 : Nat), o := (0 : Nat), n := n'3, c := c'4 }))))))), Sum.inr (Sum.inr (Sum.inr (Sum.inr (Sum.inr (Sum.inr (Sum.inl (IntKind.i64, m)))))))], j := none, c := (2 : Nat), z := false }, some { elem := nat_lit 3, cells := [Sum.inr (Sum.inr (Sum.inr (Sum.inr (Sum.inr (Sum.inr (Sum.inl (IntKind.i64, v)))))))], j := none, c := (1 : Nat), z := false }], ints := [], opqs := (0 : Nat), arrs := [none, some { elem := (3 : Nat), k := AK.n IntKind.i64, l := l'2, cap := c'4, ro := false }], junks := (0 : Nat) })) := by kernel_rfl
end Go.Proofs.Ytopceemfefhkmaa
end

section
set_option linter.unusedVariables false
set_option linter.unusedSimpArgs false
namespace Go.Proofs.Ytopceemfefhkmaa
open Go Reck Ost
theorem rgPut1_run (K : AV → St → Prop) (L : List Int) (o n c cap : Nat) (m v : Int) (A : List Int) (h : U.Rg L o n c cap A) (hm : 0 ≤ m ∧ m ≤ 4096) (hn : (n : Int) ≤ m)
    (h0 : m ≤ n → K (lit (.bool false)) (rg1St ⟨0, o, n, c⟩ m v L cap))
    (h1 : ¬ m ≤ n → ∀ (L' : List Int) (n' c' : Nat), n' = n + 1 → U.Rg L' 0 n' c' c' (A ++ [v]) → K (lit (.bool true)) ⟨[rgB (aslC ⟨1, 0, n', c'⟩) m, some ⟨3, [xintC .i64 v], none, 1, false⟩], [], 0, [none, some (ib L' c' false)], 0⟩) :
    runR inv0 tbl0 27 [ptr 0 0, sl ⟨1, 0, 1, none, 1⟩] (rg1St ⟨0, o, n, c⟩ m v L cap) K := by
  rw [rgPut1_vc]
  have hl := h.len
  have hcp := h.cap
  have hsm := h.sm
  intro z hz z1 hz1
  have e1 := iw hz1 (by omega)
  exact ⟨fun g => h0 (by omega), fun g => ⟨⟨by omega, by omega⟩, trivial, by omega, by decide, fun l' n' c' q1 q2 q3 => h1 (by omega) l' n' c' q2 (by
    have := h.n
    have e : l' = A ++ [v] := by rw [q1, h.eq]
    rw [e]
    exact U.Rg.all (by rw [List.length_append]; simp; omega) q3 (Nat.le_refl _) (by omega))⟩⟩
def pRgPut1 : Pat := fun args σ => match args, σ with
  | [.inl (.inl (.inr (.inl (0, 0)))), .inl (.inl (.inr (.inr (.inl ⟨1, 0, 1, none, 1⟩))))], ⟨[some ⟨53, [s, m], none, 2, false⟩, some ⟨3, [v], none, 1, false⟩], [], 0, [some ⟨3, .n .i64, L, cap, false⟩], 0⟩ => match aslX (cell s), xiX (cell m), xiX (cell v) with
    | some ⟨0, o, n, c⟩, some (.i64, m), some (.i64, v) => some fun K => ∃ A, (U.Rg L o n c cap A ∧ (0 ≤ m ∧ m ≤ 4096) ∧ (n : Int) ≤ m) ∧ (m ≤ n → K (lit (.bool false)) (rg1St ⟨0, o, n, c⟩ m v L cap)) ∧
        (¬ m ≤ n → ∀ (L' : List Int) (n' c' : Nat), n' = n + 1 → U.Rg L' 0 n' c' c' (A ++ [v]) → K (lit (.bool true)) ⟨[rgB (aslC ⟨1, 0, n', c'⟩) m, some ⟨3, [xintC .i64 v], none, 1, false⟩], [], 0, [none, some (ib L' c' false)], 0⟩)
    | _, _, _ => none
  | _, _ => none
theorem pRgPut1_ok : PatOk 27 pRgPut1 := by
  intro tm σ C h K hK w0 e w hk vs hvs
  unfold pRgPut1 at h
  split at h
  · split at h
    · rename_i hs hm hv
      obtain rfl := cell_inj (aslX_eq hs)
      obtain rfl := cell_inj (xiX_eq hm)
      obtain rfl := cell_inj (xiX_eq hv)
      simp only [Option.some.injEq] at h; subst h
      obtain ⟨A, ⟨h1, h2, h3⟩, h4, h5⟩ := hK
      exact knownC noOv names (conOk_ofR tbl0_ok) (rgPut1_run K _ _ _ _ _ _ _ A h1 h2 h3 h4 h5) w0 e w hk vs hvs
    · cases h
  · cases h
def tRg : Tbl := tblOr (tblIf 29 pRgAt) (tblOr (tblIf 28 pRgCut) (tblOr (tblIf 27 pRgPut1) (tblOr (tblIf 26 pRgAll) (tblIf 21 pRgNew))))
theorem tRg_ok : TblOk Try.prog tRg := tblOr_ok (tblIf_ok pRgAt_ok) (tblOr_ok (tblIf_ok pRgCut_ok) (tblOr_ok (tblIf_ok pRgPut1_ok) (tblOr_ok (tblIf_ok pRgAll_ok) (tblIf_ok pRgNew_ok))))
end Go.Proofs.Ytopceemfefhkmaa
end

section
namespace Go.Proofs.Ytopceemfefhkmaa
open Go Reck Ost
set_option linter.unusedVariables false
set_option maxRecDepth 100000
def ppB (s c d : Int) : Option Blk := some ⟨48, [.inr (.inl (1, 0)), xintC .i64 s, xintC .i64 c, xintC .i64 d], none, 4, false⟩
def ppSt (r : ASl) (m : Int) (L : List Int) (cap : Nat) (s c d : Int) : St := ⟨[ppB s c d, rgB (aslC r) m], [], 0, [some (ib L cap false)], 0⟩
def pp2 (r : ASl) (m : Int) (L : List Int) (cap : Nat) (s c d : Int) (l : List Int) : St := ⟨[ppB s c d, rgB (aslC r) m, some ⟨3, l.map (xintC .i64), none, l.length, false⟩], [], 0, [some (ib L cap false)], 0⟩
def rgS1 (σ : St) : ASl := match σ.heap with
  | _ :: some ⟨_, s :: _, _, _, _⟩ :: _ => (match aslX (cell s) with | some a => a | none => ⟨0, 0, 0, 0⟩)
  | _ => ⟨0, 0, 0, 0⟩
def rgM1 (σ : St) : Int := match σ.heap with
  | _ :: some ⟨_, [_, m], _, _, _⟩ :: _ => (match xiX (cell m) with | some (_, m) => m | none => 0)
  | _ => 0
def rgL1 (σ : St) : List Int := match getArr σ (rgS1 σ).a with
  | some b => (b.l.drop (rgS1 σ).o).take (rgS1 σ).n
  | none => []
structure U.sdI (A B : List Int) (m i k : Int) (L : List Int) (o n c cap : Nat) : Prop where
  out : 0 ≤ i ∧ i ≤ B.length ∧ (A.length : Int) ≤ m ∧ (k = i ∧ A.length + i ≤ m ∨ k = m - A.length ∧ m ≤ A.length + i) ∧ U.Rg L o n c cap (A ++ B.take k.toNat)
abbrev XL := List Int × (Nat × (Nat × (Nat × Nat)))
def sdInv (tm : List AV) (σ : St) : Inv where
  X := Int × (Int × XL)
  tags := [0]
  tag _ _ := 0
  J := [2, 3, 4, 6, 7, 8, 9, 10, 11, 12, 13, 14, 15, 16, 17, 18, 22, 23, 24, 25, 26, 27, 28, 29, 30, 31, 32, 33, 34, 35]
  val _ x := [(5, xi .i64 x.2.1), (21, xi .i64 x.1)]
  st _ x σ' := ⟨σ'.heap.take 1 ++ rgB (aslC ⟨σ.arrs.length, x.2.2.2.1, x.2.2.2.2.1, x.2.2.2.2.2.1⟩) (rgM1 σ') :: σ'.heap.drop 2, σ'.ints, σ'.opqs, σ'.arrs.dropLast ++ [some (ib x.2.2.1 x.2.2.2.2.2.2 false)], σ'.junks⟩
  I _ x := U.sdI (rgL1 σ) (contS tm σ 19) (rgM1 σ) x.1 x.2.1 x.2.2.1 x.2.2.2.1 x.2.2.2.2.1 x.2.2.2.2.2.1 x.2.2.2.2.2.2
  m _ x := ((slotS tm 19).n : Int).toNat - x.1.toNat
  ren tm' σ' := ([], [(rgS1 σ').a])
def invSd : InvF := fun c tm σ => match tm.length, firstReg c with
  | 36, some 6 => if isAsl (tm.getD 19 (lit undef)) then some (sdInv tm σ) else none
  | _, _ => none
def ia (M : List Int) (dap : Nat) : ABlk := ⟨3, .n .i64, M, dap, true⟩
--PLAIN
theorem ppNew_vc (K : AV → St → Prop) (m : Int) : (runR inv0 tRg 7 [xi .i64 m] emptySt K) = (∀ (z0 : Int), z0 = max m (1 : Int) → ∀ (z1 : Int), z1 = min z0 (4096 : Int) → ∀ (m'2 : Int), m'2 = max z1 (0 : Int) → K (Sum.inl (Sum.inl (Sum.inr (Sum.inl ((0 : Nat), (0 : Nat)))))) { heap := [some { elem := nat_lit 48, cells := [Sum.inr (Sum.inl ((1 : Nat), (0 : Nat))), Sum.inl (Value.int IntKind.i64 (0 : Int)), Sum.inl (Value.int IntKind.i64 (0 : Int)), Sum.inl (Value.int IntKind.i64 (0 : Int))], j := none, c := (4 : Nat), z := false }, some { elem := nat_lit 53, cells := [Sum.inr (Sum.inr (Sum.inr (Sum.inr (Sum.inr (Sum.inr (Sum.inr (Sum.inl { a := (0 : Nat), o := (0 : Nat), n := (0 : Nat), c := (0 : Nat) }))))))), Sum.inr (Sum.inr (Sum.inr (Sum.inr (Sum.inr (Sum.inr (Sum.inl (IntKind.i64, m'2)))))))], j := none, c := (2 : Nat), z := false }], ints := [], opqs := (0 : Nat), arrs := [some { elem := (3 : Nat), k := AK.n IntKind.i64, l := [], cap := (0 : Nat), ro := false }], junks := (0 : Nat) }) := by kernel_rfl
theorem ppSend_vc (K : AV → St → Prop) (L : List Int) (o n c cap : Nat) (m s e d : Int) (M : List Int) (p q a dap : Nat) : (runR invSd tRg 15 [ptr 0 0, cell (aslC ⟨1, p, q, a⟩)] ⟨[ppB s e d, rgB (aslC ⟨0, o, n, c⟩) m], [], 0, [some (ib L cap false), some (ia M dap)], 0⟩ K) = (∀ (z0 : Int), z0 = (↑q : Int) → ∀ (z1 : Int), z1 = IntKind.wrap IntKind.i64 (s + z0) → ∀ (z2 : Int), z2 = (↑q : Int) → (∃ (y3 : Int × Int × XL), (p = p ∧ q = q ∧ a = a) ∧ (0 : Int) = Prod.fst (Prod.snd y3) ∧ (p = p ∧ q = q ∧ a = a) ∧ z2 = z2 ∧ (0 : Int) = Prod.fst y3 ∧ z1 = z1 ∧ e = e ∧ d = d ∧ (o = Prod.fst (Prod.snd (Prod.snd (Prod.snd y3))) ∧ n = Prod.fst (Prod.snd (Prod.snd (Prod.snd (Prod.snd y3)))) ∧ c = Prod.fst (Prod.snd (Prod.snd (Prod.snd (Prod.snd (Prod.snd y3)))))) ∧ m = m ∧ (M = M ∧ dap = dap ∧ true = true) ∧ (L = Prod.fst (Prod.snd (Prod.snd y3)) ∧ cap = Prod.snd (Prod.snd (Prod.snd (Prod.snd (Prod.snd (Prod.snd y3))))) ∧ false = false) ∧ U.sdI (List.take n (List.drop o L)) (List.take q (List.drop p M)) m (Prod.fst y3) (Prod.fst (Prod.snd y3)) (Prod.fst (Prod.snd (Prod.snd y3))) (Prod.fst (Prod.snd (Prod.snd (Prod.snd y3)))) (Prod.fst (Prod.snd (Prod.snd (Prod.snd (Prod.snd y3))))) (Prod.fst (Prod.snd (Prod.snd (Prod.snd (Prod.snd (Prod.snd y3)))))) (Prod.snd (Prod.snd (Prod.snd (Prod.snd (Prod.snd (Prod.snd y3))))))) ∧ ∀ (x4 : Int × Int × XL), U.sdI (List.take n (List.drop o L)) (List.take q (List.drop p M)) m (Prod.fst x4) (Prod.fst (Prod.snd x4)) (Prod.fst (Prod.snd (Prod.snd x4))) (Prod.fst (Prod.snd (Prod.snd (Prod.snd x4)))) (Prod.fst (Prod.snd (Prod.snd (Prod.snd (Prod.snd x4))))) (Prod.fst (Prod.snd (Prod.snd (Prod.snd (Prod.snd (Prod.snd x4)))))) (Prod.snd (Prod.snd (Prod.snd (Prod.snd (Prod.snd (Prod.snd x4)))))) → (Prod.fst x4 < z2 → ((0 : Int) ≤ Prod.fst x4 ∧ Prod.fst x4 < (↑q : Int)) ∧ ∀ (j5 : Nat), (↑j5 : Int) = (↑p : Int) + Prod.fst x4 → j5 < List.length M ∧ ∀ (z6 : Int), z6 = List.getD M j5 (0 : Int) → ∃ (y7 : List Int), (U.Rg (Prod.fst (Prod.snd (Prod.snd x4))) (Prod.fst (Prod.snd (Prod.snd (Prod.snd x4)))) (Prod.fst (Prod.snd (Prod.snd (Prod.snd (Prod.snd x4))))) (Prod.fst (Prod.snd (Prod.snd (Prod.snd (Prod.snd (Prod.snd x4)))))) (Prod.snd (Prod.snd (Prod.snd (Prod.snd (Prod.snd (Prod.snd x4)))))) y7 ∧ ((0 : Int) ≤ m ∧ m ≤ (4096 : Int)) ∧ (↑(Prod.fst (Prod.snd (Prod.snd (Prod.snd (Prod.snd x4))))) : Int) ≤ m) ∧ (m ≤ (↑(Prod.fst (Prod.snd (Prod.snd (Prod.snd (Prod.snd x4))))) : Int) → ∀ (z8 : Int), z8 = IntKind.wrap IntKind.i64 (Prod.fst x4 + (1 : Int)) → ∃ (y9 : Int × Int × XL), (p = p ∧ q = q ∧ a = a) ∧ Prod.fst (Prod.snd x4) = Prod.fst (Prod.snd y9) ∧ (p = p ∧ q = q ∧ a = a) ∧ z2 = z2 ∧ z8 = Prod.fst y9 ∧ z1 = z1 ∧ e = e ∧ d = d ∧ (Prod.fst (Prod.snd (Prod.snd (Prod.snd x4))) = Prod.fst (Prod.snd (Prod.snd (Prod.snd y9))) ∧ Prod.fst (Prod.snd (Prod.snd (Prod.snd (Prod.snd x4)))) = Prod.fst (Prod.snd (Prod.snd (Prod.snd (Prod.snd y9)))) ∧ Prod.fst (Prod.snd (Prod.snd (Prod.snd (Prod.snd (Prod.snd x4))))) = Prod.fst (Prod.snd (Prod.snd (Prod.snd (Prod.snd (Prod.snd y9)))))) ∧ m = m ∧ (M = M ∧ dap = dap ∧ true = true) ∧ (Prod.fst (Prod.snd (Prod.snd x4)) = Prod.fst (Prod.snd (Prod.snd y9)) ∧ Prod.snd (Prod.snd (Prod.snd (Prod.snd (Prod.snd (Prod.snd x4))))) = Prod.snd (Prod.snd (Prod.snd (Prod.snd (Prod.snd (Prod.snd y9))))) ∧ false = false) ∧ U.sdI (List.take n (List.drop o L)) (List.take q (List.drop p M)) m (Prod.fst y9) (Prod.fst (Prod.snd y9)) (Prod.fst (Prod.snd (Prod.snd y9))) (Prod.fst (Prod.snd (Prod.snd (Prod.snd y9)))) (Prod.fst (Prod.snd (Prod.snd (Prod.snd (Prod.snd y9))))) (Prod.fst (Prod.snd (Prod.snd (Prod.snd (Prod.snd (Prod.snd y9)))))) (Prod.snd (Prod.snd (Prod.snd (Prod.snd (Prod.snd (Prod.snd y9)))))) ∧ Int.toNat (↑q : Int) - Int.toNat (Prod.fst y9) < Int.toNat (↑q : Int) - Int.toNat (Prod.fst x4)) ∧ (¬m ≤ (↑(Prod.fst (Prod.snd (Prod.snd (Prod.snd (Prod.snd x4))))) : Int) → ∀ (L'10 : List Int) (n'11 c'12 : Nat), n'11 = Prod.fst (Prod.snd (Prod.snd (Prod.snd (Prod.snd x4)))) + (1 : Nat) → U.Rg L'10 (0 : Nat) n'11 c'12 c'12 (y7 ++ [z6]) → ∀ (z13 : Int), z13 = IntKind.wrap IntKind.i64 (Prod.fst (Prod.snd x4) + (1 : Int)) → ∀ (z14 : Int), z14 = IntKind.wrap IntKind.i64 (Prod.fst x4 + (1 : Int)) → ∃ (y15 : Int × Int × XL), (p = p ∧ q = q ∧ a = a) ∧ z13 = Prod.fst (Prod.snd y15) ∧ (p = p ∧ q = q ∧ a = a) ∧ z2 = z2 ∧ z14 = Prod.fst y15 ∧ z1 = z1 ∧ e = e ∧ d = d ∧ ((0 : Nat) = Prod.fst (Prod.snd (Prod.snd (Prod.snd y15))) ∧ n'11 = Prod.fst (Prod.snd (Prod.snd (Prod.snd (Prod.snd y15)))) ∧ c'12 = Prod.fst (Prod.snd (Prod.snd (Prod.snd (Prod.snd (Prod.snd y15)))))) ∧ m = m ∧ (M = M ∧ dap = dap ∧ true = true) ∧ (L'10 = Prod.fst (Prod.snd (Prod.snd y15)) ∧ c'12 = Prod.snd (Prod.snd (Prod.snd (Prod.snd (Prod.snd (Prod.snd y15))))) ∧ false = false) ∧ U.sdI (List.take n (List.drop o L)) (List.take q (List.drop p M)) m (Prod.fst y15) (Prod.fst (Prod.snd y15)) (Prod.fst (Prod.snd (Prod.snd y15))) (Prod.fst (Prod.snd (Prod.snd (Prod.snd y15)))) (Prod.fst (Prod.snd (Prod.snd (Prod.snd (Prod.snd y15))))) (Prod.fst (Prod.snd (Prod.snd (Prod.snd (Prod.snd (Prod.snd y15)))))) (Prod.snd (Prod.snd (Prod.snd (Prod.snd (Prod.snd (Prod.snd y15)))))) ∧ Int.toNat (↑q : Int) - Int.toNat (Prod.fst y15) < Int.toNat (↑q : Int) - Int.toNat (Prod.fst x4))) ∧ (¬Prod.fst x4 < z2 → K (Sum.inl (Sum.inl (Sum.inr (Sum.inr (Sum.inr (Sum.inr (Sum.inr (Sum.inr (Sum.inl (IntKind.i64, Prod.fst (Prod.snd x4))))))))))) { heap := [some { elem := nat_lit 48, cells := [Sum.inr (Sum.inl ((1 : Nat), (0 : Nat))), Sum.inr (Sum.inr (Sum.inr (Sum.inr (Sum.inr (Sum.inr (Sum.inl (IntKind.i64, z1))))))), Sum.inr (Sum.inr (Sum.inr (Sum.inr (Sum.inr (Sum.inr (Sum.inl (IntKind.i64, e))))))), Sum.inr (Sum.inr (Sum.inr (Sum.inr (Sum.inr (Sum.inr (Sum.inl (IntKind.i64, d)))))))], j := none, c := (4 : Nat), z := false }, some { elem := nat_lit 53, cells := [Sum.inr (Sum.inr (Sum.inr (Sum.inr (Sum.inr (Sum.inr (Sum.inr (Sum.inl { a := (2 : Nat), o := Prod.fst (Prod.snd (Prod.snd (Prod.snd x4))), n := Prod.fst (Prod.snd (Prod.snd (Prod.snd (Prod.snd x4)))), c := Prod.fst (Prod.snd (Prod.snd (Prod.snd (Prod.snd (Prod.snd x4))))) }))))))), Sum.inr (Sum.inr (Sum.inr (Sum.inr (Sum.inr (Sum.inr (Sum.inl (IntKind.i64, m)))))))], j := none, c := (2 : Nat), z := false }], ints := [], opqs := (0 : Nat), arrs := [none, some { elem := (3 : Nat), k := AK.n IntKind.i64, l := M, cap := dap, ro := true }, some { elem := (3 : Nat), k := AK.n IntKind.i64, l := Prod.fst (Prod.snd (Prod.snd x4)), cap := Prod.snd (Prod.snd (Prod.snd (Prod.snd (Prod.snd (Prod.snd x4))))), ro := false }], junks := (0 : Nat) })) := by kernel_rfl
theorem ppSend3_vc (K : AV → St → Prop) (L : List Int) (o n c cap : Nat) (m s e d x y z : Int) : (runR invSd tRg 15 [ptr 0 0, sl ⟨2, 0, 3, none, 3⟩] (pp2 ⟨0, o, n, c⟩ m L cap s e d [x, y, z]) K) = (∀ (z0 : Int), z0 = IntKind.wrap IntKind.i64 (s + (3 : Int)) → ∃ (y1 : List Int), (U.Rg L o n c cap y1 ∧ ((0 : Int) ≤ m ∧ m ≤ (4096 : Int)) ∧ (↑n : Int) ≤ m) ∧ (m ≤ (↑n : Int) → ∃ (y2 : List Int), (U.Rg L o n c cap y2 ∧ ((0 : Int) ≤ m ∧ m ≤ (4096 : Int)) ∧ (↑n : Int) ≤ m) ∧ (m ≤ (↑n : Int) → ∃ (y3 : List Int), (U.Rg L o n c cap y3 ∧ ((0 : Int) ≤ m ∧ m ≤ (4096 : Int)) ∧ (↑n : Int) ≤ m) ∧ (m ≤ (↑n : Int) → K (Sum.inl (Sum.inl (Sum.inr (Sum.inr (Sum.inr (Sum.inr (Sum.inr (Sum.inr (Sum.inl (IntKind.i64, (0 : Int))))))))))) { heap := [some { elem := nat_lit 48, cells := [Sum.inr (Sum.inl ((1 : Nat), (0 : Nat))), Sum.inr (Sum.inr (Sum.inr (Sum.inr (Sum.inr (Sum.inr (Sum.inl (IntKind.i64, z0))))))), Sum.inr (Sum.inr (Sum.inr (Sum.inr (Sum.inr (Sum.inr (Sum.inl (IntKind.i64, e))))))), Sum.inr (Sum.inr (Sum.inr (Sum.inr (Sum.inr (Sum.inr (Sum.inl (IntKind.i64, d)))))))], j := none, c := (4 : Nat), z := false }, some { elem := nat_lit 53, cells := [Sum.inr (Sum.inr (Sum.inr (Sum.inr (Sum.inr (Sum.inr (Sum.inr (Sum.inl { a := (0 : Nat), o := o, n := n, c := c }))))))), Sum.inr (Sum.inr (Sum.inr (Sum.inr (Sum.inr (Sum.inr (Sum.inl (IntKind.i64, m)))))))], j := none, c := (2 : Nat), z := false }, some { elem := nat_lit 3, cells := [Sum.inr (Sum.inr (Sum.inr (Sum.inr (Sum.inr (Sum.inr (Sum.inl (IntKind.i64, x))))))), Sum.inr (Sum.inr (Sum.inr (Sum.inr (Sum.inr (Sum.inr (Sum.inl (IntKind.i64, y))))))), Sum.inr (Sum.inr (Sum.inr (Sum.inr (Sum.inr (Sum.inr (Sum.inl (IntKind.i64, z)))))))], j := none, c := List.length [x, y, z], z := false }], ints := [], opqs := (0 : Nat), arrs := [some { elem := (3 : TypeId), k := AK.n IntKind.i64, l := L, cap := cap, ro := false }], junks := (0 : Nat) }) ∧ (¬m ≤ (↑n : Int) → ∀ (L'4 : List Int) (n'5 c'6 : Nat), n'5 = n + (1 : Nat) → U.Rg L'4 (0 : Nat) n'5 c'6 c'6 (y3 ++ [z]) → K (Sum.inl (Sum.inl (Sum.inr (Sum.inr (Sum.inr (Sum.inr (Sum.inr (Sum.inr (Sum.inl (IntKind.i64, (1 : Int))))))))))) { heap := [some { elem := nat_lit 48, cells := [Sum.inr (Sum.inl ((1 : Nat), (0 : Nat))), Sum.inr (Sum.inr (Sum.inr (Sum.inr (Sum.inr (Sum.inr (Sum.inl (IntKind.i64, z0))))))), Sum.inr (Sum.inr (Sum.inr (Sum.inr (Sum.inr (Sum.inr (Sum.inl (IntKind.i64, e))))))), Sum.inr (Sum.inr (Sum.inr (Sum.inr (Sum.inr (Sum.inr (Sum.inl (IntKind.i64, d)))))))], j := none, c := (4 : Nat), z := false }, some { elem := nat_lit 53, cells := [Sum.inr (Sum.inr (Sum.inr (Sum.inr (Sum.inr (Sum.inr (Sum.inr (Sum.inl { a := (1 : Nat), o := (0 : Nat), n := n'5, c := c'6 }))))))), Sum.inr (Sum.inr (Sum.inr (Sum.inr (Sum.inr (Sum.inr (Sum.inl (IntKind.i64, m)))))))], j := none, c := (2 : Nat), z := false }, some { elem := nat_lit 3, cells := [Sum.inr (Sum.inr (Sum.inr (Sum.inr (Sum.inr (Sum.inr (Sum.inl (IntKind.i64, x))))))), Sum.inr (Sum.inr (Sum.inr (Sum.inr (Sum.inr (Sum.inr (Sum.inl (IntKind.i64, y))))))), Sum.inr (Sum.inr (Sum.inr (Sum.inr (Sum.inr (Sum.inr (Sum.inl (IntKind.i64, z)))))))], j := none, c := List.length [x, y, z], z := false }], ints := [], opqs := (0 : Nat), arrs := [none, some { elem := (3 : TypeId), k := AK.n IntKind.i64, l := L'4, cap := c'6, ro := false }], junks := (0 : Nat) })) ∧ (¬m ≤ (↑n : Int) → ∀ (L'7 : List Int) (n'8 c'9 : Nat), n'8 = n + (1 : Nat) → U.Rg L'7 (0 : Nat) n'8 c'9 c'9 (y2 ++ [y]) → ∃ (y10 : List Int), (U.Rg L'7 ((0 : Nat)) n'8 c'9 c'9 y10 ∧ ((0 : Int) ≤ m ∧ m ≤ (4096 : Int)) ∧ (↑n'8 : Int) ≤ m) ∧ (m ≤ (↑n'8 : Int) → K (Sum.inl (Sum.inl (Sum.inr (Sum.inr (Sum.inr (Sum.inr (Sum.inr (Sum.inr (Sum.inl (IntKind.i64, (1 : Int))))))))))) { heap := [some { elem := nat_lit 48, cells := [Sum.inr (Sum.inl ((1 : Nat), (0 : Nat))), Sum.inr (Sum.inr (Sum.inr (Sum.inr (Sum.inr (Sum.inr (Sum.inl (IntKind.i64, z0))))))), Sum.inr (Sum.inr (Sum.inr (Sum.inr (Sum.inr (Sum.inr (Sum.inl (IntKind.i64, e))))))), Sum.inr (Sum.inr (Sum.inr (Sum.inr (Sum.inr (Sum.inr (Sum.inl (IntKind.i64, d)))))))], j := none, c := (4 : Nat), z := false }, some { elem := nat_lit 53, cells := [Sum.inr (Sum.inr (Sum.inr (Sum.inr (Sum.inr (Sum.inr (Sum.inr (Sum.inl { a := (1 : Nat), o := (0 : Nat), n := n'8, c := c'9 }))))))), Sum.inr (Sum.inr (Sum.inr (Sum.inr (Sum.inr (Sum.inr (Sum.inl (IntKind.i64, m)))))))], j := none, c := (2 : Nat), z := false }, some { elem := nat_lit 3, cells := [Sum.inr (Sum.inr (Sum.inr (Sum.inr (Sum.inr (Sum.inr (Sum.inl (IntKind.i64, x))))))), Sum.inr (Sum.inr (Sum.inr (Sum.inr (Sum.inr (Sum.inr (Sum.inl (IntKind.i64, y))))))), Sum.inr (Sum.inr (Sum.inr (Sum.inr (Sum.inr (Sum.inr (Sum.inl (IntKind.i64, z)))))))], j := none, c := List.length [x, y, z], z := false }], ints := [], opqs := (0 : Nat), arrs := [none, some { elem := (3 : TypeId), k := AK.n IntKind.i64, l := L'7, cap := c'9, ro := false }], junks := (0 : Nat) }) ∧ (¬m ≤ (↑n'8 : Int) → ∀ (L'11 : List Int) (n'12 c'13 : Nat), n'12 = n'8 + (1 : Nat) → U.Rg L'11 (0 : Nat) n'12 c'13 c'13 (y10 ++ [z]) → K (Sum.inl (Sum.inl (Sum.inr (Sum.inr (Sum.inr (Sum.inr (Sum.inr (Sum.inr (Sum.inl (IntKind.i64, (2 : Int))))))))))) { heap := [some { elem := nat_lit 48, cells := [Sum.inr (Sum.inl ((1 : Nat), (0 : Nat))), Sum.inr (Sum.inr (Sum.inr (Sum.inr (Sum.inr (Sum.inr (Sum.inl (IntKind.i64, z0))))))), Sum.inr (Sum.inr (Sum.inr (Sum.inr (Sum.inr (Sum.inr (Sum.inl (IntKind.i64, e))))))), Sum.inr (Sum.inr (Sum.inr (Sum.inr (Sum.inr (Sum.inr (Sum.inl (IntKind.i64, d)))))))], j := none, c := (4 : Nat), z := false }, some { elem := nat_lit 53, cells := [Sum.inr (Sum.inr (Sum.inr (Sum.inr (Sum.inr (Sum.inr (Sum.inr (Sum.inl { a := (1 : Nat), o := (0 : Nat), n := n'12, c := c'13 }))))))), Sum.inr (Sum.inr (Sum.inr (Sum.inr (Sum.inr (Sum.inr (Sum.inl (IntKind.i64, m)))))))], j := none, c := (2 : Nat), z := false }, some { elem := nat_lit 3, cells := [Sum.inr (Sum.inr (Sum.inr (Sum.inr (Sum.inr (Sum.inr (Sum.inl (IntKind.i64, x))))))), Sum.inr (Sum.inr (Sum.inr (Sum.inr (Sum.inr (Sum.inr (Sum.inl (IntKind.i64, y))))))), Sum.inr (Sum.inr (Sum.inr (Sum.inr (Sum.inr (Sum.inr (Sum.inl (IntKind.i64, z)))))))], j := none, c := List.length [x, y, z], z := false }], ints := [], opqs := (0 : Nat), arrs := [none, some { elem := (3 : TypeId), k := AK.n IntKind.i64, l := L'11, cap := c'13, ro := false }], junks := (0 : Nat) }))) ∧ (¬m ≤ (↑n : Int) → ∀ (L'14 : List Int) (n'15 c'16 : Nat), n'15 = n + (1 : Nat) → U.Rg L'14 (0 : Nat) n'15 c'16 c'16 (y1 ++ [x]) → ∃ (y17 : List Int), (U.Rg L'14 ((0 : Nat)) n'15 c'16 c'16 y17 ∧ ((0 : Int) ≤ m ∧ m ≤ (4096 : Int)) ∧ (↑n'15 : Int) ≤ m) ∧ (m ≤ (↑n'15 : Int) → ∃ (y18 : List Int), (U.Rg L'14 ((0 : Nat)) n'15 c'16 c'16 y18 ∧ ((0 : Int) ≤ m ∧ m ≤ (4096 : Int)) ∧ (↑n'15 : Int) ≤ m) ∧ (m ≤ (↑n'15 : Int) → K (Sum.inl (Sum.inl (Sum.inr (Sum.inr (Sum.inr (Sum.inr (Sum.inr (Sum.inr (Sum.inl (IntKind.i64, (1 : Int))))))))))) { heap := [some { elem := nat_lit 48, cells := [Sum.inr (Sum.inl ((1 : Nat), (0 : Nat))), Sum.inr (Sum.inr (Sum.inr (Sum.inr (Sum.inr (Sum.inr (Sum.inl (IntKind.i64, z0))))))), Sum.inr (Sum.inr (Sum.inr (Sum.inr (Sum.inr (Sum.inr (Sum.inl (IntKind.i64, e))))))), Sum.inr (Sum.inr (Sum.inr (Sum.inr (Sum.inr (Sum.inr (Sum.inl (IntKind.i64, d)))))))], j := none, c := (4 : Nat), z := false }, some { elem := nat_lit 53, cells := [Sum.inr (Sum.inr (Sum.inr (Sum.inr (Sum.inr (Sum.inr (Sum.inr (Sum.inl { a := (1 : Nat), o := (0 : Nat), n := n'15, c := c'16 }))))))), Sum.inr (Sum.inr (Sum.inr (Sum.inr (Sum.inr (Sum.inr (Sum.inl (IntKind.i64, m)))))))], j := none, c := (2 : Nat), z := false }, some { elem := nat_lit 3, cells := [Sum.inr (Sum.inr (Sum.inr (Sum.inr (Sum.inr (Sum.inr (Sum.inl (IntKind.i64, x))))))), Sum.inr (Sum.inr (Sum.inr (Sum.inr (Sum.inr (Sum.inr (Sum.inl (IntKind.i64, y))))))), Sum.inr (Sum.inr (Sum.inr (Sum.inr (Sum.inr (Sum.inr (Sum.inl (IntKind.i64, z)))))))], j := none, c := List.length [x, y, z], z := false }], ints := [], opqs := (0 : Nat), arrs := [none, some { elem := (3 : TypeId), k := AK.n IntKind.i64, l := L'14, cap := c'16, ro := false }], junks := (0 : Nat) }) ∧ (¬m ≤ (↑n'15 : Int) → ∀ (L'19 : List Int) (n'20 c'21 : Nat), n'20 = n'15 + (1 : Nat) → U.Rg L'19 (0 : Nat) n'20 c'21 c'21 (y18 ++ [z]) → K (Sum.inl (Sum.inl (Sum.inr (Sum.inr (Sum.inr (Sum.inr (Sum.inr (Sum.inr (Sum.inl (IntKind.i64, (2 : Int))))))))))) { heap := [some { elem := nat_lit 48, cells := [Sum.inr (Sum.inl ((1 : Nat), (0 : Nat))), Sum.inr (Sum.inr (Sum.inr (Sum.inr (Sum.inr (Sum.inr (Sum.inl (IntKind.i64, z0))))))), Sum.inr (Sum.inr (Sum.inr (Sum.inr (Sum.inr (Sum.inr (Sum.inl (IntKind.i64, e))))))), Sum.inr (Sum.inr (Sum.inr (Sum.inr (Sum.inr (Sum.inr (Sum.inl (IntKind.i64, d)))))))], j := none, c := (4 : Nat), z := false }, some { elem := nat_lit 53, cells := [Sum.inr (Sum.inr (Sum.inr (Sum.inr (Sum.inr (Sum.inr (Sum.inr (Sum.inl { a := (1 : Nat), o := (0 : Nat), n := n'20, c := c'21 }))))))), Sum.inr (Sum.inr (Sum.inr (Sum.inr (Sum.inr (Sum.inr (Sum.inl (IntKind.i64, m)))))))], j := none, c := (2 : Nat), z := false }, some { elem := nat_lit 3, cells := [Sum.inr (Sum.inr (Sum.inr (Sum.inr (Sum.inr (Sum.inr (Sum.inl (IntKind.i64, x))))))), Sum.inr (Sum.inr (Sum.inr (Sum.inr (Sum.inr (Sum.inr (Sum.inl (IntKind.i64, y))))))), Sum.inr (Sum.inr (Sum.inr (Sum.inr (Sum.inr (Sum.inr (Sum.inl (IntKind.i64, z)))))))], j := none, c := List.length [x, y, z], z := false }], ints := [], opqs := (0 : Nat), arrs := [none, some { elem := (3 : TypeId), k := AK.n IntKind.i64, l := L'19, cap := c'21, ro := false }], junks := (0 : Nat) })) ∧ (¬m ≤ (↑n'15 : Int) → ∀ (L'22 : List Int) (n'23 c'24 : Nat), n'23 = n'15 + (1 : Nat) → U.Rg L'22 (0 : Nat) n'23 c'24 c'24 (y17 ++ [y]) → ∃ (y25 : List Int), (U.Rg L'22 ((0 : Nat)) n'23 c'24 c'24 y25 ∧ ((0 : Int) ≤ m ∧ m ≤ (4096 : Int)) ∧ (↑n'23 : Int) ≤ m) ∧ (m ≤ (↑n'23 : Int) → K (Sum.inl (Sum.inl (Sum.inr (Sum.inr (Sum.inr (Sum.inr (Sum.inr (Sum.inr (Sum.inl (IntKind.i64, (2 : Int))))))))))) { heap := [some { elem := nat_lit 48, cells := [Sum.inr (Sum.inl ((1 : Nat), (0 : Nat))), Sum.inr (Sum.inr (Sum.inr (Sum.inr (Sum.inr (Sum.inr (Sum.inl (IntKind.i64, z0))))))), Sum.inr (Sum.inr (Sum.inr (Sum.inr (Sum.inr (Sum.inr (Sum.inl (IntKind.i64, e))))))), Sum.inr (Sum.inr (Sum.inr (Sum.inr (Sum.inr (Sum.inr (Sum.inl (IntKind.i64, d)))))))], j := none, c := (4 : Nat), z := false }, some { elem := nat_lit 53, cells := [Sum.inr (Sum.inr (Sum.inr (Sum.inr (Sum.inr (Sum.inr (Sum.inr (Sum.inl { a := (1 : Nat), o := (0 : Nat), n := n'23, c := c'24 }))))))), Sum.inr (Sum.inr (Sum.inr (Sum.inr (Sum.inr (Sum.inr (Sum.inl (IntKind.i64, m)))))))], j := none, c := (2 : Nat), z := false }, some { elem := nat_lit 3, cells := [Sum.inr (Sum.inr (Sum.inr (Sum.inr (Sum.inr (Sum.inr (Sum.inl (IntKind.i64, x))))))), Sum.inr (Sum.inr (Sum.inr (Sum.inr (Sum.inr (Sum.inr (Sum.inl (IntKind.i64, y))))))), Sum.inr (Sum.inr (Sum.inr (Sum.inr (Sum.inr (Sum.inr (Sum.inl (IntKind.i64, z)))))))], j := none, c := List.length [x, y, z], z := false }], ints := [], opqs := (0 : Nat), arrs := [none, some { elem := (3 : TypeId), k := AK.n IntKind.i64, l := L'22, cap := c'24, ro := false }], junks := (0 : Nat) }) ∧ (¬m ≤ (↑n'23 : Int) → ∀ (L'26 : List Int) (n'27 c'28 : Nat), n'27 = n'23 + (1 : Nat) → U.Rg L'26 (0 : Nat) n'27 c'28 c'28 (y25 ++ [z]) → K (Sum.inl (Sum.inl (Sum.inr (Sum.inr (Sum.inr (Sum.inr (Sum.inr (Sum.inr (Sum.inl (IntKind.i64, (3 : Int))))))))))) { heap := [some { elem := nat_lit 48, cells := [Sum.inr (Sum.inl ((1 : Nat), (0 : Nat))), Sum.inr (Sum.inr (Sum.inr (Sum.inr (Sum.inr (Sum.inr (Sum.inl (IntKind.i64, z0))))))), Sum.inr (Sum.inr (Sum.inr (Sum.inr (Sum.inr (Sum.inr (Sum.inl (IntKind.i64, e))))))), Sum.inr (Sum.inr (Sum.inr (Sum.inr (Sum.inr (Sum.inr (Sum.inl (IntKind.i64, d)))))))], j := none, c := (4 : Nat), z := false }, some { elem := nat_lit 53, cells := [Sum.inr (Sum.inr (Sum.inr (Sum.inr (Sum.inr (Sum.inr (Sum.inr (Sum.inl { a := (1 : Nat), o := (0 : Nat), n := n'27, c := c'28 }))))))), Sum.inr (Sum.inr (Sum.inr (Sum.inr (Sum.inr (Sum.inr (Sum.inl (IntKind.i64, m)))))))], j := none, c := (2 : Nat), z := false }, some { elem := nat_lit 3, cells := [Sum.inr (Sum.inr (Sum.inr (Sum.inr (Sum.inr (Sum.inr (Sum.inl (IntKind.i64, x))))))), Sum.inr (Sum.inr (Sum.inr (Sum.inr (Sum.inr (Sum.inr (Sum.inl (IntKind.i64, y))))))), Sum.inr (Sum.inr (Sum.inr (Sum.inr (Sum.inr (Sum.inr (Sum.inl (IntKind.i64, z)))))))], j := none, c := List.length [x, y, z], z := false }], ints := [], opqs := (0 : Nat), arrs := [none, some { elem := (3 : TypeId), k := AK.n IntKind.i64, l := L'26, cap := c'28, ro := false }], junks := (0 : Nat) })))) := by kernel_rfl
theorem ppTake_vc (K : AV → St → Prop) (L : List Int) (o n c cap : Nat) (m s e d i : Int) : (runR inv0 tRg 16 [ptr 0 0, xi .i64 i] (ppSt ⟨0, o, n, c⟩ m L cap s e d) K) = (∃ (y0 : List Int), U.Rg L o n c cap y0 ∧ (¬((0 : Int) ≤ i ∧ i < (↑n : Int)) → K (Sum.inr [Sum.inl (Sum.inr (Sum.inr (Sum.inr (Sum.inr (Sum.inr (Sum.inr (Sum.inl (IntKind.i64, (0 : Int))))))))), Sum.inl (Sum.inl (Value.bool false))]) { heap := [some { elem := nat_lit 48, cells := [Sum.inr (Sum.inl ((1 : Nat), (0 : Nat))), Sum.inr (Sum.inr (Sum.inr (Sum.inr (Sum.inr (Sum.inr (Sum.inl (IntKind.i64, s))))))), Sum.inr (Sum.inr (Sum.inr (Sum.inr (Sum.inr (Sum.inr (Sum.inl (IntKind.i64, e))))))), Sum.inr (Sum.inr (Sum.inr (Sum.inr (Sum.inr (Sum.inr (Sum.inl (IntKind.i64, d)))))))], j := none, c := (4 : Nat), z := false }, some { elem := nat_lit 53, cells := [Sum.inr (Sum.inr (Sum.inr (Sum.inr (Sum.inr (Sum.inr (Sum.inr (Sum.inl { a := (0 : Nat), o := o, n := n, c := c }))))))), Sum.inr (Sum.inr (Sum.inr (Sum.inr (Sum.inr (Sum.inr (Sum.inl (IntKind.i64, m)))))))], j := none, c := (2 : Nat), z := false }], ints := [], opqs := (0 : Nat), arrs := [some { elem := (3 : TypeId), k := AK.n IntKind.i64, l := L, cap := cap, ro := false }], junks := (0 : Nat) }) ∧ ((0 : Int) ≤ i ∧ i < (↑n : Int) → ∀ (z1 : Int), z1 = U.at y0 i → ∃ (y2 : List Int), U.Rg L o n c cap y2 ∧ (¬((0 : Int) ≤ i ∧ i < (↑n : Int)) → ∀ (z3 : Int), z3 = IntKind.wrap IntKind.i64 (e + (1 : Int)) → K (Sum.inr [Sum.inl (Sum.inr (Sum.inr (Sum.inr (Sum.inr (Sum.inr (Sum.inr (Sum.inl (IntKind.i64, z1)))))))), Sum.inl (Sum.inl (Value.bool true))]) { heap := [some { elem := nat_lit 48, cells := [Sum.inr (Sum.inl ((1 : Nat), (0 : Nat))), Sum.inr (Sum.inr (Sum.inr (Sum.inr (Sum.inr (Sum.inr (Sum.inl (IntKind.i64, s))))))), Sum.inr (Sum.inr (Sum.inr (Sum.inr (Sum.inr (Sum.inr (Sum.inl (IntKind.i64, z3))))))), Sum.inr (Sum.inr (Sum.inr (Sum.inr (Sum.inr (Sum.inr (Sum.inl (IntKind.i64, d)))))))], j := none, c := (4 : Nat), z := false }, some { elem := nat_lit 53, cells := [Sum.inr (Sum.inr (Sum.inr (Sum.inr (Sum.inr (Sum.inr (Sum.inr (Sum.inl { a := (0 : Nat), o := o, n := n, c := c }))))))), Sum.inr (Sum.inr (Sum.inr (Sum.inr (Sum.inr (Sum.inr (Sum.inl (IntKind.i64, m)))))))], j := none, c := (2 : Nat), z := false }], ints := [], opqs := (0 : Nat), arrs := [some { elem := (3 : TypeId), k := AK.n IntKind.i64, l := L, cap := cap, ro := false }], junks := (0 : Nat) }) ∧ ((0 : Int) ≤ i ∧ i < (↑n : Int) → ∀ (z4 : Int) (L'5 : List Int) (o'6 n'7 c'8 : Nat), z4 = U.at y2 i → U.Rg L'5 o'6 n'7 c'8 cap (U.er y2 i) → ∀ (z9 : Int), z9 = IntKind.wrap IntKind.i64 (e + (1 : Int)) → K (Sum.inr [Sum.inl (Sum.inr (Sum.inr (Sum.inr (Sum.inr (Sum.inr (Sum.inr (Sum.inl (IntKind.i64, z1)))))))), Sum.inl (Sum.inl (Value.bool true))]) { heap := [some { elem := nat_lit 48, cells := [Sum.inr (Sum.inl ((1 : Nat), (0 : Nat))), Sum.inr (Sum.inr (Sum.inr (Sum.inr (Sum.inr (Sum.inr (Sum.inl (IntKind.i64, s))))))), Sum.inr (Sum.inr (Sum.inr (Sum.inr (Sum.inr (Sum.inr (Sum.inl (IntKind.i64, z9))))))), Sum.inr (Sum.inr (Sum.inr (Sum.inr (Sum.inr (Sum.inr (Sum.inl (IntKind.i64, d)))))))], j := none, c := (4 : Nat), z := false }, some { elem := nat_lit 53, cells := [Sum.inr (Sum.inr (Sum.inr (Sum.inr (Sum.inr (Sum.inr (Sum.inr (Sum.inl { a := (0 : Nat), o := o'6, n := n'7, c := c'8 }))))))), Sum.inr (Sum.inr (Sum.inr (Sum.inr (Sum.inr (Sum.inr (Sum.inl (IntKind.i64, m)))))))], j := none, c := (2 : Nat), z := false }], ints := [], opqs := (0 : Nat), arrs := [some { elem := (3 : TypeId), k := AK.n IntKind.i64, l := L'5, cap := cap, ro := false }], junks := (0 : Nat) }))) := by kernel_rfl
theorem ppTwice_vc (K : AV → St → Prop) (L : List Int) (o n c cap : Nat) (m s e d i : Int) : (runR inv0 tRg 18 [ptr 0 0, xi .i64 i] (ppSt ⟨0, o, n, c⟩ m L cap s e d) K) = (∃ (y0 : List Int), U.Rg L o n c cap y0 ∧ (¬((0 : Int) ≤ i ∧ i < (↑n : Int)) → K (Sum.inl (Sum.inl (Sum.inl (Value.bool false)))) { heap := [some { elem := nat_lit 48, cells := [Sum.inr (Sum.inl ((1 : Nat), (0 : Nat))), Sum.inr (Sum.inr (Sum.inr (Sum.inr (Sum.inr (Sum.inr (Sum.inl (IntKind.i64, s))))))), Sum.inr (Sum.inr (Sum.inr (Sum.inr (Sum.inr (Sum.inr (Sum.inl (IntKind.i64, e))))))), Sum.inr (Sum.inr (Sum.inr (Sum.inr (Sum.inr (Sum.inr (Sum.inl (IntKind.i64, d)))))))], j := none, c := (4 : Nat), z := false }, some { elem := nat_lit 53, cells := [Sum.inr (Sum.inr (Sum.inr (Sum.inr (Sum.inr (Sum.inr (Sum.inr (Sum.inl { a := (0 : Nat), o := o, n := n, c := c }))))))), Sum.inr (Sum.inr (Sum.inr (Sum.inr (Sum.inr (Sum.inr (Sum.inl (IntKind.i64, m)))))))], j := none, c := (2 : Nat), z := false }], ints := [], opqs := (0 : Nat), arrs := [some { elem := (3 : TypeId), k := AK.n IntKind.i64, l := L, cap := cap, ro := false }], junks := (0 : Nat) }) ∧ ((0 : Int) ≤ i ∧ i < (↑n : Int) → ∀ (z1 : Int), z1 = U.at y0 i → ∃ (y2 : List Int), (U.Rg L o n c cap y2 ∧ ((0 : Int) ≤ m ∧ m ≤ (4096 : Int)) ∧ (↑n : Int) ≤ m) ∧ (m ≤ (↑n : Int) → K (Sum.inl (Sum.inl (Sum.inl (Value.bool false)))) { heap := [some { elem := nat_lit 48, cells := [Sum.inr (Sum.inl ((1 : Nat), (0 : Nat))), Sum.inr (Sum.inr (Sum.inr (Sum.inr (Sum.inr (Sum.inr (Sum.inl (IntKind.i64, s))))))), Sum.inr (Sum.inr (Sum.inr (Sum.inr (Sum.inr (Sum.inr (Sum.inl (IntKind.i64, e))))))), Sum.inr (Sum.inr (Sum.inr (Sum.inr (Sum.inr (Sum.inr (Sum.inl (IntKind.i64, d)))))))], j := none, c := (4 : Nat), z := false }, some { elem := nat_lit 53, cells := [Sum.inr (Sum.inr (Sum.inr (Sum.inr (Sum.inr (Sum.inr (Sum.inr (Sum.inl { a := (0 : Nat), o := o, n := n, c := c }))))))), Sum.inr (Sum.inr (Sum.inr (Sum.inr (Sum.inr (Sum.inr (Sum.inl (IntKind.i64, m)))))))], j := none, c := (2 : Nat), z := false }], ints := [], opqs := (0 : Nat), arrs := [some { elem := (3 : TypeId), k := AK.n IntKind.i64, l := L, cap := cap, ro := false }], junks := (0 : Nat) }) ∧ (¬m ≤ (↑n : Int) → ∀ (L'3 : List Int) (n'4 c'5 : Nat), n'4 = n + (1 : Nat) → U.Rg L'3 (0 : Nat) n'4 c'5 c'5 (y2 ++ [z1]) → ∀ (z6 : Int), z6 = IntKind.wrap IntKind.i64 (d + (1 : Int)) → K (Sum.inl (Sum.inl (Sum.inl (Value.bool true)))) { heap := [some { elem := nat_lit 48, cells := [Sum.inr (Sum.inl ((1 : Nat), (0 : Nat))), Sum.inr (Sum.inr (Sum.inr (Sum.inr (Sum.inr (Sum.inr (Sum.inl (IntKind.i64, s))))))), Sum.inr (Sum.inr (Sum.inr (Sum.inr (Sum.inr (Sum.inr (Sum.inl (IntKind.i64, e))))))), Sum.inr (Sum.inr (Sum.inr (Sum.inr (Sum.inr (Sum.inr (Sum.inl (IntKind.i64, z6)))))))], j := none, c := (4 : Nat), z := false }, some { elem := nat_lit 53, cells := [Sum.inr (Sum.inr (Sum.inr (Sum.inr (Sum.inr (Sum.inr (Sum.inr (Sum.inl { a := (1 : Nat), o := (0 : Nat), n := n'4, c := c'5 }))))))), Sum.inr (Sum.inr (Sum.inr (Sum.inr (Sum.inr (Sum.inr (Sum.inl (IntKind.i64, m)))))))], j := none, c := (2 : Nat), z := false }], ints := [], opqs := (0 : Nat), arrs := [none, some { elem := (3 : TypeId), k := AK.n IntKind.i64, l := L'3, cap := c'5, ro := false }], junks := (0 : Nat) }))) := by kernel_rfl
theorem ppLose1_vc (K : AV → St → Prop) (L : List Int) (o n c cap : Nat) (m s e d i : Int) : (runR inv0 tRg 19 [ptr 0 0, sl ⟨2, 0, 1, none, 1⟩] (pp2 ⟨0, o, n, c⟩ m L cap s e d [i]) K) = (∃ (y0 : List Int), U.Rg L o n c cap y0 ∧ (¬((0 : Int) ≤ i ∧ i < (↑n : Int)) → K (Sum.inl (Sum.inl (Sum.inr (Sum.inr (Sum.inr (Sum.inr (Sum.inr (Sum.inr (Sum.inl (IntKind.i64, (0 : Int))))))))))) { heap := [some { elem := nat_lit 48, cells := [Sum.inr (Sum.inl ((1 : Nat), (0 : Nat))), Sum.inr (Sum.inr (Sum.inr (Sum.inr (Sum.inr (Sum.inr (Sum.inl (IntKind.i64, s))))))), Sum.inr (Sum.inr (Sum.inr (Sum.inr (Sum.inr (Sum.inr (Sum.inl (IntKind.i64, e))))))), Sum.inr (Sum.inr (Sum.inr (Sum.inr (Sum.inr (Sum.inr (Sum.inl (IntKind.i64, d)))))))], j := none, c := (4 : Nat), z := false }, some { elem := nat_lit 53, cells := [Sum.inr (Sum.inr (Sum.inr (Sum.inr (Sum.inr (Sum.inr (Sum.inr (Sum.inl { a := (0 : Nat), o := o, n := n, c := c }))))))), Sum.inr (Sum.inr (Sum.inr (Sum.inr (Sum.inr (Sum.inr (Sum.inl (IntKind.i64, m)))))))], j := none, c := (2 : Nat), z := false }, some { elem := nat_lit 3, cells := [Sum.inr (Sum.inr (Sum.inr (Sum.inr (Sum.inr (Sum.inr (Sum.inl (IntKind.i64, i)))))))], j := none, c := List.length [i], z := false }], ints := [], opqs := (0 : Nat), arrs := [some { elem := (3 : TypeId), k := AK.n IntKind.i64, l := L, cap := cap, ro := false }], junks := (0 : Nat) }) ∧ ((0 : Int) ≤ i ∧ i < (↑n : Int) → ∀ (z1 : Int), z1 = U.at y0 i → ∃ (y2 : List Int), U.Rg L o n c cap y2 ∧ (¬((0 : Int) ≤ i ∧ i < (↑n : Int)) → K (Sum.inl (Sum.inl (Sum.inr (Sum.inr (Sum.inr (Sum.inr (Sum.inr (Sum.inr (Sum.inl (IntKind.i64, (1 : Int))))))))))) { heap := [some { elem := nat_lit 48, cells := [Sum.inr (Sum.inl ((1 : Nat), (0 : Nat))), Sum.inr (Sum.inr (Sum.inr (Sum.inr (Sum.inr (Sum.inr (Sum.inl (IntKind.i64, s))))))), Sum.inr (Sum.inr (Sum.inr (Sum.inr (Sum.inr (Sum.inr (Sum.inl (IntKind.i64, e))))))), Sum.inr (Sum.inr (Sum.inr (Sum.inr (Sum.inr (Sum.inr (Sum.inl (IntKind.i64, d)))))))], j := none, c := (4 : Nat), z := false }, some { elem := nat_lit 53, cells := [Sum.inr (Sum.inr (Sum.inr (Sum.inr (Sum.inr (Sum.inr (Sum.inr (Sum.inl { a := (0 : Nat), o := o, n := n, c := c }))))))), Sum.inr (Sum.inr (Sum.inr (Sum.inr (Sum.inr (Sum.inr (Sum.inl (IntKind.i64, m)))))))], j := none, c := (2 : Nat), z := false }, some { elem := nat_lit 3, cells := [Sum.inr (Sum.inr (Sum.inr (Sum.inr (Sum.inr (Sum.inr (Sum.inl (IntKind.i64, i)))))))], j := none, c := List.length [i], z := false }], ints := [], opqs := (0 : Nat), arrs := [some { elem := (3 : TypeId), k := AK.n IntKind.i64, l := L, cap := cap, ro := false }], junks := (0 : Nat) }) ∧ ((0 : Int) ≤ i ∧ i < (↑n : Int) → ∀ (z3 : Int) (L'4 : List Int) (o'5 n'6 c'7 : Nat), z3 = U.at y2 i → U.Rg L'4 o'5 n'6 c'7 cap (U.er y2 i) → K (Sum.inl (Sum.inl (Sum.inr (Sum.inr (Sum.inr (Sum.inr (Sum.inr (Sum.inr (Sum.inl (IntKind.i64, (1 : Int))))))))))) { heap := [some { elem := nat_lit 48, cells := [Sum.inr (Sum.inl ((1 : Nat), (0 : Nat))), Sum.inr (Sum.inr (Sum.inr (Sum.inr (Sum.inr (Sum.inr (Sum.inl (IntKind.i64, s))))))), Sum.inr (Sum.inr (Sum.inr (Sum.inr (Sum.inr (Sum.inr (Sum.inl (IntKind.i64, e))))))), Sum.inr (Sum.inr (Sum.inr (Sum.inr (Sum.inr (Sum.inr (Sum.inl (IntKind.i64, d)))))))], j := none, c := (4 : Nat), z := false }, some { elem := nat_lit 53, cells := [Sum.inr (Sum.inr (Sum.inr (Sum.inr (Sum.inr (Sum.inr (Sum.inr (Sum.inl { a := (0 : Nat), o := o'5, n := n'6, c := c'7 }))))))), Sum.inr (Sum.inr (Sum.inr (Sum.inr (Sum.inr (Sum.inr (Sum.inl (IntKind.i64, m)))))))], j := none, c := (2 : Nat), z := false }, some { elem := nat_lit 3, cells := [Sum.inr (Sum.inr (Sum.inr (Sum.inr (Sum.inr (Sum.inr (Sum.inl (IntKind.i64, i)))))))], j := none, c := List.length [i], z := false }], ints := [], opqs := (0 : Nat), arrs := [some { elem := (3 : TypeId), k := AK.n IntKind.i64, l := L'4, cap := cap, ro := false }], junks := (0 : Nat) }))) := by kernel_rfl
theorem ppLose2_vc (K : AV → St → Prop) (L : List Int) (o n c cap : Nat) (m s e d i j : Int) : (runR inv0 tRg 19 [ptr 0 0, sl ⟨2, 0, 2, none, 2⟩] (pp2 ⟨0, o, n, c⟩ m L cap s e d [i, j]) K) = (∃ (y0 : List Int), U.Rg L o n c cap y0 ∧ (¬((0 : Int) ≤ i ∧ i < (↑n : Int)) → ∃ (y1 : List Int), U.Rg L o n c cap y1 ∧ (¬((0 : Int) ≤ j ∧ j < (↑n : Int)) → K (Sum.inl (Sum.inl (Sum.inr (Sum.inr (Sum.inr (Sum.inr (Sum.inr (Sum.inr (Sum.inl (IntKind.i64, (0 : Int))))))))))) { heap := [some { elem := nat_lit 48, cells := [Sum.inr (Sum.inl ((1 : Nat), (0 : Nat))), Sum.inr (Sum.inr (Sum.inr (Sum.inr (Sum.inr (Sum.inr (Sum.inl (IntKind.i64, s))))))), Sum.inr (Sum.inr (Sum.inr (Sum.inr (Sum.inr (Sum.inr (Sum.inl (IntKind.i64, e))))))), Sum.inr (Sum.inr (Sum.inr (Sum.inr (Sum.inr (Sum.inr (Sum.inl (IntKind.i64, d)))))))], j := none, c := (4 : Nat), z := false }, some { elem := nat_lit 53, cells := [Sum.inr (Sum.inr (Sum.inr (Sum.inr (Sum.inr (Sum.inr (Sum.inr (Sum.inl { a := (0 : Nat), o := o, n := n, c := c }))))))), Sum.inr (Sum.inr (Sum.inr (Sum.inr (Sum.inr (Sum.inr (Sum.inl (IntKind.i64, m)))))))], j := none, c := (2 : Nat), z := false }, some { elem := nat_lit 3, cells := [Sum.inr (Sum.inr (Sum.inr (Sum.inr (Sum.inr (Sum.inr (Sum.inl (IntKind.i64, i))))))), Sum.inr (Sum.inr (Sum.inr (Sum.inr (Sum.inr (Sum.inr (Sum.inl (IntKind.i64, j)))))))], j := none, c := List.length [i, j], z := false }], ints := [], opqs := (0 : Nat), arrs := [some { elem := (3 : TypeId), k := AK.n IntKind.i64, l := L, cap := cap, ro := false }], junks := (0 : Nat) }) ∧ ((0 : Int) ≤ j ∧ j < (↑n : Int) → ∀ (z2 : Int), z2 = U.at y1 j → ∃ (y3 : List Int), U.Rg L o n c cap y3 ∧ (¬((0 : Int) ≤ j ∧ j < (↑n : Int)) → K (Sum.inl (Sum.inl (Sum.inr (Sum.inr (Sum.inr (Sum.inr (Sum.inr (Sum.inr (Sum.inl (IntKind.i64, (1 : Int))))))))))) { heap := [some { elem := nat_lit 48, cells := [Sum.inr (Sum.inl ((1 : Nat), (0 : Nat))), Sum.inr (Sum.inr (Sum.inr (Sum.inr (Sum.inr (Sum.inr (Sum.inl (IntKind.i64, s))))))), Sum.inr (Sum.inr (Sum.inr (Sum.inr (Sum.inr (Sum.inr (Sum.inl (IntKind.i64, e))))))), Sum.inr (Sum.inr (Sum.inr (Sum.inr (Sum.inr (Sum.inr (Sum.inl (IntKind.i64, d)))))))], j := none, c := (4 : Nat), z := false }, some { elem := nat_lit 53, cells := [Sum.inr (Sum.inr (Sum.inr (Sum.inr (Sum.inr (Sum.inr (Sum.inr (Sum.inl { a := (0 : Nat), o := o, n := n, c := c }))))))), Sum.inr (Sum.inr (Sum.inr (Sum.inr (Sum.inr (Sum.inr (Sum.inl (IntKind.i64, m)))))))], j := none, c := (2 : Nat), z := false }, some { elem := nat_lit 3, cells := [Sum.inr (Sum.inr (Sum.inr (Sum.inr (Sum.inr (Sum.inr (Sum.inl (IntKind.i64, i))))))), Sum.inr (Sum.inr (Sum.inr (Sum.inr (Sum.inr (Sum.inr (Sum.inl (IntKind.i64, j)))))))], j := none, c := List.length [i, j], z := false }], ints := [], opqs := (0 : Nat), arrs := [some { elem := (3 : TypeId), k := AK.n IntKind.i64, l := L, cap := cap, ro := false }], junks := (0 : Nat) }) ∧ ((0 : Int) ≤ j ∧ j < (↑n : Int) → ∀ (z4 : Int) (L'5 : List Int) (o'6 n'7 c'8 : Nat), z4 = U.at y3 j → U.Rg L'5 o'6 n'7 c'8 cap (U.er y3 j) → K (Sum.inl (Sum.inl (Sum.inr (Sum.inr (Sum.inr (Sum.inr (Sum.inr (Sum.inr (Sum.inl (IntKind.i64, (1 : Int))))))))))) { heap := [some { elem := nat_lit 48, cells := [Sum.inr (Sum.inl ((1 : Nat), (0 : Nat))), Sum.inr (Sum.inr (Sum.inr (Sum.inr (Sum.inr (Sum.inr (Sum.inl (IntKind.i64, s))))))), Sum.inr (Sum.inr (Sum.inr (Sum.inr (Sum.inr (Sum.inr (Sum.inl (IntKind.i64, e))))))), Sum.inr (Sum.inr (Sum.inr (Sum.inr (Sum.inr (Sum.inr (Sum.inl (IntKind.i64, d)))))))], j := none, c := (4 : Nat), z := false }, some { elem := nat_lit 53, cells := [Sum.inr (Sum.inr (Sum.inr (Sum.inr (Sum.inr (Sum.inr (Sum.inr (Sum.inl { a := (0 : Nat), o := o'6, n := n'7, c := c'8 }))))))), Sum.inr (Sum.inr (Sum.inr (Sum.inr (Sum.inr (Sum.inr (Sum.inl (IntKind.i64, m)))))))], j := none, c := (2 : Nat), z := false }, some { elem := nat_lit 3, cells := [Sum.inr (Sum.inr (Sum.inr (Sum.inr (Sum.inr (Sum.inr (Sum.inl (IntKind.i64, i))))))), Sum.inr (Sum.inr (Sum.inr (Sum.inr (Sum.inr (Sum.inr (Sum.inl (IntKind.i64, j)))))))], j := none, c := List.length [i, j], z := false }], ints := [], opqs := (0 : Nat), arrs := [some { elem := (3 : TypeId), k := AK.n IntKind.i64, l := L'5, cap := cap, ro := false }], junks := (0 : Nat) }))) ∧ ((0 : Int) ≤ i ∧ i < (↑n : Int) → ∀ (z9 : Int), z9 = U.at y0 i → ∃ (y10 : List Int), U.Rg L o n c cap y10 ∧ (¬((0 : Int) ≤ i ∧ i < (↑n : Int)) → ∃ (y11 : List Int), U.Rg L o n c cap y11 ∧ (¬((0 : Int) ≤ j ∧ j < (↑n : Int)) → K (Sum.inl (Sum.inl (Sum.inr (Sum.inr (Sum.inr (Sum.inr (Sum.inr (Sum.inr (Sum.inl (IntKind.i64, (1 : Int))))))))))) { heap := [some { elem := nat_lit 48, cells := [Sum.inr (Sum.inl ((1 : Nat), (0 : Nat))), Sum.inr (Sum.inr (Sum.inr (Sum.inr (Sum.inr (Sum.inr (Sum.inl (IntKind.i64, s))))))), Sum.inr (Sum.inr (Sum.inr (Sum.inr (Sum.inr (Sum.inr (Sum.inl (IntKind.i64, e))))))), Sum.inr (Sum.inr (Sum.inr (Sum.inr (Sum.inr (Sum.inr (Sum.inl (IntKind.i64, d)))))))], j := none, c := (4 : Nat), z := false }, some { elem := nat_lit 53, cells := [Sum.inr (Sum.inr (Sum.inr (Sum.inr (Sum.inr (Sum.inr (Sum.inr (Sum.inl { a := (0 : Nat), o := o, n := n, c := c }))))))), Sum.inr (Sum.inr (Sum.inr (Sum.inr (Sum.inr (Sum.inr (Sum.inl (IntKind.i64, m)))))))], j := none, c := (2 : Nat), z := false }, some { elem := nat_lit 3, cells := [Sum.inr (Sum.inr (Sum.inr (Sum.inr (Sum.inr (Sum.inr (Sum.inl (IntKind.i64, i))))))), Sum.inr (Sum.inr (Sum.inr (Sum.inr (Sum.inr (Sum.inr (Sum.inl (IntKind.i64, j)))))))], j := none, c := List.length [i, j], z := false }], ints := [], opqs := (0 : Nat), arrs := [some { elem := (3 : TypeId), k := AK.n IntKind.i64, l := L, cap := cap, ro := false }], junks := (0 : Nat) }) ∧ ((0 : Int) ≤ j ∧ j < (↑n : Int) → ∀ (z12 : Int), z12 = U.at y11 j → ∃ (y13 : List Int), U.Rg L o n c cap y13 ∧ (¬((0 : Int) ≤ j ∧ j < (↑n : Int)) → K (Sum.inl (Sum.inl (Sum.inr (Sum.inr (Sum.inr (Sum.inr (Sum.inr (Sum.inr (Sum.inl (IntKind.i64, (2 : Int))))))))))) { heap := [some { elem := nat_lit 48, cells := [Sum.inr (Sum.inl ((1 : Nat), (0 : Nat))), Sum.inr (Sum.inr (Sum.inr (Sum.inr (Sum.inr (Sum.inr (Sum.inl (IntKind.i64, s))))))), Sum.inr (Sum.inr (Sum.inr (Sum.inr (Sum.inr (Sum.inr (Sum.inl (IntKind.i64, e))))))), Sum.inr (Sum.inr (Sum.inr (Sum.inr (Sum.inr (Sum.inr (Sum.inl (IntKind.i64, d)))))))], j := none, c := (4 : Nat), z := false }, some { elem := nat_lit 53, cells := [Sum.inr (Sum.inr (Sum.inr (Sum.inr (Sum.inr (Sum.inr (Sum.inr (Sum.inl { a := (0 : Nat), o := o, n := n, c := c }))))))), Sum.inr (Sum.inr (Sum.inr (Sum.inr (Sum.inr (Sum.inr (Sum.inl (IntKind.i64, m)))))))], j := none, c := (2 : Nat), z := false }, some { elem := nat_lit 3, cells := [Sum.inr (Sum.inr (Sum.inr (Sum.inr (Sum.inr (Sum.inr (Sum.inl (IntKind.i64, i))))))), Sum.inr (Sum.inr (Sum.inr (Sum.inr (Sum.inr (Sum.inr (Sum.inl (IntKind.i64, j)))))))], j := none, c := List.length [i, j], z := false }], ints := [], opqs := (0 : Nat), arrs := [some { elem := (3 : TypeId), k := AK.n IntKind.i64, l := L, cap := cap, ro := false }], junks := (0 : Nat) }) ∧ ((0 : Int) ≤ j ∧ j < (↑n : Int) → ∀ (z14 : Int) (L'15 : List Int) (o'16 n'17 c'18 : Nat), z14 = U.at y13 j → U.Rg L'15 o'16 n'17 c'18 cap (U.er y13 j) → K (Sum.inl (Sum.inl (Sum.inr (Sum.inr (Sum.inr (Sum.inr (Sum.inr (Sum.inr (Sum.inl (IntKind.i64, (2 : Int))))))))))) { heap := [some { elem := nat_lit 48, cells := [Sum.inr (Sum.inl ((1 : Nat), (0 : Nat))), Sum.inr (Sum.inr (Sum.inr (Sum.inr (Sum.inr (Sum.inr (Sum.inl (IntKind.i64, s))))))), Sum.inr (Sum.inr (Sum.inr (Sum.inr (Sum.inr (Sum.inr (Sum.inl (IntKind.i64, e))))))), Sum.inr (Sum.inr (Sum.inr (Sum.inr (Sum.inr (Sum.inr (Sum.inl (IntKind.i64, d)))))))], j := none, c := (4 : Nat), z := false }, some { elem := nat_lit 53, cells := [Sum.inr (Sum.inr (Sum.inr (Sum.inr (Sum.inr (Sum.inr (Sum.inr (Sum.inl { a := (0 : Nat), o := o'16, n := n'17, c := c'18 }))))))), Sum.inr (Sum.inr (Sum.inr (Sum.inr (Sum.inr (Sum.inr (Sum.inl (IntKind.i64, m)))))))], j := none, c := (2 : Nat), z := false }, some { elem := nat_lit 3, cells := [Sum.inr (Sum.inr (Sum.inr (Sum.inr (Sum.inr (Sum.inr (Sum.inl (IntKind.i64, i))))))), Sum.inr (Sum.inr (Sum.inr (Sum.inr (Sum.inr (Sum.inr (Sum.inl (IntKind.i64, j)))))))], j := none, c := List.length [i, j], z := false }], ints := [], opqs := (0 : Nat), arrs := [some { elem := (3 : TypeId), k := AK.n IntKind.i64, l := L'15, cap := cap, ro := false }], junks := (0 : Nat) }))) ∧ ((0 : Int) ≤ i ∧ i < (↑n : Int) → ∀ (z19 : Int) (L'20 : List Int) (o'21 n'22 c'23 : Nat), z19 = U.at y10 i → U.Rg L'20 o'21 n'22 c'23 cap (U.er y10 i) → ∃ (y24 : List Int), U.Rg L'20 o'21 n'22 c'23 cap y24 ∧ (¬((0 : Int) ≤ j ∧ j < (↑n'22 : Int)) → K (Sum.inl (Sum.inl (Sum.inr (Sum.inr (Sum.inr (Sum.inr (Sum.inr (Sum.inr (Sum.inl (IntKind.i64, (1 : Int))))))))))) { heap := [some { elem := nat_lit 48, cells := [Sum.inr (Sum.inl ((1 : Nat), (0 : Nat))), Sum.inr (Sum.inr (Sum.inr (Sum.inr (Sum.inr (Sum.inr (Sum.inl (IntKind.i64, s))))))), Sum.inr (Sum.inr (Sum.inr (Sum.inr (Sum.inr (Sum.inr (Sum.inl (IntKind.i64, e))))))), Sum.inr (Sum.inr (Sum.inr (Sum.inr (Sum.inr (Sum.inr (Sum.inl (IntKind.i64, d)))))))], j := none, c := (4 : Nat), z := false }, some { elem := nat_lit 53, cells := [Sum.inr (Sum.inr (Sum.inr (Sum.inr (Sum.inr (Sum.inr (Sum.inr (Sum.inl { a := (0 : Nat), o := o'21, n := n'22, c := c'23 }))))))), Sum.inr (Sum.inr (Sum.inr (Sum.inr (Sum.inr (Sum.inr (Sum.inl (IntKind.i64, m)))))))], j := none, c := (2 : Nat), z := false }, some { elem := nat_lit 3, cells := [Sum.inr (Sum.inr (Sum.inr (Sum.inr (Sum.inr (Sum.inr (Sum.inl (IntKind.i64, i))))))), Sum.inr (Sum.inr (Sum.inr (Sum.inr (Sum.inr (Sum.inr (Sum.inl (IntKind.i64, j)))))))], j := none, c := List.length [i, j], z := false }], ints := [], opqs := (0 : Nat), arrs := [some { elem := (3 : TypeId), k := AK.n IntKind.i64, l := L'20, cap := cap, ro := false }], junks := (0 : Nat) }) ∧ ((0 : Int) ≤ j ∧ j < (↑n'22 : Int) → ∀ (z25 : Int), z25 = U.at y24 j → ∃ (y26 : List Int), U.Rg L'20 o'21 n'22 c'23 cap y26 ∧ (¬((0 : Int) ≤ j ∧ j < (↑n'22 : Int)) → K (Sum.inl (Sum.inl (Sum.inr (Sum.inr (Sum.inr (Sum.inr (Sum.inr (Sum.inr (Sum.inl (IntKind.i64, (2 : Int))))))))))) { heap := [some { elem := nat_lit 48, cells := [Sum.inr (Sum.inl ((1 : Nat), (0 : Nat))), Sum.inr (Sum.inr (Sum.inr (Sum.inr (Sum.inr (Sum.inr (Sum.inl (IntKind.i64, s))))))), Sum.inr (Sum.inr (Sum.inr (Sum.inr (Sum.inr (Sum.inr (Sum.inl (IntKind.i64, e))))))), Sum.inr (Sum.inr (Sum.inr (Sum.inr (Sum.inr (Sum.inr (Sum.inl (IntKind.i64, d)))))))], j := none, c := (4 : Nat), z := false }, some { elem := nat_lit 53, cells := [Sum.inr (Sum.inr (Sum.inr (Sum.inr (Sum.inr (Sum.inr (Sum.inr (Sum.inl { a := (0 : Nat), o := o'21, n := n'22, c := c'23 }))))))), Sum.inr (Sum.inr (Sum.inr (Sum.inr (Sum.inr (Sum.inr (Sum.inl (IntKind.i64, m)))))))], j := none, c := (2 : Nat), z := false }, some { elem := nat_lit 3, cells := [Sum.inr (Sum.inr (Sum.inr (Sum.inr (Sum.inr (Sum.inr (Sum.inl (IntKind.i64, i))))))), Sum.inr (Sum.inr (Sum.inr (Sum.inr (Sum.inr (Sum.inr (Sum.inl (IntKind.i64, j)))))))], j := none, c := List.length [i, j], z := false }], ints := [], opqs := (0 : Nat), arrs := [some { elem := (3 : TypeId), k := AK.n IntKind.i64, l := L'20, cap := cap, ro := false }], junks := (0 : Nat) }) ∧ ((0 : Int) ≤ j ∧ j < (↑n'22 : Int) → ∀ (z27 : Int) (L'28 : List Int) (o'29 n'30 c'31 : Nat), z27 = U.at y26 j → U.Rg L'28 o'29 n'30 c'31 cap (U.er y26 j) → K (Sum.inl (Sum.inl (Sum.inr (Sum.inr (Sum.inr (Sum.inr (Sum.inr (Sum.inr (Sum.inl (IntKind.i64, (2 : Int))))))))))) { heap := [some { elem := nat_lit 48, cells := [Sum.inr (Sum.inl ((1 : Nat), (0 : Nat))), Sum.inr (Sum.inr (Sum.inr (Sum.inr (Sum.inr (Sum.inr (Sum.inl (IntKind.i64, s))))))), Sum.inr (Sum.inr (Sum.inr (Sum.inr (Sum.inr (Sum.inr (Sum.inl (IntKind.i64, e))))))), Sum.inr (Sum.inr (Sum.inr (Sum.inr (Sum.inr (Sum.inr (Sum.inl (IntKind.i64, d)))))))], j := none, c := (4 : Nat), z := false }, some { elem := nat_lit 53, cells := [Sum.inr (Sum.inr (Sum.inr (Sum.inr (Sum.inr (Sum.inr (Sum.inr (Sum.inl { a := (0 : Nat), o := o'29, n := n'30, c := c'31 }))))))), Sum.inr (Sum.inr (Sum.inr (Sum.inr (Sum.inr (Sum.inr (Sum.inl (IntKind.i64, m)))))))], j := none, c := (2 : Nat), z := false }, some { elem := nat_lit 3, cells := [Sum.inr (Sum.inr (Sum.inr (Sum.inr (Sum.inr (Sum.inr (Sum.inl (IntKind.i64, i))))))), Sum.inr (Sum.inr (Sum.inr (Sum.inr (Sum.inr (Sum.inr (Sum.inl (IntKind.i64, j)))))))], j := none, c := List.length [i, j], z := false }], ints := [], opqs := (0 : Nat), arrs := [some { elem := (3 : TypeId), k := AK.n IntKind.i64, l := L'28, cap := cap, ro := false }], junks := (0 : Nat) }))))) := by kernel_rfl
theorem ppAt_vc (K : AV → St → Prop) (L : List Int) (o n c cap : Nat) (m s e d i : Int) : (runR inv0 tRg 20 [ptr 0 0, xi .i64 i] (ppSt ⟨0, o, n, c⟩ m L cap s e d) K) = (∃ (y0 : List Int), U.Rg L o n c cap y0 ∧ (¬((0 : Int) ≤ i ∧ i < (↑n : Int)) → K (Sum.inr [Sum.inl (Sum.inr (Sum.inr (Sum.inr (Sum.inr (Sum.inr (Sum.inr (Sum.inl (IntKind.i64, (0 : Int))))))))), Sum.inl (Sum.inl (Value.bool false))]) { heap := [some { elem := nat_lit 48, cells := [Sum.inr (Sum.inl ((1 : Nat), (0 : Nat))), Sum.inr (Sum.inr (Sum.inr (Sum.inr (Sum.inr (Sum.inr (Sum.inl (IntKind.i64, s))))))), Sum.inr (Sum.inr (Sum.inr (Sum.inr (Sum.inr (Sum.inr (Sum.inl (IntKind.i64, e))))))), Sum.inr (Sum.inr (Sum.inr (Sum.inr (Sum.inr (Sum.inr (Sum.inl (IntKind.i64, d)))))))], j := none, c := (4 : Nat), z := false }, some { elem := nat_lit 53, cells := [Sum.inr (Sum.inr (Sum.inr (Sum.inr (Sum.inr (Sum.inr (Sum.inr (Sum.inl { a := (0 : Nat), o := o, n := n, c := c }))))))), Sum.inr (Sum.inr (Sum.inr (Sum.inr (Sum.inr (Sum.inr (Sum.inl (IntKind.i64, m)))))))], j := none, c := (2 : Nat), z := false }], ints := [], opqs := (0 : Nat), arrs := [some { elem := (3 : TypeId), k := AK.n IntKind.i64, l := L, cap := cap, ro := false }], junks := (0 : Nat) }) ∧ ((0 : Int) ≤ i ∧ i < (↑n : Int) → ∀ (z1 : Int), z1 = U.at y0 i → K (Sum.inr [Sum.inl (Sum.inr (Sum.inr (Sum.inr (Sum.inr (Sum.inr (Sum.inr (Sum.inl (IntKind.i64, z1)))))))), Sum.inl (Sum.inl (Value.bool true))]) { heap := [some { elem := nat_lit 48, cells := [Sum.inr (Sum.inl ((1 : Nat), (0 : Nat))), Sum.inr (Sum.inr (Sum.inr (Sum.inr (Sum.inr (Sum.inr (Sum.inl (IntKind.i64, s))))))), Sum.inr (Sum.inr (Sum.inr (Sum.inr (Sum.inr (Sum.inr (Sum.inl (IntKind.i64, e))))))), Sum.inr (Sum.inr (Sum.inr (Sum.inr (Sum.inr (Sum.inr (Sum.inl (IntKind.i64, d)))))))], j := none, c := (4 : Nat), z := false }, some { elem := nat_lit 53, cells := [Sum.inr (Sum.inr (Sum.inr (Sum.inr (Sum.inr (Sum.inr (Sum.inr (Sum.inl { a := (0 : Nat), o := o, n := n, c := c }))))))), Sum.inr (Sum.inr (Sum.inr (Sum.inr (Sum.inr (Sum.inr (Sum.inl (IntKind.i64, m)))))))], j := none, c := (2 : Nat), z := false }], ints := [], opqs := (0 : Nat), arrs := [some { elem := (3 : TypeId), k := AK.n IntKind.i64, l := L, cap := cap, ro := false }], junks := (0 : Nat) })) := by kernel_rfl
theorem ppLen_vc (K : AV → St → Prop) (L : List Int) (o n c cap : Nat) (m s e d : Int) : (runR inv0 tRg 11 [ptr 0 0] (ppSt ⟨0, o, n, c⟩ m L cap s e d) K) = (∀ (z0 : Int), z0 = (↑n : Int) → K (Sum.inl (Sum.inl (Sum.inr (Sum.inr (Sum.inr (Sum.inr (Sum.inr (Sum.inr (Sum.inl (IntKind.i64, z0)))))))))) { heap := [some { elem := nat_lit 48, cells := [Sum.inr (Sum.inl ((1 : Nat), (0 : Nat))), Sum.inr (Sum.inr (Sum.inr (Sum.inr (Sum.inr (Sum.inr (Sum.inl (IntKind.i64, s))))))), Sum.inr (Sum.inr (Sum.inr (Sum.inr (Sum.inr (Sum.inr (Sum.inl (IntKind.i64, e))))))), Sum.inr (Sum.inr (Sum.inr (Sum.inr (Sum.inr (Sum.inr (Sum.inl (IntKind.i64, d)))))))], j := none, c := (4 : Nat), z := false }, some { elem := nat_lit 53, cells := [Sum.inr (Sum.inr (Sum.inr (Sum.inr (Sum.inr (Sum.inr (Sum.inr (Sum.inl { a := (0 : Nat), o := o, n := n, c := c }))))))), Sum.inr (Sum.inr (Sum.inr (Sum.inr (Sum.inr (Sum.inr (Sum.inl (IntKind.i64, m)))))))], j := none, c := (2 : Nat), z := false }], ints := [], opqs := (0 : Nat), arrs := [some { elem := (3 : TypeId), k := AK.n IntKind.i64, l := L, cap := cap, ro := false }], junks := (0 : Nat) }) := by kernel_rfl
theorem ppAll_vc (K : AV → St → Prop) (L : List Int) (o n c cap : Nat) (m s e d : Int) : (runR inv0 tRg 13 [ptr 0 0] (ppSt ⟨0, o, n, c⟩ m L cap s e d) K) = (∃ (y0 : List Int), U.Rg L o n c cap y0 ∧ ∀ (L'1 : List Int) (n'2 c'3 : Nat), n'2 = n → U.Rg L'1 (0 : Nat) n'2 c'3 c'3 y0 → K (Sum.inl (Sum.inl (Sum.inr (Sum.inr (Sum.inr (Sum.inr (Sum.inr (Sum.inr (Sum.inr (Sum.inl { a := (1 : Nat), o := (0 : Nat), n := n'2, c := c'3 })))))))))) { heap := [some { elem := nat_lit 48, cells := [Sum.inr (Sum.inl ((1 : Nat), (0 : Nat))), Sum.inr (Sum.inr (Sum.inr (Sum.inr (Sum.inr (Sum.inr (Sum.inl (IntKind.i64, s))))))), Sum.inr (Sum.inr (Sum.inr (Sum.inr (Sum.inr (Sum.inr (Sum.inl (IntKind.i64, e))))))), Sum.inr (Sum.inr (Sum.inr (Sum.inr (Sum.inr (Sum.inr (Sum.inl (IntKind.i64, d)))))))], j := none, c := (4 : Nat), z := false }, some { elem := nat_lit 53, cells := [Sum.inr (Sum.inr (Sum.inr (Sum.inr (Sum.inr (Sum.inr (Sum.inr (Sum.inl { a := (0 : Nat), o := o, n := n, c := c }))))))), Sum.inr (Sum.inr (Sum.inr (Sum.inr (Sum.inr (Sum.inr (Sum.inl (IntKind.i64, m)))))))], j := none, c := (2 : Nat), z := false }], ints := [], opqs := (0 : Nat), arrs := [some { elem := (3 : TypeId), k := AK.n IntKind.i64, l := L, cap := cap, ro := false }, some { elem := (3 : TypeId), k := AK.n IntKind.i64, l := L'1, cap := c'3, ro := false }], junks := (0 : Nat) }) := by kernel_rfl
theorem ppCounts_vc (K : AV → St → Prop) (L : List Int) (o n c cap : Nat) (m s e d : Int) : (runR inv0 tRg 10 [ptr 0 0] (ppSt ⟨0, o, n, c⟩ m L cap s e d) K) = (∀ (z0 : Int), z0 = IntKind.wrap IntKind.i64 (s + d) → ∀ (z1 : Int), z1 = IntKind.wrap IntKind.i64 (z0 - e) → ∀ (z2 : Int), z2 = (↑n : Int) → e = e ∧ d = d ∧ s = s ∧ d = d ∧ e = e ∧ s = s ∧ ∀ (z3 : Int), z3 = IntKind.wrap IntKind.i64 (z1 - z2) → K (Sum.inr [Sum.inl (Sum.inr (Sum.inr (Sum.inr (Sum.inr (Sum.inr (Sum.inr (Sum.inl (IntKind.i64, s)))))))), Sum.inl (Sum.inr (Sum.inr (Sum.inr (Sum.inr (Sum.inr (Sum.inr (Sum.inl (IntKind.i64, e)))))))), Sum.inl (Sum.inr (Sum.inr (Sum.inr (Sum.inr (Sum.inr (Sum.inr (Sum.inl (IntKind.i64, d)))))))), Sum.inl (Sum.inr (Sum.inr (Sum.inr (Sum.inr (Sum.inr (Sum.inr (Sum.inl (IntKind.i64, z3))))))))]) { heap := [some { elem := nat_lit 48, cells := [Sum.inr (Sum.inl ((1 : Nat), (0 : Nat))), Sum.inr (Sum.inr (Sum.inr (Sum.inr (Sum.inr (Sum.inr (Sum.inl (IntKind.i64, s))))))), Sum.inr (Sum.inr (Sum.inr (Sum.inr (Sum.inr (Sum.inr (Sum.inl (IntKind.i64, e))))))), Sum.inr (Sum.inr (Sum.inr (Sum.inr (Sum.inr (Sum.inr (Sum.inl (IntKind.i64, d)))))))], j := none, c := (4 : Nat), z := false }, some { elem := nat_lit 53, cells := [Sum.inr (Sum.inr (Sum.inr (Sum.inr (Sum.inr (Sum.inr (Sum.inr (Sum.inl { a := (0 : Nat), o := o, n := n, c := c }))))))), Sum.inr (Sum.inr (Sum.inr (Sum.inr (Sum.inr (Sum.inr (Sum.inl (IntKind.i64, m)))))))], j := none, c := (2 : Nat), z := false }], ints := [], opqs := (0 : Nat), arrs := [some { elem := (3 : TypeId), k := AK.n IntKind.i64, l := L, cap := cap, ro := false }], junks := (0 : Nat) }) := by kernel_rfl
end Go.Proofs.Ytopceemfefhkmaa
end

section
set_option linter.unusedVariables false
set_option linter.unusedSimpArgs false
namespace Go.Proofs.Ytopceemfefhkmaa
open Go Reck Ost
/-- A number that counts: it stays small. -/
structure U.sm (s : Int) : Prop where
  out : 0 ≤ s ∧ s ≤ 1000000000000
def pp0 (m : Int) : St := ⟨[some ⟨48, [.inr (.inl (1, 0)), .inl (.int .i64 0), .inl (.int .i64 0), .inl (.int .i64 0)], none, 4, false⟩, rgB (aslC ⟨0, 0, 0, 0⟩) m], [], 0, [some (ib [] 0 false)], 0⟩
theorem ppNew_run (K : AV → St → Prop) (m : Int) (h : ∀ m' : Int, m' = min (max m 1) 4096 → K (ptr 0 0) (pp0 m')) : runR inv0 tRg 7 [xi .i64 m] emptySt K := by
  rw [ppNew_vc]
  intro z0 h0 z1 h1 m2 h2
  exact h m2 (by omega)
theorem ppTake_run (K : AV → St → Prop) (L : List Int) (o n c cap : Nat) (m s e d i : Int) (A : List Int) (h : U.Rg L o n c cap A) (he : U.sm e)
    (h0 : ¬ (0 ≤ i ∧ i < n) → K (rgNo 0 false) (ppSt ⟨0, o, n, c⟩ m L cap s e d)) (h1 : 0 ≤ i ∧ i < n → ∀ (z e' : Int) (L' : List Int) (o' n' c' : Nat), z = U.at A i → e' = e + 1 → U.Rg L' o' n' c' cap (U.er A i) → K (rgNo z true) (ppSt ⟨0, o', n', c'⟩ m L' cap s e' d)) :
    runR inv0 tRg 16 [ptr 0 0, xi .i64 i] (ppSt ⟨0, o, n, c⟩ m L cap s e d) K := by
  rw [ppTake_vc]
  have := he.out
  exact ⟨A, h, h0, fun g z hz => ⟨A, h, fun g' => absurd g g', fun _ z4 L' o' n' c' _ h' z9 h9 => h1 g z z9 L' o' n' c' hz (iw h9 (by omega)) h'⟩⟩
theorem ppTwice_run (K : AV → St → Prop) (L : List Int) (o n c cap : Nat) (m s e d i : Int) (A : List Int) (h : U.Rg L o n c cap A) (hd : U.sm d) (hm : 0 ≤ m ∧ m ≤ 4096) (hn : (n : Int) ≤ m)
    (h0 : ¬ (0 ≤ i ∧ i < n ∧ n < m) → K (lit (.bool false)) (ppSt ⟨0, o, n, c⟩ m L cap s e d)) (h1 : 0 ≤ i ∧ i < n ∧ n < m → ∀ (d' : Int) (L' : List Int) (n' c' : Nat), d' = d + 1 → n' = n + 1 → U.Rg L' 0 n' c' c' (A ++ [U.at A i]) → K (lit (.bool true)) ⟨[ppB s e d', rgB (aslC ⟨1, 0, n', c'⟩) m], [], 0, [none, some (ib L' c' false)], 0⟩) :
    runR inv0 tRg 18 [ptr 0 0, xi .i64 i] (ppSt ⟨0, o, n, c⟩ m L cap s e d) K := by
  rw [ppTwice_vc]
  have := hd.out
  refine ⟨A, h, fun g => h0 (by omega), fun g z hz => ⟨A, ⟨h, hm, hn⟩, fun g' => h0 (by omega), fun g' L' n' c' hn' h' z6 h6 => ?_⟩⟩
  subst hz
  exact h1 (by omega) z6 L' n' c' (iw h6 (by omega)) hn' h'
def U.ls (A : List Int) (i : Int) : List Int := if 0 ≤ i ∧ i < A.length then U.er A i else A
def U.lc (A : List Int) (i : Int) : Int := if 0 ≤ i ∧ i < A.length then 1 else 0
theorem ls_in {A : List Int} {n : Nat} {i : Int} (hn : A.length = n) (h : 0 ≤ i ∧ i < n) : U.ls A i = U.er A i ∧ U.lc A i = 1 := by
  subst hn; exact ⟨if_pos h, if_pos h⟩
theorem ls_out {A : List Int} {n : Nat} {i : Int} (hn : A.length = n) (h : ¬ (0 ≤ i ∧ i < n)) : U.ls A i = A ∧ U.lc A i = 0 := by
  subst hn; exact ⟨if_neg h, if_neg h⟩
def ppL (r : ASl) (m : Int) (L : List Int) (cap : Nat) (s e d : Int) (l : List Int) : St := pp2 r m L cap s e d l
theorem ppLose1_run (K : AV → St → Prop) (L : List Int) (o n c cap : Nat) (m s e d i : Int) (A : List Int) (h : U.Rg L o n c cap A)
    (h1 : ∀ (k : Int) (L' : List Int) (o' n' c' : Nat), k = U.lc A i → U.Rg L' o' n' c' cap (U.ls A i) → K (xi .i64 k) (pp2 ⟨0, o', n', c'⟩ m L' cap s e d [i])) :
    runR inv0 tRg 19 [ptr 0 0, sl ⟨2, 0, 1, none, 1⟩] (pp2 ⟨0, o, n, c⟩ m L cap s e d [i]) K := by
  rw [ppLose1_vc]
  have hn := h.n
  refine ⟨A, h, fun g => ?_, fun g z hz => ⟨A, h, fun g' => absurd g g', fun _ z4 L' o' n' c' _ h' => ?_⟩⟩
  · have := ls_out hn g
    exact h1 0 L o n c this.2.symm (this.1.symm ▸ h)
  · have := ls_in hn g
    exact h1 1 L' o' n' c' this.2.symm (this.1.symm ▸ h')
theorem ppLose2_run (K : AV → St → Prop) (L : List Int) (o n c cap : Nat) (m s e d i j : Int) (A : List Int) (h : U.Rg L o n c cap A)
    (h1 : ∀ (k : Int) (L' : List Int) (o' n' c' : Nat), k = U.lc A i + U.lc (U.ls A i) j → U.Rg L' o' n' c' cap (U.ls (U.ls A i) j) → K (xi .i64 k) (pp2 ⟨0, o', n', c'⟩ m L' cap s e d [i, j])) :
    runR inv0 tRg 19 [ptr 0 0, sl ⟨2, 0, 2, none, 2⟩] (pp2 ⟨0, o, n, c⟩ m L cap s e d [i, j]) K := by
  rw [ppLose2_vc]
  have hn := h.n
  refine ⟨A, h, fun g => ⟨A, h, fun g2 => ?_, fun g2 z hz => ⟨A, h, fun g' => absurd g2 g', fun _ z4 L' o' n' c' _ h' => ?_⟩⟩, fun g z hz => ⟨A, h, fun g' => absurd g g', fun _ z4 L' o' n' c' _ h' => ⟨_, h', fun g2 => ?_, fun g2 z hz => ⟨_, h', fun g' => absurd g2 g', fun _ z4 L2 o2 n2 c2 _ h2 => ?_⟩⟩⟩⟩
  · have a := ls_out hn g
    have b := ls_out hn g2
    refine h1 0 L o n c ?_ ?_
    · rw [a.1, a.2, b.2]; rfl
    · rw [a.1, b.1]; exact h
  · have a := ls_out hn g
    have b := ls_in hn g2
    refine h1 1 L' o' n' c' ?_ ?_
    · rw [a.1, a.2, b.2]; rfl
    · rw [a.1, b.1]; exact h'
  · have a := ls_in hn g
    have b := ls_out h'.n g2
    refine h1 1 L' o' n' c' ?_ ?_
    · rw [a.1, a.2, b.2]; rfl
    · rw [a.1, b.1]; exact h'
  · have a := ls_in hn g
    have b := ls_in h'.n g2
    refine h1 2 L2 o2 n2 c2 ?_ ?_
    · rw [a.1, a.2, b.2]; rfl
    · rw [a.1, b.1]; exact h2
theorem ppAt_run (K : AV → St → Prop) (L : List Int) (o n c cap : Nat) (m s e d i : Int) (A : List Int) (h : U.Rg L o n c cap A)
    (h0 : ¬ (0 ≤ i ∧ i < n) → K (rgNo 0 false) (ppSt ⟨0, o, n, c⟩ m L cap s e d)) (h1 : 0 ≤ i ∧ i < n → ∀ z : Int, z = U.at A i → K (rgNo z true) (ppSt ⟨0, o, n, c⟩ m L cap s e d)) :
    runR inv0 tRg 20 [ptr 0 0, xi .i64 i] (ppSt ⟨0, o, n, c⟩ m L cap s e d) K := by
  rw [ppAt_vc]
  exact ⟨A, h, h0, h1⟩
theorem ppLen_run (K : AV → St → Prop) (L : List Int) (o n c cap : Nat) (m s e d : Int) (h : ∀ z : Int, z = n → K (xi .i64 z) (ppSt ⟨0, o, n, c⟩ m L cap s e d)) :
    runR inv0 tRg 11 [ptr 0 0] (ppSt ⟨0, o, n, c⟩ m L cap s e d) K := by
  rw [ppLen_vc]
  exact h
theorem ppAll_run (K : AV → St → Prop) (L : List Int) (o n c cap : Nat) (m s e d : Int) (A : List Int) (h : U.Rg L o n c cap A)
    (h1 : ∀ (L' : List Int) (n' c' : Nat), n' = n → U.Rg L' 0 n' c' c' A → K (cell (aslC ⟨1, 0, n', c'⟩)) ⟨[ppB s e d, rgB (aslC ⟨0, o, n, c⟩) m], [], 0, [some (ib L cap false), some (ib L' c' false)], 0⟩) :
    runR inv0 tRg 13 [ptr 0 0] (ppSt ⟨0, o, n, c⟩ m L cap s e d) K := by
  rw [ppAll_vc]
  exact ⟨A, h, h1⟩
theorem ppCounts_run (K : AV → St → Prop) (L : List Int) (o n c cap : Nat) (m s e d : Int) (hs : U.sm s) (he : U.sm e) (hd : U.sm d) (hn : n ≤ 16777216)
    (h1 : ∀ z : Int, z = s + d - e - n → K (.inr [.inl (xintC .i64 s), .inl (xintC .i64 e), .inl (xintC .i64 d), .inl (xintC .i64 z)]) (ppSt ⟨0, o, n, c⟩ m L cap s e d)) :
    runR inv0 tRg 10 [ptr 0 0] (ppSt ⟨0, o, n, c⟩ m L cap s e d) K := by
  rw [ppCounts_vc]
  have a := hs.out
  have b := he.out
  have c := hd.out
  intro z0 h0 z1 h1' z2 h2
  have e0 := iw h0 (by omega)
  have e1 := iw h1' (by omega)
  refine ⟨rfl, rfl, rfl, rfl, rfl, rfl, fun z3 h3 => h1 z3 ?_⟩
  have e3 := iw h3 (by omega)
  omega
/-- What of B found room behind A. -/
structure U.Sent (A B : List Int) (m k : Int) : Prop where
  out : (k = B.length ∧ (A.length : Int) + B.length ≤ m) ∨ (k = m - A.length ∧ m ≤ A.length + B.length)
theorem sd_step {A B : List Int} {m i k : Int} {L : List Int} {o n c cap : Nat} (h : U.sdI A B m i k L o n c cap) : (n : Int) = A.length + k ∧ 0 ≤ k ∧ k ≤ i ∧ (n : Int) ≤ m := by
  obtain ⟨h1, h2, h3, h4, h5⟩ := h
  have := h5.n
  rw [List.length_append, List.length_take] at this
  omega
theorem sd_no {A B : List Int} {m i k z : Int} {L : List Int} {o n c cap : Nat} (h : U.sdI A B m i k L o n c cap) (hi : i < B.length) (hn : m ≤ n) (hz : z = i + 1) : U.sdI A B m z k L o n c cap := by
  have a := sd_step h
  obtain ⟨h1, h2, h3, h4, h5⟩ := h
  exact ⟨by omega, by omega, h3, by omega, h5⟩
theorem sd_yes {A B : List Int} {m i k z q v : Int} {L : List Int} {o n c cap : Nat} (h : U.sdI A B m i k L o n c cap) (hi : i < B.length) (hn : ¬ m ≤ n) (hz : z = i + 1) (hq : q = k + 1) (hv : v = U.at B i) {L' : List Int} {n' c' : Nat} (h' : U.Rg L' 0 n' c' c' ((A ++ B.take k.toNat) ++ [v])) : U.sdI A B m z q L' 0 n' c' c' := by
  have a := sd_step h
  obtain ⟨h1, h2, h3, h4, h5⟩ := h
  have hk : k = i := by omega
  refine ⟨by omega, by omega, h3, by omega, ?_⟩
  have e : B.take q.toNat = B.take k.toNat ++ [v] := by
    rw [show q.toNat = k.toNat + 1 by omega, take_succ' (by omega), hv, hk]; rfl
  rw [e, ← List.append_assoc]
  exact h'
theorem ppSend_run (K : AV → St → Prop) (L : List Int) (o n c cap : Nat) (m s e d : Int) (M : List Int) (p q a dap : Nat) (A B : List Int) (h : U.Rg L o n c cap A) (hB : U.Rg M p q q (p + q) B) (hs : U.sm s) (hm : 0 ≤ m ∧ m ≤ 4096) (hn : (n : Int) ≤ m)
    (h1 : ∀ (k s' : Int) (L' : List Int) (o' n' c' cap' : Nat), U.Sent A B m k → s' = s + q → (n' : Int) = n + k → U.Rg L' o' n' c' cap' (A ++ B.take k.toNat) → K (xi .i64 k) ⟨[ppB s' e d, rgB (aslC ⟨2, o', n', c'⟩) m], [], 0, [none, some (ia M dap), some (ib L' cap' false)], 0⟩) :
    runR invSd tRg 15 [ptr 0 0, cell (aslC ⟨1, p, q, a⟩)] ⟨[ppB s e d, rgB (aslC ⟨0, o, n, c⟩) m], [], 0, [some (ib L cap false), some (ia M dap)], 0⟩ K := by
  rw [ppSend_vc]
  have hs' := hs.out
  have lA := h.n
  have lB := hB.n
  have kB := hB.len
  have sB := hB.sm
  rw [← h.eq, ← hB.eq]
  intro z0 h0 z1 h1' z2 h2
  have e1 := iw h1' (by omega)
  constructor
  · refine ⟨(0, (0, (L, o, n, c, cap))), ?_⟩
    repeat' (first | exact rfl | with_reducible apply And.intro)
    exact ⟨Int.le_refl _, by dsimp only; omega, by omega, .inl ⟨rfl, by dsimp only; omega⟩, by dsimp only; simpa using h⟩
  rintro ⟨i, k, L1, o1, n1, c1, cap1⟩ hI
  dsimp only at hI ⊢
  have b := sd_step hI
  have bI := hI.out
  refine ⟨fun hi => ⟨by omega, fun j hj => ⟨by omega, fun z6 h6 => ⟨_, ⟨bI.2.2.2.2, hm, b.2.2.2⟩, fun g z8 h8 => ?_, fun g L' n' c' hn' h' z13 h13 z14 h14 => ?_⟩⟩⟩, fun hi => ?_⟩
  · have e8 := iw h8 (by omega)
    refine ⟨(z8, (k, (L1, o1, n1, c1, cap1))), ?_⟩
    repeat' (first | exact rfl | with_reducible apply And.intro)
    · exact sd_no hI (by omega) g e8
    · dsimp only; omega
  · have e13 := iw h13 (by omega)
    have e14 := iw h14 (by omega)
    refine ⟨(z14, (z13, (L', 0, n', c', c'))), ?_⟩
    repeat' (first | exact rfl | with_reducible apply And.intro)
    · exact sd_yes hI (by omega) g e14 e13 (h6.trans (hB.get (i := i) (by omega) hj)) h'
    · dsimp only; omega
  · exact h1 k z1 L1 o1 n1 c1 cap1 ⟨by omega⟩ (by omega) (by omega) bI.2.2.2.2
theorem ppSend3_run (K : AV → St → Prop) (L : List Int) (o n c cap : Nat) (m s e d x y z : Int) (A : List Int) (h : U.Rg L o n c cap A) (hs : U.sm s) (hm : 0 ≤ m ∧ m ≤ 4096) (hn : (n : Int) + 2 = m)
    (h1 : ∀ (s' : Int) (L' : List Int) (n' c' : Nat), s' = s + 3 → n' = n + 2 → U.Rg L' 0 n' c' c' (A ++ [x, y]) → K (xi .i64 2) ⟨[ppB s' e d, rgB (aslC ⟨1, 0, n', c'⟩) m, some ⟨3, [xintC .i64 x, xintC .i64 y, xintC .i64 z], none, 3, false⟩], [], 0, [none, some (ib L' c' false)], 0⟩) :
    runR invSd tRg 15 [ptr 0 0, sl ⟨2, 0, 3, none, 3⟩] (pp2 ⟨0, o, n, c⟩ m L cap s e d [x, y, z]) K := by
  rw [ppSend3_vc]
  have hs' := hs.out
  refine fun z0 h0 => ⟨A, ⟨h, hm, by omega⟩, fun g => absurd g (by omega), fun _ L1 n1 c1 e1 r1 => ⟨_, ⟨r1, hm, by omega⟩, fun g => absurd g (by omega), fun _ L2 n2 c2 e2 r2 => ⟨_, ⟨r2, hm, by omega⟩, fun _ => ?_, fun g => absurd g (by omega)⟩⟩⟩
  have e0 := iw h0 (by omega)
  refine h1 z0 L2 n2 c2 e0 (by omega) ?_
  rw [List.append_assoc] at r2
  exact r2
end Go.Proofs.Ytopceemfefhkmaa
end

section
set_option linter.unusedVariables false
set_option linter.unusedSimpArgs false
namespace Go.Proofs.Ytopceemfefhkmaa
open Go Reck Ost
abbrev PPd := (Nat × Nat × Nat) × Int × List Int × Nat × Int × Int × Int
def ppC (p r : Option Blk) (a : Option ABlk) : Option PPd := match p, r, a with
  | some ⟨48, [.inr (.inl (1, 0)), s, e, d], none, 4, false⟩, some ⟨53, [r, m], none, 2, false⟩, some ⟨3, .n .i64, L, cap, false⟩ => match aslX (cell r), xiX (cell m), xiX (cell s), xiX (cell e), xiX (cell d) with
    | some ⟨0, o, n, c⟩, some (.i64, m), some (.i64, s), some (.i64, e), some (.i64, d) => some ((o, n, c), m, L, cap, s, e, d)
    | _, _, _, _, _ => none
  | _, _, _ => none
theorem ppC_eq {p r : Option Blk} {a : Option ABlk} {o n c : Nat} {m : Int} {L : List Int} {cap : Nat} {s e d : Int} (h : ppC p r a = some ((o, n, c), m, L, cap, s, e, d)) : p = ppB s e d ∧ r = rgB (aslC ⟨0, o, n, c⟩) m ∧ a = some (ib L cap false) := by
  unfold ppC at h
  split at h
  · split at h
    · rename_i h1 h2 h3 h4 h5
      obtain rfl := cell_inj (aslX_eq h1)
      obtain rfl := cell_inj (xiX_eq h2)
      obtain rfl := cell_inj (xiX_eq h3)
      obtain rfl := cell_inj (xiX_eq h4)
      obtain rfl := cell_inj (xiX_eq h5)
      simp only [Option.some.injEq, Prod.mk.injEq] at h
      obtain ⟨⟨rfl, rfl, rfl⟩, rfl, rfl, rfl, rfl, rfl, rfl⟩ := h
      exact ⟨rfl, rfl, rfl⟩
    · cases h
  · cases h
def pPNew : Pat := fun args σ => match args, σ with
  | [m], ⟨[], [], 0, [], 0⟩ => match intX m with
    | some (.i64, m) => some fun K => ∀ m' : Int, m' = min (max m 1) 4096 → K (ptr 0 0) (pp0 m')
    | _ => none
  | _, _ => none
theorem pPNew_ok : PatOk 7 pPNew := by
  intro tm σ C h K hK w0 e w hk vs hvs
  unfold pPNew at h
  split at h
  · split at h
    · rename_i m hm
      simp only [Option.some.injEq] at h; subst h
      obtain ⟨v, rfl, hv⟩ := ones hvs
      exact knownC noOv names (conOk_ofR tRg_ok) (ppNew_run K _ hK) w0 e w hk [v] (by rw [List.map_cons, List.map_nil, as_int hm hv]; rfl)
    · cases h
  · cases h
def pPTake : Pat := fun args σ => match args, σ with
  | [.inl (.inl (.inr (.inl (0, 0)))), i], ⟨[p, r], [], 0, [a], 0⟩ => match intX i, ppC p r a with
    | some (.i64, i), some ((o, n, c), m, L, cap, s, e, d) => some fun K => ∃ A, (U.Rg L o n c cap A ∧ U.sm e) ∧ (¬ (0 ≤ i ∧ i < n) → K (rgNo 0 false) (ppSt ⟨0, o, n, c⟩ m L cap s e d)) ∧ (0 ≤ i ∧ i < n → ∀ (z e' : Int) (L' : List Int) (o' n' c' : Nat), z = U.at A i → e' = e + 1 → U.Rg L' o' n' c' cap (U.er A i) → K (rgNo z true) (ppSt ⟨0, o', n', c'⟩ m L' cap s e' d))
    | _, _ => none
  | _, _ => none
theorem pPTake_ok : PatOk 16 pPTake := by
  intro tm σ C h K hK w0 e w hk vs hvs
  unfold pPTake at h
  split at h
  · split at h
    · rename_i hi hp
      obtain ⟨rfl, rfl, rfl⟩ := ppC_eq hp
      simp only [Option.some.injEq] at h; subst h
      obtain ⟨A, ⟨h1, h2⟩, h3, h4⟩ := hK
      obtain ⟨v, u, rfl, hv, hu⟩ := twos hvs
      exact knownC noOv names (conOk_ofR tRg_ok) (ppTake_run K _ _ _ _ _ _ _ _ _ _ A h1 h2 h3 h4) w0 e w hk [v, u] (by rw [List.map_cons, List.map_cons, List.map_nil]; rw [show Reck.av e (ptr 0 0) = some v from hv, as_int hi hu]; rfl)
    · cases h
  · cases h
def pPTwice : Pat := fun args σ => match args, σ with
  | [.inl (.inl (.inr (.inl (0, 0)))), i], ⟨[p, r], [], 0, [a], 0⟩ => match intX i, ppC p r a with
    | some (.i64, i), some ((o, n, c), m, L, cap, s, e, d) => some fun K => ∃ A, (U.Rg L o n c cap A ∧ U.sm d ∧ (0 ≤ m ∧ m ≤ 4096) ∧ (n : Int) ≤ m) ∧ (¬ (0 ≤ i ∧ i < n ∧ n < m) → K (lit (.bool false)) (ppSt ⟨0, o, n, c⟩ m L cap s e d)) ∧ (0 ≤ i ∧ i < n ∧ n < m → ∀ (d' : Int) (L' : List Int) (n' c' : Nat), d' = d + 1 → n' = n + 1 → U.Rg L' 0 n' c' c' (A ++ [U.at A i]) → K (lit (.bool true)) ⟨[ppB s e d', rgB (aslC ⟨1, 0, n', c'⟩) m], [], 0, [none, some (ib L' c' false)], 0⟩)
    | _, _ => none
  | _, _ => none
theorem pPTwice_ok : PatOk 18 pPTwice := by
  intro tm σ C h K hK w0 e w hk vs hvs
  unfold pPTwice at h
  split at h
  · split at h
    · rename_i hi hp
      obtain ⟨rfl, rfl, rfl⟩ := ppC_eq hp
      simp only [Option.some.injEq] at h; subst h
      obtain ⟨A, ⟨h1, h2, h3, h4⟩, h5, h6⟩ := hK
      obtain ⟨v, u, rfl, hv, hu⟩ := twos hvs
      exact knownC noOv names (conOk_ofR tRg_ok) (ppTwice_run K _ _ _ _ _ _ _ _ _ _ A h1 h2 h3 h4 h5 h6) w0 e w hk [v, u] (by rw [List.map_cons, List.map_cons, List.map_nil]; rw [show Reck.av e (ptr 0 0) = some v from hv, as_int hi hu]; rfl)
    · cases h
  · cases h
def pPAt : Pat := fun args σ => match args, σ with
  | [.inl (.inl (.inr (.inl (0, 0)))), i], ⟨[p, r], [], 0, [a], 0⟩ => match intX i, ppC p r a with
    | some (.i64, i), some ((o, n, c), m, L, cap, s, e, d) => some fun K => ∃ A, U.Rg L o n c cap A ∧ (¬ (0 ≤ i ∧ i < n) → K (rgNo 0 false) (ppSt ⟨0, o, n, c⟩ m L cap s e d)) ∧ (0 ≤ i ∧ i < n → ∀ z : Int, z = U.at A i → K (rgNo z true) (ppSt ⟨0, o, n, c⟩ m L cap s e d))
    | _, _ => none
  | _, _ => none
theorem pPAt_ok : PatOk 20 pPAt := by
  intro tm σ C h K hK w0 e w hk vs hvs
  unfold pPAt at h
  split at h
  · split at h
    · rename_i hi hp
      obtain ⟨rfl, rfl, rfl⟩ := ppC_eq hp
      simp only [Option.some.injEq] at h; subst h
      obtain ⟨A, h1, h3, h4⟩ := hK
      obtain ⟨v, u, rfl, hv, hu⟩ := twos hvs
      exact knownC noOv names (conOk_ofR tRg_ok) (ppAt_run K _ _ _ _ _ _ _ _ _ _ A h1 h3 h4) w0 e w hk [v, u] (by rw [List.map_cons, List.map_cons, List.map_nil]; rw [show Reck.av e (ptr 0 0) = some v from hv, as_int hi hu]; rfl)
    · cases h
  · cases h
def pPLen : Pat := fun args σ => match args, σ with
  | [.inl (.inl (.inr (.inl (0, 0))))], ⟨[p, r], [], 0, [a], 0⟩ => match ppC p r a with
    | some ((o, n, c), m, L, cap, s, e, d) => some fun K => ∀ z : Int, z = n → K (xi .i64 z) (ppSt ⟨0, o, n, c⟩ m L cap s e d)
    | _ => none
  | _, _ => none
theorem pPLen_ok : PatOk 11 pPLen := by
  intro tm σ C h K hK w0 e w hk vs hvs
  unfold pPLen at h
  split at h
  · split at h
    · rename_i hp
      obtain ⟨rfl, rfl, rfl⟩ := ppC_eq hp
      simp only [Option.some.injEq] at h; subst h
      exact knownC noOv names (conOk_ofR tRg_ok) (ppLen_run K _ _ _ _ _ _ _ _ _ hK) w0 e w hk vs hvs
    · cases h
  · cases h
def pPAll : Pat := fun args σ => match args, σ with
  | [.inl (.inl (.inr (.inl (0, 0))))], ⟨[p, r], [], 0, [a], 0⟩ => match ppC p r a with
    | some ((o, n, c), m, L, cap, s, e, d) => some fun K => ∃ A, U.Rg L o n c cap A ∧ ∀ (L' : List Int) (n' c' : Nat), n' = n → U.Rg L' 0 n' c' c' A → K (cell (aslC ⟨1, 0, n', c'⟩)) ⟨[ppB s e d, rgB (aslC ⟨0, o, n, c⟩) m], [], 0, [some (ib L cap false), some (ib L' c' false)], 0⟩
    | _ => none
  | _, _ => none
theorem pPAll_ok : PatOk 13 pPAll := by
  intro tm σ C h K hK w0 e w hk vs hvs
  unfold pPAll at h
  split at h
  · split at h
    · rename_i hp
      obtain ⟨rfl, rfl, rfl⟩ := ppC_eq hp
      simp only [Option.some.injEq] at h; subst h
      obtain ⟨A, h1, h2⟩ := hK
      exact knownC noOv names (conOk_ofR tRg_ok) (ppAll_run K _ _ _ _ _ _ _ _ _ A h1 h2) w0 e w hk vs hvs
    · cases h
  · cases h
def pPCounts : Pat := fun args σ => match args, σ with
  | [.inl (.inl (.inr (.inl (0, 0))))], ⟨[p, r], [], 0, [a], 0⟩ => match ppC p r a with
    | some ((o, n, c), m, L, cap, s, e, d) => some fun K => (U.sm s ∧ U.sm e ∧ U.sm d ∧ n ≤ 16777216) ∧ ∀ z : Int, z = s + d - e - n → K (.inr [.inl (xintC .i64 s), .inl (xintC .i64 e), .inl (xintC .i64 d), .inl (xintC .i64 z)]) (ppSt ⟨0, o, n, c⟩ m L cap s e d)
    | _ => none
  | _, _ => none
theorem pPCounts_ok : PatOk 10 pPCounts := by
  intro tm σ C h K hK w0 e w hk vs hvs
  unfold pPCounts at h
  split at h
  · split at h
    · rename_i hp
      obtain ⟨rfl, rfl, rfl⟩ := ppC_eq hp
      simp only [Option.some.injEq] at h; subst h
      obtain ⟨⟨h1, h2, h3, h4⟩, h5⟩ := hK
      exact knownC noOv names (conOk_ofR tRg_ok) (ppCounts_run K _ _ _ _ _ _ _ _ _ h1 h2 h3 h4 h5) w0 e w hk vs hvs
    · cases h
  · cases h
def pPSend : Pat := fun args σ => match args, σ with
  | [.inl (.inl (.inr (.inl (0, 0)))), l], ⟨[p, r], [], 0, [a, some ⟨3, .n .i64, M, dap, true⟩], 0⟩ => match aslX l, ppC p r a with
    | some ⟨1, u, q, b⟩, some ((o, n, c), m, L, cap, s, e, d) => some fun K => ∃ A B, (U.Rg L o n c cap A ∧ U.Rg M u q q (u + q) B ∧ U.sm s ∧ (0 ≤ m ∧ m ≤ 4096) ∧ (n : Int) ≤ m) ∧ ∀ (k s' : Int) (L' : List Int) (o' n' c' cap' : Nat), U.Sent A B m k → s' = s + q → (n' : Int) = n + k → U.Rg L' o' n' c' cap' (A ++ B.take k.toNat) → K (xi .i64 k) ⟨[ppB s' e d, rgB (aslC ⟨2, o', n', c'⟩) m], [], 0, [none, some (ia M dap), some (ib L' cap' false)], 0⟩
    | _, _ => none
  | _, _ => none
theorem pPSend_ok : PatOk 15 pPSend := by
  intro tm σ C h K hK w0 e w hk vs hvs
  unfold pPSend at h
  split at h
  · split at h
    · rename_i hl hp
      obtain rfl := aslX_eq hl
      obtain ⟨rfl, rfl, rfl⟩ := ppC_eq hp
      simp only [Option.some.injEq] at h; subst h
      obtain ⟨A, B, ⟨h1, h2, h3, h4, h5⟩, h6⟩ := hK
      exact knownC noOv names (conOk_ofR tRg_ok) (ppSend_run K _ _ _ _ _ _ _ _ _ _ _ _ _ _ A B h1 h2 h3 h4 h5 h6) w0 e w hk vs hvs
    · cases h
  · cases h
def tPp : Tbl := tblOr (tblIf 7 pPNew) (tblOr (tblIf 16 pPTake) (tblOr (tblIf 18 pPTwice) (tblOr (tblIf 20 pPAt) (tblOr (tblIf 11 pPLen) (tblOr (tblIf 13 pPAll) (tblOr (tblIf 10 pPCounts) (tblIf 15 pPSend)))))))
theorem tPp_ok : TblOk Try.prog tPp := tblOr_ok (tblIf_ok pPNew_ok) (tblOr_ok (tblIf_ok pPTake_ok) (tblOr_ok (tblIf_ok pPTwice_ok) (tblOr_ok (tblIf_ok pPAt_ok) (tblOr_ok (tblIf_ok pPLen_ok) (tblOr_ok (tblIf_ok pPAll_ok) (tblOr_ok (tblIf_ok pPCounts_ok) (tblIf_ok pPSend_ok)))))))
end Go.Proofs.Ytopceemfefhkmaa
end

section
set_option linter.unusedVariables false
set_option linter.unusedSimpArgs false
namespace Go.Proofs.Ytopceemfefhkmaa
open Go Reck Ost
def pPSend3 : Pat := fun args σ => match args, σ with
  | [.inl (.inl (.inr (.inl (0, 0)))), .inl (.inl (.inr (.inr (.inl ⟨2, 0, 3, none, 3⟩))))], ⟨[p, r, some ⟨3, [x, y, z], none, 3, false⟩], [], 0, [a], 0⟩ => match xiX (cell x), xiX (cell y), xiX (cell z), ppC p r a with
    | some (.i64, x), some (.i64, y), some (.i64, z), some ((o, n, c), m, L, cap, s, e, d) => some fun K => ∃ A, (U.Rg L o n c cap A ∧ U.sm s ∧ (0 ≤ m ∧ m ≤ 4096) ∧ (n : Int) + 2 = m) ∧ ∀ (s' : Int) (L' : List Int) (n' c' : Nat), s' = s + 3 → n' = n + 2 → U.Rg L' 0 n' c' c' (A ++ [x, y]) → K (xi .i64 2) ⟨[ppB s' e d, rgB (aslC ⟨1, 0, n', c'⟩) m, some ⟨3, [xintC .i64 x, xintC .i64 y, xintC .i64 z], none, 3, false⟩], [], 0, [none, some (ib L' c' false)], 0⟩
    | _, _, _, _ => none
  | _, _ => none
theorem pPSend3_ok : PatOk 15 pPSend3 := by
  intro tm σ C h K hK w0 e w hk vs hvs
  unfold pPSend3 at h
  split at h
  · split at h
    · rename_i hx hy hz hp
      obtain rfl := cell_inj (xiX_eq hx)
      obtain rfl := cell_inj (xiX_eq hy)
      obtain rfl := cell_inj (xiX_eq hz)
      obtain ⟨rfl, rfl, rfl⟩ := ppC_eq hp
      simp only [Option.some.injEq] at h; subst h
      obtain ⟨A, ⟨h1, h2, h3, h4⟩, h5⟩ := hK
      exact knownC noOv names (conOk_ofR tRg_ok) (ppSend3_run K _ _ _ _ _ _ _ _ _ _ _ _ A h1 h2 h3 h4 h5) w0 e w hk vs hvs
    · cases h
  · cases h
def pPLose1 : Pat := fun args σ => match args, σ with
  | [.inl (.inl (.inr (.inl (0, 0)))), .inl (.inl (.inr (.inr (.inl ⟨2, 0, 1, none, 1⟩))))], ⟨[p, r, some ⟨3, [i], none, 1, false⟩], [], 0, [a], 0⟩ => match xiX (cell i), ppC p r a with
    | some (.i64, i), some ((o, n, c), m, L, cap, s, e, d) => some fun K => ∃ A, U.Rg L o n c cap A ∧ ∀ (k : Int) (L' : List Int) (o' n' c' : Nat), k = U.lc A i → U.Rg L' o' n' c' cap (U.ls A i) → K (xi .i64 k) (pp2 ⟨0, o', n', c'⟩ m L' cap s e d [i])
    | _, _ => none
  | _, _ => none
theorem pPLose1_ok : PatOk 19 pPLose1 := by
  intro tm σ C h K hK w0 e w hk vs hvs
  unfold pPLose1 at h
  split at h
  · split at h
    · rename_i hi hp
      obtain rfl := cell_inj (xiX_eq hi)
      obtain ⟨rfl, rfl, rfl⟩ := ppC_eq hp
      simp only [Option.some.injEq] at h; subst h
      obtain ⟨A, h1, h2⟩ := hK
      exact knownC noOv names (conOk_ofR tRg_ok) (ppLose1_run K _ _ _ _ _ _ _ _ _ _ A h1 h2) w0 e w hk vs hvs
    · cases h
  · cases h
def pPLose2 : Pat := fun args σ => match args, σ with
  | [.inl (.inl (.inr (.inl (0, 0)))), .inl (.inl (.inr (.inr (.inl ⟨2, 0, 2, none, 2⟩))))], ⟨[p, r, some ⟨3, [i, j], none, 2, false⟩], [], 0, [a], 0⟩ => match xiX (cell i), xiX (cell j), ppC p r a with
    | some (.i64, i), some (.i64, j), some ((o, n, c), m, L, cap, s, e, d) => some fun K => ∃ A, U.Rg L o n c cap A ∧ ∀ (k : Int) (L' : List Int) (o' n' c' : Nat), k = U.lc A i + U.lc (U.ls A i) j → U.Rg L' o' n' c' cap (U.ls (U.ls A i) j) → K (xi .i64 k) (pp2 ⟨0, o', n', c'⟩ m L' cap s e d [i, j])
    | _, _, _ => none
  | _, _ => none
theorem pPLose2_ok : PatOk 19 pPLose2 := by
  intro tm σ C h K hK w0 e w hk vs hvs
  unfold pPLose2 at h
  split at h
  · split at h
    · rename_i hi hj hp
      obtain rfl := cell_inj (xiX_eq hi)
      obtain rfl := cell_inj (xiX_eq hj)
      obtain ⟨rfl, rfl, rfl⟩ := ppC_eq hp
      simp only [Option.some.injEq] at h; subst h
      obtain ⟨A, h1, h2⟩ := hK
      exact knownC noOv names (conOk_ofR tRg_ok) (ppLose2_run K _ _ _ _ _ _ _ _ _ _ _ A h1 h2) w0 e w hk vs hvs
    · cases h
  · cases h
def tPp2 : Tbl := tblOr tPp (tblOr (tblIf 15 pPSend3) (tblOr (tblIf 19 pPLose1) (tblIf 19 pPLose2)))
theorem tPp2_ok : TblOk Try.prog tPp2 := tblOr_ok tPp_ok (tblOr_ok (tblIf_ok pPSend3_ok) (tblOr_ok (tblIf_ok pPLose1_ok) (tblIf_ok pPLose2_ok)))
end Go.Proofs.Ytopceemfefhkmaa
end
