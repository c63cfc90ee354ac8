/- Parts of a proof, one behind the other: UL9 ULA ULB. No condition. -/
import Derived.Test.YthafgapnnmkmhaaGreatDoorGD
section
namespace Go.Proofs.YthafgapnnmkmhaaGreatDoor
open Go Reck Ost
set_option linter.unusedVariables false
set_option maxRecDepth 100000
structure U.ulIn (G : Rws) (q : Nat) (k : Int) : Prop where
  out : ∃ m : Nat, m < q ∧ U.fi G m 0 = k
noncomputable def U.ulKp (G : Rws) (q : Nat) (L : Rws) (i : Nat) : List Nat := (List.range i).filter fun m => @decide (¬ U.ulIn G q (U.fi L m 0)) (Classical.propDecidable _)
structure U.ulswI (G : Rws) (q : Nat) (L M : Rws) (n : Nat) (i j : Int) (L' M' : Rws) : Prop where
  b : 0 ≤ i ∧ i ≤ n ∧ 0 ≤ j ∧ j ≤ i
  ln : L'.length = L.length ∧ M'.length = M.length
  jq : j = (U.ulKp G q L i.toNat).length
  kk : L'.take j.toNat = (U.ulKp G q L i.toNat).map fun m => L.getD m []
  vv : M'.take j.toNat = (U.ulKp G q L i.toNat).map fun m => M.getD m []
  rl : ∀ m : Nat, i ≤ m → L'[m]? = L[m]?
  rm : ∀ m : Nat, i ≤ m → M'[m]? = M[m]?
  tk : ∀ m : Nat, m < n → ∃ k : Int, L'[m]? = some [.i k]
  tv : ∀ m : Nat, m < n → ∃ v : ULv, M'[m]? = some v.row
def ulshArr (σ : St) (s i : Nat) : RSl := match getBlk σ s with
  | some x => (match cRsl (x.cells.getD i (.inl undef)) with
    | some r => r
    | none => ⟨0, 0, 0, 0, 0⟩)
  | none => ⟨0, 0, 0, 0, 0⟩
def ulcapAt (σ : St) (a : Nat) : Nat := match getArr σ a with
  | some b => b.cap
  | none => 0
def ulswInv (tm : List AV) (σ : St) : Inv where
  X := Int × (Int × (Rws × Rws))
  tags := [0]
  tag _ _ := 0
  J := [2,3,5,6,7,8,9,10,11,15,16,17,18,19,20,21,22,23,24,25,26,27,28,29,30,31,32,33,34,35,36,37,38,39,40,41,42,43,44,45,46,47,48,49,50,51,52,53,54,55,56,57,58,59,60,61,62,63,64,65,66,67,68,69,70,71,72,73,74,75,76,77,78,79]
  val _ x := [(4, xi .i64 x.2.1), (14, xi .i64 x.1)]
  st _ x σ' := ⟨σ'.heap, σ'.ints, σ'.opqs, (σ'.arrs.set (ulshArr σ 0 0).a (some (ulkB x.2.2.1 (ulcapAt σ (ulshArr σ 0 0).a)))).set (ulshArr σ 0 1).a (some (ulvB x.2.2.2 (ulcapAt σ (ulshArr σ 0 1).a))), σ'.junks⟩
  I _ x := U.ulswI (rowsAt σ (slotR tm 1).a) (slotR tm 1).n (rowsAt σ (ulshArr σ 0 0).a) (rowsAt σ (ulshArr σ 0 1).a) (slotR tm 12).n x.1 x.2.1 x.2.2.1 x.2.2.2
  m _ x := ((slotR tm 12).n : Int).toNat - x.1.toNat
  ren := noRen
def ulinvSw : InvF := fun c tm σ => match tm.length, firstReg c with
  | 80, some 2 => some (ulswInv tm σ)
  | _, _ => none
def ulswSt (n c : Nat) (L : Rws) (d : Nat) (M : Rws) (m : Int) (G : Rws) (cg : Nat) : St := ⟨[ulB (rslC ⟨0, 1, 0, n, c⟩) (rslC ⟨1, 2, 0, n, d⟩) m], [], 0, [some (ulkB L c), some (ulvB M d), some (ulkB G cg)], 0⟩
end Go.Proofs.YthafgapnnmkmhaaGreatDoor
end
section
set_option linter.unusedVariables false
set_option linter.unusedSimpArgs false
set_option maxRecDepth 10000
namespace Go.Proofs.YthafgapnnmkmhaaGreatDoor
open Go Reck Ost
noncomputable def ulKeep (G : Rws) (q : Nat) (p : Int × ULv) : Bool := @decide (¬ U.ulIn G q p.1) (Classical.propDecidable _)
structure U.ulSwp (P : ULP) (G : Rws) (q : Nat) (P' : ULP) : Prop where
  out : P' = P.filter (ulKeep G q)
end Go.Proofs.YthafgapnnmkmhaaGreatDoor
end
section
set_option linter.unusedVariables false
set_option linter.unusedSimpArgs false
set_option maxRecDepth 10000
namespace Go.Proofs.YthafgapnnmkmhaaGreatDoor
open Go Reck Ost
def ulpSweep : Pat := fun args σ => match args, σ with
  | [.inl (.inl (.inr (.inl (0, 0)))), l], ⟨[p], [], 0, [a1, a2, some ⟨49, .o (.rows [.n .u64] G), [], cg, false⟩], 0⟩ => match rslX l, ulshC p a1 a2 with
    | some ⟨2, 1, 0, q, cl⟩, some (n, c, L, d, M, m) => some fun K => ∃ P, (cl = cg ∧ ulshD p a1 a2 ∧ U.ulshI n c L d M P ∧ n ≤ 100000 ∧ q ≤ G.length ∧ q ≤ 1000000 ∧ U.ulSrtR G q) ∧ ∀ (n' : Nat) (L' M' : Rws) (P' : ULP), n' = U.ullen P' → U.ulSwp P G q P' → U.ulshI n' c L' d M' P' → K (.inr []) (ulswSt n' c L' d M' m G cg)
    | _, _ => none
  | _, _ => none
def ultD : Tbl := tblOr (tblIf 81 ulpSweep) ultS
structure U.uldpI (P : ULP) (f : Int × ULv → Bool) (i : Int) (G : Rws) (q cg : Nat) (O : Rws) (r co : Nat) : Prop where
  out : (0 ≤ i ∧ i ≤ P.length) ∧ G = U.ulks ((P.take i.toNat).filter f) ∧ O = U.ulvs ((P.take i.toNat).filter f) ∧ q = G.length ∧ q ≤ cg ∧ r = O.length ∧ r ≤ co ∧ (q : Int) ≤ i ∧ r = q
theorem ulone {P : ULP} (hs : U.ulSrt P) {k : Int} {e e' : ULv} (h : (k, e) ∈ P) (h' : (k, e') ∈ P) : e = e' := by
  obtain ⟨i, hi⟩ := List.getElem?_of_mem h
  obtain ⟨j, hj⟩ := List.getElem?_of_mem h'
  obtain ⟨li, hi⟩ := List.getElem?_eq_some_iff.1 hi
  obtain ⟨lj, hj⟩ := List.getElem?_eq_some_iff.1 hj
  have hp := List.pairwise_iff_getElem.1 hs.out
  rcases Nat.lt_trichotomy i j with g | g | g
  · have := hp i j li lj g
    rw [hi, hj] at this; exact (ulirr this).elim
  · subst g
    rw [hi] at hj
    exact (Prod.mk.injEq _ _ _ _ ▸ hj).2
  · have := hp j i lj li g
    rw [hi, hj] at this; exact (ulirr this).elim
end Go.Proofs.YthafgapnnmkmhaaGreatDoor
end
