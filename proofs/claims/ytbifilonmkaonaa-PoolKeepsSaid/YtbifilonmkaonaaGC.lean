/- Parts of a proof, one behind the other: QL9 QLA QLB. No condition. -/
import Derived.Test.YtbifilonmkaonaaGB
section
namespace Go.Proofs.Ytbifilonmkaonaa
open Go Reck Ost
set_option linter.unusedVariables false
set_option maxRecDepth 100000
structure U.qlIn (G : Rws) (q : Nat) (k : Int) : Prop where
  out : ∃ m : Nat, m < q ∧ U.fi G m 0 = k
/-- The places that stay, of the first ones. -/
noncomputable def U.qlKp (G : Rws) (q : Nat) (L : Rws) (i : Nat) : List Nat := (List.range i).filter fun m => @decide (¬ U.qlIn G q (U.fi L m 0)) (Classical.propDecidable _)
structure U.qlswI (G : Rws) (q : Nat) (L M : Rws) (n : Nat) (i j : Int) (L' M' : Rws) : Prop where
  b : 0 ≤ i ∧ i ≤ n ∧ 0 ≤ j ∧ j ≤ i
  ln : L'.length = L.length ∧ M'.length = M.length
  jq : j = (U.qlKp G q L i.toNat).length
  kk : L'.take j.toNat = (U.qlKp G q L i.toNat).map fun m => L.getD m []
  vv : M'.take j.toNat = (U.qlKp G q L i.toNat).map fun m => M.getD m []
  rl : ∀ m : Nat, i ≤ m → L'[m]? = L[m]?
  rm : ∀ m : Nat, i ≤ m → M'[m]? = M[m]?
  tk : ∀ m : Nat, m < n → ∃ k : Int, L'[m]? = some [.i k]
  tv : ∀ m : Nat, m < n → ∃ v : QLv, M'[m]? = some v.row
def qlshArr (σ : St) (s i : Nat) : RSl := match getBlk σ s with
  | some x => (match cRsl (x.cells.getD i (.inl undef)) with
    | some r => r
    | none => ⟨0, 0, 0, 0, 0⟩)
  | none => ⟨0, 0, 0, 0, 0⟩
def qlcapAt (σ : St) (a : Nat) : Nat := match getArr σ a with
  | some b => b.cap
  | none => 0
def qlswInv (tm : List AV) (σ : St) : Inv where
  X := Int × (Int × (Rws × Rws))
  tags := [0]
  tag _ _ := 0
  J := [2, 3, 5, 6, 7, 8, 9, 10, 11, 15, 16, 17, 18, 19, 20, 21, 22, 23, 24, 25, 26, 27, 28, 29, 30, 31, 32, 33, 34, 35, 36, 37, 38, 39, 40, 41, 42, 43, 44, 45, 46, 47, 48, 49, 50, 51, 52, 53, 54, 55, 56, 57, 58, 59, 60, 61, 62, 63, 64, 65, 66, 67, 68, 69, 70, 71, 72, 73, 74, 75, 76, 77, 78, 79]
  val _ x := [(4, xi .i64 x.2.1), (14, xi .i64 x.1)]
  st _ x σ' := ⟨σ'.heap, σ'.ints, σ'.opqs, (σ'.arrs.set (qlshArr σ 0 0).a (some (qlkB x.2.2.1 (qlcapAt σ (qlshArr σ 0 0).a)))).set (qlshArr σ 0 1).a (some (qlvB x.2.2.2 (qlcapAt σ (qlshArr σ 0 1).a))), σ'.junks⟩
  I _ x := U.qlswI (rowsAt σ (slotR tm 1).a) (slotR tm 1).n (rowsAt σ (qlshArr σ 0 0).a) (rowsAt σ (qlshArr σ 0 1).a) (slotR tm 12).n x.1 x.2.1 x.2.2.1 x.2.2.2
  m _ x := ((slotR tm 12).n : Int).toNat - x.1.toNat
  ren := noRen
def qlinvSw : InvF := fun c tm σ => match tm.length, firstReg c with
  | 80, some 2 => some (qlswInv tm σ)
  | _, _ => none
def qlswSt (n c : Nat) (L : Rws) (d : Nat) (M : Rws) (m : Int) (G : Rws) (cg : Nat) : St := ⟨[qlB (rslC ⟨0, 1, 0, n, c⟩) (rslC ⟨1, 3, 0, n, d⟩) m], [], 0, [some (qlkB L c), some (qlvB M d), some (qlkB G cg)], 0⟩
--PLAIN
theorem qlsweep_vc (K : AV → St → Prop) (L M G : Rws) (n c d q cg : Nat) (m : Int) : (runW qlov qlinvSw (tblIf 46 qlpBS) 45 [ptr 0 0, cell (rslC ⟨2, 1, 0, q, cg⟩)] (qlswSt n c L d M m G cg) K) = (∀ (z0 : Int), z0 = (↑n : Int) → (∃ (y1 : Int × Int × Rws × Rws), ((0 : Nat) = (0 : Nat) ∧ q = q ∧ cg = cg) ∧ (0 : Int) = Prod.fst (Prod.snd y1) ∧ ((0 : Nat) = (0 : Nat) ∧ n = n ∧ c = c) ∧ z0 = z0 ∧ (0 : Int) = Prod.fst y1 ∧ ((0 : Nat) = (0 : Nat) ∧ n = n ∧ c = c) ∧ ((0 : Nat) = (0 : Nat) ∧ n = n ∧ d = d) ∧ m = m ∧ (L = Prod.fst (Prod.snd (Prod.snd y1)) ∧ c = c ∧ false = false) ∧ (M = Prod.snd (Prod.snd (Prod.snd y1)) ∧ d = d ∧ false = false) ∧ (G = G ∧ cg = cg ∧ false = false) ∧ U.qlswI G q L M n (Prod.fst y1) (Prod.fst (Prod.snd y1)) (Prod.fst (Prod.snd (Prod.snd y1))) (Prod.snd (Prod.snd (Prod.snd y1)))) ∧ ∀ (x2 : Int × Int × Rws × Rws), U.qlswI G q L M n (Prod.fst x2) (Prod.fst (Prod.snd x2)) (Prod.fst (Prod.snd (Prod.snd x2))) (Prod.snd (Prod.snd (Prod.snd x2))) → (Prod.fst x2 < z0 → ((0 : Int) ≤ Prod.fst x2 ∧ Prod.fst x2 < (↑n : Int)) ∧ ∀ (j3 : Nat), (↑j3 : Int) = (↑((0 : Nat)) : Int) + Prod.fst x2 → j3 < List.length (Prod.fst (Prod.snd (Prod.snd x2))) ∧ ∀ (z4 : Int), z4 = U.fi (Prod.fst (Prod.snd (Prod.snd x2))) j3 ((0 : Nat)) → (cg = cg ∧ q ≤ List.length G ∧ q ≤ (1000000 : Nat) ∧ U.qlSrtR G q) ∧ ∀ (z5 : Int), U.qlAt G q z4 z5 → (U.qlHasAt G q z4 z5 → ∀ (z6 : Int), z6 = IntKind.wrap IntKind.i64 (Prod.fst x2 + (1 : Int)) → ∃ (y7 : Int × Int × Rws × Rws), ((0 : Nat) = (0 : Nat) ∧ q = q ∧ cg = cg) ∧ Prod.fst (Prod.snd x2) = Prod.fst (Prod.snd y7) ∧ ((0 : Nat) = (0 : Nat) ∧ n = n ∧ c = c) ∧ z0 = z0 ∧ z6 = Prod.fst y7 ∧ ((0 : Nat) = (0 : Nat) ∧ n = n ∧ c = c) ∧ ((0 : Nat) = (0 : Nat) ∧ n = n ∧ d = d) ∧ m = m ∧ (Prod.fst (Prod.snd (Prod.snd x2)) = Prod.fst (Prod.snd (Prod.snd y7)) ∧ c = c ∧ false = false) ∧ (Prod.snd (Prod.snd (Prod.snd x2)) = Prod.snd (Prod.snd (Prod.snd y7)) ∧ d = d ∧ false = false) ∧ (G = G ∧ cg = cg ∧ false = false) ∧ U.qlswI G q L M n (Prod.fst y7) (Prod.fst (Prod.snd y7)) (Prod.fst (Prod.snd (Prod.snd y7))) (Prod.snd (Prod.snd (Prod.snd y7))) ∧ Int.toNat (↑n : Int) - Int.toNat (Prod.fst y7) < Int.toNat (↑n : Int) - Int.toNat (Prod.fst x2)) ∧ (¬U.qlHasAt G q z4 z5 → ((0 : Int) ≤ Prod.fst x2 ∧ Prod.fst x2 < (↑n : Int)) ∧ ∀ (j8 : Nat), (↑j8 : Int) = (↑((0 : Nat)) : Int) + Prod.fst x2 → j8 < List.length (Prod.snd (Prod.snd (Prod.snd x2))) ∧ ∀ (z9 : Int), z9 = U.fi (Prod.snd (Prod.snd (Prod.snd x2))) j8 ((0 : Nat)) → ∀ (z10 : Int), z10 = U.fi (Prod.snd (Prod.snd (Prod.snd x2))) j8 ((0 : Nat) + (1 : Nat)) → ∀ (z11 : Int), z11 = U.fi (Prod.snd (Prod.snd (Prod.snd x2))) j8 ((0 : Nat) + (1 : Nat) + (1 : Nat)) → ((0 : Int) ≤ Prod.fst (Prod.snd x2) ∧ Prod.fst (Prod.snd x2) < (↑n : Int)) ∧ ∀ (j12 : Nat), (↑j12 : Int) = (↑((0 : Nat)) : Int) + Prod.fst (Prod.snd x2) → j12 < List.length (Prod.fst (Prod.snd (Prod.snd x2))) ∧ ∀ (L'13 : List (List CV)), L'13 = U.put (Prod.fst (Prod.snd (Prod.snd x2))) j12 ((0 : Nat)) [CV.i z4] → ((0 : Int) ≤ Prod.fst (Prod.snd x2) ∧ Prod.fst (Prod.snd x2) < (↑n : Int)) ∧ ∀ (j14 : Nat), (↑j14 : Int) = (↑((0 : Nat)) : Int) + Prod.fst (Prod.snd x2) → j14 < List.length (Prod.snd (Prod.snd (Prod.snd x2))) ∧ ∀ (L'15 : List (List CV)), L'15 = U.put (Prod.snd (Prod.snd (Prod.snd x2))) j14 ((0 : Nat)) [CV.i z9, CV.i z10, CV.i z11] → ∀ (z16 : Int), z16 = IntKind.wrap IntKind.i64 (Prod.fst (Prod.snd x2) + (1 : Int)) → ∀ (z17 : Int), z17 = IntKind.wrap IntKind.i64 (Prod.fst x2 + (1 : Int)) → ∃ (y18 : Int × Int × Rws × Rws), ((0 : Nat) = (0 : Nat) ∧ q = q ∧ cg = cg) ∧ z16 = Prod.fst (Prod.snd y18) ∧ ((0 : Nat) = (0 : Nat) ∧ n = n ∧ c = c) ∧ z0 = z0 ∧ z17 = Prod.fst y18 ∧ ((0 : Nat) = (0 : Nat) ∧ n = n ∧ c = c) ∧ ((0 : Nat) = (0 : Nat) ∧ n = n ∧ d = d) ∧ m = m ∧ (L'13 = Prod.fst (Prod.snd (Prod.snd y18)) ∧ c = c ∧ false = false) ∧ (L'15 = Prod.snd (Prod.snd (Prod.snd y18)) ∧ d = d ∧ false = false) ∧ (G = G ∧ cg = cg ∧ false = false) ∧ U.qlswI G q L M n (Prod.fst y18) (Prod.fst (Prod.snd y18)) (Prod.fst (Prod.snd (Prod.snd y18))) (Prod.snd (Prod.snd (Prod.snd y18))) ∧ Int.toNat (↑n : Int) - Int.toNat (Prod.fst y18) < Int.toNat (↑n : Int) - Int.toNat (Prod.fst x2))) ∧ (¬Prod.fst x2 < z0 → ((0 : Int) ≤ Prod.fst (Prod.snd x2) ∧ Prod.fst (Prod.snd x2) ≤ (↑n : Int) ∧ (↑n : Int) ≤ (↑c : Int)) ∧ ∀ (o19 n20 c21 : Nat), ((↑o19 : Int) = if (↑c : Int) = Option.getD (some (Prod.fst (Prod.snd x2))) (0 : Int) then (↑((0 : Nat)) : Int) else (↑((0 : Nat)) : Int) + Prod.fst (Prod.snd x2)) → (↑n20 : Int) = (↑n : Int) - Prod.fst (Prod.snd x2) → (↑c21 : Int) = (↑c : Int) - Prod.fst (Prod.snd x2) → o19 + n20 ≤ List.length (Prod.fst (Prod.snd (Prod.snd x2))) ∧ ∀ (L'22 : List (List CV)), L'22 = List.take o19 (Prod.fst (Prod.snd (Prod.snd x2))) ++ List.replicate n20 [CV.i (0 : Int)] ++ List.drop (o19 + n20) (Prod.fst (Prod.snd (Prod.snd x2))) → ((0 : Int) ≤ Prod.fst (Prod.snd x2) ∧ Prod.fst (Prod.snd x2) ≤ (↑n : Int) ∧ (↑n : Int) ≤ (↑d : Int)) ∧ ∀ (o23 n24 c25 : Nat), ((↑o23 : Int) = if (↑d : Int) = Option.getD (some (Prod.fst (Prod.snd x2))) (0 : Int) then (↑((0 : Nat)) : Int) else (↑((0 : Nat)) : Int) + Prod.fst (Prod.snd x2)) → (↑n24 : Int) = (↑n : Int) - Prod.fst (Prod.snd x2) → (↑c25 : Int) = (↑d : Int) - Prod.fst (Prod.snd x2) → o23 + n24 ≤ List.length (Prod.snd (Prod.snd (Prod.snd x2))) ∧ ∀ (L'26 : List (List CV)), L'26 = List.take o23 (Prod.snd (Prod.snd (Prod.snd x2))) ++ List.replicate n24 [CV.i (0 : Int), CV.i (0 : Int), CV.i (0 : Int)] ++ List.drop (o23 + n24) (Prod.snd (Prod.snd (Prod.snd x2))) → ((0 : Int) ≤ (0 : Int) ∧ (0 : Int) ≤ Prod.fst (Prod.snd x2) ∧ Prod.fst (Prod.snd x2) ≤ (↑c : Int)) ∧ ∀ (o27 n28 c29 : Nat), ((↑o27 : Int) = if (↑c : Int) = Option.getD none (0 : Int) then (↑((0 : Nat)) : Int) else (0 : Int)) → (↑n28 : Int) = Prod.fst (Prod.snd x2) - (0 : Int) → (↑c29 : Int) = (↑c : Int) - (0 : Int) → ((0 : Int) ≤ (0 : Int) ∧ (0 : Int) ≤ Prod.fst (Prod.snd x2) ∧ Prod.fst (Prod.snd x2) ≤ (↑d : Int)) ∧ ∀ (o30 n31 c32 : Nat), ((↑o30 : Int) = if (↑d : Int) = Option.getD none (0 : Int) then (↑((0 : Nat)) : Int) else (0 : Int)) → (↑n31 : Int) = Prod.fst (Prod.snd x2) - (0 : Int) → (↑c32 : Int) = (↑d : Int) - (0 : Int) → K (Sum.inr []) { heap := [some { elem := nat_lit 82, cells := [Sum.inr (Sum.inr (Sum.inr (Sum.inr (Sum.inr (Sum.inr (Sum.inr (Sum.inr (Sum.inr (Sum.inr (Sum.inr (Sum.inl { a := (0 : Nat), u := (1 : Nat), o := o27, n := n28, c := c29 }))))))))))), Sum.inr (Sum.inr (Sum.inr (Sum.inr (Sum.inr (Sum.inr (Sum.inr (Sum.inr (Sum.inr (Sum.inr (Sum.inr (Sum.inl { a := (1 : Nat), u := (3 : Nat), o := o30, n := n31, c := c32 }))))))))))), Sum.inr (Sum.inr (Sum.inr (Sum.inr (Sum.inr (Sum.inr (Sum.inl (IntKind.i64, m)))))))], j := none, c := (3 : Nat), z := false }], ints := [], opqs := (0 : Nat), arrs := [some { elem := nat_lit 28, k := AK.o (Obj.rows [CK.n IntKind.u32] L'22), l := [], cap := c, ro := false }, some { elem := nat_lit 41, k := AK.o (Obj.rows [CK.n IntKind.u64, CK.n IntKind.u32, CK.n IntKind.i64] L'26), l := [], cap := d, ro := false }, some { elem := (28 : Nat), k := AK.o (Obj.rows [CK.n IntKind.u32] G), l := [], cap := cg, ro := false }], junks := (0 : Nat) })) := by kernel_rfl
end Go.Proofs.Ytbifilonmkaonaa
end

section
set_option linter.unusedVariables false
set_option linter.unusedSimpArgs false
set_option maxRecDepth 10000
namespace Go.Proofs.Ytbifilonmkaonaa
open Go Reck Ost
noncomputable def qlKeep (G : Rws) (q : Nat) (p : Int × QLv) : Bool := @decide (¬ U.qlIn G q p.1) (Classical.propDecidable _)
theorem qlkp_succ (G : Rws) (q : Nat) (L : Rws) (i : Nat) : (¬ U.qlIn G q (U.fi L i 0) → U.qlKp G q L (i + 1) = U.qlKp G q L i ++ [i]) ∧ (U.qlIn G q (U.fi L i 0) → U.qlKp G q L (i + 1) = U.qlKp G q L i) := by
  unfold U.qlKp
  rw [List.range_succ, List.filter_append]
  refine ⟨fun h => ?_, fun h => ?_⟩
  · rw [List.filter_cons_of_pos (by simp [h])]; rfl
  · rw [List.filter_cons_of_neg (by simp [h])]; simp
theorem qlkp_le (G : Rws) (q : Nat) (L : Rws) (i : Nat) : (U.qlKp G q L i).length ≤ i := by
  unfold U.qlKp
  exact Nat.le_trans (List.length_filter_le _ _) (by rw [List.length_range]; exact Nat.le_refl _)
theorem qlrow_key {n c d : Nat} {L M : Rws} {P : QLP} (h : U.qlshI n c L d M P) {m : Nat} {p : Int × QLv} (hp : P[m]? = some p) : L[m]? = some [.i p.1] ∧ M[m]? = some p.2.row ∧ U.fi L m 0 = p.1 := by
  have hm : m < n := by rw [← qlshI_n h]; exact (List.getElem?_eq_some_iff.1 hp).1
  have h1 := fuGet h.kf hm
  have h2 := fuGet h.vf hm
  refine ⟨?_, ?_, qlkey_at h hp⟩
  · rw [h1]; simp [U.qlks, hp]
  · rw [h2]; simp [U.qlvs, hp]
theorem qlkp_map {n c d : Nat} {L M : Rws} {P : QLP} (h : U.qlshI n c L d M P) (G : Rws) (q : Nat) : ∀ i : Nat, i ≤ n → (U.qlKp G q L i).map (fun m => L.getD m []) = U.qlks ((P.take i).filter (qlKeep G q)) ∧ (U.qlKp G q L i).map (fun m => M.getD m []) = U.qlvs ((P.take i).filter (qlKeep G q))
  | 0, _ => ⟨rfl, rfl⟩
  | i + 1, hi => by
    have hn := qlshI_n h
    obtain ⟨h1, h2⟩ := qlkp_map h G q i (by omega)
    have hp := List.getElem?_eq_getElem (show i < P.length by omega)
    obtain ⟨r1, r2, r3⟩ := qlrow_key h hp
    have hk := qlkp_succ G q L i
    have ht : P.take (i + 1) = P.take i ++ [P[i]] := by rw [List.take_add_one, hp]; rfl
    rw [ht, List.filter_append]
    by_cases hin : U.qlIn G q (U.fi L i 0)
    · have hf : qlKeep G q P[i] = false := by unfold qlKeep; rw [← r3]; simp [hin]
      rw [hk.2 hin, List.filter_cons_of_neg (by rw [hf]; decide)]
      simp only [List.filter_nil, List.append_nil]
      exact ⟨h1, h2⟩
    · have hf : qlKeep G q P[i] = true := by unfold qlKeep; rw [← r3]; simp [hin]
      rw [hk.1 hin, List.filter_cons_of_pos hf, List.map_append, List.map_append, h1, h2]
      unfold U.qlks U.qlvs
      rw [List.map_append, List.map_append]
      simp only [List.map_cons, List.map_nil, List.filter_nil, List.getD_eq_getElem?_getD, r1, r2, Option.getD_some]
      exact ⟨trivial, trivial⟩
theorem qlin_iff {G : Rws} {q : Nat} {k : Int} {z : Int} (hs : U.qlSrtR G q) (ha : U.qlAt G q k z) : U.qlHasAt G q k z ↔ U.qlIn G q k := by
  have hb := ha.b
  constructor
  · rintro ⟨h1, h2⟩
    exact ⟨z.toNat, by omega, h2⟩
  · rintro ⟨m, hm, hk⟩
    have h1 : ¬ (m : Int) < z := fun h => by
      have := ha.lo m h
      rw [hk] at this; exact qlirr this
    have h2 : ¬ z < m := fun h => by
      have a := ha.hi z.toNat (by omega) (by omega)
      have b := hs.out z.toNat m (by omega) hm
      rw [hk] at b; exact a b
    exact ⟨by omega, by rw [show z.toNat = m by omega]; exact hk⟩
theorem qlset_put {L : Rws} {j : Nat} {a v : CV} (h : L[j]? = some [a]) : U.put L j 0 [v] = L.set j [v] := by
  unfold U.put
  rw [List.getD_eq_getElem?_getD, h]; rfl
theorem qlset_putV {L : Rws} {j : Nat} {a v : QLv} (h : L[j]? = some a.row) : U.put L j 0 v.row = L.set j v.row := by
  unfold U.put
  rw [List.getD_eq_getElem?_getD, h]; rfl
theorem qltake_set {α : Type} (X : List α) (j : Nat) (v : α) (h : j < X.length) : (X.set j v).take (j + 1) = X.take j ++ [v] := by
  rw [List.take_add_one, List.getElem?_set_self h, List.take_set_of_le (Nat.le_refl _)]; rfl
theorem qlsw_no {G L M L' M' : Rws} {q n : Nat} {i j z : Int} (h : U.qlswI G q L M n i j L' M') (hi : i < n) (hz : z = i + 1) (hin : U.qlIn G q (U.fi L i.toNat 0)) : U.qlswI G q L M n z j L' M' := by
  obtain ⟨h1, h2, h3, h4, h5, h6, h7, h8, h9⟩ := h
  have e : z.toNat = i.toNat + 1 := by omega
  have hk := (qlkp_succ G q L i.toNat).2 hin
  refine ⟨by omega, h2, by rw [e, hk]; exact h3, by rw [e, hk]; exact h4, by rw [e, hk]; exact h5, fun m hm => h6 m (by omega), fun m hm => h7 m (by omega), h8, h9⟩
theorem qlsw_yes {G L M L' M' L2 M2 : Rws} {q n : Nat} {i j z y : Int} {k : Int} {v : QLv} (h : U.qlswI G q L M n i j L' M') (hi : i < n) (hz : z = i + 1) (hy : y = j + 1) (hin : ¬ U.qlIn G q (U.fi L i.toNat 0)) (hl : n ≤ L.length ∧ n ≤ M.length)
    (hk : L[i.toNat]? = some [.i k]) (hv : M[i.toNat]? = some v.row) (h2 : L2 = U.put L' j.toNat 0 [.i k]) (h3 : M2 = U.put M' j.toNat 0 v.row) : U.qlswI G q L M n z y L2 M2 := by
  obtain ⟨g1, g2, g3, g4, g5, g6, g7, g8, g9⟩ := h
  have e : z.toNat = i.toNat + 1 := by omega
  have e2 : y.toNat = j.toNat + 1 := by omega
  have hk' := (qlkp_succ G q L i.toNat).1 hin
  obtain ⟨a, ha⟩ := g8 j.toNat (by omega)
  obtain ⟨b, hb⟩ := g9 j.toNat (by omega)
  rw [qlset_put ha] at h2
  rw [qlset_putV hb] at h3
  have hjl := (List.getElem?_eq_some_iff.1 ha).1
  have hjm := (List.getElem?_eq_some_iff.1 hb).1
  refine ⟨by omega, by rw [h2, h3, List.length_set, List.length_set]; exact g2, ?_, ?_, ?_, fun m hm => ?_, fun m hm => ?_, fun m hm => ?_, fun m hm => ?_⟩
  · rw [e, hk', List.length_append]; simp; omega
  · rw [e, hk', e2, h2, qltake_set _ _ _ hjl, g4, List.map_append]
    simp only [List.map_cons, List.map_nil, List.getD_eq_getElem?_getD, hk, Option.getD_some]
  · rw [e, hk', e2, h3, qltake_set _ _ _ hjm, g5, List.map_append]
    simp only [List.map_cons, List.map_nil, List.getD_eq_getElem?_getD, hv, Option.getD_some]
  · rw [h2, List.getElem?_set_ne (by omega)]; exact g6 m (by omega)
  · rw [h3, List.getElem?_set_ne (by omega)]; exact g7 m (by omega)
  · rw [h2, List.getElem?_set]
    split
    · exact ⟨k, rfl⟩
    · exact g8 m hm
  · rw [h3, List.getElem?_set]
    split
    · exact ⟨v, rfl⟩
    · exact g9 m hm
theorem qlclr_fu {L' L2 A : Rws} {n c j o r : Nat} {z : List CV} (hl : L'.length = c) (hn : n ≤ c) (hj : j ≤ n) (hs : n ≤ 1000000) (hA : A = L'.take j) (ho : o = j ∨ n - j = 0) (hr : r = n - j) (h2 : L2 = L'.take o ++ List.replicate r z ++ L'.drop (o + r)) (hoc : o + r ≤ L'.length) : U.Fu L2 j c A := by
  have hll : L2.length = c := by
    rw [h2, List.length_append, List.length_append, List.length_take, List.length_replicate, List.length_drop]; omega
  refine ⟨?_, hll, by omega, by omega⟩
  rcases ho with rfl | h0
  · rw [h2, List.append_assoc, List.take_append_of_le_length (by rw [List.length_take]; omega), List.take_take, Nat.min_self]; exact hA
  · have : r = 0 := by omega
    subst this
    have : L2 = L' := by rw [h2]; simp
    rw [this]; exact hA
/-- P' is P without the keys of G. -/
structure U.qlSwp (P : QLP) (G : Rws) (q : Nat) (P' : QLP) : Prop where
  out : P' = P.filter (qlKeep G q)
set_option maxHeartbeats 1000000 in
theorem qlsweep_run (K : AV → St → Prop) (L M G : Rws) (n c d q cg : Nat) (m : Int) (P : QLP) (h : U.qlshI n c L d M P) (hn : n ≤ 100000) (hG : q ≤ G.length) (hq : q ≤ 1000000) (hs : U.qlSrtR G q)
    (hK : ∀ (n' : Nat) (L' M' : Rws) (P' : QLP), n' = U.qllen P' → U.qlSwp P G q P' → U.qlshI n' c L' d M' P' → K (.inr []) (qlswSt n' c L' d M' m G cg)) :
    runW qlov qlinvSw (tblIf 46 qlpBS) 45 [ptr 0 0, cell (rslC ⟨2, 1, 0, q, cg⟩)] (qlswSt n c L d M m G cg) K := by
  rw [qlsweep_vc]
  have hPn := qlshI_n h
  have l1 := h.kf.len
  have l2 := h.kf.le
  have l3 := h.vf.len
  have l4 := h.vf.le
  have hrow : ∀ j : Nat, j < n → ∃ p, P[j]? = some p := fun j hj => ⟨_, List.getElem?_eq_getElem (by omega)⟩
  intro z0 h0
  constructor
  · refine ⟨(0, (0, (L, M))), ?_⟩
    repeat' (first | exact rfl | with_reducible apply And.intro)
    refine ⟨⟨Int.le_refl _, by dsimp only; omega, Int.le_refl _, Int.le_refl _⟩, ⟨rfl, rfl⟩, rfl, rfl, rfl, fun _ _ => rfl, fun _ _ => rfl, fun m hm => ?_, fun m hm => ?_⟩
    · obtain ⟨p, hp⟩ := hrow m hm
      exact ⟨p.1, (qlrow_key h hp).1⟩
    · obtain ⟨p, hp⟩ := hrow m hm
      exact ⟨p.2, (qlrow_key h hp).2.1⟩
  rintro ⟨i, j, L1, M1⟩ hI
  have hI' := hI
  obtain ⟨⟨b1, b2, b3, b4⟩, ⟨k1, k2⟩, k3, k4, k5, k6, k7, k8, k9⟩ := hI'
  dsimp only at b1 b2 b3 b4 k1 k2 k3 k4 k5 k6 k7 k8 k9 hI ⊢
  refine ⟨fun hi => ⟨by omega, fun j3 hj3 => ⟨by omega, fun z4 h4 => ⟨⟨rfl, hG, hq, hs⟩, fun z5 hat => ⟨fun hx z6 h6 => ?_, fun hx => ⟨by omega, fun j8 hj8 => ⟨by omega, fun y0 g0 y1 g1 y2 g2 => ⟨by omega, fun j10 hj10 => ⟨by omega, fun L11 e11 => ⟨by omega, fun j12 hj12 => ⟨by omega, fun L13 e13 z14 h14 z15 h15 => ?_⟩⟩⟩⟩⟩⟩⟩⟩⟩⟩, fun hi => ?_⟩
  · have e6 := iw h6 (by omega)
    obtain ⟨p, hp⟩ := hrow j3 (by omega)
    have hf : U.fi L1 j3 0 = U.fi L j3 0 := by
      unfold U.fi
      rw [List.getD_eq_getElem?_getD, List.getD_eq_getElem?_getD, k6 j3 (by omega)]
    have hin : U.qlIn G q (U.fi L i.toNat 0) := by
      rw [show i.toNat = j3 by omega, ← hf, ← h4]
      exact (qlin_iff hs hat).1 hx
    refine ⟨(z6, (j, (L1, M1))), ?_⟩
    repeat' (first | exact rfl | exact qlsw_no hI (by omega) e6 hin | with_reducible apply And.intro)
    dsimp only; omega
  · have e14 := iw h14 (by omega)
    have e15 := iw h15 (by omega)
    obtain ⟨p, hp⟩ := hrow j3 (by omega)
    obtain ⟨r1, r2, r3⟩ := qlrow_key h hp
    have hf : U.fi L1 j3 0 = U.fi L j3 0 := by
      unfold U.fi
      rw [List.getD_eq_getElem?_getD, List.getD_eq_getElem?_getD, k6 j3 (by omega)]
    have hg : M1.getD j8 [] = p.2.row := by
      rw [List.getD_eq_getElem?_getD, k7 j8 (by omega), show j8 = j3 by omega, r2]; rfl
    have ez4 : z4 = p.1 := by rw [h4, hf, r3]
    have ez9 : (⟨y0, y1, y2⟩ : QLv) = p.2 := by
      have q0 : y0 = p.2.v0 := by rw [g0]; unfold U.fi; rw [hg]; rfl
      have q1 : y1 = p.2.v1 := by rw [g1]; unfold U.fi; rw [hg]; rfl
      have q2 : y2 = p.2.v2 := by rw [g2]; unfold U.fi; rw [hg]; rfl
      rw [q0, q1, q2]
    have hin : ¬ U.qlIn G q (U.fi L i.toNat 0) := by
      rw [show i.toNat = j3 by omega, ← hf, ← h4]
      exact fun hy => hx ((qlin_iff hs hat).2 hy)
    have := qlsw_yes (k := z4) (v := ⟨y0, y1, y2⟩) hI (by omega) e15 e14 hin ⟨by omega, by omega⟩ (by rw [show i.toNat = j3 by omega, r1, ez4]) (by rw [show i.toNat = j3 by omega, r2, ez9]) (L2 := L11) (M2 := L13) (by rw [e11, show j10 = j.toNat by omega]) (by rw [e13, show j12 = j.toNat by omega]; rfl)
    refine ⟨(z15, (z14, (L11, L13))), ?_⟩
    repeat' (first | exact rfl | exact this | with_reducible apply And.intro)
    dsimp only; omega
  · obtain rfl : i = n := by omega
    have hkm := qlkp_map h G q n (Nat.le_refl _)
    rw [Int.toNat_natCast] at k3 k4 k5
    rw [List.take_of_length_le (by omega)] at hkm
    refine ⟨⟨by omega, by omega, by omega⟩, fun o17 n18 c19 h17 h18 h19 => ?_⟩
    replace h17 : (o17 : Int) = if (c : Int) = j then 0 else 0 + j := h17
    have ho : o17 = j.toNat ∨ n - j.toNat = 0 := by
      split at h17
      · right; omega
      · left; omega
    have hol : o17 + n18 ≤ L1.length := by split at h17 <;> omega
    clear h17
    refine ⟨hol, fun L20 e20 => ⟨⟨by omega, by omega, by omega⟩, fun o21 n22 c23 h21 h22 h23 => ?_⟩⟩
    replace h21 : (o21 : Int) = if (d : Int) = j then 0 else 0 + j := h21
    have ho2 : o21 = j.toNat ∨ n - j.toNat = 0 := by
      split at h21
      · right; omega
      · left; omega
    have hol2 : o21 + n22 ≤ M1.length := by split at h21 <;> omega
    clear h21
    refine ⟨hol2, fun L24 e24 => ⟨⟨by omega, by omega, by omega⟩, fun o25 n26 c27 h25 h26 h27 => ⟨⟨by omega, by omega, by omega⟩, fun o28 n29 c30 h28 h29 h30 => ?_⟩⟩⟩
    obtain rfl : o25 = 0 := by split at h25 <;> omega
    obtain rfl : o28 = 0 := by split at h28 <;> omega
    obtain rfl : n26 = j.toNat := by omega
    obtain rfl : n29 = j.toNat := by omega
    obtain rfl : c27 = c := by omega
    obtain rfl : c30 = d := by omega
    have hsm := h.kf.sm
    refine hK _ L20 L24 (P.filter (qlKeep G q)) ?_ ⟨rfl⟩ ⟨?_, ?_, ⟨List.Pairwise.filter _ h.srt.out⟩⟩
    · have : (U.qlks (P.filter (qlKeep G q))).length = j.toNat := by rw [← hkm.1, List.length_map]; omega
      unfold U.qlks at this
      rw [List.length_map] at this
      exact this.symm
    · exact qlclr_fu (by omega) l2 (by omega) hsm (by rw [k4, hkm.1]) ho (by omega) e20 hol
    · exact qlclr_fu (by omega) l4 (by omega) hsm (by rw [k5, hkm.2]) ho2 (by omega) e24 hol2
end Go.Proofs.Ytbifilonmkaonaa
end

section
set_option linter.unusedVariables false
set_option linter.unusedSimpArgs false
set_option maxRecDepth 10000
namespace Go.Proofs.Ytbifilonmkaonaa
open Go Reck Ost
def qlpSweep : Pat := fun args σ => match args, σ with
  | [.inl (.inl (.inr (.inl (0, 0)))), l], ⟨[p], [], 0, [a1, a2, some ⟨28, .o (.rows [.n .u32] G), [], cg, false⟩], 0⟩ => match rslX l, qlshC p a1 a2 with
    | some ⟨2, 1, 0, q, cl⟩, some (n, c, L, d, M, m) => some fun K => ∃ P, (cl = cg ∧ qlshD p a1 a2 ∧ U.qlshI n c L d M P ∧ n ≤ 100000 ∧ q ≤ G.length ∧ q ≤ 1000000 ∧ U.qlSrtR G q) ∧ ∀ (n' : Nat) (L' M' : Rws) (P' : QLP), n' = U.qllen P' → U.qlSwp P G q P' → U.qlshI n' c L' d M' P' → K (.inr []) (qlswSt n' c L' d M' m G cg)
    | _, _ => none
  | _, _ => none
theorem qlpSweep_ok : PatOk 45 qlpSweep := by
  intro tm σ C h K hK w0 e w hk vs hvs
  unfold qlpSweep at h
  split at h
  · split at h
    · rename_i hl hσ
      simp only [Option.some.injEq] at h; subst h
      obtain ⟨P, ⟨hc, hy, h1, h2, h3, h4, h5⟩, h6⟩ := hK
      obtain ⟨rfl, rfl, rfl⟩ := qlshC_eq hσ hy
      subst hc
      obtain rfl := rslX_eq hl
      exact knownD noOv names (opMW_ok qlovOk) (conOk_ofR (tblIf_ok qlpBS_ok)) (qlsweep_run K _ _ _ _ _ _ _ _ _ P h1 h2 h3 h4 h5 h6) w0 e w hk vs hvs
    · cases h
  · cases h
def qltD : Tbl := tblOr (tblIf 45 qlpSweep) qltS
theorem qltD_ok : TblOk Try.prog qltD := tblOr_ok (tblIf_ok qlpSweep_ok) qltS_ok
/-- What a loop has told to go, of the first ones. -/
structure U.qldpI (P : QLP) (f : Int × QLv → Bool) (i : Int) (G : Rws) (q cg : Nat) (O : Rws) (r co : Nat) : Prop where
  out : (0 ≤ i ∧ i ≤ P.length) ∧ G = U.qlks ((P.take i.toNat).filter f) ∧ O = U.qlvs ((P.take i.toNat).filter f) ∧ q = G.length ∧ q ≤ cg ∧ r = O.length ∧ r ≤ co ∧ (q : Int) ≤ i ∧ r = q
theorem qldp_0 (P : QLP) (f : Int × QLv → Bool) : U.qldpI P f 0 [] 0 0 [] 0 0 :=
  ⟨⟨by omega, by omega⟩, rfl, rfl, rfl, Nat.le_refl _, rfl, Nat.le_refl _, Int.le_refl _, rfl⟩
theorem qltake1 {P : QLP} {i : Int} {j : Nat} {p : Int × QLv} (h0 : 0 ≤ i) (hj : (j : Int) = i) (hp : P[j]? = some p) : P.take (i + 1).toNat = P.take i.toNat ++ [p] := by
  rw [show (i + 1).toNat = j + 1 by omega, show i.toNat = j by omega, List.take_add_one, hp]; rfl
theorem qldp_no {P : QLP} {f : Int × QLv → Bool} {i i' : Int} {G O : Rws} {q cg r co j : Nat} {p : Int × QLv} (h : U.qldpI P f i G q cg O r co) (hj : (j : Int) = i) (hp : P[j]? = some p) (hf : f p = false) (hi : i' = i + 1) : U.qldpI P f i' G q cg O r co := by
  obtain ⟨⟨h1, h2⟩, h3, h4, h5, h6, h7, h8, h9, h10⟩ := h.out
  have hl := (List.getElem?_eq_some_iff.1 hp).1
  subst hi
  have e := qltake1 h1 hj hp
  have e2 : (P.take (i + 1).toNat).filter f = (P.take i.toNat).filter f := by
    rw [e, List.filter_append, List.filter_cons_of_neg (by rw [hf]; decide)]; simp
  exact ⟨⟨by omega, by omega⟩, by rw [e2]; exact h3, by rw [e2]; exact h4, h5, h6, h7, h8, by omega, h10⟩
theorem qldp_yes {P : QLP} {f : Int × QLv → Bool} {i i' : Int} {G O G' O' : Rws} {q cg r co q' cg' r' co' j : Nat} {p : Int × QLv} (h : U.qldpI P f i G q cg O r co) (hj : (j : Int) = i) (hp : P[j]? = some p) (hf : f p = true) (hi : i' = i + 1)
    (e1 : G' = List.take q (List.drop 0 G) ++ [.i p.1] :: []) (e2 : q' = q + 1) (e3 : q' ≤ cg') (e4 : O' = List.take r (List.drop 0 O) ++ p.2.row :: []) (e5 : r' = r + 1) (e6 : r' ≤ co') : U.qldpI P f i' G' q' cg' O' r' co' := by
  obtain ⟨⟨h1, h2⟩, h3, h4, h5, h6, h7, h8, h9, h10⟩ := h.out
  have hl := (List.getElem?_eq_some_iff.1 hp).1
  subst hi
  have e := qltake1 h1 hj hp
  have ef : (P.take (i + 1).toNat).filter f = (P.take i.toNat).filter f ++ [p] := by
    rw [e, List.filter_append, List.filter_cons_of_pos hf]; rfl
  rw [List.drop_zero, h5, List.take_length] at e1
  rw [List.drop_zero, h7, List.take_length] at e4
  refine ⟨⟨by omega, by omega⟩, ?_, ?_, ?_, e3, ?_, e6, by omega, by omega⟩
  · rw [ef, e1, h3]; unfold U.qlks; rw [List.map_append]; rfl
  · rw [ef, e4, h4]; unfold U.qlvs; rw [List.map_append]; rfl
  · rw [e1, List.length_append, e2, h5]; rfl
  · rw [e4, List.length_append, e5, h7]; rfl
theorem qlat {P : QLP} {j : Nat} {p : Int × QLv} (h : P[j]? = some p) : (U.qlvs P).getD j [] = p.2.row ∧ (U.qlks P).getD j [] = [.i p.1] ∧ U.fi (U.qlks P) j 0 = p.1 := by
  have h1 : (U.qlvs P).getD j [] = p.2.row := by rw [List.getD_eq_getElem?_getD]; simp [U.qlvs, h]
  have h2 : (U.qlks P).getD j [] = [.i p.1] := by rw [List.getD_eq_getElem?_getD]; simp [U.qlks, h]
  unfold U.fi
  rw [h2]
  exact ⟨h1, rfl, rfl⟩
theorem qlone {P : QLP} (hs : U.qlSrt P) {k : Int} {e e' : QLv} (h : (k, e) ∈ P) (h' : (k, e') ∈ P) : e = e' := by
  obtain ⟨i, hi⟩ := List.getElem?_of_mem h
  obtain ⟨j, hj⟩ := List.getElem?_of_mem h'
  obtain ⟨li, hi⟩ := List.getElem?_eq_some_iff.1 hi
  obtain ⟨lj, hj⟩ := List.getElem?_eq_some_iff.1 hj
  have hp := List.pairwise_iff_getElem.1 hs.out
  rcases Nat.lt_trichotomy i j with g | g | g
  · have := hp i j li lj g
    rw [hi, hj] at this; exact (qlirr this).elim
  · subst g
    rw [hi] at hj
    exact (Prod.mk.injEq _ _ _ _ ▸ hj).2
  · have := hp j i lj li g
    rw [hi, hj] at this; exact (qlirr this).elim
theorem qlin_ks {Q : QLP} {k : Int} : U.qlIn (U.qlks Q) Q.length k ↔ ∃ e, (k, e) ∈ Q := by
  constructor
  · rintro ⟨m, hm, hk⟩
    have hp := List.getElem?_eq_getElem hm
    have := (qlat hp).2.2
    exact ⟨Q[m].2, by rw [← hk, this]; exact List.getElem_mem hm⟩
  · rintro ⟨e, he⟩
    obtain ⟨m, hm⟩ := List.getElem?_of_mem he
    exact ⟨m, (List.getElem?_eq_some_iff.1 hm).1, (qlat hm).2.2⟩
theorem qlkeep_eq {P : QLP} (hs : U.qlSrt P) (f : Int × QLv → Bool) : P.filter (qlKeep (U.qlks (P.filter f)) (P.filter f).length) = P.filter fun p => !f p := by
  apply List.filter_congr
  intro p hp
  have : U.qlIn (U.qlks (P.filter f)) (P.filter f).length p.1 ↔ f p = true := by
    rw [qlin_ks]
    constructor
    · rintro ⟨e, he⟩
      obtain ⟨h1, h2⟩ := List.mem_filter.1 he
      have := qlone hs h1 hp
      rw [this] at h2; exact h2
    · intro h
      exact ⟨p.2, List.mem_filter.2 ⟨hp, h⟩⟩
  unfold qlKeep
  by_cases h : f p = true
  · simp [this.2 h, h]
  · have h' : ¬ U.qlIn (U.qlks (P.filter f)) (P.filter f).length p.1 := fun g => h (this.1 g)
    simp [h', h]
/-- Behind the loop: what is told is all that goes; its keys rise; without them the others are left. -/
theorem qldp_end {P : QLP} {f : Int × QLv → Bool} {i : Int} {G O : Rws} {q cg r co : Nat} (hs : U.qlSrt P) (h : U.qldpI P f i G q cg O r co) (hi : ¬ i < P.length) :
    G = U.qlks (P.filter f) ∧ O = U.qlvs (P.filter f) ∧ q = (P.filter f).length ∧ r = (P.filter f).length ∧ U.qlSrtR G q ∧ ∀ P', U.qlSwp P G q P' → P' = P.filter fun p => !f p := by
  obtain ⟨⟨h1, h2⟩, h3, h4, h5, h6, h7, h8, h9, h10⟩ := h.out
  rw [List.take_of_length_le (by omega)] at h3 h4
  have hq : q = (P.filter f).length := by rw [h5, h3]; simp [U.qlks]
  refine ⟨h3, h4, hq, by omega, ⟨fun a b hab hb => ?_⟩, fun P' hw => by rw [hw.out, h3, hq]; exact qlkeep_eq hs f⟩
  have ha := List.getElem?_eq_getElem (show a < (P.filter f).length by omega)
  have hb' := List.getElem?_eq_getElem (show b < (P.filter f).length by omega)
  rw [h3, (qlat ha).2.2, (qlat hb').2.2]
  exact List.pairwise_iff_getElem.1 (List.Pairwise.filter _ hs.out) a b (by omega) (by omega) hab
end Go.Proofs.Ytbifilonmkaonaa
end
