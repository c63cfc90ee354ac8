/- Parts of a proof, one behind the other: H0 LBR P0 P1 P2. No condition. -/
import Derived.Test.YtcjcdimlcfegbaaGreatDoorRkN
import Derived.Test.YtcjcdimlcfegbaaGreatDoorRkO
import Derived.Test.YtcjcdimlcfegbaaGreatDoorProg
import Derived.Test.YtcjcdimlcfegbaaGreatDoorRkV
import Derived.Test.YtcjcdimlcfegbaaGreatDoorRkU
import Derived.Test.YtcjcdimlcfegbaaGreatDoorRkK
import Derived.Test.YtcjcdimlcfegbaaGreatDoorRkY
section
set_option linter.unusedVariables false
namespace Go.Proofs.YtcjcdimlcfegbaaGreatDoor
open Go Reck

theorem names : namesOk Tryz.prog = true := by kernel_rfl
def slotS (tm : List AV) (t : Nat) : ASl :=
  match aslX (tm.getD t (lit undef)) with
  | some s => s
  | none => ⟨0, 0, 0, 0⟩
def slotA (tm : List AV) (t : Nat) (σ : St) : List Int :=
  match getArr σ (slotS tm t).a with
  | some b => b.l
  | none => []
def isAsl (v : AV) : Bool := (aslX v).isSome
def isXint (v : AV) : Bool :=
  match v with
  | .inl (.inl (.inr (.inr (.inr (.inr (.inr (.inr (.inl _)))))))) => true
  | _ => false
def xiX : AV → Option (IntKind × Int)
  | .inl (.inl (.inr (.inr (.inr (.inr (.inr (.inr (.inl p)))))))) => some p
  | _ => none
theorem xiX_eq {x : AV} {k : IntKind} {n : Int} (h : xiX x = some (k, n)) : x = xi k n := by
  unfold xiX at h
  split at h
  · simp only [Option.some.injEq] at h; subst h; rfl
  · cases h
def tbl0 : Tbl := fun _ _ _ => none
theorem tbl0_ok : TblOk Tryz.prog tbl0 := by intro f tm σ C h; cases h
abbrev InvF := Code → List AV → St → Option Inv
def inv0 : InvF := fun _ _ _ => none
abbrev runI (inv : InvF) (tbl : Tbl) (f : Nat) (args : List AV) (σ : St) (K : AV → St → Prop) : Prop := goT Tryz.prog [] (orcOf inv tbl) (opMem Tryz.prog) 3000 (.inr (.inr (.inr (.inr f)))) args σ (retC σ K)
abbrev runL (inv : InvF) (tbl : Tbl) (f : Nat) (args : List AV) (σ : St) : Prop := goT Tryz.prog [] (orcOf inv tbl) (opMem Tryz.prog) 3000 (.inr (.inr (.inr (.inr f)))) args σ isTrue
def bs (L : List Int) (cap : Nat) (ro : Bool) : ABlk := ⟨5, .n .u8, L, cap, ro⟩
def ar (l : List ABlk) : St := ⟨[], [], 0, l.map some, 0⟩
theorem noOv : ([] : List FuncId).all (isOverlaps Tryz.prog) = true := rfl
def tblOr (a b : Tbl) : Tbl := fun f args σ => match a f args σ with
  | some c => some c
  | none => b f args σ
theorem tblOr_ok {P : Program} {a b : Tbl} (ha : TblOk P a) (hb : TblOk P b) : TblOk P (tblOr a b) := by
  intro f tm σ C h
  unfold tblOr at h
  split at h
  · rename_i c hc; simp only [Option.some.injEq] at h; subst h; exact ha f tm σ c hc
  · exact hb f tm σ C h
theorem bytes_wf {zs : List Int} (h : ∀ n ∈ zs, (Lit.int .u8 n).wf = true) : ∀ n ∈ zs, 0 ≤ n ∧ n < 256 := fun n hn => by
  have := h n hn
  simp [Lit.wf, IntKind.min, IntKind.max, IntKind.signed, IntKind.bits] at this
  omega
end Go.Proofs.YtcjcdimlcfegbaaGreatDoor
end

section
namespace Go.Proofs.YtcjcdimlcfegbaaGreatDoor
open Go Reck
set_option linter.unusedVariables false
set_option maxRecDepth 100000
def U.resBytes : List (List UInt8) := [[103, 114, 111, 117, 112], [97, 108, 108, 111, 119], [100, 101, 110, 121], [111, 117, 116, 98, 111, 117, 110, 100], [118, 105, 97], [97, 110, 121], [116, 99, 112], [117, 100, 112], [105, 112], [112, 111, 114, 116]]
def U.resWords : List Value := U.resBytes.map fun s => Value.string ⟨s.toArray⟩
def U.resA : Option ABlk := some ⟨0, .o (.glob 0 U.resWords), [], 0, true⟩
def resSt : St := ⟨[], [], 0, [U.resA], 0⟩
end Go.Proofs.YtcjcdimlcfegbaaGreatDoor
end

section
set_option linter.unusedVariables false
set_option linter.unusedSimpArgs false
namespace Go.Proofs.YtcjcdimlcfegbaaGreatDoor
open Go Reck Ost
def nmt : Code → List AV → St → Option Inv := fun _ _ _ => none
abbrev runR (inv : InvF) (tbl : Tbl) (f : Nat) (args : List AV) (σ : St) (K : AV → St → Prop) : Prop := goT Tryz.prog [] (orcR inv nmt tbl) (opMem Tryz.prog) 3000 (.inr (.inr (.inr (.inr f)))) args σ (retC σ K)
/-- With slices.overlaps. -/
abbrev runV (ov : List FuncId) (inv : InvF) (tbl : Tbl) (f : Nat) (args : List AV) (σ : St) (K : AV → St → Prop) : Prop := goT Tryz.prog [] (orcR inv nmt tbl) (opMV Tryz.prog ov) 3000 (.inr (.inr (.inr (.inr f)))) args σ (retC σ K)
abbrev Pat := List AV → St → Option ((AV → St → Prop) → Prop)
def tblIf (f0 : Nat) (p : Pat) : Tbl := fun f args σ => if f == f0 then p args σ else none
def PatOk (f0 : Nat) (p : Pat) : Prop := ∀ tm σ C, p tm σ = some C → ∀ K : AV → St → Prop, C K → ∀ (w0 : World) (e : Env) (w : World), Ok w0 e σ w → ∀ vs : List Value, tm.map (Reck.av e) = vs.map some →
  Calls Tryz.prog f0 vs.toArray w fun en w' => ∃ x σ' e' v, en = .returned v ∧ e.le e' ∧ Reck.av e' x = some v ∧ Ok w0 e' σ' w' ∧ K x σ'
theorem tblIf_ok {f0 : Nat} {p : Pat} (h : PatOk f0 p) : TblOk Tryz.prog (tblIf f0 p) := by
  intro f tm σ C hC
  unfold tblIf at hC
  split at hC
  · rename_i hf
    obtain rfl : f = f0 := by simpa using hf
    exact h tm σ C hC
  · cases hC
theorem as_str {e : Env} {x : AV} {l : List Int} {v : Value} (h : strX x = some l) (hv : Reck.av e x = some v) : Reck.av e (cell (strC l)) = some v := by
  obtain ⟨rfl, hb⟩ := strX_ok h hv
  exact strC_av hb e
theorem as_int {e : Env} {x : AV} {k : IntKind} {n : Int} {v : Value} (h : intX x = some (k, n)) (hv : Reck.av e x = some v) : Reck.av e (xi k n) = some v := by
  rw [intX_ok h hv]; rfl
theorem ones {e : Env} {x : AV} {vs : List Value} (h : [x].map (Reck.av e) = vs.map some) : ∃ v, vs = [v] ∧ Reck.av e x = some v := by
  match vs, map_len h with
  | [v], _ => simp at h; exact ⟨v, rfl, h⟩
theorem twos {e : Env} {x y : AV} {vs : List Value} (h : [x, y].map (Reck.av e) = vs.map some) : ∃ v u, vs = [v, u] ∧ Reck.av e x = some v ∧ Reck.av e y = some u := by
  match vs, map_len h with
  | [v, u], _ => simp at h; exact ⟨v, u, rfl, h.1, h.2⟩
theorem threes {e : Env} {x y z : AV} {vs : List Value} (h : [x, y, z].map (Reck.av e) = vs.map some) : ∃ a b c, vs = [a, b, c] ∧ Reck.av e x = some a ∧ Reck.av e y = some b ∧ Reck.av e z = some c := by
  match vs, map_len h with
  | [a, b, c], _ => simp at h; exact ⟨a, b, c, rfl, h.1, h.2⟩
theorem iw {z n : Int} (h : z = IntKind.wrap .i64 n) (hb : -9223372036854775808 ≤ n ∧ n ≤ 9223372036854775807) : z = n := by
  rw [h]; exact IntWalk.i64_in _ hb
abbrev Rws := List (List CV)
/-- A slice holds A. -/
structure U.Rw (L : Rws) (o n c cap : Nat) (A : Rws) : Prop where
  eq : A = (L.drop o).take n
  len : o + n ≤ L.length
  le : n ≤ c
  cap : o + c ≤ cap
  sm : n ≤ 16777216
theorem U.Rw.n {L : Rws} {o n c cap : Nat} {A : Rws} (h : U.Rw L o n c cap A) : A.length = n := by
  have := h.len
  rw [h.eq, List.length_take, List.length_drop]; omega
theorem U.Rw.all {L : Rws} {n : Nat} (h : n = L.length) {c cap : Nat} (hc : n ≤ c) (hp : c ≤ cap) (hn : n ≤ 16777216) : U.Rw L 0 n c cap L :=
  ⟨by rw [List.drop_zero, h, List.take_length], by omega, hc, by omega, hn⟩
def rowB (el : TypeId) (ks : List CK) (L : Rws) (cap : Nat) (ro : Bool) : ABlk := ⟨el, .o (.rows ks L), [], cap, ro⟩
def U.insR (A : Rws) (i : Int) (r : List CV) : Rws := A.take i.toNat ++ [r] ++ A.drop i.toNat
theorem insR_len (A : Rws) (i : Int) (r : List CV) (hi : 0 ≤ i ∧ i ≤ A.length) : (U.insR A i r).length = A.length + 1 := by
  unfold U.insR
  rw [List.length_append, List.length_append, List.length_take, List.length_drop]
  simp; omega
/-- Told up to its capacity: a slice holds A. -/
structure U.Fu (L : Rws) (n c : Nat) (A : Rws) : Prop where
  eq : A = L.take n
  len : L.length = c
  le : n ≤ c
  sm : n ≤ 1000000
theorem U.Fu.n {L : Rws} {n c : Nat} {A : Rws} (h : U.Fu L n c A) : A.length = n := by
  have := h.len; have := h.le
  rw [h.eq, List.length_take]; omega
theorem insR_get (A : Rws) (i : Nat) (r : List CV) (hi : i ≤ A.length) (j : Nat) : (U.insR A i r)[j]? = if j < i then A[j]? else if j = i then some r else A[j - 1]? := by
  have hl : (A.take i).length = i := by rw [List.length_take]; omega
  unfold U.insR
  rw [Int.toNat_natCast, List.append_assoc]
  by_cases h1 : j < i
  · rw [if_pos h1, List.getElem?_append_left (by omega), List.getElem?_take, if_pos h1]
  · rw [if_neg h1, List.getElem?_append_right (by omega), hl]
    by_cases h2 : j = i
    · rw [if_pos h2, h2, Nat.sub_self]; rfl
    · rw [if_neg h2, show j - i = (j - i - 1) + 1 by omega]
      show (A.drop i)[j - i - 1]? = _
      rw [List.getElem?_drop]; congr 1; omega
theorem mid_get {α : Type} (X M : List α) (a b : Nat) (ha : a ≤ X.length) (hb : b = a + M.length) (j : Nat) : (X.take a ++ M ++ X.drop b)[j]? = if j < a then X[j]? else if j < b then M[j - a]? else X[j]? := by
  subst hb
  exact sand_get X M a ha j
theorem mid_len {α : Type} (X M : List α) (a b : Nat) (hb : b = a + M.length) (h : b ≤ X.length) : (X.take a ++ M ++ X.drop b).length = X.length := by
  rw [List.length_append, List.length_append, List.length_take, List.length_drop, Nat.min_eq_left (by omega)]; omega
theorem mid_one {α : Type} {X Y : List α} {a n : Nat} {r : α} (h : Y = X.take a ++ [r].take n ++ X.drop (a + n)) (hn : n = 1) (ha : a < X.length) : Y = X.take a ++ [r] ++ X.drop (a + 1) ∧ Y.length = X.length := by
  subst hn
  exact ⟨h, by rw [h]; exact mid_len X [r] a (a + 1) rfl ha⟩
theorem mid_row {α : Type} {X Z Y : List α} {a b n m k : Nat} (h : Y = X.take a ++ ((Z.drop b).take m).take n ++ X.drop (a + n)) (hnm : n ≤ m) (hZ : b + n ≤ Z.length) (hX : a + n ≤ X.length) (hk : k = a + n) : Y = X.take a ++ (Z.drop b).take n ++ X.drop k ∧ Y.length = X.length := by
  subst hk
  have e : ((Z.drop b).take m).take n = (Z.drop b).take n := by rw [List.take_take, Nat.min_eq_left hnm]
  rw [e] at h
  have e2 : ((Z.drop b).take n).length = n := by rw [List.length_take, List.length_drop]; omega
  exact ⟨h, by rw [h]; exact mid_len X _ a (a + n) (by rw [e2]) hX⟩
/-- One is put behind all others. -/
theorem insA {L L' T A : Rws} {n c c' : Nat} {r : List CV} (h : U.Fu L n c A) (h1 : L' = L.take n ++ [r] ++ T) (h2 : L'.length = c') (h3 : n + 1 ≤ c') (h4 : n + 1 ≤ 1000000) : U.Fu L' (n + 1) c' (U.insR A n r) := by
  obtain ⟨k1, k2, k3, k4⟩ := h
  have hl : (L.take n ++ [r]).length = n + 1 := by rw [List.length_append, List.length_take]; simp; omega
  refine ⟨?_, h2, h3, h4⟩
  rw [h1, List.take_append_of_le_length (by omega), List.take_of_length_le (by omega), k1]
  unfold U.insR
  rw [Int.toNat_natCast, List.take_take, Nat.min_self, List.drop_take, Nat.sub_self, List.take_zero, List.append_nil]
/-- There is no room. -/
theorem insB {L L1 L2 L3 T A : Rws} {n c c' i : Nat} {r z : List CV} (h : U.Fu L n c A) (hi : i < n) (h1 : L1 = L.take i ++ List.replicate (n + 1 - i) z ++ T) (hl : L1.length = c') (hc : n + 1 ≤ c') (h2 : L2 = L1.take i ++ [r] ++ L1.drop (i + 1)) (h3 : L3 = L2.take (i + 1) ++ (L.drop i).take (n - i) ++ L2.drop (n + 1)) (h4 : n + 1 ≤ 1000000) :
    U.Fu L3 (n + 1) c' (U.insR A i r) := by
  obtain ⟨k1, k2, k3, k4⟩ := h
  have l2 : L2.length = c' := by rw [h2]; simp; omega
  have lm : ((L.drop i).take (n - i)).length = n - i := by rw [List.length_take, List.length_drop]; omega
  have l3 : L3.length = c' := by rw [h3, List.length_append, List.length_append, lm, List.length_take, List.length_drop]; omega
  refine ⟨?_, l3, hc, h4⟩
  apply List.ext_getElem?
  intro j
  rw [insR_get A i r (by rw [k1, List.length_take]; omega), List.getElem?_take, h3, mid_get _ _ _ _ (by omega) (by omega)]
  have g2 : ∀ j, L2[j]? = if j < i then L1[j]? else if j < i + 1 then [r][j - i]? else L1[j]? := fun j => by rw [h2]; exact mid_get L1 [r] i (i + 1) (by omega) rfl j
  have g1 : ∀ j, j < i → L1[j]? = L[j]? := fun j hj => by
    rw [h1, List.append_assoc, List.getElem?_append_left (by rw [List.length_take]; omega), List.getElem?_take, if_pos hj]
  have gA : ∀ j, j < n → A[j]? = L[j]? := fun j hj => by rw [k1, List.getElem?_take, if_pos hj]
  by_cases c1 : j < i
  · rw [if_pos c1, if_pos (by omega), if_pos (by omega), g2, if_pos c1, g1 _ c1, gA _ (by omega)]
  · rw [if_neg c1]
    by_cases c2 : j = i
    · subst c2
      rw [if_pos rfl, if_pos (by omega), if_pos (by omega), g2, if_neg c1, if_pos (by omega), Nat.sub_self]; rfl
    · rw [if_neg c2]
      by_cases c3 : j < n + 1
      · rw [if_pos c3, if_neg (by omega), if_pos c3, List.getElem?_take, if_pos (by omega), List.getElem?_drop, gA _ (by omega)]; congr 1; omega
      · rw [if_neg c3, k1, List.getElem?_take, if_neg (by omega)]
/-- There is room. -/
theorem insC {L L1 L2 A : Rws} {n c i : Nat} {r : List CV} (h : U.Fu L n c A) (hi : i < n) (hc : n + 1 ≤ c) (h1 : L1 = L.take (i + 1) ++ (L.drop i).take (n - i) ++ L.drop (n + 1)) (h2 : L2 = L1.take i ++ [r] ++ L1.drop (i + 1)) (h4 : n + 1 ≤ 1000000) :
    U.Fu L2 (n + 1) c (U.insR A i r) := by
  obtain ⟨k1, k2, k3, k4⟩ := h
  have lm : ((L.drop i).take (n - i)).length = n - i := by rw [List.length_take, List.length_drop]; omega
  have l1 : L1.length = c := by rw [h1, List.length_append, List.length_append, lm, List.length_take, List.length_drop]; omega
  have l2 : L2.length = c := by rw [h2]; simp; omega
  refine ⟨?_, l2, hc, h4⟩
  apply List.ext_getElem?
  intro j
  rw [insR_get A i r (by rw [k1, List.length_take]; omega), List.getElem?_take, h2, mid_get L1 [r] i (i + 1) (by omega) rfl]
  have g1 : ∀ j, L1[j]? = if j < i + 1 then L[j]? else if j < n + 1 then ((L.drop i).take (n - i))[j - (i + 1)]? else L[j]? := fun j => by rw [h1]; exact mid_get _ _ _ _ (by omega) (by omega) j
  have gA : ∀ j, j < n → A[j]? = L[j]? := fun j hj => by rw [k1, List.getElem?_take, if_pos hj]
  by_cases c1 : j < i
  · rw [if_pos c1, if_pos (by omega), if_pos c1, g1, if_pos (by omega), gA _ (by omega)]
  · rw [if_neg c1]
    by_cases c2 : j = i
    · subst c2
      rw [if_pos rfl, if_pos (by omega), if_neg c1, if_pos (by simp), Nat.sub_self]; rfl
    · rw [if_neg c2]
      by_cases c3 : j < n + 1
      · rw [if_pos c3, if_neg c1, if_neg (by simp; omega), g1, if_neg (by omega), if_pos c3, List.getElem?_take, if_pos (by omega), List.getElem?_drop, gA _ (by omega)]; congr 1; omega
      · rw [if_neg c3, k1, List.getElem?_take, if_neg (by omega)]
/-- Whichever way one was put in: the rows are told anew. -/
theorem ins_fin {f : Nat} {vs : Array Value} {w0 w : World} {e : Env} {K : AV → St → Prop} {vb : Option Blk} {el : TypeId} {ks : List CK} {u : Nat} {old : Option ABlk} {Q : Nat → Nat → Rws → Prop}
    (h : Calls Tryz.prog f vs w fun en w' => ∃ x σ' e' v, en = .returned v ∧ e.le e' ∧ Reck.av e' x = some v ∧ Ok w0 e' σ' w' ∧ ∃ (n' c' : Nat) (L' : Rws), Q n' c' L' ∧
      ((x = cell (rslC ⟨1, u, 0, n', c'⟩) ∧ σ' = ⟨[vb], [], 0, [none, some (rowB el ks L' c' false)], 0⟩) ∨ (x = cell (rslC ⟨1, u, 0, n', c'⟩) ∧ σ' = ⟨[vb], [], 0, [old, some (rowB el ks L' c' false)], 0⟩) ∨ (x = cell (rslC ⟨0, u, 0, n', c'⟩) ∧ σ' = ⟨[vb], [], 0, [some (rowB el ks L' c' false)], 0⟩)))
    (hK : ∀ (n' c' : Nat) (L' : Rws), Q n' c' L' → K (cell (rslC ⟨1, u, 0, n', c'⟩)) ⟨[vb], [], 0, [none, some (rowB el ks L' c' false)], 0⟩) :
    Calls Tryz.prog f vs w fun en w' => ∃ x σ' e' v, en = .returned v ∧ e.le e' ∧ Reck.av e' x = some v ∧ Ok w0 e' σ' w' ∧ K x σ' := by
  refine h.mono ?_
  rintro en w' ⟨x, σ', e', v, h1, h2, h3, h4, n', c', L', hQ, hw⟩
  rcases hw with ⟨rfl, rfl⟩ | ⟨rfl, rfl⟩ | ⟨rfl, rfl⟩
  · exact ⟨_, _, e', v, h1, h2, h3, h4, hK _ _ _ hQ⟩
  · exact ⟨_, _, e', v, h1, h2, h3, h4.dropArr 0, hK _ _ _ hQ⟩
  · obtain ⟨q, g1, g2⟩ := h4.mvRows (i := 0) (b := rowB el ks L' c' false) rfl rfl rfl h3
    exact ⟨_, _, _, v, h1, h2.trans (le_arr e' q), g1, g2, hK _ _ _ hQ⟩
end Go.Proofs.YtcjcdimlcfegbaaGreatDoor
end

section
set_option linter.unusedVariables false
set_option linter.unusedSimpArgs false
namespace Go.Proofs.YtcjcdimlcfegbaaGreatDoor
open Go Reck Ost
theorem cInj {c d : Cell} (h : cell c = cell d) : c = d := by simpa [cell] using h
theorem map3 {e : Env} {x y z : AV} {a b c : Value} (h1 : Reck.av e x = some a) (h2 : Reck.av e y = some b) (h3 : Reck.av e z = some c) : [x, y, z].map (Reck.av e) = [a, b, c].map some := by
  rw [List.map_cons, List.map_cons, List.map_cons, List.map_nil, h1, h2, h3]; rfl
theorem map2 {e : Env} {x y : AV} {a b : Value} (h1 : Reck.av e x = some a) (h2 : Reck.av e y = some b) : [x, y].map (Reck.av e) = [a, b].map some := by
  rw [List.map_cons, List.map_cons, List.map_nil, h1, h2]; rfl
theorem map1 {e : Env} {x : AV} {a : Value} (h1 : Reck.av e x = some a) : [x].map (Reck.av e) = [a].map some := by
  rw [List.map_cons, List.map_nil, h1]; rfl
/-- A text in a cell. -/
def cStr (c : Cell) : Option (List Int) :=
  match c with
  | .inr (.inr (.inr (.inr (.inr (.inr (.inr (.inr (.inr (.inr (.inl l)))))))))) => some l
  | _ => none
theorem cStr_eq {c : Cell} {l : List Int} (h : cStr c = some l) : c = strC l := by
  unfold cStr at h
  split at h
  · simp only [Option.some.injEq] at h; subst h; rfl
  · cases h
/-- A number of 64 bits in a cell. -/
def cInt (c : Cell) : Option Int :=
  match xiX (cell c) with
  | some (.i64, n) => some n
  | _ => none
theorem cInt_eq {c : Cell} {n : Int} (h : cInt c = some n) : c = xintC .i64 n := by
  unfold cInt at h
  split at h
  · rename_i m hm
    simp only [Option.some.injEq] at h; subst h
    exact cInj (xiX_eq hm)
  · cases h
def aInt (x : AV) : Option Int :=
  match intX x with
  | some (.i64, n) => some n
  | _ => none
theorem as_aInt {e : Env} {x : AV} {n : Int} {v : Value} (h : aInt x = some n) (hv : Reck.av e x = some v) : Reck.av e (xi .i64 n) = some v := by
  unfold aInt at h
  split at h
  · rename_i m hm
    simp only [Option.some.injEq] at h; subst h
    exact as_int hm hv
  · cases h
def cIntK (k : IntKind) (c : Cell) : Option Int :=
  match xiX (cell c) with
  | some (k', n) => if k' = k then some n else none
  | _ => none
theorem cIntK_eq {k : IntKind} {c : Cell} {n : Int} (h : cIntK k c = some n) : c = xintC k n := by
  unfold cIntK at h
  split at h
  · rename_i k' m hm
    split at h
    · rename_i e
      simp only [Option.some.injEq] at h; subst h; subst e
      exact cInj (xiX_eq hm)
    · cases h
  · cases h
def aIntK (k : IntKind) (x : AV) : Option Int :=
  match intX x with
  | some (k', n) => if k' = k then some n else none
  | _ => none
theorem as_aIntK {k : IntKind} {e : Env} {x : AV} {n : Int} {v : Value} (h : aIntK k x = some n) (hv : Reck.av e x = some v) : Reck.av e (xi k n) = some v := by
  unfold aIntK at h
  split at h
  · rename_i k' m hm
    split at h
    · rename_i e'
      simp only [Option.some.injEq] at h; subst h; subst e'
      exact as_int hm hv
    · cases h
  · cases h
def cRsl (c : Cell) : Option RSl := rslX (cell c)
theorem cRsl_eq {c : Cell} {s : RSl} (h : cRsl c = some s) : c = rslC s := cInj (rslX_eq h)
def slotR (tm : List AV) (t : Nat) : RSl :=
  match rslX (tm.getD t (lit undef)) with
  | some s => s
  | none => ⟨0, 0, 0, 0, 0⟩
def rowsAt (σ : St) (a : Nat) : Rws :=
  match getArr σ a with
  | some b => match b.k with
    | .o (.rows _ L) => L
    | _ => []
  | none => []
def slotSt (tm : List AV) (t : Nat) : List Int := (strX (tm.getD t (lit undef))).getD []
theorem fuGet {L A : Rws} {n c : Nat} (h : U.Fu L n c A) {m : Nat} (hm : m < n) : L[m]? = A[m]? := by
  rw [h.eq, List.getElem?_take, if_pos hm]
abbrev zbA (z : Int) (b : Bool) : AV := .inr [.inl (xintC .i64 z), .inl (.inl (.bool b))]
def U.erR (A : Rws) (i : Int) : Rws := A.eraseIdx i.toNat
end Go.Proofs.YtcjcdimlcfegbaaGreatDoor
end

section
set_option linter.unusedVariables false
set_option linter.unusedSimpArgs false
set_option maxRecDepth 10000
namespace Go.Proofs.YtcjcdimlcfegbaaGreatDoor
open Go Reck Ost
/-- With what takes rows out. -/
abbrev runW (ov : List FuncId) (inv : InvF) (tbl : Tbl) (f : Nat) (args : List AV) (σ : St) (K : AV → St → Prop) : Prop := goT Tryz.prog [] (orcR inv nmt tbl) (opMW Tryz.prog ov) 3000 (.inr (.inr (.inr (.inr f)))) args σ (retC σ K)
/-- With copies of rows of numbers. -/
abbrev runQ (inv : InvF) (tbl : Tbl) (f : Nat) (args : List AV) (σ : St) (K : AV → St → Prop) : Prop := goT Tryz.prog [] (orcR inv nmt tbl) (opMK Tryz.prog) 3000 (.inr (.inr (.inr (.inr f)))) args σ (retC σ K)
theorem off_of {o : Nat} {c l b : Int} (h : (o : Int) = if c = l then b else b + l) (hc : ¬ c = l ∨ l = 0) : (o : Int) = b + l := by
  split at h <;> omega
theorem del_fin {L L1 L2 A : Rws} {n c i o : Nat} {z : List CV} (h : U.Fu L n c A) (hi : i < n) (ho : o = i + 1 ∨ n - (i + 1) = 0) (h1 : L1 = L.take i ++ (L.drop o).take (n - (i + 1)) ++ L.drop (n - 1)) (h2 : L2 = L1.take (n - 1) ++ List.replicate 1 z ++ L1.drop n) : U.Fu L2 (n - 1) c (A.eraseIdx i) := by
  obtain ⟨k1, k2, k3, k4⟩ := h
  have hX : (L.drop o).take (n - (i + 1)) = (L.drop (i + 1)).take (n - (i + 1)) := by
    rcases ho with rfl | h0
    · rfl
    · rw [h0]; rfl
  have hxl : ((L.drop (i + 1)).take (n - (i + 1))).length = n - (i + 1) := by rw [List.length_take, List.length_drop]; omega
  have ha : (L.take i ++ (L.drop (i + 1)).take (n - (i + 1))).length = n - 1 := by rw [List.length_append, hxl, List.length_take]; omega
  rw [hX] at h1
  have l1 : L1.length = c := by rw [h1, List.length_append, ha, List.length_drop]; omega
  refine ⟨?_, ?_, by omega, by omega⟩
  · rw [h2, List.append_assoc, List.take_append_of_le_length (by rw [List.length_take]; omega), List.take_take, Nat.min_self, h1, List.take_append_of_le_length (by omega), List.take_of_length_le (by omega), k1, List.eraseIdx_eq_take_drop_succ, List.take_take, Nat.min_eq_left (by omega), List.drop_take]
  · rw [h2, List.length_append, List.length_append, List.length_take, List.length_replicate, List.length_drop]; omega
end Go.Proofs.YtcjcdimlcfegbaaGreatDoor
end
