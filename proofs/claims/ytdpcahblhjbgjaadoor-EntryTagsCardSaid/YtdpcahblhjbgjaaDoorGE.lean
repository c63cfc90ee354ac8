/- Parts of a proof, one behind the other: SI P0 E1. No condition. -/
import Derived.Test.YtdpcahblhjbgjaaDoorGA
import Derived.Test.YtdpcahblhjbgjaaDoorRkG
import Derived.Shelf.Strconv.Itoa3
import Derived.Lib.AppendIntMem
import Derived.Test.YtdpcahblhjbgjaaDoorRkU
import Derived.Test.YtdpcahblhjbgjaaDoorRkK
section
set_option linter.unusedVariables false
set_option maxRecDepth 100000
namespace Go.Proofs.YtdpcahblhjbgjaaDoor
open Go Reck Ost
def itoaRen : Go.Shelf.Ren := ⟨fun f => match f with
  | 129 => 89
  | 171 => 51
  | 243 => 62
  | 246 => 74
  | 283 => 83
  | 284 => 84
  | 285 => 85
  | 286 => 86
  | 317 => 88
  | 318 => 90
  | 319 => 91
  | 320 => 92
  | 337 => 93
  | 338 => 94
  | f => f, fun t => match t with
  | 0 => 0
  | 2 => 2
  | 3 => 3
  | 4 => 4
  | 5 => 5
  | 9 => 9
  | 20 => 20
  | 37 => 88
  | 46 => 108
  | 51 => 29
  | 53 => 27
  | 171 => 120
  | 173 => 123
  | 212 => 128
  | 213 => 129
  | 232 => 132
  | 233 => 133
  | t => t, fun g => match g with
  | 17 => 0
  | 18 => 1
  | 19 => 2
  | g => g⟩
theorem itoaLays : LaysM.n171 Tryd.prog itoaRen := by
  apply LaysM.n171.mk
  · apply Lays.n171.mk
    all_goals (first | (intro w; kernel_rfl) | kernel_rfl)
  all_goals (first | (intro w; kernel_rfl) | kernel_rfl)
/-- A number's decimal numeral, as bytes. -/
def U.itoa (n : Int) : List Int := (Lib.itoa n).map fun b => (b.toNat : Int)
theorem tab_pow {w0 w : World} {e : Env} {σ : St} (hk : Ok w0 e σ w) {vs : List Value} (h : globAt 0 σ.arrs = some vs) (hv : vs = Lib.pow10Tab.map fun z => Value.int .u64 z) : Lib.TabIs Tryd.prog w "internal/strconv.uint64pow10" .u64 Lib.pow10Tab := by
  subst hv
  obtain ⟨cur, el, fz, h1, h2, _⟩ := hk.globVal h
  unfold Lib.TabIs World.var?
  rw [show Tryd.prog.globalNamed "internal/strconv.uint64pow10" = some 0 by kernel_rfl]
  simp only [Option.bind_some, h1]
  rw [Option.some.injEq]
  apply Array.toList_inj.1
  rw [h2]
theorem itoa_str (n : Int) : strZ (U.itoa n) = ⟨(Lib.itoa n).toArray⟩ ∧ (U.itoa n).all byteZ = true := by
  have h := strZ_lit ⟨(Lib.itoa n).toArray⟩
  exact ⟨h, byteZ_lit ⟨(Lib.itoa n).toArray⟩⟩
structure U.isPow (vs : List Value) : Prop where
  out : vs = Lib.pow10Tab.map fun z => Value.int .u64 z
def tItoa : Tbl := fun f args σ => if f == 51 then match args with
    | [n] => match xiX n, globAt 0 σ.arrs with
      | some (.i64, n), some vs => some fun K => (U.isPow vs ∧ -9223372036854775808 ≤ n ∧ n ≤ 9223372036854775807) ∧ ∀ l : List Int, l = U.itoa n → K (cell (strC l)) σ
      | _, _ => none
    | _ => none
  else none
theorem tItoa_ok : TblOk Tryd.prog tItoa := by
  intro f tm σ C h K hK w0 e w hk vs hvs
  unfold tItoa at h
  split at h
  · rename_i hf
    obtain rfl : f = 51 := by simpa using hf
    split at h
    · split at h
      · rename_i n ps hn hg
        obtain rfl := xiX_eq hn
        simp only [Option.some.injEq] at h; subst h
        obtain ⟨⟨⟨h1⟩, h2, h3⟩, h4⟩ := hK
        obtain ⟨v, rfl⟩ : ∃ v, vs = [v] := by
          match vs, map_len hvs with
          | [v], _ => exact ⟨v, rfl⟩
        simp only [List.map_cons, List.map_nil, List.cons.injEq, and_true] at hvs
        obtain rfl : v = .int .i64 n := by
          have : Reck.av e (xi .i64 n) = some (.int .i64 n) := rfl
          rw [this] at hvs; exact (Option.some.inj hvs).symm
        refine (Any.strconv_Itoa itoaLays n h2 h3 w (tab_pow hk hg h1)).mono ?_
        rintro en w' ⟨rfl, k, os, rfl⟩
        have hb := Lib.below_grow w.heap.size w (Nat.le_refl _) k os
        have hs := itoa_str n
        refine ⟨_, _, e, _, rfl, Env.le.refl e, ?_, hk.world ⟨hb.os, hb.tape, hb.output, hb.size, fun k hk _ => hb.block k hk⟩, h4 _ rfl⟩
        rw [strC_av hs.2 e, hs.1]
      · cases h
    · cases h
  · cases h
end Go.Proofs.YtdpcahblhjbgjaaDoor
end

section
set_option linter.unusedVariables false
set_option linter.unusedSimpArgs false
namespace Go.Proofs.YtdpcahblhjbgjaaDoor
open Go Reck Ost
def nmt : Code → List AV → St → Option Inv := fun _ _ _ => none
abbrev runR (inv : InvF) (tbl : Tbl) (f : Nat) (args : List AV) (σ : St) (K : AV → St → Prop) : Prop := goT Tryd.prog [] (orcR inv nmt tbl) (opMem Tryd.prog) 3000 (.inr (.inr (.inr (.inr f)))) args σ (retC σ K)
/-- With slices.overlaps. -/
abbrev runV (ov : List FuncId) (inv : InvF) (tbl : Tbl) (f : Nat) (args : List AV) (σ : St) (K : AV → St → Prop) : Prop := goT Tryd.prog [] (orcR inv nmt tbl) (opMV Tryd.prog ov) 3000 (.inr (.inr (.inr (.inr f)))) args σ (retC σ K)
abbrev Pat := List AV → St → Option ((AV → St → Prop) → Prop)
def tblIf (f0 : Nat) (p : Pat) : Tbl := fun f args σ => if f == f0 then p args σ else none
def PatOk (f0 : Nat) (p : Pat) : Prop := ∀ tm σ C, p tm σ = some C → ∀ K : AV → St → Prop, C K → ∀ (w0 : World) (e : Env) (w : World), Ok w0 e σ w → ∀ vs : List Value, tm.map (Reck.av e) = vs.map some →
  Calls Tryd.prog f0 vs.toArray w fun en w' => ∃ x σ' e' v, en = .returned v ∧ e.le e' ∧ Reck.av e' x = some v ∧ Ok w0 e' σ' w' ∧ K x σ'
theorem tblIf_ok {f0 : Nat} {p : Pat} (h : PatOk f0 p) : TblOk Tryd.prog (tblIf f0 p) := by
  intro f tm σ C hC
  unfold tblIf at hC
  split at hC
  · rename_i hf
    obtain rfl : f = f0 := by simpa using hf
    exact h tm σ C hC
  · cases hC
theorem as_str {e : Env} {x : AV} {l : List Int} {v : Value} (h : strX x = some l) (hv : Reck.av e x = some v) : Reck.av e (cell (strC l)) = some v := by
  obtain ⟨rfl, hb⟩ := strX_ok h hv
  exact strC_av hb e
theorem as_int {e : Env} {x : AV} {k : IntKind} {n : Int} {v : Value} (h : intX x = some (k, n)) (hv : Reck.av e x = some v) : Reck.av e (xi k n) = some v := by
  rw [intX_ok h hv]; rfl
theorem ones {e : Env} {x : AV} {vs : List Value} (h : [x].map (Reck.av e) = vs.map some) : ∃ v, vs = [v] ∧ Reck.av e x = some v := by
  match vs, map_len h with
  | [v], _ => simp at h; exact ⟨v, rfl, h⟩
theorem twos {e : Env} {x y : AV} {vs : List Value} (h : [x, y].map (Reck.av e) = vs.map some) : ∃ v u, vs = [v, u] ∧ Reck.av e x = some v ∧ Reck.av e y = some u := by
  match vs, map_len h with
  | [v, u], _ => simp at h; exact ⟨v, u, rfl, h.1, h.2⟩
theorem threes {e : Env} {x y z : AV} {vs : List Value} (h : [x, y, z].map (Reck.av e) = vs.map some) : ∃ a b c, vs = [a, b, c] ∧ Reck.av e x = some a ∧ Reck.av e y = some b ∧ Reck.av e z = some c := by
  match vs, map_len h with
  | [a, b, c], _ => simp at h; exact ⟨a, b, c, rfl, h.1, h.2⟩
theorem iw {z n : Int} (h : z = IntKind.wrap .i64 n) (hb : -9223372036854775808 ≤ n ∧ n ≤ 9223372036854775807) : z = n := by
  rw [h]; exact IntWalk.i64_in _ hb
abbrev Rws := List (List CV)
/-- A slice holds A. -/
structure U.Rw (L : Rws) (o n c cap : Nat) (A : Rws) : Prop where
  eq : A = (L.drop o).take n
  len : o + n ≤ L.length
  le : n ≤ c
  cap : o + c ≤ cap
  sm : n ≤ 16777216
theorem U.Rw.n {L : Rws} {o n c cap : Nat} {A : Rws} (h : U.Rw L o n c cap A) : A.length = n := by
  have := h.len
  rw [h.eq, List.length_take, List.length_drop]; omega
theorem U.Rw.all {L : Rws} {n : Nat} (h : n = L.length) {c cap : Nat} (hc : n ≤ c) (hp : c ≤ cap) (hn : n ≤ 16777216) : U.Rw L 0 n c cap L :=
  ⟨by rw [List.drop_zero, h, List.take_length], by omega, hc, by omega, hn⟩
def rowB (el : TypeId) (ks : List CK) (L : Rws) (cap : Nat) (ro : Bool) : ABlk := ⟨el, .o (.rows ks L), [], cap, ro⟩
def U.insR (A : Rws) (i : Int) (r : List CV) : Rws := A.take i.toNat ++ [r] ++ A.drop i.toNat
theorem insR_len (A : Rws) (i : Int) (r : List CV) (hi : 0 ≤ i ∧ i ≤ A.length) : (U.insR A i r).length = A.length + 1 := by
  unfold U.insR
  rw [List.length_append, List.length_append, List.length_take, List.length_drop]
  simp; omega
/-- Told up to its capacity: a slice holds A. -/
structure U.Fu (L : Rws) (n c : Nat) (A : Rws) : Prop where
  eq : A = L.take n
  len : L.length = c
  le : n ≤ c
  sm : n ≤ 1000000
theorem U.Fu.n {L : Rws} {n c : Nat} {A : Rws} (h : U.Fu L n c A) : A.length = n := by
  have := h.len; have := h.le
  rw [h.eq, List.length_take]; omega
theorem insR_get (A : Rws) (i : Nat) (r : List CV) (hi : i ≤ A.length) (j : Nat) : (U.insR A i r)[j]? = if j < i then A[j]? else if j = i then some r else A[j - 1]? := by
  have hl : (A.take i).length = i := by rw [List.length_take]; omega
  unfold U.insR
  rw [Int.toNat_natCast, List.append_assoc]
  by_cases h1 : j < i
  · rw [if_pos h1, List.getElem?_append_left (by omega), List.getElem?_take, if_pos h1]
  · rw [if_neg h1, List.getElem?_append_right (by omega), hl]
    by_cases h2 : j = i
    · rw [if_pos h2, h2, Nat.sub_self]; rfl
    · rw [if_neg h2, show j - i = (j - i - 1) + 1 by omega]
      show (A.drop i)[j - i - 1]? = _
      rw [List.getElem?_drop]; congr 1; omega
theorem mid_get {α : Type} (X M : List α) (a b : Nat) (ha : a ≤ X.length) (hb : b = a + M.length) (j : Nat) : (X.take a ++ M ++ X.drop b)[j]? = if j < a then X[j]? else if j < b then M[j - a]? else X[j]? := by
  subst hb
  exact sand_get X M a ha j
theorem mid_len {α : Type} (X M : List α) (a b : Nat) (hb : b = a + M.length) (h : b ≤ X.length) : (X.take a ++ M ++ X.drop b).length = X.length := by
  rw [List.length_append, List.length_append, List.length_take, List.length_drop, Nat.min_eq_left (by omega)]; omega
theorem mid_one {α : Type} {X Y : List α} {a n : Nat} {r : α} (h : Y = X.take a ++ [r].take n ++ X.drop (a + n)) (hn : n = 1) (ha : a < X.length) : Y = X.take a ++ [r] ++ X.drop (a + 1) ∧ Y.length = X.length := by
  subst hn
  exact ⟨h, by rw [h]; exact mid_len X [r] a (a + 1) rfl ha⟩
theorem mid_row {α : Type} {X Z Y : List α} {a b n m k : Nat} (h : Y = X.take a ++ ((Z.drop b).take m).take n ++ X.drop (a + n)) (hnm : n ≤ m) (hZ : b + n ≤ Z.length) (hX : a + n ≤ X.length) (hk : k = a + n) : Y = X.take a ++ (Z.drop b).take n ++ X.drop k ∧ Y.length = X.length := by
  subst hk
  have e : ((Z.drop b).take m).take n = (Z.drop b).take n := by rw [List.take_take, Nat.min_eq_left hnm]
  rw [e] at h
  have e2 : ((Z.drop b).take n).length = n := by rw [List.length_take, List.length_drop]; omega
  exact ⟨h, by rw [h]; exact mid_len X _ a (a + n) (by rw [e2]) hX⟩
/-- One is put behind all others. -/
theorem insA {L L' T A : Rws} {n c c' : Nat} {r : List CV} (h : U.Fu L n c A) (h1 : L' = L.take n ++ [r] ++ T) (h2 : L'.length = c') (h3 : n + 1 ≤ c') (h4 : n + 1 ≤ 1000000) : U.Fu L' (n + 1) c' (U.insR A n r) := by
  obtain ⟨k1, k2, k3, k4⟩ := h
  have hl : (L.take n ++ [r]).length = n + 1 := by rw [List.length_append, List.length_take]; simp; omega
  refine ⟨?_, h2, h3, h4⟩
  rw [h1, List.take_append_of_le_length (by omega), List.take_of_length_le (by omega), k1]
  unfold U.insR
  rw [Int.toNat_natCast, List.take_take, Nat.min_self, List.drop_take, Nat.sub_self, List.take_zero, List.append_nil]
/-- There is no room. -/
theorem insB {L L1 L2 L3 T A : Rws} {n c c' i : Nat} {r z : List CV} (h : U.Fu L n c A) (hi : i < n) (h1 : L1 = L.take i ++ List.replicate (n + 1 - i) z ++ T) (hl : L1.length = c') (hc : n + 1 ≤ c') (h2 : L2 = L1.take i ++ [r] ++ L1.drop (i + 1)) (h3 : L3 = L2.take (i + 1) ++ (L.drop i).take (n - i) ++ L2.drop (n + 1)) (h4 : n + 1 ≤ 1000000) :
    U.Fu L3 (n + 1) c' (U.insR A i r) := by
  obtain ⟨k1, k2, k3, k4⟩ := h
  have l2 : L2.length = c' := by rw [h2]; simp; omega
  have lm : ((L.drop i).take (n - i)).length = n - i := by rw [List.length_take, List.length_drop]; omega
  have l3 : L3.length = c' := by rw [h3, List.length_append, List.length_append, lm, List.length_take, List.length_drop]; omega
  refine ⟨?_, l3, hc, h4⟩
  apply List.ext_getElem?
  intro j
  rw [insR_get A i r (by rw [k1, List.length_take]; omega), List.getElem?_take, h3, mid_get _ _ _ _ (by omega) (by omega)]
  have g2 : ∀ j, L2[j]? = if j < i then L1[j]? else if j < i + 1 then [r][j - i]? else L1[j]? := fun j => by rw [h2]; exact mid_get L1 [r] i (i + 1) (by omega) rfl j
  have g1 : ∀ j, j < i → L1[j]? = L[j]? := fun j hj => by
    rw [h1, List.append_assoc, List.getElem?_append_left (by rw [List.length_take]; omega), List.getElem?_take, if_pos hj]
  have gA : ∀ j, j < n → A[j]? = L[j]? := fun j hj => by rw [k1, List.getElem?_take, if_pos hj]
  by_cases c1 : j < i
  · rw [if_pos c1, if_pos (by omega), if_pos (by omega), g2, if_pos c1, g1 _ c1, gA _ (by omega)]
  · rw [if_neg c1]
    by_cases c2 : j = i
    · subst c2
      rw [if_pos rfl, if_pos (by omega), if_pos (by omega), g2, if_neg c1, if_pos (by omega), Nat.sub_self]; rfl
    · rw [if_neg c2]
      by_cases c3 : j < n + 1
      · rw [if_pos c3, if_neg (by omega), if_pos c3, List.getElem?_take, if_pos (by omega), List.getElem?_drop, gA _ (by omega)]; congr 1; omega
      · rw [if_neg c3, k1, List.getElem?_take, if_neg (by omega)]
/-- There is room. -/
theorem insC {L L1 L2 A : Rws} {n c i : Nat} {r : List CV} (h : U.Fu L n c A) (hi : i < n) (hc : n + 1 ≤ c) (h1 : L1 = L.take (i + 1) ++ (L.drop i).take (n - i) ++ L.drop (n + 1)) (h2 : L2 = L1.take i ++ [r] ++ L1.drop (i + 1)) (h4 : n + 1 ≤ 1000000) :
    U.Fu L2 (n + 1) c (U.insR A i r) := by
  obtain ⟨k1, k2, k3, k4⟩ := h
  have lm : ((L.drop i).take (n - i)).length = n - i := by rw [List.length_take, List.length_drop]; omega
  have l1 : L1.length = c := by rw [h1, List.length_append, List.length_append, lm, List.length_take, List.length_drop]; omega
  have l2 : L2.length = c := by rw [h2]; simp; omega
  refine ⟨?_, l2, hc, h4⟩
  apply List.ext_getElem?
  intro j
  rw [insR_get A i r (by rw [k1, List.length_take]; omega), List.getElem?_take, h2, mid_get L1 [r] i (i + 1) (by omega) rfl]
  have g1 : ∀ j, L1[j]? = if j < i + 1 then L[j]? else if j < n + 1 then ((L.drop i).take (n - i))[j - (i + 1)]? else L[j]? := fun j => by rw [h1]; exact mid_get _ _ _ _ (by omega) (by omega) j
  have gA : ∀ j, j < n → A[j]? = L[j]? := fun j hj => by rw [k1, List.getElem?_take, if_pos hj]
  by_cases c1 : j < i
  · rw [if_pos c1, if_pos (by omega), if_pos c1, g1, if_pos (by omega), gA _ (by omega)]
  · rw [if_neg c1]
    by_cases c2 : j = i
    · subst c2
      rw [if_pos rfl, if_pos (by omega), if_neg c1, if_pos (by simp), Nat.sub_self]; rfl
    · rw [if_neg c2]
      by_cases c3 : j < n + 1
      · rw [if_pos c3, if_neg c1, if_neg (by simp; omega), g1, if_neg (by omega), if_pos c3, List.getElem?_take, if_pos (by omega), List.getElem?_drop, gA _ (by omega)]; congr 1; omega
      · rw [if_neg c3, k1, List.getElem?_take, if_neg (by omega)]
/-- Whichever way one was put in: the rows are told anew. -/
theorem ins_fin {f : Nat} {vs : Array Value} {w0 w : World} {e : Env} {K : AV → St → Prop} {vb : Option Blk} {el : TypeId} {ks : List CK} {u : Nat} {old : Option ABlk} {Q : Nat → Nat → Rws → Prop}
    (h : Calls Tryd.prog f vs w fun en w' => ∃ x σ' e' v, en = .returned v ∧ e.le e' ∧ Reck.av e' x = some v ∧ Ok w0 e' σ' w' ∧ ∃ (n' c' : Nat) (L' : Rws), Q n' c' L' ∧
      ((x = cell (rslC ⟨1, u, 0, n', c'⟩) ∧ σ' = ⟨[vb], [], 0, [none, some (rowB el ks L' c' false)], 0⟩) ∨ (x = cell (rslC ⟨1, u, 0, n', c'⟩) ∧ σ' = ⟨[vb], [], 0, [old, some (rowB el ks L' c' false)], 0⟩) ∨ (x = cell (rslC ⟨0, u, 0, n', c'⟩) ∧ σ' = ⟨[vb], [], 0, [some (rowB el ks L' c' false)], 0⟩)))
    (hK : ∀ (n' c' : Nat) (L' : Rws), Q n' c' L' → K (cell (rslC ⟨1, u, 0, n', c'⟩)) ⟨[vb], [], 0, [none, some (rowB el ks L' c' false)], 0⟩) :
    Calls Tryd.prog f vs w fun en w' => ∃ x σ' e' v, en = .returned v ∧ e.le e' ∧ Reck.av e' x = some v ∧ Ok w0 e' σ' w' ∧ K x σ' := by
  refine h.mono ?_
  rintro en w' ⟨x, σ', e', v, h1, h2, h3, h4, n', c', L', hQ, hw⟩
  rcases hw with ⟨rfl, rfl⟩ | ⟨rfl, rfl⟩ | ⟨rfl, rfl⟩
  · exact ⟨_, _, e', v, h1, h2, h3, h4, hK _ _ _ hQ⟩
  · exact ⟨_, _, e', v, h1, h2, h3, h4.dropArr 0, hK _ _ _ hQ⟩
  · obtain ⟨q, g1, g2⟩ := h4.mvRows (i := 0) (b := rowB el ks L' c' false) rfl rfl rfl h3
    exact ⟨_, _, _, v, h1, h2.trans (le_arr e' q), g1, g2, hK _ _ _ hQ⟩
end Go.Proofs.YtdpcahblhjbgjaaDoor
end

section
namespace Go.Proofs.YtdpcahblhjbgjaaDoor
open Go Reck Ost
set_option linter.unusedVariables false
set_option maxRecDepth 100000
abbrev ovI : List FuncId := [58, 60]
def sB (L : Rws) (cap : Nat) : ABlk := rowB 9 [.s] L cap false
def sK : List CK := [.s]
def eK : List CK := [.n .i64, .n .u64, .n .u64, .n .u32, .n .u32, .n .i64, .n .i64, .n .i64, .b, .b, .n .i64, .n .u32, .n .i64, .n .i64, .n .i64, .n .i64]
def eC (p a b c d x s t : Int) (en la : Bool) (o ep i h bo us : Int) : List Cell := [xintC .i64 p, xintC .u64 a, xintC .u64 b, xintC .u32 c, xintC .u32 d, xintC .i64 x, xintC .i64 s, xintC .i64 t, .inl (.bool en), .inl (.bool la), xintC .i64 o, xintC .u32 ep, xintC .i64 i, xintC .i64 h, xintC .i64 bo, xintC .i64 us]
def U.eR (p a b c d x s t : Int) (en la : Bool) (o ep i h bo us : Int) : List CV := [.i p, .i a, .i b, .i c, .i d, .i x, .i s, .i t, .b en, .b la, .i o, .i ep, .i i, .i h, .i bo, .i us]
def eB (L : Rws) (cap : Nat) : ABlk := rowB 50 eK L cap false
--PLAIN
theorem insS_vc (K : AV → St → Prop) (L : Rws) (n c : Nat) (i : Int) (k : List Int) : (runV ovI inv0 tbl0 49 [cell (rslC ⟨0, 1, 0, n, c⟩), xi .i64 i, sl ⟨0, 0, 1, none, 1⟩] ⟨[some ⟨9, [strC k], none, 1, false⟩], [], 0, [some (sB L c)], 0⟩ K) = (((0 : Int) ≤ i ∧ i ≤ (↑n : Int) ∧ (↑n : Int) ≤ (↑c : Int)) ∧ ∀ (o0 n1 c2 : Nat), ((↑o0 : Int) = if (↑c : Int) = Option.getD (some i) (0 : Int) then (0 : Int) else (0 : Int) + i) → (↑n1 : Int) = (↑n : Int) - i → (↑c2 : Int) = (↑c : Int) - i → ∀ (z3 : Int), z3 = (↑n : Int) → (i = z3 → ((0 : Nat) + c ≤ List.length L ∧ (0 : Nat) + c ≤ c) ∧ True ∧ n ≤ (16777216 : Nat) ∧ (1 : Nat) ≤ (16777216 : Nat) ∧ ∀ (L'4 T5 : List (List CV)) (n'6 c'7 : Nat), L'4 = List.take n (List.take c (List.drop ((0 : Nat)) L)) ++ [CV.s k] :: U.nilL ++ T5 → n'6 = n + (1 : Nat) → n'6 ≤ c'7 → List.length L'4 = c'7 → K (Sum.inl (Sum.inl (Sum.inr (Sum.inr (Sum.inr (Sum.inr (Sum.inr (Sum.inr (Sum.inr (Sum.inr (Sum.inr (Sum.inr (Sum.inr (Sum.inl { a := (1 : Nat), u := (0 : Nat) + (1 : Nat), o := (0 : Nat), n := n'6, c := c'7 })))))))))))))) { heap := [some { elem := nat_lit 9, cells := [Sum.inr (Sum.inr (Sum.inr (Sum.inr (Sum.inr (Sum.inr (Sum.inr (Sum.inr (Sum.inr (Sum.inr (Sum.inl k))))))))))], j := none, c := (1 : Nat), z := false }], ints := [], opqs := (0 : Nat), arrs := [none, some { elem := (9 : Nat), k := AK.o (Obj.rows [CK.s] L'4), l := [], cap := c'7, ro := false }], junks := (0 : Nat) }) ∧ (¬i = z3 → ∀ (z8 : Int), z8 = IntKind.wrap IntKind.i64 (z3 + (1 : Int)) → ∀ (z9 : Int), z9 = (↑c : Int) → (z9 < z8 → ((0 : Int) ≤ (0 : Int) ∧ (0 : Int) ≤ i ∧ i ≤ (↑c : Int)) ∧ ∀ (o10 n11 c12 : Nat), ((↑o10 : Int) = if (↑c : Int) = Option.getD none (0 : Int) then (0 : Int) else (0 : Int)) → (↑n11 : Int) = i - (0 : Int) → (↑c12 : Int) = (↑c : Int) - (0 : Int) → ∀ (z13 : Int), z13 = IntKind.wrap IntKind.i64 (z3 + (1 : Int)) → ∀ (z14 : Int), z14 = IntKind.wrap IntKind.i64 (z13 - i) → (o10 + c12 ≤ List.length L ∧ o10 + c12 ≤ c) ∧ n11 ≤ (16777216 : Nat) ∧ ((0 : Int) ≤ z14 ∧ z14 ≤ (16777216 : Int)) ∧ (↑c12 : Int) < (↑n11 : Int) + z14 ∧ ∀ (L'15 T16 : List (List CV)) (n'17 c'18 : Nat), L'15 = List.take n11 (List.take c12 (List.drop o10 L)) ++ List.replicate (Int.toNat z14) [CV.s []] ++ T16 → (↑n'17 : Int) = (↑n11 : Int) + z14 → n'17 ≤ c'18 → List.length L'15 = c'18 → ((0 : Int) ≤ i ∧ i ≤ (↑n'17 : Int) ∧ (↑n'17 : Int) ≤ (↑c'18 : Int)) ∧ ∀ (o19 n20 c21 : Nat), ((↑o19 : Int) = if (↑c'18 : Int) = Option.getD (some i) (0 : Int) then (0 : Int) else (0 : Int) + i) → (↑n20 : Int) = (↑n'17 : Int) - i → (↑c21 : Int) = (↑c'18 : Int) - i → (o19 + n20 ≤ List.length L'15 ∧ True) ∧ ∀ (n22 : Nat) (L'23 : List (List CV)), n22 = min ((1 : Nat)) n20 → L'23 = List.take o19 L'15 ++ List.take n22 ([CV.s k] :: U.nilL) ++ List.drop (o19 + n22) L'15 → ∀ (z24 : Int), z24 = IntKind.wrap IntKind.i64 (i + (1 : Int)) → ((0 : Int) ≤ z24 ∧ z24 ≤ (↑n'17 : Int) ∧ (↑n'17 : Int) ≤ (↑c'18 : Int)) ∧ ∀ (o25 n26 c27 : Nat), ((↑o25 : Int) = if (↑c'18 : Int) = Option.getD (some z24) (0 : Int) then (0 : Int) else (0 : Int) + z24) → (↑n26 : Int) = (↑n'17 : Int) - z24 → (↑c27 : Int) = (↑c'18 : Int) - z24 → ((0 : Int) ≤ i ∧ i ≤ (↑n : Int) ∧ (↑n : Int) ≤ (↑c : Int)) ∧ ∀ (o28 n29 c30 : Nat), ((↑o28 : Int) = if (↑c : Int) = Option.getD (some i) (0 : Int) then (0 : Int) else (0 : Int) + i) → (↑n29 : Int) = (↑n : Int) - i → (↑c30 : Int) = (↑c : Int) - i → (o25 + n26 ≤ List.length L'23 ∧ Nat.le (o28 + n29) (List.length L)) ∧ ∀ (n31 : Nat) (L'32 : List (List CV)), n31 = min n29 n26 → L'32 = List.take o25 L'23 ++ List.take n31 (List.take n29 (List.drop o28 L)) ++ List.drop (o25 + n31) L'23 → K (Sum.inl (Sum.inl (Sum.inr (Sum.inr (Sum.inr (Sum.inr (Sum.inr (Sum.inr (Sum.inr (Sum.inr (Sum.inr (Sum.inr (Sum.inr (Sum.inl { a := (1 : Nat), u := (1 : Nat), o := (0 : Nat), n := n'17, c := c'18 })))))))))))))) { heap := [some { elem := nat_lit 9, cells := [Sum.inr (Sum.inr (Sum.inr (Sum.inr (Sum.inr (Sum.inr (Sum.inr (Sum.inr (Sum.inr (Sum.inr (Sum.inl k))))))))))], j := none, c := (1 : Nat), z := false }], ints := [], opqs := (0 : Nat), arrs := [some { elem := (9 : Nat), k := AK.o (Obj.rows [CK.s] L), l := [], cap := c, ro := false }, some { elem := nat_lit 9, k := AK.o (Obj.rows [CK.s] L'32), l := [], cap := c'18, ro := false }], junks := (0 : Nat) }) ∧ (¬z9 < z8 → ∀ (z33 : Int), z33 = IntKind.wrap IntKind.i64 (z3 + (1 : Int)) → ((0 : Int) ≤ (0 : Int) ∧ (0 : Int) ≤ z33 ∧ z33 ≤ (↑c : Int)) ∧ ∀ (o34 n35 c36 : Nat), ((↑o34 : Int) = if (↑c : Int) = Option.getD none (0 : Int) then (0 : Int) else (0 : Int)) → (↑n35 : Int) = z33 - (0 : Int) → (↑c36 : Int) = (↑c : Int) - (0 : Int) → ∀ (z37 : Int), z37 = IntKind.wrap IntKind.i64 (i + (1 : Int)) → ((0 : Int) ≤ z37 ∧ z37 ≤ (↑n35 : Int) ∧ (↑n35 : Int) ≤ (↑c36 : Int)) ∧ ∀ (o38 n39 c40 : Nat), ((↑o38 : Int) = if (↑c36 : Int) = Option.getD (some z37) (0 : Int) then (↑o34 : Int) else (↑o34 : Int) + z37) → (↑n39 : Int) = (↑n35 : Int) - z37 → (↑c40 : Int) = (↑c36 : Int) - z37 → o38 + n39 ≤ List.length L ∧ ∀ (z41 : Int), z41 = IntKind.wrap IntKind.i64 (i + (1 : Int)) → ((0 : Int) ≤ z41 ∧ z41 ≤ (↑n35 : Int) ∧ (↑n35 : Int) ≤ (↑c36 : Int)) ∧ ∀ (o42 n43 c44 : Nat), ((↑o42 : Int) = if (↑c36 : Int) = Option.getD (some z41) (0 : Int) then (↑o34 : Int) else (↑o34 : Int) + z41) → (↑n43 : Int) = (↑n35 : Int) - z41 → (↑c44 : Int) = (↑c36 : Int) - z41 → ((0 : Int) ≤ i ∧ i ≤ (↑n35 : Int) ∧ (↑n35 : Int) ≤ (↑c36 : Int)) ∧ ∀ (o45 n46 c47 : Nat), ((↑o45 : Int) = if (↑c36 : Int) = Option.getD (some i) (0 : Int) then (↑o34 : Int) else (↑o34 : Int) + i) → (↑n46 : Int) = (↑n35 : Int) - i → (↑c47 : Int) = (↑c36 : Int) - i → (o42 + n43 ≤ List.length L ∧ Nat.le (o45 + n46) (List.length L)) ∧ ∀ (n48 : Nat) (L'49 : List (List CV)), n48 = min n46 n43 → L'49 = List.take o42 L ++ List.take n48 (List.take n46 (List.drop o45 L)) ++ List.drop (o42 + n48) L → ((0 : Int) ≤ i ∧ i ≤ (↑n35 : Int) ∧ (↑n35 : Int) ≤ (↑c36 : Int)) ∧ ∀ (o50 n51 c52 : Nat), ((↑o50 : Int) = if (↑c36 : Int) = Option.getD (some i) (0 : Int) then (↑o34 : Int) else (↑o34 : Int) + i) → (↑n51 : Int) = (↑n35 : Int) - i → (↑c52 : Int) = (↑c36 : Int) - i → (o50 + n51 ≤ List.length L'49 ∧ True) ∧ ∀ (n53 : Nat) (L'54 : List (List CV)), n53 = min ((1 : Nat)) n51 → L'54 = List.take o50 L'49 ++ List.take n53 ([CV.s k] :: U.nilL) ++ List.drop (o50 + n53) L'49 → K (Sum.inl (Sum.inl (Sum.inr (Sum.inr (Sum.inr (Sum.inr (Sum.inr (Sum.inr (Sum.inr (Sum.inr (Sum.inr (Sum.inr (Sum.inr (Sum.inl { a := (0 : Nat), u := (1 : Nat), o := o34, n := n35, c := c36 })))))))))))))) { heap := [some { elem := nat_lit 9, cells := [Sum.inr (Sum.inr (Sum.inr (Sum.inr (Sum.inr (Sum.inr (Sum.inr (Sum.inr (Sum.inr (Sum.inr (Sum.inl k))))))))))], j := none, c := (1 : Nat), z := false }], ints := [], opqs := (0 : Nat), arrs := [some { elem := nat_lit 9, k := AK.o (Obj.rows [CK.s] L'54), l := [], cap := c, ro := false }], junks := (0 : Nat) }))) := by kernel_rfl
theorem insE_vc (K : AV → St → Prop) (L : Rws) (n c : Nat) (i : Int) (p a b cc d x s t : Int) (en la : Bool) (o ep id h bo us : Int) : (runV ovI inv0 tbl0 50 [cell (rslC ⟨0, 16, 0, n, c⟩), xi .i64 i, sl ⟨0, 0, 1, none, 1⟩] ⟨[some ⟨50, eC p a b cc d x s t en la o ep id h bo us, none, 16, false⟩], [], 0, [some (eB L c)], 0⟩ K) = (((0 : Int) ≤ i ∧ i ≤ (↑n : Int) ∧ (↑n : Int) ≤ (↑c : Int)) ∧ ∀ (o0 n1 c2 : Nat), ((↑o0 : Int) = if (↑c : Int) = Option.getD (some i) (0 : Int) then (0 : Int) else (0 : Int) + i) → (↑n1 : Int) = (↑n : Int) - i → (↑c2 : Int) = (↑c : Int) - i → ∀ (z3 : Int), z3 = (↑n : Int) → (i = z3 → ((0 : Nat) + c ≤ List.length L ∧ (0 : Nat) + c ≤ c) ∧ True ∧ n ≤ (16777216 : Nat) ∧ (1 : Nat) ≤ (16777216 : Nat) ∧ ∀ (L'4 T5 : List (List CV)) (n'6 c'7 : Nat), L'4 = List.take n (List.take c (List.drop ((0 : Nat)) L)) ++ [CV.i p, CV.i a, CV.i b, CV.i cc, CV.i d, CV.i x, CV.i s, CV.i t, CV.b en, CV.b la, CV.i o, CV.i ep, CV.i id, CV.i h, CV.i bo, CV.i us] :: U.nilL ++ T5 → n'6 = n + (1 : Nat) → n'6 ≤ c'7 → List.length L'4 = c'7 → K (Sum.inl (Sum.inl (Sum.inr (Sum.inr (Sum.inr (Sum.inr (Sum.inr (Sum.inr (Sum.inr (Sum.inr (Sum.inr (Sum.inr (Sum.inr (Sum.inl { a := (1 : Nat), u := (15 : Nat) + (1 : Nat), o := (0 : Nat), n := n'6, c := c'7 })))))))))))))) { heap := [some { elem := nat_lit 50, cells := [Sum.inr (Sum.inr (Sum.inr (Sum.inr (Sum.inr (Sum.inr (Sum.inl (IntKind.i64, p))))))), Sum.inr (Sum.inr (Sum.inr (Sum.inr (Sum.inr (Sum.inr (Sum.inl (IntKind.u64, a))))))), Sum.inr (Sum.inr (Sum.inr (Sum.inr (Sum.inr (Sum.inr (Sum.inl (IntKind.u64, b))))))), Sum.inr (Sum.inr (Sum.inr (Sum.inr (Sum.inr (Sum.inr (Sum.inl (IntKind.u32, cc))))))), Sum.inr (Sum.inr (Sum.inr (Sum.inr (Sum.inr (Sum.inr (Sum.inl (IntKind.u32, d))))))), Sum.inr (Sum.inr (Sum.inr (Sum.inr (Sum.inr (Sum.inr (Sum.inl (IntKind.i64, x))))))), Sum.inr (Sum.inr (Sum.inr (Sum.inr (Sum.inr (Sum.inr (Sum.inl (IntKind.i64, s))))))), Sum.inr (Sum.inr (Sum.inr (Sum.inr (Sum.inr (Sum.inr (Sum.inl (IntKind.i64, t))))))), Sum.inl (Value.bool en), Sum.inl (Value.bool la), Sum.inr (Sum.inr (Sum.inr (Sum.inr (Sum.inr (Sum.inr (Sum.inl (IntKind.i64, o))))))), Sum.inr (Sum.inr (Sum.inr (Sum.inr (Sum.inr (Sum.inr (Sum.inl (IntKind.u32, ep))))))), Sum.inr (Sum.inr (Sum.inr (Sum.inr (Sum.inr (Sum.inr (Sum.inl (IntKind.i64, id))))))), Sum.inr (Sum.inr (Sum.inr (Sum.inr (Sum.inr (Sum.inr (Sum.inl (IntKind.i64, h))))))), Sum.inr (Sum.inr (Sum.inr (Sum.inr (Sum.inr (Sum.inr (Sum.inl (IntKind.i64, bo))))))), Sum.inr (Sum.inr (Sum.inr (Sum.inr (Sum.inr (Sum.inr (Sum.inl (IntKind.i64, us)))))))], j := none, c := (16 : Nat), z := false }], ints := [], opqs := (0 : Nat), arrs := [none, some { elem := (50 : Nat), k := AK.o (Obj.rows [CK.n IntKind.i64, CK.n IntKind.u64, CK.n IntKind.u64, CK.n IntKind.u32, CK.n IntKind.u32, CK.n IntKind.i64, CK.n IntKind.i64, CK.n IntKind.i64, CK.b, CK.b, CK.n IntKind.i64, CK.n IntKind.u32, CK.n IntKind.i64, CK.n IntKind.i64, CK.n IntKind.i64, CK.n IntKind.i64] L'4), l := [], cap := c'7, ro := false }], junks := (0 : Nat) }) ∧ (¬i = z3 → ∀ (z8 : Int), z8 = IntKind.wrap IntKind.i64 (z3 + (1 : Int)) → ∀ (z9 : Int), z9 = (↑c : Int) → (z9 < z8 → ((0 : Int) ≤ (0 : Int) ∧ (0 : Int) ≤ i ∧ i ≤ (↑c : Int)) ∧ ∀ (o10 n11 c12 : Nat), ((↑o10 : Int) = if (↑c : Int) = Option.getD none (0 : Int) then (0 : Int) else (0 : Int)) → (↑n11 : Int) = i - (0 : Int) → (↑c12 : Int) = (↑c : Int) - (0 : Int) → ∀ (z13 : Int), z13 = IntKind.wrap IntKind.i64 (z3 + (1 : Int)) → ∀ (z14 : Int), z14 = IntKind.wrap IntKind.i64 (z13 - i) → (o10 + c12 ≤ List.length L ∧ o10 + c12 ≤ c) ∧ n11 ≤ (16777216 : Nat) ∧ ((0 : Int) ≤ z14 ∧ z14 ≤ (16777216 : Int)) ∧ (↑c12 : Int) < (↑n11 : Int) + z14 ∧ ∀ (L'15 T16 : List (List CV)) (n'17 c'18 : Nat), L'15 = List.take n11 (List.take c12 (List.drop o10 L)) ++ List.replicate (Int.toNat z14) [CV.i (0 : Int), CV.i (0 : Int), CV.i (0 : Int), CV.i (0 : Int), CV.i (0 : Int), CV.i (0 : Int), CV.i (0 : Int), CV.i (0 : Int), CV.b false, CV.b false, CV.i (0 : Int), CV.i (0 : Int), CV.i (0 : Int), CV.i (0 : Int), CV.i (0 : Int), CV.i (0 : Int)] ++ T16 → (↑n'17 : Int) = (↑n11 : Int) + z14 → n'17 ≤ c'18 → List.length L'15 = c'18 → ((0 : Int) ≤ i ∧ i ≤ (↑n'17 : Int) ∧ (↑n'17 : Int) ≤ (↑c'18 : Int)) ∧ ∀ (o19 n20 c21 : Nat), ((↑o19 : Int) = if (↑c'18 : Int) = Option.getD (some i) (0 : Int) then (0 : Int) else (0 : Int) + i) → (↑n20 : Int) = (↑n'17 : Int) - i → (↑c21 : Int) = (↑c'18 : Int) - i → (o19 + n20 ≤ List.length L'15 ∧ True) ∧ ∀ (n22 : Nat) (L'23 : List (List CV)), n22 = min ((1 : Nat)) n20 → L'23 = List.take o19 L'15 ++ List.take n22 ([CV.i p, CV.i a, CV.i b, CV.i cc, CV.i d, CV.i x, CV.i s, CV.i t, CV.b en, CV.b la, CV.i o, CV.i ep, CV.i id, CV.i h, CV.i bo, CV.i us] :: U.nilL) ++ List.drop (o19 + n22) L'15 → ∀ (z24 : Int), z24 = IntKind.wrap IntKind.i64 (i + (1 : Int)) → ((0 : Int) ≤ z24 ∧ z24 ≤ (↑n'17 : Int) ∧ (↑n'17 : Int) ≤ (↑c'18 : Int)) ∧ ∀ (o25 n26 c27 : Nat), ((↑o25 : Int) = if (↑c'18 : Int) = Option.getD (some z24) (0 : Int) then (0 : Int) else (0 : Int) + z24) → (↑n26 : Int) = (↑n'17 : Int) - z24 → (↑c27 : Int) = (↑c'18 : Int) - z24 → ((0 : Int) ≤ i ∧ i ≤ (↑n : Int) ∧ (↑n : Int) ≤ (↑c : Int)) ∧ ∀ (o28 n29 c30 : Nat), ((↑o28 : Int) = if (↑c : Int) = Option.getD (some i) (0 : Int) then (0 : Int) else (0 : Int) + i) → (↑n29 : Int) = (↑n : Int) - i → (↑c30 : Int) = (↑c : Int) - i → (o25 + n26 ≤ List.length L'23 ∧ Nat.le (o28 + n29) (List.length L)) ∧ ∀ (n31 : Nat) (L'32 : List (List CV)), n31 = min n29 n26 → L'32 = List.take o25 L'23 ++ List.take n31 (List.take n29 (List.drop o28 L)) ++ List.drop (o25 + n31) L'23 → K (Sum.inl (Sum.inl (Sum.inr (Sum.inr (Sum.inr (Sum.inr (Sum.inr (Sum.inr (Sum.inr (Sum.inr (Sum.inr (Sum.inr (Sum.inr (Sum.inl { a := (1 : Nat), u := (16 : Nat), o := (0 : Nat), n := n'17, c := c'18 })))))))))))))) { heap := [some { elem := nat_lit 50, cells := [Sum.inr (Sum.inr (Sum.inr (Sum.inr (Sum.inr (Sum.inr (Sum.inl (IntKind.i64, p))))))), Sum.inr (Sum.inr (Sum.inr (Sum.inr (Sum.inr (Sum.inr (Sum.inl (IntKind.u64, a))))))), Sum.inr (Sum.inr (Sum.inr (Sum.inr (Sum.inr (Sum.inr (Sum.inl (IntKind.u64, b))))))), Sum.inr (Sum.inr (Sum.inr (Sum.inr (Sum.inr (Sum.inr (Sum.inl (IntKind.u32, cc))))))), Sum.inr (Sum.inr (Sum.inr (Sum.inr (Sum.inr (Sum.inr (Sum.inl (IntKind.u32, d))))))), Sum.inr (Sum.inr (Sum.inr (Sum.inr (Sum.inr (Sum.inr (Sum.inl (IntKind.i64, x))))))), Sum.inr (Sum.inr (Sum.inr (Sum.inr (Sum.inr (Sum.inr (Sum.inl (IntKind.i64, s))))))), Sum.inr (Sum.inr (Sum.inr (Sum.inr (Sum.inr (Sum.inr (Sum.inl (IntKind.i64, t))))))), Sum.inl (Value.bool en), Sum.inl (Value.bool la), Sum.inr (Sum.inr (Sum.inr (Sum.inr (Sum.inr (Sum.inr (Sum.inl (IntKind.i64, o))))))), Sum.inr (Sum.inr (Sum.inr (Sum.inr (Sum.inr (Sum.inr (Sum.inl (IntKind.u32, ep))))))), Sum.inr (Sum.inr (Sum.inr (Sum.inr (Sum.inr (Sum.inr (Sum.inl (IntKind.i64, id))))))), Sum.inr (Sum.inr (Sum.inr (Sum.inr (Sum.inr (Sum.inr (Sum.inl (IntKind.i64, h))))))), Sum.inr (Sum.inr (Sum.inr (Sum.inr (Sum.inr (Sum.inr (Sum.inl (IntKind.i64, bo))))))), Sum.inr (Sum.inr (Sum.inr (Sum.inr (Sum.inr (Sum.inr (Sum.inl (IntKind.i64, us)))))))], j := none, c := (16 : Nat), z := false }], ints := [], opqs := (0 : Nat), arrs := [some { elem := (50 : Nat), k := AK.o (Obj.rows [CK.n IntKind.i64, CK.n IntKind.u64, CK.n IntKind.u64, CK.n IntKind.u32, CK.n IntKind.u32, CK.n IntKind.i64, CK.n IntKind.i64, CK.n IntKind.i64, CK.b, CK.b, CK.n IntKind.i64, CK.n IntKind.u32, CK.n IntKind.i64, CK.n IntKind.i64, CK.n IntKind.i64, CK.n IntKind.i64] L), l := [], cap := c, ro := false }, some { elem := nat_lit 50, k := AK.o (Obj.rows [CK.n IntKind.i64, CK.n IntKind.u64, CK.n IntKind.u64, CK.n IntKind.u32, CK.n IntKind.u32, CK.n IntKind.i64, CK.n IntKind.i64, CK.n IntKind.i64, CK.b, CK.b, CK.n IntKind.i64, CK.n IntKind.u32, CK.n IntKind.i64, CK.n IntKind.i64, CK.n IntKind.i64, CK.n IntKind.i64] L'32), l := [], cap := c'18, ro := false }], junks := (0 : Nat) }) ∧ (¬z9 < z8 → ∀ (z33 : Int), z33 = IntKind.wrap IntKind.i64 (z3 + (1 : Int)) → ((0 : Int) ≤ (0 : Int) ∧ (0 : Int) ≤ z33 ∧ z33 ≤ (↑c : Int)) ∧ ∀ (o34 n35 c36 : Nat), ((↑o34 : Int) = if (↑c : Int) = Option.getD none (0 : Int) then (0 : Int) else (0 : Int)) → (↑n35 : Int) = z33 - (0 : Int) → (↑c36 : Int) = (↑c : Int) - (0 : Int) → ∀ (z37 : Int), z37 = IntKind.wrap IntKind.i64 (i + (1 : Int)) → ((0 : Int) ≤ z37 ∧ z37 ≤ (↑n35 : Int) ∧ (↑n35 : Int) ≤ (↑c36 : Int)) ∧ ∀ (o38 n39 c40 : Nat), ((↑o38 : Int) = if (↑c36 : Int) = Option.getD (some z37) (0 : Int) then (↑o34 : Int) else (↑o34 : Int) + z37) → (↑n39 : Int) = (↑n35 : Int) - z37 → (↑c40 : Int) = (↑c36 : Int) - z37 → o38 + n39 ≤ List.length L ∧ ∀ (z41 : Int), z41 = IntKind.wrap IntKind.i64 (i + (1 : Int)) → ((0 : Int) ≤ z41 ∧ z41 ≤ (↑n35 : Int) ∧ (↑n35 : Int) ≤ (↑c36 : Int)) ∧ ∀ (o42 n43 c44 : Nat), ((↑o42 : Int) = if (↑c36 : Int) = Option.getD (some z41) (0 : Int) then (↑o34 : Int) else (↑o34 : Int) + z41) → (↑n43 : Int) = (↑n35 : Int) - z41 → (↑c44 : Int) = (↑c36 : Int) - z41 → ((0 : Int) ≤ i ∧ i ≤ (↑n35 : Int) ∧ (↑n35 : Int) ≤ (↑c36 : Int)) ∧ ∀ (o45 n46 c47 : Nat), ((↑o45 : Int) = if (↑c36 : Int) = Option.getD (some i) (0 : Int) then (↑o34 : Int) else (↑o34 : Int) + i) → (↑n46 : Int) = (↑n35 : Int) - i → (↑c47 : Int) = (↑c36 : Int) - i → (o42 + n43 ≤ List.length L ∧ Nat.le (o45 + n46) (List.length L)) ∧ ∀ (n48 : Nat) (L'49 : List (List CV)), n48 = min n46 n43 → L'49 = List.take o42 L ++ List.take n48 (List.take n46 (List.drop o45 L)) ++ List.drop (o42 + n48) L → ((0 : Int) ≤ i ∧ i ≤ (↑n35 : Int) ∧ (↑n35 : Int) ≤ (↑c36 : Int)) ∧ ∀ (o50 n51 c52 : Nat), ((↑o50 : Int) = if (↑c36 : Int) = Option.getD (some i) (0 : Int) then (↑o34 : Int) else (↑o34 : Int) + i) → (↑n51 : Int) = (↑n35 : Int) - i → (↑c52 : Int) = (↑c36 : Int) - i → (o50 + n51 ≤ List.length L'49 ∧ True) ∧ ∀ (n53 : Nat) (L'54 : List (List CV)), n53 = min ((1 : Nat)) n51 → L'54 = List.take o50 L'49 ++ List.take n53 ([CV.i p, CV.i a, CV.i b, CV.i cc, CV.i d, CV.i x, CV.i s, CV.i t, CV.b en, CV.b la, CV.i o, CV.i ep, CV.i id, CV.i h, CV.i bo, CV.i us] :: U.nilL) ++ List.drop (o50 + n53) L'49 → K (Sum.inl (Sum.inl (Sum.inr (Sum.inr (Sum.inr (Sum.inr (Sum.inr (Sum.inr (Sum.inr (Sum.inr (Sum.inr (Sum.inr (Sum.inr (Sum.inl { a := (0 : Nat), u := (16 : Nat), o := o34, n := n35, c := c36 })))))))))))))) { heap := [some { elem := nat_lit 50, cells := [Sum.inr (Sum.inr (Sum.inr (Sum.inr (Sum.inr (Sum.inr (Sum.inl (IntKind.i64, p))))))), Sum.inr (Sum.inr (Sum.inr (Sum.inr (Sum.inr (Sum.inr (Sum.inl (IntKind.u64, a))))))), Sum.inr (Sum.inr (Sum.inr (Sum.inr (Sum.inr (Sum.inr (Sum.inl (IntKind.u64, b))))))), Sum.inr (Sum.inr (Sum.inr (Sum.inr (Sum.inr (Sum.inr (Sum.inl (IntKind.u32, cc))))))), Sum.inr (Sum.inr (Sum.inr (Sum.inr (Sum.inr (Sum.inr (Sum.inl (IntKind.u32, d))))))), Sum.inr (Sum.inr (Sum.inr (Sum.inr (Sum.inr (Sum.inr (Sum.inl (IntKind.i64, x))))))), Sum.inr (Sum.inr (Sum.inr (Sum.inr (Sum.inr (Sum.inr (Sum.inl (IntKind.i64, s))))))), Sum.inr (Sum.inr (Sum.inr (Sum.inr (Sum.inr (Sum.inr (Sum.inl (IntKind.i64, t))))))), Sum.inl (Value.bool en), Sum.inl (Value.bool la), Sum.inr (Sum.inr (Sum.inr (Sum.inr (Sum.inr (Sum.inr (Sum.inl (IntKind.i64, o))))))), Sum.inr (Sum.inr (Sum.inr (Sum.inr (Sum.inr (Sum.inr (Sum.inl (IntKind.u32, ep))))))), Sum.inr (Sum.inr (Sum.inr (Sum.inr (Sum.inr (Sum.inr (Sum.inl (IntKind.i64, id))))))), Sum.inr (Sum.inr (Sum.inr (Sum.inr (Sum.inr (Sum.inr (Sum.inl (IntKind.i64, h))))))), Sum.inr (Sum.inr (Sum.inr (Sum.inr (Sum.inr (Sum.inr (Sum.inl (IntKind.i64, bo))))))), Sum.inr (Sum.inr (Sum.inr (Sum.inr (Sum.inr (Sum.inr (Sum.inl (IntKind.i64, us)))))))], j := none, c := (16 : Nat), z := false }], ints := [], opqs := (0 : Nat), arrs := [some { elem := nat_lit 50, k := AK.o (Obj.rows [CK.n IntKind.i64, CK.n IntKind.u64, CK.n IntKind.u64, CK.n IntKind.u32, CK.n IntKind.u32, CK.n IntKind.i64, CK.n IntKind.i64, CK.n IntKind.i64, CK.b, CK.b, CK.n IntKind.i64, CK.n IntKind.u32, CK.n IntKind.i64, CK.n IntKind.i64, CK.n IntKind.i64, CK.n IntKind.i64] L'54), l := [], cap := c, ro := false }], junks := (0 : Nat) }))) := by kernel_rfl
end Go.Proofs.YtdpcahblhjbgjaaDoor
end
