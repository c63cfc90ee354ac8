/- A reckoner of calls: slices of things without size, told as open values. No condition. -/
import Derived.Test.YtcjcdimlcfegbaaGreatDoorRkAd
set_option linter.unusedVariables false
set_option linter.unusedSimpArgs false
namespace Reck
open Go Ost

/-- A slice of so many things, room for so many. -/
def U.Zs (v : Value) (n c : Nat) : Prop := ∃ a : Option Addr, v = .slice a n c ∧ n ≤ c ∧ (a = none → c = 0)
/-- An address. -/
def U.Zp (v : Value) : Prop := ∃ a : Addr, v = .pointer (some a)
theorem zs_nil : U.Zs (.slice none 0 0) 0 0 := ⟨none, rfl, Nat.le_refl _, fun _ => rfl⟩
/-- The type of what a slice holds, where that has no size. -/
def zEl (P : Program) (t : TypeId) : Option TypeId :=
  match P.underlying t with
  | some (.slice el) => match P.info? el with
    | some i => match i.zero with
      | some z => if Nat.beq i.size 0 && Nat.beq i.bytes 0 && Nat.beq z.cells.size 0 then some el else none
      | none => none
    | none => none
  | _ => none
theorem zEl_some {P : Program} {t el : TypeId} (h : zEl P t = some el) : P.underlying t = some (.slice el) ∧ ∃ i z, P.info? el = some i ∧ i.zero = some z ∧ i.size = 0 ∧ i.bytes = 0 ∧ z.cells = #[] := by
  unfold zEl at h
  split at h
  · rename_i el' hu
    split at h
    · rename_i i hi
      split at h
      · rename_i z hz
        split at h
        · rename_i hc
          simp only [Option.some.injEq] at h; subst h
          simp only [Bool.and_eq_true, Nat.beq_eq] at hc
          exact ⟨hu, i, z, hi, hz, hc.1.1, hc.1.2, Array.eq_empty_of_size_eq_zero hc.2⟩
        · cases h
      · cases h
    · cases h
  · cases h
def zv : AV → Option Value
  | .inl (.inl (.inl v)) => some v
  | .inl (.inl c) => opnX c
  | _ => none
theorem zv_ok {e : Env} {x : AV} {v u : Value} (h : zv x = some v) (hu : av e x = some u) : u = v := by
  unfold zv at h
  split at h
  · simp only [Option.some.injEq] at h; subst h; exact av_lit hu
  · rename_i c hn
    obtain rfl := opnX_eq h
    simp only [av, v1, opnC, cv] at hu
    split at hu
    · simpa using hu.symm
    · cases hu
  · cases h
theorem opnC_av {e : Env} {v : Value} (h : v.oneCell' = true) : av e (cell (opnC v)) = some v := by
  simp [av, v1, cell, opnC, cv, h]
abbrev KT := (AV → St → Prop) → Prop
def lenZ (v : Value) (σ : St) : Option KT := some fun K => ∃ n c : Nat, U.Zs v n c ∧ ∀ z : Int, z = n → K (cell (xintC .i64 z)) σ
def capZ (v : Value) (σ : St) : Option KT := some fun K => ∃ n c : Nat, U.Zs v n c ∧ ∀ z : Int, z = c → K (cell (xintC .i64 z)) σ
/-- An operand that need not be there. -/
def bndZ (tm : List AV) (d : Int) : Option Operand → Option Int
  | none => some d
  | some x => match intX (evalA tm x) with
    | some (_, z) => some z
    | none => none
def sliceZ (tm : List AV) (v : Value) (lo hi mx : Option Operand) (σ : St) : Option KT :=
  match bndZ tm 0 lo, bndZ tm 0 hi, bndZ tm 0 mx, hi.isSome, mx.isSome with
  | some l, some _, some _, false, false => some fun K => ∃ n c : Nat, U.Zs v n c ∧ (0 ≤ l ∧ l ≤ (n : Int)) ∧ ∀ (v' : Value) (n' c' : Nat), (n' : Int) = (n : Int) - l → (c' : Int) = (c : Int) - l → U.Zs v' n' c' → K (cell (opnC v')) σ
  | some l, some h, some _, true, false => some fun K => ∃ n c : Nat, U.Zs v n c ∧ (0 ≤ l ∧ l ≤ h ∧ h ≤ (c : Int)) ∧ ∀ (v' : Value) (n' c' : Nat), (n' : Int) = h - l → (c' : Int) = (c : Int) - l → U.Zs v' n' c' → K (cell (opnC v')) σ
  | some l, some h, some m, true, true => some fun K => ∃ n c : Nat, U.Zs v n c ∧ (0 ≤ l ∧ l ≤ h ∧ h ≤ m ∧ m ≤ (c : Int)) ∧ ∀ (v' : Value) (n' c' : Nat), (n' : Int) = h - l → (c' : Int) = m - l → U.Zs v' n' c' → K (cell (opnC v')) σ
  | _, _, _, _, _ => none
/-- What is appended: so many. -/
def srcZ (P : Program) (u : TypeId) (y : AV) : Option (Nat → Prop) :=
  match P.underlying u with
  | some (.int _) => match intX y with
    | some (_, z) => some fun m => (m : Int) = z
    | none => none
  | some (.slice _) => match zv y with
    | some v => some fun m => ∃ c, U.Zs v m c
    | none => none
  | _ => none
def appZ (P : Program) (u : TypeId) (v : Value) (y : AV) (σ : St) : Option KT :=
  match srcZ P u y with
  | some S => some fun K => ∃ n c m : Nat, U.Zs v n c ∧ S m ∧ n + m ≤ 16777216 ∧ ∀ (v' : Value) (c' : Nat), U.Zs v' (n + m) c' → K (cell (opnC v')) σ
  | none => none
def copyZ (v u : Value) (σ : St) : Option KT := some fun K => ∃ n c m d : Nat, U.Zs v n c ∧ U.Zs u m d ∧ ∀ z : Int, z = (min m n : Nat) → K (cell (xintC .i64 z)) σ
def clearZ (v : Value) (σ : St) : Option KT := some fun K => ∃ n c : Nat, U.Zs v n c ∧ K (lit (.tuple #[])) σ
def idxZ (v : Value) (y : AV) (σ : St) : Option KT :=
  match intX y with
  | some (_, i) => some fun K => ∃ n c : Nat, U.Zs v n c ∧ (0 ≤ i ∧ i < n) ∧ ∀ p : Value, U.Zp p → K (cell (opnC p)) σ
  | none => none
def zTy (P : Program) (t : TypeId) : Bool := match isAggT P t, sizeT P t with
  | some true, some 0 => true
  | _, _ => false
def loadZ (v : Value) (σ : St) : Option KT := some fun K => U.Zp v ∧ K (.inl (.inr [])) σ
def storeZ (v : Value) (y : AV) (σ : St) : Option KT := match y with
  | .inl (.inr []) => some fun K => U.Zp v ∧ K (lit undef) σ
  | _ => none
def isEmp : AV → Bool
  | .inl (.inr []) => true
  | _ => false
def buildZ (n : Nat) (ps : List (Nat × AV)) (σ : St) : Option KT :=
  if ps.all fun p => isEmp p.2 then some fun K => ∀ v' : Value, U.Zs v' n n → K (cell (opnC v')) σ else none
def makeZ (l c : AV) (σ : St) : Option KT :=
  match intX l, intX c with
  | some (_, l), some (_, c) => some fun K => (0 ≤ l ∧ l ≤ c ∧ c ≤ 16777216) ∧ ∀ (v' : Value) (n m : Nat), (n : Int) = l → (m : Int) = c → U.Zs v' n m → K (cell (opnC v')) σ
  | _, _ => none
/-- slices.overlaps, of things without size. -/
def isOvZ (P : Program) (g : FuncId) : Bool :=
  isOverlaps P g && (match P.funcs[g]? with
    | some fn => match fn.params[0]? with
      | some t => (zEl P t).isSome
      | none => false
    | none => false)
def ovZ (v u : Value) (σ : St) : Option KT := some fun K => ∃ n c m d : Nat, U.Zs v n c ∧ U.Zs u m d ∧ K (lit (.bool false)) σ
/-- With slices of things without size. -/
def opMZ (P : Program) (opM : OpM) : OpM := fun tm o σ =>
  match o.op with
  | .load t x => match zTy P t, zv (evalA tm x) with
    | true, some v => loadZ v σ
    | _, _ => opM tm o σ
  | .store t x y => match zTy P t, zv (evalA tm x) with
    | true, some v => storeZ v (evalA tm y) σ
    | _, _ => opM tm o σ
  | .indexAddr t x y => match zEl P t, zv (evalA tm x) with
    | some _, some v => idxZ v (evalA tm y) σ
    | _, _ => opM tm o σ
  | .slice t x lo hi mx => match zEl P t, zv (evalA tm x) with
    | some _, some v => sliceZ tm v lo hi mx σ
    | _, _ => opM tm o σ
  | .buildSlice t n ps => match zEl P t with
    | some _ => buildZ n (evp tm ps.toList) σ
    | none => opM tm o σ
  | .makeSlice t l c => match zEl P t with
    | some _ => makeZ (evalA tm l) (evalA tm c) σ
    | none => opM tm o σ
  | .call c => match c.argTypes.toList with
    | t :: us => match zEl P t with
      | some _ => match c.callee, us, c.args.toList with
        | .value (.func g), _, [x, y] => if isOvZ P g then match zv (evalA tm x), zv (evalA tm y) with
            | some v, some u => ovZ v u σ
            | _, _ => opM tm o σ
          else opM tm o σ
        | .builtin .len, _, [x] => match zv (evalA tm x) with
          | some v => lenZ v σ
          | none => opM tm o σ
        | .builtin .cap, _, [x] => match zv (evalA tm x) with
          | some v => capZ v σ
          | none => opM tm o σ
        | .builtin .append, u :: _, [x, y] => match zv (evalA tm x) with
          | some v => appZ P u v (evalA tm y) σ
          | none => opM tm o σ
        | .builtin .copy, _, [x, y] => match zv (evalA tm x), zv (evalA tm y) with
          | some v, some u => copyZ v u σ
          | _, _ => opM tm o σ
        | .builtin .clear, _, [x] => match zv (evalA tm x) with
          | some v => clearZ v σ
          | none => opM tm o σ
        | _, _, _ => opM tm o σ
      | none => opM tm o σ
    | [] => opM tm o σ
  | _ => opM tm o σ

section
variable {P : Program} {w0 w w' : World} {e : Env} {σ : St} {tm : List AV} {a : Act}
theorem zs_one {v : Value} {n c : Nat} (h : U.Zs v n c) : v.oneCell' = true := by
  obtain ⟨a, rfl, _⟩ := h; rfl
theorem zp_one {v : Value} (h : U.Zp v) : v.oneCell' = true := by
  obtain ⟨a, rfl⟩ := h; rfl
theorem run_newZ (el : TypeId) (hk : Ok w0 e σ w) : Ok w0 e σ (w.alloc (.cells #[] el)) :=
  hk.world ((Only.refl (fun _ => False) w).alloc _)
theorem zeroCells_e (n : Nat) : Builtin.zeroCells (#[] : Array Value) n = #[] := by
  unfold Builtin.zeroCells
  apply Array.toList_inj.1
  have : n * (#[] : Array Value).size = 0 := Nat.mul_zero n
  rw [this]; simp
theorem lenZ_ok {t el : TypeId} {v : Value} {T : KT} {K : AV → St → Prop} {ts : Array TypeId} {ty : TypeId} (ht : zEl P t = some el) (h : lenZ v σ = some T) (hK : T K) (hts : ts[0]? = some t) :
    ∃ z : Int, K (cell (xintC .i64 z)) σ ∧ (Builtin.len_ ts ty #[v]).run P w = .ok (.int .i64 z) w := by
  simp only [lenZ, Option.some.injEq] at h; subst h
  obtain ⟨n, c, ⟨a, rfl, _⟩, hK⟩ := hK
  exact ⟨_, hK _ rfl, by simp [Builtin.len_, hts, run_underlying (zEl_some ht).1, goInt]⟩
theorem capZ_ok {t el : TypeId} {v : Value} {T : KT} {K : AV → St → Prop} {ts : Array TypeId} {ty : TypeId} (ht : zEl P t = some el) (h : capZ v σ = some T) (hK : T K) (hts : ts[0]? = some t) :
    ∃ z : Int, K (cell (xintC .i64 z)) σ ∧ (Builtin.cap_ ts ty #[v]).run P w = .ok (.int .i64 z) w := by
  simp only [capZ, Option.some.injEq] at h; subst h
  obtain ⟨n, c, ⟨a, rfl, _⟩, hK⟩ := hK
  exact ⟨_, hK _ rfl, by simp [Builtin.cap_, hts, run_underlying (zEl_some ht).1, goInt]⟩
theorem clearZ_ok {t el : TypeId} {v : Value} {T : KT} {K : AV → St → Prop} {ts : Array TypeId} {ty : TypeId} (ht : zEl P t = some el) (h : clearZ v σ = some T) (hK : T K) (hts : ts[0]? = some t) :
    K (lit (.tuple #[])) σ ∧ (Builtin.clear_ ts ty #[v]).run P w = .ok (.tuple #[]) w := by
  simp only [clearZ, Option.some.injEq] at h; subst h
  obtain ⟨n, c, ⟨a, rfl, hn, ha⟩, hK⟩ := hK
  obtain ⟨hu, i, z, hi, hz, h0, hb, hzc⟩ := zEl_some ht
  refine ⟨hK, ?_⟩
  cases a with
  | none => simp [Builtin.clear_, hts, run_underlying hu]
  | some a => cases n with
    | zero => simp [Builtin.clear_, hts, run_underlying hu]
    | succ n =>
      have e0 : (Builtin.zeroCells (#[] : Array Value) (n + 1)).toList = [] := by rw [zeroCells_e]
      simp [Builtin.clear_, hts, run_underlying hu, run_zeroT hi hz, hzc, e0, storeCells]
theorem copyZ_ok {t el : TypeId} {v u : Value} {T : KT} {K : AV → St → Prop} {ts : Array TypeId} {ty : TypeId} (ht : zEl P t = some el) (h : copyZ v u σ = some T) (hK : T K) (hts : ts[0]? = some t) :
    ∃ z : Int, K (cell (xintC .i64 z)) σ ∧ (Builtin.copy_ ts ty #[v, u]).run P w = .ok (.int .i64 z) w := by
  simp only [copyZ, Option.some.injEq] at h; subst h
  obtain ⟨n, c, m, d, ⟨a, rfl, _⟩, ⟨b, rfl, _⟩, hK⟩ := hK
  obtain ⟨hu, i, z, hi, hz, h0, hb, hzc⟩ := zEl_some ht
  refine ⟨_, hK _ rfl, ?_⟩
  cases a <;> cases b <;> simp [Builtin.copy_, hts, run_underlying hu, Builtin.lenOf, Go.sizeOf, typeInfo, hi, h0, Builtin.firstCells, loadCells, loadCellsFrom, storeCells, goInt]
theorem idxZ_ok {t el : TypeId} {v : Value} {y : AV} {u : Value} {T : KT} {K : AV → St → Prop} (ht : zEl P t = some el) (h : idxZ v y σ = some T) (hK : T K) (hy : av e y = some u) :
    ∃ p : Value, U.Zp p ∧ K (cell (opnC p)) σ ∧ (Instr.indexAt t v u).run P w = .ok p w := by
  unfold idxZ at h
  split at h
  · rename_i k j hj
    simp only [Option.some.injEq] at h; subst h
    obtain rfl := intX_ok hj hy
    obtain ⟨n, c, ⟨a, rfl, hn, ha⟩, hlt, hK⟩ := hK
    obtain ⟨hu, i, z, hi, hz, h0, hb, hzc⟩ := zEl_some ht
    cases a with
    | none => have := ha rfl; omega
    | some a =>
      refine ⟨.pointer (some (a.add (j.toNat * 0))), ⟨_, rfl⟩, hK _ ⟨_, rfl⟩, ?_⟩
      simp [Instr.indexAt, asIntOf, run_underlying hu, hlt, Go.sizeOf, typeInfo, hi, h0]
  · cases h
theorem run_zTy {t : TypeId} (h : zTy P t = true) (w : World) : (isAgg t).run P w = .ok true w ∧ (Go.sizeOf t).run P w = .ok 0 w := by
  unfold zTy at h
  split at h
  · rename_i h1 h2
    exact ⟨run_isAggT h1 w, run_sizeT h2 w⟩
  · cases h
theorem loadZ_ok {t : TypeId} {v : Value} {T : KT} {K : AV → St → Prop} (ht : zTy P t = true) (h : loadZ v σ = some T) (hK : T K) :
    K (.inl (.inr [])) σ ∧ (Instr.loadAt t v).run P w = .ok (.agg #[]) w := by
  simp only [loadZ, Option.some.injEq] at h; subst h
  obtain ⟨⟨a, rfl⟩, hK⟩ := hK
  obtain ⟨h1, h2⟩ := run_zTy ht w
  exact ⟨hK, by simp [Instr.loadAt, Instr.sureAddr, loadVar, h1, h2, loadCells, loadCellsFrom]⟩
theorem emp_av {y : AV} {u : Value} (h : isEmp y = true) (hu : av e y = some u) : u = .agg #[] := by
  unfold isEmp at h
  split at h
  · simpa [av, v1, seqO] using hu.symm
  · cases h
theorem storeZ_ok {t : TypeId} {v u : Value} {y : AV} {T : KT} {K : AV → St → Prop} (ht : zTy P t = true) (h : storeZ v y σ = some T) (hK : T K) (hy : av e y = some u) :
    K (lit undef) σ ∧ (Instr.storeAt t v u).run P w = .ok () w := by
  unfold storeZ at h
  split at h
  · simp only [Option.some.injEq] at h; subst h
    obtain ⟨⟨a, rfl⟩, hK⟩ := hK
    obtain ⟨h1, h2⟩ := run_zTy ht w
    obtain rfl := emp_av rfl hy
    exact ⟨hK, by simp [Instr.storeAt, Instr.sureAddr, storeVar, h2, Value.cells, storeCells]⟩
  · cases h
theorem bndZ_ok (ht : Tm e tm a) {d z : Int} {x : Operand} (h : bndZ tm d (some x) = some z) : ∃ k, a.eval x = .int k z := by
  simp only [bndZ] at h
  split at h
  · rename_i k z' hz
    simp only [Option.some.injEq] at h; subst h
    exact ⟨k, intX_ok hz (evalA_ok ht x)⟩
  · cases h
theorem run_bound {x : Value} {k : IntKind} {z : Int} {y : Nat} {cd : BoundsCode} (hx : x = .int k z) (h : 0 ≤ z ∧ z ≤ y) (w : World) : (Instr.sliceBound x y cd).run P w = .ok z.toNat w := by
  subst hx
  simp [Instr.sliceBound, asIntOf, h]
theorem sliceZ_ok {t el : TypeId} {v : Value} {lo hi mx : Option Operand} {T : KT} {K : AV → St → Prop} (ht : zEl P t = some el) (hT : Tm e tm a) (h : sliceZ tm v lo hi mx σ = some T) (hK : T K) :
    ∃ p : Value, p.oneCell' = true ∧ K (cell (opnC p)) σ ∧ (Instr.slice t v (lo.map a.eval) (hi.map a.eval) (mx.map a.eval)).run P w = .ok p w := by
  have main : ∀ {l hh m : Int}, bndZ tm 0 lo = some l → bndZ tm 0 hi = some hh → bndZ tm 0 mx = some m → (mx.isSome && hi.isNone) = false →
      (∃ n c : Nat, U.Zs v n c ∧ (0 ≤ l ∧ l ≤ (if hi.isSome then hh else (n : Int)) ∧ (if hi.isSome then hh else (n : Int)) ≤ (if mx.isSome then m else (c : Int)) ∧ (if mx.isSome then m else (c : Int)) ≤ c) ∧
        ∀ (v' : Value) (n' c' : Nat), (n' : Int) = (if hi.isSome then hh else (n : Int)) - l → (c' : Int) = (if mx.isSome then m else (c : Int)) - l → U.Zs v' n' c' → K (cell (opnC v')) σ) →
      ∃ p : Value, p.oneCell' = true ∧ K (cell (opnC p)) σ ∧ (Instr.slice t v (lo.map a.eval) (hi.map a.eval) (mx.map a.eval)).run P w = .ok p w := by
    intro l hh m hl hhi hm hms hK
    obtain ⟨n, c, ⟨b, rfl, hn, hb⟩, ⟨c0, c1, c2, c3⟩, hK⟩ := hK
    obtain ⟨hu, i, z, hi', hz, h0, hby, hzc⟩ := zEl_some ht
    obtain ⟨H, hH⟩ : ∃ H : Nat, (H : Int) = (if hi.isSome then hh else (n : Int)) := ⟨_, Int.toNat_of_nonneg (by omega)⟩
    obtain ⟨M, hM⟩ : ∃ M : Nat, (M : Int) = (if mx.isSome then m else (c : Int)) := ⟨_, Int.toNat_of_nonneg (by omega)⟩
    obtain ⟨L, hL⟩ : ∃ L : Nat, (L : Int) = l := ⟨_, Int.toNat_of_nonneg c0⟩
    rw [← hH] at c1 c2 hK
    rw [← hM] at c2 c3 hK
    subst hL
    refine ⟨.slice (if M = L then b else b.map (·.add (L * 0))) (H - L) (M - L), rfl, hK _ (H - L) (M - L) (by omega) (by omega) ⟨_, rfl, by omega, ?_⟩, ?_⟩
    · intro hbn
      have : b = none := by
        split at hbn
        · exact hbn
        · cases b with
          | none => rfl
          | some b => cases hbn
      have := hb this
      omega
    · have r1 : ∀ w, (Instr.sliceBounds true n c (lo.map a.eval) (hi.map a.eval) (mx.map a.eval)).run P w = .ok (L, H, M) w := by
        intro w
        unfold Instr.sliceBounds
        cases mx with
        | some xm =>
          obtain ⟨km, em⟩ := bndZ_ok hT hm
          cases hi with
          | none => cases hms
          | some xh =>
            obtain ⟨kh, eh⟩ := bndZ_ok hT hhi
            simp only [Option.isSome_some, if_true] at hM hH
            have m1 := run_bound (P := P) (y := c) (cd := .slice3Acap) em (by omega) w
            have h1 := run_bound (P := P) (y := M) (cd := .slice3B) eh (by omega) w
            have em' : m.toNat = M := by omega
            have eh' : hh.toNat = H := by omega
            rw [em'] at m1; rw [eh'] at h1
            cases lo with
            | none =>
              have : (0 : Int) = (L : Int) := by simpa [bndZ] using hl
              have : L = 0 := by omega
              subst this
              simp [m1, h1]
            | some xl =>
              obtain ⟨kl, el'⟩ := bndZ_ok hT hl
              have l1 := run_bound (P := P) (y := H) (cd := .slice3C) el' (by omega) w
              simp [m1, h1, l1]
        | none =>
          simp only [Option.isSome_none, Bool.false_eq_true, if_false] at hM
          have hMc : M = c := by omega
          subst hMc
          cases hi with
          | none =>
            simp only [Option.isSome_none, Bool.false_eq_true, if_false] at hH
            have hHn : H = n := by omega
            subst hHn
            cases lo with
            | none =>
              have : (0 : Int) = (L : Int) := by simpa [bndZ] using hl
              have : L = 0 := by omega
              subst this
              simp
            | some xl =>
              obtain ⟨kl, el'⟩ := bndZ_ok hT hl
              have l1 := run_bound (P := P) (y := H) (cd := .sliceB) el' (by omega) w
              simp [l1]
          | some xh =>
            obtain ⟨kh, eh⟩ := bndZ_ok hT hhi
            simp only [Option.isSome_some, if_true] at hH
            have h1 := run_bound (P := P) (y := M) (cd := .sliceAcap) eh (by omega) w
            have eh' : hh.toNat = H := by omega
            rw [eh'] at h1
            cases lo with
            | none =>
              have : (0 : Int) = (L : Int) := by simpa [bndZ] using hl
              have : L = 0 := by omega
              subst this
              simp [h1]
            | some xl =>
              obtain ⟨kl, el'⟩ := bndZ_ok hT hl
              have l1 := run_bound (P := P) (y := H) (cd := .sliceB) el' (by omega) w
              simp [h1, l1]
      simp [Instr.slice, run_underlying hu, r1, Go.sizeOf, typeInfo, hi', h0]
  unfold sliceZ at h
  split at h
  · rename_i l x y hl hx hy h1 h2
    simp only [Option.some.injEq] at h; subst h
    obtain ⟨n, c, q1, ⟨q2, q3⟩, q4⟩ := hK
    refine main hl hx hy (by simp [h2]) ⟨n, c, q1, ?_, ?_⟩
    · obtain ⟨_, _, hn, _⟩ := q1
      simp only [h1, h2, Bool.false_eq_true, if_false]
      exact ⟨q2, q3, by omega, Int.le_refl _⟩
    · simp only [h1, h2, Bool.false_eq_true, if_false]; exact q4
  · rename_i l x y hl hx hy h1 h2
    simp only [Option.some.injEq] at h; subst h
    obtain ⟨n, c, q1, ⟨q2, q3, q5⟩, q4⟩ := hK
    refine main hl hx hy (by simp [h2]) ⟨n, c, q1, ?_, ?_⟩
    · simp only [h1, h2, Bool.false_eq_true, if_false, if_true]
      exact ⟨q2, q3, q5, Int.le_refl _⟩
    · simp only [h1, h2, Bool.false_eq_true, if_false, if_true]; exact q4
  · rename_i l x y hl hx hy h1 h2
    simp only [Option.some.injEq] at h; subst h
    obtain ⟨n, c, q1, ⟨q2, q3, q5, q6⟩, q4⟩ := hK
    refine main hl hx hy (by cases hi <;> simp_all) ⟨n, c, q1, ?_, ?_⟩
    · simp only [h1, h2, if_true]
      exact ⟨q2, q3, q5, q6⟩
    · simp only [h1, h2, if_true]; exact q4
  · cases h
theorem fill_e {ps : List (Nat × Value)} (h : ∀ p ∈ ps, p.2 = .agg #[]) : Instr.fill (fun i => some (i * 0, 0)) #[] ps = some #[] := by
  induction ps with
  | nil => rfl
  | cons p l ih =>
    obtain ⟨i, v⟩ := p
    obtain rfl : v = .agg #[] := h _ (List.mem_cons_self ..)
    have := ih fun p hp => h p (List.mem_cons_of_mem _ hp)
    have e : ∀ f : Array Value → Value × Nat → Array Value, Array.foldl f #[] (#[] : Array Value).zipIdx 0 0 = #[] := fun f => by
      have : (#[] : Array Value).zipIdx = #[] := by apply Array.toList_inj.1; simp
      rw [this]; simp
    simp [Instr.fill, Value.cells, e]
    simpa using this
theorem parts_emp {ps : List (Nat × AV)} {vs : List (Nat × Value)} (hp : Parts e ps vs) (h : ps.all (fun p => isEmp p.2) = true) : ∀ p ∈ vs, p.2 = .agg #[] := by
  intro p hpv
  obtain ⟨k, hk⟩ := List.getElem?_of_mem hpv
  have h1 : (vs.map (fun p => (p.1, some p.2)))[k]? = some (p.1, some p.2) := by simp [hk]
  rw [← hp, List.getElem?_map] at h1
  cases hq : ps[k]? with
  | none => simp [hq] at h1
  | some q =>
    simp only [hq, Option.map_some, Option.some.injEq, Prod.mk.injEq] at h1
    exact emp_av (List.all_eq_true.1 h q (List.mem_of_getElem? hq)) h1.2
theorem buildZ_ok (hk : Ok w0 e σ w) {t el : TypeId} {n : Nat} {ps : List (Nat × AV)} {vs : Array (Nat × Value)} {T : KT} {K : AV → St → Prop} (ht : zEl P t = some el) (h : buildZ n ps σ = some T) (hK : T K) (hp : Parts e ps vs.toList) :
    ∃ (p : Value) (w' : World), p.oneCell' = true ∧ K (cell (opnC p)) σ ∧ Ok w0 e σ w' ∧ (Instr.buildSlice t n vs).run P w = .ok p w' := by
  unfold buildZ at h
  split at h
  · rename_i hall
    simp only [Option.some.injEq] at h; subst h
    obtain ⟨hu, i, z, hi, hz, h0, hb, hzc⟩ := zEl_some ht
    have hv : ∀ p ∈ vs.toList, p.2 = .agg #[] := by
      intro p hp'
      exact parts_emp hp hall p hp'
    have hf := fill_e hv
    have r0 : Array.range 0 = #[] := rfl
    refine ⟨.slice (some ⟨w.heap.size, 0, none⟩) n n, w.alloc (.cells #[] el), rfl, hK _ ⟨_, rfl, Nat.le_refl _, fun h => by cases h⟩, run_newZ el hk, ?_⟩
    have hf' : Instr.fill (fun i => some (0, 0)) #[] vs.toList = some #[] := by simpa using hf
    simp [Instr.buildSlice, run_underlying hu, Go.sizeOf, typeInfo, hi, h0, r0, hf', run_newRowT]
  · cases h
theorem makeZ_ok (hk : Ok w0 e σ w) {t el : TypeId} {l c : AV} {vl vc : Value} {T : KT} {K : AV → St → Prop} (ht : zEl P t = some el) (h : makeZ l c σ = some T) (hK : T K) (hl : av e l = some vl) (hc : av e c = some vc) :
    ∃ (p : Value) (w' : World), p.oneCell' = true ∧ K (cell (opnC p)) σ ∧ Ok w0 e σ w' ∧ (Instr.makeSlice t vl vc).run P w = .ok p w' := by
  unfold makeZ at h
  split at h
  · rename_i kl l' kc c' h1 h2
    simp only [Option.some.injEq] at h; subst h
    obtain rfl := intX_ok h1 hl
    obtain rfl := intX_ok h2 hc
    obtain ⟨⟨b0, b1, b2⟩, hK⟩ := hK
    obtain ⟨hu, i, z, hi, hz, h0, hb, hzc⟩ := zEl_some ht
    obtain ⟨n, rfl⟩ : ∃ n : Nat, (n : Int) = l' := ⟨_, Int.toNat_of_nonneg b0⟩
    obtain ⟨m, rfl⟩ : ∃ m : Nat, (m : Int) = c' := ⟨_, Int.toNat_of_nonneg (by omega)⟩
    have r0 : Array.range 0 = #[] := rfl
    have w1 : IntKind.i64.wrap (n : Int) = n := IntWalk.i64_in _ (by omega)
    have w2 : IntKind.i64.wrap (m : Int) = m := IntWalk.i64_in _ (by omega)
    refine ⟨.slice (some ⟨w.heap.size, 0, none⟩) n m, w.alloc (.cells #[] el), rfl, hK _ n m rfl rfl ⟨_, rfl, by omega, fun h => by cases h⟩, run_newZ el hk, ?_⟩
    have t1 : ¬ ((m : Int) < 0) := by omega
    have t2 : ¬ ((n : Int) < 0) := by omega
    have t3 : ¬ ((m : Int) < (n : Int)) := by omega
    simp [Instr.makeSlice, run_underlying hu, asInt, asIntOf, Go.sizeOf, typeInfo, hi, h0, hb, w1, w2, t1, t2, t3, r0, run_newRowT]
  · cases h
theorem appZ_ok (hk : Ok w0 e σ w) {t u el : TypeId} {v x : Value} {y : AV} {T : KT} {K : AV → St → Prop} {ts : Array TypeId} {ty : TypeId} (ht : zEl P t = some el) (h : appZ P u v y σ = some T) (hK : T K) (hy : av e y = some x) (hts0 : ts[0]? = some t) (hts1 : ts[1]? = some u) :
    ∃ (p : Value) (w' : World), p.oneCell' = true ∧ K (cell (opnC p)) σ ∧ Ok w0 e σ w' ∧ (Builtin.append_ ts ty #[v, x]).run P w = .ok p w' := by
  unfold appZ at h
  split at h
  · rename_i S hS
    simp only [Option.some.injEq] at h; subst h
    obtain ⟨n, c, m, ⟨b, rfl, hn, hb⟩, hm, hlim, hK⟩ := hK
    obtain ⟨hu, i, z, hi, hz, h0, hby, hzc⟩ := zEl_some ht
    by_cases hfit : n + m ≤ c
    · refine ⟨.slice b (n + m) c, w, rfl, hK _ c ⟨b, rfl, hfit, hb⟩, hk, ?_⟩
      unfold srcZ at hS
      split at hS
      · rename_i k hku
        split at hS
        · rename_i kz z' hz'
          simp only [Option.some.injEq] at hS; subst hS
          obtain rfl := intX_ok hz' hy
          subst hm
          have hw : IntKind.i64.wrap (m : Int) = m := IntWalk.i64_in _ (by omega)
          have t1 : ¬ ((m : Int) < 0) := by omega
          cases b <;> simp [Builtin.append_, hts0, hts1, run_underlying hu, run_underlying hku, Go.sizeOf, typeInfo, hi, h0, hby, asInt, asIntOf, hw, t1, hfit, storeCells]
        · cases hS
      · rename_i el' hku
        split at hS
        · rename_i v' hv'
          simp only [Option.some.injEq] at hS; subst hS
          obtain rfl := zv_ok hv' hy
          obtain ⟨c2, ⟨b2, rfl, _⟩⟩ := hm
          cases b <;> cases b2 <;> simp [Builtin.append_, hts0, hts1, run_underlying hu, run_underlying hku, Go.sizeOf, typeInfo, hi, h0, Builtin.lenOf, Builtin.firstCells, loadCells, loadCellsFrom, hfit, storeCells]
        · cases hS
      · cases hS
    · have n1 : ¬ (n + m ≤ c) := by omega
      have n2 : ¬ (9223372036854775807 < ((n : Int) + (m : Int))) := by omega
      have e0 : ∀ k, (Builtin.zeroCells (#[] : Array Value) k) = #[] := zeroCells_e
      refine ⟨.slice (some ⟨w.heap.size, 0, none⟩) (n + m) (grownCap w (n + m) c el), w.drew.alloc (.cells #[] el), rfl, hK _ _ ⟨_, rfl, grownCap_ge w (n + m) c el, fun h => by cases h⟩, hk.world (((Only.refl (fun _ => False) w).drew).alloc _), ?_⟩
      unfold srcZ at hS
      split at hS
      · rename_i k hku
        split at hS
        · rename_i kz z' hz'
          simp only [Option.some.injEq] at hS; subst hS
          obtain rfl := intX_ok hz' hy
          subst hm
          have hw : IntKind.i64.wrap (m : Int) = m := IntWalk.i64_in _ (by omega)
          have t1 : ¬ ((m : Int) < 0) := by omega
          cases b <;> simp [Builtin.append_, hts0, hts1, run_underlying hu, run_underlying hku, Go.sizeOf, typeInfo, zeroValue, hi, hz, h0, hby, hzc, asInt, asIntOf, hw, t1, n1, n2, Question.forced, newRow, grownCap, e0, Builtin.firstCells, loadCells, loadCellsFrom]
        · cases hS
      · rename_i el' hku
        split at hS
        · rename_i v' hv'
          simp only [Option.some.injEq] at hS; subst hS
          obtain rfl := zv_ok hv' hy
          obtain ⟨c2, ⟨b2, rfl, _⟩⟩ := hm
          cases b <;> cases b2 <;> simp [Builtin.append_, hts0, hts1, run_underlying hu, run_underlying hku, Go.sizeOf, typeInfo, zeroValue, hi, hz, h0, hby, hzc, Builtin.lenOf, Builtin.firstCells, loadCells, loadCellsFrom, n1, n2, Question.forced, newRow, grownCap, e0]
        · cases hS
      · cases hS
  · cases h
theorem ovZ_call {g : FuncId} {fn : Func} (hfn : P.funcs[g]? = some fn) (hov : isOverlaps P g = true) (w w' : World) (args : Array Value) (v : Value) (hr : (Extern.SlicesOverlaps.overlaps fn.params fn.resultTypes args).run P w = .ok v w') : (callFunc g args).run P w = .ok (.value v) w' := by
  unfold isOverlaps at hov
  rw [hfn] at hov
  simp only [Bool.and_eq_true] at hov
  obtain ⟨⟨⟨⟨⟨⟨⟨h1, h2⟩, h3⟩, h4⟩, h5⟩, h6⟩, h7⟩, h8⟩ := hov
  have ho : fn.origin = "slices.overlaps" := eq_of_beq h2
  have hn : (fn.name == "runtime.NumGoroutine") = false := by simpa using h4
  have hfind : Extern.find fn = some (Extern.SlicesOverlaps.overlaps fn.params fn.resultTypes) := by
    have g1 : Extern.allGenericRows.lookup fn.name = none := by simpa using h5
    have g2 : Extern.allTypedRows.lookup fn.name = none := by simpa using h6
    have g3 : Extern.allRows.lookup fn.name = none := by simpa using h7
    have g4 : Extern.allGenericRows.lookup "slices.overlaps" = none := by simpa using ov_generic
    simp only [Extern.find, g1, g2, g3, ho, g4, ov_lookup]
    rfl
  have hfn2 : Extern.findNext fn = none := by simpa using h3
  have hn2 : ¬ (fn.name = "runtime.NumGoroutine") := by simpa using hn
  have hb : fn.body = none := by simpa using h1
  simp [callFunc, hfn, hn2, hb, hfn2, hfind, hr]
theorem ovZ_ok {g : FuncId} {v u : Value} {T : KT} {K : AV → St → Prop} (ho : isOvZ P g = true) (h : ovZ v u σ = some T) (hK : T K) :
    K (lit (.bool false)) σ ∧ (callFunc g #[v, u]).run P w = .ok (.value (.bool false)) w := by
  simp only [ovZ, Option.some.injEq] at h; subst h
  obtain ⟨n, c, m, d, ⟨a, rfl, _⟩, ⟨b, rfl, _⟩, hK⟩ := hK
  unfold isOvZ at ho
  simp only [Bool.and_eq_true] at ho
  obtain ⟨h1, h2⟩ := ho
  split at h2
  · rename_i fn hfn
    split at h2
    · rename_i t ht
      obtain ⟨el, hel⟩ := Option.isSome_iff_exists.1 h2
      obtain ⟨hu, i, z, hi, hz, h0, hb, hzc⟩ := zEl_some hel
      refine ⟨hK, ovZ_call hfn h1 _ _ _ _ ?_⟩
      have hsz : (Go.sizeOf el).run P w = .ok 0 w := by rw [← h0]; exact run_sizeT (by simp [sizeT, hi]) w
      change Sem.run P (α := Value) (do
        let some t := fn.params[0]? | stuck "slices.overlaps: no parameter types"
        let .slice elem ← underlying t | stuck "slices.overlaps: slice type expected"
        let size ← sizeOf elem
        match a, b with
        | some a, some b =>
          if n = 0 ∨ m = 0 ∨ size = 0 then pure (Value.bool false)
          else if a.block != b.block && (← frozen a) && (← frozen b) then unsupported .addressObserved
          else do
            if a.block != b.block then do
              noView a; noView b
              if ← mayBeOne a b then return Value.bool ((← choose (.extern "sameAddr.stringBytes" 2)) == 1)
            pure (Value.bool (a.block == b.block && a.off < b.off + m * size && b.off < a.off + n * size))
        | _, _ => pure (Value.bool false)) w = _
      cases a <;> cases b <;> simp [ht, run_underlying hu, hsz]
    · cases h2
  · cases h2
theorem opMZ_ok {opM : OpM} (hM : OpMOk P opM) : OpMOk P (opMZ P opM) := by
  intro tm o σ T h
  unfold opMZ at h
  split at h
  · rename_i t x ho
    split at h
    · rename_i v h1 h2
      intro K hK w0 e w a hk ht
      obtain rfl := zv_ok h2 (evalA_ok ht x)
      obtain ⟨g1, g2⟩ := loadZ_ok (P := P) (w := w) h1 h hK
      exact ⟨_, σ, e, .agg #[], w, g1, Env.le.refl e, by simp [av, v1, seqO], hk, .inl (by simp [execOp, ho, g2])⟩
    · exact hM tm o σ T h
  · rename_i t x y ho
    split at h
    · rename_i v h1 h2
      intro K hK w0 e w a hk ht
      obtain rfl := zv_ok h2 (evalA_ok ht x)
      obtain ⟨g1, g2⟩ := storeZ_ok (P := P) (w := w) h1 h hK (evalA_ok ht y)
      exact ⟨_, σ, e, undef, w, g1, Env.le.refl e, lit_av e _, hk, .inr ⟨by simp [execOp, ho, g2], rfl⟩⟩
    · exact hM tm o σ T h
  · rename_i t x y ho
    split at h
    · rename_i el v h1 h2
      intro K hK w0 e w a hk ht
      obtain rfl := zv_ok h2 (evalA_ok ht x)
      obtain ⟨p, g0, g1, g2⟩ := idxZ_ok (P := P) (w := w) h1 h hK (evalA_ok ht y)
      exact ⟨_, σ, e, p, w, g1, Env.le.refl e, opnC_av (zp_one g0), hk, .inl (by simp [execOp, ho, g2])⟩
    · exact hM tm o σ T h
  · rename_i t x lo hi mx ho
    split at h
    · rename_i el v h1 h2
      intro K hK w0 e w a hk ht
      obtain rfl := zv_ok h2 (evalA_ok ht x)
      obtain ⟨p, g0, g1, g2⟩ := sliceZ_ok (P := P) (w := w) h1 ht h hK
      refine ⟨_, σ, e, p, w, g1, Env.le.refl e, opnC_av g0, hk, .inl ?_⟩
      have hu := (zEl_some h1).1
      simp [execOp, ho, Instr.sliceAt, run_underlying hu, g2]
    · exact hM tm o σ T h
  · rename_i t n ps ho
    split at h
    · rename_i el h1
      intro K hK w0 e w a hk ht
      obtain ⟨p, w', g0, g1, g2, g3⟩ := buildZ_ok (P := P) hk h1 h hK (evp_ok ht ps)
      exact ⟨_, σ, e, p, w', g1, Env.le.refl e, opnC_av g0, g2, .inl (by simp [execOp, ho, g3])⟩
    · exact hM tm o σ T h
  · rename_i t l c ho
    split at h
    · rename_i el h1
      intro K hK w0 e w a hk ht
      obtain ⟨p, w', g0, g1, g2, g3⟩ := makeZ_ok (P := P) hk h1 h hK (evalA_ok ht l) (evalA_ok ht c)
      exact ⟨_, σ, e, p, w', g1, Env.le.refl e, opnC_av g0, g2, .inl (by simp [execOp, ho, g3])⟩
    · exact hM tm o σ T h
  · rename_i c ho
    split at h
    · rename_i t us hts
      split at h
      · rename_i el h1
        obtain ⟨callee, args, ts⟩ := c
        dsimp only at hts h
        have hts0 : ts[0]? = some t := by rw [← Array.getElem?_toList, hts]; rfl
        split at h
        · rename_i g x y hxs
          split at h
          · rename_i hg
            split at h
            · rename_i v u h2 h3
              intro K hK w0 e w a hk ht
              obtain rfl : args = #[x, y] := Array.toList_inj.1 hxs
              obtain rfl := zv_ok h2 (evalA_ok ht x)
              obtain rfl := zv_ok h3 (evalA_ok ht y)
              obtain ⟨g1, g2⟩ := ovZ_ok (P := P) (w := w) hg h hK
              refine ⟨_, σ, e, _, w, g1, Env.le.refl e, lit_av e _, hk, .inl ?_⟩
              simp only [execOp, ho, resolve, Sem.run_bind, Sem.run_pure, Result.andThen_ok, invoke, Deferred.ofValue, Act.eval]
              simpa using g2
            · exact hM tm o σ T h
          · exact hM tm o σ T h
        · rename_i x hxs
          split at h
          · rename_i v h2
            intro K hK w0 e w a hk ht
            obtain rfl : args = #[x] := Array.toList_inj.1 hxs
            obtain rfl := zv_ok h2 (evalA_ok ht x)
            obtain ⟨z, g1, g2⟩ := lenZ_ok (P := P) (w := w) (ty := o.type) h1 h hK hts0
            refine ⟨_, σ, e, _, w, g1, Env.le.refl e, rfl, hk, .inl ?_⟩
            simp only [execOp, ho, resolve, Sem.run_bind, Sem.run_pure, Result.andThen_ok, invoke, List.map_toArray, List.map_cons, List.map_nil]
            simp [builtin, g2]
          · exact hM tm o σ T h
        · rename_i x hxs
          split at h
          · rename_i v h2
            intro K hK w0 e w a hk ht
            obtain rfl : args = #[x] := Array.toList_inj.1 hxs
            obtain rfl := zv_ok h2 (evalA_ok ht x)
            obtain ⟨z, g1, g2⟩ := capZ_ok (P := P) (w := w) (ty := o.type) h1 h hK hts0
            refine ⟨_, σ, e, _, w, g1, Env.le.refl e, rfl, hk, .inl ?_⟩
            simp only [execOp, ho, resolve, Sem.run_bind, Sem.run_pure, Result.andThen_ok, invoke, List.map_toArray, List.map_cons, List.map_nil]
            simp [builtin, g2]
          · exact hM tm o σ T h
        · rename_i u l x y hxs
          split at h
          · rename_i v h2
            intro K hK w0 e w a hk ht
            obtain rfl : args = #[x, y] := Array.toList_inj.1 hxs
            have hts1 : ts[1]? = some u := by rw [← Array.getElem?_toList, hts]; rfl
            obtain rfl := zv_ok h2 (evalA_ok ht x)
            obtain ⟨p, w', g0, g1, g2, g3⟩ := appZ_ok (P := P) (ty := o.type) hk h1 h hK (evalA_ok ht y) hts0 hts1
            refine ⟨_, σ, e, p, w', g1, Env.le.refl e, opnC_av g0, g2, .inl ?_⟩
            simp only [execOp, ho, resolve, Sem.run_bind, Sem.run_pure, Result.andThen_ok, invoke, List.map_toArray, List.map_cons, List.map_nil]
            simp [builtin, g3]
          · exact hM tm o σ T h
        · rename_i x y hxs
          split at h
          · rename_i v u h2 h3
            intro K hK w0 e w a hk ht
            obtain rfl : args = #[x, y] := Array.toList_inj.1 hxs
            obtain rfl := zv_ok h2 (evalA_ok ht x)
            obtain rfl := zv_ok h3 (evalA_ok ht y)
            obtain ⟨z, g1, g2⟩ := copyZ_ok (P := P) (w := w) (ty := o.type) h1 h hK hts0
            refine ⟨_, σ, e, _, w, g1, Env.le.refl e, rfl, hk, .inl ?_⟩
            simp only [execOp, ho, resolve, Sem.run_bind, Sem.run_pure, Result.andThen_ok, invoke, List.map_toArray, List.map_cons, List.map_nil]
            simp [builtin, g2]
          · exact hM tm o σ T h
        · rename_i x hxs
          split at h
          · rename_i v h2
            intro K hK w0 e w a hk ht
            obtain rfl : args = #[x] := Array.toList_inj.1 hxs
            obtain rfl := zv_ok h2 (evalA_ok ht x)
            obtain ⟨g1, g2⟩ := clearZ_ok (P := P) (w := w) (ty := o.type) h1 h hK hts0
            refine ⟨_, σ, e, _, w, g1, Env.le.refl e, lit_av e _, hk, .inl ?_⟩
            simp only [execOp, ho, resolve, Sem.run_bind, Sem.run_pure, Result.andThen_ok, invoke, List.map_toArray, List.map_cons, List.map_nil]
            simp [builtin, g2]
          · exact hM tm o σ T h
        · exact hM tm o σ T h
      · exact hM tm o σ T h
    · exact hM tm o σ T h
  · exact hM tm o σ T h
end
end Reck
