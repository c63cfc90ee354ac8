/- What all of this seat's runs share. No condition. -/
import Derived.Test.YtcnechobbieapaaRkN
import Derived.Test.YtcnechobbieapaaRkO
import Derived.Test.YtcnechobbieapaaProg
set_option linter.unusedVariables false
namespace Go.Proofs.Ytcnechobbieapaa
open Go Reck

theorem names : namesOk Try.prog = true := by kernel_rfl
def slotS (tm : List AV) (t : Nat) : ASl :=
  match aslX (tm.getD t (lit undef)) with
  | some s => s
  | none => ⟨0, 0, 0, 0⟩
def slotA (tm : List AV) (t : Nat) (σ : St) : List Int :=
  match getArr σ (slotS tm t).a with
  | some b => b.l
  | none => []
def isAsl (v : AV) : Bool := (aslX v).isSome
def isXint (v : AV) : Bool :=
  match v with
  | .inl (.inl (.inr (.inr (.inr (.inr (.inr (.inr (.inl _)))))))) => true
  | _ => false
def xiX : AV → Option (IntKind × Int)
  | .inl (.inl (.inr (.inr (.inr (.inr (.inr (.inr (.inl p)))))))) => some p
  | _ => none
theorem xiX_eq {x : AV} {k : IntKind} {n : Int} (h : xiX x = some (k, n)) : x = xi k n := by
  unfold xiX at h
  split at h
  · simp only [Option.some.injEq] at h; subst h; rfl
  · cases h
def tbl0 : Tbl := fun _ _ _ => none
theorem tbl0_ok : TblOk Try.prog tbl0 := by intro f tm σ C h; cases h
abbrev InvF := Code → List AV → St → Option Inv
def inv0 : InvF := fun _ _ _ => none
abbrev runI (inv : InvF) (tbl : Tbl) (f : Nat) (args : List AV) (σ : St) (K : AV → St → Prop) : Prop := goT Try.prog [] (orcOf inv tbl) (opMem Try.prog) 3000 (.inr (.inr (.inr (.inr f)))) args σ (retC σ K)
abbrev runL (inv : InvF) (tbl : Tbl) (f : Nat) (args : List AV) (σ : St) : Prop := goT Try.prog [] (orcOf inv tbl) (opMem Try.prog) 3000 (.inr (.inr (.inr (.inr f)))) args σ isTrue
def bs (L : List Int) (cap : Nat) (ro : Bool) : ABlk := ⟨5, .n .u8, L, cap, ro⟩
def ar (l : List ABlk) : St := ⟨[], [], 0, l.map some, 0⟩
theorem noOv : ([] : List FuncId).all (isOverlaps Try.prog) = true := rfl
def tblOr (a b : Tbl) : Tbl := fun f args σ => match a f args σ with
  | some c => some c
  | none => b f args σ
theorem tblOr_ok {P : Program} {a b : Tbl} (ha : TblOk P a) (hb : TblOk P b) : TblOk P (tblOr a b) := by
  intro f tm σ C h
  unfold tblOr at h
  split at h
  · rename_i c hc; simp only [Option.some.injEq] at h; subst h; exact ha f tm σ c hc
  · exact hb f tm σ C h
theorem bytes_wf {zs : List Int} (h : ∀ n ∈ zs, (Lit.int .u8 n).wf = true) : ∀ n ∈ zs, 0 ≤ n ∧ n < 256 := fun n hn => by
  have := h n hn
  simp [Lit.wf, IntKind.min, IntKind.max, IntKind.signed, IntKind.bits] at this
  omega
end Go.Proofs.Ytcnechobbieapaa
