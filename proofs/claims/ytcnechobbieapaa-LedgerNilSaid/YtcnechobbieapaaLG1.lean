/- Layer 26: the chapter's example as a row. No condition. -/
import Derived.Test.YtcnechobbieapaaLG0
import Derived.Test.YtcnechobbieapaaP2
import Derived.Test.YtcnechobbieapaaRkB
set_option linter.unusedVariables false
set_option linter.unusedSimpArgs false
set_option maxRecDepth 10000
namespace Go.Proofs.Ytcnechobbieapaa
open Go Reck Ost
theorem ov26 : [63, 65].all (isOverlaps Try.prog) = true := by kernel_rfl
def pAw26 : Pat := fun args σ => match args, σ with
  | [], ⟨[], [], 0, [], 0⟩ => some fun K => K (lit (.bool true)) emptySt
  | _, _ => none
theorem pAw26_ok : PatOk 12 pAw26 := by
  intro tm σ C h K hK w0 e w hk vs hvs
  unfold pAw26 at h
  split at h
  · simp only [Option.some.injEq] at h; subst h
    exact knownD ov26 names (opCl_ok _) (conOk_of tbl0_ok) (show goT Try.prog [63, 65] (orcOf inv0 tbl0) (opCl Try.prog) 3000 (.inr (.inr (.inr (.inr 12)))) [] emptySt (retC emptySt K) by rw [awake26_vc]; exact hK) w0 e w hk vs hvs
  · cases h
def tLg : Tbl := tblIf 12 pAw26
theorem tLg_ok : TblOk Try.prog tLg := tblIf_ok pAw26_ok
abbrev runB (inv : InvF) (tbl : Tbl) (f : Nat) (args : List AV) (σ : St) : Prop := goT Try.prog [] (orcR inv nmt tbl) (opMB Try.prog) 3000 (.inr (.inr (.inr (.inr f)))) args σ isTrue
def hopKs : List CK := [.n .i64, .n .i64, .n .i64]
def hopB (A : List (List CV)) : ABlk := ⟨94, .o (.rows hopKs A), [], 0, true⟩
/-- A flow as it comes in: its numbers, its texts, its path. -/
structure FlI where
  (z0 z1 z2 z3 z4 z5 z6 z7 z8 z9 z10 z11 z12 : Int)
  (s13 s14 s15 s16 : ByteArray)
  (z17 z18 : Int)
  A : Option Addr
  (len cap : Nat)
def flC (z0 z1 z2 z3 z4 z5 z6 z7 z8 z9 z10 z11 z12 : Int) (l13 l14 l15 l16 : List Int) (z17 z18 : Int) (c : Cell) : List Cell := [xintC .u32 z0, xintC .u32 z1, xintC .u64 z2, xintC .u64 z3, xintC .u32 z4, xintC .u32 z5, xintC .i64 z6, xintC .i64 z7, xintC .i64 z8, xintC .i64 z9, xintC .i64 z10, xintC .i64 z11, xintC .i64 z12, strC l13, strC l14, strC l15, strC l16, xintC .i64 z17, xintC .i64 z18, c]
end Go.Proofs.Ytcnechobbieapaa
