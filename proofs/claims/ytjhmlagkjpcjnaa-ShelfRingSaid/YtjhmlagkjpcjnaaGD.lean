/- Parts of a proof, one behind the other: SW0 SR9. No condition. -/
import Derived.Test.YtjhmlagkjpcjnaaGA
import Derived.Test.YtjhmlagkjpcjnaaRkV
import Derived.Test.YtjhmlagkjpcjnaaGC
import Derived.Test.YtjhmlagkjpcjnaaRkT
section
namespace Go.Proofs.Ytjhmlagkjpcjnaa
open Go Reck
set_option linter.unusedVariables false
set_option maxRecDepth 100000
theorem awake2_vc (K : AV → St → Prop) : (goT Try.prog [60, 62] (orcOf inv0 tbl0) (opCl Try.prog) 3000 (.inr (.inr (.inr (.inr 13)))) [] emptySt (retC emptySt K)) = ((K (Sum.inl (Sum.inl (Sum.inl (Value.bool true)))) { heap := [], ints := [], opqs := (0 : Nat), arrs := [], junks := (0 : Nat) } ∧ K (Sum.inl (Sum.inl (Sum.inl (Value.bool true)))) { heap := [], ints := [], opqs := (0 : Nat), arrs := [], junks := (0 : Nat) }) ∧ K (Sum.inl (Sum.inl (Sum.inl (Value.bool true)))) { heap := [], ints := [], opqs := (0 : Nat), arrs := [], junks := (0 : Nat) } ∧ K (Sum.inl (Sum.inl (Sum.inl (Value.bool true)))) { heap := [], ints := [], opqs := (0 : Nat), arrs := [], junks := (0 : Nat) }) := by kernel_rfl
end Go.Proofs.Ytjhmlagkjpcjnaa
end

section
set_option linter.unusedVariables false
set_option linter.unusedSimpArgs false
set_option maxRecDepth 10000
namespace Go.Proofs.Ytjhmlagkjpcjnaa
open Go Reck Ost
theorem ovs2 : ([60, 62] : List FuncId).all (isOverlaps Try.prog) = true := by kernel_rfl
theorem awake2_run (K : AV → St → Prop) (h : K (lit (.bool true)) emptySt) : goT Try.prog [60, 62] (orcOf inv0 tbl0) (opCl Try.prog) 3000 (.inr (.inr (.inr (.inr 13)))) [] emptySt (retC emptySt K) := by
  rw [awake2_vc]
  repeat' (first | exact h | with_reducible apply And.intro)
theorem tAw2_ok : TblOk Try.prog tAw2 := by
  intro f tm σ C h K hK
  unfold tAw2 at h
  split at h
  · rename_i hf
    obtain rfl : f = 13 := by simpa using hf
    split at h
    · simp only [Option.some.injEq] at h; subst h
      exact knownD ovs2 names (opCl_ok _) (conOk_of tbl0_ok) (awake2_run K hK)
    · cases h
  · cases h
theorem tSR4_ok : TblOk Try.prog tSR4 := tblOr_ok tAw2_ok (tblOr_ok (tblIf_ok pRing_ok) tSR_ok)
def opKs : List CK := [.n .i64, .n .i64, .n .i64, .n .i64, .s, .s]
theorem shelfRing_walk (most : Int) (A : Option Addr) (len cap : Nat) (R : List (List CV)) (w : World) (hm : (Lit.int .i64 most).wf = true) (hR : CameR opKs w A len cap R) :
    Calls Try.prog 3 #[.int .i64 most, .slice A len cap] w fun e w' => e = .returned (.bool true) ∧ Only (fun _ => False) w w' := by
  obtain ⟨q, h1, h2⟩ := hR.base (by decide) 27
  have hl : len ≤ 9223372036854775807 := by
    have a := hR.2.1
    have b := hR.2.2.1
    have : maxLen ≤ 9223372036854775807 := by decide
    omega
  have hok : Ok w (arE [q]) (arS [opsB R]) w := ok_arrs w (l := [opsB R]) (bs := [q]) rfl (by simp [opsB]) (by
    intro i x q' hx hq
    cases i with
    | zero => simp at hx hq; subst hx; subst hq; exact h2 _ rfl
    | succ i => simp at hx)
  exact call_true noOv names (conOk_ofR tSR4_ok) (shelfRing_run most R len cap hR.1.symm hl) hok (vs := [.int .i64 most, .slice A len cap]) (by
    have := h1 (arE [q]) 0 rfl
    simp only [List.map_cons, List.map_nil]
    exact congrArg (fun x => [some (Value.int .i64 most), x]) this)
theorem open_ops {H : Type} {enc : TypeId × Value → H} {W : World} {held : Bool} {A : Option Addr} {len cap : Nat} {d : DataW H} {p : List MemPlace} (h : DataW.Trod enc Try.prog W 0 (fun _ => true) held 22 (.slice A len cap) d p) : ∃ R, CameR opKs W A len cap R := by
  obtain ⟨fuel, hf⟩ := h
  exact open_rows (ks := opKs) Try.underlying22 Try.underlying27 (by kernel_rfl) (by kernel_rfl) (by kernel_rfl) (by decide) hf
end Go.Proofs.Ytjhmlagkjpcjnaa
end
