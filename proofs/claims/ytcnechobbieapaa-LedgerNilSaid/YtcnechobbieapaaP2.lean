/- What all shelves lean on. No condition. -/
import Derived.Test.YtcnechobbieapaaP1
import Derived.Test.YtcnechobbieapaaRkY
set_option linter.unusedVariables false
set_option linter.unusedSimpArgs false
set_option maxRecDepth 10000
namespace Go.Proofs.Ytcnechobbieapaa
open Go Reck Ost
/-- With what takes rows out. -/
abbrev runW (ov : List FuncId) (inv : InvF) (tbl : Tbl) (f : Nat) (args : List AV) (σ : St) (K : AV → St → Prop) : Prop := goT Try.prog [] (orcR inv nmt tbl) (opMW Try.prog ov) 3000 (.inr (.inr (.inr (.inr f)))) args σ (retC σ K)
/-- With copies of rows of numbers. -/
abbrev runQ (inv : InvF) (tbl : Tbl) (f : Nat) (args : List AV) (σ : St) (K : AV → St → Prop) : Prop := goT Try.prog [] (orcR inv nmt tbl) (opMK Try.prog) 3000 (.inr (.inr (.inr (.inr f)))) args σ (retC σ K)
theorem off_of {o : Nat} {c l b : Int} (h : (o : Int) = if c = l then b else b + l) (hc : ¬ c = l ∨ l = 0) : (o : Int) = b + l := by
  split at h <;> omega
theorem del_fin {L L1 L2 A : Rws} {n c i o : Nat} {z : List CV} (h : U.Fu L n c A) (hi : i < n) (ho : o = i + 1 ∨ n - (i + 1) = 0) (h1 : L1 = L.take i ++ (L.drop o).take (n - (i + 1)) ++ L.drop (n - 1)) (h2 : L2 = L1.take (n - 1) ++ List.replicate 1 z ++ L1.drop n) : U.Fu L2 (n - 1) c (A.eraseIdx i) := by
  obtain ⟨k1, k2, k3, k4⟩ := h
  have hX : (L.drop o).take (n - (i + 1)) = (L.drop (i + 1)).take (n - (i + 1)) := by
    rcases ho with rfl | h0
    · rfl
    · rw [h0]; rfl
  have hxl : ((L.drop (i + 1)).take (n - (i + 1))).length = n - (i + 1) := by rw [List.length_take, List.length_drop]; omega
  have ha : (L.take i ++ (L.drop (i + 1)).take (n - (i + 1))).length = n - 1 := by rw [List.length_append, hxl, List.length_take]; omega
  rw [hX] at h1
  have l1 : L1.length = c := by rw [h1, List.length_append, ha, List.length_drop]; omega
  refine ⟨?_, ?_, by omega, by omega⟩
  · rw [h2, List.append_assoc, List.take_append_of_le_length (by rw [List.length_take]; omega), List.take_take, Nat.min_self, h1, List.take_append_of_le_length (by omega), List.take_of_length_le (by omega), k1, List.eraseIdx_eq_take_drop_succ, List.take_take, Nat.min_eq_left (by omega), List.drop_take]
  · rw [h2, List.length_append, List.length_append, List.length_take, List.length_replicate, List.length_drop]; omega
end Go.Proofs.Ytcnechobbieapaa
