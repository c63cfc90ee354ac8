/- Parts of a proof, one behind the other: VW8 VW9. No condition. -/
import Derived.Test.YtfhgnngdbbgogaaGK
section
namespace Go.Proofs.Ytfhgnngdbbgogaa
open Go Reck Ost
set_option linter.unusedVariables false
set_option maxRecDepth 100000
def avMeet (v r : Nat) (J : List Nat) (tm : List AV) (σ : St) : Inv where
  X := XV × (XV × XR)
  tags := [0]
  tag _ _ := 0
  J := J
  val _ x := []
  st _ x σ' := bSet σ' σ.arrs.length (vKids σ' (pB tm v)).1 (vKids σ' (pB tm v)).2 (pB tm r) x.1 x.2.1 x.2.2
  I _ x := U.avI 0 0 x.1.1 x.1.2.1 x.1.2.2.1 x.1.2.2.2.1 x.1.2.2.2.2 x.2.1.1 x.2.1.2.1 x.2.1.2.2.1 x.2.1.2.2.2.1 x.2.1.2.2.2.2 (n9 x.2.2.1) (m9 x.2.2.2.1) x.2.2.2.2.1 x.2.2.2.2.2.1 x.2.2.2.2.2.2
  m _ x := 0
  ren tm' σ' := ([], [(arr2 σ' (vKids σ' (pB tm' v)).1).1, (arr2 σ' (vKids σ' (pB tm' v)).1).2, (arr2 σ' (vKids σ' (pB tm' v)).2).1, (arr2 σ' (vKids σ' (pB tm' v)).2).2, arr1 σ' (pB tm' r)])
def onInv (i s : Nat) (J : List Nat) (tm : List AV) (σ : St) : Inv where
  X := Int
  tags := [0]
  tag _ _ := 0
  J := J
  val _ x := [(i, xi .i64 x)]
  st _ _ σ' := σ'
  I _ x := U.smI (slotR tm s).n x
  m _ x := ((slotR tm s).n : Int).toNat - x.toNat
  ren := noRen
def invVO : InvF := fun c tm σ => match tm.length, firstReg c with
  | 124, some 4 => some (avInv 3 4 18 5 16 [0, 1, 6, 7, 8, 9, 10, 11, 12, 13, 14, 15, 19, 20, 21, 22, 23, 24, 25, 26, 27, 28, 29, 30, 31, 32, 33, 34, 35, 36, 37, 38, 39, 40, 41, 42, 43, 44, 45, 46, 47, 48, 49, 50, 51, 52, 53, 54, 55, 56, 57, 58, 59, 60, 61, 62, 63, 64, 65, 66, 67, 68, 69, 70, 71, 72, 73, 74, 75, 76, 77, 78, 79, 80, 81, 82, 83, 84, 85, 86, 87, 88, 89, 90, 91, 92, 93, 94, 95, 96, 97, 98, 99, 100, 101, 102, 103, 104, 105, 106, 107, 108, 109, 110, 111, 112, 113, 114, 115, 116, 117, 118, 119, 120, 121, 122, 123] tm σ)
  | 124, some 11 => some (onInv 39 37 [0, 1, 6, 7, 9, 10, 11, 12, 13, 14, 15, 19, 20, 21, 22, 23, 24, 25, 26, 27, 28, 29, 30, 31, 32, 33, 34, 35, 36, 40, 41, 42, 43, 44, 45, 46, 47, 48, 49, 50, 51, 52, 53, 54, 55, 56, 57, 58, 59, 60, 61, 62, 63, 64, 65, 66, 67, 68, 69, 70, 71, 72, 73, 74, 75, 76, 77, 78, 79, 80, 81, 82, 83, 84, 85, 86, 87, 88, 89, 90, 91, 92, 93, 94, 95, 96, 97, 98, 99, 100, 101, 102, 103, 104, 105, 106, 107, 108, 109, 110, 111, 112, 113, 114, 115, 116, 117, 118, 119, 120, 121, 122, 123] tm σ)
  | 124, some 16 => some (onInv 90 88 [0, 1, 6, 7, 11, 12, 13, 14, 15, 19, 20, 21, 22, 23, 24, 25, 26, 27, 28, 29, 30, 31, 32, 33, 34, 35, 36, 40, 41, 42, 43, 44, 45, 46, 47, 48, 49, 50, 51, 52, 53, 54, 55, 56, 57, 58, 59, 60, 61, 62, 63, 64, 65, 66, 67, 68, 69, 70, 71, 72, 73, 74, 75, 76, 77, 78, 79, 80, 81, 82, 83, 84, 85, 86, 87, 91, 92, 93, 94, 95, 96, 97, 98, 99, 100, 101, 102, 103, 104, 105, 106, 107, 108, 109, 110, 111, 112, 113, 114, 115, 116, 117, 118, 119, 120, 121, 122, 123] tm σ)
  | _, _ => none
def meetVO : InvF := fun c tm σ => match tm.length, firstReg c, isSeq c with
  | 124, some 8, false => some (avMeet 3 4 [0, 1, 6, 7, 8, 9, 10, 11, 12, 13, 14, 15, 19, 20, 21, 22, 23, 24, 25, 26, 27, 28, 29, 30, 31, 32, 33, 34, 35, 36, 37, 38, 39, 40, 41, 42, 43, 44, 45, 46, 47, 48, 49, 50, 51, 52, 53, 54, 55, 56, 57, 58, 59, 60, 61, 62, 63, 64, 65, 66, 67, 68, 69, 70, 71, 72, 73, 74, 75, 76, 77, 78, 79, 80, 81, 82, 83, 84, 85, 86, 87, 88, 89, 90, 91, 92, 93, 94, 95, 96, 97, 98, 99, 100, 101, 102, 103, 104, 105, 106, 107, 108, 109, 110, 111, 112, 113, 114, 115, 116, 117, 118, 119, 120, 121, 122, 123] tm σ)
  | _, _, _ => none
abbrev runOV (inv mt : InvF) (f : Nat) (args : List AV) (σ : St) : Prop := goT Try.prog [] (orcR inv mt tVL) (opMB Try.prog) 3000 (.inr (.inr (.inr (.inr f)))) args σ isTrue
end Go.Proofs.Ytfhgnngdbbgogaa
end
section
set_option linter.unusedVariables false
set_option linter.unusedSimpArgs false
set_option maxRecDepth 10000
namespace Go.Proofs.Ytfhgnngdbbgogaa
open Go Reck Ost
section
variable {n c : Nat} {L : Rws} {d : Nat} {M : Rws} {e f : Nat} {S : Rws} {g : Nat} {T : Rws} {Pu : VUP} {P : VLP}
theorem key_lt (V : U.Vw n c L d M e f S g T Pu P) {j k : Nat} {p q : Int × VLv} (hp : P[k]? = some p) (hq : P[j]? = some q) (h : j < k) : q.1 < p.1 := by
  obtain ⟨kl, rfl⟩ := List.getElem?_eq_some_iff.1 hp
  obtain ⟨jl, rfl⟩ := List.getElem?_eq_some_iff.1 hq
  exact List.pairwise_iff_getElem.1 V.l.srt.out j k jl kl h
theorem apart (V : U.Vw n c L d M e f S g T Pu P) {j k : Nat} {p q : Int × VLv} (hp : P[k]? = some p) (hq : P[j]? = some q) (h : j < k) :
    ¬ (p.2.v0 = q.2.v0 ∧ p.2.v1 = q.2.v1 ∧ True) ∧ ¬ (p.2.v0 = q.2.v2 ∧ p.2.v1 = q.2.v3 ∧ True) ∧ ¬ (p.2.v2 = q.2.v0 ∧ p.2.v3 = q.2.v1 ∧ True) ∧ ¬ (p.2.v2 = q.2.v2 ∧ p.2.v3 = q.2.v3 ∧ True) := by
  have hk := key_lt V hp hq h
  have mp := List.mem_of_getElem? hp
  have mq := List.mem_of_getElem? hq
  have w1 := (V.li.wf p.1 p.2 mp).1
  have w2 := (V.li.wf q.1 q.2 mq).1
  have b1 := V.li.ap p.1 p.2 q.1 q.2 mp mq (by omega)
  have b2 := V.li.ap q.1 q.2 p.1 p.2 mq mp (by omega)
  refine ⟨fun h => ?_, fun h => b1.2 (by rw [w1, h.1, h.2.1]), fun h => b2.2 (by rw [w2, h.1, h.2.1]), fun h => b1.1 (by rw [h.1, h.2.1])⟩
  rw [h.1, h.2.1, ← w2] at w1
  omega
end
end Go.Proofs.Ytfhgnngdbbgogaa
end
