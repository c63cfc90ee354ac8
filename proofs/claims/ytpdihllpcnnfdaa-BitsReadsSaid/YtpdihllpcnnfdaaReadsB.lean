/- BitsReads: both readers at the same bit. No condition. -/
import Derived.Test.YtpdihllpcnnfdaaReads
import Derived.Test.YtpdihllpcnnfdaaSwap
import Derived.Deep.DeepCutAuto
set_option linter.unusedSimpArgs false
set_option linter.unusedVariables false
namespace Go.Proofs.Ytpdihllpcnnfdaa
open Go.RowKit Ost



/-- Both at the same bit, with the same error, all old memory as it was. -/
def Both (w wr : World) (B1 B2 bi bw : Nat) (sv lv : Value) (bs : List Nat) (a e : Nat) : Prop :=
  IsIn wr B1 bi sv bs a e ∧ IsRef wr B2 bw lv (nums 8 bs) a e ∧ Only (fun _ => False) w wr

/-- Where they lie. -/
def Lie (w : World) (B1 B2 bi bw : Nat) (sv lv : Value) : Prop :=
  w.heap.size ≤ B1 ∧ w.heap.size ≤ B2 ∧ bw ≠ bi ∧ sv.ownBlock ≠ some bw ∧ lv.ownBlock ≠ some bi

theorem Both.keep {w wr w2 : World} {B1 B2 bi bw : Nat} {sv lv : Value} {bs : List Nat} {a e : Nat} (h : Both w wr B1 B2 bi bw sv lv bs a e) (ho : Only (fun _ => False) wr w2) : Both w w2 B1 B2 bi bw sv lv bs a e :=
  ⟨h.1.only ho (fun e => e) (fun _ _ e => e), h.2.1.only ho (fun e => e) (fun _ _ e => e), h.2.2.trans ho (fun _ _ e => e)⟩

theorem right_any (n : Int) (G : Bool) (w : World) (hG : (decide (1 ≤ n) && decide (n ≤ 64)) = G) : Calls Try.prog 20 #[.int .i64 n] w fun e w' => e = .returned (.bool G) ∧ w = w' := by
  by_cases h : 1 ≤ n ∧ n ≤ 64
  · have : G = true := by rw [← hG]; simp [h]
    rw [this]; exact right_yes n w h.1 h.2
  · have : G = false := by rw [← hG]; simp; omega
    rw [this]; exact right_no n w (by omega)

theorem err_q (base bi : Nat) (sv : Value) (cs : List Nat) (a e : Nat) (w : World) (h : IsIn w base bi sv cs a e) :
    Calls Try.prog 24 #[.pointer (some ⟨bi, 0, none⟩)] w fun r w' => r = .returned (.int .i64 (e : Nat)) ∧ w' = w :=
  (err_own base bi sv cs a e w h).mono fun _ _ h => ⟨h.1, h.2.symm⟩
theorem at_q (base bi : Nat) (sv : Value) (cs : List Nat) (a e : Nat) (w : World) (h : IsIn w base bi sv cs a e) :
    Calls Try.prog 25 #[.pointer (some ⟨bi, 0, none⟩)] w fun r w' => r = .returned (.int .i64 (a : Nat)) ∧ w' = w :=
  (at_own base bi sv cs a e w h).mono fun _ _ h => ⟨h.1, h.2.symm⟩
theorem left_q (base bi lf : Nat) (sv : Value) (cs : List Nat) (a e : Nat) (w : World) (h : IsIn w base bi sv cs a e) (hl : (if e = 0 then 8 * cs.length - a else 0) = lf) :
    Calls Try.prog 26 #[.pointer (some ⟨bi, 0, none⟩)] w fun r w' => r = .returned (.int .i64 (lf : Nat)) ∧ ∃ d, w' = w.drewN d := by
  rw [← hl]; exact left_any base bi sv cs a e w h

theorem wrong_bits (e : Nat) (n : Int) (L : Nat) : wrongR e (decide (1 ≤ n) && decide (n ≤ 64)) n L = wrong e (decide (1 ≤ n) && decide (n ≤ 64)) n 1 L := by
  unfold wrongR wrong
  by_cases he : e = 0
  · by_cases h1 : 1 ≤ n <;> by_cases h2 : n ≤ 64 <;> simp [he, h1, h2] <;> omega
  · simp [he]

theorem Both.drew {w wr : World} {B1 B2 bi bw : Nat} {sv lv : Value} {bs : List Nat} {a e : Nat} (h : Both w wr B1 B2 bi bw sv lv bs a e) : Both w wr.drew B1 B2 bi bw sv lv bs a e := ⟨h.1, h.2.1, h.2.2.drew⟩
theorem Both.drewN {w wr : World} {B1 B2 bi bw : Nat} {sv lv : Value} {bs : List Nat} {a e : Nat} (h : Both w wr B1 B2 bi bw sv lv bs a e) (n : Nat) : Both w (wr.drewN n) B1 B2 bi bw sv lv bs a e := ⟨h.1, h.2.1, h.2.2.drewN n⟩

theorem Both.size {w wr : World} {B1 B2 bi bw : Nat} {sv lv : Value} {bs : List Nat} {a e : Nat} (h : Both w wr B1 B2 bi bw sv lv bs a e) : bi < wr.heap.size ∧ bw < wr.heap.size := ⟨h.1.2.1.lt, h.2.1.2.1.lt⟩

/-- In first, then the document's own. -/
theorem Both.step {w wr w5 w6 : World} {B1 B2 bi bw : Nat} {sv lv : Value} {bs : List Nat} {a e a2 e2 : Nat} (h : Both w wr B1 B2 bi bw sv lv bs a e) (hl : Lie w B1 B2 bi bw sv lv) (h5 : IsIn w5 B1 bi sv bs a2 e2) (ho5 : Only (fun k => k = bi) wr w5) (h6 : IsRef w6 B2 bw lv (nums 8 bs) a2 e2) (ho6 : Only (fun k => k = bw) w5 w6) : Both w w6 B1 B2 bi bw sv lv bs a2 e2 := by
  obtain ⟨l1, l2, l3, l4, l5⟩ := hl
  refine ⟨h5.only ho6 (fun (e : bi = bw) => l3 e.symm) (fun k hk (e : k = bw) => l4 (e ▸ hk)), h6, ?_⟩
  have hb1 := h.1.1
  have hb2 := h.2.1.1
  exact (h.2.2.trans ho5 (fun i hi (e : i = bi) => by omega)).trans ho6 (fun i hi (e : i = bw) => by omega)

theorem Both.ref {w wr w5 : World} {B1 B2 bi bw : Nat} {sv lv : Value} {bs : List Nat} {a e : Nat} (h : Both w wr B1 B2 bi bw sv lv bs a e) (hl : Lie w B1 B2 bi bw sv lv) (ho5 : Only (fun k => k = bi) wr w5) : IsRef w5 B2 bw lv (nums 8 bs) a e :=
  h.2.1.only ho5 (fun (e : bw = bi) => hl.2.2.1 e) (fun k hk (e : k = bi) => hl.2.2.2.2 (e ▸ hk))

theorem wrong_skip (e : Nat) (n : Int) (L : Nat) : wrongR e true n L = wrong e (decide (0 ≤ n)) n 1 L := by
  unfold wrongR wrong
  by_cases he : e = 0
  · by_cases h1 : 0 ≤ n <;> simp [he, h1] <;> omega
  · simp [he]

theorem wrong_bytes (e : Nat) (n m : Int) (L : Nat) (hm : 0 ≤ n → (m = 8 * n ∨ (1000 < n ∧ m = 8000))) (hL : L ≤ 480) : wrongR e (decide (0 ≤ n)) m L = wrong e (decide (0 ≤ n)) n 8 L := by
  unfold wrongR wrong
  by_cases he : e = 0
  · by_cases h1 : 0 ≤ n
    · have := hm h1
      have h2 : ¬ m < 0 := by omega
      have h3 : (m > (L : Int)) ↔ (n * ((8 : Nat) : Int) > (L : Int)) := by omega
      simp only [he, h1, decide_true, ne_eq, not_true_eq_false, if_false, h2, or_false, Bool.true_eq_false, h3]
    · simp [he, h1]
  · simp [he]

theorem wrong_ne {e a L size : Nat} {n : Int} {good : Bool} (hs : 1 ≤ size) (ha : a ≤ L) (h : ¬ (e = 0 ∧ good = true ∧ n * (size : Int) ≤ ((L - a : Nat) : Int))) : wrong e good n size (L - a) ≠ 0 := by
  unfold wrong
  by_cases he : e = 0
  · rw [if_neg (by simpa using he)]
    cases hg : good with
    | false => rw [if_pos rfl]; decide
    | true =>
      rw [if_neg (by decide), if_pos (by
        by_cases h3 : n * (size : Int) > ((L - a : Nat) : Int)
        · exact h3
        · exact absurd ⟨he, hg, by omega⟩ h)]
      decide
  · rw [if_pos he]; exact he

theorem packs_cut {cs bs : List Nat} {a n : Nat} (h : a + 8 * n ≤ 8 * bs.length) (hp : Packs cs (((nums 8 bs).drop a).take (8 * n))) : cs = cut bs a n := by
  rw [span_nums bs a (8 * n) h] at hp
  exact hp.eq (cut_packs bs a n)

def regionAt (n : Nat) : Code → Option Code
  | .region k o b => if k = n then some (.region k o b) else none
  | .seq a b => match regionAt n a with
    | some c => some c
    | none => regionAt n b
  | .loop c => regionAt n c
  | .block _ c => regionAt n c
  | .scope c => regionAt n c
  | .cond _ a b => match regionAt n a with
    | some c => some c
    | none => regionAt n b
  | _ => none
noncomputable def reg17 : Code := ((Try.f4.body.bind (regionAt 17)).getD .skip)
noncomputable def reg22 : Code := ((Try.f4.body.bind (regionAt 22)).getD .skip)


end Go.Proofs.Ytpdihllpcnnfdaa
