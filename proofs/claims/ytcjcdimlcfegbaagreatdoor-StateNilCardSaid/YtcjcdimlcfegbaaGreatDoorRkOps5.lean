/- A reckoner of calls: append. No condition. -/
import Derived.Test.YtcjcdimlcfegbaaGreatDoorRkOps4
set_option linter.unusedVariables false
set_option linter.unusedSimpArgs false
namespace Reck
open Go Ost

section
variable {P : Program} {w0 w : World} {e : Env} {σ : St} {res : List (AV × St)}

/-- What is appended: so many things, these cells. -/
def News (P : Program) (w : World) (t u : TypeId) (x : Value) (m : Nat) (news : List Value) : Prop :=
  (∃ k kx, P.underlying u = some (.int k) ∧ x = .int kx (m : Int) ∧ ∃ el i z, P.underlying t = some (.slice el) ∧ P.info? el = some i ∧ i.zero = some z ∧ 0 < z.cells.size ∧ news = rep z.cells.toList m) ∨
  (∃ d, P.underlying u = some d ∧ (∀ k, d ≠ .int k) ∧ (∀ w, (Builtin.lenOf x).run P w = .ok m w) ∧ ∃ el i, P.underlying t = some (.slice el) ∧ P.info? el = some i ∧ ∀ w', w' = w ∨ w' = w.drew → (Builtin.firstCells i.size m x).run P w' = .ok news.toArray w')

theorem zeroCells_rep (vz : Array Value) (hz : 0 < vz.size) (n : Nat) : Builtin.zeroCells vz n = (rep vz.toList n).toArray := by
  apply Array.toList_inj.1
  unfold Builtin.zeroCells
  rw [zc_list vz hz]

theorem run_fit {ts : Array TypeId} {ty : TypeId} {xs : Array Value} {t u el : TypeId} {i : TypeInfo} {g o sLen sCap m : Nat} {x : Value} {news : List Value} (hts0 : ts[0]? = some t) (hts1 : ts[1]? = some u) (hxs0 : xs[0]? = some (.slice (some ⟨g, o, none⟩) sLen sCap)) (hxs1 : xs[1]? = some x)
    (ht : P.underlying t = some (.slice el)) (hi : P.info? el = some i) {sz : Nat} (hsize : i.size = sz) (hsz : 0 < sz) (hb : i.bytes ≤ 65536) (hn : News P w t u x m news) (hm : 0 < m) (hm2 : m ≤ 16777216) (hfit : sLen + m ≤ sCap) :
    (Builtin.append_ ts ty xs).run P w = ((storeCells ⟨g, o + sLen * sz, none⟩ news).run P w).andThen fun _ w' => .ok (.slice (some ⟨g, o, none⟩) (sLen + m) sCap) w' := by
  rcases hn with ⟨k, kx, hu, rfl, el', i', z, h1, h2, h3, h4, rfl⟩ | ⟨d, hu, hd, hlen, el', i', h1, h2, h3⟩
  · rw [ht] at h1; simp at h1; subst h1
    rw [hi] at h2; simp at h2; subst h2
    have hw : IntKind.i64.wrap (m : Int) = m := IntWalk.i64_in _ (by omega)
    have t1 : ¬ ((m : Int) < 0) := by omega
    have t2 : ¬ (281474976710656 < (m : Int) * (i.bytes : Int)) := by
      rw [← Int.natCast_mul]
      have : m * i.bytes ≤ 16777216 * 65536 := Nat.mul_le_mul hm2 hb
      omega
    have t3 : ¬ (m = 0) := by omega
    have t4 : ¬ (m * sz = 0) := by have := Nat.mul_pos hm hsz; omega
    simp [Builtin.append_, hts0, hts1, hxs0, hxs1, run_underlying ht, run_underlying hu, Go.sizeOf, typeInfo, zeroValue, hi, h3, hsize, asInt, asIntOf, hw, t1, t2, t3, t4, hfit, zeroCells_rep _ h4, Addr.add_lit]
  · rw [ht] at h1; simp at h1; subst h1
    rw [hi] at h2; simp at h2; subst h2
    have h4 := h3 w (.inl rfl)
    rw [hsize] at h4
    have hmat : ∀ {α : Type} (a b : α), (match d with | .int _ => a | _ => b) = b := by
      intro α a b; cases d <;> first | rfl | exact absurd rfl (hd _)
    simp [Builtin.append_, hts0, hts1, hxs0, hxs1, run_underlying ht, run_underlying hu, Go.sizeOf, typeInfo, hi, hsize, hmat, hlen, hfit, h4, Addr.add_lit]

theorem run_grow {ts : Array TypeId} {ty : TypeId} {xs : Array Value} {t u el : TypeId} {i : TypeInfo} {z : Value} {base : Option Addr} {sLen sCap m : Nat} {x : Value} {olds news : List Value} (hts0 : ts[0]? = some t) (hts1 : ts[1]? = some u) (hxs0 : xs[0]? = some (.slice base sLen sCap)) (hxs1 : xs[1]? = some x)
    (ht : P.underlying t = some (.slice el)) (hi : P.info? el = some i) (hz : i.zero = some z) {sz : Nat} (hsize : i.size = sz) (hsz : 0 < sz) (hb0 : 0 < i.bytes) (hb : i.bytes ≤ 65536) (hn : News P w t u x m news) (hm : 0 < m) (hm2 : m ≤ 16777216) (hl2 : sLen ≤ 16777216) (hfit : sCap < sLen + m)
    (hold : (Builtin.firstCells i.size sLen (.slice base sLen sCap)).run P w.drew = .ok olds.toArray w.drew) :
    (Builtin.append_ ts ty xs).run P w = .ok (.slice (some ⟨w.heap.size, 0, none⟩) (sLen + m) (grownCap w (sLen + m) sCap el))
      (w.drew.alloc (.cells (olds ++ news ++ (Builtin.zeroCells z.cells (grownCap w (sLen + m) sCap el - (sLen + m))).toList).toArray el)) := by
  have n1 : ¬ (sLen + m ≤ sCap) := by omega
  have n2 : ¬ (9223372036854775807 < ((sLen : Int) + (m : Int))) := by omega
  have hfit2 : Builtin.nextslicecap (sLen + m) sCap * i.bytes ≤ 281474976710656 := growslice_fits hfit (by
    have : (sLen + m) * i.bytes ≤ 33554432 * 65536 := Nat.mul_le_mul (by omega) hb
    omega)
  have n3 : ¬ (281474976710656 < Builtin.nextslicecap (sLen + m) sCap * i.bytes) := by omega
  have n4 : ¬ i.bytes = 0 := by omega
  rw [hsize] at hold
  have happ : ∀ (A B C : List Value), (A ++ B ++ C).toArray = A.toArray ++ B.toArray ++ C.toArray := by intro A B C; simp
  rcases hn with ⟨k, kx, hu, rfl, el', i', z', h1, h2, h3, h4, rfl⟩ | ⟨d, hu, hd, hlen, el', i', h1, h2, h3⟩
  · rw [ht] at h1; simp at h1; subst h1
    rw [hi] at h2; simp at h2; subst h2
    rw [hz] at h3; simp at h3; subst h3
    have hw : IntKind.i64.wrap (m : Int) = m := IntWalk.i64_in _ (by omega)
    have t1 : ¬ ((m : Int) < 0) := by omega
    have t2 : ¬ (281474976710656 < (m : Int) * (i.bytes : Int)) := by
      rw [← Int.natCast_mul]
      have : m * i.bytes ≤ 16777216 * 65536 := Nat.mul_le_mul hm2 hb
      omega
    have t3 : ¬ (m = 0) := by omega
    have t4 : ¬ (m * sz = 0) := by have := Nat.mul_pos hm hsz; omega
    rw [happ]
    simp [Builtin.append_, hts0, hts1, hxs0, hxs1, run_underlying ht, run_underlying hu, Go.sizeOf, typeInfo, zeroValue, hi, hz, hsize, asInt, asIntOf, hw, t1, t2, t3, t4, n1, n2, n3, n4, Question.forced, hold, newRow, grownCap, zeroCells_rep _ h4]
  · rw [ht] at h1; simp at h1; subst h1
    rw [hi] at h2; simp at h2; subst h2
    have h4 := h3 w.drew (.inr rfl)
    rw [hsize] at h4
    have hmat : ∀ {α : Type} (a b : α), (match d with | .int _ => a | _ => b) = b := by
      intro α a b; cases d <;> first | rfl | exact absurd rfl (hd _)
    rw [happ]
    simp [Builtin.append_, hts0, hts1, hxs0, hxs1, run_underlying ht, run_underlying hu, Go.sizeOf, typeInfo, zeroValue, hi, hz, hsize, hmat, hlen, n1, n2, n3, n4, h4, Question.forced, hold, newRow, grownCap]
    congr 2
    apply Array.ext'
    simp
end
end Reck
