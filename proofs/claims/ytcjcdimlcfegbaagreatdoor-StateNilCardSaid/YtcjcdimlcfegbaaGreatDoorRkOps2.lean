/- A reckoner of calls: more of its operations are the model's. No condition. -/
import Derived.Test.YtcjcdimlcfegbaaGreatDoorRkOps
set_option linter.unusedVariables false
set_option linter.unusedSimpArgs false
namespace Reck
open Go Ost

/-- A list, many times. -/
def rep {α : Type} (l : List α) : Nat → List α
  | 0 => []
  | n + 1 => l ++ rep l n
theorem rep_length {α : Type} (l : List α) : ∀ n, (rep l n).length = n * l.length
  | 0 => by simp [rep]
  | n + 1 => by simp [rep, rep_length l n, Nat.succ_mul, Nat.add_comm]
theorem rep_get {α : Type} (l : List α) (hl : 0 < l.length) : ∀ n i, i < n * l.length → (rep l n)[i]? = l[i % l.length]?
  | 0, i, h => by simp at h
  | n + 1, i, h => by
    rw [rep]
    by_cases h1 : i < l.length
    · rw [List.getElem?_append_left h1, Nat.mod_eq_of_lt h1]
    · rw [List.getElem?_append_right (by omega), rep_get l hl n _ (by rw [Nat.succ_mul] at h; omega)]
      congr 1
      conv => rhs; rw [show i = (i - l.length) + l.length by omega, Nat.add_mod_right]
theorem repeatA_rep (z : List Cell) : ∀ n, repeatA z n = rep z n
  | 0 => rfl
  | n + 1 => by simp [repeatA, rep, repeatA_rep z n]
theorem rep_map {α β : Type} (f : α → β) (l : List α) : ∀ n, (rep l n).map f = rep (l.map f) n
  | 0 => rfl
  | n + 1 => by simp [rep, rep_map f l n]
theorem zc_list (vz : Array Value) (hz : 0 < vz.size) (n : Nat) : ((Array.range (n * vz.size)).map (fun i => vz[i % vz.size]!)).toList = rep vz.toList n := by
  apply List.ext_getElem?
  intro i
  have hl : vz.toList.length = vz.size := Array.length_toList
  by_cases h : i < n * vz.size
  · rw [rep_get _ (by omega) n i (by rw [hl]; exact h), hl]
    have hm : i % vz.size < vz.size := Nat.mod_lt _ hz
    simp [h, Array.getElem?_eq_getElem hm, getElem!_pos vz (i % vz.size) hm]
  · rw [List.getElem?_eq_none (by simp; omega), List.getElem?_eq_none (by rw [rep_length, hl]; omega)]
theorem rep_mem {α : Type} (l : List α) : ∀ n x, x ∈ rep l n → x ∈ l
  | 0, x, h => by simp [rep] at h
  | n + 1, x, h => by
    simp only [rep, List.mem_append] at h
    rcases h with h | h
    · exact h
    · exact rep_mem l n x h

section
variable {P : Program} {w0 w : World} {e : Env} {σ : St} {res : List (AV × St)}

theorem repeatA_cv (l : List Value) (n : Nat) : (repeatA (l.map (Sum.inl : Value → Cell)) n).map (cv e) = (rep l n).map some := by
  rw [repeatA_rep, rep_map, map_inl, rep_map]

theorem opBuildSlice0_ok (hk : Ok w0 e σ w) {t : TypeId} {len : Nat} {ps : List (Nat × AV)} {vs : Array (Nat × Value)} (h : opBuildSlice0 P t len ps σ = .ok res) (hp : Parts e ps vs.toList) : SemOk P w0 e w res (Instr.buildSlice t len vs) := by
  unfold opBuildSlice0 at h
  split at h
  · rename_i el hu
    split at h
    · rename_i n z hn hz1
      obtain ⟨i, v, g1, g2, rfl, hz⟩ := zeroCs_some hz1
      split at h
      · rename_i hc
        obtain ⟨c1, c2, c3⟩ := hc
        simp at c1
        split at h
        · rename_i cs hcs
          have hzl := zc_list v.cells (by omega) len
          obtain ⟨B, k1, k2, k3⟩ := fill_ok hk _ ps vs.toList _ cs ((Array.range (len * n)).map (fun i => v.cells[i % v.cells.size]!)) hp hcs
            (by rw [repeatA_cv, ← c1, hzl]) (by rw [← c1, hzl]; intro u hu; exact plain_inl hz u (rep_mem _ _ _ hu))
          obtain ⟨j1, j2⟩ := hk.new el k2 k3
          refine SemOk.one' h j1 _ (newA_sl e σ el cs _ len len hk.blks (Nat.le_refl _)) j2 ?_
          have hlim : ¬ (len * n > 2 ^ 24) := by omega
          by_cases h0 : len * n = 0
          · have hlen0 : len = 0 := by rcases Nat.mul_eq_zero.1 h0 with h | h <;> omega
            subst hlen0
            have r0 : Array.range 0 = #[] := rfl
            have k1' : Instr.fill (fun i => some (i * n, n)) #[] vs.toList = some B := by simpa [r0] using k1
            simp [Instr.buildSlice, run_underlying hu, run_sizeT hn, r0, k1', run_newRowT]
          · simp [Instr.buildSlice, run_underlying hu, run_sizeT hn, hlim, h0, run_zeroT g1 g2, k1, run_newRowT]
        · cases h
      · cases h
    · cases h
  · cases h

theorem opBuildSlice_ok (hk : Ok w0 e σ w) {t : TypeId} {len : Nat} {ps : List (Nat × AV)} {vs : Array (Nat × Value)} (h : opBuildSlice P t len ps σ = .ok res) (hp : Parts e ps vs.toList) : SemOk P w0 e w res (Instr.buildSlice t len vs) := by
  unfold opBuildSlice at h
  split at h
  · cases h
  · exact opBuildSlice0_ok hk h hp

theorem opMakeSlice_ok (hk : Ok w0 e σ w) {t : TypeId} {l c : AV} {vl vc : Value} (h : opMakeSlice P t l c σ = .ok res) (hl : av e l = some vl) (hc : av e c = some vc) : SemOk P w0 e w res (Instr.makeSlice t vl vc) := by
  unfold opMakeSlice at h
  split at h
  · rename_i el hu
    split at h
    · rename_i i z l' c' hi hz1 hl' hc'
      obtain ⟨i2, v, g1, g2, rfl, hz⟩ := zeroCs_some hz1
      rw [hi] at g1; simp at g1; subst g1
      obtain ⟨kl, rfl⟩ := asNat_ok hl' hl
      obtain ⟨kc, rfl⟩ := asNat_ok hc' hc
      split at h
      · rename_i hcond
        obtain ⟨c1, c2, c3, c4, c5⟩ := hcond
        simp at c1
        have hzl := zc_list v.cells (by omega) c'
        obtain ⟨j1, j2⟩ := hk.new (vs := rep v.cells.toList c') el (repeatA_cv (e := e) v.cells.toList c') (fun u hu => plain_inl hz u (rep_mem _ _ _ hu))
        refine SemOk.one' h j1 _ (newA_sl e σ el _ _ l' c' hk.blks c3) j2 ?_
        have w1 : IntKind.i64.wrap (l' : Int) = l' := IntWalk.i64_in _ (by omega)
        have w2 : IntKind.i64.wrap (c' : Int) = c' := IntWalk.i64_in _ (by omega)
        have t1 : ¬ ((c' : Int) < 0) := by omega
        have t2 : ¬ ((i.bytes : Int) * (c' : Int) > 2 ^ 48) := by rw [← Int.natCast_mul, Nat.mul_comm]; omega
        have t3 : ¬ ((l' : Int) < 0) := by omega
        have t4 : ¬ ((l' : Int) > (c' : Int)) := by omega
        have hsz : i.size = v.cells.size := by omega
        have arr : (Array.range (c' * i.size)).map (fun x => v.cells[x % v.cells.size]!) = (rep v.cells.toList c').toArray := by
          apply Array.toList_inj.1; rw [hsz, hzl]
        have hsO : (Go.sizeOf el).run P w = .ok i.size w := run_sizeT (by simp [sizeT, hi]) w
        have hti : (typeInfo el).run P w = .ok i w := by simp [typeInfo, hi]
        by_cases h0 : c' * i.size = 0
        · have h00 : c' = 0 := by rcases Nat.mul_eq_zero.1 h0 with h | h <;> omega
          subst h00
          have hl0 : l' = 0 := by omega
          subst hl0
          have r0 : Array.range 0 = #[] := rfl
          simp [Instr.makeSlice, run_underlying hu, asInt, asIntOf, hti, w1, t1, t2, hsO, rep, run_newRowT, r0]
          try simp [IntKind.wrap_i64, run_newRowT, r0]
        · simp [Instr.makeSlice, run_underlying hu, asInt, asIntOf, hti, w1, w2, t1, t2, t3, t4, hsO, h0, run_zeroT hi g2, run_newRowT]
          have t2' : ¬ (281474976710656 < (i.bytes : Int) * (c' : Int)) := by simpa using t2
          have t4' : ¬ (c' < l') := by omega
          simp [t2', t4', run_newRowT, arr]
      · cases h
    · cases h
  · cases h

theorem opField_ok {t : TypeId} {x : AV} {vx : Value} {f : Nat} (h : opField P t x f σ = .ok res) (hx : av e x = some vx) : Still P e σ res (Instr.field t vx f) := by
  unfold opField at h
  split at h
  · rename_i fs cs hu
    obtain ⟨vs, h1, rfl⟩ := av_agg hx
    split at h
    · rename_i g hg
      split at h
      · rename_i n ha hs
        refine Still.one h _ (av_agg_mk (map_take (map_drop h1 g.offset) n)) (fun w => ?_)
        simp [Instr.field, run_underlying hu, hg, asAgg, part, run_isAggT ha, run_sizeT hs]
      · rename_i n ha hs
        split at h
        · rename_i c hc
          obtain ⟨v, hv, hcv⟩ := map_get h1 hc
          refine Still.one h v (by simpa [av, v1, cell] using hcv) (fun w => ?_)
          simp [Instr.field, run_underlying hu, hg, asAgg, part, run_isAggT ha, hv]
        · cases h
      · cases h
    · cases h
  · cases h

theorem opFieldAddr_ok {t : TypeId} {x : AV} {vx : Value} {f : Nat} (h : opFieldAddr P t x f σ = .ok res) (hx : av e x = some vx) : Still P e σ res (Instr.fieldAt t vx f) := by
  unfold opFieldAddr at h
  split at h
  · rename_i fs b o hu
    obtain ⟨q, hq, rfl⟩ := av_ptr hx
    split at h
    · rename_i g hg
      split at h
      · rename_i n hs
        refine Still.one h (.pointer (some ⟨q.1, q.2 + (o + g.offset), none⟩)) (by simp [av, v1, cv, ptr, cell, ptrV, hq]) (fun w => ?_)
        simp [Instr.fieldAt, run_underlying hu, hg, Instr.sureAddr, fieldPlace, run_sizeT hs, Addr.add_lit, Nat.add_assoc]
      · cases h
    · cases h
  · cases h

theorem opIndexAddr_ok {t : TypeId} {x ix : AV} {vx vi : Value} (h : opIndexAddr P t x ix σ = .ok res) (hx : av e x = some vx) (hi : av e ix = some vi) : Still P e σ res (Instr.indexAt t vx vi) := by
  unfold opIndexAddr at h
  split at h
  · rename_i el s i hu hn
    obtain ⟨k, rfl⟩ := asNat_ok hn hi
    obtain ⟨q, c, hq, hc, hsn, rfl⟩ := av_sl hx
    split at h
    · rename_i n hs
      split at h
      · rename_i hlt
        refine Still.one h (.pointer (some ⟨q.1, q.2 + (s.o + i * n), none⟩)) (by simp [av, v1, cv, ptr, cell, ptrV, hq]) (fun w => ?_)
        have h2 : (i : Int) < (s.n : Int) := by omega
        simp [Instr.indexAt, asIntOf, run_underlying hu, hlt, run_sizeT hs, Addr.add_lit, Nat.add_assoc]
      · cases h
    · cases h
  · rename_i len el b o i hu hn
    obtain ⟨k, rfl⟩ := asNat_ok hn hi
    obtain ⟨q, hq, rfl⟩ := av_ptr hx
    split at h
    · rename_i n hs
      split at h
      · rename_i hlt
        refine Still.one h (.pointer (some ⟨q.1, q.2 + (o + i * n), none⟩)) (by simp [av, v1, cv, ptr, cell, ptrV, hq]) (fun w => ?_)
        simp [Instr.indexAt, asIntOf, run_underlying hu, Instr.sureAddr, hlt, run_sizeT hs, Addr.add_lit, Nat.add_assoc]
      · cases h
    · cases h
  · cases h

theorem opIndex_ok {t : TypeId} {x ix : AV} {vx vi : Value} (h : opIndex P t x ix σ = .ok res) (hx : av e x = some vx) (hi : av e ix = some vi) : Still P e σ res (Instr.index t vx vi) := by
  unfold opIndex at h
  split at h
  · rename_i len el cs i hu hn
    obtain ⟨k, rfl⟩ := asNat_ok hn hi
    obtain ⟨vs, h1, rfl⟩ := av_agg hx
    split at h
    · rename_i n ha hs
      split at h
      · rename_i hlt
        refine Still.one h _ (av_agg_mk (map_take (map_drop h1 (i * n)) n)) (fun w => ?_)
        simp [Instr.index, asIntOf, run_underlying hu, hlt, part, run_isAggT ha, run_sizeT hs]
      · cases h
    · rename_i n ha hs
      split at h
      · rename_i hlt
        split at h
        · rename_i c hc
          obtain ⟨v, hv, hcv⟩ := map_get h1 hc
          refine Still.one h v (by simpa [av, v1, cell] using hcv) (fun w => ?_)
          simp [Instr.index, asIntOf, run_underlying hu, hlt, part, run_isAggT ha, run_sizeT hs, hv]
        · cases h
      · cases h
    · cases h
  · cases h

theorem opExtract_ok {x : AV} {vx : Value} {i : Nat} (h : opExtract x i σ = .ok res) (hx : av e x = some vx) : Still P e σ res (Instr.extract vx i) := by
  unfold opExtract at h
  split at h
  · rename_i l
    obtain ⟨vs, h1, rfl⟩ := av_tup hx
    split at h
    · rename_i v hv
      obtain ⟨u, hu, huv⟩ := map_get h1 hv
      refine Still.one h u huv (fun w => ?_)
      simp [Instr.extract, hu]
    · cases h
  · cases h
end
end Reck
