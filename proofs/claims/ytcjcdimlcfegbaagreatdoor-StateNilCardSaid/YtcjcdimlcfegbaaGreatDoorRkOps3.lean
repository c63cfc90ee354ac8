/- A reckoner of calls: cutting slices, comparing, and numbers that are left open. No condition. -/
import Derived.Test.YtcjcdimlcfegbaaGreatDoorRkOps2
set_option linter.unusedVariables false
set_option linter.unusedSimpArgs false
namespace Reck
open Go Ost

theorem opqs_get : ∀ (n i j : Nat), (opqs i n)[j]? = if j < n then some (opqC (i + j)) else none
  | 0, i, j => by simp [opqs]
  | n + 1, i, 0 => by simp [opqs]
  | n + 1, i, j + 1 => by
    simp only [opqs, List.getElem?_cons_succ, opqs_get n (i + 1) j, Nat.add_lt_add_iff_right]
    rw [show i + 1 + j = i + (j + 1) by omega]

section
variable {P : Program} {w0 w : World} {e : Env} {σ : St} {res : List (AV × St)}

theorem capLow_le (hk : Ok w0 e σ w) {j : Option Nat} {c n : Nat} (h : capv e j c = some n) : capLow σ j c ≤ n := by
  unfold capLow
  cases j with
  | none => simp [capv] at h; dsimp only; omega
  | some j =>
    simp only [capv] at h
    cases hj : e.int[j]? with
    | none => simp [hj] at h
    | some m =>
      rw [hj] at h
      cases m with
      | negSucc m => simp at h
      | ofNat m =>
        simp at h; subst h
        dsimp only
        split
        · rename_i l r hl
          have := (hk.bnd j _ _ hl hj).1 _ rfl
          have h2 : l ≤ m := by simpa using this
          omega
        · omega
theorem capLess_lt (hk : Ok w0 e σ w) {j : Option Nat} {c n m : Nat} (h : capv e j c = some n) (hm : capLess σ j c m = true) (h0 : 0 < m) : n < m := by
  unfold capLess at hm
  cases j with
  | none => simp [capv] at h; simp at hm; omega
  | some j =>
    simp only [capv] at h
    cases hj : e.int[j]? with
    | none => simp [hj] at h
    | some k =>
      rw [hj] at h
      cases k with
      | negSucc k => simp at h
      | ofNat k =>
        simp at h; subst h
        dsimp only at hm
        split at hm
        · rename_i l r hl
          have := (hk.bnd j _ _ hl hj).2 _ rfl
          have h2 : k ≤ r := by simpa using this
          simp at hm; omega
        · cases hm

theorem Ok.addOpqs (h : Ok w0 e σ w) (vs : List Value) (hv : ∀ v ∈ vs, v.oneCell' = true) : e.le ⟨e.blk, e.int, e.opq ++ vs, e.arr, e.S, e.junk, e.Z⟩ ∧ Ok w0 ⟨e.blk, e.int, e.opq ++ vs, e.arr, e.S, e.junk, e.Z⟩ ⟨σ.heap, σ.ints, σ.opqs + vs.length, σ.arrs, σ.junks⟩ w := by
  have hle : e.le ⟨e.blk, e.int, e.opq ++ vs, e.arr, e.S, e.junk, e.Z⟩ := ⟨List.prefix_rfl, List.prefix_rfl, ⟨vs, rfl⟩, List.prefix_rfl, rfl, List.prefix_rfl, rfl⟩
  refine ⟨hle, h.only, h.blks, h.ints, by simp [h.opqs], h.bnd, ?_, fun b x q h1 h2 => (h.blk b x q h1 h2).mono hle, h.apart, h.arrs.heap hle rfl rfl h.arrs.off, h.junks, h.froz.same rfl rfl rfl (fun g h => h)⟩
  intro v hv2
  simp at hv2
  rcases hv2 with hv2 | hv2
  · exact h.opq v hv2
  · exact hv v hv2

theorem Ok.widen (hk : Ok w0 e σ w) {b n : Nat} {σ' : St} (h : Reck.widen σ b n = some σ') : ∃ e', e.le e' ∧ Ok w0 e' σ' w := by
  unfold Reck.widen at h
  split at h
  · rename_i x hx
    split at h
    · simp at h; subst h; exact ⟨e, Env.le.refl e, hk⟩
    · rename_i hlen
      split at h
      · rename_i hcap
        simp at h; subst h
        obtain ⟨q, hq, hok⟩ := hk.at_ hx
        have hbl := getBlk_some hx
        have hok' := hok
        obtain ⟨g1, cur, fz, g2, g3, ⟨m, g4, g5⟩, g6, g7⟩ := hok'
        have hm := Nat.mul_le_mul_right (bu x) (capLow_le hk g4)
        have hcl : cur.toList.length = cur.size := Array.length_toList
        have hvl : ((cur.toList.drop (q.2 + x.cells.length)).take (n - x.cells.length)).length = n - x.cells.length := by
          rw [List.length_take, List.length_drop, hcl]; omega
        obtain ⟨a1, a2⟩ := hk.addOpqs ((cur.toList.drop (q.2 + x.cells.length)).take (n - x.cells.length)) (fun v hv => g6 v (by simpa using List.mem_of_mem_drop (List.mem_of_mem_take hv)))
        rw [hvl] at a2
        refine ⟨_, a1, ?_⟩
        refine a2.put (b := b) (x := x) (q := q) hbl hq (Only.refl _ w) ⟨g1, cur, fz, g2, ?_, ⟨m, capv_mono a1 g4, g5⟩, g6, g7⟩
        intro j c hc
        dsimp only at hc
        by_cases hj : j < x.cells.length
        · rw [List.getElem?_append_left hj] at hc
          obtain ⟨v, c1, c2⟩ := g3 j c hc
          exact ⟨v, cv_mono a1 c v c1, c2⟩
        · rw [List.getElem?_append_right (by omega), opqs_get] at hc
          split at hc
          · rename_i hj2
            simp at hc; subst hc
            have hlt : q.2 + j < cur.size := by omega
            refine ⟨cur[q.2 + j], ?_, by simp [hlt]⟩
            simp only [opqC, cv, ← hk.opqs]
            rw [List.getElem?_append_right (by omega), List.getElem?_take, if_pos (by omega), List.getElem?_drop, Array.getElem?_toList]
            rw [show q.2 + x.cells.length + (e.opq.length + (j - x.cells.length) - e.opq.length) = q.2 + j by omega]
            simp [hlt]
          · cases hc
      · cases h
  · cases h

theorem boundA_none {x : Option AV} {y d i : Nat} (h : boundA x y d = some i) (hx : x = none) : i = d := by
  subst hx; simpa [boundA] using h.symm
theorem boundA_some {x : Option AV} {u : AV} {y d i : Nat} (h : boundA x y d = some i) (hx : x = some u) {v : Value} (hv : av e u = some v) : i ≤ y ∧ ∃ k, v = .int k (i : Int) := by
  subst hx
  simp only [boundA] at h
  split at h
  · rename_i n hn
    split at h
    · rename_i hle; simp at h; subst h; exact ⟨hle, asNat_ok hn hv⟩
    · cases h
  · cases h

/-- An optional operand and its value. -/
def OptOk (e : Env) (x : Option AV) (v : Option Value) : Prop := (x = none ∧ v = none) ∨ ∃ u z, x = some u ∧ v = some z ∧ av e u = some z

theorem run_bounds (isSlice : Bool) (len cap lowcap h l : Nat) {lo hi : Option AV} {vlo vhi : Option Value} (hlo : OptOk e lo vlo) (hhi : OptOk e hi vhi) (hh : boundA hi lowcap len = some h) (hl : boundA lo h 0 = some l) (hc : lowcap ≤ cap) (hlen : len ≤ cap) :
    (∀ w, (Instr.sliceBounds isSlice len cap vlo vhi none).run P w = .ok (l, h, cap) w) ∧ h ≤ cap ∧ l ≤ h := by
  have sb : ∀ (w : World) (k : IntKind) (i y : Nat) (code : BoundsCode), i ≤ y → (Instr.sliceBound (.int k (i : Int)) y code).run P w = .ok i w := by
    intro w k i y code hi
    have : (i : Int) ≤ (y : Int) := by omega
    simp [Instr.sliceBound, asIntOf, this]
  rcases hhi with ⟨rfl, rfl⟩ | ⟨u, z, rfl, rfl, hz⟩
  · have := boundA_none hh rfl; subst this
    rcases hlo with ⟨rfl, rfl⟩ | ⟨u, z, rfl, rfl, hz⟩
    · have := boundA_none hl rfl; subst this
      refine ⟨fun w => ?_, hlen, Nat.zero_le _⟩
      simp [Instr.sliceBounds]
    · obtain ⟨g1, k, rfl⟩ := boundA_some hl rfl hz
      refine ⟨fun w => ?_, hlen, g1⟩
      simp [Instr.sliceBounds, sb w k l _ _ g1]
  · obtain ⟨g1, k, rfl⟩ := boundA_some hh rfl hz
    rcases hlo with ⟨rfl, rfl⟩ | ⟨u, z, rfl, rfl, hz⟩
    · have := boundA_none hl rfl; subst this
      refine ⟨fun w => ?_, by omega, Nat.zero_le _⟩
      simp [Instr.sliceBounds]
      cases isSlice <;> simp [sb w k h _ _ (show h ≤ cap by omega)]
    · obtain ⟨g2, k2, rfl⟩ := boundA_some hl rfl hz
      refine ⟨fun w => ?_, by omega, g2⟩
      simp [Instr.sliceBounds]
      cases isSlice <;> simp [sb w k h _ _ (show h ≤ cap by omega), sb w k2 l _ _ g2]

theorem sliceV_ok (hk : Ok w0 e σ w) {t : TypeId} {x : AV} {vx : Value} {lo hi mx : Option AV} {vlo vhi vmx : Option Value} {r : AV × Nat × Nat} (h : sliceV P t x lo hi mx σ = .ok r) (hx : av e x = some vx) (hlo : OptOk e lo vlo) (hhi : OptOk e hi vhi) (hmx : OptOk e mx vmx) :
    ∃ v, av e r.1 = some v ∧ ∀ w, (Instr.sliceAt t vx vlo vhi vmx).run P w = .ok v w := by
  unfold sliceV at h
  split at h
  · rename_i el s hu
    obtain ⟨q, c, hq, hc, hsn, rfl⟩ := av_sl hx
    have hmx' : vmx = none := by rcases hmx with ⟨_, h⟩ | ⟨u, z, h, _⟩; exact h; cases h
    subst hmx'
    have hlow := capLow_le hk hc
    split at h
    · rename_i n hn
      split at h
      · rename_i hh' hh
        split at h
        · rename_i l hl
          obtain ⟨k1, k2, k3⟩ := run_bounds (P := P) true s.n c _ hh' l hlo hhi hh hl hlow hsn
          have run : ∀ w, (Instr.sliceAt t (.slice (some ⟨q.1, q.2 + s.o, none⟩) s.n c) vlo vhi none).run P w = .ok (.slice (if c = l then some ⟨q.1, q.2 + s.o, none⟩ else some ⟨q.1, q.2 + s.o + l * n, none⟩) (hh' - l) (c - l)) w := by
            intro w
            simp [Instr.sliceAt, run_underlying hu, Instr.slice, k1, run_sizeT hn, Addr.add_lit]
          split at h
          · rename_i hlc
            simp at h; subst h
            rw [if_neg (show ¬ c = l by omega)] at run
            refine ⟨_, ?_, run⟩
            have hcap : capv e s.j (if s.j.isSome then s.c + l else s.c - l) = some (c - l) := by
              cases hj : s.j with
              | none => rw [hj] at hc; simp [capv] at hc ⊢; omega
              | some j =>
                rw [hj] at hc
                simp only [capv, Option.isSome_some, if_true] at hc ⊢
                cases he : e.int[j]? with
                | none => simp [he] at hc
                | some m => rw [he] at hc; cases m <;> simp at hc ⊢; omega
            simp only [av, v1, cv, sl, cell, hq, hcap]
            rw [if_pos (by omega)]
            simp [Nat.add_assoc]
          · rename_i hlc
            split at h
            · rename_i hl0
              subst hl0
              simp at h; subst h
              refine ⟨_, ?_, run⟩
              simp only [av, v1, cv, sl, cell, hq, hc]
              rw [if_pos (by omega)]
              simp
            · rename_i hl0
              split at h
              · rename_i hj
                simp at h; subst h
                refine ⟨_, ?_, run⟩
                rw [hj] at hc hlc
                simp [capv] at hc
                simp [capLow] at hlc
                have : c = l := by
                  have hh2 : hh' ≤ capLow σ s.j s.c := by
                    rcases hhi with ⟨rfl, rfl⟩ | ⟨u, z, rfl, rfl, hz⟩
                    · have := boundA_none hh rfl; rw [hj]; simp [capLow]; omega
                    · exact (boundA_some hh rfl hz).1
                  rw [hj] at hh2; simp [capLow] at hh2; omega
                rw [if_pos this]
                simp only [av, v1, cv, sl, cell, hq, capv]
                rw [if_pos (by omega)]
                rw [show c - l = 0 by omega]
              · cases h
        · cases h
      · cases h
    · cases h
  · rename_i a b o hu
    obtain ⟨q, hq, rfl⟩ := av_ptr hx
    have hmx' : vmx = none := by rcases hmx with ⟨_, h⟩ | ⟨u, z, h, _⟩; exact h; cases h
    subst hmx'
    split at h
    · rename_i len el ha
      split at h
      · rename_i n hn
        split at h
        · rename_i hh' hh
          split at h
          · rename_i l hl
            obtain ⟨k1, k2, k3⟩ := run_bounds (P := P) false len len _ hh' l hlo hhi hh hl (Nat.le_refl _) (Nat.le_refl _)
            have run : ∀ w, (Instr.sliceAt t (.pointer (some ⟨q.1, q.2 + o, none⟩)) vlo vhi none).run P w = .ok (.slice (if len = l then some ⟨q.1, q.2 + o, none⟩ else some ⟨q.1, q.2 + o + l * n, none⟩) (hh' - l) (len - l)) w := by
              intro w
              simp [Instr.sliceAt, run_underlying hu, Instr.slice, asAddr, run_underlying ha, k1, run_sizeT hn, Addr.add_lit]
              split <;> rfl
            split at h
            · rename_i hlc
              simp at h; subst h
              refine ⟨_, ?_, run⟩
              simp only [av, v1, cv, sl, cell, hq, capv]
              rw [if_pos (by omega)]
              by_cases hll : len = l
              · have : l = 0 := by omega
                subst this; simp [hll]
              · rw [if_neg hll]; simp [Nat.add_assoc]
            · rename_i hlc
              simp at h; subst h
              refine ⟨_, ?_, run⟩
              have : len = l := by omega
              rw [if_pos this]
              simp only [av, v1, cv, sl, cell, hq, capv]
              rw [if_pos (by omega), show len - l = 0 by omega]
          · cases h
        · cases h
      · cases h
    · cases h
  · rename_i len el b o hu
    obtain ⟨q, hq, rfl⟩ := av_ptr hx
    have hmx' : vmx = none := by rcases hmx with ⟨_, h⟩ | ⟨u, z, h, _⟩; exact h; cases h
    subst hmx'
    split at h
    · rename_i n hn
      split at h
      · rename_i hh' hh
        split at h
        · rename_i l hl
          obtain ⟨k1, k2, k3⟩ := run_bounds (P := P) false len len _ hh' l hlo hhi hh hl (Nat.le_refl _) (Nat.le_refl _)
          have run : ∀ w, (Instr.sliceAt t (.pointer (some ⟨q.1, q.2 + o, none⟩)) vlo vhi none).run P w = .ok (.slice (if len = l then some ⟨q.1, q.2 + o, none⟩ else some ⟨q.1, q.2 + o + l * n, none⟩) (hh' - l) (len - l)) w := by
            intro w
            simp [Instr.sliceAt, run_underlying hu, Instr.sureAddr, k1, run_sizeT hn, Addr.add_lit]
            split <;> rfl
          split at h
          · rename_i hlc
            simp at h; subst h
            refine ⟨_, ?_, run⟩
            simp only [av, v1, cv, sl, cell, hq, capv]
            rw [if_pos (by omega)]
            by_cases hll : len = l
            · have : l = 0 := by omega
              subst this; simp [hll]
            · rw [if_neg hll]; simp [Nat.add_assoc]
          · rename_i hlc
            simp at h; subst h
            refine ⟨_, ?_, run⟩
            have : len = l := by omega
            rw [if_pos this]
            simp only [av, v1, cv, sl, cell, hq, capv]
            rw [if_pos (by omega), show len - l = 0 by omega]
        · cases h
      · cases h
    · cases h
  · cases h

theorem opSlice_ok (hk : Ok w0 e σ w) {t : TypeId} {x : AV} {vx : Value} {lo hi mx : Option AV} {vlo vhi vmx : Option Value} (h : opSlice P t x lo hi mx σ = .ok res) (hx : av e x = some vx) (hlo : OptOk e lo vlo) (hhi : OptOk e hi vhi) (hmx : OptOk e mx vmx) :
    SemOk P w0 e w res (Instr.sliceAt t vx vlo vhi vmx) := by
  unfold opSlice at h
  split at h
  · rename_i v b n hs
    obtain ⟨u, h1, h2⟩ := sliceV_ok hk hs hx hlo hhi hmx
    split at h
    · rename_i σ' hw
      obtain ⟨e', a1, a2⟩ := hk.widen hw
      exact SemOk.one' h a1 u (av_mono a1 _ _ h1) a2 (h2 w)
    · cases h
  · cases h

/-! ### Comparing -/
theorem run_eqGuard (op : BinOp) (t : TypeId) (x y : Operand) (a b : Value) (ha : a.oneCell' = true) (ha2 : a ≠ .nilIface) : (eqGuard op t x y a b).run P w = .ok () w := by
  unfold eqGuard
  cases op <;> first | rfl | (cases a <;> first | rfl | (simp [Value.oneCell'] at ha; done) | (exact absurd rfl ha2))

theorem ltOut_ok (hk : Ok w0 e σ w) {i : Nat} {c n : Int} (hn : e.int[i]? = some n) : ∃ p ∈ ltOut i c σ, p.1 = decide (n < c) ∧ Ok w0 e p.2 w := by
  unfold ltOut
  cases hi : σ.ints[i]? with
  | none =>
    by_cases hlt : n < c
    · exact ⟨(true, σ), by simp, by simp [hlt], hk⟩
    · exact ⟨(false, σ), by simp, by simp [hlt], hk⟩
  | some b =>
    obtain ⟨lo, hi'⟩ := b
    obtain ⟨b1, b2⟩ := hk.bnd i _ n hi hn
    dsimp only
    split
    · rename_i hh
      refine ⟨(true, σ), by simp, ?_, hk⟩
      cases hi' with
      | none => simp [under] at hh
      | some h => simp [under] at hh; have := b2 h rfl; simp; omega
    · split
      · rename_i hh
        refine ⟨(false, σ), by simp, ?_, hk⟩
        cases lo with
        | none => simp [upper] at hh
        | some l => simp [upper] at hh; have := b1 l rfl; simp; omega
      · by_cases hlt : n < c
        · refine ⟨(true, setI σ i (lo, minI hi' (c - 1))), by simp, by simp [hlt], hk.setInt hn _ ⟨b1, ?_⟩⟩
          intro h hh
          cases hi' with
          | none => simp [minI] at hh; omega
          | some h' =>
            simp only [minI] at hh
            split at hh
            · simp at hh; omega
            · simp at hh; have := b2 h' rfl; omega
        · refine ⟨(false, setI σ i (maxI lo c, hi')), by simp, by simp [hlt], hk.setInt hn _ ⟨?_, b2⟩⟩
          intro l hl
          cases lo with
          | none => simp [maxI] at hl; omega
          | some l' =>
            simp only [maxI] at hl
            split at hl
            · simp at hl; omega
            · simp at hl; have := b1 l' rfl; omega
theorem eqOut_ok (hk : Ok w0 e σ w) {i : Nat} {c n : Int} (hn : e.int[i]? = some n) : ∃ p ∈ eqOut i c σ, p.1 = decide (n = c) ∧ Ok w0 e p.2 w := by
  unfold eqOut
  cases hi : σ.ints[i]? with
  | none =>
    by_cases hlt : n = c
    · exact ⟨(true, σ), by simp, by simp [hlt], hk⟩
    · exact ⟨(false, σ), by simp, by simp [hlt], hk⟩
  | some b =>
    obtain ⟨lo, hi'⟩ := b
    obtain ⟨b1, b2⟩ := hk.bnd i _ n hi hn
    dsimp only
    split
    · rename_i hh
      refine ⟨(false, σ), by simp, ?_, hk⟩
      cases hi' with
      | none => simp [under] at hh
      | some h => simp [under] at hh; have := b2 h rfl; simp; omega
    · split
      · rename_i hh
        refine ⟨(false, σ), by simp, ?_, hk⟩
        cases lo with
        | none => simp [upper] at hh
        | some l => simp [upper] at hh; have := b1 l rfl; simp; omega
      · by_cases hlt : n = c
        · refine ⟨(true, setI σ i (some c, some c)), by simp, by simp [hlt], hk.setInt hn _ ⟨?_, ?_⟩⟩
          · intro l hl; simp at hl; omega
          · intro l hl; simp at hl; omega
        · exact ⟨(false, σ), by simp, by simp [hlt], hk⟩
theorem outs_ok {neg : Bool} {l : List (Bool × St)} {p : Bool × St} (h : outs neg l = .ok res) (hp : p ∈ l) (hk : Ok w0 e p.2 w) (s : Sem Value) (hs : s.run P w = .ok (.bool (if neg then !p.1 else p.1)) w) : SemOk P w0 e w res s := by
  simp only [outs, Except.ok.injEq] at h; subst h
  exact ⟨_, List.mem_map.2 ⟨p, hp, rfl⟩, e, _, w, Env.le.refl e, lit_av e (.bool (if neg then !p.1 else p.1)), hk, hs⟩
theorem anyOut_ok {σ : St} (b : Bool) : (b, σ) ∈ anyOut σ := by cases b <;> simp [anyOut]

theorem dle (a c : Int) : decide (c ≤ a) = !decide (a < c) := by rw [Bool.eq_iff_iff]; simp
theorem dlt (a c : Int) : decide (c < a) = !decide (a ≤ c) := by rw [Bool.eq_iff_iff]; simp

/-- What a number is. -/
def iv (e : Env) : Int ⊕ Nat → Option Int
  | .inl n => some n
  | .inr i => e.int[i]?
theorem intOf_ok {x : AV} {k : IntKind} {i : Int ⊕ Nat} {v : Value} (h : intOf x = some (k, i)) (hv : av e x = some v) : ∃ n, v = .int k n ∧ iv e i = some n := by
  unfold intOf at h
  split at h
  · simp at h; obtain ⟨rfl, rfl⟩ := h; exact ⟨_, av_lit hv, rfl⟩
  · simp at h; obtain ⟨rfl, rfl⟩ := h
    simp only [av, v1, cv] at hv
    split at hv
    · rename_i n hn; simp at hv; exact ⟨n, hv.symm, hn⟩
    · cases hv
  · cases h

theorem openInt_ok (hk : Ok w0 e σ w) (k : IntKind) (h : Except.ok [openInt k σ] = (Except.ok res : Res)) (s : Sem Value) (hs : ∃ n, s.run P w = .ok (.int k n) w) : SemOk P w0 e w res s := by
  obtain ⟨n, hs⟩ := hs
  simp only [Except.ok.injEq] at h; subst h
  refine ⟨_, List.mem_singleton_self _, ⟨e.blk, e.int ++ [n], e.opq, e.arr, e.S, e.junk, e.Z⟩, .int k n, w, ⟨List.prefix_rfl, ⟨_, rfl⟩, List.prefix_rfl, List.prefix_rfl, rfl, List.prefix_rfl, rfl⟩, ?_, hk.addInt n (none, none) ⟨by simp, by simp⟩, hs⟩
  simp [openInt, av, v1, cv, cell, intC, ← hk.ints]

theorem opInt_ok (hk : Ok w0 e σ w) {op : BinOp} {k : IntKind} {x y : Int ⊕ Nat} {a b : Int} (h : opInt op k x y σ = .ok res) (hx : iv e x = some a) (hy : iv e y = some b) (t : TypeId) : SemOk P w0 e w res (binOp op t (.int k a) (.int k b)) := by
  have lt1 : ∀ (i : Nat) (c n : Int), e.int[i]? = some n → ∀ neg, outs neg (ltOut i c σ) = .ok res → ∀ s : Sem Value, s.run P w = .ok (.bool (if neg then !decide (n < c) else decide (n < c))) w → SemOk P w0 e w res s := by
    intro i c n hn neg ho s hs
    obtain ⟨p, p1, p2, p3⟩ := ltOut_ok hk (c := c) hn
    exact outs_ok ho p1 p3 s (by rw [p2]; exact hs)
  have eq1 : ∀ (i : Nat) (c n : Int), e.int[i]? = some n → ∀ neg, outs neg (eqOut i c σ) = .ok res → ∀ s : Sem Value, s.run P w = .ok (.bool (if neg then !decide (n = c) else decide (n = c))) w → SemOk P w0 e w res s := by
    intro i c n hn neg ho s hs
    obtain ⟨p, p1, p2, p3⟩ := eqOut_ok hk (c := c) hn
    exact outs_ok ho p1 p3 s (by rw [p2]; exact hs)
  have cmp : ∀ (b' : Bool) (i j : Nat) (s : Sem Value), (if i = j then Reck.one (lit (.bool b')) σ else outs false (anyOut σ)) = .ok res → iv e (.inr i) = some a → iv e (.inr j) = some b → (a = b → s.run P w = .ok (.bool b') w) → (∃ r, s.run P w = .ok (.bool r) w) → SemOk P w0 e w res s := by
    intro b' i j s hi hia hjb h1 h2
    split at hi
    · rename_i hij
      subst hij
      rw [hia] at hjb; simp at hjb
      exact SemOk.one hi _ (lit_av e _) hk (h1 hjb)
    · obtain ⟨r, hr⟩ := h2
      exact outs_ok hi (anyOut_ok r) hk s (by simpa using hr)
  unfold opInt at h
  split at h
  all_goals (try (cases h; done))
  · exact openInt_ok hk k h _ ⟨_, by simp [binOp, Op.intArith]; rfl⟩
  · exact openInt_ok hk k h _ ⟨_, by simp [binOp, Op.intArith]; rfl⟩
  · exact openInt_ok hk k h _ ⟨_, by simp [binOp, Op.intArith]; rfl⟩
  · exact openInt_ok hk k h _ ⟨_, by simp [binOp, Op.intBits]; rfl⟩
  · exact openInt_ok hk k h _ ⟨_, by simp [binOp, Op.intBits]; rfl⟩
  · exact openInt_ok hk k h _ ⟨_, by simp [binOp, Op.intBits]; rfl⟩
  · simp [iv] at hx hy; subst hy; exact lt1 _ _ _ hx _ h _ (by simp [binOp, Op.intCmp])
  · simp [iv] at hx hy; subst hy; exact lt1 _ _ _ hx _ h _ (by simp [binOp, Op.intCmp]; exact dle _ _)
  · simp [iv] at hx hy; subst hy; exact lt1 _ _ _ hx _ h _ (by simp [binOp, Op.intCmp, Int.lt_add_one_iff])
  · simp [iv] at hx hy; subst hy; exact lt1 _ _ _ hx _ h _ (by simp [binOp, Op.intCmp, Int.lt_add_one_iff]; exact dlt _ _)
  · simp [iv] at hx hy; subst hx; exact lt1 _ _ _ hy _ h _ (by simp [binOp, Op.intCmp])
  · simp [iv] at hx hy; subst hx; exact lt1 _ _ _ hy _ h _ (by simp [binOp, Op.intCmp]; exact dle _ _)
  · simp [iv] at hx hy; subst hx; exact lt1 _ _ _ hy _ h _ (by simp [binOp, Op.intCmp, Int.lt_add_one_iff])
  · simp [iv] at hx hy; subst hx; exact lt1 _ _ _ hy _ h _ (by simp [binOp, Op.intCmp, Int.lt_add_one_iff]; exact dlt _ _)
  · simp [iv] at hx hy; subst hy; exact eq1 _ _ _ hx _ h _ (by simp [binOp, Op.intCmp]; rfl)
  · simp [iv] at hx hy; subst hx; exact eq1 _ _ _ hy _ h _ (by simp [binOp, Op.intCmp, eq_comm, BEq.comm]; rfl)
  · simp [iv] at hx hy; subst hy; exact eq1 _ _ _ hx _ h _ (by simp [binOp, Op.intCmp, bne]; rfl)
  · simp [iv] at hx hy; subst hx; exact eq1 _ _ _ hy _ h _ (by simp [binOp, Op.intCmp, bne, BEq.comm]; rfl)
  · exact cmp _ _ _ _ h hx hy (fun e => by subst e; simp [binOp, Op.intCmp]) ⟨_, by simp [binOp, Op.intCmp]; rfl⟩
  · exact cmp _ _ _ _ h hx hy (fun e => by subst e; simp [binOp, Op.intCmp]) ⟨_, by simp [binOp, Op.intCmp]; rfl⟩
  · exact cmp _ _ _ _ h hx hy (fun e => by subst e; simp [binOp, Op.intCmp]) ⟨_, by simp [binOp, Op.intCmp]; rfl⟩
  · exact cmp _ _ _ _ h hx hy (fun e => by subst e; simp [binOp, Op.intCmp]) ⟨_, by simp [binOp, Op.intCmp]; rfl⟩
  · exact cmp _ _ _ _ h hx hy (fun e => by subst e; simp [binOp, Op.intCmp]) ⟨_, by simp [binOp, Op.intCmp]; rfl⟩
  · exact cmp _ _ _ _ h hx hy (fun e => by subst e; simp [binOp, Op.intCmp]) ⟨_, by simp [binOp, Op.intCmp]; rfl⟩
end
end Reck
