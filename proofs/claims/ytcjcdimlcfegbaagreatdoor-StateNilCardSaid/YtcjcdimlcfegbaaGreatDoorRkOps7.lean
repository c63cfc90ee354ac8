/- A reckoner of calls: what is built in, and slices.overlaps. No condition. -/
import Derived.Test.YtcjcdimlcfegbaaGreatDoorRkOps6
import Derived.Laws.Externs
set_option linter.unusedVariables false
set_option linter.unusedSimpArgs false
namespace Reck
open Go Ost

section
variable {P : Program} {w0 w : World} {e : Env} {σ : St} {res : List (AV × St)}

theorem lenA_ok {x : AV} {n : Nat} {vx : Value} (h : lenA x = some n) (hx : av e x = some vx) (w : World) : (Builtin.lenOf vx).run P w = .ok n w := by
  unfold lenA at h
  split at h
  · simp at h; subst h; obtain rfl := av_lit hx; rfl
  · simp at h; subst h; obtain rfl := av_lit hx; rfl
  · simp at h; subst h
    obtain ⟨q, c, hq, hc, hn, rfl⟩ := av_sl hx
    rfl
  · cases h

theorem firstA_ok (hk : Ok w0 e σ w) {x : AV} {z n : Nat} {cs : List Cell} {vx : Value} (h : firstA σ z n x = some cs) (hx : av e x = some vx) :
    ∃ vs : List Value, cs.map (cv e) = vs.map some ∧ vs.length = n * z ∧ (∀ v ∈ vs, v.oneCell' = true) ∧ ∀ w', (∀ a, w'.cell? a = w.cell? a) → (Builtin.firstCells z n vx).run P w' = .ok vs.toArray w' := by
  unfold firstA at h
  split at h
  · split at h
    · rename_i hn0
      simp at h; subst h; subst hn0
      obtain rfl := av_lit hx
      exact ⟨[], rfl, by simp, by simp, fun w' _ => rfl⟩
    · cases h
  · rename_i s
    split at h
    · rename_i hc
      obtain ⟨rfl, hn⟩ := hc
      simp only [Option.some.injEq] at h; subst h
      obtain rfl := av_lit hx
      refine ⟨(s.data.toList.take n).map fun b => .int .u8 b.toNat, ?_, ?_, ?_, ?_⟩
      · simp [Function.comp_def, cv]
      · have : s.data.size = s.size := rfl
        simp; omega
      · intro v hv
        obtain ⟨b, _, rfl⟩ := List.mem_map.1 hv
        rfl
      · intro w' _
        have : ((s.extract 0 n).data.map fun b => Value.int .u8 b.toNat) = ((s.data.toList.take n).map fun b => Value.int .u8 b.toNat).toArray := by
          apply Array.ext'
          simp [ByteArray.data_extract]
        simp only [Builtin.firstCells]
        rw [this]; rfl
    · cases h
  · rename_i s
    obtain ⟨q, c, hq, hc, hn, rfl⟩ := av_sl hx
    obtain ⟨vs, h1, h2, h3, h4⟩ := hk.load h hq
    refine ⟨vs, h1, h2, h4, fun w' hw' => ?_⟩
    have := run_loadCells_list (P := P) w' ⟨q.1, q.2 + s.o, none⟩ vs (fun j v hj => by rw [Addr.add_lit, hw']; exact h3 j v hj)
    rw [h2] at this
    simp [Builtin.firstCells, this]
  · cases h

theorem opAppend_ok (hk : Ok w0 e σ w) {t u : TypeId} {s x : AV} {sv xv : Value} {ts : Array TypeId} {ty : TypeId} {xs : Array Value} (h : opAppend P t u s x σ = .ok res) (hs : av e s = some sv) (hx : av e x = some xv)
    (hts0 : ts[0]? = some t) (hts1 : ts[1]? = some u) (hxs0 : xs[0]? = some sv) (hxs1 : xs[1]? = some xv) : SemOk P w0 e w res (Builtin.append_ ts ty xs) := by
  unfold opAppend at h
  split at h
  · rename_i el k ht hu
    split at h
    · rename_i i z m hi hz1 hm
      obtain ⟨i2, v, g1, g2, rfl, hz⟩ := zeroCs_some hz1
      rw [hi] at g1; simp at g1; subst g1
      obtain ⟨kx, rfl⟩ := asNat_ok hm hx
      split at h
      · rename_i hc
        obtain ⟨c1, c2, c3, c4, c5⟩ := hc
        simp at c1
        exact appendA_ok hk h hs (repeatA_cv (e := e) v.cells.toList m) (fun u hu => plain_inl hz u (rep_mem _ _ _ hu)) (by rw [rep_length]; simp only [Array.length_toList]; rw [c1])
          (.inl ⟨k, kx, hu, rfl, el, i, v, ht, hi, g2, by omega, rfl⟩) hts0 hts1 hxs0 hxs1 ht hi g2 rfl c2 c1 (plain_inl hz) c3 c4 c5
      · cases h
    · cases h
  · rename_i el d hd ht hu
    split at h
    · rename_i i z m hi hz1 hm
      obtain ⟨i2, v, g1, g2, rfl, hz⟩ := zeroCs_some hz1
      rw [hi] at g1; simp at g1; subst g1
      split at h
      · rename_i hc
        obtain ⟨c1, c2, c3, c4, c5⟩ := hc
        simp at c1
        split at h
        · rename_i news hnews
          split at h
          · obtain ⟨vs, f1, f2, f3, f4⟩ := firstA_ok (P := P) hk hnews hx
            refine appendA_ok hk h hs f1 f3 (by omega) (.inr ⟨d, hu, fun k hk2 => hd k hk2, fun w' => lenA_ok hm hx w', el, i, ht, hi, fun w' hw' => ?_⟩) hts0 hts1 hxs0 hxs1 ht hi g2 rfl c2 c1 (plain_inl hz) c3 c4 c5
            rcases hw' with rfl | rfl
            · exact f4 _ (fun _ => rfl)
            · exact f4 _ (fun _ => rfl)
          · cases h
        · cases h
      · cases h
    · cases h
  · cases h

theorem opCopy_ok (hk : Ok w0 e σ w) {t : TypeId} {d x : AV} {dv xv : Value} {ts : Array TypeId} {ty : TypeId} {xs : Array Value} (h : opCopy P t d x σ = .ok res) (hd : av e d = some dv) (hx : av e x = some xv)
    (hts0 : ts[0]? = some t) (hxs0 : xs[0]? = some dv) (hxs1 : xs[1]? = some xv) : SemOk P w0 e w res (Builtin.copy_ ts ty xs) := by
  unfold opCopy at h
  split at h
  · rename_i el nd nx ht hnd hnx
    split at h
    · rename_i z hz
      split at h
      · rename_i cs hcs
        obtain ⟨vs, f1, f2, f3, f4⟩ := firstA_ok (P := P) hk hcs hx
        have f5 := f4 w (fun _ => rfl)
        have hlx := lenA_ok (P := P) hnx hx w
        split at h
        · split at h
          · obtain rfl := av_lit hd
            simp [lenA] at hnd; subst hnd
            refine SemOk.one h _ (lit_av e _) hk ?_
            simp [Builtin.copy_, hts0, hxs0, hxs1, run_underlying ht, hlx, run_sizeT hz, f5]
          · rename_i s
            simp [lenA] at hnd; subst hnd
            obtain ⟨q, c, hq, hc, hn, rfl⟩ := av_sl hd
            split at h
            · rename_i σ' hst
              obtain ⟨w', b1, b2, b3⟩ := hk.store (P := P) hst hq f1 f3
              refine SemOk.one' h (Env.le.refl e) _ (lit_av e _) b2 ?_
              simp [Builtin.copy_, hts0, hxs0, hxs1, run_underlying ht, hlx, run_sizeT hz, f5, b1]
            · cases h
          · cases h
        · cases h
      · cases h
    · cases h
  · cases h

theorem opClear_ok (hk : Ok w0 e σ w) {t : TypeId} {x : AV} {xv : Value} {ts : Array TypeId} {ty : TypeId} {xs : Array Value} (h : opClear P t x σ = .ok res) (hx : av e x = some xv)
    (hts0 : ts[0]? = some t) (hxs0 : xs[0]? = some xv) : SemOk P w0 e w res (Builtin.clear_ ts ty xs) := by
  unfold opClear at h
  split at h
  · rename_i el n c ht
    obtain rfl := av_lit hx
    refine SemOk.one h _ (lit_av e _) hk ?_
    simp [Builtin.clear_, hts0, hxs0, run_underlying ht]
  · rename_i el s ht
    obtain ⟨q, c, hq, hc, hn, rfl⟩ := av_sl hx
    split at h
    · rename_i z hz1
      obtain ⟨i, v, g1, g2, rfl, hz⟩ := zeroCs_some hz1
      split at h
      · cases h
      · rename_i hz0
        simp only [List.length_map, Array.length_toList] at hz0
        split at h
        · rename_i σ' hst
          have hpos : 0 < v.cells.size := by omega
          obtain ⟨w', b1, b2, b3⟩ := hk.store (P := P) hst hq (repeatA_cv (e := e) v.cells.toList s.n) (fun u hu => plain_inl hz u (rep_mem _ _ _ hu))
          refine SemOk.one' h (Env.le.refl e) _ (lit_av e _) b2 ?_
          cases hsn : s.n with
          | zero =>
            rw [hsn] at b1
            simp [rep, storeCells] at b1
            subst b1
            simp [Builtin.clear_, hts0, hxs0, run_underlying ht, hsn]
          | succ k =>
            rw [hsn] at b1
            simp [Builtin.clear_, hts0, hxs0, run_underlying ht, hsn, run_zeroT g1 g2, zeroCells_rep _ hpos, b1]
        · cases h
    · cases h
  · cases h

theorem opBuiltin_ok (hk : Ok w0 e σ w) {b : Builtin} {ts : Array TypeId} {ty : TypeId} {cst : Array Bool} {xs : List AV} {vs : List Value} (h : opBuiltin P b ts.toList xs σ = .ok res) (hx : xs.map (av e) = vs.map some) :
    ∃ s : Sem Value, SemOk P w0 e w res s ∧ ∀ w v w', s.run P w = .ok v w' → (builtin b ts ty cst vs.toArray).run P w = .ok (.value v) w' := by
  have hts : ∀ {t : TypeId} {l}, ts.toList = t :: l → ts[0]? = some t := by
    intro t l h; rw [← Array.getElem?_toList, h]; rfl
  have hts1 : ∀ {t u : TypeId} {l}, ts.toList = t :: u :: l → ts[1]? = some u := by
    intro t u l h; rw [← Array.getElem?_toList, h]; rfl
  unfold opBuiltin at h
  split at h
  · rename_i t l x hl
    obtain ⟨v, rfl⟩ : ∃ v, vs = [v] := by
      match vs, map_len hx with
      | [v], _ => exact ⟨v, rfl⟩
    simp at hx
    refine ⟨Builtin.len_ ts ty #[v], ?_, fun w v' w' hr => by simp [builtin, hr]⟩
    split at h
    · rename_i el s ht
      obtain ⟨q, c, hq, hc, hn, rfl⟩ := av_sl hx
      refine SemOk.one h _ (lit_av e _) hk ?_
      simp [Builtin.len_, hts hl, run_underlying ht]
    · cases h
  · rename_i t l x hl
    obtain ⟨v, rfl⟩ : ∃ v, vs = [v] := by
      match vs, map_len hx with
      | [v], _ => exact ⟨v, rfl⟩
    simp at hx
    refine ⟨Builtin.cap_ ts ty #[v], ?_, fun w v' w' hr => by simp [builtin, hr]⟩
    split at h
    · rename_i el b o n c ht
      obtain ⟨q, c', hq, hc, hn, rfl⟩ := av_sl hx
      simp [capv] at hc; subst hc
      refine SemOk.one h _ (lit_av e _) hk ?_
      simp [Builtin.cap_, hts hl, run_underlying ht]
    · rename_i el b o n j ht
      obtain ⟨q, c', hq, hc, hn, rfl⟩ := av_sl hx
      simp only [capv] at hc
      cases hj : e.int[j]? with
      | none => simp [hj] at hc
      | some k =>
        rw [hj] at hc
        cases k with
        | negSucc k => simp at hc
        | ofNat k =>
          simp at hc; subst hc
          refine SemOk.one h (goInt (k : Nat)) (by simp [av, v1, cv, cell, intC, hj, goInt]) hk ?_
          simp [Builtin.cap_, hts hl, run_underlying ht]
    · rename_i el b o n j c hne ht
      obtain ⟨q, c', hq, hc, hn, rfl⟩ := av_sl hx
      simp only [Except.ok.injEq] at h; subst h
      have hlow := capLow_le hk hc
      dsimp only at hlow
      refine ⟨_, List.mem_singleton_self _, ⟨e.blk, e.int ++ [(c' : Int)], e.opq, e.arr, e.S, e.junk, e.Z⟩, goInt (c' : Nat), w, ⟨List.prefix_rfl, ⟨_, rfl⟩, List.prefix_rfl, List.prefix_rfl, rfl, List.prefix_rfl, rfl⟩, ?_, hk.addInt (c' : Int) _ ⟨by intro l hl2; simp at hl2; omega, by simp⟩, ?_⟩
      · simp [av, v1, cv, cell, intC, ← hk.ints, goInt]
      · simp [Builtin.cap_, hts hl, run_underlying ht]
    · cases h
  · rename_i t u l s x hl
    obtain ⟨a, b, rfl⟩ : ∃ a b, vs = [a, b] := by
      match vs, map_len hx with
      | [a, b], _ => exact ⟨a, b, rfl⟩
    simp at hx
    exact ⟨_, opAppend_ok (ty := ty) hk h hx.1 hx.2 (hts hl) (hts1 hl) (xs := #[a, b]) rfl rfl, fun w v' w' hr => by simp [builtin, hr]⟩
  · rename_i t l d x hl
    obtain ⟨a, b, rfl⟩ : ∃ a b, vs = [a, b] := by
      match vs, map_len hx with
      | [a, b], _ => exact ⟨a, b, rfl⟩
    simp at hx
    exact ⟨_, opCopy_ok (ty := ty) hk h hx.1 hx.2 (hts hl) (xs := #[a, b]) rfl rfl, fun w v' w' hr => by simp [builtin, hr]⟩
  · rename_i t l x hl
    obtain ⟨v, rfl⟩ : ∃ v, vs = [v] := by
      match vs, map_len hx with
      | [v], _ => exact ⟨v, rfl⟩
    simp at hx
    exact ⟨_, opClear_ok (ty := ty) hk h hx (hts hl) (xs := #[v]) rfl, fun w v' w' hr => by simp [builtin, hr]⟩
  · cases h
end
end Reck
