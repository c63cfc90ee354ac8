/- A reckoner of calls: append, copy, clear, len, cap. No condition. -/
import Derived.Test.YtcjcdimlcfegbaaGreatDoorRkOps5
set_option linter.unusedVariables false
set_option linter.unusedSimpArgs false
namespace Reck
open Go Ost

section
variable {P : Program} {w0 w : World} {e : Env} {σ : St} {res : List (AV × St)}

theorem grownNew_ok (hk : Ok w0 e σ w) {el : TypeId} {cells : List Cell} {n N u : Nat} {z : Bool} {vs rest : List Value} (hv : cells.map (cv e) = vs.map some) (hN : n ≤ N) (hl : N * (u + 1) ≤ vs.length + rest.length) (h1 : ∀ v ∈ vs, v.oneCell' = true) (h2 : ∀ v ∈ rest, v.oneCell' = true) :
    ∃ e', e.le e' ∧ Ok w0 e' (grownU σ el cells n u z).2 (w.drew.alloc (.cells (vs ++ rest).toArray el)) ∧ av e' (grownU σ el cells n u z).1 = some (.slice (some ⟨w.heap.size, 0, none⟩) n N) := by
  have hw := hk.world (((Only.refl (fun _ => False) w).drew).alloc (.cells (vs ++ rest).toArray el))
  have := grownAt_ok hw (el := el) (cells := cells) (n := n) (N := N) (q := (w.heap.size, 0)) (cur := (vs ++ rest).toArray) (.inl hk.only.size) (heap_alloc_new w.drew _) ?_ hN (by simp; omega) ?_ (z := z) (u := u) (fun _ => rfl) (.inl rfl) ?_ ?_ hk.froz.fresh
  · exact ⟨_, this.1, this.2.1, this.2.2⟩
  · intro j c hc
    obtain ⟨v, a, b⟩ := map_get hv hc
    refine ⟨v, b, ?_⟩
    have hlt := (List.getElem?_eq_some_iff.1 a).1
    simp only [Nat.zero_add, List.getElem?_toArray]
    rw [List.getElem?_append_left hlt]; exact a
  · intro v hv'
    simp at hv'
    rcases hv' with hv' | hv'
    · exact h1 v hv'
    · exact h2 v hv'
  · intro b y q' k1 k2
    have := (hk.blk b y q' k1 k2).lt
    dsimp only; omega
  · intro a y q' k1 k2
    have := (hk.arrs.ok a y _ k1 k2).lt
    dsimp only; omega

theorem run_none {ts : Array TypeId} {ty : TypeId} {xs : Array Value} {t u el : TypeId} {i : TypeInfo} {base : Option Addr} {sLen sCap : Nat} {x : Value} {news : List Value} (hts0 : ts[0]? = some t) (hts1 : ts[1]? = some u) (hxs0 : xs[0]? = some (.slice base sLen sCap)) (hxs1 : xs[1]? = some x)
    (ht : P.underlying t = some (.slice el)) (hi : P.info? el = some i) {sz : Nat} (hsize : i.size = sz) (hn : News P w t u x 0 news) (hnl : news.length = 0) (hfit : sLen ≤ sCap) :
    (Builtin.append_ ts ty xs).run P w = .ok (.slice base sLen sCap) w := by
  obtain rfl : news = [] := List.eq_nil_of_length_eq_zero hnl
  rcases hn with ⟨k, kx, hu, rfl, el', i', z, h1, h2, h3, h4, h5⟩ | ⟨d, hu, hd, hlen, el', i', h1, h2, h3⟩
  · have hw : IntKind.i64.wrap (0 : Int) = 0 := IntWalk.i64_in _ (by omega)
    cases base <;> simp [Builtin.append_, hts0, hts1, hxs0, hxs1, run_underlying ht, run_underlying hu, Go.sizeOf, typeInfo, hi, hsize, asInt, asIntOf, hw, hfit, storeCells]
  · rw [ht] at h1; simp at h1; subst h1
    rw [hi] at h2; simp at h2; subst h2
    have h4 := h3 w (.inl rfl)
    rw [hsize] at h4
    have hmat : ∀ {α : Type} (a b : α), (match d with | .int _ => a | _ => b) = b := by
      intro α a b; cases d <;> first | rfl | exact absurd rfl (hd _)
    cases base <;> simp [Builtin.append_, hts0, hts1, hxs0, hxs1, run_underlying ht, run_underlying hu, Go.sizeOf, typeInfo, hi, hsize, hmat, hlen, hfit, h4, storeCells]

theorem appendA_ok (hk : Ok w0 e σ w) {el t u : TypeId} {s : AV} {m : Nat} {news : List Cell} {nv : List Value} {sv x : Value} {ts : Array TypeId} {ty : TypeId} {xs : Array Value} {i : TypeInfo} {z : Value} {sz : Nat} (h : appendA el sz s m news σ = .ok res) (hs : av e s = some sv)
    (hnews : news.map (cv e) = nv.map some) (hnp : ∀ v ∈ nv, v.oneCell' = true) (hnl : nv.length = m * sz) (hN : News P w t u x m nv) (hts0 : ts[0]? = some t) (hts1 : ts[1]? = some u) (hxs0 : xs[0]? = some sv) (hxs1 : xs[1]? = some x)
    (ht : P.underlying t = some (.slice el)) (hi : P.info? el = some i) (hz : i.zero = some z) (hsize : i.size = sz) (hs0 : 0 < sz) (hzs : z.cells.size = sz) (hzp : ∀ v ∈ z.cells.toList, v.oneCell' = true) (hb0 : 0 < i.bytes) (hb : i.bytes ≤ 65536) (hm2 : m ≤ 16777216) : SemOk P w0 e w res (Builtin.append_ ts ty xs) := by
  have hzl : ∀ k, (Builtin.zeroCells z.cells k).toList = rep z.cells.toList k := fun k => by rw [zeroCells_rep _ (by omega)]
  have hrp : ∀ k, ∀ v ∈ (Builtin.zeroCells z.cells k).toList, v.oneCell' = true := fun k v hv => hzp v (rep_mem _ k v (by rw [← hzl]; exact hv))
  have hrl : ∀ k, (Builtin.zeroCells z.cells k).toList.length = k * sz := fun k => by rw [hzl, rep_length]; simp [hzs]
  unfold appendA at h
  split at h
  · obtain rfl := av_lit hs
    split at h
    · rename_i hm0
      subst hm0
      exact SemOk.one h _ (by simp [av, v1, cv]) hk (run_none hts0 hts1 hxs0 hxs1 ht hi hsize hN (by rw [hnl, Nat.zero_mul]) (Nat.le_refl _))
    · rename_i hm0
      simp only [Except.ok.injEq] at h; subst h
      have hr := run_grow (P := P) (w := w) (ty := ty) (olds := []) hts0 hts1 hxs0 hxs1 ht hi hz hsize hs0 hb0 hb hN (by omega) hm2 (by omega) (by omega) (by simp [Builtin.firstCells])
      simp only [Nat.zero_add, List.nil_append] at hr
      have hge := grownCap_ge w m 0 el
      obtain ⟨e', a1, a2, a3⟩ := grownNew_ok hk (el := el) (n := m) (N := grownCap w m 0 el) (rest := (Builtin.zeroCells z.cells (grownCap w m 0 el - m)).toList) (u := sz - 1) hnews hge (by rw [hrl, hnl, show sz - 1 + 1 = sz by omega, ← Nat.add_mul]; exact Nat.mul_le_mul_right _ (by omega)) hnp (hrp _)
      exact ⟨_, List.mem_singleton_self _, e', _, _, a1, a3, a2, hr⟩
  · rename_i r
    obtain ⟨q, c, hq, hc, hn, rfl⟩ := av_sl hs
    split at h
    · rename_i hm0
      subst hm0
      exact SemOk.one h _ hs hk (run_none hts0 hts1 hxs0 hxs1 ht hi hsize hN (by rw [hnl, Nat.zero_mul]) hn)
    · rename_i hm0
      split at h
      · rename_i bk hbk
        split at h
        · rename_i hcond
          obtain ⟨c1, c2, c3⟩ := hcond
          have hbl := getBlk_some hbk
          have hok := hk.blk _ _ _ hbl hq
          obtain ⟨g1, cur, fz, g2, g3, ⟨N0, g4, g5⟩, g6, g7, g8⟩ := hok
          have hlow := capLow_le hk hc
          have hlow2 := Nat.mul_le_mul_right (bu bk) (capLow_le hk g4)
          have hadd : (r.n + m) * sz = r.n * sz + m * sz := Nat.add_mul _ _ _
          have hs1 : sz - 1 + 1 = sz := by omega
          have hlm : news.length = m * sz := by rw [map_len hnews]; exact hnl
          -- the old ones
          have hload : loadA σ r.b r.o (r.n * sz) = some ((bk.cells.drop r.o).take (r.n * sz)) := by simp [loadA, hbk, c3]
          obtain ⟨ov, o1, o2, o3, o4⟩ := hk.load hload hq
          have hold : ∀ w', (∀ a, w'.cell? a = w.cell? a) → (Builtin.firstCells i.size r.n (.slice (some ⟨q.1, q.2 + r.o, none⟩) r.n c)).run P w' = .ok ov.toArray w' := by
            intro w' hw'
            have := run_loadCells_list (P := P) w' ⟨q.1, q.2 + r.o, none⟩ ov (fun j v hj => by rw [Addr.add_lit, hw']; exact o3 j v hj)
            rw [o2] at this
            simp [Builtin.firstCells, hsize, this]
          split at h
          · rename_i hfit
            have hr := run_fit (P := P) (w := w) (ty := ty) hts0 hts1 hxs0 hxs1 ht hi hsize hs0 hb hN (by omega) hm2 (show r.n + m ≤ c by omega)
            obtain ⟨w', b1, b2, b3, b4⟩ := hk.write (P := P) (o := r.o + r.n * sz) hbk hq c3 (fun cur' fz' hc' => by rw [g2] at hc'; simp at hc'; obtain ⟨rfl, rfl⟩ := hc'; omega) hnews hnp
            rw [Nat.add_assoc, b1] at hr
            refine SemOk.one' h (Env.le.refl e) _ ?_ b2 hr
            simp only [av, v1, cv, sl, cell, hq, hc]
            rw [if_pos (by omega)]
          · rename_i hnfit
            -- a new row
            have fresh : c < r.n + m → ∀ (zz : Bool) (σ' : St), Ok w0 e σ' w → ∃ e' v w', e.le e' ∧ av e' (grownU σ' el ((bk.cells.drop r.o).take (r.n * sz) ++ news) (r.n + m) (sz - 1) zz).1 = some v ∧ Ok w0 e' (grownU σ' el ((bk.cells.drop r.o).take (r.n * sz) ++ news) (r.n + m) (sz - 1) zz).2 w' ∧ (Builtin.append_ ts ty xs).run P w = .ok v w' := by
              intro hlt zz σ' hk'
              have hr := run_grow (P := P) (w := w) (ty := ty) (olds := ov) hts0 hts1 hxs0 hxs1 ht hi hz hsize hs0 hb0 hb hN (by omega) hm2 c2 hlt (hold w.drew (fun a => rfl))
              have hge := grownCap_ge w (r.n + m) c el
              obtain ⟨e', a1, a2, a3⟩ := grownNew_ok hk' (el := el) (cells := (bk.cells.drop r.o).take (r.n * sz) ++ news) (n := r.n + m) (N := grownCap w (r.n + m) c el) (vs := ov ++ nv) (rest := (Builtin.zeroCells z.cells (grownCap w (r.n + m) c el - (r.n + m))).toList)
                (by rw [List.map_append, List.map_append, o1, hnews]) hge (by rw [hrl, List.length_append, o2, hnl, hs1, ← Nat.add_mul, ← Nat.add_mul]; exact Nat.mul_le_mul_right _ (by omega)) (by intro v hv; simp at hv; rcases hv with hv | hv; exact o4 v hv; exact hnp v hv) (hrp _)
              exact ⟨e', _, _, a1, a3, a2, hr⟩
            split at h
            · rename_i hless
              simp only [Except.ok.injEq] at h; subst h
              obtain ⟨e', v, w', a1, a2, a3, a4⟩ := fresh (capLess_lt hk hc hless (by omega)) false σ hk
              exact ⟨_, List.mem_singleton_self _, e', v, w', a1, a2, a3, a4⟩
            · split at h
              · rename_i hkill
                obtain ⟨j1, j2, j4, j3⟩ := hkill
                simp only [Except.ok.injEq] at h; subst h
                by_cases hlt : c < r.n + m
                · obtain ⟨e', v, w', a1, a2, a3, a4⟩ := fresh hlt bk.z _ (hk.kill hbl hq (Only.refl _ w))
                  exact ⟨_, List.mem_singleton_self _, e', v, w', a1, a2, a3, a4⟩
                · have hsz : r.o + c * sz ≤ N0 * sz := by
                    cases hj : r.j with
                    | none => rw [hj] at j1; simp at j1
                    | some j =>
                      rw [show b0 bk = 0 by unfold b0; rw [j2, hj]; rfl, j2, hj] at g4
                      rw [hj] at hc
                      simp only [capv] at g4 hc
                      cases he : e.int[j]? with
                      | none => simp [he] at hc
                      | some k =>
                        rw [he] at g4 hc
                        cases k with
                        | negSucc k => simp at hc
                        | ofNat k =>
                          simp at g4 hc
                          have e1 : k * sz = (k - r.c) * sz + r.c * sz := by rw [← Nat.add_mul, Nat.sub_add_cancel (by omega)]
                          rw [← g4, ← hc, e1]; omega
                  have hbu : bu bk = sz := by unfold bu; rw [j2]; rw [if_pos j1]; exact j4
                  have hmul := Nat.mul_le_mul_right sz (show r.n + m ≤ c by omega)
                  rw [hbu] at g5
                  have hr := run_fit (P := P) (w := w) (ty := ty) hts0 hts1 hxs0 hxs1 ht hi hsize hs0 hb hN (by omega) hm2 (show r.n + m ≤ c by omega)
                  obtain ⟨w', b1, b2, b3, b4⟩ := hk.write (P := P) (o := r.o + r.n * sz) hbk hq c3 (fun cur' fz' hc' => by rw [g2] at hc'; simp at hc'; obtain ⟨rfl, rfl⟩ := hc'; omega) hnews hnp
                  rw [Nat.add_assoc, b1] at hr
                  have hblt : r.b < σ.heap.length := (List.getElem?_eq_some_iff.1 hbl).1
                  have hbok := b2.blk r.b ⟨bk.elem, splice bk.cells (r.o + r.n * sz) news, bk.j, bk.c, bk.z⟩ q (by simp [putBlk, hblt]) hq
                  obtain ⟨d1, cur', fz', d2, d3, ⟨N1, d4, d5⟩, d6, d7, d8⟩ := hbok
                  dsimp only at d2 d3 d4 d7
                  have d4 : capv e bk.j (b0 bk) = some N1 := d4
                  have d5 : q.2 + N1 * bu bk ≤ cur'.size := d5
                  rw [g4] at d4; simp at d4; subst d4
                  rw [hbu] at d5
                  have hkk := hk.kill hbl hq b3
                  have hdis : ∀ (b : Nat) y q', (putBlk σ r.b none).heap[b]? = some (some y) → e.blk[b]? = some q' → q'.1 ≠ q.1 := by
                    intro b y q' k1 k2
                    simp only [putBlk] at k1
                    by_cases hbb : r.b = b
                    · subst hbb; rw [List.getElem?_set_self hblt] at k1; simp at k1
                    · rw [List.getElem?_set_ne hbb] at k1
                      exact fun he => hk.apart r.b b bk y q q' hbb hbl k1 hq k2 he.symm
                  have hdisa : ∀ (a : Nat) y q', (putBlk σ r.b none).arrs[a]? = some (some y) → e.arr[a]? = some (.inr q') → q'.1 ≠ q.1 := hk.arrs.blk_ne hbl hq g1
                  have := grownAt_ok hkk (el := el) (cells := (bk.cells.drop r.o).take (r.n * sz) ++ news) (n := r.n + m) (N := c) (q := (q.1, q.2 + r.o)) (cur := cur') (u := sz - 1) g1 (by rw [← c1]; exact d2) ?_ (by omega) (by dsimp only; rw [hs1]; omega) d6 d7 d8 hdis hdisa (hk.froz.not (.inl ⟨r.b, bk, q, hbl, hq, rfl⟩))
                  · exact ⟨_, List.mem_singleton_self _, _, _, w', this.1, this.2.2, this.2.1, hr⟩
                  · intro j cc hcc
                    have hlk : ((bk.cells.drop r.o).take (r.n * sz)).length = r.n * sz := by simp; omega
                    have hspl : (splice bk.cells (r.o + r.n * sz) news)[r.o + j]? = some cc := by
                      rw [splice_get _ _ _ c3]
                      by_cases hjn : j < r.n * sz
                      · rw [if_pos (by omega)]
                        rw [List.getElem?_append_left (by omega), List.getElem?_take, if_pos hjn, List.getElem?_drop] at hcc
                        exact hcc
                      · rw [if_neg (by omega)]
                        rw [List.getElem?_append_right (by omega), hlk] at hcc
                        have := (List.getElem?_eq_some_iff.1 hcc).1
                        rw [if_pos (by omega), show r.o + j - (r.o + r.n * sz) = j - r.n * sz by omega]
                        exact hcc
                    obtain ⟨v, k1, k2⟩ := d3 _ _ hspl
                    exact ⟨v, k1, by rw [show q.2 + r.o + j = q.2 + (r.o + j) by omega]; exact k2⟩
              · cases h
        · cases h
      · cases h
  · cases h
end
end Reck
