/- A reckoner of calls: slices.overlaps of a block and of rows; rows that are told anew under another number. No condition. -/
import Derived.Test.YtcjcdimlcfegbaaGreatDoorRkV
set_option linter.unusedVariables false
set_option linter.unusedSimpArgs false
namespace Reck
open Go Ost

theorem run_overlapsA {P : Program} {w : World} (ps rs : Array TypeId) {tS el : TypeId} {i : TypeInfo} (hp : ps[0]? = some tS) (ht : P.underlying tS = some (.slice el)) (hi : P.info? el = some i) (a : Addr) (b : Option Addr) (la ca lb cb : Nat)
    {tA : TypeId} {kA : Nat} (hsa : w.shape? a.block = some (tA, kA)) (hfa : w.frozen? a = false) (hfe : w.frozen? { block := a.block, off := kA } = false)
    (hb : lb = 0 ∨ ∃ b', b = some b' ∧ a.block ≠ b'.block ∧ ∃ tB kB, w.shape? b'.block = some (tB, kB + 1)) :
    (Extern.SlicesOverlaps.overlaps ps rs #[.slice (some a) la ca, .slice b lb cb]).run P w = .ok (.bool false) w := by
  have hz : (Go.sizeOf el).run P w = .ok i.size w := run_sizeT (by simp [sizeT, hi]) w
  cases b with
  | none =>
    change Sem.run P (α := Value) (do
      let some t := ps[0]? | stuck "slices.overlaps: no parameter types"
      let .slice elem ← underlying t | stuck "slices.overlaps: slice type expected"
      let size ← sizeOf elem
      pure (Value.bool false)) w = _
    simp [hp, run_underlying ht, hz]
  | some b =>
    change Sem.run P (α := Value) (do
      let some t := ps[0]? | stuck "slices.overlaps: no parameter types"
      let .slice elem ← underlying t | stuck "slices.overlaps: slice type expected"
      let size ← sizeOf elem
      match (some a : Option Addr), (some b : Option Addr) with
      | some a, some b =>
        if la = 0 ∨ lb = 0 ∨ size = 0 then pure (Value.bool false)
        else if a.block != b.block && (← frozen a) && (← frozen b) then unsupported .addressObserved
        else do
          if a.block != b.block then do
            noView a; noView b
            if ← mayBeOne a b then return Value.bool ((← choose (.extern "sameAddr.stringBytes" 2)) == 1)
          pure (Value.bool (a.block == b.block && a.off < b.off + lb * size && b.off < a.off + la * size))
      | _, _ => pure (Value.bool false)) w = _
    rcases hb with hb | ⟨b', hb', hne, tB, kB, hsb⟩
    · simp [hp, run_underlying ht, hz, hb]
    · cases hb'
      have hnb : (a.block != b.block) = true := by simpa using hne
      have hnb' : (a.block == b.block) = false := by simpa using hne
      by_cases h0 : la = 0 ∨ lb = 0 ∨ i.size = 0
      · simp [hp, run_underlying ht, hz, h0]
      · simp [hp, run_underlying ht, hz, h0, hnb, hnb', frozen, noView, viewAt, mayBeOne, stringish, shape, Sem.run, hsa, hsb, hfa, hfe]

section
variable {P : Program} {w0 w : World} {e : Env} {σ : St} {tm : List AV} {a : Act}
def ovR (x y : AV) (σ : St) : Option MR :=
  match x, rslX y with
  | .inl (.inl (.inr (.inr (.inl s)))), some r => match getBlk σ s.b, getArr σ r.a with
    | some bx, some b => match b.k with
      | .o (.rows ks L) => if !bx.z && !b.ro then some fun K => r.o + r.n ≤ L.length ∧ K (lit (.bool false)) σ else none
      | _ => none
    | _, _ => none
  | _, _ => none
theorem ovR_ok (hk : Ok w0 e σ w) {ov : List FuncId} {g : FuncId} {x y : AV} {vx vy : Value} {T : MR} {K : AV → St → Prop} (hov : isOverlaps P g = true) (h : ovR x y σ = some T) (hK : T K) (hx : av e x = some vx) (hy : av e y = some vy) :
    K (lit (.bool false)) σ ∧ (callFunc g #[vx, vy]).run P w = .ok (.value (.bool false)) w := by
  unfold ovR at h
  split at h
  · rename_i s r hr
    obtain rfl := rslX_eq hr
    obtain ⟨ps, rs, tS, el, i, hp, ht, hi, hrun⟩ := overlaps_call hov
    split at h
    · rename_i bx b hbx hb
      split at h
      · rename_i ks L hbk
        split at h
        · rename_i hc
          simp only [Bool.and_eq_true, Bool.not_eq_eq_eq_not, Bool.not_true] at hc
          simp only [Option.some.injEq] at h; subst h
          obtain ⟨hlen, hK⟩ := hK
          refine ⟨hK, ?_⟩
          obtain ⟨q1, c1, hq1, hc1, hn1, rfl⟩ := av_sl hx
          obtain ⟨_, cA, fA, hA, _, _, _, zA, _⟩ := hk.blk _ _ _ (getBlk_some hbx) hq1
          rw [zA hc.1] at hA
          have hsa : w.shape? q1.1 = some (bx.elem, cA.size) := by simp [World.shape?, hA]
          have hf : ∀ o s, w.frozen? ⟨q1.1, o, s⟩ = false := by intro o s; simp [World.frozen?, hA]
          rcases rsl_ok hy with ⟨A, _, hn, hc0, rfl⟩ | ⟨q, hq, hn, rfl⟩
          · exact hrun _ _ _ _ (run_overlapsA ps rs hp ht hi _ A _ _ _ _ hsa (hf _ _) (hf _ _) (.inl rfl))
          · refine hrun _ _ _ _ (run_overlapsA ps rs hp ht hi _ _ _ _ _ _ hsa (hf _ _) (hf _ _) ?_)
            obtain ⟨h0, cur, el', fz, g1, g2, g3⟩ := hk.rowsAt hb hbk hq
            obtain ⟨_, g5, g6, _⟩ := g3 hc.2
            by_cases hz : r.n = 0
            · exact .inl hz
            · refine .inr ⟨_, rfl, ?_, el', cur.size - 1, ?_⟩
              · have := hk.arrs.off _ _ _ _ _ _ (getArr_some hb) hc.2 hq (getBlk_some hbx) hq1
                exact fun h => this h.symm
              · have hcap : 1 * 1 ≤ b.cap * ks.length := Nat.mul_le_mul (by omega) (by omega)
                have : cur.size - 1 + 1 = cur.size := by omega
                simp [World.shape?, g1, this]
        · cases h
      · cases h
    · cases h
  · cases h

/-! ### append, where rows are told up to their capacity -/
/-- Where is appended: how many rows; all up to the capacity. -/
def destF (ks : List CK) (el : TypeId) (σ : St) (x : AV) : Option (Nat × DstR) :=
  match x with
  | .inl (.inl (.inl (.slice none 0 0))) => some (0, ⟨0, [], True, σ⟩)
  | x => match rslX x with
    | some s => match destR ks el σ (cell (rslC ⟨s.a, s.u, s.o, s.c, s.c⟩)) with
      | some d => some (s.n, d)
      | none => none
    | none => none
def appF (el : TypeId) (ks : List CK) (n : Nat) (d : DstR) (s : SrcR) : MR := fun K =>
  d.ok ∧ s.ok ∧ n ≤ 16777216 ∧ s.n ≤ 16777216 ∧ ∀ (L' T : List (List CV)) (n' c' : Nat), L' = d.L.take n ++ s.L ++ T → n' = n + s.n → n' ≤ c' → L'.length = c' → K (cell (rslC ⟨d.st.arrs.length, ks.length, 0, n', c'⟩)) (addArr d.st ⟨el, .o (.rows ks L'), [], c', false⟩)
/-- So many noughts behind, where there is no room: what was there stays. -/
def appG (el : TypeId) (ks : List CK) (n : Nat) (d : DstR) (m : Int) (r : List CV) (σ : St) : MR := fun K =>
  d.ok ∧ n ≤ 16777216 ∧ (0 ≤ m ∧ m ≤ 16777216) ∧ (d.n : Int) < n + m ∧ ∀ (L' T : List (List CV)) (n' c' : Nat), L' = d.L.take n ++ List.replicate m.toNat r ++ T → (n' : Int) = n + m → n' ≤ c' → L'.length = c' → K (cell (rslC ⟨σ.arrs.length, ks.length, 0, n', c'⟩)) (addArr σ ⟨el, .o (.rows ks L'), [], c', false⟩)
/-- The kinds of rows; where a slice of rows is told, numbers alone are rows, too. -/
def rowKindsF (P : Program) (el : TypeId) (x : AV) : Option (List CK) :=
  match rslX x with
  | some _ => kindsOf P 10 el
  | none => rowKinds P el
def appendF (P : Program) (t u : TypeId) (x y : AV) (σ : St) : Option MR :=
  match P.underlying t, P.underlying u with
  | some (.slice el), some (.int _) => match rowKindsF P el x, P.info? el, intX y with
    | some ks, some i, some (_, m) => match i.zero with
      | some z => if Nat.blt 0 ks.length && Nat.beq i.size ks.length && Nat.beq z.cells.size ks.length && (z.cells.toList.all fun v => v.oneCell') && Nat.blt 0 i.bytes && Nat.ble i.bytes 65536 then match destF ks el σ x, rowOf ks (z.cells.toList.map .inl) with
          | some (n, d), some r => some (appG el ks n d m r σ)
          | _, _ => none
        else none
      | none => none
    | _, _, _ => none
  | some (.slice el), some _ => match rowKindsF P el x, P.info? el with
    | some ks, some i => match i.zero with
      | some z => if Nat.blt 0 ks.length && Nat.beq i.size ks.length && Nat.beq z.cells.size ks.length && (z.cells.toList.all fun v => v.oneCell') && Nat.blt 0 i.bytes && Nat.ble i.bytes 65536 then match destF ks el σ x, readR ks σ y, rowOf ks (z.cells.toList.map .inl) with
          | some (n, d), some s, some _ => some (appF el ks n d s)
          | _, _, _ => none
        else none
      | none => none
    | _, _ => none
  | _, _ => none
theorem destF_ok (hk : Ok w0 e σ w) {ks : List CK} {el : TypeId} {x : AV} {n : Nat} {d : DstR} {v : Value} (h0 : 0 < ks.length) (h : destF ks el σ x = some (n, d)) (hok : d.ok) (hv : av e x = some v) :
    ∃ base c, v = .slice base n c ∧ n ≤ c ∧ d.n = c ∧ DstROk P w0 w e ks el d (.slice base c c) ∧ ∃ d', d'.st = d.st ∧ d'.n = n ∧ d'.L = d.L.take n ∧ DstROk P w0 w e ks el d' (.slice base n c) := by
  unfold destF at h
  split at h
  · simp only [Option.some.injEq, Prod.mk.injEq] at h
    obtain ⟨rfl, rfl⟩ := h
    obtain rfl := av_lit hv
    have hd := destR_ok (P := P) hk h0 (show destR ks el σ (.inl (.inl (.inl (.slice none 0 0)))) = some ⟨0, [], True, σ⟩ from rfl) trivial hv
    exact ⟨none, 0, rfl, Nat.le_refl _, rfl, hd, _, rfl, rfl, rfl, hd⟩
  · split at h
    · rename_i s hs
      obtain rfl := rslX_eq hs
      split at h
      · rename_i d' hd'
        simp only [Option.some.injEq, Prod.mk.injEq] at h
        obtain ⟨rfl, rfl⟩ := h
        have hF := hd'
        simp only [destR, rslX, cell, rslC] at hd'
        split at hd'
        · rename_i b hb
          split at hd'
          · rename_i ks' L hbk
            split at hd'
            · rename_i hc
              simp only [Option.some.injEq] at hd'
              subst hd'
              obtain ⟨o1, o2⟩ := hok
              have hvF : ∃ base, v = .slice base s.n s.c ∧ s.n ≤ s.c ∧ av e (cell (rslC ⟨s.a, s.u, s.o, s.c, s.c⟩)) = some (.slice base s.c s.c) := by
                rcases rsl_ok hv with ⟨A, g1, g2, g3, rfl⟩ | ⟨q, g1, g2, rfl⟩
                · exact ⟨A, by rw [g2, g3], by omega, by rw [g3]; exact rsl_nil (s := ⟨s.a, s.u, s.o, 0, 0⟩) g1 rfl rfl⟩
                · exact ⟨_, rfl, g2, rsl_av (s := ⟨s.a, s.u, s.o, s.c, s.c⟩) g1 (Nat.le_refl _)⟩
              obtain ⟨base, rfl, hn, hvF⟩ := hvF
              refine ⟨base, s.c, rfl, hn, rfl, destR_ok hk h0 hF ⟨o1, o2⟩ hvF, ⟨s.n, (L.drop s.o).take s.n, s.o + s.n ≤ L.length ∧ s.o + s.c ≤ b.cap, setArr σ s.a none⟩, rfl, rfl, ?_, ?_⟩
              · dsimp only
                rw [List.take_take, Nat.min_eq_left hn]
              · refine destR_ok hk h0 ?_ ⟨by omega, o2⟩ hv
                simp only [destR, rslX, cell, rslC, hb, hbk, hc, if_true]
            · cases hd'
          · cases hd'
        · cases hd'
      · cases h
    · cases h
theorem appF_ok {ks : List CK} {el t u : TypeId} {n c : Nat} {d d' : DstR} {s : SrcR} {base : Option Addr} {x : Value} {ts : Array TypeId} {ty : TypeId} {xs : Array Value} {i : TypeInfo} {z : Value} {zr : List CV} {K : AV → St → Prop} (h : appF el ks n d s K) (h0 : 0 < ks.length) (hn : n ≤ c) (hdn : d.n = c)
    (hF : DstROk P w0 w e ks el d (.slice base c c)) (e1 : d'.st = d.st) (e2 : d'.n = n) (e3 : d'.L = d.L.take n) (hd : DstROk P w0 w e ks el d' (.slice base n c)) (hst : Typ ks s.L) (hsl : s.L.length = s.n) (hN : News P w t u x s.n (flatV ks s.L)) (hts0 : ts[0]? = some t) (hts1 : ts[1]? = some u)
    (hxs0 : xs[0]? = some (.slice base n c)) (hxs1 : xs[1]? = some x) (ht : P.underlying t = some (.slice el)) (hi : P.info? el = some i) (hz : i.zero = some z) (hsize : i.size = ks.length) (hzs : z.cells.size = ks.length) (hzr : RowT ks zr ∧ rowV ks zr = z.cells.toList) (hb0 : 0 < i.bytes) (hb : i.bytes ≤ 65536) :
    ∃ v σ' e' r w', K v σ' ∧ e.le e' ∧ av e' v = some r ∧ Ok w0 e' σ' w' ∧ (Builtin.append_ ts ty xs).run P w = .ok r w' := by
  obtain ⟨_, _, h1, h2, hK⟩ := h
  obtain ⟨hdt, hdl, hdf, _, _⟩ := hd
  obtain ⟨hFt, hFl, _, hdst, base', c', hbe, _, hmem⟩ := hF
  rw [hdn] at hbe hmem hFl
  obtain ⟨rfl, _, rfl⟩ := Value.slice.inj hbe
  rw [e2] at hdl hdf
  have hLn : d'.L.length = n := hdl
  rw [← e3] at hK
  have hnl : (flatV ks s.L).length = s.n * ks.length := by rw [flat_len hst, hsl]
  have hol : (flatV ks d'.L).length = n * ks.length := by rw [flat_len hdt, hLn]
  have hlen := hdst.arrs.len
  have fin : ∀ (w' : World) (bs : Option Addr ⊕ (Nat × Nat)) (c' : Nat) (T : List (List CV)), n + s.n ≤ c' → (d'.L ++ s.L ++ T).length = c' → Ok w0 e d.st w' → AOk w0 w' e ⟨el, .o (.rows ks (d'.L ++ s.L ++ T)), [], c', false⟩ bs → (∀ A, bs = .inl A → n + s.n = 0 ∧ c' = 0) →
      (∀ p, bs = .inr p → (∀ (b : Nat) y q', d.st.heap[b]? = some (some y) → e.blk[b]? = some q' → q'.1 ≠ p.1) ∧ (∀ (i : Nat) y q', d.st.arrs[i]? = some (some y) → y.ro = false → e.arr[i]? = some (.inr q') → q'.1 ≠ p.1) ∧ ¬ FrzP d.st p.1) →
      (Builtin.append_ ts ty xs).run P w = .ok (.slice (match bs with | .inl A => A | .inr p => some ⟨p.1, p.2, none⟩) (n + s.n) c') w' →
      ∃ v σ' e' r w', K v σ' ∧ e.le e' ∧ av e' v = some r ∧ Ok w0 e' σ' w' ∧ (Builtin.append_ ts ty xs).run P w = .ok r w' := by
    intro w' bs c' T hc' hLT hok hA hnone hdis hr
    refine ⟨_, _, ⟨e.blk, e.int, e.opq, e.arr ++ [bs], e.S, e.junk, e.Z⟩, _, w', hK (d'.L ++ s.L ++ T) T (n + s.n) c' rfl rfl hc' hLT, le_arr e bs, ?_, hok.arrAdd hA rfl (fun p hp => ⟨(hdis p hp).1, (hdis p hp).2.1⟩) ⟨(fun F hF => by rcases hF with h | h <;> cases h), fun p hp => (hdis p hp).2.2⟩, hr⟩
    cases bs with
    | inl A =>
      obtain ⟨n1, n2⟩ := hnone A rfl
      rw [n1, n2]
      exact rsl_nil (s := ⟨d.st.arrs.length, ks.length, 0, 0, 0⟩) (by simp [← hlen]) rfl rfl
    | inr p => exact rsl_new (q := p) (by simp [← hlen]) hc'
  have hTd : ∀ k, Typ ks (d.L.drop k) := fun k => hFt.sub fun x hx => List.mem_of_mem_drop hx
  by_cases hm0 : s.n = 0
  · have hsl0 : s.L = [] := List.eq_nil_of_length_eq_zero (by omega)
    rw [hm0] at hN
    have hr := run_none (P := P) (w := w) (ty := ty) hts0 hts1 hxs0 hxs1 ht hi hsize hN (by rw [hsl0]; rfl) hn
    rcases hmem with ⟨n1, n2⟩ | ⟨g, o, cur, fz, rfl, g1, hfz, g2, g3, g4, g5, g6, g7, g8⟩
    · have hd0 : d'.L = [] := List.eq_nil_of_length_eq_zero (by omega)
      refine fin w (.inl base) 0 [] (by omega) (by rw [hd0, hsl0]; rfl) hdst ?_ (fun _ _ => ⟨by omega, rfl⟩) (by intro p hp; cases hp) (by rw [hr]; simp [hm0, n2])
      exact ⟨rfl, .inr (.inl ⟨ks, by rw [hd0, hsl0]; rfl⟩)⟩
    · have hwh : d'.L ++ s.L ++ d.L.drop n = d.L := by rw [hsl0, List.append_nil, e3, List.take_append_drop]
      refine fin w (.inr (g, o)) c (d.L.drop n) (by omega) (by rw [hwh]; exact hFl) hdst (by rw [hwh]; exact AOk.ofRows rfl h0 hFt ⟨cur, el, fz, g1, g2, rfl, g5, ⟨rfl, hfz⟩, g3, by dsimp only; omega, g4⟩) (by intro A h; cases h) (by rintro p hp; simp at hp; subst hp; exact ⟨g7, g8⟩) (by rw [hr]; simp [hm0])
  · have hpos : 0 < s.n := by omega
    by_cases hfit : n + s.n ≤ c
    · rcases hmem with ⟨n1, n2⟩ | ⟨g, o, cur, fz, rfl, g1, hfz, g2, g3, g4, g5, g6, g7, g8⟩
      · omega
      · have hr := run_fit (P := P) (w := w) (ty := ty) hts0 hts1 hxs0 hxs1 ht hi hsize h0 hb hN hpos h2 hfit
        have hmul : (n + s.n) * ks.length ≤ c * ks.length := Nat.mul_le_mul_right _ hfit
        rw [Nat.add_mul] at hmul
        have hst' := run_storeCells_fz P g (o + n * ks.length) el fz (flatV ks s.L) 0 cur w g1 hfz (by rw [hnl]; omega) (flat_one hst)
        rw [hst'] at hr
        simp only [Result.andThen_ok] at hr
        have hon := arr_only w g (cur.toList.take (o + n * ks.length + 0) ++ flatV ks s.L ++ cur.toList.drop (o + n * ks.length + 0 + (flatV ks s.L).length)).toArray
        have hTw : Typ ks (d'.L ++ s.L ++ d.L.drop (n + s.n)) := (hdt.app hst).app (hTd _)
        have hlw : (d'.L ++ s.L ++ d.L.drop (n + s.n)).length = c := by rw [List.length_append, List.length_append, List.length_drop]; omega
        refine fin _ (.inr (g, o)) c (d.L.drop (n + s.n)) hfit hlw (g6 _ hon) (AOk.ofRows rfl h0 hTw ⟨_, el, fz, setRow_heap w g cur _ el _ g1, ?_, rfl, g5, ⟨rfl, hfz.imp id (fun h => by simp; omega)⟩, ?_, by dsimp only; omega, ?_⟩) (by intro A h; cases h) (by rintro p hp; simp at hp; subst hp; exact ⟨g7, g8⟩) hr
        · intro j v hj
          dsimp only
          rw [List.getElem?_toArray, Nat.add_zero, sand_get _ _ _ (by simp; omega)]
          rw [flat_app, flat_app] at hj
          by_cases hjd : j < n * ks.length
          · rw [if_pos (by omega)]
            rw [List.append_assoc, List.getElem?_append_left (by omega)] at hj
            rw [Array.getElem?_toList]
            refine g2 j v ?_
            rw [e3, flat_take _ hFt, List.getElem?_take] at hj
            rw [if_pos hjd] at hj; exact hj
          · rw [if_neg (by omega)]
            by_cases hj2 : j < n * ks.length + s.n * ks.length
            · rw [List.getElem?_append_left (by rw [List.length_append]; omega), List.getElem?_append_right (by omega), hol] at hj
              rw [if_pos (by omega), show o + j - (o + n * ks.length) = j - n * ks.length by omega, hj]
            · rw [List.getElem?_append_right (by rw [List.length_append]; omega), List.length_append, hol, hnl, flat_drop _ hFt, List.getElem?_drop, Nat.add_mul] at hj
              rw [if_neg (by omega), Array.getElem?_toList]
              refine g2 j v ?_
              rw [← hj]; congr 1; omega
        · simp; omega
        · intro v hv
          simp only [List.mem_toArray, List.mem_append] at hv
          rcases hv with (hv | hv) | hv
          · exact g4 v (by simpa using List.mem_of_mem_take hv)
          · exact flat_one hst v hv
          · exact g4 v (by simpa using List.mem_of_mem_drop hv)
    · have hr := run_grow (P := P) (w := w) (ty := ty) (olds := flatV ks d'.L) hts0 hts1 hxs0 hxs1 ht hi hz hsize h0 hb0 hb hN hpos h2 h1 (by omega) (by rw [hsize]; exact hdf)
      have hge := grownCap_ge w (n + s.n) c el
      have hzl : ∀ k, (Builtin.zeroCells z.cells k).toList = rep z.cells.toList k := fun k => by rw [zeroCells_rep _ (by omega)]
      have hTz : ∀ k, Typ ks (List.replicate k zr) := fun k x hx => by rw [List.mem_replicate] at hx; rw [hx.2]; exact hzr.1
      have hfz : ∀ k, flatV ks (List.replicate k zr) = (Builtin.zeroCells z.cells k).toList := fun k => by rw [flat_rep, hzr.2, hzl]
      obtain ⟨k, hk⟩ : ∃ k, k = grownCap w (n + s.n) c el - (n + s.n) := ⟨_, rfl⟩
      rw [← hk, ← hfz k] at hr
      have hTw : Typ ks (d'.L ++ s.L ++ List.replicate k zr) := (hdt.app hst).app (hTz _)
      have hlw : (d'.L ++ s.L ++ List.replicate k zr).length = grownCap w (n + s.n) c el := by rw [List.length_append, List.length_append, List.length_replicate]; omega
      have hw := hdst.world (((Only.refl (fun _ => False) w).drew).alloc (.cells (flatV ks d'.L ++ flatV ks s.L ++ flatV ks (List.replicate k zr)).toArray el))
      refine fin _ (.inr (w.heap.size, 0)) _ (List.replicate k zr) hge hlw hw (AOk.ofRows rfl h0 hTw ⟨_, el, (0, 0), heap_alloc_new w.drew _, ?_, rfl, .inl hdst.only.size, ⟨rfl, .inl rfl⟩, ?_, by dsimp only; omega, ?_⟩) (by intro A h; cases h) ?_ hr
      · intro j v hj
        rw [flat_app, flat_app] at hj
        dsimp only
        rw [List.getElem?_toArray, Nat.zero_add]; exact hj
      · have : (flatV ks (d'.L ++ s.L ++ List.replicate k zr)).length = grownCap w (n + s.n) c el * ks.length := by rw [flat_len hTw, hlw]
        rw [flat_app, flat_app] at this
        simp only [List.size_toArray, this]; omega
      · intro v hv
        have := flat_one hTw v (by rw [flat_app, flat_app]; simpa using hv)
        exact this
      · rintro p hp
        simp at hp; subst hp
        refine ⟨fun b y q' k1 k2 => ?_, fun i y q' k1 k2 k3 => ?_, hdst.froz.fresh⟩
        · have := (hdst.blk b y q' k1 k2).lt; dsimp only; omega
        · have := (hdst.arrs.ok i y _ k1 k3).lt; dsimp only; omega
theorem appG_ok (hk : Ok w0 e σ w) {ks : List CK} {el t u : TypeId} {n c : Nat} {d d' : DstR} {base : Option Addr} {m : Int} {k kx : IntKind} {ts : Array TypeId} {ty : TypeId} {xs : Array Value} {i : TypeInfo} {z : Value} {zr : List CV} {K : AV → St → Prop} (h : appG el ks n d m zr σ K) (h0 : 0 < ks.length) (hn : n ≤ c) (hdn : d.n = c)
    (hF : DstROk P w0 w e ks el d (.slice base c c)) (e1 : d'.st = d.st) (e2 : d'.n = n) (e3 : d'.L = d.L.take n) (hd : DstROk P w0 w e ks el d' (.slice base n c)) (hu : P.underlying u = some (.int k)) (hts0 : ts[0]? = some t) (hts1 : ts[1]? = some u)
    (hxs0 : xs[0]? = some (.slice base n c)) (hxs1 : xs[1]? = some (.int kx m)) (ht : P.underlying t = some (.slice el)) (hi : P.info? el = some i) (hz : i.zero = some z) (hsize : i.size = ks.length) (hzs : z.cells.size = ks.length) (hzr : RowT ks zr ∧ rowV ks zr = z.cells.toList) (hb0 : 0 < i.bytes) (hb : i.bytes ≤ 65536) :
    ∃ v σ' e' r w', K v σ' ∧ e.le e' ∧ av e' v = some r ∧ Ok w0 e' σ' w' ∧ (Builtin.append_ ts ty xs).run P w = .ok r w' := by
  obtain ⟨_, h1, ⟨h2, h2'⟩, hgr, hK⟩ := h
  obtain ⟨hdt, hdl, hdf, _, _⟩ := hd
  rw [e2] at hdl hdf
  rw [hdn] at hgr
  have hLn : d'.L.length = n := hdl
  rw [← e3] at hK
  obtain ⟨sn, rfl⟩ : ∃ sn : Nat, m = sn := ⟨m.toNat, by omega⟩
  simp only [Int.toNat_natCast] at hK
  have hTz : ∀ k, Typ ks (List.replicate k zr) := fun k x hx => by rw [List.mem_replicate] at hx; rw [hx.2]; exact hzr.1
  have hzl : ∀ k, (Builtin.zeroCells z.cells k).toList = rep z.cells.toList k := fun k => by rw [zeroCells_rep _ (by omega)]
  have hfz : ∀ k, flatV ks (List.replicate k zr) = (Builtin.zeroCells z.cells k).toList := fun k => by rw [flat_rep, hzr.2, hzl]
  have hN : News P w t u (.int kx (sn : Int)) sn (flatV ks (List.replicate sn zr)) := .inl ⟨k, kx, hu, rfl, el, i, z, ht, hi, hz, by omega, by rw [flat_rep, hzr.2]⟩
  have hr := run_grow (P := P) (w := w) (ty := ty) (olds := flatV ks d'.L) hts0 hts1 hxs0 hxs1 ht hi hz hsize h0 hb0 hb hN (by omega) (by omega) h1 (by omega) (by rw [hsize]; exact hdf)
  have hge := grownCap_ge w (n + sn) c el
  have hlen := hk.arrs.len
  obtain ⟨j, hj⟩ : ∃ j, j = grownCap w (n + sn) c el - (n + sn) := ⟨_, rfl⟩
  rw [← hj, ← hfz j] at hr
  have hTw : Typ ks (d'.L ++ List.replicate sn zr ++ List.replicate j zr) := (hdt.app (hTz _)).app (hTz _)
  have hlw : (d'.L ++ List.replicate sn zr ++ List.replicate j zr).length = grownCap w (n + sn) c el := by rw [List.length_append, List.length_append, List.length_replicate, List.length_replicate]; omega
  have hw := hk.world (((Only.refl (fun _ => False) w).drew).alloc (.cells (flatV ks d'.L ++ flatV ks (List.replicate sn zr) ++ flatV ks (List.replicate j zr)).toArray el))
  have hA : AOk w0 (w.drew.alloc (.cells (flatV ks d'.L ++ flatV ks (List.replicate sn zr) ++ flatV ks (List.replicate j zr)).toArray el)) e ⟨el, .o (.rows ks (d'.L ++ List.replicate sn zr ++ List.replicate j zr)), [], grownCap w (n + sn) c el, false⟩ (.inr (w.heap.size, 0)) := by
    refine AOk.ofRows rfl h0 hTw ⟨_, el, (0, 0), heap_alloc_new w.drew _, ?_, rfl, .inl hk.only.size, ⟨rfl, .inl rfl⟩, ?_, by dsimp only; omega, ?_⟩
    · intro j v hj
      rw [flat_app, flat_app] at hj
      dsimp only
      rw [List.getElem?_toArray, Nat.zero_add]; exact hj
    · have : (flatV ks (d'.L ++ List.replicate sn zr ++ List.replicate j zr)).length = grownCap w (n + sn) c el * ks.length := by rw [flat_len hTw, hlw]
      rw [flat_app, flat_app] at this
      simp only [List.size_toArray, this]; omega
    · intro v hv
      exact flat_one hTw v (by rw [flat_app, flat_app]; simpa using hv)
  refine ⟨_, _, ⟨e.blk, e.int, e.opq, e.arr ++ [.inr (w.heap.size, 0)], e.S, e.junk, e.Z⟩, _, _, hK _ (List.replicate j zr) (n + sn) (grownCap w (n + sn) c el) rfl (by omega) hge hlw, le_arr e _, ?_, hw.arrAdd hA rfl ?_ (frNew hk (fun F hF => by rcases hF with h | h <;> cases h)), hr⟩
  · exact rsl_new (q := (w.heap.size, 0)) (by simp [← hlen]) hge
  · rintro p hp
    simp at hp; subst hp
    refine ⟨fun b y q' k1 k2 => ?_, fun i y q' k1 k2 k3 => ?_⟩
    · have := (hk.blk b y q' k1 k2).lt; dsimp only; omega
    · have := (hk.arrs.ok i y _ k1 k3).lt; dsimp only at this ⊢; omega
theorem appendF_ok (hk : Ok w0 e σ w) {t u : TypeId} {x y : AV} {sv xv : Value} {T : MR} {K : AV → St → Prop} {ts : Array TypeId} {ty : TypeId} {xs : Array Value} (h : appendF P t u x y σ = some T) (hK : T K) (hx : av e x = some sv) (hy : av e y = some xv) (hts0 : ts[0]? = some t) (hts1 : ts[1]? = some u)
    (hxs0 : xs[0]? = some sv) (hxs1 : xs[1]? = some xv) : ∃ v σ' e' r w', K v σ' ∧ e.le e' ∧ av e' v = some r ∧ Ok w0 e' σ' w' ∧ (Builtin.append_ ts ty xs).run P w = .ok r w' := by
  unfold appendF at h
  split at h
  · rename_i el k ht hu
    split at h
    · rename_i ks i k' m hks hi hm
      split at h
      · rename_i z hz
        split at h
        · rename_i hc
          simp only [Bool.and_eq_true, Nat.beq_eq, List.all_eq_true, Nat.blt_eq, Nat.ble_eq] at hc
          obtain ⟨⟨⟨⟨⟨c0, c1⟩, c2⟩, c3⟩, c4⟩, c5⟩ := hc
          split at h
          · rename_i n d r hd hr
            simp only [Option.some.injEq] at h; subst h
            obtain ⟨base, c, rfl, f1, f2, f3, d', f4, f5, f6, f7⟩ := destF_ok (P := P) hk c0 hd hK.1 hx
            have hzr := rowOf_ok (e := e) (ys := z.cells.toList) hr (by rw [List.map_map]; rfl)
            have em := intX_ok hm hy
            subst em
            exact appG_ok hk hK c0 f1 f2 f3 f4 f5 f6 f7 hu hts0 hts1 hxs0 hxs1 ht hi hz c1 c2 hzr c4 c5
          · cases h
        · cases h
      · cases h
    · cases h
  · rename_i el du hno ht hu
    split at h
    · rename_i ks i hks hi
      split at h
      · rename_i z hz
        split at h
        · rename_i hc
          simp only [Bool.and_eq_true, Nat.beq_eq, List.all_eq_true, Nat.blt_eq, Nat.ble_eq] at hc
          obtain ⟨⟨⟨⟨⟨c0, c1⟩, c2⟩, c3⟩, c4⟩, c5⟩ := hc
          split at h
          · rename_i n d s r hd hs hr
            simp only [Option.some.injEq] at h; subst h
            obtain ⟨base, c, rfl, f1, f2, f3, d', f4, f5, f6, f7⟩ := destF_ok (P := P) hk c0 hd hK.1 hx
            have hzr := rowOf_ok (e := e) (ys := z.cells.toList) hr (by rw [List.map_map]; rfl)
            have hS := readR_ok hk hs hK.2.1 hy
            have hslo := hS.lenOf (P := P)
            have hsf := hS.first (P := P)
            exact appF_ok hK c0 f1 f2 f3 f4 f5 f6 f7 hS.typ hS.len (.inr ⟨du, hu, fun k' he' => hno k' he', hslo, el, i, ht, hi, fun w' hw' => by rw [c1]; exact hsf w' hw'⟩) hts0 hts1 hxs0 hxs1 ht hi hz c1 c2 hzr c4 c5
          · cases h
        · cases h
      · cases h
    · cases h
  · cases h

/-- With slices.overlaps of a block and rows. -/
def opMV (P : Program) (ov : List FuncId) : OpM := fun tm o σ =>
  match o.op with
  | .call c => match c.callee, c.args.toList with
    | .value (.func g), [x, y] => if ov.contains g then ovR (evalA tm x) (evalA tm y) σ else opMem P tm o σ
    | .builtin .append, [x, y] => match c.argTypes.toList with
      | t :: u :: _ => match appendF P t u (evalA tm x) (evalA tm y) σ with
        | some T => some T
        | none => opMem P tm o σ
      | _ => opMem P tm o σ
    | _, _ => opMem P tm o σ
  | _ => opMem P tm o σ
theorem opMV_ok {ov : List FuncId} (hov : ov.all (isOverlaps P) = true) : OpMOk P (opMV P ov) := by
  intro tm o σ T h
  unfold opMV at h
  split at h
  · rename_i c ho
    split at h
    · rename_i g x y hc hxy
      split at h
      · rename_i hg
        intro K hK w0 e w a hk ht
        obtain ⟨callee, args, ts⟩ := c
        dsimp only at hc hxy
        subst hc
        obtain rfl : args = #[x, y] := Array.toList_inj.1 hxy
        obtain ⟨h1, h2⟩ := ovR_ok (ov := ov) hk (ovs_of hov g (by simpa using hg)) h hK (evalA_ok ht x) (evalA_ok ht y)
        refine ⟨_, σ, e, _, w, h1, Env.le.refl e, lit_av e _, hk, .inl ?_⟩
        simp only [execOp, ho, resolve, Sem.run_bind, Sem.run_pure, Result.andThen_ok, invoke, Deferred.ofValue, Act.eval]
        simpa using h2
      · exact opMem_ok P tm o σ T h
    · rename_i x y hc hxy
      split at h
      · rename_i t u l hts
        split at h
        · rename_i T' hT
          simp only [Option.some.injEq] at h; subst h
          intro K hK w0 e w a hk ht
          obtain ⟨callee, args, ts⟩ := c
          dsimp only at hc hxy hts
          subst hc
          obtain rfl : args = #[x, y] := Array.toList_inj.1 hxy
          have hts0 : ts[0]? = some t := by rw [← Array.getElem?_toList, hts]; rfl
          have hts1 : ts[1]? = some u := by rw [← Array.getElem?_toList, hts]; rfl
          obtain ⟨v, σ', e', r, w', h1, h2, h3, h4, h5⟩ := appendF_ok (ty := o.type) (xs := #[a.eval x, a.eval y]) hk hT hK (evalA_ok ht x) (evalA_ok ht y) hts0 hts1 rfl rfl
          refine ⟨v, σ', e', r, w', h1, h2, h3, h4, .inl ?_⟩
          simp only [execOp, ho, resolve, Sem.run_bind, Sem.run_pure, Result.andThen_ok, invoke, List.map_toArray, List.map_cons, List.map_nil]
          simp [builtin, h5]
        · exact opMem_ok P tm o σ T h
      · exact opMem_ok P tm o σ T h
    · exact opMem_ok P tm o σ T h
  · exact opMem_ok P tm o σ T h

/-- An array is let go. -/
theorem Ok.dropArr (hk : Ok w0 e σ w) (i : Nat) : Ok w0 e (setArr σ i none) w := by
  have hlen := hk.arrs.len
  refine ⟨hk.only, hk.blks, hk.ints, hk.opqs, hk.bnd, hk.opq, hk.blk, hk.apart, ⟨?_, ?_, ?_, ?_⟩, hk.junks, (hk.arrKill i).froz⟩
  · simp [setArr, hlen]
  · intro a' x q' h1 h2
    simp only [setArr, List.getElem?_set] at h1
    split at h1
    · split at h1 <;> simp at h1
    · exact hk.arrs.ok a' x q' h1 h2
  · intro a' x q' b' y q'' h1 h2 h3 h4 h5
    simp only [setArr, List.getElem?_set] at h1
    split at h1
    · split at h1 <;> simp at h1
    · exact hk.arrs.off a' x q' b' y q'' h1 h2 h3 h4 h5
  · intro a1 a2 x x' q1 q2 hne h1 h2 h3 h4 h5 h6
    simp only [setArr, List.getElem?_set] at h1 h2
    split at h1
    · split at h1 <;> simp at h1
    · split at h2
      · split at h2 <;> simp at h2
      · exact hk.arrs.apart a1 a2 x x' q1 q2 hne h1 h2 h3 h4 h5 h6
/-- Rows are told anew: under another number. -/
theorem Ok.mvRows (hk : Ok w0 e σ w) {i u n c : Nat} {b : ABlk} {ks : List CK} {L : List (List CV)} (hb : getArr σ i = some b) (hbk : b.k = .o (.rows ks L)) (hro : b.ro = false) {v : Value} (hv : av e (cell (rslC ⟨i, u, 0, n, c⟩)) = some v) :
    ∃ q, av ⟨e.blk, e.int, e.opq, e.arr ++ [q], e.S, e.junk, e.Z⟩ (cell (rslC ⟨σ.arrs.length, u, 0, n, c⟩)) = some v ∧ Ok w0 ⟨e.blk, e.int, e.opq, e.arr ++ [q], e.S, e.junk, e.Z⟩ (addArr (setArr σ i none) b) w := by
  have ha := getArr_some hb
  obtain ⟨q, hq, hA⟩ := hk.arrAt hb
  have hlen := hk.arrs.len
  refine ⟨q, ?_, ?_⟩
  · rcases rsl_ok hv with ⟨A, h1, h2, h3, rfl⟩ | ⟨q', h1, h2, rfl⟩
    · obtain rfl : q = .inl A := by rw [hq] at h1; exact Option.some.inj h1
      exact rsl_nil (s := ⟨σ.arrs.length, u, 0, n, c⟩) (by simp [← hlen]) h2 h3
    · obtain rfl : q = .inr q' := by rw [hq] at h1; exact Option.some.inj h1
      exact rsl_av (s := ⟨σ.arrs.length, u, 0, n, c⟩) (q := q') (by simp [← hlen]) h2
  · have hok : Ok w0 e (setArr σ i none) w := hk.dropArr i
    refine hok.arrAdd hA hro ?_ ⟨(fun F hF => by rw [hbk] at hF; rcases hF with h | h <;> cases h), fun p hp hP => by subst hp; exact hk.froz.not (.inr ⟨i, b, p, ha, hro, hq, rfl⟩) hP.kill⟩
    rintro p rfl
    refine ⟨fun b' y q'' h1 h2 h3 => ?_, fun b' y q'' h1 h2 h3 h4 => ?_⟩
    · exact hk.arrs.off i b p b' y q'' ha hro hq h1 h2 h3.symm
    · simp only [setArr, List.getElem?_set] at h1
      split at h1
      · split at h1 <;> simp at h1
      · rename_i hne
        exact hk.arrs.apart b' i y b q'' p (fun h => hne h.symm) h1 ha h2 hro h3 hq h4
/-- A block's cells are told otherwise. -/
theorem Ok.reCell (hk : Ok w0 e σ w) {i : Nat} {x : Blk} {cells' : List Cell} (hx : σ.heap[i]? = some (some x)) (hc : ∀ (j : Nat) c', cells'[j]? = some c' → ∃ c v, x.cells[j]? = some c ∧ cv e c = some v ∧ cv e c' = some v) :
    Ok w0 e ⟨σ.heap.set i (some ⟨x.elem, cells', x.j, x.c, x.z⟩), σ.ints, σ.opqs, σ.arrs, σ.junks⟩ w := by
  have key : ∀ (b : Nat) y, (σ.heap.set i (some ⟨x.elem, cells', x.j, x.c, x.z⟩))[b]? = some (some y) → (b = i ∧ y = ⟨x.elem, cells', x.j, x.c, x.z⟩) ∨ (b ≠ i ∧ σ.heap[b]? = some (some y)) := by
    intro b y h
    rw [List.getElem?_set] at h
    split at h
    · rename_i hb
      split at h
      · simp only [Option.some.injEq] at h; exact .inl ⟨hb.symm, h.symm⟩
      · cases h
    · rename_i hb; exact .inr ⟨fun h => hb h.symm, h⟩
  have ex : ∀ (b : Nat) y, (σ.heap.set i (some ⟨x.elem, cells', x.j, x.c, x.z⟩))[b]? = some (some y) → ∃ z, σ.heap[b]? = some (some z) := by
    intro b y h
    rcases key b y h with ⟨rfl, _⟩ | ⟨_, h⟩
    · exact ⟨_, hx⟩
    · exact ⟨_, h⟩
  refine ⟨hk.only, by simpa using hk.blks, hk.ints, hk.opqs, hk.bnd, hk.opq, ?_, ?_, ⟨hk.arrs.len, hk.arrs.ok, ?_, hk.arrs.apart⟩, hk.junks, hk.froz.same rfl rfl rfl (fun g ho => ?_)⟩
  · intro b y q h1 h2
    rcases key b y h1 with ⟨rfl, rfl⟩ | ⟨_, h⟩
    · obtain ⟨g1, cur, fz, g2, g3, g4, g5⟩ := hk.blk _ _ _ hx h2
      refine ⟨g1, cur, fz, g2, fun j c' hc' => ?_, g4, g5⟩
      obtain ⟨c, v, k1, k2, k3⟩ := hc j c' hc'
      obtain ⟨v', k4, k5⟩ := g3 j c k1
      rw [k2] at k4; cases k4
      exact ⟨v, k3, k5⟩
    · exact hk.blk b y q h h2
  · intro b b' y y' q q' hne h1 h2 h3 h4
    obtain ⟨z, hz⟩ := ex b y h1
    obtain ⟨z', hz'⟩ := ex b' y' h2
    exact hk.apart b b' z z' q q' hne hz hz' h3 h4
  · intro a y q b y' q' h1 h2 h3 h4 h5
    obtain ⟨z, hz⟩ := ex b y' h4
    exact hk.arrs.off a y q b z q' h1 h2 h3 hz h5
  · rcases ho with ⟨b, y, q, h1, h2, h3⟩ | ho
    · obtain ⟨z, hz⟩ := ex b y h1
      exact .inl ⟨b, z, q, hz, h2, h3⟩
    · exact .inr ho
/-- Rows of none. -/
theorem Ok.addNone (hk : Ok w0 e σ w) (el : TypeId) (ks : List CK) (u : Nat) :
    Ok w0 ⟨e.blk, e.int, e.opq, e.arr ++ [.inl none], e.S, e.junk, e.Z⟩ (addArr σ ⟨el, .o (.rows ks []), [], 0, false⟩) w ∧ cv ⟨e.blk, e.int, e.opq, e.arr ++ [.inl none], e.S, e.junk, e.Z⟩ (rslC ⟨σ.arrs.length, u, 0, 0, 0⟩) = some (.slice none 0 0) := by
  refine ⟨hk.arrAdd (q := .inl none) ⟨rfl, .inr (.inl ⟨ks, rfl⟩)⟩ rfl (by intro p hp; cases hp) (frNil (fun F hF => by rcases hF with h | h <;> cases h)), ?_⟩
  have := rsl_nil (e := ⟨e.blk, e.int, e.opq, e.arr ++ [.inl none], e.S, e.junk, e.Z⟩) (s := ⟨σ.arrs.length, u, 0, 0, 0⟩) (A := none) (by simp [← hk.arrs.len]) rfl rfl
  exact this
end
end Reck
