/- A reckoner of calls: rows of cells that are written, made and copied. No condition. -/
import Derived.Test.YtcjcdimlcfegbaaGreatDoorRkI
set_option linter.unusedVariables false
set_option linter.unusedSimpArgs false
namespace Reck
open Go Ost

/-- A copy into rows. -/
def copyR (P : Program) (t : TypeId) (d x : AV) (σ : St) : Option MR :=
  match P.underlying t, rslX d with
  | some (.slice el), some s => match sizeT P el, getArr σ s.a with
    | some n, some b => match b.k with
      | .o (.rows ks L) => if !b.ro && Nat.beq n ks.length && Nat.beq s.u ks.length then match readR ks σ x with
          | some r => some fun K => (s.o + s.n ≤ L.length ∧ r.ok) ∧ ∀ (n : Nat) (L' : List (List CV)), n = min r.n s.n → L' = L.take s.o ++ r.L.take n ++ L.drop (s.o + n) → K (cell (xintC .i64 n)) (setArr σ s.a (some ⟨b.elem, .o (.rows ks L'), [], b.cap, b.ro⟩))
          | none => none
        else none
      | _ => none
    | _, _ => none
  | _, _ => none

/-- Rows of noughts. -/
def makeR (P : Program) (t : TypeId) (l c : AV) (σ : St) : Option MR :=
  match P.underlying t, intX l, intX c with
  | some (.slice el), some (_, l), some (_, c) => match rowKinds P el, P.info? el with
    | some ks, some i => match i.zero with
      | some z => if Nat.blt 0 ks.length && Nat.beq i.size ks.length && Nat.beq z.cells.size ks.length && (z.cells.toList.all fun v => v.oneCell') && Nat.ble i.bytes 65536 then match rowOf ks (z.cells.toList.map .inl) with
          | some r => some fun K => (0 ≤ l ∧ l ≤ c ∧ c ≤ 16777216) ∧ ∀ (n m : Nat) (L' : List (List CV)), (n : Int) = l → (m : Int) = c → L' = List.replicate m r → K (cell (rslC ⟨σ.arrs.length, ks.length, 0, n, m⟩)) (addArr σ ⟨el, .o (.rows ks L'), [], m, false⟩)
          | none => none
        else none
      | none => none
    | _, _ => none
  | _, _, _ => none

section
variable {P : Program} {w0 w w' : World} {e : Env} {σ : St} {tm : List AV} {a : Act}

theorem storeH_ok (hk : Ok w0 e σ w) {t : TypeId} {p : RPt} {v : AV} {vv : Value} {q : Nat × Nat} {T : MR} {K : AV → St → Prop} (h : storeH P t p v σ = some T) (hK : T K) (hv : av e v = some vv) (hq : e.arr[p.a]? = some (.inr q)) :
    ∃ σ' w', K (lit undef) σ' ∧ Ok w0 e σ' w' ∧ (Instr.storeAt t (.pointer (some ⟨q.1, q.2 + (p.m * p.u + p.f), none⟩)) vv).run P w = .ok () w' := by
  unfold storeH at h
  split at h
  · rename_i b n cs hb hs hcs
    split at h
    · rename_i ks L hbk
      split at h
      · rename_i hc
        simp only [Bool.and_eq_true, Nat.beq_eq, Nat.ble_eq, Bool.not_eq_eq_eq_not, Bool.not_true] at hc
        obtain ⟨⟨⟨hro, hu⟩, hn⟩, hle⟩ := hc
        split at h
        · rename_i vs hvs
          simp only [Option.some.injEq] at h; subst h
          obtain ⟨h1, hK⟩ := hK
          obtain ⟨hcv, hone⟩ := cellsOf_ok hk hcs hv
          obtain ⟨hT, hV⟩ := rowOf_ok hvs hcv
          have ha := getArr_some hb
          obtain ⟨h0, cur, el, fz, g1, g2, g3⟩ := hk.rowsAt hb hbk hq
          obtain ⟨⟨rfl, hfz⟩, g5, g6, g7⟩ := g3 hro
          have hown : w0.heap.size ≤ q.1 ∨ e.S q.1 := by
            rcases (hk.arrs.ok _ _ _ ha hq).own with ⟨h, _⟩ | ⟨_, h⟩
            · rw [hro] at h; cases h
            · exact h
          have hlv : vv.cells.toList.length = n := by have := map_len hcv; omega
          have hvl : vs.length = n := by rw [hT.1]; simp; omega
          have hrow := List.getElem?_eq_getElem h1
          have hgd : L.getD p.m [] = L[p.m] := by rw [List.getD_eq_getElem?_getD, hrow]; rfl
          have hrl := (g2 p.m _ hrow).1
          have hmu : (p.m + 1) * p.u ≤ b.cap * p.u := Nat.mul_le_mul_right _ (by omega)
          rw [Nat.add_mul] at hmu
          rw [hu] at g5 hrl hle
          have hfit : q.2 + (p.m * p.u + p.f) + vv.cells.toList.length ≤ cur.size := by omega
          have hst := run_storeCells_fz P q.1 (q.2 + (p.m * p.u + p.f)) b.elem fz vv.cells.toList 0 cur w g1 hfz (by omega) hone
          refine ⟨_, w.setRow q.1 (cur.toList.take (q.2 + (p.m * p.u + p.f) + 0) ++ vv.cells.toList ++ cur.toList.drop (q.2 + (p.m * p.u + p.f) + 0 + vv.cells.toList.length)).toArray, hK _ rfl, hk.arrSet ha hro hq (arr_only w q.1 _) _ ?_, ?_⟩
          · intro y hy
            simp only [Option.some.injEq] at hy; subst hy
            refine ⟨hro, ⟨_, setRow_heap w q.1 cur _ b.elem _ g1, h0, _, b.elem, fz, rfl, ?_, fun _ => ⟨⟨rfl, hfz.imp id (fun h => by simp at hfit ⊢; omega)⟩, ?_, ?_, ?_⟩⟩, .inr ⟨hro, hown⟩⟩
            · intro m' row' hr'
              have put : ∀ j, ((cur.toList.take (q.2 + (p.m * p.u + p.f) + 0) ++ vv.cells.toList ++ cur.toList.drop (q.2 + (p.m * p.u + p.f) + 0 + vv.cells.toList.length)).toArray)[q.2 + j]? = if j < p.m * p.u + p.f then cur[q.2 + j]? else if j < p.m * p.u + p.f + n then vv.cells.toList[j - (p.m * p.u + p.f)]? else cur[q.2 + j]? := by
                intro j
                rw [List.getElem?_toArray, Nat.add_zero, sand_get _ _ _ (by simp; omega), hlv]
                by_cases c1 : j < p.m * p.u + p.f
                · rw [if_pos (by omega), if_pos c1, Array.getElem?_toList]
                · rw [if_neg (by omega), if_neg c1]
                  by_cases c2 : j < p.m * p.u + p.f + n
                  · rw [if_pos (by omega), if_pos c2]; congr 1; omega
                  · rw [if_neg (by omega), if_neg c2, Array.getElem?_toList]
              rcases set_get hr' with ⟨rfl, rfl⟩ | ⟨hne, hr'⟩
              · rw [hgd]
                have hl1 : (put1 L[p.m] p.f vs).length = ks.length := by
                  unfold put1
                  simp only [List.length_append, List.length_take, List.length_drop]
                  omega
                refine ⟨hl1, fun f k v hk hv => ?_⟩
                rw [hu]
                dsimp only
                rw [put]
                have hfl := (List.getElem?_eq_some_iff.1 hk).1
                unfold put1 at hv
                rw [sand_get _ _ _ (by omega)] at hv
                by_cases c1 : f < p.f
                · rw [if_pos c1] at hv
                  rw [if_pos (by omega)]
                  have := (g2 p.m _ hrow).2 f k v hk hv
                  rw [hu] at this; exact this
                · rw [if_neg c1] at hv
                  rw [if_neg (by omega)]
                  by_cases c2 : f < p.f + vs.length
                  · rw [if_pos c2] at hv
                    rw [if_pos (by omega)]
                    have hk' : ((ks.drop p.f).take n)[f - p.f]? = some k := by
                      rw [List.getElem?_take, if_pos (by omega), List.getElem?_drop, show p.f + (f - p.f) = f by omega]; exact hk
                    obtain ⟨y, hy⟩ := hT.2 _ k v hk' hv
                    refine ⟨y, hy, ?_⟩
                    have := rowV_get hk' hv hy
                    rw [hV] at this
                    rw [← this]; congr 1; omega
                  · rw [if_neg c2] at hv
                    rw [if_neg (by omega)]
                    have := (g2 p.m _ hrow).2 f k v hk hv
                    rw [hu] at this; exact this
              · obtain ⟨k1, k2⟩ := g2 m' row' hr'
                refine ⟨k1, fun f k v hk hv => ?_⟩
                obtain ⟨y, hy, hc⟩ := k2 f k v hk hv
                refine ⟨y, hy, ?_⟩
                have hfl := (List.getElem?_eq_some_iff.1 hk).1
                rw [hu] at hc hfl ⊢
                dsimp only at hc ⊢
                rw [put]
                rcases Nat.lt_or_gt_of_ne hne with hlt | hlt
                · have h5 : (p.m + 1) * p.u ≤ m' * p.u := Nat.mul_le_mul_right _ hlt
                  rw [Nat.add_mul] at h5
                  rw [if_neg (by omega), if_neg (by omega)]; exact hc
                · have h5 : (m' + 1) * p.u ≤ p.m * p.u := Nat.mul_le_mul_right _ hlt
                  rw [Nat.add_mul] at h5
                  rw [if_pos (by omega)]; exact hc
            · rw [hu]; simp at hfit ⊢; omega
            · simp [U.put]; exact g6
            · intro v hv
              simp only [List.mem_toArray, List.mem_append] at hv
              rcases hv with (hv | hv) | hv
              · exact g7 v (by simpa using List.mem_of_mem_take hv)
              · exact hone v hv
              · exact g7 v (by simpa using List.mem_of_mem_drop hv)
          · have hsz : vv.cells.size = n := by simpa using hlv
            simp [Instr.storeAt, Instr.sureAddr, storeVar, run_sizeT hs, hsz]
            simpa [hsz] using hst
        · cases h
      · cases h
    · cases h
  · cases h

theorem copyR_ok (hk : Ok w0 e σ w) {t : TypeId} {d x : AV} {dv xv : Value} {ts : Array TypeId} {ty : TypeId} {xs : Array Value} {T : MR} {K : AV → St → Prop} (h : copyR P t d x σ = some T) (hK : T K) (hd : av e d = some dv) (hx : av e x = some xv)
    (hts0 : ts[0]? = some t) (hxs0 : xs[0]? = some dv) (hxs1 : xs[1]? = some xv) : ∃ v σ' r w', K v σ' ∧ av e v = some r ∧ Ok w0 e σ' w' ∧ (Builtin.copy_ ts ty xs).run P w = .ok r w' := by
  unfold copyR at h
  split at h
  · rename_i el s ht hs
    rw [rslX_eq hs] at hd
    split at h
    · rename_i n b hz hb
      split at h
      · rename_i ks L hbk
        split at h
        · rename_i hc
          simp only [Bool.and_eq_true, Nat.beq_eq, Bool.not_eq_eq_eq_not, Bool.not_true] at hc
          obtain ⟨⟨hro, hn⟩, hu⟩ := hc
          subst hn
          split at h
          · rename_i r hr
            simp only [Option.some.injEq] at h; subst h
            obtain ⟨⟨h1, h2⟩, hK⟩ := hK
            have hsrc := readR_ok hk hr h2 hx
            have hlo := hsrc.lenOf (P := P) w
            have hf := hsrc.firstM (P := P) (min r.n s.n) (Nat.min_le_left _ _) w (fun _ => rfl)
            have hst : Typ ks (r.L.take (min r.n s.n)) := hsrc.typ.sub fun x hx => List.mem_of_mem_take hx
            have hlt : (r.L.take (min r.n s.n)).length = min r.n s.n := by rw [List.length_take, hsrc.len]; omega
            have hlen : (flatV ks (r.L.take (min r.n s.n))).length = min r.n s.n * ks.length := by rw [flat_len hst, hlt]
            have ha := getArr_some hb
            rcases rsl_ok hd with ⟨A, hq, hn, hc, rfl⟩ | ⟨q, hq, hn, rfl⟩
            · have hm : min r.n s.n = 0 := by omega
              obtain ⟨q', hq', hA⟩ := hk.arrAt hb
              rw [hq] at hq'; simp at hq'; subst hq'
              obtain ⟨hbl, hA⟩ := hA
              have hL : L = [] := by
                rcases hA with ⟨k, hA⟩ | ⟨ks', hA⟩ | ⟨F, hA⟩ | ⟨F, hA⟩
                · rw [hbk] at hA; cases hA
                · rw [hbk] at hA; simp at hA; exact hA.2
                · rw [hbk] at hA; cases hA
                · rw [hbk] at hA; cases hA
              have hsame : setArr σ s.a (some ⟨b.elem, .o (.rows ks L), [], b.cap, b.ro⟩) = σ := by
                rw [← hbk, ← hbl]
                obtain ⟨h1, h2, h3, h4, h5⟩ := σ
                simp only [setArr, St.mk.injEq, true_and, and_true]
                exact List.ext_getElem? fun i => by
                  by_cases hi : s.a = i
                  · subst hi
                    have hlt := (List.getElem?_eq_some_iff.1 ha).1
                    rw [List.getElem?_set_self hlt]
                    exact ha.symm
                  · rw [List.getElem?_set_ne hi]
              refine ⟨_, _, _, w, hK (min r.n s.n) L rfl (by rw [hm, hL]; simp), xint_av e .i64 _, by rw [hsame]; exact hk, ?_⟩
              rw [hm] at hf ⊢
              have hnm : Nat.min r.n 0 = 0 := by simp
              have hf0 : (flatV ks (List.take 0 r.L)) = [] := by simp [flatV]
              rw [hf0] at hf
              cases A with
              | none => simp [Builtin.copy_, hts0, hxs0, hxs1, run_underlying ht, hlo, run_sizeT hz, hnm, hf, goInt]
              | some A => simp [Builtin.copy_, hts0, hxs0, hxs1, run_underlying ht, hlo, run_sizeT hz, hnm, hf, goInt, storeCells]
            · obtain ⟨h0, cur, el', fz, g1, g2, g3⟩ := hk.rowsAt hb hbk hq
              obtain ⟨⟨rfl, hfz⟩, g5, g6, g7⟩ := g3 hro
              obtain ⟨k3, k4⟩ := rowsAt_iff.1 g2
              have hown : w0.heap.size ≤ q.1 ∨ e.S q.1 := by
                rcases (hk.arrs.ok _ _ _ ha hq).own with ⟨h, _⟩ | ⟨_, h⟩
                · rw [hro] at h; cases h
                · exact h
              have hmul : (s.o + min r.n s.n) * ks.length ≤ b.cap * ks.length := Nat.mul_le_mul_right _ (by omega)
              rw [Nat.add_mul] at hmul
              have hst' := run_storeCells_fz P q.1 (q.2 + s.o * s.u) b.elem fz (flatV ks (r.L.take (min r.n s.n))) 0 cur w g1 hfz (by rw [hlen, hu]; omega) (flat_one hst)
              have hT : Typ ks (L.take s.o ++ r.L.take (min r.n s.n) ++ L.drop (s.o + min r.n s.n)) := ((k3.sub fun x hx => List.mem_of_mem_take hx).app hst).app (k3.sub fun x hx => List.mem_of_mem_drop hx)
              refine ⟨_, _, _, w.setRow q.1 (cur.toList.take (q.2 + s.o * s.u + 0) ++ flatV ks (r.L.take (min r.n s.n)) ++ cur.toList.drop (q.2 + s.o * s.u + 0 + (flatV ks (r.L.take (min r.n s.n))).length)).toArray, hK (min r.n s.n) _ rfl rfl, xint_av e .i64 _, hk.arrSet ha hro hq (arr_only w q.1 _) _ ?_, ?_⟩
              · intro y hy
                simp only [Option.some.injEq] at hy; subst hy
                refine ⟨hro, AOk.ofRows rfl h0 hT ⟨_, b.elem, fz, setRow_heap w q.1 cur _ b.elem _ g1, ?_, hro, hown, ⟨rfl, hfz.imp id (fun h => ?_)⟩, ?_, ?_, ?_⟩⟩
                · intro j v hj
                  rw [List.getElem?_toArray, Nat.add_zero, sand_get _ _ _ (by simp; rw [hu]; omega), hlen, hu]
                  rw [flat_app, flat_app, flat_take _ k3, flat_drop _ k3, Nat.add_mul] at hj
                  have := sand_get (flatV ks L) (flatV ks (r.L.take (min r.n s.n))) (s.o * ks.length) (by rw [flat_len k3]; exact Nat.mul_le_mul_right _ (by omega)) j
                  rw [hlen] at this
                  rw [this] at hj
                  by_cases c1 : j < s.o * ks.length
                  · rw [if_pos c1] at hj; rw [if_pos (by omega), Array.getElem?_toList]; exact k4 j v hj
                  · rw [if_neg c1] at hj; rw [if_neg (by omega)]
                    by_cases c2 : j < s.o * ks.length + min r.n s.n * ks.length
                    · rw [if_pos c2] at hj; rw [if_pos (by omega), show q.2 + j - (q.2 + s.o * ks.length) = j - s.o * ks.length by omega]; exact hj
                    · rw [if_neg c2] at hj; rw [if_neg (by omega), Array.getElem?_toList]; exact k4 j v hj
                · simp only [List.size_toArray, List.length_append, List.length_take, List.length_drop, Array.length_toList, hlen, hu]; omega
                · simp only [List.size_toArray, List.length_append, List.length_take, List.length_drop, Array.length_toList, hlen, hu]; omega
                · simp only [List.length_append, List.length_take, List.length_drop, hsrc.len]; omega
                · intro v hv
                  simp only [List.mem_toArray, List.mem_append] at hv
                  rcases hv with (hv | hv) | hv
                  · exact g7 v (by simpa using List.mem_of_mem_take hv)
                  · exact flat_one hst v hv
                  · exact g7 v (by simpa using List.mem_of_mem_drop hv)
              · have hnm : Nat.min r.n s.n = min r.n s.n := rfl
                simp only [Builtin.copy_, hts0, hxs0, hxs1, Sem.run_bind, run_underlying ht, Result.andThen_ok, hlo, run_sizeT hz, hnm, hf, Sem.run_pure, goInt]
                have : (storeCells ⟨q.1, q.2 + s.o * s.u, none⟩ (flatV ks (r.L.take (min r.n s.n)))).run P w = .ok () (w.setRow q.1 (cur.toList.take (q.2 + s.o * s.u + 0) ++ flatV ks (r.L.take (min r.n s.n)) ++ cur.toList.drop (q.2 + s.o * s.u + 0 + (flatV ks (r.L.take (min r.n s.n))).length)).toArray) := by simpa using hst'
                rw [this]; rfl
          · cases h
        · cases h
      · cases h
    · cases h
  · cases h

theorem flat_rep (ks : List CK) (r : List CV) : ∀ m, flatV ks (List.replicate m r) = rep (rowV ks r) m
  | 0 => rfl
  | m + 1 => by rw [List.replicate_succ, flat_cons, flat_rep ks r m]; rfl

theorem makeR_ok (hk : Ok w0 e σ w) {t : TypeId} {l c : AV} {vl vc : Value} {T : MR} {K : AV → St → Prop} (h : makeR P t l c σ = some T) (hK : T K) (hl : av e l = some vl) (hc : av e c = some vc) :
    ∃ v σ' e' r w', K v σ' ∧ e.le e' ∧ av e' v = some r ∧ Ok w0 e' σ' w' ∧ (Instr.makeSlice t vl vc).run P w = .ok r w' := by
  unfold makeR at h
  split at h
  · rename_i el kl l' kc c' hu hl' hc'
    have e1 := intX_ok hl' hl
    have e2 := intX_ok hc' hc
    subst e1; subst e2
    split at h
    · rename_i ks i hks hi
      split at h
      · rename_i z hz
        split at h
        · rename_i hcond
          simp only [Bool.and_eq_true, Nat.beq_eq, List.all_eq_true, Nat.blt_eq, Nat.ble_eq] at hcond
          obtain ⟨⟨⟨⟨c0, c1⟩, c2⟩, c3⟩, c4⟩ := hcond
          split at h
          · rename_i r hr
            simp only [Option.some.injEq] at h; subst h
            obtain ⟨⟨h1, h2, h3⟩, hK⟩ := hK
            obtain ⟨n, rfl⟩ : ∃ n : Nat, l' = n := ⟨l'.toNat, by omega⟩
            obtain ⟨m, rfl⟩ : ∃ m : Nat, c' = m := ⟨c'.toNat, by omega⟩
            have hlen := hk.arrs.len
            obtain ⟨hT, hV⟩ := rowOf_ok (e := e) (ys := z.cells.toList) hr (by rw [List.map_map]; rfl)
            have hby : i.bytes * m ≤ 65536 * 16777216 := Nat.mul_le_mul c4 (by omega)
            have hrun := run_make (P := P) w t el i z hu hi hz kl kc n m (by omega) (by omega) (by rw [← Int.natCast_mul]; omega) (by omega)
            simp only [Int.toNat_natCast] at hrun
            have hwd := hk.world (((Only.refl (fun _ => False) w)).alloc (.cells (madeCells z.cells (m * i.size)) el))
            have hTm : Typ ks (List.replicate m r) := by
              intro x hx
              rw [List.mem_replicate] at hx
              rw [hx.2]; exact hT
            have hmc : (madeCells z.cells (m * i.size)).toList = rep z.cells.toList m := by
              have := zeroCells_rep z.cells (by omega) m
              have h5 : Builtin.zeroCells z.cells m = madeCells z.cells (m * i.size) := by
                unfold Builtin.zeroCells madeCells
                first | rfl | (congr 1; rw [c1, c2]) | (simp [c1, c2])
              rw [← h5, this]
            have hA : AOk w0 (w.alloc (.cells (madeCells z.cells (m * i.size)) el)) e ⟨el, .o (.rows ks (List.replicate m r)), [], m, false⟩ (.inr (w.heap.size, 0)) := by
              refine AOk.ofRows rfl c0 hTm ⟨_, el, (0, 0), heap_alloc_new w _, ?_, rfl, .inl hk.only.size, ⟨rfl, .inl rfl⟩, ?_, by simp, ?_⟩
              · intro j v hj
                rw [flat_rep, hV, ← hmc, Array.getElem?_toList] at hj
                dsimp only
                rw [Nat.zero_add]; exact hj
              · rw [size_madeCells, c1]; dsimp only; omega
              · intro v hv
                have : v ∈ (madeCells z.cells (m * i.size)).toList := by simpa using hv
                rw [hmc] at this
                exact c3 v (rep_mem _ _ v this)
            refine ⟨_, _, _, .slice (some ⟨w.heap.size, 0, none⟩) n m, _, hK n m _ rfl rfl rfl, le_arr e (.inr (w.heap.size, 0)), ?_, hwd.arrAdd hA rfl ?_ (frNew hk (fun F hF => by rcases hF with h | h <;> cases h)), hrun⟩
            · have : (e.arr ++ [(.inr (w.heap.size, 0) : Option Addr ⊕ (Nat × Nat))])[σ.arrs.length]? = some (.inr (w.heap.size, 0)) := by rw [← hlen]; simp
              exact rsl_new (e := ⟨e.blk, e.int, e.opq, e.arr ++ [.inr (w.heap.size, 0)], e.S, e.junk, e.Z⟩) (u := ks.length) (q := (w.heap.size, 0)) this (show n ≤ m by omega)
            · rintro p hp
              simp at hp; subst hp
              refine ⟨fun b y q' k1 k2 => ?_, fun i y q' k1 k2 k3 => ?_⟩
              · have := (hk.blk b y q' k1 k2).lt; dsimp only; omega
              · have := (hk.arrs.ok i y _ k1 k3).lt; dsimp only at this ⊢; omega
          · cases h
        · cases h
      · cases h
    · cases h
  · cases h
end

/-- No rows. -/
def U.nilL : List (List CV) := []
theorem U.nilL_eq : U.nilL = [] := rfl
/-- nil told as rows of none, or an array of none. -/
def nilR (P : Program) (t : TypeId) (x : AV) (σ : St) : Option MR :=
  match x with
  | .inl (.inl (.inl (.slice none 0 0))) => match P.underlying t with
    | some (.slice el) => match rowKinds P el with
      | some ks => some fun K => K (cell (rslC ⟨σ.arrs.length, ks.length, 0, 0, 0⟩)) (addArr σ ⟨el, .o (.rows ks []), [], 0, false⟩)
      | none => match P.underlying el with
        | some (.int k) => some fun K => K (cell (aslC ⟨σ.arrs.length, 0, 0, 0⟩)) (addArr σ ⟨el, .n k, [], 0, false⟩)
        | _ => none
    | _ => none
  | _ => none
theorem nilR_ok {P : Program} {w0 w : World} {e : Env} {σ : St} (hk : Ok w0 e σ w) {t : TypeId} {x : AV} {v : Value} {T : MR} {K : AV → St → Prop} (h : nilR P t x σ = some T) (hK : T K) (hx : av e x = some v) :
    ∃ y σ' e', K y σ' ∧ e.le e' ∧ av e' y = some v ∧ Ok w0 e' σ' w := by
  unfold nilR at h
  split at h
  · obtain rfl := av_lit hx
    split at h
    · rename_i el hu
      split at h
      · rename_i ks hks
        simp only [Option.some.injEq] at h; subst h
        refine ⟨_, _, _, hK, le_arr e (.inl none), ?_, hk.arrAdd (x := ⟨el, .o (.rows ks []), [], 0, false⟩) (q := .inl none) ⟨rfl, .inr (.inl ⟨ks, rfl⟩)⟩ rfl (by intro p hp; cases hp) (frNil (fun F hF => by rcases hF with h | h <;> cases h))⟩
        exact rsl_nil (s := ⟨σ.arrs.length, ks.length, 0, 0, 0⟩) (by simp [hk.arrs.len]) rfl rfl
      · split at h
        · rename_i k hk'
          simp only [Option.some.injEq] at h; subst h
          refine ⟨_, _, _, hK, le_arr e (.inl none), ?_, hk.arrAdd (x := ⟨el, .n k, [], 0, false⟩) (q := .inl none) ⟨rfl, .inl ⟨k, rfl⟩⟩ rfl (by intro p hp; cases hp) (frNil (fun F hF => by rcases hF with h | h <;> cases h))⟩
          exact asl_nil (s := ⟨σ.arrs.length, 0, 0, 0⟩) (by simp [hk.arrs.len]) rfl rfl
        · cases h
    · cases h
  · cases h

def opRow (P : Program) : List AV → Oper → St → Option MR := fun tm o σ =>
  match o.op with
  | .store t x v => match rptX (evalA tm x) with
    | some p => storeH P t p (evalA tm v) σ
    | none => none
  | .makeSlice t l c => makeR P t (evalA tm l) (evalA tm c) σ
  | .assign x => nilR P o.type (evalA tm x) σ
  | .move x => nilR P o.type (evalA tm x) σ
  | .call c => match c.callee, c.argTypes.toList, c.args.toList with
    | .builtin .append, t :: u :: _, [x, y] => appendR P t u (evalA tm x) (evalA tm y) σ
    | .builtin .copy, t :: _, [x, y] => copyR P t (evalA tm x) (evalA tm y) σ
    | _, _, _ => none
  | _ => none

theorem opRow_ok (P : Program) : OpMOk P (opRow P) := by
  intro tm o σ T h K hK w0 e w a hk ht
  unfold opRow at h
  split at h
  · rename_i t x v ho
    split at h
    · rename_i p hp
      have hx := evalA_ok ht x
      rw [rptX_eq hp] at hx
      obtain ⟨q, hq, e1⟩ := rpt_ok hx
      obtain ⟨σ', w', h1, h2, h3⟩ := storeH_ok hk h hK (evalA_ok ht v) hq
      exact ⟨_, σ', e, undef, w', h1, Env.le.refl e, lit_av e _, h2, .inr ⟨by simp [execOp, ho, e1, h3], rfl⟩⟩
    · cases h
  · rename_i t l c ho
    obtain ⟨v, σ', e', r, w', h1, h2, h3, h4, h5⟩ := makeR_ok hk h hK (evalA_ok ht l) (evalA_ok ht c)
    exact ⟨v, σ', e', r, w', h1, h2, h3, h4, .inl (by simp [execOp, ho, h5])⟩
  · rename_i x ho
    obtain ⟨y, σ', e', h1, h2, h3, h4⟩ := nilR_ok hk h hK (evalA_ok ht x)
    exact ⟨y, σ', e', _, w, h1, h2, h3, h4, .inl (by simp [execOp, ho])⟩
  · rename_i x ho
    obtain ⟨y, σ', e', h1, h2, h3, h4⟩ := nilR_ok hk h hK (evalA_ok ht x)
    exact ⟨y, σ', e', _, w, h1, h2, h3, h4, .inl (by simp [execOp, ho])⟩
  · rename_i c ho
    obtain ⟨callee, args, ts⟩ := c
    dsimp only at h
    split at h
    · rename_i t u l x y hts hxs
      obtain rfl : args = #[x, y] := Array.toList_inj.1 hxs
      have hts0 : ts[0]? = some t := by rw [← Array.getElem?_toList, hts]; rfl
      have hts1 : ts[1]? = some u := by rw [← Array.getElem?_toList, hts]; rfl
      obtain ⟨v, σ', e', r, w', h1, h2, h3, h4, h5⟩ := appendR_ok (ty := o.type) (xs := #[a.eval x, a.eval y]) hk h hK (evalA_ok ht x) (evalA_ok ht y) hts0 hts1 rfl rfl
      refine ⟨v, σ', e', r, w', h1, h2, h3, h4, .inl ?_⟩
      simp only [execOp, ho, resolve, Sem.run_bind, Sem.run_pure, Result.andThen_ok, invoke, List.map_toArray, List.map_cons, List.map_nil]
      simp [builtin, h5]
    · rename_i t l x y hts hxs
      obtain rfl : args = #[x, y] := Array.toList_inj.1 hxs
      have hts0 : ts[0]? = some t := by rw [← Array.getElem?_toList, hts]; rfl
      obtain ⟨v, σ', r, w', h1, h2, h3, h4⟩ := copyR_ok (ty := o.type) (xs := #[a.eval x, a.eval y]) hk h hK (evalA_ok ht x) (evalA_ok ht y) hts0 rfl rfl
      refine ⟨v, σ', e, r, w', h1, Env.le.refl e, h2, h3, .inl ?_⟩
      simp only [execOp, ho, resolve, Sem.run_bind, Sem.run_pure, Result.andThen_ok, invoke, List.map_toArray, List.map_cons, List.map_nil]
      simp [builtin, h4]
    · cases h
  · cases h
end Reck
