/- A reckoner of calls: its operations on memory are the model's. No condition. -/
import Derived.Test.YtcjcdimlcfegbaaGreatDoorRkMem
import Derived.Laws.Tables
set_option linter.unusedVariables false
set_option linter.unusedSimpArgs false
namespace Reck
open Go Ost

/-- One of the results is what the run yields. -/
def SemOk (P : Program) (w0 : World) (e : Env) (w : World) (res : List (AV × St)) (s : Sem Value) : Prop :=
  ∃ r ∈ res, ∃ e' v w', e.le e' ∧ av e' r.1 = some v ∧ Ok w0 e' r.2 w' ∧ s.run P w = .ok v w'

theorem SemOk.one {P : Program} {w0 : World} {e : Env} {w : World} {x : AV} {σ : St} {s : Sem Value} {res : List (AV × St)} (h : Reck.one x σ = .ok res) (v : Value) (hv : av e x = some v) (hk : Ok w0 e σ w) (hr : s.run P w = .ok v w) : SemOk P w0 e w res s := by
  simp [Reck.one] at h; subst h
  exact ⟨_, List.mem_singleton_self _, e, v, w, Env.le.refl e, hv, hk, hr⟩
theorem SemOk.one' {P : Program} {w0 : World} {e e' : Env} {w w' : World} {x : AV} {σ : St} {s : Sem Value} {res : List (AV × St)} (h : Reck.one x σ = .ok res) (hl : e.le e') (v : Value) (hv : av e' x = some v) (hk : Ok w0 e' σ w') (hr : s.run P w = .ok v w') : SemOk P w0 e w res s := by
  simp [Reck.one] at h; subst h
  exact ⟨_, List.mem_singleton_self _, e', v, w', hl, hv, hk, hr⟩

/-- One result, whatever the world, and nothing is done to it. -/
def Still (P : Program) (e : Env) (σ : St) (res : List (AV × St)) (s : Sem Value) : Prop :=
  ∃ y v, res = [(y, σ)] ∧ av e y = some v ∧ ∀ w, s.run P w = .ok v w
theorem Still.one {P : Program} {e : Env} {x : AV} {σ : St} {s : Sem Value} {res : List (AV × St)} (h : Reck.one x σ = .ok res) (v : Value) (hv : av e x = some v) (hr : ∀ w, s.run P w = .ok v w) : Still P e σ res s := by
  simp [Reck.one] at h; subst h
  exact ⟨x, v, rfl, hv, hr⟩
theorem Still.ok {P : Program} {w0 : World} {e : Env} {w : World} {σ : St} {s : Sem Value} {res : List (AV × St)} (h : Still P e σ res s) (hk : Ok w0 e σ w) : SemOk P w0 e w res s := by
  obtain ⟨y, v, rfl, hv, hr⟩ := h
  exact ⟨_, List.mem_singleton_self _, e, v, w, Env.le.refl e, hv, hk, hr w⟩

section
variable {P : Program}
theorem run_isAggT {t : TypeId} {b : Bool} (h : isAggT P t = some b) (w : World) : (isAgg t).run P w = .ok b w := by
  unfold isAggT at h
  split at h <;> simp at h <;> subst h <;> rename_i hu <;> simp [isAgg, run_underlying hu]
theorem run_sizeT {t : TypeId} {n : Nat} (h : sizeT P t = some n) (w : World) : (Go.sizeOf t).run P w = .ok n w := by
  unfold sizeT at h
  cases hi : P.info? t with
  | none => simp [hi] at h
  | some i => simp [hi] at h; subst h; simp [Go.sizeOf, typeInfo, hi]
theorem zeroCs_some {t : TypeId} {z : List Cell} (h : zeroCs P t = some z) : ∃ i v, P.info? t = some i ∧ i.zero = some v ∧ z = v.cells.toList.map .inl ∧ (v.cells.toList.map (Sum.inl : Value → Cell)).all plainC = true := by
  unfold zeroCs at h
  split at h
  · rename_i i hi
    split at h
    · rename_i v hv
      split at h
      · rename_i hp; simp only [Option.some.injEq] at h; exact ⟨i, v, hi, hv, h.symm, hp⟩
      · cases h
    · cases h
  · cases h
theorem run_zeroT {t : TypeId} {i : TypeInfo} {z : Value} (h : P.info? t = some i) (hz : i.zero = some z) (w : World) : (zeroValue t).run P w = .ok z w := by
  simp [zeroValue, typeInfo, h, hz]
theorem run_newRowT (elem : TypeId) (cs : Array Value) (w : World) : (newRow elem cs).run P w = .ok ⟨w.heap.size, 0, none⟩ (w.alloc (.cells cs elem)) := by
  simp [newRow]
end

theorem av_ptr {e : Env} {b o : Nat} {v : Value} (h : av e (.inl (.inl (.inr (.inl (b, o))))) = some v) : ∃ q, e.blk[b]? = some q ∧ v = .pointer (some ⟨q.1, q.2 + o, none⟩) := by
  simp only [av, v1, cv, ptrV] at h
  split at h
  · rename_i q hq; simp at h; exact ⟨q, hq, h.symm⟩
  · cases h
theorem av_sl {e : Env} {s : Sl} {v : Value} (h : av e (.inl (.inl (.inr (.inr (.inl s))))) = some v) : ∃ q c, e.blk[s.b]? = some q ∧ capv e s.j s.c = some c ∧ s.n ≤ c ∧ v = .slice (some ⟨q.1, q.2 + s.o, none⟩) s.n c := by
  simp only [av, v1, cv] at h
  split at h
  · rename_i q c hq hc
    split at h
    · rename_i hn; simp at h; exact ⟨q, c, hq, hc, hn, h.symm⟩
    · cases h
  · cases h
theorem av_lit {e : Env} {u v : Value} (h : av e (.inl (.inl (.inl u))) = some v) : v = u := by simpa [av, v1, cv] using h.symm
theorem av_agg {e : Env} {cs : List Cell} {v : Value} (h : av e (.inl (.inr cs)) = some v) : ∃ vs : List Value, cs.map (cv e) = vs.map some ∧ v = .agg vs.toArray := by
  simp only [av, v1] at h
  split at h
  · rename_i vs hvs; simp at h; exact ⟨vs, seqO_some.1 hvs, h.symm⟩
  · cases h
theorem av_agg_mk {e : Env} {cs : List Cell} {vs : List Value} (h : cs.map (cv e) = vs.map some) : av e (.inl (.inr cs)) = some (.agg vs.toArray) := by
  simp only [av, v1, seqO_some.2 h]
theorem av_tup {e : Env} {l : List V1} {v : Value} (h : av e (.inr l) = some v) : ∃ vs : List Value, l.map (v1 e) = vs.map some ∧ v = .tuple vs.toArray := by
  simp only [av] at h
  split at h
  · rename_i vs hvs; simp at h; exact ⟨vs, seqO_some.1 hvs, h.symm⟩
  · cases h
theorem asNat_ok {e : Env} {x : AV} {n : Nat} {v : Value} (h : asNat x = some n) (hv : av e x = some v) : ∃ k, v = .int k (n : Int) := by
  unfold asNat at h
  split at h
  · rename_i k m
    simp at h; subst h
    exact ⟨k, av_lit hv⟩
  · cases h

theorem map_get {α β : Type} {f : α → Option β} {l : List α} {vs : List β} (h : l.map f = vs.map some) {i : Nat} {x : α} (hx : l[i]? = some x) : ∃ v, vs[i]? = some v ∧ f x = some v := by
  have h5 : (l.map f)[i]? = (vs.map some)[i]? := by rw [h]
  rw [List.getElem?_map, List.getElem?_map, hx] at h5
  cases hv : vs[i]? with
  | none => rw [hv] at h5; simp at h5
  | some v => rw [hv] at h5; exact ⟨v, rfl, by simpa using h5⟩
theorem map_len {α β : Type} {f : α → Option β} {l : List α} {vs : List β} (h : l.map f = vs.map some) : l.length = vs.length := by
  have := congrArg List.length h; simpa using this
theorem map_take {α β : Type} {f : α → Option β} {l : List α} {vs : List β} (h : l.map f = vs.map some) (n : Nat) : (l.take n).map f = (vs.take n).map some := by
  rw [List.map_take, h, List.map_take]
theorem map_drop {α β : Type} {f : α → Option β} {l : List α} {vs : List β} (h : l.map f = vs.map some) (n : Nat) : (l.drop n).map f = (vs.drop n).map some := by
  rw [List.map_drop, h, List.map_drop]

section
variable {P : Program} {w0 w : World} {e : Env} {σ : St} {res : List (AV × St)}

theorem opLoad_ok (hk : Ok w0 e σ w) {t : TypeId} {x : AV} {vx : Value} (h : opLoad P t x σ = .ok res) (hx : av e x = some vx) : SemOk P w0 e w res (Instr.loadAt t vx) := by
  unfold opLoad at h
  split at h
  · rename_i b o
    obtain ⟨q, hq, rfl⟩ := av_ptr hx
    split at h
    · rename_i n ha hs
      split at h
      · rename_i cs hl
        obtain ⟨vs, h1, h2, h3, h4⟩ := hk.load hl hq
        refine SemOk.one h _ (av_agg_mk h1) hk ?_
        subst h2
        have := run_loadCells_list (P := P) w ⟨q.1, q.2 + o, none⟩ vs (fun j v hj => by rw [Addr.add_lit]; exact h3 j v hj)
        simp [Instr.loadAt, Instr.sureAddr, loadVar, run_isAggT ha, run_sizeT hs, this]
      · cases h
    · rename_i n ha hs
      split at h
      · rename_i c hl
        obtain ⟨vs, h1, h2, h3, h4⟩ := hk.load hl hq
        obtain ⟨v, rfl⟩ : ∃ v, vs = [v] := by
          match vs, h2 with
          | [v], _ => exact ⟨v, rfl⟩
        simp at h1
        refine SemOk.one h v (by simpa [av, v1, cell] using h1) hk ?_
        have := h3 0 v rfl
        simp [Instr.loadAt, Instr.sureAddr, loadVar, run_isAggT ha, this]
        simp at this; simp [this]
      · cases h
    · cases h
  · cases h

theorem opStore_ok (hk : Ok w0 e σ w) {t : TypeId} {x y : AV} {vx vy : Value} (h : opStore P t x y σ = .ok res) (hx : av e x = some vx) (hy : av e y = some vy) :
    ∃ r ∈ res, ∃ w', r.1 = lit undef ∧ Ok w0 e r.2 w' ∧ (Instr.storeAt t vx vy).run P w = .ok () w' := by
  unfold opStore at h
  split at h
  · rename_i b o
    obtain ⟨q, hq, rfl⟩ := av_ptr hx
    split at h
    · rename_i cs n hc hs
      split at h
      · rename_i hn
        split at h
        · rename_i σ' hst
          obtain ⟨h1, h2⟩ := cellsOf_ok hk hc hy
          obtain ⟨w', g1, g2, g3⟩ := hk.store (P := P) hst hq h1 h2
          simp [one] at h; subst h
          refine ⟨_, List.mem_singleton_self _, w', rfl, g2, ?_⟩
          have hsz : vy.cells.size = n := by have := map_len h1; simp at this; omega
          simp [Instr.storeAt, Instr.sureAddr, storeVar, run_sizeT hs, hsz, g1]
        · cases h
      · cases h
    · cases h
  · cases h

theorem opNew_ok (hk : Ok w0 e σ w) {elem : TypeId} {cs : List Cell} {vs : Array Value} (h : opNew P elem cs σ = .ok res) (hv : cs.map (cv e) = vs.toList.map some) (h1 : ∀ v ∈ vs.toList, v.oneCell' = true) (s : Sem Value)
    (hs : s.run P w = .ok (.pointer (some ⟨w.heap.size, 0, none⟩)) (w.alloc (.cells vs elem))) : SemOk P w0 e w res s := by
  obtain ⟨g1, g2⟩ := hk.new elem hv h1
  exact SemOk.one' h g1 _ (newA_ptr e σ elem cs _ hk.blks) (by simpa using g2) hs

theorem map_inl {e : Env} (l : List Value) : (l.map (Sum.inl : Value → Cell)).map (cv e) = l.map some := by simp [Function.comp_def, cv]
theorem plain_inl {l : List Value} (h : (l.map (Sum.inl : Value → Cell)).all plainC = true) : ∀ v ∈ l, v.oneCell' = true := by
  intro v hv
  have := List.all_eq_true.1 h (.inl v) (List.mem_map.2 ⟨v, hv, rfl⟩)
  cases v <;> simp_all [plainC, plainV, Value.oneCell']

theorem sand_get {α : Type} (X mid : List α) (a : Nat) (ha : a ≤ X.length) (i : Nat) : (X.take a ++ mid ++ X.drop (a + mid.length))[i]? = if i < a then X[i]? else if i < a + mid.length then mid[i - a]? else X[i]? := by
  rw [List.append_assoc]
  by_cases h1 : i < a
  · rw [if_pos h1, List.getElem?_append_left (by rw [List.length_take]; omega), List.getElem?_take, if_pos h1]
  · rw [if_neg h1, List.getElem?_append_right (by rw [List.length_take]; omega), List.length_take, Nat.min_eq_left ha]
    by_cases h2 : i < a + mid.length
    · rw [if_pos h2, List.getElem?_append_left (by omega)]
    · rw [if_neg h2, List.getElem?_append_right (by omega), List.getElem?_drop]
      congr 1; omega

theorem fold_zip (off : Nat) : ∀ (l : List Value) (k : Nat) (A : Array Value), off + k + l.length ≤ A.size →
    ((l.zipIdx k).foldl (fun cs p => cs.setIfInBounds (off + p.2) p.1) A).toList = A.toList.take (off + k) ++ l ++ A.toList.drop (off + k + l.length)
  | [], k, A, h => by simp
  | v :: l, k, A, h => by
    simp at h
    rw [List.zipIdx_cons, List.foldl_cons, fold_zip off l (k + 1) _ (by simp; omega)]
    have hA : A.toList.length = A.size := Array.length_toList
    apply List.ext_getElem?
    intro i
    rw [sand_get _ _ _ (by simp; omega), sand_get _ _ _ (by omega)]
    simp only [Array.toList_setIfInBounds, List.length_cons]
    by_cases h1 : i < off + k
    · rw [if_pos (by omega), if_pos h1, List.getElem?_set_ne (by omega)]
    · rw [if_neg h1]
      by_cases h2 : i = off + k
      · subst h2
        rw [if_pos (by omega), if_pos (by omega), List.getElem?_set_self (by omega)]
        simp
      · rw [if_neg (by omega)]
        by_cases h3 : i < off + (k + 1) + l.length
        · rw [if_pos h3, if_pos (by omega), show i - (off + k) = (i - (off + (k + 1))) + 1 by omega, List.getElem?_cons_succ]
        · rw [if_neg h3, if_neg (by omega), List.getElem?_set_ne (by omega)]

/-- Parts with their values. -/
def Parts (e : Env) (ps : List (Nat × AV)) (vs : List (Nat × Value)) : Prop := ps.map (fun p => (p.1, av e p.2)) = vs.map (fun p => (p.1, some p.2))

theorem fill_ok (hk : Ok w0 e σ w) (place : Nat → Option (Nat × Nat)) : ∀ (ps : List (Nat × AV)) (vs : List (Nat × Value)) (cells cs : List Cell) (A : Array Value), Parts e ps vs → fillA place cells ps = some cs → cells.map (cv e) = A.toList.map some → (∀ v ∈ A.toList, v.oneCell' = true) →
    ∃ B, Instr.fill place A vs = some B ∧ cs.map (cv e) = B.toList.map some ∧ (∀ v ∈ B.toList, v.oneCell' = true)
  | [], vs, cells, cs, A, hp, h, hc, h1 => by
    cases vs with
    | nil => simp [fillA] at h; subst h; exact ⟨A, rfl, hc, h1⟩
    | cons v vs => simp [Parts] at hp
  | (i, x) :: ps, vs, cells, cs, A, hp, h, hc, h1 => by
    cases vs with
    | nil => simp [Parts] at hp
    | cons p vs =>
      obtain ⟨i', v⟩ := p
      simp only [Parts, List.map_cons, List.cons.injEq, Prod.mk.injEq] at hp
      obtain ⟨⟨rfl, hv⟩, hp⟩ := hp
      simp only [fillA] at h
      split at h
      · rename_i off size xs hpl hcx
        split at h
        · rename_i hcond
          obtain ⟨g1, g2⟩ := cellsOf_ok hk hcx hv
          have hl1 : xs.length = v.cells.size := by simpa using map_len g1
          have hl2 : cells.length = A.size := by simpa using map_len hc
          have hfz := fold_zip off v.cells.toList 0 A (by simp; omega)
          have hB : ((v.cells.zipIdx.foldl (fun cs (c, j) => cs.setIfInBounds (off + j) c) A)).toList = A.toList.take off ++ v.cells.toList ++ A.toList.drop (off + v.cells.size) := by
            rw [← Array.foldl_toList, Array.toList_zipIdx]
            simpa using hfz
          obtain ⟨B, k1, k2⟩ := fill_ok hk place ps vs (splice cells off xs) cs _ hp h (by
            rw [hB]
            simp only [splice, List.map_append, List.map_take, List.map_drop, hc, g1, hl1]) (by
            rw [hB]
            intro u hu
            simp only [List.mem_append] at hu
            rcases hu with (hu | hu) | hu
            · exact h1 u (List.mem_of_mem_take hu)
            · exact g2 u hu
            · exact h1 u (List.mem_of_mem_drop hu))
          refine ⟨B, ?_, k2⟩
          simp only [Instr.fill, hpl]
          rw [if_neg (by simp; omega)]
          exact k1
        · cases h
      · cases h

theorem seqO_mapM {α β : Type} (f : α → Option β) : ∀ l : List α, seqO (l.map f) = l.mapM f
  | [] => rfl
  | x :: l => by
    simp only [List.map_cons, List.mapM_cons, Option.bind_eq_bind, Option.pure_def]
    cases hx : f x with
    | none => rfl
    | some y =>
      simp only [seqO, seqO_mapM f l, Option.bind_some]
      cases l.mapM f <;> rfl

theorem opBuild_ok (hk : Ok w0 e σ w) {t : TypeId} {ps : List (Nat × AV)} {vs : Array (Nat × Value)} (h : opBuild P t ps σ = .ok res) (hp : Parts e ps vs.toList) : Still P e σ res (Instr.build t vs) := by
  unfold opBuild at h
  split at h
  · rename_i z fs hz1 hu
    obtain ⟨i, v, g1, g2, rfl, hz⟩ := zeroCs_some hz1
    split at h
    · rename_i pl hpl
      split at h
      · rename_i cs hcs
        obtain ⟨B, k1, k2, k3⟩ := fill_ok hk _ ps vs.toList _ cs v.cells hp hcs (map_inl _) (plain_inl hz)
        refine Still.one h _ (av_agg_mk k2) (fun w => ?_)
        refine (run_build w t vs B ?_).trans (by simp)
        · have hpl2 : fs.toList.mapM (fun f => (P.info? f.type).map fun i => (f.offset, i.size)) = some pl := by
            rw [← hpl, fieldPlaces, seqO_mapM]
            congr 1; funext f; simp [sizeT, Option.map_map, Function.comp_def]
          simp only [Program.built, g1, hu, g2, hpl2]
          simpa using k1
      · cases h
    · cases h
  · rename_i z n el hz1 hu
    obtain ⟨i, v, g1, g2, rfl, hz⟩ := zeroCs_some hz1
    split at h
    · rename_i m hm
      split at h
      · rename_i cs hcs
        obtain ⟨B, k1, k2, k3⟩ := fill_ok hk _ ps vs.toList _ cs v.cells hp hcs (map_inl _) (plain_inl hz)
        refine Still.one h _ (av_agg_mk k2) (fun w => ?_)
        refine (run_build w t vs B ?_).trans (by simp)
        · unfold sizeT at hm
          cases hie : P.info? el with
          | none => simp [hie] at hm
          | some ie =>
            simp [hie] at hm; subst hm
            simp only [Program.built, g1, hu, g2, hie]
            exact k1
      · cases h
    · cases h
  · cases h

end
end Reck
