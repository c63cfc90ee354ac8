/- A reckoner of calls: arrays that are written and grown. No condition. -/
import Derived.Test.YtcjcdimlcfegbaaGreatDoorRkTop
set_option linter.unusedVariables false
set_option linter.unusedSimpArgs false
namespace Reck
open Go Ost

def setArr (σ : St) (a : Nat) (x : Option ABlk) : St := ⟨σ.heap, σ.ints, σ.opqs, σ.arrs.set a x, σ.junks⟩
def addArr (σ : St) (x : ABlk) : St := ⟨σ.heap, σ.ints, σ.opqs, σ.arrs ++ [some x], σ.junks⟩

abbrev MT := (AV → St → Prop) → Prop

def storeX (P : Program) (t : TypeId) (p : Nat × Nat) (k : IntKind) (z : Int) (σ : St) : Option MT :=
  match getArr σ p.1, sizeT P t with
  | some b, some 1 => if b.ro then none else if isN b.k k then
      some fun K => p.2 < b.l.length ∧ ∀ l' : List Int, l' = b.l.set p.2 z → K (lit undef) (setArr σ p.1 (some ⟨b.elem, b.k, l', b.cap, b.ro⟩)) else none
  | _, _ => none

section
variable {P : Program} {w0 w w' : World} {e : Env} {σ : St} {tm : List AV} {a : Act}

theorem set_get {α : Type} {l : List α} {i j : Nat} {x y : α} (h : (l.set i x)[j]? = some y) : (i = j ∧ x = y) ∨ (i ≠ j ∧ l[j]? = some y) := by
  by_cases hij : i = j
  · subst hij
    have hlt := (List.getElem?_eq_some_iff.1 h).1
    simp at hlt
    rw [List.getElem?_set_self hlt] at h; simp at h; exact .inl ⟨rfl, h⟩
  · rw [List.getElem?_set_ne hij] at h; exact .inr ⟨hij, h⟩

theorem owned_setArr {i : Nat} {x : ABlk} {y : Option ABlk} (hro : x.ro = false) (ha : σ.arrs[i]? = some (some x)) (hy : ∀ z, y = some z → z.ro = false) (g : Nat) (h : owned e (setArr σ i y) g) : owned e σ g := by
  rcases h with h | ⟨j, z, q, h1, h2, h3, h4⟩
  · exact .inl h
  · rcases set_get h1 with ⟨rfl, h5⟩ | ⟨_, h5⟩
    · exact .inr ⟨i, x, q, ha, hro, h3, h4⟩
    · exact .inr ⟨j, z, q, h5, h2, h3, h4⟩
theorem owned_kill {i : Nat} (g : Nat) (h : owned e (setArr σ i none) g) : owned e σ g := by
  rcases h with h | ⟨j, z, q, h1, h2, h3, h4⟩
  · exact .inl h
  · rcases set_get h1 with ⟨_, h5⟩ | ⟨_, h5⟩
    · cases h5
    · exact .inr ⟨j, z, q, h5, h2, h3, h4⟩
theorem FrzP.kill {i g : Nat} (h : FrzP (setArr σ i none) g) : FrzP σ g := by
  obtain ⟨a, x, F, v, B, o, n, c, h1, h2⟩ := h
  rcases set_get h1 with ⟨_, h5⟩ | ⟨_, h5⟩
  · cases h5
  · exact ⟨a, x, F, v, B, o, n, c, h5, h2⟩
/-- An owned array is written, or given up. -/
theorem Ok.arrSet (hk : Ok w0 e σ w) {i : Nat} {x : ABlk} {q : Nat × Nat} (ha : σ.arrs[i]? = some (some x)) (hro : x.ro = false) (hq : e.arr[i]? = some (.inr q)) (ho : Only (fun k => k = q.1) w w') (y : Option ABlk)
    (hy : ∀ z, y = some z → z.ro = false ∧ AOk w0 w' e z (.inr q)) : Ok w0 e (setArr σ i y) w' := by
  have hx := hk.arrs.ok i x _ ha hq
  have hown : w0.heap.size ≤ q.1 ∨ e.S q.1 := by
    rcases hx.own with ⟨h3, _⟩ | ⟨_, h3⟩
    · rw [hro] at h3; cases h3
    · exact h3
  have hlt : i < σ.arrs.length := (List.getElem?_eq_some_iff.1 ha).1
  refine ⟨hk.only.trans ho (fun j hj (he : j = q.1) => by rcases hown with g | g <;> first | omega | (rw [he]; exact g)), hk.blks, hk.ints, hk.opqs, hk.bnd, hk.opq,
    fun b z q' h1 h2 => (hk.blk b z q' h1 h2).world (ho.keep _ (hk.blk b z q' h1 h2).lt (fun (he : q'.1 = q.1) => hk.arrs.off i x q b z q' ha hro hq h1 h2 he.symm)), hk.apart, ⟨by simpa [setArr] using hk.arrs.len, ?_, ?_, ?_⟩, hk.junks, (hk.froz.world ho (fun g hg => .inr ⟨i, x, q, ha, hro, hq, hg.symm⟩) (fun g (hg : g = q.1) => hg ▸ hown)).mv (fun a z h1 h2 => ?_) rfl rfl (fun g _ _ hg ho => hg (owned_setArr hro ha (fun z hz => (hy z hz).1) g ho))⟩
  · intro j z q' h1 h2
    rcases set_get h1 with ⟨rfl, h3⟩ | ⟨hne, h3⟩
    · rw [hq] at h2; simp at h2; subst h2; exact (hy z h3).2
    · have hz := hk.arrs.ok j z q' h3 h2
      refine hz.world (fun p hp => ?_)
      subst hp
      refine ho.keep _ hz.lt (fun (he : p.1 = q.1) => ?_)
      rcases hz.own with ⟨h6, h7, h8⟩ | ⟨h6, _⟩
      · rcases hown with g | g
        · omega
        · exact h8 (he ▸ g)
      · exact hk.arrs.apart i j x z q p hne ha h3 hro h6 hq h2 he.symm
  · intro j z q1 b v q' h1 h2 h3 h4 h5
    rcases set_get h1 with ⟨rfl, h6⟩ | ⟨hne, h6⟩
    · rw [hq] at h3; simp at h3; subst h3; exact hk.arrs.off i x q b v q' ha hro hq h4 h5
    · exact hk.arrs.off j z q1 b v q' h6 h2 h3 h4 h5
  · intro j1 j2 z1 z2 q1 q2 hne h1 h2 h3 h4 h5 h6
    have g1 : ∃ z1', σ.arrs[j1]? = some (some z1') ∧ z1'.ro = false := by
      rcases set_get h1 with ⟨rfl, h7⟩ | ⟨_, h7⟩
      · exact ⟨x, ha, hro⟩
      · exact ⟨z1, h7, h3⟩
    have g2 : ∃ z2', σ.arrs[j2]? = some (some z2') ∧ z2'.ro = false := by
      rcases set_get h2 with ⟨rfl, h7⟩ | ⟨_, h7⟩
      · exact ⟨x, ha, hro⟩
      · exact ⟨z2, h7, h4⟩
    obtain ⟨z1', k1, k2⟩ := g1
    obtain ⟨z2', k3, k4⟩ := g2
    exact hk.arrs.apart j1 j2 z1' z2' q1 q2 hne k1 k3 k2 k4 h5 h6
  · rcases set_get h1 with ⟨rfl, h3⟩ | ⟨_, h3⟩
    · exact ((hy z h3).2.noSp h2).elim
    · exact ⟨a, h3⟩

/-- An array is given up. -/
theorem Ok.arrKill (hk : Ok w0 e σ w) (i : Nat) : Ok w0 e (setArr σ i none) w := by
  refine ⟨hk.only, hk.blks, hk.ints, hk.opqs, hk.bnd, hk.opq, hk.blk, hk.apart, ⟨by simpa [setArr] using hk.arrs.len, ?_, ?_, ?_⟩, hk.junks, hk.froz.mv (fun a z h1 h2 => ?_) rfl rfl (fun g _ _ hg hown => hg (owned_kill g hown))⟩
  · intro j z q' h1 h2
    rcases set_get h1 with ⟨_, h3⟩ | ⟨_, h3⟩
    · cases h3
    · exact hk.arrs.ok j z q' h3 h2
  · intro j z q1 b v q' h1 h2 h3 h4 h5
    rcases set_get h1 with ⟨_, h6⟩ | ⟨_, h6⟩
    · cases h6
    · exact hk.arrs.off j z q1 b v q' h6 h2 h3 h4 h5
  · intro j1 j2 z1 z2 q1 q2 hne h1 h2 h3 h4 h5 h6
    rcases set_get h1 with ⟨_, h7⟩ | ⟨_, h7⟩
    · cases h7
    · rcases set_get h2 with ⟨_, h8⟩ | ⟨_, h8⟩
      · cases h8
      · exact hk.arrs.apart j1 j2 z1 z2 q1 q2 hne h7 h8 h3 h4 h5 h6
  · rcases set_get h1 with ⟨_, h3⟩ | ⟨_, h3⟩
    · cases h3
    · exact ⟨a, h3⟩

theorem le_arr (e : Env) (q : Option Addr ⊕ (Nat × Nat)) : e.le ⟨e.blk, e.int, e.opq, e.arr ++ [q], e.S, e.junk, e.Z⟩ := ⟨List.prefix_rfl, List.prefix_rfl, List.prefix_rfl, ⟨_, rfl⟩, rfl, List.prefix_rfl, rfl⟩

/-- A new array. -/
theorem Ok.arrAdd (hk : Ok w0 e σ w) {x : ABlk} {q : Option Addr ⊕ (Nat × Nat)} (hx : AOk w0 w e x q) (hro : x.ro = false)
    (hd : ∀ p, q = .inr p → (∀ (b : Nat) y q', σ.heap[b]? = some (some y) → e.blk[b]? = some q' → q'.1 ≠ p.1) ∧ ∀ (i : Nat) y q', σ.arrs[i]? = some (some y) → y.ro = false → e.arr[i]? = some (.inr q') → q'.1 ≠ p.1) (hz : (∀ F, ¬ (x.k = .o (.frz F) ∨ x.k = .o (.old F))) ∧ ∀ p, q = .inr p → ¬ FrzP σ p.1) :
    Ok w0 ⟨e.blk, e.int, e.opq, e.arr ++ [q], e.S, e.junk, e.Z⟩ (addArr σ x) w := by
  have hle := le_arr e q
  have hl := hk.arrs.len
  refine ⟨hk.only, hk.blks, hk.ints, hk.opqs, hk.bnd, hk.opq, fun b z q' h1 h2 => (hk.blk b z q' h1 h2).mono hle, hk.apart, ⟨by simp [addArr, hl], ?_, ?_, ?_⟩, hk.junks, hk.froz.mv (fun a z h1 h2 => ?_) rfl rfl (fun g hP _ hg ho => ?_)⟩
  · intro j z q' h1 h2
    dsimp only [addArr] at h1 h2
    rcases get_snoc h1 with ⟨g1, g2⟩ | ⟨g1, g2⟩ <;> rcases get_snoc h2 with ⟨k1, k2⟩ | ⟨k1, k2⟩ <;> try omega
    · exact (hk.arrs.ok j z q' g2 k2).mono hle
    · simp at g2; subst g2; subst k2; exact hx.mono hle
  · intro j z q1 b v q' h1 h2 h3 h4 h5
    dsimp only [addArr] at h1 h3
    rcases get_snoc h1 with ⟨g1, g2⟩ | ⟨g1, g2⟩ <;> rcases get_snoc h3 with ⟨k1, k2⟩ | ⟨k1, k2⟩ <;> try omega
    · exact hk.arrs.off j z q1 b v q' g2 h2 k2 h4 h5
    · exact fun he => (hd q1 k2).1 b v q' h4 h5 he.symm
  · intro j1 j2 z1 z2 q1 q2 hne h1 h2 h3 h4 h5 h6
    dsimp only [addArr] at h1 h2 h5 h6
    rcases get_snoc h1 with ⟨g1, g2⟩ | ⟨g1, g2⟩ <;> rcases get_snoc h2 with ⟨k1, k2⟩ | ⟨k1, k2⟩ <;> rcases get_snoc h5 with ⟨m1, m2⟩ | ⟨m1, m2⟩ <;> rcases get_snoc h6 with ⟨n1, n2⟩ | ⟨n1, n2⟩ <;> try omega
    · exact hk.arrs.apart j1 j2 z1 z2 q1 q2 hne g2 k2 h3 h4 m2 n2
    · exact (hd q2 n2).2 j1 z1 q1 g2 h3 m2
    · exact fun he => (hd q1 m2).2 j2 z2 q2 k2 h4 n2 he.symm
  · dsimp only [addArr] at h1
    rcases get_snoc h1 with ⟨g1, g2⟩ | ⟨g1, g2⟩
    · exact ⟨a, g2⟩
    · simp at g2; subst g2; obtain ⟨_, F, h2⟩ := h2; exact (hz.1 F h2).elim
  · rcases ho with ho | ⟨j, z, q1, h1, h2, h3, h4⟩
    · exact hg (.inl ho)
    · dsimp only [addArr] at h1 h3
      rcases get_snoc h1 with ⟨g1, g2⟩ | ⟨g1, g2⟩ <;> rcases get_snoc h3 with ⟨k1, k2⟩ | ⟨k1, k2⟩ <;> try omega
      · exact hg (.inr ⟨j, z, q1, g2, h2, k2, h4⟩)
      · subst h4; exact hz.2 q1 k2 hP

theorem frNew (hk : Ok w0 e σ w) {x : ABlk} (hx : ∀ F, ¬ (x.k = .o (.frz F) ∨ x.k = .o (.old F))) : (∀ F, ¬ (x.k = .o (.frz F) ∨ x.k = .o (.old F))) ∧ ∀ p : Nat × Nat, (.inr (w.heap.size, 0) : Option Addr ⊕ (Nat × Nat)) = .inr p → ¬ FrzP σ p.1 :=
  ⟨hx, fun p hp => by simp at hp; subst hp; exact hk.froz.fresh⟩
theorem frNil {x : ABlk} {A : Option Addr} (hx : ∀ F, ¬ (x.k = .o (.frz F) ∨ x.k = .o (.old F))) : (∀ F, ¬ (x.k = .o (.frz F) ∨ x.k = .o (.old F))) ∧ ∀ p : Nat × Nat, (.inl A : Option Addr ⊕ (Nat × Nat)) = .inr p → ¬ FrzP σ p.1 := ⟨hx, fun p hp => by cases hp⟩

theorem arr_only (w : World) (g : Nat) (vs : Array Value) : Only (fun k => k = g) w (w.setRow g vs) :=
  ⟨rfl, rfl, rfl, by simp [World.setRow], fun k _ hk => setRow_other w g k _ hk⟩

theorem storeX_ok (hk : Ok w0 e σ w) {t : TypeId} {p q : Nat × Nat} {k : IntKind} {z : Int} {T : MT} {K : AV → St → Prop} (h : storeX P t p k z σ = some T) (hK : T K) (hq : e.arr[p.1]? = some (.inr q)) :
    ∃ σ' w', K (lit undef) σ' ∧ Ok w0 e σ' w' ∧ (Instr.storeAt t (.pointer (some ⟨q.1, q.2 + p.2, none⟩)) (.int k z)).run P w = .ok () w' := by
  unfold storeX at h
  split at h
  · rename_i b hb hs
    split at h
    · cases h
    · rename_i hro
      have hro : b.ro = false := by simpa using hro
      split at h
      · rename_i hkk
        have hkk := isN_eq hkk
        simp only [Option.some.injEq] at h; subst h
        obtain ⟨h1, hK⟩ := hK
        have ha := getArr_some hb
        obtain ⟨cur, el, fz, g1, g2, ⟨g3, _⟩ | ⟨_, g3, ⟨rfl, hfz⟩, g5, g6, g7⟩⟩ := (hk.arrs.ok _ _ _ ha hq).num hkk
        · rw [hro] at g3; cases g3
        have hlt : q.2 + p.2 < cur.size := by omega
        have hst := run_storeCells_fz P q.1 (q.2 + p.2) b.elem fz [.int k z] 0 cur w g1 hfz (by simp; omega) (by simp [Value.oneCell'])
        refine ⟨_, w.setRow q.1 (cur.toList.take (q.2 + p.2 + 0) ++ [Value.int k z] ++ cur.toList.drop (q.2 + p.2 + 0 + [Value.int k z].length)).toArray, hK _ rfl, hk.arrSet ha hro hq (arr_only w q.1 _) _ ?_, by simp [Instr.storeAt, Instr.sureAddr, storeVar, run_sizeT hs, Value.cells]; simpa using hst⟩
        intro y hy
        simp at hy; subst hy
        refine ⟨hro, AOk.ofNum (k := k) hkk ⟨_, b.elem, fz, setRow_heap w q.1 cur _ b.elem _ g1, ?_, .inr ⟨hro, g3, ⟨rfl, hfz.imp id (fun h => by simp; omega)⟩, ?_, by simpa using g6, ?_⟩⟩⟩
        · intro j v hj
          have e1 : (cur.toList.take (q.2 + p.2 + 0) ++ [Value.int k z] ++ cur.toList.drop (q.2 + p.2 + 0 + [Value.int k z].length)).toArray = cur.setIfInBounds (q.2 + p.2) (.int k z) := by
            apply Array.toList_inj.1
            rw [Array.toList_setIfInBounds, List.set_eq_take_append_cons_drop, if_pos (by simpa using hlt)]
            simp
          rw [e1, Array.getElem?_setIfInBounds]
          rcases set_get hj with ⟨rfl, rfl⟩ | ⟨hne, hj⟩
          · rw [if_pos rfl, if_pos hlt]
          · rw [if_neg (by omega)]; exact g2 j v hj
        · simp; omega
        · intro v hv
          simp only [List.mem_toArray, List.mem_append, List.mem_singleton] at hv
          rcases hv with (hv | rfl) | hv
          · exact g7 v (by simpa using List.mem_of_mem_take hv)
          · rfl
          · exact g7 v (by simpa using List.mem_of_mem_drop hv)
      · cases h
  · cases h
end
end Reck
