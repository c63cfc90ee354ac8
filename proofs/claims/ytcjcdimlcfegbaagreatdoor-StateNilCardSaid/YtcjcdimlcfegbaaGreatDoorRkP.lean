/- A reckoner of calls: walks through texts; variables of the program's own. No condition. -/
import Derived.Test.YtcjcdimlcfegbaaGreatDoorRkC
import Derived.Laws.RangeAny
import Derived.Lib.OthersKept
set_option linter.unusedVariables false
set_option linter.unusedSimpArgs false
namespace Reck
open Go Ost

/-! ### Texts, sign by sign -/
def runeZ (s : List Int) (pos : Nat) : Int := (Utf8.decode (strZ s) pos).1
def widZ (s : List Int) (pos : Nat) : Nat := (Utf8.decode (strZ s) pos).2
/-- What stands at a byte of a text: which sign, how many bytes. -/
structure RuneAt (s : List Int) (pos : Nat) (c : Int) (n : Nat) : Prop where
  sign : c = runeZ s pos
  wide : n = widZ s pos
  low : s.getD pos 0 < 128 → c = s.getD pos 0 ∧ n = 1
  high : 128 ≤ s.getD pos 0 → 128 ≤ c
  most : c ≤ 2147483647
  least : 1 ≤ n
  fits : pos + n ≤ s.length
  byte : 0 ≤ s.getD pos 0 ∧ s.getD pos 0 < 256

def getObjX (σ : St) (a : Nat) : Option (Obj × ABlk) :=
  match getArr σ a with
  | some x => match x.k with
    | .o o => if x.ro then none else some (o, x)
    | .n _ => none
  | none => none
def obj (o : Obj) : ABlk := ⟨0, .o o, [], 0, false⟩

def rangeX (P : Program) (t : TypeId) (x : AV) (σ : St) : Option MT :=
  match P.underlying t, strX x with
  | some .string, some l => some fun K => K (cell (aptrC σ.arrs.length 0)) (addArr σ (obj (.iter l 0)))
  | _, _ => none
def nextX (x : AV) (isS : Bool) (σ : St) : Option MT :=
  match aptrX x, isS with
  | some (a, 0), true => match getObjX σ a with
    | some (.iter s pos, _) => some fun K =>
        (pos < s.length → ∀ (i c : Int) (n p : Nat), i = pos → RuneAt s pos c n → p = pos + n → K (.inr [.inl (.inl (.bool true)), .inl (xintC .i64 i), .inl (xintC .i32 c)]) (setArr σ a (some (obj (.iter s p))))) ∧
        (¬ pos < s.length → K (.inr [.inl (.inl (.bool false))]) σ)
    | _ => none
  | _, _ => none

section
variable {P : Program} {w0 w w' : World} {e : Env} {σ : St} {tm : List AV} {a : Act}

theorem strZ_byte (s : List Int) (hb : s.all byteZ = true) (pos : Nat) (h : pos < s.length) (h' : pos < (strZ s).size) : (((strZ s)[pos]'h').toNat : Int) = s.getD pos 0 ∧ byteZ (s.getD pos 0) = true := by
  have hm : s.getD pos 0 = s[pos] := by rw [List.getD_eq_getElem?_getD, List.getElem?_eq_getElem h]; rfl
  have hz := List.all_eq_true.1 hb _ (List.getElem_mem h)
  rw [hm]
  refine ⟨?_, hz⟩
  have hx : (strZ s)[pos]'h' = UInt8.ofNat (s[pos]).toNat := by
    show (strZ s).data[pos]'h' = _
    simp [strZ]
  rw [hx]
  simp only [byteZ, decide_eq_true_eq] at hz
  simp only [UInt8.toNat_ofNat']
  have : (s[pos]).toNat % 2 ^ 8 = (s[pos]).toNat := Nat.mod_eq_of_lt (by omega)
  omega

theorem decode_fits (s : ByteArray) (pos : Nat) (h : pos < s.size) : 1 ≤ (Utf8.decode s pos).2 ∧ pos + (Utf8.decode s pos).2 ≤ s.size := by
  simp only [Utf8.decode]
  repeat' split
  all_goals simp_all
  all_goals omega

theorem runeAt_ok (s : List Int) (hb : s.all byteZ = true) (pos : Nat) (h : pos < s.length) : RuneAt s pos (runeZ s pos) (widZ s pos) := by
  have h' : pos < (strZ s).size := by rw [strZ_size]; exact h
  obtain ⟨g1, g2⟩ := strZ_byte s hb pos h h'
  have g3 := decode_fits (strZ s) pos h'
  have g4 := decode_le (strZ s) pos
  simp only [byteZ, decide_eq_true_eq] at g2
  refine ⟨rfl, rfl, fun hl => ?_, fun hh => ?_, ?_, g3.1, ?_, by omega⟩
  · have := decode_ascii (strZ s) pos h' (by omega)
    unfold runeZ widZ
    rw [this]; exact ⟨by simpa using g1, rfl⟩
  · have := (decode_high (strZ s) pos h' (by omega)).1
    unfold runeZ; omega
  · unfold runeZ; omega
  · have := g3.2
    rw [strZ_size] at this; exact this

theorem getObjX_some {a : Nat} {o : Obj} {x : ABlk} (h : getObjX σ a = some (o, x)) : σ.arrs[a]? = some (some x) ∧ x.k = .o o ∧ x.ro = false := by
  unfold getObjX at h
  split at h
  · rename_i y hy
    split at h
    · rename_i o' ho
      split at h
      · cases h
      · rename_i hr
        simp only [Option.some.injEq, Prod.mk.injEq] at h
        obtain ⟨rfl, rfl⟩ := h
        exact ⟨getArr_some hy, ho, by simpa using hr⟩
    · cases h
  · cases h

/-- A thing of its own, made new. -/
theorem Ok.objNew (hk : Ok w0 e σ w) (o : Obj) (ob : Go.Obj) (ho : ObOk (obj o) (w.heap.size, 0) ob o) : e.le ⟨e.blk, e.int, e.opq, e.arr ++ [.inr (w.heap.size, 0)], e.S, e.junk, e.Z⟩ ∧ Ok w0 ⟨e.blk, e.int, e.opq, e.arr ++ [.inr (w.heap.size, 0)], e.S, e.junk, e.Z⟩ (addArr σ (obj o)) (w.alloc ob) ∧
    av ⟨e.blk, e.int, e.opq, e.arr ++ [.inr (w.heap.size, 0)], e.S, e.junk, e.Z⟩ (cell (aptrC σ.arrs.length 0)) = some (.pointer (some ⟨w.heap.size, 0, none⟩)) := by
  have hw := hk.world (((Only.refl (fun _ => False) w)).alloc ob)
  refine ⟨le_arr e _, hw.arrAdd (x := obj o) (q := .inr (w.heap.size, 0)) ⟨⟨ob, heap_alloc_new w ob, ho⟩, .inr ⟨rfl, .inl hk.only.size⟩⟩ rfl ?_ (frNew hk (fun F hF => by simp only [obj, AK.o.injEq] at hF; rcases hF with h | h <;> (subst h; exact ho))), ?_⟩
  · rintro p hp
    simp at hp; subst hp
    refine ⟨fun b y q' k1 k2 => ?_, fun i y q' k1 k2 k3 => ?_⟩
    · have := (hk.blk b y q' k1 k2).lt; dsimp only; omega
    · have := (hk.arrs.ok i y _ k1 k3).lt; dsimp only at this ⊢; omega
  · simp [cell, aptrC, av, v1, cv, ← hk.arrs.len]

theorem iterAt_only (w : World) (k : Nat) (s : ByteArray) (pos : Nat) : Only (fun j => j = k) w (w.iterAt k s pos) :=
  ⟨rfl, rfl, rfl, by rw [Lib.iterAt_size]; exact Nat.le_refl _, fun j _ hj => Lib.iterAt_other w k j s pos hj⟩

theorem rangeX_ok (hk : Ok w0 e σ w) {t : TypeId} {x : AV} {v : Value} {T : MT} {K : AV → St → Prop} (h : rangeX P t x σ = some T) (hK : T K) (hx : av e x = some v) :
    ∃ y σ' e' r w', K y σ' ∧ e.le e' ∧ av e' y = some r ∧ Ok w0 e' σ' w' ∧ (Instr.range t v).run P w = .ok r w' := by
  unfold rangeX at h
  split at h
  · rename_i l ht hl
    simp only [Option.some.injEq] at h; subst h
    obtain ⟨rfl, hb⟩ := strX_ok hl hx
    obtain ⟨k1, k2, k3⟩ := hk.objNew (.iter l 0) (.stringIter (strZ l) 0) ⟨rfl, hb, rfl⟩
    exact ⟨_, _, _, _, _, hK, k1, k3, k2, by simp [Instr.range, run_underlying ht]⟩
  · cases h
theorem nextX_ok (hk : Ok w0 e σ w) {x : AV} {v : Value} {isS : Bool} {ty : TypeId} {T : MT} {K : AV → St → Prop} (h : nextX x isS σ = some T) (hK : T K) (hx : av e x = some v) :
    ∃ y σ' r w', K y σ' ∧ av e y = some r ∧ Ok w0 e σ' w' ∧ (Instr.next v isS ty).run P w = .ok r w' := by
  unfold nextX at h
  split at h
  · rename_i i hp
    split at h
    · rename_i s pos b hb
      simp only [Option.some.injEq] at h; subst h
      obtain ⟨ha, hkk, hro⟩ := getObjX_some hb
      obtain ⟨q, hq, rfl⟩ := aptrX_ok hp hx
      obtain ⟨⟨ob, g1, g2⟩, g3⟩ := hk.arrs.ok _ _ _ ha hq
      rw [hkk] at g2
      obtain ⟨hq0, hb, rfl⟩ := g2
      have hown : w0.heap.size ≤ q.1 ∨ e.S q.1 := by
        rcases g3 with ⟨h, _⟩ | ⟨_, h⟩
        · rw [hro] at h; cases h
        · exact h
      rw [hq0]
      by_cases hlt : pos < s.length
      · have hr := runeAt_ok s hb pos hlt
        refine ⟨_, _, _, _, hK.1 hlt _ _ _ _ rfl hr rfl, ?_, hk.arrSet ha hro hq (iterAt_only w q.1 (strZ s) (pos + widZ s pos)) _ ?_, Lib.run_next_any_at w q.1 (strZ s) pos ty g1 (by rw [strZ_size]; exact hlt)⟩
        · rfl
        · intro z hz
          simp only [Option.some.injEq] at hz; subst hz
          exact ⟨rfl, ⟨_, Lib.iterAt_heap w q.1 (strZ s) pos _ g1, hq0, hb, rfl⟩, .inr ⟨rfl, hown⟩⟩
      · exact ⟨_, _, _, _, hK.2 hlt, rfl, hk, Lib.run_next_end_at w q.1 (strZ s) pos ty g1 (by rw [strZ_size]; exact hlt)⟩
    · cases h
  · cases h
end

/-! ### The program's own variables -/
def globAt (g : Nat) : List (Option ABlk) → Option (List Value)
  | [] => none
  | some x :: l => match x.k with
    | .o (.glob g' vs) => if Nat.beq g g' then some vs else globAt g l
    | _ => globAt g l
  | none :: l => globAt g l
def litPtr : AV → Option Addr
  | .inl (.inl (.inl (.pointer (some p)))) => some p
  | _ => none
def loadG (P : Program) (t : TypeId) (x : AV) (σ : St) : Option AV :=
  match litPtr x with
  | some ⟨g, o, none⟩ => match globAt g σ.arrs, isAggT P t, sizeT P t with
    | some vs, some true, some n => if Nat.ble (o + n) vs.length then some (.inl (.inr (((vs.drop o).take n).map .inl))) else none
    | some vs, some false, some _ => match vs[o]? with
      | some v => some (cell (.inl v))
      | none => none
    | _, _, _ => none
  | _ => none
section
variable {P : Program} {w0 w w' : World} {e : Env} {σ : St} {tm : List AV} {a : Act}
theorem globAt_some {g : Nat} {vs : List Value} : ∀ {l : List (Option ABlk)}, globAt g l = some vs → ∃ (i : Nat) (x : ABlk), l[i]? = some (some x) ∧ x.k = .o (.glob g vs)
  | [], h => by simp [globAt] at h
  | some x :: l, h => by
    simp only [globAt] at h
    split at h
    · rename_i g' vs' hk
      split at h
      · rename_i hg
        have hg : g = g' := by simpa using hg
        simp only [Option.some.injEq] at h; subst h; subst hg
        exact ⟨0, x, rfl, hk⟩
      · obtain ⟨i, y, h1, h2⟩ := globAt_some h
        exact ⟨i + 1, y, by simpa using h1, h2⟩
    · obtain ⟨i, y, h1, h2⟩ := globAt_some h
      exact ⟨i + 1, y, by simpa using h1, h2⟩
  | none :: l, h => by
    simp only [globAt] at h
    obtain ⟨i, y, h1, h2⟩ := globAt_some h
    exact ⟨i + 1, y, by simpa using h1, h2⟩
theorem Ok.globVal (hk : Ok w0 e σ w) {g : Nat} {vs : List Value} (h : globAt g σ.arrs = some vs) : ∃ cur el fz, w.heap[g]? = some (.cells cur el fz) ∧ cur.toList = vs ∧ ∀ v ∈ vs, v.oneCell' = true := by
  obtain ⟨i, x, h1, h2⟩ := globAt_some h
  have hlt : i < e.arr.length := by rw [hk.arrs.len]; exact (List.getElem?_eq_some_iff.1 h1).1
  have hA := hk.arrs.ok i x _ h1 (List.getElem?_eq_getElem hlt)
  cases hq : e.arr[i] with
  | inl A =>
    rw [hq] at hA
    obtain ⟨_, ⟨k, hk'⟩ | ⟨k, hk'⟩ | ⟨k, hk'⟩ | ⟨k, hk'⟩⟩ := hA <;> (rw [h2] at hk'; cases hk')
  | inr q =>
    rw [hq] at hA
    obtain ⟨⟨ob, g1, g2⟩, g3⟩ := hA
    rw [h2] at g2
    obtain ⟨_, hqg, cur, el, fz, rfl, g4, g5⟩ := g2
    subst hqg
    exact ⟨cur, el, fz, g1, g4, g5⟩
theorem loadG_ok (hk : Ok w0 e σ w) {t : TypeId} {x y : AV} {v : Value} (h : loadG P t x σ = some y) (hx : av e x = some v) :
    ∃ u, av e y = some u ∧ (Instr.loadAt t v).run P w = .ok u w := by
  unfold loadG at h
  split at h
  · rename_i g o hp
    have hv : v = .pointer (some ⟨g, o, none⟩) := by
      unfold litPtr at hp
      split at hp
      · simp only [Option.some.injEq] at hp; subst hp; exact av_lit hx
      · cases hp
    subst hv
    split at h
    · rename_i vs n hg ha hs
      obtain ⟨cur, el, fz, h1, h2, h3⟩ := hk.globVal hg
      split at h
      · rename_i hle
        have hle : o + n ≤ vs.length := by simpa using hle
        simp only [Option.some.injEq] at h; subst h
        have hl : ((vs.drop o).take n).length = n := by simp; omega
        have hrun := run_loadCells_list (P := P) w ⟨g, o, none⟩ ((vs.drop o).take n) (fun j v hj => by
          rw [Addr.add_lit]
          rw [List.getElem?_take] at hj
          split at hj
          · rw [List.getElem?_drop, ← h2, Array.getElem?_toList] at hj
            simp [World.cell?, h1, hj]
          · cases hj)
        rw [hl] at hrun
        refine ⟨.agg ((vs.drop o).take n).toArray, ?_, ?_⟩
        · have : seqO (((((vs.drop o).take n)).map (Sum.inl : Value → Cell)).map (cv e)) = some ((vs.drop o).take n) := seqO_some.2 (by simp [Function.comp_def, cv])
          simp only [av, v1, this]
        · simp [Instr.loadAt, Instr.sureAddr, loadVar, run_isAggT ha, run_sizeT hs, hrun]
      · cases h
    · rename_i vs n hg ha hs
      obtain ⟨cur, el, fz, h1, h2, h3⟩ := hk.globVal hg
      split at h
      · rename_i u hu
        simp only [Option.some.injEq] at h; subst h
        rw [← h2, Array.getElem?_toList] at hu
        exact ⟨u, rfl, by simp [Instr.loadAt, Instr.sureAddr, loadVar, run_isAggT ha, World.cell?, h1, hu]⟩
      · cases h
    · cases h
  · cases h
end
end Reck
