/- Words for memory: which blocks a call may have touched; a slice that reads as a list; a block that is known whole. No condition. -/
import Derived.WalkKit
import Derived.Maps.AppendAt
import Derived.Deep.Draws
import Derived.WalkSpells
import Derived.Deep.LoopGhost
import Derived.BigQuiet
import Derived.Deep.RegionLaw
import Derived.Deep.RegionHeld3
set_option linter.unusedSimpArgs false
set_option linter.unusedVariables false
namespace Ost
open Go Go.RowKit
theorem hid {p : Prop} (h : p) : Hid p := h
structure Only (T : Nat → Prop) (w w' : World) : Prop where
  os : w'.os = w.os
  tape : w'.tape = w.tape
  output : w'.output = w.output
  size : w.heap.size ≤ w'.heap.size
  keep : ∀ k, k < w.heap.size → ¬ T k → w'.heap[k]? = w.heap[k]?
theorem Only.refl (T : Nat → Prop) (w : World) : Only T w w := ⟨rfl, rfl, rfl, Nat.le_refl _, fun _ _ _ => rfl⟩
theorem Only.trans {T T' : Nat → Prop} {a b c : World} (h : Only T a b) (k : Only T' b c) (hT : ∀ i, i < a.heap.size → T' i → T i) : Only T a c :=
  ⟨k.os.trans h.os, k.tape.trans h.tape, k.output.trans h.output, Nat.le_trans h.size k.size,
    fun i hi hn => (k.keep i (Nat.lt_of_lt_of_le hi h.size) (fun e => hn (hT i hi e))).trans (h.keep i hi hn)⟩
theorem Only.mono {T T' : Nat → Prop} {a b : World} (h : Only T a b) (hT : ∀ i, i < a.heap.size → T i → T' i) : Only T' a b :=
  ⟨h.os, h.tape, h.output, h.size, fun i hi hn => h.keep i hi fun e => hn (hT i hi e)⟩
theorem Only.alloc {T : Nat → Prop} {a b : World} (h : Only T a b) (o : Obj) : Only T a (b.alloc o) :=
  h.trans (T' := fun _ => False) ⟨rfl, rfl, rfl, by simp, fun k hk _ => Below.heap_alloc _ _ _ hk⟩ (fun _ _ e => e.elim)
theorem Only.drew {T : Nat → Prop} {a b : World} (h : Only T a b) : Only T a b.drew := ⟨h.os, h.tape, h.output, h.size, h.keep⟩
theorem Only.setCell {T : Nat → Prop} {a b : World} (h : Only T a b) {p : Addr} (hp : p.block < a.heap.size → T p.block) (u : Value) : Only T a (b.setCell p u) :=
  h.trans (T' := fun k => k = p.block) ⟨rfl, rfl, rfl, by simp [World.setCell], fun k _ hk => Below.heap_setCell _ _ _ _ hk⟩ (by rintro i hi rfl; exact hp hi)
theorem Only.grown {T : Nat → Prop} {a b c : World} {row : Option Nat} (h : Only T a b) (hg : b.grownBy c row) (hr : ∀ k, row = some k → k < a.heap.size → T k) : Only T a c :=
  h.trans (T' := fun k => row = some k) ⟨hg.os, hg.tape, hg.output, hg.size, fun k hk hn => hg.block k hk (fun e => hn e.symm)⟩ (fun i hi e => hr i e hi)
theorem Only.below {T : Nat → Prop} {a b : World} {B : Nat} (h : Only T a b) (hB : B ≤ a.heap.size) (hT : ∀ k, k < B → ¬ T k) : Below B a b :=
  ⟨h.os, h.tape, h.output, h.size, fun k hk => h.keep k (by omega) (hT k hk)⟩
theorem Only.cell {T : Nat → Prop} {w w' : World} (h : Only T w w') {p : Addr} (hp : p.block < w.heap.size) (hn : ¬ T p.block) : w'.cell? p = w.cell? p := World.cell?_of_block (h.keep p.block hp hn)
theorem Only.frozen {T : Nat → Prop} {w w' : World} (h : Only T w w') {p : Addr} (hp : p.block < w.heap.size) (hn : ¬ T p.block) : w'.frozen? p = w.frozen? p := World.frozen?_of_block (h.keep p.block hp hn)
def Has (w : World) (g : Nat) (t : TypeId) (cs : Array Value) : Prop := w.heap[g]? = some (.cells cs t (0, 0))
theorem Has.lt {w : World} {g : Nat} {t : TypeId} {cs : Array Value} (h : Has w g t cs) : g < w.heap.size := lt_of_block h
theorem Has.cell {w : World} {g : Nat} {t : TypeId} {cs : Array Value} (h : Has w g t cs) (i : Nat) : w.cell? ⟨g, i, none⟩ = cs[i]? := cell_of_row w g i cs t (0, 0) h
theorem Has.free {w : World} {g : Nat} {t : TypeId} {cs : Array Value} (h : Has w g t cs) (i : Nat) : w.frozen? ⟨g, i, none⟩ = false := by
  unfold Has at h; simp [World.frozen?, h]
theorem Has.new (w : World) (t : TypeId) (cs : Array Value) : Has (w.alloc (.cells cs t)) w.heap.size t cs := heap_alloc_new w _
theorem Has.alloc {w : World} {g : Nat} {t : TypeId} {cs : Array Value} (h : Has w g t cs) (o : Obj) : Has (w.alloc o) g t cs := (Below.heap_alloc w o g h.lt).trans h
theorem Has.put {w : World} {g : Nat} {t : TypeId} {cs : Array Value} (h : Has w g t cs) (i : Nat) (u : Value) : Has (w.setCell ⟨g, i, none⟩ u) g t (cs.setIfInBounds i u) := by
  unfold Has at h ⊢; simp [World.setCell, Array.getElem?_modify, h]
theorem Has.only {w w' : World} {g : Nat} {t : TypeId} {cs : Array Value} {T : Nat → Prop} (h : Has w g t cs) (ht : Only T w w') (hn : ¬ T g) : Has w' g t cs := (ht.keep g h.lt hn).trans h
theorem Has.grown {w w' : World} {g : Nat} {t : TypeId} {cs : Array Value} {row : Option Nat} (h : Has w g t cs) (hb : w.grownBy w' row) (hg : row ≠ some g) : Has w' g t cs :=
  (hb.block g h.lt (fun e => hg e.symm)).trans h
def Sees (w : World) (A : Option Addr) (xs : List Value) : Prop := xs = [] ∨ ∃ b o, A = some ⟨b, o, none⟩ ∧ ∀ j u, xs[j]? = some u → w.cell? ⟨b, o + j, none⟩ = some u
def blockOf : Option Addr → Option Nat
  | some a => some a.block
  | none => none
theorem Sees.nil (w : World) (A : Option Addr) : Sees w A [] := .inl rfl
theorem Sees.lt {w : World} {A : Option Addr} {xs : List Value} (h : Sees w A xs) (hx : xs ≠ []) : ∃ b o, A = some ⟨b, o, none⟩ ∧ b < w.heap.size := by
  rcases h with h | ⟨b, o, rfl, h⟩
  · exact absurd h hx
  · cases xs with
    | nil => exact absurd rfl hx
    | cons x xs => exact ⟨b, o, rfl, World.block_lt_of_cell? w _ (h 0 x rfl)⟩
theorem Sees.only {w w' : World} {A : Option Addr} {xs : List Value} {T : Nat → Prop} (h : Sees w A xs) (ht : Only T w w') (hn : ∀ k, blockOf A = some k → ¬ T k) : Sees w' A xs := by
  rcases h with h | ⟨b, o, rfl, h⟩
  · exact .inl h
  · refine .inr ⟨b, o, rfl, fun j u hu => ?_⟩
    have hc := h j u hu
    exact (ht.cell (p := ⟨b, o + j, none⟩) (World.block_lt_of_cell? w _ hc) (hn b rfl)).trans hc
theorem Sees.below {w w' : World} {A : Option Addr} {xs : List Value} {B : Nat} (h : Sees w A xs) (hb : Below B w w') (hn : ∀ k, blockOf A = some k → k < B) : Sees w' A xs := by
  rcases h with h | ⟨b, o, rfl, h⟩
  · exact .inl h
  · exact .inr ⟨b, o, rfl, fun j u hu => (hb.cell (p := ⟨b, o + j, none⟩) (hn b rfl)).trans (h j u hu)⟩
theorem Sees.at_ {w : World} {A : Option Addr} {xs : List Value} (h : Sees w A xs) {j : Nat} {u : Value} (hu : xs[j]? = some u) : ∃ b o, A = some ⟨b, o, none⟩ ∧ b < w.heap.size ∧ w.cell? ⟨b, o + j, none⟩ = some u := by
  rcases h with h | ⟨b, o, rfl, h⟩
  · subst h; simp at hu
  · exact ⟨b, o, rfl, World.block_lt_of_cell? w _ (h j u hu), h j u hu⟩
theorem Sees.cells {w : World} {b o : Nat} {xs : List Value} (h : Sees w (some ⟨b, o, none⟩) xs) : ∀ j u, xs[j]? = some u → w.cell? ((⟨b, o, none⟩ : Addr).add j) = some u := by
  intro j u hu
  obtain ⟨b', o', he, _, hc⟩ := h.at_ hu
  simp at he
  obtain ⟨rfl, rfl⟩ := he
  rw [Addr.add_lit]; exact hc
section
variable {P : Program} (w : World)
end
theorem Sees.one {w : World} {b : Nat} {t : TypeId} {cs : Array Value} (h : Has w b t cs) : Sees w (some ⟨b, 0, none⟩) cs.toList := by
  right
  refine ⟨b, 0, rfl, fun j u hu => ?_⟩
  rw [h.cell, Nat.zero_add]; simpa using hu
theorem Sees.take {w : World} {A : Option Addr} {xs : List Value} (h : Sees w A xs) (k : Nat) : Sees w A (xs.take k) := by
  rcases h with h | ⟨b, o, rfl, h⟩
  · subst h; left; simp
  · right
    refine ⟨b, o, rfl, fun j u hu => h j u ?_⟩
    rw [List.getElem?_take] at hu
    split at hu
    · exact hu
    · cases hu
theorem Sees.old {w w' : World} {A : Option Addr} {xs : List Value} {T : Nat → Prop} (h : Sees w A xs) (ht : Only T w w') (hn : ∀ k, k < w.heap.size → ¬ T k) : Sees w' A xs := by
  rcases h with h | ⟨b, o, rfl, h⟩
  · exact .inl h
  · refine .inr ⟨b, o, rfl, fun j u hu => ?_⟩
    have hc := h j u hu
    have hb := World.block_lt_of_cell? w _ hc
    exact (ht.cell (p := ⟨b, o + j, none⟩) hb (hn b hb)).trans hc
def Came (k : IntKind) (w : World) (A : Option Addr) (len cap : Nat) (zs : List Int) : Prop :=
  zs.length = len ∧ len ≤ cap ∧ cap ≤ maxLen ∧ (A = none → cap = 0) ∧ Sees w A (zs.map (Value.int k)) ∧ ∀ n ∈ zs, (Lit.int k n).wf = true
end Ost
