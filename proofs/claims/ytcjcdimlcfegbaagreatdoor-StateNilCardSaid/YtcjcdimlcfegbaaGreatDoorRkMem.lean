/- A reckoner of calls: its blocks and the world's. No condition. -/
import Derived.Test.YtcjcdimlcfegbaaGreatDoorRkEnv
import Derived.Laws.CopyRow
set_option linter.unusedVariables false
set_option linter.unusedSimpArgs false
namespace Reck
open Go Ost

/-- A block as the world has it, at q. -/
structure BlkOk (w0 w : World) (e : Env) (x : Blk) (q : Nat × Nat) : Prop where
  old : w0.heap.size ≤ q.1 ∨ e.S q.1
  ex : ∃ cur fz, w.heap[q.1]? = some (.cells cur x.elem fz) ∧ (∀ (j : Nat) c, x.cells[j]? = some c → ∃ v, cv e c = some v ∧ cur[q.2 + j]? = some v) ∧
    (∃ n, capv e x.j (b0 x) = some n ∧ q.2 + n * bu x ≤ cur.size) ∧ (∀ v ∈ cur, v.oneCell' = true) ∧ (x.z = false → fz = (0, 0)) ∧ (fz = (0, 0) ∨ cur.size ≤ fz.1)

def byteAll (l : List Int) : Prop := l.all byteZ = true
/-- The value of a row's cell. -/
def cvV : CK → CV → Option Value
  | .n k, .i z => some (.int k z)
  | .b, .b x => some (.bool x)
  | .s, .s l => if l.all byteZ then some (.string (strZ l)) else none
  | .v, .v x => if x.oneCell' then some x else none
  | _, _ => none
/-- Rows as they lie. -/
def RowsAt (get : Nat → Option Value) (ks : List CK) (L : List (List CV)) : Prop :=
  ∀ (m : Nat) row, L[m]? = some row → row.length = ks.length ∧ ∀ (f : Nat) k v, ks[f]? = some k → row[f]? = some v → ∃ y, cvV k v = some y ∧ get (m * ks.length + f) = some y
/-- What else lies there. -/
def ObOk (x : ABlk) (q : Nat × Nat) (ob : Go.Obj) : Obj → Prop
  | .frz _ => False
  | .old _ => False
  | .iter s pos => q.2 = 0 ∧ byteAll s ∧ ob = .stringIter (strZ s) pos
  | .glob g vs => x.ro = true ∧ q = (g, 0) ∧ ∃ cur el fz, ob = .cells cur el fz ∧ cur.toList = vs ∧ ∀ v ∈ vs, v.oneCell' = true
  | .chan k cap buf => q.2 = 0 ∧ buf.length ≤ cap ∧ ∃ sent received, ob = .chan cap (buf.map (Value.int k)).toArray false sent received false
  | .row => True
  | .rows ks L => 0 < ks.length ∧ ∃ cur el fz, ob = .cells cur el fz ∧ RowsAt (fun j => cur[q.2 + j]?) ks L ∧ (x.ro = false → (el = x.elem ∧ (fz = (0, 0) ∨ cur.size ≤ fz.1)) ∧ q.2 + x.cap * ks.length ≤ cur.size ∧ L.length ≤ x.cap ∧ ∀ v ∈ cur, v.oneCell' = true)
/-- What an array is made of. -/
def Made (x : ABlk) (q : Nat × Nat) (ob : Go.Obj) : AK → Prop
  | .n k => ∃ cur el fz, ob = .cells cur el fz ∧ (∀ (j : Nat) v, x.l[j]? = some v → cur[q.2 + j]? = some (.int k v)) ∧ (x.ro = false → (el = x.elem ∧ (fz = (0, 0) ∨ cur.size ≤ fz.1)) ∧ q.2 + x.cap ≤ cur.size ∧ x.l.length ≤ x.cap ∧ ∀ v ∈ cur, v.oneCell' = true)
  | .o o => ObOk x q ob o
/-- An array as the world has it. -/
def AOk (w0 w : World) (e : Env) (x : ABlk) : Option Addr ⊕ (Nat × Nat) → Prop
  | .inl _ => x.l = [] ∧ ((∃ k, x.k = .n k) ∨ (∃ ks, x.k = .o (.rows ks [])) ∨ (∃ F, x.k = .o (.frz F)) ∨ ∃ F, x.k = .o (.old F))
  | .inr q => (∃ ob, w.heap[q.1]? = some ob ∧ Made x q ob x.k) ∧ ((x.ro = true ∧ q.1 < w0.heap.size ∧ ¬ e.S q.1) ∨ (x.ro = false ∧ (w0.heap.size ≤ q.1 ∨ e.S q.1)))
/-- An array of numbers. -/
theorem AOk.num {w0 w : World} {e : Env} {x : ABlk} {q : Nat × Nat} {k : IntKind} (h : AOk w0 w e x (.inr q)) (hn : x.k = .n k) : ∃ cur el fz, w.heap[q.1]? = some (.cells cur el fz) ∧ (∀ (j : Nat) v, x.l[j]? = some v → cur[q.2 + j]? = some (.int k v)) ∧
    ((x.ro = true ∧ q.1 < w0.heap.size ∧ ¬ e.S q.1) ∨ (x.ro = false ∧ (w0.heap.size ≤ q.1 ∨ e.S q.1) ∧ (el = x.elem ∧ (fz = (0, 0) ∨ cur.size ≤ fz.1)) ∧ q.2 + x.cap ≤ cur.size ∧ x.l.length ≤ x.cap ∧ ∀ v ∈ cur, v.oneCell' = true)) := by
  obtain ⟨⟨ob, h1, h2⟩, h3⟩ := h
  rw [hn] at h2
  obtain ⟨cur, el, fz, rfl, h4, h5⟩ := h2
  refine ⟨cur, el, fz, h1, h4, ?_⟩
  rcases h3 with h3 | ⟨h3, h6⟩
  · exact .inl h3
  · exact .inr ⟨h3, h6, h5 h3⟩
theorem AOk.ofNum {w0 w : World} {e : Env} {x : ABlk} {q : Nat × Nat} {k : IntKind} (hn : x.k = .n k) (h : ∃ cur el fz, w.heap[q.1]? = some (.cells cur el fz) ∧ (∀ (j : Nat) v, x.l[j]? = some v → cur[q.2 + j]? = some (.int k v)) ∧
    ((x.ro = true ∧ q.1 < w0.heap.size ∧ ¬ e.S q.1) ∨ (x.ro = false ∧ (w0.heap.size ≤ q.1 ∨ e.S q.1) ∧ (el = x.elem ∧ (fz = (0, 0) ∨ cur.size ≤ fz.1)) ∧ q.2 + x.cap ≤ cur.size ∧ x.l.length ≤ x.cap ∧ ∀ v ∈ cur, v.oneCell' = true))) : AOk w0 w e x (.inr q) := by
  obtain ⟨cur, el, fz, h1, h2, h3⟩ := h
  refine ⟨⟨_, h1, ?_⟩, ?_⟩
  · rw [hn]
    refine ⟨cur, el, fz, rfl, h2, fun hro => ?_⟩
    rcases h3 with ⟨h3, _⟩ | ⟨_, _, h3⟩
    · rw [hro] at h3; cases h3
    · exact h3
  · rcases h3 with h3 | ⟨h3, h4, _⟩
    · exact .inl h3
    · exact .inr ⟨h3, h4⟩
/-- Where it lies. -/
theorem AOk.own {w0 w : World} {e : Env} {x : ABlk} {q : Nat × Nat} (h : AOk w0 w e x (.inr q)) : (x.ro = true ∧ q.1 < w0.heap.size ∧ ¬ e.S q.1) ∨ (x.ro = false ∧ (w0.heap.size ≤ q.1 ∨ e.S q.1)) := h.2

/-- The arrays. -/
structure Arrs (w0 : World) (e : Env) (σ : St) (w : World) : Prop where
  len : e.arr.length = σ.arrs.length
  ok : ∀ (a : Nat) x q, σ.arrs[a]? = some (some x) → e.arr[a]? = some q → AOk w0 w e x q
  off : ∀ (a : Nat) x q (b : Nat) y q', σ.arrs[a]? = some (some x) → x.ro = false → e.arr[a]? = some (.inr q) → σ.heap[b]? = some (some y) → e.blk[b]? = some q' → q.1 ≠ q'.1
  apart : ∀ (a a' : Nat) x x' q q', a ≠ a' → σ.arrs[a]? = some (some x) → σ.arrs[a']? = some (some x') → x.ro = false → x'.ro = false → e.arr[a]? = some (.inr q) → e.arr[a']? = some (.inr q') → q.1 ≠ q'.1

/-- Blocks that may be written. -/
def owned (e : Env) (σ : St) (g : Nat) : Prop :=
  (∃ (b : Nat) (x : Blk) (q : Nat × Nat), σ.heap[b]? = some (some x) ∧ e.blk[b]? = some q ∧ q.1 = g) ∨ ∃ (a : Nat) (x : ABlk) (q : Nat × Nat), σ.arrs[a]? = some (some x) ∧ x.ro = false ∧ e.arr[a]? = some (.inr q) ∧ q.1 = g
/-- What a frozen slice holds lies there. -/
def FBAt (w : World) (g o : Nat) : FB → Prop
  | .n k l => ∃ cur el fz, w.heap[g]? = some (.cells cur el fz) ∧ ∀ (j : Nat) v, l[j]? = some v → cur[o + j]? = some (.int k v)
  | .r ks L => 0 < ks.length ∧ ∃ cur el fz, w.heap[g]? = some (.cells cur el fz) ∧ RowsAt (fun j => cur[o + j]?) ks L
/-- A frozen slice: empty, or in a block of that kind. -/
def FrzV (T : Nat → Prop) (w : World) (v : Value) (B : FB) : Prop :=
  ∃ A c, v = .slice A B.len c ∧ (c = 0 → B.len = 0) ∧ (c ≠ 0 → ∃ g o, A = some ⟨g, o, none⟩ ∧ B.len ≤ c ∧ FBAt w g o B ∧ T g)
/-- A block in which frozen slices lie: it was frozen before, or is one of those that could be written; nobody writes it any more. -/
def FrzG (w0 : World) (e : Env) (σ : St) (g : Nat) : Prop := (e.Z g ∨ w0.heap.size ≤ g ∨ e.S g) ∧ ¬ owned e σ g
/-- An array that tells what is frozen. -/
def isFrz (x : ABlk) (F : Value → FB → Prop) : Prop := x.ro = false ∧ x.k = .o (.frz F)
/-- An array that tells what was frozen from the beginning on. -/
def isOld (x : ABlk) (F : Value → FB → Prop) : Prop := x.ro = false ∧ x.k = .o (.old F)
/-- One of them. -/
def isSp (x : ABlk) : Prop := x.ro = false ∧ ∃ F, x.k = .o (.frz F) ∨ x.k = .o (.old F)
theorem isFrz.sp {x : ABlk} {F : Value → FB → Prop} (h : isFrz x F) : isSp x := ⟨h.1, F, .inl h.2⟩
theorem isOld.sp {x : ABlk} {F : Value → FB → Prop} (h : isOld x F) : isSp x := ⟨h.1, F, .inr h.2⟩
/-- A block that was there at the beginning, and may not be written. -/
def OldG (w0 : World) (e : Env) (g : Nat) : Prop := g < w0.heap.size ∧ ¬ e.S g
/-- All frozen slices are as they were. -/
def Froz (w0 : World) (e : Env) (σ : St) (w : World) : Prop :=
  ∀ (a : Nat) x, σ.arrs[a]? = some (some x) → (∀ F, isFrz x F → ∀ v B, F v B → FrzV (FrzG w0 e σ) w v B) ∧ ∀ F, isOld x F → ∀ v B, F v B → FrzV (OldG w0 e) w v B
/-- In this block a frozen slice lies. -/
def FrzP (σ : St) (g : Nat) : Prop := ∃ (a : Nat) (x : ABlk) (F : Value → FB → Prop) (v : Value) (B : FB) (o n c : Nat), σ.arrs[a]? = some (some x) ∧ isFrz x F ∧ F v B ∧ v = .slice (some ⟨g, o, none⟩) n c ∧ c ≠ 0

theorem FBAt.lt {w : World} {g o : Nat} {B : FB} (h : FBAt w g o B) : g < w.heap.size := by
  cases B with
  | n k l => obtain ⟨cur, el, fz, h, _⟩ := h; exact (Array.getElem?_eq_some_iff.1 h).1
  | r ks L => obtain ⟨_, cur, el, fz, h, _⟩ := h; exact (Array.getElem?_eq_some_iff.1 h).1
theorem FBAt.world {w w' : World} {g o : Nat} {B : FB} (h : FBAt w g o B) (hw : w'.heap[g]? = w.heap[g]?) : FBAt w' g o B := by
  cases B with
  | n k l => obtain ⟨cur, el, fz, h, h2⟩ := h; exact ⟨cur, el, fz, hw.trans h, h2⟩
  | r ks L => obtain ⟨h0, cur, el, fz, h, h2⟩ := h; exact ⟨h0, cur, el, fz, hw.trans h, h2⟩
theorem FrzV.mv {T T' : Nat → Prop} {w w' : World} {v : Value} {B : FB} (h : FrzV T w v B) (hT : ∀ g, (∃ o n c, v = .slice (some ⟨g, o, none⟩) n c ∧ c ≠ 0) → g < w.heap.size → T g → T' g ∧ w'.heap[g]? = w.heap[g]?) : FrzV T' w' v B := by
  obtain ⟨A, c, rfl, h1, h2⟩ := h
  refine ⟨A, c, rfl, h1, fun hc => ?_⟩
  obtain ⟨g, o, rfl, h3, h4, h5⟩ := h2 hc
  obtain ⟨k1, k2⟩ := hT g ⟨o, _, c, rfl, hc⟩ h4.lt h5
  exact ⟨g, o, rfl, h3, h4.world k2, k1⟩
theorem Froz.at_ {w0 w : World} {e : Env} {σ : St} (h : Froz w0 e σ w) {g : Nat} (hg : FrzP σ g) : g < w.heap.size ∧ FrzG w0 e σ g := by
  obtain ⟨a, x, F, v, B, o, n, c, h1, h2, h3, rfl, h5⟩ := hg
  obtain ⟨A, c', h6, _, h7⟩ := (h a x h1).1 F h2 _ B h3
  cases h6
  obtain ⟨g', o', h8, _, h9, h10⟩ := h7 h5
  cases h8
  exact ⟨h9.lt, h10⟩
theorem Froz.fresh {w0 w : World} {e : Env} {σ : St} (h : Froz w0 e σ w) : ¬ FrzP σ w.heap.size := fun hP => Nat.lt_irrefl _ (h.at_ hP).1
theorem Froz.not {w0 w : World} {e : Env} {σ : St} (h : Froz w0 e σ w) {g : Nat} (ho : owned e σ g) : ¬ FrzP σ g := fun hP => (h.at_ hP).2.2 ho
/-- Other slots, the same frozen slices: what is written now was written before, or is none of theirs. -/
theorem Froz.mv {w0 w : World} {e e' : Env} {σ σ' : St} (h : Froz w0 e σ w) (hs : ∀ (a : Nat) x, σ'.arrs[a]? = some (some x) → isSp x → ∃ a' : Nat, σ.arrs[a']? = some (some x))
    (hZ : e'.Z = e.Z) (hS : e'.S = e.S) (ho : ∀ g, FrzP σ g → g < w.heap.size → ¬ owned e σ g → ¬ owned e' σ' g) : Froz w0 e' σ' w := by
  intro a x h1
  refine ⟨fun F h2 v B hF => ?_, fun F h2 v B hF => ?_⟩
  · obtain ⟨a', k1⟩ := hs a x h1 h2.sp
    refine ((h a' x k1).1 F h2 v B hF).mv fun g ⟨o, n, c, hv, hc⟩ hlt hg => ⟨⟨?_, ho g ⟨a', x, F, v, B, o, n, c, k1, h2, hF, hv, hc⟩ hlt hg.2⟩, rfl⟩
    rw [hZ, hS]; exact hg.1
  · obtain ⟨a', k1⟩ := hs a x h1 h2.sp
    refine ((h a' x k1).2 F h2 v B hF).mv fun g _ _ hg => ⟨?_, rfl⟩
    exact ⟨hg.1, by rw [hS]; exact hg.2⟩
/-- The same arrays, no more that is written. -/
theorem Froz.same {w0 w : World} {e e' : Env} {σ σ' : St} (h : Froz w0 e σ w) (hs : σ'.arrs = σ.arrs) (hZ : e'.Z = e.Z) (hS : e'.S = e.S) (ho : ∀ g, owned e' σ' g → owned e σ g) : Froz w0 e' σ' w :=
  h.mv (fun a x h1 _ => ⟨a, hs ▸ h1⟩) hZ hS (fun g _ _ hg h => hg (ho g h))
theorem Froz.world {w0 w w' : World} {e : Env} {σ : St} {T : Nat → Prop} (h : Froz w0 e σ w) (ho : Only T w w') (hT : ∀ g, T g → owned e σ g) (hT2 : ∀ g, T g → w0.heap.size ≤ g ∨ e.S g) : Froz w0 e σ w' := by
  intro a x h1
  refine ⟨fun F h2 v B hF => ((h a x h1).1 F h2 v B hF).mv fun g _ hlt hg => ⟨hg, ho.keep g hlt (fun h => hg.2 (hT g h))⟩, fun F h2 v B hF => ((h a x h1).2 F h2 v B hF).mv fun g _ hlt hg => ⟨hg, ho.keep g hlt (fun h => ?_)⟩⟩
  have h3 := hg.1
  rcases hT2 g h with h2 | h2
  · omega
  · exact hg.2 h2

/-- The state stands for the world; old memory is as it was. -/
structure Ok (w0 : World) (e : Env) (σ : St) (w : World) : Prop where
  only : Only e.S w0 w
  blks : e.blk.length = σ.heap.length
  ints : e.int.length = σ.ints.length
  opqs : e.opq.length = σ.opqs
  bnd : ∀ (i : Nat) b n, σ.ints[i]? = some b → e.int[i]? = some n → (∀ l, b.1 = some l → l ≤ n) ∧ (∀ h, b.2 = some h → n ≤ h)
  opq : ∀ v ∈ e.opq, v.oneCell' = true
  blk : ∀ (b : Nat) x q, σ.heap[b]? = some (some x) → e.blk[b]? = some q → BlkOk w0 w e x q
  apart : ∀ (b b' : Nat) x x' q q', b ≠ b' → σ.heap[b]? = some (some x) → σ.heap[b']? = some (some x') → e.blk[b]? = some q → e.blk[b']? = some q' → q.1 ≠ q'.1
  arrs : Arrs w0 e σ w
  junks : e.junk.length = σ.junks
  froz : Froz w0 e σ w

theorem BlkOk.mono {w0 w : World} {e e' : Env} {x : Blk} {q : Nat × Nat} (h : BlkOk w0 w e x q) (hl : e.le e') : BlkOk w0 w e' x q := by
  obtain ⟨h1, cur, fz, h2, h3, ⟨n, h4, h5⟩, h6⟩ := h
  exact ⟨by rw [hl.S]; exact h1, cur, fz, h2, fun j c hc => let ⟨v, a, b⟩ := h3 j c hc; ⟨v, cv_mono hl c v a, b⟩, ⟨n, capv_mono hl h4, h5⟩, h6⟩
theorem BlkOk.world {w0 w w' : World} {e : Env} {x : Blk} {q : Nat × Nat} (h : BlkOk w0 w e x q) (hw : w'.heap[q.1]? = w.heap[q.1]?) : BlkOk w0 w' e x q := by
  obtain ⟨h1, cur, fz, h2, h3⟩ := h
  exact ⟨h1, cur, fz, hw.trans h2, h3⟩
theorem BlkOk.lt {w0 w : World} {e : Env} {x : Blk} {q : Nat × Nat} (h : BlkOk w0 w e x q) : q.1 < w.heap.size := by
  obtain ⟨h1, cur, fz, h2, h3⟩ := h
  exact (Array.getElem?_eq_some_iff.1 h2).1

theorem AOk.noSp {w0 w : World} {e : Env} {x : ABlk} {q : Nat × Nat} (h : AOk w0 w e x (.inr q)) (hF : isSp x) : False := by
  obtain ⟨⟨ob, _, h2⟩, _⟩ := h
  obtain ⟨_, F, hF | hF⟩ := hF <;> (rw [hF] at h2; exact h2)
theorem AOk.mono {w0 w : World} {e e' : Env} {x : ABlk} {q : Option Addr ⊕ (Nat × Nat)} (h : AOk w0 w e x q) (hl : e.le e') : AOk w0 w e' x q := by
  cases q with
  | inl A => exact h
  | inr q => simp only [AOk, hl.S] at h ⊢; exact h
theorem AOk.world {w0 w w' : World} {e : Env} {x : ABlk} {q : Option Addr ⊕ (Nat × Nat)} (h : AOk w0 w e x q) (hw : ∀ p, q = .inr p → w'.heap[p.1]? = w.heap[p.1]?) : AOk w0 w' e x q := by
  cases q with
  | inl A => exact h
  | inr q => obtain ⟨⟨ob, h1, h2⟩, h3⟩ := h; exact ⟨⟨ob, (hw q rfl).trans h1, h2⟩, h3⟩
theorem AOk.lt {w0 w : World} {e : Env} {x : ABlk} {q : Nat × Nat} (h : AOk w0 w e x (.inr q)) : q.1 < w.heap.size := by
  obtain ⟨⟨ob, h1, h2⟩, h3⟩ := h
  exact (Array.getElem?_eq_some_iff.1 h1).1
theorem AOk.reb {w0 w0' w : World} {e e' : Env} {x : ABlk} {q : Nat × Nat} (h : AOk w0 w e x (.inr q)) (ho : (x.ro = true ∧ q.1 < w0'.heap.size ∧ ¬ e'.S q.1) ∨ (x.ro = false ∧ (w0'.heap.size ≤ q.1 ∨ e'.S q.1))) : AOk w0' w e' x (.inr q) := ⟨h.1, ho⟩
/-- The arrays where only one block, which is none of theirs, has turned. -/
theorem Arrs.world {w0 w w' : World} {e : Env} {σ : St} {T : Nat → Prop} (h : Arrs w0 e σ w) (ho : Only T w w') (hT : ∀ (a : Nat) x q, σ.arrs[a]? = some (some x) → e.arr[a]? = some (.inr q) → ¬ T q.1) : Arrs w0 e σ w' :=
  ⟨h.len, fun a x q h1 h2 => (h.ok a x q h1 h2).world (fun p hp => ho.keep _ (by subst hp; exact (h.ok a x _ h1 h2).lt) (by subst hp; exact hT a x p h1 h2)), h.off, h.apart⟩
theorem Arrs.blk_ne {w0 w : World} {e : Env} {σ : St} (h : Arrs w0 e σ w) {b : Nat} {y : Blk} {q' : Nat × Nat} (hb : σ.heap[b]? = some (some y)) (hq : e.blk[b]? = some q') (hold : w0.heap.size ≤ q'.1 ∨ e.S q'.1) :
    ∀ (a : Nat) x q, σ.arrs[a]? = some (some x) → e.arr[a]? = some (.inr q) → q.1 ≠ q'.1 := by
  intro a x q h1 h2
  have h3 := h.ok a x _ h1 h2
  rcases h3.own with ⟨g4, g5, g6⟩ | ⟨g4, _⟩
  · intro he
    rcases hold with h | h
    · omega
    · exact g6 (he ▸ h)
  · exact h.off a x q b y q' h1 g4 h2 hb hq
/-- Other blocks, the same arrays. -/
theorem Arrs.heap {w0 w : World} {e e' : Env} {σ σ' : St} (h : Arrs w0 e σ w) (hl : e.le e') (ha : e'.arr = e.arr) (hs : σ'.arrs = σ.arrs)
    (hoff : ∀ (a : Nat) x q (b : Nat) y q', σ.arrs[a]? = some (some x) → x.ro = false → e.arr[a]? = some (.inr q) → σ'.heap[b]? = some (some y) → e'.blk[b]? = some q' → q.1 ≠ q'.1) : Arrs w0 e' σ' w :=
  ⟨by rw [ha, hs]; exact h.len, fun a x q h1 h2 => (h.ok a x q (hs ▸ h1) (ha ▸ h2)).mono hl, fun a x q b y q' h1 h2 h3 => hoff a x q b y q' (hs ▸ h1) h2 (ha ▸ h3),
    fun a a' x x' q q' hn h1 h2 h3 h4 h5 h6 => h.apart a a' x x' q q' hn (hs ▸ h1) (hs ▸ h2) h3 h4 (ha ▸ h5) (ha ▸ h6)⟩

theorem Arrs.put_off {w0 w : World} {e : Env} {σ : St} (h : Arrs w0 e σ w) {b : Nat} {z : Blk} {z' : Option Blk} (hb : σ.heap[b]? = some (some z)) (a : Nat) (x : ABlk) (q : Nat × Nat) (b' : Nat) (y : Blk) (q' : Nat × Nat) (h1 : σ.arrs[a]? = some (some x)) (h2 : x.ro = false)
    (h3 : e.arr[a]? = some (.inr q)) (h4 : (putBlk σ b z').heap[b']? = some (some y)) (h5 : e.blk[b']? = some q') : q.1 ≠ q'.1 := by
  simp only [putBlk] at h4
  by_cases hbb : b = b'
  · subst hbb; exact h.off a x q b z q' h1 h2 h3 hb h5
  · rw [List.getElem?_set_ne hbb] at h4; exact h.off a x q b' y q' h1 h2 h3 h4 h5

theorem owned_putBlk {e : Env} {σ : St} {b : Nat} {x : Blk} {y : Option Blk} (hb : σ.heap[b]? = some (some x)) (g : Nat) (h : owned e (putBlk σ b y) g) : owned e σ g := by
  rcases h with ⟨b', z, q, h1, h2, h3⟩ | h
  · simp only [putBlk] at h1
    by_cases hbb : b = b'
    · subst hbb; exact .inl ⟨b, x, q, hb, h2, h3⟩
    · rw [List.getElem?_set_ne hbb] at h1; exact .inl ⟨b', z, q, h1, h2, h3⟩
  · exact .inr h
theorem getBlk_some {σ : St} {b : Nat} {x : Blk} (h : getBlk σ b = some x) : σ.heap[b]? = some (some x) := by
  unfold getBlk at h
  split at h
  · rename_i y hy; simp at h; rw [hy, h]
  · cases h
theorem Ok.at_ {w0 w : World} {e : Env} {σ : St} (h : Ok w0 e σ w) {b : Nat} {x : Blk} (hb : getBlk σ b = some x) : ∃ q, e.blk[b]? = some q ∧ BlkOk w0 w e x q := by
  have h1 := getBlk_some hb
  have hlt : b < e.blk.length := by rw [h.blks]; exact (List.getElem?_eq_some_iff.1 h1).1
  exact ⟨_, List.getElem?_eq_getElem hlt, h.blk b x _ h1 (List.getElem?_eq_getElem hlt)⟩

theorem Ok.world {w0 w w' : World} {e : Env} {σ : St} (h : Ok w0 e σ w) (ho : Only (fun _ => False) w w') : Ok w0 e σ w' :=
  ⟨h.only.trans ho (fun _ _ e => e.elim), h.blks, h.ints, h.opqs, h.bnd, h.opq, fun b x q h1 h2 => (h.blk b x q h1 h2).world (ho.keep _ (h.blk b x q h1 h2).lt (fun e => e)), h.apart, h.arrs.world ho (fun _ _ _ _ _ e => e), h.junks, h.froz.world ho (fun _ e => e.elim) (fun _ e => e.elim)⟩

theorem Ok.put {w0 w w' : World} {e : Env} {σ : St} (h : Ok w0 e σ w) {b : Nat} {x x' : Blk} {q : Nat × Nat} (hb : σ.heap[b]? = some (some x)) (hq : e.blk[b]? = some q)
    (ho : Only (fun k => k = q.1) w w') (hx : BlkOk w0 w' e x' q) : Ok w0 e (putBlk σ b (some x')) w' := by
  have hold := (h.blk b x q hb hq).old
  have hblt : b < σ.heap.length := (List.getElem?_eq_some_iff.1 hb).1
  refine ⟨h.only.trans ho (fun i hi (he : i = q.1) => by rcases hold with g | g <;> first | omega | (rw [he]; exact g)), by simpa [putBlk] using h.blks, h.ints, h.opqs, h.bnd, h.opq, ?_, ?_, (h.arrs.world ho (h.arrs.blk_ne hb hq hold)).heap (Env.le.refl e) rfl rfl ?_, h.junks, (h.froz.world ho (fun g hg => .inl ⟨b, x, q, hb, hq, hg.symm⟩) (fun g (hg : g = q.1) => hg ▸ hold)).same rfl rfl rfl (owned_putBlk hb)⟩
  · intro b' y q' h1 h2
    simp only [putBlk] at h1
    by_cases hbb : b = b'
    · subst hbb
      rw [List.getElem?_set_self hblt] at h1
      simp at h1; subst h1
      rw [hq] at h2; simp at h2; subst h2
      exact hx
    · rw [List.getElem?_set_ne hbb] at h1
      have hk := h.blk b' y q' h1 h2
      exact hk.world (ho.keep _ hk.lt (fun (he : q'.1 = q.1) => h.apart b b' x y q q' hbb hb h1 hq h2 he.symm))
  · intro b1 b2 y1 y2 q1 q2 hne h1 h2 h3 h4
    simp only [putBlk] at h1 h2
    have g1 : ∃ y, σ.heap[b1]? = some (some y) := by
      by_cases hbb : b = b1
      · subst hbb; exact ⟨x, hb⟩
      · rw [List.getElem?_set_ne hbb] at h1; exact ⟨y1, h1⟩
    have g2 : ∃ y, σ.heap[b2]? = some (some y) := by
      by_cases hbb : b = b2
      · subst hbb; exact ⟨x, hb⟩
      · rw [List.getElem?_set_ne hbb] at h2; exact ⟨y2, h2⟩
    obtain ⟨z1, g1⟩ := g1
    obtain ⟨z2, g2⟩ := g2
    exact h.apart b1 b2 z1 z2 q1 q2 hne g1 g2 h3 h4
  · exact h.arrs.put_off hb

theorem Ok.kill {w0 w w' : World} {e : Env} {σ : St} (h : Ok w0 e σ w) {b : Nat} {x : Blk} {q : Nat × Nat} (hb : σ.heap[b]? = some (some x)) (hq : e.blk[b]? = some q)
    (ho : Only (fun k => k = q.1) w w') : Ok w0 e (putBlk σ b none) w' := by
  have hold := (h.blk b x q hb hq).old
  have hblt : b < σ.heap.length := (List.getElem?_eq_some_iff.1 hb).1
  refine ⟨h.only.trans ho (fun i hi (he : i = q.1) => by rcases hold with g | g <;> first | omega | (rw [he]; exact g)), by simpa [putBlk] using h.blks, h.ints, h.opqs, h.bnd, h.opq, ?_, ?_, (h.arrs.world ho (h.arrs.blk_ne hb hq hold)).heap (Env.le.refl e) rfl rfl ?_, h.junks, (h.froz.world ho (fun g hg => .inl ⟨b, x, q, hb, hq, hg.symm⟩) (fun g (hg : g = q.1) => hg ▸ hold)).same rfl rfl rfl (owned_putBlk hb)⟩
  · intro b' y q' h1 h2
    simp only [putBlk] at h1
    by_cases hbb : b = b'
    · subst hbb
      rw [List.getElem?_set_self hblt] at h1
      simp at h1
    · rw [List.getElem?_set_ne hbb] at h1
      have hk := h.blk b' y q' h1 h2
      exact hk.world (ho.keep _ hk.lt (fun (he : q'.1 = q.1) => h.apart b b' x y q q' hbb hb h1 hq h2 he.symm))
  · intro b1 b2 y1 y2 q1 q2 hne h1 h2 h3 h4
    simp only [putBlk] at h1 h2
    have g1 : σ.heap[b1]? = some (some y1) := by
      by_cases hbb : b = b1
      · subst hbb; rw [List.getElem?_set_self hblt] at h1; simp at h1
      · rwa [List.getElem?_set_ne hbb] at h1
    have g2 : σ.heap[b2]? = some (some y2) := by
      by_cases hbb : b = b2
      · subst hbb; rw [List.getElem?_set_self hblt] at h2; simp at h2
      · rwa [List.getElem?_set_ne hbb] at h2
    exact h.apart b1 b2 y1 y2 q1 q2 hne g1 g2 h3 h4
  · exact h.arrs.put_off hb

theorem get_snoc {α : Type} {l : List α} {x y : α} {i : Nat} (h : (l ++ [x])[i]? = some y) : (i < l.length ∧ l[i]? = some y) ∨ (i = l.length ∧ x = y) := by
  by_cases hi : i < l.length
  · rw [List.getElem?_append_left hi] at h; exact .inl ⟨hi, h⟩
  · have hlt := (List.getElem?_eq_some_iff.1 h).1
    simp at hlt
    obtain rfl : i = l.length := by omega
    simp at h; exact .inr ⟨rfl, h⟩

theorem Ok.add {w0 w : World} {e : Env} {σ : St} (h : Ok w0 e σ w) {x : Blk} {q : Nat × Nat} (hx : BlkOk w0 w ⟨e.blk ++ [q], e.int, e.opq, e.arr, e.S, e.junk, e.Z⟩ x q)
    (hd : ∀ (b : Nat) y q', σ.heap[b]? = some (some y) → e.blk[b]? = some q' → q'.1 ≠ q.1) (hda : ∀ (a : Nat) y q', σ.arrs[a]? = some (some y) → e.arr[a]? = some (.inr q') → q'.1 ≠ q.1) (hz : ¬ FrzP σ q.1) : Ok w0 ⟨e.blk ++ [q], e.int, e.opq, e.arr, e.S, e.junk, e.Z⟩ ⟨σ.heap ++ [some x], σ.ints, σ.opqs, σ.arrs, σ.junks⟩ w := by
  have hle : e.le ⟨e.blk ++ [q], e.int, e.opq, e.arr, e.S, e.junk, e.Z⟩ := ⟨⟨[q], rfl⟩, List.prefix_rfl, List.prefix_rfl, List.prefix_rfl, rfl, List.prefix_rfl, rfl⟩
  refine ⟨h.only, by simp [h.blks], h.ints, h.opqs, h.bnd, h.opq, ?_, ?_, h.arrs.heap hle rfl rfl ?_, h.junks, h.froz.mv (fun a x h1 _ => ⟨a, h1⟩) rfl rfl (fun g hP _ hg ho => ?_)⟩
  · intro b y q' h1 h2
    dsimp only at h1 h2
    rcases get_snoc h1 with ⟨g1, g2⟩ | ⟨g1, g2⟩ <;> rcases get_snoc h2 with ⟨k1, k2⟩ | ⟨k1, k2⟩
    · exact (h.blk b y q' g2 k2).mono hle
    · have := h.blks; omega
    · have := h.blks; omega
    · simp at g2; subst g2; subst k2; exact hx
  · intro b1 b2 y1 y2 q1 q2 hne h1 h2 h3 h4
    dsimp only at h1 h2 h3 h4
    have hb := h.blks
    rcases get_snoc h1 with ⟨g1, g2⟩ | ⟨g1, g2⟩ <;> rcases get_snoc h2 with ⟨k1, k2⟩ | ⟨k1, k2⟩ <;> rcases get_snoc h3 with ⟨m1, m2⟩ | ⟨m1, m2⟩ <;> rcases get_snoc h4 with ⟨n1, n2⟩ | ⟨n1, n2⟩ <;> try omega
    · exact h.apart b1 b2 y1 y2 q1 q2 hne g2 k2 m2 n2
    · rw [← n2]; exact hd b1 y1 q1 g2 m2
    · rw [← m2]; exact fun he => hd b2 y2 q2 k2 n2 he.symm
  · intro a y q1 b y2 q2 h1 h2 h3 h4 h5
    have hb := h.blks
    dsimp only at h4 h5
    rcases get_snoc h4 with ⟨g1, g2⟩ | ⟨g1, g2⟩ <;> rcases get_snoc h5 with ⟨k1, k2⟩ | ⟨k1, k2⟩ <;> try omega
    · exact h.arrs.off a y q1 b y2 q2 h1 h2 h3 g2 k2
    · rw [← k2]; exact hda a y q1 h1 h3
  · rcases ho with ⟨b, y, q', h1, h2, h3⟩ | ho
    · have hb := h.blks
      dsimp only at h1 h2
      rcases get_snoc h1 with ⟨g1, g2⟩ | ⟨g1, g2⟩ <;> rcases get_snoc h2 with ⟨k1, k2⟩ | ⟨k1, k2⟩ <;> try omega
      · exact hg (.inl ⟨b, y, q', g2, k2, h3⟩)
      · subst k2; subst h3; exact hz hP
    · exact hg (.inr ho)

theorem Ok.addInt {w0 w : World} {e : Env} {σ : St} (h : Ok w0 e σ w) (n : Int) (b : Option Int × Option Int) (hb : (∀ l, b.1 = some l → l ≤ n) ∧ (∀ h, b.2 = some h → n ≤ h)) :
    Ok w0 ⟨e.blk, e.int ++ [n], e.opq, e.arr, e.S, e.junk, e.Z⟩ (addI σ b) w := by
  have hle : e.le ⟨e.blk, e.int ++ [n], e.opq, e.arr, e.S, e.junk, e.Z⟩ := ⟨List.prefix_rfl, ⟨[n], rfl⟩, List.prefix_rfl, List.prefix_rfl, rfl, List.prefix_rfl, rfl⟩
  refine ⟨h.only, h.blks, by simp [addI, h.ints], h.opqs, ?_, h.opq, fun b x q h1 h2 => (h.blk b x q h1 h2).mono hle, h.apart, h.arrs.heap hle rfl rfl h.arrs.off, h.junks, h.froz.same rfl rfl rfl (fun g h => h)⟩
  intro i c m h1 h2
  dsimp only [addI] at h1 h2
  have hi := h.ints
  rcases get_snoc h1 with ⟨g1, g2⟩ | ⟨g1, g2⟩ <;> rcases get_snoc h2 with ⟨k1, k2⟩ | ⟨k1, k2⟩ <;> try omega
  · exact h.bnd i c m g2 k2
  · subst g2; subst k2; exact hb

theorem Ok.setInt {w0 w : World} {e : Env} {σ : St} (h : Ok w0 e σ w) {i : Nat} {n : Int} (hn : e.int[i]? = some n) (b : Option Int × Option Int) (hb : (∀ l, b.1 = some l → l ≤ n) ∧ (∀ h, b.2 = some h → n ≤ h)) :
    Ok w0 e (setI σ i b) w := by
  refine ⟨h.only, h.blks, by simp [setI, h.ints], h.opqs, ?_, h.opq, h.blk, h.apart, h.arrs.heap (Env.le.refl e) rfl rfl h.arrs.off, h.junks, h.froz.same rfl rfl rfl (fun g h => h)⟩
  intro j c m h1 h2
  dsimp only [setI] at h1
  have hlt : i < σ.ints.length := by rw [← h.ints]; exact (List.getElem?_eq_some_iff.1 hn).1
  by_cases hij : i = j
  · subst hij
    rw [List.getElem?_set_self hlt] at h1
    simp at h1; subst h1
    rw [hn] at h2; simp at h2; subst h2; exact hb
  · rw [List.getElem?_set_ne hij] at h1; exact h.bnd j c m h1 h2

/-! ### Cells -/
theorem plain_ok {w0 w : World} {e : Env} {σ : St} (h : Ok w0 e σ w) {c : Cell} {v : Value} (hp : plainC c = true) (hv : cv e c = some v) : v.oneCell' = true := by
  rcases c with x | p | s | ⟨k, i⟩ | ⟨f, l⟩ | i | ⟨k, n⟩ | s | ⟨a, j⟩ | j | l | s | p | q | y
  · simp only [cv, Option.some.injEq] at hv; subst hv
    cases x <;> simp_all [plainC, plainV, Value.oneCell']
  · simp only [cv, ptrV] at hv; split at hv
    · simp at hv; subst hv; rfl
    · cases hv
  · simp only [cv] at hv; split at hv
    · split at hv
      · simp at hv; subst hv; rfl
      · cases hv
    · cases hv
  · simp only [cv] at hv; split at hv
    · simp at hv; subst hv; rfl
    · cases hv
  · simp only [cv] at hv; split at hv
    · simp at hv; subst hv; unfold funcV; split <;> rfl
    · cases hv
  · exact h.opq v (List.mem_of_getElem? hv)
  · simp only [cv, Option.some.injEq] at hv; subst hv; rfl
  · simp only [cv] at hv; split at hv
    · split at hv
      · simp at hv; subst hv; rfl
      · cases hv
    · split at hv
      · simp at hv; subst hv; rfl
      · cases hv
    · cases hv
  · simp only [cv] at hv; split at hv
    · simp at hv; subst hv; rfl
    · cases hv
  · simp [plainC] at hp
  · simp only [cv] at hv; split at hv
    · simp at hv; subst hv; rfl
    · cases hv
  · simp only [cv] at hv; split at hv
    · split at hv
      · simp at hv; subst hv; rfl
      · cases hv
    · split at hv
      · simp at hv; subst hv; rfl
      · cases hv
    · cases hv
  · simp only [cv] at hv; split at hv
    · simp at hv; subst hv; rfl
    · cases hv

  · simp only [cv, bfV] at hv; split at hv
    · simp at hv; subst hv; rfl
    · cases hv
  · simp only [cv] at hv; split at hv
    · simp at hv; subst hv; assumption
    · cases hv

theorem cells_one {v : Value} (h : v.oneCell' = true) : v.cells = #[v] := by cases v <;> first | rfl | (simp [Value.oneCell'] at h)

theorem cellsOf_ok {w0 w : World} {e : Env} {σ : St} (h : Ok w0 e σ w) {x : AV} {cs : List Cell} {v : Value} (hc : cellsOf x = some cs) (hv : av e x = some v) :
    cs.map (cv e) = v.cells.toList.map some ∧ ∀ u ∈ v.cells.toList, u.oneCell' = true := by
  rcases x with (c | l) | l
  · simp only [cellsOf] at hc
    split at hc
    · rename_i hp
      simp at hc; subst hc
      have h1 := plain_ok h hp hv
      rw [cells_one h1]
      simpa [h1, av, v1] using hv
    · cases hc
  · simp only [cellsOf] at hc
    split at hc
    · rename_i hp
      simp at hc; subst hc
      simp only [av, v1] at hv
      split at hv
      · rename_i vs hvs
        simp at hv; subst hv
        have h2 := seqO_some.1 hvs
        refine ⟨by simpa [Value.cells] using h2, ?_⟩
        intro u hu
        simp [Value.cells] at hu
        have : some u ∈ l.map (cv e) := by rw [h2]; exact List.mem_map.2 ⟨u, hu, rfl⟩
        obtain ⟨c, hcl, hcu⟩ := List.mem_map.1 this
        exact plain_ok h (List.all_eq_true.1 hp c hcl) hcu
      · cases hv
    · cases hc
  · simp [cellsOf] at hc

theorem BlkOk.size {w0 w : World} {e : Env} {x : Blk} {q : Nat × Nat} {cur : Array Value} {fz : Nat × Nat} (h : BlkOk w0 w e x q) (hc : w.heap[q.1]? = some (.cells cur x.elem fz)) {k : Nat} (hk : k ≤ x.cells.length) : q.2 + k ≤ cur.size := by
  obtain ⟨h1, cur', fz', h2, h3, ⟨n, h4, h5⟩, h6⟩ := h
  rw [hc] at h2
  simp at h2
  obtain ⟨rfl, rfl⟩ := h2
  cases k with
  | zero => omega
  | succ k =>
    obtain ⟨v, _, hv⟩ := h3 k x.cells[k] (List.getElem?_eq_getElem (by omega))
    have := (Array.getElem?_eq_some_iff.1 hv).1
    omega

/-- What is loaded. -/
theorem Ok.load {w0 w : World} {e : Env} {σ : St} (h : Ok w0 e σ w) {b o n : Nat} {cs : List Cell} {q : Nat × Nat} (hl : loadA σ b o n = some cs) (hq : e.blk[b]? = some q) :
    ∃ vs : List Value, cs.map (cv e) = vs.map some ∧ vs.length = n ∧ (∀ (j : Nat) v, vs[j]? = some v → w.cell? ⟨q.1, q.2 + o + j, none⟩ = some v) ∧ ∀ v ∈ vs, v.oneCell' = true := by
  unfold loadA at hl
  split at hl
  · rename_i x hx
    split at hl
    · rename_i hle
      simp at hl; subst hl
      obtain ⟨q', hq', hok⟩ := h.at_ hx
      rw [hq] at hq'; simp at hq'; subst hq'
      obtain ⟨h1, cur, fz, h2, h3, h5, h6, _⟩ := hok
      have key : ∀ j, j < n → ∃ v, cv e (x.cells.getD (o + j) (.inl undef)) = some v ∧ cur[q.2 + (o + j)]? = some v := by
        intro j hj
        have hlt : o + j < x.cells.length := by omega
        have := h3 (o + j) x.cells[o + j] (List.getElem?_eq_getElem hlt)
        simpa [List.getD, hlt] using this
      refine ⟨(List.range n).map fun j => cur.getD (q.2 + (o + j)) undef, ?_, by simp, ?_, ?_⟩
      · apply List.ext_getElem (by simp; omega)
        intro i g1 g2
        simp at g1 g2
        obtain ⟨v, k1, k2⟩ := key i (by omega)
        have hlt : o + i < x.cells.length := by omega
        simp only [List.getElem_map, List.getElem_take, List.getElem_drop, List.getElem_range]
        rw [Array.getD_eq_getD_getElem?, k2]
        simpa [List.getD, hlt] using k1
      · intro j v hj
        obtain ⟨hlt, rfl⟩ := List.getElem?_eq_some_iff.1 hj
        simp at hlt
        obtain ⟨v, k1, k2⟩ := key j hlt
        simp only [List.getElem_map, List.getElem_range]
        rw [Array.getD_eq_getD_getElem?, k2]
        simp [World.cell?, h2, Nat.add_assoc, k2]
      · intro v hv
        obtain ⟨j, hj, rfl⟩ := List.mem_map.1 hv
        simp at hj
        obtain ⟨v, k1, k2⟩ := key j hj
        rw [Array.getD_eq_getD_getElem?, k2]
        exact h6 v (Array.mem_of_getElem? k2)
    · cases hl
  · cases hl

theorem splice_get (l : List Cell) (o : Nat) (cs : List Cell) (ho : o ≤ l.length) (j : Nat) : (splice l o cs)[j]? = if j < o then l[j]? else if j < o + cs.length then cs[j - o]? else l[j]? := by
  unfold splice
  rw [List.append_assoc]
  by_cases h1 : j < o
  · rw [if_pos h1, List.getElem?_append_left (by rw [List.length_take]; omega), List.getElem?_take, if_pos h1]
  · rw [if_neg h1, List.getElem?_append_right (by rw [List.length_take]; omega), List.length_take, Nat.min_eq_left ho]
    by_cases h2 : j < o + cs.length
    · rw [if_pos h2, List.getElem?_append_left (by omega)]
    · rw [if_neg h2, List.getElem?_append_right (by omega), List.getElem?_drop]
      congr 1; omega

theorem run_storeCells_fz (P : Program) (g o : Nat) (t : TypeId) (fz : Nat × Nat) : ∀ (vs : List Value) (i : Nat) (cur : Array Value) (w : World), w.heap[g]? = some (.cells cur t fz) → (fz = (0, 0) ∨ cur.size ≤ fz.1) → o + i + vs.length ≤ cur.size → (∀ v ∈ vs, v.oneCell' = true) →
    (storeCells ⟨g, o, none⟩ vs i).run P w = .ok () (w.setRow g (cur.toList.take (o + i) ++ vs ++ cur.toList.drop (o + i + vs.length)).toArray)
  | [], i, cur, w, hg, _, _, _ => by
    simp only [storeCells, List.append_nil, List.length_nil, Nat.add_zero, List.take_append_drop, Array.toArray_toList]
    rw [setRow_self w g cur t fz hg]
    rfl
  | v :: rest, i, cur, w, hg, hz, hl, h1 => by
    have hi : o + i < cur.size := by simp at hl; omega
    have hadd : (⟨g, o, none⟩ : Addr).add i = ⟨g, o + i, none⟩ := by unfold Addr.add; split <;> simp_all
    have hcell : w.cell? ⟨g, o + i, none⟩ = some cur[o + i] := by simp [World.cell?, hg, hi]
    have hfro : w.frozen? ⟨g, o + i, none⟩ = false := by
      rcases hz with rfl | hz
      · simp [World.frozen?, hg]
      · simp [World.frozen?, hg]; omega
    have hst : (Go.store ((⟨g, o, none⟩ : Addr).add i) v).run P w = .ok () (w.setRow g (cur.setIfInBounds (o + i) v)) := by
      rw [hadd, run_store P w _ v _ (h1 v (by simp)), hcell]
      simp [hfro, setCell_eq_setRow w g (o + i) cur t fz v hg]
    have ih := run_storeCells_fz P g o t fz rest (i + 1) (cur.setIfInBounds (o + i) v) (w.setRow g (cur.setIfInBounds (o + i) v)) (setRow_heap w g cur _ t _ hg) (by simpa using hz) (by simp at hl ⊢; omega) (fun x hx => h1 x (by simp [hx]))
    simp only [storeCells, Sem.run_bind, hst, Result.andThen_ok, ih, setRow_setRow]
    congr 3
    have := list_seg_step cur.toList (o + i) v rest (by simp at hl ⊢; omega)
    simpa [Nat.add_assoc, Nat.add_comm, Nat.add_left_comm] using this

/-- What is written. -/
theorem Ok.write {P : Program} {w0 w : World} {e : Env} {σ : St} (h : Ok w0 e σ w) {b o : Nat} {x : Blk} {q : Nat × Nat} {cs : List Cell} {vs : List Value} (hb : getBlk σ b = some x) (hq : e.blk[b]? = some q)
    (ho : o ≤ x.cells.length) (hfit : ∀ (cur : Array Value) fz, w.heap[q.1]? = some (.cells cur x.elem fz) → q.2 + o + cs.length ≤ cur.size) (hv : cs.map (cv e) = vs.map some) (h1 : ∀ v ∈ vs, v.oneCell' = true) :
    ∃ w', (storeCells ⟨q.1, q.2 + o, none⟩ vs).run P w = .ok () w' ∧ Ok w0 e (putBlk σ b (some ⟨x.elem, splice x.cells o cs, x.j, x.c, x.z⟩)) w' ∧ Only (fun k => k = q.1) w w' ∧ w'.heap.size = w.heap.size := by
  have hlen : cs.length = vs.length := by have := congrArg List.length hv; simpa using this
  have hbl := getBlk_some hb
  obtain ⟨g1, cur, fz, g2, g3, ⟨n, g4, g5⟩, g6, g7, g8⟩ := h.blk b x q hbl hq
  have hf := hfit cur fz g2
  have hst := run_storeCells_fz P q.1 (q.2 + o) x.elem fz vs 0 cur w g2 g8 (by omega) h1
  simp only [Nat.add_zero] at hst
  have honly : Only (fun k => k = q.1) w (w.setRow q.1 (cur.toList.take (q.2 + o) ++ vs ++ cur.toList.drop (q.2 + o + vs.length)).toArray) :=
    ⟨rfl, rfl, rfl, by simp [World.setRow], fun k _ hk => setRow_other w q.1 k _ hk⟩
  refine ⟨_, hst, h.put hbl hq honly ⟨g1, _, fz, setRow_heap w q.1 cur _ x.elem _ g2, ?_, ⟨n, g4, ?_⟩, ?_, g7, ?_⟩, honly, by simp [World.setRow]⟩
  · intro j c hc
    dsimp only at hc
    rw [splice_get _ _ _ ho] at hc
    have hcl : cur.toList.length = cur.size := Array.length_toList
    have hget : ∀ j, (cur.toList.take (q.2 + o) ++ vs ++ cur.toList.drop (q.2 + o + vs.length))[q.2 + j]? = if j < o then cur[q.2 + j]? else if j < o + vs.length then vs[j - o]? else cur[q.2 + j]? := by
      intro j
      rw [List.append_assoc]
      by_cases k1 : j < o
      · rw [if_pos k1, List.getElem?_append_left (by rw [List.length_take]; omega), List.getElem?_take, if_pos (by omega), Array.getElem?_toList]
      · rw [if_neg k1, List.getElem?_append_right (by rw [List.length_take]; omega), List.length_take, Nat.min_eq_left (by omega)]
        by_cases k2 : j < o + vs.length
        · rw [if_pos k2, List.getElem?_append_left (by omega)]; congr 1; omega
        · rw [if_neg k2, List.getElem?_append_right (by omega), List.getElem?_drop, Array.getElem?_toList]; congr 1; omega
    rw [List.getElem?_toArray, hget]
    by_cases k1 : j < o
    · rw [if_pos k1] at hc ⊢; exact g3 j c hc
    · rw [if_neg k1] at hc ⊢
      by_cases k2 : j < o + cs.length
      · rw [if_pos k2] at hc; rw [if_pos (by omega)]
        have h5 : (cs.map (cv e))[j - o]? = (vs.map some)[j - o]? := by rw [hv]
        rw [List.getElem?_map, List.getElem?_map, hc] at h5
        cases hvs : vs[j - o]? with
        | none => rw [hvs] at h5; simp at h5
        | some u => rw [hvs] at h5; exact ⟨u, by simpa using h5, rfl⟩
      · rw [if_neg k2] at hc; rw [if_neg (by omega)]; exact g3 j c hc
  · change q.2 + n * bu x ≤ _
    simp only [List.size_toArray, List.length_append, List.length_take, List.length_drop, Array.length_toList]; omega
  · intro v hv
    simp only [List.mem_toArray, List.mem_append] at hv
    rcases hv with (hv | hv) | hv
    · exact g6 v (by simpa using List.mem_of_mem_take hv)
    · exact h1 v hv
    · exact g6 v (by simpa using List.mem_of_mem_drop hv)
  · rcases g8 with g8 | g8
    · exact .inl g8
    · right; simp only [List.size_toArray, List.length_append, List.length_take, List.length_drop, Array.length_toList]; omega

theorem Ok.store {P : Program} {w0 w : World} {e : Env} {σ σ' : St} (h : Ok w0 e σ w) {b o : Nat} {q : Nat × Nat} {cs : List Cell} {vs : List Value} (hs : storeA σ b o cs = some σ') (hq : e.blk[b]? = some q)
    (hv : cs.map (cv e) = vs.map some) (h1 : ∀ v ∈ vs, v.oneCell' = true) : ∃ w', (storeCells ⟨q.1, q.2 + o, none⟩ vs).run P w = .ok () w' ∧ Ok w0 e σ' w' ∧ w'.heap.size = w.heap.size := by
  unfold storeA at hs
  split at hs
  · rename_i x hx
    split at hs
    · rename_i hle
      simp at hs; subst hs
      have hok := h.blk b x q (getBlk_some hx) hq
      obtain ⟨w', a, b, c, d⟩ := h.write (P := P) (o := o) hx hq (by omega) (fun cur fz hc => by have := hok.size hc hle; omega) hv h1
      exact ⟨w', a, b, d⟩
    · cases hs
  · cases hs

/-- A new block. -/
theorem Ok.new {w0 w : World} {e : Env} {σ : St} (h : Ok w0 e σ w) (elem : TypeId) {cs : List Cell} {vs : List Value} (hv : cs.map (cv e) = vs.map some) (h1 : ∀ v ∈ vs, v.oneCell' = true) :
    e.le ⟨e.blk ++ [(w.heap.size, 0)], e.int, e.opq, e.arr, e.S, e.junk, e.Z⟩ ∧ Ok w0 ⟨e.blk ++ [(w.heap.size, 0)], e.int, e.opq, e.arr, e.S, e.junk, e.Z⟩ (newA σ elem cs).2 (w.alloc (.cells vs.toArray elem)) := by
  have hle : e.le ⟨e.blk ++ [(w.heap.size, 0)], e.int, e.opq, e.arr, e.S, e.junk, e.Z⟩ := ⟨⟨_, rfl⟩, List.prefix_rfl, List.prefix_rfl, List.prefix_rfl, rfl, List.prefix_rfl, rfl⟩
  have hlen : cs.length = vs.length := by have := congrArg List.length hv; simpa using this
  refine ⟨hle, ?_⟩
  have hw := h.world ((Only.refl (fun _ => False) w).alloc (.cells vs.toArray elem))
  refine hw.add (q := (w.heap.size, 0)) (x := ⟨elem, cs, none, cs.length, false⟩) ⟨.inl h.only.size, vs.toArray, (0, 0), heap_alloc_new w _, ?_, ⟨cs.length, rfl, by simp [hlen, bu]⟩, ?_, fun _ => rfl, .inl rfl⟩ ?_ ?_ (fun hP => by have := (h.froz.at_ hP).1; dsimp only at this; omega)
  · intro j c hc
    dsimp only at hc
    have h5 : (cs.map (cv e))[j]? = (vs.map some)[j]? := by rw [hv]
    rw [List.getElem?_map, List.getElem?_map, hc] at h5
    cases hvs : vs[j]? with
    | none => rw [hvs] at h5; simp at h5
    | some u => rw [hvs] at h5; exact ⟨u, cv_mono hle c u (by simpa using h5), by simpa using hvs⟩
  · intro v hv; exact h1 v (by simpa using hv)
  · intro b y q' k1 k2
    have := (h.blk b y q' k1 k2).lt
    dsimp only; omega
  · intro a y q' k1 k2
    have := (h.arrs.ok a y _ k1 k2).lt
    dsimp only; omega

theorem newA_ptr (e : Env) (σ : St) (elem : TypeId) (cs : List Cell) (g : Nat) (hb : e.blk.length = σ.heap.length) : av ⟨e.blk ++ [(g, 0)], e.int, e.opq, e.arr, e.S, e.junk, e.Z⟩ (ptr (newA σ elem cs).1 0) = some (.pointer (some ⟨g, 0, none⟩)) := by
  simp [av, v1, cv, ptr, cell, newA, ptrV, ← hb]
theorem newA_sl (e : Env) (σ : St) (elem : TypeId) (cs : List Cell) (g n c : Nat) (hb : e.blk.length = σ.heap.length) (hn : n ≤ c) : av ⟨e.blk ++ [(g, 0)], e.int, e.opq, e.arr, e.S, e.junk, e.Z⟩ (sl ⟨(newA σ elem cs).1, 0, n, none, c⟩) = some (.slice (some ⟨g, 0, none⟩) n c) := by
  simp [av, v1, cv, sl, cell, newA, capv, ← hb, hn]
end Reck
