/- BitsReads: plain facts on what is read, and one round of the law. -/
import Derived.Test.YtpdihllpcnnfdaaTake
import Derived.Deep.SlicePairs
set_option linter.unusedSimpArgs false
set_option linter.unusedVariables false
namespace Go.Proofs.Ytpdihllpcnnfdaa
open Go.RowKit Ost

theorem bitOf_cons (c : Nat) (cs : List Nat) (i : Nat) : bitOf (c :: cs) i = if i < 8 then c.testBit (7 - i) else bitOf cs (i - 8) := by
  unfold bitOf
  by_cases h : i < 8
  · rw [if_pos h, show i / 8 = 0 by omega, show i % 8 = i by omega]; rfl
  · rw [if_neg h, show i / 8 = (i - 8) / 8 + 1 by omega, show i % 8 = (i - 8) % 8 by omega]; rfl

theorem nums8_bit (bs : List Nat) : ∀ i, (nums 8 bs).getD i false = bitOf bs i := by
  induction bs with
  | nil => intro i; simp [nums, bitOf]
  | cons c cs ih =>
    intro i
    have e : nums 8 (c :: cs) = num 8 c ++ nums 8 cs := by simp [nums]
    rw [e, bitOf_cons]
    by_cases h : i < 8
    · rw [if_pos h, List.getD_eq_getElem?_getD, List.getElem?_append_left (by rw [num_length]; exact h), ← List.getD_eq_getElem?_getD, getD_num, if_pos h]
    · rw [if_neg h, List.getD_eq_getElem?_getD, List.getElem?_append_right (by rw [num_length]; omega), ← List.getD_eq_getElem?_getD, num_length, ih]

theorem span_nums (bs : List Nat) (a n : Nat) (h : a + n ≤ 8 * bs.length) : ((nums 8 bs).drop a).take n = span bs a n := by
  apply List.ext_getElem (by rw [span_length, List.length_take, List.length_drop, nums_length]; omega)
  intro i h1 h2
  rw [span_length] at h2
  simp only [span, List.getElem_map, List.getElem_range, List.getElem_take, List.getElem_drop]
  have := nums8_bit bs (a + i)
  rw [List.getD_eq_getElem?_getD, List.getElem?_eq_getElem (by rw [nums_length]; omega)] at this
  exact this

theorem cut_packs (bs : List Nat) (a n : Nat) : Packs (cut bs a n) (span bs a (8 * n)) := by
  refine packs_mk (cut_lt bs a n) (by rw [cut_length, span_length]; omega) ?_
  intro i hi
  rw [cut_length] at hi
  unfold bitOf
  have e : (cut bs a n).getD (i / 8) 0 = val (span bs (a + 8 * (i / 8)) 8) := by simp [cut, List.getD, show i / 8 < n by omega]
  have h1 := val_testBit (span bs (a + 8 * (i / 8)) 8) 8 (by rw [span_length]; omega) (i % 8) (by omega)
  rw [List.take_of_length_le (by rw [span_length]; omega)] at h1
  rw [e, show 7 - i % 8 = 8 - 1 - i % 8 by omega, h1]
  simp only [span, List.getD_eq_getElem?_getD, List.getElem?_map, List.getElem?_range (show i % 8 < 8 by omega), List.getElem?_range (show i < 8 * n by omega), Option.map_some]
  rw [show a + 8 * (i / 8) + i % 8 = a + i by omega]

theorem packs_nil {cs : List Nat} (h : Packs cs []) : cs = [] := List.eq_nil_of_length_eq_zero (by rw [h.2.1]; simp)

/-- A slice of questions that came in. -/
def Asks (w : World) (A : Option Addr) (len cap : Nat) (zs : List (Int × Int)) : Prop :=
  zs.length = len ∧ len ≤ cap ∧ cap ≤ maxLen ∧ (A = none → cap = 0) ∧ (zs = [] ∨ ∃ b o, A = some ⟨b, o, none⟩ ∧ ∀ j p, zs[j]? = some p → w.cell? ⟨b, o + j * 2, none⟩ = some (.int .i64 p.1) ∧ w.cell? ⟨b, o + (j * 2 + 1), none⟩ = some (.int .i64 p.2)) ∧
    ∀ p ∈ zs, (Lit.int .i64 p.1).wf = true ∧ (Lit.int .i64 p.2).wf = true

theorem plain_addr {w : World} {x : Addr} {v : Value} (h : w.cell? x = some v) : ∃ b o, x = ⟨b, o, none⟩ := by
  obtain ⟨b, o, s⟩ := x
  have hs : s = none := by
    unfold World.cell? at h
    split at h
    · split at h
      · cases h
      · rename_i hh; simpa using hh
    · cases h
  subst hs
  exact ⟨b, o, rfl⟩

theorem asks_open {H : Type} {enc : TypeId × Value → H} {W : World} {A : Option Addr} {len cap : Nat} {d : DataW H} {p : List MemPlace} (h : DataW.Trod enc Try.prog W 0 (fun _ => true) true 38 (.slice A len cap) d p) : ∃ zs, Asks W A len cap zs := by
  obtain ⟨fuel, hf⟩ := h
  rcases Go.Deep.open_slice_pairs Try.underlying38 Try.underlying46 (by kernel_rfl) rfl rfl (by kernel_rfl) (by kernel_rfl) hf with ⟨hcs, _⟩ | ⟨x, l, c, m, n, V0, V1, D0, D1, P0, P1, hcs, _, hl, hm, hmm, _, hx⟩
  · simp [Value.cells] at hcs
    obtain ⟨rfl, rfl, rfl⟩ := hcs
    exact ⟨[], rfl, Nat.le_refl _, by unfold maxLen; omega, fun _ => rfl, .inl rfl, by simp⟩
  · simp [Value.cells] at hcs
    obtain ⟨rfl, rfl, rfl⟩ := hcs
    have hmc : len ≤ m := by rw [hmm]; simp; exact hl
    have key : ∀ i, i < len → ∃ q : Int × Int, W.cell? (x.add (i * 2)) = some (.int .i64 q.1) ∧ W.cell? (x.add (i * 2 + 1)) = some (.int .i64 q.2) ∧ (Lit.int .i64 q.1).wf = true ∧ (Lit.int .i64 q.2).wf = true := by
      intro i hi
      obtain ⟨h1, h2, h3, h4⟩ := hx i (by omega)
      obtain ⟨a, e0, _, wa⟩ := DataW.trod_int Try.underlying3 h3
      obtain ⟨b, e1, _, wb⟩ := DataW.trod_int Try.underlying3 h4
      simp at e0 e1
      rw [e0] at h1
      rw [e1] at h2
      exact ⟨(a, b), h1, h2, wa, wb⟩
    obtain ⟨f, hf⟩ : ∃ f : Nat → Int × Int, ∀ i, i < len → W.cell? (x.add (i * 2)) = some (.int .i64 (f i).1) ∧ W.cell? (x.add (i * 2 + 1)) = some (.int .i64 (f i).2) ∧ (Lit.int .i64 (f i).1).wf = true ∧ (Lit.int .i64 (f i).2).wf = true := by
      refine ⟨fun i => if hi : i < len then Classical.choose (key i hi) else (0, 0), fun i hi => ?_⟩
      simp only [hi, dite_true]
      exact Classical.choose_spec (key i hi)
    refine ⟨(List.range len).map f, by simp, hl, hm, (fun h => by cases h), ?_, ?_⟩
    · by_cases h0 : len = 0
      · left; simp [h0]
      · right
        have hq := (hf 0 (by omega)).1
        have e0 : x.add (0 * 2) = x := by unfold Addr.add; simp
        rw [e0] at hq
        obtain ⟨b, o, rfl⟩ := plain_addr hq
        refine ⟨b, o, rfl, fun j p hp => ?_⟩
        rw [List.getElem?_map] at hp
        obtain ⟨i, hi, rfl⟩ := Option.map_eq_some_iff.1 hp
        obtain ⟨hj, rfl⟩ := List.getElem?_eq_some_iff.1 hi
        simp at hj
        simp only [List.getElem_range]
        have hs := hf j hj
        rw [Addr.add_lit, Addr.add_lit] at hs
        exact ⟨hs.1, hs.2.1⟩
    · intro p hp
      obtain ⟨i, hi, rfl⟩ := List.mem_map.1 hp
      exact (hf i (by simpa using hi)).2.2

theorem Asks.at_ {w wr : World} {A : Option Addr} {len cap : Nat} {zs : List (Int × Int)} (h : Asks w A len cap zs) (ho : Only (fun _ => False) w wr) {j : Nat} (hj : j < len) :
    ∃ b o k n, A = some ⟨b, o, none⟩ ∧ b < w.heap.size ∧ wr.cell? ⟨b, o + j * 2, none⟩ = some (.int .i64 k) ∧ wr.cell? ⟨b, o + (j * 2 + 1), none⟩ = some (.int .i64 n) ∧ -9223372036854775808 ≤ n ∧ n ≤ 9223372036854775807 := by
  obtain ⟨h1, h2, h3, h4, h5, h6⟩ := h
  rcases h5 with h5 | ⟨b, o, rfl, h5⟩
  · subst h5; simp at h1; omega
  · have hjl : j < zs.length := by omega
    obtain ⟨c1, c2⟩ := h5 j zs[j] (List.getElem?_eq_getElem hjl)
    have hb := World.block_lt_of_cell? w _ c1
    have hwf := bounds_i64 (h6 zs[j] (List.getElem_mem hjl)).2
    exact ⟨b, o, zs[j].1, zs[j].2, rfl, hb, (ho.cell (p := ⟨b, o + j * 2, none⟩) hb (fun e => e)).trans c1, (ho.cell (p := ⟨b, o + (j * 2 + 1), none⟩) hb (fun e => e)).trans c2, hwf.1, hwf.2⟩
end Go.Proofs.Ytpdihllpcnnfdaa
