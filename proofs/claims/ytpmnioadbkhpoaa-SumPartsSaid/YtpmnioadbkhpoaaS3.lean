/- Layer 3: the Internet's sum, as a number; the document's own function comes to it. No condition. -/
import Derived.Test.YtpmnioadbkhpoaaS2
set_option linter.unusedVariables false
set_option linter.unusedSimpArgs false
namespace Go.Proofs.Ytpmnioadbkhpoaa
open Go Reck

theorem fold_snoc (p : Bool × Int) (l : List Int) (c : Int) : fold p (l ++ [c]) = (!(fold p l).1, (fold p l).2 + (if (fold p l).1 then c * 256 else c)) := by
  unfold fold; rw [List.foldl_append]; rfl
theorem fold_append (p : Bool × Int) (l m : List Int) : fold p (l ++ m) = fold (fold p l) m := by simp [fold]
theorem fold_par (b : Bool) (s : Int) (l : List Int) : (fold (b, s) l).1 = if l.length % 2 = 0 then b else !b := by
  induction l generalizing b s with
  | nil => rfl
  | cons c l ih =>
    show (fold (!b, s + (if b then c * 256 else c)) l).1 = _
    rw [ih, List.length_cons]
    by_cases h : l.length % 2 = 0
    · rw [if_pos h, if_neg (by omega)]
    · rw [if_neg h, if_pos (by omega)]; simp
def byteL (l : List Int) : Prop := ∀ x ∈ l, 0 ≤ x ∧ x ≤ 255
theorem fold_bnd (b : Bool) (s : Int) (l : List Int) (h : byteL l) : s ≤ (fold (b, s) l).2 ∧ (fold (b, s) l).2 ≤ s + 65280 * l.length := by
  induction l generalizing b s with
  | nil => simp [fold]
  | cons c l ih =>
    have h1 := ih (!b) (s + (if b then c * 256 else c)) (fun x hx => h x (List.mem_cons_of_mem _ hx))
    have h2 := h c (List.mem_cons_self ..)
    have e : fold (b, s) (c :: l) = fold (!b, s + (if b then c * 256 else c)) l := rfl
    rw [e, List.length_cons]
    have h3 : 0 ≤ (if b then c * 256 else c) ∧ (if b then c * 256 else c) ≤ 65280 := by split <;> omega
    constructor
    · omega
    · have := h1.2; push_cast; omega
theorem take_get {l : List Int} {k : Nat} (h : k < l.length) : l.take (k + 1) = l.take k ++ [l.getD k 0] := by
  rw [List.take_succ_eq_append_getElem h]; simp [List.getD, h]
theorem sub_get (L : List Int) (o n k : Nat) (hl : o + n ≤ L.length) (h : k < n) : ((L.drop o).take n).getD k 0 = L.getD (o + k) 0 := by
  simp [List.getD, List.getElem?_take, h, List.getElem?_drop]
theorem sub_len (L : List Int) (o n : Nat) (hl : o + n ≤ L.length) : ((L.drop o).take n).length = n := by simp; omega
theorem byteL_sub {L : List Int} (h : byteL L) (o n : Nat) : byteL ((L.drop o).take n) := fun x hx => h x (List.mem_of_mem_drop (List.mem_of_mem_take hx))
theorem byteL_take {L : List Int} (h : byteL L) (n : Nat) : byteL (L.take n) := fun x hx => h x (List.mem_of_mem_take hx)
theorem byteL_get {L : List Int} (h : byteL L) (k : Nat) : 0 ≤ L.getD k 0 ∧ L.getD k 0 ≤ 255 := by
  rw [List.getD_eq_getElem?_getD]
  cases hk : L[k]? with
  | none => simp
  | some x => exact h x (List.mem_of_getElem? hk)

theorem wrap_in {k : IntKind} {n : Int} (h : k.min ≤ n ∧ n ≤ k.max) : k.wrap n = n := by
  obtain ⟨h1, h2⟩ := h
  cases k <;> simp only [IntKind.wrap, IntKind.min, IntKind.max, IntKind.signed, IntKind.bits] at * <;> simp at * <;> omega

theorem w64 {n z : Int} (h : z = IntKind.wrap IntKind.i64 n) (hb : -9223372036854775808 ≤ n ∧ n ≤ 9223372036854775807) : z = n := by
  rw [h]; exact wrap_in (k := .i64) (by simp [IntKind.min, IntKind.max, IntKind.signed, IntKind.bits]; omega)
theorem wu64 {n z : Int} (h : z = IntKind.wrap IntKind.u64 n) (hb : 0 ≤ n ∧ n ≤ 18446744073709551615) : z = n := by
  rw [h]; exact wrap_in (k := .u64) (by simp [IntKind.min, IntKind.max, IntKind.signed, IntKind.bits]; omega)
theorem wu16 {n z : Int} (h : z = IntKind.wrap IntKind.u16 n) (hb : 0 ≤ n ∧ n ≤ 65535) : z = n := by
  rw [h]; exact wrap_in (k := .u16) (by simp [IntKind.min, IntKind.max, IntKind.signed, IntKind.bits]; omega)

/-- The Internet's sum. -/
def netS (S : Int) : Int := 65535 - (if S = 0 then 0 else if S % 65535 = 0 then 65535 else S % 65535)

theorem refNet_run (K : AV → St → Prop) (L : List Int) (o n c cap : Nat) (ro : Bool) (hb : byteL L) (hl : o + n ≤ L.length) (hn : n ≤ 300)
    (h : K (xi .u16 (netS (fold (true, 0) ((L.drop o).take n)).2)) (ar [bs L cap ro])) : run0 11 [cell (aslC ⟨0, o, n, c⟩)] (ar [bs L cap ro]) K := by
  rw [refNet_vc]
  have hlen := sub_len L o n hl
  have hB := byteL_sub hb o n
  have hget := sub_get L o n
  generalize hP : (L.drop o).take n = P at *
  have hpar : ∀ j, 2 * j ≤ n → (fold (true, 0) (P.take (2 * j))).1 = true := by
    intro j hj
    rw [fold_par, List.length_take, Nat.min_eq_left (by omega), if_pos (by omega)]
  have hbn : ∀ j, 0 ≤ (fold (true, 0) (P.take j)).2 ∧ (fold (true, 0) (P.take j)).2 ≤ 65280 * 300 := by
    intro j
    have h1 := fold_bnd true 0 (P.take j) (byteL_take hB j)
    have h2 : (P.take j).length ≤ 300 := by rw [List.length_take]; omega
    omega
  have one : ∀ j : Nat, 2 * j + 1 ≤ n → (fold (true, 0) (P.take (2 * j + 1))).2 = (fold (true, 0) (P.take (2 * j))).2 + L.getD (o + 2 * j) 0 * 256 := by
    intro j hj
    rw [take_get (by omega), fold_snoc, hpar j (by omega), hget _ hl (by omega)]; simp
  have two : ∀ j : Nat, 2 * j + 2 ≤ n → (fold (true, 0) (P.take (2 * (j + 1)))).2 = (fold (true, 0) (P.take (2 * j))).2 + (L.getD (o + 2 * j) 0 * 256 + L.getD (o + (2 * j + 1)) 0) := by
    intro j hj
    have := one j (by omega)
    rw [show 2 * (j + 1) = 2 * j + 1 + 1 by omega, take_get (by omega), fold_snoc, this, fold_par, List.length_take, Nat.min_eq_left (by omega), if_neg (by omega), hget _ hl (by omega)]
    simp; omega
  have last : ∀ j : Nat, 2 * j + 1 = n → P.take (2 * (j + 1)) = P.take (2 * j + 1) := by
    intro j hj
    rw [List.take_of_length_le (by omega), List.take_of_length_le (by omega)]
  -- a round
  have round : ∀ (t : Nat) (x : Int × Int), U.refI L o n t x.1 x.2 → x.1 < n → ∃ j : Nat, x.1 = 2 * j ∧ 2 * j < n ∧ 0 ≤ x.2 ∧ x.2 < 65535 ∧ x.2 = (fold (true, 0) (P.take (2 * j))).2 % 65535 ∧ (t = 1 ↔ 0 < (fold (true, 0) (P.take (2 * j))).2) := by
    rintro t ⟨i, s⟩ ⟨j, h1, h2, h3, h4⟩ hlt
    rw [hP] at h3 h4
    dsimp only at *
    exact ⟨j, h1, by omega, by omega, by omega, h3, h4⟩
  have fin : ∀ (t : Nat) (x : Int × Int), U.refI L o n t x.1 x.2 → ¬ x.1 < n → 0 ≤ x.2 ∧ x.2 < 65535 ∧ x.2 = (fold (true, 0) P).2 % 65535 ∧ (t = 1 ↔ 0 < (fold (true, 0) P).2) ∧ 0 ≤ (fold (true, 0) P).2 := by
    rintro t ⟨i, s⟩ ⟨j, h1, h2, h3, h4⟩ hge
    rw [hP] at h3 h4
    dsimp only at *
    rw [List.take_of_length_le (by omega)] at h3 h4
    have := hbn 300
    rw [List.take_of_length_le (by omega)] at this
    exact ⟨by omega, by omega, h3, h4, by omega⟩
  have next : ∀ (t : Nat) (j : Nat) (d S : Int), 2 * j < n → (fold (true, 0) (P.take (2 * (j + 1)))).2 = S + d → 0 ≤ S → 0 ≤ d → S = (fold (true, 0) (P.take (2 * j))).2 → (t = 1 ↔ 0 < S + d) → U.refI L o n t (2 * j + 2) ((S + d) % 65535) := by
    intro t j d S hj h1 h2 h3 h4 h5
    refine ⟨j + 1, by push_cast; omega, by omega, ?_, ?_⟩
    · rw [hP, h1]
    · rw [hP, h1]; exact h5
  have leaf : ∀ (s : Int) (z30 z31 : Int) (t : Nat), 0 ≤ s → s < 65535 → s = (fold (true, 0) P).2 % 65535 → (t = 1 ↔ 0 < (fold (true, 0) P).2) → 0 ≤ (fold (true, 0) P).2 → (z30 = 65535 - s ∧ (t = 1 → ¬ s = 0) ∨ z30 = 0 ∧ t = 1 ∧ s = 0) → z31 = IntKind.wrap IntKind.u16 z30 →
      K (xi .u16 z31) (ar [bs L cap ro]) := by
    intro s z30 z31 t h1 h2 h3 h4 h5 h6 h7
    have h8 : z31 = z30 := wu16 h7 (by omega)
    have h9 : z31 = netS (fold (true, 0) P).2 := by
      rw [h8]; unfold netS
      rcases h6 with ⟨h6, h6'⟩ | ⟨h6, h6'⟩
      · by_cases hS : (fold (true, 0) P).2 = 0
        · rw [if_pos hS]; omega
        · rw [if_neg hS, if_neg (by omega)]; omega
      · rw [if_neg (by omega), if_pos (by omega)]; omega
    rw [h9]; exact h
  refine ⟨⟨(0, 0), ⟨rfl, rfl, rfl⟩, rfl, rfl, ⟨rfl, rfl, rfl⟩, ⟨⟨0, rfl, by omega, by simp [fold], by simp [fold]⟩⟩⟩, ?_, ?_⟩
  · intro x hI z2 hz2
    subst hz2
    refine ⟨fun hlt => ?_, fun hge => ?_⟩
    · obtain ⟨j, h1, h2, h3, h4, h5, h6⟩ := round _ _ hI hlt
      refine ⟨⟨by omega, hlt⟩, fun j3 hj3 => ⟨by omega, ?_⟩⟩
      obtain rfl : j3 = o + 2 * j := by omega
      have b0 := byteL_get hb (o + 2 * j)
      have b1 := byteL_get hb (o + (2 * j + 1))
      have S0 := hbn (2 * j)
      intro z4 hz4 z5 hz5 z6 hz6 z7 hz7 z8 hz8
      rw [← hz4] at b0
      have e5 := w64 hz5 (by omega)
      have e6 := w64 hz6 (by omega)
      have e7 := w64 hz7 (by omega)
      refine ⟨fun hlt2 => ?_, fun hge2 => ?_⟩
      · intro z9 hz9
        have e9 := w64 hz9 (by omega)
        refine ⟨⟨by omega, by omega⟩, fun j10 hj10 => ⟨by omega, ?_⟩⟩
        obtain rfl : j10 = o + (2 * j + 1) := by omega
        intro z11 hz11 z12 hz12 z13 hz13
        rw [← hz11] at b1
        have e12 := w64 hz12 (by omega)
        have e13 := w64 hz13 (by omega)
        have hnx := two j (by omega)
        rw [← hz4, ← hz11] at hnx
        refine ⟨fun hp z14 hz14 => ⟨by decide, fun z15 hz15 z16 hz16 => ?_⟩, fun hp z14 hz14 => ⟨by decide, fun z15 hz15 z16 hz16 => ?_⟩⟩
        all_goals
          have e14 := w64 hz14 (by omega)
          have e16 := w64 hz16 (by omega)
          have e15 : z15 = ((fold (true, 0) (P.take (2 * j))).2 + (z4 * 256 + z11)) % 65535 := by rw [hz15, Int.tmod_eq_emod_of_nonneg (by omega)]; omega
          refine ⟨(_, _), ⟨rfl, rfl, rfl⟩, rfl, rfl, ⟨rfl, rfl, rfl⟩, ?_, ?_⟩
          · dsimp only
            rw [e15, e16, h1]
            first | exact next 1 j _ _ h2 hnx S0.1 (by omega) rfl (by omega) | exact next 0 j _ _ h2 hnx S0.1 (by omega) rfl (by omega)
          · dsimp only; omega
      · have hnx := last j (by omega)
        have hone := one j (by omega)
        rw [← hz4] at hone
        rw [← hnx] at hone
        refine ⟨fun hp z14 hz14 => ⟨by decide, fun z15 hz15 z16 hz16 => ?_⟩, fun hp z14 hz14 => ⟨by decide, fun z15 hz15 z16 hz16 => ?_⟩⟩
        all_goals
          have e14 := w64 hz14 (by omega)
          have e16 := w64 hz16 (by omega)
          have e15 : z15 = ((fold (true, 0) (P.take (2 * j))).2 + z4 * 256) % 65535 := by rw [hz15, Int.tmod_eq_emod_of_nonneg (by omega)]; omega
          refine ⟨(_, _), ⟨rfl, rfl, rfl⟩, rfl, rfl, ⟨rfl, rfl, rfl⟩, ?_, ?_⟩
          · dsimp only
            rw [e15, e16, h1]
            first | exact next 1 j _ _ h2 hone S0.1 (by omega) rfl (by omega) | exact next 0 j _ _ h2 hone S0.1 (by omega) rfl (by omega)
          · dsimp only; omega
    · obtain ⟨g1, g2, g3, g4, g5⟩ := fin _ _ hI hge
      refine ⟨fun h0 z30 hz30 z31 hz31 => leaf _ _ _ _ g1 g2 g3 g4 g5 (.inl ⟨w64 hz30 (by omega), by simp⟩) hz31, fun h0 z30 hz30 z31 hz31 => leaf _ _ _ _ g1 g2 g3 g4 g5 (.inl ⟨w64 hz30 (by omega), by simp⟩) hz31⟩
  · intro x hI z2 hz2
    subst hz2
    refine ⟨fun hlt => ?_, fun hge => ?_⟩
    · obtain ⟨j, h1, h2, h3, h4, h5, h6⟩ := round _ _ hI hlt
      refine ⟨⟨by omega, hlt⟩, fun j3 hj3 => ⟨by omega, ?_⟩⟩
      obtain rfl : j3 = o + 2 * j := by omega
      have b0 := byteL_get hb (o + 2 * j)
      have b1 := byteL_get hb (o + (2 * j + 1))
      have S0 := hbn (2 * j)
      intro z4 hz4 z5 hz5 z6 hz6 z7 hz7 z8 hz8
      rw [← hz4] at b0
      have e5 := w64 hz5 (by omega)
      have e6 := w64 hz6 (by omega)
      have e7 := w64 hz7 (by omega)
      refine ⟨fun hlt2 => ?_, fun hge2 => ?_⟩
      · intro z9 hz9
        have e9 := w64 hz9 (by omega)
        refine ⟨⟨by omega, by omega⟩, fun j10 hj10 => ⟨by omega, ?_⟩⟩
        obtain rfl : j10 = o + (2 * j + 1) := by omega
        intro z11 hz11 z12 hz12 z13 hz13
        rw [← hz11] at b1
        have e12 := w64 hz12 (by omega)
        have e13 := w64 hz13 (by omega)
        have hnx := two j (by omega)
        rw [← hz4, ← hz11] at hnx
        refine fun z14 hz14 => ⟨by decide, fun z15 hz15 z16 hz16 => ?_⟩
        have e14 := w64 hz14 (by omega)
        have e16 := w64 hz16 (by omega)
        have e15 : z15 = ((fold (true, 0) (P.take (2 * j))).2 + (z4 * 256 + z11)) % 65535 := by rw [hz15, Int.tmod_eq_emod_of_nonneg (by omega)]; omega
        refine ⟨(_, _), ⟨rfl, rfl, rfl⟩, rfl, rfl, ⟨rfl, rfl, rfl⟩, ?_, ?_⟩
        · dsimp only
          rw [e15, e16, h1]
          exact next 1 j _ _ h2 hnx S0.1 (by omega) rfl (by omega)
        · dsimp only; omega
      · have hnx := last j (by omega)
        have hone := one j (by omega)
        rw [← hz4] at hone
        rw [← hnx] at hone
        refine fun z14 hz14 => ⟨by decide, fun z15 hz15 z16 hz16 => ?_⟩
        have e14 := w64 hz14 (by omega)
        have e16 := w64 hz16 (by omega)
        have e15 : z15 = ((fold (true, 0) (P.take (2 * j))).2 + z4 * 256) % 65535 := by rw [hz15, Int.tmod_eq_emod_of_nonneg (by omega)]; omega
        refine ⟨(_, _), ⟨rfl, rfl, rfl⟩, rfl, rfl, ⟨rfl, rfl, rfl⟩, ?_, ?_⟩
        · dsimp only
          rw [e15, e16, h1]
          exact next 1 j _ _ h2 hone S0.1 (by omega) rfl (by omega)
        · dsimp only; omega
    · obtain ⟨g1, g2, g3, g4, g5⟩ := fin _ _ hI hge
      refine ⟨fun h0 => leaf (Prod.snd x) 0 _ 1 g1 g2 g3 (by omega) g5 (.inr ⟨rfl, rfl, h0⟩) (by decide), fun h0 z30 hz30 z31 hz31 => leaf _ _ _ 1 g1 g2 g3 g4 g5 (.inl ⟨w64 hz30 (by omega), fun _ => h0⟩) hz31⟩
end Go.Proofs.Ytpmnioadbkhpoaa
