/- What the methods of bits.In answer of one of the call's own, and where it stands behind each. -/
import Derived.Test.YtpdihllpcnnfdaaOut
set_option linter.unusedSimpArgs false
set_option linter.unusedVariables false
namespace Go.Proofs.Ytpdihllpcnnfdaa
open Go.RowKit Ost

/-- An In of the call's own: at block bi, over the bytes cs in the slice sv; it stands at bit a; what was wrong. -/
def IsIn (w : World) (base bi : Nat) (sv : Value) (cs : List Nat) (a : Nat) (e : Nat) : Prop :=
  base ≤ bi ∧ Has w bi 71 #[sv, .int .i64 (a : Nat), .int .i64 (e : Nat)] ∧ w.ownsRow base 5 1 sv cs.length (u8s cs) ∧ (∀ c ∈ cs, c < 256) ∧ a ≤ 8 * cs.length ∧ cs.length ≤ 140737488355328

theorem IsIn.drewN {w : World} {base bi : Nat} {sv : Value} {cs : List Nat} {a e : Nat} (h : IsIn w base bi sv cs a e) (n : Nat) : IsIn (w.drewN n) base bi sv cs a e := h

theorem IsIn.only {w w' : World} {base bi : Nat} {sv : Value} {cs : List Nat} {a e : Nat} {T : Nat → Prop} (h : IsIn w base bi sv cs a e) (ho : Only T w w') (h1 : ¬ T bi) (h2 : ∀ k, sv.ownBlock = some k → ¬ T k) : IsIn w' base bi sv cs a e :=
  ⟨h.1, h.2.1.only ho h1, own_only h.2.2.1 ho h2, h.2.2.2⟩

theorem IsIn.old {w w1 w2 : World} {base bi : Nat} {sv : Value} {cs : List Nat} {a e : Nat} {T : Nat → Prop} (h : Only T w w1) (ho : IsIn w1 base bi sv cs a e) (hb : w.heap.size ≤ base) (ht : Only (fun k => k = bi) w1 w2) : Only T w w2 :=
  h.trans ht fun i hi e => by have := ho.1; omega

theorem IsIn.blk {w : World} {base bi : Nat} {sv : Value} {cs : List Nat} {a e : Nat} (h : IsIn w base bi sv cs a e) : base ≤ bi ∧ bi < w.heap.size ∧ ∀ k, sv.ownBlock = some k → base ≤ k ∧ k < w.heap.size :=
  ⟨h.1, h.2.1.lt, fun k hk => h.2.2.1.lt k hk⟩

/-- Another place, another error. -/
theorem IsIn.setAt {w : World} {base bi : Nat} {sv : Value} {cs : List Nat} {a e : Nat} (h : IsIn w base bi sv cs a e) (b : Nat) (hb : b ≤ 8 * cs.length) : IsIn (w.setCell ⟨bi, 1, none⟩ (.int .i64 (b : Nat))) base bi sv cs b e :=
  ⟨h.1, by have := h.2.1.put 1 (.int .i64 (b : Nat)); simpa using this, ownsRow_setCell_other h.2.2.1 (a := ⟨bi, 1, none⟩) (own_ne h.2.2.1 h.2.1 (by decide)) _, h.2.2.2.1, hb, h.2.2.2.2.2⟩
theorem IsIn.setErr {w : World} {base bi : Nat} {sv : Value} {cs : List Nat} {a e : Nat} (h : IsIn w base bi sv cs a e) (b : Nat) : IsIn (w.setCell ⟨bi, 2, none⟩ (.int .i64 (b : Nat))) base bi sv cs a b :=
  ⟨h.1, by have := h.2.1.put 2 (.int .i64 (b : Nat)); simpa using this, ownsRow_setCell_other h.2.2.1 (a := ⟨bi, 2, none⟩) (own_ne h.2.2.1 h.2.1 (by decide)) _, h.2.2.2⟩

theorem of_any (A : Option Addr) (n c : Nat) (cs : List Nat) (w : World) (hs : Sees w A (u8s cs)) (hn : cs.length = n) (hA : A = none → c = 0) (hlen : n ≤ 140737488355328) (h256 : ∀ x ∈ cs, x < 256) :
    Calls Try.prog 16 #[.slice A n c] w fun e w' => ∃ bi sv, e = .returned (.pointer (some ⟨bi, 0, none⟩)) ∧ IsIn w' w.heap.size bi sv cs 0 0 ∧ Only (fun _ => False) w w' := by
  go_enter Try.func16, Try.ntmps16
  go_wp2_with (fail)
  refine (clone_any A n c cs w hs hn hA hlen).mono ?_
  rintro e w' ⟨A', c', rfl, hown, honly⟩
  go_wp2
  go_ret
  subst hn
  exact ⟨w'.heap.size, .slice A' cs.length c', rfl, ⟨honly.size, Has.new _ _ _, hown.alloc _, h256, Nat.zero_le _, hlen⟩, honly.alloc _⟩

theorem left_any (base bi : Nat) (sv : Value) (cs : List Nat) (a e : Nat) (w : World) (h : IsIn w base bi sv cs a e) :
    Calls Try.prog 26 #[.pointer (some ⟨bi, 0, none⟩)] w fun r w' => r = .returned (.int .i64 ((if e = 0 then 8 * cs.length - a else 0 : Nat) : Int)) ∧ ∃ d, w' = w.drewN d := by
  obtain ⟨hb, hh, hown, h256, ha, hlen⟩ := h
  obtain ⟨A, c, rfl, _, _, _⟩ := own_form hown
  have hc0 := hh.cell 0
  have hc1 := hh.cell 1
  have hc2 := hh.cell 2
  simp at hc0 hc1 hc2
  by_cases he : e = 0
  · subst he
    go_enter Try.func26, Try.ntmps26
    go_wp2
    go_quiet (fail)
    go_wp2
    go_ret
    exact ⟨ret_int (by omega), _, rfl⟩
  · have hz : ((e : Int) == 0) = false := by simp; omega
    have hz2 : ((e : Int) != 0) = true := by simp; omega
    go_enter Try.func26, Try.ntmps26
    go_wp2
    go_ret
    exact ⟨ret_int (by simp), 0, rfl⟩

theorem err_own (base bi : Nat) (sv : Value) (cs : List Nat) (a e : Nat) (w : World) (h : IsIn w base bi sv cs a e) :
    Calls Try.prog 24 #[.pointer (some ⟨bi, 0, none⟩)] w fun r w' => r = .returned (.int .i64 (e : Nat)) ∧ w = w' := by
  have hc2 := h.2.1.cell 2
  simp at hc2
  go_enter Try.func24, Try.ntmps24
  go_wp2
  go_ret
  exact ⟨rfl, rfl⟩

theorem at_own (base bi : Nat) (sv : Value) (cs : List Nat) (a e : Nat) (w : World) (h : IsIn w base bi sv cs a e) :
    Calls Try.prog 25 #[.pointer (some ⟨bi, 0, none⟩)] w fun r w' => r = .returned (.int .i64 (a : Nat)) ∧ w = w' := by
  have hc2 := h.2.1.cell 1
  simp at hc2
  go_enter Try.func25, Try.ntmps25
  go_wp2
  go_ret
  exact ⟨rfl, rfl⟩

/-- may says yes. -/
theorem may_yes (base bi n size : Nat) (sv : Value) (cs : List Nat) (a : Nat) (w : World) (h : IsIn w base bi sv cs a 0) (hs : size = 1 ∨ size = 8) (hn : n * size ≤ 8 * cs.length - a) :
    Calls Try.prog 34 #[.pointer (some ⟨bi, 0, none⟩), .int .i64 (n : Int), .int .i64 (size : Nat), .bool true] w fun r w' => r = .returned (.bool true) ∧ ∃ d, w' = w.drewN d := by
  have hc2 := h.2.1.cell 2
  simp at hc2
  have hlen := h.2.2.2.2.2
  obtain ⟨lf, HL⟩ : ∃ lf, Hid (lf = 8 * cs.length - a) := ⟨_, rfl⟩
  rw [← HL.out] at hn
  have hl2 : lf ≤ 1125899906842624 := by have := HL.out; omega
  have hnn : (n : Int) * size ≤ lf := by exact_mod_cast hn
  rcases hs with rfl | rfl
  all_goals
    have hnn : (n : Int) ≤ 1125899906842624 := by omega
    go_enter Try.func34, Try.ntmps34
    go_wp2_with (go_at_call 26; refine (left_any base bi sv cs a 0 _ h).mono ?_; rw [if_pos rfl, ← HL.out]; rintro r w' ⟨rfl, d, rfl⟩)
    go_ret
    exact ⟨rfl, d, rfl⟩

/-- What is wrong behind may. -/
def wrong (e : Nat) (good : Bool) (n : Int) (size left : Nat) : Nat :=
  if e ≠ 0 then e else if good = false then 1 else if (n : Int) * size > left then 7 else 0

theorem may_no (base bi size : Nat) (n : Int) (sv : Value) (cs : List Nat) (a e : Nat) (good : Bool) (w : World) (h : IsIn w base bi sv cs a e) (hs : size = 1 ∨ size = 8) (hw : wrong e good n size (8 * cs.length - a) ≠ 0) :
    Calls Try.prog 34 #[.pointer (some ⟨bi, 0, none⟩), .int .i64 n, .int .i64 (size : Nat), .bool good] w fun r w' => r = .returned (.bool false) ∧ IsIn w' base bi sv cs a (wrong e good n size (8 * cs.length - a)) ∧ Only (fun k => k = bi) w w' := by
  have hc2 := h.2.1.cell 2
  have hf2 := h.2.1.free 2
  simp at hc2
  have hlen := h.2.2.2.2.2
  by_cases he : e = 0
  · subst he
    cases good with
    | false =>
      have Hex : Hid (wrong 0 false n size (8 * cs.length - a) = 1) := by simp [wrong, Hid]
      have hx1 := h.setErr 1
      have h1 := hx1.2.1.cell 2
      simp at h1
      go_enter Try.func34, Try.ntmps34
      go_wp2
      go_ret
      rw [Hex.out]
      exact ⟨rfl, hx1, (Only.refl (fun k => k = bi) w).setCell (p := ⟨bi, 2, none⟩) (fun _ => rfl) _⟩
    | true =>
      have hgt : (n : Int) * size > ((8 * cs.length - a : Nat) : Int) := by
        unfold wrong at hw; simp at hw; omega
      have Hex : Hid (wrong 0 true n size (8 * cs.length - a) = 7) := by show _ = _; unfold wrong; rw [if_neg (by simp), if_neg (by simp), if_pos hgt]
      clear hw
      obtain ⟨lf, HL⟩ : ∃ lf, Hid (lf = 8 * cs.length - a) := ⟨_, rfl⟩
      rw [← HL.out] at hgt
      have hl2 : lf ≤ 1125899906842624 := by have := HL.out; omega
      rcases hs with rfl | rfl
      all_goals
        have hgt2 : (lf : Int) < n * 8 := by omega
        go_enter Try.func34, Try.ntmps34
        go_wp2_with (go_at_call 26; refine (left_any base bi sv cs a 0 _ h).mono ?_; rw [if_pos rfl, ← HL.out]; rintro r w' ⟨rfl, d, rfl⟩)
        go_ret
        rw [Hex.out]
        exact ⟨rfl, (h.drewN d).setErr 7, ((Only.refl (fun k => k = bi) w).drewN d).setCell (p := ⟨bi, 2, none⟩) (fun _ => rfl) _⟩
  · have hz : ((e : Int) == 0) = false := by simp; omega
    have hz2 : ((e : Int) != 0) = true := by simp; omega
    have Hex : Hid (wrong e good n size (8 * cs.length - a) = e) := by simp [wrong, he, Hid]
    go_enter Try.func34, Try.ntmps34
    go_wp2
    go_ret
    rw [Hex.out]
    exact ⟨rfl, h, Only.refl _ _⟩

set_option maxHeartbeats 400000 in
theorem inBits_yes (base bi n : Nat) (sv : Value) (cs : List Nat) (a : Nat) (w : World) (h : IsIn w base bi sv cs a 0) (hn1 : 1 ≤ n) (hn : n ≤ 64) (hle : a + n ≤ 8 * cs.length) :
    Calls Try.prog 17 #[.pointer (some ⟨bi, 0, none⟩), .int .i64 n] w fun r w' => r = .returned (.int .u64 (val (span cs a n) : Nat)) ∧ IsIn w' base bi sv cs (a + n) 0 ∧ Only (fun k => k = bi) w w' := by
  have hlen := h.2.2.2.2.2
  go_enter Try.func17, Try.ntmps17
  go_wp2_with (first | (go_at_call 35; refine (width_yes n _ (by omega) (by omega)).mono ?_; rintro e w' ⟨rfl, rfl⟩))
  refine (may_yes base bi n 1 _ cs a _ h (.inl rfl) (by omega)).mono ?_
  rintro e w1 ⟨rfl, d, hw1⟩
  have h1 : IsIn w1 base bi sv cs a 0 := hw1 ▸ h.drewN d
  have HO : Hid (Only (fun k => k = bi) w w1) := hw1 ▸ (Only.refl _ w).drewN d
  clear hw1
  have hc0 := h1.2.1.cell 0
  have hc1 := h1.2.1.cell 1
  have hf1 := h1.2.1.free 1
  have hown := h1.2.2.1
  have h256 := Ost.hid h1.2.2.2.1
  obtain ⟨A, c, rfl, hAb, _, _⟩ := own_form hown
  simp at hc0 hc1
  go_wp2_with (fail)
  go_quiet ((go_at_call 36; refine Calls.quiet_of (load_any A c a n cs _ hn hle (by omega) h256.out (Sees.of_own hown))))
  go_wp2
  go_ret
  refine ⟨rfl, ?_, (HO.out.drewN _).setCell (p := ⟨bi, 1, none⟩) (fun _ => rfl) _⟩
  have := (h1.drewN nq).setAt (a + n) hle
  simpa using this

theorem inBits_no (base bi : Nat) (n : Int) (sv : Value) (cs : List Nat) (a e : Nat) (w : World) (h : IsIn w base bi sv cs a e) (hw : wrong e (decide (1 ≤ n) && decide (n ≤ 64)) n 1 (8 * cs.length - a) ≠ 0) :
    Calls Try.prog 17 #[.pointer (some ⟨bi, 0, none⟩), .int .i64 n] w fun r w' => r = .returned (.int .u64 0) ∧ IsIn w' base bi sv cs a (wrong e (decide (1 ≤ n) && decide (n ≤ 64)) n 1 (8 * cs.length - a)) ∧ Only (fun k => k = bi) w w' := by
  have HW := Ost.hid hw
  clear hw
  by_cases hg : 1 ≤ n ∧ n ≤ 64
  · have hb : (decide (1 ≤ n) && decide (n ≤ 64)) = true := by simp [hg]
    rw [hb] at HW ⊢
    clear hb
    obtain ⟨hg1, hg2⟩ := hg
    go_enter Try.func17, Try.ntmps17
    go_wp2_with (first | (go_at_call 35; refine (width_yes n _ hg1 hg2).mono ?_; rintro e w' ⟨rfl, rfl⟩) | (go_at_call 34; refine (may_no base bi 1 n _ cs a e true _ h (.inl rfl) HW.out).mono ?_; rintro e w' ⟨rfl, h1, h2⟩))
    go_ret
    exact ⟨rfl, h1, h2⟩
  · have hb : (decide (1 ≤ n) && decide (n ≤ 64)) = false := by simp; omega
    rw [hb] at HW ⊢
    clear hb
    go_enter Try.func17, Try.ntmps17
    go_wp2_with (first | (go_at_call 35; refine (width_no n _ (by omega)).mono ?_; rintro e w' ⟨rfl, rfl⟩) | (go_at_call 34; refine (may_no base bi 1 n _ cs a e false _ h (.inl rfl) HW.out).mono ?_; rintro e w' ⟨rfl, h1, h2⟩))
    go_ret
    exact ⟨rfl, h1, h2⟩

theorem skip_yes (base bi n : Nat) (sv : Value) (cs : List Nat) (a : Nat) (w : World) (h : IsIn w base bi sv cs a 0) (hle : a + n ≤ 8 * cs.length) :
    Calls Try.prog 22 #[.pointer (some ⟨bi, 0, none⟩), .int .i64 n] w fun r w' => r = .returned (.tuple #[]) ∧ IsIn w' base bi sv cs (a + n) 0 ∧ Only (fun k => k = bi) w w' := by
  have hc1 := h.2.1.cell 1
  have hf1 := h.2.1.free 1
  have hlen := h.2.2.2.2.2
  simp at hc1
  go_enter Try.func22, Try.ntmps22
  go_wp2_with (first | (go_at_call 34; refine (may_yes base bi n 1 _ cs a _ h (.inl rfl) (by omega)).mono ?_; rintro e w' ⟨rfl, d, rfl⟩))
  go_end0
  refine ⟨rfl, ?_, ((Only.refl (fun k => k = bi) w).drewN _).setCell (p := ⟨bi, 1, none⟩) (fun _ => rfl) _⟩
  have := (h.drewN d).setAt (a + n) hle
  simpa using this

theorem skip_no (base bi : Nat) (n : Int) (sv : Value) (cs : List Nat) (a e : Nat) (w : World) (h : IsIn w base bi sv cs a e) (hw : wrong e (decide (0 ≤ n)) n 1 (8 * cs.length - a) ≠ 0) :
    Calls Try.prog 22 #[.pointer (some ⟨bi, 0, none⟩), .int .i64 n] w fun r w' => r = .returned (.tuple #[]) ∧ IsIn w' base bi sv cs a (wrong e (decide (0 ≤ n)) n 1 (8 * cs.length - a)) ∧ Only (fun k => k = bi) w w' := by
  have HW := Ost.hid hw
  clear hw
  go_enter Try.func22, Try.ntmps22
  go_wp2_with (first | (go_at_call 34; refine (may_no base bi 1 n _ cs a e _ _ h (.inl rfl) HW.out).mono ?_; rintro e w' ⟨rfl, h1, h2⟩))
  go_end0
  exact ⟨rfl, h1, h2⟩

end Go.Proofs.Ytpdihllpcnnfdaa
