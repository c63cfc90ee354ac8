/- In.Bytes refused, In.Rest, and the document's own Take. -/
import Derived.Test.YtpdihllpcnnfdaaInB
import Derived.Test.YtpdihllpcnnfdaaRef2
set_option linter.unusedSimpArgs false
set_option linter.unusedVariables false
namespace Go.Proofs.Ytpdihllpcnnfdaa
open Go.RowKit Ost

theorem inBytes_no (base bi : Nat) (n : Int) (sv : Value) (cs : List Nat) (a e : Nat) (w : World) (h : IsIn w base bi sv cs a e) (hw : wrong e (decide (0 ≤ n)) n 8 (8 * cs.length - a) ≠ 0) :
    Calls Try.prog 21 #[.pointer (some ⟨bi, 0, none⟩), .int .i64 n] w fun r w' => r = .returned (.slice none 0 0) ∧ IsIn w' base bi sv cs a (wrong e (decide (0 ≤ n)) n 8 (8 * cs.length - a)) ∧ Only (fun k => k = bi) w w' := by
  have HW := Ost.hid hw
  clear hw
  go_enter Try.func21, Try.ntmps21
  go_wp2_with (first | (go_at_call 34; refine (may_no base bi 8 n _ cs a e _ _ h (.inr rfl) HW.out).mono ?_; rintro e w' ⟨rfl, h1, h2⟩))
  go_ret
  exact ⟨rfl, h1, h2⟩

theorem rest_yes (base bi : Nat) (sv : Value) (cs : List Nat) (a : Nat) (w : World) (h : IsIn w base bi sv cs a 0) :
    Calls Try.prog 23 #[.pointer (some ⟨bi, 0, none⟩)] w fun r w' => ∃ A c, r = .returned (.slice A ((8 * cs.length - a) / 8) c) ∧ w'.ownsRow w.heap.size 5 1 (.slice A ((8 * cs.length - a) / 8) c) ((8 * cs.length - a) / 8) (u8s (cut cs a ((8 * cs.length - a) / 8))) ∧ IsIn w' base bi sv cs (a + 8 * ((8 * cs.length - a) / 8)) 0 ∧ Only (fun k => k = bi) w w' := by
  have hlen := h.2.2.2.2.2
  have hal := h.2.2.2.2.1
  obtain ⟨n, HN⟩ : ∃ n, Hid ((8 * cs.length - a) / 8 = n) := ⟨_, rfl⟩
  obtain ⟨m, HM⟩ : ∃ m, Hid (8 * cs.length - a = m) := ⟨_, rfl⟩
  have hn : a + 8 * n ≤ 8 * cs.length := by have := HN.out; omega
  have hm : m ≤ 8 * 140737488355328 := by have := HM.out; omega
  have HMN : Hid (((m : Int) / 8) = (n : Int)) := by have := HN.out; have := HM.out; show _ = _; omega
  rw [HN.out]
  go_enter Try.func23, Try.ntmps23
  go_wp2_with (fail)
  refine (left_any base bi sv cs a 0 _ h).mono ?_
  rw [if_pos rfl, HM.out]
  rintro r w1 ⟨rfl, d, hw1⟩
  have h1 : IsIn w1 base bi sv cs a 0 := hw1 ▸ h.drewN d
  have HO : Hid (Only (fun k => k = bi) w w1) := hw1 ▸ (Only.refl _ w).drewN d
  have HS : Hid (w1.heap.size = w.heap.size) := by rw [hw1]; rfl
  clear hw1
  have hmn := HMN.out
  go_wp2_with (fail)
  clear hmn
  refine (inBytes_yes base bi n sv cs a w1 h1 hn).mono ?_
  rintro r w2 ⟨A, c, rfl, hown, hin, ho⟩
  go_wp2
  go_ret
  exact ⟨A, c, rfl, by rw [← HS.out]; exact hown, hin, HO.out.trans ho (fun _ _ e => e)⟩

theorem rest_no (base bi : Nat) (sv : Value) (cs : List Nat) (a e : Nat) (w : World) (h : IsIn w base bi sv cs a e) (he : e ≠ 0) :
    Calls Try.prog 23 #[.pointer (some ⟨bi, 0, none⟩)] w fun r w' => r = .returned (.slice none 0 0) ∧ IsIn w' base bi sv cs a e ∧ Only (fun k => k = bi) w w' := by
  have HE : Hid (wrong e (decide ((0 : Int) ≤ 0)) 0 8 (8 * cs.length - a) = e) := by simp [wrong, he, Hid]
  go_enter Try.func23, Try.ntmps23
  go_wp2_with (fail)
  refine (left_any base bi sv cs a e _ h).mono ?_
  rw [if_neg he]
  rintro r w1 ⟨rfl, d, hw1⟩
  have h1 : IsIn w1 base bi sv cs a e := hw1 ▸ h.drewN d
  have HO : Hid (Only (fun k => k = bi) w w1) := hw1 ▸ (Only.refl _ w).drewN d
  clear hw1
  go_wp2_with (fail)
  refine (inBytes_no base bi 0 sv cs a e w1 h1 (by rw [HE.out]; exact he)).mono ?_
  rw [HE.out]
  rintro r w2 ⟨rfl, hin, ho⟩
  go_wp2
  go_ret
  exact ⟨rfl, hin, HO.out.trans ho (fun _ _ e => e)⟩

/-- The document's own In: at block bw, bits l in the slice lv, at bit a, error e. -/
def IsRef (w : World) (base bw : Nat) (lv : Value) (l : List Bool) (a e : Nat) : Prop :=
  base ≤ bw ∧ Has w bw 44 #[lv, .int .i64 (a : Nat), .int .i64 (e : Nat)] ∧ w.ownsRow base 3 1 lv l.length (b01 l) ∧ a ≤ l.length ∧ l.length ≤ 1125899906842624

theorem IsRef.only {w w' : World} {base bw : Nat} {lv : Value} {l : List Bool} {a e : Nat} {T : Nat → Prop} (h : IsRef w base bw lv l a e) (ho : Only T w w') (h1 : ¬ T bw) (h2 : ∀ k, lv.ownBlock = some k → ¬ T k) : IsRef w' base bw lv l a e :=
  ⟨h.1, h.2.1.only ho h1, own_only h.2.2.1 ho h2, h.2.2.2⟩
theorem IsRef.drewN {w : World} {base bw : Nat} {lv : Value} {l : List Bool} {a e : Nat} (h : IsRef w base bw lv l a e) (n : Nat) : IsRef (w.drewN n) base bw lv l a e := h
theorem IsRef.setAt {w : World} {base bw : Nat} {lv : Value} {l : List Bool} {a e : Nat} (h : IsRef w base bw lv l a e) (b : Nat) (hb : b ≤ l.length) : IsRef (w.setCell ⟨bw, 1, none⟩ (.int .i64 (b : Nat))) base bw lv l b e :=
  ⟨h.1, by have := h.2.1.put 1 (.int .i64 (b : Nat)); simpa using this, ownsRow_setCell_other h.2.2.1 (a := ⟨bw, 1, none⟩) (own_ne h.2.2.1 h.2.1 (by decide)) _, hb, h.2.2.2.2⟩
theorem IsRef.setErr {w : World} {base bw : Nat} {lv : Value} {l : List Bool} {a e : Nat} (h : IsRef w base bw lv l a e) (b : Nat) : IsRef (w.setCell ⟨bw, 2, none⟩ (.int .i64 (b : Nat))) base bw lv l a b :=
  ⟨h.1, by have := h.2.1.put 2 (.int .i64 (b : Nat)); simpa using this, ownsRow_setCell_other h.2.2.1 (a := ⟨bw, 2, none⟩) (own_ne h.2.2.1 h.2.1 (by decide)) _, h.2.2.2⟩

/-- What Take's error is. -/
def wrongR (e : Nat) (ok : Bool) (n : Int) (left : Nat) : Nat :=
  if e ≠ 0 then e else if ok = false ∨ n < 0 then 1 else if n > left then 7 else 0

set_option maxHeartbeats 400000 in
theorem take_yes (base bw n : Nat) (lv : Value) (l : List Bool) (a : Nat) (w : World) (h : IsRef w base bw lv l a 0) (hn : a + n ≤ l.length) :
    Calls Try.prog 19 #[.pointer (some ⟨bw, 0, none⟩), .int .i64 n, .bool true] w fun r w' => ∃ A c, r = .returned (.slice A n c) ∧ Sees w' A (b01 ((l.drop a).take n)) ∧ (A = none → c = 0) ∧ IsRef w' base bw lv l (a + n) 0 ∧ Only (fun k => k = bw) w w' := by
  have hlen := h.2.2.2.2
  obtain ⟨A, c, rfl, hAb, hnc, hcm⟩ := own_form h.2.2.1
  have hc0 := h.2.1.cell 0
  have hc1 := h.2.1.cell 1
  have hc2 := h.2.1.cell 2
  have hf1 := h.2.1.free 1
  simp at hc0 hc1 hc2
  go_enter Try.func19, Try.ntmps19
  go_wp2_with (fail)
  go_quiet (fail)
  go_wp2_with (fail)
  have h3 := (h.drewN nq).setAt (a + n) hn
  have ho3 : Only (fun k => k = bw) w ((w.drewN nq).setCell ⟨bw, 1, none⟩ (.int .i64 ((a : Int) + (n : Int)))) := ((Only.refl (fun k => k = bw) w).drewN nq).setCell (p := ⟨bw, 1, none⟩) (fun _ => rfl) _
  rw [show ((a + n : Nat) : Int) = (a : Int) + (n : Int) by omega] at h3
  clear hc0 hc1 hc2 hf1
  generalize (w.drewN nq).setCell ⟨bw, 1, none⟩ (.int .i64 ((a : Int) + (n : Int))) = W at h3 ho3
  obtain ⟨q, HQ⟩ : ∃ q, Hid (a + n = q) := ⟨_, rfl⟩
  rw [HQ.out] at h3 hn
  have hc0 := h3.2.1.cell 0
  have hc1 := h3.2.1.cell 1
  simp at hc0 hc1
  have haq : a ≤ q := by have := HQ.out; omega
  have hqc : q ≤ c := by omega
  have hlo : IntKind.i64.wrap ((q : Int) - (n : Int)) = (a : Int) := by rw [IntWalk.i64_in _ (by omega)]; have := HQ.out; omega
  have hqa : q - a = n := by have := HQ.out; omega
  have hsee := (Sees.of_own h3.2.2.1).at_cut a c (by simpa [b01] using hnc)
  have HS := Ost.hid (hsee.take n)
  clear hsee
  obtain ⟨sp, hsp⟩ : ∃ sp, (if c = a then A else Option.map (fun x => x.add a) A) = sp := ⟨_, rfl⟩
  rw [hsp] at HS
  have HA : Hid (sp = none → c - a = 0) := by
    intro hs
    by_cases hca : c = a
    · omega
    · rw [if_neg hca] at hsp
      rcases A with _ | x
      · have := (own_nil_cap h3.2.2.1).2; omega
      · rw [hs] at hsp; cases hsp
  go_quiet (fail)
  go_wp2
  go_ret
  refine ⟨sp, c - a, rfl, ?_, HA.out, by rw [HQ.out]; exact h3.drewN nq, ho3.drewN nq⟩
  have e : (b01 l).drop a = b01 (l.drop a) := by simp [b01, List.map_drop]
  have e2 : (b01 (l.drop a)).take n = b01 ((l.drop a).take n) := by simp [b01, List.map_take]
  have := HS.out
  rw [e, e2] at this
  exact this

theorem take_no (base bw : Nat) (n : Int) (lv : Value) (l : List Bool) (a e : Nat) (ok : Bool) (w : World) (h : IsRef w base bw lv l a e) (hw : wrongR e ok n (l.length - a) ≠ 0) :
    Calls Try.prog 19 #[.pointer (some ⟨bw, 0, none⟩), .int .i64 n, .bool ok] w fun r w' => r = .returned (.slice none 0 0) ∧ IsRef w' base bw lv l a (wrongR e ok n (l.length - a)) ∧ Only (fun k => k = bw) w w' := by
  have hlen := h.2.2.2.2
  have hal := h.2.2.2.1
  have hc2 := h.2.1.cell 2
  have hf2 := h.2.1.free 2
  simp at hc2
  by_cases he : e = 0
  · subst he
    cases ok with
    | false =>
      have Hex : Hid (wrongR 0 false n (l.length - a) = 1) := by simp [wrongR, Hid]
      clear hw
      go_enter Try.func19, Try.ntmps19
      go_wp2
      go_ret
      rw [Hex.out]
      exact ⟨rfl, h.setErr 1, (Only.refl (fun k => k = bw) w).setCell (p := ⟨bw, 2, none⟩) (fun _ => rfl) _⟩
    | true =>
      by_cases hn : n < 0
      · have Hex : Hid (wrongR 0 true n (l.length - a) = 1) := by simp [wrongR, Hid, hn]
        clear hw
        go_enter Try.func19, Try.ntmps19
        go_wp2
        go_ret
        rw [Hex.out]
        exact ⟨rfl, h.setErr 1, (Only.refl (fun k => k = bw) w).setCell (p := ⟨bw, 2, none⟩) (fun _ => rfl) _⟩
      · have hgt : n > ((l.length - a : Nat) : Int) := by
          unfold wrongR at hw; simp [hn] at hw; omega
        have Hex : Hid (wrongR 0 true n (l.length - a) = 7) := by show _ = _; unfold wrongR; rw [if_neg (by simp), if_neg (by simp; omega), if_pos hgt]
        have hgt2 : (l.length : Int) - (a : Int) < n := by omega
        clear hw hgt
        obtain ⟨A, c, rfl, hAb, hnc, hcm⟩ := own_form h.2.2.1
        have hc0 := h.2.1.cell 0
        have hc1 := h.2.1.cell 1
        simp at hc0 hc1
        go_enter Try.func19, Try.ntmps19
        go_wp2_with (fail)
        go_quiet (fail)
        go_wp2
        go_ret
        rw [Hex.out]
        exact ⟨rfl, (h.drewN nq).setErr 7, ((Only.refl (fun k => k = bw) w).drewN nq).setCell (p := ⟨bw, 2, none⟩) (fun _ => rfl) _⟩
  · have hz : ((e : Int) == 0) = false := by simp; omega
    have hz2 : ((e : Int) != 0) = true := by simp; omega
    have Hex : Hid (wrongR e ok n (l.length - a) = e) := by simp [wrongR, he, Hid]
    clear hw
    go_enter Try.func19, Try.ntmps19
    go_wp2
    go_ret
    rw [Hex.out]
    exact ⟨rfl, h, Only.refl _ _⟩
end Go.Proofs.Ytpdihllpcnnfdaa
