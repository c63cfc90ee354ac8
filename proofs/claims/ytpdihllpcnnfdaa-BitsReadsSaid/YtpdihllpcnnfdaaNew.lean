/- What bits.New makes: an Out of the parts' bytes. -/
import Derived.Test.YtpdihllpcnnfdaaOut
set_option linter.unusedSimpArgs false
set_option linter.unusedVariables false
namespace Go.Proofs.Ytpdihllpcnnfdaa
open Go.RowKit Ost

/-- A slice that reads as these bytes. -/
def Part (w : World) (v : Value) (cs : List Nat) : Prop :=
  ∃ A c, v = .slice A cs.length c ∧ cs.length ≤ c ∧ (A = none → c = 0) ∧ Sees w A (u8s cs) ∧ c ≤ 140737488355328 ∧ ∀ x ∈ cs, x < 256

/-- The relation of the loop in New. -/
def NewIn (bo : Nat) (w wr : World) (ds : List Nat) : Prop :=
  ∃ A c, Has wr bo 67 #[.slice A ds.length c, .int .i64 0] ∧ wr.ownsRow w.heap.size 5 1 (.slice A ds.length c) ds.length (u8s ds) ∧ Only (fun _ => False) w wr

/-- All parts' bytes, 65536 at most. -/
def joined (ps : List (Value × List Nat)) : List Nat := ((ps.map (·.2)).flatten).take 65536

theorem joined_succ (ps : List (Value × List Nat)) (k : Nat) (hk : k < ps.length) : joined (ps.take (k + 1)) = joined (ps.take k) ++ (ps[k].2).take (min (ps[k].2).length (65536 - (joined (ps.take k)).length)) := by
  unfold joined
  rw [List.take_succ_eq_append_getElem hk, List.map_append, List.flatten_append]
  generalize ((ps.take k).map (·.2)).flatten = F
  simp only [List.map_cons, List.map_nil, List.flatten_cons, List.flatten_nil, List.append_nil]
  generalize ps[k].2 = cs
  rw [List.take_append, List.length_take]
  congr 1
  rw [show 65536 - min 65536 F.length = 65536 - F.length by omega]
  by_cases h : cs.length ≤ 65536 - F.length
  · rw [Nat.min_eq_left h, List.take_of_length_le (Nat.le_refl _), List.take_of_length_le h]
  · rw [Nat.min_eq_right (by omega)]

theorem joined_le (ps : List (Value × List Nat)) : (joined ps).length ≤ 65536 := by unfold joined; rw [List.length_take]; omega

theorem joined_byte (ps : List (Value × List Nat)) (h : ∀ p ∈ ps, ∀ x ∈ p.2, x < 256) : ∀ x ∈ joined ps, x < 256 := by
  intro x hx
  have := List.mem_of_mem_take hx
  obtain ⟨l, hl, hxl⟩ := List.mem_flatten.1 this
  obtain ⟨p, hp, rfl⟩ := List.mem_map.1 hl
  exact h p hp x hxl

theorem packs_span {cs : List Nat} (h : ∀ c ∈ cs, c < 256) : Packs cs (span cs 0 (8 * cs.length)) := by
  refine ⟨h, by rw [span_length]; omega, fun i => ?_⟩
  by_cases hi : i < 8 * cs.length
  · simp [span, List.getD, hi]
  · rw [bitOf_out (by omega)]; simp [span, List.getD, hi]

set_option maxHeartbeats 400000 in
theorem new_any (ps : List (Value × List Nat)) (A : Option Addr) (m c : Nat) (w : World) (hm : ps.length = m) (hmm : m ≤ 140737488355328) (hs : Sees w A (ps.map (·.1))) (hp : ∀ p ∈ ps, Part w p.1 p.2) :
    Calls Try.prog 9 #[.slice A m c] w fun e w' => ∃ bo sv, e = .returned (.pointer (some ⟨bo, 0, none⟩)) ∧ IsOut w' w.heap.size bo sv (span (joined ps) 0 (8 * (joined ps).length)) ∧ Only (fun _ => False) w w' := by
  obtain ⟨i0, hi, hz0, hz1, hz2⟩ := info_parts info5
  go_enter Try.func9, Try.ntmps9
  have HM := Ost.hid hm
  clear hm
  go_wp2
  go_loopw [11] (fun i wr => ∃ k : Nat, k ≤ m ∧ i = .int .i64 k ∧ NewIn w.heap.size w wr (joined (ps.take k))) (fun i _ => m - (intOf i).toNat)
  case atStart =>
    exact ⟨0, Nat.zero_le _, rfl, none, 0, Has.new _ _ _, World.ownsRow_nil _ _ _ _, (Only.refl _ _).alloc _⟩
  case round =>
    obtain ⟨k, hk, rfl, A1, c1, hh1, hown1, honly1⟩ := hrel
    by_cases hlt : k < m
    · have hkl : k < ps.length := by have := HM.out; omega
      have hjs := joined_succ ps k hkl
      have hpk := hp _ (List.getElem_mem hkl)
      have HPS := Ost.hid (show (ps.map (·.1))[k]? = some ps[k].1 by simp [hkl])
      generalize ps[k] = pk at hpk hjs HPS
      obtain ⟨pv, cs⟩ := pk
      obtain ⟨Ap, cp, hpv, hcp, hAp, hsp, hcp2, h256⟩ := hpk
      dsimp only at hpv hcp hsp h256 hjs HPS
      subst hpv
      obtain ⟨b, o, rfl, hb, hcell⟩ := (hs.only honly1 (fun i hi hn => hn)).at_ (j := k) HPS.out
      obtain ⟨D, HD⟩ : ∃ D, Hid (D = joined (ps.take k)) := ⟨_, rfl⟩
      rw [← HD.out] at hh1 hown1 hjs
      have HJS := Ost.hid hjs
      clear hjs
      have hD : D.length ≤ 65536 := by rw [HD.out]; exact joined_le _
      have hd0 := hh1.cell 0
      have hd1 := hh1.cell 1
      have he0 := hh1.free 0
      simp at hd0 hd1
      obtain ⟨q, HQ⟩ : ∃ q, Hid (q = min cs.length (65536 - D.length)) := ⟨_, rfl⟩
      have hq1 : q ≤ cs.length := by have := HQ.out; omega
      have hq2 : q + D.length ≤ 65536 := by have := HQ.out; omega
      have hne1 := own_ne hown1 hh1 (by decide)
      go_wp2
      have hmin3 : (if (65536 : Int) - (D.length : Int) < (cs.length : Int) then (65536 : Int) - (D.length : Int) else (cs.length : Int)) = (q : Int) := by have := HQ.out; split <;> omega
      have hq3 : q ≤ cp := by omega
      go_region_law ((refine step_app _ rfl (.tmp 25) (.tmp 31) 22 rfl w.heap.size 5 i0 (.int .u8 0) 1 Try.underlying22 hi hz0 hz1 hz2 rfl (.slice A1 D.length c1) D.length (u8s D) (by simp [Act.eval, Act.put]) hown1 Ap q cp ((u8s cs).take q) (by simp [Act.eval, Act.put]) (by simp; omega) ((hsp.only honly1.drew (fun i hi hn => hn)).take q) (fun u hu => u8s_oneCell cs u (List.mem_of_mem_take hu)) (by unfold maxLen; omega) (by omega) honly1.size ?_
                      intro A2 c2 w2 hown2 honly2 hblk2
                      have hh2 : Has w2 w.heap.size 67 #[.slice A1 D.length c1, .int .i64 0] := Has.only (w := wr.drew) hh1 honly2 hne1
                      have hf2 := hh2.free 0
                      have hc2 := hh2.cell 0
                      simp at hc2))
      all_goals
        clear hmin3
        have hlen2 : (D ++ cs.take q).length = D.length + q := by rw [List.length_append, List.length_take]; omega
        have hin : NewIn w.heap.size w (w2.setCell ⟨w.heap.size, 0, none⟩ (.slice A2 (D.length + q) c2)) (joined (ps.take (k + 1))) := by
          rw [HJS.out, ← HQ.out]
          refine ⟨A2, c2, ?_, ?_, ?_⟩
          · have := hh2.put 0 (.slice A2 (D.length + q) c2)
            rw [hlen2]; simpa using this
          · rw [hlen2]
            have e : u8s (D ++ cs.take q) = u8s D ++ (u8s cs).take q := by simp [u8s, List.map_take]
            rw [e]
            exact ownsRow_setCell_other hown2 (a := ⟨w.heap.size, 0, none⟩) (own_ne hown2 hh2 (by decide)) _
          · have h2 := honly1.drew.trans honly2 (fun i hi e => by have := hown1.lt i e; omega)
            exact h2.setCell (fun h => absurd h (by simp)) _
        have Hin := Ost.hid hin
        clear hin hlen2
        go_wp2
        go_roundw
        case rel => exact ⟨k + 1, by omega, by go_num, Hin.out⟩
        case measure => simp [intOf]; omega
    · obtain rfl : k = m := by omega
      have hall : ps.take k = ps := by rw [← HM.out]; exact List.take_length
      rw [hall] at hh1 hown1
      have hd0 := hh1.cell 0
      have hd1 := hh1.cell 1
      have he1 := hh1.free 1
      simp at hd0 hd1
      have hD := joined_le ps
      have h256 := joined_byte ps fun p hpp => by obtain ⟨_, _, _, _, _, _, _, h⟩ := hp p hpp; exact h
      obtain ⟨D, HD⟩ : ∃ D, Hid (D = joined ps) := ⟨_, rfl⟩
      rw [← HD.out] at hh1 hown1 hD h256 hd0
      go_wp2
      go_ret
      rw [← HD.out]
      refine ⟨w.heap.size, .slice A1 D.length c1, rfl, ⟨Nat.le_refl _, ?_, ?_, D, ?_, ?_⟩, ?_⟩
      · have := hh1.put 1 (.int .i64 ((8 * D.length : Nat) : Int))
        rw [span_length]; simpa using this
      · rw [span_length]; omega
      · exact packs_span h256
      · exact ownsRow_setCell_other hown1 (a := ⟨w.heap.size, 1, none⟩) (own_ne hown1 hh1 (by decide)) _
      · exact honly1.setCell (fun h => absurd h (by simp)) _
end Go.Proofs.Ytpdihllpcnnfdaa
