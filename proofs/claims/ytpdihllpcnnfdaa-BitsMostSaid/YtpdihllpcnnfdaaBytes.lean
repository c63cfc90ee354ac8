/- What Out.Bytes does to an Out of the call's own: all bits of all parts' bytes stand behind, or nothing and ErrFull; and when Out.Bits is full. -/
import Derived.Test.YtpdihllpcnnfdaaNew
set_option linter.unusedSimpArgs false
set_option linter.unusedVariables false
namespace Go.Proofs.Ytpdihllpcnnfdaa
open Go.RowKit Ost

theorem Part.only {w w' : World} {v : Value} {cs : List Nat} {T : Nat → Prop} (h : Part w v cs) (ho : Only T w w') (hn : ∀ k, v.ownBlock = some k → ¬ T k) : Part w' v cs := by
  obtain ⟨A, c, rfl, h1, h2, h3, h4⟩ := h
  exact ⟨A, c, rfl, h1, h2, h3.only ho (fun k hk => hn k (by rw [ownBlock_slice]; exact hk)), h4⟩

/-- How many bytes the first k parts have. -/
def total (ps : List (Value × List Nat)) : Nat := ((ps.map (·.2)).flatten).length

theorem total_succ (ps : List (Value × List Nat)) (k : Nat) (hk : k < ps.length) : total (ps.take (k + 1)) = total (ps.take k) + (ps[k].2).length := by
  unfold total
  rw [List.take_succ_eq_append_getElem hk, List.map_append, List.flatten_append]; simp

theorem total_le (ps : List (Value × List Nat)) (k : Nat) : total (ps.take k) ≤ total ps := by
  have : ps = ps.take k ++ ps.drop k := (List.take_append_drop k ps).symm
  conv => rhs; rw [this]
  unfold total
  rw [List.map_append, List.flatten_append, List.length_append]; omega

/-- The bytes of all parts. -/
def flat (ps : List (Value × List Nat)) : List Nat := (ps.map (·.2)).flatten

theorem flat_succ (ps : List (Value × List Nat)) (k : Nat) (hk : k < ps.length) : flat (ps.take (k + 1)) = flat (ps.take k) ++ ps[k].2 := by
  unfold flat
  rw [List.take_succ_eq_append_getElem hk, List.map_append, List.flatten_append]; simp

theorem nums_append (n : Nat) (a b : List Nat) : nums n (a ++ b) = nums n a ++ nums n b := by simp [nums]

set_option maxHeartbeats 1000000 in
theorem outBytes_own (base bo m c : Nat) (A : Option Addr) (sv : Value) (l : List Bool) (ps : List (Value × List Nat)) (w : World) (h : IsOut w base bo sv l) (hm : ps.length = m) (hmm : m ≤ 140737488355328)
    (hroom : l.length + 8 * total ps ≤ 524288) (hs : Sees w A (ps.map (·.1))) (hp : ∀ p ∈ ps, Part w p.1 p.2)
    (hA : ∀ k, blockOf A = some k → ¬ (k = bo ∨ sv.ownBlock = some k)) (hP : ∀ p ∈ ps, ∀ k, p.1.ownBlock = some k → ¬ (k = bo ∨ sv.ownBlock = some k)) :
    Calls Try.prog 29 #[.pointer (some ⟨bo, 0, none⟩), .slice A m c] w fun e w' => e = .returned (.int .i64 0) ∧ ∃ sv', IsOut w' base bo sv' (l ++ nums 8 (flat ps)) ∧ OutTo bo sv sv' w w' := by
  have hh := h.2.1
  have hl := h.2.2.1
  have HM := Ost.hid hm
  clear hm
  go_enter Try.func29, Try.ntmps29
  go_wp2_with (go_at_call 37; refine (room_own bo l.length sv w hh hl).mono ?_; rintro e w' ⟨rfl, rfl⟩)
  go_loop [5, 19] (fun r i => ∃ k : Nat, k ≤ m ∧ i = .int .i64 k ∧ r = .int .i64 ((524288 - (l.length : Int)) / 8 - (total (ps.take k) : Nat))) (fun _ i => m - (intOf i).toNat)
  case atStart => exact ⟨0, Nat.zero_le _, rfl, by simp [total]⟩
  case round =>
    obtain ⟨k, hk, rfl, rfl⟩ := hrel
    by_cases hlt : k < m
    · have hkl : k < ps.length := by have := HM.out; omega
      have hts := total_succ ps k hkl
      have htl := total_le ps (k + 1)
      have hpk := hp _ (List.getElem_mem hkl)
      have HPS := Ost.hid (show (ps.map (·.1))[k]? = some ps[k].1 by simp [hkl])
      generalize ps[k] = pk at hpk hts HPS
      obtain ⟨pv, cs⟩ := pk
      obtain ⟨Ap, cp, hpv, hcp, hAp, hsp, hcp2, h256⟩ := hpk
      dsimp only at hpv hcp hsp h256 hts HPS
      subst hpv
      obtain ⟨b, o, rfl, hb, hcell⟩ := hs.at_ (j := k) HPS.out
      obtain ⟨x, HX⟩ : ∃ x, Hid (total (ps.take k) = x) := ⟨_, rfl⟩
      have hx : x + cs.length ≤ total ps := by rw [← HX.out]; omega
      have HY : Hid (total (ps.take (k + 1)) = x + cs.length) := by show _ = _; rw [← HX.out]; exact hts
      rw [HX.out]
      clear hts htl
      have hq : ¬ ((524288 - (l.length : Int)) / 8 - (x : Int) < (cs.length : Int)) := by omega
      go_wp2
      go_round
      case rel => exact ⟨k + 1, by omega, by go_num, by rw [HY.out, show ((x + cs.length : Nat) : Int) = (x : Int) + (cs.length : Int) by omega, show (524288 - (l.length : Int)) / 8 - ((x : Int) + (cs.length : Int)) = (524288 - (l.length : Int)) / 8 - (x : Int) - (cs.length : Int) by omega]⟩
      case measure => simp [intOf]; omega
    · obtain rfl : k = m := by omega
      go_wp2_with (fail)
      go_loopw [34] (fun i wr => ∃ j : Nat, j ≤ k ∧ i = .int .i64 j ∧ ∃ sv', IsOut wr base bo sv' (l ++ nums 8 (flat (ps.take j))) ∧ OutTo bo sv sv' w wr) (fun i _ => k - (intOf i).toNat)
      case atStart => exact ⟨0, Nat.zero_le _, rfl, sv, by simpa [flat, nums] using h, OutTo.refl _ _ _⟩
      case round =>
        obtain ⟨j, hj, rfl, sv1, hout1, hto1⟩ := hrel
        obtain ⟨wo, rfl⟩ : ∃ wo : World, wo = wr := ⟨_, rfl⟩
        by_cases hjt : j < k
        · have hkl : j < ps.length := by have := HM.out; omega
          have hts := total_succ ps j hkl
          have htl := total_le ps (j + 1)
          have hfs := flat_succ ps j hkl
          have hpk := hp _ (List.getElem_mem hkl)
          have hPk := hP _ (List.getElem_mem hkl)
          have HPS := Ost.hid (show (ps.map (·.1))[j]? = some ps[j].1 by simp [hkl])
          generalize ps[j] = pk at hpk hts HPS hPk hfs
          obtain ⟨pv, cs⟩ := pk
          dsimp only at hPk hpk hfs hts
          have hpk1 := hpk.only hto1.1 hPk
          obtain ⟨Ap, cp, hpv, hcp, hAp, hsp, hcp2, h256⟩ := hpk
          subst hpv
          dsimp only at HPS
          obtain ⟨b, o, rfl, hb, hcell⟩ := (hs.only hto1.1 hA).at_ (j := j) HPS.out
          have HFS := Ost.hid hfs
          have HBD : Hid ((l ++ nums 8 (flat (ps.take j))).length + 8 * cs.length ≤ 524288) := by
            show _ ≤ _
            rw [List.length_append, nums_length]
            have e : (flat (ps.take j)).length = total (ps.take j) := rfl
            rw [e]; omega
          have H256 := Ost.hid h256
          clear hfs hts htl hpk1 h256
          go_wp2_with (fail)
          go_loopw [40] (fun i wr => ∃ t : Nat, t ≤ cs.length ∧ i = .int .i64 t ∧ ∃ sv', IsOut wr base bo sv' (l ++ nums 8 (flat (ps.take j)) ++ nums 8 (cs.take t)) ∧ OutTo bo sv sv' w wr) (fun i _ => cs.length - (intOf i).toNat)
          case atStart => exact ⟨0, Nat.zero_le _, rfl, sv1, by simpa [nums] using hout1, hto1⟩
          case round =>
            obtain ⟨t, ht, rfl, sv2, hout2, hto2⟩ := hrel
            by_cases htt : t < cs.length
            · obtain ⟨b2, o2, rfl, hb2, hcell2⟩ := (hsp.only hto2.1 (fun q hq => hPk q (by rw [ownBlock_slice]; exact hq))).at_ (u8s_get htt)
              have hx256 : cs.getD t 0 < 256 := by rw [List.getD_eq_getElem?_getD, List.getElem?_eq_getElem htt]; exact H256.out _ (List.getElem_mem _)
              have HN := Ost.hid (nums_take_succ 8 cs t htt)
              have hbd2 : (l ++ nums 8 (flat (ps.take j)) ++ nums 8 (cs.take t)).length + 8 ≤ 524288 := by
                have := HBD.out
                rw [List.length_append, nums_length, List.length_take, Nat.min_eq_left (by omega)]; omega
              generalize cs.getD t 0 = x at hcell2 hx256 HN
              have HBD2 := Ost.hid hbd2
              clear hbd2
              go_wp2_with (go_at_call 38; refine (add_own base bo 8 x sv2 _ _ hout2 HBD2.out (by omega) (by omega) (by omega)).mono ?_; rintro e w' ⟨rfl, sv3, hout3, hto3⟩)
              rw [List.append_assoc _ (nums 8 (cs.take t)), ← HN.out] at hout3
              have hto4 := hto2.trans hto3
              clear hto3
              go_wp2
              go_roundw
              case rel => exact ⟨t + 1, by omega, by go_num, sv3, hout3, hto4⟩
              case measure => simp [intOf]; omega
            · obtain rfl : t = cs.length := by omega
              rw [List.take_length, List.append_assoc, ← nums_append, ← HFS.out] at hout2
              go_wp2
              go_roundw
              case rel => exact ⟨j + 1, by omega, by go_num, sv2, hout2, hto2⟩
              case measure => simp [intOf]; omega
        · obtain rfl : j = k := by omega
          have hall : ps.take j = ps := by rw [← HM.out]; exact List.take_length
          rw [hall] at hout1
          go_wp2
          go_ret
          exact ⟨rfl, sv1, hout1, hto1⟩

/-- No room for all: nothing is written. -/
theorem outBytes_full (base bo m c : Nat) (A : Option Addr) (sv : Value) (l : List Bool) (cs : List Nat) (v : Value) (w : World) (h : IsOut w base bo sv l) 
    (hroom : ¬ l.length + 8 * cs.length ≤ 524288) (hs : Sees w A [v]) (hp : Part w v cs) :
    Calls Try.prog 29 #[.pointer (some ⟨bo, 0, none⟩), .slice A 1 c] w fun e w' => e = .returned (.int .i64 4) ∧ w = w' := by
  have hh := h.2.1
  have hl := h.2.2.1
  obtain ⟨Ap, cp, rfl, hcp, hAp, hsp, hcp2, h256⟩ := hp
  obtain ⟨b, o, rfl, hb, hcell⟩ := hs.at_ (j := 0) rfl
  have hq : (524288 - (l.length : Int)) / 8 < (cs.length : Int) := by omega
  rw [Nat.add_zero] at hcell
  go_enter Try.func29, Try.ntmps29
  go_wp2_with (go_at_call 37; refine (room_own bo l.length sv w hh hl).mono ?_; rintro e w' ⟨rfl, rfl⟩)
  go_loop [5, 19] (fun r i => i = .int .i64 0 ∧ r = .int .i64 ((524288 - (l.length : Int)) / 8)) (fun r i => 1)
  case atStart => exact ⟨rfl, rfl⟩
  case round =>
    obtain ⟨rfl, rfl⟩ := hrel
    go_wp2
    go_ret
    exact ⟨rfl, rfl⟩

theorem outBits_full (base bo n m c : Nat) (A : Option Addr) (sv : Value) (l : List Bool) (w : World) (h : IsOut w base bo sv l) (hn1 : 1 ≤ n) (hn : n ≤ 64) (hroom : ¬ l.length + m * n ≤ 524288) :
    Calls Try.prog 27 #[.pointer (some ⟨bo, 0, none⟩), .int .i64 n, .slice A m c] w fun e w' => e = .returned (.int .i64 4) ∧ w = w' := by
  have hh := h.2.1
  have hl := h.2.2.1
  have hq : decide ((524288 - (l.length : Int)) / (n : Int) < (m : Int)) = true := by
    have : (524288 - (l.length : Int)) / (n : Int) < (m : Int) := by
      rw [Int.ediv_lt_iff_lt_mul (by omega)]
      have : (524288 - (l.length : Int)) < ((m * n : Nat) : Int) := by omega
      simpa using this
    simpa using this
  go_enter Try.func27, Try.ntmps27
  go_wp2_with (first | (go_at_call 37; refine (room_own bo l.length sv w hh hl).mono ?_; rintro e w' ⟨rfl, rfl⟩) | (go_at_call 35; refine (width_yes n _ (by omega) (by omega)).mono ?_; rintro e w' ⟨rfl, rfl⟩))
  go_ret
  exact ⟨rfl, rfl⟩
end Go.Proofs.Ytpdihllpcnnfdaa
