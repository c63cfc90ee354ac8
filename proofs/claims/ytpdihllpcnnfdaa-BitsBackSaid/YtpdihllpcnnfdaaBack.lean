/- BitsBack's walk: numbers that were written are read as they were: the law returns true and leaves old memory as it was. No condition. -/
import Derived.Test.YtpdihllpcnnfdaaRef
set_option linter.unusedSimpArgs false
set_option linter.unusedVariables false
namespace Go.Proofs.Ytpdihllpcnnfdaa
open Go.RowKit Ost

/-- Is number i written? -/
def takes (zs : List Int) (vs : List Nat) (i : Nat) : Bool := decide (i < vs.length) && decide (i < 30) && decide (1 ≤ zs.getD i 0 ∧ zs.getD i 0 ≤ 64)

/-- The bits of what was written of the first k. -/
def backBits (zs : List Int) (vs : List Nat) : Nat → List Bool
  | 0 => []
  | k + 1 => if takes zs vs k then backBits zs vs k ++ num (zs.getD k 0).toNat (vs.getD k 0) else backBits zs vs k

theorem backBits_le (zs : List Int) (vs : List Nat) (k : Nat) : (backBits zs vs k).length ≤ 64 * min k 30 := by
  induction k with
  | zero => simp [backBits]
  | succ k ih =>
    unfold backBits
    split
    · rename_i h
      unfold takes at h
      simp only [Bool.and_eq_true, decide_eq_true_eq] at h
      rw [List.length_append, num_length]
      omega
    · omega

theorem backBits_pre (zs : List Int) (vs : List Nat) (k j : Nat) : ∃ t, backBits zs vs (k + j) = backBits zs vs k ++ t := by
  induction j with
  | zero => exact ⟨[], by simp⟩
  | succ j ih =>
    obtain ⟨t, ht⟩ := ih
    have e : backBits zs vs (k + (j + 1)) = if takes zs vs (k + j) then backBits zs vs (k + j) ++ num (zs.getD (k + j) 0).toNat (vs.getD (k + j) 0) else backBits zs vs (k + j) := rfl
    rw [e]
    split
    · exact ⟨t ++ num (zs.getD (k + j) 0).toNat (vs.getD (k + j) 0), by rw [ht, List.append_assoc]⟩
    · exact ⟨t, ht⟩

/-- What a span of packed bits is. -/
theorem span_packs {cs : List Nat} {a b c : List Bool} (h : Packs cs (a ++ (b ++ c))) : span cs a.length b.length = b := by
  apply List.ext_getElem (by rw [span_length])
  intro i h1 h2
  simp only [span, List.getElem_map, List.getElem_range]
  rw [h.2.2, List.getD_eq_getElem?_getD, List.getElem?_append_right (by omega), List.getElem?_append_left (by omega), show a.length + i - a.length = i by omega, List.getElem?_eq_getElem h2]; rfl

set_option maxRecDepth 100000 in
set_option maxHeartbeats 2000000 in
theorem bitsBack_walk (A : Option Addr) (len cap : Nat) (zs : List Int) (B : Option Addr) (len1 cap1 : Nat) (ys : List Int) (w : World) (hc : Came .i64 w A len cap zs) (hd : Came .u64 w B len1 cap1 ys) :
    Calls Try.prog 5 #[.slice A len cap, .slice B len1 cap1] w fun e w' => e = .returned (.bool true) ∧ Only (fun _ => False) w w' := by
  obtain ⟨vs, hvl, hvs, h64⟩ := came_u64 hd
  obtain ⟨hl, hcap, hmax, hA, hs, hwf⟩ := hc
  obtain ⟨_, hcap1, hmax1, _, _, _⟩ := hd
  unfold maxLen at hmax hmax1
  have HW := Ost.hid hwf
  have H64 := Ost.hid h64
  have HL := Ost.hid hl
  have HVL := Ost.hid hvl
  clear hwf h64 hl hvl
  go_enter Try.func5, Try.ntmps5
  go_wp2_with (fail)
  refine (new_any [] none 0 0 w rfl (by omega) (Sees.nil _ _) (by simp)).mono ?_
  rintro e w1 ⟨bo, sv, rfl, hout1, honly1⟩
  rw [span_nil] at hout1
  go_wp2_with (fail)
  go_loopw [14] (fun i wr => ∃ (k : Nat) (sv : Value), k ≤ len ∧ i = .int .i64 k ∧ IsOut wr w.heap.size bo sv (backBits zs vs k) ∧ Only (fun _ => False) w wr) (fun i _ => len - (intOf i).toNat)
  case atStart => exact ⟨0, sv, Nat.zero_le _, rfl, hout1, honly1⟩
  case round =>
    obtain ⟨k, sv, hk, rfl, hout, ho⟩ := hrel
    by_cases hlt : k < len
    · have hkl : k < zs.length := by have := HL.out; omega
      obtain ⟨b, o, rfl, _, hcell⟩ := (hs.old ho (fun _ _ e => e)).at_ (j := k) (u := .int .i64 (zs.getD k 0)) (by simp [List.getD, hkl])
      obtain ⟨n, HN⟩ : ∃ n, Hid (zs.getD k 0 = n) := ⟨_, rfl⟩
      rw [HN.out] at hcell
      by_cases ht : k < len1 ∧ k < 30 ∧ 1 ≤ n ∧ n ≤ 64
      · obtain ⟨t1, t2, t3, t4⟩ := ht
        obtain ⟨n', rfl⟩ := Int.eq_ofNat_of_zero_le (show 0 ≤ n by omega)
        have hkv : k < vs.length := by have := HVL.out; omega
        obtain ⟨b1, o1, rfl, _, hcell1⟩ := (hvs.old ho (fun _ _ e => e)).at_ (u64s_get hkv)
        have hv : vs.getD k 0 < 2 ^ 64 := by rw [List.getD_eq_getElem?_getD, List.getElem?_eq_getElem hkv]; exact H64.out _ (List.getElem_mem _)
        have HB : Hid (backBits zs vs (k + 1) = backBits zs vs k ++ nums n' [vs.getD k 0]) := by
          show _ = _
          rw [backBits, if_pos (by unfold takes; rw [HN.out]; simp; omega), HN.out]
          simp [nums]
        have hle := backBits_le zs vs k
        generalize vs.getD k 0 = v at hcell1 hv HB
        go_wp2_with (first | (go_at_call 20; refine (right_yes _ _ (by omega) (by omega)).mono ?_; rintro e w' ⟨rfl, rfl⟩))
        refine (outBits_own w.heap.size bo n' 1 1 _ sv _ [v] _ (hout.alloc _) (by omega) (by omega) rfl (by omega) (by omega) (Sees.one (Has.new _ _ _)) ?_ (by simpa using hv)).mono ?_
        · intro i hi
          have := hout.blk
          simp [blockOf] at hi
          exact ⟨by omega, fun h => by have := this.2 i h; omega⟩
        rw [← HB.out]
        rintro e w2 ⟨rfl, sv2, hout2, hto2⟩
        have ho2 : Only (fun _ => False) w w2 := OutTo.old (ho.alloc _) (hout.alloc _) (Nat.le_refl _) hto2
        go_wp2
        go_roundw
        case rel => exact ⟨k + 1, sv2, by omega, by go_num, hout2, ho2⟩
        case measure => simp [intOf]; omega
      · have HB : Hid (backBits zs vs (k + 1) = backBits zs vs k) := by
          show _ = _
          rw [backBits, if_neg (by unfold takes; rw [HN.out]; have := HVL.out; simp; omega)]
        rw [← HB.out] at hout
        have ht2 : ¬ k < len1 ∨ (k < len1 ∧ (¬ k < 30 ∨ (k < 30 ∧ (n < 1 ∨ 64 < n)))) := by omega
        clear ht
        rcases ht2 with t | ⟨t1, t | ⟨t2, t⟩⟩
        all_goals
          go_wp2_with (first | (go_at_call 20; refine (right_no _ _ t).mono ?_; rintro e w' ⟨rfl, rfl⟩))
          go_roundw
          case rel => exact ⟨k + 1, sv, by omega, by go_num, hout, ho⟩
          case measure => simp [intOf]; omega
    · obtain rfl : k = len := by omega
      go_wp2_with (fail)
      refine (done_own _ bo sv _ _ hout).mono ?_
      rintro e w2 ⟨A2, c2, cs, hp, rfl, hown2, ho2⟩
      have ho2' : Only (fun _ => False) w w2 := ho.trans ho2 (fun _ _ e => e)
      have hcl := hp.2.1
      have hble := backBits_le zs vs k
      have hcl2 : cs.length ≤ 240 := by omega
      have HP := Ost.hid hp
      clear hout honly1 hout1 ho hcl hble
      go_wp2_with (fail)
      refine (of_any A2 cs.length c2 cs _ (Sees.of_own hown2) rfl (by rintro rfl; exact (own_nil_cap hown2).2) (by omega) HP.out.1).mono ?_
      rintro e w3 ⟨bi, sw, rfl, hin, ho3⟩
      have ho3' : Only (fun _ => False) w w3 := ho2'.trans ho3 (fun _ _ e => e)
      have hb3 := ho2'.size
      clear ho2 ho2' ho3 hown2
      go_wp2_with (fail)
      go_loopw [48] (fun i wr => ∃ (j : Nat), j ≤ k ∧ i = .int .i64 j ∧ IsIn wr w2.heap.size bi sw cs (backBits zs vs j).length 0 ∧ Only (fun _ => False) w wr) (fun i _ => k - (intOf i).toNat)
      case atStart => exact ⟨0, Nat.zero_le _, rfl, hin, ho3'⟩
      case round =>
        obtain ⟨j, hj, rfl, hin, ho⟩ := hrel
        by_cases hjt : j < k
        · have hkl : j < zs.length := by have := HL.out; omega
          obtain ⟨b, o, rfl, _, hcell⟩ := (hs.old ho (fun _ _ e => e)).at_ (j := j) (u := .int .i64 (zs.getD j 0)) (by simp [List.getD, hkl])
          obtain ⟨n, HN⟩ : ∃ n, Hid (zs.getD j 0 = n) := ⟨_, rfl⟩
          rw [HN.out] at hcell
          by_cases ht : j < len1 ∧ j < 30 ∧ 1 ≤ n ∧ n ≤ 64
          · obtain ⟨t1, t2, t3, t4⟩ := ht
            obtain ⟨n', rfl⟩ := Int.eq_ofNat_of_zero_le (show 0 ≤ n by omega)
            have hkv : j < vs.length := by have := HVL.out; omega
            obtain ⟨b1, o1, rfl, HB1, hcell1⟩ := (hvs.old ho (fun _ _ e => e)).at_ (u64s_get hkv)
            have HNE : ¬ b1 = bi := by
              obtain ⟨b2, o2, he2, hb2, _⟩ := hvs.at_ (u64s_get hkv)
              have := hin.1
              simp at he2
              omega
            have hv : vs.getD j 0 < 2 ^ 64 := by rw [List.getD_eq_getElem?_getD, List.getElem?_eq_getElem hkv]; exact H64.out _ (List.getElem_mem _)
            have HB : Hid (backBits zs vs (j + 1) = backBits zs vs j ++ num n' (vs.getD j 0)) := by
              show _ = _
              rw [backBits, if_pos (by unfold takes; rw [HN.out]; simp; omega), HN.out]
              simp
            generalize vs.getD j 0 = v at hcell1 hv HB
            have hsp : val (span cs (backBits zs vs j).length n') = val (num n' v) ∧ (backBits zs vs j).length + n' ≤ 8 * cs.length ∧ (backBits zs vs (j + 1)).length = (backBits zs vs j).length + n' := by
              obtain ⟨t, ht⟩ := backBits_pre zs vs (j + 1) (k - (j + 1))
              rw [show j + 1 + (k - (j + 1)) = k by omega, HB.out, List.append_assoc] at ht
              have hpk := HP.out
              rw [ht] at hpk
              have h1 := span_packs hpk
              rw [num_length] at h1
              have h2 := hpk.2.1
              simp only [List.length_append, num_length] at h2
              exact ⟨by rw [h1], by omega, by rw [HB.out, List.length_append, num_length]⟩
            have HS := Ost.hid hsp
            clear hsp
            obtain ⟨a, HA⟩ : ∃ a, Hid ((backBits zs vs j).length = a) := ⟨_, rfl⟩
            obtain ⟨x, HX⟩ : ∃ x, Hid (val (num n' v) = x) := ⟨_, rfl⟩
            rw [HA.out] at hin HS
            go_wp2_with (fail)
            have hlt1 : b1 < wr.heap.size := HB1
            have d1 : decide (j < len1) = true := by simpa using t1
            have d2 : decide ((j : Int) < (len1 : Int)) = true := by simpa using t1
            have d3 : decide ((j : Int) < 30) = true := by simp; omega
            go_region_held3 (fun w' => w'.cell? ⟨b1, o1 + j, none⟩ = some (.int .u64 (v : Int))) (first | exact hcell1 | exact hc5 | exact hc6)
              (first
              | (go_at_call 20; refine (right_yes _ _ (by omega) (by omega)).mono ?_; rintro e w' ⟨rfl, rfl⟩)
              | (go_at_call 17; refine (inBits_yes _ bi n' sw cs a wr.drew hin (by omega) (by omega) HS.out.2.1).mono ?_; rw [HS.out.1, HX.out]; rintro e w5 ⟨rfl, hin5, ho5⟩; have hc5 : w5.cell? ⟨b1, o1 + j, none⟩ = some (.int .u64 (v : Int)) := (ho5.cell (p := ⟨b1, o1 + j, none⟩) hlt1 HNE).trans hcell1)
              | (go_at_call 28; refine (refNum_any n' v _ (by omega) hv).mono ?_; rintro e w6 ⟨A6, c6, rfl, hown6, ho6⟩; have hc6 : w6.cell? ⟨b1, o1 + j, none⟩ = some (.int .u64 (v : Int)) := (ho6.cell (p := ⟨b1, o1 + j, none⟩) (Nat.lt_of_lt_of_le hlt1 ho5.size) (fun e => e)).trans hc5)
              | (go_at_call 18; refine (refVal_any A6 n' c6 (num n' v) _ (num_length _ _) (by omega) (Sees.of_own hown6)).mono ?_; rw [HX.out]; rintro e w7 ⟨rfl, rfl⟩))
            have hin6 : IsIn w6 w2.heap.size bi sw cs (backBits zs vs (j + 1)).length 0 := by
              rw [HS.out.2.2]; exact hin5.only ho6 (fun e => e) (fun _ _ e => e)
            have ho6' : Only (fun _ => False) w w6 := (IsIn.old (T := fun _ => False) ho hin hb3 (w2 := w5) ⟨ho5.os, ho5.tape, ho5.output, ho5.size, ho5.keep⟩).trans ho6 (fun _ _ e => e)
            go_wp2
            go_roundw
            case rel => exact ⟨j + 1, by omega, by go_num, hin6, ho6'⟩
            case measure => simp [intOf]; omega
          · have HB : Hid (backBits zs vs (j + 1) = backBits zs vs j) := by
              show _ = _
              rw [backBits, if_neg (by unfold takes; rw [HN.out]; have := HVL.out; simp; omega)]
            rw [← HB.out] at hin
            have ht2 : ¬ j < len1 ∨ (j < len1 ∧ (¬ j < 30 ∨ (j < 30 ∧ (n < 1 ∨ 64 < n)))) := by omega
            clear ht
            rcases ht2 with t | ⟨t1, t | ⟨t2, t⟩⟩
            · have d1 : decide (j < len1) = false := by simpa using t
              have d2 : decide ((j : Int) < (len1 : Int)) = false := by simp; omega
              go_wp2_with (fail)
              go_quiet (fail)
              go_wp2
              go_roundw
              case rel => exact ⟨j + 1, by omega, by go_num, hin.drewN _, ho.drewN _⟩
              case measure => simp [intOf]; omega
            · have d1 : decide (j < len1) = true := by simpa using t1
              have d2 : decide ((j : Int) < (len1 : Int)) = true := by simpa using t1
              have d3 : decide ((j : Int) < 30) = false := by simp; omega
              go_wp2_with (fail)
              go_quiet (fail)
              go_wp2
              go_roundw
              case rel => exact ⟨j + 1, by omega, by go_num, hin.drewN _, ho.drewN _⟩
              case measure => simp [intOf]; omega
            · have d1 : decide (j < len1) = true := by simpa using t1
              have d2 : decide ((j : Int) < (len1 : Int)) = true := by simpa using t1
              have d3 : decide ((j : Int) < 30) = true := by simp; omega
              go_wp2_with (fail)
              go_quiet ((go_at_call 20; exact Calls.quiet_of_same ((right_no _ _ t).mono fun _ _ h => ⟨h.1, h.2.symm⟩)))
              go_wp2
              go_roundw
              case rel => exact ⟨j + 1, by omega, by go_num, hin.drewN _, ho.drewN _⟩
              case measure => simp [intOf]; omega
        · obtain rfl : j = k := by omega
          go_wp2_with (fail)
          refine (err_own _ bi sw cs _ 0 _ hin).mono ?_
          rintro e w8 ⟨rfl, rfl⟩
          go_wp2_with (fail)
          refine (left_any _ bi sw cs _ 0 _ hin).mono ?_
          rw [if_pos rfl]
          rintro e w8 ⟨rfl, d, rfl⟩
          obtain ⟨z, HZ⟩ : ∃ z, Hid (8 * cs.length - (backBits zs vs j).length = z) := ⟨_, rfl⟩
          have hz : z < 8 := by have := HZ.out; have := HP.out.2.1; omega
          rw [HZ.out]
          go_wp2_with (fail)
          refine (awake_any _).mono ?_
          rintro e w9 ⟨rfl, h9⟩
          go_wp2
          go_ret
          exact ⟨rfl, (ho.drewN d).trans h9 (fun _ _ e => e)⟩
end Go.Proofs.Ytpdihllpcnnfdaa
