/- What In.Bytes and In.Rest answer of an In of the call's own, and where it stands behind each. -/
import Derived.Test.YtpdihllpcnnfdaaIn
import Derived.Laws.CopyOwn
set_option linter.unusedSimpArgs false
set_option linter.unusedVariables false
namespace Go.Proofs.Ytpdihllpcnnfdaa
open Go.RowKit Ost

/-- The n bytes from bit a on. -/
def cut (cs : List Nat) (a n : Nat) : List Nat := (List.range n).map fun k => val (span cs (a + 8 * k) 8)
theorem cut_length (cs : List Nat) (a n : Nat) : (cut cs a n).length = n := by simp [cut]
theorem cut_succ (cs : List Nat) (a n : Nat) : cut cs a (n + 1) = cut cs a n ++ [val (span cs (a + 8 * n) 8)] := by simp [cut, List.range_succ]
theorem cut_lt (cs : List Nat) (a n : Nat) : ∀ x ∈ cut cs a n, x < 256 := by
  intro x hx
  obtain ⟨k, _, rfl⟩ := List.mem_map.1 hx
  have := val_lt (span cs (a + 8 * k) 8)
  rw [span_length] at this; exact this

theorem val_span8 (cs : List Nat) (h : ∀ c ∈ cs, c < 256) (j : Nat) (hj : j < cs.length) : val (span cs (8 * j) 8) = cs.getD j 0 := by
  rw [span_val _ _ _ (by omega), show 8 * j / 8 = j by omega, show 8 - 8 * j % 8 - 8 = 0 by omega, Nat.pow_zero, Nat.div_one]
  apply Nat.mod_eq_of_lt
  rw [List.getD_eq_getElem?_getD, List.getElem?_eq_getElem hj]
  exact h _ (List.getElem_mem _)

theorem cut_aligned (cs : List Nat) (h : ∀ c ∈ cs, c < 256) (q n : Nat) (hq : q + n ≤ cs.length) : cut cs (8 * q) n = (cs.drop q).take n := by
  apply List.ext_getElem (by rw [cut_length, List.length_take, List.length_drop]; omega)
  intro k h1 h2
  rw [cut_length] at h1
  simp only [cut, List.getElem_map, List.getElem_range, List.getElem_take, List.getElem_drop]
  rw [show 8 * q + 8 * k = 8 * (q + k) by omega, val_span8 cs h _ (by omega)]
  simp [List.getD, show q + k < cs.length by omega]

theorem run_zerosB (w : World) (n : Nat) (hn : n ≤ 140737488355328) : (Instr.makeSlice 22 (.int .i64 (n : Int)) (.int .i64 (n : Int))).run Try.prog w = .ok (.slice (some ⟨w.heap.size, 0, none⟩) n n) (w.alloc (.cells (u8s (List.replicate n 0)).toArray 5)) := by
  obtain ⟨i0, hi, hz0, hz1, hz2⟩ := info_parts info5
  have hr := run_make (P := Try.prog) w 22 5 i0 (.int .u8 0) Try.underlying22 hi hz0 .i64 .i64 n n (by omega) (Int.le_refl _) (by rw [hz2]; omega) (by omega)
  rw [hr, hz1]
  have e : (madeCells #[Value.int .u8 0] n) = (u8s (List.replicate n 0)).toArray := by
    apply Array.toList_inj.1
    simp [toList_madeCells_one, u8s]
  simp [Value.cells, e]

/-- One byte more is laid. -/
theorem cut_set (cs : List Nat) (a n k : Nat) (hk : k < n) : (cut cs a k ++ List.replicate (n - k) 0).set k (val (span cs (a + 8 * k) 8)) = cut cs a (k + 1) ++ List.replicate (n - (k + 1)) 0 := by
  rw [cut_succ, List.append_assoc, List.set_append_right _ _ (Nat.le_of_eq (cut_length cs a k)), cut_length, Nat.sub_self]
  congr 1
  rw [show n - k = (n - (k + 1)) + 1 by omega, List.replicate_succ, List.set_cons_zero]; simp

theorem take_len (cs : List Nat) (q n : Nat) (h : q + n ≤ cs.length) : ((u8s (cs.drop q)).take n).length = Nat.min (cs.length - q) n := by
  rw [List.length_take, List.length_map, List.length_drop]
  exact Nat.min_comm _ _
theorem take_fit (cs : List Nat) (q n : Nat) : 0 + ((u8s (cs.drop q)).take n).length ≤ (u8s (List.replicate n 0)).length := by
  rw [List.length_take, List.length_map, List.length_map, List.length_replicate, Nat.zero_add]
  exact Nat.min_le_left _ _

set_option maxHeartbeats 1000000 in
theorem inBytes_yes (base bi n : Nat) (sv : Value) (cs : List Nat) (a : Nat) (w : World) (h : IsIn w base bi sv cs a 0) (hle : a + 8 * n ≤ 8 * cs.length) :
    Calls Try.prog 21 #[.pointer (some ⟨bi, 0, none⟩), .int .i64 n] w fun r w' => ∃ A c, r = .returned (.slice A n c) ∧ w'.ownsRow w.heap.size 5 1 (.slice A n c) n (u8s (cut cs a n)) ∧ IsIn w' base bi sv cs (a + 8 * n) 0 ∧ Only (fun k => k = bi) w w' := by
  have hlen := h.2.2.2.2.2
  obtain ⟨i0, hi, hz0, hz1, hz2⟩ := info_parts info5
  go_enter Try.func21, Try.ntmps21
  go_wp2_with (fail)
  refine (may_yes base bi n 8 _ cs a _ h (.inr rfl) (by omega)).mono ?_
  rintro e w1 ⟨rfl, d, hw1⟩
  have hsz : w1.heap.size = w.heap.size := by rw [hw1]; rfl
  have h1 : IsIn w1 base bi sv cs a 0 := hw1 ▸ h.drewN d
  have HO : Hid (Only (fun k => k = bi) w w1) := hw1 ▸ (Only.refl _ w).drewN d
  clear hw1
  have HSZ := Ost.hid hsz
  clear hsz
  have hbi := h1.blk.2.1
  go_wp2_with (at_make; refine wpList_make_full _ rfl _ _ 22 rfl w.heap.size 5 i0 (.int .u8 0) 1 Try.underlying22 hi hz0 hz1 .i64 .i64 _ _ n rfl rfl rfl rfl (by rw [hz2]; omega) (by unfold maxLen; omega) (by rw [HSZ.out]; exact Nat.le_refl _) ?_)
  intro W hownW hgW
  have hhasW : Has W w1.heap.size 5 (u8s (List.replicate n 0)).toArray := by
    rcases hownW.2 with ⟨hv, _⟩ | ⟨g, cap, cur, hv, _, hg, _, _, hcs, htake⟩
    · cases hv
    · injection hv with e1 e2 e3
      injection e1 with e1
      injection e1 with e1
      subst e1 e3
      unfold Has
      rw [hg]
      congr 2
      apply Array.toList_inj.1
      have h1 : cur.toList.take (n * 1) = cur.toList := List.take_of_length_le (by simp; omega)
      rw [h1] at htake
      rw [htake]
      simp [toList_madeCells_one, u8s]
  have hoW : Only (fun _ => False) w1 W := ⟨hgW.os, hgW.tape, hgW.output, hgW.size, fun k hk _ => hgW.block k hk (by simp)⟩
  have hinW := h1.only hoW (fun e => e) (fun _ _ e => e)
  have HOW : Hid (Only (fun k => k = bi) w W) := HO.out.trans hoW (fun _ _ e => e.elim)
  clear hgW hoW hownW HO
  have hc0 := hinW.2.1.cell 0
  have hc1 := hinW.2.1.cell 1
  have hf1 := hinW.2.1.free 1
  have hown := hinW.2.2.1
  have h256 := Ost.hid hinW.2.2.2.1
  obtain ⟨A, c, rfl, hAb, hnc, hcm⟩ := own_form hown
  have hA0 : A = none → c = 0 := by rintro rfl; exact (own_nil_cap hown).2
  simp at hc0 hc1
  have hsz1 := hhasW.lt
  by_cases hal : a % 8 = 0
  · have hal2 : ((a : Int) % 8 == 0) = true := by simp; omega
    obtain ⟨q, HQ⟩ : ∃ q, Hid (a = 8 * q) := ⟨a / 8, by show _ = _; omega⟩
    have hq : q + n ≤ cs.length := by have := HQ.out; omega
    have hqc : q ≤ c := by omega
    have hqle : q ≤ cs.length := by omega
    have hqw : IntKind.i64.wrap ((a : Int) / 8) = (q : Int) := by rw [IntWalk.i64_in _ (by omega)]; have := HQ.out; omega
    have hsee := Ost.hid ((Sees.of_own hown).at_cut q c (by simpa [u8s] using hnc))
    have HC : Hid ((u8s (cs.drop q)).take n = u8s (cut cs a n)) := by
      have := cut_aligned cs h256.out q n hq
      rw [← HQ.out] at this
      show _ = _
      rw [this]; simp [u8s, List.map_take]
    have HPOS : Hid (0 < ((u8s (cs.drop q)).take n).length → (some ⟨w1.heap.size, 0, none⟩ : Option Addr) = some ⟨w1.heap.size, 0, none⟩ ∧ ∃ ad, (if c = q then A else A.map (·.add q)) = some ad ∧ ∀ j v, ((u8s (cs.drop q)).take n)[j]? = some v → W.drew.cell? (ad.add j) = some v) := by
      intro hp
      have e : (u8s cs).drop q = u8s (cs.drop q) := by simp [u8s, List.map_drop]
      have h2 := (hsee.out).take n
      rw [e] at h2
      refine ⟨rfl, ?_⟩
      rcases h2 with h2 | ⟨b, o, he, h2⟩
      · rw [h2] at hp; simp at hp
      · exact ⟨_, he, fun j v hv => by rw [Addr.add_lit]; exact h2 j v hv⟩
    obtain ⟨sp, hspe⟩ : ∃ sp, (if c = q then A else Option.map (fun x => x.add q) A) = sp := ⟨_, rfl⟩
    rw [hspe] at HPOS
    clear hsee
    go_wp2_with (fail)
    go_region_law ((refine step_copy_splice rfl (.tmp 21) (.tmp 31) 22 22 rfl 5 Try.underlying22 (by kernel_rfl) (some ⟨w1.heap.size, 0, none⟩) sp n n (cs.length - q) (c - q) (by simp [Act.eval, Act.put]) (by simp [Act.eval, Act.put]) w1.heap.size 0 (u8s (List.replicate n 0)) 5 hhasW ((u8s (cs.drop q)).take n) (take_len cs q n hq) (fun hp => ⟨rfl, (HPOS.out hp).2⟩) (take_fit cs q n) (fun v hv => u8s_oneCell _ v (List.mem_of_mem_take hv)) w1.heap.size W ((Below.refl _ _).drew) (Nat.le_refl _) ?_
                    intro W2 hW2 hB2))
    all_goals
      clear hqw hspe
      have HW2 : Hid (Has W2 w1.heap.size 5 (u8s (cut cs a n)).toArray) := by
        have := hW2.out
        rw [HC.out] at this
        have e : splice (u8s (List.replicate n 0)) 0 (u8s (cut cs a n)) = u8s (cut cs a n) := by
          simp [splice, cut_length]
        rw [e] at this
        exact this
      have hin2 : IsIn W2 base bi (.slice A cs.length c) cs a 0 := by
        refine ⟨hinW.1, (hB2.block bi hbi).trans hinW.2.1, ?_, hinW.2.2.2⟩
        refine own_only (T := fun k => w1.heap.size ≤ k) hown ⟨hB2.os, hB2.tape, hB2.output, hB2.size, fun k hk hn => hB2.block k (by omega)⟩ ?_
        intro k hk
        have := (h1.blk.2.2 k hk).2; omega
      have ho2 : Only (fun k => k = bi) w W2 := HOW.out.trans (T' := fun k => w1.heap.size ≤ k) ⟨hB2.os, hB2.tape, hB2.output, hB2.size, fun k hk hn => hB2.block k (by omega)⟩ (fun i hi e => by have := HSZ.out; omega)
      clear hW2 hB2
      have hd1 := hin2.2.1.cell 1
      have hg1 := hin2.2.1.free 1
      simp at hd1
      go_wp2
      go_ret
      refine ⟨some ⟨w1.heap.size, 0, none⟩, n, rfl, ?_, ?_, ho2.setCell (p := ⟨bi, 1, none⟩) (fun _ => rfl) _⟩
      · have hh := (HW2.out.away (p := ⟨bi, 1, none⟩) (by simp; omega) (.int .i64 ((a : Int) + 8 * (n : Int))))
        refine ⟨by rw [List.length_map, cut_length]; omega, .inr ⟨_, _, _, rfl, by rw [HSZ.out]; exact Nat.le_refl _, hh, Nat.le_refl _, by unfold maxLen; omega, by simp [cut_length], ?_⟩⟩
        rw [Nat.mul_one]
        exact List.take_of_length_le (by simp [cut_length])
      · have := hin2.setAt (a + 8 * n) hle
        simpa using this
  · have hal2 : ((a : Int) % 8 == 0) = false := by simp; omega
    go_wp2_with (fail)
    clear hc0 hc1 hf1
    go_loopw [35] (fun i wr => ∃ k : Nat, k ≤ n ∧ i = .int .i64 k ∧ Has wr w1.heap.size 5 (u8s (cut cs a k ++ List.replicate (n - k) 0)).toArray ∧ IsIn wr base bi (.slice A cs.length c) cs a 0 ∧ Only (fun k => k = bi) w wr) (fun i _ => n - (intOf i).toNat)
    case atStart => exact ⟨0, Nat.zero_le _, rfl, by simpa [cut] using hhasW, hinW, HOW.out⟩
    case round =>
      obtain ⟨k, hk, rfl, hhas, hin, ho⟩ := hrel
      by_cases hlt : k < n
      · have hc0 := hin.2.1.cell 0
        have hc1 := hin.2.1.cell 1
        simp at hc0 hc1
        obtain ⟨y, hy⟩ : ∃ y, wr.cell? ⟨w1.heap.size, k, none⟩ = some y := by
          rw [hhas.cell]
          exact ⟨_, Array.getElem?_eq_getElem (by simp [cut_length]; omega)⟩
        have hyf := hhas.free k
        have hown := hin.2.2.1
        obtain ⟨p, HP⟩ : ∃ p, Hid (a + 8 * k = p) := ⟨_, rfl⟩
        have hw1 : IntKind.i64.wrap (8 * (k : Int)) = 8 * (k : Int) := IntWalk.i64_in _ (by omega)
        have hw2 : IntKind.i64.wrap ((a : Int) + 8 * (k : Int)) = (p : Int) := by rw [IntWalk.i64_in _ (by omega)]; have := HP.out; omega
        have hp8 : p + 8 ≤ 8 * cs.length := by have := HP.out; omega
        have hv := val_lt (span cs p 8)
        rw [span_length] at hv
        obtain ⟨x, HX⟩ : ∃ x, Hid (val (span cs p 8) = x) := ⟨_, rfl⟩
        rw [HX.out] at hv
        have hx : x < 256 := hv
        have hxw : IntKind.u8.wrap (x : Int) = (x : Int) := by rw [IntKind.wrap_u8]; omega
        clear hv
        have HST : Hid (Has (wr.setCell ⟨w1.heap.size, k, none⟩ (.int .u8 (x : Int))) w1.heap.size 5 (u8s (cut cs a (k + 1) ++ List.replicate (n - (k + 1)) 0)).toArray) := by
          have h1 := hhas.put k (.int .u8 (x : Int))
          have e : (u8s (cut cs a k ++ List.replicate (n - k) 0)).toArray.setIfInBounds k (.int .u8 (x : Int)) = (u8s (cut cs a (k + 1) ++ List.replicate (n - (k + 1)) 0)).toArray := by
            rw [← cut_set cs a n k hlt, HP.out, HX.out, ← u8s_set]
            simp
          rw [e] at h1
          exact h1
        have hkn : (k : Int) < (n : Int) := by omega
        go_wp2_with (fail)
        go_region_with (go_at_call 36; refine (load_any A c p 8 cs wr.drew (by omega) hp8 (by omega) h256.out (Sees.of_own (w := wr.drew) hown)).mono ?_; rw [HX.out]; rintro e w5 ⟨rfl, d5, rfl⟩)
        all_goals
          clear hw1 hw2 hxw hc0 hc1 hy hyf
          have hbne : ¬ bi = w1.heap.size := by omega
          have HIN2 : Hid (IsIn (wr.setCell ⟨w1.heap.size, k, none⟩ (.int .u8 (x : Int))) base bi (.slice A cs.length c) cs a 0) :=
            hin.only ((Only.refl (fun i => i = w1.heap.size) wr).setCell (p := ⟨w1.heap.size, k, none⟩) (fun _ => rfl) _) hbne (fun i hi (e : i = w1.heap.size) => by have := (h1.blk.2.2 i hi).2; omega)
          have hne2 : ∀ d, Only (fun k => k = bi) w ((wr.drewN d).setCell ⟨w1.heap.size, k, none⟩ (.int .u8 (x : Int))) := fun d =>
            (ho.drewN d).setCell (p := ⟨w1.heap.size, k, none⟩) (fun (h : w1.heap.size < w.heap.size) => by have := HSZ.out; omega) _
          have HO2 := Ost.hid hne2
          clear hne2 hbne
          go_wp2
          go_roundw
          case rel => exact ⟨k + 1, by omega, by go_num, HST.out, HIN2.out, HO2.out _⟩
          case measure => simp [intOf]; omega
      · obtain rfl : k = n := by omega
        rw [Nat.sub_self, List.replicate_zero, List.append_nil] at hhas
        have hd1 := hin.2.1.cell 1
        have hg1 := hin.2.1.free 1
        simp at hd1
        go_wp2
        go_ret
        refine ⟨some ⟨w1.heap.size, 0, none⟩, k, rfl, ?_, ?_, ho.setCell (p := ⟨bi, 1, none⟩) (fun _ => rfl) _⟩
        · have hbne : ¬ w1.heap.size = bi := by omega
          have hh := (hhas.away (p := ⟨bi, 1, none⟩) hbne (.int .i64 ((a : Int) + 8 * (k : Int))))
          refine ⟨by rw [List.length_map, cut_length]; omega, .inr ⟨_, _, _, rfl, by rw [HSZ.out]; exact Nat.le_refl _, hh, Nat.le_refl _, by unfold maxLen; omega, by simp [cut_length], ?_⟩⟩
          rw [Nat.mul_one]
          exact List.take_of_length_le (by simp [cut_length])
        · have := hin.setAt (a + 8 * k) hle
          simpa using this
end Go.Proofs.Ytpdihllpcnnfdaa
