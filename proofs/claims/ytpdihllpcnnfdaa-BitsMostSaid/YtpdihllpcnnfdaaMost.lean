/- BitsMost's walk: there are 2^16 bytes at most, whichever way they come: the law returns true and leaves old memory as it was. No condition. -/
import Derived.Test.YtpdihllpcnnfdaaBytes
import Derived.Test.YtpdihllpcnnfdaaCame
set_option linter.unusedSimpArgs false
set_option linter.unusedVariables false
namespace Go.Proofs.Ytpdihllpcnnfdaa
open Go.RowKit Ost

/-- n noughts. -/
abbrev zeros (n : Nat) : List Nat := List.replicate n 0

theorem madeBytes (n : Nat) : (madeCells #[Value.int .u8 0] n) = (u8s (zeros n)).toArray := by
  apply Array.toList_inj.1
  simp [toList_madeCells_one, u8s]
theorem madeNums (n : Nat) : (madeCells #[Value.int .u64 0] n) = (u64s (zeros n)).toArray := by
  apply Array.toList_inj.1
  simp [toList_madeCells_one, u64s]

theorem info47 : (Try.prog.info? 47).map (fun i => (i.zero, i.size, i.bytes)) = some (some (.int .u64 0), 1, 8) := by kernel_rfl

theorem run_zeros (w : World) (n : Nat) (hn : n ≤ 1048576) : (Instr.makeSlice 22 (.int .i64 (n : Int)) (.int .i64 (n : Int))).run Try.prog w = .ok (.slice (some ⟨w.heap.size, 0, none⟩) n n) (w.alloc (.cells (u8s (zeros n)).toArray 5)) := by
  obtain ⟨i0, hi, hz0, hz1, hz2⟩ := info_parts info5
  have hr := run_make (P := Try.prog) w 22 5 i0 (.int .u8 0) Try.underlying22 hi hz0 .i64 .i64 n n (by omega) (Int.le_refl _) (by rw [hz2]; omega) (by omega)
  rw [hr, hz1]
  simp [madeBytes, Value.cells]

theorem run_zeros64 (w : World) (n : Nat) (hn : n ≤ 1048576) : (Instr.makeSlice 28 (.int .i64 (n : Int)) (.int .i64 (n : Int))).run Try.prog w = .ok (.slice (some ⟨w.heap.size, 0, none⟩) n n) (w.alloc (.cells (u64s (zeros n)).toArray 47)) := by
  obtain ⟨i0, hi, hz0, hz1, hz2⟩ := info_parts info47
  have hr := run_make (P := Try.prog) w 28 47 i0 (.int .u64 0) Try.underlying28 hi hz0 .i64 .i64 n n (by omega) (Int.le_refl _) (by rw [hz2]; omega) (by omega)
  rw [hr, hz1]
  simp [madeNums, Value.cells]

theorem part_zeros {w : World} {b n : Nat} (h : Has w b 5 (u8s (zeros n)).toArray) (hn : n ≤ 1048576) : Part w (.slice (some ⟨b, 0, none⟩) n n) (zeros n) := by
  refine ⟨some ⟨b, 0, none⟩, n, by simp, by simp, (fun h => by cases h), ?_, by omega, by simp⟩
  have := Sees.one h
  simpa using this
theorem part_of {w : World} {b n : Nat} {z : List Nat} (h : Has w b 5 (u8s z).toArray) (hz : z = zeros n) (hn : n ≤ 1048576) : Part w (.slice (some ⟨b, 0, none⟩) n n) z := by
  subst hz; exact part_zeros h hn

/-- An Out of so many bits, made of bytes, all else as it was. -/
def Made (w : World) (len : Nat) (e : Ending) (w' : World) : Prop :=
  ∃ B bo sv l, e = .returned (.pointer (some ⟨bo, 0, none⟩)) ∧ IsOut w' B bo sv l ∧ w.heap.size ≤ B ∧ l.length = len ∧ Only (fun _ => False) w w'

theorem joined_two (v1 v2 : Value) (n1 n2 : Nat) : (joined [(v1, zeros n1), (v2, zeros n2)]).length = min 65536 (n1 + n2) := by
  simp [joined]

theorem new_two_a (w : World) (z1 z2 : List Nat) (n1 n2 : Nat) (h1 : z1 = zeros n1) (h2 : z2 = zeros n2) (b1 : n1 ≤ 1048576) (b2 : n2 ≤ 1048576) :
    Calls Try.prog 9 #[.slice (some ⟨w.heap.size + 1 + 1, 0, none⟩) 2 2] (((w.alloc (.cells (u8s z1).toArray 5)).alloc (.cells (u8s z2).toArray 5)).alloc (.cells #[.slice (some ⟨w.heap.size, 0, none⟩) n1 n1, .slice (some ⟨w.heap.size + 1, 0, none⟩) n2 n2] 22)).drew
      (Made w (8 * min 65536 (n1 + n2))) := by
  have g1 : Has (((w.alloc (.cells (u8s z1).toArray 5)).alloc (.cells (u8s z2).toArray 5)).alloc (.cells #[.slice (some ⟨w.heap.size, 0, none⟩) n1 n1, .slice (some ⟨w.heap.size + 1, 0, none⟩) n2 n2] 22)).drew w.heap.size 5 (u8s z1).toArray := ((Has.new w 5 _).alloc _).alloc _
  have g2 : Has (((w.alloc (.cells (u8s z1).toArray 5)).alloc (.cells (u8s z2).toArray 5)).alloc (.cells #[.slice (some ⟨w.heap.size, 0, none⟩) n1 n1, .slice (some ⟨w.heap.size + 1, 0, none⟩) n2 n2] 22)).drew (w.heap.size + 1) 5 (u8s z2).toArray := by
    have := (Has.new (w.alloc (.cells (u8s z1).toArray 5)) 5 (u8s z2).toArray).alloc (.cells #[.slice (some ⟨w.heap.size, 0, none⟩) n1 n1, .slice (some ⟨w.heap.size + 1, 0, none⟩) n2 n2] 22)
    simp at this; exact this
  have g3 : Has (((w.alloc (.cells (u8s z1).toArray 5)).alloc (.cells (u8s z2).toArray 5)).alloc (.cells #[.slice (some ⟨w.heap.size, 0, none⟩) n1 n1, .slice (some ⟨w.heap.size + 1, 0, none⟩) n2 n2] 22)).drew (w.heap.size + 1 + 1) 22 #[.slice (some ⟨w.heap.size, 0, none⟩) n1 n1, .slice (some ⟨w.heap.size + 1, 0, none⟩) n2 n2] := by
    have := Has.new ((w.alloc (.cells (u8s z1).toArray 5)).alloc (.cells (u8s z2).toArray 5)) 22 #[.slice (some ⟨w.heap.size, 0, none⟩) n1 n1, .slice (some ⟨w.heap.size + 1, 0, none⟩) n2 n2]
    simp at this; exact this
  refine (new_any [(.slice (some ⟨w.heap.size, 0, none⟩) n1 n1, z1), (.slice (some ⟨w.heap.size + 1, 0, none⟩) n2 n2, z2)] _ 2 2 _ rfl (by omega) (Sees.one g3) ?_).mono ?_
  · intro p hp
    simp only [List.mem_cons, List.not_mem_nil, or_false] at hp
    rcases hp with rfl | rfl
    · exact part_of g1 h1 b1
    · exact part_of g2 h2 b2
  · rintro e w' ⟨bo, sv, rfl, hout, ho⟩
    refine ⟨_, bo, sv, _, rfl, hout, by simp; omega, ?_, (((((Only.refl _ w).alloc _).alloc _).alloc _).drew).trans ho (fun _ _ e => e)⟩
    rw [span_length, h1, h2, joined_two]

theorem new_two_b (w : World) (z1 z2 : List Nat) (n1 n2 : Nat) (h1 : z1 = zeros n1) (h2 : z2 = zeros n2) (b1 : n1 ≤ 1048576) (b2 : n2 ≤ 1048576) :
    Calls Try.prog 9 #[.slice (some ⟨w.heap.size + 1 + 1, 0, none⟩) 2 2] (((w.alloc (.cells (u8s z2).toArray 5)).alloc (.cells (u8s z1).toArray 5)).alloc (.cells #[.slice (some ⟨w.heap.size + 1, 0, none⟩) n1 n1, .slice (some ⟨w.heap.size, 0, none⟩) n2 n2] 22)).drew
      (Made w (8 * min 65536 (n1 + n2))) := by
  have g1 : Has (((w.alloc (.cells (u8s z2).toArray 5)).alloc (.cells (u8s z1).toArray 5)).alloc (.cells #[.slice (some ⟨w.heap.size + 1, 0, none⟩) n1 n1, .slice (some ⟨w.heap.size, 0, none⟩) n2 n2] 22)).drew w.heap.size 5 (u8s z2).toArray := ((Has.new w 5 _).alloc _).alloc _
  have g2 : Has (((w.alloc (.cells (u8s z2).toArray 5)).alloc (.cells (u8s z1).toArray 5)).alloc (.cells #[.slice (some ⟨w.heap.size + 1, 0, none⟩) n1 n1, .slice (some ⟨w.heap.size, 0, none⟩) n2 n2] 22)).drew (w.heap.size + 1) 5 (u8s z1).toArray := by
    have := (Has.new (w.alloc (.cells (u8s z2).toArray 5)) 5 (u8s z1).toArray).alloc (.cells #[.slice (some ⟨w.heap.size + 1, 0, none⟩) n1 n1, .slice (some ⟨w.heap.size, 0, none⟩) n2 n2] 22)
    simp at this; exact this
  have g3 : Has (((w.alloc (.cells (u8s z2).toArray 5)).alloc (.cells (u8s z1).toArray 5)).alloc (.cells #[.slice (some ⟨w.heap.size + 1, 0, none⟩) n1 n1, .slice (some ⟨w.heap.size, 0, none⟩) n2 n2] 22)).drew (w.heap.size + 1 + 1) 22 #[.slice (some ⟨w.heap.size + 1, 0, none⟩) n1 n1, .slice (some ⟨w.heap.size, 0, none⟩) n2 n2] := by
    have := Has.new ((w.alloc (.cells (u8s z2).toArray 5)).alloc (.cells (u8s z1).toArray 5)) 22 #[.slice (some ⟨w.heap.size + 1, 0, none⟩) n1 n1, .slice (some ⟨w.heap.size, 0, none⟩) n2 n2]
    simp at this; exact this
  refine (new_any [(.slice (some ⟨w.heap.size + 1, 0, none⟩) n1 n1, z1), (.slice (some ⟨w.heap.size, 0, none⟩) n2 n2, z2)] _ 2 2 _ rfl (by omega) (Sees.one g3) ?_).mono ?_
  · intro p hp
    simp only [List.mem_cons, List.not_mem_nil, or_false] at hp
    rcases hp with rfl | rfl
    · exact part_of g2 h1 b1
    · exact part_of g1 h2 b2
  · rintro e w' ⟨bo, sv, rfl, hout, ho⟩
    refine ⟨_, bo, sv, _, rfl, hout, by simp; omega, ?_, (((((Only.refl _ w).alloc _).alloc _).alloc _).drew).trans ho (fun _ _ e => e)⟩
    rw [span_length, h1, h2, joined_two]

theorem new_one (w : World) (z : List Nat) (n : Nat) (h1 : z = zeros n) (b1 : n ≤ 1048576) :
    Calls Try.prog 9 #[.slice (some ⟨w.heap.size + 1, 0, none⟩) 1 1] ((w.alloc (.cells (u8s z).toArray 5)).alloc (.cells #[.slice (some ⟨w.heap.size, 0, none⟩) n n] 22))
      (Made w (8 * min 65536 n)) := by
  have g1 : Has ((w.alloc (.cells (u8s z).toArray 5)).alloc (.cells #[.slice (some ⟨w.heap.size, 0, none⟩) n n] 22)) w.heap.size 5 (u8s z).toArray := (Has.new w 5 _).alloc _
  have g3 : Has ((w.alloc (.cells (u8s z).toArray 5)).alloc (.cells #[.slice (some ⟨w.heap.size, 0, none⟩) n n] 22)) (w.heap.size + 1) 22 #[.slice (some ⟨w.heap.size, 0, none⟩) n n] := by
    have := Has.new (w.alloc (.cells (u8s z).toArray 5)) 22 #[.slice (some ⟨w.heap.size, 0, none⟩) n n]
    simp at this; exact this
  refine (new_any [(.slice (some ⟨w.heap.size, 0, none⟩) n n, z)] _ 1 1 _ rfl (by omega) (Sees.one g3) ?_).mono ?_
  · intro p hp
    simp only [List.mem_cons, List.not_mem_nil, or_false] at hp
    subst hp
    exact part_of g1 h1 b1
  · rintro e w' ⟨bo, sv, rfl, hout, ho⟩
    refine ⟨_, bo, sv, _, rfl, hout, by simp; omega, ?_, ((((Only.refl _ w).alloc _).alloc _)).trans ho (fun _ _ e => e)⟩
    rw [span_length, h1]; simp [joined]

set_option maxRecDepth 100000 in
set_option maxHeartbeats 1000000 in
theorem most_yes (over : Int) (way : Bool) (r : Nat) (w : World) (hr : over.tmod 20 = (r : Int)) (hr2 : r < 20) :
    Calls Try.prog 6 #[.int .i64 over, .bool way] w fun e w' => e = .returned (.bool true) ∧ Only (fun _ => False) w w' := by
  obtain ⟨z1, HZ1⟩ : ∃ z, Hid (z = zeros 100) := ⟨_, rfl⟩
  obtain ⟨n2, HN2⟩ : ∃ n2, Hid (n2 = 65436 + r) := ⟨_, rfl⟩
  have hn2 : n2 ≤ 70000 := by have := HN2.out; omega
  obtain ⟨z2, HZ2⟩ : ∃ z, Hid (z = zeros n2) := ⟨_, rfl⟩
  have hm1 : ∀ w, (Instr.makeSlice 22 (.int .i64 100) (.int .i64 100)).run Try.prog w = .ok (.slice (some ⟨w.heap.size, 0, none⟩) 100 100) (w.alloc (.cells (u8s z1).toArray 5)) := fun w => by rw [HZ1.out]; exact run_zeros w 100 (by omega)
  have hm2 : ∀ w, (Instr.makeSlice 22 (.int .i64 (n2 : Int)) (.int .i64 (n2 : Int))).run Try.prog w = .ok (.slice (some ⟨w.heap.size, 0, none⟩) n2 n2) (w.alloc (.cells (u8s z2).toArray 5)) := fun w => by rw [HZ2.out]; exact run_zeros w n2 (by omega)
  have hw1 : IntKind.i64.wrap (65436 + (r : Int)) = (n2 : Int) := by rw [IntWalk.i64_in _ (by omega)]; have := HN2.out; omega
  have HL : Hid (8 * min 65536 (100 + n2) = 524288) := by have := HN2.out; show _ = _; omega
  go_enter Try.func6, Try.ntmps6
  go_wp2_with (fail)
  go_region_with (first
    | (go_at_call 9; refine (new_two_a w z1 z2 100 n2 HZ1.out HZ2.out (by omega) (by omega)).mono ?_; rw [HL.out]; rintro e w1 ⟨B, bo, sv, l, rfl, hout, hB, hlen, ho⟩)
    | (go_at_call 9; refine (new_two_b w z1 z2 100 n2 HZ1.out HZ2.out (by omega) (by omega)).mono ?_; rw [HL.out]; rintro e w1 ⟨B, bo, sv, l, rfl, hout, hB, hlen, ho⟩))
  all_goals
    clear hm1 hm2 hw1
    go_wp2_with (fail)
    refine (len_own B bo sv l _ hout).mono ?_
    rw [hlen]
    rintro e w2 ⟨rfl, rfl⟩
    go_wp2_with (fail)
    refine (outBits_full B bo 1 1 1 _ sv l _ (hout.alloc _) (by omega) (by omega) (by omega)).mono ?_
    rintro e w2 ⟨rfl, rfl⟩
    go_wp2_with (fail)
    refine (outBytes_full B bo 1 1 _ sv l [1] (.slice (some ⟨w1.heap.size + 1, 0, none⟩) 1 1) _ (((hout.alloc _).alloc _).alloc _) (by simp; omega) (Sees.one (by have := Has.new ((w1.alloc (.cells #[.int .u64 1] 47)).alloc (.cells #[.int .u8 1] 5)) 22 #[.slice (some ⟨w1.heap.size + 1, 0, none⟩) 1 1]; simp at this; exact this)) ?_).mono ?_
    · refine ⟨_, 1, rfl, by simp, (fun h => by cases h), ?_, by omega, by simp⟩
      have := Sees.one ((Has.new (w1.alloc (.cells #[.int .u64 1] 47)) 5 #[.int .u8 1]).alloc (.cells #[.slice (some ⟨w1.heap.size + 1, 0, none⟩) 1 1] 22))
      simp at this
      exact this
    rintro e w2 ⟨rfl, rfl⟩
    go_wp2_with (fail)
    refine (outBytes_own B bo 0 0 none sv l [] _ (((hout.alloc _).alloc _).alloc _) rfl (by omega) (by simp [total]; omega) (Sees.nil _ _) (by simp) (by simp [blockOf]) (by simp)).mono ?_
    rintro e w2 ⟨rfl, sv2, hout2, hto2⟩
    have ho2 : Only (fun _ => False) w w2 := OutTo.old (((ho.alloc _).alloc _).alloc _) (((hout.alloc _).alloc _).alloc _) hB hto2
    go_wp2_with (fail)
    refine (awake_any _).mono ?_
    rintro e w3 ⟨rfl, h3⟩
    go_wp2
    go_ret
    exact ⟨rfl, ho2.trans h3 (fun _ _ e => e)⟩

set_option maxRecDepth 100000 in
set_option maxHeartbeats 1000000 in
theorem most_no (over : Int) (way : Bool) (n : Nat) (w : World) (hr : over.tmod 20 = -(n : Int)) (hn1 : 1 ≤ n) (hr2 : n < 20) :
    Calls Try.prog 6 #[.int .i64 over, .bool way] w fun e w' => e = .returned (.bool true) ∧ Only (fun _ => False) w w' := by
  obtain ⟨z1, HZ1⟩ : ∃ z, Hid (z = zeros 100) := ⟨_, rfl⟩
  obtain ⟨n2, HN2⟩ : ∃ n2, Hid (n2 + n = 65436) := ⟨65436 - n, by show _ = _; omega⟩
  have hn2 : n2 ≤ 70000 := by have := HN2.out; omega
  obtain ⟨z2, HZ2⟩ : ∃ z, Hid (z = zeros n2) := ⟨_, rfl⟩
  obtain ⟨n3, HN3⟩ : ∃ n3, Hid (n3 + n = 65536) := ⟨65536 - n, by show _ = _; omega⟩
  have hn3 : n3 ≤ 70000 := by have := HN3.out; omega
  obtain ⟨z3, HZ3⟩ : ∃ z, Hid (z = zeros n3) := ⟨_, rfl⟩
  obtain ⟨n1, HN1⟩ : ∃ n1, Hid (n1 + 1 = n) := ⟨n - 1, by show _ = _; omega⟩
  obtain ⟨z4, HZ4⟩ : ∃ z, Hid (z = zeros n1) := ⟨_, rfl⟩
  obtain ⟨z5, HZ5⟩ : ∃ z, Hid (z = zeros n) := ⟨_, rfl⟩
  have hm1 : ∀ w, (Instr.makeSlice 22 (.int .i64 100) (.int .i64 100)).run Try.prog w = .ok (.slice (some ⟨w.heap.size, 0, none⟩) 100 100) (w.alloc (.cells (u8s z1).toArray 5)) := fun w => by rw [HZ1.out]; exact run_zeros w 100 (by omega)
  have hm2 : ∀ w, (Instr.makeSlice 22 (.int .i64 (n2 : Int)) (.int .i64 (n2 : Int))).run Try.prog w = .ok (.slice (some ⟨w.heap.size, 0, none⟩) n2 n2) (w.alloc (.cells (u8s z2).toArray 5)) := fun w => by rw [HZ2.out]; exact run_zeros w n2 (by omega)
  have hw1 : IntKind.i64.wrap (65436 + -(n : Int)) = (n2 : Int) := by rw [IntWalk.i64_in _ (by omega)]; have := HN2.out; omega
  have HL : Hid (8 * min 65536 (100 + n2) + 8 * n = 524288) := by have := HN2.out; show _ = _; omega
  go_enter Try.func6, Try.ntmps6
  go_wp2_with (fail)
  go_region_with (first
    | (go_at_call 9; refine (new_two_a w z1 z2 100 n2 HZ1.out HZ2.out (by omega) (by omega)).mono ?_; rintro e w1 ⟨B, bo, sv, l, rfl, hout, hB, hlen, ho⟩)
    | (go_at_call 9; refine (new_two_b w z1 z2 100 n2 HZ1.out HZ2.out (by omega) (by omega)).mono ?_; rintro e w1 ⟨B, bo, sv, l, rfl, hout, hB, hlen, ho⟩))
  all_goals
    have HLEN : Hid (l.length + 8 * n = 524288) := by show _ = _; rw [hlen]; exact HL.out
    clear hm1 hm2 hw1 hlen
    have hneg : ¬ (0 : Int) ≤ -(n : Int) := by omega
    have hm3 : ∀ w, (Instr.makeSlice 28 (.int .i64 (n : Int)) (.int .i64 (n : Int))).run Try.prog w = .ok (.slice (some ⟨w.heap.size, 0, none⟩) n n) (w.alloc (.cells (u64s z5).toArray 47)) := fun w => by rw [HZ5.out]; exact run_zeros64 w n (by omega)
    go_wp2_with (fail)
    have hl64 : l.length + n * 8 ≤ 524288 := by have := HLEN.out; omega
    have hb1 := hout.blk
    refine (outBits_own B bo 8 n n _ sv l z5 _ (hout.alloc _) (by omega) (by omega) (by rw [HZ5.out]; simp) (by omega) hl64 (by have := Sees.one (Has.new w1 47 (u64s z5).toArray); simp at this; exact this) ?_ (by rw [HZ5.out]; simp)).mono ?_
    · intro k hk
      simp [blockOf] at hk
      exact ⟨by omega, fun h => by have := hb1.2 k h; omega⟩
    rintro e w2 ⟨rfl, sv2, hout2, hto2⟩
    have ho2 : Only (fun _ => False) w w2 := OutTo.old (ho.alloc _) (hout.alloc _) hB hto2
    have HLEN2 : Hid ((l ++ nums 8 z5).length = 524288) := by show _ = _; rw [List.length_append, nums_length, HZ5.out, List.length_replicate]; have := HLEN.out; omega
    generalize l ++ nums 8 z5 = l2 at hout2 HLEN2
    clear hm3 hto2 hout ho hl64 hb1
    cases way with
    | false =>
      go_wp2_with (fail)
      refine (len_own B bo sv2 l2 _ hout2).mono ?_
      rw [HLEN2.out]
      rintro e w3 ⟨rfl, rfl⟩
      go_wp2_with (fail)
      refine (outBits_full B bo 1 1 1 _ sv2 l2 _ (hout2.alloc _) (by omega) (by omega) (by have := HLEN2.out; omega)).mono ?_
      rintro e w3 ⟨rfl, rfl⟩
      go_wp2_with (fail)
      refine (awake_any _).mono ?_
      rintro e w3 ⟨rfl, h3⟩
      go_wp2
      go_ret
      exact ⟨rfl, (ho2.alloc _).trans h3 (fun _ _ e => e)⟩
    | true =>
      clear hout2 HLEN2
      have hm4 : ∀ w, (Instr.makeSlice 22 (.int .i64 (65536 - (n : Int))) (.int .i64 (65536 - (n : Int)))).run Try.prog w = .ok (.slice (some ⟨w.heap.size, 0, none⟩) n3 n3) (w.alloc (.cells (u8s z3).toArray 5)) := fun w => by rw [HZ3.out, show (65536 : Int) - (n : Int) = (n3 : Int) by have := HN3.out; omega]; exact run_zeros w n3 (by omega)
      have hm5 : ∀ w, (Instr.makeSlice 22 (.int .i64 ((n : Int) - 1)) (.int .i64 ((n : Int) - 1))).run Try.prog w = .ok (.slice (some ⟨w.heap.size, 0, none⟩) n1 n1) (w.alloc (.cells (u8s z4).toArray 5)) := fun w => by rw [HZ4.out, show (n : Int) - 1 = (n1 : Int) by have := HN1.out; omega]; exact run_zeros w n1 (by have := HN1.out; omega)
      go_wp2_with (fail)
      refine (new_one w2 z3 n3 HZ3.out (by omega)).mono ?_
      rintro e w3 ⟨B3, bo3, sv3, l3, rfl, hout3, hB3, hlen3, ho3⟩
      have ho3' : Only (fun _ => False) w w3 := ho2.trans ho3 (fun _ _ e => e)
      have hB3' : w.heap.size ≤ B3 := Nat.le_trans ho2.size hB3
      have HLEN3 : Hid (l3.length + 8 * n = 524288) := by show _ = _; rw [hlen3]; have := HN3.out; omega
      clear hlen3 ho3 ho2 hm4 hB3
      have hb3 := hout3.blk
      go_wp2_with (fail)
      have hpk : ∀ p ∈ [((.slice (some ⟨w3.heap.size, 0, none⟩) n1 n1 : Value), z4), ((.slice (some ⟨w3.heap.size + 1, 0, none⟩) 1 1 : Value), [1])], Part (((w3.alloc (.cells (u8s z4).toArray 5)).alloc (.cells #[.int .u8 1] 5)).alloc (.cells #[.slice (some ⟨w3.heap.size, 0, none⟩) n1 n1, .slice (some ⟨w3.heap.size + 1, 0, none⟩) 1 1] 22)) p.1 p.2 := by
        intro p hp
        simp only [List.mem_cons, List.not_mem_nil, or_false] at hp
        rcases hp with rfl | rfl
        · exact part_of (((Has.new w3 5 _).alloc _).alloc _) HZ4.out (by have := HN1.out; omega)
        · refine ⟨_, 1, rfl, by simp, (fun h => by cases h), ?_, by omega, by simp⟩
          have := Sees.one ((Has.new (w3.alloc (.cells (u8s z4).toArray 5)) 5 #[.int .u8 1]).alloc (.cells #[.slice (some ⟨w3.heap.size, 0, none⟩) n1 n1, .slice (some ⟨w3.heap.size + 1, 0, none⟩) 1 1] 22))
          simp at this
          exact this
      have hpn : ∀ p ∈ [((.slice (some ⟨w3.heap.size, 0, none⟩) n1 n1 : Value), z4), ((.slice (some ⟨w3.heap.size + 1, 0, none⟩) 1 1 : Value), [1])], ∀ k, p.1.ownBlock = some k → ¬ (k = bo3 ∨ sv3.ownBlock = some k) := by
        intro p hp k hk
        simp only [List.mem_cons, List.not_mem_nil, or_false] at hp
        rcases hp with rfl | rfl
        all_goals
          simp [Value.ownBlock] at hk
          rintro (h | h)
          · omega
          · have := hb3.2 k h; omega
      have htot : total [((.slice (some ⟨w3.heap.size, 0, none⟩) n1 n1 : Value), z4), ((.slice (some ⟨w3.heap.size + 1, 0, none⟩) 1 1 : Value), [1])] = n := by
        have := HN1.out; simp [total, HZ4.out]; omega
      refine (outBytes_own B3 bo3 2 2 _ sv3 l3 _ _ (((hout3.alloc _).alloc _).alloc _) rfl (by omega) (by rw [htot]; have := HLEN3.out; omega) (Sees.one (by have := Has.new ((w3.alloc (.cells (u8s z4).toArray 5)).alloc (.cells #[.int .u8 1] 5)) 22 #[.slice (some ⟨w3.heap.size, 0, none⟩) n1 n1, .slice (some ⟨w3.heap.size + 1, 0, none⟩) 1 1]; simp at this; exact this)) hpk ?_ hpn).mono ?_
      · intro k hk
        simp [blockOf] at hk
        rintro (h | h)
        · omega
        · have := hb3.2 k h; omega
      rintro e w4 ⟨rfl, sv4, hout4, hto4⟩
      have ho4 : Only (fun _ => False) w w4 := OutTo.old (((ho3'.alloc _).alloc _).alloc _) (((hout3.alloc _).alloc _).alloc _) hB3' hto4
      have HLEN4 : Hid ((l3 ++ nums 8 (flat [((.slice (some ⟨w3.heap.size, 0, none⟩) n1 n1 : Value), z4), ((.slice (some ⟨w3.heap.size + 1, 0, none⟩) 1 1 : Value), [1])])).length = 524288) := by
        show _ = _
        rw [List.length_append, nums_length]
        have e : (flat [((.slice (some ⟨w3.heap.size, 0, none⟩) n1 n1 : Value), z4), ((.slice (some ⟨w3.heap.size + 1, 0, none⟩) 1 1 : Value), [1])]).length = n := htot
        rw [e]; have := HLEN3.out; omega
      clear hpk hpn htot hm5
      generalize l3 ++ nums 8 (flat [((.slice (some ⟨w3.heap.size, 0, none⟩) n1 n1 : Value), z4), ((.slice (some ⟨w3.heap.size + 1, 0, none⟩) 1 1 : Value), [1])]) = l4 at hout4 HLEN4
      go_wp2_with (fail)
      refine (len_own B3 bo3 sv4 l4 _ hout4).mono ?_
      rw [HLEN4.out]
      rintro e w5 ⟨rfl, rfl⟩
      go_wp2_with (fail)
      refine (outBits_full B3 bo3 1 1 1 _ sv4 l4 _ (hout4.alloc _) (by omega) (by omega) (by have := HLEN4.out; omega)).mono ?_
      rintro e w5 ⟨rfl, rfl⟩
      go_wp2_with (fail)
      refine (awake_any _).mono ?_
      rintro e w5 ⟨rfl, h5⟩
      go_wp2
      go_ret
      exact ⟨rfl, (ho4.alloc _).trans h5 (fun _ _ e => e)⟩

theorem bitsMost_walk (over : Int) (way : Bool) (w : World) (_ : (Lit.int .i64 over).wf = true) :
    Calls Try.prog 6 #[.int .i64 over, .bool way] w fun e w' => e = .returned (.bool true) ∧ Only (fun _ => False) w w' := by
  have h1 : -20 < over.tmod 20 ∧ over.tmod 20 < 20 := ⟨Int.lt_tmod_of_pos over (by omega), Int.tmod_lt_of_pos over (by omega)⟩
  by_cases h : 0 ≤ over.tmod 20
  · obtain ⟨r, hr⟩ := Int.eq_ofNat_of_zero_le h
    exact most_yes over way r w hr (by omega)
  · obtain ⟨n, hn⟩ := Int.eq_ofNat_of_zero_le (show 0 ≤ - over.tmod 20 by omega)
    exact most_no over way n w (by omega) (by omega) (by omega)
end Go.Proofs.Ytpdihllpcnnfdaa
