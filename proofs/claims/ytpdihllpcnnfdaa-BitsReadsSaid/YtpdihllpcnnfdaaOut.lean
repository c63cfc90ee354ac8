/- What the methods of bits.Out do to one of the call's own: which bits it has behind each. -/
import Derived.Test.YtpdihllpcnnfdaaStore
set_option linter.unusedSimpArgs false
set_option linter.unusedVariables false
namespace Go.Proofs.Ytpdihllpcnnfdaa
open Go.RowKit Ost

theorem info5 : (Try.prog.info? 5).map (fun i => (i.zero, i.size, i.bytes)) = some (some (.int .u8 0), 1, 1) := by kernel_rfl
theorem info3 : (Try.prog.info? 3).map (fun i => (i.zero, i.size, i.bytes)) = some (some (.int .i64 0), 1, 8) := by kernel_rfl

/-- The bytes of bits, filled up by noughts. -/
def Packs (cs : List Nat) (l : List Bool) : Prop := (∀ c ∈ cs, c < 256) ∧ cs.length = (l.length + 7) / 8 ∧ ∀ i, bitOf cs i = l.getD i false

theorem Packs.eq {cs ds : List Nat} {l : List Bool} (h : Packs cs l) (k : Packs ds l) : cs = ds :=
  bytes_ext (by rw [h.2.1, k.2.1]) h.1 k.1 fun i hi => by rw [h.2.2 i, k.2.2 i]

theorem bitOf_out {cs : List Nat} {i : Nat} (h : 8 * cs.length ≤ i) : bitOf cs i = false := by
  unfold bitOf
  rw [List.getD_eq_getElem?_getD, List.getElem?_eq_none (by omega)]; simp

theorem bitOf_noughts (cs : List Nat) (j i : Nat) : bitOf (cs ++ List.replicate j 0) i = bitOf cs i := by
  unfold bitOf
  by_cases h : i / 8 < cs.length
  · simp [List.getD, List.getElem?_append_left h]
  · rw [List.getD_eq_getElem?_getD, List.getD_eq_getElem?_getD, List.getElem?_append_right (by omega), List.getElem?_eq_none (l := cs) (by omega)]
    simp only [List.getElem?_replicate]
    split <;> simp

theorem getD_num (n v i : Nat) : (num n v).getD i false = if i < n then v.testBit (n - 1 - i) else false := by
  unfold num
  by_cases h : i < n
  · simp [List.getD, h]
  · simp [List.getD, h]

/-- What add does to the bytes of bits. -/
theorem packs_add {cs ds : List Nat} {l : List Bool} {j n v : Nat} (h : Packs cs l) (hj : cs.length + j = (l.length + n + 7) / 8) (hs : Stored (cs ++ List.replicate j 0) ds l.length n v) : Packs ds (l ++ num n v) := by
  obtain ⟨h1, h2, h3⟩ := hs
  rw [List.length_append, List.length_replicate] at h1 h3
  refine ⟨h2, by rw [h1, hj, List.length_append, num_length], fun i => ?_⟩
  by_cases hi : i < 8 * (cs.length + j)
  · rw [h3 i hi, bitOf_noughts, h.2.2]
    by_cases hl : i < l.length
    · rw [if_neg (by omega)]; simp [List.getD, List.getElem?_append_left hl]
    · rw [List.getD_eq_getElem?_getD (l := l ++ _), List.getElem?_append_right (by omega), ← List.getD_eq_getElem?_getD, getD_num]
      by_cases hn : i < l.length + n
      · rw [if_pos (by omega), if_pos (by omega)]
      · rw [if_neg (by omega), if_neg (by omega)]; simp [List.getD, List.getElem?_eq_none (show l.length ≤ i by omega)]
  · rw [bitOf_out (by omega), List.getD_eq_getElem?_getD, List.getElem?_eq_none (by rw [List.length_append, num_length]; omega)]; rfl

/-- An Out of the call's own: at block bo, its bytes in the slice sv, has the bits l. -/
def IsOut (w : World) (base bo : Nat) (sv : Value) (l : List Bool) : Prop :=
  base ≤ bo ∧ Has w bo 67 #[sv, .int .i64 (l.length : Nat)] ∧ l.length ≤ 524288 ∧ ∃ cs, Packs cs l ∧ w.ownsRow base 5 1 sv cs.length (u8s cs)

/-- What a call on an Out may touch: its own two blocks, and new ones. -/
def OutTo (bo : Nat) (sv sv' : Value) (w w' : World) : Prop :=
  Only (fun k => k = bo ∨ sv.ownBlock = some k) w w' ∧ ∀ k, sv'.ownBlock = some k → sv.ownBlock = some k ∨ w.heap.size ≤ k

theorem OutTo.refl (bo : Nat) (sv : Value) (w : World) : OutTo bo sv sv w w := ⟨Only.refl _ _, fun _ h => .inl h⟩

theorem OutTo.trans {bo : Nat} {a b c : Value} {w w' w'' : World} (h : OutTo bo a b w w') (k : OutTo bo b c w' w'') : OutTo bo a c w w'' := by
  refine ⟨h.1.trans k.1 ?_, ?_⟩
  · rintro i hi (rfl | hb)
    · exact .inl rfl
    · rcases h.2 i hb with h2 | h2
      · exact .inr h2
      · omega
  · intro i hi
    rcases k.2 i hi with h2 | h2
    · exact h.2 i h2
    · exact .inr (Nat.le_trans h.1.size h2)

theorem IsOut.only {w w' : World} {base bo : Nat} {sv : Value} {l : List Bool} {T : Nat → Prop} (h : IsOut w base bo sv l) (ho : Only T w w') (h1 : ¬ T bo) (h2 : ∀ k, sv.ownBlock = some k → ¬ T k) : IsOut w' base bo sv l := by
  obtain ⟨a, b, c, cs, d, e⟩ := h
  exact ⟨a, b.only ho h1, c, cs, d, own_only e ho h2⟩

theorem IsOut.alloc {w : World} {base bo : Nat} {sv : Value} {l : List Bool} (h : IsOut w base bo sv l) (o : Obj) : IsOut (w.alloc o) base bo sv l :=
  h.only ((Only.refl (fun _ => False) w).alloc o) (fun e => e) (fun _ _ e => e)

/-- What an Out has lies from its base on. -/
theorem IsOut.from_ {w : World} {base bo : Nat} {sv : Value} {l : List Bool} (h : IsOut w base bo sv l) (i : Nat) (hi : i < base) : ¬ (i = bo ∨ sv.ownBlock = some i) := by
  obtain ⟨a, b, c, cs, d, e⟩ := h
  rintro (rfl | hk)
  · omega
  · have := (e.lt i hk).1; omega

theorem IsOut.blk {w : World} {base bo : Nat} {sv : Value} {l : List Bool} (h : IsOut w base bo sv l) : bo < w.heap.size ∧ ∀ k, sv.ownBlock = some k → k < w.heap.size := by
  obtain ⟨a, b, c, cs, d, e⟩ := h
  exact ⟨b.lt, fun k hk => (e.lt k hk).2⟩

/-- Old blocks stay where an Out of the call's own is written. -/
theorem OutTo.old {w w1 w2 : World} {base bo : Nat} {sv sv' : Value} {l : List Bool} {T : Nat → Prop} (h : Only T w w1) (ho : IsOut w1 base bo sv l) (hb : w.heap.size ≤ base) (ht : OutTo bo sv sv' w1 w2) : Only T w w2 :=
  h.trans ht.1 fun i hi e => absurd e (ho.from_ i (by omega))

theorem u8s_oneCell (cs : List Nat) : ∀ u ∈ u8s cs, u.oneCell' = true := by
  intro u hu
  obtain ⟨c, _, rfl⟩ := List.mem_map.1 hu
  rfl

/-- The relation of the loop in add: so many noughts stand behind. -/
def AddIn (base bo : Nat) (sv : Value) (cs : List Nat) (N : Nat) (w wr : World) (j : Nat) : Prop :=
  ∃ A c, Has wr bo 67 #[.slice A (cs.length + j) c, .int .i64 (N : Nat)] ∧ wr.ownsRow base 5 1 (.slice A (cs.length + j) c) (cs.length + j) (u8s (cs ++ List.replicate j 0)) ∧ OutTo bo sv (.slice A (cs.length + j) c) w wr

set_option maxHeartbeats 400000 in
theorem add_own (base bo n v : Nat) (sv : Value) (l : List Bool) (w : World) (h : IsOut w base bo sv l) (hroom : l.length + n ≤ 524288) (hn1 : 1 ≤ n) (hn : n ≤ 64) (hv : v < 2 ^ 64) :
    Calls Try.prog 38 #[.pointer (some ⟨bo, 0, none⟩), .int .i64 n, .int .u64 v] w fun e w' => e = .returned (.tuple #[]) ∧ ∃ sv', IsOut w' base bo sv' (l ++ num n v) ∧ OutTo bo sv sv' w w' := by
  obtain ⟨hb, hh, hl, cs, hp, hown⟩ := h
  obtain ⟨A, c, rfl, hAb, _, _⟩ := own_form hown
  obtain ⟨i0, hi, hz0, hz1, hz2⟩ := info_parts info5
  have hc0 := hh.cell 0
  have hc1 := hh.cell 1
  have hf1 := hh.free 1
  simp at hc0 hc1
  go_enter Try.func38, Try.ntmps38
  go_wp2
  have Hlen := Ost.hid hp.2.1
  go_loopg [] ((l.length + n + 7) / 8 - cs.length) (fun k wr => ∃ j, Hid (k + j = (l.length + n + 7) / 8 - cs.length) ∧ AddIn base bo (.slice A cs.length c) cs (l.length + n) w wr j)
  case atStart =>
    refine ⟨0, rfl, A, c, ?_, ?_, ?_⟩
    · have := hh.put 1 (.int .i64 ((l.length + n : Nat) : Int)); simpa using this
    · simpa using ownsRow_setCell_other hown (a := ⟨bo, 1, none⟩) (own_ne hown hh (by decide)) _
    · exact ⟨(Only.refl _ _).setCell (fun _ => .inl rfl) _, fun _ h => .inl h⟩
  case round =>
    obtain ⟨j, Hgk, A1, c1, hh1, hown1, hto1⟩ := hrel
    have hd0 := hh1.cell 0
    have hd1 := hh1.cell 1
    have he0 := hh1.free 0
    simp at hd0 hd1
    have hbl : cs.length + j ≤ 65536 := by have := Hgk.out; have := Hlen.out; omega
    by_cases hlt : 8 * (cs.length + j) < l.length + n
    · have hlt2 : (8 : Int) * ((cs.length : Int) + (j : Int)) < (l.length : Int) + (n : Int) := by omega
      go_wp2
      go_quiet (fail)
      have hsz := hh1.lt
      go_wp2_with (at_builtin; refine wpList_app _ rfl (.tmp 34) (.tmp 35) 22 rfl base 5 i0 (.int .u8 0) 1 Try.underlying22 hi hz0 hz1 hz2 rfl _ _ _ rfl (World.ownsRow.alloc (w := wr.drewN nq) hown1 _) (some ⟨wr.heap.size, 0, none⟩) 1 1 [.int .u8 0] rfl rfl ?seen ?one ?b1 ?b2 ?b3 ?_)
      case seen => exact Sees.one (Has.new _ _ _)
      case one => intro u hu; simp at hu; subst hu; rfl
      case b1 => unfold maxLen; omega
      case b2 => omega
      case b3 => simp; omega
      intro A2 c2 w2 hown2 honly2 hblk2
      have hne1 := own_ne hown1 hh1 (by decide)
      have hh2 : Has w2 bo 67 #[.slice A1 (cs.length + j) c1, .int .i64 ((l.length + n : Nat) : Int)] := (Has.alloc (w := wr.drewN nq) hh1 _).only honly2 hne1
      have hf2 := hh2.free 0
      have hc2 := hh2.cell 0
      simp at hc2
      have hto2 : OutTo bo (.slice A cs.length c) (.slice A2 (cs.length + j + 1) c2) w (w2.setCell ⟨bo, 0, none⟩ (.slice A2 (cs.length + j + 1) c2)) := by
        refine hto1.trans ⟨?_, fun k hk => ?_⟩
        · exact ((((Only.refl _ _).drewN nq).alloc _).trans honly2 (fun i hi e => .inr e)).setCell (fun _ => .inl rfl) _
        · rcases hblk2 k (by rw [← ownBlock_slice A2 (cs.length + j + 1) c2]; exact hk) with h | h
          · exact .inl h
          · exact .inr (by omega)
      have hown3 : (w2.setCell ⟨bo, 0, none⟩ (.slice A2 (cs.length + j + 1) c2)).ownsRow base 5 1 (.slice A2 (cs.length + j + 1) c2) (cs.length + j + 1) (u8s (cs ++ List.replicate (j + 1) 0)) := by
        have e : u8s (cs ++ List.replicate (j + 1) 0) = List.map (fun (c : Nat) => Value.int .u8 (c : Int)) cs ++ (List.replicate j (Value.int .u8 0) ++ [Value.int .u8 0]) := by simp [u8s, List.replicate_succ']
        rw [e]
        exact ownsRow_setCell_other hown2 (a := ⟨bo, 0, none⟩) (own_ne hown2 hh2 (by decide)) _
      have hh3 : Has (w2.setCell ⟨bo, 0, none⟩ (.slice A2 (cs.length + j + 1) c2)) bo 67 #[.slice A2 (cs.length + j + 1) c2, .int .i64 ((l.length + n : Nat) : Int)] := by
        have := hh2.put 0 (.slice A2 (cs.length + j + 1) c2)
        simpa using this
      have Hin : Hid (AddIn base bo (.slice A cs.length c) cs (l.length + n) w (w2.setCell ⟨bo, 0, none⟩ (.slice A2 (cs.length + j + 1) c2)) (j + 1)) := ⟨A2, c2, hh3, hown3, hto2⟩
      clear hown2 hown3 hh3 hto2
      go_wp2
      go_roundg (gk - 1)
      case measure => have := Hgk.out; have := Hlen.out; omega
      case rel => exact ⟨j + 1, by have := Hgk.out; have := Hlen.out; show _ = _; omega, Hin.out⟩
    · have hlt2 : ¬ (8 : Int) * ((cs.length : Int) + (j : Int)) < (l.length : Int) + (n : Int) := by omega
      have hj : cs.length + j = (l.length + n + 7) / 8 := by have := Hgk.out; have := Hlen.out; omega
      obtain ⟨g, c', hsl, hbg, _, _, _⟩ := own_some hown1 (by omega)
      obtain ⟨rfl, rfl⟩ : A1 = some ⟨g, 0, none⟩ ∧ c1 = c' := by simpa using hsl
      have hbits := hp.1
      have HJ := Ost.hid hj
      clear hj
      go_wp2
      go_quiet (fail)
      go_wp2_with (fail)
      have hst := store_own base g (cs.length + j) c1 l.length n v (cs ++ List.replicate j 0) (wr.drewN nq) hn hbl (by have := HJ.out; omega) (by simp) (by
        intro x hx; rcases List.mem_append.1 hx with h | h
        · exact hbits x h
        · rw [List.eq_of_mem_replicate h]; decide) hv hown1
      refine hst.mono ?_
      rintro e w' ⟨rfl, ds, hds, hown4, honly4⟩
      go_wp2
      go_end0
      refine ⟨rfl, .slice (some ⟨g, 0, none⟩) (cs.length + j) c1, ⟨hb, ?_, by simp [num_length]; omega, ds, packs_add hp HJ.out hds, ?_⟩, ?_⟩
      · have : Has w' bo 67 _ := Has.only (w := wr.drewN nq) hh1 honly4 (fun e => own_ne hown1 hh1 (by decide) (by simp [Value.ownBlock, e]))
        simpa [num_length] using this
      · have e := hds.1
        rw [List.length_append, List.length_replicate] at e
        rw [e]; exact hown4
      · refine hto1.trans ⟨((Only.refl _ _).drewN nq).trans honly4 (fun i hi e => .inr (by simp [Value.ownBlock, e])), fun k hk => .inl hk⟩
theorem clone_any (A : Option Addr) (n c : Nat) (cs : List Nat) (w : World) (hs : Sees w A (u8s cs)) (hn : cs.length = n) (hA : A = none → c = 0) (hlen : n ≤ 140737488355328) :
    Calls Try.prog 33 #[.slice A n c] w fun e w' => ∃ A' c', e = .returned (.slice A' n c') ∧ w'.ownsRow w.heap.size 5 1 (.slice A' n c') n (u8s cs) ∧ Only (fun _ => False) w w' := by
  obtain ⟨i0, hi, hz0, hz1, hz2⟩ := info_parts info5
  rcases A with _ | a
  · obtain rfl := hA rfl
    have hnil := hs.none_nil
    obtain rfl : cs = [] := by simpa [u8s] using hnil
    simp at hn; subst hn
    have heq := fun (w : World) => Lib.run_eql_slice_nil (P := Try.prog) w 22 5 none 0 0 0 0 Try.underlying22
    go_enter Try.func33, Try.ntmps33
    go_wp2
    go_ret
    exact ⟨none, 0, rfl, World.ownsRow_nil _ _ _ _, Only.refl _ _⟩
  · have heq := fun (w : World) => Lib.run_eql_slice_nil (P := Try.prog) w 22 5 (some a) n c 0 0 Try.underlying22
    go_enter Try.func33, Try.ntmps33
    go_wp2_with (at_builtin; refine wpList_app _ rfl (.tmp 5) (.tmp 6) 22 rfl w.heap.size 5 i0 (.int .u8 0) 1 Try.underlying22 hi hz0 hz1 hz2 rfl _ _ _ rfl (own_empty w _ 5 (Nat.le_refl _)) (some a) n c (u8s cs) rfl (by simp [hn]) (hs.only ((Only.refl (fun _ => False) w).alloc _) (fun _ _ e => e)) (u8s_oneCell cs) (by unfold maxLen; omega) (by omega) (by simp) ?_)
    intro A' c' w' hown honly hblk
    go_wp2
    go_ret
    refine ⟨A', c', rfl, hown, ((Only.refl _ _).alloc _).trans honly (fun i hi e => ?_)⟩
    simp [Value.ownBlock] at e; omega

theorem done_own (base bo : Nat) (sv : Value) (l : List Bool) (w : World) (h : IsOut w base bo sv l) :
    Calls Try.prog 12 #[.pointer (some ⟨bo, 0, none⟩)] w fun e w' => ∃ A' c' cs, Packs cs l ∧ e = .returned (.slice A' cs.length c') ∧ w'.ownsRow w.heap.size 5 1 (.slice A' cs.length c') cs.length (u8s cs) ∧ Only (fun _ => False) w w' := by
  obtain ⟨hb, hh, hl, cs, hp, hown⟩ := h
  obtain ⟨A, c, rfl, hAb, hnc, _⟩ := own_form hown
  have hc0 := hh.cell 0
  simp at hc0
  have Hlen := Ost.hid hp.2.1
  go_enter Try.func12, Try.ntmps12
  go_wp2_with (fail)
  refine (clone_any A cs.length c cs w (Sees.of_own hown) rfl (by rintro rfl; exact (own_nil_cap hown).2) (by have := Hlen.out; omega)).mono ?_
  rintro e w' ⟨A', c', rfl, hown', honly⟩
  go_wp2
  go_ret
  exact ⟨A', c', cs, hp, rfl, hown', honly⟩

theorem len_own (base bo : Nat) (sv : Value) (l : List Bool) (w : World) (h : IsOut w base bo sv l) :
    Calls Try.prog 13 #[.pointer (some ⟨bo, 0, none⟩)] w fun e w' => e = .returned (.int .i64 (l.length : Nat)) ∧ w = w' := by
  obtain ⟨hb, hh, hl, cs, hp, hown⟩ := h
  have hc1 := hh.cell 1
  simp at hc1
  go_enter Try.func13, Try.ntmps13
  go_wp2
  go_ret
  exact ⟨rfl, rfl⟩

theorem room_own (bo : Nat) (n : Nat) (v : Value) (w : World) (h : Has w bo 67 #[v, .int .i64 (n : Nat)]) (hn2 : n ≤ 524288) :
    Calls Try.prog 37 #[.pointer (some ⟨bo, 0, none⟩)] w fun e w' => e = .returned (.int .i64 (524288 - (n : Int))) ∧ w = w' := by
  have hc1 := h.cell 1
  simp at hc1
  go_enter Try.func37, Try.ntmps37
  go_wp2
  go_ret
  exact ⟨rfl, rfl⟩

/-- Numbers as cells. -/
abbrev u64s (vs : List Nat) : List Value := vs.map fun (v : Nat) => Value.int .u64 (v : Int)

theorem u64s_get {vs : List Nat} {j : Nat} (hj : j < vs.length) : (u64s vs)[j]? = some (.int .u64 ((vs.getD j 0 : Nat) : Int)) := by
  simp [u64s, hj]

/-- All of the numbers' bits. -/
def nums (n : Nat) (vs : List Nat) : List Bool := (vs.map (num n)).flatten
theorem nums_length (n : Nat) (vs : List Nat) : (nums n vs).length = vs.length * n := by
  unfold nums
  induction vs with
  | nil => simp
  | cons v vs ih => simp [num_length, Nat.succ_mul, ih]; omega
theorem nums_take_succ (n : Nat) (vs : List Nat) (j : Nat) (hj : j < vs.length) : nums n (vs.take (j + 1)) = nums n (vs.take j) ++ num n (vs.getD j 0) := by
  unfold nums
  rw [List.take_succ_eq_append_getElem hj, List.map_append, List.flatten_append]; simp [hj, List.getD]

theorem width_yes (n : Int) (w : World) (h1 : 1 ≤ n) (h2 : n ≤ 64) : Calls Try.prog 35 #[.int .i64 n] w fun e w' => e = .returned (.bool true) ∧ w = w' := by
  go_enter Try.func35, Try.ntmps35
  go_wp2
  go_ret
  exact ⟨by simp [h2], rfl⟩
theorem width_no (n : Int) (w : World) (h : n < 1 ∨ 64 < n) : Calls Try.prog 35 #[.int .i64 n] w fun e w' => e = .returned (.bool false) ∧ w = w' := by
  rcases h with h | h
  · go_enter Try.func35, Try.ntmps35
    go_wp2
    go_ret
    exact ⟨rfl, rfl⟩
  · have h1 : 1 ≤ n := by omega
    have h2 : ¬ n ≤ 64 := by omega
    go_enter Try.func35, Try.ntmps35
    go_wp2
    go_ret
    exact ⟨by first | (simp; done) | (simp; omega), rfl⟩

theorem outBits_arg (base bo : Nat) (n : Int) (sv : Value) (l : List Bool) (A : Value) (w : World) (hn : n < 1 ∨ 64 < n) :
    Calls Try.prog 27 #[.pointer (some ⟨bo, 0, none⟩), .int .i64 n, A] w fun e w' => e = .returned (.int .i64 1) ∧ w = w' := by
  go_enter Try.func27, Try.ntmps27
  go_wp2_with (go_at_call 35; refine (width_no n _ hn).mono ?_; rintro e w' ⟨rfl, rfl⟩)
  go_ret
  exact ⟨rfl, rfl⟩

set_option maxHeartbeats 400000 in
theorem outBits_own (base bo n m c : Nat) (A : Option Addr) (sv : Value) (l : List Bool) (vs : List Nat) (w : World) (h : IsOut w base bo sv l) (hn1 : 1 ≤ n) (hn : n ≤ 64) (hm : vs.length = m) (hmm : m ≤ 140737488355328) (hroom : l.length + m * n ≤ 524288)
    (hs : Sees w A (u64s vs)) (hAb : ∀ k, blockOf A = some k → k ≠ bo ∧ sv.ownBlock ≠ some k) (hv : ∀ v ∈ vs, v < 2 ^ 64) :
    Calls Try.prog 27 #[.pointer (some ⟨bo, 0, none⟩), .int .i64 n, .slice A m c] w fun e w' => e = .returned (.int .i64 0) ∧ ∃ sv', IsOut w' base bo sv' (l ++ nums n vs) ∧ OutTo bo sv sv' w w' := by
  have hh := h.2.1
  have hl := h.2.2.1
  have hq : decide ((524288 - (l.length : Int)) / (n : Int) < (m : Int)) = false := by
    have : (m : Int) ≤ (524288 - (l.length : Int)) / (n : Int) := by
      rw [Int.le_ediv_iff_mul_le (by omega)]
      have : ((m * n : Nat) : Int) ≤ 524288 - (l.length : Int) := by omega
      simpa using this
    simp; omega
  have HM := Ost.hid hm
  clear hm
  go_enter Try.func27, Try.ntmps27
  go_wp2_with (first | (go_at_call 37; refine (room_own bo l.length sv w hh hl).mono ?_; rintro e w' ⟨rfl, rfl⟩) | (go_at_call 35; refine (width_yes n _ (by omega) (by omega)).mono ?_; rintro e w' ⟨rfl, rfl⟩))
  clear hq
  go_loopw [23] (fun i wr => ∃ k : Nat, k ≤ m ∧ i = .int .i64 k ∧ ∃ sv', IsOut wr base bo sv' (l ++ nums n (vs.take k)) ∧ OutTo bo sv sv' w wr) (fun i _ => m - (intOf i).toNat)
  case atStart => exact ⟨0, Nat.zero_le _, rfl, sv, by simpa [nums] using h, OutTo.refl _ _ _⟩
  case round =>
    obtain ⟨k, hk, rfl, sv', hout, hto⟩ := hrel
    by_cases hlt : k < m
    · have hkl : k < vs.length := by have := HM.out; omega
      obtain ⟨b, o, rfl, hb, hcell⟩ := (hs.only hto.1 (fun i hi hn => by
        rcases hn with rfl | hn
        · exact (hAb _ hi).1 rfl
        · exact (hAb _ hi).2 hn)).at_ (u64s_get hkl)
      have hv1 : vs.getD k 0 < 2 ^ 64 := by rw [List.getD_eq_getElem?_getD, List.getElem?_eq_getElem hkl]; exact hv _ (List.getElem_mem _)
      obtain ⟨x, HX⟩ : ∃ x, Hid (x = vs.getD k 0) := ⟨_, rfl⟩
      rw [← HX.out] at hcell hv1
      have hroom1 : (l ++ nums n (vs.take k)).length + n ≤ 524288 := by
        rw [List.length_append, nums_length, List.length_take, Nat.min_eq_left (by omega)]
        have : (k + 1) * n ≤ m * n := Nat.mul_le_mul_right _ hlt
        rw [Nat.add_mul] at this; omega
      have hvl : vs.length = m := HM.out
      clear hvl
      go_wp2_with (go_at_call 38; refine (add_own base bo n x sv' _ _ hout hroom1 hn1 hn hv1).mono ?_; rintro e w' ⟨rfl, sv2, hout2, hto2⟩)
      have hout3 : IsOut w' base bo sv2 (l ++ nums n (vs.take (k + 1))) := by
        rw [nums_take_succ n vs k hkl, ← HX.out, ← List.append_assoc]; exact hout2
      have Hout3 := Ost.hid (And.intro hout3 (hto.trans hto2))
      clear hout3 hout2 hto2
      go_wp2
      go_roundw
      case rel => exact ⟨k + 1, by omega, by go_num, sv2, Hout3.out.1, Hout3.out.2⟩
      case measure => simp [intOf]; omega
    · obtain rfl : k = m := by omega
      go_wp2
      go_ret
      exact ⟨rfl, sv', by have := HM.out; subst this; simpa using hout, hto⟩

end Go.Proofs.Ytpdihllpcnnfdaa
