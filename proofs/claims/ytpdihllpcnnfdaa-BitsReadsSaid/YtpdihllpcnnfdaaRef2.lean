/- The document's own answers for layer 1: what Of, Done, Behind and Take return. -/
import Derived.Test.YtpdihllpcnnfdaaRef
set_option linter.unusedSimpArgs false
set_option linter.unusedVariables false
namespace Go.Proofs.Ytpdihllpcnnfdaa
open Go.RowKit Ost

theorem eight (t : Nat) (ht : t < 8) : (#[Value.int .i64 128, .int .i64 64, .int .i64 32, .int .i64 16, .int .i64 8, .int .i64 4, .int .i64 2, .int .i64 1])[t]? = some (.int .i64 ((2 ^ (7 - t) : Nat) : Int)) := by
  match t, ht with
  | 0, _ | 1, _ | 2, _ | 3, _ | 4, _ | 5, _ | 6, _ | 7, _ => rfl

theorem num8_get (c t : Nat) (ht : t < 8) : (num 8 c).take (t + 1) = (num 8 c).take t ++ [c.testBit (7 - t)] := by
  have h : t < (num 8 c).length := by rw [num_length]; exact ht
  rw [List.take_succ_eq_append_getElem h]
  simp [num]

theorem bit_of (c t : Nat) : ((c / 2 ^ (7 - t) % 2 : Nat) : Int) = (((c.testBit (7 - t)).toNat : Nat) : Int) := by rw [Nat.toNat_testBit]

/-- The relation of Of's loops. -/
def OfIn (w wr : World) (v : Value) (l : List Bool) : Prop :=
  ∃ A c, v = .slice A l.length c ∧ wr.ownsRow w.heap.size 3 1 (.slice A l.length c) l.length (b01 l) ∧ Only (fun _ => False) w wr

theorem Only.fresh {w wr w2 : World} {T : Nat → Prop} (h : Only (fun _ => False) w wr) (h2 : Only T wr w2) (hT : ∀ k, T k → w.heap.size ≤ k) : Only (fun _ => False) w w2 :=
  h.trans h2 fun i hi e => by have := hT i e; omega

set_option maxHeartbeats 1000000 in
theorem refOf_any (A : Option Addr) (n c : Nat) (cs : List Nat) (w : World) (hn : cs.length = n) (hs : Sees w A (u8s cs)) (h256 : ∀ x ∈ cs, x < 256) (hle : n ≤ 1048576) :
    Calls Try.prog 10 #[.slice A n c] w fun e w' => ∃ A' c', e = .returned (.slice A' (8 * n) c') ∧ w'.ownsRow w.heap.size 3 1 (.slice A' (8 * n) c') (8 * n) (b01 (nums 8 cs)) ∧ Only (fun _ => False) w w' := by
  obtain ⟨i0, hi, hz0, hz1, hz2⟩ := info_parts info3
  have HN := Ost.hid hn
  have H256 := Ost.hid h256
  clear hn h256
  go_enter Try.func10, Try.ntmps10
  go_wp2_with (fail)
  go_loopw [3, 11] (fun v i wr => ∃ k : Nat, k ≤ n ∧ i = .int .i64 k ∧ OfIn w wr v (nums 8 (cs.take k))) (fun _ i _ => n - (intOf i).toNat)
  case atStart => exact ⟨0, Nat.zero_le _, rfl, none, 0, rfl, World.ownsRow_nil _ _ _ _, Only.refl _ _⟩
  case round =>
    obtain ⟨k, hk, rfl, A1, c1, rfl, hown1, ho1⟩ := hrel
    obtain ⟨wo, rfl⟩ : ∃ wo : World, wo = wr := ⟨_, rfl⟩
    by_cases hlt : k < n
    · have hkl : k < cs.length := by have := HN.out; omega
      obtain ⟨b, o, rfl, _, hcell⟩ := (hs.old ho1 (fun _ _ e => e)).at_ (u8s_get hkl)
      have hx : cs.getD k 0 < 256 := by rw [List.getD_eq_getElem?_getD, List.getElem?_eq_getElem hkl]; exact H256.out _ (List.getElem_mem _)
      have HS := Ost.hid (nums_take_succ 8 cs k hkl)
      generalize cs.getD k 0 = x at hcell hx HS
      obtain ⟨L, HL⟩ : ∃ L, Hid (nums 8 (cs.take k) = L) := ⟨_, rfl⟩
      rw [HL.out] at hown1 HS ⊢
      have hLl : L.length ≤ 8 * n := by rw [← HL.out, nums_length, List.length_take]; omega
      go_wp2_with (fail)
      go_loopw [3, 19] (fun v i wr => ∃ t : Nat, t ≤ 8 ∧ i = .int .i64 t ∧ Has wr wo.heap.size 3 #[Value.int .i64 128, .int .i64 64, .int .i64 32, .int .i64 16, .int .i64 8, .int .i64 4, .int .i64 2, .int .i64 1] ∧ OfIn w wr v (L ++ (num 8 x).take t) ∧ (∀ q, v.ownBlock = some q → q ≠ wo.heap.size)) (fun _ i _ => 8 - (intOf i).toNat)
      case atStart =>
        refine ⟨0, by omega, rfl, Has.new _ _ _, ⟨A1, c1, by simp, by simpa using hown1.alloc _, ho1.alloc _⟩, ?_⟩
        intro q hq
        have := (hown1.lt q hq).2; omega
      case round =>
        obtain ⟨t, ht, rfl, hhas, ⟨A2, c2, rfl, hown2, ho2⟩, hne⟩ := hrel
        by_cases htt : t < 8
        · have hc8 := hhas.cell t
          rw [eight t htt] at hc8
          have HB := Ost.hid (bit_of x t)
          have HT := Ost.hid (num8_get x t htt)
          have hy1 : 1 ≤ 2 ^ (7 - t) := Nat.one_le_two_pow
          generalize 2 ^ (7 - t) = y at hc8 HB hy1
          have HTL : Hid ((L ++ (num 8 x).take t).length = L.length + t) := by show _ = _; rw [List.length_append, List.length_take, num_length]; omega
          obtain ⟨M, HM⟩ : ∃ M, Hid (L ++ (num 8 x).take t = M) := ⟨_, rfl⟩
          rw [HM.out] at hown2 HTL
          have hM : M.length ≤ 8 * n + 8 := by have := HTL.out; omega
          rw [HM.out]
          have hsz : w.heap.size ≤ wr.heap.size := ho2.size
          have hd0 : (0 : Int) ≤ (x : Int) / (y : Int) := Int.ediv_nonneg (by omega) (by omega)
          have hd1 : (x : Int) / (y : Int) ≤ 255 := by
            have : (x : Int) / (y : Int) ≤ (x : Int) := Int.ediv_le_self _ (by omega)
            omega
          go_wp2_with (at_builtin; refine wpList_app _ rfl (.tmp 23) (.tmp 28) 26 rfl w.heap.size 3 i0 (.int .i64 0) 8 Try.underlying26 hi hz0 hz1 hz2 rfl _ _ _ rfl (hown2.alloc _) (some ⟨wr.heap.size, 0, none⟩) 1 1 [.int .i64 ((x : Int) / (y : Int) % 2)] rfl rfl (Sees.one (Has.new _ _ _)) (by intro u hu; simp at hu; subst hu; rfl) (by unfold maxLen; omega) (by omega) (by simp; omega) ?_)
          intro A3 c3 w3 hown3 honly3 hblk3
          have hM1 : L ++ (num 8 x).take (t + 1) = M ++ [x.testBit (7 - t)] := by rw [HT.out, ← List.append_assoc, HM.out]
          have e3 : b01 (M ++ [x.testBit (7 - t)]) = b01 M ++ [Value.int .i64 ((x : Int) / (y : Int) % 2)] := by
            have := HB.out
            simp only [b01, List.map_append, List.map_cons, List.map_nil]
            rw [← this]; simp
          have hin : OfIn w w3 (.slice A3 (M.length + 1) c3) (L ++ (num 8 x).take (t + 1)) := by
            refine ⟨A3, c3, by rw [hM1]; simp, ?_, ?_⟩
            · rw [hM1, e3, List.length_append]; exact hown3
            · refine Only.fresh (ho2.alloc _) honly3 (fun q hq => (hown2.lt q hq).1)
          have hhas3 := (hhas.alloc (.cells #[Value.int .i64 ((x : Int) / (y : Int) % 2)] 3)).only honly3 (fun e => by
            have hM2 : (L ++ (num 8 x).take t).length = M.length := by rw [HM.out]
            exact hne _ (by rw [hM2]; exact e) rfl)
          have hwo : wo.heap.size < wr.heap.size := hhas.lt
          have hne3 : ∀ q, (Value.slice A3 (M.length + 1) c3).ownBlock = some q → q ≠ wo.heap.size := by
            intro q hq
            rw [ownBlock_slice] at hq
            rcases hblk3 q hq with h | h
            · have hM2 : (L ++ (num 8 x).take t).length = M.length := by rw [HM.out]
              exact hne q (by rw [hM2]; exact h)
            · omega
          have HIN := Ost.hid (And.intro hin (And.intro hhas3 hne3))
          clear hin hhas3 hne3 hM1 e3 hown3 honly3 hblk3 hhas hne hc8
          go_wp2
          go_roundw
          case rel => exact ⟨t + 1, by omega, by go_num, HIN.out.2.1, HIN.out.1, HIN.out.2.2⟩
          case measure => simp [intOf]; omega
        · obtain rfl : t = 8 := by omega
          rw [show (num 8 x).take 8 = num 8 x from List.take_of_length_le (Nat.le_of_eq (num_length 8 x))] at hown2 ⊢
          rw [← HS.out] at hown2 ⊢
          go_wp2
          go_roundw
          case rel => exact ⟨k + 1, by omega, by go_num, A2, c2, rfl, hown2, ho2⟩
          case measure => simp [intOf]; omega
    · obtain rfl : k = n := by omega
      have hall : cs.take k = cs := by rw [← HN.out]; exact List.take_length
      have hlen8 : (nums 8 cs).length = 8 * k := by rw [nums_length, HN.out]; omega
      rw [hall, hlen8] at hown1
      rw [hall, hlen8]
      go_wp2
      go_ret
      exact ⟨A1, c1, rfl, hown1, ho1⟩

/-- The bits of one byte of bits, as far as t. -/
def part8 (l : List Bool) (q t : Nat) : List Bool := (List.range t).map fun k => l.getD (8 * q + k) false
theorem part8_length (l : List Bool) (q t : Nat) : (part8 l q t).length = t := by simp [part8]
theorem part8_succ (l : List Bool) (q t : Nat) : part8 l q (t + 1) = part8 l q t ++ [l.getD (8 * q + t) false] := by simp [part8, List.range_succ]

theorem val_testBit (l : List Bool) : ∀ k, k ≤ l.length → ∀ r, r < k → (val (l.take k)).testBit (k - 1 - r) = l.getD r false := by
  intro k
  induction k with
  | zero => intro _ r hr; omega
  | succ k ih =>
    intro hk r hr
    rw [List.take_succ_eq_append_getElem (by omega), val_snoc]
    by_cases h : r = k
    · subst h
      rw [show r + 1 - 1 - r = 0 by omega, Nat.testBit_zero]
      rw [List.getD_eq_getElem?_getD, List.getElem?_eq_getElem (by omega)]
      cases l[r] <;> simp <;> omega
    · rw [show k + 1 - 1 - r = (k - 1 - r) + 1 by omega, Nat.testBit_succ]
      rw [show (2 * val (l.take k) + (l[k]'(by omega)).toNat) / 2 = val (l.take k) by have := Bool.toNat_le (l[k]'(by omega)); omega]
      exact ih (by omega) r (by omega)

/-- Byte q of bits. -/
def byte8 (l : List Bool) (q : Nat) : Nat := val (part8 l q 8)
theorem byte8_lt (l : List Bool) (q : Nat) : byte8 l q < 256 := by have := val_lt (part8 l q 8); rw [part8_length] at this; exact this
theorem byte8_bit (l : List Bool) (q r : Nat) (hr : r < 8) : (byte8 l q).testBit (7 - r) = l.getD (8 * q + r) false := by
  have := val_testBit (part8 l q 8) 8 (by rw [part8_length]; omega) r hr
  rw [List.take_of_length_le (by rw [part8_length]; omega)] at this
  unfold byte8
  rw [show 7 - r = 8 - 1 - r by omega, this]
  simp [part8, List.getD, hr]

/-- The bytes of bits. -/
def pack (l : List Bool) (q : Nat) : List Nat := (List.range q).map (byte8 l)
theorem pack_length (l : List Bool) (q : Nat) : (pack l q).length = q := by simp [pack]
theorem pack_succ (l : List Bool) (q : Nat) : pack l (q + 1) = pack l q ++ [byte8 l q] := by simp [pack, List.range_succ]
theorem pack_packs (l : List Bool) : Packs (pack l ((l.length + 7) / 8)) l := by
  refine packs_mk ?_ (pack_length _ _) ?_
  · intro c hc
    obtain ⟨q, _, rfl⟩ := List.mem_map.1 hc
    exact byte8_lt _ _
  · intro i hi
    rw [pack_length] at hi
    unfold bitOf
    rw [show (pack l ((l.length + 7) / 8)).getD (i / 8) 0 = byte8 l (i / 8) by
      simp [pack, List.getD, show i / 8 < (l.length + 7) / 8 by omega]]
    rw [byte8_bit _ _ _ (by omega), show 8 * (i / 8) + i % 8 = i by omega]

/-- The relation of Done's outer loop. -/
def DoneIn (w wr : World) (v : Value) (cs : List Nat) : Prop :=
  ∃ A c, v = .slice A cs.length c ∧ wr.ownsRow w.heap.size 5 1 (.slice A cs.length c) cs.length (u8s cs) ∧ Only (fun _ => False) w wr

set_option maxHeartbeats 1000000 in
theorem refDone_any (A : Option Addr) (n c : Nat) (l : List Bool) (w : World) (hn : l.length = n) (hs : Sees w A (b01 l)) (hle : n ≤ 1048576) :
    Calls Try.prog 14 #[.slice A n c] w fun e w' => ∃ A' c' cs, Packs cs l ∧ e = .returned (.slice A' cs.length c') ∧ w'.ownsRow w.heap.size 5 1 (.slice A' cs.length c') cs.length (u8s cs) ∧ Only (fun _ => False) w w' := by
  obtain ⟨i0, hi, hz0, hz1, hz2⟩ := info_parts info5
  have HN := Ost.hid hn
  clear hn
  go_enter Try.func14, Try.ntmps14
  go_wp2_with (fail)
  go_loopw [3, 4] (fun v i wr => ∃ q : Nat, q ≤ (n + 7) / 8 ∧ i = .int .i64 ((8 * q : Nat) : Int) ∧ DoneIn w wr v (pack l q)) (fun _ i _ => (n + 8 - intOf i).toNat)
  case atStart => exact ⟨0, Nat.zero_le _, rfl, none, 0, rfl, World.ownsRow_nil _ _ _ _, Only.refl _ _⟩
  case round =>
    obtain ⟨q, hq, rfl, A1, c1, rfl, hown1, ho1⟩ := hrel
    obtain ⟨wo, rfl⟩ : ∃ wo : World, wo = wr := ⟨_, rfl⟩
    rw [pack_length] at hown1 ⊢
    by_cases hlt : 8 * q < n
    · have hs1 := hs.old ho1 (fun _ _ e => e)
      go_wp2_with (fail)
      go_loop [5, 6] (fun v t => ∃ k : Nat, k ≤ 8 ∧ t = .int .i64 k ∧ v = .int .i64 ((val (part8 l q k) : Nat) : Int)) (fun _ t => 8 - (intOf t).toNat)
      case atStart => exact ⟨0, by omega, rfl, rfl⟩
      case round =>
        obtain ⟨k, hk, rfl, rfl⟩ := hrel
        by_cases hkt : k < 8
        · have HV : Hid (val (part8 l q (k + 1)) = 2 * val (part8 l q k) + (l.getD (8 * q + k) false).toNat) := by show _ = _; rw [part8_succ, val_snoc]
          have hx : val (part8 l q k) < 256 := by
            have h1 := val_lt (part8 l q k)
            rw [part8_length] at h1
            have h2 : (2 : Nat) ^ k ≤ 2 ^ 8 := Nat.pow_le_pow_right (by omega) hk
            have h3 : (2 : Nat) ^ 8 = 256 := by decide
            omega
          generalize val (part8 l q k) = x at hx HV
          by_cases hin : 8 * q + k < n
          · have hkl : 8 * q + k < l.length := by have := HN.out; omega
            obtain ⟨b, o, rfl, _, hcell⟩ := hs1.at_ (b01_get hkl)
            have hy1 : (l.getD (8 * q + k) false).toNat ≤ 1 := Bool.toNat_le _
            generalize (l.getD (8 * q + k) false).toNat = y at hcell HV hy1
            go_wp2
            go_round
            case rel => exact ⟨k + 1, by omega, by go_num, by rw [HV.out]; go_num⟩
            case measure => simp [intOf]; omega
          · have h0 : l.getD (8 * q + k) false = false := by rw [List.getD_eq_getElem?_getD, List.getElem?_eq_none (by have := HN.out; omega)]; rfl
            rw [h0] at HV
            clear h0
            go_wp2
            go_round
            case rel => exact ⟨k + 1, by omega, by go_num, by rw [HV.out]; simp⟩
            case measure => simp [intOf]; omega
        · obtain rfl : k = 8 := by omega
          have hb := byte8_lt l q
          have HB : Hid (val (part8 l q 8) = byte8 l q) := rfl
          rw [HB.out]
          generalize hg : byte8 l q = x at hb
          have HX := Ost.hid hg
          clear hg
          go_wp2_with (at_builtin; refine wpList_app _ rfl (.tmp 33) (.tmp 36) 22 rfl w.heap.size 5 i0 (.int .u8 0) 1 Try.underlying22 hi hz0 hz1 hz2 rfl _ _ _ rfl (hown1.alloc _) (some ⟨wo.heap.size, 0, none⟩) 1 1 [.int .u8 (x : Int)] rfl rfl (Sees.one (Has.new _ _ _)) (by intro u hu; simp at hu; subst hu; rfl) (by unfold maxLen; omega) (by omega) (by have := ho1.size; simp; omega) ?_)
          intro A3 c3 w3 hown3 honly3 hblk3
          have hin : DoneIn w w3 (.slice A3 (q + 1) c3) (pack l (q + 1)) := by
            refine ⟨A3, c3, by rw [pack_length], ?_, ?_⟩
            · rw [pack_length, pack_succ, HX.out]
              simpa [u8s] using hown3
            · exact Only.fresh (ho1.alloc _) honly3 (fun i hi => (hown1.lt i hi).1)
          have HIN := Ost.hid hin
          clear hin hown3 honly3 hblk3
          go_wp2
          go_roundw
          case rel => exact ⟨q + 1, by omega, by go_num, HIN.out⟩
          case measure => simp [intOf]; omega
    · obtain rfl : q = (n + 7) / 8 := by omega
      go_wp2
      go_ret
      have e : pack l ((n + 7) / 8) = pack l ((l.length + 7) / 8) := by rw [HN.out]
      refine ⟨A1, c1, pack l ((n + 7) / 8), ?_, by rw [pack_length]; rfl, by rw [pack_length]; exact hown1, ho1⟩
      rw [e]; exact pack_packs l
end Go.Proofs.Ytpdihllpcnnfdaa
