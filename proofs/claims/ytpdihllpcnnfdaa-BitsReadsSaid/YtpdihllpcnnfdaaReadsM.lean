/- BitsReads: the whole walk. No condition. -/
import Derived.Test.YtpdihllpcnnfdaaReadsR1
import Derived.Test.YtpdihllpcnnfdaaReadsR2
import Derived.Test.YtpdihllpcnnfdaaReadsR3
import Derived.Test.YtpdihllpcnnfdaaReadsR4
set_option linter.unusedSimpArgs false
set_option linter.unusedVariables false
namespace Go.Proofs.Ytpdihllpcnnfdaa
open Go.RowKit Ost

set_option maxRecDepth 100000 in
set_option maxHeartbeats 200000000 in
theorem reads_any (A : Option Addr) (len cap : Nat) (bs : List Nat) (B : Option Addr) (len1 cap1 : Nat) (zs : List (Int × Int)) (w : World) (hl : bs.length = len) (hs : Sees w A (u8s bs)) (h256 : ∀ x ∈ bs, x < 256) (hcap : len ≤ cap) (hmax : cap ≤ maxLen) (hA : A = none → cap = 0)
    (hz : Asks w B len1 cap1 zs) :
    Calls Try.prog 4 #[.slice A len cap, .slice B len1 cap1] w fun e w' => e = .returned (.bool true) ∧ Only (fun _ => False) w w' := by
  unfold maxLen at hmax
  have hmax1 := hz.2.2.1
  have hcap1 := hz.2.1
  unfold maxLen at hmax1
  have HA := Ost.hid hA
  have HL := Ost.hid hl
  have H256 := Ost.hid h256
  have HZ := Ost.hid hz
  clear hA hl h256 hz
  obtain ⟨bs0, HBS0⟩ : ∃ x, Hid (bs = x) := ⟨_, rfl⟩
  obtain ⟨len0, HLEN0⟩ : ∃ x, Hid (len = x) := ⟨_, rfl⟩
  have hs60 : Sees w A (u8s (bs.take 60)) := by have := hs.take 60; simpa [u8s, List.map_take] using this
  obtain ⟨l60, HL60⟩ : ∃ x, Hid ((bs.take 60).length = x) := ⟨_, rfl⟩
  have hl60 : l60 ≤ 60 ∧ l60 ≤ cap ∧ (len ≤ 60 → l60 = len) ∧ (60 < len → l60 = 60) := by
    have := HL60.out; have := HL.out; rw [List.length_take] at *; omega
  have H25660 : Hid (∀ x ∈ bs.take 60, x < 256) := fun x hx => H256.out x (List.mem_of_mem_take hx)
  clear HBS0 HLEN0 hs
  go_enter Try.func4, Try.ntmps4
  go_upto_if 14 with fail
  go_cut [0] (fun s0 wx => s0 = .slice A l60 cap ∧ w = wx)
  case first =>
    by_cases hlen : len ≤ 60
    · have e := hl60.2.2.1 hlen
      go_wp2_with (fail)
      go_meet
      exact ⟨by rw [e], rfl⟩
    · have e := hl60.2.2.2 (by omega)
      have hc60 : 60 ≤ cap := by omega
      go_wp2_with (fail)
      go_meet
      exact ⟨by rw [e], rfl⟩
  case rest =>
  obtain ⟨rfl, rfl⟩ := hcut
  obtain ⟨hlen, hcap60, _, _⟩ := hl60
  clear H256 HL hcap
  generalize bs.take 60 = bs at hs60 HL60 H25660
  generalize l60 = len at HL60 hlen hcap60 ⊢
  have HL := HL60
  have H256 := H25660
  have hs := hs60
  have hcap := hcap60
  clear HL60 H25660 hs60 hcap60
  go_wp2_with (fail)
  refine (of_any A len cap bs _ hs HL.out HA.out (by omega) H256.out).mono ?_
  rintro e w1 ⟨bi, sv, rfl, hin, ho1⟩
  have hbi := hin.blk
  go_wp2_with (fail)
  refine (refOf_any A len cap bs w1 HL.out (hs.old ho1 (fun _ _ e => e)) H256.out (by omega)).mono ?_
  rintro e w2 ⟨A2, c2, rfl, hown2, ho2⟩
  have hin2 := hin.only ho2 (fun e => e) (fun _ _ e => e)
  have ho12 : Only (fun _ => False) w w2 := ho1.trans ho2 (fun _ _ e => e)
  have hs12 := ho1.size
  have hs2 := ho2.size
  go_wp2_with (fail)
  have hboth : Both w (w2.alloc (.cells #[.slice A2 (8 * len) c2, .int .i64 0, .int .i64 0] 44)) w.heap.size w1.heap.size bi w2.heap.size sv (.slice A2 (8 * len) c2) bs 0 0 := by
    refine ⟨hin2.only ((Only.refl (fun _ => False) w2).alloc _) (fun e => e) (fun _ _ e => e), ⟨hs2, Has.new _ _ _, ?_, Nat.zero_le _, by rw [nums_length]; have := HL.out; omega⟩, ho12.alloc _⟩
    have e : (nums 8 bs).length = 8 * len := by rw [nums_length, HL.out]; omega
    rw [e]; exact hown2.alloc _
  have hlie : Lie w w.heap.size w1.heap.size bi w2.heap.size sv (.slice A2 (8 * len) c2) := by
    refine ⟨Nat.le_refl _, hs12, by omega, fun h => by have := (hbi.2.2 _ h).2; omega, fun h => by have := (hown2.lt _ h).1; omega⟩
  have HLIE := Ost.hid hlie
  have HB := Ost.hid hboth
  clear hlie hboth hin2 hown2 hin ho1 ho2 ho12 hs
  obtain ⟨bw, HBW⟩ : ∃ bw, Hid (w2.heap.size = bw) := ⟨_, rfl⟩
  rw [HBW.out] at HB HLIE ⊢
  generalize w2.alloc (.cells #[.slice A2 (8 * len) c2, .int .i64 0, .int .i64 0] 44) = w3 at HB ⊢
  generalize (Value.slice A2 (8 * len) c2) = lv at HB HLIE
  go_loopw [25] (fun i wr => ∃ (k a e : Nat), k ≤ len1 ∧ i = .int .i64 k ∧ Both w wr w.heap.size w1.heap.size bi bw sv lv bs a e) (fun i _ => len1 - (intOf i).toNat)
  case atStart => exact ⟨0, 0, 0, Nat.zero_le _, rfl, HB.out⟩
  case round =>
    obtain ⟨k, a, e, hk, rfl, hb⟩ := hrel
    by_cases hlt : k < len1
    · obtain ⟨b, o, kind, n, rfl, hbw, hq0, hq1, hn1, hn2⟩ := HZ.out.at_ hb.2.2 hlt
      rw [← Nat.add_assoc] at hq1
      have hbsz : b < wr.heap.size := Nat.lt_of_lt_of_le hbw hb.2.2.size
      by_cases h30 : k < 30
      · by_cases hk0 : kind = 0
        · have hkb : (kind == 0) = true := by simpa using hk0
          go_wp2_with (fail)
          have hsz := hb.size
          have hq : Has (wr.alloc (.cells #[.int .i64 0, .int .i64 n] 46)) wr.heap.size 46 #[.int .i64 0, .int .i64 n] := Has.new _ _ _
          have hbq := hb.keep ((Only.refl (fun _ => False) wr).alloc (.cells #[.int .i64 0, .int .i64 n] 46))
          generalize wr.alloc (.cells #[.int .i64 0, .int .i64 n] 46) = Wq at hq hbq ⊢
          generalize wr.heap.size = gq at hq hsz ⊢
          have hqc := hq.cell 1
          simp at hqc
          have hgsz := hq.lt
          have hll0 : (nums 8 bs).length = 8 * bs.length := by rw [nums_length]; omega
          have HLL0 := Ost.hid hll0
          clear hll0
          have HBQ := Ost.hid hbq
          clear hbq
          by_cases hyes : e = 0 ∧ 1 ≤ n ∧ n ≤ 64 ∧ (a : Int) + n ≤ 8 * bs.length
          · obtain ⟨rfl, y1, y2, y3⟩ := hyes
            obtain ⟨n', rfl⟩ := Int.eq_ofNat_of_zero_le (show 0 ≤ n by omega)
            have hle : a + n' ≤ 8 * bs.length := by omega
            have hle2 : a + n' ≤ (nums 8 bs).length := by rw [HLL0.out]; omega
            obtain ⟨x, HX⟩ : ∃ x, Hid (val (span bs a n') = x) := ⟨_, rfl⟩
            have HX2 : Hid (val (((nums 8 bs).drop a).take n') = x) := by show _ = _; rw [span_nums bs a n' hle]; exact HX.out
            have hlen' : (((nums 8 bs).drop a).take n').length = n' := by rw [List.length_take, List.length_drop]; omega
            go_region_held3 (fun w' => w'.cell? ⟨gq, 1, none⟩ = some (.int .i64 (n' : Int))) (first | exact hqc | exact hc5 | exact hc6)
              (first
              | (go_at_call 17; refine (inBits_yes _ bi n' sv bs a Wq.drew HBQ.out.1 (by omega) (by omega) hle).mono ?_; rw [HX.out]; rintro e w5 ⟨rfl, hin5, ho5⟩; have hc5 : w5.cell? ⟨gq, 1, none⟩ = some (.int .i64 (n' : Int)) := (ho5.cell (p := ⟨gq, 1, none⟩) hgsz (fun (h : gq = bi) => by omega)).trans hqc)
              | (go_at_call 20; refine (right_yes _ _ (by omega) (by omega)).mono ?_; rintro e w' ⟨rfl, rfl⟩)
              | (go_at_call 19; refine (take_yes _ bw n' lv (nums 8 bs) a w5 (Both.ref HBQ.out.drew HLIE.out ho5) hle2).mono ?_; rintro e w6 ⟨A6, c6, rfl, hsee6, hA6, href6, ho6⟩; have hc6 : w6.cell? ⟨gq, 1, none⟩ = some (.int .i64 (n' : Int)) := (ho6.cell (p := ⟨gq, 1, none⟩) (Nat.lt_of_lt_of_le hgsz ho5.size) (fun (h : gq = bw) => by omega)).trans hc5)
              | (go_at_call 18; refine (refVal_any A6 n' c6 (((nums 8 bs).drop a).take n') _ hlen' (by omega) hsee6).mono ?_; rw [HX2.out]; rintro e w7 ⟨rfl, rfl⟩))
            have hst : ∃ a2 e2, Both w w6 w.heap.size w1.heap.size bi bw sv lv bs a2 e2 := ⟨_, _, Both.step HBQ.out.drew HLIE.out hin5 ho5 href6 ho6⟩
            clear hq hqc hc5 hc6 HBQ href6 hin5 ho5 ho6 hsee6 hq0 hq1 hb hlen'
            obtain ⟨a2, e2, hst⟩ := hst
            have hal : a2 ≤ (nums 8 bs).length := hst.2.1.2.2.2.1
            have hll : (nums 8 bs).length = 8 * bs.length := by rw [nums_length]; omega
            have HST := Ost.hid hst
            have hr := hst.2.1.2.1
            obtain ⟨Al, cl, hlv, _, _, _⟩ := own_form hst.2.1.2.2.1
            have HLV := Ost.hid hlv
            rw [hlv] at hr
            have hr0 := hr.cell 0
            have hr1 := hr.cell 1
            have hr2 := hr.cell 2
            simp at hr0 hr1 hr2
            clear hr hst hlv
            obtain ⟨LL, HLL⟩ : ∃ LL, Hid ((nums 8 bs).length = LL) := ⟨_, rfl⟩
            rw [HLL.out] at hr0 hal
            have HL8 : Hid (LL = 8 * bs.length) := HLL.out ▸ hll
            clear hll
            have hbl : LL ≤ 480 := by have := HL8.out; have := HL.out; omega
            go_wp2_with (fail)
            go_quiet (fail)
            have hst7 := HST.out.drewN nq
            clear hr0 hr1 hr2 HST
            generalize w6.drewN nq = w7 at hst7 ⊢
            have hr := hst7.2.1.2.1
            rw [HLV.out] at hr
            have hr0 := hr.cell 0
            have hr1 := hr.cell 1
            have hr2 := hr.cell 2
            simp at hr0 hr1 hr2
            rw [HLL.out] at hr0
            clear hr
            have HST := Ost.hid hst7
            clear hst7
            by_cases he2 : e2 = 0
            · subst he2
              obtain ⟨lf, HLF⟩ : ∃ lf, Hid (8 * bs.length - a2 = lf) := ⟨_, rfl⟩
              have hlf : IntKind.i64.wrap ((LL : Int) - (a2 : Int)) = (lf : Int) := by rw [IntWalk.i64_in _ (by omega)]; have := HLF.out; have := HL8.out; omega
              have hlf2 : (LL : Int) - (a2 : Int) = (lf : Int) := by have := HLF.out; have := HL8.out; omega
              go_wp2_with (fail)
              go_quiet ((first
                | (go_at_call 24; exact Calls.quiet_of_same (err_q _ bi sv bs a2 0 _ (HST.out.1.drewN _)))
                | (go_at_call 25; exact Calls.quiet_of_same (at_q _ bi sv bs a2 0 _ (HST.out.1.drewN _)))
                | (go_at_call 26; exact Calls.quiet_of (left_q _ bi lf sv bs a2 0 _ (HST.out.1.drewN _) ((if_pos rfl).trans HLF.out)))))
              go_wp2
              go_roundw
              case rel => exact ⟨k + 1, a2, 0, by omega, by go_num, HST.out.drewN _⟩
              case measure => simp [intOf]; omega
            · have hz1 : ((e2 : Int) == 0) = false := by simp; omega
              have hz2 : ((e2 : Int) != 0) = true := by simp; omega
              go_wp2_with (fail)
              go_quiet ((first
                | (go_at_call 24; exact Calls.quiet_of_same (err_q _ bi sv bs a2 e2 _ (HST.out.1.drewN _)))
                | (go_at_call 25; exact Calls.quiet_of_same (at_q _ bi sv bs a2 e2 _ (HST.out.1.drewN _)))
                | (go_at_call 26; exact Calls.quiet_of (left_q _ bi 0 sv bs a2 e2 _ (HST.out.1.drewN _) (if_neg he2)))))
              go_wp2
              go_roundw
              case rel => exact ⟨k + 1, a2, e2, by omega, by go_num, HST.out.drewN _⟩
              case measure => simp [intOf]; omega
          · obtain ⟨G, HG⟩ : ∃ G, Hid ((decide (1 ≤ n) && decide (n ≤ 64)) = G) := ⟨_, rfl⟩
            obtain ⟨E, HE⟩ : ∃ E, Hid (wrong e (decide (1 ≤ n) && decide (n ≤ 64)) n 1 (8 * bs.length - a) = E) := ⟨_, rfl⟩
            have hal0 := HBQ.out.1.2.2.2.2.1
            have hE : E ≠ 0 := by
              rw [← HE.out]
              refine wrong_ne (by omega) hal0 (fun ⟨g1, g2, g3⟩ => hyes ?_)
              simp at g2
              exact ⟨g1, g2.1, g2.2, by omega⟩
            have HER : Hid (wrongR e G n ((nums 8 bs).length - a) = E) := by show _ = _; rw [← HG.out, wrong_bits, HLL0.out]; exact HE.out
            have HNE : Hid (E ≠ 0) := hE
            clear hE hyes
            go_region_held3 (fun w' => w'.cell? ⟨gq, 1, none⟩ = some (.int .i64 n)) (first | exact hqc | exact hc5 | exact hc6)
              (first
              | (go_at_call 17; refine (inBits_no _ bi n sv bs a e Wq.drew HBQ.out.1 (by rw [HE.out]; exact HNE.out)).mono ?_; rw [HE.out]; rintro r5 w5 ⟨rfl, hin5, ho5⟩; have hc5 : w5.cell? ⟨gq, 1, none⟩ = some (.int .i64 n) := (ho5.cell (p := ⟨gq, 1, none⟩) hgsz (fun (h : gq = bi) => by omega)).trans hqc)
              | (go_at_call 20; refine (right_any n G _ HG.out).mono ?_; rintro r w' ⟨rfl, rfl⟩)
              | (go_at_call 19; refine (take_no _ bw n lv (nums 8 bs) a e G w5 (Both.ref HBQ.out.drew HLIE.out ho5) (by rw [HER.out]; exact HNE.out)).mono ?_; rw [HER.out]; rintro r6 w6 ⟨rfl, href6, ho6⟩; have hc6 : w6.cell? ⟨gq, 1, none⟩ = some (.int .i64 n) := (ho6.cell (p := ⟨gq, 1, none⟩) (Nat.lt_of_lt_of_le hgsz ho5.size) (fun (h : gq = bw) => by omega)).trans hc5)
              | (go_at_call 18; refine (refVal_any none 0 0 [] _ rfl (by omega) (Sees.nil _ _)).mono ?_; rw [val_nil]; rintro r7 w7 ⟨rfl, rfl⟩))
            have hst : ∃ a2 e2, Both w w6 w.heap.size w1.heap.size bi bw sv lv bs a2 e2 := ⟨_, _, Both.step HBQ.out.drew HLIE.out hin5 ho5 href6 ho6⟩
            clear hq hqc hc5 hc6 HBQ href6 hin5 ho5 ho6 hq0 hq1 hb
            obtain ⟨a2, e2, hst⟩ := hst
            have hal : a2 ≤ (nums 8 bs).length := hst.2.1.2.2.2.1
            have hll : (nums 8 bs).length = 8 * bs.length := by rw [nums_length]; omega
            have HST := Ost.hid hst
            have hr := hst.2.1.2.1
            obtain ⟨Al, cl, hlv, _, _, _⟩ := own_form hst.2.1.2.2.1
            have HLV := Ost.hid hlv
            rw [hlv] at hr
            have hr0 := hr.cell 0
            have hr1 := hr.cell 1
            have hr2 := hr.cell 2
            simp at hr0 hr1 hr2
            clear hr hst hlv
            obtain ⟨LL, HLL⟩ : ∃ LL, Hid ((nums 8 bs).length = LL) := ⟨_, rfl⟩
            rw [HLL.out] at hr0 hal
            have HL8 : Hid (LL = 8 * bs.length) := HLL.out ▸ hll
            clear hll
            have hbl : LL ≤ 480 := by have := HL8.out; have := HL.out; omega
            go_wp2_with (fail)
            go_quiet (fail)
            have hst7 := HST.out.drewN nq
            clear hr0 hr1 hr2 HST
            generalize w6.drewN nq = w7 at hst7 ⊢
            have hr := hst7.2.1.2.1
            rw [HLV.out] at hr
            have hr0 := hr.cell 0
            have hr1 := hr.cell 1
            have hr2 := hr.cell 2
            simp at hr0 hr1 hr2
            rw [HLL.out] at hr0
            clear hr
            have HST := Ost.hid hst7
            clear hst7
            by_cases he2 : e2 = 0
            · subst he2
              obtain ⟨lf, HLF⟩ : ∃ lf, Hid (8 * bs.length - a2 = lf) := ⟨_, rfl⟩
              have hlf : IntKind.i64.wrap ((LL : Int) - (a2 : Int)) = (lf : Int) := by rw [IntWalk.i64_in _ (by omega)]; have := HLF.out; have := HL8.out; omega
              have hlf2 : (LL : Int) - (a2 : Int) = (lf : Int) := by have := HLF.out; have := HL8.out; omega
              go_wp2_with (fail)
              go_quiet ((first
                | (go_at_call 24; exact Calls.quiet_of_same (err_q _ bi sv bs a2 0 _ (HST.out.1.drewN _)))
                | (go_at_call 25; exact Calls.quiet_of_same (at_q _ bi sv bs a2 0 _ (HST.out.1.drewN _)))
                | (go_at_call 26; exact Calls.quiet_of (left_q _ bi lf sv bs a2 0 _ (HST.out.1.drewN _) ((if_pos rfl).trans HLF.out)))))
              go_wp2
              go_roundw
              case rel => exact ⟨k + 1, a2, 0, by omega, by go_num, HST.out.drewN _⟩
              case measure => simp [intOf]; omega
            · have hz1 : ((e2 : Int) == 0) = false := by simp; omega
              have hz2 : ((e2 : Int) != 0) = true := by simp; omega
              go_wp2_with (fail)
              go_quiet ((first
                | (go_at_call 24; exact Calls.quiet_of_same (err_q _ bi sv bs a2 e2 _ (HST.out.1.drewN _)))
                | (go_at_call 25; exact Calls.quiet_of_same (at_q _ bi sv bs a2 e2 _ (HST.out.1.drewN _)))
                | (go_at_call 26; exact Calls.quiet_of (left_q _ bi 0 sv bs a2 e2 _ (HST.out.1.drewN _) (if_neg he2)))))
              go_wp2
              go_roundw
              case rel => exact ⟨k + 1, a2, e2, by omega, by go_num, HST.out.drewN _⟩
              case measure => simp [intOf]; omega
        · have hkn0 : (kind == 0) = false := by simpa using hk0
          by_cases hk1 : kind = 1
          · have hkb : (kind == 1) = true := by simpa using hk1
            by_cases h1000 : 1000 < n
            · go_wp2_with (fail)
              have hsz := hb.size
              have hq : Has (wr.alloc (.cells #[.int .i64 1, .int .i64 n] 46)) wr.heap.size 46 #[.int .i64 1, .int .i64 n] := Has.new _ _ _
              have hbq := hb.keep ((Only.refl (fun _ => False) wr).alloc (.cells #[.int .i64 1, .int .i64 n] 46))
              generalize wr.alloc (.cells #[.int .i64 1, .int .i64 n] 46) = Wq at hq hbq ⊢
              generalize wr.heap.size = gq at hq hsz ⊢
              have hqc := hq.cell 1
              simp at hqc
              have hgsz := hq.lt
              have hll0 : (nums 8 bs).length = 8 * bs.length := by rw [nums_length]; omega
              have HLL0 := Ost.hid hll0
              clear hll0
              have HBQ := Ost.hid hbq
              clear hbq
              have hyes : ¬ (e = 0 ∧ 0 ≤ n ∧ (a : Int) + 8 * n ≤ 8 * bs.length) := by have := HL.out; omega
              go_wp2_with (fail)
              refine r17_big _ w w1 Wq bi bw gq len sv lv bs a e n HL hlen HLL0 HLIE HBQ hsz hgsz hqc h1000 hyes ?_
              intro w6 v55 v56 v57 v58 v59 v60 v61 v62 v63 v64 v65 v66 v67 v68 v69 hst
              clear hq hqc HBQ hq0 hq1 hb
              obtain ⟨a2, e2, hst⟩ := hst
              have hal : a2 ≤ (nums 8 bs).length := hst.2.1.2.2.2.1
              have hll : (nums 8 bs).length = 8 * bs.length := by rw [nums_length]; omega
              have HST := Ost.hid hst
              have hr := hst.2.1.2.1
              obtain ⟨Al, cl, hlv, _, _, _⟩ := own_form hst.2.1.2.2.1
              have HLV := Ost.hid hlv
              rw [hlv] at hr
              have hr0 := hr.cell 0
              have hr1 := hr.cell 1
              have hr2 := hr.cell 2
              simp at hr0 hr1 hr2
              clear hr hst hlv
              obtain ⟨LL, HLL⟩ : ∃ LL, Hid ((nums 8 bs).length = LL) := ⟨_, rfl⟩
              rw [HLL.out] at hr0 hal
              have HL8 : Hid (LL = 8 * bs.length) := HLL.out ▸ hll
              clear hll
              have hbl : LL ≤ 480 := by have := HL8.out; have := HL.out; omega
              go_wp2_with (fail)
              go_quiet (fail)
              have hst7 := HST.out.drewN nq
              clear hr0 hr1 hr2 HST
              generalize w6.drewN nq = w7 at hst7 ⊢
              have hr := hst7.2.1.2.1
              rw [HLV.out] at hr
              have hr0 := hr.cell 0
              have hr1 := hr.cell 1
              have hr2 := hr.cell 2
              simp at hr0 hr1 hr2
              rw [HLL.out] at hr0
              clear hr
              have HST := Ost.hid hst7
              clear hst7
              by_cases he2 : e2 = 0
              · subst he2
                obtain ⟨lf, HLF⟩ : ∃ lf, Hid (8 * bs.length - a2 = lf) := ⟨_, rfl⟩
                have hlf : IntKind.i64.wrap ((LL : Int) - (a2 : Int)) = (lf : Int) := by rw [IntWalk.i64_in _ (by omega)]; have := HLF.out; have := HL8.out; omega
                have hlf2 : (LL : Int) - (a2 : Int) = (lf : Int) := by have := HLF.out; have := HL8.out; omega
                go_wp2_with (fail)
                go_quiet ((first
                  | (go_at_call 24; exact Calls.quiet_of_same (err_q _ bi sv bs a2 0 _ (HST.out.1.drewN _)))
                  | (go_at_call 25; exact Calls.quiet_of_same (at_q _ bi sv bs a2 0 _ (HST.out.1.drewN _)))
                  | (go_at_call 26; exact Calls.quiet_of (left_q _ bi lf sv bs a2 0 _ (HST.out.1.drewN _) ((if_pos rfl).trans HLF.out)))))
                go_wp2
                go_roundw
                case rel => exact ⟨k + 1, a2, 0, by omega, by go_num, HST.out.drewN _⟩
                case measure => simp [intOf]; omega
              · have hz1 : ((e2 : Int) == 0) = false := by simp; omega
                have hz2 : ((e2 : Int) != 0) = true := by simp; omega
                go_wp2_with (fail)
                go_quiet ((first
                  | (go_at_call 24; exact Calls.quiet_of_same (err_q _ bi sv bs a2 e2 _ (HST.out.1.drewN _)))
                  | (go_at_call 25; exact Calls.quiet_of_same (at_q _ bi sv bs a2 e2 _ (HST.out.1.drewN _)))
                  | (go_at_call 26; exact Calls.quiet_of (left_q _ bi 0 sv bs a2 e2 _ (HST.out.1.drewN _) (if_neg he2)))))
                go_wp2
                go_roundw
                case rel => exact ⟨k + 1, a2, e2, by omega, by go_num, HST.out.drewN _⟩
                case measure => simp [intOf]; omega
            · go_wp2_with (fail)
              have hsz := hb.size
              have hq : Has (wr.alloc (.cells #[.int .i64 1, .int .i64 n] 46)) wr.heap.size 46 #[.int .i64 1, .int .i64 n] := Has.new _ _ _
              have hbq := hb.keep ((Only.refl (fun _ => False) wr).alloc (.cells #[.int .i64 1, .int .i64 n] 46))
              generalize wr.alloc (.cells #[.int .i64 1, .int .i64 n] 46) = Wq at hq hbq ⊢
              generalize wr.heap.size = gq at hq hsz ⊢
              have hqc := hq.cell 1
              simp at hqc
              have hgsz := hq.lt
              have hll0 : (nums 8 bs).length = 8 * bs.length := by rw [nums_length]; omega
              have HLL0 := Ost.hid hll0
              clear hll0
              have HBQ := Ost.hid hbq
              clear hbq
              by_cases hyes : e = 0 ∧ 0 ≤ n ∧ (a : Int) + 8 * n ≤ 8 * bs.length
              · go_wp2_with (fail)
                refine r17_yes _ w w1 Wq bi bw gq len sv lv bs a e n HL hlen HLL0 HLIE HBQ hsz hgsz hqc hyes ?_
                intro w6 v55 v56 v57 v58 v59 v60 v61 v62 v63 v64 v65 v66 v67 v68 v69 hst
                clear hq hqc HBQ hq0 hq1 hb
                obtain ⟨a2, e2, hst⟩ := hst
                have hal : a2 ≤ (nums 8 bs).length := hst.2.1.2.2.2.1
                have hll : (nums 8 bs).length = 8 * bs.length := by rw [nums_length]; omega
                have HST := Ost.hid hst
                have hr := hst.2.1.2.1
                obtain ⟨Al, cl, hlv, _, _, _⟩ := own_form hst.2.1.2.2.1
                have HLV := Ost.hid hlv
                rw [hlv] at hr
                have hr0 := hr.cell 0
                have hr1 := hr.cell 1
                have hr2 := hr.cell 2
                simp at hr0 hr1 hr2
                clear hr hst hlv
                obtain ⟨LL, HLL⟩ : ∃ LL, Hid ((nums 8 bs).length = LL) := ⟨_, rfl⟩
                rw [HLL.out] at hr0 hal
                have HL8 : Hid (LL = 8 * bs.length) := HLL.out ▸ hll
                clear hll
                have hbl : LL ≤ 480 := by have := HL8.out; have := HL.out; omega
                go_wp2_with (fail)
                go_quiet (fail)
                have hst7 := HST.out.drewN nq
                clear hr0 hr1 hr2 HST
                generalize w6.drewN nq = w7 at hst7 ⊢
                have hr := hst7.2.1.2.1
                rw [HLV.out] at hr
                have hr0 := hr.cell 0
                have hr1 := hr.cell 1
                have hr2 := hr.cell 2
                simp at hr0 hr1 hr2
                rw [HLL.out] at hr0
                clear hr
                have HST := Ost.hid hst7
                clear hst7
                by_cases he2 : e2 = 0
                · subst he2
                  obtain ⟨lf, HLF⟩ : ∃ lf, Hid (8 * bs.length - a2 = lf) := ⟨_, rfl⟩
                  have hlf : IntKind.i64.wrap ((LL : Int) - (a2 : Int)) = (lf : Int) := by rw [IntWalk.i64_in _ (by omega)]; have := HLF.out; have := HL8.out; omega
                  have hlf2 : (LL : Int) - (a2 : Int) = (lf : Int) := by have := HLF.out; have := HL8.out; omega
                  go_wp2_with (fail)
                  go_quiet ((first
                    | (go_at_call 24; exact Calls.quiet_of_same (err_q _ bi sv bs a2 0 _ (HST.out.1.drewN _)))
                    | (go_at_call 25; exact Calls.quiet_of_same (at_q _ bi sv bs a2 0 _ (HST.out.1.drewN _)))
                    | (go_at_call 26; exact Calls.quiet_of (left_q _ bi lf sv bs a2 0 _ (HST.out.1.drewN _) ((if_pos rfl).trans HLF.out)))))
                  go_wp2
                  go_roundw
                  case rel => exact ⟨k + 1, a2, 0, by omega, by go_num, HST.out.drewN _⟩
                  case measure => simp [intOf]; omega
                · have hz1 : ((e2 : Int) == 0) = false := by simp; omega
                  have hz2 : ((e2 : Int) != 0) = true := by simp; omega
                  go_wp2_with (fail)
                  go_quiet ((first
                    | (go_at_call 24; exact Calls.quiet_of_same (err_q _ bi sv bs a2 e2 _ (HST.out.1.drewN _)))
                    | (go_at_call 25; exact Calls.quiet_of_same (at_q _ bi sv bs a2 e2 _ (HST.out.1.drewN _)))
                    | (go_at_call 26; exact Calls.quiet_of (left_q _ bi 0 sv bs a2 e2 _ (HST.out.1.drewN _) (if_neg he2)))))
                  go_wp2
                  go_roundw
                  case rel => exact ⟨k + 1, a2, e2, by omega, by go_num, HST.out.drewN _⟩
                  case measure => simp [intOf]; omega
              · go_wp2_with (fail)
                refine r17_no _ w w1 Wq bi bw gq len sv lv bs a e n HL hlen HLL0 HLIE HBQ hsz hgsz hqc hn1 (by omega) hyes ?_
                intro w6 v55 v56 v57 v58 v59 v60 v61 v62 v63 v64 v65 v66 v67 v68 v69 hst
                clear hq hqc HBQ hq0 hq1 hb
                obtain ⟨a2, e2, hst⟩ := hst
                have hal : a2 ≤ (nums 8 bs).length := hst.2.1.2.2.2.1
                have hll : (nums 8 bs).length = 8 * bs.length := by rw [nums_length]; omega
                have HST := Ost.hid hst
                have hr := hst.2.1.2.1
                obtain ⟨Al, cl, hlv, _, _, _⟩ := own_form hst.2.1.2.2.1
                have HLV := Ost.hid hlv
                rw [hlv] at hr
                have hr0 := hr.cell 0
                have hr1 := hr.cell 1
                have hr2 := hr.cell 2
                simp at hr0 hr1 hr2
                clear hr hst hlv
                obtain ⟨LL, HLL⟩ : ∃ LL, Hid ((nums 8 bs).length = LL) := ⟨_, rfl⟩
                rw [HLL.out] at hr0 hal
                have HL8 : Hid (LL = 8 * bs.length) := HLL.out ▸ hll
                clear hll
                have hbl : LL ≤ 480 := by have := HL8.out; have := HL.out; omega
                go_wp2_with (fail)
                go_quiet (fail)
                have hst7 := HST.out.drewN nq
                clear hr0 hr1 hr2 HST
                generalize w6.drewN nq = w7 at hst7 ⊢
                have hr := hst7.2.1.2.1
                rw [HLV.out] at hr
                have hr0 := hr.cell 0
                have hr1 := hr.cell 1
                have hr2 := hr.cell 2
                simp at hr0 hr1 hr2
                rw [HLL.out] at hr0
                clear hr
                have HST := Ost.hid hst7
                clear hst7
                by_cases he2 : e2 = 0
                · subst he2
                  obtain ⟨lf, HLF⟩ : ∃ lf, Hid (8 * bs.length - a2 = lf) := ⟨_, rfl⟩
                  have hlf : IntKind.i64.wrap ((LL : Int) - (a2 : Int)) = (lf : Int) := by rw [IntWalk.i64_in _ (by omega)]; have := HLF.out; have := HL8.out; omega
                  have hlf2 : (LL : Int) - (a2 : Int) = (lf : Int) := by have := HLF.out; have := HL8.out; omega
                  go_wp2_with (fail)
                  go_quiet ((first
                    | (go_at_call 24; exact Calls.quiet_of_same (err_q _ bi sv bs a2 0 _ (HST.out.1.drewN _)))
                    | (go_at_call 25; exact Calls.quiet_of_same (at_q _ bi sv bs a2 0 _ (HST.out.1.drewN _)))
                    | (go_at_call 26; exact Calls.quiet_of (left_q _ bi lf sv bs a2 0 _ (HST.out.1.drewN _) ((if_pos rfl).trans HLF.out)))))
                  go_wp2
                  go_roundw
                  case rel => exact ⟨k + 1, a2, 0, by omega, by go_num, HST.out.drewN _⟩
                  case measure => simp [intOf]; omega
                · have hz1 : ((e2 : Int) == 0) = false := by simp; omega
                  have hz2 : ((e2 : Int) != 0) = true := by simp; omega
                  go_wp2_with (fail)
                  go_quiet ((first
                    | (go_at_call 24; exact Calls.quiet_of_same (err_q _ bi sv bs a2 e2 _ (HST.out.1.drewN _)))
                    | (go_at_call 25; exact Calls.quiet_of_same (at_q _ bi sv bs a2 e2 _ (HST.out.1.drewN _)))
                    | (go_at_call 26; exact Calls.quiet_of (left_q _ bi 0 sv bs a2 e2 _ (HST.out.1.drewN _) (if_neg he2)))))
                  go_wp2
                  go_roundw
                  case rel => exact ⟨k + 1, a2, e2, by omega, by go_num, HST.out.drewN _⟩
                  case measure => simp [intOf]; omega
          · have hkn1 : (kind == 1) = false := by simpa using hk1
            by_cases hk2 : kind = 2
            · have hkb : (kind == 2) = true := by simpa using hk2
              go_wp2_with (fail)
              have hsz := hb.size
              have hq : Has (wr.alloc (.cells #[.int .i64 2, .int .i64 n] 46)) wr.heap.size 46 #[.int .i64 2, .int .i64 n] := Has.new _ _ _
              have hbq := hb.keep ((Only.refl (fun _ => False) wr).alloc (.cells #[.int .i64 2, .int .i64 n] 46))
              generalize wr.alloc (.cells #[.int .i64 2, .int .i64 n] 46) = Wq at hq hbq ⊢
              generalize wr.heap.size = gq at hq hsz ⊢
              have hqc := hq.cell 1
              simp at hqc
              have hgsz := hq.lt
              have hll0 : (nums 8 bs).length = 8 * bs.length := by rw [nums_length]; omega
              have HLL0 := Ost.hid hll0
              clear hll0
              have HBQ := Ost.hid hbq
              clear hbq
              by_cases hyes : e = 0 ∧ 0 ≤ n ∧ (a : Int) + n ≤ 8 * bs.length
              · obtain ⟨rfl, y1, y3⟩ := hyes
                obtain ⟨n', rfl⟩ := Int.eq_ofNat_of_zero_le y1
                have hle : a + n' ≤ 8 * bs.length := by omega
                have hle2 : a + n' ≤ (nums 8 bs).length := by rw [HLL0.out]; omega
                go_wp2_with (fail)
                refine (skip_yes _ bi n' sv bs a Wq HBQ.out.1 hle).mono ?_
                rintro e w5 ⟨rfl, hin5, ho5⟩
                have hc5 : w5.cell? ⟨gq, 1, none⟩ = some (.int .i64 (n' : Int)) := (ho5.cell (p := ⟨gq, 1, none⟩) hgsz (fun (h : gq = bi) => by omega)).trans hqc
                go_wp2_with (fail)
                refine (take_yes _ bw n' lv (nums 8 bs) a w5 (Both.ref HBQ.out HLIE.out ho5) hle2).mono ?_
                rintro e w6 ⟨A6, c6, rfl, hsee6, hA6, href6, ho6⟩
                have hst : ∃ a2 e2, Both w w6 w.heap.size w1.heap.size bi bw sv lv bs a2 e2 := ⟨_, _, Both.step HBQ.out HLIE.out hin5 ho5 href6 ho6⟩
                clear hq hqc hc5 HBQ href6 hin5 ho5 ho6 hsee6 hq0 hq1 hb
                obtain ⟨a2, e2, hst⟩ := hst
                have hal : a2 ≤ (nums 8 bs).length := hst.2.1.2.2.2.1
                have hll : (nums 8 bs).length = 8 * bs.length := by rw [nums_length]; omega
                have HST := Ost.hid hst
                have hr := hst.2.1.2.1
                obtain ⟨Al, cl, hlv, _, _, _⟩ := own_form hst.2.1.2.2.1
                have HLV := Ost.hid hlv
                rw [hlv] at hr
                have hr0 := hr.cell 0
                have hr1 := hr.cell 1
                have hr2 := hr.cell 2
                simp at hr0 hr1 hr2
                clear hr hst hlv
                obtain ⟨LL, HLL⟩ : ∃ LL, Hid ((nums 8 bs).length = LL) := ⟨_, rfl⟩
                rw [HLL.out] at hr0 hal
                have HL8 : Hid (LL = 8 * bs.length) := HLL.out ▸ hll
                clear hll
                have hbl : LL ≤ 480 := by have := HL8.out; have := HL.out; omega
                go_wp2_with (fail)
                go_quiet (fail)
                have hst7 := HST.out.drewN nq
                clear hr0 hr1 hr2 HST
                generalize w6.drewN nq = w7 at hst7 ⊢
                have hr := hst7.2.1.2.1
                rw [HLV.out] at hr
                have hr0 := hr.cell 0
                have hr1 := hr.cell 1
                have hr2 := hr.cell 2
                simp at hr0 hr1 hr2
                rw [HLL.out] at hr0
                clear hr
                have HST := Ost.hid hst7
                clear hst7
                by_cases he2 : e2 = 0
                · subst he2
                  obtain ⟨lf, HLF⟩ : ∃ lf, Hid (8 * bs.length - a2 = lf) := ⟨_, rfl⟩
                  have hlf : IntKind.i64.wrap ((LL : Int) - (a2 : Int)) = (lf : Int) := by rw [IntWalk.i64_in _ (by omega)]; have := HLF.out; have := HL8.out; omega
                  have hlf2 : (LL : Int) - (a2 : Int) = (lf : Int) := by have := HLF.out; have := HL8.out; omega
                  go_wp2_with (fail)
                  go_quiet ((first
                    | (go_at_call 24; exact Calls.quiet_of_same (err_q _ bi sv bs a2 0 _ (HST.out.1.drewN _)))
                    | (go_at_call 25; exact Calls.quiet_of_same (at_q _ bi sv bs a2 0 _ (HST.out.1.drewN _)))
                    | (go_at_call 26; exact Calls.quiet_of (left_q _ bi lf sv bs a2 0 _ (HST.out.1.drewN _) ((if_pos rfl).trans HLF.out)))))
                  go_wp2
                  go_roundw
                  case rel => exact ⟨k + 1, a2, 0, by omega, by go_num, HST.out.drewN _⟩
                  case measure => simp [intOf]; omega
                · have hz1 : ((e2 : Int) == 0) = false := by simp; omega
                  have hz2 : ((e2 : Int) != 0) = true := by simp; omega
                  go_wp2_with (fail)
                  go_quiet ((first
                    | (go_at_call 24; exact Calls.quiet_of_same (err_q _ bi sv bs a2 e2 _ (HST.out.1.drewN _)))
                    | (go_at_call 25; exact Calls.quiet_of_same (at_q _ bi sv bs a2 e2 _ (HST.out.1.drewN _)))
                    | (go_at_call 26; exact Calls.quiet_of (left_q _ bi 0 sv bs a2 e2 _ (HST.out.1.drewN _) (if_neg he2)))))
                  go_wp2
                  go_roundw
                  case rel => exact ⟨k + 1, a2, e2, by omega, by go_num, HST.out.drewN _⟩
                  case measure => simp [intOf]; omega
              · obtain ⟨E, HE⟩ : ∃ E, Hid (wrong e (decide (0 ≤ n)) n 1 (8 * bs.length - a) = E) := ⟨_, rfl⟩
                have hal0 := HBQ.out.1.2.2.2.2.1
                have hE : E ≠ 0 := by
                  rw [← HE.out]
                  refine wrong_ne (by omega) hal0 (fun ⟨g1, g2, g3⟩ => hyes ?_)
                  simp at g2
                  exact ⟨g1, g2, by omega⟩
                have HER : Hid (wrongR e true n ((nums 8 bs).length - a) = E) := by show _ = _; rw [wrong_skip, HLL0.out]; exact HE.out
                have HNE : Hid (E ≠ 0) := hE
                clear hE hyes
                go_wp2_with (fail)
                refine (skip_no _ bi n sv bs a e Wq HBQ.out.1 (by rw [HE.out]; exact HNE.out)).mono ?_
                rw [HE.out]
                rintro r5 w5 ⟨rfl, hin5, ho5⟩
                have hc5 : w5.cell? ⟨gq, 1, none⟩ = some (.int .i64 n) := (ho5.cell (p := ⟨gq, 1, none⟩) hgsz (fun (h : gq = bi) => by omega)).trans hqc
                go_wp2_with (fail)
                refine (take_no _ bw n lv (nums 8 bs) a e true w5 (Both.ref HBQ.out HLIE.out ho5) (by rw [HER.out]; exact HNE.out)).mono ?_
                rw [HER.out]
                rintro r6 w6 ⟨rfl, href6, ho6⟩
                have hst : ∃ a2 e2, Both w w6 w.heap.size w1.heap.size bi bw sv lv bs a2 e2 := ⟨_, _, Both.step HBQ.out HLIE.out hin5 ho5 href6 ho6⟩
                clear hq hqc hc5 HBQ href6 hin5 ho5 ho6 hq0 hq1 hb
                obtain ⟨a2, e2, hst⟩ := hst
                have hal : a2 ≤ (nums 8 bs).length := hst.2.1.2.2.2.1
                have hll : (nums 8 bs).length = 8 * bs.length := by rw [nums_length]; omega
                have HST := Ost.hid hst
                have hr := hst.2.1.2.1
                obtain ⟨Al, cl, hlv, _, _, _⟩ := own_form hst.2.1.2.2.1
                have HLV := Ost.hid hlv
                rw [hlv] at hr
                have hr0 := hr.cell 0
                have hr1 := hr.cell 1
                have hr2 := hr.cell 2
                simp at hr0 hr1 hr2
                clear hr hst hlv
                obtain ⟨LL, HLL⟩ : ∃ LL, Hid ((nums 8 bs).length = LL) := ⟨_, rfl⟩
                rw [HLL.out] at hr0 hal
                have HL8 : Hid (LL = 8 * bs.length) := HLL.out ▸ hll
                clear hll
                have hbl : LL ≤ 480 := by have := HL8.out; have := HL.out; omega
                go_wp2_with (fail)
                go_quiet (fail)
                have hst7 := HST.out.drewN nq
                clear hr0 hr1 hr2 HST
                generalize w6.drewN nq = w7 at hst7 ⊢
                have hr := hst7.2.1.2.1
                rw [HLV.out] at hr
                have hr0 := hr.cell 0
                have hr1 := hr.cell 1
                have hr2 := hr.cell 2
                simp at hr0 hr1 hr2
                rw [HLL.out] at hr0
                clear hr
                have HST := Ost.hid hst7
                clear hst7
                by_cases he2 : e2 = 0
                · subst he2
                  obtain ⟨lf, HLF⟩ : ∃ lf, Hid (8 * bs.length - a2 = lf) := ⟨_, rfl⟩
                  have hlf : IntKind.i64.wrap ((LL : Int) - (a2 : Int)) = (lf : Int) := by rw [IntWalk.i64_in _ (by omega)]; have := HLF.out; have := HL8.out; omega
                  have hlf2 : (LL : Int) - (a2 : Int) = (lf : Int) := by have := HLF.out; have := HL8.out; omega
                  go_wp2_with (fail)
                  go_quiet ((first
                    | (go_at_call 24; exact Calls.quiet_of_same (err_q _ bi sv bs a2 0 _ (HST.out.1.drewN _)))
                    | (go_at_call 25; exact Calls.quiet_of_same (at_q _ bi sv bs a2 0 _ (HST.out.1.drewN _)))
                    | (go_at_call 26; exact Calls.quiet_of (left_q _ bi lf sv bs a2 0 _ (HST.out.1.drewN _) ((if_pos rfl).trans HLF.out)))))
                  go_wp2
                  go_roundw
                  case rel => exact ⟨k + 1, a2, 0, by omega, by go_num, HST.out.drewN _⟩
                  case measure => simp [intOf]; omega
                · have hz1 : ((e2 : Int) == 0) = false := by simp; omega
                  have hz2 : ((e2 : Int) != 0) = true := by simp; omega
                  go_wp2_with (fail)
                  go_quiet ((first
                    | (go_at_call 24; exact Calls.quiet_of_same (err_q _ bi sv bs a2 e2 _ (HST.out.1.drewN _)))
                    | (go_at_call 25; exact Calls.quiet_of_same (at_q _ bi sv bs a2 e2 _ (HST.out.1.drewN _)))
                    | (go_at_call 26; exact Calls.quiet_of (left_q _ bi 0 sv bs a2 e2 _ (HST.out.1.drewN _) (if_neg he2)))))
                  go_wp2
                  go_roundw
                  case rel => exact ⟨k + 1, a2, e2, by omega, by go_num, HST.out.drewN _⟩
                  case measure => simp [intOf]; omega
            · have hkn2 : (kind == 2) = false := by simpa using hk2
              by_cases hk3 : kind = 3
              · have hkb : (kind == 3) = true := by simpa using hk3
                go_wp2_with (fail)
                have hsz := hb.size
                have hq : Has (wr.alloc (.cells #[.int .i64 3, .int .i64 n] 46)) wr.heap.size 46 #[.int .i64 3, .int .i64 n] := Has.new _ _ _
                have hbq := hb.keep ((Only.refl (fun _ => False) wr).alloc (.cells #[.int .i64 3, .int .i64 n] 46))
                generalize wr.alloc (.cells #[.int .i64 3, .int .i64 n] 46) = Wq at hq hbq ⊢
                generalize wr.heap.size = gq at hq hsz ⊢
                have hqc := hq.cell 1
                simp at hqc
                have hgsz := hq.lt
                have hll0 : (nums 8 bs).length = 8 * bs.length := by rw [nums_length]; omega
                have HLL0 := Ost.hid hll0
                clear hll0
                have HBQ := Ost.hid hbq
                clear hbq
                by_cases hyes : e = 0
                · go_wp2_with (fail)
                  refine r22_yes _ w w1 Wq bi bw gq len sv lv bs a e n HL hlen HLL0 HLIE HBQ hsz hgsz hqc hyes ?_
                  intro w6 v82 v83 v84 v85 v86 v87 v88 v89 v90 v91 v92 v93 v94 v95 v96 v97 v98 v99 v100 v101 hst
                  clear hq hqc HBQ hq0 hq1 hb
                  obtain ⟨a2, e2, hst⟩ := hst
                  have hal : a2 ≤ (nums 8 bs).length := hst.2.1.2.2.2.1
                  have hll : (nums 8 bs).length = 8 * bs.length := by rw [nums_length]; omega
                  have HST := Ost.hid hst
                  have hr := hst.2.1.2.1
                  obtain ⟨Al, cl, hlv, _, _, _⟩ := own_form hst.2.1.2.2.1
                  have HLV := Ost.hid hlv
                  rw [hlv] at hr
                  have hr0 := hr.cell 0
                  have hr1 := hr.cell 1
                  have hr2 := hr.cell 2
                  simp at hr0 hr1 hr2
                  clear hr hst hlv
                  obtain ⟨LL, HLL⟩ : ∃ LL, Hid ((nums 8 bs).length = LL) := ⟨_, rfl⟩
                  rw [HLL.out] at hr0 hal
                  have HL8 : Hid (LL = 8 * bs.length) := HLL.out ▸ hll
                  clear hll
                  have hbl : LL ≤ 480 := by have := HL8.out; have := HL.out; omega
                  go_wp2_with (fail)
                  go_quiet (fail)
                  have hst7 := HST.out.drewN nq
                  clear hr0 hr1 hr2 HST
                  generalize w6.drewN nq = w7 at hst7 ⊢
                  have hr := hst7.2.1.2.1
                  rw [HLV.out] at hr
                  have hr0 := hr.cell 0
                  have hr1 := hr.cell 1
                  have hr2 := hr.cell 2
                  simp at hr0 hr1 hr2
                  rw [HLL.out] at hr0
                  clear hr
                  have HST := Ost.hid hst7
                  clear hst7
                  by_cases he2 : e2 = 0
                  · subst he2
                    obtain ⟨lf, HLF⟩ : ∃ lf, Hid (8 * bs.length - a2 = lf) := ⟨_, rfl⟩
                    have hlf : IntKind.i64.wrap ((LL : Int) - (a2 : Int)) = (lf : Int) := by rw [IntWalk.i64_in _ (by omega)]; have := HLF.out; have := HL8.out; omega
                    have hlf2 : (LL : Int) - (a2 : Int) = (lf : Int) := by have := HLF.out; have := HL8.out; omega
                    go_wp2_with (fail)
                    go_quiet ((first
                      | (go_at_call 24; exact Calls.quiet_of_same (err_q _ bi sv bs a2 0 _ (HST.out.1.drewN _)))
                      | (go_at_call 25; exact Calls.quiet_of_same (at_q _ bi sv bs a2 0 _ (HST.out.1.drewN _)))
                      | (go_at_call 26; exact Calls.quiet_of (left_q _ bi lf sv bs a2 0 _ (HST.out.1.drewN _) ((if_pos rfl).trans HLF.out)))))
                    go_wp2
                    go_roundw
                    case rel => exact ⟨k + 1, a2, 0, by omega, by go_num, HST.out.drewN _⟩
                    case measure => simp [intOf]; omega
                  · have hz1 : ((e2 : Int) == 0) = false := by simp; omega
                    have hz2 : ((e2 : Int) != 0) = true := by simp; omega
                    go_wp2_with (fail)
                    go_quiet ((first
                      | (go_at_call 24; exact Calls.quiet_of_same (err_q _ bi sv bs a2 e2 _ (HST.out.1.drewN _)))
                      | (go_at_call 25; exact Calls.quiet_of_same (at_q _ bi sv bs a2 e2 _ (HST.out.1.drewN _)))
                      | (go_at_call 26; exact Calls.quiet_of (left_q _ bi 0 sv bs a2 e2 _ (HST.out.1.drewN _) (if_neg he2)))))
                    go_wp2
                    go_roundw
                    case rel => exact ⟨k + 1, a2, e2, by omega, by go_num, HST.out.drewN _⟩
                    case measure => simp [intOf]; omega
                · go_wp2_with (fail)
                  refine r22_no _ w w1 Wq bi bw gq len sv lv bs a e n HL hlen HLL0 HLIE HBQ hsz hgsz hqc hyes ?_
                  intro w6 v82 v83 v84 v85 v86 v87 v88 v89 v90 v91 v92 v93 v94 v95 v96 v97 v98 v99 v100 v101 hst
                  clear hq hqc HBQ hq0 hq1 hb
                  obtain ⟨a2, e2, hst⟩ := hst
                  have hal : a2 ≤ (nums 8 bs).length := hst.2.1.2.2.2.1
                  have hll : (nums 8 bs).length = 8 * bs.length := by rw [nums_length]; omega
                  have HST := Ost.hid hst
                  have hr := hst.2.1.2.1
                  obtain ⟨Al, cl, hlv, _, _, _⟩ := own_form hst.2.1.2.2.1
                  have HLV := Ost.hid hlv
                  rw [hlv] at hr
                  have hr0 := hr.cell 0
                  have hr1 := hr.cell 1
                  have hr2 := hr.cell 2
                  simp at hr0 hr1 hr2
                  clear hr hst hlv
                  obtain ⟨LL, HLL⟩ : ∃ LL, Hid ((nums 8 bs).length = LL) := ⟨_, rfl⟩
                  rw [HLL.out] at hr0 hal
                  have HL8 : Hid (LL = 8 * bs.length) := HLL.out ▸ hll
                  clear hll
                  have hbl : LL ≤ 480 := by have := HL8.out; have := HL.out; omega
                  go_wp2_with (fail)
                  go_quiet (fail)
                  have hst7 := HST.out.drewN nq
                  clear hr0 hr1 hr2 HST
                  generalize w6.drewN nq = w7 at hst7 ⊢
                  have hr := hst7.2.1.2.1
                  rw [HLV.out] at hr
                  have hr0 := hr.cell 0
                  have hr1 := hr.cell 1
                  have hr2 := hr.cell 2
                  simp at hr0 hr1 hr2
                  rw [HLL.out] at hr0
                  clear hr
                  have HST := Ost.hid hst7
                  clear hst7
                  by_cases he2 : e2 = 0
                  · subst he2
                    obtain ⟨lf, HLF⟩ : ∃ lf, Hid (8 * bs.length - a2 = lf) := ⟨_, rfl⟩
                    have hlf : IntKind.i64.wrap ((LL : Int) - (a2 : Int)) = (lf : Int) := by rw [IntWalk.i64_in _ (by omega)]; have := HLF.out; have := HL8.out; omega
                    have hlf2 : (LL : Int) - (a2 : Int) = (lf : Int) := by have := HLF.out; have := HL8.out; omega
                    go_wp2_with (fail)
                    go_quiet ((first
                      | (go_at_call 24; exact Calls.quiet_of_same (err_q _ bi sv bs a2 0 _ (HST.out.1.drewN _)))
                      | (go_at_call 25; exact Calls.quiet_of_same (at_q _ bi sv bs a2 0 _ (HST.out.1.drewN _)))
                      | (go_at_call 26; exact Calls.quiet_of (left_q _ bi lf sv bs a2 0 _ (HST.out.1.drewN _) ((if_pos rfl).trans HLF.out)))))
                    go_wp2
                    go_roundw
                    case rel => exact ⟨k + 1, a2, 0, by omega, by go_num, HST.out.drewN _⟩
                    case measure => simp [intOf]; omega
                  · have hz1 : ((e2 : Int) == 0) = false := by simp; omega
                    have hz2 : ((e2 : Int) != 0) = true := by simp; omega
                    go_wp2_with (fail)
                    go_quiet ((first
                      | (go_at_call 24; exact Calls.quiet_of_same (err_q _ bi sv bs a2 e2 _ (HST.out.1.drewN _)))
                      | (go_at_call 25; exact Calls.quiet_of_same (at_q _ bi sv bs a2 e2 _ (HST.out.1.drewN _)))
                      | (go_at_call 26; exact Calls.quiet_of (left_q _ bi 0 sv bs a2 e2 _ (HST.out.1.drewN _) (if_neg he2)))))
                    go_wp2
                    go_roundw
                    case rel => exact ⟨k + 1, a2, e2, by omega, by go_num, HST.out.drewN _⟩
                    case measure => simp [intOf]; omega
              · have hkn3 : (kind == 3) = false := by simpa using hk3
                go_wp2_with (fail)
                have hsz := hb.size
                have hq : Has (wr.alloc (.cells #[.int .i64 kind, .int .i64 n] 46)) wr.heap.size 46 #[.int .i64 kind, .int .i64 n] := Has.new _ _ _
                have hbq := hb.keep ((Only.refl (fun _ => False) wr).alloc (.cells #[.int .i64 kind, .int .i64 n] 46))
                generalize wr.alloc (.cells #[.int .i64 kind, .int .i64 n] 46) = Wq at hq hbq ⊢
                generalize wr.heap.size = gq at hq hsz ⊢
                have hqc := hq.cell 1
                simp at hqc
                have hgsz := hq.lt
                have hll0 : (nums 8 bs).length = 8 * bs.length := by rw [nums_length]; omega
                have HLL0 := Ost.hid hll0
                clear hll0
                have HBQ := Ost.hid hbq
                clear hbq
                have hst : ∃ a2 e2, Both w Wq w.heap.size w1.heap.size bi bw sv lv bs a2 e2 := ⟨_, _, HBQ.out⟩
                clear hq hqc HBQ hq0 hq1 hb
                generalize Wq = w6 at hst hgsz ⊢
                obtain ⟨a2, e2, hst⟩ := hst
                have hal : a2 ≤ (nums 8 bs).length := hst.2.1.2.2.2.1
                have hll : (nums 8 bs).length = 8 * bs.length := by rw [nums_length]; omega
                have HST := Ost.hid hst
                have hr := hst.2.1.2.1
                obtain ⟨Al, cl, hlv, _, _, _⟩ := own_form hst.2.1.2.2.1
                have HLV := Ost.hid hlv
                rw [hlv] at hr
                have hr0 := hr.cell 0
                have hr1 := hr.cell 1
                have hr2 := hr.cell 2
                simp at hr0 hr1 hr2
                clear hr hst hlv
                obtain ⟨LL, HLL⟩ : ∃ LL, Hid ((nums 8 bs).length = LL) := ⟨_, rfl⟩
                rw [HLL.out] at hr0 hal
                have HL8 : Hid (LL = 8 * bs.length) := HLL.out ▸ hll
                clear hll
                have hbl : LL ≤ 480 := by have := HL8.out; have := HL.out; omega
                go_wp2_with (fail)
                go_quiet (fail)
                have hst7 := HST.out.drewN nq
                clear hr0 hr1 hr2 HST
                generalize w6.drewN nq = w7 at hst7 ⊢
                have hr := hst7.2.1.2.1
                rw [HLV.out] at hr
                have hr0 := hr.cell 0
                have hr1 := hr.cell 1
                have hr2 := hr.cell 2
                simp at hr0 hr1 hr2
                rw [HLL.out] at hr0
                clear hr
                have HST := Ost.hid hst7
                clear hst7
                by_cases he2 : e2 = 0
                · subst he2
                  obtain ⟨lf, HLF⟩ : ∃ lf, Hid (8 * bs.length - a2 = lf) := ⟨_, rfl⟩
                  have hlf : IntKind.i64.wrap ((LL : Int) - (a2 : Int)) = (lf : Int) := by rw [IntWalk.i64_in _ (by omega)]; have := HLF.out; have := HL8.out; omega
                  have hlf2 : (LL : Int) - (a2 : Int) = (lf : Int) := by have := HLF.out; have := HL8.out; omega
                  go_wp2_with (fail)
                  go_quiet ((first
                    | (go_at_call 24; exact Calls.quiet_of_same (err_q _ bi sv bs a2 0 _ (HST.out.1.drewN _)))
                    | (go_at_call 25; exact Calls.quiet_of_same (at_q _ bi sv bs a2 0 _ (HST.out.1.drewN _)))
                    | (go_at_call 26; exact Calls.quiet_of (left_q _ bi lf sv bs a2 0 _ (HST.out.1.drewN _) ((if_pos rfl).trans HLF.out)))))
                  go_wp2
                  go_roundw
                  case rel => exact ⟨k + 1, a2, 0, by omega, by go_num, HST.out.drewN _⟩
                  case measure => simp [intOf]; omega
                · have hz1 : ((e2 : Int) == 0) = false := by simp; omega
                  have hz2 : ((e2 : Int) != 0) = true := by simp; omega
                  go_wp2_with (fail)
                  go_quiet ((first
                    | (go_at_call 24; exact Calls.quiet_of_same (err_q _ bi sv bs a2 e2 _ (HST.out.1.drewN _)))
                    | (go_at_call 25; exact Calls.quiet_of_same (at_q _ bi sv bs a2 e2 _ (HST.out.1.drewN _)))
                    | (go_at_call 26; exact Calls.quiet_of (left_q _ bi 0 sv bs a2 e2 _ (HST.out.1.drewN _) (if_neg he2)))))
                  go_wp2
                  go_roundw
                  case rel => exact ⟨k + 1, a2, e2, by omega, by go_num, HST.out.drewN _⟩
                  case measure => simp [intOf]; omega
      · go_wp2_with (fail)
        have hb2 := hb.keep ((Only.refl (fun _ => False) wr).alloc (.cells #[.int .i64 kind, .int .i64 n] 46))
        generalize wr.alloc (.cells #[.int .i64 kind, .int .i64 n] 46) = wz at hb2 ⊢
        have HBN := Ost.hid hb2
        have hr := hb2.2.1.2.1
        have hr2 := hr.cell 2
        simp at hr2
        have hbwsz := hr.lt
        clear hb hb2 hr
        go_region_held3 (fun w' => w'.cell? ⟨bw, 2, none⟩ = some (.int .i64 (e : Int))) (first | exact hr2 | exact hr5)
          (first
          | (go_at_call 24; refine (err_own _ bi sv bs a e wz.drew HBN.out.1).mono ?_; rintro r w' ⟨rfl, rfl⟩)
          | (go_at_call 15; refine (awake_any wz.drew).mono ?_; rintro r w5 ⟨rfl, ho5⟩; have hr5 : w5.cell? ⟨bw, 2, none⟩ = some (.int .i64 (e : Int)) := (ho5.cell (p := ⟨bw, 2, none⟩) hbwsz (fun h => h)).trans hr2))
        all_goals
          go_wp2
          go_ret
          exact ⟨rfl, HBN.out.2.2.drew.trans ho5 (fun _ _ e => e)⟩
    · obtain rfl : k = len1 := by omega
      go_wp2_with (fail)
      have hb2 := hb
      generalize wr = wz at hb2 ⊢
      have HBN := Ost.hid hb2
      have hr := hb2.2.1.2.1
      have hr2 := hr.cell 2
      simp at hr2
      have hbwsz := hr.lt
      clear hb hb2 hr
      go_region_held3 (fun w' => w'.cell? ⟨bw, 2, none⟩ = some (.int .i64 (e : Int))) (first | exact hr2 | exact hr5)
        (first
        | (go_at_call 24; refine (err_own _ bi sv bs a e wz.drew HBN.out.1).mono ?_; rintro r w' ⟨rfl, rfl⟩)
        | (go_at_call 15; refine (awake_any wz.drew).mono ?_; rintro r w5 ⟨rfl, ho5⟩; have hr5 : w5.cell? ⟨bw, 2, none⟩ = some (.int .i64 (e : Int)) := (ho5.cell (p := ⟨bw, 2, none⟩) hbwsz (fun h => h)).trans hr2))
      all_goals
        go_wp2
        go_ret
        exact ⟨rfl, HBN.out.2.2.drew.trans ho5 (fun _ _ e => e)⟩

end Go.Proofs.Ytpdihllpcnnfdaa
