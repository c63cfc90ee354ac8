/- Parts of a proof, one behind the other: TL1 TL2 TN. No condition. -/
import Derived.Test.YtpcnbhgifhiejaaGU
import Derived.Test.YtpcnbhgifhiejaaGR
import Derived.Test.YtpcnbhgifhiejaaGV
import Derived.Test.YtpcnbhgifhiejaaGW
section
namespace Go.Proofs.Ytpcnbhgifhiejaa
open Go Reck
set_option linter.unusedVariables false
set_option maxRecDepth 100000
--PLAIN
theorem awake_vc (K : AV → St → Prop) : (runI inv0 tTB 15 [] emptySt K) = (U.TKin (0 : Int) (0 : Int) (0 : Int) (0 : Int) (0 : Int) (0 : Int) (0 : Int) ∧ (U.TMay (7 : Int) (0 : Int) (0 : Int) (0 : Int) (0 : Int) (0 : Int) (0 : Int) (0 : Int) [(97 : Int), (110 : Int), (110 : Int)] → ∀ (L0 : List Int) (n1 c2 cap3 : Nat), U.TWr (7 : Int) (0 : Int) (0 : Int) (0 : Int) (0 : Int) (0 : Int) (0 : Int) (0 : Int) [(97 : Int), (110 : Int), (110 : Int)] L0 → n1 = List.length L0 → n1 ≤ (200 : Nat) → n1 ≤ c2 → c2 ≤ cap3 → ((0 : Int) = (0 : Int) → (Nat.le ((0 : Nat) + n1) (List.length L0) ∧ ByteL (List.take n1 (List.drop ((0 : Nat)) L0))) ∧ ∀ (l'4 : List Int), l'4 = List.take n1 (List.drop ((0 : Nat)) L0) → (l'4 = [(79 : Int), (83 : Int), (7 : Int), (3 : Int), (97 : Int), (110 : Int), (110 : Int)] → (U.Nm [(97 : Int), (110 : Int), (110 : Int)] → (U.Nm [(57 : Int), (97 : Int)] → K (Sum.inl (Sum.inl (Sum.inl (Value.bool false)))) { heap := [], ints := [], opqs := (0 : Nat), arrs := [], junks := (0 : Nat) }) ∧ (¬U.Nm [(57 : Int), (97 : Int)] → K (Sum.inl (Sum.inl (Sum.inl (Value.bool true)))) { heap := [], ints := [], opqs := (0 : Nat), arrs := [], junks := (0 : Nat) })) ∧ (¬U.Nm [(97 : Int), (110 : Int), (110 : Int)] → K (Sum.inl (Sum.inl (Sum.inl (Value.bool false)))) { heap := [], ints := [], opqs := (0 : Nat), arrs := [], junks := (0 : Nat) })) ∧ (¬l'4 = [(79 : Int), (83 : Int), (7 : Int), (3 : Int), (97 : Int), (110 : Int), (110 : Int)] → K (Sum.inl (Sum.inl (Sum.inl (Value.bool false)))) { heap := [], ints := [], opqs := (0 : Nat), arrs := [], junks := (0 : Nat) })) ∧ (¬(0 : Int) = (0 : Int) → K (Sum.inl (Sum.inl (Sum.inl (Value.bool false)))) { heap := [], ints := [], opqs := (0 : Nat), arrs := [], junks := (0 : Nat) })) ∧ (¬U.TMay (7 : Int) (0 : Int) (0 : Int) (0 : Int) (0 : Int) (0 : Int) (0 : Int) (0 : Int) [(97 : Int), (110 : Int), (110 : Int)] → ((1 : Int) = (0 : Int) → K (Sum.inl (Sum.inl (Sum.inl (Value.bool false)))) { heap := [], ints := [], opqs := (0 : Nat), arrs := [], junks := (0 : Nat) }) ∧ (¬(1 : Int) = (0 : Int) → K (Sum.inl (Sum.inl (Sum.inl (Value.bool false)))) { heap := [], ints := [], opqs := (0 : Nat), arrs := [], junks := (0 : Nat) }))) := by kernel_rfl
end Go.Proofs.Ytpcnbhgifhiejaa
end

section
set_option linter.unusedVariables false
set_option linter.unusedSimpArgs false
namespace Go.Proofs.Ytpcnbhgifhiejaa
open Go Reck
theorem nm_ann : U.Nm [97, 110, 110] := ⟨by decide, fun i hi => by
  match i, hi with
  | 0, _ => left; decide
  | 1, _ => left; decide
  | 2, _ => left; decide⟩
theorem nm_9a : ¬ U.Nm [57, 97] := fun h => by
  have := h.all 0 (by decide)
  simp [U.NmB] at this
theorem fit_0 {w : Int} : U.Fit 0 w := ⟨Int.pow_pos (by decide)⟩
theorem awake_run (K : AV → St → Prop) (h : K (lit (.bool true)) emptySt) : runI inv0 tTB 15 [] emptySt K := by
  rw [awake_vc]
  have hM : U.TMay 7 0 0 0 0 0 0 0 [97, 110, 110] := ⟨by decide, fun _ => nm_ann, fun h => absurd ⟨by decide⟩ h, fit_0, fit_0, fit_0, ⟨by decide, fit_0⟩, fit_0, fit_0, ⟨by decide, fit_0⟩⟩
  refine ⟨⟨by decide, by decide, by decide, by decide, by decide, by decide, by decide⟩, fun _ L n c cap hW hn hn2 hc hp => ⟨fun _ => ⟨⟨?_, ⟨?_⟩⟩, fun l' hl' => ⟨fun _ => ⟨fun _ => ⟨fun hh => absurd hh nm_9a, fun _ => h⟩, fun hh => absurd nm_ann hh⟩, fun hh => ?_⟩⟩, fun hh => absurd rfl hh⟩, fun hh => absurd hM hh⟩
  · show 0 + n ≤ L.length; omega
  · have hWb : U.By L := by obtain ⟨N, hN⟩ := hW; exact out_by' hN
    exact all_bytes (by_mem (by_take hWb _))
  · refine absurd ?_ hh
    have e := (tby7 nm_ann).1 hW
    rw [hl', hn, List.drop_zero, List.take_length, e]
    rfl
def tAwake7 : Tbl := fun f args σ => if f == 15 then match args, σ with
    | [], ⟨[], [], 0, [], 0⟩ => some fun K => K (lit (.bool true)) emptySt
    | _, _ => none
  else none
theorem tAwake7_ok : TblOk Try.prog tAwake7 := by
  intro f tm σ C h K hK
  unfold tAwake7 at h
  split at h
  · rename_i hf
    obtain rfl : f = 15 := by simpa using hf
    split at h
    · simp only [Option.some.injEq] at h; subst h
      exact knownC noOv names (conOk_of tTB_ok) (awake_run K hK)
    · cases h
  · cases h
def tTL : Tbl := tblOr tAwake7 tTB
theorem tTL_ok : TblOk Try.prog tTL := tblOr_ok tAwake7_ok tTB_ok
end Go.Proofs.Ytpcnbhgifhiejaa
end

section
set_option linter.unusedVariables false
set_option linter.unusedSimpArgs false
namespace Go.Proofs.Ytpcnbhgifhiejaa
open Go Reck
def tEncC (b : Bool) : Tbl := fun f args σ => if f == 8 then match args, σ with
    | [.inl (.inr l)], ⟨[], [], 0, [], 0⟩ => match intsT l with
      | some ([kind, xid, mac, ip, ticks, nonce, tag, why], u) => match b with
        | true => some fun K => (U.TKin xid mac ip ticks nonce tag why ∧ U.TMay kind xid mac ip ticks nonce tag why u) ∧ ∀ (L : List Int) (n c cap : Nat), U.TWr kind xid mac ip ticks nonce tag why u L → n = L.length → n ≤ 200 → n ≤ c → c ≤ cap → K (.inr [.inl (aslC ⟨0, 0, n, c⟩), .inl (xintC .i64 0)]) (ar [bs L cap false])
        | false => some fun K => (U.TKin xid mac ip ticks nonce tag why ∧ ¬ U.TMay kind xid mac ip ticks nonce tag why u) ∧ K (.inr [.inl (.inl (.slice none 0 0)), .inl (xintC .i64 1)]) emptySt
      | _ => none
    | _, _ => none
  else none
theorem tEncC_ok (b : Bool) : TblOk Try.prog (tEncC b) := by
  intro f tm σ C h K hK
  unfold tEncC at h
  split at h
  · rename_i hf
    split at h
    · rename_i cl
      split at h
      · rename_i kind xid mac ip ticks nonce tag why u hl
        cases b with
        | true => simp only [Option.some.injEq] at h; subst h; refine tEncodeT_ok f [.inl (.inr cl)] emptySt _ (by unfold tEncodeT; rw [if_pos hf]; simp only [emptySt, hl]; rfl) K ?_; exact ⟨hK.1.1, fun _ => hK.2, fun hn => absurd hK.1.2 hn⟩
        | false => simp only [Option.some.injEq] at h; subst h; refine tEncodeT_ok f [.inl (.inr cl)] emptySt _ (by unfold tEncodeT; rw [if_pos hf]; simp only [emptySt, hl]; rfl) K ?_; exact ⟨hK.1.1, fun hn => absurd hn hK.1.2, fun _ => hK.2⟩
      · cases h
    · cases h
  · cases h
def tMayC (b : Bool) : Tbl := fun f args σ => if f == 10 || f == 11 then match args, σ with
    | [.inl (.inr l)], ⟨[], [], 0, [], 0⟩ => match intsT l with
      | some ([kind, xid, mac, ip, ticks, nonce, tag, why], u) => match b with
        | true => some fun K => (U.TKin xid mac ip ticks nonce tag why ∧ U.TMay kind xid mac ip ticks nonce tag why u) ∧ K (lit (.bool true)) emptySt
        | false => some fun K => (U.TKin xid mac ip ticks nonce tag why ∧ ¬ U.TMay kind xid mac ip ticks nonce tag why u) ∧ K (lit (.bool false)) emptySt
      | _ => none
    | _, _ => none
  else none
theorem tMayC_ok (b : Bool) : TblOk Try.prog (tMayC b) := by
  intro f tm σ C h K hK
  unfold tMayC at h
  split at h
  · rename_i hf
    split at h
    · rename_i cl
      split at h
      · rename_i kind xid mac ip ticks nonce tag why u hl
        have hf : f = 10 ∨ f = 11 := by simpa using hf
        rcases hf with rfl | rfl
        · cases b with
          | true => simp only [Option.some.injEq] at h; subst h; refine tMayT_ok 10 [.inl (.inr cl)] emptySt _ (by unfold tMayT; rw [if_pos (by decide)]; simp only [emptySt, hl]; rfl) K ?_; exact ⟨hK.1.1, fun _ => hK.2, fun hn => absurd hK.1.2 hn⟩
          | false => simp only [Option.some.injEq] at h; subst h; refine tMayT_ok 10 [.inl (.inr cl)] emptySt _ (by unfold tMayT; rw [if_pos (by decide)]; simp only [emptySt, hl]; rfl) K ?_; exact ⟨hK.1.1, fun hn => absurd hn hK.1.2, fun _ => hK.2⟩
        · cases b with
          | true => simp only [Option.some.injEq] at h; subst h; refine tRMay_ok 11 [.inl (.inr cl)] emptySt _ (by unfold tRMay; rw [if_pos (by decide)]; simp only [emptySt, hl]; rfl) K ?_; exact ⟨hK.1.1, fun _ => hK.2, fun hn => absurd hK.1.2 hn⟩
          | false => simp only [Option.some.injEq] at h; subst h; refine tRMay_ok 11 [.inl (.inr cl)] emptySt _ (by unfold tRMay; rw [if_pos (by decide)]; simp only [emptySt, hl]; rfl) K ?_; exact ⟨hK.1.1, fun hn => absurd hn hK.1.2, fun _ => hK.2⟩
      · cases h
    · cases h
  · cases h
def tNameC (b : Bool) : Tbl := fun f args σ => if f == 12 || f == 13 then match args, σ with
    | [x], ⟨[], [], 0, [], 0⟩ => match strX x with
      | some l => match b with
        | true => some fun K => U.Nm l ∧ K (lit (.bool true)) emptySt
        | false => some fun K => ¬ U.Nm l ∧ K (lit (.bool false)) emptySt
      | none => none
    | _, _ => none
  else none
theorem tNameC_ok (b : Bool) : TblOk Try.prog (tNameC b) := by
  intro f tm σ C h K hK
  unfold tNameC at h
  split at h
  · rename_i hf
    split at h
    · rename_i x
      split at h
      · rename_i l hl
        cases b with
        | true => simp only [Option.some.injEq] at h; subst h; refine tName_ok f [x] emptySt _ (by unfold tName; rw [if_pos hf]; simp only [emptySt, hl]; rfl) K ?_; exact ⟨fun _ => hK.2, fun hn => absurd hK.1 hn⟩
        | false => simp only [Option.some.injEq] at h; subst h; refine tName_ok f [x] emptySt _ (by unfold tName; rw [if_pos hf]; simp only [emptySt, hl]; rfl) K ?_; exact ⟨fun hn => absurd hn hK.1, fun _ => hK.2⟩
      · cases h
    · cases h
  · cases h
def tLeC (b : Bool) : Tbl := fun f args σ => if f == 14 then match args, σ with
    | [k], ⟨[], [], 0, [], 0⟩ => match xiX k with
      | some (.i64, k) => match b with
        | true => some fun K => U.Le k ∧ K (lit (.bool true)) emptySt
        | false => some fun K => ¬ U.Le k ∧ K (lit (.bool false)) emptySt
      | _ => none
    | _, _ => none
  else none
theorem tLeC_ok (b : Bool) : TblOk Try.prog (tLeC b) := by
  intro f tm σ C h K hK
  unfold tLeC at h
  split at h
  · rename_i hf
    split at h
    · rename_i x
      split at h
      · rename_i k hl
        cases b with
        | true => simp only [Option.some.injEq] at h; subst h; refine tLeases_ok f [x] emptySt _ (by unfold tLeases; rw [if_pos hf]; simp only [emptySt, hl]; rfl) K ?_; exact ⟨fun _ => hK.2, fun hn => absurd hK.1 hn⟩
        | false => simp only [Option.some.injEq] at h; subst h; refine tLeases_ok f [x] emptySt _ (by unfold tLeases; rw [if_pos hf]; simp only [emptySt, hl]; rfl) K ?_; exact ⟨fun hn => absurd hn hK.1, fun _ => hK.2⟩
      · cases h
    · cases h
  · cases h
/-- Bytes of which the message is told ahead. -/
def tParseY : Tbl := fun f args σ => if f == 16 then match args, σ with
    | [s], ⟨[], [], 0, [some ⟨5, .n .u8, L, cap, ro⟩], 0⟩ => match aslX s with
      | some ⟨0, 0, m, c⟩ => some fun K => ∃ (kind xid mac ip ticks nonce tag why : Int) (u : List Int), (U.By L ∧ m = L.length ∧ m ≤ 16777216 ∧ U.TMay kind xid mac ip ticks nonce tag why u ∧ U.TKin xid mac ip ticks nonce tag why ∧ U.TWr kind xid mac ip ticks nonce tag why u L) ∧
          K (paT (msgL kind xid mac ip ticks (strC u) nonce tag why) 0) (ar [bs L cap ro])
      | _ => none
    | _, _ => none
  else none
theorem twr_inj {kind xid mac ip ticks nonce tag why kind' xid' mac' ip' ticks' nonce' tag' why' : Int} {l l' L : List Int} (hM : U.TMay kind xid mac ip ticks nonce tag why l) (hM' : U.TMay kind' xid' mac' ip' ticks' nonce' tag' why' l')
    (hK : U.TKin xid mac ip ticks nonce tag why) (hK' : U.TKin xid' mac' ip' ticks' nonce' tag' why') (h : U.TWr kind xid mac ip ticks nonce tag why l L) (h' : U.TWr kind' xid' mac' ip' ticks' nonce' tag' why' l' L) :
    kind = kind' ∧ xid = xid' ∧ mac = mac' ∧ ip = ip' ∧ ticks = ticks' ∧ nonce = nonce' ∧ tag = tag' ∧ why = why' ∧ l = l' := by
  have hR := rest_kind hM h
  have hR' := rest_kind hM' h'
  have k8 : ∀ {k : Int}, 1 ≤ k ∧ k ≤ 12 → 0 ≤ k ∧ k < 2 ^ (8 : Int).toNat := fun h => by simp; omega
  obtain ⟨e, hR⟩ := hR.num (by decide) (k8 hM.fk)
  obtain ⟨e', hR'⟩ := hR'.num (by decide) (k8 hM'.fk)
  obtain rfl : kind = kind' := e.symm.trans e'
  obtain ⟨q1, hR⟩ := rest_put hR (wx_bd _).1 hK.xid.1 hM.fx
  obtain ⟨p1, hR'⟩ := rest_put hR' (wx_bd _).1 hK'.xid.1 hM'.fx
  obtain ⟨q2, hR⟩ := rest_put hR (wm_bd _).1 hK.mac.1 hM.fm
  obtain ⟨p2, hR'⟩ := rest_put hR' (wm_bd _).1 hK'.mac.1 hM'.fm
  obtain ⟨q3, hR⟩ := rest_put hR (wi_bd _).1 hK.ip.1 hM.fi
  obtain ⟨p3, hR'⟩ := rest_put hR' (wi_bd _).1 hK'.ip.1 hM'.fi
  obtain ⟨q4, hR⟩ := rest_put hR (wt_bd _).1 hM.ft.1 hM.ft.2
  obtain ⟨p4, hR'⟩ := rest_put hR' (wt_bd _).1 hM'.ft.1 hM'.ft.2
  have fin : ∀ {a e : Int}, l = l' → Rd.Rest L a e (U.putR (U.wn kind) nonce ++ (U.putR (U.wg kind) tag ++ U.putR (U.wy kind) why)) → Rd.Rest L a e (U.putR (U.wn kind) nonce' ++ (U.putR (U.wg kind) tag' ++ U.putR (U.wy kind) why')) →
      kind = kind ∧ xid = xid' ∧ mac = mac' ∧ ip = ip' ∧ ticks = ticks' ∧ nonce = nonce' ∧ tag = tag' ∧ why = why' ∧ l = l' := by
    intro a e hl hR hR'
    obtain ⟨q5, hR⟩ := rest_put hR (wn_bd _).1 hK.nonce.1 hM.fn
    obtain ⟨p5, hR'⟩ := rest_put hR' (wn_bd _).1 hK'.nonce.1 hM'.fn
    obtain ⟨q6, hR⟩ := rest_put hR (wg_bd _).1 hK.tag.1 hM.fg
    obtain ⟨p6, hR'⟩ := rest_put hR' (wg_bd _).1 hK'.tag.1 hM'.fg
    rw [← List.append_nil (U.putR (U.wy kind) why)] at hR
    rw [← List.append_nil (U.putR (U.wy kind) why')] at hR'
    obtain ⟨q7, hR⟩ := rest_put hR (wy_bd _).1 hM.fy.1 hM.fy.2
    obtain ⟨p7, hR'⟩ := rest_put hR' (wy_bd _).1 hM'.fy.1 hM'.fy.2
    exact ⟨rfl, q1.symm.trans p1, q2.symm.trans p2, q3.symm.trans p3, q4.symm.trans p4, q5.symm.trans p5, q6.symm.trans p6, q7.symm.trans p7, hl⟩
  by_cases us : U.Us kind
  · have hN := hM.fu us
    have hN' := hM'.fu us
    have hNl := hN.len
    have hNl' := hN'.len
    rw [usR_us us] at hR hR'
    obtain ⟨ql, hR⟩ := hR.num (n := 8) (v := (l.length : Int)) (by decide) (by simp; omega)
    obtain ⟨pl, hR'⟩ := hR'.num (n := 8) (v := (l'.length : Int)) (by decide) (by simp; omega)
    have hlen : l.length = l'.length := by have := ql.symm.trans pl; omega
    obtain ⟨qb, hR⟩ := hR.bytes (Rd.inA_mod (tkA_mod (tkA_mod (tkA_mod (tkA_mod (Rd.inA_mod (Rd.inA_mod (by decide) (by decide)) (by decide)) (wx_8m _)) (wm_8m _)) (wi_8m _)) (wt_8m _)) (by decide)) (nm_lt hN)
    obtain ⟨pb, hR'⟩ := hR'.bytes (Rd.inA_mod (tkA_mod (tkA_mod (tkA_mod (tkA_mod (Rd.inA_mod (Rd.inA_mod (by decide) (by decide)) (by decide)) (wx_8m _)) (wm_8m _)) (wi_8m _)) (wt_8m _)) (by decide)) (nm_lt hN')
    rw [List.length_map] at qb pb hR hR'
    rw [← hlen] at pb hR'
    refine fin ?_ hR hR'
    rw [← nm_nz hN, ← nm_nz hN', ← qb, ← pb]
  · rw [usR_no us] at hR hR'
    exact fin ((hM.fz us).trans (hM'.fz us).symm) hR hR'
theorem tParseY_ok : TblOk Try.prog tParseY := by
  intro f tm σ C h K hK
  unfold tParseY at h
  split at h
  · rename_i hf
    split at h
    · rename_i s L cap ro
      split at h
      · rename_i m c hs
        simp only [Option.some.injEq] at h; subst h
        obtain ⟨kind, xid, mac, ip, ticks, nonce, tag, why, u, ⟨h1, h2, h3, h4, h5, h6⟩, hk⟩ := hK
        have et : L.take m = L := by rw [h2]; exact List.take_length
        refine tParseT_ok f [s] _ _ (by unfold tParseT; rw [if_pos hf]; simp only [hs]; rfl) K ?_
        refine ⟨⟨h1, by omega, h3⟩, ?_⟩
        rintro L0 rfl
        rw [et]
        refine ⟨fun kind' xid' mac' ip' ticks' nonce' tag' why' u' g1 g2 g3 => ?_, fun hn => absurd ⟨kind, xid, mac, ip, ticks, nonce, tag, why, u, h4, h5, h6⟩ hn⟩
        obtain ⟨rfl, rfl, rfl, rfl, rfl, rfl, rfl, rfl, rfl⟩ := twr_inj h4 g1 h5 g2 h6 g3
        exact hk
      · cases h
    · cases h
  · cases h
def tTC3 (bM bN bL : Bool) : Tbl := tblOr tAwake7 (tblOr (tEncC bM) (tblOr (tMayC bM) (tblOr (tNameC bN) (tblOr (tLeC bL) (tblOr tParseY tREnc)))))
theorem tTC3_ok (bM bN bL : Bool) : TblOk Try.prog (tTC3 bM bN bL) := tblOr_ok tAwake7_ok (tblOr_ok (tEncC_ok bM) (tblOr_ok (tMayC_ok bM) (tblOr_ok (tNameC_ok bN) (tblOr_ok (tLeC_ok bL) (tblOr_ok tParseY_ok tREnc_ok)))))
end Go.Proofs.Ytpcnbhgifhiejaa
end
