/- Parts of a proof, one behind the other: TC8. No condition. -/
import Derived.Test.YtpcnbhgifhiejaaGW
section
set_option linter.unusedVariables false
set_option linter.unusedSimpArgs false
set_option maxRecDepth 100000
namespace Go.Proofs.Ytpcnbhgifhiejaa
open Go Reck
def rpaT (l : List Cell) (b : Bool) : AV := .inr [.inr l, .inl (.inl (.bool b))]
theorem vb_bd (l : List Int) : 0 ≤ U.vb l ∧ U.vb l ≤ 18446744073709551615 := by unfold U.vb; omega
theorem vb_one {L : List Int} (hB : U.By L) {o m n1 : Nat} {o2 n2 : Nat} (h : U.CutP L o m 1 n1 o2 n2) : 0 ≤ U.vb ((L.drop o).take n1) ∧ U.vb ((L.drop o).take n1) ≤ 255 := by
  rw [h.fst]
  have hm : ∀ x ∈ ((L.drop o).take m).take (1 : Int).toNat, 0 ≤ x ∧ x < 256 := fun x hx => by_mem hB x (List.mem_of_mem_drop (List.mem_of_mem_take (List.mem_of_mem_take hx)))
  have hl : (((L.drop o).take m).take (1 : Int).toNat).length ≤ 1 := by rw [List.length_take]; exact Nat.min_le_left _ _
  match ((L.drop o).take m).take (1 : Int).toNat, hm, hl with
  | [], _, _ => simp [U.vb]
  | [x], hm, _ => have := hm x (by simp); simp [U.vb]; omega
  | _ :: _ :: _, _, hl => simp at hl
theorem cut3 {L : List Int} {m c o n c' : Nat} (hm : m ≤ c) (h3 : 3 ≤ m) (hL : m ≤ L.length) (ho : (o : Int) = if ((⟨0, 0, m, c⟩ : ASl).c : Int) = 3 then ((0 : Nat) : Int) else ((0 : Nat) : Int) + 3) (hn : (n : Int) = (m : Int) - 3) (hc : (c' : Int) = (c : Int) - 3) :
    (L.drop o).take n = (L.take m).drop 3 ∧ o + n ≤ L.length ∧ n ≤ c' ∧ n ≤ m := by
  dsimp only at ho
  by_cases h : (c : Int) = 3
  · rw [if_pos h] at ho
    have e0 : n = 0 := by omega
    have em : m = 3 := by omega
    subst e0; subst em
    refine ⟨?_, by omega, by omega, by omega⟩
    rw [List.take_zero, List.drop_eq_nil_of_le]; rw [List.length_take]; omega
  · rw [if_neg h] at ho
    have e0 : o = 3 := by omega
    subst e0
    refine ⟨?_, by omega, by omega, by omega⟩
    rw [List.drop_take, show m - 3 = n by omega]
theorem cut_nb {L r : List Int} {o m n1 o2 n2 : Nat} {n v : Int} (hq : (L.drop o).take m = U.nb n v ++ r) (hC : U.CutP L o m n n1 o2 n2) (hn : 0 ≤ n ∧ n ≤ 8) (hv : 0 ≤ v ∧ v < 256 ^ n.toNat) : U.vb ((L.drop o).take n1) = v ∧ (L.drop o2).take n2 = r := by
  have hl := nb_length n v
  constructor
  · rw [hC.fst, hq, List.take_append_of_le_length (by omega), List.take_of_length_le (by omega)]
    exact vb_nb n v hn hv
  · rw [hC.snd, hq, List.drop_append_of_le_length (by omega), List.drop_of_length_le (by omega), List.nil_append]
theorem cut_one {L r : List Int} {o m n1 o2 n2 : Nat} {v : Int} (hq : (L.drop o).take m = v :: r) (hC : U.CutP L o m 1 n1 o2 n2) (hv : 0 ≤ v ∧ v < 256) : U.vb ((L.drop o).take n1) = v ∧ (L.drop o2).take n2 = r := by
  constructor
  · rw [hC.fst, hq]
    simp [U.vb]; omega
  · rw [hC.snd, hq]; rfl
theorem cut_str {L r l : List Int} {o m n1 o2 n2 : Nat} {n : Int} (hq : (L.drop o).take m = l ++ r) (hC : U.CutP L o m n n1 o2 n2) (hn : n = l.length) : (L.drop o).take n1 = l ∧ (L.drop o2).take n2 = r := by
  subst hn
  constructor
  · rw [hC.fst, hq, Int.toNat_natCast]; simp
  · rw [hC.snd, hq, Int.toNat_natCast]; simp
theorem twr_kind {kind xid mac ip ticks nonce tag why : Int} {l L : List Int} (hM : U.TMay kind xid mac ip ticks nonce tag why l) (h : U.TWr kind xid mac ip ticks nonce tag why l L) : 3 ≤ L.length ∧ L.getD 2 0 = kind := by
  have hr := hM.fk
  obtain rfl | rfl | rfl | rfl | rfl | rfl | rfl | rfl | rfl | rfl | rfl | rfl : kind = 1 ∨ kind = 2 ∨ kind = 3 ∨ kind = 4 ∨ kind = 5 ∨ kind = 6 ∨ kind = 7 ∨ kind = 8 ∨ kind = 9 ∨ kind = 10 ∨ kind = 11 ∨ kind = 12 := by omega
  · rw [(tby1).1 h]; exact ⟨by simp only [List.length_cons]; omega, rfl⟩
  · rw [(tby2).1 h]; exact ⟨by simp only [List.length_cons]; omega, rfl⟩
  · rw [(tby3).1 h]; exact ⟨by simp only [List.length_cons]; omega, rfl⟩
  · rw [(tby4).1 h]; exact ⟨by simp only [List.length_cons]; omega, rfl⟩
  · rw [(tby5).1 h]; exact ⟨by simp only [List.length_cons]; omega, rfl⟩
  · rw [(tby6).1 h]; exact ⟨by simp only [List.length_cons]; omega, rfl⟩
  · rw [(tby7 (tmay7.1 hM).2.2.2.2.2.2.2).1 h]; exact ⟨by simp only [List.length_cons]; omega, rfl⟩
  · rw [(tby8 (tmay8.1 hM).2.2.2.2.2.2.2).1 h]; exact ⟨by simp only [List.length_cons]; omega, rfl⟩
  · rw [(tby9 (tmay9.1 hM).2.2.2.2.2.2.2).1 h]; exact ⟨by simp only [List.length_cons]; omega, rfl⟩
  · rw [(tby10 (tmay10.1 hM).2.2.2.2.2.2.2).1 h]; exact ⟨by simp only [List.length_cons]; omega, rfl⟩
  · rw [(tby11 (tmay11.1 hM).2.2.2.2.2.2.2).1 h]; exact ⟨by simp only [List.length_cons]; omega, rfl⟩
  · rw [(tby12 (tmay12.1 hM).2.2.2.2.2.2.2).1 h]; exact ⟨by simp only [List.length_cons]; omega, rfl⟩
theorem getD_take {L : List Int} {m i : Nat} (h : i < m) : (L.take m).getD i 0 = L.getD i 0 := by
  rw [List.getD_eq_getElem?_getD, List.getD_eq_getElem?_getD, List.getElem?_take, if_pos h]
theorem enc_eq {L W x y : List Int} {n m : Nat} (hn : n = W.length) (hx : x = List.take n (List.drop 0 W)) (hy : y = List.take m (List.drop 0 L)) : (x = y) = (W = L.take m) := by
  rw [hx, hy, hn, List.drop_zero, List.drop_zero, List.take_length]
theorem byL7 {L : List Int} (h : U.By L) (n : Nat) : ByteL (List.take n (List.drop 0 L)) := ⟨all_bytes (by_mem (by_take h _))⟩
theorem byLo {L : List Int} (h : U.By L) (o n : Nat) : ByteL (List.take n (List.drop o L)) := ⟨all_bytes (fun x hx => by_mem h x (List.mem_of_mem_drop (List.mem_of_mem_take hx)))⟩
theorem tw_by7 {kind xid mac ip ticks nonce tag why : Int} {l L : List Int} (h : U.TWr kind xid mac ip ticks nonce tag why l L) : U.By L := by obtain ⟨N, hN⟩ := h; exact out_by' hN
set_option maxHeartbeats 16000000 in
theorem rparT_run (K : AV → St → Prop) (L : List Int) (m c cap : Nat) (hB : U.By L) (hmc : m ≤ c) (hm : m ≤ L.length) (hm2 : m ≤ 16777216)
    (h1 : ∀ (kind xid mac ip ticks nonce tag why : Int) (u : List Int) (uc : Cell), (uc = strC u ∨ (uc = .inl (.string ⟨#[]⟩) ∧ u = [])) → U.TMay kind xid mac ip ticks nonce tag why u → U.TKin xid mac ip ticks nonce tag why → U.TWr kind xid mac ip ticks nonce tag why u (L.take m) → K (rpaT (msgL kind xid mac ip ticks uc nonce tag why) true) (ar [bs L cap true]))
    (h2 : ¬ U.TIs (L.take m) → K (rpaT msg0 false) (ar [bs L cap true])) : runI inv0 tTP 19 [cell (aslC ⟨0, 0, m, c⟩)] (ar [bs L cap true]) (opn K) := by
  rw [rparT_vc]
  have hlen0 : (L.take m).length = m := by rw [List.length_take]; omega
  intro z0 h0
  refine ⟨fun hlt => h2 ?_, fun hge => ⟨⟨by decide, by omega⟩, fun j1 hj1 => ⟨by omega, fun z2 hz2 z3 hz3 => ?_⟩⟩⟩
  · rintro ⟨kind', xid', mac', ip', ticks', nonce', tag', why', l', hM', hK', hW'⟩
    have := (twr_kind hM' hW').1
    omega
  have hj1 : j1 = 2 := by have hj1 : (j1 : Int) = 0 + 2 := hj1; omega
  subst hj1
  have hz2b : 0 ≤ z2 ∧ z2 < 256 := by
    rw [hz2, List.getD_eq_getElem?_getD, List.getElem?_eq_getElem (by omega)]
    exact by_mem hB _ (List.getElem_mem _)
  rw [wrapI64] at hz3
  have hz3 : z3 = z2 := by omega
  have kd : ∀ {kind' xid' mac' ip' ticks' nonce' tag' why' : Int} {l' : List Int}, U.TMay kind' xid' mac' ip' ticks' nonce' tag' why' l' → U.TWr kind' xid' mac' ip' ticks' nonce' tag' why' l' (L.take m) → z3 = kind' := by
    intro kind' xid' mac' ip' ticks' nonce' tag' why' l' hM' hW'
    have := (twr_kind hM' hW').2
    rw [getD_take (by omega)] at this
    omega
  clear hz3 hz2 hz2b
  have tail : ∀ (kind xid mac ip ticks nonce tag why : Int) (u : List Int) (uc : Cell), (uc = strC u ∨ (uc = .inl (.string ⟨#[]⟩) ∧ u = [])) → U.TKin xid mac ip ticks nonce tag why →
      (∀ (kind' xid' mac' ip' ticks' nonce' tag' why' : Int) (l' : List Int), U.TMay kind' xid' mac' ip' ticks' nonce' tag' why' l' → U.TKin xid' mac' ip' ticks' nonce' tag' why' → U.TWr kind' xid' mac' ip' ticks' nonce' tag' why' l' (L.take m) →
        kind = kind' ∧ xid = xid' ∧ mac = mac' ∧ ip = ip' ∧ ticks = ticks' ∧ nonce = nonce' ∧ tag = tag' ∧ why = why' ∧ u = l') →
      (¬ U.TMay kind xid mac ip ticks nonce tag why u → K (rpaT msg0 false) (ar [bs L cap true])) ∧
      (∀ (W x y : List Int) (n : Nat), U.TWr kind xid mac ip ticks nonce tag why u W → n = W.length → x = List.take n (List.drop 0 W) → y = List.take m (List.drop 0 L) → ¬ x = y → K (rpaT msg0 false) (ar [bs L cap true])) ∧
      (∀ (W x y : List Int) (n : Nat), U.TMay kind xid mac ip ticks nonce tag why u → U.TWr kind xid mac ip ticks nonce tag why u W → n = W.length → x = List.take n (List.drop 0 W) → y = List.take m (List.drop 0 L) → ¬ ¬ x = y → K (rpaT (msgL kind xid mac ip ticks uc nonce tag why) true) (ar [bs L cap true])) := by
    intro kind xid mac ip ticks nonce tag why u uc huc hK uni
    refine ⟨fun hn => h2 ?_, fun W x y n hW hn hx hy hne => h2 ?_, fun W x y n hM hW hn hx hy hne => ?_⟩
    · rintro ⟨kind', xid', mac', ip', ticks', nonce', tag', why', l', hM', hK', hW'⟩
      obtain ⟨rfl, rfl, rfl, rfl, rfl, rfl, rfl, rfl, rfl⟩ := uni _ _ _ _ _ _ _ _ _ hM' hK' hW'
      exact hn hM'
    · rintro ⟨kind', xid', mac', ip', ticks', nonce', tag', why', l', hM', hK', hW'⟩
      obtain ⟨rfl, rfl, rfl, rfl, rfl, rfl, rfl, rfl, rfl⟩ := uni _ _ _ _ _ _ _ _ _ hM' hK' hW'
      rw [enc_eq hn hx hy] at hne
      exact hne (twr_det hW hW')
    · have he := Classical.not_not.1 hne
      rw [enc_eq hn hx hy] at he
      exact h1 _ _ _ _ _ _ _ _ _ _ huc hM hK (he ▸ hW)
  refine ⟨fun hr => ?_, ?_, ?_, ?_, ?_, ?_, ?_, ?_, ?_, ?_, ?_, ?_, ?_⟩
  · refine ⟨⟨by decide, by omega⟩, fun o n c' ho hn hc => ?_⟩
    have hKn : U.TKin 0 0 0 0 0 0 0 := ⟨by decide, by decide, by decide, by decide, by decide, by decide, by decide⟩
    obtain ⟨nf1, nf2, yt⟩ := tail z3 0 0 0 0 0 0 0 [] (.inl (.string ⟨#[]⟩)) (.inr ⟨rfl, rfl⟩) hKn (fun _ _ _ _ _ _ _ _ _ hM' _ hW' => absurd (kd hM' hW' ▸ hM'.fk) hr)
    repeat' (first | exact rfl | exact trivial | assumption | exact ⟨hKn, by assumption⟩ | intro h | with_reducible apply And.intro | fail)
    all_goals first
      | exact nf1 (by assumption)
      | exact byL7 hB _
      | exact byL7 (tw_by7 (by assumption)) _
      | (show 0 + _ ≤ List.length _; omega)
      | (rename_i h; exact nf2 _ _ _ _ (by assumption) (by assumption) (by assumption) (by assumption) h)
      | (rename_i h; exact yt _ _ _ _ (by assumption) (by assumption) (by assumption) (by assumption) (by assumption) h)
  · intro hz3
    subst hz3
    refine ⟨⟨by decide, by omega⟩, fun o n c' ho hn hc => ?_⟩
    obtain ⟨hq0, b1, b2, b3⟩ := cut3 hmc (by omega) hm ho hn hc
    refine ⟨⟨by decide, by omega, by omega, by omega⟩, fun n1x0 ox0 nx0 cx0 hCx0 gx0 g'x0 => ?_⟩
    have dx0 := hCx0.b1
    have ex0 := hCx0.b2
    refine ⟨⟨hB, by omega, by omega⟩, fun zx0 hzx0 => ?_⟩
    have vx0 := vb_bd (List.take n1x0 (List.drop o L))
    intro yx0 hyx0
    rw [wrapU32] at hyx0
    refine ⟨⟨by decide, by omega, by omega, by omega⟩, fun n1m1 om1 nm1 cm1 hCm1 gm1 g'm1 => ?_⟩
    have dm1 := hCm1.b1
    have em1 := hCm1.b2
    refine ⟨⟨hB, by omega, by omega⟩, fun zm1 hzm1 => ?_⟩
    have vm1 := vb_bd (List.take n1m1 (List.drop ox0 L))
    have hKn : U.TKin yx0 zm1 0 0 0 0 0 := ⟨by omega, by omega, by omega, by omega, by omega, by omega, by omega⟩
    obtain ⟨nf1, nf2, yt⟩ := tail 1 yx0 zm1 0 0 0 0 0 [] (.inl (.string ⟨#[]⟩)) (.inr ⟨rfl, rfl⟩) hKn (by
      intro kind' xid' mac' ip' ticks' nonce' tag' why' l' hM' hK' hW'
      have e := kd hM' hW'
      subst e
      obtain ⟨f1, f2, f3, ⟨f4, f5⟩, f6, f7, ⟨f8, f9⟩, f10⟩ := tmay1.1 hM'
      obtain ⟨k1, k2, k3, k4, k5, k6, k7⟩ := hK'
      have hL := (tby1).1 hW'
      rw [hL] at hq0
      have hq := hq0
      simp only [List.drop_succ_cons, List.drop_zero] at hq
      obtain ⟨qx0, hq⟩ := cut_nb hq hCx0 (by decide) ⟨by omega, by rw [show (256 : Int) ^ (4 : Int).toNat = 4294967296 by decide]; omega⟩
      rw [← List.append_nil (U.nb 6 mac')] at hq
      obtain ⟨qm1, hq⟩ := cut_nb hq hCm1 (by decide) ⟨by omega, by rw [show (256 : Int) ^ (6 : Int).toNat = 281474976710656 by decide]; omega⟩
      exact ⟨rfl, by omega, by omega, by omega, by omega, by omega, by omega, by omega, f10.symm⟩)
    repeat' (first | exact rfl | exact trivial | assumption | exact ⟨hKn, by assumption⟩ | intro h | with_reducible apply And.intro | fail)
    all_goals first
      | exact nf1 (by assumption)
      | exact byL7 hB _
      | exact byL7 (tw_by7 (by assumption)) _
      | (show 0 + _ ≤ List.length _; omega)
      | (rename_i h; exact nf2 _ _ _ _ (by assumption) (by assumption) (by assumption) (by assumption) h)
      | (rename_i h; exact yt _ _ _ _ (by assumption) (by assumption) (by assumption) (by assumption) (by assumption) h)
  · intro hz3
    subst hz3
    refine ⟨⟨by decide, by omega⟩, fun o n c' ho hn hc => ?_⟩
    obtain ⟨hq0, b1, b2, b3⟩ := cut3 hmc (by omega) hm ho hn hc
    refine ⟨⟨by decide, by omega, by omega, by omega⟩, fun n1x0 ox0 nx0 cx0 hCx0 gx0 g'x0 => ?_⟩
    have dx0 := hCx0.b1
    have ex0 := hCx0.b2
    refine ⟨⟨hB, by omega, by omega⟩, fun zx0 hzx0 => ?_⟩
    have vx0 := vb_bd (List.take n1x0 (List.drop o L))
    intro yx0 hyx0
    rw [wrapU32] at hyx0
    refine ⟨⟨by decide, by omega, by omega, by omega⟩, fun n1m1 om1 nm1 cm1 hCm1 gm1 g'm1 => ?_⟩
    have dm1 := hCm1.b1
    have em1 := hCm1.b2
    refine ⟨⟨hB, by omega, by omega⟩, fun zm1 hzm1 => ?_⟩
    have vm1 := vb_bd (List.take n1m1 (List.drop ox0 L))
    refine ⟨⟨by decide, by omega, by omega, by omega⟩, fun n1i2 oi2 ni2 ci2 hCi2 gi2 g'i2 => ?_⟩
    have di2 := hCi2.b1
    have ei2 := hCi2.b2
    refine ⟨⟨hB, by omega, by omega⟩, fun zi2 hzi2 => ?_⟩
    have vi2 := vb_bd (List.take n1i2 (List.drop om1 L))
    intro yi2 hyi2
    rw [wrapU32] at hyi2
    refine ⟨⟨by decide, by omega, by omega, by omega⟩, fun n1t3 ot3 nt3 ct3 hCt3 gt3 g't3 => ?_⟩
    have dt3 := hCt3.b1
    have et3 := hCt3.b2
    refine ⟨⟨hB, by omega, by omega⟩, fun zt3 hzt3 => ?_⟩
    have vt3 := vb_bd (List.take n1t3 (List.drop oi2 L))
    intro yt3 hyt3
    rw [wrapI64] at hyt3
    have hKn : U.TKin yx0 zm1 yi2 yt3 0 0 0 := ⟨by omega, by omega, by omega, by omega, by omega, by omega, by omega⟩
    obtain ⟨nf1, nf2, yt⟩ := tail 2 yx0 zm1 yi2 yt3 0 0 0 [] (.inl (.string ⟨#[]⟩)) (.inr ⟨rfl, rfl⟩) hKn (by
      intro kind' xid' mac' ip' ticks' nonce' tag' why' l' hM' hK' hW'
      have e := kd hM' hW'
      subst e
      obtain ⟨f1, f2, f3, ⟨f4, f5⟩, f6, f7, ⟨f8, f9⟩, f10⟩ := tmay2.1 hM'
      obtain ⟨k1, k2, k3, k4, k5, k6, k7⟩ := hK'
      have hL := (tby2).1 hW'
      rw [hL] at hq0
      have hq := hq0
      simp only [List.drop_succ_cons, List.drop_zero] at hq
      obtain ⟨qx0, hq⟩ := cut_nb hq hCx0 (by decide) ⟨by omega, by rw [show (256 : Int) ^ (4 : Int).toNat = 4294967296 by decide]; omega⟩
      obtain ⟨qm1, hq⟩ := cut_nb hq hCm1 (by decide) ⟨by omega, by rw [show (256 : Int) ^ (6 : Int).toNat = 281474976710656 by decide]; omega⟩
      obtain ⟨qi2, hq⟩ := cut_nb hq hCi2 (by decide) ⟨by omega, by rw [show (256 : Int) ^ (4 : Int).toNat = 4294967296 by decide]; omega⟩
      rw [← List.append_nil (U.nb 5 ticks')] at hq
      obtain ⟨qt3, hq⟩ := cut_nb hq hCt3 (by decide) ⟨by omega, by rw [show (256 : Int) ^ (5 : Int).toNat = 1099511627776 by decide]; omega⟩
      exact ⟨rfl, by omega, by omega, by omega, by omega, by omega, by omega, by omega, f10.symm⟩)
    repeat' (first | exact rfl | exact trivial | assumption | exact ⟨hKn, by assumption⟩ | intro h | with_reducible apply And.intro | fail)
    all_goals first
      | exact nf1 (by assumption)
      | exact byL7 hB _
      | exact byL7 (tw_by7 (by assumption)) _
      | (show 0 + _ ≤ List.length _; omega)
      | (rename_i h; exact nf2 _ _ _ _ (by assumption) (by assumption) (by assumption) (by assumption) h)
      | (rename_i h; exact yt _ _ _ _ (by assumption) (by assumption) (by assumption) (by assumption) (by assumption) h)
  · intro hz3
    subst hz3
    refine ⟨⟨by decide, by omega⟩, fun o n c' ho hn hc => ?_⟩
    obtain ⟨hq0, b1, b2, b3⟩ := cut3 hmc (by omega) hm ho hn hc
    refine ⟨⟨by decide, by omega, by omega, by omega⟩, fun n1x0 ox0 nx0 cx0 hCx0 gx0 g'x0 => ?_⟩
    have dx0 := hCx0.b1
    have ex0 := hCx0.b2
    refine ⟨⟨hB, by omega, by omega⟩, fun zx0 hzx0 => ?_⟩
    have vx0 := vb_bd (List.take n1x0 (List.drop o L))
    intro yx0 hyx0
    rw [wrapU32] at hyx0
    refine ⟨⟨by decide, by omega, by omega, by omega⟩, fun n1m1 om1 nm1 cm1 hCm1 gm1 g'm1 => ?_⟩
    have dm1 := hCm1.b1
    have em1 := hCm1.b2
    refine ⟨⟨hB, by omega, by omega⟩, fun zm1 hzm1 => ?_⟩
    have vm1 := vb_bd (List.take n1m1 (List.drop ox0 L))
    refine ⟨⟨by decide, by omega, by omega, by omega⟩, fun n1i2 oi2 ni2 ci2 hCi2 gi2 g'i2 => ?_⟩
    have di2 := hCi2.b1
    have ei2 := hCi2.b2
    refine ⟨⟨hB, by omega, by omega⟩, fun zi2 hzi2 => ?_⟩
    have vi2 := vb_bd (List.take n1i2 (List.drop om1 L))
    intro yi2 hyi2
    rw [wrapU32] at hyi2
    have hKn : U.TKin yx0 zm1 yi2 0 0 0 0 := ⟨by omega, by omega, by omega, by omega, by omega, by omega, by omega⟩
    obtain ⟨nf1, nf2, yt⟩ := tail 3 yx0 zm1 yi2 0 0 0 0 [] (.inl (.string ⟨#[]⟩)) (.inr ⟨rfl, rfl⟩) hKn (by
      intro kind' xid' mac' ip' ticks' nonce' tag' why' l' hM' hK' hW'
      have e := kd hM' hW'
      subst e
      obtain ⟨f1, f2, f3, ⟨f4, f5⟩, f6, f7, ⟨f8, f9⟩, f10⟩ := tmay3.1 hM'
      obtain ⟨k1, k2, k3, k4, k5, k6, k7⟩ := hK'
      have hL := (tby3).1 hW'
      rw [hL] at hq0
      have hq := hq0
      simp only [List.drop_succ_cons, List.drop_zero] at hq
      obtain ⟨qx0, hq⟩ := cut_nb hq hCx0 (by decide) ⟨by omega, by rw [show (256 : Int) ^ (4 : Int).toNat = 4294967296 by decide]; omega⟩
      obtain ⟨qm1, hq⟩ := cut_nb hq hCm1 (by decide) ⟨by omega, by rw [show (256 : Int) ^ (6 : Int).toNat = 281474976710656 by decide]; omega⟩
      rw [← List.append_nil (U.nb 4 ip')] at hq
      obtain ⟨qi2, hq⟩ := cut_nb hq hCi2 (by decide) ⟨by omega, by rw [show (256 : Int) ^ (4 : Int).toNat = 4294967296 by decide]; omega⟩
      exact ⟨rfl, by omega, by omega, by omega, by omega, by omega, by omega, by omega, f10.symm⟩)
    repeat' (first | exact rfl | exact trivial | assumption | exact ⟨hKn, by assumption⟩ | intro h | with_reducible apply And.intro | fail)
    all_goals first
      | exact nf1 (by assumption)
      | exact byL7 hB _
      | exact byL7 (tw_by7 (by assumption)) _
      | (show 0 + _ ≤ List.length _; omega)
      | (rename_i h; exact nf2 _ _ _ _ (by assumption) (by assumption) (by assumption) (by assumption) h)
      | (rename_i h; exact yt _ _ _ _ (by assumption) (by assumption) (by assumption) (by assumption) (by assumption) h)
  · intro hz3
    subst hz3
    refine ⟨⟨by decide, by omega⟩, fun o n c' ho hn hc => ?_⟩
    obtain ⟨hq0, b1, b2, b3⟩ := cut3 hmc (by omega) hm ho hn hc
    refine ⟨⟨by decide, by omega, by omega, by omega⟩, fun n1x0 ox0 nx0 cx0 hCx0 gx0 g'x0 => ?_⟩
    have dx0 := hCx0.b1
    have ex0 := hCx0.b2
    refine ⟨⟨hB, by omega, by omega⟩, fun zx0 hzx0 => ?_⟩
    have vx0 := vb_bd (List.take n1x0 (List.drop o L))
    intro yx0 hyx0
    rw [wrapU32] at hyx0
    refine ⟨⟨by decide, by omega, by omega, by omega⟩, fun n1m1 om1 nm1 cm1 hCm1 gm1 g'm1 => ?_⟩
    have dm1 := hCm1.b1
    have em1 := hCm1.b2
    refine ⟨⟨hB, by omega, by omega⟩, fun zm1 hzm1 => ?_⟩
    have vm1 := vb_bd (List.take n1m1 (List.drop ox0 L))
    refine ⟨⟨by decide, by omega, by omega, by omega⟩, fun n1i2 oi2 ni2 ci2 hCi2 gi2 g'i2 => ?_⟩
    have di2 := hCi2.b1
    have ei2 := hCi2.b2
    refine ⟨⟨hB, by omega, by omega⟩, fun zi2 hzi2 => ?_⟩
    have vi2 := vb_bd (List.take n1i2 (List.drop om1 L))
    intro yi2 hyi2
    rw [wrapU32] at hyi2
    refine ⟨⟨by decide, by omega, by omega, by omega⟩, fun n1t3 ot3 nt3 ct3 hCt3 gt3 g't3 => ?_⟩
    have dt3 := hCt3.b1
    have et3 := hCt3.b2
    refine ⟨⟨hB, by omega, by omega⟩, fun zt3 hzt3 => ?_⟩
    have vt3 := vb_bd (List.take n1t3 (List.drop oi2 L))
    intro yt3 hyt3
    rw [wrapI64] at hyt3
    have hKn : U.TKin yx0 zm1 yi2 yt3 0 0 0 := ⟨by omega, by omega, by omega, by omega, by omega, by omega, by omega⟩
    obtain ⟨nf1, nf2, yt⟩ := tail 4 yx0 zm1 yi2 yt3 0 0 0 [] (.inl (.string ⟨#[]⟩)) (.inr ⟨rfl, rfl⟩) hKn (by
      intro kind' xid' mac' ip' ticks' nonce' tag' why' l' hM' hK' hW'
      have e := kd hM' hW'
      subst e
      obtain ⟨f1, f2, f3, ⟨f4, f5⟩, f6, f7, ⟨f8, f9⟩, f10⟩ := tmay4.1 hM'
      obtain ⟨k1, k2, k3, k4, k5, k6, k7⟩ := hK'
      have hL := (tby4).1 hW'
      rw [hL] at hq0
      have hq := hq0
      simp only [List.drop_succ_cons, List.drop_zero] at hq
      obtain ⟨qx0, hq⟩ := cut_nb hq hCx0 (by decide) ⟨by omega, by rw [show (256 : Int) ^ (4 : Int).toNat = 4294967296 by decide]; omega⟩
      obtain ⟨qm1, hq⟩ := cut_nb hq hCm1 (by decide) ⟨by omega, by rw [show (256 : Int) ^ (6 : Int).toNat = 281474976710656 by decide]; omega⟩
      obtain ⟨qi2, hq⟩ := cut_nb hq hCi2 (by decide) ⟨by omega, by rw [show (256 : Int) ^ (4 : Int).toNat = 4294967296 by decide]; omega⟩
      rw [← List.append_nil (U.nb 5 ticks')] at hq
      obtain ⟨qt3, hq⟩ := cut_nb hq hCt3 (by decide) ⟨by omega, by rw [show (256 : Int) ^ (5 : Int).toNat = 1099511627776 by decide]; omega⟩
      exact ⟨rfl, by omega, by omega, by omega, by omega, by omega, by omega, by omega, f10.symm⟩)
    repeat' (first | exact rfl | exact trivial | assumption | exact ⟨hKn, by assumption⟩ | intro h | with_reducible apply And.intro | fail)
    all_goals first
      | exact nf1 (by assumption)
      | exact byL7 hB _
      | exact byL7 (tw_by7 (by assumption)) _
      | (show 0 + _ ≤ List.length _; omega)
      | (rename_i h; exact nf2 _ _ _ _ (by assumption) (by assumption) (by assumption) (by assumption) h)
      | (rename_i h; exact yt _ _ _ _ (by assumption) (by assumption) (by assumption) (by assumption) (by assumption) h)
  · intro hz3
    subst hz3
    refine ⟨⟨by decide, by omega⟩, fun o n c' ho hn hc => ?_⟩
    obtain ⟨hq0, b1, b2, b3⟩ := cut3 hmc (by omega) hm ho hn hc
    refine ⟨⟨by decide, by omega, by omega, by omega⟩, fun n1x0 ox0 nx0 cx0 hCx0 gx0 g'x0 => ?_⟩
    have dx0 := hCx0.b1
    have ex0 := hCx0.b2
    refine ⟨⟨hB, by omega, by omega⟩, fun zx0 hzx0 => ?_⟩
    have vx0 := vb_bd (List.take n1x0 (List.drop o L))
    intro yx0 hyx0
    rw [wrapU32] at hyx0
    refine ⟨⟨by decide, by omega, by omega, by omega⟩, fun n1m1 om1 nm1 cm1 hCm1 gm1 g'm1 => ?_⟩
    have dm1 := hCm1.b1
    have em1 := hCm1.b2
    refine ⟨⟨hB, by omega, by omega⟩, fun zm1 hzm1 => ?_⟩
    have vm1 := vb_bd (List.take n1m1 (List.drop ox0 L))
    refine ⟨⟨by decide, by omega, by omega, by omega⟩, fun n1w2 ow2 nw2 cw2 hCw2 gw2 g'w2 => ?_⟩
    have dw2 := hCw2.b1
    have ew2 := hCw2.b2
    refine ⟨⟨hB, by omega, by omega⟩, fun zw2 hzw2 => ?_⟩
    have vw2 := vb_bd (List.take n1w2 (List.drop om1 L))
    intro yw2 hyw2
    rw [wrapI64] at hyw2
    have hKn : U.TKin yx0 zm1 0 0 0 0 yw2 := ⟨by omega, by omega, by omega, by omega, by omega, by omega, by omega⟩
    obtain ⟨nf1, nf2, yt⟩ := tail 5 yx0 zm1 0 0 0 0 yw2 [] (.inl (.string ⟨#[]⟩)) (.inr ⟨rfl, rfl⟩) hKn (by
      intro kind' xid' mac' ip' ticks' nonce' tag' why' l' hM' hK' hW'
      have e := kd hM' hW'
      subst e
      obtain ⟨f1, f2, f3, ⟨f4, f5⟩, f6, f7, ⟨f8, f9⟩, f10⟩ := tmay5.1 hM'
      obtain ⟨k1, k2, k3, k4, k5, k6, k7⟩ := hK'
      have hL := (tby5).1 hW'
      rw [hL] at hq0
      have hq := hq0
      simp only [List.drop_succ_cons, List.drop_zero] at hq
      obtain ⟨qx0, hq⟩ := cut_nb hq hCx0 (by decide) ⟨by omega, by rw [show (256 : Int) ^ (4 : Int).toNat = 4294967296 by decide]; omega⟩
      obtain ⟨qm1, hq⟩ := cut_nb hq hCm1 (by decide) ⟨by omega, by rw [show (256 : Int) ^ (6 : Int).toNat = 281474976710656 by decide]; omega⟩
      rw [← List.append_nil (U.nb 1 why')] at hq
      obtain ⟨qw2, hq⟩ := cut_nb hq hCw2 (by decide) ⟨by omega, by rw [show (256 : Int) ^ (1 : Int).toNat = 256 by decide]; omega⟩
      exact ⟨rfl, by omega, by omega, by omega, by omega, by omega, by omega, by omega, f10.symm⟩)
    repeat' (first | exact rfl | exact trivial | assumption | exact ⟨hKn, by assumption⟩ | intro h | with_reducible apply And.intro | fail)
    all_goals first
      | exact nf1 (by assumption)
      | exact byL7 hB _
      | exact byL7 (tw_by7 (by assumption)) _
      | (show 0 + _ ≤ List.length _; omega)
      | (rename_i h; exact nf2 _ _ _ _ (by assumption) (by assumption) (by assumption) (by assumption) h)
      | (rename_i h; exact yt _ _ _ _ (by assumption) (by assumption) (by assumption) (by assumption) (by assumption) h)
  · intro hz3
    subst hz3
    refine ⟨⟨by decide, by omega⟩, fun o n c' ho hn hc => ?_⟩
    obtain ⟨hq0, b1, b2, b3⟩ := cut3 hmc (by omega) hm ho hn hc
    refine ⟨⟨by decide, by omega, by omega, by omega⟩, fun n1m0 om0 nm0 cm0 hCm0 gm0 g'm0 => ?_⟩
    have dm0 := hCm0.b1
    have em0 := hCm0.b2
    refine ⟨⟨hB, by omega, by omega⟩, fun zm0 hzm0 => ?_⟩
    have vm0 := vb_bd (List.take n1m0 (List.drop o L))
    refine ⟨⟨by decide, by omega, by omega, by omega⟩, fun n1i1 oi1 ni1 ci1 hCi1 gi1 g'i1 => ?_⟩
    have di1 := hCi1.b1
    have ei1 := hCi1.b2
    refine ⟨⟨hB, by omega, by omega⟩, fun zi1 hzi1 => ?_⟩
    have vi1 := vb_bd (List.take n1i1 (List.drop om0 L))
    intro yi1 hyi1
    rw [wrapU32] at hyi1
    have hKn : U.TKin 0 zm0 yi1 0 0 0 0 := ⟨by omega, by omega, by omega, by omega, by omega, by omega, by omega⟩
    obtain ⟨nf1, nf2, yt⟩ := tail 6 0 zm0 yi1 0 0 0 0 [] (.inl (.string ⟨#[]⟩)) (.inr ⟨rfl, rfl⟩) hKn (by
      intro kind' xid' mac' ip' ticks' nonce' tag' why' l' hM' hK' hW'
      have e := kd hM' hW'
      subst e
      obtain ⟨f1, f2, f3, ⟨f4, f5⟩, f6, f7, ⟨f8, f9⟩, f10⟩ := tmay6.1 hM'
      obtain ⟨k1, k2, k3, k4, k5, k6, k7⟩ := hK'
      have hL := (tby6).1 hW'
      rw [hL] at hq0
      have hq := hq0
      simp only [List.drop_succ_cons, List.drop_zero] at hq
      obtain ⟨qm0, hq⟩ := cut_nb hq hCm0 (by decide) ⟨by omega, by rw [show (256 : Int) ^ (6 : Int).toNat = 281474976710656 by decide]; omega⟩
      rw [← List.append_nil (U.nb 4 ip')] at hq
      obtain ⟨qi1, hq⟩ := cut_nb hq hCi1 (by decide) ⟨by omega, by rw [show (256 : Int) ^ (4 : Int).toNat = 4294967296 by decide]; omega⟩
      exact ⟨rfl, by omega, by omega, by omega, by omega, by omega, by omega, by omega, f10.symm⟩)
    repeat' (first | exact rfl | exact trivial | assumption | exact ⟨hKn, by assumption⟩ | intro h | with_reducible apply And.intro | fail)
    all_goals first
      | exact nf1 (by assumption)
      | exact byL7 hB _
      | exact byL7 (tw_by7 (by assumption)) _
      | (show 0 + _ ≤ List.length _; omega)
      | (rename_i h; exact nf2 _ _ _ _ (by assumption) (by assumption) (by assumption) (by assumption) h)
      | (rename_i h; exact yt _ _ _ _ (by assumption) (by assumption) (by assumption) (by assumption) (by assumption) h)
  · intro hz3
    subst hz3
    refine ⟨⟨by decide, by omega⟩, fun o n c' ho hn hc => ?_⟩
    obtain ⟨hq0, b1, b2, b3⟩ := cut3 hmc (by omega) hm ho hn hc
    refine ⟨⟨by decide, by omega, by omega, by omega⟩, fun n1u0l ou0l nu0l cu0l hCu0l gu0l g'u0l => ?_⟩
    have du0l := hCu0l.b1
    have eu0l := hCu0l.b2
    refine ⟨⟨hB, by omega, by omega⟩, fun zl hzl zl' hzl' => ?_⟩
    have vl := vb_one hB hCu0l
    rw [wrapI64] at hzl'
    obtain rfl : zl' = zl := by omega
    refine ⟨⟨by omega, by omega, by omega, by omega⟩, fun n1u0 ou0 nu0 cu0 hCu0 gu0 g'u0 => ?_⟩
    have du0 := hCu0.b1
    have eu0 := hCu0.b2
    refine ⟨⟨by show _ + _ ≤ List.length L; omega, byLo hB _ _⟩, fun u hu => ?_⟩
    have hKn : U.TKin 0 0 0 0 0 0 0 := ⟨by omega, by omega, by omega, by omega, by omega, by omega, by omega⟩
    obtain ⟨nf1, nf2, yt⟩ := tail 7 0 0 0 0 0 0 0 u (strC u) (.inl rfl) hKn (by
      intro kind' xid' mac' ip' ticks' nonce' tag' why' l' hM' hK' hW'
      have e := kd hM' hW'
      subst e
      obtain ⟨f1, f2, f3, ⟨f4, f5⟩, f6, f7, ⟨f8, f9⟩, f10⟩ := tmay7.1 hM'
      obtain ⟨k1, k2, k3, k4, k5, k6, k7⟩ := hK'
      have hL := (tby7 f10).1 hW'
      rw [hL] at hq0
      have hq := hq0
      simp only [List.drop_succ_cons, List.drop_zero] at hq
      have hl := f10.len
      obtain ⟨ql, hq⟩ := cut_one hq hCu0l (by omega)
      rw [← List.append_nil l'] at hq
      obtain ⟨qu, hq⟩ := cut_str hq hCu0 (by omega)
      exact ⟨rfl, by omega, by omega, by omega, by omega, by omega, by omega, by omega, hu.trans qu⟩)
    repeat' (first | exact rfl | exact trivial | assumption | exact ⟨hKn, by assumption⟩ | intro h | with_reducible apply And.intro | fail)
    all_goals first
      | exact nf1 (by assumption)
      | exact byL7 hB _
      | exact byL7 (tw_by7 (by assumption)) _
      | (show 0 + _ ≤ List.length _; omega)
      | (rename_i h; exact nf2 _ _ _ _ (by assumption) (by assumption) (by assumption) (by assumption) h)
      | (rename_i h; exact yt _ _ _ _ (by assumption) (by assumption) (by assumption) (by assumption) (by assumption) h)
  · intro hz3
    subst hz3
    refine ⟨⟨by decide, by omega⟩, fun o n c' ho hn hc => ?_⟩
    obtain ⟨hq0, b1, b2, b3⟩ := cut3 hmc (by omega) hm ho hn hc
    refine ⟨⟨by decide, by omega, by omega, by omega⟩, fun n1u0l ou0l nu0l cu0l hCu0l gu0l g'u0l => ?_⟩
    have du0l := hCu0l.b1
    have eu0l := hCu0l.b2
    refine ⟨⟨hB, by omega, by omega⟩, fun zl hzl zl' hzl' => ?_⟩
    have vl := vb_one hB hCu0l
    rw [wrapI64] at hzl'
    obtain rfl : zl' = zl := by omega
    refine ⟨⟨by omega, by omega, by omega, by omega⟩, fun n1u0 ou0 nu0 cu0 hCu0 gu0 g'u0 => ?_⟩
    have du0 := hCu0.b1
    have eu0 := hCu0.b2
    refine ⟨⟨by show _ + _ ≤ List.length L; omega, byLo hB _ _⟩, fun u hu => ?_⟩
    refine ⟨⟨by decide, by omega, by omega, by omega⟩, fun n1n1 on1 nn1 cn1 hCn1 gn1 g'n1 => ?_⟩
    have dn1 := hCn1.b1
    have en1 := hCn1.b2
    refine ⟨⟨hB, by omega, by omega⟩, fun zn1 hzn1 => ?_⟩
    have vn1 := vb_bd (List.take n1n1 (List.drop ou0 L))
    have hKn : U.TKin 0 0 0 0 zn1 0 0 := ⟨by omega, by omega, by omega, by omega, by omega, by omega, by omega⟩
    obtain ⟨nf1, nf2, yt⟩ := tail 8 0 0 0 0 zn1 0 0 u (strC u) (.inl rfl) hKn (by
      intro kind' xid' mac' ip' ticks' nonce' tag' why' l' hM' hK' hW'
      have e := kd hM' hW'
      subst e
      obtain ⟨f1, f2, f3, ⟨f4, f5⟩, f6, f7, ⟨f8, f9⟩, f10⟩ := tmay8.1 hM'
      obtain ⟨k1, k2, k3, k4, k5, k6, k7⟩ := hK'
      have hL := (tby8 f10).1 hW'
      rw [hL] at hq0
      have hq := hq0
      simp only [List.drop_succ_cons, List.drop_zero] at hq
      have hl := f10.len
      rw [List.cons_append] at hq
      obtain ⟨ql, hq⟩ := cut_one hq hCu0l (by omega)
      obtain ⟨qu, hq⟩ := cut_str hq hCu0 (by omega)
      rw [← List.append_nil (U.nb 8 nonce')] at hq
      obtain ⟨qn1, hq⟩ := cut_nb hq hCn1 (by decide) ⟨by omega, by rw [show (256 : Int) ^ (8 : Int).toNat = 18446744073709551616 by decide]; omega⟩
      exact ⟨rfl, by omega, by omega, by omega, by omega, by omega, by omega, by omega, hu.trans qu⟩)
    repeat' (first | exact rfl | exact trivial | assumption | exact ⟨hKn, by assumption⟩ | intro h | with_reducible apply And.intro | fail)
    all_goals first
      | exact nf1 (by assumption)
      | exact byL7 hB _
      | exact byL7 (tw_by7 (by assumption)) _
      | (show 0 + _ ≤ List.length _; omega)
      | (rename_i h; exact nf2 _ _ _ _ (by assumption) (by assumption) (by assumption) (by assumption) h)
      | (rename_i h; exact yt _ _ _ _ (by assumption) (by assumption) (by assumption) (by assumption) (by assumption) h)
  · intro hz3
    subst hz3
    refine ⟨⟨by decide, by omega⟩, fun o n c' ho hn hc => ?_⟩
    obtain ⟨hq0, b1, b2, b3⟩ := cut3 hmc (by omega) hm ho hn hc
    refine ⟨⟨by decide, by omega, by omega, by omega⟩, fun n1u0l ou0l nu0l cu0l hCu0l gu0l g'u0l => ?_⟩
    have du0l := hCu0l.b1
    have eu0l := hCu0l.b2
    refine ⟨⟨hB, by omega, by omega⟩, fun zl hzl zl' hzl' => ?_⟩
    have vl := vb_one hB hCu0l
    rw [wrapI64] at hzl'
    obtain rfl : zl' = zl := by omega
    refine ⟨⟨by omega, by omega, by omega, by omega⟩, fun n1u0 ou0 nu0 cu0 hCu0 gu0 g'u0 => ?_⟩
    have du0 := hCu0.b1
    have eu0 := hCu0.b2
    refine ⟨⟨by show _ + _ ≤ List.length L; omega, byLo hB _ _⟩, fun u hu => ?_⟩
    refine ⟨⟨by decide, by omega, by omega, by omega⟩, fun n1n1 on1 nn1 cn1 hCn1 gn1 g'n1 => ?_⟩
    have dn1 := hCn1.b1
    have en1 := hCn1.b2
    refine ⟨⟨hB, by omega, by omega⟩, fun zn1 hzn1 => ?_⟩
    have vn1 := vb_bd (List.take n1n1 (List.drop ou0 L))
    refine ⟨⟨by decide, by omega, by omega, by omega⟩, fun n1g2 og2 ng2 cg2 hCg2 gg2 g'g2 => ?_⟩
    have dg2 := hCg2.b1
    have eg2 := hCg2.b2
    refine ⟨⟨hB, by omega, by omega⟩, fun zg2 hzg2 => ?_⟩
    have vg2 := vb_bd (List.take n1g2 (List.drop on1 L))
    have hKn : U.TKin 0 0 0 0 zn1 zg2 0 := ⟨by omega, by omega, by omega, by omega, by omega, by omega, by omega⟩
    obtain ⟨nf1, nf2, yt⟩ := tail 9 0 0 0 0 zn1 zg2 0 u (strC u) (.inl rfl) hKn (by
      intro kind' xid' mac' ip' ticks' nonce' tag' why' l' hM' hK' hW'
      have e := kd hM' hW'
      subst e
      obtain ⟨f1, f2, f3, ⟨f4, f5⟩, f6, f7, ⟨f8, f9⟩, f10⟩ := tmay9.1 hM'
      obtain ⟨k1, k2, k3, k4, k5, k6, k7⟩ := hK'
      have hL := (tby9 f10).1 hW'
      rw [hL] at hq0
      have hq := hq0
      simp only [List.drop_succ_cons, List.drop_zero] at hq
      have hl := f10.len
      rw [List.cons_append] at hq
      obtain ⟨ql, hq⟩ := cut_one hq hCu0l (by omega)
      obtain ⟨qu, hq⟩ := cut_str hq hCu0 (by omega)
      obtain ⟨qn1, hq⟩ := cut_nb hq hCn1 (by decide) ⟨by omega, by rw [show (256 : Int) ^ (8 : Int).toNat = 18446744073709551616 by decide]; omega⟩
      rw [← List.append_nil (U.nb 8 tag')] at hq
      obtain ⟨qg2, hq⟩ := cut_nb hq hCg2 (by decide) ⟨by omega, by rw [show (256 : Int) ^ (8 : Int).toNat = 18446744073709551616 by decide]; omega⟩
      exact ⟨rfl, by omega, by omega, by omega, by omega, by omega, by omega, by omega, hu.trans qu⟩)
    repeat' (first | exact rfl | exact trivial | assumption | exact ⟨hKn, by assumption⟩ | intro h | with_reducible apply And.intro | fail)
    all_goals first
      | exact nf1 (by assumption)
      | exact byL7 hB _
      | exact byL7 (tw_by7 (by assumption)) _
      | (show 0 + _ ≤ List.length _; omega)
      | (rename_i h; exact nf2 _ _ _ _ (by assumption) (by assumption) (by assumption) (by assumption) h)
      | (rename_i h; exact yt _ _ _ _ (by assumption) (by assumption) (by assumption) (by assumption) (by assumption) h)
  · intro hz3
    subst hz3
    refine ⟨⟨by decide, by omega⟩, fun o n c' ho hn hc => ?_⟩
    obtain ⟨hq0, b1, b2, b3⟩ := cut3 hmc (by omega) hm ho hn hc
    refine ⟨⟨by decide, by omega, by omega, by omega⟩, fun n1t0 ot0 nt0 ct0 hCt0 gt0 g't0 => ?_⟩
    have dt0 := hCt0.b1
    have et0 := hCt0.b2
    refine ⟨⟨hB, by omega, by omega⟩, fun zt0 hzt0 => ?_⟩
    have vt0 := vb_bd (List.take n1t0 (List.drop o L))
    intro yt0 hyt0
    rw [wrapI64] at hyt0
    refine ⟨⟨by decide, by omega, by omega, by omega⟩, fun n1u1l ou1l nu1l cu1l hCu1l gu1l g'u1l => ?_⟩
    have du1l := hCu1l.b1
    have eu1l := hCu1l.b2
    refine ⟨⟨hB, by omega, by omega⟩, fun zl hzl zl' hzl' => ?_⟩
    have vl := vb_one hB hCu1l
    rw [wrapI64] at hzl'
    obtain rfl : zl' = zl := by omega
    refine ⟨⟨by omega, by omega, by omega, by omega⟩, fun n1u1 ou1 nu1 cu1 hCu1 gu1 g'u1 => ?_⟩
    have du1 := hCu1.b1
    have eu1 := hCu1.b2
    refine ⟨⟨by show _ + _ ≤ List.length L; omega, byLo hB _ _⟩, fun u hu => ?_⟩
    have hKn : U.TKin 0 0 0 yt0 0 0 0 := ⟨by omega, by omega, by omega, by omega, by omega, by omega, by omega⟩
    obtain ⟨nf1, nf2, yt⟩ := tail 10 0 0 0 yt0 0 0 0 u (strC u) (.inl rfl) hKn (by
      intro kind' xid' mac' ip' ticks' nonce' tag' why' l' hM' hK' hW'
      have e := kd hM' hW'
      subst e
      obtain ⟨f1, f2, f3, ⟨f4, f5⟩, f6, f7, ⟨f8, f9⟩, f10⟩ := tmay10.1 hM'
      obtain ⟨k1, k2, k3, k4, k5, k6, k7⟩ := hK'
      have hL := (tby10 f10).1 hW'
      rw [hL] at hq0
      have hq := hq0
      simp only [List.drop_succ_cons, List.drop_zero] at hq
      have hl := f10.len
      obtain ⟨qt0, hq⟩ := cut_nb hq hCt0 (by decide) ⟨by omega, by rw [show (256 : Int) ^ (5 : Int).toNat = 1099511627776 by decide]; omega⟩
      obtain ⟨ql, hq⟩ := cut_one hq hCu1l (by omega)
      rw [← List.append_nil l'] at hq
      obtain ⟨qu, hq⟩ := cut_str hq hCu1 (by omega)
      exact ⟨rfl, by omega, by omega, by omega, by omega, by omega, by omega, by omega, hu.trans qu⟩)
    repeat' (first | exact rfl | exact trivial | assumption | exact ⟨hKn, by assumption⟩ | intro h | with_reducible apply And.intro | fail)
    all_goals first
      | exact nf1 (by assumption)
      | exact byL7 hB _
      | exact byL7 (tw_by7 (by assumption)) _
      | (show 0 + _ ≤ List.length _; omega)
      | (rename_i h; exact nf2 _ _ _ _ (by assumption) (by assumption) (by assumption) (by assumption) h)
      | (rename_i h; exact yt _ _ _ _ (by assumption) (by assumption) (by assumption) (by assumption) (by assumption) h)
  · intro hz3
    subst hz3
    refine ⟨⟨by decide, by omega⟩, fun o n c' ho hn hc => ?_⟩
    obtain ⟨hq0, b1, b2, b3⟩ := cut3 hmc (by omega) hm ho hn hc
    refine ⟨⟨by decide, by omega, by omega, by omega⟩, fun n1u0l ou0l nu0l cu0l hCu0l gu0l g'u0l => ?_⟩
    have du0l := hCu0l.b1
    have eu0l := hCu0l.b2
    refine ⟨⟨hB, by omega, by omega⟩, fun zl hzl zl' hzl' => ?_⟩
    have vl := vb_one hB hCu0l
    rw [wrapI64] at hzl'
    obtain rfl : zl' = zl := by omega
    refine ⟨⟨by omega, by omega, by omega, by omega⟩, fun n1u0 ou0 nu0 cu0 hCu0 gu0 g'u0 => ?_⟩
    have du0 := hCu0.b1
    have eu0 := hCu0.b2
    refine ⟨⟨by show _ + _ ≤ List.length L; omega, byLo hB _ _⟩, fun u hu => ?_⟩
    refine ⟨⟨by decide, by omega, by omega, by omega⟩, fun n1w1 ow1 nw1 cw1 hCw1 gw1 g'w1 => ?_⟩
    have dw1 := hCw1.b1
    have ew1 := hCw1.b2
    refine ⟨⟨hB, by omega, by omega⟩, fun zw1 hzw1 => ?_⟩
    have vw1 := vb_bd (List.take n1w1 (List.drop ou0 L))
    intro yw1 hyw1
    rw [wrapI64] at hyw1
    have hKn : U.TKin 0 0 0 0 0 0 yw1 := ⟨by omega, by omega, by omega, by omega, by omega, by omega, by omega⟩
    obtain ⟨nf1, nf2, yt⟩ := tail 11 0 0 0 0 0 0 yw1 u (strC u) (.inl rfl) hKn (by
      intro kind' xid' mac' ip' ticks' nonce' tag' why' l' hM' hK' hW'
      have e := kd hM' hW'
      subst e
      obtain ⟨f1, f2, f3, ⟨f4, f5⟩, f6, f7, ⟨f8, f9⟩, f10⟩ := tmay11.1 hM'
      obtain ⟨k1, k2, k3, k4, k5, k6, k7⟩ := hK'
      have hL := (tby11 f10).1 hW'
      rw [hL] at hq0
      have hq := hq0
      simp only [List.drop_succ_cons, List.drop_zero] at hq
      have hl := f10.len
      rw [List.cons_append] at hq
      obtain ⟨ql, hq⟩ := cut_one hq hCu0l (by omega)
      obtain ⟨qu, hq⟩ := cut_str hq hCu0 (by omega)
      rw [← List.append_nil (U.nb 1 why')] at hq
      obtain ⟨qw1, hq⟩ := cut_nb hq hCw1 (by decide) ⟨by omega, by rw [show (256 : Int) ^ (1 : Int).toNat = 256 by decide]; omega⟩
      exact ⟨rfl, by omega, by omega, by omega, by omega, by omega, by omega, by omega, hu.trans qu⟩)
    repeat' (first | exact rfl | exact trivial | assumption | exact ⟨hKn, by assumption⟩ | intro h | with_reducible apply And.intro | fail)
    all_goals first
      | exact nf1 (by assumption)
      | exact byL7 hB _
      | exact byL7 (tw_by7 (by assumption)) _
      | (show 0 + _ ≤ List.length _; omega)
      | (rename_i h; exact nf2 _ _ _ _ (by assumption) (by assumption) (by assumption) (by assumption) h)
      | (rename_i h; exact yt _ _ _ _ (by assumption) (by assumption) (by assumption) (by assumption) (by assumption) h)
  · intro hz3
    subst hz3
    refine ⟨⟨by decide, by omega⟩, fun o n c' ho hn hc => ?_⟩
    obtain ⟨hq0, b1, b2, b3⟩ := cut3 hmc (by omega) hm ho hn hc
    refine ⟨⟨by decide, by omega, by omega, by omega⟩, fun n1u0l ou0l nu0l cu0l hCu0l gu0l g'u0l => ?_⟩
    have du0l := hCu0l.b1
    have eu0l := hCu0l.b2
    refine ⟨⟨hB, by omega, by omega⟩, fun zl hzl zl' hzl' => ?_⟩
    have vl := vb_one hB hCu0l
    rw [wrapI64] at hzl'
    obtain rfl : zl' = zl := by omega
    refine ⟨⟨by omega, by omega, by omega, by omega⟩, fun n1u0 ou0 nu0 cu0 hCu0 gu0 g'u0 => ?_⟩
    have du0 := hCu0.b1
    have eu0 := hCu0.b2
    refine ⟨⟨by show _ + _ ≤ List.length L; omega, byLo hB _ _⟩, fun u hu => ?_⟩
    refine ⟨⟨by decide, by omega, by omega, by omega⟩, fun n1n1 on1 nn1 cn1 hCn1 gn1 g'n1 => ?_⟩
    have dn1 := hCn1.b1
    have en1 := hCn1.b2
    refine ⟨⟨hB, by omega, by omega⟩, fun zn1 hzn1 => ?_⟩
    have vn1 := vb_bd (List.take n1n1 (List.drop ou0 L))
    refine ⟨⟨by decide, by omega, by omega, by omega⟩, fun n1g2 og2 ng2 cg2 hCg2 gg2 g'g2 => ?_⟩
    have dg2 := hCg2.b1
    have eg2 := hCg2.b2
    refine ⟨⟨hB, by omega, by omega⟩, fun zg2 hzg2 => ?_⟩
    have vg2 := vb_bd (List.take n1g2 (List.drop on1 L))
    have hKn : U.TKin 0 0 0 0 zn1 zg2 0 := ⟨by omega, by omega, by omega, by omega, by omega, by omega, by omega⟩
    obtain ⟨nf1, nf2, yt⟩ := tail 12 0 0 0 0 zn1 zg2 0 u (strC u) (.inl rfl) hKn (by
      intro kind' xid' mac' ip' ticks' nonce' tag' why' l' hM' hK' hW'
      have e := kd hM' hW'
      subst e
      obtain ⟨f1, f2, f3, ⟨f4, f5⟩, f6, f7, ⟨f8, f9⟩, f10⟩ := tmay12.1 hM'
      obtain ⟨k1, k2, k3, k4, k5, k6, k7⟩ := hK'
      have hL := (tby12 f10).1 hW'
      rw [hL] at hq0
      have hq := hq0
      simp only [List.drop_succ_cons, List.drop_zero] at hq
      have hl := f10.len
      rw [List.cons_append] at hq
      obtain ⟨ql, hq⟩ := cut_one hq hCu0l (by omega)
      obtain ⟨qu, hq⟩ := cut_str hq hCu0 (by omega)
      obtain ⟨qn1, hq⟩ := cut_nb hq hCn1 (by decide) ⟨by omega, by rw [show (256 : Int) ^ (8 : Int).toNat = 18446744073709551616 by decide]; omega⟩
      rw [← List.append_nil (U.nb 8 tag')] at hq
      obtain ⟨qg2, hq⟩ := cut_nb hq hCg2 (by decide) ⟨by omega, by rw [show (256 : Int) ^ (8 : Int).toNat = 18446744073709551616 by decide]; omega⟩
      exact ⟨rfl, by omega, by omega, by omega, by omega, by omega, by omega, by omega, hu.trans qu⟩)
    repeat' (first | exact rfl | exact trivial | assumption | exact ⟨hKn, by assumption⟩ | intro h | with_reducible apply And.intro | fail)
    all_goals first
      | exact nf1 (by assumption)
      | exact byL7 hB _
      | exact byL7 (tw_by7 (by assumption)) _
      | (show 0 + _ ≤ List.length _; omega)
      | (rename_i h; exact nf2 _ _ _ _ (by assumption) (by assumption) (by assumption) (by assumption) h)
      | (rename_i h; exact yt _ _ _ _ (by assumption) (by assumption) (by assumption) (by assumption) (by assumption) h)
def tRPar : Tbl := fun f args σ => if f == 19 then match args, σ with
    | [s], ⟨[], [], 0, [some ⟨5, .n .u8, L, cap, true⟩], 0⟩ => match aslX s with
      | some ⟨0, 0, m, c⟩ => some fun K => (U.By L ∧ m ≤ c ∧ m ≤ L.length ∧ m ≤ 16777216) ∧ ∀ L0 : List Int, L0 = L.take m →
          (∀ (kind xid mac ip ticks nonce tag why : Int) (u : List Int), U.TMay kind xid mac ip ticks nonce tag why u → U.TKin xid mac ip ticks nonce tag why → U.TWr kind xid mac ip ticks nonce tag why u L0 → K (rpaT (msgL kind xid mac ip ticks (strC u) nonce tag why) true) (ar [bs L cap true])) ∧
          (¬ U.TIs L0 → K (rpaT msg0 false) (ar [bs L cap true]))
      | _ => none
    | _, _ => none
  else none
def rparK (L : List Int) (m cap : Nat) : AV → St → Prop := fun x σ' => (∃ (kind xid mac ip ticks nonce tag why : Int) (u : List Int) (uc : Cell), (uc = strC u ∨ (uc = .inl (.string ⟨#[]⟩) ∧ u = [])) ∧ U.TMay kind xid mac ip ticks nonce tag why u ∧ U.TKin xid mac ip ticks nonce tag why ∧ U.TWr kind xid mac ip ticks nonce tag why u (L.take m) ∧ x = rpaT (msgL kind xid mac ip ticks uc nonce tag why) true ∧ σ' = ar [bs L cap true]) ∨ (¬ U.TIs (L.take m) ∧ x = rpaT msg0 false ∧ σ' = ar [bs L cap true])
theorem rpa_str {kind xid mac ip ticks nonce tag why : Int} {e : Env} {v : Value} (h : av e (rpaT (msgL kind xid mac ip ticks (.inl (.string ⟨#[]⟩)) nonce tag why) true) = some v) : av e (rpaT (msgL kind xid mac ip ticks (strC []) nonce tag why) true) = some v := by
  have e1 : Reck.cv e (strC []) = Reck.cv e (.inl (.string ⟨#[]⟩)) := by simp [strC, Reck.cv, strZ]
  simp only [rpaT, msgL, av, v1, List.map_cons, List.map_nil] at h ⊢
  rw [e1]; exact h
theorem tRPar_ok : TblOk Try.prog tRPar := by
  intro f tm σ C h K hK
  unfold tRPar at h
  split at h
  · rename_i hf
    obtain rfl : f = 19 := by simpa using hf
    split at h
    · rename_i s L cap
      split at h
      · rename_i m c hs
        obtain rfl := aslX_eq hs
        simp only [Option.some.injEq] at h; subst h
        obtain ⟨⟨g1, g2, g3, g4⟩, hk⟩ := hK
        have hk := hk _ rfl
        intro w0 en w hok vs hvs
        have h := knownC noOv names (conOk_of tTP_ok) (rparT_run (rparK L m cap) L m c cap g1 g2 g3 g4 (fun kind xid mac ip ticks nonce tag why u uc q1 q2 q3 q4 => Or.inl ⟨kind, xid, mac, ip, ticks, nonce, tag, why, u, uc, q1, q2, q3, q4, rfl, rfl⟩) (fun hn => Or.inr ⟨hn, rfl, rfl⟩)) w0 en w hok vs hvs
        refine calls_eqv (calls_open (K := rparK L m cap) h) ?_
        rintro x σ' (⟨kind, xid, mac, ip, ticks, nonce, tag, why, u, uc, huc, q2, q3, q4, rfl, rfl⟩ | ⟨hn, rfl, rfl⟩)
        · refine ⟨_, ?_, hk.1 kind xid mac ip ticks nonce tag why u q2 q3 q4⟩
          rcases huc with rfl | ⟨rfl, rfl⟩
          · exact fun _ _ h => h
          · exact fun _ _ h => rpa_str h
        · exact ⟨_, fun _ _ h => h, hk.2 hn⟩
      · cases h
    · cases h
  · cases h
end Go.Proofs.Ytpcnbhgifhiejaa
end
