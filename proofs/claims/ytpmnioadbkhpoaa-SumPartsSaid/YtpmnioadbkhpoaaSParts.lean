/- SumParts: for any key and any three parts the statement returns true. No condition. -/
import Derived.Test.YtpmnioadbkhpoaaH4
set_option linter.unusedVariables false
set_option linter.unusedSimpArgs false
set_option maxRecDepth 10000
namespace Go.Proofs.Ytpmnioadbkhpoaa
open Go Reck Ost
theorem three_eq {σ : St} {p q r : P3} (h : three σ = some (p, q, r)) : σ = st3 p q r := by
  unfold three at h
  split at h
  · split at h
    · rename_i h1 h2 h3
      have h1 := aslX_eq h1
      have h2 := aslX_eq h2
      have h3 := aslX_eq h3
      simp only [cell, Sum.inl.injEq] at h1 h2 h3
      subst h1; subst h2; subst h3
      simp only [Option.some.injEq, Prod.mk.injEq] at h
      obtain ⟨rfl, rfl, rfl⟩ := h
      rfl
    · cases h
  · cases h
theorem one_eq {σ : St} {p : P3} (h : one σ = some p) : σ = st1 p := by
  unfold one at h
  split at h
  · split at h
    · rename_i h1
      have h1 := aslX_eq h1
      simp only [cell, Sum.inl.injEq] at h1
      subst h1
      simp only [Option.some.injEq] at h
      subst h
      rfl
    · cases h
  · cases h
theorem isSl_eq {k : Nat} {a : AV} (h : isSl k a = true) : a = sl ⟨0, 0, k, none, k⟩ := by
  unfold isSl at h
  split at h
  · simp only [Bool.and_eq_true, Nat.beq_eq] at h
    obtain ⟨rfl, rfl⟩ := h
    rfl
  · cases h
theorem pok {p : P3} (h : U.POk p.L p.o p.n) : p.Ok := ⟨h.out.1, h.out.2.1, h.out.2.2⟩
theorem key_args {e : Env} {x y s : AV} {a b : Int} {vs : List Value} (hx : intX x = some (.u64, a)) (hy : intX y = some (.u64, b)) (hvs : [x, y, s].map (Reck.av e) = vs.map some) : [xi .u64 a, xi .u64 b, s].map (Reck.av e) = vs.map some := by
  obtain ⟨u, v, s', rfl⟩ : ∃ u v s', vs = [u, v, s'] := by
    match vs, map_len hvs with
    | [u, v, s'], _ => exact ⟨u, v, s', rfl⟩
  simp only [List.map_cons, List.map_nil, List.cons.injEq, and_true] at hvs ⊢
  refine ⟨?_, ?_, hvs.2.2⟩
  · rw [intX_ok hx hvs.1]; rfl
  · rw [intX_ok hy hvs.2.1]; rfl
theorem tPart3_ok : TblOk Try.prog tPart3 := by
  intro f tm σ C h K hK
  unfold tPart3 at h
  split at h
  · split at h
    · rename_i hs
      obtain rfl := isSl_eq hs
      split at h
      · rename_i p q r ht
        obtain rfl := three_eq ht
        split at h
        · rename_i hf
          obtain rfl : f = 10 := by simpa using hf
          simp only [Option.some.injEq] at h; subst h
          obtain ⟨⟨k1, k2, k3⟩, k4⟩ := hK
          exact knownC noOv names (conOk_of tbl0_ok) (netP_run K p q r (pok k1) (pok k2) (pok k3) (k4 _ rfl))
        · split at h
          · rename_i hf
            obtain rfl : f = 13 := by simpa using hf
            simp only [Option.some.injEq] at h; subst h
            obtain ⟨⟨k1, k2, k3⟩, k4⟩ := hK
            exact knownC noOv names (conOk_of tByte_ok) (crcP_run K p q r (pok k1) (pok k2) (pok k3) (k4 _ rfl))
          · cases h
      · cases h
    · cases h
  · split at h
    · rename_i hs
      simp only [Bool.and_eq_true, beq_iff_eq] at hs
      obtain ⟨hs, rfl⟩ := hs
      obtain rfl := isSl_eq hs
      split at h
      · rename_i p q r a b ht hx hy
        obtain rfl := three_eq ht
        simp only [Option.some.injEq] at h; subst h
        obtain ⟨⟨k1, k2, k3⟩, k4⟩ := hK
        intro w0 e W hW vs hvs
        exact knownC noOv names (conOk_of (tblOr_ok tAdd_ok tRnd_ok)) (tagP_run K a b p q r (pok k1) (pok k2) (pok k3) (k4 _ rfl)) w0 e W hW vs (key_args hx hy hvs)
      · cases h
    · cases h
  · cases h
theorem tPart1_ok : TblOk Try.prog tPart1 := by
  intro f tm σ C h K hK
  unfold tPart1 at h
  split at h
  · split at h
    · rename_i hs
      obtain rfl := isSl_eq hs
      split at h
      · rename_i p ht
        obtain rfl := one_eq ht
        split at h
        · rename_i hf
          obtain rfl : f = 10 := by simpa using hf
          simp only [Option.some.injEq] at h; subst h
          obtain ⟨⟨k1, k2, k3⟩, k4⟩ := hK
          exact knownC noOv names (conOk_of tbl0_ok) (net1_runW K p.L p.o p.n p.c p.cap p.ro k1.out k2 k3 (k4 _ rfl))
        · split at h
          · rename_i hf
            obtain rfl : f = 13 := by simpa using hf
            simp only [Option.some.injEq] at h; subst h
            obtain ⟨⟨k1, k2, k3⟩, k4⟩ := hK
            exact knownC noOv names (conOk_of tByte_ok) (crc1_runW K p.L p.o p.n p.c p.cap p.ro k1.out k2 k3 (k4 _ rfl))
          · cases h
      · cases h
    · cases h
  · split at h
    · rename_i hs
      simp only [Bool.and_eq_true, beq_iff_eq] at hs
      obtain ⟨hs, rfl⟩ := hs
      obtain rfl := isSl_eq hs
      split at h
      · rename_i p a b ht hx hy
        obtain rfl := one_eq ht
        simp only [Option.some.injEq] at h; subst h
        obtain ⟨⟨k1, k2, k3⟩, k4⟩ := hK
        intro w0 e W hW vs hvs
        exact knownC noOv names (conOk_of (tblOr_ok tAdd_ok tRnd_ok)) (tag_runW K a b p.L p.o p.n p.c p.cap p.ro k1.out k2 k3 (k4 _ rfl)) w0 e W hW vs (key_args hx hy hvs)
      · cases h
    · cases h
  · cases h
theorem tbl6_ok : TblOk Try.prog tbl6 := tblOr_ok tAwake_ok (tblOr_ok tShort_ok (tblOr_ok tPart3_ok tPart1_ok))
theorem ok_three {zs zs2 zs3 : List Int} {w : World} {q q2 q3 : Option Addr ⊕ (Nat × Nat)} (h : ∀ e : Env, e.S = (fun _ => False) → AOk w w e ⟨5, .u8, zs, 0, true⟩ q) (h2 : ∀ e : Env, e.S = (fun _ => False) → AOk w w e ⟨5, .u8, zs2, 0, true⟩ q2) (h3 : ∀ e : Env, e.S = (fun _ => False) → AOk w w e ⟨5, .u8, zs3, 0, true⟩ q3) :
    Ok w (arE [q, q2, q3]) (ar [bs zs 0 true, bs zs2 0 true, bs zs3 0 true]) w :=
  ok_arrs w (l := [bs zs 0 true, bs zs2 0 true, bs zs3 0 true]) rfl (by simp [bs]) (by
    intro i x p hx hp
    rcases i with _ | _ | _ | i <;> simp at hx hp
    · subst hx; subst hp; exact h _ rfl
    · subst hx; subst hp; exact h2 _ rfl
    · subst hx; subst hp; exact h3 _ rfl)
theorem all_of {L L2 L3 l3 l6 l9 : List Int} {a b c n4 n7 n10 : Nat} (h : a ≤ L.length) (h2 : b ≤ L2.length) (h3 : c ≤ L3.length) (e3 : l3 = [] ++ (L.drop 0).take a) (e4 : n4 = 0 + a) (e6 : l6 = (l3.drop 0).take n4 ++ (L2.drop 0).take b) (e7 : n7 = n4 + b) (e9 : l9 = (l6.drop 0).take n7 ++ (L3.drop 0).take c) (e10 : n10 = n7 + c) :
    l3.length = n4 ∧ l6.length = n7 ∧ l9.length = n10 ∧ l9 = sb L 0 a ++ sb L2 0 b ++ sb L3 0 c ∧ (l9.drop 0).take n10 = l9 := by
  have q3 : l3.length = n4 := by rw [e3, e4]; simp; omega
  have r3 : (l3.drop 0).take n4 = l3 := by rw [List.drop_zero, List.take_of_length_le (by omega)]
  have q6 : l6.length = n7 := by rw [e6, r3, e7, List.length_append, q3]; simp; omega
  have r6 : (l6.drop 0).take n7 = l6 := by rw [List.drop_zero, List.take_of_length_le (by omega)]
  have q9 : l9.length = n10 := by rw [e9, r6, e10, List.length_append, q6]; simp; omega
  refine ⟨q3, q6, q9, ?_, by rw [List.drop_zero, List.take_of_length_le (by omega)]⟩
  rw [e9, r6, e6, r3, e3]; rfl
theorem sumParts_walk (x y : Int) (A : Option Addr) (len cap : Nat) (zs : List Int) (A2 : Option Addr) (len2 cap2 : Nat) (zs2 : List Int) (A3 : Option Addr) (len3 cap3 : Nat) (zs3 : List Int) (w : World) (hx : (Lit.int .u64 x).wf = true) (hy : (Lit.int .u64 y).wf = true) (h : Came2 .u8 w A len cap zs) (h' : Came2 .u8 w A2 len2 cap2 zs2) (h'' : Came2 .u8 w A3 len3 cap3 zs3) :
    Calls Try.prog 6 #[.int .u64 x, .int .u64 y, .slice A len cap, .slice A2 len2 cap2, .slice A3 len3 cap3] w fun e w' => e = .returned (.bool true) ∧ Only (fun _ => False) w w' := by
  obtain ⟨q, h1, h2⟩ := h.base 5
  obtain ⟨q', h1', h2'⟩ := h'.base 5
  obtain ⟨q'', h1'', h2''⟩ := h''.base 5
  have hB := bytes_wf h.2.2.2.1
  have hB2 := bytes_wf h'.2.2.2.1
  have hB3 := bytes_wf h''.2.2.2.1
  have hrun : run6 6 [xi .u64 x, xi .u64 y, cell (aslC ⟨0, 0, len, cap⟩), cell (aslC ⟨1, 0, len2, cap2⟩), cell (aslC ⟨2, 0, len3, cap3⟩)] (ar [bs zs 0 true, bs zs2 0 true, bs zs3 0 true]) := by
    rw [sumParts_vc]
    refine ⟨h.2.1, fun a ha => ⟨h'.2.1, fun b hb => ⟨h''.2.1, fun c hc => ?_⟩⟩⟩
    have ka : a ≤ zs.length ∧ a ≤ 300 := by rw [ha, h.1]; unfold U.m3; omega
    have kb : b ≤ zs2.length ∧ b ≤ 300 := by rw [hb, h'.1]; unfold U.m3; omega
    have kc : c ≤ zs3.length ∧ c ≤ 300 := by rw [hc, h''.1]; unfold U.m3; omega
    have za : 0 + a ≤ zs.length := by omega
    have zb : 0 + b ≤ zs2.length := by omega
    have zc : 0 + c ≤ zs3.length := by omega
    refine ⟨trivial, za, by decide, by omega, fun l3 n4 c5 e3 e4 i5 => ?_⟩
    have e4' : n4 = 0 + a := e4
    have t3 : l3.length = n4 := by rw [e3, e4']; simp; omega
    refine ⟨⟨by show 0 + n4 ≤ _; omega, by show 0 + c5 ≤ _; omega⟩, zb, by omega, by omega, fun l6 n7 c8 e6 e7 i8 => ?_⟩
    have t6 : l6.length = n7 := by rw [e6, e7, List.length_append, List.length_take, List.length_take, List.length_drop, List.length_drop]; show min n4 (l3.length - 0) + min b (zs2.length - 0) = _; omega
    refine ⟨⟨by show 0 + n7 ≤ _; omega, by show 0 + c8 ≤ _; omega⟩, zc, by omega, by omega, fun l9 n10 c11 e9 e10 i11 => ?_⟩
    obtain ⟨_, _, q9, w9, s9⟩ := all_of ka.1 kb.1 kc.1 e3 e4' e6 e7 e9 e10
    have P : U.POk zs 0 a ∧ U.POk zs2 0 b ∧ U.POk zs3 0 c := ⟨⟨hB, za, ka.2⟩, ⟨hB2, zb, kb.2⟩, ⟨hB3, zc, kc.2⟩⟩
    have hb9 : byteL l9 := by
      rw [w9]
      intro v hv
      simp only [List.mem_append] at hv
      rcases hv with (hv | hv) | hv
      · exact byteL_sub hB 0 a v hv
      · exact byteL_sub hB2 0 b v hv
      · exact byteL_sub hB3 0 c v hv
    have Q : U.B l9 ∧ 0 + n10 ≤ l9.length ∧ n10 ≤ 900 := ⟨⟨hb9⟩, by omega, by omega⟩
    refine ⟨P, fun z12 h12 => ⟨Q, fun z13 h13 => ⟨fun _ => ⟨P, fun z14 h14 => ⟨Q, fun z15 h15 => ⟨fun _ => ⟨P, fun z16 h16 => ⟨Q, fun z17 h17 => ⟨fun _ => trivial, fun hne => absurd ?_ hne⟩⟩⟩, fun hne => absurd ?_ hne⟩⟩⟩, fun hne => absurd ?_ hne⟩⟩⟩
    · have h17 : z17 = TL x y ((l9.drop 0).take n10) := h17
      rw [h16, h17, s9, w9]; rfl
    · have h15 : z15 = 4294967295 - (crcF 4294967295 ((l9.drop 0).take n10) : Nat) := h15
      rw [h14, h15, s9, w9]; rfl
    · have h13 : z13 = netS (fold (true, 0) ((l9.drop 0).take n10)).2 := h13
      rw [h12, h13, s9, w9]; rfl
  exact call_true noOv names (conOk_of tbl6_ok) hrun (ok_three h2 h2' h2'') (vs := [.int .u64 x, .int .u64 y, .slice A len cap, .slice A2 len2 cap2, .slice A3 len3 cap3]) (by simp [h1 (arE [q, q', q'']) 0 rfl, h1' (arE [q, q', q'']) 1 rfl, h1'' (arE [q, q', q'']) 2 rfl, xi, xint_av])
end Go.Proofs.Ytpmnioadbkhpoaa
