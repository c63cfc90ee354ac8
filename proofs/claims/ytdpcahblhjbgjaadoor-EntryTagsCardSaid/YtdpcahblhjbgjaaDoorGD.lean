/- Parts of a proof, one behind the other: YD YE YF YG. No condition. -/
import Derived.Test.YtdpcahblhjbgjaaDoorGC
section
set_option linter.unusedVariables false
set_option linter.unusedSimpArgs false
namespace Go.Proofs.YtdpcahblhjbgjaaDoor
open Go Reck
/-- Numbers of a key's kinds. -/
structure U.KK (src dst sip dip proto sport dport : Int) : Prop where
  a : 0 ≤ src ∧ src ≤ 18446744073709551615
  b : 0 ≤ dst ∧ dst ≤ 18446744073709551615
  c : 0 ≤ sip ∧ sip ≤ 4294967295
  d : 0 ≤ dip ∧ dip ≤ 4294967295
  e : -9223372036854775808 ≤ proto ∧ proto ≤ 9223372036854775807
  f : -9223372036854775808 ≤ sport ∧ sport ≤ 9223372036854775807
  g : -9223372036854775808 ≤ dport ∧ dport ≤ 9223372036854775807
def U.kb (src dst sip dip proto sport dport : Int) : List Int := U.nb 6 src ++ U.nb 6 dst ++ U.nb 4 sip ++ U.nb 4 dip ++ U.nb 1 proto ++ U.nb 2 sport ++ U.nb 2 dport
theorem kb_length (src dst sip dip proto sport dport : Int) : (U.kb src dst sip dip proto sport dport).length = 25 := by
  simp only [U.kb, List.length_append, nb_length]; rfl
theorem by_app {L M : List Int} (h : U.By L) (k : U.By M) : U.By (L ++ M) := by
  obtain ⟨a, rfl, ha⟩ := h
  obtain ⟨b, rfl, hb⟩ := k
  exact ⟨a ++ b, by simp [nz], fun x hx => by rcases List.mem_append.1 hx with h | h <;> simp_all⟩
theorem kb_by (src dst sip dip proto sport dport : Int) : U.By (U.kb src dst sip dip proto sport dport) := by
  unfold U.kb
  exact by_app (by_app (by_app (by_app (by_app (by_app (nb_by _ _) (nb_by _ _)) (nb_by _ _)) (nb_by _ _)) (nb_by _ _)) (nb_by _ _)) (nb_by _ _)
theorem num_nb (k : Nat) (v : Int) : num (8 * k) v.toNat = nums 8 (be k v.toNat) := num_be k v.toNat
theorem kb_out {L : List Int} {N : Int} {src dst sip dip proto sport dport : Int} (h : U.Out L N (U.apps (U.apps (U.apps (U.apps [] 48 [src, dst]) 32 [sip, dip]) 8 [proto]) 16 [sport, dport])) : L = U.kb src dst sip dip proto sport dport := by
  have e : (U.apps (U.apps (U.apps (U.apps [] 48 [src, dst]) 32 [sip, dip]) 8 [proto]) 16 [sport, dport]) = nums 8 (be 6 src.toNat ++ be 6 dst.toNat ++ be 4 sip.toNat ++ be 4 dip.toNat ++ be 1 proto.toNat ++ be 2 sport.toNat ++ be 2 dport.toNat) := by
    simp only [U.apps, U.app, List.foldl_cons, List.foldl_nil, List.nil_append, nums_app]
    rw [show (48 : Int).toNat = 8 * 6 from rfl, show (32 : Int).toNat = 8 * 4 from rfl, show (8 : Int).toNat = 8 * 1 from rfl, show (16 : Int).toNat = 8 * 2 from rfl]
    simp only [num_nb]
  rw [e] at h
  have h2 := out_bytes h (by
    intro c hc
    simp only [List.mem_append] at hc
    rcases hc with (((((hc | hc) | hc) | hc) | hc) | hc) | hc <;> exact be_lt _ _ _ hc)
  rw [h2]
  simp only [U.kb, U.nb, nz, List.map_append]
  rfl
theorem kbytes_run (K : AV → St → Prop) (src dst sip dip proto sport dport : Int) (kin : U.KK src dst sip dip proto sport dport)
    (hT : U.KG src dst sip dip proto sport dport → ∀ (L : List Int) (m c cap : Nat), L = U.kb src dst sip dip proto sport dport → m = 25 → m ≤ c → c ≤ cap → K (cell (aslC ⟨0, 0, m, c⟩)) (ar [bs L cap false]))
    (hF : ¬ U.KG src dst sip dip proto sport dport → K (cell nilC) emptySt) :
    runI inv0 tYB 52 [kyA src dst sip dip proto sport dport] emptySt K := by
  rw [kbytes_vc]
  obtain ⟨ka, kb, kc, kd, ke, kf, kg⟩ := kin
  refine ⟨fun hg L0 h0 e0 => ?_, hF⟩
  obtain ⟨g1, g2, g3, g4⟩ := hg
  refine ⟨[], ⟨⟨h0, by simp [e0], Nat.le_refl _, Nat.le_refl _, by omega, by simp, ?_⟩⟩, fun L1 m1 c1 p1 N1 a1 a2 a3 a4 a5 z7 h7 z8 h8 => ?_⟩
  · intro v hv; simp at hv; rcases hv with rfl | rfl <;> omega
  simp only [List.length_cons, List.length_nil] at a2
  rw [wrapU64] at h7 h8
  obtain rfl : z7 = sip := by omega
  obtain rfl : z8 = dip := by omega
  refine ⟨_, ⟨⟨a1, a3, a4, a5, by omega, by simp; omega, ?_⟩⟩, fun L2 m2 c2 p2 N2 b1 b2 b3 b4 b5 z15 h15 => ?_⟩
  · intro v hv; simp at hv; rcases hv with rfl | rfl <;> omega
  simp only [List.length_cons, List.length_nil] at b2
  rw [wrapU64] at h15
  obtain rfl : z15 = proto := by omega
  refine ⟨_, ⟨⟨b1, b3, b4, b5, by omega, by simp; omega, ?_⟩⟩, fun L3 m3 c3 p3 N3 c1' c2' c3' c4' c5' z22 h22 z23 h23 => ?_⟩
  · intro v hv; simp at hv; subst hv; omega
  simp only [List.length_cons, List.length_nil] at c2'
  rw [wrapU64] at h22 h23
  obtain rfl : z22 = sport := by omega
  obtain rfl : z23 = dport := by omega
  refine ⟨_, ⟨⟨c1', c3', c4', c5', by omega, by simp; omega, ?_⟩⟩, fun L4 m4 c4 p4 N4 d1 d2 d3 d4 d5 => ?_⟩
  · intro v hv; simp at hv; rcases hv with rfl | rfl <;> omega
  have hL := kb_out d1
  have hl : L4.length = 25 := by rw [hL, kb_length]
  refine ⟨⟨d3, by omega⟩, fun L5 c5 p5 e1 e2 e3 => hT ⟨g1, g2, g3, g4⟩ L5 m4 c5 p5 (e1.trans hL) (by omega) e2 e3⟩
theorem take_all {l : List Int} {n : Nat} (h : l.length = n) : List.take n (List.drop (OfNat.ofNat 0) l) = l := by
  show List.take n (List.drop 0 l) = l
  rw [List.drop_zero, List.take_of_length_le (by omega)]
theorem rbytes_run (K : AV → St → Prop) (src dst sip dip proto sport dport : Int) (kin : U.KK src dst sip dip proto sport dport) (hg : U.KG src dst sip dip proto sport dport)
    (hT : ∀ (L : List Int) (m c cap : Nat), L = U.kb src dst sip dip proto sport dport → m = 25 → m ≤ c → c ≤ cap → K (cell (aslC ⟨0, 0, m, c⟩)) (ar [bs L cap false])) :
    runI inv0 tYB 56 [kyA src dst sip dip proto sport dport] emptySt K := by
  rw [rbytes_vc]
  obtain ⟨ka, kb, kc, kd, ke, kf, kg⟩ := kin
  obtain ⟨g1, g2, g3, g4⟩ := hg
  intro z00 h00 z01 h01 z02 h02 z03 h03 z04 h04
  have e0 : z00 = src := w64 h00 (by omega)
  rw [wrapU64] at h04
  obtain rfl : z04 = src := by omega
  refine ⟨⟨by omega, by omega⟩, fun m0 M0 hm0 hM0 => ?_⟩
  obtain rfl : m0 = 6 := by omega
  have hMl0 : M0.length = 6 := by rw [hM0, nb_length]; rfl
  refine ⟨trivial, by rw [hMl0]; exact Nat.le_refl _, by decide, by decide, fun l0 n0 c0 hl0 hn0 hc0 => ?_⟩
  have hn0' : n0 = 6 := hn0
  rw [take_all hMl0, List.nil_append] at hl0
  have hll0 : l0.length = n0 := by rw [hl0, hMl0, hn0']
  intro z10 h10 z11 h11 z12 h12 z13 h13 z14 h14
  have e1 : z11 = dst := w64 h11 (by omega)
  rw [wrapU64] at h14
  obtain rfl : z14 = dst := by omega
  refine ⟨⟨by omega, by omega⟩, fun m1 M1 hm1 hM1 => ?_⟩
  obtain rfl : m1 = 6 := by omega
  have hMl1 : M1.length = 6 := by rw [hM1, nb_length]; rfl
  refine ⟨⟨by rw [hll0]; show 0 + n0 ≤ n0; omega, by show 0 + c0 ≤ c0; omega⟩, by rw [hMl1]; exact Nat.le_refl _, by omega, by decide, fun l1 n1 c1 hl1 hn1 hc1 => ?_⟩
  have hn1' : n1 = 12 := by omega
  rw [take_all hMl1, take_all hll0] at hl1
  have hll1 : l1.length = n1 := by rw [hl1, List.length_append, hll0, hMl1]; omega
  intro z20 h20 z21 h21 z22 h22 z23 h23 z24 h24
  have e2 : z22 = sip := w64 h22 (by omega)
  rw [wrapU64] at h24
  obtain rfl : z24 = sip := by omega
  refine ⟨⟨by omega, by omega⟩, fun m2 M2 hm2 hM2 => ?_⟩
  obtain rfl : m2 = 4 := by omega
  have hMl2 : M2.length = 4 := by rw [hM2, nb_length]; rfl
  refine ⟨⟨by rw [hll1]; show 0 + n1 ≤ n1; omega, by show 0 + c1 ≤ c1; omega⟩, by rw [hMl2]; exact Nat.le_refl _, by omega, by decide, fun l2 n2 c2 hl2 hn2 hc2 => ?_⟩
  have hn2' : n2 = 16 := by omega
  rw [take_all hMl2, take_all hll1] at hl2
  have hll2 : l2.length = n2 := by rw [hl2, List.length_append, hll1, hMl2]; omega
  intro z30 h30 z31 h31 z32 h32 z33 h33 z34 h34
  have e3 : z33 = dip := w64 h33 (by omega)
  rw [wrapU64] at h34
  obtain rfl : z34 = dip := by omega
  refine ⟨⟨by omega, by omega⟩, fun m3 M3 hm3 hM3 => ?_⟩
  obtain rfl : m3 = 4 := by omega
  have hMl3 : M3.length = 4 := by rw [hM3, nb_length]; rfl
  refine ⟨⟨by rw [hll2]; show 0 + n2 ≤ n2; omega, by show 0 + c2 ≤ c2; omega⟩, by rw [hMl3]; exact Nat.le_refl _, by omega, by decide, fun l3 n3 c3 hl3 hn3 hc3 => ?_⟩
  have hn3' : n3 = 20 := by omega
  rw [take_all hMl3, take_all hll2] at hl3
  have hll3 : l3.length = n3 := by rw [hl3, List.length_append, hll2, hMl3]; omega
  intro z40 h40 z41 h41 z42 h42 z43 h43 z44 h44
  rw [wrapU64] at h44
  obtain rfl : z44 = proto := by omega
  refine ⟨⟨by omega, by omega⟩, fun m4 M4 hm4 hM4 => ?_⟩
  obtain rfl : m4 = 1 := by omega
  have hMl4 : M4.length = 1 := by rw [hM4, nb_length]; rfl
  refine ⟨⟨by rw [hll3]; show 0 + n3 ≤ n3; omega, by show 0 + c3 ≤ c3; omega⟩, by rw [hMl4]; exact Nat.le_refl _, by omega, by decide, fun l4 n4 c4 hl4 hn4 hc4 => ?_⟩
  have hn4' : n4 = 21 := by omega
  rw [take_all hMl4, take_all hll3] at hl4
  have hll4 : l4.length = n4 := by rw [hl4, List.length_append, hll3, hMl4]; omega
  intro z50 h50 z51 h51 z52 h52 z53 h53 z54 h54
  rw [wrapU64] at h54
  obtain rfl : z54 = sport := by omega
  refine ⟨⟨by omega, by omega⟩, fun m5 M5 hm5 hM5 => ?_⟩
  obtain rfl : m5 = 2 := by omega
  have hMl5 : M5.length = 2 := by rw [hM5, nb_length]; rfl
  refine ⟨⟨by rw [hll4]; show 0 + n4 ≤ n4; omega, by show 0 + c4 ≤ c4; omega⟩, by rw [hMl5]; exact Nat.le_refl _, by omega, by decide, fun l5 n5 c5 hl5 hn5 hc5 => ?_⟩
  have hn5' : n5 = 23 := by omega
  rw [take_all hMl5, take_all hll4] at hl5
  have hll5 : l5.length = n5 := by rw [hl5, List.length_append, hll4, hMl5]; omega
  intro z60 h60 z61 h61 z62 h62 z63 h63 z64 h64
  rw [wrapU64] at h64
  obtain rfl : z64 = dport := by omega
  refine ⟨⟨by omega, by omega⟩, fun m6 M6 hm6 hM6 => ?_⟩
  obtain rfl : m6 = 2 := by omega
  have hMl6 : M6.length = 2 := by rw [hM6, nb_length]; rfl
  refine ⟨⟨by rw [hll5]; show 0 + n5 ≤ n5; omega, by show 0 + c5 ≤ c5; omega⟩, by rw [hMl6]; exact Nat.le_refl _, by omega, by decide, fun l6 n6 c6 hl6 hn6 hc6 => ?_⟩
  have hn6' : n6 = 25 := by omega
  rw [take_all hMl6, take_all hll5] at hl6
  have hll6 : l6.length = n6 := by rw [hl6, List.length_append, hll5, hMl6]; omega
  exact hT l6 n6 c6 c6 (by rw [hl6, hl5, hl4, hl3, hl2, hl1, hl0, hM0, hM1, hM2, hM3, hM4, hM5, hM6]; rfl) hn6' hc6 (Nat.le_refl _)
end Go.Proofs.YtdpcahblhjbgjaaDoor
end

section
set_option linter.unusedVariables false
set_option linter.unusedSimpArgs false
namespace Go.Proofs.YtdpcahblhjbgjaaDoor
open Go Reck
/-- Bits of whole bytes are those bytes' number. -/
theorem val_bytes (cs : List Nat) (i : Nat) (hc : ∀ c ∈ cs, c < 256) : ∀ k, i + k ≤ cs.length → val (span cs (8 * i) (8 * k)) = ((cs.drop i).take k).foldl (fun a c => a * 256 + c) 0
  | 0, _ => by simp [span, val]
  | k + 1, h => by
    have ih := val_bytes cs i hc k (by omega)
    rw [show 8 * (k + 1) = 8 * k + 8 by omega, span_add, val_append, ih, span_length, show 8 * i + 8 * k = 8 * (i + k) by omega, span_val cs (8 * (i + k)) 8 (by omega), show 8 * (i + k) / 8 = i + k by omega, show 8 - 8 * (i + k) % 8 - 8 = 0 by omega]
    have hlt : i + k < cs.length := by omega
    have hg : (cs.drop i)[k]? = some cs[i + k] := by rw [List.getElem?_drop, List.getElem?_eq_getElem hlt]
    rw [List.take_add_one, hg, List.foldl_append]
    have hb := hc _ (List.getElem_mem hlt)
    simp only [Option.toList_some, List.foldl_cons, List.foldl_nil, Nat.pow_zero, Nat.div_one]
    rw [List.getD_eq_getElem?_getD, List.getElem?_eq_getElem hlt]
    simp only [Option.getD_some]
    rw [show (2 : Nat) ^ 8 = 256 from rfl, Nat.mod_eq_of_lt hb]
theorem loa_vb {L : List Int} (hB : U.By L) (i k : Nat) (hk : k ≤ 8) (hl : i + k ≤ L.length) {a n : Int} (ha : a = 8 * i) (hn : n = 8 * k) : U.loa L a n = U.vb ((L.drop i).take k) := by
  obtain ⟨cs, rfl, hc⟩ := hB
  rw [nz_length] at hl
  unfold U.loa
  rw [nz_back, ha, hn, show (8 * (i : Int)).toNat = 8 * i by omega, show (8 * (k : Int)).toNat = 8 * k by omega, val_bytes cs i hc k hl, nz_drop, nz_take]
  unfold U.vb
  have h := vbN_cast ((cs.drop i).take k) 0
  rw [show ((0 : Nat) : Int) = 0 from rfl] at h
  rw [h]
  have h1 := val_lt (span cs (8 * i) (8 * k))
  rw [span_length, val_bytes cs i hc k hl] at h1
  have h2 : 2 ^ (8 * k) ≤ 2 ^ 64 := Nat.pow_le_pow_right (by decide) (by omega)
  have h3 : (2 : Nat) ^ 64 = 18446744073709551616 := by decide
  omega
theorem in_vb {L : List Int} (hB : U.By L) (i k : Nat) (hk : k ≤ 8) (hl : i + k ≤ L.length) {a e n z a' e' : Int} (ha : a = 8 * i) (he : e = 0) (hn : n = 8 * k) (hz : z = U.inV L a e n) (ha' : a' = U.inA L a e n) (he' : e' = U.inE L a e n) : z = U.vb ((L.drop i).take k) ∧ a' = 8 * ((i + k : Nat) : Int) ∧ e' = 0 := by
  have hf : a + n ≤ 8 * L.length := by omega
  refine ⟨?_, ?_, ?_⟩
  · rw [Rd.inV_of hz he hf]; exact loa_vb hB i k hk hl ha hn
  · rw [Rd.inA_of ha' he hf]; omega
  · rw [he']; unfold U.inE; rw [if_pos he, if_pos hf]
theorem vb_lt {L : List Int} (hB : U.By L) (k : Nat) (hk : k ≤ 8) (hl : L.length = k) : 0 ≤ U.vb L ∧ U.vb L < 256 ^ k := by
  have h := loa_vb hB 0 k hk (by omega) (a := 0) (n := 8 * k) rfl rfl
  rw [List.drop_zero, List.take_of_length_le (by omega)] at h
  rw [← h]
  have := Rd.loa_bnd L 0 (8 * k)
  rw [show (8 * (k : Int)).toNat = 8 * k by omega] at this
  have h2 : (2 : Int) ^ (8 * k) = 256 ^ k := by rw [Int.pow_mul]; rfl
  rw [h2] at this; exact this
theorem by_part {L : List Int} (h : U.By L) (o n : Nat) : U.By ((L.drop o).take n) := by
  obtain ⟨cs, rfl, hc⟩ := h
  exact ⟨(cs.drop o).take n, by simp [nz, List.map_drop, List.map_take], fun c hc' => hc c (List.mem_of_mem_drop (List.mem_of_mem_take hc'))⟩
/-- What a key's bytes say. -/
structure U.RdK (L : List Int) (o : Nat) (src dst sip dip proto sport dport : Int) : Prop where
  a : src = U.vb ((L.drop o).take 6)
  b : dst = U.vb ((L.drop (o + 6)).take 6)
  c : sip = U.vb ((L.drop (o + 12)).take 4)
  d : dip = U.vb ((L.drop (o + 16)).take 4)
  e : proto = U.vb ((L.drop (o + 20)).take 1)
  f : sport = U.vb ((L.drop (o + 21)).take 2)
  g : dport = U.vb ((L.drop (o + 23)).take 2)
def kvA (src dst sip dip proto sport dport : Int) (x : Cell) : AV := .inr [.inr (kyL src dst sip dip proto sport dport), .inl x]
theorem kread_fin {L L1 : List Int} {o m : Nat} (hB : U.By L) (hl : o + m ≤ L.length) (hm : m = 25) (h1 : L1 = (L.drop o).take m) : U.By L1 ∧ L1.length = 25 ∧ ∀ i k, i + k ≤ 25 → (L1.drop i).take k = (L.drop (o + i)).take k := by
  refine ⟨by rw [h1]; exact by_part hB o m, by rw [h1, List.length_take, List.length_drop]; omega, fun i k h => ?_⟩
  rw [h1, List.drop_take, List.drop_drop, List.take_take, Nat.min_eq_left (by omega)]
theorem kread_all {L L1 : List Int} {o m : Nat} (hB : U.By L) (hl : o + m ≤ L.length) (hm : m = 25) (h1 : L1 = (L.drop o).take m) {z4 a5 e6 z7 a8 e9 z10 a11 e12 z13 z14 a15 e16 z17 z18 a19 e20 z21 z22 a23 e24 z25 z26 a27 e28 z29 : Int}
    (i1 : z4 = U.inV L1 0 0 48) (i2 : a5 = U.inA L1 0 0 48) (i3 : e6 = U.inE L1 0 0 48)
    (i4 : z7 = U.inV L1 a5 e6 48) (i5 : a8 = U.inA L1 a5 e6 48) (i6 : e9 = U.inE L1 a5 e6 48)
    (i7 : z10 = U.inV L1 a8 e9 32) (i8 : a11 = U.inA L1 a8 e9 32) (i9 : e12 = U.inE L1 a8 e9 32) (j1 : z13 = IntKind.wrap .u32 z10)
    (k1 : z14 = U.inV L1 a11 e12 32) (k2 : a15 = U.inA L1 a11 e12 32) (k3 : e16 = U.inE L1 a11 e12 32) (j2 : z17 = IntKind.wrap .u32 z14)
    (k4 : z18 = U.inV L1 a15 e16 8) (k5 : a19 = U.inA L1 a15 e16 8) (k6 : e20 = U.inE L1 a15 e16 8) (j3 : z21 = IntKind.wrap .i64 z18)
    (k7 : z22 = U.inV L1 a19 e20 16) (k8 : a23 = U.inA L1 a19 e20 16) (k9 : e24 = U.inE L1 a19 e20 16) (j4 : z25 = IntKind.wrap .i64 z22)
    (l1 : z26 = U.inV L1 a23 e24 16) (l2 : a27 = U.inA L1 a23 e24 16) (l3 : e28 = U.inE L1 a23 e24 16) (j5 : z29 = IntKind.wrap .i64 z26) :
    U.RdK L o z4 z7 z13 z17 z21 z25 z29 := by
  obtain ⟨hB1, hl1, hs⟩ := kread_fin hB hl hm h1
  have p1 := in_vb hB1 0 6 (by omega) (by omega) rfl rfl rfl i1 i2 i3
  have p2 := in_vb hB1 6 6 (by omega) (by omega) p1.2.1 p1.2.2 rfl i4 i5 i6
  have p3 := in_vb hB1 12 4 (by omega) (by omega) p2.2.1 p2.2.2 rfl i7 i8 i9
  have p4 := in_vb hB1 16 4 (by omega) (by omega) p3.2.1 p3.2.2 rfl k1 k2 k3
  have p5 := in_vb hB1 20 1 (by omega) (by omega) p4.2.1 p4.2.2 rfl k4 k5 k6
  have p6 := in_vb hB1 21 2 (by omega) (by omega) p5.2.1 p5.2.2 rfl k7 k8 k9
  have p7 := in_vb hB1 23 2 (by omega) (by omega) p6.2.1 p6.2.2 rfl l1 l2 l3
  have b3 := vb_lt (by_part hB1 12 4) 4 (by omega) (by rw [List.length_take, List.length_drop]; omega)
  have b4 := vb_lt (by_part hB1 16 4) 4 (by omega) (by rw [List.length_take, List.length_drop]; omega)
  have b5 := vb_lt (by_part hB1 20 1) 1 (by omega) (by rw [List.length_take, List.length_drop]; omega)
  have b6 := vb_lt (by_part hB1 21 2) 2 (by omega) (by rw [List.length_take, List.length_drop]; omega)
  have b7 := vb_lt (by_part hB1 23 2) 2 (by omega) (by rw [List.length_take, List.length_drop]; omega)
  rw [← p3.1] at b3; rw [← p4.1] at b4; rw [← p5.1] at b5; rw [← p6.1] at b6; rw [← p7.1] at b7
  have e3 : z13 = z10 := by rw [j1, wrapU32]; omega
  have e4 : z17 = z14 := by rw [j2, wrapU32]; omega
  have e5 : z21 = z18 := w64 j3 (by omega)
  have e6' : z25 = z22 := w64 j4 (by omega)
  have e7 : z29 = z26 := w64 j5 (by omega)
  rw [hs 0 6 (by omega)] at p1; rw [hs 6 6 (by omega)] at p2; rw [hs 12 4 (by omega)] at p3; rw [hs 16 4 (by omega)] at p4; rw [hs 20 1 (by omega)] at p5; rw [hs 21 2 (by omega)] at p6; rw [hs 23 2 (by omega)] at p7
  exact ⟨p1.1, p2.1, e3.trans p3.1, e4.trans p4.1, e5.trans p5.1, e6'.trans p6.1, e7.trans p7.1⟩
theorem inA_b {L : List Int} {a e n a' : Int} (h : a' = U.inA L a e n) (hn : 0 ≤ n) (ha : 0 ≤ a ∧ a ≤ 8 * L.length) : 0 ≤ a' ∧ a' ≤ 8 * L.length := Rd.inA_bnd h hn ha
end Go.Proofs.YtdpcahblhjbgjaaDoor
end

section
set_option linter.unusedVariables false
set_option linter.unusedSimpArgs false
namespace Go.Proofs.YtdpcahblhjbgjaaDoor
open Go Reck
theorem rd_kg {L : List Int} {o : Nat} {a b c d e f g a' b' c' d' e' f' g' : Int} (h : U.RdK L o a b c d e f g) (k : U.RdK L o a' b' c' d' e' f' g') (hg : U.KG a b c d e f g) : U.KG a' b' c' d' e' f' g' := by
  obtain ⟨r1, r2, r3, r4, r5, r6, r7⟩ := h
  obtain ⟨t1, t2, t3, t4, t5, t6, t7⟩ := k
  rw [← t1] at r1; rw [← t2] at r2; rw [← t3] at r3; rw [← t4] at r4; rw [← t5] at r5; rw [← t6] at r6; rw [← t7] at r7
  subst r1; subst r2; subst r3; subst r4; subst r5; subst r6; subst r7
  exact hg
theorem rread_all {L : List Int} {o m : Nat} (hB : U.By L) (hl : o + m ≤ L.length) (hm : m = 25) {z20 z21 z22 z23 z24 z25 z12 z13 z26 z27 z28 z29 : Int}
    (j3 : z23 = IntKind.wrap .u32 z22) (j4 : z25 = IntKind.wrap .u32 z24) (j5 : z13 = IntKind.wrap .i64 z12) (j6 : z27 = IntKind.wrap .i64 z26) (j7 : z29 = IntKind.wrap .i64 z28)
    (i1 : z20 = U.vb (List.take 6 (List.drop o L))) (i2 : z21 = U.vb (List.take 6 (List.drop (o + 6) L))) (i3 : z22 = U.vb (List.take 4 (List.drop (o + 12) L))) (i4 : z24 = U.vb (List.take 4 (List.drop (o + 16) L))) (i5 : z12 = List.getD L (o + 20) 0) (i6 : z26 = U.vb (List.take 2 (List.drop (o + 21) L))) (i7 : z28 = U.vb (List.take 2 (List.drop (o + 23) L))) :
    U.RdK L o z20 z21 z23 z25 z13 z27 z29 := by
  have b3 := vb_lt (by_part hB (o + 12) 4) 4 (by omega) (by rw [List.length_take, List.length_drop]; omega)
  have b4 := vb_lt (by_part hB (o + 16) 4) 4 (by omega) (by rw [List.length_take, List.length_drop]; omega)
  have b6 := vb_lt (by_part hB (o + 21) 2) 2 (by omega) (by rw [List.length_take, List.length_drop]; omega)
  have b7 := vb_lt (by_part hB (o + 23) 2) 2 (by omega) (by rw [List.length_take, List.length_drop]; omega)
  rw [← i3] at b3; rw [← i4] at b4; rw [← i6] at b6; rw [← i7] at b7
  have hlt : o + 20 < L.length := by omega
  have hg : L[o + 20]? = some z12 := by rw [i5, List.getD_eq_getElem?_getD, List.getElem?_eq_getElem hlt]; rfl
  have hb := by_mem' hB z12 (List.mem_of_getElem? hg)
  have e5 : U.vb (List.take 1 (List.drop (o + 20) L)) = z12 := by
    have : List.take 1 (List.drop (o + 20) L) = [z12] := by
      rw [List.drop_eq_getElem_cons hlt, List.take_succ_cons, List.take_zero]
      rw [List.getElem?_eq_getElem hlt] at hg
      simp only [Option.some.injEq] at hg
      rw [hg]
    rw [this]; unfold U.vb; simp only [List.foldl_cons, List.foldl_nil]; omega
  have e3 : z23 = z22 := by rw [j3, wrapU32]; omega
  have e4 : z25 = z24 := by rw [j4, wrapU32]; omega
  have e13 : z13 = z12 := w64 j5 (by omega)
  have e6 : z27 = z26 := w64 j6 (by omega)
  have e7 : z29 = z28 := w64 j7 (by omega)
  exact ⟨i1, i2, e3.trans i3, e4.trans i4, by rw [e13, e5], e6.trans i6, e7.trans i7⟩
theorem off_at {o o2 c k : Nat} (h : (o2 : Int) = if (c : Int) = (k : Int) then (o : Int) else (o : Int) + k) (hc : k < c) : o2 = o + k := by
  rw [if_neg (by omega)] at h; omega
end Go.Proofs.YtdpcahblhjbgjaaDoor
end

section
set_option linter.unusedVariables false
set_option linter.unusedSimpArgs false
namespace Go.Proofs.YtdpcahblhjbgjaaDoor
open Go Reck
def tKBytes : Tbl := fun f args σ => if f == 52 then match args, σ with
    | [.inl (.inr l)], ⟨[], [], 0, [], 0⟩ => match kyX l with
      | some [src, dst, sip, dip, proto, sport, dport] => some fun K => U.KK src dst sip dip proto sport dport ∧
          (U.KG src dst sip dip proto sport dport → ∀ (L : List Int) (m c cap : Nat), L = U.kb src dst sip dip proto sport dport → m = 25 → m ≤ c → c ≤ cap → K (cell (aslC ⟨0, 0, m, c⟩)) (ar [bs L cap false])) ∧
          (¬ U.KG src dst sip dip proto sport dport → K (cell nilC) emptySt)
      | _ => none
    | _, _ => none
  else none
theorem tKBytes_ok : TblOk Tryd.prog tKBytes := by
  intro f tm σ C h K hK
  unfold tKBytes at h
  split at h
  · rename_i hf
    obtain rfl : f = 52 := by simpa using hf
    split at h
    · split at h
      · rename_i hl
        obtain rfl := kyX_eq hl
        simp only [Option.some.injEq] at h; subst h
        exact knownC noOv names (conOk_of tYB_ok) (kbytes_run K _ _ _ _ _ _ _ hK.1 hK.2.1 hK.2.2)
      · cases h
    · cases h
  · cases h
def tRBytes : Tbl := fun f args σ => if f == 56 then match args, σ with
    | [.inl (.inr l)], ⟨[], [], 0, [], 0⟩ => match kyX l with
      | some [src, dst, sip, dip, proto, sport, dport] => some fun K => (U.KK src dst sip dip proto sport dport ∧ U.KG src dst sip dip proto sport dport) ∧
          ∀ (L : List Int) (m c cap : Nat), L = U.kb src dst sip dip proto sport dport → m = 25 → m ≤ c → c ≤ cap → K (cell (aslC ⟨0, 0, m, c⟩)) (ar [bs L cap false])
      | _ => none
    | _, _ => none
  else none
theorem tRBytes_ok : TblOk Tryd.prog tRBytes := by
  intro f tm σ C h K hK
  unfold tRBytes at h
  split at h
  · rename_i hf
    obtain rfl : f = 56 := by simpa using hf
    split at h
    · split at h
      · rename_i hl
        obtain rfl := kyX_eq hl
        simp only [Option.some.injEq] at h; subst h
        exact knownC noOv names (conOk_of tYB_ok) (rbytes_run K _ _ _ _ _ _ _ hK.1.1 hK.1.2 hK.2)
      · cases h
    · cases h
  · cases h
/-- There is a key that may be in these bytes. -/
structure U.RdIs (L : List Int) (o m : Nat) : Prop where
  m : m = 25
  out : ∃ src dst sip dip proto sport dport : Int, U.RdK L o src dst sip dip proto sport dport ∧ U.KG src dst sip dip proto sport dport
theorem rd_no {L : List Int} {o m : Nat} (h : ¬ U.RdIs L o m) : m = 25 → ∀ src dst sip dip proto sport dport : Int, U.RdK L o src dst sip dip proto sport dport → ¬ U.KG src dst sip dip proto sport dport :=
  fun hm s d si di p sp dp hr hg => h ⟨hm, s, d, si, di, p, sp, dp, hr, hg⟩
theorem rd_kin {L : List Int} {o m : Nat} {src dst sip dip proto sport dport : Int} (hB : U.By L) (hl : o + m ≤ L.length) (hm : m = 25) (h : U.RdK L o src dst sip dip proto sport dport) : U.KK src dst sip dip proto sport dport := by
  obtain ⟨r1, r2, r3, r4, r5, r6, r7⟩ := h
  have b1 := vb_lt (by_part hB o 6) 6 (by omega) (by rw [List.length_take, List.length_drop]; omega)
  have b2 := vb_lt (by_part hB (o + 6) 6) 6 (by omega) (by rw [List.length_take, List.length_drop]; omega)
  have b3 := vb_lt (by_part hB (o + 12) 4) 4 (by omega) (by rw [List.length_take, List.length_drop]; omega)
  have b4 := vb_lt (by_part hB (o + 16) 4) 4 (by omega) (by rw [List.length_take, List.length_drop]; omega)
  have b5 := vb_lt (by_part hB (o + 20) 1) 1 (by omega) (by rw [List.length_take, List.length_drop]; omega)
  have b6 := vb_lt (by_part hB (o + 21) 2) 2 (by omega) (by rw [List.length_take, List.length_drop]; omega)
  have b7 := vb_lt (by_part hB (o + 23) 2) 2 (by omega) (by rw [List.length_take, List.length_drop]; omega)
  rw [← r1] at b1; rw [← r2] at b2; rw [← r3] at b3; rw [← r4] at b4; rw [← r5] at b5; rw [← r6] at b6; rw [← r7] at b7
  exact ⟨by omega, by omega, by omega, by omega, by omega, by omega, by omega⟩
def tKRead : Tbl := fun _ _ _ => none
theorem tKRead_ok : TblOk Tryd.prog tKRead := by intro f tm σ C h; cases h
def tRRead : Tbl := fun _ _ _ => none
theorem tRRead_ok : TblOk Tryd.prog tRRead := by intro f tm σ C h; cases h
def tYG : Tbl := tblOr tKG (tblOr tKBytes (tblOr tRBytes (tblOr tKRead tRRead)))
theorem tYG_ok : TblOk Tryd.prog tYG := tblOr_ok tKG_ok (tblOr_ok tKBytes_ok (tblOr_ok tRBytes_ok (tblOr_ok tKRead_ok tRRead_ok)))
end Go.Proofs.YtdpcahblhjbgjaaDoor
end
