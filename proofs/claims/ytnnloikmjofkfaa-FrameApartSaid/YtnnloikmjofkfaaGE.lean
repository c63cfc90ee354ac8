/- Parts of a proof, one behind the other: FF. No condition. -/
import Derived.Test.YtnnloikmjofkfaaGD
section
set_option linter.unusedVariables false
set_option linter.unusedSimpArgs false
namespace Go.Proofs.Ytnnloikmjofkfaa
open Go Reck

/-- The fields of bytes. -/
structure U.RdOk (L : List Int) (dst src type op sha spa tha tpa fr to proto ttl id sport dport seq ack flags win : Int) (Bl : List Int) : Prop where
  eth : dst = U.loa L 0 48 ∧ src = U.loa L 48 48 ∧ type = U.loa L 96 16
  arp : type = 2054 → op = U.loa L 160 16 ∧ sha = U.loa L 176 48 ∧ spa = U.loa L 224 32 ∧ tha = U.loa L 256 48 ∧ tpa = U.loa L 304 32
  arp0 : ¬ type = 2054 → arp0 op sha spa tha tpa
  ip : type = 2048 → id = U.loa L 144 16 ∧ ttl = U.loa L 176 8 ∧ proto = U.loa L 184 8 ∧ fr = U.loa L 208 32 ∧ to = U.loa L 240 32
  head0 : ¬ type = 2048 → head0 fr to proto ttl id
  ports : type = 2048 → ¬ U.en proto = 0 → sport = U.loa L 272 16 ∧ dport = U.loa L 288 16
  ports0 : (¬ type = 2048 ∨ U.en proto = 0) → sport = 0 ∧ dport = 0
  tcp : type = 2048 → proto = 6 → seq = U.loa L 304 32 ∧ ack = U.loa L 336 32 ∧ flags = U.loa L 376 8 ∧ win = U.loa L 384 16
  tcp0 : (¬ type = 2048 ∨ ¬ proto = 6) → seq = 0 ∧ ack = 0 ∧ flags = 0 ∧ win = 0
  body : Bl = L.drop (U.size type proto 0).toNat
  len : U.size type proto 0 ≤ L.length
structure U.RdNo (L : List Int) : Prop where
  out : ∀ (dst src type op sha spa tha tpa fr to proto ttl id sport dport seq ack flags win : Int) (Bl : List Int), ¬ U.RdOk L dst src type op sha spa tha tpa fr to proto ttl id sport dport seq ack flags win Bl
def rdV (dst src type op sha spa tha tpa fr to proto ttl id sport dport seq ack flags win : Int) (k c : Nat) (b : Bool) : AV := .inr [.inr [xintC .u64 dst, xintC .u64 src, xintC .i64 type, xintC .i64 op, xintC .u64 sha, xintC .u64 tha, xintC .u32 spa, xintC .u32 tpa, xintC .u32 fr, xintC .u32 to, xintC .i64 proto, xintC .i64 ttl, xintC .i64 id, xintC .i64 sport, xintC .i64 dport, xintC .u32 seq, xintC .u32 ack, xintC .i64 flags, xintC .i64 win, aslC ⟨1, 0, k, c⟩], .inl (.inl (.bool b))]
theorem k64 {z : Int} (h : 0 ≤ z ∧ z ≤ 65535) : -9223372036854775808 ≤ z ∧ z ≤ 9223372036854775807 := by omega
theorem k8 {z : Int} (h : 0 ≤ z ∧ z ≤ 255) : -9223372036854775808 ≤ z ∧ z ≤ 9223372036854775807 := by omega
theorem k48 {z : Int} (h : 0 ≤ z ∧ z ≤ 281474976710655) : 0 ≤ z ∧ z ≤ 18446744073709551615 := by omega
theorem restB_by {L : List Int} (h : U.By L) (a e : Int) : U.By (U.restB L a e) := by
  unfold U.restB
  split
  · obtain ⟨cs, h1, h2⟩ := h
    exact ⟨cs.drop (a.toNat / 8), by rw [h1, nz_drop], fun c hc => h2 c (List.mem_of_mem_drop hc)⟩
  · exact ⟨[], rfl, by simp⟩
theorem stepOk {L : List Int} {a e n a' e' : Int} (ha : a' = U.inA L a e n) (he : e' = U.inE L a e n) (h : e' = 0) : e = 0 ∧ a' = a + n ∧ a + n ≤ 8 * L.length := by
  obtain ⟨h1, h2⟩ := (inE_iff he).1 h
  exact ⟨h1, inA_of ha h1 h2, h2⟩
theorem stepFw {L : List Int} {a e n a' e' : Int} (ha : a' = U.inA L a e n) (he : e' = U.inE L a e n) (h : e = 0) (hf : a + n ≤ 8 * L.length) : e' = 0 ∧ a' = a + n :=
  ⟨(inE_iff he).2 ⟨h, hf⟩, inA_of ha h hf⟩
theorem en_six {p : Int} (h : ¬ U.en p = 0) (h17 : ¬ p = 17) : p = 6 := by
  by_cases h6 : p = 6
  · exact h6
  · exact absurd (by unfold U.en; rw [if_neg h17, if_neg h6]) h
theorem size_ge (type p : Int) : 14 ≤ U.size type p 0 := by have := size_bnd type p 0; simp at this; omega
theorem size_ip {type p : Int} (h : type = 2048) : U.size type p 0 = 34 + U.en p := by unfold U.size; rw [if_neg (by omega), if_pos h]; simp
theorem size_arp {type p : Int} (h : type = 2054) : U.size type p 0 = 42 := by unfold U.size; rw [if_pos h]; simp
theorem size_no {type p : Int} (h : ¬ type = 2054) (h' : ¬ type = 2048) : U.size type p 0 = 14 := by unfold U.size; rw [if_neg h, if_neg h']; simp
set_option maxHeartbeats 4000000 in
theorem readT_run (K : AV → St → Prop) (L : List Int) (m c cap : Nat) (hBy : U.By L) (hm : m = L.length) (hl : L.length ≤ 16777216)
    (hT : ∀ (dst src type op sha spa tha tpa fr to proto ttl id sport dport seq ack flags win : Int) (Bl : List Int) (k c' cap' : Nat), U.RdOk L dst src type op sha spa tha tpa fr to proto ttl id sport dport seq ack flags win Bl → U.Kin dst src type op sha spa tha tpa fr to proto ttl id sport dport seq ack flags win → U.By Bl → k = Bl.length → k ≤ c' → c' ≤ cap' → K (rdV dst src type op sha spa tha tpa fr to proto ttl id sport dport seq ack flags win k c' true) ⟨[], [], 0, [some (bs L cap true), some (bs Bl cap' false)], 0⟩)
    (hN : ∀ (dst src type op sha spa tha tpa fr to proto ttl id sport dport seq ack flags win : Int) (Bl : List Int) (k c' cap' : Nat), U.RdNo L → U.Kin dst src type op sha spa tha tpa fr to proto ttl id sport dport seq ack flags win → U.By Bl → k = Bl.length → k ≤ c' → c' ≤ cap' → K (rdV dst src type op sha spa tha tpa fr to proto ttl id sport dport seq ack flags win k c' false) ⟨[], [], 0, [some (bs L cap true), some (bs Bl cap' false)], 0⟩) :
    runI inv0 tFD 29 [cell (aslC ⟨0, 0, m, c⟩)] (ar [bs L cap true]) K := by
  rw [readT_vc]
  refine ⟨⟨by show 0 + m ≤ L.length; omega, by omega⟩, fun L0 c1 p1 q1 q2 q3 => ?_⟩
  have e0 : L0 = L := by rw [q1, hm]; show List.take L.length (List.drop 0 L) = L; simp
  clear q1; subst e0
  have bd0 : (0 : Int) ≤ 0 ∧ (0 : Int) ≤ 8 * (L0.length : Int) := by omega
  refine ⟨⟨hBy, hm, hl, bd0, by decide⟩, fun z1 a1 e1 hz1 ha1 he1 => ?_⟩
  have bz1 := inV48 hz1
  have bd1 := inA_bnd ha1 (by decide) bd0
  refine ⟨⟨hBy, hm, hl, bd1, by decide⟩, fun z2 a2 e2 hz2 ha2 he2 => ?_⟩
  have bz2 := inV48 hz2
  have bd2 := inA_bnd ha2 (by decide) bd1
  refine ⟨⟨hBy, hm, hl, bd2, by decide⟩, fun z3 a3 e3 hz3 ha3 he3 => ?_⟩
  have bz3 := inV16 hz3
  intro y3 hy3
  have hy3 := w64 hy3 (by omega)
  subst hy3
  have bd3 := inA_bnd ha3 (by decide) bd2
  refine ⟨fun ht => ?_, fun ht => ⟨fun ht2 => ?_, fun ht2 => ?_⟩⟩
  · skip
    refine ⟨⟨hm, hl, bd3, by decide⟩, fun a4 e4 ha4 he4 => ?_⟩
    have bd4 := inA_bnd ha4 (by decide) bd3
    refine ⟨⟨hBy, hm, hl, bd4, by decide⟩, fun z5 a5 e5 hz5 ha5 he5 => ?_⟩
    have bz5 := inV16 hz5
    intro y5 hy5
    have hy5 := w64 hy5 (by omega)
    subst hy5
    have bd5 := inA_bnd ha5 (by decide) bd4
    refine ⟨⟨hBy, hm, hl, bd5, by decide⟩, fun z6 a6 e6 hz6 ha6 he6 => ?_⟩
    have bz6 := inV48 hz6
    have bd6 := inA_bnd ha6 (by decide) bd5
    refine ⟨⟨hBy, hm, hl, bd6, by decide⟩, fun z7 a7 e7 hz7 ha7 he7 => ?_⟩
    have bz7 := inV32 hz7
    intro y7 hy7
    have hy7 := wu32 hy7 (by omega)
    subst hy7
    have bd7 := inA_bnd ha7 (by decide) bd6
    refine ⟨⟨hBy, hm, hl, bd7, by decide⟩, fun z8 a8 e8 hz8 ha8 he8 => ?_⟩
    have bz8 := inV48 hz8
    have bd8 := inA_bnd ha8 (by decide) bd7
    refine ⟨⟨hBy, hm, hl, bd8, by decide⟩, fun z9 a9 e9 hz9 ha9 he9 => ?_⟩
    have bz9 := inV32 hz9
    intro y9 hy9
    have hy9 := wu32 hy9 (by omega)
    subst hy9
    have bd9 := inA_bnd ha9 (by decide) bd8
    refine ⟨⟨hm, q2, hl, bd9, fun hal => ?_⟩, fun B kk cc pp ar hB hk hkc hcp hra => ?_⟩
    · skip
      obtain ⟨g9, i9, f9⟩ := stepOk ha9 he9 hal
      obtain ⟨g8, i8, f8⟩ := stepOk ha8 he8 g9
      obtain ⟨g7, i7, f7⟩ := stepOk ha7 he7 g8
      obtain ⟨g6, i6, f6⟩ := stepOk ha6 he6 g7
      obtain ⟨g5, i5, f5⟩ := stepOk ha5 he5 g6
      obtain ⟨g4, i4, f4⟩ := stepOk ha4 he4 g5
      obtain ⟨g3, i3, f3⟩ := stepOk ha3 he3 g4
      obtain ⟨g2, i2, f2⟩ := stepOk ha2 he2 g3
      obtain ⟨g1, i1, f1⟩ := stepOk ha1 he1 g2
      have j1 : a1 = 48 := by omega
      have j2 : a2 = 96 := by omega
      have j3 : a3 = 112 := by omega
      have j4 : a4 = 160 := by omega
      have j5 : a5 = 176 := by omega
      have j6 : a6 = 224 := by omega
      have j7 : a7 = 256 := by omega
      have j8 : a8 = 304 := by omega
      have j9 : a9 = 336 := by omega
      omega
    · repeat (first | refine ⟨rfl, ?_⟩ | refine ⟨⟨rfl, rfl, rfl⟩, ?_⟩)
      have hkin : U.Kin z1 z2 y3 y5 z6 y7 z8 y9 0 0 0 0 0 0 0 0 0 0 0 := ⟨⟨k48 bz1, k48 bz2, k48 bz6, k48 bz8⟩, ⟨bz7, bz9, by decide, by decide, by decide, by decide⟩, ⟨k64 bz3, k64 bz5, by decide, by decide, by decide, by decide, by decide, by decide, by decide⟩⟩
      have hbl : U.By B := hB ▸ restB_by hBy _ _
      refine ⟨fun hok => hT z1 z2 y3 y5 z6 y7 z8 y9 0 0 0 0 0 0 0 0 0 0 0 B kk cc pp ?_ hkin hbl hk hkc hcp, fun hbad => hN z1 z2 y3 y5 z6 y7 z8 y9 0 0 0 0 0 0 0 0 0 0 0 B kk cc pp ⟨?_⟩ hkin hbl hk hkc hcp⟩
      · skip
        obtain ⟨g9, i9, f9⟩ := stepOk ha9 he9 hok
        obtain ⟨g8, i8, f8⟩ := stepOk ha8 he8 g9
        obtain ⟨g7, i7, f7⟩ := stepOk ha7 he7 g8
        obtain ⟨g6, i6, f6⟩ := stepOk ha6 he6 g7
        obtain ⟨g5, i5, f5⟩ := stepOk ha5 he5 g6
        obtain ⟨g4, i4, f4⟩ := stepOk ha4 he4 g5
        obtain ⟨g3, i3, f3⟩ := stepOk ha3 he3 g4
        obtain ⟨g2, i2, f2⟩ := stepOk ha2 he2 g3
        obtain ⟨g1, i1, f1⟩ := stepOk ha1 he1 g2
        have j1 : a1 = 48 := by omega
        have j2 : a2 = 96 := by omega
        have j3 : a3 = 112 := by omega
        have j4 : a4 = 160 := by omega
        have j5 : a5 = 176 := by omega
        have j6 : a6 = 224 := by omega
        have j7 : a7 = 256 := by omega
        have j8 : a8 = 304 := by omega
        have j9 : a9 = 336 := by omega
        have v1 : z1 = U.loa L0 0 48 := by
          have := inV_of hz1 g1 f1
          exact this
        have v2 : z2 = U.loa L0 48 48 := by
          have := inV_of hz2 g2 f2
          rw [j1] at this
          exact this
        have v3 : y3 = U.loa L0 96 16 := by
          have := inV_of hz3 g3 f3
          rw [j2] at this
          exact this
        have v5 : y5 = U.loa L0 160 16 := by
          have := inV_of hz5 g5 f5
          rw [j4] at this
          exact this
        have v6 : z6 = U.loa L0 176 48 := by
          have := inV_of hz6 g6 f6
          rw [j5] at this
          exact this
        have v7 : y7 = U.loa L0 224 32 := by
          have := inV_of hz7 g7 f7
          rw [j6] at this
          exact this
        have v8 : z8 = U.loa L0 256 48 := by
          have := inV_of hz8 g8 f8
          rw [j7] at this
          exact this
        have v9 : y9 = U.loa L0 304 32 := by
          have := inV_of hz9 g9 f9
          rw [j8] at this
          exact this
        have hsz : U.size y3 0 0 = 42 := size_arp ht
        refine ⟨⟨v1, v2, v3⟩, fun _ => ⟨v5, v6, v7, v8, v9⟩, fun h => absurd ht h, fun h => by omega, fun _ => ⟨rfl, rfl, rfl, rfl, rfl⟩, fun h => by omega, fun _ => ⟨rfl, rfl⟩, fun h => by omega, fun _ => ⟨rfl, rfl, rfl, rfl⟩, ?_, by omega⟩
        rw [hsz, hB]; unfold U.restB; rw [if_pos hok, j9]; rfl
      · intro dst' src' type' op' sha' spa' tha' tpa' fr' to' proto' ttl' id' sport' dport' seq' ack' flags' win' Bl' hR
        have hge := size_ge type' proto'
        have hlen := hR.len
        refine hbad ?_
        obtain ⟨u1, i1⟩ := stepFw ha1 he1 rfl (by omega)
        have j1 : a1 = 48 := by omega
        obtain ⟨u2, i2⟩ := stepFw ha2 he2 u1 (by omega)
        have j2 : a2 = 96 := by omega
        obtain ⟨u3, i3⟩ := stepFw ha3 he3 u2 (by omega)
        have j3 : a3 = 112 := by omega
        have tv : y3 = type' := by
          have := inV_of hz3 u2 (by omega)
          rw [j2] at this
          exact this.trans hR.eth.2.2.symm
        have := size_arp (p := proto') (tv ▸ ht)
        obtain ⟨u4, i4⟩ := stepFw ha4 he4 u3 (by omega)
        have j4 : a4 = 160 := by omega
        obtain ⟨u5, i5⟩ := stepFw ha5 he5 u4 (by omega)
        have j5 : a5 = 176 := by omega
        obtain ⟨u6, i6⟩ := stepFw ha6 he6 u5 (by omega)
        have j6 : a6 = 224 := by omega
        obtain ⟨u7, i7⟩ := stepFw ha7 he7 u6 (by omega)
        have j7 : a7 = 256 := by omega
        obtain ⟨u8, i8⟩ := stepFw ha8 he8 u7 (by omega)
        have j8 : a8 = 304 := by omega
        obtain ⟨u9, i9⟩ := stepFw ha9 he9 u8 (by omega)
        have j9 : a9 = 336 := by omega
        exact u9
  · skip
    refine ⟨⟨hm, hl, bd3, by decide⟩, fun a4 e4 ha4 he4 => ?_⟩
    have bd4 := inA_bnd ha4 (by decide) bd3
    refine ⟨⟨hBy, hm, hl, bd4, by decide⟩, fun z5 a5 e5 hz5 ha5 he5 => ?_⟩
    have bz5 := inV16 hz5
    intro y5 hy5
    have hy5 := w64 hy5 (by omega)
    subst hy5
    have bd5 := inA_bnd ha5 (by decide) bd4
    refine ⟨⟨hm, hl, bd5, by decide⟩, fun a6 e6 ha6 he6 => ?_⟩
    have bd6 := inA_bnd ha6 (by decide) bd5
    refine ⟨⟨hBy, hm, hl, bd6, by decide⟩, fun z7 a7 e7 hz7 ha7 he7 => ?_⟩
    have bz7 := inV8 hz7
    intro y7 hy7
    have hy7 := w64 hy7 (by omega)
    subst hy7
    have bd7 := inA_bnd ha7 (by decide) bd6
    refine ⟨⟨hBy, hm, hl, bd7, by decide⟩, fun z8 a8 e8 hz8 ha8 he8 => ?_⟩
    have bz8 := inV8 hz8
    intro y8 hy8
    have hy8 := w64 hy8 (by omega)
    subst hy8
    have bd8 := inA_bnd ha8 (by decide) bd7
    refine ⟨⟨hm, hl, bd8, by decide⟩, fun a9 e9 ha9 he9 => ?_⟩
    have bd9 := inA_bnd ha9 (by decide) bd8
    refine ⟨⟨hBy, hm, hl, bd9, by decide⟩, fun z10 a10 e10 hz10 ha10 he10 => ?_⟩
    have bz10 := inV32 hz10
    intro y10 hy10
    have hy10 := wu32 hy10 (by omega)
    subst hy10
    have bd10 := inA_bnd ha10 (by decide) bd9
    refine ⟨⟨hBy, hm, hl, bd10, by decide⟩, fun z11 a11 e11 hz11 ha11 he11 => ?_⟩
    have bz11 := inV32 hz11
    intro y11 hy11
    have hy11 := wu32 hy11 (by omega)
    subst hy11
    have bd11 := inA_bnd ha11 (by decide) bd10
    intro an bn han hbn
    refine ⟨fun hn0 => ?_, fun hn0 => ?_⟩
    · have hen : U.en y8 = 0 := han ▸ hn0
      refine ⟨⟨hm, q2, hl, bd11, fun hal => ?_⟩, fun B kk cc pp ar hB hk hkc hcp hra => ?_⟩
      · skip
        obtain ⟨g11, i11, f11⟩ := stepOk ha11 he11 hal
        obtain ⟨g10, i10, f10⟩ := stepOk ha10 he10 g11
        obtain ⟨g9, i9, f9⟩ := stepOk ha9 he9 g10
        obtain ⟨g8, i8, f8⟩ := stepOk ha8 he8 g9
        obtain ⟨g7, i7, f7⟩ := stepOk ha7 he7 g8
        obtain ⟨g6, i6, f6⟩ := stepOk ha6 he6 g7
        obtain ⟨g5, i5, f5⟩ := stepOk ha5 he5 g6
        obtain ⟨g4, i4, f4⟩ := stepOk ha4 he4 g5
        obtain ⟨g3, i3, f3⟩ := stepOk ha3 he3 g4
        obtain ⟨g2, i2, f2⟩ := stepOk ha2 he2 g3
        obtain ⟨g1, i1, f1⟩ := stepOk ha1 he1 g2
        have j1 : a1 = 48 := by omega
        have j2 : a2 = 96 := by omega
        have j3 : a3 = 112 := by omega
        have j4 : a4 = 144 := by omega
        have j5 : a5 = 160 := by omega
        have j6 : a6 = 176 := by omega
        have j7 : a7 = 184 := by omega
        have j8 : a8 = 192 := by omega
        have j9 : a9 = 208 := by omega
        have j10 : a10 = 240 := by omega
        have j11 : a11 = 272 := by omega
        omega
      · repeat (first | refine ⟨rfl, ?_⟩ | refine ⟨⟨rfl, rfl, rfl⟩, ?_⟩)
        have hkin : U.Kin z1 z2 y3 0 0 0 0 0 y10 y11 y8 y7 y5 0 0 0 0 0 0 := ⟨⟨k48 bz1, k48 bz2, by decide, by decide⟩, ⟨by decide, by decide, bz10, bz11, by decide, by decide⟩, ⟨k64 bz3, by decide, k8 bz8, k8 bz7, k64 bz5, by decide, by decide, by decide, by decide⟩⟩
        have hbl : U.By B := hB ▸ restB_by hBy _ _
        refine ⟨fun hok => hT z1 z2 y3 0 0 0 0 0 y10 y11 y8 y7 y5 0 0 0 0 0 0 B kk cc pp ?_ hkin hbl hk hkc hcp, fun hbad => hN z1 z2 y3 0 0 0 0 0 y10 y11 y8 y7 y5 0 0 0 0 0 0 B kk cc pp ⟨?_⟩ hkin hbl hk hkc hcp⟩
        · skip
          obtain ⟨g11, i11, f11⟩ := stepOk ha11 he11 hok
          obtain ⟨g10, i10, f10⟩ := stepOk ha10 he10 g11
          obtain ⟨g9, i9, f9⟩ := stepOk ha9 he9 g10
          obtain ⟨g8, i8, f8⟩ := stepOk ha8 he8 g9
          obtain ⟨g7, i7, f7⟩ := stepOk ha7 he7 g8
          obtain ⟨g6, i6, f6⟩ := stepOk ha6 he6 g7
          obtain ⟨g5, i5, f5⟩ := stepOk ha5 he5 g6
          obtain ⟨g4, i4, f4⟩ := stepOk ha4 he4 g5
          obtain ⟨g3, i3, f3⟩ := stepOk ha3 he3 g4
          obtain ⟨g2, i2, f2⟩ := stepOk ha2 he2 g3
          obtain ⟨g1, i1, f1⟩ := stepOk ha1 he1 g2
          have j1 : a1 = 48 := by omega
          have j2 : a2 = 96 := by omega
          have j3 : a3 = 112 := by omega
          have j4 : a4 = 144 := by omega
          have j5 : a5 = 160 := by omega
          have j6 : a6 = 176 := by omega
          have j7 : a7 = 184 := by omega
          have j8 : a8 = 192 := by omega
          have j9 : a9 = 208 := by omega
          have j10 : a10 = 240 := by omega
          have j11 : a11 = 272 := by omega
          have v1 : z1 = U.loa L0 0 48 := by
            have := inV_of hz1 g1 f1
            exact this
          have v2 : z2 = U.loa L0 48 48 := by
            have := inV_of hz2 g2 f2
            rw [j1] at this
            exact this
          have v3 : y3 = U.loa L0 96 16 := by
            have := inV_of hz3 g3 f3
            rw [j2] at this
            exact this
          have v5 : y5 = U.loa L0 144 16 := by
            have := inV_of hz5 g5 f5
            rw [j4] at this
            exact this
          have v7 : y7 = U.loa L0 176 8 := by
            have := inV_of hz7 g7 f7
            rw [j6] at this
            exact this
          have v8 : y8 = U.loa L0 184 8 := by
            have := inV_of hz8 g8 f8
            rw [j7] at this
            exact this
          have v10 : y10 = U.loa L0 208 32 := by
            have := inV_of hz10 g10 f10
            rw [j9] at this
            exact this
          have v11 : y11 = U.loa L0 240 32 := by
            have := inV_of hz11 g11 f11
            rw [j10] at this
            exact this
          have hsz : U.size y3 y8 0 = 34 := by rw [size_ip ht2]; rw [hen]; rfl
          refine ⟨⟨v1, v2, v3⟩, fun h => absurd h ht, fun _ => ⟨rfl, rfl, rfl, rfl, rfl⟩, fun _ => ⟨v5, v7, v8, v10, v11⟩, fun h => absurd ht2 h, fun _ h => absurd hen h, fun _ => ⟨rfl, rfl⟩, fun _ h => by rw [h] at hen; exact absurd hen (by decide), fun _ => ⟨rfl, rfl, rfl, rfl⟩, ?_, by omega⟩
          rw [hsz, hB]; unfold U.restB; rw [if_pos hok, j11]; rfl
        · intro dst' src' type' op' sha' spa' tha' tpa' fr' to' proto' ttl' id' sport' dport' seq' ack' flags' win' Bl' hR
          have hge := size_ge type' proto'
          have hlen := hR.len
          refine hbad ?_
          obtain ⟨u1, i1⟩ := stepFw ha1 he1 rfl (by omega)
          have j1 : a1 = 48 := by omega
          obtain ⟨u2, i2⟩ := stepFw ha2 he2 u1 (by omega)
          have j2 : a2 = 96 := by omega
          obtain ⟨u3, i3⟩ := stepFw ha3 he3 u2 (by omega)
          have j3 : a3 = 112 := by omega
          have tv : y3 = type' := by
            have := inV_of hz3 u2 (by omega)
            rw [j2] at this
            exact this.trans hR.eth.2.2.symm
          have ht3 : type' = 2048 := tv ▸ ht2
          have hsi := size_ip (p := proto') ht3
          have hen2 := en_bnd proto'
          obtain ⟨u4, i4⟩ := stepFw ha4 he4 u3 (by omega)
          have j4 : a4 = 144 := by omega
          obtain ⟨u5, i5⟩ := stepFw ha5 he5 u4 (by omega)
          have j5 : a5 = 160 := by omega
          obtain ⟨u6, i6⟩ := stepFw ha6 he6 u5 (by omega)
          have j6 : a6 = 176 := by omega
          obtain ⟨u7, i7⟩ := stepFw ha7 he7 u6 (by omega)
          have j7 : a7 = 184 := by omega
          obtain ⟨u8, i8⟩ := stepFw ha8 he8 u7 (by omega)
          have j8 : a8 = 192 := by omega
          obtain ⟨u9, i9⟩ := stepFw ha9 he9 u8 (by omega)
          have j9 : a9 = 208 := by omega
          obtain ⟨u10, i10⟩ := stepFw ha10 he10 u9 (by omega)
          have j10 : a10 = 240 := by omega
          obtain ⟨u11, i11⟩ := stepFw ha11 he11 u10 (by omega)
          have j11 : a11 = 272 := by omega
          exact u11
    · have hen : ¬ U.en y8 = 0 := han ▸ hn0
      refine ⟨⟨hBy, hm, hl, bd11, by decide⟩, fun z12 a12 e12 hz12 ha12 he12 => ?_⟩
      have bz12 := inV16 hz12
      intro y12 hy12
      have hy12 := w64 hy12 (by omega)
      subst hy12
      have bd12 := inA_bnd ha12 (by decide) bd11
      refine ⟨⟨hBy, hm, hl, bd12, by decide⟩, fun z13 a13 e13 hz13 ha13 he13 => ?_⟩
      have bz13 := inV16 hz13
      intro y13 hy13
      have hy13 := w64 hy13 (by omega)
      subst hy13
      have bd13 := inA_bnd ha13 (by decide) bd12
      refine ⟨fun h17 => ?_, fun h17 => ?_⟩
      · skip
        refine ⟨⟨hm, hl, bd13, by decide⟩, fun a14 e14 ha14 he14 => ?_⟩
        have bd14 := inA_bnd ha14 (by decide) bd13
        refine ⟨⟨hm, q2, hl, bd14, fun hal => ?_⟩, fun B kk cc pp ar hB hk hkc hcp hra => ?_⟩
        · skip
          obtain ⟨g14, i14, f14⟩ := stepOk ha14 he14 hal
          obtain ⟨g13, i13, f13⟩ := stepOk ha13 he13 g14
          obtain ⟨g12, i12, f12⟩ := stepOk ha12 he12 g13
          obtain ⟨g11, i11, f11⟩ := stepOk ha11 he11 g12
          obtain ⟨g10, i10, f10⟩ := stepOk ha10 he10 g11
          obtain ⟨g9, i9, f9⟩ := stepOk ha9 he9 g10
          obtain ⟨g8, i8, f8⟩ := stepOk ha8 he8 g9
          obtain ⟨g7, i7, f7⟩ := stepOk ha7 he7 g8
          obtain ⟨g6, i6, f6⟩ := stepOk ha6 he6 g7
          obtain ⟨g5, i5, f5⟩ := stepOk ha5 he5 g6
          obtain ⟨g4, i4, f4⟩ := stepOk ha4 he4 g5
          obtain ⟨g3, i3, f3⟩ := stepOk ha3 he3 g4
          obtain ⟨g2, i2, f2⟩ := stepOk ha2 he2 g3
          obtain ⟨g1, i1, f1⟩ := stepOk ha1 he1 g2
          have j1 : a1 = 48 := by omega
          have j2 : a2 = 96 := by omega
          have j3 : a3 = 112 := by omega
          have j4 : a4 = 144 := by omega
          have j5 : a5 = 160 := by omega
          have j6 : a6 = 176 := by omega
          have j7 : a7 = 184 := by omega
          have j8 : a8 = 192 := by omega
          have j9 : a9 = 208 := by omega
          have j10 : a10 = 240 := by omega
          have j11 : a11 = 272 := by omega
          have j12 : a12 = 288 := by omega
          have j13 : a13 = 304 := by omega
          have j14 : a14 = 336 := by omega
          omega
        · repeat (first | refine ⟨rfl, ?_⟩ | refine ⟨⟨rfl, rfl, rfl⟩, ?_⟩)
          have hkin : U.Kin z1 z2 y3 0 0 0 0 0 y10 y11 y8 y7 y5 y12 y13 0 0 0 0 := ⟨⟨k48 bz1, k48 bz2, by decide, by decide⟩, ⟨by decide, by decide, bz10, bz11, by decide, by decide⟩, ⟨k64 bz3, by decide, k8 bz8, k8 bz7, k64 bz5, k64 bz12, k64 bz13, by decide, by decide⟩⟩
          have hbl : U.By B := hB ▸ restB_by hBy _ _
          refine ⟨fun hok => hT z1 z2 y3 0 0 0 0 0 y10 y11 y8 y7 y5 y12 y13 0 0 0 0 B kk cc pp ?_ hkin hbl hk hkc hcp, fun hbad => hN z1 z2 y3 0 0 0 0 0 y10 y11 y8 y7 y5 y12 y13 0 0 0 0 B kk cc pp ⟨?_⟩ hkin hbl hk hkc hcp⟩
          · skip
            obtain ⟨g14, i14, f14⟩ := stepOk ha14 he14 hok
            obtain ⟨g13, i13, f13⟩ := stepOk ha13 he13 g14
            obtain ⟨g12, i12, f12⟩ := stepOk ha12 he12 g13
            obtain ⟨g11, i11, f11⟩ := stepOk ha11 he11 g12
            obtain ⟨g10, i10, f10⟩ := stepOk ha10 he10 g11
            obtain ⟨g9, i9, f9⟩ := stepOk ha9 he9 g10
            obtain ⟨g8, i8, f8⟩ := stepOk ha8 he8 g9
            obtain ⟨g7, i7, f7⟩ := stepOk ha7 he7 g8
            obtain ⟨g6, i6, f6⟩ := stepOk ha6 he6 g7
            obtain ⟨g5, i5, f5⟩ := stepOk ha5 he5 g6
            obtain ⟨g4, i4, f4⟩ := stepOk ha4 he4 g5
            obtain ⟨g3, i3, f3⟩ := stepOk ha3 he3 g4
            obtain ⟨g2, i2, f2⟩ := stepOk ha2 he2 g3
            obtain ⟨g1, i1, f1⟩ := stepOk ha1 he1 g2
            have j1 : a1 = 48 := by omega
            have j2 : a2 = 96 := by omega
            have j3 : a3 = 112 := by omega
            have j4 : a4 = 144 := by omega
            have j5 : a5 = 160 := by omega
            have j6 : a6 = 176 := by omega
            have j7 : a7 = 184 := by omega
            have j8 : a8 = 192 := by omega
            have j9 : a9 = 208 := by omega
            have j10 : a10 = 240 := by omega
            have j11 : a11 = 272 := by omega
            have j12 : a12 = 288 := by omega
            have j13 : a13 = 304 := by omega
            have j14 : a14 = 336 := by omega
            have v1 : z1 = U.loa L0 0 48 := by
              have := inV_of hz1 g1 f1
              exact this
            have v2 : z2 = U.loa L0 48 48 := by
              have := inV_of hz2 g2 f2
              rw [j1] at this
              exact this
            have v3 : y3 = U.loa L0 96 16 := by
              have := inV_of hz3 g3 f3
              rw [j2] at this
              exact this
            have v5 : y5 = U.loa L0 144 16 := by
              have := inV_of hz5 g5 f5
              rw [j4] at this
              exact this
            have v7 : y7 = U.loa L0 176 8 := by
              have := inV_of hz7 g7 f7
              rw [j6] at this
              exact this
            have v8 : y8 = U.loa L0 184 8 := by
              have := inV_of hz8 g8 f8
              rw [j7] at this
              exact this
            have v10 : y10 = U.loa L0 208 32 := by
              have := inV_of hz10 g10 f10
              rw [j9] at this
              exact this
            have v11 : y11 = U.loa L0 240 32 := by
              have := inV_of hz11 g11 f11
              rw [j10] at this
              exact this
            have v12 : y12 = U.loa L0 272 16 := by
              have := inV_of hz12 g12 f12
              rw [j11] at this
              exact this
            have v13 : y13 = U.loa L0 288 16 := by
              have := inV_of hz13 g13 f13
              rw [j12] at this
              exact this
            have hsz : U.size y3 y8 0 = 42 := by rw [size_ip ht2]; rw [h17]; decide
            refine ⟨⟨v1, v2, v3⟩, fun h => absurd h ht, fun _ => ⟨rfl, rfl, rfl, rfl, rfl⟩, fun _ => ⟨v5, v7, v8, v10, v11⟩, fun h => absurd ht2 h, fun _ _ => ⟨v12, v13⟩, fun h => by rcases h with h | h; exact absurd ht2 h; exact absurd h hen, fun _ h => by omega, fun _ => ⟨rfl, rfl, rfl, rfl⟩, ?_, by omega⟩
            rw [hsz, hB]; unfold U.restB; rw [if_pos hok, j14]; rfl
          · intro dst' src' type' op' sha' spa' tha' tpa' fr' to' proto' ttl' id' sport' dport' seq' ack' flags' win' Bl' hR
            have hge := size_ge type' proto'
            have hlen := hR.len
            refine hbad ?_
            obtain ⟨u1, i1⟩ := stepFw ha1 he1 rfl (by omega)
            have j1 : a1 = 48 := by omega
            obtain ⟨u2, i2⟩ := stepFw ha2 he2 u1 (by omega)
            have j2 : a2 = 96 := by omega
            obtain ⟨u3, i3⟩ := stepFw ha3 he3 u2 (by omega)
            have j3 : a3 = 112 := by omega
            have tv : y3 = type' := by
              have := inV_of hz3 u2 (by omega)
              rw [j2] at this
              exact this.trans hR.eth.2.2.symm
            have ht3 : type' = 2048 := tv ▸ ht2
            have hsi := size_ip (p := proto') ht3
            have hen2 := en_bnd proto'
            obtain ⟨u4, i4⟩ := stepFw ha4 he4 u3 (by omega)
            have j4 : a4 = 144 := by omega
            obtain ⟨u5, i5⟩ := stepFw ha5 he5 u4 (by omega)
            have j5 : a5 = 160 := by omega
            obtain ⟨u6, i6⟩ := stepFw ha6 he6 u5 (by omega)
            have j6 : a6 = 176 := by omega
            obtain ⟨u7, i7⟩ := stepFw ha7 he7 u6 (by omega)
            have j7 : a7 = 184 := by omega
            obtain ⟨u8, i8⟩ := stepFw ha8 he8 u7 (by omega)
            have j8 : a8 = 192 := by omega
            have pv : y8 = proto' := by
              have := inV_of hz8 u7 (by omega)
              rw [j7] at this
              exact this.trans (hR.ip ht3).2.2.1.symm
            have hen3 : U.en proto' = 8 := by rw [← pv, h17]; decide
            obtain ⟨u9, i9⟩ := stepFw ha9 he9 u8 (by omega)
            have j9 : a9 = 208 := by omega
            obtain ⟨u10, i10⟩ := stepFw ha10 he10 u9 (by omega)
            have j10 : a10 = 240 := by omega
            obtain ⟨u11, i11⟩ := stepFw ha11 he11 u10 (by omega)
            have j11 : a11 = 272 := by omega
            obtain ⟨u12, i12⟩ := stepFw ha12 he12 u11 (by omega)
            have j12 : a12 = 288 := by omega
            obtain ⟨u13, i13⟩ := stepFw ha13 he13 u12 (by omega)
            have j13 : a13 = 304 := by omega
            obtain ⟨u14, i14⟩ := stepFw ha14 he14 u13 (by omega)
            have j14 : a14 = 336 := by omega
            exact u14
      · have h6 : y8 = 6 := en_six hen h17
        refine ⟨⟨hBy, hm, hl, bd13, by decide⟩, fun z14 a14 e14 hz14 ha14 he14 => ?_⟩
        have bz14 := inV32 hz14
        intro y14 hy14
        have hy14 := wu32 hy14 (by omega)
        subst hy14
        have bd14 := inA_bnd ha14 (by decide) bd13
        refine ⟨⟨hBy, hm, hl, bd14, by decide⟩, fun z15 a15 e15 hz15 ha15 he15 => ?_⟩
        have bz15 := inV32 hz15
        intro y15 hy15
        have hy15 := wu32 hy15 (by omega)
        subst hy15
        have bd15 := inA_bnd ha15 (by decide) bd14
        refine ⟨⟨hm, hl, bd15, by decide⟩, fun a16 e16 ha16 he16 => ?_⟩
        have bd16 := inA_bnd ha16 (by decide) bd15
        refine ⟨⟨hBy, hm, hl, bd16, by decide⟩, fun z17 a17 e17 hz17 ha17 he17 => ?_⟩
        have bz17 := inV8 hz17
        intro y17 hy17
        have hy17 := w64 hy17 (by omega)
        subst hy17
        have bd17 := inA_bnd ha17 (by decide) bd16
        refine ⟨⟨hBy, hm, hl, bd17, by decide⟩, fun z18 a18 e18 hz18 ha18 he18 => ?_⟩
        have bz18 := inV16 hz18
        intro y18 hy18
        have hy18 := w64 hy18 (by omega)
        subst hy18
        have bd18 := inA_bnd ha18 (by decide) bd17
        refine ⟨⟨hm, hl, bd18, by decide⟩, fun a19 e19 ha19 he19 => ?_⟩
        have bd19 := inA_bnd ha19 (by decide) bd18
        refine ⟨⟨hm, q2, hl, bd19, fun hal => ?_⟩, fun B kk cc pp ar hB hk hkc hcp hra => ?_⟩
        · skip
          obtain ⟨g19, i19, f19⟩ := stepOk ha19 he19 hal
          obtain ⟨g18, i18, f18⟩ := stepOk ha18 he18 g19
          obtain ⟨g17, i17, f17⟩ := stepOk ha17 he17 g18
          obtain ⟨g16, i16, f16⟩ := stepOk ha16 he16 g17
          obtain ⟨g15, i15, f15⟩ := stepOk ha15 he15 g16
          obtain ⟨g14, i14, f14⟩ := stepOk ha14 he14 g15
          obtain ⟨g13, i13, f13⟩ := stepOk ha13 he13 g14
          obtain ⟨g12, i12, f12⟩ := stepOk ha12 he12 g13
          obtain ⟨g11, i11, f11⟩ := stepOk ha11 he11 g12
          obtain ⟨g10, i10, f10⟩ := stepOk ha10 he10 g11
          obtain ⟨g9, i9, f9⟩ := stepOk ha9 he9 g10
          obtain ⟨g8, i8, f8⟩ := stepOk ha8 he8 g9
          obtain ⟨g7, i7, f7⟩ := stepOk ha7 he7 g8
          obtain ⟨g6, i6, f6⟩ := stepOk ha6 he6 g7
          obtain ⟨g5, i5, f5⟩ := stepOk ha5 he5 g6
          obtain ⟨g4, i4, f4⟩ := stepOk ha4 he4 g5
          obtain ⟨g3, i3, f3⟩ := stepOk ha3 he3 g4
          obtain ⟨g2, i2, f2⟩ := stepOk ha2 he2 g3
          obtain ⟨g1, i1, f1⟩ := stepOk ha1 he1 g2
          have j1 : a1 = 48 := by omega
          have j2 : a2 = 96 := by omega
          have j3 : a3 = 112 := by omega
          have j4 : a4 = 144 := by omega
          have j5 : a5 = 160 := by omega
          have j6 : a6 = 176 := by omega
          have j7 : a7 = 184 := by omega
          have j8 : a8 = 192 := by omega
          have j9 : a9 = 208 := by omega
          have j10 : a10 = 240 := by omega
          have j11 : a11 = 272 := by omega
          have j12 : a12 = 288 := by omega
          have j13 : a13 = 304 := by omega
          have j14 : a14 = 336 := by omega
          have j15 : a15 = 368 := by omega
          have j16 : a16 = 376 := by omega
          have j17 : a17 = 384 := by omega
          have j18 : a18 = 400 := by omega
          have j19 : a19 = 432 := by omega
          omega
        · repeat (first | refine ⟨rfl, ?_⟩ | refine ⟨⟨rfl, rfl, rfl⟩, ?_⟩)
          have hkin : U.Kin z1 z2 y3 0 0 0 0 0 y10 y11 y8 y7 y5 y12 y13 y14 y15 y17 y18 := ⟨⟨k48 bz1, k48 bz2, by decide, by decide⟩, ⟨by decide, by decide, bz10, bz11, bz14, bz15⟩, ⟨k64 bz3, by decide, k8 bz8, k8 bz7, k64 bz5, k64 bz12, k64 bz13, k8 bz17, k64 bz18⟩⟩
          have hbl : U.By B := hB ▸ restB_by hBy _ _
          refine ⟨fun hok => hT z1 z2 y3 0 0 0 0 0 y10 y11 y8 y7 y5 y12 y13 y14 y15 y17 y18 B kk cc pp ?_ hkin hbl hk hkc hcp, fun hbad => hN z1 z2 y3 0 0 0 0 0 y10 y11 y8 y7 y5 y12 y13 y14 y15 y17 y18 B kk cc pp ⟨?_⟩ hkin hbl hk hkc hcp⟩
          · skip
            obtain ⟨g19, i19, f19⟩ := stepOk ha19 he19 hok
            obtain ⟨g18, i18, f18⟩ := stepOk ha18 he18 g19
            obtain ⟨g17, i17, f17⟩ := stepOk ha17 he17 g18
            obtain ⟨g16, i16, f16⟩ := stepOk ha16 he16 g17
            obtain ⟨g15, i15, f15⟩ := stepOk ha15 he15 g16
            obtain ⟨g14, i14, f14⟩ := stepOk ha14 he14 g15
            obtain ⟨g13, i13, f13⟩ := stepOk ha13 he13 g14
            obtain ⟨g12, i12, f12⟩ := stepOk ha12 he12 g13
            obtain ⟨g11, i11, f11⟩ := stepOk ha11 he11 g12
            obtain ⟨g10, i10, f10⟩ := stepOk ha10 he10 g11
            obtain ⟨g9, i9, f9⟩ := stepOk ha9 he9 g10
            obtain ⟨g8, i8, f8⟩ := stepOk ha8 he8 g9
            obtain ⟨g7, i7, f7⟩ := stepOk ha7 he7 g8
            obtain ⟨g6, i6, f6⟩ := stepOk ha6 he6 g7
            obtain ⟨g5, i5, f5⟩ := stepOk ha5 he5 g6
            obtain ⟨g4, i4, f4⟩ := stepOk ha4 he4 g5
            obtain ⟨g3, i3, f3⟩ := stepOk ha3 he3 g4
            obtain ⟨g2, i2, f2⟩ := stepOk ha2 he2 g3
            obtain ⟨g1, i1, f1⟩ := stepOk ha1 he1 g2
            have j1 : a1 = 48 := by omega
            have j2 : a2 = 96 := by omega
            have j3 : a3 = 112 := by omega
            have j4 : a4 = 144 := by omega
            have j5 : a5 = 160 := by omega
            have j6 : a6 = 176 := by omega
            have j7 : a7 = 184 := by omega
            have j8 : a8 = 192 := by omega
            have j9 : a9 = 208 := by omega
            have j10 : a10 = 240 := by omega
            have j11 : a11 = 272 := by omega
            have j12 : a12 = 288 := by omega
            have j13 : a13 = 304 := by omega
            have j14 : a14 = 336 := by omega
            have j15 : a15 = 368 := by omega
            have j16 : a16 = 376 := by omega
            have j17 : a17 = 384 := by omega
            have j18 : a18 = 400 := by omega
            have j19 : a19 = 432 := by omega
            have v1 : z1 = U.loa L0 0 48 := by
              have := inV_of hz1 g1 f1
              exact this
            have v2 : z2 = U.loa L0 48 48 := by
              have := inV_of hz2 g2 f2
              rw [j1] at this
              exact this
            have v3 : y3 = U.loa L0 96 16 := by
              have := inV_of hz3 g3 f3
              rw [j2] at this
              exact this
            have v5 : y5 = U.loa L0 144 16 := by
              have := inV_of hz5 g5 f5
              rw [j4] at this
              exact this
            have v7 : y7 = U.loa L0 176 8 := by
              have := inV_of hz7 g7 f7
              rw [j6] at this
              exact this
            have v8 : y8 = U.loa L0 184 8 := by
              have := inV_of hz8 g8 f8
              rw [j7] at this
              exact this
            have v10 : y10 = U.loa L0 208 32 := by
              have := inV_of hz10 g10 f10
              rw [j9] at this
              exact this
            have v11 : y11 = U.loa L0 240 32 := by
              have := inV_of hz11 g11 f11
              rw [j10] at this
              exact this
            have v12 : y12 = U.loa L0 272 16 := by
              have := inV_of hz12 g12 f12
              rw [j11] at this
              exact this
            have v13 : y13 = U.loa L0 288 16 := by
              have := inV_of hz13 g13 f13
              rw [j12] at this
              exact this
            have v14 : y14 = U.loa L0 304 32 := by
              have := inV_of hz14 g14 f14
              rw [j13] at this
              exact this
            have v15 : y15 = U.loa L0 336 32 := by
              have := inV_of hz15 g15 f15
              rw [j14] at this
              exact this
            have v17 : y17 = U.loa L0 376 8 := by
              have := inV_of hz17 g17 f17
              rw [j16] at this
              exact this
            have v18 : y18 = U.loa L0 384 16 := by
              have := inV_of hz18 g18 f18
              rw [j17] at this
              exact this
            have hsz : U.size y3 y8 0 = 54 := by rw [size_ip ht2]; rw [h6]; decide
            refine ⟨⟨v1, v2, v3⟩, fun h => absurd h ht, fun _ => ⟨rfl, rfl, rfl, rfl, rfl⟩, fun _ => ⟨v5, v7, v8, v10, v11⟩, fun h => absurd ht2 h, fun _ _ => ⟨v12, v13⟩, fun h => by rcases h with h | h; exact absurd ht2 h; exact absurd h hen, fun _ _ => ⟨v14, v15, v17, v18⟩, fun h => by rcases h with h | h; exact absurd ht2 h; exact absurd h6 h, ?_, by omega⟩
            rw [hsz, hB]; unfold U.restB; rw [if_pos hok, j19]; rfl
          · intro dst' src' type' op' sha' spa' tha' tpa' fr' to' proto' ttl' id' sport' dport' seq' ack' flags' win' Bl' hR
            have hge := size_ge type' proto'
            have hlen := hR.len
            refine hbad ?_
            obtain ⟨u1, i1⟩ := stepFw ha1 he1 rfl (by omega)
            have j1 : a1 = 48 := by omega
            obtain ⟨u2, i2⟩ := stepFw ha2 he2 u1 (by omega)
            have j2 : a2 = 96 := by omega
            obtain ⟨u3, i3⟩ := stepFw ha3 he3 u2 (by omega)
            have j3 : a3 = 112 := by omega
            have tv : y3 = type' := by
              have := inV_of hz3 u2 (by omega)
              rw [j2] at this
              exact this.trans hR.eth.2.2.symm
            have ht3 : type' = 2048 := tv ▸ ht2
            have hsi := size_ip (p := proto') ht3
            have hen2 := en_bnd proto'
            obtain ⟨u4, i4⟩ := stepFw ha4 he4 u3 (by omega)
            have j4 : a4 = 144 := by omega
            obtain ⟨u5, i5⟩ := stepFw ha5 he5 u4 (by omega)
            have j5 : a5 = 160 := by omega
            obtain ⟨u6, i6⟩ := stepFw ha6 he6 u5 (by omega)
            have j6 : a6 = 176 := by omega
            obtain ⟨u7, i7⟩ := stepFw ha7 he7 u6 (by omega)
            have j7 : a7 = 184 := by omega
            obtain ⟨u8, i8⟩ := stepFw ha8 he8 u7 (by omega)
            have j8 : a8 = 192 := by omega
            have pv : y8 = proto' := by
              have := inV_of hz8 u7 (by omega)
              rw [j7] at this
              exact this.trans (hR.ip ht3).2.2.1.symm
            have hen3 : U.en proto' = 20 := by rw [← pv, h6]; decide
            obtain ⟨u9, i9⟩ := stepFw ha9 he9 u8 (by omega)
            have j9 : a9 = 208 := by omega
            obtain ⟨u10, i10⟩ := stepFw ha10 he10 u9 (by omega)
            have j10 : a10 = 240 := by omega
            obtain ⟨u11, i11⟩ := stepFw ha11 he11 u10 (by omega)
            have j11 : a11 = 272 := by omega
            obtain ⟨u12, i12⟩ := stepFw ha12 he12 u11 (by omega)
            have j12 : a12 = 288 := by omega
            obtain ⟨u13, i13⟩ := stepFw ha13 he13 u12 (by omega)
            have j13 : a13 = 304 := by omega
            obtain ⟨u14, i14⟩ := stepFw ha14 he14 u13 (by omega)
            have j14 : a14 = 336 := by omega
            obtain ⟨u15, i15⟩ := stepFw ha15 he15 u14 (by omega)
            have j15 : a15 = 368 := by omega
            obtain ⟨u16, i16⟩ := stepFw ha16 he16 u15 (by omega)
            have j16 : a16 = 376 := by omega
            obtain ⟨u17, i17⟩ := stepFw ha17 he17 u16 (by omega)
            have j17 : a17 = 384 := by omega
            obtain ⟨u18, i18⟩ := stepFw ha18 he18 u17 (by omega)
            have j18 : a18 = 400 := by omega
            obtain ⟨u19, i19⟩ := stepFw ha19 he19 u18 (by omega)
            have j19 : a19 = 432 := by omega
            exact u19
  · skip
    refine ⟨⟨hm, q2, hl, bd3, fun hal => ?_⟩, fun B kk cc pp ar hB hk hkc hcp hra => ?_⟩
    · skip
      obtain ⟨g3, i3, f3⟩ := stepOk ha3 he3 hal
      obtain ⟨g2, i2, f2⟩ := stepOk ha2 he2 g3
      obtain ⟨g1, i1, f1⟩ := stepOk ha1 he1 g2
      have j1 : a1 = 48 := by omega
      have j2 : a2 = 96 := by omega
      have j3 : a3 = 112 := by omega
      omega
    · repeat (first | refine ⟨rfl, ?_⟩ | refine ⟨⟨rfl, rfl, rfl⟩, ?_⟩)
      have hkin : U.Kin z1 z2 y3 0 0 0 0 0 0 0 0 0 0 0 0 0 0 0 0 := ⟨⟨k48 bz1, k48 bz2, by decide, by decide⟩, ⟨by decide, by decide, by decide, by decide, by decide, by decide⟩, ⟨k64 bz3, by decide, by decide, by decide, by decide, by decide, by decide, by decide, by decide⟩⟩
      have hbl : U.By B := hB ▸ restB_by hBy _ _
      refine ⟨fun hok => hT z1 z2 y3 0 0 0 0 0 0 0 0 0 0 0 0 0 0 0 0 B kk cc pp ?_ hkin hbl hk hkc hcp, fun hbad => hN z1 z2 y3 0 0 0 0 0 0 0 0 0 0 0 0 0 0 0 0 B kk cc pp ⟨?_⟩ hkin hbl hk hkc hcp⟩
      · skip
        obtain ⟨g3, i3, f3⟩ := stepOk ha3 he3 hok
        obtain ⟨g2, i2, f2⟩ := stepOk ha2 he2 g3
        obtain ⟨g1, i1, f1⟩ := stepOk ha1 he1 g2
        have j1 : a1 = 48 := by omega
        have j2 : a2 = 96 := by omega
        have j3 : a3 = 112 := by omega
        have v1 : z1 = U.loa L0 0 48 := by
          have := inV_of hz1 g1 f1
          exact this
        have v2 : z2 = U.loa L0 48 48 := by
          have := inV_of hz2 g2 f2
          rw [j1] at this
          exact this
        have v3 : y3 = U.loa L0 96 16 := by
          have := inV_of hz3 g3 f3
          rw [j2] at this
          exact this
        have hsz : U.size y3 0 0 = 14 := size_no ht ht2
        refine ⟨⟨v1, v2, v3⟩, fun h => absurd h ht, fun _ => ⟨rfl, rfl, rfl, rfl, rfl⟩, fun h => absurd h ht2, fun _ => ⟨rfl, rfl, rfl, rfl, rfl⟩, fun h => absurd h ht2, fun _ => ⟨rfl, rfl⟩, fun h => absurd h ht2, fun _ => ⟨rfl, rfl, rfl, rfl⟩, ?_, by omega⟩
        rw [hsz, hB]; unfold U.restB; rw [if_pos hok, j3]; rfl
      · intro dst' src' type' op' sha' spa' tha' tpa' fr' to' proto' ttl' id' sport' dport' seq' ack' flags' win' Bl' hR
        have hge := size_ge type' proto'
        have hlen := hR.len
        refine hbad ?_
        obtain ⟨u1, i1⟩ := stepFw ha1 he1 rfl (by omega)
        have j1 : a1 = 48 := by omega
        obtain ⟨u2, i2⟩ := stepFw ha2 he2 u1 (by omega)
        have j2 : a2 = 96 := by omega
        obtain ⟨u3, i3⟩ := stepFw ha3 he3 u2 (by omega)
        have j3 : a3 = 112 := by omega
        have tv : y3 = type' := by
          have := inV_of hz3 u2 (by omega)
          rw [j2] at this
          exact this.trans hR.eth.2.2.symm
        exact u3
set_option maxHeartbeats 4000000 in
theorem readF_run (K : AV → St → Prop) (L : List Int) (m c cap : Nat) (hBy : U.By L) (hm : m = L.length) (hl : L.length ≤ 16777216)
    (hT : ∀ (dst src type op sha spa tha tpa fr to proto ttl id sport dport seq ack flags win : Int) (Bl : List Int) (k c' cap' : Nat), U.RdOk L dst src type op sha spa tha tpa fr to proto ttl id sport dport seq ack flags win Bl → U.Kin dst src type op sha spa tha tpa fr to proto ttl id sport dport seq ack flags win → U.By Bl → k = Bl.length → k ≤ c' → c' ≤ cap' → K (rdV dst src type op sha spa tha tpa fr to proto ttl id sport dport seq ack flags win k c' true) ⟨[], [], 0, [some (bs L cap false), some (bs Bl cap' false)], 0⟩)
    (hN : ∀ (dst src type op sha spa tha tpa fr to proto ttl id sport dport seq ack flags win : Int) (Bl : List Int) (k c' cap' : Nat), U.RdNo L → U.Kin dst src type op sha spa tha tpa fr to proto ttl id sport dport seq ack flags win → U.By Bl → k = Bl.length → k ≤ c' → c' ≤ cap' → K (rdV dst src type op sha spa tha tpa fr to proto ttl id sport dport seq ack flags win k c' false) ⟨[], [], 0, [some (bs L cap false), some (bs Bl cap' false)], 0⟩) :
    runI inv0 tFD 29 [cell (aslC ⟨0, 0, m, c⟩)] (ar [bs L cap false]) K := by
  rw [readF_vc]
  refine ⟨⟨by show 0 + m ≤ L.length; omega, by omega⟩, fun L0 c1 p1 q1 q2 q3 => ?_⟩
  have e0 : L0 = L := by rw [q1, hm]; show List.take L.length (List.drop 0 L) = L; simp
  clear q1; subst e0
  have bd0 : (0 : Int) ≤ 0 ∧ (0 : Int) ≤ 8 * (L0.length : Int) := by omega
  refine ⟨⟨hBy, hm, hl, bd0, by decide⟩, fun z1 a1 e1 hz1 ha1 he1 => ?_⟩
  have bz1 := inV48 hz1
  have bd1 := inA_bnd ha1 (by decide) bd0
  refine ⟨⟨hBy, hm, hl, bd1, by decide⟩, fun z2 a2 e2 hz2 ha2 he2 => ?_⟩
  have bz2 := inV48 hz2
  have bd2 := inA_bnd ha2 (by decide) bd1
  refine ⟨⟨hBy, hm, hl, bd2, by decide⟩, fun z3 a3 e3 hz3 ha3 he3 => ?_⟩
  have bz3 := inV16 hz3
  intro y3 hy3
  have hy3 := w64 hy3 (by omega)
  subst hy3
  have bd3 := inA_bnd ha3 (by decide) bd2
  refine ⟨fun ht => ?_, fun ht => ⟨fun ht2 => ?_, fun ht2 => ?_⟩⟩
  · skip
    refine ⟨⟨hm, hl, bd3, by decide⟩, fun a4 e4 ha4 he4 => ?_⟩
    have bd4 := inA_bnd ha4 (by decide) bd3
    refine ⟨⟨hBy, hm, hl, bd4, by decide⟩, fun z5 a5 e5 hz5 ha5 he5 => ?_⟩
    have bz5 := inV16 hz5
    intro y5 hy5
    have hy5 := w64 hy5 (by omega)
    subst hy5
    have bd5 := inA_bnd ha5 (by decide) bd4
    refine ⟨⟨hBy, hm, hl, bd5, by decide⟩, fun z6 a6 e6 hz6 ha6 he6 => ?_⟩
    have bz6 := inV48 hz6
    have bd6 := inA_bnd ha6 (by decide) bd5
    refine ⟨⟨hBy, hm, hl, bd6, by decide⟩, fun z7 a7 e7 hz7 ha7 he7 => ?_⟩
    have bz7 := inV32 hz7
    intro y7 hy7
    have hy7 := wu32 hy7 (by omega)
    subst hy7
    have bd7 := inA_bnd ha7 (by decide) bd6
    refine ⟨⟨hBy, hm, hl, bd7, by decide⟩, fun z8 a8 e8 hz8 ha8 he8 => ?_⟩
    have bz8 := inV48 hz8
    have bd8 := inA_bnd ha8 (by decide) bd7
    refine ⟨⟨hBy, hm, hl, bd8, by decide⟩, fun z9 a9 e9 hz9 ha9 he9 => ?_⟩
    have bz9 := inV32 hz9
    intro y9 hy9
    have hy9 := wu32 hy9 (by omega)
    subst hy9
    have bd9 := inA_bnd ha9 (by decide) bd8
    refine ⟨⟨hm, q2, hl, bd9, fun hal => ?_⟩, fun B kk cc pp ar hB hk hkc hcp hra => ?_⟩
    · skip
      obtain ⟨g9, i9, f9⟩ := stepOk ha9 he9 hal
      obtain ⟨g8, i8, f8⟩ := stepOk ha8 he8 g9
      obtain ⟨g7, i7, f7⟩ := stepOk ha7 he7 g8
      obtain ⟨g6, i6, f6⟩ := stepOk ha6 he6 g7
      obtain ⟨g5, i5, f5⟩ := stepOk ha5 he5 g6
      obtain ⟨g4, i4, f4⟩ := stepOk ha4 he4 g5
      obtain ⟨g3, i3, f3⟩ := stepOk ha3 he3 g4
      obtain ⟨g2, i2, f2⟩ := stepOk ha2 he2 g3
      obtain ⟨g1, i1, f1⟩ := stepOk ha1 he1 g2
      have j1 : a1 = 48 := by omega
      have j2 : a2 = 96 := by omega
      have j3 : a3 = 112 := by omega
      have j4 : a4 = 160 := by omega
      have j5 : a5 = 176 := by omega
      have j6 : a6 = 224 := by omega
      have j7 : a7 = 256 := by omega
      have j8 : a8 = 304 := by omega
      have j9 : a9 = 336 := by omega
      omega
    · repeat (first | refine ⟨rfl, ?_⟩ | refine ⟨⟨rfl, rfl, rfl⟩, ?_⟩)
      have hkin : U.Kin z1 z2 y3 y5 z6 y7 z8 y9 0 0 0 0 0 0 0 0 0 0 0 := ⟨⟨k48 bz1, k48 bz2, k48 bz6, k48 bz8⟩, ⟨bz7, bz9, by decide, by decide, by decide, by decide⟩, ⟨k64 bz3, k64 bz5, by decide, by decide, by decide, by decide, by decide, by decide, by decide⟩⟩
      have hbl : U.By B := hB ▸ restB_by hBy _ _
      refine ⟨fun hok => hT z1 z2 y3 y5 z6 y7 z8 y9 0 0 0 0 0 0 0 0 0 0 0 B kk cc pp ?_ hkin hbl hk hkc hcp, fun hbad => hN z1 z2 y3 y5 z6 y7 z8 y9 0 0 0 0 0 0 0 0 0 0 0 B kk cc pp ⟨?_⟩ hkin hbl hk hkc hcp⟩
      · skip
        obtain ⟨g9, i9, f9⟩ := stepOk ha9 he9 hok
        obtain ⟨g8, i8, f8⟩ := stepOk ha8 he8 g9
        obtain ⟨g7, i7, f7⟩ := stepOk ha7 he7 g8
        obtain ⟨g6, i6, f6⟩ := stepOk ha6 he6 g7
        obtain ⟨g5, i5, f5⟩ := stepOk ha5 he5 g6
        obtain ⟨g4, i4, f4⟩ := stepOk ha4 he4 g5
        obtain ⟨g3, i3, f3⟩ := stepOk ha3 he3 g4
        obtain ⟨g2, i2, f2⟩ := stepOk ha2 he2 g3
        obtain ⟨g1, i1, f1⟩ := stepOk ha1 he1 g2
        have j1 : a1 = 48 := by omega
        have j2 : a2 = 96 := by omega
        have j3 : a3 = 112 := by omega
        have j4 : a4 = 160 := by omega
        have j5 : a5 = 176 := by omega
        have j6 : a6 = 224 := by omega
        have j7 : a7 = 256 := by omega
        have j8 : a8 = 304 := by omega
        have j9 : a9 = 336 := by omega
        have v1 : z1 = U.loa L0 0 48 := by
          have := inV_of hz1 g1 f1
          exact this
        have v2 : z2 = U.loa L0 48 48 := by
          have := inV_of hz2 g2 f2
          rw [j1] at this
          exact this
        have v3 : y3 = U.loa L0 96 16 := by
          have := inV_of hz3 g3 f3
          rw [j2] at this
          exact this
        have v5 : y5 = U.loa L0 160 16 := by
          have := inV_of hz5 g5 f5
          rw [j4] at this
          exact this
        have v6 : z6 = U.loa L0 176 48 := by
          have := inV_of hz6 g6 f6
          rw [j5] at this
          exact this
        have v7 : y7 = U.loa L0 224 32 := by
          have := inV_of hz7 g7 f7
          rw [j6] at this
          exact this
        have v8 : z8 = U.loa L0 256 48 := by
          have := inV_of hz8 g8 f8
          rw [j7] at this
          exact this
        have v9 : y9 = U.loa L0 304 32 := by
          have := inV_of hz9 g9 f9
          rw [j8] at this
          exact this
        have hsz : U.size y3 0 0 = 42 := size_arp ht
        refine ⟨⟨v1, v2, v3⟩, fun _ => ⟨v5, v6, v7, v8, v9⟩, fun h => absurd ht h, fun h => by omega, fun _ => ⟨rfl, rfl, rfl, rfl, rfl⟩, fun h => by omega, fun _ => ⟨rfl, rfl⟩, fun h => by omega, fun _ => ⟨rfl, rfl, rfl, rfl⟩, ?_, by omega⟩
        rw [hsz, hB]; unfold U.restB; rw [if_pos hok, j9]; rfl
      · intro dst' src' type' op' sha' spa' tha' tpa' fr' to' proto' ttl' id' sport' dport' seq' ack' flags' win' Bl' hR
        have hge := size_ge type' proto'
        have hlen := hR.len
        refine hbad ?_
        obtain ⟨u1, i1⟩ := stepFw ha1 he1 rfl (by omega)
        have j1 : a1 = 48 := by omega
        obtain ⟨u2, i2⟩ := stepFw ha2 he2 u1 (by omega)
        have j2 : a2 = 96 := by omega
        obtain ⟨u3, i3⟩ := stepFw ha3 he3 u2 (by omega)
        have j3 : a3 = 112 := by omega
        have tv : y3 = type' := by
          have := inV_of hz3 u2 (by omega)
          rw [j2] at this
          exact this.trans hR.eth.2.2.symm
        have := size_arp (p := proto') (tv ▸ ht)
        obtain ⟨u4, i4⟩ := stepFw ha4 he4 u3 (by omega)
        have j4 : a4 = 160 := by omega
        obtain ⟨u5, i5⟩ := stepFw ha5 he5 u4 (by omega)
        have j5 : a5 = 176 := by omega
        obtain ⟨u6, i6⟩ := stepFw ha6 he6 u5 (by omega)
        have j6 : a6 = 224 := by omega
        obtain ⟨u7, i7⟩ := stepFw ha7 he7 u6 (by omega)
        have j7 : a7 = 256 := by omega
        obtain ⟨u8, i8⟩ := stepFw ha8 he8 u7 (by omega)
        have j8 : a8 = 304 := by omega
        obtain ⟨u9, i9⟩ := stepFw ha9 he9 u8 (by omega)
        have j9 : a9 = 336 := by omega
        exact u9
  · skip
    refine ⟨⟨hm, hl, bd3, by decide⟩, fun a4 e4 ha4 he4 => ?_⟩
    have bd4 := inA_bnd ha4 (by decide) bd3
    refine ⟨⟨hBy, hm, hl, bd4, by decide⟩, fun z5 a5 e5 hz5 ha5 he5 => ?_⟩
    have bz5 := inV16 hz5
    intro y5 hy5
    have hy5 := w64 hy5 (by omega)
    subst hy5
    have bd5 := inA_bnd ha5 (by decide) bd4
    refine ⟨⟨hm, hl, bd5, by decide⟩, fun a6 e6 ha6 he6 => ?_⟩
    have bd6 := inA_bnd ha6 (by decide) bd5
    refine ⟨⟨hBy, hm, hl, bd6, by decide⟩, fun z7 a7 e7 hz7 ha7 he7 => ?_⟩
    have bz7 := inV8 hz7
    intro y7 hy7
    have hy7 := w64 hy7 (by omega)
    subst hy7
    have bd7 := inA_bnd ha7 (by decide) bd6
    refine ⟨⟨hBy, hm, hl, bd7, by decide⟩, fun z8 a8 e8 hz8 ha8 he8 => ?_⟩
    have bz8 := inV8 hz8
    intro y8 hy8
    have hy8 := w64 hy8 (by omega)
    subst hy8
    have bd8 := inA_bnd ha8 (by decide) bd7
    refine ⟨⟨hm, hl, bd8, by decide⟩, fun a9 e9 ha9 he9 => ?_⟩
    have bd9 := inA_bnd ha9 (by decide) bd8
    refine ⟨⟨hBy, hm, hl, bd9, by decide⟩, fun z10 a10 e10 hz10 ha10 he10 => ?_⟩
    have bz10 := inV32 hz10
    intro y10 hy10
    have hy10 := wu32 hy10 (by omega)
    subst hy10
    have bd10 := inA_bnd ha10 (by decide) bd9
    refine ⟨⟨hBy, hm, hl, bd10, by decide⟩, fun z11 a11 e11 hz11 ha11 he11 => ?_⟩
    have bz11 := inV32 hz11
    intro y11 hy11
    have hy11 := wu32 hy11 (by omega)
    subst hy11
    have bd11 := inA_bnd ha11 (by decide) bd10
    intro an bn han hbn
    refine ⟨fun hn0 => ?_, fun hn0 => ?_⟩
    · have hen : U.en y8 = 0 := han ▸ hn0
      refine ⟨⟨hm, q2, hl, bd11, fun hal => ?_⟩, fun B kk cc pp ar hB hk hkc hcp hra => ?_⟩
      · skip
        obtain ⟨g11, i11, f11⟩ := stepOk ha11 he11 hal
        obtain ⟨g10, i10, f10⟩ := stepOk ha10 he10 g11
        obtain ⟨g9, i9, f9⟩ := stepOk ha9 he9 g10
        obtain ⟨g8, i8, f8⟩ := stepOk ha8 he8 g9
        obtain ⟨g7, i7, f7⟩ := stepOk ha7 he7 g8
        obtain ⟨g6, i6, f6⟩ := stepOk ha6 he6 g7
        obtain ⟨g5, i5, f5⟩ := stepOk ha5 he5 g6
        obtain ⟨g4, i4, f4⟩ := stepOk ha4 he4 g5
        obtain ⟨g3, i3, f3⟩ := stepOk ha3 he3 g4
        obtain ⟨g2, i2, f2⟩ := stepOk ha2 he2 g3
        obtain ⟨g1, i1, f1⟩ := stepOk ha1 he1 g2
        have j1 : a1 = 48 := by omega
        have j2 : a2 = 96 := by omega
        have j3 : a3 = 112 := by omega
        have j4 : a4 = 144 := by omega
        have j5 : a5 = 160 := by omega
        have j6 : a6 = 176 := by omega
        have j7 : a7 = 184 := by omega
        have j8 : a8 = 192 := by omega
        have j9 : a9 = 208 := by omega
        have j10 : a10 = 240 := by omega
        have j11 : a11 = 272 := by omega
        omega
      · repeat (first | refine ⟨rfl, ?_⟩ | refine ⟨⟨rfl, rfl, rfl⟩, ?_⟩)
        have hkin : U.Kin z1 z2 y3 0 0 0 0 0 y10 y11 y8 y7 y5 0 0 0 0 0 0 := ⟨⟨k48 bz1, k48 bz2, by decide, by decide⟩, ⟨by decide, by decide, bz10, bz11, by decide, by decide⟩, ⟨k64 bz3, by decide, k8 bz8, k8 bz7, k64 bz5, by decide, by decide, by decide, by decide⟩⟩
        have hbl : U.By B := hB ▸ restB_by hBy _ _
        refine ⟨fun hok => hT z1 z2 y3 0 0 0 0 0 y10 y11 y8 y7 y5 0 0 0 0 0 0 B kk cc pp ?_ hkin hbl hk hkc hcp, fun hbad => hN z1 z2 y3 0 0 0 0 0 y10 y11 y8 y7 y5 0 0 0 0 0 0 B kk cc pp ⟨?_⟩ hkin hbl hk hkc hcp⟩
        · skip
          obtain ⟨g11, i11, f11⟩ := stepOk ha11 he11 hok
          obtain ⟨g10, i10, f10⟩ := stepOk ha10 he10 g11
          obtain ⟨g9, i9, f9⟩ := stepOk ha9 he9 g10
          obtain ⟨g8, i8, f8⟩ := stepOk ha8 he8 g9
          obtain ⟨g7, i7, f7⟩ := stepOk ha7 he7 g8
          obtain ⟨g6, i6, f6⟩ := stepOk ha6 he6 g7
          obtain ⟨g5, i5, f5⟩ := stepOk ha5 he5 g6
          obtain ⟨g4, i4, f4⟩ := stepOk ha4 he4 g5
          obtain ⟨g3, i3, f3⟩ := stepOk ha3 he3 g4
          obtain ⟨g2, i2, f2⟩ := stepOk ha2 he2 g3
          obtain ⟨g1, i1, f1⟩ := stepOk ha1 he1 g2
          have j1 : a1 = 48 := by omega
          have j2 : a2 = 96 := by omega
          have j3 : a3 = 112 := by omega
          have j4 : a4 = 144 := by omega
          have j5 : a5 = 160 := by omega
          have j6 : a6 = 176 := by omega
          have j7 : a7 = 184 := by omega
          have j8 : a8 = 192 := by omega
          have j9 : a9 = 208 := by omega
          have j10 : a10 = 240 := by omega
          have j11 : a11 = 272 := by omega
          have v1 : z1 = U.loa L0 0 48 := by
            have := inV_of hz1 g1 f1
            exact this
          have v2 : z2 = U.loa L0 48 48 := by
            have := inV_of hz2 g2 f2
            rw [j1] at this
            exact this
          have v3 : y3 = U.loa L0 96 16 := by
            have := inV_of hz3 g3 f3
            rw [j2] at this
            exact this
          have v5 : y5 = U.loa L0 144 16 := by
            have := inV_of hz5 g5 f5
            rw [j4] at this
            exact this
          have v7 : y7 = U.loa L0 176 8 := by
            have := inV_of hz7 g7 f7
            rw [j6] at this
            exact this
          have v8 : y8 = U.loa L0 184 8 := by
            have := inV_of hz8 g8 f8
            rw [j7] at this
            exact this
          have v10 : y10 = U.loa L0 208 32 := by
            have := inV_of hz10 g10 f10
            rw [j9] at this
            exact this
          have v11 : y11 = U.loa L0 240 32 := by
            have := inV_of hz11 g11 f11
            rw [j10] at this
            exact this
          have hsz : U.size y3 y8 0 = 34 := by rw [size_ip ht2]; rw [hen]; rfl
          refine ⟨⟨v1, v2, v3⟩, fun h => absurd h ht, fun _ => ⟨rfl, rfl, rfl, rfl, rfl⟩, fun _ => ⟨v5, v7, v8, v10, v11⟩, fun h => absurd ht2 h, fun _ h => absurd hen h, fun _ => ⟨rfl, rfl⟩, fun _ h => by rw [h] at hen; exact absurd hen (by decide), fun _ => ⟨rfl, rfl, rfl, rfl⟩, ?_, by omega⟩
          rw [hsz, hB]; unfold U.restB; rw [if_pos hok, j11]; rfl
        · intro dst' src' type' op' sha' spa' tha' tpa' fr' to' proto' ttl' id' sport' dport' seq' ack' flags' win' Bl' hR
          have hge := size_ge type' proto'
          have hlen := hR.len
          refine hbad ?_
          obtain ⟨u1, i1⟩ := stepFw ha1 he1 rfl (by omega)
          have j1 : a1 = 48 := by omega
          obtain ⟨u2, i2⟩ := stepFw ha2 he2 u1 (by omega)
          have j2 : a2 = 96 := by omega
          obtain ⟨u3, i3⟩ := stepFw ha3 he3 u2 (by omega)
          have j3 : a3 = 112 := by omega
          have tv : y3 = type' := by
            have := inV_of hz3 u2 (by omega)
            rw [j2] at this
            exact this.trans hR.eth.2.2.symm
          have ht3 : type' = 2048 := tv ▸ ht2
          have hsi := size_ip (p := proto') ht3
          have hen2 := en_bnd proto'
          obtain ⟨u4, i4⟩ := stepFw ha4 he4 u3 (by omega)
          have j4 : a4 = 144 := by omega
          obtain ⟨u5, i5⟩ := stepFw ha5 he5 u4 (by omega)
          have j5 : a5 = 160 := by omega
          obtain ⟨u6, i6⟩ := stepFw ha6 he6 u5 (by omega)
          have j6 : a6 = 176 := by omega
          obtain ⟨u7, i7⟩ := stepFw ha7 he7 u6 (by omega)
          have j7 : a7 = 184 := by omega
          obtain ⟨u8, i8⟩ := stepFw ha8 he8 u7 (by omega)
          have j8 : a8 = 192 := by omega
          obtain ⟨u9, i9⟩ := stepFw ha9 he9 u8 (by omega)
          have j9 : a9 = 208 := by omega
          obtain ⟨u10, i10⟩ := stepFw ha10 he10 u9 (by omega)
          have j10 : a10 = 240 := by omega
          obtain ⟨u11, i11⟩ := stepFw ha11 he11 u10 (by omega)
          have j11 : a11 = 272 := by omega
          exact u11
    · have hen : ¬ U.en y8 = 0 := han ▸ hn0
      refine ⟨⟨hBy, hm, hl, bd11, by decide⟩, fun z12 a12 e12 hz12 ha12 he12 => ?_⟩
      have bz12 := inV16 hz12
      intro y12 hy12
      have hy12 := w64 hy12 (by omega)
      subst hy12
      have bd12 := inA_bnd ha12 (by decide) bd11
      refine ⟨⟨hBy, hm, hl, bd12, by decide⟩, fun z13 a13 e13 hz13 ha13 he13 => ?_⟩
      have bz13 := inV16 hz13
      intro y13 hy13
      have hy13 := w64 hy13 (by omega)
      subst hy13
      have bd13 := inA_bnd ha13 (by decide) bd12
      refine ⟨fun h17 => ?_, fun h17 => ?_⟩
      · skip
        refine ⟨⟨hm, hl, bd13, by decide⟩, fun a14 e14 ha14 he14 => ?_⟩
        have bd14 := inA_bnd ha14 (by decide) bd13
        refine ⟨⟨hm, q2, hl, bd14, fun hal => ?_⟩, fun B kk cc pp ar hB hk hkc hcp hra => ?_⟩
        · skip
          obtain ⟨g14, i14, f14⟩ := stepOk ha14 he14 hal
          obtain ⟨g13, i13, f13⟩ := stepOk ha13 he13 g14
          obtain ⟨g12, i12, f12⟩ := stepOk ha12 he12 g13
          obtain ⟨g11, i11, f11⟩ := stepOk ha11 he11 g12
          obtain ⟨g10, i10, f10⟩ := stepOk ha10 he10 g11
          obtain ⟨g9, i9, f9⟩ := stepOk ha9 he9 g10
          obtain ⟨g8, i8, f8⟩ := stepOk ha8 he8 g9
          obtain ⟨g7, i7, f7⟩ := stepOk ha7 he7 g8
          obtain ⟨g6, i6, f6⟩ := stepOk ha6 he6 g7
          obtain ⟨g5, i5, f5⟩ := stepOk ha5 he5 g6
          obtain ⟨g4, i4, f4⟩ := stepOk ha4 he4 g5
          obtain ⟨g3, i3, f3⟩ := stepOk ha3 he3 g4
          obtain ⟨g2, i2, f2⟩ := stepOk ha2 he2 g3
          obtain ⟨g1, i1, f1⟩ := stepOk ha1 he1 g2
          have j1 : a1 = 48 := by omega
          have j2 : a2 = 96 := by omega
          have j3 : a3 = 112 := by omega
          have j4 : a4 = 144 := by omega
          have j5 : a5 = 160 := by omega
          have j6 : a6 = 176 := by omega
          have j7 : a7 = 184 := by omega
          have j8 : a8 = 192 := by omega
          have j9 : a9 = 208 := by omega
          have j10 : a10 = 240 := by omega
          have j11 : a11 = 272 := by omega
          have j12 : a12 = 288 := by omega
          have j13 : a13 = 304 := by omega
          have j14 : a14 = 336 := by omega
          omega
        · repeat (first | refine ⟨rfl, ?_⟩ | refine ⟨⟨rfl, rfl, rfl⟩, ?_⟩)
          have hkin : U.Kin z1 z2 y3 0 0 0 0 0 y10 y11 y8 y7 y5 y12 y13 0 0 0 0 := ⟨⟨k48 bz1, k48 bz2, by decide, by decide⟩, ⟨by decide, by decide, bz10, bz11, by decide, by decide⟩, ⟨k64 bz3, by decide, k8 bz8, k8 bz7, k64 bz5, k64 bz12, k64 bz13, by decide, by decide⟩⟩
          have hbl : U.By B := hB ▸ restB_by hBy _ _
          refine ⟨fun hok => hT z1 z2 y3 0 0 0 0 0 y10 y11 y8 y7 y5 y12 y13 0 0 0 0 B kk cc pp ?_ hkin hbl hk hkc hcp, fun hbad => hN z1 z2 y3 0 0 0 0 0 y10 y11 y8 y7 y5 y12 y13 0 0 0 0 B kk cc pp ⟨?_⟩ hkin hbl hk hkc hcp⟩
          · skip
            obtain ⟨g14, i14, f14⟩ := stepOk ha14 he14 hok
            obtain ⟨g13, i13, f13⟩ := stepOk ha13 he13 g14
            obtain ⟨g12, i12, f12⟩ := stepOk ha12 he12 g13
            obtain ⟨g11, i11, f11⟩ := stepOk ha11 he11 g12
            obtain ⟨g10, i10, f10⟩ := stepOk ha10 he10 g11
            obtain ⟨g9, i9, f9⟩ := stepOk ha9 he9 g10
            obtain ⟨g8, i8, f8⟩ := stepOk ha8 he8 g9
            obtain ⟨g7, i7, f7⟩ := stepOk ha7 he7 g8
            obtain ⟨g6, i6, f6⟩ := stepOk ha6 he6 g7
            obtain ⟨g5, i5, f5⟩ := stepOk ha5 he5 g6
            obtain ⟨g4, i4, f4⟩ := stepOk ha4 he4 g5
            obtain ⟨g3, i3, f3⟩ := stepOk ha3 he3 g4
            obtain ⟨g2, i2, f2⟩ := stepOk ha2 he2 g3
            obtain ⟨g1, i1, f1⟩ := stepOk ha1 he1 g2
            have j1 : a1 = 48 := by omega
            have j2 : a2 = 96 := by omega
            have j3 : a3 = 112 := by omega
            have j4 : a4 = 144 := by omega
            have j5 : a5 = 160 := by omega
            have j6 : a6 = 176 := by omega
            have j7 : a7 = 184 := by omega
            have j8 : a8 = 192 := by omega
            have j9 : a9 = 208 := by omega
            have j10 : a10 = 240 := by omega
            have j11 : a11 = 272 := by omega
            have j12 : a12 = 288 := by omega
            have j13 : a13 = 304 := by omega
            have j14 : a14 = 336 := by omega
            have v1 : z1 = U.loa L0 0 48 := by
              have := inV_of hz1 g1 f1
              exact this
            have v2 : z2 = U.loa L0 48 48 := by
              have := inV_of hz2 g2 f2
              rw [j1] at this
              exact this
            have v3 : y3 = U.loa L0 96 16 := by
              have := inV_of hz3 g3 f3
              rw [j2] at this
              exact this
            have v5 : y5 = U.loa L0 144 16 := by
              have := inV_of hz5 g5 f5
              rw [j4] at this
              exact this
            have v7 : y7 = U.loa L0 176 8 := by
              have := inV_of hz7 g7 f7
              rw [j6] at this
              exact this
            have v8 : y8 = U.loa L0 184 8 := by
              have := inV_of hz8 g8 f8
              rw [j7] at this
              exact this
            have v10 : y10 = U.loa L0 208 32 := by
              have := inV_of hz10 g10 f10
              rw [j9] at this
              exact this
            have v11 : y11 = U.loa L0 240 32 := by
              have := inV_of hz11 g11 f11
              rw [j10] at this
              exact this
            have v12 : y12 = U.loa L0 272 16 := by
              have := inV_of hz12 g12 f12
              rw [j11] at this
              exact this
            have v13 : y13 = U.loa L0 288 16 := by
              have := inV_of hz13 g13 f13
              rw [j12] at this
              exact this
            have hsz : U.size y3 y8 0 = 42 := by rw [size_ip ht2]; rw [h17]; decide
            refine ⟨⟨v1, v2, v3⟩, fun h => absurd h ht, fun _ => ⟨rfl, rfl, rfl, rfl, rfl⟩, fun _ => ⟨v5, v7, v8, v10, v11⟩, fun h => absurd ht2 h, fun _ _ => ⟨v12, v13⟩, fun h => by rcases h with h | h; exact absurd ht2 h; exact absurd h hen, fun _ h => by omega, fun _ => ⟨rfl, rfl, rfl, rfl⟩, ?_, by omega⟩
            rw [hsz, hB]; unfold U.restB; rw [if_pos hok, j14]; rfl
          · intro dst' src' type' op' sha' spa' tha' tpa' fr' to' proto' ttl' id' sport' dport' seq' ack' flags' win' Bl' hR
            have hge := size_ge type' proto'
            have hlen := hR.len
            refine hbad ?_
            obtain ⟨u1, i1⟩ := stepFw ha1 he1 rfl (by omega)
            have j1 : a1 = 48 := by omega
            obtain ⟨u2, i2⟩ := stepFw ha2 he2 u1 (by omega)
            have j2 : a2 = 96 := by omega
            obtain ⟨u3, i3⟩ := stepFw ha3 he3 u2 (by omega)
            have j3 : a3 = 112 := by omega
            have tv : y3 = type' := by
              have := inV_of hz3 u2 (by omega)
              rw [j2] at this
              exact this.trans hR.eth.2.2.symm
            have ht3 : type' = 2048 := tv ▸ ht2
            have hsi := size_ip (p := proto') ht3
            have hen2 := en_bnd proto'
            obtain ⟨u4, i4⟩ := stepFw ha4 he4 u3 (by omega)
            have j4 : a4 = 144 := by omega
            obtain ⟨u5, i5⟩ := stepFw ha5 he5 u4 (by omega)
            have j5 : a5 = 160 := by omega
            obtain ⟨u6, i6⟩ := stepFw ha6 he6 u5 (by omega)
            have j6 : a6 = 176 := by omega
            obtain ⟨u7, i7⟩ := stepFw ha7 he7 u6 (by omega)
            have j7 : a7 = 184 := by omega
            obtain ⟨u8, i8⟩ := stepFw ha8 he8 u7 (by omega)
            have j8 : a8 = 192 := by omega
            have pv : y8 = proto' := by
              have := inV_of hz8 u7 (by omega)
              rw [j7] at this
              exact this.trans (hR.ip ht3).2.2.1.symm
            have hen3 : U.en proto' = 8 := by rw [← pv, h17]; decide
            obtain ⟨u9, i9⟩ := stepFw ha9 he9 u8 (by omega)
            have j9 : a9 = 208 := by omega
            obtain ⟨u10, i10⟩ := stepFw ha10 he10 u9 (by omega)
            have j10 : a10 = 240 := by omega
            obtain ⟨u11, i11⟩ := stepFw ha11 he11 u10 (by omega)
            have j11 : a11 = 272 := by omega
            obtain ⟨u12, i12⟩ := stepFw ha12 he12 u11 (by omega)
            have j12 : a12 = 288 := by omega
            obtain ⟨u13, i13⟩ := stepFw ha13 he13 u12 (by omega)
            have j13 : a13 = 304 := by omega
            obtain ⟨u14, i14⟩ := stepFw ha14 he14 u13 (by omega)
            have j14 : a14 = 336 := by omega
            exact u14
      · have h6 : y8 = 6 := en_six hen h17
        refine ⟨⟨hBy, hm, hl, bd13, by decide⟩, fun z14 a14 e14 hz14 ha14 he14 => ?_⟩
        have bz14 := inV32 hz14
        intro y14 hy14
        have hy14 := wu32 hy14 (by omega)
        subst hy14
        have bd14 := inA_bnd ha14 (by decide) bd13
        refine ⟨⟨hBy, hm, hl, bd14, by decide⟩, fun z15 a15 e15 hz15 ha15 he15 => ?_⟩
        have bz15 := inV32 hz15
        intro y15 hy15
        have hy15 := wu32 hy15 (by omega)
        subst hy15
        have bd15 := inA_bnd ha15 (by decide) bd14
        refine ⟨⟨hm, hl, bd15, by decide⟩, fun a16 e16 ha16 he16 => ?_⟩
        have bd16 := inA_bnd ha16 (by decide) bd15
        refine ⟨⟨hBy, hm, hl, bd16, by decide⟩, fun z17 a17 e17 hz17 ha17 he17 => ?_⟩
        have bz17 := inV8 hz17
        intro y17 hy17
        have hy17 := w64 hy17 (by omega)
        subst hy17
        have bd17 := inA_bnd ha17 (by decide) bd16
        refine ⟨⟨hBy, hm, hl, bd17, by decide⟩, fun z18 a18 e18 hz18 ha18 he18 => ?_⟩
        have bz18 := inV16 hz18
        intro y18 hy18
        have hy18 := w64 hy18 (by omega)
        subst hy18
        have bd18 := inA_bnd ha18 (by decide) bd17
        refine ⟨⟨hm, hl, bd18, by decide⟩, fun a19 e19 ha19 he19 => ?_⟩
        have bd19 := inA_bnd ha19 (by decide) bd18
        refine ⟨⟨hm, q2, hl, bd19, fun hal => ?_⟩, fun B kk cc pp ar hB hk hkc hcp hra => ?_⟩
        · skip
          obtain ⟨g19, i19, f19⟩ := stepOk ha19 he19 hal
          obtain ⟨g18, i18, f18⟩ := stepOk ha18 he18 g19
          obtain ⟨g17, i17, f17⟩ := stepOk ha17 he17 g18
          obtain ⟨g16, i16, f16⟩ := stepOk ha16 he16 g17
          obtain ⟨g15, i15, f15⟩ := stepOk ha15 he15 g16
          obtain ⟨g14, i14, f14⟩ := stepOk ha14 he14 g15
          obtain ⟨g13, i13, f13⟩ := stepOk ha13 he13 g14
          obtain ⟨g12, i12, f12⟩ := stepOk ha12 he12 g13
          obtain ⟨g11, i11, f11⟩ := stepOk ha11 he11 g12
          obtain ⟨g10, i10, f10⟩ := stepOk ha10 he10 g11
          obtain ⟨g9, i9, f9⟩ := stepOk ha9 he9 g10
          obtain ⟨g8, i8, f8⟩ := stepOk ha8 he8 g9
          obtain ⟨g7, i7, f7⟩ := stepOk ha7 he7 g8
          obtain ⟨g6, i6, f6⟩ := stepOk ha6 he6 g7
          obtain ⟨g5, i5, f5⟩ := stepOk ha5 he5 g6
          obtain ⟨g4, i4, f4⟩ := stepOk ha4 he4 g5
          obtain ⟨g3, i3, f3⟩ := stepOk ha3 he3 g4
          obtain ⟨g2, i2, f2⟩ := stepOk ha2 he2 g3
          obtain ⟨g1, i1, f1⟩ := stepOk ha1 he1 g2
          have j1 : a1 = 48 := by omega
          have j2 : a2 = 96 := by omega
          have j3 : a3 = 112 := by omega
          have j4 : a4 = 144 := by omega
          have j5 : a5 = 160 := by omega
          have j6 : a6 = 176 := by omega
          have j7 : a7 = 184 := by omega
          have j8 : a8 = 192 := by omega
          have j9 : a9 = 208 := by omega
          have j10 : a10 = 240 := by omega
          have j11 : a11 = 272 := by omega
          have j12 : a12 = 288 := by omega
          have j13 : a13 = 304 := by omega
          have j14 : a14 = 336 := by omega
          have j15 : a15 = 368 := by omega
          have j16 : a16 = 376 := by omega
          have j17 : a17 = 384 := by omega
          have j18 : a18 = 400 := by omega
          have j19 : a19 = 432 := by omega
          omega
        · repeat (first | refine ⟨rfl, ?_⟩ | refine ⟨⟨rfl, rfl, rfl⟩, ?_⟩)
          have hkin : U.Kin z1 z2 y3 0 0 0 0 0 y10 y11 y8 y7 y5 y12 y13 y14 y15 y17 y18 := ⟨⟨k48 bz1, k48 bz2, by decide, by decide⟩, ⟨by decide, by decide, bz10, bz11, bz14, bz15⟩, ⟨k64 bz3, by decide, k8 bz8, k8 bz7, k64 bz5, k64 bz12, k64 bz13, k8 bz17, k64 bz18⟩⟩
          have hbl : U.By B := hB ▸ restB_by hBy _ _
          refine ⟨fun hok => hT z1 z2 y3 0 0 0 0 0 y10 y11 y8 y7 y5 y12 y13 y14 y15 y17 y18 B kk cc pp ?_ hkin hbl hk hkc hcp, fun hbad => hN z1 z2 y3 0 0 0 0 0 y10 y11 y8 y7 y5 y12 y13 y14 y15 y17 y18 B kk cc pp ⟨?_⟩ hkin hbl hk hkc hcp⟩
          · skip
            obtain ⟨g19, i19, f19⟩ := stepOk ha19 he19 hok
            obtain ⟨g18, i18, f18⟩ := stepOk ha18 he18 g19
            obtain ⟨g17, i17, f17⟩ := stepOk ha17 he17 g18
            obtain ⟨g16, i16, f16⟩ := stepOk ha16 he16 g17
            obtain ⟨g15, i15, f15⟩ := stepOk ha15 he15 g16
            obtain ⟨g14, i14, f14⟩ := stepOk ha14 he14 g15
            obtain ⟨g13, i13, f13⟩ := stepOk ha13 he13 g14
            obtain ⟨g12, i12, f12⟩ := stepOk ha12 he12 g13
            obtain ⟨g11, i11, f11⟩ := stepOk ha11 he11 g12
            obtain ⟨g10, i10, f10⟩ := stepOk ha10 he10 g11
            obtain ⟨g9, i9, f9⟩ := stepOk ha9 he9 g10
            obtain ⟨g8, i8, f8⟩ := stepOk ha8 he8 g9
            obtain ⟨g7, i7, f7⟩ := stepOk ha7 he7 g8
            obtain ⟨g6, i6, f6⟩ := stepOk ha6 he6 g7
            obtain ⟨g5, i5, f5⟩ := stepOk ha5 he5 g6
            obtain ⟨g4, i4, f4⟩ := stepOk ha4 he4 g5
            obtain ⟨g3, i3, f3⟩ := stepOk ha3 he3 g4
            obtain ⟨g2, i2, f2⟩ := stepOk ha2 he2 g3
            obtain ⟨g1, i1, f1⟩ := stepOk ha1 he1 g2
            have j1 : a1 = 48 := by omega
            have j2 : a2 = 96 := by omega
            have j3 : a3 = 112 := by omega
            have j4 : a4 = 144 := by omega
            have j5 : a5 = 160 := by omega
            have j6 : a6 = 176 := by omega
            have j7 : a7 = 184 := by omega
            have j8 : a8 = 192 := by omega
            have j9 : a9 = 208 := by omega
            have j10 : a10 = 240 := by omega
            have j11 : a11 = 272 := by omega
            have j12 : a12 = 288 := by omega
            have j13 : a13 = 304 := by omega
            have j14 : a14 = 336 := by omega
            have j15 : a15 = 368 := by omega
            have j16 : a16 = 376 := by omega
            have j17 : a17 = 384 := by omega
            have j18 : a18 = 400 := by omega
            have j19 : a19 = 432 := by omega
            have v1 : z1 = U.loa L0 0 48 := by
              have := inV_of hz1 g1 f1
              exact this
            have v2 : z2 = U.loa L0 48 48 := by
              have := inV_of hz2 g2 f2
              rw [j1] at this
              exact this
            have v3 : y3 = U.loa L0 96 16 := by
              have := inV_of hz3 g3 f3
              rw [j2] at this
              exact this
            have v5 : y5 = U.loa L0 144 16 := by
              have := inV_of hz5 g5 f5
              rw [j4] at this
              exact this
            have v7 : y7 = U.loa L0 176 8 := by
              have := inV_of hz7 g7 f7
              rw [j6] at this
              exact this
            have v8 : y8 = U.loa L0 184 8 := by
              have := inV_of hz8 g8 f8
              rw [j7] at this
              exact this
            have v10 : y10 = U.loa L0 208 32 := by
              have := inV_of hz10 g10 f10
              rw [j9] at this
              exact this
            have v11 : y11 = U.loa L0 240 32 := by
              have := inV_of hz11 g11 f11
              rw [j10] at this
              exact this
            have v12 : y12 = U.loa L0 272 16 := by
              have := inV_of hz12 g12 f12
              rw [j11] at this
              exact this
            have v13 : y13 = U.loa L0 288 16 := by
              have := inV_of hz13 g13 f13
              rw [j12] at this
              exact this
            have v14 : y14 = U.loa L0 304 32 := by
              have := inV_of hz14 g14 f14
              rw [j13] at this
              exact this
            have v15 : y15 = U.loa L0 336 32 := by
              have := inV_of hz15 g15 f15
              rw [j14] at this
              exact this
            have v17 : y17 = U.loa L0 376 8 := by
              have := inV_of hz17 g17 f17
              rw [j16] at this
              exact this
            have v18 : y18 = U.loa L0 384 16 := by
              have := inV_of hz18 g18 f18
              rw [j17] at this
              exact this
            have hsz : U.size y3 y8 0 = 54 := by rw [size_ip ht2]; rw [h6]; decide
            refine ⟨⟨v1, v2, v3⟩, fun h => absurd h ht, fun _ => ⟨rfl, rfl, rfl, rfl, rfl⟩, fun _ => ⟨v5, v7, v8, v10, v11⟩, fun h => absurd ht2 h, fun _ _ => ⟨v12, v13⟩, fun h => by rcases h with h | h; exact absurd ht2 h; exact absurd h hen, fun _ _ => ⟨v14, v15, v17, v18⟩, fun h => by rcases h with h | h; exact absurd ht2 h; exact absurd h6 h, ?_, by omega⟩
            rw [hsz, hB]; unfold U.restB; rw [if_pos hok, j19]; rfl
          · intro dst' src' type' op' sha' spa' tha' tpa' fr' to' proto' ttl' id' sport' dport' seq' ack' flags' win' Bl' hR
            have hge := size_ge type' proto'
            have hlen := hR.len
            refine hbad ?_
            obtain ⟨u1, i1⟩ := stepFw ha1 he1 rfl (by omega)
            have j1 : a1 = 48 := by omega
            obtain ⟨u2, i2⟩ := stepFw ha2 he2 u1 (by omega)
            have j2 : a2 = 96 := by omega
            obtain ⟨u3, i3⟩ := stepFw ha3 he3 u2 (by omega)
            have j3 : a3 = 112 := by omega
            have tv : y3 = type' := by
              have := inV_of hz3 u2 (by omega)
              rw [j2] at this
              exact this.trans hR.eth.2.2.symm
            have ht3 : type' = 2048 := tv ▸ ht2
            have hsi := size_ip (p := proto') ht3
            have hen2 := en_bnd proto'
            obtain ⟨u4, i4⟩ := stepFw ha4 he4 u3 (by omega)
            have j4 : a4 = 144 := by omega
            obtain ⟨u5, i5⟩ := stepFw ha5 he5 u4 (by omega)
            have j5 : a5 = 160 := by omega
            obtain ⟨u6, i6⟩ := stepFw ha6 he6 u5 (by omega)
            have j6 : a6 = 176 := by omega
            obtain ⟨u7, i7⟩ := stepFw ha7 he7 u6 (by omega)
            have j7 : a7 = 184 := by omega
            obtain ⟨u8, i8⟩ := stepFw ha8 he8 u7 (by omega)
            have j8 : a8 = 192 := by omega
            have pv : y8 = proto' := by
              have := inV_of hz8 u7 (by omega)
              rw [j7] at this
              exact this.trans (hR.ip ht3).2.2.1.symm
            have hen3 : U.en proto' = 20 := by rw [← pv, h6]; decide
            obtain ⟨u9, i9⟩ := stepFw ha9 he9 u8 (by omega)
            have j9 : a9 = 208 := by omega
            obtain ⟨u10, i10⟩ := stepFw ha10 he10 u9 (by omega)
            have j10 : a10 = 240 := by omega
            obtain ⟨u11, i11⟩ := stepFw ha11 he11 u10 (by omega)
            have j11 : a11 = 272 := by omega
            obtain ⟨u12, i12⟩ := stepFw ha12 he12 u11 (by omega)
            have j12 : a12 = 288 := by omega
            obtain ⟨u13, i13⟩ := stepFw ha13 he13 u12 (by omega)
            have j13 : a13 = 304 := by omega
            obtain ⟨u14, i14⟩ := stepFw ha14 he14 u13 (by omega)
            have j14 : a14 = 336 := by omega
            obtain ⟨u15, i15⟩ := stepFw ha15 he15 u14 (by omega)
            have j15 : a15 = 368 := by omega
            obtain ⟨u16, i16⟩ := stepFw ha16 he16 u15 (by omega)
            have j16 : a16 = 376 := by omega
            obtain ⟨u17, i17⟩ := stepFw ha17 he17 u16 (by omega)
            have j17 : a17 = 384 := by omega
            obtain ⟨u18, i18⟩ := stepFw ha18 he18 u17 (by omega)
            have j18 : a18 = 400 := by omega
            obtain ⟨u19, i19⟩ := stepFw ha19 he19 u18 (by omega)
            have j19 : a19 = 432 := by omega
            exact u19
  · skip
    refine ⟨⟨hm, q2, hl, bd3, fun hal => ?_⟩, fun B kk cc pp ar hB hk hkc hcp hra => ?_⟩
    · skip
      obtain ⟨g3, i3, f3⟩ := stepOk ha3 he3 hal
      obtain ⟨g2, i2, f2⟩ := stepOk ha2 he2 g3
      obtain ⟨g1, i1, f1⟩ := stepOk ha1 he1 g2
      have j1 : a1 = 48 := by omega
      have j2 : a2 = 96 := by omega
      have j3 : a3 = 112 := by omega
      omega
    · repeat (first | refine ⟨rfl, ?_⟩ | refine ⟨⟨rfl, rfl, rfl⟩, ?_⟩)
      have hkin : U.Kin z1 z2 y3 0 0 0 0 0 0 0 0 0 0 0 0 0 0 0 0 := ⟨⟨k48 bz1, k48 bz2, by decide, by decide⟩, ⟨by decide, by decide, by decide, by decide, by decide, by decide⟩, ⟨k64 bz3, by decide, by decide, by decide, by decide, by decide, by decide, by decide, by decide⟩⟩
      have hbl : U.By B := hB ▸ restB_by hBy _ _
      refine ⟨fun hok => hT z1 z2 y3 0 0 0 0 0 0 0 0 0 0 0 0 0 0 0 0 B kk cc pp ?_ hkin hbl hk hkc hcp, fun hbad => hN z1 z2 y3 0 0 0 0 0 0 0 0 0 0 0 0 0 0 0 0 B kk cc pp ⟨?_⟩ hkin hbl hk hkc hcp⟩
      · skip
        obtain ⟨g3, i3, f3⟩ := stepOk ha3 he3 hok
        obtain ⟨g2, i2, f2⟩ := stepOk ha2 he2 g3
        obtain ⟨g1, i1, f1⟩ := stepOk ha1 he1 g2
        have j1 : a1 = 48 := by omega
        have j2 : a2 = 96 := by omega
        have j3 : a3 = 112 := by omega
        have v1 : z1 = U.loa L0 0 48 := by
          have := inV_of hz1 g1 f1
          exact this
        have v2 : z2 = U.loa L0 48 48 := by
          have := inV_of hz2 g2 f2
          rw [j1] at this
          exact this
        have v3 : y3 = U.loa L0 96 16 := by
          have := inV_of hz3 g3 f3
          rw [j2] at this
          exact this
        have hsz : U.size y3 0 0 = 14 := size_no ht ht2
        refine ⟨⟨v1, v2, v3⟩, fun h => absurd h ht, fun _ => ⟨rfl, rfl, rfl, rfl, rfl⟩, fun h => absurd h ht2, fun _ => ⟨rfl, rfl, rfl, rfl, rfl⟩, fun h => absurd h ht2, fun _ => ⟨rfl, rfl⟩, fun h => absurd h ht2, fun _ => ⟨rfl, rfl, rfl, rfl⟩, ?_, by omega⟩
        rw [hsz, hB]; unfold U.restB; rw [if_pos hok, j3]; rfl
      · intro dst' src' type' op' sha' spa' tha' tpa' fr' to' proto' ttl' id' sport' dport' seq' ack' flags' win' Bl' hR
        have hge := size_ge type' proto'
        have hlen := hR.len
        refine hbad ?_
        obtain ⟨u1, i1⟩ := stepFw ha1 he1 rfl (by omega)
        have j1 : a1 = 48 := by omega
        obtain ⟨u2, i2⟩ := stepFw ha2 he2 u1 (by omega)
        have j2 : a2 = 96 := by omega
        obtain ⟨u3, i3⟩ := stepFw ha3 he3 u2 (by omega)
        have j3 : a3 = 112 := by omega
        have tv : y3 = type' := by
          have := inV_of hz3 u2 (by omega)
          rw [j2] at this
          exact this.trans hR.eth.2.2.symm
        exact u3
end Go.Proofs.Ytnnloikmjofkfaa
end
