/- Parts of a proof, one behind the other: FF. No condition. -/
import Derived.Test.YtlfigaddddncmaaDoorGM
section
set_option linter.unusedVariables false
set_option linter.unusedSimpArgs false
namespace Go.Proofs.YtlfigaddddncmaaDoor
open Go Reck

/-- The fields of bytes. -/
structure U.RdOk (L : List Int) (dst src type op sha spa tha tpa fr to proto ttl id sport dport seq ack flags win : Int) (Bl : List Int) : Prop where
  eth : dst = U.loa L 0 48 ∧ src = U.loa L 48 48 ∧ type = U.loa L 96 16
  arp : type = 2054 → op = U.loa L 160 16 ∧ sha = U.loa L 176 48 ∧ spa = U.loa L 224 32 ∧ tha = U.loa L 256 48 ∧ tpa = U.loa L 304 32
  arp0 : ¬ type = 2054 → arp0 op sha spa tha tpa
  ip : type = 2048 → id = U.loa L 144 16 ∧ ttl = U.loa L 176 8 ∧ proto = U.loa L 184 8 ∧ fr = U.loa L 208 32 ∧ to = U.loa L 240 32
  head0 : ¬ type = 2048 → head0 fr to proto ttl id
  ports : type = 2048 → ¬ U.en proto = 0 → sport = U.loa L 272 16 ∧ dport = U.loa L 288 16
  ports0 : (¬ type = 2048 ∨ U.en proto = 0) → sport = 0 ∧ dport = 0
  tcp : type = 2048 → proto = 6 → seq = U.loa L 304 32 ∧ ack = U.loa L 336 32 ∧ flags = U.loa L 376 8 ∧ win = U.loa L 384 16
  tcp0 : (¬ type = 2048 ∨ ¬ proto = 6) → seq = 0 ∧ ack = 0 ∧ flags = 0 ∧ win = 0
  body : Bl = L.drop (U.size type proto 0).toNat
  len : U.size type proto 0 ≤ L.length
structure U.RdNo (L : List Int) : Prop where
  out : ∀ (dst src type op sha spa tha tpa fr to proto ttl id sport dport seq ack flags win : Int) (Bl : List Int), ¬ U.RdOk L dst src type op sha spa tha tpa fr to proto ttl id sport dport seq ack flags win Bl
def rdV (dst src type op sha spa tha tpa fr to proto ttl id sport dport seq ack flags win : Int) (k c : Nat) (b : Bool) : AV := .inr [.inr [xintC .u64 dst, xintC .u64 src, xintC .i64 type, xintC .i64 op, xintC .u64 sha, xintC .u64 tha, xintC .u32 spa, xintC .u32 tpa, xintC .u32 fr, xintC .u32 to, xintC .i64 proto, xintC .i64 ttl, xintC .i64 id, xintC .i64 sport, xintC .i64 dport, xintC .u32 seq, xintC .u32 ack, xintC .i64 flags, xintC .i64 win, aslC ⟨1, 0, k, c⟩], .inl (.inl (.bool b))]
theorem k64 {z : Int} (h : 0 ≤ z ∧ z ≤ 65535) : -9223372036854775808 ≤ z ∧ z ≤ 9223372036854775807 := by omega
theorem k8 {z : Int} (h : 0 ≤ z ∧ z ≤ 255) : -9223372036854775808 ≤ z ∧ z ≤ 9223372036854775807 := by omega
theorem k48 {z : Int} (h : 0 ≤ z ∧ z ≤ 281474976710655) : 0 ≤ z ∧ z ≤ 18446744073709551615 := by omega
theorem restB_by {L : List Int} (h : U.By L) (a e : Int) : U.By (U.restB L a e) := by
  unfold U.restB
  split
  · obtain ⟨cs, h1, h2⟩ := h
    exact ⟨cs.drop (a.toNat / 8), by rw [h1, nz_drop], fun c hc => h2 c (List.mem_of_mem_drop hc)⟩
  · exact ⟨[], rfl, by simp⟩
theorem stepOk {L : List Int} {a e n a' e' : Int} (ha : a' = U.inA L a e n) (he : e' = U.inE L a e n) (h : e' = 0) : e = 0 ∧ a' = a + n ∧ a + n ≤ 8 * L.length := by
  obtain ⟨h1, h2⟩ := (inE_iff he).1 h
  exact ⟨h1, inA_of ha h1 h2, h2⟩
theorem stepFw {L : List Int} {a e n a' e' : Int} (ha : a' = U.inA L a e n) (he : e' = U.inE L a e n) (h : e = 0) (hf : a + n ≤ 8 * L.length) : e' = 0 ∧ a' = a + n :=
  ⟨(inE_iff he).2 ⟨h, hf⟩, inA_of ha h hf⟩
theorem en_six {p : Int} (h : ¬ U.en p = 0) (h17 : ¬ p = 17) : p = 6 := by
  by_cases h6 : p = 6
  · exact h6
  · exact absurd (by unfold U.en; rw [if_neg h17, if_neg h6]) h
theorem size_ge (type p : Int) : 14 ≤ U.size type p 0 := by have := size_bnd type p 0; simp at this; omega
theorem size_ip {type p : Int} (h : type = 2048) : U.size type p 0 = 34 + U.en p := by unfold U.size; rw [if_neg (by omega), if_pos h]; simp
theorem size_arp {type p : Int} (h : type = 2054) : U.size type p 0 = 42 := by unfold U.size; rw [if_pos h]; simp
theorem size_no {type p : Int} (h : ¬ type = 2054) (h' : ¬ type = 2048) : U.size type p 0 = 14 := by unfold U.size; rw [if_neg h, if_neg h']; simp
end Go.Proofs.YtlfigaddddncmaaDoor
end
