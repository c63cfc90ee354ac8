/- Parts of a proof, one behind the other: F7 F8 F9 FB FC FD FE. No condition. -/
import Derived.Test.YtlfigaddddncmaaDoorGL
section
namespace Go.Proofs.YtlfigaddddncmaaDoor
open Go Reck
set_option linter.unusedVariables false
set_option maxRecDepth 100000
end Go.Proofs.YtlfigaddddncmaaDoor
end

section
set_option linter.unusedVariables false
set_option linter.unusedSimpArgs false
namespace Go.Proofs.YtlfigaddddncmaaDoor
open Go Reck

theorem app_len (l : List Bool) (n v : Int) : (U.app l n v).length = l.length + n.toNat := by simp [U.app, num_length]
theorem apps_len (n : Int) : ∀ (vs : List Int) (l : List Bool), (U.apps l n vs).length = l.length + vs.length * n.toNat
  | [], l => by simp [U.apps]
  | v :: vs, l => by
    have := apps_len n vs (U.app l n v)
    simp only [U.apps, List.foldl_cons] at this ⊢
    rw [this, app_len, List.length_cons, Nat.succ_mul]; omega
theorem appB_len (l : List Bool) (B : List Int) (o n : Nat) (h : o + n ≤ B.length) : (U.appB l B o n).length = l.length + 8 * n := by
  simp only [U.appB, List.length_append, nums_length, List.length_map, List.length_take, List.length_drop]
  rw [Nat.min_eq_left (by omega)]; omega
theorem arpL_len (l : List Bool) (op sha spa tha tpa : Int) : (U.arpL l op sha spa tha tpa).length = l.length + 224 := by
  simp [U.arpL, apps_len]
theorem headL_len (l : List Bool) (fr to proto ttl id len : Int) : (U.headL l fr to proto ttl id len).length = l.length + 160 := by
  simp [U.headL, apps_len]
theorem endsL_len (l : List Bool) (sport dport seq ack flags win p len : Int) : ((U.endsL l sport dport seq ack flags win p len).length : Int) = l.length + 8 * U.en p := by
  unfold U.endsL U.en
  split
  · simp [apps_len]
  · split
    · simp [apps_len] <;> omega
    · simp
def U.ethL (dst src type : Int) : List Bool := U.apps (U.apps [] 48 [dst, src]) 16 [type]
def U.frL (dst src type op sha spa tha tpa fr to proto ttl id sport dport seq ack flags win : Int) (B : List Int) (o n : Nat) : List Bool :=
  U.appB (if type = 2054 then U.arpL (U.ethL dst src type) op sha spa tha tpa else if type = 2048 then U.endsL (U.headL (U.ethL dst src type) fr to proto ttl id (U.size type proto n - 14)) sport dport seq ack flags win proto (U.size type proto n - 34) else U.ethL dst src type) B o n
structure U.Rng (dst src type op sha spa tha tpa fr to proto ttl id sport dport seq ack flags win : Int) : Prop where
  eth : (0 ≤ dst ∧ dst ≤ 281474976710655) ∧ (0 ≤ src ∧ src ≤ 281474976710655) ∧ (0 ≤ type ∧ type ≤ 65535)
  arp : type = 2054 → (0 ≤ op ∧ op ≤ 65535) ∧ (0 ≤ sha ∧ sha ≤ 281474976710655) ∧ (0 ≤ spa ∧ spa ≤ 4294967295) ∧ (0 ≤ tha ∧ tha ≤ 281474976710655) ∧ (0 ≤ tpa ∧ tpa ≤ 4294967295)
  ip : type = 2048 → (0 ≤ fr ∧ fr ≤ 4294967295) ∧ (0 ≤ to ∧ to ≤ 4294967295) ∧ (0 ≤ proto ∧ proto ≤ 255) ∧ (0 ≤ ttl ∧ ttl ≤ 255) ∧ (0 ≤ id ∧ id ≤ 65535) ∧ (0 ≤ sport ∧ sport ≤ 65535) ∧ (0 ≤ dport ∧ dport ≤ 65535) ∧ (0 ≤ seq ∧ seq ≤ 4294967295) ∧ (0 ≤ ack ∧ ack ≤ 4294967295) ∧ (0 ≤ flags ∧ flags ≤ 255) ∧ (0 ≤ win ∧ win ≤ 65535)
structure U.Wr (dst src type op sha spa tha tpa fr to proto ttl id sport dport seq ack flags win : Int) (B : List Int) (o n : Nat) (L' : List Int) : Prop where
  out : ∃ (L : List Int) (N : Int), U.Out L N (U.frL dst src type op sha spa tha tpa fr to proto ttl id sport dport seq ack flags win B o n) ∧ N = 8 * U.size type proto n ∧ U.Seal L type proto fr to L'
  len : (L'.length : Int) = U.size type proto n
theorem seal_len {L : List Int} {type p fr to : Int} {L' : List Int} (h : U.Seal L type p fr to L') : L'.length = L.length := by
  by_cases ht : type = 2048
  · by_cases hp : U.en p = 0
    · exact sto_len (h.one ht hp)
    · obtain ⟨A, L1, _, h1, h2⟩ := h.two ht hp
      rw [sto_len h2, sto_len h1]
  · rw [h.no ht]
theorem size_bnd (type p : Int) (n : Nat) : 14 + (n : Int) ≤ U.size type p n ∧ U.size type p n ≤ 54 + n := by
  have := en_bnd p
  unfold U.size
  split
  · omega
  · split <;> omega
end Go.Proofs.YtlfigaddddncmaaDoor
end

section
namespace Go.Proofs.YtlfigaddddncmaaDoor
open Go Reck
set_option linter.unusedVariables false
set_option maxRecDepth 100000
theorem fitsT_vc (K : AV → St → Prop) (dst src type op sha spa tha tpa fr to proto ttl id sport dport seq ack flags win : Int) (B : List Int) (o n c cap : Nat) : (runI inv0 tF6 41 [frA dst src type op sha spa tha tpa fr to proto ttl id sport dport seq ack flags win (aslC ⟨0, o, n, c⟩)] (ar [bs B cap true]) K) = ((type < (1536 : Int) → K (Sum.inl (Sum.inl (Sum.inl (Value.bool false)))) { heap := [], ints := [], opqs := (0 : Nat), arrs := [some { elem := OfNat.ofNat (5 : Nat), k := AK.n IntKind.u8, l := B, cap := cap, ro := true }], junks := (0 : Nat) }) ∧ (¬type < (1536 : Int) → ∀ (z0 : Int), z0 = IntKind.wrap IntKind.u64 type → (0 : Int) ≤ (16 : Int) ∧ ∀ (z1 : Int), z1 = shrI IntKind.u64 z0 (16 : Int) → (¬z1 = (0 : Int) → K (Sum.inl (Sum.inl (Sum.inl (Value.bool false)))) { heap := [], ints := [], opqs := (0 : Nat), arrs := [some { elem := OfNat.ofNat (5 : Nat), k := AK.n IntKind.u8, l := B, cap := cap, ro := true }], junks := (0 : Nat) }) ∧ (¬¬z1 = (0 : Int) → (0 : Int) ≤ (48 : Int) ∧ ∀ (z2 : Int), z2 = shrI IntKind.u64 dst (48 : Int) → (¬z2 = (0 : Int) → K (Sum.inl (Sum.inl (Sum.inl (Value.bool false)))) { heap := [], ints := [], opqs := (0 : Nat), arrs := [some { elem := OfNat.ofNat (5 : Nat), k := AK.n IntKind.u8, l := B, cap := cap, ro := true }], junks := (0 : Nat) }) ∧ (¬¬z2 = (0 : Int) → (0 : Int) ≤ (48 : Int) ∧ ∀ (z3 : Int), z3 = shrI IntKind.u64 src (48 : Int) → (¬z3 = (0 : Int) → K (Sum.inl (Sum.inl (Sum.inl (Value.bool false)))) { heap := [], ints := [], opqs := (0 : Nat), arrs := [some { elem := OfNat.ofNat (5 : Nat), k := AK.n IntKind.u8, l := B, cap := cap, ro := true }], junks := (0 : Nat) }) ∧ (¬¬z3 = (0 : Int) → (type = (2054 : Int) → (op = (1 : Int) → (0 : Int) ≤ (48 : Int) ∧ ∀ (z4 : Int), z4 = shrI IntKind.u64 sha (48 : Int) → (¬z4 = (0 : Int) → K (Sum.inl (Sum.inl (Sum.inl (Value.bool false)))) { heap := [], ints := [], opqs := (0 : Nat), arrs := [some { elem := OfNat.ofNat (5 : Nat), k := AK.n IntKind.u8, l := B, cap := cap, ro := true }], junks := (0 : Nat) }) ∧ (¬¬z4 = (0 : Int) → (0 : Int) ≤ (48 : Int) ∧ ∀ (z5 : Int), z5 = shrI IntKind.u64 tha (48 : Int) → (¬z5 = (0 : Int) → K (Sum.inl (Sum.inl (Sum.inl (Value.bool false)))) { heap := [], ints := [], opqs := (0 : Nat), arrs := [some { elem := OfNat.ofNat (5 : Nat), k := AK.n IntKind.u8, l := B, cap := cap, ro := true }], junks := (0 : Nat) }) ∧ (¬¬z5 = (0 : Int) → (fr = (0 : Int) ∧ to = (0 : Int) ∧ proto = (0 : Int) ∧ ttl = (0 : Int) ∧ id = (0 : Int) ∧ True → (sport = (0 : Int) ∧ dport = (0 : Int) ∧ seq = (0 : Int) ∧ ack = (0 : Int) ∧ flags = (0 : Int) ∧ win = (0 : Int) ∧ True → ∀ (z6 : Int), z6 = (↑n : Int) → (z6 = (0 : Int) → K (Sum.inl (Sum.inl (Sum.inl (Value.bool true)))) { heap := [], ints := [], opqs := (0 : Nat), arrs := [some { elem := OfNat.ofNat (5 : Nat), k := AK.n IntKind.u8, l := B, cap := cap, ro := true }], junks := (0 : Nat) }) ∧ (¬z6 = (0 : Int) → K (Sum.inl (Sum.inl (Sum.inl (Value.bool false)))) { heap := [], ints := [], opqs := (0 : Nat), arrs := [some { elem := OfNat.ofNat (5 : Nat), k := AK.n IntKind.u8, l := B, cap := cap, ro := true }], junks := (0 : Nat) })) ∧ (¬(sport = (0 : Int) ∧ dport = (0 : Int) ∧ seq = (0 : Int) ∧ ack = (0 : Int) ∧ flags = (0 : Int) ∧ win = (0 : Int) ∧ True) → K (Sum.inl (Sum.inl (Sum.inl (Value.bool false)))) { heap := [], ints := [], opqs := (0 : Nat), arrs := [some { elem := OfNat.ofNat (5 : Nat), k := AK.n IntKind.u8, l := B, cap := cap, ro := true }], junks := (0 : Nat) })) ∧ (¬(fr = (0 : Int) ∧ to = (0 : Int) ∧ proto = (0 : Int) ∧ ttl = (0 : Int) ∧ id = (0 : Int) ∧ True) → K (Sum.inl (Sum.inl (Sum.inl (Value.bool false)))) { heap := [], ints := [], opqs := (0 : Nat), arrs := [some { elem := OfNat.ofNat (5 : Nat), k := AK.n IntKind.u8, l := B, cap := cap, ro := true }], junks := (0 : Nat) })))) ∧ (¬op = (1 : Int) → (op = (2 : Int) → (0 : Int) ≤ (48 : Int) ∧ ∀ (z7 : Int), z7 = shrI IntKind.u64 sha (48 : Int) → (¬z7 = (0 : Int) → K (Sum.inl (Sum.inl (Sum.inl (Value.bool false)))) { heap := [], ints := [], opqs := (0 : Nat), arrs := [some { elem := OfNat.ofNat (5 : Nat), k := AK.n IntKind.u8, l := B, cap := cap, ro := true }], junks := (0 : Nat) }) ∧ (¬¬z7 = (0 : Int) → (0 : Int) ≤ (48 : Int) ∧ ∀ (z8 : Int), z8 = shrI IntKind.u64 tha (48 : Int) → (¬z8 = (0 : Int) → K (Sum.inl (Sum.inl (Sum.inl (Value.bool false)))) { heap := [], ints := [], opqs := (0 : Nat), arrs := [some { elem := OfNat.ofNat (5 : Nat), k := AK.n IntKind.u8, l := B, cap := cap, ro := true }], junks := (0 : Nat) }) ∧ (¬¬z8 = (0 : Int) → (fr = (0 : Int) ∧ to = (0 : Int) ∧ proto = (0 : Int) ∧ ttl = (0 : Int) ∧ id = (0 : Int) ∧ True → (sport = (0 : Int) ∧ dport = (0 : Int) ∧ seq = (0 : Int) ∧ ack = (0 : Int) ∧ flags = (0 : Int) ∧ win = (0 : Int) ∧ True → ∀ (z9 : Int), z9 = (↑n : Int) → (z9 = (0 : Int) → K (Sum.inl (Sum.inl (Sum.inl (Value.bool true)))) { heap := [], ints := [], opqs := (0 : Nat), arrs := [some { elem := OfNat.ofNat (5 : Nat), k := AK.n IntKind.u8, l := B, cap := cap, ro := true }], junks := (0 : Nat) }) ∧ (¬z9 = (0 : Int) → K (Sum.inl (Sum.inl (Sum.inl (Value.bool false)))) { heap := [], ints := [], opqs := (0 : Nat), arrs := [some { elem := OfNat.ofNat (5 : Nat), k := AK.n IntKind.u8, l := B, cap := cap, ro := true }], junks := (0 : Nat) })) ∧ (¬(sport = (0 : Int) ∧ dport = (0 : Int) ∧ seq = (0 : Int) ∧ ack = (0 : Int) ∧ flags = (0 : Int) ∧ win = (0 : Int) ∧ True) → K (Sum.inl (Sum.inl (Sum.inl (Value.bool false)))) { heap := [], ints := [], opqs := (0 : Nat), arrs := [some { elem := OfNat.ofNat (5 : Nat), k := AK.n IntKind.u8, l := B, cap := cap, ro := true }], junks := (0 : Nat) })) ∧ (¬(fr = (0 : Int) ∧ to = (0 : Int) ∧ proto = (0 : Int) ∧ ttl = (0 : Int) ∧ id = (0 : Int) ∧ True) → K (Sum.inl (Sum.inl (Sum.inl (Value.bool false)))) { heap := [], ints := [], opqs := (0 : Nat), arrs := [some { elem := OfNat.ofNat (5 : Nat), k := AK.n IntKind.u8, l := B, cap := cap, ro := true }], junks := (0 : Nat) })))) ∧ (¬op = (2 : Int) → K (Sum.inl (Sum.inl (Sum.inl (Value.bool false)))) { heap := [], ints := [], opqs := (0 : Nat), arrs := [some { elem := OfNat.ofNat (5 : Nat), k := AK.n IntKind.u8, l := B, cap := cap, ro := true }], junks := (0 : Nat) }))) ∧ (¬type = (2054 : Int) → (type = (2048 : Int) → (op = (0 : Int) ∧ sha = (0 : Int) ∧ tha = (0 : Int) ∧ spa = (0 : Int) ∧ tpa = (0 : Int) ∧ True → ∀ (z10 : Int), z10 = IntKind.wrap IntKind.u64 proto → (0 : Int) ≤ (8 : Int) ∧ ∀ (z11 : Int), z11 = shrI IntKind.u64 z10 (8 : Int) → (¬z11 = (0 : Int) → K (Sum.inl (Sum.inl (Sum.inl (Value.bool false)))) { heap := [], ints := [], opqs := (0 : Nat), arrs := [some { elem := OfNat.ofNat (5 : Nat), k := AK.n IntKind.u8, l := B, cap := cap, ro := true }], junks := (0 : Nat) }) ∧ (¬¬z11 = (0 : Int) → ∀ (z12 : Int), z12 = IntKind.wrap IntKind.u64 ttl → (0 : Int) ≤ (8 : Int) ∧ ∀ (z13 : Int), z13 = shrI IntKind.u64 z12 (8 : Int) → (¬z13 = (0 : Int) → K (Sum.inl (Sum.inl (Sum.inl (Value.bool false)))) { heap := [], ints := [], opqs := (0 : Nat), arrs := [some { elem := OfNat.ofNat (5 : Nat), k := AK.n IntKind.u8, l := B, cap := cap, ro := true }], junks := (0 : Nat) }) ∧ (¬¬z13 = (0 : Int) → ∀ (z14 : Int), z14 = IntKind.wrap IntKind.u64 id → (0 : Int) ≤ (16 : Int) ∧ ∀ (z15 : Int), z15 = shrI IntKind.u64 z14 (16 : Int) → (¬z15 = (0 : Int) → K (Sum.inl (Sum.inl (Sum.inl (Value.bool false)))) { heap := [], ints := [], opqs := (0 : Nat), arrs := [some { elem := OfNat.ofNat (5 : Nat), k := AK.n IntKind.u8, l := B, cap := cap, ro := true }], junks := (0 : Nat) }) ∧ (¬¬z15 = (0 : Int) → ∀ (z16 : Int), z16 = IntKind.wrap IntKind.u64 sport → (0 : Int) ≤ (16 : Int) ∧ ∀ (z17 : Int), z17 = shrI IntKind.u64 z16 (16 : Int) → (¬z17 = (0 : Int) → K (Sum.inl (Sum.inl (Sum.inl (Value.bool false)))) { heap := [], ints := [], opqs := (0 : Nat), arrs := [some { elem := OfNat.ofNat (5 : Nat), k := AK.n IntKind.u8, l := B, cap := cap, ro := true }], junks := (0 : Nat) }) ∧ (¬¬z17 = (0 : Int) → ∀ (z18 : Int), z18 = IntKind.wrap IntKind.u64 dport → (0 : Int) ≤ (16 : Int) ∧ ∀ (z19 : Int), z19 = shrI IntKind.u64 z18 (16 : Int) → (¬z19 = (0 : Int) → K (Sum.inl (Sum.inl (Sum.inl (Value.bool false)))) { heap := [], ints := [], opqs := (0 : Nat), arrs := [some { elem := OfNat.ofNat (5 : Nat), k := AK.n IntKind.u8, l := B, cap := cap, ro := true }], junks := (0 : Nat) }) ∧ (¬¬z19 = (0 : Int) → ∀ (z20 : Int), z20 = IntKind.wrap IntKind.u64 win → (0 : Int) ≤ (16 : Int) ∧ ∀ (z21 : Int), z21 = shrI IntKind.u64 z20 (16 : Int) → (¬z21 = (0 : Int) → K (Sum.inl (Sum.inl (Sum.inl (Value.bool false)))) { heap := [], ints := [], opqs := (0 : Nat), arrs := [some { elem := OfNat.ofNat (5 : Nat), k := AK.n IntKind.u8, l := B, cap := cap, ro := true }], junks := (0 : Nat) }) ∧ (¬¬z21 = (0 : Int) → ∀ (z22 : Int), z22 = IntKind.wrap IntKind.u64 flags → (0 : Int) ≤ (8 : Int) ∧ ∀ (z23 : Int), z23 = shrI IntKind.u64 z22 (8 : Int) → (¬z23 = (0 : Int) → K (Sum.inl (Sum.inl (Sum.inl (Value.bool false)))) { heap := [], ints := [], opqs := (0 : Nat), arrs := [some { elem := OfNat.ofNat (5 : Nat), k := AK.n IntKind.u8, l := B, cap := cap, ro := true }], junks := (0 : Nat) }) ∧ (¬¬z23 = (0 : Int) → (proto = (6 : Int) → K (Sum.inl (Sum.inl (Sum.inl (Value.bool true)))) { heap := [], ints := [], opqs := (0 : Nat), arrs := [some { elem := OfNat.ofNat (5 : Nat), k := AK.n IntKind.u8, l := B, cap := cap, ro := true }], junks := (0 : Nat) }) ∧ (¬proto = (6 : Int) → (proto = (17 : Int) → ((0 : Int) = (0 : Int) ∧ (0 : Int) = (0 : Int) ∧ seq = (0 : Int) ∧ ack = (0 : Int) ∧ flags = (0 : Int) ∧ win = (0 : Int) ∧ True → K (Sum.inl (Sum.inl (Sum.inl (Value.bool true)))) { heap := [], ints := [], opqs := (0 : Nat), arrs := [some { elem := OfNat.ofNat (5 : Nat), k := AK.n IntKind.u8, l := B, cap := cap, ro := true }], junks := (0 : Nat) }) ∧ (¬((0 : Int) = (0 : Int) ∧ (0 : Int) = (0 : Int) ∧ seq = (0 : Int) ∧ ack = (0 : Int) ∧ flags = (0 : Int) ∧ win = (0 : Int) ∧ True) → K (Sum.inl (Sum.inl (Sum.inl (Value.bool false)))) { heap := [], ints := [], opqs := (0 : Nat), arrs := [some { elem := OfNat.ofNat (5 : Nat), k := AK.n IntKind.u8, l := B, cap := cap, ro := true }], junks := (0 : Nat) })) ∧ (¬proto = (17 : Int) → (sport = (0 : Int) ∧ dport = (0 : Int) ∧ seq = (0 : Int) ∧ ack = (0 : Int) ∧ flags = (0 : Int) ∧ win = (0 : Int) ∧ True → K (Sum.inl (Sum.inl (Sum.inl (Value.bool true)))) { heap := [], ints := [], opqs := (0 : Nat), arrs := [some { elem := OfNat.ofNat (5 : Nat), k := AK.n IntKind.u8, l := B, cap := cap, ro := true }], junks := (0 : Nat) }) ∧ (¬(sport = (0 : Int) ∧ dport = (0 : Int) ∧ seq = (0 : Int) ∧ ack = (0 : Int) ∧ flags = (0 : Int) ∧ win = (0 : Int) ∧ True) → K (Sum.inl (Sum.inl (Sum.inl (Value.bool false)))) { heap := [], ints := [], opqs := (0 : Nat), arrs := [some { elem := OfNat.ofNat (5 : Nat), k := AK.n IntKind.u8, l := B, cap := cap, ro := true }], junks := (0 : Nat) }))))))))))) ∧ (¬(op = (0 : Int) ∧ sha = (0 : Int) ∧ tha = (0 : Int) ∧ spa = (0 : Int) ∧ tpa = (0 : Int) ∧ True) → K (Sum.inl (Sum.inl (Sum.inl (Value.bool false)))) { heap := [], ints := [], opqs := (0 : Nat), arrs := [some { elem := OfNat.ofNat (5 : Nat), k := AK.n IntKind.u8, l := B, cap := cap, ro := true }], junks := (0 : Nat) })) ∧ (¬type = (2048 : Int) → (op = (0 : Int) ∧ sha = (0 : Int) ∧ tha = (0 : Int) ∧ spa = (0 : Int) ∧ tpa = (0 : Int) ∧ True → (fr = (0 : Int) ∧ to = (0 : Int) ∧ proto = (0 : Int) ∧ ttl = (0 : Int) ∧ id = (0 : Int) ∧ True → (sport = (0 : Int) ∧ dport = (0 : Int) ∧ seq = (0 : Int) ∧ ack = (0 : Int) ∧ flags = (0 : Int) ∧ win = (0 : Int) ∧ True → K (Sum.inl (Sum.inl (Sum.inl (Value.bool true)))) { heap := [], ints := [], opqs := (0 : Nat), arrs := [some { elem := OfNat.ofNat (5 : Nat), k := AK.n IntKind.u8, l := B, cap := cap, ro := true }], junks := (0 : Nat) }) ∧ (¬(sport = (0 : Int) ∧ dport = (0 : Int) ∧ seq = (0 : Int) ∧ ack = (0 : Int) ∧ flags = (0 : Int) ∧ win = (0 : Int) ∧ True) → K (Sum.inl (Sum.inl (Sum.inl (Value.bool false)))) { heap := [], ints := [], opqs := (0 : Nat), arrs := [some { elem := OfNat.ofNat (5 : Nat), k := AK.n IntKind.u8, l := B, cap := cap, ro := true }], junks := (0 : Nat) })) ∧ (¬(fr = (0 : Int) ∧ to = (0 : Int) ∧ proto = (0 : Int) ∧ ttl = (0 : Int) ∧ id = (0 : Int) ∧ True) → K (Sum.inl (Sum.inl (Sum.inl (Value.bool false)))) { heap := [], ints := [], opqs := (0 : Nat), arrs := [some { elem := OfNat.ofNat (5 : Nat), k := AK.n IntKind.u8, l := B, cap := cap, ro := true }], junks := (0 : Nat) })) ∧ (¬(op = (0 : Int) ∧ sha = (0 : Int) ∧ tha = (0 : Int) ∧ spa = (0 : Int) ∧ tpa = (0 : Int) ∧ True) → K (Sum.inl (Sum.inl (Sum.inl (Value.bool false)))) { heap := [], ints := [], opqs := (0 : Nat), arrs := [some { elem := OfNat.ofNat (5 : Nat), k := AK.n IntKind.u8, l := B, cap := cap, ro := true }], junks := (0 : Nat) })))))))) := by kernel_rfl
theorem fitsF_vc (K : AV → St → Prop) (dst src type op sha spa tha tpa fr to proto ttl id sport dport seq ack flags win : Int) (B : List Int) (o n c cap : Nat) : (runI inv0 tF6 41 [frA dst src type op sha spa tha tpa fr to proto ttl id sport dport seq ack flags win (aslC ⟨0, o, n, c⟩)] (ar [bs B cap false]) K) = ((type < (1536 : Int) → K (Sum.inl (Sum.inl (Sum.inl (Value.bool false)))) { heap := [], ints := [], opqs := (0 : Nat), arrs := [some { elem := OfNat.ofNat (5 : Nat), k := AK.n IntKind.u8, l := B, cap := cap, ro := false }], junks := (0 : Nat) }) ∧ (¬type < (1536 : Int) → ∀ (z0 : Int), z0 = IntKind.wrap IntKind.u64 type → (0 : Int) ≤ (16 : Int) ∧ ∀ (z1 : Int), z1 = shrI IntKind.u64 z0 (16 : Int) → (¬z1 = (0 : Int) → K (Sum.inl (Sum.inl (Sum.inl (Value.bool false)))) { heap := [], ints := [], opqs := (0 : Nat), arrs := [some { elem := OfNat.ofNat (5 : Nat), k := AK.n IntKind.u8, l := B, cap := cap, ro := false }], junks := (0 : Nat) }) ∧ (¬¬z1 = (0 : Int) → (0 : Int) ≤ (48 : Int) ∧ ∀ (z2 : Int), z2 = shrI IntKind.u64 dst (48 : Int) → (¬z2 = (0 : Int) → K (Sum.inl (Sum.inl (Sum.inl (Value.bool false)))) { heap := [], ints := [], opqs := (0 : Nat), arrs := [some { elem := OfNat.ofNat (5 : Nat), k := AK.n IntKind.u8, l := B, cap := cap, ro := false }], junks := (0 : Nat) }) ∧ (¬¬z2 = (0 : Int) → (0 : Int) ≤ (48 : Int) ∧ ∀ (z3 : Int), z3 = shrI IntKind.u64 src (48 : Int) → (¬z3 = (0 : Int) → K (Sum.inl (Sum.inl (Sum.inl (Value.bool false)))) { heap := [], ints := [], opqs := (0 : Nat), arrs := [some { elem := OfNat.ofNat (5 : Nat), k := AK.n IntKind.u8, l := B, cap := cap, ro := false }], junks := (0 : Nat) }) ∧ (¬¬z3 = (0 : Int) → (type = (2054 : Int) → (op = (1 : Int) → (0 : Int) ≤ (48 : Int) ∧ ∀ (z4 : Int), z4 = shrI IntKind.u64 sha (48 : Int) → (¬z4 = (0 : Int) → K (Sum.inl (Sum.inl (Sum.inl (Value.bool false)))) { heap := [], ints := [], opqs := (0 : Nat), arrs := [some { elem := OfNat.ofNat (5 : Nat), k := AK.n IntKind.u8, l := B, cap := cap, ro := false }], junks := (0 : Nat) }) ∧ (¬¬z4 = (0 : Int) → (0 : Int) ≤ (48 : Int) ∧ ∀ (z5 : Int), z5 = shrI IntKind.u64 tha (48 : Int) → (¬z5 = (0 : Int) → K (Sum.inl (Sum.inl (Sum.inl (Value.bool false)))) { heap := [], ints := [], opqs := (0 : Nat), arrs := [some { elem := OfNat.ofNat (5 : Nat), k := AK.n IntKind.u8, l := B, cap := cap, ro := false }], junks := (0 : Nat) }) ∧ (¬¬z5 = (0 : Int) → (fr = (0 : Int) ∧ to = (0 : Int) ∧ proto = (0 : Int) ∧ ttl = (0 : Int) ∧ id = (0 : Int) ∧ True → (sport = (0 : Int) ∧ dport = (0 : Int) ∧ seq = (0 : Int) ∧ ack = (0 : Int) ∧ flags = (0 : Int) ∧ win = (0 : Int) ∧ True → ∀ (z6 : Int), z6 = (↑n : Int) → (z6 = (0 : Int) → K (Sum.inl (Sum.inl (Sum.inl (Value.bool true)))) { heap := [], ints := [], opqs := (0 : Nat), arrs := [some { elem := OfNat.ofNat (5 : Nat), k := AK.n IntKind.u8, l := B, cap := cap, ro := false }], junks := (0 : Nat) }) ∧ (¬z6 = (0 : Int) → K (Sum.inl (Sum.inl (Sum.inl (Value.bool false)))) { heap := [], ints := [], opqs := (0 : Nat), arrs := [some { elem := OfNat.ofNat (5 : Nat), k := AK.n IntKind.u8, l := B, cap := cap, ro := false }], junks := (0 : Nat) })) ∧ (¬(sport = (0 : Int) ∧ dport = (0 : Int) ∧ seq = (0 : Int) ∧ ack = (0 : Int) ∧ flags = (0 : Int) ∧ win = (0 : Int) ∧ True) → K (Sum.inl (Sum.inl (Sum.inl (Value.bool false)))) { heap := [], ints := [], opqs := (0 : Nat), arrs := [some { elem := OfNat.ofNat (5 : Nat), k := AK.n IntKind.u8, l := B, cap := cap, ro := false }], junks := (0 : Nat) })) ∧ (¬(fr = (0 : Int) ∧ to = (0 : Int) ∧ proto = (0 : Int) ∧ ttl = (0 : Int) ∧ id = (0 : Int) ∧ True) → K (Sum.inl (Sum.inl (Sum.inl (Value.bool false)))) { heap := [], ints := [], opqs := (0 : Nat), arrs := [some { elem := OfNat.ofNat (5 : Nat), k := AK.n IntKind.u8, l := B, cap := cap, ro := false }], junks := (0 : Nat) })))) ∧ (¬op = (1 : Int) → (op = (2 : Int) → (0 : Int) ≤ (48 : Int) ∧ ∀ (z7 : Int), z7 = shrI IntKind.u64 sha (48 : Int) → (¬z7 = (0 : Int) → K (Sum.inl (Sum.inl (Sum.inl (Value.bool false)))) { heap := [], ints := [], opqs := (0 : Nat), arrs := [some { elem := OfNat.ofNat (5 : Nat), k := AK.n IntKind.u8, l := B, cap := cap, ro := false }], junks := (0 : Nat) }) ∧ (¬¬z7 = (0 : Int) → (0 : Int) ≤ (48 : Int) ∧ ∀ (z8 : Int), z8 = shrI IntKind.u64 tha (48 : Int) → (¬z8 = (0 : Int) → K (Sum.inl (Sum.inl (Sum.inl (Value.bool false)))) { heap := [], ints := [], opqs := (0 : Nat), arrs := [some { elem := OfNat.ofNat (5 : Nat), k := AK.n IntKind.u8, l := B, cap := cap, ro := false }], junks := (0 : Nat) }) ∧ (¬¬z8 = (0 : Int) → (fr = (0 : Int) ∧ to = (0 : Int) ∧ proto = (0 : Int) ∧ ttl = (0 : Int) ∧ id = (0 : Int) ∧ True → (sport = (0 : Int) ∧ dport = (0 : Int) ∧ seq = (0 : Int) ∧ ack = (0 : Int) ∧ flags = (0 : Int) ∧ win = (0 : Int) ∧ True → ∀ (z9 : Int), z9 = (↑n : Int) → (z9 = (0 : Int) → K (Sum.inl (Sum.inl (Sum.inl (Value.bool true)))) { heap := [], ints := [], opqs := (0 : Nat), arrs := [some { elem := OfNat.ofNat (5 : Nat), k := AK.n IntKind.u8, l := B, cap := cap, ro := false }], junks := (0 : Nat) }) ∧ (¬z9 = (0 : Int) → K (Sum.inl (Sum.inl (Sum.inl (Value.bool false)))) { heap := [], ints := [], opqs := (0 : Nat), arrs := [some { elem := OfNat.ofNat (5 : Nat), k := AK.n IntKind.u8, l := B, cap := cap, ro := false }], junks := (0 : Nat) })) ∧ (¬(sport = (0 : Int) ∧ dport = (0 : Int) ∧ seq = (0 : Int) ∧ ack = (0 : Int) ∧ flags = (0 : Int) ∧ win = (0 : Int) ∧ True) → K (Sum.inl (Sum.inl (Sum.inl (Value.bool false)))) { heap := [], ints := [], opqs := (0 : Nat), arrs := [some { elem := OfNat.ofNat (5 : Nat), k := AK.n IntKind.u8, l := B, cap := cap, ro := false }], junks := (0 : Nat) })) ∧ (¬(fr = (0 : Int) ∧ to = (0 : Int) ∧ proto = (0 : Int) ∧ ttl = (0 : Int) ∧ id = (0 : Int) ∧ True) → K (Sum.inl (Sum.inl (Sum.inl (Value.bool false)))) { heap := [], ints := [], opqs := (0 : Nat), arrs := [some { elem := OfNat.ofNat (5 : Nat), k := AK.n IntKind.u8, l := B, cap := cap, ro := false }], junks := (0 : Nat) })))) ∧ (¬op = (2 : Int) → K (Sum.inl (Sum.inl (Sum.inl (Value.bool false)))) { heap := [], ints := [], opqs := (0 : Nat), arrs := [some { elem := OfNat.ofNat (5 : Nat), k := AK.n IntKind.u8, l := B, cap := cap, ro := false }], junks := (0 : Nat) }))) ∧ (¬type = (2054 : Int) → (type = (2048 : Int) → (op = (0 : Int) ∧ sha = (0 : Int) ∧ tha = (0 : Int) ∧ spa = (0 : Int) ∧ tpa = (0 : Int) ∧ True → ∀ (z10 : Int), z10 = IntKind.wrap IntKind.u64 proto → (0 : Int) ≤ (8 : Int) ∧ ∀ (z11 : Int), z11 = shrI IntKind.u64 z10 (8 : Int) → (¬z11 = (0 : Int) → K (Sum.inl (Sum.inl (Sum.inl (Value.bool false)))) { heap := [], ints := [], opqs := (0 : Nat), arrs := [some { elem := OfNat.ofNat (5 : Nat), k := AK.n IntKind.u8, l := B, cap := cap, ro := false }], junks := (0 : Nat) }) ∧ (¬¬z11 = (0 : Int) → ∀ (z12 : Int), z12 = IntKind.wrap IntKind.u64 ttl → (0 : Int) ≤ (8 : Int) ∧ ∀ (z13 : Int), z13 = shrI IntKind.u64 z12 (8 : Int) → (¬z13 = (0 : Int) → K (Sum.inl (Sum.inl (Sum.inl (Value.bool false)))) { heap := [], ints := [], opqs := (0 : Nat), arrs := [some { elem := OfNat.ofNat (5 : Nat), k := AK.n IntKind.u8, l := B, cap := cap, ro := false }], junks := (0 : Nat) }) ∧ (¬¬z13 = (0 : Int) → ∀ (z14 : Int), z14 = IntKind.wrap IntKind.u64 id → (0 : Int) ≤ (16 : Int) ∧ ∀ (z15 : Int), z15 = shrI IntKind.u64 z14 (16 : Int) → (¬z15 = (0 : Int) → K (Sum.inl (Sum.inl (Sum.inl (Value.bool false)))) { heap := [], ints := [], opqs := (0 : Nat), arrs := [some { elem := OfNat.ofNat (5 : Nat), k := AK.n IntKind.u8, l := B, cap := cap, ro := false }], junks := (0 : Nat) }) ∧ (¬¬z15 = (0 : Int) → ∀ (z16 : Int), z16 = IntKind.wrap IntKind.u64 sport → (0 : Int) ≤ (16 : Int) ∧ ∀ (z17 : Int), z17 = shrI IntKind.u64 z16 (16 : Int) → (¬z17 = (0 : Int) → K (Sum.inl (Sum.inl (Sum.inl (Value.bool false)))) { heap := [], ints := [], opqs := (0 : Nat), arrs := [some { elem := OfNat.ofNat (5 : Nat), k := AK.n IntKind.u8, l := B, cap := cap, ro := false }], junks := (0 : Nat) }) ∧ (¬¬z17 = (0 : Int) → ∀ (z18 : Int), z18 = IntKind.wrap IntKind.u64 dport → (0 : Int) ≤ (16 : Int) ∧ ∀ (z19 : Int), z19 = shrI IntKind.u64 z18 (16 : Int) → (¬z19 = (0 : Int) → K (Sum.inl (Sum.inl (Sum.inl (Value.bool false)))) { heap := [], ints := [], opqs := (0 : Nat), arrs := [some { elem := OfNat.ofNat (5 : Nat), k := AK.n IntKind.u8, l := B, cap := cap, ro := false }], junks := (0 : Nat) }) ∧ (¬¬z19 = (0 : Int) → ∀ (z20 : Int), z20 = IntKind.wrap IntKind.u64 win → (0 : Int) ≤ (16 : Int) ∧ ∀ (z21 : Int), z21 = shrI IntKind.u64 z20 (16 : Int) → (¬z21 = (0 : Int) → K (Sum.inl (Sum.inl (Sum.inl (Value.bool false)))) { heap := [], ints := [], opqs := (0 : Nat), arrs := [some { elem := OfNat.ofNat (5 : Nat), k := AK.n IntKind.u8, l := B, cap := cap, ro := false }], junks := (0 : Nat) }) ∧ (¬¬z21 = (0 : Int) → ∀ (z22 : Int), z22 = IntKind.wrap IntKind.u64 flags → (0 : Int) ≤ (8 : Int) ∧ ∀ (z23 : Int), z23 = shrI IntKind.u64 z22 (8 : Int) → (¬z23 = (0 : Int) → K (Sum.inl (Sum.inl (Sum.inl (Value.bool false)))) { heap := [], ints := [], opqs := (0 : Nat), arrs := [some { elem := OfNat.ofNat (5 : Nat), k := AK.n IntKind.u8, l := B, cap := cap, ro := false }], junks := (0 : Nat) }) ∧ (¬¬z23 = (0 : Int) → (proto = (6 : Int) → K (Sum.inl (Sum.inl (Sum.inl (Value.bool true)))) { heap := [], ints := [], opqs := (0 : Nat), arrs := [some { elem := OfNat.ofNat (5 : Nat), k := AK.n IntKind.u8, l := B, cap := cap, ro := false }], junks := (0 : Nat) }) ∧ (¬proto = (6 : Int) → (proto = (17 : Int) → ((0 : Int) = (0 : Int) ∧ (0 : Int) = (0 : Int) ∧ seq = (0 : Int) ∧ ack = (0 : Int) ∧ flags = (0 : Int) ∧ win = (0 : Int) ∧ True → K (Sum.inl (Sum.inl (Sum.inl (Value.bool true)))) { heap := [], ints := [], opqs := (0 : Nat), arrs := [some { elem := OfNat.ofNat (5 : Nat), k := AK.n IntKind.u8, l := B, cap := cap, ro := false }], junks := (0 : Nat) }) ∧ (¬((0 : Int) = (0 : Int) ∧ (0 : Int) = (0 : Int) ∧ seq = (0 : Int) ∧ ack = (0 : Int) ∧ flags = (0 : Int) ∧ win = (0 : Int) ∧ True) → K (Sum.inl (Sum.inl (Sum.inl (Value.bool false)))) { heap := [], ints := [], opqs := (0 : Nat), arrs := [some { elem := OfNat.ofNat (5 : Nat), k := AK.n IntKind.u8, l := B, cap := cap, ro := false }], junks := (0 : Nat) })) ∧ (¬proto = (17 : Int) → (sport = (0 : Int) ∧ dport = (0 : Int) ∧ seq = (0 : Int) ∧ ack = (0 : Int) ∧ flags = (0 : Int) ∧ win = (0 : Int) ∧ True → K (Sum.inl (Sum.inl (Sum.inl (Value.bool true)))) { heap := [], ints := [], opqs := (0 : Nat), arrs := [some { elem := OfNat.ofNat (5 : Nat), k := AK.n IntKind.u8, l := B, cap := cap, ro := false }], junks := (0 : Nat) }) ∧ (¬(sport = (0 : Int) ∧ dport = (0 : Int) ∧ seq = (0 : Int) ∧ ack = (0 : Int) ∧ flags = (0 : Int) ∧ win = (0 : Int) ∧ True) → K (Sum.inl (Sum.inl (Sum.inl (Value.bool false)))) { heap := [], ints := [], opqs := (0 : Nat), arrs := [some { elem := OfNat.ofNat (5 : Nat), k := AK.n IntKind.u8, l := B, cap := cap, ro := false }], junks := (0 : Nat) }))))))))))) ∧ (¬(op = (0 : Int) ∧ sha = (0 : Int) ∧ tha = (0 : Int) ∧ spa = (0 : Int) ∧ tpa = (0 : Int) ∧ True) → K (Sum.inl (Sum.inl (Sum.inl (Value.bool false)))) { heap := [], ints := [], opqs := (0 : Nat), arrs := [some { elem := OfNat.ofNat (5 : Nat), k := AK.n IntKind.u8, l := B, cap := cap, ro := false }], junks := (0 : Nat) })) ∧ (¬type = (2048 : Int) → (op = (0 : Int) ∧ sha = (0 : Int) ∧ tha = (0 : Int) ∧ spa = (0 : Int) ∧ tpa = (0 : Int) ∧ True → (fr = (0 : Int) ∧ to = (0 : Int) ∧ proto = (0 : Int) ∧ ttl = (0 : Int) ∧ id = (0 : Int) ∧ True → (sport = (0 : Int) ∧ dport = (0 : Int) ∧ seq = (0 : Int) ∧ ack = (0 : Int) ∧ flags = (0 : Int) ∧ win = (0 : Int) ∧ True → K (Sum.inl (Sum.inl (Sum.inl (Value.bool true)))) { heap := [], ints := [], opqs := (0 : Nat), arrs := [some { elem := OfNat.ofNat (5 : Nat), k := AK.n IntKind.u8, l := B, cap := cap, ro := false }], junks := (0 : Nat) }) ∧ (¬(sport = (0 : Int) ∧ dport = (0 : Int) ∧ seq = (0 : Int) ∧ ack = (0 : Int) ∧ flags = (0 : Int) ∧ win = (0 : Int) ∧ True) → K (Sum.inl (Sum.inl (Sum.inl (Value.bool false)))) { heap := [], ints := [], opqs := (0 : Nat), arrs := [some { elem := OfNat.ofNat (5 : Nat), k := AK.n IntKind.u8, l := B, cap := cap, ro := false }], junks := (0 : Nat) })) ∧ (¬(fr = (0 : Int) ∧ to = (0 : Int) ∧ proto = (0 : Int) ∧ ttl = (0 : Int) ∧ id = (0 : Int) ∧ True) → K (Sum.inl (Sum.inl (Sum.inl (Value.bool false)))) { heap := [], ints := [], opqs := (0 : Nat), arrs := [some { elem := OfNat.ofNat (5 : Nat), k := AK.n IntKind.u8, l := B, cap := cap, ro := false }], junks := (0 : Nat) })) ∧ (¬(op = (0 : Int) ∧ sha = (0 : Int) ∧ tha = (0 : Int) ∧ spa = (0 : Int) ∧ tpa = (0 : Int) ∧ True) → K (Sum.inl (Sum.inl (Sum.inl (Value.bool false)))) { heap := [], ints := [], opqs := (0 : Nat), arrs := [some { elem := OfNat.ofNat (5 : Nat), k := AK.n IntKind.u8, l := B, cap := cap, ro := false }], junks := (0 : Nat) })))))))) := by kernel_rfl
end Go.Proofs.YtlfigaddddncmaaDoor
end

section
set_option linter.unusedVariables false
set_option linter.unusedSimpArgs false
namespace Go.Proofs.YtlfigaddddncmaaDoor
open Go Reck

theorem s8 {a : Int} (h : 0 ≤ a) : shrI .u64 a 8 = a / 256 := by
  have h1 := shr_at 8 (by omega) h (show (8 : Int) = ((8 : Nat) : Int) from rfl)
  rw [h1]; rfl
theorem s16 {a : Int} (h : 0 ≤ a) : shrI .u64 a 16 = a / 65536 := by
  have h1 := shr_at 16 (by omega) h (show (16 : Int) = ((16 : Nat) : Int) from rfl)
  rw [h1]; rfl
theorem s48 {a : Int} (h : 0 ≤ a) : shrI .u64 a 48 = a / 281474976710656 := by
  have h1 := shr_at 48 (by omega) h (show (48 : Int) = ((48 : Nat) : Int) from rfl)
  rw [h1]; rfl
theorem fit16 {v z w : Int} (hv : -9223372036854775808 ≤ v ∧ v ≤ 9223372036854775807) (h0 : w = IntKind.wrap .u64 v) (h1 : z = shrI .u64 w 16) : z = 0 ↔ 0 ≤ v ∧ v ≤ 65535 := by
  rw [wrapU64] at h0
  rw [s16 (by omega)] at h1
  omega
theorem fit8 {v z w : Int} (hv : -9223372036854775808 ≤ v ∧ v ≤ 9223372036854775807) (h0 : w = IntKind.wrap .u64 v) (h1 : z = shrI .u64 w 8) : z = 0 ↔ 0 ≤ v ∧ v ≤ 255 := by
  rw [wrapU64] at h0
  rw [s8 (by omega)] at h1
  omega
theorem fit48 {v z : Int} (hv : 0 ≤ v ∧ v ≤ 18446744073709551615) (h1 : z = shrI .u64 v 48) : z = 0 ↔ v ≤ 281474976710655 := by
  rw [s48 (by omega)] at h1
  omega
/-- A frame's numbers are of their kinds. -/
structure U.Kin (dst src type op sha spa tha tpa fr to proto ttl id sport dport seq ack flags win : Int) : Prop where
  u64 : (0 ≤ dst ∧ dst ≤ 18446744073709551615) ∧ (0 ≤ src ∧ src ≤ 18446744073709551615) ∧ (0 ≤ sha ∧ sha ≤ 18446744073709551615) ∧ (0 ≤ tha ∧ tha ≤ 18446744073709551615)
  u32 : (0 ≤ spa ∧ spa ≤ 4294967295) ∧ (0 ≤ tpa ∧ tpa ≤ 4294967295) ∧ (0 ≤ fr ∧ fr ≤ 4294967295) ∧ (0 ≤ to ∧ to ≤ 4294967295) ∧ (0 ≤ seq ∧ seq ≤ 4294967295) ∧ (0 ≤ ack ∧ ack ≤ 4294967295)
  i64 : (-9223372036854775808 ≤ type ∧ type ≤ 9223372036854775807) ∧ (-9223372036854775808 ≤ op ∧ op ≤ 9223372036854775807) ∧ (-9223372036854775808 ≤ proto ∧ proto ≤ 9223372036854775807) ∧ (-9223372036854775808 ≤ ttl ∧ ttl ≤ 9223372036854775807) ∧ (-9223372036854775808 ≤ id ∧ id ≤ 9223372036854775807) ∧
    (-9223372036854775808 ≤ sport ∧ sport ≤ 9223372036854775807) ∧ (-9223372036854775808 ≤ dport ∧ dport ≤ 9223372036854775807) ∧ (-9223372036854775808 ≤ flags ∧ flags ≤ 9223372036854775807) ∧ (-9223372036854775808 ≤ win ∧ win ≤ 9223372036854775807)
def arp0 (op sha spa tha tpa : Int) : Prop := op = 0 ∧ sha = 0 ∧ spa = 0 ∧ tha = 0 ∧ tpa = 0
def head0 (fr to proto ttl id : Int) : Prop := fr = 0 ∧ to = 0 ∧ proto = 0 ∧ ttl = 0 ∧ id = 0
def ends0 (sport dport seq ack flags win : Int) : Prop := sport = 0 ∧ dport = 0 ∧ seq = 0 ∧ ack = 0 ∧ flags = 0 ∧ win = 0
structure U.Fits (dst src type op sha spa tha tpa fr to proto ttl id sport dport seq ack flags win : Int) (n : Nat) : Prop where
  eth : (1536 ≤ type ∧ type ≤ 65535) ∧ dst ≤ 281474976710655 ∧ src ≤ 281474976710655
  arp : type = 2054 → (op = 1 ∨ op = 2) ∧ sha ≤ 281474976710655 ∧ tha ≤ 281474976710655 ∧ head0 fr to proto ttl id ∧ ends0 sport dport seq ack flags win ∧ n = 0
  ip : type = 2048 → arp0 op sha spa tha tpa ∧ (0 ≤ proto ∧ proto ≤ 255) ∧ (0 ≤ ttl ∧ ttl ≤ 255) ∧ (0 ≤ id ∧ id ≤ 65535) ∧ (0 ≤ sport ∧ sport ≤ 65535) ∧ (0 ≤ dport ∧ dport ≤ 65535) ∧ (0 ≤ win ∧ win ≤ 65535) ∧ (0 ≤ flags ∧ flags ≤ 255) ∧
    (¬ proto = 6 → seq = 0 ∧ ack = 0 ∧ flags = 0 ∧ win = 0) ∧ (¬ proto = 6 → ¬ proto = 17 → sport = 0 ∧ dport = 0)
  no : ¬ type = 2054 → ¬ type = 2048 → arp0 op sha spa tha tpa ∧ head0 fr to proto ttl id ∧ ends0 sport dport seq ack flags win
theorem fitsT_run (K : AV → St → Prop) (dst src type op sha spa tha tpa fr to proto ttl id sport dport seq ack flags win : Int) (B : List Int) (o n c cap : Nat) (hk : U.Kin dst src type op sha spa tha tpa fr to proto ttl id sport dport seq ack flags win)
    (hT : U.Fits dst src type op sha spa tha tpa fr to proto ttl id sport dport seq ack flags win n → K (lit (.bool true)) (ar [bs B cap true])) (hN : ¬ U.Fits dst src type op sha spa tha tpa fr to proto ttl id sport dport seq ack flags win n → K (lit (.bool false)) (ar [bs B cap true])) :
    runI inv0 tF6 41 [frA dst src type op sha spa tha tpa fr to proto ttl id sport dport seq ack flags win (aslC ⟨0, o, n, c⟩)] (ar [bs B cap true]) K := by
  rw [fitsT_vc]
  obtain ⟨⟨u1, u2, u3, u4⟩, ⟨v1, v2, v3, v4, v5, v6⟩, ⟨w1, w2, w3, w4, w5, w6, w7, w8, w9⟩⟩ := hk
  refine ⟨fun h => hN (fun hF => by have := hF.eth.1.1; omega), fun h0 z0 hz0 => ⟨by decide, fun z1 hz1 => ?_⟩⟩
  have f1 := fit16 w1 hz0 hz1
  refine ⟨fun h => hN (fun hF => h (f1.2 (by have := hF.eth.1; omega))), fun h1 => ⟨by decide, fun z2 hz2 => ?_⟩⟩
  have f2 := fit48 u1 hz2
  refine ⟨fun h => hN (fun hF => h (f2.2 hF.eth.2.1)), fun h2 => ⟨by decide, fun z3 hz3 => ?_⟩⟩
  have f3 := fit48 u2 hz3
  refine ⟨fun h => hN (fun hF => h (f3.2 hF.eth.2.2)), fun h3 => ?_⟩
  have E : (1536 ≤ type ∧ type ≤ 65535) ∧ dst ≤ 281474976710655 ∧ src ≤ 281474976710655 := by omega
  -- an Arp
  have tail : ∀ z4 z5 : Int, (z4 = 0 ↔ sha ≤ 281474976710655) → (z5 = 0 ↔ tha ≤ 281474976710655) → type = 2054 → (op = 1 ∨ op = 2) → ¬¬ z4 = 0 → ¬¬ z5 = 0 →
      (fr = 0 ∧ to = 0 ∧ proto = 0 ∧ ttl = 0 ∧ id = 0 ∧ True → (sport = 0 ∧ dport = 0 ∧ seq = 0 ∧ ack = 0 ∧ flags = 0 ∧ win = 0 ∧ True → ∀ z6 : Int, z6 = (n : Int) → (z6 = 0 → K (lit (.bool true)) (ar [bs B cap true])) ∧ (¬ z6 = 0 → K (lit (.bool false)) (ar [bs B cap true]))) ∧ (¬ (sport = 0 ∧ dport = 0 ∧ seq = 0 ∧ ack = 0 ∧ flags = 0 ∧ win = 0 ∧ True) → K (lit (.bool false)) (ar [bs B cap true]))) ∧
        (¬ (fr = 0 ∧ to = 0 ∧ proto = 0 ∧ ttl = 0 ∧ id = 0 ∧ True) → K (lit (.bool false)) (ar [bs B cap true])) := by
    intro z4 z5 f4 f5 ht hop h4 h5
    refine ⟨fun hh => ⟨fun he z6 hz6 => ⟨fun h6 => hT ⟨E, fun _ => ⟨hop, by omega, by omega, ⟨hh.1, hh.2.1, hh.2.2.1, hh.2.2.2.1, hh.2.2.2.2.1⟩, ⟨he.1, he.2.1, he.2.2.1, he.2.2.2.1, he.2.2.2.2.1, he.2.2.2.2.2.1⟩, by omega⟩, fun h => by omega, fun h => by omega⟩, fun h6 => hN (fun hF => by have := (hF.arp ht).2.2.2.2.2; omega)⟩,
      fun he => hN (fun hF => he (by obtain ⟨a1, a2, a3, a4, a5, a6⟩ := (hF.arp ht).2.2.2.2.1; exact ⟨a1, a2, a3, a4, a5, a6, trivial⟩))⟩, fun hh => hN (fun hF => hh (by obtain ⟨a1, a2, a3, a4, a5⟩ := (hF.arp ht).2.2.2.1; exact ⟨a1, a2, a3, a4, a5, trivial⟩))⟩
  refine ⟨fun ht => ⟨fun hop => ⟨by decide, fun z4 hz4 => ?_⟩, fun hop => ⟨fun hop2 => ⟨by decide, fun z7 hz7 => ?_⟩, fun hop2 => hN (fun hF => by have := (hF.arp ht).1; omega)⟩⟩, fun ht => ⟨fun ht2 => ?_, fun ht2 => ?_⟩⟩
  · have f4 := fit48 u3 hz4
    refine ⟨fun h => hN (fun hF => h (f4.2 (hF.arp ht).2.1)), fun h4 => ⟨by decide, fun z5 hz5 => ?_⟩⟩
    have f5 := fit48 u4 hz5
    exact ⟨fun h => hN (fun hF => h (f5.2 (hF.arp ht).2.2.1)), fun h5 => tail z4 z5 f4 f5 ht (.inl hop) h4 h5⟩
  · have f4 := fit48 u3 hz7
    refine ⟨fun h => hN (fun hF => h (f4.2 (hF.arp ht).2.1)), fun h4 => ⟨by decide, fun z5 hz5 => ?_⟩⟩
    have f5 := fit48 u4 hz5
    exact ⟨fun h => hN (fun hF => h (f5.2 (hF.arp ht).2.2.1)), fun h5 => tail z7 z5 f4 f5 ht (.inr hop2) h4 h5⟩
  · refine ⟨fun ha z10 hz10 => ⟨by decide, fun z11 hz11 => ?_⟩, fun ha => hN (fun hF => ha (by obtain ⟨a1, a2, a3, a4, a5⟩ := (hF.ip ht2).1; exact ⟨a1, a2, a4, a3, a5, trivial⟩))⟩
    have f1 := fit8 w3 hz10 hz11
    refine ⟨fun h => hN (fun hF => h (f1.2 (hF.ip ht2).2.1)), fun g1 z12 hz12 => ⟨by decide, fun z13 hz13 => ?_⟩⟩
    have f2 := fit8 w4 hz12 hz13
    refine ⟨fun h => hN (fun hF => h (f2.2 (hF.ip ht2).2.2.1)), fun g2 z14 hz14 => ⟨by decide, fun z15 hz15 => ?_⟩⟩
    have f3 := fit16 w5 hz14 hz15
    refine ⟨fun h => hN (fun hF => h (f3.2 (hF.ip ht2).2.2.2.1)), fun g3 z16 hz16 => ⟨by decide, fun z17 hz17 => ?_⟩⟩
    have f4 := fit16 w6 hz16 hz17
    refine ⟨fun h => hN (fun hF => h (f4.2 (hF.ip ht2).2.2.2.2.1)), fun g4 z18 hz18 => ⟨by decide, fun z19 hz19 => ?_⟩⟩
    have f5 := fit16 w7 hz18 hz19
    refine ⟨fun h => hN (fun hF => h (f5.2 (hF.ip ht2).2.2.2.2.2.1)), fun g5 z20 hz20 => ⟨by decide, fun z21 hz21 => ?_⟩⟩
    have f6 := fit16 w9 hz20 hz21
    refine ⟨fun h => hN (fun hF => h (f6.2 (hF.ip ht2).2.2.2.2.2.2.1)), fun g6 z22 hz22 => ⟨by decide, fun z23 hz23 => ?_⟩⟩
    have f7 := fit8 w8 hz22 hz23
    refine ⟨fun h => hN (fun hF => h (f7.2 (hF.ip ht2).2.2.2.2.2.2.2.1)), fun g7 => ?_⟩
    have mk : (¬ proto = 6 → seq = 0 ∧ ack = 0 ∧ flags = 0 ∧ win = 0) → (¬ proto = 6 → ¬ proto = 17 → sport = 0 ∧ dport = 0) → U.Fits dst src type op sha spa tha tpa fr to proto ttl id sport dport seq ack flags win n := fun k1 k2 =>
      ⟨E, fun h => absurd h ht, fun _ => ⟨⟨ha.1, ha.2.1, ha.2.2.2.1, ha.2.2.1, ha.2.2.2.2.1⟩, f1.1 (by omega), f2.1 (by omega), f3.1 (by omega), f4.1 (by omega), f5.1 (by omega), f6.1 (by omega), f7.1 (by omega), k1, k2⟩, fun _ h => absurd ht2 h⟩
    refine ⟨fun hp => hT (mk (fun h => absurd hp h) (fun h => absurd hp h)), fun hp => ⟨fun hp2 => ⟨fun he => hT (mk (fun _ => ⟨he.2.2.1, he.2.2.2.1, he.2.2.2.2.1, he.2.2.2.2.2.1⟩) (fun _ h => absurd hp2 h)), fun he => hN (fun hF => he ?_)⟩,
      fun hp2 => ⟨fun he => hT (mk (fun _ => ⟨he.2.2.1, he.2.2.2.1, he.2.2.2.2.1, he.2.2.2.2.2.1⟩) (fun _ _ => ⟨he.1, he.2.1⟩)), fun he => hN (fun hF => he ?_)⟩⟩⟩
    · obtain ⟨a1, a2, a3, a4⟩ := (hF.ip ht2).2.2.2.2.2.2.2.2.1 hp
      exact ⟨rfl, rfl, a1, a2, a3, a4, trivial⟩
    · obtain ⟨a1, a2, a3, a4⟩ := (hF.ip ht2).2.2.2.2.2.2.2.2.1 hp
      obtain ⟨b1, b2⟩ := (hF.ip ht2).2.2.2.2.2.2.2.2.2 hp hp2
      exact ⟨b1, b2, a1, a2, a3, a4, trivial⟩
  · refine ⟨fun ha => ⟨fun hh => ⟨fun he => hT ⟨E, fun h => absurd h ht, fun h => absurd h ht2, fun _ _ => ⟨⟨ha.1, ha.2.1, ha.2.2.2.1, ha.2.2.1, ha.2.2.2.2.1⟩, ⟨hh.1, hh.2.1, hh.2.2.1, hh.2.2.2.1, hh.2.2.2.2.1⟩, ⟨he.1, he.2.1, he.2.2.1, he.2.2.2.1, he.2.2.2.2.1, he.2.2.2.2.2.1⟩⟩⟩,
      fun he => hN (fun hF => he (by obtain ⟨a1, a2, a3, a4, a5, a6⟩ := (hF.no ht ht2).2.2; exact ⟨a1, a2, a3, a4, a5, a6, trivial⟩))⟩, fun hh => hN (fun hF => hh (by obtain ⟨a1, a2, a3, a4, a5⟩ := (hF.no ht ht2).2.1; exact ⟨a1, a2, a3, a4, a5, trivial⟩))⟩,
      fun ha => hN (fun hF => ha (by obtain ⟨a1, a2, a3, a4, a5⟩ := (hF.no ht ht2).1; exact ⟨a1, a2, a4, a3, a5, trivial⟩))⟩
theorem fitsF_run (K : AV → St → Prop) (dst src type op sha spa tha tpa fr to proto ttl id sport dport seq ack flags win : Int) (B : List Int) (o n c cap : Nat) (hk : U.Kin dst src type op sha spa tha tpa fr to proto ttl id sport dport seq ack flags win)
    (hT : U.Fits dst src type op sha spa tha tpa fr to proto ttl id sport dport seq ack flags win n → K (lit (.bool true)) (ar [bs B cap false])) (hN : ¬ U.Fits dst src type op sha spa tha tpa fr to proto ttl id sport dport seq ack flags win n → K (lit (.bool false)) (ar [bs B cap false])) :
    runI inv0 tF6 41 [frA dst src type op sha spa tha tpa fr to proto ttl id sport dport seq ack flags win (aslC ⟨0, o, n, c⟩)] (ar [bs B cap false]) K := by
  rw [fitsF_vc]
  obtain ⟨⟨u1, u2, u3, u4⟩, ⟨v1, v2, v3, v4, v5, v6⟩, ⟨w1, w2, w3, w4, w5, w6, w7, w8, w9⟩⟩ := hk
  refine ⟨fun h => hN (fun hF => by have := hF.eth.1.1; omega), fun h0 z0 hz0 => ⟨by decide, fun z1 hz1 => ?_⟩⟩
  have f1 := fit16 w1 hz0 hz1
  refine ⟨fun h => hN (fun hF => h (f1.2 (by have := hF.eth.1; omega))), fun h1 => ⟨by decide, fun z2 hz2 => ?_⟩⟩
  have f2 := fit48 u1 hz2
  refine ⟨fun h => hN (fun hF => h (f2.2 hF.eth.2.1)), fun h2 => ⟨by decide, fun z3 hz3 => ?_⟩⟩
  have f3 := fit48 u2 hz3
  refine ⟨fun h => hN (fun hF => h (f3.2 hF.eth.2.2)), fun h3 => ?_⟩
  have E : (1536 ≤ type ∧ type ≤ 65535) ∧ dst ≤ 281474976710655 ∧ src ≤ 281474976710655 := by omega
  -- an Arp
  have tail : ∀ z4 z5 : Int, (z4 = 0 ↔ sha ≤ 281474976710655) → (z5 = 0 ↔ tha ≤ 281474976710655) → type = 2054 → (op = 1 ∨ op = 2) → ¬¬ z4 = 0 → ¬¬ z5 = 0 →
      (fr = 0 ∧ to = 0 ∧ proto = 0 ∧ ttl = 0 ∧ id = 0 ∧ True → (sport = 0 ∧ dport = 0 ∧ seq = 0 ∧ ack = 0 ∧ flags = 0 ∧ win = 0 ∧ True → ∀ z6 : Int, z6 = (n : Int) → (z6 = 0 → K (lit (.bool true)) (ar [bs B cap false])) ∧ (¬ z6 = 0 → K (lit (.bool false)) (ar [bs B cap false]))) ∧ (¬ (sport = 0 ∧ dport = 0 ∧ seq = 0 ∧ ack = 0 ∧ flags = 0 ∧ win = 0 ∧ True) → K (lit (.bool false)) (ar [bs B cap false]))) ∧
        (¬ (fr = 0 ∧ to = 0 ∧ proto = 0 ∧ ttl = 0 ∧ id = 0 ∧ True) → K (lit (.bool false)) (ar [bs B cap false])) := by
    intro z4 z5 f4 f5 ht hop h4 h5
    refine ⟨fun hh => ⟨fun he z6 hz6 => ⟨fun h6 => hT ⟨E, fun _ => ⟨hop, by omega, by omega, ⟨hh.1, hh.2.1, hh.2.2.1, hh.2.2.2.1, hh.2.2.2.2.1⟩, ⟨he.1, he.2.1, he.2.2.1, he.2.2.2.1, he.2.2.2.2.1, he.2.2.2.2.2.1⟩, by omega⟩, fun h => by omega, fun h => by omega⟩, fun h6 => hN (fun hF => by have := (hF.arp ht).2.2.2.2.2; omega)⟩,
      fun he => hN (fun hF => he (by obtain ⟨a1, a2, a3, a4, a5, a6⟩ := (hF.arp ht).2.2.2.2.1; exact ⟨a1, a2, a3, a4, a5, a6, trivial⟩))⟩, fun hh => hN (fun hF => hh (by obtain ⟨a1, a2, a3, a4, a5⟩ := (hF.arp ht).2.2.2.1; exact ⟨a1, a2, a3, a4, a5, trivial⟩))⟩
  refine ⟨fun ht => ⟨fun hop => ⟨by decide, fun z4 hz4 => ?_⟩, fun hop => ⟨fun hop2 => ⟨by decide, fun z7 hz7 => ?_⟩, fun hop2 => hN (fun hF => by have := (hF.arp ht).1; omega)⟩⟩, fun ht => ⟨fun ht2 => ?_, fun ht2 => ?_⟩⟩
  · have f4 := fit48 u3 hz4
    refine ⟨fun h => hN (fun hF => h (f4.2 (hF.arp ht).2.1)), fun h4 => ⟨by decide, fun z5 hz5 => ?_⟩⟩
    have f5 := fit48 u4 hz5
    exact ⟨fun h => hN (fun hF => h (f5.2 (hF.arp ht).2.2.1)), fun h5 => tail z4 z5 f4 f5 ht (.inl hop) h4 h5⟩
  · have f4 := fit48 u3 hz7
    refine ⟨fun h => hN (fun hF => h (f4.2 (hF.arp ht).2.1)), fun h4 => ⟨by decide, fun z5 hz5 => ?_⟩⟩
    have f5 := fit48 u4 hz5
    exact ⟨fun h => hN (fun hF => h (f5.2 (hF.arp ht).2.2.1)), fun h5 => tail z7 z5 f4 f5 ht (.inr hop2) h4 h5⟩
  · refine ⟨fun ha z10 hz10 => ⟨by decide, fun z11 hz11 => ?_⟩, fun ha => hN (fun hF => ha (by obtain ⟨a1, a2, a3, a4, a5⟩ := (hF.ip ht2).1; exact ⟨a1, a2, a4, a3, a5, trivial⟩))⟩
    have f1 := fit8 w3 hz10 hz11
    refine ⟨fun h => hN (fun hF => h (f1.2 (hF.ip ht2).2.1)), fun g1 z12 hz12 => ⟨by decide, fun z13 hz13 => ?_⟩⟩
    have f2 := fit8 w4 hz12 hz13
    refine ⟨fun h => hN (fun hF => h (f2.2 (hF.ip ht2).2.2.1)), fun g2 z14 hz14 => ⟨by decide, fun z15 hz15 => ?_⟩⟩
    have f3 := fit16 w5 hz14 hz15
    refine ⟨fun h => hN (fun hF => h (f3.2 (hF.ip ht2).2.2.2.1)), fun g3 z16 hz16 => ⟨by decide, fun z17 hz17 => ?_⟩⟩
    have f4 := fit16 w6 hz16 hz17
    refine ⟨fun h => hN (fun hF => h (f4.2 (hF.ip ht2).2.2.2.2.1)), fun g4 z18 hz18 => ⟨by decide, fun z19 hz19 => ?_⟩⟩
    have f5 := fit16 w7 hz18 hz19
    refine ⟨fun h => hN (fun hF => h (f5.2 (hF.ip ht2).2.2.2.2.2.1)), fun g5 z20 hz20 => ⟨by decide, fun z21 hz21 => ?_⟩⟩
    have f6 := fit16 w9 hz20 hz21
    refine ⟨fun h => hN (fun hF => h (f6.2 (hF.ip ht2).2.2.2.2.2.2.1)), fun g6 z22 hz22 => ⟨by decide, fun z23 hz23 => ?_⟩⟩
    have f7 := fit8 w8 hz22 hz23
    refine ⟨fun h => hN (fun hF => h (f7.2 (hF.ip ht2).2.2.2.2.2.2.2.1)), fun g7 => ?_⟩
    have mk : (¬ proto = 6 → seq = 0 ∧ ack = 0 ∧ flags = 0 ∧ win = 0) → (¬ proto = 6 → ¬ proto = 17 → sport = 0 ∧ dport = 0) → U.Fits dst src type op sha spa tha tpa fr to proto ttl id sport dport seq ack flags win n := fun k1 k2 =>
      ⟨E, fun h => absurd h ht, fun _ => ⟨⟨ha.1, ha.2.1, ha.2.2.2.1, ha.2.2.1, ha.2.2.2.2.1⟩, f1.1 (by omega), f2.1 (by omega), f3.1 (by omega), f4.1 (by omega), f5.1 (by omega), f6.1 (by omega), f7.1 (by omega), k1, k2⟩, fun _ h => absurd ht2 h⟩
    refine ⟨fun hp => hT (mk (fun h => absurd hp h) (fun h => absurd hp h)), fun hp => ⟨fun hp2 => ⟨fun he => hT (mk (fun _ => ⟨he.2.2.1, he.2.2.2.1, he.2.2.2.2.1, he.2.2.2.2.2.1⟩) (fun _ h => absurd hp2 h)), fun he => hN (fun hF => he ?_)⟩,
      fun hp2 => ⟨fun he => hT (mk (fun _ => ⟨he.2.2.1, he.2.2.2.1, he.2.2.2.2.1, he.2.2.2.2.2.1⟩) (fun _ _ => ⟨he.1, he.2.1⟩)), fun he => hN (fun hF => he ?_)⟩⟩⟩
    · obtain ⟨a1, a2, a3, a4⟩ := (hF.ip ht2).2.2.2.2.2.2.2.2.1 hp
      exact ⟨rfl, rfl, a1, a2, a3, a4, trivial⟩
    · obtain ⟨a1, a2, a3, a4⟩ := (hF.ip ht2).2.2.2.2.2.2.2.2.1 hp
      obtain ⟨b1, b2⟩ := (hF.ip ht2).2.2.2.2.2.2.2.2.2 hp hp2
      exact ⟨b1, b2, a1, a2, a3, a4, trivial⟩
  · refine ⟨fun ha => ⟨fun hh => ⟨fun he => hT ⟨E, fun h => absurd h ht, fun h => absurd h ht2, fun _ _ => ⟨⟨ha.1, ha.2.1, ha.2.2.2.1, ha.2.2.1, ha.2.2.2.2.1⟩, ⟨hh.1, hh.2.1, hh.2.2.1, hh.2.2.2.1, hh.2.2.2.2.1⟩, ⟨he.1, he.2.1, he.2.2.1, he.2.2.2.1, he.2.2.2.2.1, he.2.2.2.2.2.1⟩⟩⟩,
      fun he => hN (fun hF => he (by obtain ⟨a1, a2, a3, a4, a5, a6⟩ := (hF.no ht ht2).2.2; exact ⟨a1, a2, a3, a4, a5, a6, trivial⟩))⟩, fun hh => hN (fun hF => hh (by obtain ⟨a1, a2, a3, a4, a5⟩ := (hF.no ht ht2).2.1; exact ⟨a1, a2, a3, a4, a5, trivial⟩))⟩,
      fun ha => hN (fun hF => ha (by obtain ⟨a1, a2, a3, a4, a5⟩ := (hF.no ht ht2).1; exact ⟨a1, a2, a4, a3, a5, trivial⟩))⟩
theorem fits_rng {dst src type op sha spa tha tpa fr to proto ttl id sport dport seq ack flags win : Int} {n : Nat} (hk : U.Kin dst src type op sha spa tha tpa fr to proto ttl id sport dport seq ack flags win) (h : U.Fits dst src type op sha spa tha tpa fr to proto ttl id sport dport seq ack flags win n) : U.Rng dst src type op sha spa tha tpa fr to proto ttl id sport dport seq ack flags win := by
  obtain ⟨⟨u1, u2, u3, u4⟩, ⟨v1, v2, v3, v4, v5, v6⟩, ⟨w1, w2, w3, w4, w5, w6, w7, w8, w9⟩⟩ := hk
  refine ⟨⟨⟨u1.1, h.eth.2.1⟩, ⟨u2.1, h.eth.2.2⟩, by have := h.eth.1; omega⟩, fun ht => ?_, fun ht => ?_⟩
  · obtain ⟨a1, a2, a3, _⟩ := h.arp ht
    exact ⟨by omega, ⟨u3.1, a2⟩, v1, ⟨u4.1, a3⟩, v2⟩
  · obtain ⟨_, a1, a2, a3, a4, a5, a6, a7, _⟩ := h.ip ht
    exact ⟨v3, v4, a1, a2, a3, a4, a5, v5, v6, a7, a6⟩
end Go.Proofs.YtlfigaddddncmaaDoor
end

section
namespace Go.Proofs.YtlfigaddddncmaaDoor
open Go Reck
set_option linter.unusedVariables false
set_option maxRecDepth 100000
end Go.Proofs.YtlfigaddddncmaaDoor
end

section
set_option linter.unusedVariables false
set_option linter.unusedSimpArgs false
namespace Go.Proofs.YtlfigaddddncmaaDoor
open Go Reck

def U.restB (L : List Int) (a e : Int) : List Int := if e = 0 then L.drop (a.toNat / 8) else []
def U.restA (L : List Int) (a e : Int) : Int := if e = 0 then 8 * L.length else a
def tRest : Tbl := fun _ _ _ => none
theorem tRest_ok : TblOk Tryd.prog tRest := by intro f tm σ C h; cases h
def tFD : Tbl := tblOr tF6 tRest
theorem tFD_ok : TblOk Tryd.prog tFD := tblOr_ok tF6_ok tRest_ok

/-! ### How reading goes on -/
theorem inA_bnd {L : List Int} {a e n a' : Int} (h : a' = U.inA L a e n) (hn : 0 ≤ n) (ha : 0 ≤ a ∧ a ≤ 8 * L.length) : 0 ≤ a' ∧ a' ≤ 8 * L.length := by
  rw [h]; unfold U.inA; split <;> omega
theorem inE_iff {L : List Int} {a e n e' : Int} (h : e' = U.inE L a e n) : e' = 0 ↔ e = 0 ∧ a + n ≤ 8 * L.length := by
  rw [h]; unfold U.inE
  split
  · split <;> omega
  · omega
theorem inA_of {L : List Int} {a e n a' : Int} (h : a' = U.inA L a e n) (he : e = 0) (hf : a + n ≤ 8 * L.length) : a' = a + n := by
  rw [h]; unfold U.inA; rw [if_pos ⟨he, hf⟩]
theorem inV_of {L : List Int} {a e n z : Int} (h : z = U.inV L a e n) (he : e = 0) (hf : a + n ≤ 8 * L.length) : z = U.loa L a n := by
  rw [h]; unfold U.inV; rw [if_pos ⟨he, hf⟩]
theorem loa_bnd (L : List Int) (a n : Int) : 0 ≤ U.loa L a n ∧ U.loa L a n < 2 ^ n.toNat := by
  unfold U.loa
  have := val_lt (span (L.map Int.toNat) a.toNat n.toNat)
  rw [span_length] at this
  refine ⟨by omega, ?_⟩
  have h2 : (2 : Int) ^ n.toNat = ((2 ^ n.toNat : Nat) : Int) := by simp
  rw [h2]; omega
theorem inV_bnd {L : List Int} {a e n z : Int} (h : z = U.inV L a e n) : 0 ≤ z ∧ z < 2 ^ n.toNat := by
  rw [h]; unfold U.inV
  split
  · exact loa_bnd L a n
  · refine ⟨Int.le_refl _, ?_⟩
    have h2 : (2 : Int) ^ n.toNat = ((2 ^ n.toNat : Nat) : Int) := by simp
    rw [h2]
    have := Nat.two_pow_pos n.toNat
    omega
theorem inV8 {L : List Int} {a e z : Int} (h : z = U.inV L a e 8) : 0 ≤ z ∧ z ≤ 255 := by have := inV_bnd h; simp at this; omega
theorem inV16 {L : List Int} {a e z : Int} (h : z = U.inV L a e 16) : 0 ≤ z ∧ z ≤ 65535 := by have := inV_bnd h; simp at this; omega
theorem inV32 {L : List Int} {a e z : Int} (h : z = U.inV L a e 32) : 0 ≤ z ∧ z ≤ 4294967295 := by have := inV_bnd h; simp at this; omega
theorem inV48 {L : List Int} {a e z : Int} (h : z = U.inV L a e 48) : 0 ≤ z ∧ z ≤ 281474976710655 := by have := inV_bnd h; simp at this; omega
end Go.Proofs.YtlfigaddddncmaaDoor
end

section
namespace Go.Proofs.YtlfigaddddncmaaDoor
open Go Reck
set_option linter.unusedVariables false
set_option maxRecDepth 100000
end Go.Proofs.YtlfigaddddncmaaDoor
end
