/- Parts of a proof, one behind the other: FG FH FI FJ FK. No condition. -/
import Derived.Test.YtlfigaddddncmaaDoorGN
section
set_option linter.unusedVariables false
set_option linter.unusedSimpArgs false
namespace Go.Proofs.YtlfigaddddncmaaDoor
open Go Reck

def tFits : Tbl := fun f args σ => if f == 41 then match args, σ with
    | [.inl (.inr l)], ⟨[], [], 0, [some ⟨5, .n .u8, B, cap, ro⟩], 0⟩ => match frX l with
      | some ([dst, src, type, op, sha, tha, spa, tpa, fr, to, proto, ttl, id, sport, dport, seq, ack, flags, win], b) => match aslX (cell b) with
        | some ⟨0, o, n, c⟩ => some fun K => U.Kin dst src type op sha spa tha tpa fr to proto ttl id sport dport seq ack flags win ∧ (U.Fits dst src type op sha spa tha tpa fr to proto ttl id sport dport seq ack flags win n → K (lit (.bool true)) (ar [bs B cap ro])) ∧ (¬ U.Fits dst src type op sha spa tha tpa fr to proto ttl id sport dport seq ack flags win n → K (lit (.bool false)) (ar [bs B cap ro]))
        | _ => none
      | _ => none
    | _, _ => none
  else none
theorem tFits_ok : TblOk Tryd.prog tFits := by
  intro f tm σ C h K hK
  unfold tFits at h
  split at h
  · rename_i hf
    obtain rfl : f = 41 := by simpa using hf
    split at h
    · rename_i B cap ro
      split at h
      · rename_i dst src type op sha tha spa tpa fr to proto ttl id sport dport seq ack flags win b hl
        obtain rfl := frX_eq hl
        split at h
        · rename_i o n c hs
          obtain rfl := cell_inj (aslX_eq hs)
          simp only [Option.some.injEq] at h; subst h
          cases ro with
          | true => exact knownC noOv names (conOk_of tF6_ok) (fitsT_run K dst src type op sha spa tha tpa fr to proto ttl id sport dport seq ack flags win B o n c cap hK.1 hK.2.1 hK.2.2)
          | false => exact knownC noOv names (conOk_of tF6_ok) (fitsF_run K dst src type op sha spa tha tpa fr to proto ttl id sport dport seq ack flags win B o n c cap hK.1 hK.2.1 hK.2.2)
        · cases h
      · cases h
    · cases h
  · cases h
def tWrite : Tbl := fun _ _ _ => none
theorem tWrite_ok : TblOk Tryd.prog tWrite := by intro f tm σ C h; cases h
def tRead : Tbl := fun _ _ _ => none
theorem tRead_ok : TblOk Tryd.prog tRead := by intro f tm σ C h; cases h
def tFG : Tbl := tblOr tFD (tblOr tFits (tblOr tWrite tRead))
theorem tFG_ok : TblOk Tryd.prog tFG := tblOr_ok tFD_ok (tblOr_ok tFits_ok (tblOr_ok tWrite_ok tRead_ok))
end Go.Proofs.YtlfigaddddncmaaDoor
end

section
namespace Go.Proofs.YtlfigaddddncmaaDoor
open Go Reck
set_option linter.unusedVariables false
def rfA (dst src type op sha spa tha tpa fr to proto ttl id sport dport seq ack flags win : Int) (body : Cell) : AV := .inl (.inr [xintC .u64 dst, xintC .u64 src, xintC .i64 type, xintC .i64 op, xintC .u64 sha, xintC .u32 spa, xintC .u64 tha, xintC .u32 tpa, xintC .u32 fr, xintC .u32 to, xintC .i64 proto, xintC .i64 ttl, xintC .i64 id, xintC .i64 sport, xintC .i64 dport, xintC .u32 seq, xintC .u32 ack, xintC .i64 flags, xintC .i64 win, body])
set_option maxRecDepth 100000
theorem mayT_vc (K : AV → St → Prop) (dst src type op sha spa tha tpa fr to proto ttl id sport dport seq ack flags win : Int) (B : List Int) (o n c cap : Nat) : (runI inv0 tFG 24 [frA dst src type op sha spa tha tpa fr to proto ttl id sport dport seq ack flags win (aslC ⟨0, o, n, c⟩)] (ar [bs B cap true]) K) = (U.Kin dst src type op sha spa tha tpa fr to proto ttl id sport dport seq ack flags win ∧ (U.Fits dst src type op sha spa tha tpa fr to proto ttl id sport dport seq ack flags win n → n ≤ (16777216 : Nat) ∧ ∀ (z0 : Int), z0 = U.size type proto (↑n : Int) → (z0 ≤ (512 : Int) → K (Sum.inl (Sum.inl (Sum.inl (Value.bool true)))) { heap := [], ints := [], opqs := (0 : Nat), arrs := [some { elem := OfNat.ofNat (5 : Nat), k := AK.n IntKind.u8, l := B, cap := cap, ro := true }], junks := (0 : Nat) }) ∧ (¬z0 ≤ (512 : Int) → K (Sum.inl (Sum.inl (Sum.inl (Value.bool false)))) { heap := [], ints := [], opqs := (0 : Nat), arrs := [some { elem := OfNat.ofNat (5 : Nat), k := AK.n IntKind.u8, l := B, cap := cap, ro := true }], junks := (0 : Nat) })) ∧ (¬U.Fits dst src type op sha spa tha tpa fr to proto ttl id sport dport seq ack flags win n → K (Sum.inl (Sum.inl (Sum.inl (Value.bool false)))) { heap := [], ints := [], opqs := (0 : Nat), arrs := [some { elem := OfNat.ofNat (5 : Nat), k := AK.n IntKind.u8, l := B, cap := cap, ro := true }], junks := (0 : Nat) })) := by kernel_rfl
theorem mayF_vc (K : AV → St → Prop) (dst src type op sha spa tha tpa fr to proto ttl id sport dport seq ack flags win : Int) (B : List Int) (o n c cap : Nat) : (runI inv0 tFG 24 [frA dst src type op sha spa tha tpa fr to proto ttl id sport dport seq ack flags win (aslC ⟨0, o, n, c⟩)] (ar [bs B cap false]) K) = (U.Kin dst src type op sha spa tha tpa fr to proto ttl id sport dport seq ack flags win ∧ (U.Fits dst src type op sha spa tha tpa fr to proto ttl id sport dport seq ack flags win n → n ≤ (16777216 : Nat) ∧ ∀ (z0 : Int), z0 = U.size type proto (↑n : Int) → (z0 ≤ (512 : Int) → K (Sum.inl (Sum.inl (Sum.inl (Value.bool true)))) { heap := [], ints := [], opqs := (0 : Nat), arrs := [some { elem := OfNat.ofNat (5 : Nat), k := AK.n IntKind.u8, l := B, cap := cap, ro := false }], junks := (0 : Nat) }) ∧ (¬z0 ≤ (512 : Int) → K (Sum.inl (Sum.inl (Sum.inl (Value.bool false)))) { heap := [], ints := [], opqs := (0 : Nat), arrs := [some { elem := OfNat.ofNat (5 : Nat), k := AK.n IntKind.u8, l := B, cap := cap, ro := false }], junks := (0 : Nat) })) ∧ (¬U.Fits dst src type op sha spa tha tpa fr to proto ttl id sport dport seq ack flags win n → K (Sum.inl (Sum.inl (Sum.inl (Value.bool false)))) { heap := [], ints := [], opqs := (0 : Nat), arrs := [some { elem := OfNat.ofNat (5 : Nat), k := AK.n IntKind.u8, l := B, cap := cap, ro := false }], junks := (0 : Nat) })) := by kernel_rfl
end Go.Proofs.YtlfigaddddncmaaDoor
end

section
set_option linter.unusedVariables false
set_option linter.unusedSimpArgs false
namespace Go.Proofs.YtlfigaddddncmaaDoor
open Go Reck

structure U.May (dst src type op sha spa tha tpa fr to proto ttl id sport dport seq ack flags win : Int) (n : Nat) : Prop where
  fits : U.Fits dst src type op sha spa tha tpa fr to proto ttl id sport dport seq ack flags win n
  size : U.size type proto n ≤ 512
structure U.Same (dst src type op sha spa tha tpa fr to proto ttl id sport dport seq ack flags win dst' src' type' op' sha' spa' tha' tpa' fr' to' proto' ttl' id' sport' dport' seq' ack' flags' win' : Int) (b b' : List Int) : Prop where
  num : dst = dst' ∧ src = src' ∧ type = type' ∧ op = op' ∧ sha = sha' ∧ spa = spa' ∧ tha = tha' ∧ tpa = tpa' ∧ fr = fr' ∧ to = to' ∧ proto = proto' ∧ ttl = ttl' ∧ id = id' ∧ sport = sport' ∧ dport = dport' ∧ seq = seq' ∧ ack = ack' ∧ flags = flags' ∧ win = win'
  body : b = b'
theorem by_byteL {B : List Int} (h : U.By B) (o n : Nat) : ByteL ((B.drop o).take n) := by
  obtain ⟨cs, h1, h2⟩ := h
  refine ⟨?_⟩
  rw [h1, nz_drop, nz_take]
  exact nz_byte (fun c hc => h2 c (List.mem_of_mem_drop (List.mem_of_mem_take hc)))
theorem mayT_run (K : AV → St → Prop) (dst src type op sha spa tha tpa fr to proto ttl id sport dport seq ack flags win : Int) (B : List Int) (o n c cap : Nat) (hk : U.Kin dst src type op sha spa tha tpa fr to proto ttl id sport dport seq ack flags win) (hn : n ≤ 16777216)
    (hT : U.May dst src type op sha spa tha tpa fr to proto ttl id sport dport seq ack flags win n → K (lit (.bool true)) (ar [bs B cap true])) (hN : ¬ U.May dst src type op sha spa tha tpa fr to proto ttl id sport dport seq ack flags win n → K (lit (.bool false)) (ar [bs B cap true])) :
    runI inv0 tFG 24 [frA dst src type op sha spa tha tpa fr to proto ttl id sport dport seq ack flags win (aslC ⟨0, o, n, c⟩)] (ar [bs B cap true]) K := by
  rw [mayT_vc]
  refine ⟨hk, fun hf => ⟨hn, fun z0 h0 => ⟨fun h => hT ⟨hf, by omega⟩, fun h => hN (fun hm => h (by have := hm.size; omega))⟩⟩, fun hf => hN (fun hm => hf hm.fits)⟩
theorem mayF_run (K : AV → St → Prop) (dst src type op sha spa tha tpa fr to proto ttl id sport dport seq ack flags win : Int) (B : List Int) (o n c cap : Nat) (hk : U.Kin dst src type op sha spa tha tpa fr to proto ttl id sport dport seq ack flags win) (hn : n ≤ 16777216)
    (hT : U.May dst src type op sha spa tha tpa fr to proto ttl id sport dport seq ack flags win n → K (lit (.bool true)) (ar [bs B cap false])) (hN : ¬ U.May dst src type op sha spa tha tpa fr to proto ttl id sport dport seq ack flags win n → K (lit (.bool false)) (ar [bs B cap false])) :
    runI inv0 tFG 24 [frA dst src type op sha spa tha tpa fr to proto ttl id sport dport seq ack flags win (aslC ⟨0, o, n, c⟩)] (ar [bs B cap false]) K := by
  rw [mayF_vc]
  refine ⟨hk, fun hf => ⟨hn, fun z0 h0 => ⟨fun h => hT ⟨hf, by omega⟩, fun h => hN (fun hm => h (by have := hm.size; omega))⟩⟩, fun hf => hN (fun hm => hf hm.fits)⟩
def tMay : Tbl := fun f args σ => if f == 24 then match args, σ with
    | [.inl (.inr l)], ⟨[], [], 0, [some ⟨5, .n .u8, B, cap, ro⟩], 0⟩ => match frX l with
      | some ([dst, src, type, op, sha, tha, spa, tpa, fr, to, proto, ttl, id, sport, dport, seq, ack, flags, win], b) => match aslX (cell b) with
        | some ⟨0, o, n, c⟩ => some fun K => (U.Kin dst src type op sha spa tha tpa fr to proto ttl id sport dport seq ack flags win ∧ n ≤ 16777216) ∧ (U.May dst src type op sha spa tha tpa fr to proto ttl id sport dport seq ack flags win n → K (lit (.bool true)) (ar [bs B cap ro])) ∧ (¬ U.May dst src type op sha spa tha tpa fr to proto ttl id sport dport seq ack flags win n → K (lit (.bool false)) (ar [bs B cap ro]))
        | _ => none
      | _ => none
    | _, _ => none
  else none
theorem tMay_ok : TblOk Tryd.prog tMay := by
  intro f tm σ C h K hK
  unfold tMay at h
  split at h
  · rename_i hf
    obtain rfl : f = 24 := by simpa using hf
    split at h
    · rename_i B cap ro
      split at h
      · rename_i dst src type op sha tha spa tpa fr to proto ttl id sport dport seq ack flags win b hl
        obtain rfl := frX_eq hl
        split at h
        · rename_i o n c hs
          obtain rfl := cell_inj (aslX_eq hs)
          simp only [Option.some.injEq] at h; subst h
          cases ro with
          | true => exact knownC noOv names (conOk_of tFG_ok) (mayT_run K dst src type op sha spa tha tpa fr to proto ttl id sport dport seq ack flags win B o n c cap hK.1.1 hK.1.2 hK.2.1 hK.2.2)
          | false => exact knownC noOv names (conOk_of tFG_ok) (mayF_run K dst src type op sha spa tha tpa fr to proto ttl id sport dport seq ack flags win B o n c cap hK.1.1 hK.1.2 hK.2.1 hK.2.2)
        · cases h
      · cases h
    · cases h
  · cases h
def tEncode : Tbl := fun _ _ _ => none
theorem tEncode_ok : TblOk Tryd.prog tEncode := by intro f tm σ C h; cases h
def kRf : List IntKind := [.u64, .u64, .i64, .i64, .u64, .u32, .u64, .u32, .u32, .u32, .i64, .i64, .i64, .i64, .i64, .u32, .u32, .i64, .i64]
def rfX (l : List Cell) : Option (List Int × Cell) :=
  match intsK kRf (l.take 19), l.drop 19 with
  | some vs, [b] => some (vs, b)
  | _, _ => none
theorem rfX_eq {l : List Cell} {vs : List Int} {b : Cell} (h : rfX l = some (vs, b)) : l = mkK kRf vs ++ [b] := by
  unfold rfX at h
  split at h
  · rename_i vs' b' h1 h2
    simp only [Option.some.injEq, Prod.mk.injEq] at h
    obtain ⟨rfl, rfl⟩ := h
    rw [← (intsK_eq h1).1, ← h2, List.take_append_drop]
  · cases h
def tSame2 : Tbl := fun _ _ _ => none
theorem tSame2_ok : TblOk Tryd.prog tSame2 := by intro f tm σ C h; cases h
def tRSame2 : Tbl := fun _ _ _ => none
theorem tRSame2_ok : TblOk Tryd.prog tRSame2 := by intro f tm σ C h; cases h
def tSame1 : Tbl := fun _ _ _ => none
theorem tSame1_ok : TblOk Tryd.prog tSame1 := by intro f tm σ C h; cases h
def tFI : Tbl := tblOr tFG (tblOr tMay (tblOr tEncode (tblOr tSame2 (tblOr tRSame2 tSame1))))
theorem tFI_ok : TblOk Tryd.prog tFI := tblOr_ok tFG_ok (tblOr_ok tMay_ok (tblOr_ok tEncode_ok (tblOr_ok tSame2_ok (tblOr_ok tRSame2_ok tSame1_ok))))
end Go.Proofs.YtlfigaddddncmaaDoor
end

section
namespace Go.Proofs.YtlfigaddddncmaaDoor
open Go Reck
set_option linter.unusedVariables false
set_option maxRecDepth 100000
end Go.Proofs.YtlfigaddddncmaaDoor
end

section
set_option linter.unusedVariables false
set_option linter.unusedSimpArgs false
namespace Go.Proofs.YtlfigaddddncmaaDoor
open Go Reck

def paV (dst src type op sha spa tha tpa fr to proto ttl id sport dport seq ack flags win : Int) (b : Cell) (e : Int) : AV := .inr [.inr [xintC .u64 dst, xintC .u64 src, xintC .i64 type, xintC .i64 op, xintC .u64 sha, xintC .u64 tha, xintC .u32 spa, xintC .u32 tpa, xintC .u32 fr, xintC .u32 to, xintC .i64 proto, xintC .i64 ttl, xintC .i64 id, xintC .i64 sport, xintC .i64 dport, xintC .u32 seq, xintC .u32 ack, xintC .i64 flags, xintC .i64 win, b], .inl (xintC .i64 e)]
def pa0 (e : Int) : AV := paV 0 0 0 0 0 0 0 0 0 0 0 0 0 0 0 0 0 0 0 nilC e
def patch2 (W L : List Int) (i : Nat) : List Int := W.take i ++ (L.drop i).take 2 ++ W.drop (i + 2)
/-- What was written, with the sums that were read. -/
def U.patch (W L : List Int) (type p : Int) : List Int :=
  if type = 2048 then (if U.en p = 0 then patch2 W L 24 else patch2 (patch2 W L 24) L (34 + (U.ea p).toNat)) else W
structure U.PaIs (W L : List Int) (type p : Int) : Prop where
  out : U.patch W L type p = L
theorem seal_by {L : List Int} {type p fr to : Int} {L' : List Int} (hb : U.By L) (h : U.Seal L type p fr to L') : U.By L' := by
  by_cases ht : type = 2048
  · by_cases hp : U.en p = 0
    · exact sto_by (h.one ht hp)
    · obtain ⟨A, L1, _, h1, h2⟩ := h.two ht hp
      exact sto_by h2
  · rw [h.no ht]; exact hb
theorem wr_by {dst src type op sha spa tha tpa fr to proto ttl id sport dport seq ack flags win : Int} {B : List Int} {o n : Nat} {W : List Int} (h : U.Wr dst src type op sha spa tha tpa fr to proto ttl id sport dport seq ack flags win B o n W) : U.By W := by
  obtain ⟨L, N, h1, h2, h3⟩ := h.out
  exact seal_by (out_by h1) h3
theorem patch2_by {W L : List Int} (hW : U.By W) (hL : U.By L) (i : Nat) : U.By (patch2 W L i) := by
  obtain ⟨cs, h1, h2⟩ := hW
  obtain ⟨ds, g1, g2⟩ := hL
  refine ⟨cs.take i ++ (ds.drop i).take 2 ++ cs.drop (i + 2), ?_, ?_⟩
  · unfold patch2; rw [h1, g1, nz_append, nz_append, nz_take, nz_drop, nz_drop, nz_take]
  · intro c hc
    rcases List.mem_append.1 hc with hc | hc
    · rcases List.mem_append.1 hc with hc | hc
      · exact h2 c (List.mem_of_mem_take hc)
      · exact g2 c (List.mem_of_mem_drop (List.mem_of_mem_take hc))
    · exact h2 c (List.mem_of_mem_drop hc)
theorem patch2_len {W L : List Int} (h : W.length = L.length) {i : Nat} (hi : i + 2 ≤ L.length) : (patch2 W L i).length = L.length := by
  unfold patch2
  simp only [List.length_append, List.length_take, List.length_drop]
  omega
theorem cutAt {c o a m : Nat} {k : Int} {i : Nat} (hk : k = i) (h : i < c) (ho : (o : Int) = if ((⟨a, 0, m, c⟩ : ASl).c : Int) = k then ((0 : Nat) : Int) else ((0 : Nat) : Int) + k) : o = i := by
  dsimp only at ho
  rw [if_neg (by omega)] at ho; omega
theorem whole {L : List Int} {m : Nat} (hm : m = L.length) {l : List Int} (h : l = List.take m (List.drop 0 L)) : l = L := by
  rw [h, hm]; simp

def tParse : Tbl := fun _ _ _ => none
theorem tParse_ok : TblOk Tryd.prog tParse := by intro f tm σ C h; cases h
def tFK : Tbl := tblOr tFI tParse
theorem tFK_ok : TblOk Tryd.prog tFK := tblOr_ok tFI_ok tParse_ok
end Go.Proofs.YtlfigaddddncmaaDoor
end
