/- Parts of a proof, one behind the other: TC5. No condition. -/
import Derived.Test.YtfgnfnmbfkjnjaaGU
import Derived.Test.YtfgnfnmbfkjnjaaGR
section
set_option linter.unusedVariables false
set_option linter.unusedSimpArgs false
namespace Go.Proofs.Ytfgnfnmbfkjnjaa
open Go Reck

theorem out_of_bytes (cs : List Nat) (hc : ∀ c ∈ cs, c < 256) (hl : cs.length ≤ 1000) : U.Out (nz cs) ((nums 8 cs).length : Int) (nums 8 cs) := by
  refine ⟨cs, rfl, ⟨hc, by rw [nums_length]; omega, fun i => (Rd.nums_get cs i).symm⟩, rfl, by rw [nums_length]; omega⟩
theorem put0 (v : Int) : U.putR 0 v = [] := by unfold U.putR; rw [if_neg (by decide)]
theorem putB (k : Nat) (hk : 0 < k) (w v : Int) (hw : w = ((8 * k : Nat) : Int)) : U.putR w v = nums 8 (be k v.toNat) := by
  subst hw
  unfold U.putR
  rw [if_pos (by omega), Int.toNat_natCast, num_be]
theorem num_1 (c : Nat) (h : c < 256) : num 8 c = nums 8 [c] := by
  have := num_be 1 c
  simpa [be, Nat.mod_eq_of_lt h] using this
theorem nz_cons (c : Nat) (l : List Nat) : nz (c :: l) = (c : Int) :: nz l := rfl
theorem nm_nz {l : List Int} (h : U.Nm l) : nz (l.map Int.toNat) = l := nz_toNat (nm_chars h)
theorem lt_app {a b : List Nat} (ha : ∀ c ∈ a, c < 256) (hb : ∀ c ∈ b, c < 256) : ∀ c ∈ a ++ b, c < 256 := fun c hc => (List.mem_append.1 hc).elim (ha c) (hb c)
theorem lt_cons {x : Nat} {b : List Nat} (hx : x < 256) (hb : ∀ c ∈ b, c < 256) : ∀ c ∈ x :: b, c < 256 := fun c hc => (List.mem_cons.1 hc).elim (fun h => h ▸ hx) (hb c)
theorem nm_lt {l : List Int} (h : U.Nm l) : ∀ c ∈ l.map Int.toNat, c < 256 := fun c hc => by
  obtain ⟨x, hx, rfl⟩ := List.mem_map.1 hc
  have := nm_chars h x hx
  omega
theorem tkB1 {xid mac ip ticks nonce tag why : Int} {l : List Int} : U.tkB 1 xid mac ip ticks nonce tag why l = nums 8 ([79, 83, 1] ++ (be 4 xid.toNat ++ be 6 mac.toNat)) := by
  unfold U.tkB U.usR
  have ex : U.putR (U.wx 1) xid = nums 8 (be 4 xid.toNat) := putB 4 (by decide) _ _ (by decide)
  have em : U.putR (U.wm 1) mac = nums 8 (be 6 mac.toNat) := putB 6 (by decide) _ _ (by decide)
  have ei : U.putR (U.wi 1) ip = [] := put0 _
  have et : U.putR (U.wt 1) ticks = [] := put0 _
  have en : U.putR (U.wn 1) nonce = [] := put0 _
  have eg : U.putR (U.wg 1) tag = [] := put0 _
  have ew : U.putR (U.wy 1) why = [] := put0 _
  rw [ex, em, ei, et, en, eg, ew]
  rw [if_neg (by decide)]
  have e0 : num 16 20307 = nums 8 [79, 83] := by decide
  have e1 : num 8 (1 : Int).toNat = nums 8 [1] := by decide
  rw [e0, e1]
  simp only [← nums_app, List.nil_append, List.append_nil, List.append_assoc, List.cons_append, List.singleton_append]
theorem tby1 {xid mac ip ticks nonce tag why : Int} {l L : List Int} : U.TWr 1 xid mac ip ticks nonce tag why l L ↔ L = 79 :: 83 :: 1 :: (U.nb 4 xid ++ U.nb 6 mac) := by
  have hb : ∀ c ∈ [79, 83, 1] ++ (be 4 xid.toNat ++ be 6 mac.toNat), c < 256 := lt_app (by decide) (lt_app (be_lt _ _) (be_lt _ _))
  have e : nz ([79, 83, 1] ++ (be 4 xid.toNat ++ be 6 mac.toNat)) = 79 :: 83 :: 1 :: (U.nb 4 xid ++ U.nb 6 mac) := by
    simp only [nz_append, nz_cons, List.cons_append, List.nil_append]
    rfl
  have hl : ([79, 83, 1] ++ (be 4 xid.toNat ++ be 6 mac.toNat)).length ≤ 1000 := by
    simp only [List.length_append, List.length_cons, List.length_nil, be_length]
    omega
  constructor
  · rintro ⟨N, h⟩
    rw [tkB1] at h
    rw [out_bytes h hb, e]
  · rintro rfl
    refine ⟨((nums 8 ([79, 83, 1] ++ (be 4 xid.toNat ++ be 6 mac.toNat))).length : Int), ?_⟩
    rw [tkB1, ← e]
    exact out_of_bytes _ hb hl
theorem tkB2 {xid mac ip ticks nonce tag why : Int} {l : List Int} : U.tkB 2 xid mac ip ticks nonce tag why l = nums 8 ([79, 83, 2] ++ (be 4 xid.toNat ++ (be 6 mac.toNat ++ (be 4 ip.toNat ++ be 5 ticks.toNat)))) := by
  unfold U.tkB U.usR
  have ex : U.putR (U.wx 2) xid = nums 8 (be 4 xid.toNat) := putB 4 (by decide) _ _ (by decide)
  have em : U.putR (U.wm 2) mac = nums 8 (be 6 mac.toNat) := putB 6 (by decide) _ _ (by decide)
  have ei : U.putR (U.wi 2) ip = nums 8 (be 4 ip.toNat) := putB 4 (by decide) _ _ (by decide)
  have et : U.putR (U.wt 2) ticks = nums 8 (be 5 ticks.toNat) := putB 5 (by decide) _ _ (by decide)
  have en : U.putR (U.wn 2) nonce = [] := put0 _
  have eg : U.putR (U.wg 2) tag = [] := put0 _
  have ew : U.putR (U.wy 2) why = [] := put0 _
  rw [ex, em, ei, et, en, eg, ew]
  rw [if_neg (by decide)]
  have e0 : num 16 20307 = nums 8 [79, 83] := by decide
  have e1 : num 8 (2 : Int).toNat = nums 8 [2] := by decide
  rw [e0, e1]
  simp only [← nums_app, List.nil_append, List.append_nil, List.append_assoc, List.cons_append, List.singleton_append]
theorem tby2 {xid mac ip ticks nonce tag why : Int} {l L : List Int} : U.TWr 2 xid mac ip ticks nonce tag why l L ↔ L = 79 :: 83 :: 2 :: (U.nb 4 xid ++ (U.nb 6 mac ++ (U.nb 4 ip ++ U.nb 5 ticks))) := by
  have hb : ∀ c ∈ [79, 83, 2] ++ (be 4 xid.toNat ++ (be 6 mac.toNat ++ (be 4 ip.toNat ++ be 5 ticks.toNat))), c < 256 := lt_app (by decide) (lt_app (be_lt _ _) (lt_app (be_lt _ _) (lt_app (be_lt _ _) (be_lt _ _))))
  have e : nz ([79, 83, 2] ++ (be 4 xid.toNat ++ (be 6 mac.toNat ++ (be 4 ip.toNat ++ be 5 ticks.toNat)))) = 79 :: 83 :: 2 :: (U.nb 4 xid ++ (U.nb 6 mac ++ (U.nb 4 ip ++ U.nb 5 ticks))) := by
    simp only [nz_append, nz_cons, List.cons_append, List.nil_append]
    rfl
  have hl : ([79, 83, 2] ++ (be 4 xid.toNat ++ (be 6 mac.toNat ++ (be 4 ip.toNat ++ be 5 ticks.toNat)))).length ≤ 1000 := by
    simp only [List.length_append, List.length_cons, List.length_nil, be_length]
    omega
  constructor
  · rintro ⟨N, h⟩
    rw [tkB2] at h
    rw [out_bytes h hb, e]
  · rintro rfl
    refine ⟨((nums 8 ([79, 83, 2] ++ (be 4 xid.toNat ++ (be 6 mac.toNat ++ (be 4 ip.toNat ++ be 5 ticks.toNat))))).length : Int), ?_⟩
    rw [tkB2, ← e]
    exact out_of_bytes _ hb hl
theorem tkB3 {xid mac ip ticks nonce tag why : Int} {l : List Int} : U.tkB 3 xid mac ip ticks nonce tag why l = nums 8 ([79, 83, 3] ++ (be 4 xid.toNat ++ (be 6 mac.toNat ++ be 4 ip.toNat))) := by
  unfold U.tkB U.usR
  have ex : U.putR (U.wx 3) xid = nums 8 (be 4 xid.toNat) := putB 4 (by decide) _ _ (by decide)
  have em : U.putR (U.wm 3) mac = nums 8 (be 6 mac.toNat) := putB 6 (by decide) _ _ (by decide)
  have ei : U.putR (U.wi 3) ip = nums 8 (be 4 ip.toNat) := putB 4 (by decide) _ _ (by decide)
  have et : U.putR (U.wt 3) ticks = [] := put0 _
  have en : U.putR (U.wn 3) nonce = [] := put0 _
  have eg : U.putR (U.wg 3) tag = [] := put0 _
  have ew : U.putR (U.wy 3) why = [] := put0 _
  rw [ex, em, ei, et, en, eg, ew]
  rw [if_neg (by decide)]
  have e0 : num 16 20307 = nums 8 [79, 83] := by decide
  have e1 : num 8 (3 : Int).toNat = nums 8 [3] := by decide
  rw [e0, e1]
  simp only [← nums_app, List.nil_append, List.append_nil, List.append_assoc, List.cons_append, List.singleton_append]
theorem tby3 {xid mac ip ticks nonce tag why : Int} {l L : List Int} : U.TWr 3 xid mac ip ticks nonce tag why l L ↔ L = 79 :: 83 :: 3 :: (U.nb 4 xid ++ (U.nb 6 mac ++ U.nb 4 ip)) := by
  have hb : ∀ c ∈ [79, 83, 3] ++ (be 4 xid.toNat ++ (be 6 mac.toNat ++ be 4 ip.toNat)), c < 256 := lt_app (by decide) (lt_app (be_lt _ _) (lt_app (be_lt _ _) (be_lt _ _)))
  have e : nz ([79, 83, 3] ++ (be 4 xid.toNat ++ (be 6 mac.toNat ++ be 4 ip.toNat))) = 79 :: 83 :: 3 :: (U.nb 4 xid ++ (U.nb 6 mac ++ U.nb 4 ip)) := by
    simp only [nz_append, nz_cons, List.cons_append, List.nil_append]
    rfl
  have hl : ([79, 83, 3] ++ (be 4 xid.toNat ++ (be 6 mac.toNat ++ be 4 ip.toNat))).length ≤ 1000 := by
    simp only [List.length_append, List.length_cons, List.length_nil, be_length]
    omega
  constructor
  · rintro ⟨N, h⟩
    rw [tkB3] at h
    rw [out_bytes h hb, e]
  · rintro rfl
    refine ⟨((nums 8 ([79, 83, 3] ++ (be 4 xid.toNat ++ (be 6 mac.toNat ++ be 4 ip.toNat)))).length : Int), ?_⟩
    rw [tkB3, ← e]
    exact out_of_bytes _ hb hl
theorem tkB4 {xid mac ip ticks nonce tag why : Int} {l : List Int} : U.tkB 4 xid mac ip ticks nonce tag why l = nums 8 ([79, 83, 4] ++ (be 4 xid.toNat ++ (be 6 mac.toNat ++ (be 4 ip.toNat ++ be 5 ticks.toNat)))) := by
  unfold U.tkB U.usR
  have ex : U.putR (U.wx 4) xid = nums 8 (be 4 xid.toNat) := putB 4 (by decide) _ _ (by decide)
  have em : U.putR (U.wm 4) mac = nums 8 (be 6 mac.toNat) := putB 6 (by decide) _ _ (by decide)
  have ei : U.putR (U.wi 4) ip = nums 8 (be 4 ip.toNat) := putB 4 (by decide) _ _ (by decide)
  have et : U.putR (U.wt 4) ticks = nums 8 (be 5 ticks.toNat) := putB 5 (by decide) _ _ (by decide)
  have en : U.putR (U.wn 4) nonce = [] := put0 _
  have eg : U.putR (U.wg 4) tag = [] := put0 _
  have ew : U.putR (U.wy 4) why = [] := put0 _
  rw [ex, em, ei, et, en, eg, ew]
  rw [if_neg (by decide)]
  have e0 : num 16 20307 = nums 8 [79, 83] := by decide
  have e1 : num 8 (4 : Int).toNat = nums 8 [4] := by decide
  rw [e0, e1]
  simp only [← nums_app, List.nil_append, List.append_nil, List.append_assoc, List.cons_append, List.singleton_append]
theorem tby4 {xid mac ip ticks nonce tag why : Int} {l L : List Int} : U.TWr 4 xid mac ip ticks nonce tag why l L ↔ L = 79 :: 83 :: 4 :: (U.nb 4 xid ++ (U.nb 6 mac ++ (U.nb 4 ip ++ U.nb 5 ticks))) := by
  have hb : ∀ c ∈ [79, 83, 4] ++ (be 4 xid.toNat ++ (be 6 mac.toNat ++ (be 4 ip.toNat ++ be 5 ticks.toNat))), c < 256 := lt_app (by decide) (lt_app (be_lt _ _) (lt_app (be_lt _ _) (lt_app (be_lt _ _) (be_lt _ _))))
  have e : nz ([79, 83, 4] ++ (be 4 xid.toNat ++ (be 6 mac.toNat ++ (be 4 ip.toNat ++ be 5 ticks.toNat)))) = 79 :: 83 :: 4 :: (U.nb 4 xid ++ (U.nb 6 mac ++ (U.nb 4 ip ++ U.nb 5 ticks))) := by
    simp only [nz_append, nz_cons, List.cons_append, List.nil_append]
    rfl
  have hl : ([79, 83, 4] ++ (be 4 xid.toNat ++ (be 6 mac.toNat ++ (be 4 ip.toNat ++ be 5 ticks.toNat)))).length ≤ 1000 := by
    simp only [List.length_append, List.length_cons, List.length_nil, be_length]
    omega
  constructor
  · rintro ⟨N, h⟩
    rw [tkB4] at h
    rw [out_bytes h hb, e]
  · rintro rfl
    refine ⟨((nums 8 ([79, 83, 4] ++ (be 4 xid.toNat ++ (be 6 mac.toNat ++ (be 4 ip.toNat ++ be 5 ticks.toNat))))).length : Int), ?_⟩
    rw [tkB4, ← e]
    exact out_of_bytes _ hb hl
theorem tkB5 {xid mac ip ticks nonce tag why : Int} {l : List Int} : U.tkB 5 xid mac ip ticks nonce tag why l = nums 8 ([79, 83, 5] ++ (be 4 xid.toNat ++ (be 6 mac.toNat ++ be 1 why.toNat))) := by
  unfold U.tkB U.usR
  have ex : U.putR (U.wx 5) xid = nums 8 (be 4 xid.toNat) := putB 4 (by decide) _ _ (by decide)
  have em : U.putR (U.wm 5) mac = nums 8 (be 6 mac.toNat) := putB 6 (by decide) _ _ (by decide)
  have ei : U.putR (U.wi 5) ip = [] := put0 _
  have et : U.putR (U.wt 5) ticks = [] := put0 _
  have en : U.putR (U.wn 5) nonce = [] := put0 _
  have eg : U.putR (U.wg 5) tag = [] := put0 _
  have ew : U.putR (U.wy 5) why = nums 8 (be 1 why.toNat) := putB 1 (by decide) _ _ (by decide)
  rw [ex, em, ei, et, en, eg, ew]
  rw [if_neg (by decide)]
  have e0 : num 16 20307 = nums 8 [79, 83] := by decide
  have e1 : num 8 (5 : Int).toNat = nums 8 [5] := by decide
  rw [e0, e1]
  simp only [← nums_app, List.nil_append, List.append_nil, List.append_assoc, List.cons_append, List.singleton_append]
theorem tby5 {xid mac ip ticks nonce tag why : Int} {l L : List Int} : U.TWr 5 xid mac ip ticks nonce tag why l L ↔ L = 79 :: 83 :: 5 :: (U.nb 4 xid ++ (U.nb 6 mac ++ U.nb 1 why)) := by
  have hb : ∀ c ∈ [79, 83, 5] ++ (be 4 xid.toNat ++ (be 6 mac.toNat ++ be 1 why.toNat)), c < 256 := lt_app (by decide) (lt_app (be_lt _ _) (lt_app (be_lt _ _) (be_lt _ _)))
  have e : nz ([79, 83, 5] ++ (be 4 xid.toNat ++ (be 6 mac.toNat ++ be 1 why.toNat))) = 79 :: 83 :: 5 :: (U.nb 4 xid ++ (U.nb 6 mac ++ U.nb 1 why)) := by
    simp only [nz_append, nz_cons, List.cons_append, List.nil_append]
    rfl
  have hl : ([79, 83, 5] ++ (be 4 xid.toNat ++ (be 6 mac.toNat ++ be 1 why.toNat))).length ≤ 1000 := by
    simp only [List.length_append, List.length_cons, List.length_nil, be_length]
    omega
  constructor
  · rintro ⟨N, h⟩
    rw [tkB5] at h
    rw [out_bytes h hb, e]
  · rintro rfl
    refine ⟨((nums 8 ([79, 83, 5] ++ (be 4 xid.toNat ++ (be 6 mac.toNat ++ be 1 why.toNat)))).length : Int), ?_⟩
    rw [tkB5, ← e]
    exact out_of_bytes _ hb hl
theorem tkB6 {xid mac ip ticks nonce tag why : Int} {l : List Int} : U.tkB 6 xid mac ip ticks nonce tag why l = nums 8 ([79, 83, 6] ++ (be 6 mac.toNat ++ be 4 ip.toNat)) := by
  unfold U.tkB U.usR
  have ex : U.putR (U.wx 6) xid = [] := put0 _
  have em : U.putR (U.wm 6) mac = nums 8 (be 6 mac.toNat) := putB 6 (by decide) _ _ (by decide)
  have ei : U.putR (U.wi 6) ip = nums 8 (be 4 ip.toNat) := putB 4 (by decide) _ _ (by decide)
  have et : U.putR (U.wt 6) ticks = [] := put0 _
  have en : U.putR (U.wn 6) nonce = [] := put0 _
  have eg : U.putR (U.wg 6) tag = [] := put0 _
  have ew : U.putR (U.wy 6) why = [] := put0 _
  rw [ex, em, ei, et, en, eg, ew]
  rw [if_neg (by decide)]
  have e0 : num 16 20307 = nums 8 [79, 83] := by decide
  have e1 : num 8 (6 : Int).toNat = nums 8 [6] := by decide
  rw [e0, e1]
  simp only [← nums_app, List.nil_append, List.append_nil, List.append_assoc, List.cons_append, List.singleton_append]
theorem tby6 {xid mac ip ticks nonce tag why : Int} {l L : List Int} : U.TWr 6 xid mac ip ticks nonce tag why l L ↔ L = 79 :: 83 :: 6 :: (U.nb 6 mac ++ U.nb 4 ip) := by
  have hb : ∀ c ∈ [79, 83, 6] ++ (be 6 mac.toNat ++ be 4 ip.toNat), c < 256 := lt_app (by decide) (lt_app (be_lt _ _) (be_lt _ _))
  have e : nz ([79, 83, 6] ++ (be 6 mac.toNat ++ be 4 ip.toNat)) = 79 :: 83 :: 6 :: (U.nb 6 mac ++ U.nb 4 ip) := by
    simp only [nz_append, nz_cons, List.cons_append, List.nil_append]
    rfl
  have hl : ([79, 83, 6] ++ (be 6 mac.toNat ++ be 4 ip.toNat)).length ≤ 1000 := by
    simp only [List.length_append, List.length_cons, List.length_nil, be_length]
    omega
  constructor
  · rintro ⟨N, h⟩
    rw [tkB6] at h
    rw [out_bytes h hb, e]
  · rintro rfl
    refine ⟨((nums 8 ([79, 83, 6] ++ (be 6 mac.toNat ++ be 4 ip.toNat))).length : Int), ?_⟩
    rw [tkB6, ← e]
    exact out_of_bytes _ hb hl
theorem tkB7 {xid mac ip ticks nonce tag why : Int} {l : List Int} (hN : U.Nm l) : U.tkB 7 xid mac ip ticks nonce tag why l = nums 8 ([79, 83, 7] ++ (l.length :: l.map Int.toNat)) := by
  unfold U.tkB U.usR
  have hl : num 8 l.length = nums 8 [l.length] := num_1 _ (by have := hN.len; omega)
  have ex : U.putR (U.wx 7) xid = [] := put0 _
  have em : U.putR (U.wm 7) mac = [] := put0 _
  have ei : U.putR (U.wi 7) ip = [] := put0 _
  have et : U.putR (U.wt 7) ticks = [] := put0 _
  have en : U.putR (U.wn 7) nonce = [] := put0 _
  have eg : U.putR (U.wg 7) tag = [] := put0 _
  have ew : U.putR (U.wy 7) why = [] := put0 _
  rw [ex, em, ei, et, en, eg, ew]
  rw [if_pos (by decide), hl]
  have e0 : num 16 20307 = nums 8 [79, 83] := by decide
  have e1 : num 8 (7 : Int).toNat = nums 8 [7] := by decide
  rw [e0, e1]
  simp only [← nums_app, List.nil_append, List.append_nil, List.append_assoc, List.cons_append, List.singleton_append]
theorem tby7 {xid mac ip ticks nonce tag why : Int} {l L : List Int} (hN : U.Nm l) : U.TWr 7 xid mac ip ticks nonce tag why l L ↔ L = 79 :: 83 :: 7 :: ((l.length : Int) :: l) := by
  have hb : ∀ c ∈ [79, 83, 7] ++ (l.length :: l.map Int.toNat), c < 256 := lt_app (by decide) (lt_cons (by have := hN.len; omega) (nm_lt hN))
  have e : nz ([79, 83, 7] ++ (l.length :: l.map Int.toNat)) = 79 :: 83 :: 7 :: ((l.length : Int) :: l) := by
    simp only [nz_append, nz_cons, List.cons_append, List.nil_append, nm_nz hN]
    rfl
  have hl : ([79, 83, 7] ++ (l.length :: l.map Int.toNat)).length ≤ 1000 := by
    simp only [List.length_append, List.length_cons, List.length_nil, be_length, List.length_map]
    have := hN.len; omega
  constructor
  · rintro ⟨N, h⟩
    rw [tkB7 hN] at h
    rw [out_bytes h hb, e]
  · rintro rfl
    refine ⟨((nums 8 ([79, 83, 7] ++ (l.length :: l.map Int.toNat))).length : Int), ?_⟩
    rw [tkB7 hN, ← e]
    exact out_of_bytes _ hb hl
theorem tkB8 {xid mac ip ticks nonce tag why : Int} {l : List Int} (hN : U.Nm l) : U.tkB 8 xid mac ip ticks nonce tag why l = nums 8 ([79, 83, 8] ++ ((l.length :: l.map Int.toNat) ++ be 8 nonce.toNat)) := by
  unfold U.tkB U.usR
  have hl : num 8 l.length = nums 8 [l.length] := num_1 _ (by have := hN.len; omega)
  have ex : U.putR (U.wx 8) xid = [] := put0 _
  have em : U.putR (U.wm 8) mac = [] := put0 _
  have ei : U.putR (U.wi 8) ip = [] := put0 _
  have et : U.putR (U.wt 8) ticks = [] := put0 _
  have en : U.putR (U.wn 8) nonce = nums 8 (be 8 nonce.toNat) := putB 8 (by decide) _ _ (by decide)
  have eg : U.putR (U.wg 8) tag = [] := put0 _
  have ew : U.putR (U.wy 8) why = [] := put0 _
  rw [ex, em, ei, et, en, eg, ew]
  rw [if_pos (by decide), hl]
  have e0 : num 16 20307 = nums 8 [79, 83] := by decide
  have e1 : num 8 (8 : Int).toNat = nums 8 [8] := by decide
  rw [e0, e1]
  simp only [← nums_app, List.nil_append, List.append_nil, List.append_assoc, List.cons_append, List.singleton_append]
theorem tby8 {xid mac ip ticks nonce tag why : Int} {l L : List Int} (hN : U.Nm l) : U.TWr 8 xid mac ip ticks nonce tag why l L ↔ L = 79 :: 83 :: 8 :: (((l.length : Int) :: l) ++ U.nb 8 nonce) := by
  have hb : ∀ c ∈ [79, 83, 8] ++ ((l.length :: l.map Int.toNat) ++ be 8 nonce.toNat), c < 256 := lt_app (by decide) (lt_app (lt_cons (by have := hN.len; omega) (nm_lt hN)) (be_lt _ _))
  have e : nz ([79, 83, 8] ++ ((l.length :: l.map Int.toNat) ++ be 8 nonce.toNat)) = 79 :: 83 :: 8 :: (((l.length : Int) :: l) ++ U.nb 8 nonce) := by
    simp only [nz_append, nz_cons, List.cons_append, List.nil_append, nm_nz hN]
    rfl
  have hl : ([79, 83, 8] ++ ((l.length :: l.map Int.toNat) ++ be 8 nonce.toNat)).length ≤ 1000 := by
    simp only [List.length_append, List.length_cons, List.length_nil, be_length, List.length_map]
    have := hN.len; omega
  constructor
  · rintro ⟨N, h⟩
    rw [tkB8 hN] at h
    rw [out_bytes h hb, e]
  · rintro rfl
    refine ⟨((nums 8 ([79, 83, 8] ++ ((l.length :: l.map Int.toNat) ++ be 8 nonce.toNat))).length : Int), ?_⟩
    rw [tkB8 hN, ← e]
    exact out_of_bytes _ hb hl
theorem tkB9 {xid mac ip ticks nonce tag why : Int} {l : List Int} (hN : U.Nm l) : U.tkB 9 xid mac ip ticks nonce tag why l = nums 8 ([79, 83, 9] ++ ((l.length :: l.map Int.toNat) ++ (be 8 nonce.toNat ++ be 8 tag.toNat))) := by
  unfold U.tkB U.usR
  have hl : num 8 l.length = nums 8 [l.length] := num_1 _ (by have := hN.len; omega)
  have ex : U.putR (U.wx 9) xid = [] := put0 _
  have em : U.putR (U.wm 9) mac = [] := put0 _
  have ei : U.putR (U.wi 9) ip = [] := put0 _
  have et : U.putR (U.wt 9) ticks = [] := put0 _
  have en : U.putR (U.wn 9) nonce = nums 8 (be 8 nonce.toNat) := putB 8 (by decide) _ _ (by decide)
  have eg : U.putR (U.wg 9) tag = nums 8 (be 8 tag.toNat) := putB 8 (by decide) _ _ (by decide)
  have ew : U.putR (U.wy 9) why = [] := put0 _
  rw [ex, em, ei, et, en, eg, ew]
  rw [if_pos (by decide), hl]
  have e0 : num 16 20307 = nums 8 [79, 83] := by decide
  have e1 : num 8 (9 : Int).toNat = nums 8 [9] := by decide
  rw [e0, e1]
  simp only [← nums_app, List.nil_append, List.append_nil, List.append_assoc, List.cons_append, List.singleton_append]
theorem tby9 {xid mac ip ticks nonce tag why : Int} {l L : List Int} (hN : U.Nm l) : U.TWr 9 xid mac ip ticks nonce tag why l L ↔ L = 79 :: 83 :: 9 :: (((l.length : Int) :: l) ++ (U.nb 8 nonce ++ U.nb 8 tag)) := by
  have hb : ∀ c ∈ [79, 83, 9] ++ ((l.length :: l.map Int.toNat) ++ (be 8 nonce.toNat ++ be 8 tag.toNat)), c < 256 := lt_app (by decide) (lt_app (lt_cons (by have := hN.len; omega) (nm_lt hN)) (lt_app (be_lt _ _) (be_lt _ _)))
  have e : nz ([79, 83, 9] ++ ((l.length :: l.map Int.toNat) ++ (be 8 nonce.toNat ++ be 8 tag.toNat))) = 79 :: 83 :: 9 :: (((l.length : Int) :: l) ++ (U.nb 8 nonce ++ U.nb 8 tag)) := by
    simp only [nz_append, nz_cons, List.cons_append, List.nil_append, nm_nz hN]
    rfl
  have hl : ([79, 83, 9] ++ ((l.length :: l.map Int.toNat) ++ (be 8 nonce.toNat ++ be 8 tag.toNat))).length ≤ 1000 := by
    simp only [List.length_append, List.length_cons, List.length_nil, be_length, List.length_map]
    have := hN.len; omega
  constructor
  · rintro ⟨N, h⟩
    rw [tkB9 hN] at h
    rw [out_bytes h hb, e]
  · rintro rfl
    refine ⟨((nums 8 ([79, 83, 9] ++ ((l.length :: l.map Int.toNat) ++ (be 8 nonce.toNat ++ be 8 tag.toNat)))).length : Int), ?_⟩
    rw [tkB9 hN, ← e]
    exact out_of_bytes _ hb hl
theorem tkB10 {xid mac ip ticks nonce tag why : Int} {l : List Int} (hN : U.Nm l) : U.tkB 10 xid mac ip ticks nonce tag why l = nums 8 ([79, 83, 10] ++ (be 5 ticks.toNat ++ (l.length :: l.map Int.toNat))) := by
  unfold U.tkB U.usR
  have hl : num 8 l.length = nums 8 [l.length] := num_1 _ (by have := hN.len; omega)
  have ex : U.putR (U.wx 10) xid = [] := put0 _
  have em : U.putR (U.wm 10) mac = [] := put0 _
  have ei : U.putR (U.wi 10) ip = [] := put0 _
  have et : U.putR (U.wt 10) ticks = nums 8 (be 5 ticks.toNat) := putB 5 (by decide) _ _ (by decide)
  have en : U.putR (U.wn 10) nonce = [] := put0 _
  have eg : U.putR (U.wg 10) tag = [] := put0 _
  have ew : U.putR (U.wy 10) why = [] := put0 _
  rw [ex, em, ei, et, en, eg, ew]
  rw [if_pos (by decide), hl]
  have e0 : num 16 20307 = nums 8 [79, 83] := by decide
  have e1 : num 8 (10 : Int).toNat = nums 8 [10] := by decide
  rw [e0, e1]
  simp only [← nums_app, List.nil_append, List.append_nil, List.append_assoc, List.cons_append, List.singleton_append]
theorem tby10 {xid mac ip ticks nonce tag why : Int} {l L : List Int} (hN : U.Nm l) : U.TWr 10 xid mac ip ticks nonce tag why l L ↔ L = 79 :: 83 :: 10 :: (U.nb 5 ticks ++ ((l.length : Int) :: l)) := by
  have hb : ∀ c ∈ [79, 83, 10] ++ (be 5 ticks.toNat ++ (l.length :: l.map Int.toNat)), c < 256 := lt_app (by decide) (lt_app (be_lt _ _) (lt_cons (by have := hN.len; omega) (nm_lt hN)))
  have e : nz ([79, 83, 10] ++ (be 5 ticks.toNat ++ (l.length :: l.map Int.toNat))) = 79 :: 83 :: 10 :: (U.nb 5 ticks ++ ((l.length : Int) :: l)) := by
    simp only [nz_append, nz_cons, List.cons_append, List.nil_append, nm_nz hN]
    rfl
  have hl : ([79, 83, 10] ++ (be 5 ticks.toNat ++ (l.length :: l.map Int.toNat))).length ≤ 1000 := by
    simp only [List.length_append, List.length_cons, List.length_nil, be_length, List.length_map]
    have := hN.len; omega
  constructor
  · rintro ⟨N, h⟩
    rw [tkB10 hN] at h
    rw [out_bytes h hb, e]
  · rintro rfl
    refine ⟨((nums 8 ([79, 83, 10] ++ (be 5 ticks.toNat ++ (l.length :: l.map Int.toNat)))).length : Int), ?_⟩
    rw [tkB10 hN, ← e]
    exact out_of_bytes _ hb hl
theorem tkB11 {xid mac ip ticks nonce tag why : Int} {l : List Int} (hN : U.Nm l) : U.tkB 11 xid mac ip ticks nonce tag why l = nums 8 ([79, 83, 11] ++ ((l.length :: l.map Int.toNat) ++ be 1 why.toNat)) := by
  unfold U.tkB U.usR
  have hl : num 8 l.length = nums 8 [l.length] := num_1 _ (by have := hN.len; omega)
  have ex : U.putR (U.wx 11) xid = [] := put0 _
  have em : U.putR (U.wm 11) mac = [] := put0 _
  have ei : U.putR (U.wi 11) ip = [] := put0 _
  have et : U.putR (U.wt 11) ticks = [] := put0 _
  have en : U.putR (U.wn 11) nonce = [] := put0 _
  have eg : U.putR (U.wg 11) tag = [] := put0 _
  have ew : U.putR (U.wy 11) why = nums 8 (be 1 why.toNat) := putB 1 (by decide) _ _ (by decide)
  rw [ex, em, ei, et, en, eg, ew]
  rw [if_pos (by decide), hl]
  have e0 : num 16 20307 = nums 8 [79, 83] := by decide
  have e1 : num 8 (11 : Int).toNat = nums 8 [11] := by decide
  rw [e0, e1]
  simp only [← nums_app, List.nil_append, List.append_nil, List.append_assoc, List.cons_append, List.singleton_append]
theorem tby11 {xid mac ip ticks nonce tag why : Int} {l L : List Int} (hN : U.Nm l) : U.TWr 11 xid mac ip ticks nonce tag why l L ↔ L = 79 :: 83 :: 11 :: (((l.length : Int) :: l) ++ U.nb 1 why) := by
  have hb : ∀ c ∈ [79, 83, 11] ++ ((l.length :: l.map Int.toNat) ++ be 1 why.toNat), c < 256 := lt_app (by decide) (lt_app (lt_cons (by have := hN.len; omega) (nm_lt hN)) (be_lt _ _))
  have e : nz ([79, 83, 11] ++ ((l.length :: l.map Int.toNat) ++ be 1 why.toNat)) = 79 :: 83 :: 11 :: (((l.length : Int) :: l) ++ U.nb 1 why) := by
    simp only [nz_append, nz_cons, List.cons_append, List.nil_append, nm_nz hN]
    rfl
  have hl : ([79, 83, 11] ++ ((l.length :: l.map Int.toNat) ++ be 1 why.toNat)).length ≤ 1000 := by
    simp only [List.length_append, List.length_cons, List.length_nil, be_length, List.length_map]
    have := hN.len; omega
  constructor
  · rintro ⟨N, h⟩
    rw [tkB11 hN] at h
    rw [out_bytes h hb, e]
  · rintro rfl
    refine ⟨((nums 8 ([79, 83, 11] ++ ((l.length :: l.map Int.toNat) ++ be 1 why.toNat))).length : Int), ?_⟩
    rw [tkB11 hN, ← e]
    exact out_of_bytes _ hb hl
theorem tkB12 {xid mac ip ticks nonce tag why : Int} {l : List Int} (hN : U.Nm l) : U.tkB 12 xid mac ip ticks nonce tag why l = nums 8 ([79, 83, 12] ++ ((l.length :: l.map Int.toNat) ++ (be 8 nonce.toNat ++ be 8 tag.toNat))) := by
  unfold U.tkB U.usR
  have hl : num 8 l.length = nums 8 [l.length] := num_1 _ (by have := hN.len; omega)
  have ex : U.putR (U.wx 12) xid = [] := put0 _
  have em : U.putR (U.wm 12) mac = [] := put0 _
  have ei : U.putR (U.wi 12) ip = [] := put0 _
  have et : U.putR (U.wt 12) ticks = [] := put0 _
  have en : U.putR (U.wn 12) nonce = nums 8 (be 8 nonce.toNat) := putB 8 (by decide) _ _ (by decide)
  have eg : U.putR (U.wg 12) tag = nums 8 (be 8 tag.toNat) := putB 8 (by decide) _ _ (by decide)
  have ew : U.putR (U.wy 12) why = [] := put0 _
  rw [ex, em, ei, et, en, eg, ew]
  rw [if_pos (by decide), hl]
  have e0 : num 16 20307 = nums 8 [79, 83] := by decide
  have e1 : num 8 (12 : Int).toNat = nums 8 [12] := by decide
  rw [e0, e1]
  simp only [← nums_app, List.nil_append, List.append_nil, List.append_assoc, List.cons_append, List.singleton_append]
theorem tby12 {xid mac ip ticks nonce tag why : Int} {l L : List Int} (hN : U.Nm l) : U.TWr 12 xid mac ip ticks nonce tag why l L ↔ L = 79 :: 83 :: 12 :: (((l.length : Int) :: l) ++ (U.nb 8 nonce ++ U.nb 8 tag)) := by
  have hb : ∀ c ∈ [79, 83, 12] ++ ((l.length :: l.map Int.toNat) ++ (be 8 nonce.toNat ++ be 8 tag.toNat)), c < 256 := lt_app (by decide) (lt_app (lt_cons (by have := hN.len; omega) (nm_lt hN)) (lt_app (be_lt _ _) (be_lt _ _)))
  have e : nz ([79, 83, 12] ++ ((l.length :: l.map Int.toNat) ++ (be 8 nonce.toNat ++ be 8 tag.toNat))) = 79 :: 83 :: 12 :: (((l.length : Int) :: l) ++ (U.nb 8 nonce ++ U.nb 8 tag)) := by
    simp only [nz_append, nz_cons, List.cons_append, List.nil_append, nm_nz hN]
    rfl
  have hl : ([79, 83, 12] ++ ((l.length :: l.map Int.toNat) ++ (be 8 nonce.toNat ++ be 8 tag.toNat))).length ≤ 1000 := by
    simp only [List.length_append, List.length_cons, List.length_nil, be_length, List.length_map]
    have := hN.len; omega
  constructor
  · rintro ⟨N, h⟩
    rw [tkB12 hN] at h
    rw [out_bytes h hb, e]
  · rintro rfl
    refine ⟨((nums 8 ([79, 83, 12] ++ ((l.length :: l.map Int.toNat) ++ (be 8 nonce.toNat ++ be 8 tag.toNat)))).length : Int), ?_⟩
    rw [tkB12 hN, ← e]
    exact out_of_bytes _ hb hl
end Go.Proofs.Ytfgnfnmbfkjnjaa
end
