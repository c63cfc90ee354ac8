/- Parts of a proof, one behind the other: KB KC KDU. No condition. -/
import Derived.Test.YthafgapnnmkmhaaGreatDoorGH
import Derived.Test.YthafgapnnmkmhaaGreatDoorGG
section
set_option linter.unusedVariables false
set_option linter.unusedSimpArgs false
set_option maxRecDepth 100000
namespace Go.Proofs.YthafgapnnmkmhaaGreatDoor
open Go Reck
structure U.POk (L : List Int) (o n : Nat) : Prop where
  out : byteL L ∧ o + n ≤ L.length ∧ n ≤ 300
def sb (L : List Int) (o n : Nat) : List Int := (L.drop o).take n
def U.TP (a b : Int) (L : List Int) (o n : Nat) (L2 : List Int) (o2 n2 : Nat) (L3 : List Int) (o3 n3 : Nat) : Int := TL a b (sb L o n ++ sb L2 o2 n2 ++ sb L3 o3 n3)
def three (σ : St) : Option (P3 × P3 × P3) := match σ with
  | ⟨[some ⟨121, [a, b, c], none, 3, false⟩], [], 0, [some ⟨5, .n .u8, L, cap, ro⟩, some ⟨5, .n .u8, L2, cap2, ro2⟩, some ⟨5, .n .u8, L3, cap3, ro3⟩], 0⟩ => match aslX (cell a), aslX (cell b), aslX (cell c) with
    | some ⟨0, o, n, c⟩, some ⟨1, o2, n2, c2⟩, some ⟨2, o3, n3, c3⟩ => some (⟨o, n, c, cap, ro, L⟩, ⟨o2, n2, c2, cap2, ro2, L2⟩, ⟨o3, n3, c3, cap3, ro3, L3⟩)
    | _, _, _ => none
  | _ => none
def isSl (k : Nat) (a : AV) : Bool := match a with
  | .inl (.inl (.inr (.inr (.inl ⟨0, 0, m, none, c⟩)))) => Nat.beq m k && Nat.beq c k
  | _ => false
def tTag3 : Tbl := fun f args σ => if f == 101 then match args with
  | [x, y, s] => if isSl 3 s then match three σ, xiX x, xiX y with
      | some (p, q, r), some (.u64, a), some (.u64, b) => some fun K => (U.POk p.L p.o p.n ∧ U.POk q.L q.o q.n ∧ U.POk r.L r.o r.n) ∧ ∀ z : Int, z = U.TP a b p.L p.o p.n q.L q.o q.n r.L r.o r.n → K (xi .u64 z) (st3 p q r)
      | _, _, _ => none
    else none
  | _ => none
  else none
theorem three_eq {σ : St} {p q r : P3} (h : three σ = some (p, q, r)) : σ = st3 p q r := by
  unfold three at h
  split at h
  · split at h
    · rename_i h1 h2 h3
      have h1 := aslX_eq h1
      have h2 := aslX_eq h2
      have h3 := aslX_eq h3
      simp only [cell, Sum.inl.injEq] at h1 h2 h3
      subst h1; subst h2; subst h3
      simp only [Option.some.injEq, Prod.mk.injEq] at h
      obtain ⟨rfl, rfl, rfl⟩ := h
      rfl
    · cases h
  · cases h
theorem isSl_eq {k : Nat} {a : AV} (h : isSl k a = true) : a = sl ⟨0, 0, k, none, k⟩ := by
  unfold isSl at h
  split at h
  · simp only [Bool.and_eq_true, Nat.beq_eq] at h
    obtain ⟨rfl, rfl⟩ := h
    rfl
  · cases h
theorem pok {p : P3} (h : U.POk p.L p.o p.n) : p.Ok := ⟨h.out.1, h.out.2.1, h.out.2.2⟩
theorem tTag3_ok : TblOk Tryz.prog tTag3 := by
  intro f tm σ C h K hK
  unfold tTag3 at h
  split at h
  · rename_i hf
    obtain rfl : f = 101 := by simpa using hf
    split at h
    · split at h
      · rename_i hs
        obtain rfl := isSl_eq hs
        split at h
        · rename_i p q r a b ht hx hy
          obtain rfl := three_eq ht
          obtain rfl := xiX_eq hx
          obtain rfl := xiX_eq hy
          simp only [Option.some.injEq] at h; subst h
          obtain ⟨⟨k1, k2, k3⟩, k4⟩ := hK
          exact knownC noOv names (conOk_of (tblOr_ok tWAdd_ok tRnd_ok)) (tagP_run K a b p q r (pok k1) (pok k2) (pok k3) (k4 _ rfl))
        · cases h
      · cases h
    · cases h
  · cases h
def tRTag : Tbl := fun f args σ => if f == 70 then match args, σ with
    | [x, y, s], ⟨[], [], 0, [some ⟨5, .n .u8, L, cap, ro⟩], 0⟩ => match aslX s, xiX x, xiX y with
      | some ⟨0, o, n, c⟩, some (.u64, a), some (.u64, b) => some fun K => U.By L ∧ o + n ≤ L.length ∧ n ≤ 900 ∧ ∀ z : Int, z = U.RT a b L o n → K (xi .u64 z) (ar [bs L cap ro])
      | _, _, _ => none
    | _, _ => none
  else none
theorem by_byteL {L : List Int} (h : U.By L) : byteL L := fun x hx => by have := by_mem' h x hx; omega
theorem tRTag_ok : TblOk Tryz.prog tRTag := by
  intro f tm σ C h K hK
  unfold tRTag at h
  split at h
  · rename_i hf
    obtain rfl : f = 70 := by simpa using hf
    split at h
    · split at h
      · rename_i o n c a b hs hx hy
        obtain rfl := aslX_eq hs
        obtain rfl := xiX_eq hx
        obtain rfl := xiX_eq hy
        simp only [Option.some.injEq] at h; subst h
        obtain ⟨k1, k2, k3, k4⟩ := hK
        exact knownC noOv names (conOk_of tRRnd_ok) (rTag_run K a b _ o n c _ _ (by_byteL k1) k2 k3 (k4 _ rfl))
      · cases h
    · cases h
  · cases h
def tKB : Tbl := tblOr tTag3 tBitsAll
theorem tKB_ok : TblOk Tryz.prog tKB := tblOr_ok tTag3_ok tBitsAll_ok
def tKR : Tbl := tblOr tRTag tR2
theorem tKR_ok : TblOk Tryz.prog tKR := tblOr_ok tRTag_ok tR2_ok
theorem proof_vc (K:AV→St→Prop) (a b kind nonce mac ip:Int) (l:List Int):(runI inv0 tKB 75 [.inl (.inr [xintC .u64 a,xintC .u64 b]),xi .i64 kind,cell (strC l),xi .u64 nonce,xi .u64 mac,xi .u32 ip] emptySt K)=(∀ (L0:List Int),U.Out L0 (0:Int) []→L0=[]→∀ (L1:List Int),U.Out L1 (0:Int) []→L1=[]→∀ (z2:Int),z2=IntKind.wrap IntKind.u64 kind→∀ (z3:Int),z3=(↑(List.length l):Int)→∀ (z4:Int),z4=IntKind.wrap IntKind.u64 z3→∃ (y5:List Bool),U.BitsPre L0 (0:Int) (0:Nat) (0:Nat) (0:Nat) y5 (8:Int) [z2,z4]∧∀ (L'6:List Int) (m'7 c'8 cap'9:Nat) (N'10:Int),U.Out L'6 N'10 (U.apps y5 (8:Int) [z2,z4])→N'10=(0:Int) + (↑(List.length [z2,z4]):Int) * (8:Int)→m'7=List.length L'6→c'8≤cap'9→m'7≤c'8→∃ (y11:List Bool),U.BitsPre L1 (0:Int) (0:Nat) (0:Nat) (0:Nat) y11 (64:Int) [nonce]∧∀ (L'12:List Int) (m'13 c'14 cap'15:Nat) (N'16:Int),U.Out L'12 N'16 (U.apps y11 (64:Int) [nonce])→N'16=(0:Int) + (↑(List.length [nonce]):Int) * (64:Int)→m'13=List.length L'12→c'14≤cap'15→m'13≤c'14→∃ (y17:List Bool),U.BitsPre L'12 N'16 m'13 c'14 cap'15 y17 (48:Int) [mac]∧∀ (L'18:List Int) (m'19 c'20 cap'21:Nat) (N'22:Int),U.Out L'18 N'22 (U.apps y17 (48:Int) [mac])→N'22=N'16 + (↑(List.length [mac]):Int) * (48:Int)→m'19=List.length L'18→c'20≤cap'21→m'19≤c'20→∀ (z23:Int),z23=IntKind.wrap IntKind.u64 ip→∃ (y24:List Bool),U.BitsPre L'18 N'22 m'19 c'20 cap'21 y24 (32:Int) [z23]∧∀ (L'25:List Int) (m'26 c'27 cap'28:Nat) (N'29:Int),U.Out L'25 N'29 (U.apps y24 (32:Int) [z23])→N'29=N'22 + (↑(List.length [z23]):Int) * (32:Int)→m'26=List.length L'25→c'27≤cap'28→m'26≤c'27→((m'7=List.length L'6∧m'7≤(16777216:Nat))∧∀ (L'30:List Int) (c'31 cap'32:Nat),L'30=L'6→m'7≤c'31→c'31≤cap'32→b=b∧a=a∧(∀ (n33 c34:Nat) (l'35:List Int),l'35=l→n33=List.length l→n33≤c34→b=b∧a=a∧(m'26=List.length L'25∧m'26≤(16777216:Nat))∧∀ (L'36:List Int) (c'37 cap'38:Nat),L'36=L'25→m'26≤c'37→c'37≤cap'38→b=b∧a=a∧b=b∧a=a∧(U.POk L'30 (OfNat.ofNat (0:Nat)) m'7∧U.POk l'35 (OfNat.ofNat (0:Nat)) n33∧U.POk L'36 (OfNat.ofNat (0:Nat)) m'26)∧∀ (z39:Int),z39=U.TP a b L'30 (OfNat.ofNat (0:Nat)) m'7 l'35 (OfNat.ofNat (0:Nat)) n33 L'36 (OfNat.ofNat (0:Nat)) m'26→b=b∧a=a∧K (Sum.inl (Sum.inl (Sum.inr (Sum.inr (Sum.inr (Sum.inr (Sum.inr (Sum.inr (Sum.inl (IntKind.u64,z39)))))))))) { heap := [],ints := [],opqs := (0:Nat),arrs := [],junks := (0:Nat) })∧(m'26=List.length L'25∧m'26≤(16777216:Nat))∧∀ (L'40:List Int) (c'41 cap'42:Nat),L'40=L'25→m'26≤c'41→c'41≤cap'42→b=b∧a=a∧∀ (n43 c44:Nat) (l'45:List Int),l'45=l→n43=List.length l→n43≤c44→b=b∧a=a∧b=b∧a=a∧(U.POk L'30 (OfNat.ofNat (0:Nat)) m'7∧U.POk l'45 (OfNat.ofNat (0:Nat)) n43∧U.POk L'40 (OfNat.ofNat (0:Nat)) m'26)∧∀ (z46:Int),z46=U.TP a b L'30 (OfNat.ofNat (0:Nat)) m'7 l'45 (OfNat.ofNat (0:Nat)) n43 L'40 (OfNat.ofNat (0:Nat)) m'26→b=b∧a=a∧K (Sum.inl (Sum.inl (Sum.inr (Sum.inr (Sum.inr (Sum.inr (Sum.inr (Sum.inr (Sum.inl (IntKind.u64,z46)))))))))) { heap := [],ints := [],opqs := (0:Nat),arrs := [],junks := (0:Nat) })∧∀ (n47 c48:Nat) (l'49:List Int),l'49=l→n47=List.length l→n47≤c48→b=b∧a=a∧(m'7=List.length L'6∧m'7≤(16777216:Nat))∧∀ (L'50:List Int) (c'51 cap'52:Nat),L'50=L'6→m'7≤c'51→c'51≤cap'52→b=b∧a=a∧(m'26=List.length L'25∧m'26≤(16777216:Nat))∧∀ (L'53:List Int) (c'54 cap'55:Nat),L'53=L'25→m'26≤c'54→c'54≤cap'55→b=b∧a=a∧b=b∧a=a∧(U.POk L'50 (OfNat.ofNat (0:Nat)) m'7∧U.POk l'49 (OfNat.ofNat (0:Nat)) n47∧U.POk L'53 (OfNat.ofNat (0:Nat)) m'26)∧∀ (z56:Int),z56=U.TP a b L'50 (OfNat.ofNat (0:Nat)) m'7 l'49 (OfNat.ofNat (0:Nat)) n47 L'53 (OfNat.ofNat (0:Nat)) m'26→b=b∧a=a∧K (Sum.inl (Sum.inl (Sum.inr (Sum.inr (Sum.inr (Sum.inr (Sum.inr (Sum.inr (Sum.inl (IntKind.u64,z56)))))))))) { heap := [],ints := [],opqs := (0:Nat),arrs := [],junks := (0:Nat) }) := by kernel_rfl
theorem rproof_vc (K:AV→St→Prop) (a b kind nonce mac ip:Int) (l:List Int):(runI inv0 tKR 43 [xi .u64 a,xi .u64 b,xi .i64 kind,cell (strC l),xi .u64 nonce,xi .u64 mac,xi .u32 ip] emptySt K)=(∀ (z0:Int),z0=IntKind.wrap IntKind.u8 kind→∀ (z1:Int),z1=(↑(List.length l):Int)→∀ (z2:Int),z2=IntKind.wrap IntKind.u8 z1→∀ (l'3:List Int),l'3=[z0,z2]→(OfNat.ofNat (0:Nat) + OfNat.ofNat (2:Nat)≤List.length l'3∧OfNat.ofNat (0:Nat) + OfNat.ofNat (2:Nat)≤OfNat.ofNat (2:Nat))∧True∧OfNat.ofNat (2:Nat)≤(16777216:Nat)∧List.length l≤(16777216:Nat)∧∀ (l'4:List Int) (n'5 c'6:Nat),l'4=List.take (OfNat.ofNat (2:Nat)) (List.drop (OfNat.ofNat (0:Nat)) l'3) ++ l→n'5=OfNat.ofNat (2:Nat) + List.length l→n'5≤c'6→(((0:Int)≤(8:Int)∧(8:Int)≤(1000:Int))∧(0:Int)≤nonce∧nonce≤(18446744073709551615:Int))∧∀ (m7:Nat) (L8:List Int),(↑m7:Int)=(8:Int)→L8=U.nb (8:Int) nonce→(OfNat.ofNat (0:Nat) + n'5≤List.length l'4∧OfNat.ofNat (0:Nat) + c'6≤c'6)∧Nat.le (OfNat.ofNat (0:Nat) + m7) (List.length L8)∧n'5≤(16777216:Nat)∧m7≤(16777216:Nat)∧∀ (l'9:List Int) (n'10 c'11:Nat),l'9=List.take n'5 (List.drop (OfNat.ofNat (0:Nat)) l'4) ++ List.take m7 (List.drop (OfNat.ofNat (0:Nat)) L8)→n'10=n'5 + m7→n'10≤c'11→¬(281474976710656:Int)=(0:Int)∧∀ (z12:Int),z12=Int.tmod mac (281474976710656:Int)→(((0:Int)≤(6:Int)∧(6:Int)≤(1000:Int))∧(0:Int)≤z12∧z12≤(18446744073709551615:Int))∧∀ (m13:Nat) (L14:List Int),(↑m13:Int)=(6:Int)→L14=U.nb (6:Int) z12→(OfNat.ofNat (0:Nat) + n'10≤List.length l'9∧OfNat.ofNat (0:Nat) + c'11≤c'11)∧Nat.le (OfNat.ofNat (0:Nat) + m13) (List.length L14)∧n'10≤(16777216:Nat)∧m13≤(16777216:Nat)∧∀ (l'15:List Int) (n'16 c'17:Nat),l'15=List.take n'10 (List.drop (OfNat.ofNat (0:Nat)) l'9) ++ List.take m13 (List.drop (OfNat.ofNat (0:Nat)) L14)→n'16=n'10 + m13→n'16≤c'17→∀ (z18:Int),z18=IntKind.wrap IntKind.u64 ip→(((0:Int)≤(4:Int)∧(4:Int)≤(1000:Int))∧(0:Int)≤z18∧z18≤(18446744073709551615:Int))∧∀ (m19:Nat) (L20:List Int),(↑m19:Int)=(4:Int)→L20=U.nb (4:Int) z18→(OfNat.ofNat (0:Nat) + n'16≤List.length l'15∧OfNat.ofNat (0:Nat) + c'17≤c'17)∧Nat.le (OfNat.ofNat (0:Nat) + m19) (List.length L20)∧n'16≤(16777216:Nat)∧m19≤(16777216:Nat)∧∀ (l'21:List Int) (n'22 c'23:Nat),l'21=List.take n'16 (List.drop (OfNat.ofNat (0:Nat)) l'15) ++ List.take m19 (List.drop (OfNat.ofNat (0:Nat)) L20)→n'22=n'16 + m19→n'22≤c'23→U.By l'21∧OfNat.ofNat (0:Nat) + n'22≤List.length l'21∧n'22≤(900:Nat)∧∀ (z24:Int),z24=U.RT a b l'21 (OfNat.ofNat (0:Nat)) n'22→K (Sum.inl (Sum.inl (Sum.inr (Sum.inr (Sum.inr (Sum.inr (Sum.inr (Sum.inr (Sum.inl (IntKind.u64,z24)))))))))) { heap := [],ints := [],opqs := (0:Nat),arrs := [],junks := (0:Nat) }) := by kernel_rfl
end Go.Proofs.YthafgapnnmkmhaaGreatDoor
end
section
set_option linter.unusedVariables false
set_option linter.unusedSimpArgs false
set_option maxRecDepth 10000
namespace Go.Proofs.YthafgapnnmkmhaaGreatDoor
open Go Reck
def U.pfL (kind nonce mac ip : Int) (l : List Int) : List Int := [kind % 256, (l.length : Int) % 256] ++ l ++ (U.nb 8 nonce ++ U.nb 6 mac ++ U.nb 4 ip)
theorem nb1 (v : Int) (hv : 0 ≤ v) : U.nb 1 v = [v % 256] := by
  show [(((v.toNat / 256 ^ 0 % 256 : Nat)) : Int)] = _
  rw [Nat.pow_zero, Nat.div_one]
  congr 1
  omega
theorem be_mod : ∀ (k m v : Nat), k ≤ m → be k (v % 256 ^ m) = be k v
  | 0, _, _, _ => rfl
  | k + 1, m, v, h => by
    show (v % 256 ^ m / 256 ^ k % 256) :: be k (v % 256 ^ m) = (v / 256 ^ k % 256) :: be k v
    rw [be_mod k m v (by omega)]
    congr 1
    obtain ⟨d, rfl⟩ : ∃ d, m = k + (d + 1) := ⟨m - k - 1, by omega⟩
    rw [Nat.pow_add, Nat.mod_mul_right_div_self, Nat.pow_succ, Nat.mul_comm (256 ^ d) 256, Nat.mod_mul_right_mod]
theorem apps_head (u v : Int) : U.apps [] 8 [u, v] = nums 8 (be 1 u.toNat ++ be 1 v.toNat) := by
  rw [nums_app, ← num_be, ← num_be]; rfl
theorem apps_tail (u v x : Int) : U.apps (U.apps (U.apps [] 64 [u]) 48 [v]) 32 [x] = nums 8 (be 8 u.toNat ++ be 6 v.toNat ++ be 4 x.toNat) := by
  rw [nums_app, nums_app, ← num_be, ← num_be, ← num_be]; rfl
theorem nz_app (a b : List Nat) : nz (a ++ b) = nz a ++ nz b := by simp [nz]
theorem be_app_lt {a b : List Nat} (ha : ∀ c ∈ a, c < 256) (hb : ∀ c ∈ b, c < 256) : ∀ c ∈ a ++ b, c < 256 := by
  intro c hc
  rcases List.mem_append.1 hc with h | h
  · exact ha c h
  · exact hb c h
theorem out_byteL {L : List Int} {N : Int} {l : List Bool} (h : U.Out L N l) : byteL L := by_byteL (out_by' h)
theorem bpK {L : List Int} {N : Int} {m c cap : Nat} {l : List Bool} {n : Int} {vs : List Int} (h1 : U.Out L N l) (h2 : m = L.length) (h3 : c ≤ cap) (h4 : m ≤ c) (h5 : 1 ≤ n ∧ n ≤ 64) (h6 : N + vs.length * n ≤ 524288) (h7 : ∀ v ∈ vs, 0 ≤ v ∧ v ≤ 18446744073709551615) : U.BitsPre L N m c cap l n vs := ⟨⟨h1, h2, h3, h4, h5, h6, h7⟩⟩
theorem sb_all {L : List Int} {n : Nat} (h : n = L.length) : sb L 0 n = L := by
  unfold sb; rw [List.drop_zero, List.take_of_length_le (by omega)]
theorem proof_run (K : AV → St → Prop) (a b kind nonce mac ip : Int) (l : List Int) (hn : 0 ≤ nonce ∧ nonce ≤ 18446744073709551615) (hm : 0 ≤ mac ∧ mac ≤ 18446744073709551615) (hi : 0 ≤ ip ∧ ip ≤ 4294967295) (hl : byteL l) (hlen : l.length ≤ 300)
    (h : K (xi .u64 (TL a b (U.pfL kind nonce mac ip l))) emptySt) : runI inv0 tKB 75 [.inl (.inr [xintC .u64 a, xintC .u64 b]), xi .i64 kind, cell (strC l), xi .u64 nonce, xi .u64 mac, xi .u32 ip] emptySt K := by
  rw [proof_vc]
  intro L0 o0 e0 L1 o1 e1 z2 e2 z3 e3 z4 e4
  rw [wrapU64] at e2 e4
  refine ⟨[], bpK o0 (by rw [e0]; rfl) (by decide) (by decide) (by decide) (by simp) (by simp; omega), fun L6 m7 c8 p9 N10 a1 a2 a3 a4 a5 => ⟨[], bpK o1 (by rw [e1]; rfl) (by decide) (by decide) (by decide) (by simp) (by simp; omega), fun L12 m13 c14 p15 N16 b1 b2 b3 b4 b5 => ⟨_, bpK b1 b3 b4 b5 (by decide) (by rw [b2]; simp) (by simp; omega), fun L18 m19 c20 p21 N22 c1 c2 c3 c4 c5 z23 e23 => ?_⟩⟩⟩
  rw [wrapU64] at e23
  refine ⟨_, bpK c1 c3 c4 c5 (by decide) (by rw [c2, b2]; simp) (by simp; omega), fun L25 m26 c27 p28 N29 d1 d2 d3 d4 d5 => ?_⟩
  have e23 : z23 = ip := by omega
  subst e23
  have E6 : L6 = [kind % 256, (l.length : Int) % 256] := by
    rw [apps_head] at a1
    rw [out_bytes a1 (be_app_lt (be_lt _ _) (be_lt _ _)), nz_app]
    show U.nb 1 z2 ++ U.nb 1 z4 = _
    rw [nb1 _ (by omega), nb1 _ (by omega)]
    have : z2 % 256 = kind % 256 := by omega
    have h4 : z4 % 256 = (l.length : Int) % 256 := by omega
    rw [this, h4]; rfl
  have E25 : L25 = U.nb 8 nonce ++ U.nb 6 mac ++ U.nb 4 z23 := by
    rw [apps_tail] at d1
    rw [out_bytes d1 (be_app_lt (be_app_lt (be_lt _ _) (be_lt _ _)) (be_lt _ _)), nz_app, nz_app]; rfl
  have l6 : L6.length = 2 := by rw [E6]; rfl
  have l25 : L25.length = 18 := by rw [E25, List.length_append, List.length_append, nb_length, nb_length, nb_length]; rfl
  have F6 : m7 = L6.length ∧ m7 ≤ 16777216 := ⟨a3, by omega⟩
  have F25 : m26 = L25.length ∧ m26 ≤ 16777216 := ⟨d3, by omega⟩
  have G : ∀ (LA lB LC : List Int) (n : Nat), LA = L6 → lB = l → n = l.length → LC = L25 → (U.POk LA 0 m7 ∧ U.POk lB 0 n ∧ U.POk LC 0 m26) ∧ ∀ z : Int, z = U.TP a b LA 0 m7 lB 0 n LC 0 m26 → b = b ∧ a = a ∧ K (xi .u64 z) emptySt := by
    rintro LA lB LC n rfl rfl rfl rfl
    refine ⟨⟨⟨out_byteL a1, by omega, by omega⟩, ⟨hl, by omega, hlen⟩, ⟨out_byteL d1, by omega, by omega⟩⟩, ?_⟩
    rintro z rfl
    refine ⟨rfl, rfl, ?_⟩
    unfold U.TP
    rw [sb_all a3, sb_all rfl, sb_all d3, E25]
    have h' := h
    unfold U.pfL at h'
    rw [← E6] at h'
    exact h'
  exact ⟨⟨F6, fun L30 c31 p32 e30 _ _ => ⟨rfl, rfl, fun n33 c34 l35 e35 e33 _ => ⟨rfl, rfl, F25, fun L36 _ _ e36 _ _ => ⟨rfl, rfl, rfl, rfl, G _ _ _ _ e30 e35 e33 e36⟩⟩, F25, fun L40 _ _ e40 _ _ => ⟨rfl, rfl, fun n43 c44 l45 e45 e43 _ => ⟨rfl, rfl, rfl, rfl, G _ _ _ _ e30 e45 e43 e40⟩⟩⟩⟩, fun n47 c48 l49 e49 e47 _ => ⟨rfl, rfl, F6, fun L50 _ _ e50 _ _ => ⟨rfl, rfl, F25, fun L53 _ _ e53 _ _ => ⟨rfl, rfl, rfl, rfl, G _ _ _ _ e50 e49 e47 e53⟩⟩⟩⟩
theorem at_all {L : List Int} {n : Nat} (h : n = L.length) : List.take n (List.drop 0 L) = L := sb_all h
theorem rproof_run (K : AV → St → Prop) (a b kind nonce mac ip : Int) (l : List Int) (hn : 0 ≤ nonce ∧ nonce ≤ 18446744073709551615) (hm : 0 ≤ mac ∧ mac ≤ 18446744073709551615) (hi : 0 ≤ ip ∧ ip ≤ 4294967295) (hl : byteL l) (hlen : l.length ≤ 300)
    (h : K (xi .u64 (TL a b (U.pfL kind nonce mac ip l))) emptySt) : runI inv0 tKR 43 [xi .u64 a, xi .u64 b, xi .i64 kind, cell (strC l), xi .u64 nonce, xi .u64 mac, xi .u32 ip] emptySt K := by
  rw [rproof_vc]
  intro z0 e0 z1 e1 z2 e2 l3 e3
  rw [wrapU8] at e0 e2
  have k3 : l3.length = 2 := by rw [e3]; rfl
  refine ⟨⟨by show 0 + 2 ≤ l3.length; omega, by decide⟩, trivial, by decide, by omega, fun l4 n5 c6 e4 e5 i6 => ⟨⟨by decide, by omega⟩, fun m7 L8 e7 e8 => ?_⟩⟩
  have e5 : n5 = 2 + l.length := e5
  have t3 : List.take 2 (List.drop 0 l3) = l3 := at_all k3.symm
  rw [t3] at e4
  have k4 : n5 = l4.length := by rw [e4, List.length_append, k3, e5]
  have k8 : m7 = L8.length := by rw [e8, nb_length]; omega
  refine ⟨⟨by show 0 + n5 ≤ _; omega, by show 0 + c6 ≤ c6; omega⟩, by show 0 + m7 ≤ _; omega, by omega, by omega, fun l9 n10 c11 e9 e10 i11 => ⟨by decide, fun z12 e12 => ?_⟩⟩
  have e9 : l9 = l4 ++ L8 := by rw [e9]; exact congr (congrArg _ (at_all k4)) (at_all k8)
  have k9 : n10 = l9.length := by rw [e9, List.length_append, e10, ← k4, ← k8]
  rw [Int.tmod_eq_emod_of_nonneg (by omega)] at e12
  refine ⟨⟨by decide, by omega⟩, fun m13 L14 e13 e14 => ?_⟩
  have k14 : m13 = L14.length := by rw [e14, nb_length]; omega
  refine ⟨⟨by show 0 + n10 ≤ _; omega, by show 0 + c11 ≤ c11; omega⟩, by show 0 + m13 ≤ _; omega, by omega, by omega, fun l15 n16 c17 e15 e16 i17 z18 e18 => ?_⟩
  have e15 : l15 = l9 ++ L14 := by rw [e15]; exact congr (congrArg _ (at_all k9)) (at_all k14)
  have k15 : n16 = l15.length := by rw [e15, List.length_append, e16, ← k9, ← k14]
  rw [wrapU64] at e18
  obtain rfl : z18 = ip := by omega
  refine ⟨⟨by decide, by omega⟩, fun m19 L20 e19 e20 => ?_⟩
  have k20 : m19 = L20.length := by rw [e20, nb_length]; omega
  refine ⟨⟨by show 0 + n16 ≤ _; omega, by show 0 + c17 ≤ c17; omega⟩, by show 0 + m19 ≤ _; omega, by omega, by omega, fun l21 n22 c23 e21 e22 i23 => ?_⟩
  have e21 : l21 = l15 ++ L20 := by rw [e21]; exact congr (congrArg _ (at_all k15)) (at_all k20)
  have k21 : n22 = l21.length := by rw [e21, List.length_append, e22, ← k15, ← k20]
  have E : l21 = U.pfL kind nonce mac z18 l := by
    rw [e21, e15, e9, e4, e3, e8, e14, e20]
    unfold U.pfL
    have x0 : z0 = kind % 256 := e0
    have x2 : z2 = (l.length : Int) % 256 := by rw [e2, e1]
    have x12 : U.nb 6 z12 = U.nb 6 mac := by
      show nz (be 6 z12.toNat) = nz (be 6 mac.toNat)
      have : z12.toNat = mac.toNat % 256 ^ 6 := by rw [e12]; omega
      rw [this, be_mod 6 6 _ (Nat.le_refl _)]
    rw [x0, x2, x12]
    simp only [List.append_assoc]
  have hB : U.By l21 := by
    rw [E]
    have hb : ∀ x ∈ U.pfL kind nonce mac z18 l, 0 ≤ x ∧ x < 256 := by
      intro x hx
      unfold U.pfL at hx
      simp only [List.mem_append, List.mem_cons, List.not_mem_nil, or_false] at hx
      rcases hx with ((rfl | rfl) | hx) | (hx | hx) | hx
      · omega
      · omega
      · have := hl x hx; omega
      · exact by_mem' (nb_by _ _) x hx
      · exact by_mem' (nb_by _ _) x hx
      · exact by_mem' (nb_by _ _) x hx
    obtain ⟨cs, e, hc⟩ := nz_of hb
    exact ⟨cs, e, hc⟩
  refine ⟨hB, by show 0 + n22 ≤ _; omega, by omega, fun z24 e24 => ?_⟩
  have e24 : z24 = U.RT a b l21 0 n22 := e24
  have T := tag_eq a b l21 0 n22 (by_byteL hB) (by omega) (by omega)
  have T2 : U.T a b l21 0 n22 = TL a b (sb l21 0 n22) := rfl
  rw [e24, ← T, T2, sb_all k21, E]
  exact h
end Go.Proofs.YthafgapnnmkmhaaGreatDoor
end
section
set_option linter.unusedVariables false
set_option linter.unusedSimpArgs false
set_option maxRecDepth 100000
namespace Go.Proofs.YthafgapnnmkmhaaGreatDoor
open Go Reck
def U.pf (a b kind nonce mac ip : Int) (l : List Int) : Int := TL a b (U.pfL kind nonce mac ip l)
structure U.PfOk (nonce mac ip : Int) (l : List Int) : Prop where
  out : (0 ≤ nonce ∧ nonce ≤ 18446744073709551615) ∧ (0 ≤ mac ∧ mac ≤ 18446744073709551615) ∧ (0 ≤ ip ∧ ip ≤ 4294967295) ∧ l.length ≤ 300
def tPf : Tbl := fun f args σ => if f == 75 then match args, σ with
    | [.inl (.inr [x, y]), z, u, p, q, r], ⟨[], [], 0, [], 0⟩ => match xiX (cell x), xiX (cell y), xiX z, strX u, xiX p, xiX q, xiX r with
      | some (.u64, a), some (.u64, b), some (.i64, k), some l, some (.u64, n), some (.u64, m), some (.u32, i) => some fun K => U.PfOk n m i l ∧ ∀ z : Int, z = U.pf a b k n m i l → K (xi .u64 z) emptySt
      | _, _, _, _, _, _, _ => none
    | _, _ => none
  else none
def tRPf : Tbl := fun f args σ => if f == 43 then match args, σ with
    | [x, y, z, u, p, q, r], ⟨[], [], 0, [], 0⟩ => match xiX x, xiX y, xiX z, strX u, xiX p, xiX q, xiX r with
      | some (.u64, a), some (.u64, b), some (.i64, k), some l, some (.u64, n), some (.u64, m), some (.u32, i) => some fun K => U.PfOk n m i l ∧ ∀ z : Int, z = U.pf a b k n m i l → K (xi .u64 z) emptySt
      | _, _, _, _, _, _, _ => none
    | _, _ => none
  else none
theorem byteZ_L {l : List Int} (h : l.all byteZ = true) : byteL l := fun x hx => by
  have := List.all_eq_true.1 h x hx
  simp only [byteZ, decide_eq_true_eq] at this
  omega
theorem tPf_ok : TblOk Tryz.prog tPf := by
  intro f tm σ C h K hK
  unfold tPf at h
  split at h
  · rename_i hf
    obtain rfl : f = 75 := by simpa using hf
    split at h
    · rename_i x y z u p q r
      split at h
      · rename_i a b k l n m i hx hy hz hu hp hq hr
        obtain rfl := cell_inj (xiX_eq hx)
        obtain rfl := cell_inj (xiX_eq hy)
        obtain rfl := xiX_eq hz
        obtain rfl := xiX_eq hp
        obtain rfl := xiX_eq hq
        obtain rfl := xiX_eq hr
        simp only [Option.some.injEq] at h; subst h
        obtain ⟨⟨k1, k2, k3, k4⟩, hk⟩ := hK
        intro w0 e w hok vs hvs
        obtain ⟨v0, v1, v2, v3, v4, v5, rfl⟩ : ∃ v0 v1 v2 v3 v4 v5, vs = [v0, v1, v2, v3, v4, v5] := by
          match vs, map_len hvs with
          | [v0, v1, v2, v3, v4, v5], _ => exact ⟨v0, v1, v2, v3, v4, v5, rfl⟩
        simp only [List.map_cons, List.map_nil, List.cons.injEq, and_true] at hvs
        obtain ⟨h0, h1, h2, h3, h4, h5⟩ := hvs
        obtain ⟨rfl, hb⟩ := strX_ok hu h2
        exact knownC noOv names (conOk_of tKB_ok) (proof_run K a b k n m i l k1 k2 k3 (byteZ_L hb) k4 (hk _ rfl)) w0 e w hok [v0, v1, _, v3, v4, v5] (by
          simp only [List.map_cons, List.map_nil, List.cons.injEq, and_true]
          exact ⟨h0, h1, strC_av hb e, h3, h4, h5⟩)
      · cases h
    · cases h
  · cases h
theorem tRPf_ok : TblOk Tryz.prog tRPf := by
  intro f tm σ C h K hK
  unfold tRPf at h
  split at h
  · rename_i hf
    obtain rfl : f = 43 := by simpa using hf
    split at h
    · rename_i x y z u p q r
      split at h
      · rename_i a b k l n m i hx hy hz hu hp hq hr
        obtain rfl := xiX_eq hx
        obtain rfl := xiX_eq hy
        obtain rfl := xiX_eq hz
        obtain rfl := xiX_eq hp
        obtain rfl := xiX_eq hq
        obtain rfl := xiX_eq hr
        simp only [Option.some.injEq] at h; subst h
        obtain ⟨⟨k1, k2, k3, k4⟩, hk⟩ := hK
        intro w0 e w hok vs hvs
        obtain ⟨v0, v1, v2, v3, v4, v5, v6, rfl⟩ : ∃ v0 v1 v2 v3 v4 v5 v6, vs = [v0, v1, v2, v3, v4, v5, v6] := by
          match vs, map_len hvs with
          | [v0, v1, v2, v3, v4, v5, v6], _ => exact ⟨v0, v1, v2, v3, v4, v5, v6, rfl⟩
        simp only [List.map_cons, List.map_nil, List.cons.injEq, and_true] at hvs
        obtain ⟨h0, h1, h2, h3, h4, h5, h6⟩ := hvs
        obtain ⟨rfl, hb⟩ := strX_ok hu h3
        exact knownC noOv names (conOk_of tKR_ok) (rproof_run K a b k n m i l k1 k2 k3 (byteZ_L hb) k4 (hk _ rfl)) w0 e w hok [v0, v1, v2, _, v4, v5, v6] (by
          simp only [List.map_cons, List.map_nil, List.cons.injEq, and_true]
          exact ⟨h0, h1, h2, strC_av hb e, h4, h5, h6⟩)
      · cases h
    · cases h
  · cases h
def tPfs : Tbl := tblOr tPf tRPf
theorem tPfs_ok : TblOk Tryz.prog tPfs := tblOr_ok tPf_ok tRPf_ok
end Go.Proofs.YthafgapnnmkmhaaGreatDoor
end
