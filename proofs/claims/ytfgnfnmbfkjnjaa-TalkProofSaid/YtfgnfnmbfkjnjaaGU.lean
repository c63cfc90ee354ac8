/- Parts of a proof, one behind the other: T7 T8 T9 TA TB. No condition. -/
import Derived.Test.YtfgnfnmbfkjnjaaGT
import Derived.Test.YtfgnfnmbfkjnjaaGB
section
namespace Go.Proofs.Ytfgnfnmbfkjnjaa
open Go Reck
set_option linter.unusedVariables false
def tMayT : Tbl := fun f args σ => if f == 10 then match args, σ with
    | [.inl (.inr l)], ⟨[], [], 0, [], 0⟩ => match intsT l with
      | some ([kind, xid, mac, ip, ticks, nonce, tag, why], u) => some fun K => U.TKin xid mac ip ticks nonce tag why ∧ (U.TMay kind xid mac ip ticks nonce tag why u → K (lit (.bool true)) emptySt) ∧ (¬ U.TMay kind xid mac ip ticks nonce tag why u → K (lit (.bool false)) emptySt)
      | _ => none
    | _, _ => none
  else none
theorem tMayT_ok : TblOk Try.prog tMayT := by
  intro f tm σ C h K hK
  unfold tMayT at h
  split at h
  · rename_i hf
    obtain rfl : f = 10 := by simpa using hf
    split at h
    · split at h
      · rename_i kind xid mac ip ticks nonce tag why u hl
        simp only [Option.some.injEq] at h; subst h
        intro w0 en w hok vs hvs
        refine knownC noOv names (conOk_of tT4_ok) (may_run K kind xid mac ip ticks nonce tag why u hK.1 hK.2.1 hK.2.2) w0 en w hok vs ?_
        cases vs with
        | nil => simp at hvs
        | cons v vs =>
          simp only [List.map_cons, List.map_nil, List.cons.injEq] at hvs ⊢
          exact ⟨intsT_ok hl hvs.1, hvs.2⟩
      · cases h
    · cases h
  · cases h
def tT7 : Tbl := tblOr tMayT (tblOr tPut (tblOr tTake tT4))
theorem tT7_ok : TblOk Try.prog tT7 := tblOr_ok tMayT_ok (tblOr_ok tPut_ok (tblOr_ok tTake_ok tT4_ok))
set_option maxRecDepth 100000
theorem write_vc (K : AV → St → Prop) (kind xid mac ip ticks nonce tag why : Int) (l : List Int) : (runI inv0 tT7 22 [msgA kind xid mac ip ticks (strC l) nonce tag why] emptySt K) = (∀ (a0 b1 c2 d3 e4 f5 g6 : Int), a0 = U.wx kind → b1 = U.wm kind → c2 = U.wi kind → d3 = U.wt kind → e4 = U.wn kind → f5 = U.wg kind → g6 = U.wy kind → (U.Us kind → ∀ (L7 : List Int), U.Out L7 (0 : Int) [] → L7 = [] → ∃ (y8 : List Bool), U.BitsPre L7 (0 : Int) (0 : Nat) (0 : Nat) (0 : Nat) y8 (16 : Int) [(20307 : Int)] ∧ ∀ (L'9 : List Int) (m'10 c'11 cap'12 : Nat) (N'13 : Int), U.Out L'9 N'13 (U.apps y8 (16 : Int) [(20307 : Int)]) → N'13 = (16 : Int) → m'10 = List.length L'9 → c'11 ≤ cap'12 → m'10 ≤ c'11 → ∀ (z14 : Int), z14 = IntKind.wrap IntKind.u64 kind → ∃ (y15 : List Bool), U.BitsPre L'9 N'13 m'10 c'11 cap'12 y15 (8 : Int) [z14] ∧ ∀ (L'16 : List Int) (m'17 c'18 cap'19 : Nat) (N'20 : Int), U.Out L'16 N'20 (U.apps y15 (8 : Int) [z14]) → N'20 = N'13 + (↑(List.length [z14]) : Int) * (8 : Int) → m'17 = List.length L'16 → c'18 ≤ cap'19 → m'17 ≤ c'18 → ∀ (z21 : Int), z21 = IntKind.wrap IntKind.u64 xid → ∃ (y22 : List Bool), (U.OP L'16 N'20 m'17 c'18 cap'19 y22 ∧ N'20 ≤ (500000 : Int) ∧ ((0 : Int) ≤ a0 ∧ a0 ≤ (64 : Int)) ∧ (0 : Int) ≤ z21 ∧ z21 ≤ (18446744073709551615 : Int)) ∧ ∀ (L'23 : List Int) (m'24 c'25 cap'26 : Nat) (N'27 : Int), U.OP L'23 N'27 m'24 c'25 cap'26 (U.putL y22 a0 z21) → N'27 = N'20 + a0 → ∃ (y28 : List Bool), (U.OP L'23 N'27 m'24 c'25 cap'26 y28 ∧ N'27 ≤ (500000 : Int) ∧ ((0 : Int) ≤ b1 ∧ b1 ≤ (64 : Int)) ∧ (0 : Int) ≤ mac ∧ mac ≤ (18446744073709551615 : Int)) ∧ ∀ (L'29 : List Int) (m'30 c'31 cap'32 : Nat) (N'33 : Int), U.OP L'29 N'33 m'30 c'31 cap'32 (U.putL y28 b1 mac) → N'33 = N'27 + b1 → ∀ (z34 : Int), z34 = IntKind.wrap IntKind.u64 ip → ∃ (y35 : List Bool), (U.OP L'29 N'33 m'30 c'31 cap'32 y35 ∧ N'33 ≤ (500000 : Int) ∧ ((0 : Int) ≤ c2 ∧ c2 ≤ (64 : Int)) ∧ (0 : Int) ≤ z34 ∧ z34 ≤ (18446744073709551615 : Int)) ∧ ∀ (L'36 : List Int) (m'37 c'38 cap'39 : Nat) (N'40 : Int), U.OP L'36 N'40 m'37 c'38 cap'39 (U.putL y35 c2 z34) → N'40 = N'33 + c2 → ∀ (z41 : Int), z41 = IntKind.wrap IntKind.u64 ticks → ∃ (y42 : List Bool), (U.OP L'36 N'40 m'37 c'38 cap'39 y42 ∧ N'40 ≤ (500000 : Int) ∧ ((0 : Int) ≤ d3 ∧ d3 ≤ (64 : Int)) ∧ (0 : Int) ≤ z41 ∧ z41 ≤ (18446744073709551615 : Int)) ∧ ∀ (L'43 : List Int) (m'44 c'45 cap'46 : Nat) (N'47 : Int), U.OP L'43 N'47 m'44 c'45 cap'46 (U.putL y42 d3 z41) → N'47 = N'40 + d3 → ∀ (z48 : Int), z48 = (↑(List.length l) : Int) → ∀ (z49 : Int), z49 = IntKind.wrap IntKind.u64 z48 → ∃ (y50 : List Bool), U.BitsPre L'43 N'47 m'44 c'45 cap'46 y50 (8 : Int) [z49] ∧ ∀ (L'51 : List Int) (m'52 c'53 cap'54 : Nat) (N'55 : Int), U.Out L'51 N'55 (U.apps y50 (8 : Int) [z49]) → N'55 = N'47 + (↑(List.length [z49]) : Int) * (8 : Int) → m'52 = List.length L'51 → c'53 ≤ cap'54 → m'52 ≤ c'53 → ∀ (n56 c57 : Nat) (l'58 : List Int), l'58 = l → n56 = List.length l → n56 ≤ c57 → ∃ (y59 : List Bool), (U.Out L'51 N'55 y59 ∧ m'52 = List.length L'51 ∧ c'53 ≤ cap'54 ∧ m'52 ≤ c'53 ∧ U.By l'58 ∧ OfNat.ofNat (0 : Nat) + n56 ≤ List.length l'58 ∧ N'55 + (8 : Int) * (↑n56 : Int) ≤ (524288 : Int)) ∧ ∀ (L'60 : List Int) (m'61 c'62 cap'63 : Nat) (N'64 : Int), U.Out L'60 N'64 (U.appB y59 l'58 (OfNat.ofNat (0 : Nat)) n56) → N'64 = N'55 + (8 : Int) * (↑n56 : Int) → m'61 = List.length L'60 → c'62 ≤ cap'63 → m'61 ≤ c'62 → ∃ (y65 : List Bool), (U.OP L'60 N'64 m'61 c'62 cap'63 y65 ∧ N'64 ≤ (500000 : Int) ∧ ((0 : Int) ≤ e4 ∧ e4 ≤ (64 : Int)) ∧ (0 : Int) ≤ nonce ∧ nonce ≤ (18446744073709551615 : Int)) ∧ ∀ (L'66 : List Int) (m'67 c'68 cap'69 : Nat) (N'70 : Int), U.OP L'66 N'70 m'67 c'68 cap'69 (U.putL y65 e4 nonce) → N'70 = N'64 + e4 → ∃ (y71 : List Bool), (U.OP L'66 N'70 m'67 c'68 cap'69 y71 ∧ N'70 ≤ (500000 : Int) ∧ ((0 : Int) ≤ f5 ∧ f5 ≤ (64 : Int)) ∧ (0 : Int) ≤ tag ∧ tag ≤ (18446744073709551615 : Int)) ∧ ∀ (L'72 : List Int) (m'73 c'74 cap'75 : Nat) (N'76 : Int), U.OP L'72 N'76 m'73 c'74 cap'75 (U.putL y71 f5 tag) → N'76 = N'70 + f5 → ∀ (z77 : Int), z77 = IntKind.wrap IntKind.u64 why → ∃ (y78 : List Bool), (U.OP L'72 N'76 m'73 c'74 cap'75 y78 ∧ N'76 ≤ (500000 : Int) ∧ ((0 : Int) ≤ g6 ∧ g6 ≤ (64 : Int)) ∧ (0 : Int) ≤ z77 ∧ z77 ≤ (18446744073709551615 : Int)) ∧ ∀ (L'79 : List Int) (m'80 c'81 cap'82 : Nat) (N'83 : Int), U.OP L'79 N'83 m'80 c'81 cap'82 (U.putL y78 g6 z77) → N'83 = N'76 + g6 → (m'80 = List.length L'79 ∧ m'80 ≤ (16777216 : Nat)) ∧ ∀ (L'84 : List Int) (c'85 cap'86 : Nat), L'84 = L'79 → m'80 ≤ c'85 → c'85 ≤ cap'86 → K (Sum.inl (Sum.inl (Sum.inr (Sum.inr (Sum.inr (Sum.inr (Sum.inr (Sum.inr (Sum.inr (Sum.inl { a := (0 : Nat), o := OfNat.ofNat (0 : Nat), n := m'80, c := c'85 })))))))))) { heap := [], ints := [], opqs := (0 : Nat), arrs := [some { elem := OfNat.ofNat (5 : Nat), k := AK.n IntKind.u8, l := L'84, cap := cap'86, ro := false }], junks := (0 : Nat) }) ∧ (¬U.Us kind → ∀ (L87 : List Int), U.Out L87 (0 : Int) [] → L87 = [] → ∃ (y88 : List Bool), U.BitsPre L87 (0 : Int) (0 : Nat) (0 : Nat) (0 : Nat) y88 (16 : Int) [(20307 : Int)] ∧ ∀ (L'89 : List Int) (m'90 c'91 cap'92 : Nat) (N'93 : Int), U.Out L'89 N'93 (U.apps y88 (16 : Int) [(20307 : Int)]) → N'93 = (16 : Int) → m'90 = List.length L'89 → c'91 ≤ cap'92 → m'90 ≤ c'91 → ∀ (z94 : Int), z94 = IntKind.wrap IntKind.u64 kind → ∃ (y95 : List Bool), U.BitsPre L'89 N'93 m'90 c'91 cap'92 y95 (8 : Int) [z94] ∧ ∀ (L'96 : List Int) (m'97 c'98 cap'99 : Nat) (N'100 : Int), U.Out L'96 N'100 (U.apps y95 (8 : Int) [z94]) → N'100 = N'93 + (↑(List.length [z94]) : Int) * (8 : Int) → m'97 = List.length L'96 → c'98 ≤ cap'99 → m'97 ≤ c'98 → ∀ (z101 : Int), z101 = IntKind.wrap IntKind.u64 xid → ∃ (y102 : List Bool), (U.OP L'96 N'100 m'97 c'98 cap'99 y102 ∧ N'100 ≤ (500000 : Int) ∧ ((0 : Int) ≤ a0 ∧ a0 ≤ (64 : Int)) ∧ (0 : Int) ≤ z101 ∧ z101 ≤ (18446744073709551615 : Int)) ∧ ∀ (L'103 : List Int) (m'104 c'105 cap'106 : Nat) (N'107 : Int), U.OP L'103 N'107 m'104 c'105 cap'106 (U.putL y102 a0 z101) → N'107 = N'100 + a0 → ∃ (y108 : List Bool), (U.OP L'103 N'107 m'104 c'105 cap'106 y108 ∧ N'107 ≤ (500000 : Int) ∧ ((0 : Int) ≤ b1 ∧ b1 ≤ (64 : Int)) ∧ (0 : Int) ≤ mac ∧ mac ≤ (18446744073709551615 : Int)) ∧ ∀ (L'109 : List Int) (m'110 c'111 cap'112 : Nat) (N'113 : Int), U.OP L'109 N'113 m'110 c'111 cap'112 (U.putL y108 b1 mac) → N'113 = N'107 + b1 → ∀ (z114 : Int), z114 = IntKind.wrap IntKind.u64 ip → ∃ (y115 : List Bool), (U.OP L'109 N'113 m'110 c'111 cap'112 y115 ∧ N'113 ≤ (500000 : Int) ∧ ((0 : Int) ≤ c2 ∧ c2 ≤ (64 : Int)) ∧ (0 : Int) ≤ z114 ∧ z114 ≤ (18446744073709551615 : Int)) ∧ ∀ (L'116 : List Int) (m'117 c'118 cap'119 : Nat) (N'120 : Int), U.OP L'116 N'120 m'117 c'118 cap'119 (U.putL y115 c2 z114) → N'120 = N'113 + c2 → ∀ (z121 : Int), z121 = IntKind.wrap IntKind.u64 ticks → ∃ (y122 : List Bool), (U.OP L'116 N'120 m'117 c'118 cap'119 y122 ∧ N'120 ≤ (500000 : Int) ∧ ((0 : Int) ≤ d3 ∧ d3 ≤ (64 : Int)) ∧ (0 : Int) ≤ z121 ∧ z121 ≤ (18446744073709551615 : Int)) ∧ ∀ (L'123 : List Int) (m'124 c'125 cap'126 : Nat) (N'127 : Int), U.OP L'123 N'127 m'124 c'125 cap'126 (U.putL y122 d3 z121) → N'127 = N'120 + d3 → ∃ (y128 : List Bool), (U.OP L'123 N'127 m'124 c'125 cap'126 y128 ∧ N'127 ≤ (500000 : Int) ∧ ((0 : Int) ≤ e4 ∧ e4 ≤ (64 : Int)) ∧ (0 : Int) ≤ nonce ∧ nonce ≤ (18446744073709551615 : Int)) ∧ ∀ (L'129 : List Int) (m'130 c'131 cap'132 : Nat) (N'133 : Int), U.OP L'129 N'133 m'130 c'131 cap'132 (U.putL y128 e4 nonce) → N'133 = N'127 + e4 → ∃ (y134 : List Bool), (U.OP L'129 N'133 m'130 c'131 cap'132 y134 ∧ N'133 ≤ (500000 : Int) ∧ ((0 : Int) ≤ f5 ∧ f5 ≤ (64 : Int)) ∧ (0 : Int) ≤ tag ∧ tag ≤ (18446744073709551615 : Int)) ∧ ∀ (L'135 : List Int) (m'136 c'137 cap'138 : Nat) (N'139 : Int), U.OP L'135 N'139 m'136 c'137 cap'138 (U.putL y134 f5 tag) → N'139 = N'133 + f5 → ∀ (z140 : Int), z140 = IntKind.wrap IntKind.u64 why → ∃ (y141 : List Bool), (U.OP L'135 N'139 m'136 c'137 cap'138 y141 ∧ N'139 ≤ (500000 : Int) ∧ ((0 : Int) ≤ g6 ∧ g6 ≤ (64 : Int)) ∧ (0 : Int) ≤ z140 ∧ z140 ≤ (18446744073709551615 : Int)) ∧ ∀ (L'142 : List Int) (m'143 c'144 cap'145 : Nat) (N'146 : Int), U.OP L'142 N'146 m'143 c'144 cap'145 (U.putL y141 g6 z140) → N'146 = N'139 + g6 → (m'143 = List.length L'142 ∧ m'143 ≤ (16777216 : Nat)) ∧ ∀ (L'147 : List Int) (c'148 cap'149 : Nat), L'147 = L'142 → m'143 ≤ c'148 → c'148 ≤ cap'149 → K (Sum.inl (Sum.inl (Sum.inr (Sum.inr (Sum.inr (Sum.inr (Sum.inr (Sum.inr (Sum.inr (Sum.inl { a := (0 : Nat), o := OfNat.ofNat (0 : Nat), n := m'143, c := c'148 })))))))))) { heap := [], ints := [], opqs := (0 : Nat), arrs := [some { elem := OfNat.ofNat (5 : Nat), k := AK.n IntKind.u8, l := L'147, cap := cap'149, ro := false }], junks := (0 : Nat) })) := by kernel_rfl
theorem readT_vc (K : AV → St → Prop) (L : List Int) (m c cap : Nat) : (runI inv0 tT7 29 [cell (aslC ⟨0, 0, m, c⟩)] (ar [bs L cap true]) K) = ((OfNat.ofNat (0 : Nat) + m ≤ List.length L ∧ m ≤ (16777216 : Nat)) ∧ ∀ (L'0 : List Int) (c'1 cap'2 : Nat), L'0 = List.take m (List.drop (OfNat.ofNat (0 : Nat)) L) → m ≤ c'1 → c'1 ≤ cap'2 → (m = List.length L'0 ∧ List.length L'0 ≤ (16777216 : Nat) ∧ ((0 : Int) ≤ (0 : Int) ∧ (0 : Int) ≤ (8 : Int) * (↑(List.length L'0) : Int)) ∧ (0 : Int) ≤ (16 : Int) ∧ (16 : Int) ≤ (9223372036854775807 : Int)) ∧ ∀ (a'3 e'4 : Int), a'3 = U.inA L'0 (0 : Int) (0 : Int) (16 : Int) → e'4 = U.inE L'0 (0 : Int) (0 : Int) (16 : Int) → (U.By L'0 ∧ m = List.length L'0 ∧ List.length L'0 ≤ (16777216 : Nat) ∧ ((0 : Int) ≤ a'3 ∧ a'3 ≤ (8 : Int) * (↑(List.length L'0) : Int)) ∧ (1 : Int) ≤ (8 : Int) ∧ (8 : Int) ≤ (64 : Int)) ∧ ∀ (z5 a'6 e'7 : Int), z5 = U.inV L'0 a'3 e'4 (8 : Int) → a'6 = U.inA L'0 a'3 e'4 (8 : Int) → e'7 = U.inE L'0 a'3 e'4 (8 : Int) → ∀ (z8 : Int), z8 = IntKind.wrap IntKind.i64 z5 → ∀ (a9 b10 c11 d12 e13 f14 g15 : Int), a9 = U.wx z8 → b10 = U.wm z8 → c11 = U.wi z8 → d12 = U.wt z8 → e13 = U.wn z8 → f14 = U.wg z8 → g15 = U.wy z8 → (U.Us z8 → (U.By L'0 ∧ m = List.length L'0 ∧ List.length L'0 ≤ (16777216 : Nat) ∧ ((0 : Int) ≤ a'6 ∧ a'6 ≤ (8 : Int) * (↑(List.length L'0) : Int)) ∧ (0 : Int) ≤ a9 ∧ a9 ≤ (64 : Int)) ∧ ∀ (z16 a'17 e'18 : Int), z16 = U.tkV L'0 a'6 e'7 a9 → a'17 = U.tkA L'0 a'6 e'7 a9 → e'18 = U.tkE L'0 a'6 e'7 a9 → ∀ (z19 : Int), z19 = IntKind.wrap IntKind.u32 z16 → (U.By L'0 ∧ m = List.length L'0 ∧ List.length L'0 ≤ (16777216 : Nat) ∧ ((0 : Int) ≤ a'17 ∧ a'17 ≤ (8 : Int) * (↑(List.length L'0) : Int)) ∧ (0 : Int) ≤ b10 ∧ b10 ≤ (64 : Int)) ∧ ∀ (z20 a'21 e'22 : Int), z20 = U.tkV L'0 a'17 e'18 b10 → a'21 = U.tkA L'0 a'17 e'18 b10 → e'22 = U.tkE L'0 a'17 e'18 b10 → (U.By L'0 ∧ m = List.length L'0 ∧ List.length L'0 ≤ (16777216 : Nat) ∧ ((0 : Int) ≤ a'21 ∧ a'21 ≤ (8 : Int) * (↑(List.length L'0) : Int)) ∧ (0 : Int) ≤ c11 ∧ c11 ≤ (64 : Int)) ∧ ∀ (z23 a'24 e'25 : Int), z23 = U.tkV L'0 a'21 e'22 c11 → a'24 = U.tkA L'0 a'21 e'22 c11 → e'25 = U.tkE L'0 a'21 e'22 c11 → ∀ (z26 : Int), z26 = IntKind.wrap IntKind.u32 z23 → (U.By L'0 ∧ m = List.length L'0 ∧ List.length L'0 ≤ (16777216 : Nat) ∧ ((0 : Int) ≤ a'24 ∧ a'24 ≤ (8 : Int) * (↑(List.length L'0) : Int)) ∧ (0 : Int) ≤ d12 ∧ d12 ≤ (64 : Int)) ∧ ∀ (z27 a'28 e'29 : Int), z27 = U.tkV L'0 a'24 e'25 d12 → a'28 = U.tkA L'0 a'24 e'25 d12 → e'29 = U.tkE L'0 a'24 e'25 d12 → ∀ (z30 : Int), z30 = IntKind.wrap IntKind.i64 z27 → (U.By L'0 ∧ m = List.length L'0 ∧ List.length L'0 ≤ (16777216 : Nat) ∧ ((0 : Int) ≤ a'28 ∧ a'28 ≤ (8 : Int) * (↑(List.length L'0) : Int)) ∧ (1 : Int) ≤ (8 : Int) ∧ (8 : Int) ≤ (64 : Int)) ∧ ∀ (z31 a'32 e'33 : Int), z31 = U.inV L'0 a'28 e'29 (8 : Int) → a'32 = U.inA L'0 a'28 e'29 (8 : Int) → e'33 = U.inE L'0 a'28 e'29 (8 : Int) → ∀ (z34 : Int), z34 = IntKind.wrap IntKind.i64 z31 → (m = List.length L'0 ∧ m ≤ c'1 ∧ List.length L'0 ≤ (16777216 : Nat) ∧ ((0 : Int) ≤ a'32 ∧ a'32 ≤ (8 : Int) * (↑(List.length L'0) : Int)) ∧ (e'33 = (0 : Int) → a'32 % (8 : Int) = (0 : Int)) ∧ (0 : Int) ≤ z34 ∧ z34 ≤ (1152921504606846975 : Int)) ∧ ∀ (B35 : List Int) (k36 c'37 cap'38 : Nat) (a'39 e'40 : Int), B35 = U.inB L'0 a'32 e'33 z34 → k36 = List.length B35 → k36 ≤ c'37 → c'37 ≤ cap'38 → a'39 = U.inA L'0 a'32 e'33 ((8 : Int) * z34) → e'40 = U.inE L'0 a'32 e'33 ((8 : Int) * z34) → (Nat.le (OfNat.ofNat (0 : Nat) + k36) (List.length B35) ∧ ByteL (List.take k36 (List.drop (OfNat.ofNat (0 : Nat)) B35))) ∧ ∀ (l'41 : List Int), l'41 = List.take k36 (List.drop (OfNat.ofNat (0 : Nat)) B35) → (U.By L'0 ∧ m = List.length L'0 ∧ List.length L'0 ≤ (16777216 : Nat) ∧ ((0 : Int) ≤ a'39 ∧ a'39 ≤ (8 : Int) * (↑(List.length L'0) : Int)) ∧ (0 : Int) ≤ e13 ∧ e13 ≤ (64 : Int)) ∧ ∀ (z42 a'43 e'44 : Int), z42 = U.tkV L'0 a'39 e'40 e13 → a'43 = U.tkA L'0 a'39 e'40 e13 → e'44 = U.tkE L'0 a'39 e'40 e13 → (U.By L'0 ∧ m = List.length L'0 ∧ List.length L'0 ≤ (16777216 : Nat) ∧ ((0 : Int) ≤ a'43 ∧ a'43 ≤ (8 : Int) * (↑(List.length L'0) : Int)) ∧ (0 : Int) ≤ f14 ∧ f14 ≤ (64 : Int)) ∧ ∀ (z45 a'46 e'47 : Int), z45 = U.tkV L'0 a'43 e'44 f14 → a'46 = U.tkA L'0 a'43 e'44 f14 → e'47 = U.tkE L'0 a'43 e'44 f14 → (U.By L'0 ∧ m = List.length L'0 ∧ List.length L'0 ≤ (16777216 : Nat) ∧ ((0 : Int) ≤ a'46 ∧ a'46 ≤ (8 : Int) * (↑(List.length L'0) : Int)) ∧ (0 : Int) ≤ g15 ∧ g15 ≤ (64 : Int)) ∧ ∀ (z48 a'49 e'50 : Int), z48 = U.tkV L'0 a'46 e'47 g15 → a'49 = U.tkA L'0 a'46 e'47 g15 → e'50 = U.tkE L'0 a'46 e'47 g15 → ∀ (z51 : Int), z51 = IntKind.wrap IntKind.i64 z48 → K (Sum.inl (Sum.inr [Sum.inr (Sum.inr (Sum.inr (Sum.inr (Sum.inr (Sum.inr (Sum.inl (IntKind.i64, z8))))))), Sum.inr (Sum.inr (Sum.inr (Sum.inr (Sum.inr (Sum.inr (Sum.inl (IntKind.u32, z19))))))), Sum.inr (Sum.inr (Sum.inr (Sum.inr (Sum.inr (Sum.inr (Sum.inl (IntKind.u64, z20))))))), Sum.inr (Sum.inr (Sum.inr (Sum.inr (Sum.inr (Sum.inr (Sum.inl (IntKind.u32, z26))))))), Sum.inr (Sum.inr (Sum.inr (Sum.inr (Sum.inr (Sum.inr (Sum.inl (IntKind.i64, z30))))))), Sum.inr (Sum.inr (Sum.inr (Sum.inr (Sum.inr (Sum.inr (Sum.inr (Sum.inr (Sum.inr (Sum.inr l'41))))))))), Sum.inr (Sum.inr (Sum.inr (Sum.inr (Sum.inr (Sum.inr (Sum.inl (IntKind.u64, z42))))))), Sum.inr (Sum.inr (Sum.inr (Sum.inr (Sum.inr (Sum.inr (Sum.inl (IntKind.u64, z45))))))), Sum.inr (Sum.inr (Sum.inr (Sum.inr (Sum.inr (Sum.inr (Sum.inl (IntKind.i64, z51)))))))])) { heap := [], ints := [], opqs := (0 : Nat), arrs := [some { elem := OfNat.ofNat (5 : Nat), k := AK.n IntKind.u8, l := L, cap := cap, ro := true }], junks := (0 : Nat) }) ∧ (¬U.Us z8 → (U.By L'0 ∧ m = List.length L'0 ∧ List.length L'0 ≤ (16777216 : Nat) ∧ ((0 : Int) ≤ a'6 ∧ a'6 ≤ (8 : Int) * (↑(List.length L'0) : Int)) ∧ (0 : Int) ≤ a9 ∧ a9 ≤ (64 : Int)) ∧ ∀ (z52 a'53 e'54 : Int), z52 = U.tkV L'0 a'6 e'7 a9 → a'53 = U.tkA L'0 a'6 e'7 a9 → e'54 = U.tkE L'0 a'6 e'7 a9 → ∀ (z55 : Int), z55 = IntKind.wrap IntKind.u32 z52 → (U.By L'0 ∧ m = List.length L'0 ∧ List.length L'0 ≤ (16777216 : Nat) ∧ ((0 : Int) ≤ a'53 ∧ a'53 ≤ (8 : Int) * (↑(List.length L'0) : Int)) ∧ (0 : Int) ≤ b10 ∧ b10 ≤ (64 : Int)) ∧ ∀ (z56 a'57 e'58 : Int), z56 = U.tkV L'0 a'53 e'54 b10 → a'57 = U.tkA L'0 a'53 e'54 b10 → e'58 = U.tkE L'0 a'53 e'54 b10 → (U.By L'0 ∧ m = List.length L'0 ∧ List.length L'0 ≤ (16777216 : Nat) ∧ ((0 : Int) ≤ a'57 ∧ a'57 ≤ (8 : Int) * (↑(List.length L'0) : Int)) ∧ (0 : Int) ≤ c11 ∧ c11 ≤ (64 : Int)) ∧ ∀ (z59 a'60 e'61 : Int), z59 = U.tkV L'0 a'57 e'58 c11 → a'60 = U.tkA L'0 a'57 e'58 c11 → e'61 = U.tkE L'0 a'57 e'58 c11 → ∀ (z62 : Int), z62 = IntKind.wrap IntKind.u32 z59 → (U.By L'0 ∧ m = List.length L'0 ∧ List.length L'0 ≤ (16777216 : Nat) ∧ ((0 : Int) ≤ a'60 ∧ a'60 ≤ (8 : Int) * (↑(List.length L'0) : Int)) ∧ (0 : Int) ≤ d12 ∧ d12 ≤ (64 : Int)) ∧ ∀ (z63 a'64 e'65 : Int), z63 = U.tkV L'0 a'60 e'61 d12 → a'64 = U.tkA L'0 a'60 e'61 d12 → e'65 = U.tkE L'0 a'60 e'61 d12 → ∀ (z66 : Int), z66 = IntKind.wrap IntKind.i64 z63 → (U.By L'0 ∧ m = List.length L'0 ∧ List.length L'0 ≤ (16777216 : Nat) ∧ ((0 : Int) ≤ a'64 ∧ a'64 ≤ (8 : Int) * (↑(List.length L'0) : Int)) ∧ (0 : Int) ≤ e13 ∧ e13 ≤ (64 : Int)) ∧ ∀ (z67 a'68 e'69 : Int), z67 = U.tkV L'0 a'64 e'65 e13 → a'68 = U.tkA L'0 a'64 e'65 e13 → e'69 = U.tkE L'0 a'64 e'65 e13 → (U.By L'0 ∧ m = List.length L'0 ∧ List.length L'0 ≤ (16777216 : Nat) ∧ ((0 : Int) ≤ a'68 ∧ a'68 ≤ (8 : Int) * (↑(List.length L'0) : Int)) ∧ (0 : Int) ≤ f14 ∧ f14 ≤ (64 : Int)) ∧ ∀ (z70 a'71 e'72 : Int), z70 = U.tkV L'0 a'68 e'69 f14 → a'71 = U.tkA L'0 a'68 e'69 f14 → e'72 = U.tkE L'0 a'68 e'69 f14 → (U.By L'0 ∧ m = List.length L'0 ∧ List.length L'0 ≤ (16777216 : Nat) ∧ ((0 : Int) ≤ a'71 ∧ a'71 ≤ (8 : Int) * (↑(List.length L'0) : Int)) ∧ (0 : Int) ≤ g15 ∧ g15 ≤ (64 : Int)) ∧ ∀ (z73 a'74 e'75 : Int), z73 = U.tkV L'0 a'71 e'72 g15 → a'74 = U.tkA L'0 a'71 e'72 g15 → e'75 = U.tkE L'0 a'71 e'72 g15 → ∀ (z76 : Int), z76 = IntKind.wrap IntKind.i64 z73 → K (Sum.inl (Sum.inr [Sum.inr (Sum.inr (Sum.inr (Sum.inr (Sum.inr (Sum.inr (Sum.inl (IntKind.i64, z8))))))), Sum.inr (Sum.inr (Sum.inr (Sum.inr (Sum.inr (Sum.inr (Sum.inl (IntKind.u32, z55))))))), Sum.inr (Sum.inr (Sum.inr (Sum.inr (Sum.inr (Sum.inr (Sum.inl (IntKind.u64, z56))))))), Sum.inr (Sum.inr (Sum.inr (Sum.inr (Sum.inr (Sum.inr (Sum.inl (IntKind.u32, z62))))))), Sum.inr (Sum.inr (Sum.inr (Sum.inr (Sum.inr (Sum.inr (Sum.inl (IntKind.i64, z66))))))), Sum.inl (Value.string { data := { toList := [] } }), Sum.inr (Sum.inr (Sum.inr (Sum.inr (Sum.inr (Sum.inr (Sum.inl (IntKind.u64, z67))))))), Sum.inr (Sum.inr (Sum.inr (Sum.inr (Sum.inr (Sum.inr (Sum.inl (IntKind.u64, z70))))))), Sum.inr (Sum.inr (Sum.inr (Sum.inr (Sum.inr (Sum.inr (Sum.inl (IntKind.i64, z76)))))))])) { heap := [], ints := [], opqs := (0 : Nat), arrs := [some { elem := OfNat.ofNat (5 : Nat), k := AK.n IntKind.u8, l := L, cap := cap, ro := true }], junks := (0 : Nat) })) := by kernel_rfl
theorem readF_vc (K : AV → St → Prop) (L : List Int) (m c cap : Nat) : (runI inv0 tT7 29 [cell (aslC ⟨0, 0, m, c⟩)] (ar [bs L cap false]) K) = ((OfNat.ofNat (0 : Nat) + m ≤ List.length L ∧ m ≤ (16777216 : Nat)) ∧ ∀ (L'0 : List Int) (c'1 cap'2 : Nat), L'0 = List.take m (List.drop (OfNat.ofNat (0 : Nat)) L) → m ≤ c'1 → c'1 ≤ cap'2 → (m = List.length L'0 ∧ List.length L'0 ≤ (16777216 : Nat) ∧ ((0 : Int) ≤ (0 : Int) ∧ (0 : Int) ≤ (8 : Int) * (↑(List.length L'0) : Int)) ∧ (0 : Int) ≤ (16 : Int) ∧ (16 : Int) ≤ (9223372036854775807 : Int)) ∧ ∀ (a'3 e'4 : Int), a'3 = U.inA L'0 (0 : Int) (0 : Int) (16 : Int) → e'4 = U.inE L'0 (0 : Int) (0 : Int) (16 : Int) → (U.By L'0 ∧ m = List.length L'0 ∧ List.length L'0 ≤ (16777216 : Nat) ∧ ((0 : Int) ≤ a'3 ∧ a'3 ≤ (8 : Int) * (↑(List.length L'0) : Int)) ∧ (1 : Int) ≤ (8 : Int) ∧ (8 : Int) ≤ (64 : Int)) ∧ ∀ (z5 a'6 e'7 : Int), z5 = U.inV L'0 a'3 e'4 (8 : Int) → a'6 = U.inA L'0 a'3 e'4 (8 : Int) → e'7 = U.inE L'0 a'3 e'4 (8 : Int) → ∀ (z8 : Int), z8 = IntKind.wrap IntKind.i64 z5 → ∀ (a9 b10 c11 d12 e13 f14 g15 : Int), a9 = U.wx z8 → b10 = U.wm z8 → c11 = U.wi z8 → d12 = U.wt z8 → e13 = U.wn z8 → f14 = U.wg z8 → g15 = U.wy z8 → (U.Us z8 → (U.By L'0 ∧ m = List.length L'0 ∧ List.length L'0 ≤ (16777216 : Nat) ∧ ((0 : Int) ≤ a'6 ∧ a'6 ≤ (8 : Int) * (↑(List.length L'0) : Int)) ∧ (0 : Int) ≤ a9 ∧ a9 ≤ (64 : Int)) ∧ ∀ (z16 a'17 e'18 : Int), z16 = U.tkV L'0 a'6 e'7 a9 → a'17 = U.tkA L'0 a'6 e'7 a9 → e'18 = U.tkE L'0 a'6 e'7 a9 → ∀ (z19 : Int), z19 = IntKind.wrap IntKind.u32 z16 → (U.By L'0 ∧ m = List.length L'0 ∧ List.length L'0 ≤ (16777216 : Nat) ∧ ((0 : Int) ≤ a'17 ∧ a'17 ≤ (8 : Int) * (↑(List.length L'0) : Int)) ∧ (0 : Int) ≤ b10 ∧ b10 ≤ (64 : Int)) ∧ ∀ (z20 a'21 e'22 : Int), z20 = U.tkV L'0 a'17 e'18 b10 → a'21 = U.tkA L'0 a'17 e'18 b10 → e'22 = U.tkE L'0 a'17 e'18 b10 → (U.By L'0 ∧ m = List.length L'0 ∧ List.length L'0 ≤ (16777216 : Nat) ∧ ((0 : Int) ≤ a'21 ∧ a'21 ≤ (8 : Int) * (↑(List.length L'0) : Int)) ∧ (0 : Int) ≤ c11 ∧ c11 ≤ (64 : Int)) ∧ ∀ (z23 a'24 e'25 : Int), z23 = U.tkV L'0 a'21 e'22 c11 → a'24 = U.tkA L'0 a'21 e'22 c11 → e'25 = U.tkE L'0 a'21 e'22 c11 → ∀ (z26 : Int), z26 = IntKind.wrap IntKind.u32 z23 → (U.By L'0 ∧ m = List.length L'0 ∧ List.length L'0 ≤ (16777216 : Nat) ∧ ((0 : Int) ≤ a'24 ∧ a'24 ≤ (8 : Int) * (↑(List.length L'0) : Int)) ∧ (0 : Int) ≤ d12 ∧ d12 ≤ (64 : Int)) ∧ ∀ (z27 a'28 e'29 : Int), z27 = U.tkV L'0 a'24 e'25 d12 → a'28 = U.tkA L'0 a'24 e'25 d12 → e'29 = U.tkE L'0 a'24 e'25 d12 → ∀ (z30 : Int), z30 = IntKind.wrap IntKind.i64 z27 → (U.By L'0 ∧ m = List.length L'0 ∧ List.length L'0 ≤ (16777216 : Nat) ∧ ((0 : Int) ≤ a'28 ∧ a'28 ≤ (8 : Int) * (↑(List.length L'0) : Int)) ∧ (1 : Int) ≤ (8 : Int) ∧ (8 : Int) ≤ (64 : Int)) ∧ ∀ (z31 a'32 e'33 : Int), z31 = U.inV L'0 a'28 e'29 (8 : Int) → a'32 = U.inA L'0 a'28 e'29 (8 : Int) → e'33 = U.inE L'0 a'28 e'29 (8 : Int) → ∀ (z34 : Int), z34 = IntKind.wrap IntKind.i64 z31 → (m = List.length L'0 ∧ m ≤ c'1 ∧ List.length L'0 ≤ (16777216 : Nat) ∧ ((0 : Int) ≤ a'32 ∧ a'32 ≤ (8 : Int) * (↑(List.length L'0) : Int)) ∧ (e'33 = (0 : Int) → a'32 % (8 : Int) = (0 : Int)) ∧ (0 : Int) ≤ z34 ∧ z34 ≤ (1152921504606846975 : Int)) ∧ ∀ (B35 : List Int) (k36 c'37 cap'38 : Nat) (a'39 e'40 : Int), B35 = U.inB L'0 a'32 e'33 z34 → k36 = List.length B35 → k36 ≤ c'37 → c'37 ≤ cap'38 → a'39 = U.inA L'0 a'32 e'33 ((8 : Int) * z34) → e'40 = U.inE L'0 a'32 e'33 ((8 : Int) * z34) → (Nat.le (OfNat.ofNat (0 : Nat) + k36) (List.length B35) ∧ ByteL (List.take k36 (List.drop (OfNat.ofNat (0 : Nat)) B35))) ∧ ∀ (l'41 : List Int), l'41 = List.take k36 (List.drop (OfNat.ofNat (0 : Nat)) B35) → (U.By L'0 ∧ m = List.length L'0 ∧ List.length L'0 ≤ (16777216 : Nat) ∧ ((0 : Int) ≤ a'39 ∧ a'39 ≤ (8 : Int) * (↑(List.length L'0) : Int)) ∧ (0 : Int) ≤ e13 ∧ e13 ≤ (64 : Int)) ∧ ∀ (z42 a'43 e'44 : Int), z42 = U.tkV L'0 a'39 e'40 e13 → a'43 = U.tkA L'0 a'39 e'40 e13 → e'44 = U.tkE L'0 a'39 e'40 e13 → (U.By L'0 ∧ m = List.length L'0 ∧ List.length L'0 ≤ (16777216 : Nat) ∧ ((0 : Int) ≤ a'43 ∧ a'43 ≤ (8 : Int) * (↑(List.length L'0) : Int)) ∧ (0 : Int) ≤ f14 ∧ f14 ≤ (64 : Int)) ∧ ∀ (z45 a'46 e'47 : Int), z45 = U.tkV L'0 a'43 e'44 f14 → a'46 = U.tkA L'0 a'43 e'44 f14 → e'47 = U.tkE L'0 a'43 e'44 f14 → (U.By L'0 ∧ m = List.length L'0 ∧ List.length L'0 ≤ (16777216 : Nat) ∧ ((0 : Int) ≤ a'46 ∧ a'46 ≤ (8 : Int) * (↑(List.length L'0) : Int)) ∧ (0 : Int) ≤ g15 ∧ g15 ≤ (64 : Int)) ∧ ∀ (z48 a'49 e'50 : Int), z48 = U.tkV L'0 a'46 e'47 g15 → a'49 = U.tkA L'0 a'46 e'47 g15 → e'50 = U.tkE L'0 a'46 e'47 g15 → ∀ (z51 : Int), z51 = IntKind.wrap IntKind.i64 z48 → K (Sum.inl (Sum.inr [Sum.inr (Sum.inr (Sum.inr (Sum.inr (Sum.inr (Sum.inr (Sum.inl (IntKind.i64, z8))))))), Sum.inr (Sum.inr (Sum.inr (Sum.inr (Sum.inr (Sum.inr (Sum.inl (IntKind.u32, z19))))))), Sum.inr (Sum.inr (Sum.inr (Sum.inr (Sum.inr (Sum.inr (Sum.inl (IntKind.u64, z20))))))), Sum.inr (Sum.inr (Sum.inr (Sum.inr (Sum.inr (Sum.inr (Sum.inl (IntKind.u32, z26))))))), Sum.inr (Sum.inr (Sum.inr (Sum.inr (Sum.inr (Sum.inr (Sum.inl (IntKind.i64, z30))))))), Sum.inr (Sum.inr (Sum.inr (Sum.inr (Sum.inr (Sum.inr (Sum.inr (Sum.inr (Sum.inr (Sum.inr l'41))))))))), Sum.inr (Sum.inr (Sum.inr (Sum.inr (Sum.inr (Sum.inr (Sum.inl (IntKind.u64, z42))))))), Sum.inr (Sum.inr (Sum.inr (Sum.inr (Sum.inr (Sum.inr (Sum.inl (IntKind.u64, z45))))))), Sum.inr (Sum.inr (Sum.inr (Sum.inr (Sum.inr (Sum.inr (Sum.inl (IntKind.i64, z51)))))))])) { heap := [], ints := [], opqs := (0 : Nat), arrs := [some { elem := OfNat.ofNat (5 : Nat), k := AK.n IntKind.u8, l := L, cap := cap, ro := false }], junks := (0 : Nat) }) ∧ (¬U.Us z8 → (U.By L'0 ∧ m = List.length L'0 ∧ List.length L'0 ≤ (16777216 : Nat) ∧ ((0 : Int) ≤ a'6 ∧ a'6 ≤ (8 : Int) * (↑(List.length L'0) : Int)) ∧ (0 : Int) ≤ a9 ∧ a9 ≤ (64 : Int)) ∧ ∀ (z52 a'53 e'54 : Int), z52 = U.tkV L'0 a'6 e'7 a9 → a'53 = U.tkA L'0 a'6 e'7 a9 → e'54 = U.tkE L'0 a'6 e'7 a9 → ∀ (z55 : Int), z55 = IntKind.wrap IntKind.u32 z52 → (U.By L'0 ∧ m = List.length L'0 ∧ List.length L'0 ≤ (16777216 : Nat) ∧ ((0 : Int) ≤ a'53 ∧ a'53 ≤ (8 : Int) * (↑(List.length L'0) : Int)) ∧ (0 : Int) ≤ b10 ∧ b10 ≤ (64 : Int)) ∧ ∀ (z56 a'57 e'58 : Int), z56 = U.tkV L'0 a'53 e'54 b10 → a'57 = U.tkA L'0 a'53 e'54 b10 → e'58 = U.tkE L'0 a'53 e'54 b10 → (U.By L'0 ∧ m = List.length L'0 ∧ List.length L'0 ≤ (16777216 : Nat) ∧ ((0 : Int) ≤ a'57 ∧ a'57 ≤ (8 : Int) * (↑(List.length L'0) : Int)) ∧ (0 : Int) ≤ c11 ∧ c11 ≤ (64 : Int)) ∧ ∀ (z59 a'60 e'61 : Int), z59 = U.tkV L'0 a'57 e'58 c11 → a'60 = U.tkA L'0 a'57 e'58 c11 → e'61 = U.tkE L'0 a'57 e'58 c11 → ∀ (z62 : Int), z62 = IntKind.wrap IntKind.u32 z59 → (U.By L'0 ∧ m = List.length L'0 ∧ List.length L'0 ≤ (16777216 : Nat) ∧ ((0 : Int) ≤ a'60 ∧ a'60 ≤ (8 : Int) * (↑(List.length L'0) : Int)) ∧ (0 : Int) ≤ d12 ∧ d12 ≤ (64 : Int)) ∧ ∀ (z63 a'64 e'65 : Int), z63 = U.tkV L'0 a'60 e'61 d12 → a'64 = U.tkA L'0 a'60 e'61 d12 → e'65 = U.tkE L'0 a'60 e'61 d12 → ∀ (z66 : Int), z66 = IntKind.wrap IntKind.i64 z63 → (U.By L'0 ∧ m = List.length L'0 ∧ List.length L'0 ≤ (16777216 : Nat) ∧ ((0 : Int) ≤ a'64 ∧ a'64 ≤ (8 : Int) * (↑(List.length L'0) : Int)) ∧ (0 : Int) ≤ e13 ∧ e13 ≤ (64 : Int)) ∧ ∀ (z67 a'68 e'69 : Int), z67 = U.tkV L'0 a'64 e'65 e13 → a'68 = U.tkA L'0 a'64 e'65 e13 → e'69 = U.tkE L'0 a'64 e'65 e13 → (U.By L'0 ∧ m = List.length L'0 ∧ List.length L'0 ≤ (16777216 : Nat) ∧ ((0 : Int) ≤ a'68 ∧ a'68 ≤ (8 : Int) * (↑(List.length L'0) : Int)) ∧ (0 : Int) ≤ f14 ∧ f14 ≤ (64 : Int)) ∧ ∀ (z70 a'71 e'72 : Int), z70 = U.tkV L'0 a'68 e'69 f14 → a'71 = U.tkA L'0 a'68 e'69 f14 → e'72 = U.tkE L'0 a'68 e'69 f14 → (U.By L'0 ∧ m = List.length L'0 ∧ List.length L'0 ≤ (16777216 : Nat) ∧ ((0 : Int) ≤ a'71 ∧ a'71 ≤ (8 : Int) * (↑(List.length L'0) : Int)) ∧ (0 : Int) ≤ g15 ∧ g15 ≤ (64 : Int)) ∧ ∀ (z73 a'74 e'75 : Int), z73 = U.tkV L'0 a'71 e'72 g15 → a'74 = U.tkA L'0 a'71 e'72 g15 → e'75 = U.tkE L'0 a'71 e'72 g15 → ∀ (z76 : Int), z76 = IntKind.wrap IntKind.i64 z73 → K (Sum.inl (Sum.inr [Sum.inr (Sum.inr (Sum.inr (Sum.inr (Sum.inr (Sum.inr (Sum.inl (IntKind.i64, z8))))))), Sum.inr (Sum.inr (Sum.inr (Sum.inr (Sum.inr (Sum.inr (Sum.inl (IntKind.u32, z55))))))), Sum.inr (Sum.inr (Sum.inr (Sum.inr (Sum.inr (Sum.inr (Sum.inl (IntKind.u64, z56))))))), Sum.inr (Sum.inr (Sum.inr (Sum.inr (Sum.inr (Sum.inr (Sum.inl (IntKind.u32, z62))))))), Sum.inr (Sum.inr (Sum.inr (Sum.inr (Sum.inr (Sum.inr (Sum.inl (IntKind.i64, z66))))))), Sum.inl (Value.string { data := { toList := [] } }), Sum.inr (Sum.inr (Sum.inr (Sum.inr (Sum.inr (Sum.inr (Sum.inl (IntKind.u64, z67))))))), Sum.inr (Sum.inr (Sum.inr (Sum.inr (Sum.inr (Sum.inr (Sum.inl (IntKind.u64, z70))))))), Sum.inr (Sum.inr (Sum.inr (Sum.inr (Sum.inr (Sum.inr (Sum.inl (IntKind.i64, z76)))))))])) { heap := [], ints := [], opqs := (0 : Nat), arrs := [some { elem := OfNat.ofNat (5 : Nat), k := AK.n IntKind.u8, l := L, cap := cap, ro := false }], junks := (0 : Nat) })) := by kernel_rfl
end Go.Proofs.Ytfgnfnmbfkjnjaa
end

section
set_option linter.unusedVariables false
set_option linter.unusedSimpArgs false
namespace Go.Proofs.Ytfgnfnmbfkjnjaa
open Go Reck

theorem Rd.out_ceil {L : List Int} {N : Int} {l : List Bool} (h : U.Out L N l) : (L.length : Int) = (N + 7) / 8 := by
  obtain ⟨cs, h1, h2, h3, _⟩ := h
  have := h2.2.1
  rw [h1, nz_length, this, h3]; omega
def U.usR (k : Int) (l : List Int) : List Bool := if 7 ≤ k ∧ k ≤ 12 then num 8 l.length ++ nums 8 (l.map Int.toNat) else []
/-- The bits of a message. -/
def U.tkB (kind xid mac ip ticks nonce tag why : Int) (l : List Int) : List Bool :=
  num 16 20307 ++ (num 8 kind.toNat ++ (U.putR (U.wx kind) xid ++ (U.putR (U.wm kind) mac ++ (U.putR (U.wi kind) ip ++ (U.putR (U.wt kind) ticks ++ (U.usR kind l ++ (U.putR (U.wn kind) nonce ++ (U.putR (U.wg kind) tag ++ U.putR (U.wy kind) why))))))))
/-- The bytes of a message. -/
structure U.TWr (kind xid mac ip ticks nonce tag why : Int) (l : List Int) (L : List Int) : Prop where
  out : ∃ N, U.Out L N (U.tkB kind xid mac ip ticks nonce tag why l)
theorem tkB_us {kind xid mac ip ticks nonce tag why : Int} {l : List Int} (us : U.Us kind) : U.tkB kind xid mac ip ticks nonce tag why l =
    num 16 20307 ++ (num 8 kind.toNat ++ (U.putR (U.wx kind) xid ++ (U.putR (U.wm kind) mac ++ (U.putR (U.wi kind) ip ++ (U.putR (U.wt kind) ticks ++ (num 8 l.length ++ (nums 8 (l.map Int.toNat) ++ (U.putR (U.wn kind) nonce ++ (U.putR (U.wg kind) tag ++ U.putR (U.wy kind) why))))))))) := by
  unfold U.tkB U.usR
  rw [if_pos us.out, List.append_assoc]
theorem tkB_no {kind xid mac ip ticks nonce tag why : Int} {l : List Int} (us : ¬ U.Us kind) : U.tkB kind xid mac ip ticks nonce tag why l =
    num 16 20307 ++ (num 8 kind.toNat ++ (U.putR (U.wx kind) xid ++ (U.putR (U.wm kind) mac ++ (U.putR (U.wi kind) ip ++ (U.putR (U.wt kind) ticks ++ (U.putR (U.wn kind) nonce ++ (U.putR (U.wg kind) tag ++ U.putR (U.wy kind) why))))))) := by
  unfold U.tkB U.usR
  rw [if_neg (fun h => us ⟨h⟩), List.nil_append]
theorem nm_chars {l : List Int} (h : U.Nm l) : ∀ x ∈ l, 0 ≤ x ∧ x < 256 := by
  intro x hx
  obtain ⟨i, hi, rfl⟩ := List.getElem_of_mem hx
  have := h.all i hi
  rw [List.getD_eq_getElem?_getD, List.getElem?_eq_getElem hi] at this
  simp only [Option.getD_some] at this
  rcases this with h | h <;> omega
theorem nm_by {l : List Int} (h : U.Nm l) : U.By l := by
  obtain ⟨cs, e, hc⟩ := nz_of (nm_chars h)
  exact ⟨cs, e, hc⟩
theorem bpT {L : List Int} {N : Int} {m c cap : Nat} {l : List Bool} {n : Int} {vs : List Int} (h : U.OP L N m c cap l) (h5 : 1 ≤ n ∧ n ≤ 64) (h6 : N + vs.length * n ≤ 524288) (h7 : ∀ v ∈ vs, 0 ≤ v ∧ v ≤ 18446744073709551615) : U.BitsPre L N m c cap l n vs := ⟨⟨h.out.1, h.out.2.1, h.out.2.2.1, h.out.2.2.2, h5, h6, h7⟩⟩
set_option maxHeartbeats 1000000 in
theorem write_run (K : AV → St → Prop) (kind xid mac ip ticks nonce tag why : Int) (l : List Int) (hM : U.TMay kind xid mac ip ticks nonce tag why l) (hK : U.TKin xid mac ip ticks nonce tag why)
    (hk : ∀ (L : List Int) (c cap : Nat), U.TWr kind xid mac ip ticks nonce tag why l L → L.length ≤ 200 → L.length ≤ c → c ≤ cap → K (cell (aslC ⟨0, 0, L.length, c⟩)) (ar [bs L cap false])) :
    runI inv0 tT7 22 [msgA kind xid mac ip ticks (strC l) nonce tag why] emptySt K := by
  rw [write_vc]
  intro a b c d e f g ea eb ec ed ee ef eg
  subst ea; subst eb; subst ec; subst ed; subst ee; subst ef; subst eg
  have kk := hM.fk
  have kt := hM.ft
  have ky := hM.fy
  have kt2 := fit_small (by have := wt_40 kind; omega) kt.2
  have ky2 := fit_small (by have := wy_8 kind; omega) ky.2
  obtain ⟨k1, k2, k3, k4, k5, k6, k7⟩ := hK
  have wx := wx_bd kind
  have wm := wm_bd kind
  have wi := wi_bd kind
  have wt := wt_bd kind
  have wn := wn_bd kind
  have wg := wg_bd kind
  have wy := wy_bd kind
  refine ⟨fun us => ?_, fun us => ?_⟩
  · have hN := hM.fu us
    have hby := nm_by hN
    have hlen := hN.len
    intro La h0 hL0
    have o0 : U.OP La 0 0 0 0 [] := ⟨⟨h0, by rw [hL0]; rfl, Nat.le_refl _, Nat.le_refl _⟩⟩
    refine ⟨_, bpT o0 (by decide) (by decide) (by simp), fun Lb mb cb pb Nb a1 a2 a3 a4 a5 z14 e14 => ?_⟩
    have ob : U.OP Lb Nb mb cb pb _ := ⟨⟨a1, a3, a4, a5⟩⟩
    rw [wrapU64] at e14
    obtain rfl : z14 = kind := by omega
    refine ⟨_, bpT ob (by decide) (by simp; omega) (by simp; omega), fun Lc mc cc pc Nc b1 b2 b3 b4 b5 z21 e21 => ?_⟩
    have oc : U.OP Lc Nc mc cc pc _ := ⟨⟨b1, b3, b4, b5⟩⟩
    have nc : Nc = 24 := by rw [b2, a2]; rfl
    rw [wrapU64] at e21
    obtain rfl : z21 = xid := by omega
    refine ⟨_, ⟨oc, by omega, wx_bd _, by omega, by omega⟩, fun Ld md cd pd Nd od nd => ?_⟩
    refine ⟨_, ⟨od, by omega, wm_bd _, by omega, by omega⟩, fun Le me ce pe Ne oe ne z34 e34 => ?_⟩
    rw [wrapU64] at e34
    obtain rfl : z34 = ip := by omega
    refine ⟨_, ⟨oe, by omega, wi_bd _, by omega, by omega⟩, fun Lf mf cf pf Nf of_ nf z41 e41 => ?_⟩
    rw [wrapU64] at e41
    obtain rfl : z41 = ticks := by omega
    refine ⟨_, ⟨of_, by omega, wt_bd _, by omega, by omega⟩, fun Lg mg cg pg Ng og ng => ?_⟩
    intro z48 e48 z49 e49
    rw [wrapU64] at e49
    obtain rfl : z49 = l.length := by omega
    refine ⟨_, bpT og (by decide) (by simp; omega) (by simp; omega), fun Lh mh ch ph Nh c1 c2 c3 c4 c5 n56 c57 l58 e58 e56 hc57 => ?_⟩
    have nh : Nh = Ng + 8 := by simpa using c2
    subst e58
    refine ⟨_, ⟨c1, c3, c4, c5, hby, by rw [e56]; exact Nat.le_of_eq (Nat.zero_add _), by omega⟩, fun Li mi ci pi Ni d1 d2 d3 d4 d5 => ?_⟩
    have oi : U.OP Li Ni mi ci pi _ := ⟨⟨d1, d3, d4, d5⟩⟩
    refine ⟨_, ⟨oi, by omega, wn_bd _, by omega, by omega⟩, fun Lj mj cj pj Nj oj nj => ?_⟩
    refine ⟨_, ⟨oj, by omega, wg_bd _, by omega, by omega⟩, fun Lk mk ck pk Nk ok nk z77 e77 => ?_⟩
    rw [wrapU64] at e77
    obtain rfl : z77 = why := by omega
    refine ⟨_, ⟨ok, by omega, wy_bd _, by omega, by omega⟩, fun Ll ml cl pl Nl ol nl => ?_⟩
    obtain ⟨p1, p2, p3, p4⟩ := ol.out
    have hll : Ll.length ≤ 200 := by
      have := Rd.out_ceil p1
      omega
    refine ⟨⟨p2, by omega⟩, fun Lm cm pm e1 e2 e3 => ?_⟩
    subst e1
    rw [p2]
    refine hk Lm cm pm ⟨Nl, ?_⟩ hll (p2 ▸ e2) e3
    rw [e56] at p1
    have e : U.tkB z14 z21 mac z34 z41 nonce tag z77 l58 = _ := tkB_us us
    rw [e]
    simpa only [U.putL, U.apps, U.app, U.appB, List.foldl_cons, List.foldl_nil, List.append_assoc, List.nil_append, List.drop_zero, List.take_length, Int.reduceToNat, Int.toNat_natCast] using p1
  · revert hk; intro hk
    intro La h0 hL0
    have o0 : U.OP La 0 0 0 0 [] := ⟨⟨h0, by rw [hL0]; rfl, Nat.le_refl _, Nat.le_refl _⟩⟩
    refine ⟨_, bpT o0 (by decide) (by decide) (by simp), fun Lb mb cb pb Nb a1 a2 a3 a4 a5 z14 e14 => ?_⟩
    have ob : U.OP Lb Nb mb cb pb _ := ⟨⟨a1, a3, a4, a5⟩⟩
    rw [wrapU64] at e14
    obtain rfl : z14 = kind := by omega
    refine ⟨_, bpT ob (by decide) (by simp; omega) (by simp; omega), fun Lc mc cc pc Nc b1 b2 b3 b4 b5 z21 e21 => ?_⟩
    have oc : U.OP Lc Nc mc cc pc _ := ⟨⟨b1, b3, b4, b5⟩⟩
    have nc : Nc = 24 := by rw [b2, a2]; rfl
    rw [wrapU64] at e21
    obtain rfl : z21 = xid := by omega
    refine ⟨_, ⟨oc, by omega, wx_bd _, by omega, by omega⟩, fun Ld md cd pd Nd od nd => ?_⟩
    refine ⟨_, ⟨od, by omega, wm_bd _, by omega, by omega⟩, fun Le me ce pe Ne oe ne z34 e34 => ?_⟩
    rw [wrapU64] at e34
    obtain rfl : z34 = ip := by omega
    refine ⟨_, ⟨oe, by omega, wi_bd _, by omega, by omega⟩, fun Lf mf cf pf Nf of_ nf z41 e41 => ?_⟩
    rw [wrapU64] at e41
    obtain rfl : z41 = ticks := by omega
    refine ⟨_, ⟨of_, by omega, wt_bd _, by omega, by omega⟩, fun Lg mg cg pg Ng og ng => ?_⟩
    refine ⟨_, ⟨og, by omega, wn_bd _, by omega, by omega⟩, fun Lj mj cj pj Nj oj nj => ?_⟩
    refine ⟨_, ⟨oj, by omega, wg_bd _, by omega, by omega⟩, fun Lk mk ck pk Nk ok nk z77 e77 => ?_⟩
    rw [wrapU64] at e77
    obtain rfl : z77 = why := by omega
    refine ⟨_, ⟨ok, by omega, wy_bd _, by omega, by omega⟩, fun Ll ml cl pl Nl ol nl => ?_⟩
    obtain ⟨p1, p2, p3, p4⟩ := ol.out
    have hll : Ll.length ≤ 200 := by
      have := Rd.out_ceil p1
      omega
    refine ⟨⟨p2, by omega⟩, fun Lm cm pm e1 e2 e3 => ?_⟩
    subst e1
    rw [p2]
    refine hk Lm cm pm ⟨Nl, ?_⟩ hll (p2 ▸ e2) e3
    have e : U.tkB z14 z21 mac z34 z41 nonce tag z77 l = _ := tkB_no us
    rw [e]
    simpa only [U.putL, U.apps, U.app, U.appB, List.foldl_cons, List.foldl_nil, List.append_assoc, List.nil_append, List.drop_zero, List.take_length, Int.reduceToNat, Int.toNat_natCast] using p1
end Go.Proofs.Ytfgnfnmbfkjnjaa
end

section
set_option linter.unusedVariables false
set_option linter.unusedSimpArgs false
namespace Go.Proofs.Ytfgnfnmbfkjnjaa
open Go Reck

theorem wx_8m (k : Int) : U.wx k % 8 = 0 := by unfold U.wx; split <;> rfl
theorem wm_8m (k : Int) : U.wm k % 8 = 0 := by unfold U.wm; split <;> rfl
theorem wi_8m (k : Int) : U.wi k % 8 = 0 := by unfold U.wi; split <;> rfl
theorem wt_8m (k : Int) : U.wt k % 8 = 0 := by unfold U.wt; split <;> rfl
theorem wn_8m (k : Int) : U.wn k % 8 = 0 := by unfold U.wn; split <;> rfl
theorem wg_8m (k : Int) : U.wg k % 8 = 0 := by unfold U.wg; split <;> rfl
theorem wy_8m (k : Int) : U.wy k % 8 = 0 := by unfold U.wy; split <;> rfl
theorem tkA_bd {L : List Int} {a e w a' : Int} (h : a' = U.tkA L a e w) (hw : 0 ≤ w) (ha : 0 ≤ a ∧ a ≤ 8 * L.length) : 0 ≤ a' ∧ a' ≤ 8 * L.length := by
  unfold U.tkA at h
  split at h
  · omega
  · exact Rd.inA_bnd h hw ha
theorem tkA_mod {L : List Int} {a e w : Int} (ha : a % 8 = 0) (hw : w % 8 = 0) : U.tkA L a e w % 8 = 0 := by
  unfold U.tkA
  split
  · exact ha
  · exact Rd.inA_mod ha hw
theorem tkV_64 {L : List Int} {a e w z : Int} (h : z = U.tkV L a e w) (hw : 0 ≤ w ∧ w ≤ 64) : 0 ≤ z ∧ z ≤ 18446744073709551615 := by
  unfold U.tkV at h
  split at h
  · omega
  · have h1 := Rd.inV_bnd h
    have h2 : (2 : Int) ^ w.toNat ≤ 2 ^ 64 := by
      have := Nat.pow_le_pow_right (n := 2) (by decide) (show w.toNat ≤ 64 by omega)
      have e : ∀ n : Nat, (2 : Int) ^ n = ((2 ^ n : Nat) : Int) := fun n => by simp
      rw [e, e]; exact Int.ofNat_le.2 this
    have h3 : (2 : Int) ^ 64 = 18446744073709551616 := by decide
    omega
theorem rest_put {L : List Int} {a e : Int} {r : List Bool} {w v : Int} (h : Rd.Rest L a e (U.putR w v ++ r)) (hw : 0 ≤ w) (hv : 0 ≤ v) (hf : U.Fit v w) : U.tkV L a e w = v ∧ Rd.Rest L (U.tkA L a e w) (U.tkE L a e w) r := by
  unfold U.putR at h
  unfold U.tkV U.tkA U.tkE
  by_cases h0 : w = 0
  · subst h0
    rw [if_pos rfl, if_pos rfl, if_pos rfl]
    rw [if_neg (by decide), List.nil_append] at h
    have := hf.out
    simp at this
    exact ⟨by omega, h⟩
  · rw [if_neg h0, if_neg h0, if_neg h0]
    rw [if_pos (by omega)] at h
    exact h.num hw ⟨hv, hf.out⟩
theorem nz_toNat {l : List Int} (h : ∀ x ∈ l, 0 ≤ x ∧ x < 256) : nz (l.map Int.toNat) = l := by
  unfold nz
  rw [List.map_map]
  conv => rhs; rw [← List.map_id l]
  exact List.map_congr_left fun x hx => by have := h x hx; simp; omega
theorem all_bytes {l : List Int} (h : ∀ x ∈ l, 0 ≤ x ∧ x < 256) : l.all byteZ = true := by
  rw [List.all_eq_true]
  intro x hx
  simp only [byteZ, decide_eq_true_eq]
  exact h x hx
theorem inB_bytes {L B : List Int} {a e n : Int} (h : U.By L) (hB : B = U.inB L a e n) : ∀ x ∈ B, 0 ≤ x ∧ x < 256 := by
  intro x hx
  rw [hB] at hx
  unfold U.inB at hx
  split at hx
  · obtain ⟨cs, rfl, hc⟩ := h
    have := List.mem_of_mem_drop (List.mem_of_mem_take hx)
    obtain ⟨c, hc', rfl⟩ := List.mem_map.1 this
    have := hc c hc'
    omega
  · cases hx
theorem by_take {L : List Int} (h : U.By L) (m : Nat) : U.By (L.take m) := by
  obtain ⟨cs, rfl, hc⟩ := h
  exact ⟨cs.take m, nz_take _ _, fun c hm => hc c (List.mem_of_mem_take hm)⟩
theorem usR_us {k : Int} {l : List Int} {r : List Bool} (us : U.Us k) : U.usR k l ++ r = num 8 l.length ++ (nums 8 (l.map Int.toNat) ++ r) := by
  unfold U.usR; rw [if_pos us.out, List.append_assoc]
theorem usR_no {k : Int} {l : List Int} {r : List Bool} (us : ¬ U.Us k) : U.usR k l ++ r = r := by
  unfold U.usR; rw [if_neg (fun h => us ⟨h⟩), List.nil_append]
theorem tkB_mod (kind xid mac ip ticks nonce tag why : Int) (l : List Int) : (U.tkB kind xid mac ip ticks nonce tag why l).length % 8 = 0 := by
  have h1 := putR_len (U.wx kind) xid (wx_bd _).1
  have h2 := putR_len (U.wm kind) mac (wm_bd _).1
  have h3 := putR_len (U.wi kind) ip (wi_bd _).1
  have h4 := putR_len (U.wt kind) ticks (wt_bd _).1
  have h5 := putR_len (U.wn kind) nonce (wn_bd _).1
  have h6 := putR_len (U.wg kind) tag (wg_bd _).1
  have h7 := putR_len (U.wy kind) why (wy_bd _).1
  have g1 := wx_8m kind
  have g2 := wm_8m kind
  have g3 := wi_8m kind
  have g4 := wt_8m kind
  have g5 := wn_8m kind
  have g6 := wg_8m kind
  have g7 := wy_8m kind
  have h8 : (U.usR kind l).length % 8 = 0 := by
    unfold U.usR
    split
    · rw [List.length_append, num_length, nums_length]; omega
    · rfl
  unfold U.tkB
  simp only [List.length_append, num_length]
  omega
theorem rest_kind {kind xid mac ip ticks nonce tag why : Int} {l L : List Int} (hM : U.TMay kind xid mac ip ticks nonce tag why l) (h : U.TWr kind xid mac ip ticks nonce tag why l L) :
    Rd.Rest L (U.inA L 0 0 16) (U.inE L 0 0 16) (num (8 : Int).toNat kind.toNat ++ (U.putR (U.wx kind) xid ++ (U.putR (U.wm kind) mac ++ (U.putR (U.wi kind) ip ++ (U.putR (U.wt kind) ticks ++ (U.usR kind l ++ (U.putR (U.wn kind) nonce ++ (U.putR (U.wg kind) tag ++ U.putR (U.wy kind) why)))))))) := by
  obtain ⟨N, hN⟩ := h
  have hc := Rd.out_ceil hN
  have hl := out_len' hN
  have hm := tkB_mod kind xid mac ip ticks nonce tag why l
  have h0 := Rd.Rest.start hN (by omega)
  exact (Rd.Rest.num (n := 16) (v := 20307) h0 (by decide) (by decide)).2
/-- What is read is the message that was written, if one was. -/
structure U.TRd (kind xid mac ip ticks nonce tag why : Int) (u L : List Int) : Prop where
  kd : 0 ≤ kind ∧ kind ≤ 255
  kin : U.TKin xid mac ip ticks nonce tag why
  uni : ∀ (kind' xid' mac' ip' ticks' nonce' tag' why' : Int) (l' : List Int), U.TMay kind' xid' mac' ip' ticks' nonce' tag' why' l' → U.TKin xid' mac' ip' ticks' nonce' tag' why' → U.TWr kind' xid' mac' ip' ticks' nonce' tag' why' l' L →
    kind = kind' ∧ xid = xid' ∧ mac = mac' ∧ ip = ip' ∧ ticks = ticks' ∧ nonce = nonce' ∧ tag = tag' ∧ why = why' ∧ u = l'
set_option maxHeartbeats 2000000 in
theorem readT_run (K : AV → St → Prop) (L : List Int) (m c cap : Nat) (hB : U.By L) (hm : m ≤ L.length) (hm2 : m ≤ 16777216)
    (hk : ∀ (kind xid mac ip ticks nonce tag why : Int) (u : List Int) (uc : Cell), (uc = strC u ∨ (uc = .inl (.string ⟨#[]⟩) ∧ u = [])) → 0 ≤ kind ∧ kind ≤ 255 → U.TKin xid mac ip ticks nonce tag why →
      (∀ (kind' xid' mac' ip' ticks' nonce' tag' why' : Int) (l' : List Int), U.TMay kind' xid' mac' ip' ticks' nonce' tag' why' l' → U.TKin xid' mac' ip' ticks' nonce' tag' why' → U.TWr kind' xid' mac' ip' ticks' nonce' tag' why' l' (L.take m) →
        kind = kind' ∧ xid = xid' ∧ mac = mac' ∧ ip = ip' ∧ ticks = ticks' ∧ nonce = nonce' ∧ tag = tag' ∧ why = why' ∧ u = l') → K (msgA kind xid mac ip ticks uc nonce tag why) (ar [bs L cap true])) :
    runI inv0 tT7 29 [cell (aslC ⟨0, 0, m, c⟩)] (ar [bs L cap true]) K := by
  rw [readT_vc]
  refine ⟨⟨by show 0 + m ≤ L.length; omega, hm2⟩, fun L0 c1 cap2 hL0 hc1 hc2 => ?_⟩
  have hL0 : L0 = L.take m := hL0
  have hB0 : U.By L0 := hL0 ▸ by_take hB m
  have hlen : L0.length = m := by rw [hL0, List.length_take]; omega
  rw [← hL0] at hk
  refine ⟨⟨by omega, by omega, ⟨by decide, by omega⟩, by decide, by decide⟩, fun a3 e4 ha3 he4 => ?_⟩
  have ba3 := Rd.inA_bnd ha3 (by decide) (by omega)
  have ma3 : a3 % 8 = 0 := ha3 ▸ Rd.inA_mod (by decide) (by decide)
  refine ⟨⟨hB0, by omega, by omega, ba3, by decide, by decide⟩, fun z5 a6 e7 hz5 ha6 he7 z8 hz8 => ?_⟩
  have zb5 := Rd.inV8 hz5
  rw [wrapI64] at hz8
  obtain rfl : z8 = z5 := by omega
  have ba6 := Rd.inA_bnd ha6 (by decide) ba3
  have ma6 : a6 % 8 = 0 := ha6 ▸ Rd.inA_mod ma3 (by decide)
  intro va vb vc vd ve vf vg ea eb ec ed ee ef eg
  subst ea; subst eb; subst ec; subst ed; subst ee; subst ef; subst eg
  refine ⟨fun us => ?_, fun us => ?_⟩
  · revert hk; intro hk
    refine ⟨⟨hB0, by omega, by omega, ba6, wx_bd _⟩, fun zx a9 e9 hzx ha9 he9 => ?_⟩
    have ba9 := tkA_bd ha9 (wx_bd _).1 ba6
    have ma9 : a9 % 8 = 0 := ha9 ▸ tkA_mod ma6 (wx_8m _)
    intro zx' hzx'
    rw [wrapU32] at hzx'
    refine ⟨⟨hB0, by omega, by omega, ba9, wm_bd _⟩, fun zm a10 e10 hzm ha10 he10 => ?_⟩
    have ba10 := tkA_bd ha10 (wm_bd _).1 ba9
    have ma10 : a10 % 8 = 0 := ha10 ▸ tkA_mod ma9 (wm_8m _)
    refine ⟨⟨hB0, by omega, by omega, ba10, wi_bd _⟩, fun zi a11 e11 hzi ha11 he11 => ?_⟩
    have ba11 := tkA_bd ha11 (wi_bd _).1 ba10
    have ma11 : a11 % 8 = 0 := ha11 ▸ tkA_mod ma10 (wi_8m _)
    intro zi' hzi'
    rw [wrapU32] at hzi'
    refine ⟨⟨hB0, by omega, by omega, ba11, wt_bd _⟩, fun zt a12 e12 hzt ha12 he12 => ?_⟩
    have ba12 := tkA_bd ha12 (wt_bd _).1 ba11
    have ma12 : a12 % 8 = 0 := ha12 ▸ tkA_mod ma11 (wt_8m _)
    intro zt' hzt'
    rw [wrapI64] at hzt'
    refine ⟨⟨hB0, by omega, by omega, ba12, by decide, by decide⟩, fun z31 a32 e33 hz31 ha32 he33 z34 hz34 => ?_⟩
    have zb31 := Rd.inV8 hz31
    rw [wrapI64] at hz34
    obtain rfl : z34 = z31 := by omega
    have ba32 := Rd.inA_bnd ha32 (by decide) ba12
    have ma32 : a32 % 8 = 0 := ha32 ▸ Rd.inA_mod ma12 (by decide)
    refine ⟨⟨by omega, by omega, by omega, ba32, fun _ => ma32, by omega, by omega⟩, fun B k cb pb a39 e40 hB hkB hcb hpb ha39 he40 => ?_⟩
    have ba39 := Rd.inA_bnd ha39 (by omega) ba32
    have ma39 : a39 % 8 = 0 := ha39 ▸ Rd.inA_mod ma32 (by omega)
    have hBy := inB_bytes hB0 hB
    refine ⟨⟨by rw [hkB]; exact Nat.le_of_eq (Nat.zero_add _), ⟨all_bytes (fun x hx => hBy x (List.mem_of_mem_drop (List.mem_of_mem_take hx)))⟩⟩, fun l41 hl41 => ?_⟩
    have hl41 : l41 = B := by rw [hl41, hkB]; simp
    subst hl41
    refine ⟨⟨hB0, by omega, by omega, ba39, wn_bd _⟩, fun zn a13 e13 hzn ha13 he13 => ?_⟩
    have ba13 := tkA_bd ha13 (wn_bd _).1 ba39
    have ma13 : a13 % 8 = 0 := ha13 ▸ tkA_mod ma39 (wn_8m _)
    refine ⟨⟨hB0, by omega, by omega, ba13, wg_bd _⟩, fun zg a14 e14 hzg ha14 he14 => ?_⟩
    have ba14 := tkA_bd ha14 (wg_bd _).1 ba13
    have ma14 : a14 % 8 = 0 := ha14 ▸ tkA_mod ma13 (wg_8m _)
    refine ⟨⟨hB0, by omega, by omega, ba14, wy_bd _⟩, fun zy a15 e15 hzy ha15 he15 => ?_⟩
    have ba15 := tkA_bd ha15 (wy_bd _).1 ba14
    have ma15 : a15 % 8 = 0 := ha15 ▸ tkA_mod ma14 (wy_8m _)
    intro zy' hzy'
    rw [wrapI64] at hzy'
    refine hk z8 zx' zm zi' zt' zn zg zy' l41 (strC l41) (.inl rfl) (by omega) ?_ ?_
    · exact ⟨by omega, tkV_64 hzm (wm_bd _), by omega, by omega, tkV_64 hzn (wn_bd _), tkV_64 hzg (wg_bd _), by omega⟩
    · rintro kind' xid' mac' ip' ticks' nonce' tag' why' l' hM hK hW
      have hRk := (rest_kind hM hW).num (by decide) (by have := hM.fk; simp; omega)
      rw [← ha3, ← he4, ← hz5, ← ha6, ← he7] at hRk
      obtain ⟨hkk, hR⟩ := hRk
      subst hkk
      rw [usR_us us] at hR
      obtain ⟨k1, k2, k3, k4, k5, k6, k7⟩ := hK
      obtain ⟨qzx, hR⟩ := rest_put hR (wx_bd _).1 k1.1 hM.fx
      rw [← hzx] at qzx
      rw [← ha9, ← he9] at hR
      obtain ⟨qzm, hR⟩ := rest_put hR (wm_bd _).1 k2.1 hM.fm
      rw [← hzm] at qzm
      rw [← ha10, ← he10] at hR
      obtain ⟨qzi, hR⟩ := rest_put hR (wi_bd _).1 k3.1 hM.fi
      rw [← hzi] at qzi
      rw [← ha11, ← he11] at hR
      obtain ⟨qzt, hR⟩ := rest_put hR (wt_bd _).1 hM.ft.1 hM.ft.2
      rw [← hzt] at qzt
      rw [← ha12, ← he12] at hR
      have hN := hM.fu us
      have hNl := hN.len
      obtain ⟨ql, hR⟩ := hR.num (n := 8) (v := (l'.length : Int)) (by decide) (by simp; omega)
      rw [← hz31] at ql
      rw [← ha32, ← he33] at hR
      obtain ⟨qb, hR⟩ := hR.bytes ma32 (fun c hc => by obtain ⟨x, hx, rfl⟩ := List.mem_map.1 hc; have := nm_chars hN x hx; omega)
      rw [List.length_map, ← ql] at qb
      rw [List.length_map, ← ql, ← ha39, ← he40] at hR
      rw [← hB, nz_toNat (nm_chars hN)] at qb
      obtain ⟨qzn, hR⟩ := rest_put hR (wn_bd _).1 k5.1 hM.fn
      rw [← hzn] at qzn
      rw [← ha13, ← he13] at hR
      obtain ⟨qzg, hR⟩ := rest_put hR (wg_bd _).1 k6.1 hM.fg
      rw [← hzg] at qzg
      rw [← ha14, ← he14] at hR
      rw [← List.append_nil (U.putR (U.wy z8) why')] at hR
      obtain ⟨qzy, hR⟩ := rest_put hR (wy_bd _).1 hM.fy.1 hM.fy.2
      rw [← hzy] at qzy
      rw [← ha15, ← he15] at hR
      have ft := fit_small (by have := wt_40 z8; omega) hM.ft.2
      have fy := fit_small (by have := wy_8 z8; omega) hM.fy.2
      refine ⟨rfl, by omega, qzm, by omega, by omega, qzn, qzg, by omega, qb⟩
  · revert hk; intro hk
    refine ⟨⟨hB0, by omega, by omega, ba6, wx_bd _⟩, fun zx a9 e9 hzx ha9 he9 => ?_⟩
    have ba9 := tkA_bd ha9 (wx_bd _).1 ba6
    have ma9 : a9 % 8 = 0 := ha9 ▸ tkA_mod ma6 (wx_8m _)
    intro zx' hzx'
    rw [wrapU32] at hzx'
    refine ⟨⟨hB0, by omega, by omega, ba9, wm_bd _⟩, fun zm a10 e10 hzm ha10 he10 => ?_⟩
    have ba10 := tkA_bd ha10 (wm_bd _).1 ba9
    have ma10 : a10 % 8 = 0 := ha10 ▸ tkA_mod ma9 (wm_8m _)
    refine ⟨⟨hB0, by omega, by omega, ba10, wi_bd _⟩, fun zi a11 e11 hzi ha11 he11 => ?_⟩
    have ba11 := tkA_bd ha11 (wi_bd _).1 ba10
    have ma11 : a11 % 8 = 0 := ha11 ▸ tkA_mod ma10 (wi_8m _)
    intro zi' hzi'
    rw [wrapU32] at hzi'
    refine ⟨⟨hB0, by omega, by omega, ba11, wt_bd _⟩, fun zt a12 e12 hzt ha12 he12 => ?_⟩
    have ba12 := tkA_bd ha12 (wt_bd _).1 ba11
    have ma12 : a12 % 8 = 0 := ha12 ▸ tkA_mod ma11 (wt_8m _)
    intro zt' hzt'
    rw [wrapI64] at hzt'
    refine ⟨⟨hB0, by omega, by omega, ba12, wn_bd _⟩, fun zn a13 e13 hzn ha13 he13 => ?_⟩
    have ba13 := tkA_bd ha13 (wn_bd _).1 ba12
    have ma13 : a13 % 8 = 0 := ha13 ▸ tkA_mod ma12 (wn_8m _)
    refine ⟨⟨hB0, by omega, by omega, ba13, wg_bd _⟩, fun zg a14 e14 hzg ha14 he14 => ?_⟩
    have ba14 := tkA_bd ha14 (wg_bd _).1 ba13
    have ma14 : a14 % 8 = 0 := ha14 ▸ tkA_mod ma13 (wg_8m _)
    refine ⟨⟨hB0, by omega, by omega, ba14, wy_bd _⟩, fun zy a15 e15 hzy ha15 he15 => ?_⟩
    have ba15 := tkA_bd ha15 (wy_bd _).1 ba14
    have ma15 : a15 % 8 = 0 := ha15 ▸ tkA_mod ma14 (wy_8m _)
    intro zy' hzy'
    rw [wrapI64] at hzy'
    refine hk z8 zx' zm zi' zt' zn zg zy' [] (.inl (.string ⟨#[]⟩)) (.inr ⟨rfl, rfl⟩) (by omega) ?_ ?_
    · exact ⟨by omega, tkV_64 hzm (wm_bd _), by omega, by omega, tkV_64 hzn (wn_bd _), tkV_64 hzg (wg_bd _), by omega⟩
    · rintro kind' xid' mac' ip' ticks' nonce' tag' why' l' hM hK hW
      have hRk := (rest_kind hM hW).num (by decide) (by have := hM.fk; simp; omega)
      rw [← ha3, ← he4, ← hz5, ← ha6, ← he7] at hRk
      obtain ⟨hkk, hR⟩ := hRk
      subst hkk
      rw [usR_no us] at hR
      obtain ⟨k1, k2, k3, k4, k5, k6, k7⟩ := hK
      obtain ⟨qzx, hR⟩ := rest_put hR (wx_bd _).1 k1.1 hM.fx
      rw [← hzx] at qzx
      rw [← ha9, ← he9] at hR
      obtain ⟨qzm, hR⟩ := rest_put hR (wm_bd _).1 k2.1 hM.fm
      rw [← hzm] at qzm
      rw [← ha10, ← he10] at hR
      obtain ⟨qzi, hR⟩ := rest_put hR (wi_bd _).1 k3.1 hM.fi
      rw [← hzi] at qzi
      rw [← ha11, ← he11] at hR
      obtain ⟨qzt, hR⟩ := rest_put hR (wt_bd _).1 hM.ft.1 hM.ft.2
      rw [← hzt] at qzt
      rw [← ha12, ← he12] at hR
      obtain ⟨qzn, hR⟩ := rest_put hR (wn_bd _).1 k5.1 hM.fn
      rw [← hzn] at qzn
      rw [← ha13, ← he13] at hR
      obtain ⟨qzg, hR⟩ := rest_put hR (wg_bd _).1 k6.1 hM.fg
      rw [← hzg] at qzg
      rw [← ha14, ← he14] at hR
      rw [← List.append_nil (U.putR (U.wy z8) why')] at hR
      obtain ⟨qzy, hR⟩ := rest_put hR (wy_bd _).1 hM.fy.1 hM.fy.2
      rw [← hzy] at qzy
      rw [← ha15, ← he15] at hR
      have ft := fit_small (by have := wt_40 z8; omega) hM.ft.2
      have fy := fit_small (by have := wy_8 z8; omega) hM.fy.2
      refine ⟨rfl, by omega, qzm, by omega, by omega, qzn, qzg, by omega, (hM.fz us).symm⟩
set_option maxHeartbeats 2000000 in
theorem readF_run (K : AV → St → Prop) (L : List Int) (m c cap : Nat) (hB : U.By L) (hm : m ≤ L.length) (hm2 : m ≤ 16777216)
    (hk : ∀ (kind xid mac ip ticks nonce tag why : Int) (u : List Int) (uc : Cell), (uc = strC u ∨ (uc = .inl (.string ⟨#[]⟩) ∧ u = [])) → 0 ≤ kind ∧ kind ≤ 255 → U.TKin xid mac ip ticks nonce tag why →
      (∀ (kind' xid' mac' ip' ticks' nonce' tag' why' : Int) (l' : List Int), U.TMay kind' xid' mac' ip' ticks' nonce' tag' why' l' → U.TKin xid' mac' ip' ticks' nonce' tag' why' → U.TWr kind' xid' mac' ip' ticks' nonce' tag' why' l' (L.take m) →
        kind = kind' ∧ xid = xid' ∧ mac = mac' ∧ ip = ip' ∧ ticks = ticks' ∧ nonce = nonce' ∧ tag = tag' ∧ why = why' ∧ u = l') → K (msgA kind xid mac ip ticks uc nonce tag why) (ar [bs L cap false])) :
    runI inv0 tT7 29 [cell (aslC ⟨0, 0, m, c⟩)] (ar [bs L cap false]) K := by
  rw [readF_vc]
  refine ⟨⟨by show 0 + m ≤ L.length; omega, hm2⟩, fun L0 c1 cap2 hL0 hc1 hc2 => ?_⟩
  have hL0 : L0 = L.take m := hL0
  have hB0 : U.By L0 := hL0 ▸ by_take hB m
  have hlen : L0.length = m := by rw [hL0, List.length_take]; omega
  rw [← hL0] at hk
  refine ⟨⟨by omega, by omega, ⟨by decide, by omega⟩, by decide, by decide⟩, fun a3 e4 ha3 he4 => ?_⟩
  have ba3 := Rd.inA_bnd ha3 (by decide) (by omega)
  have ma3 : a3 % 8 = 0 := ha3 ▸ Rd.inA_mod (by decide) (by decide)
  refine ⟨⟨hB0, by omega, by omega, ba3, by decide, by decide⟩, fun z5 a6 e7 hz5 ha6 he7 z8 hz8 => ?_⟩
  have zb5 := Rd.inV8 hz5
  rw [wrapI64] at hz8
  obtain rfl : z8 = z5 := by omega
  have ba6 := Rd.inA_bnd ha6 (by decide) ba3
  have ma6 : a6 % 8 = 0 := ha6 ▸ Rd.inA_mod ma3 (by decide)
  intro va vb vc vd ve vf vg ea eb ec ed ee ef eg
  subst ea; subst eb; subst ec; subst ed; subst ee; subst ef; subst eg
  refine ⟨fun us => ?_, fun us => ?_⟩
  · revert hk; intro hk
    refine ⟨⟨hB0, by omega, by omega, ba6, wx_bd _⟩, fun zx a9 e9 hzx ha9 he9 => ?_⟩
    have ba9 := tkA_bd ha9 (wx_bd _).1 ba6
    have ma9 : a9 % 8 = 0 := ha9 ▸ tkA_mod ma6 (wx_8m _)
    intro zx' hzx'
    rw [wrapU32] at hzx'
    refine ⟨⟨hB0, by omega, by omega, ba9, wm_bd _⟩, fun zm a10 e10 hzm ha10 he10 => ?_⟩
    have ba10 := tkA_bd ha10 (wm_bd _).1 ba9
    have ma10 : a10 % 8 = 0 := ha10 ▸ tkA_mod ma9 (wm_8m _)
    refine ⟨⟨hB0, by omega, by omega, ba10, wi_bd _⟩, fun zi a11 e11 hzi ha11 he11 => ?_⟩
    have ba11 := tkA_bd ha11 (wi_bd _).1 ba10
    have ma11 : a11 % 8 = 0 := ha11 ▸ tkA_mod ma10 (wi_8m _)
    intro zi' hzi'
    rw [wrapU32] at hzi'
    refine ⟨⟨hB0, by omega, by omega, ba11, wt_bd _⟩, fun zt a12 e12 hzt ha12 he12 => ?_⟩
    have ba12 := tkA_bd ha12 (wt_bd _).1 ba11
    have ma12 : a12 % 8 = 0 := ha12 ▸ tkA_mod ma11 (wt_8m _)
    intro zt' hzt'
    rw [wrapI64] at hzt'
    refine ⟨⟨hB0, by omega, by omega, ba12, by decide, by decide⟩, fun z31 a32 e33 hz31 ha32 he33 z34 hz34 => ?_⟩
    have zb31 := Rd.inV8 hz31
    rw [wrapI64] at hz34
    obtain rfl : z34 = z31 := by omega
    have ba32 := Rd.inA_bnd ha32 (by decide) ba12
    have ma32 : a32 % 8 = 0 := ha32 ▸ Rd.inA_mod ma12 (by decide)
    refine ⟨⟨by omega, by omega, by omega, ba32, fun _ => ma32, by omega, by omega⟩, fun B k cb pb a39 e40 hB hkB hcb hpb ha39 he40 => ?_⟩
    have ba39 := Rd.inA_bnd ha39 (by omega) ba32
    have ma39 : a39 % 8 = 0 := ha39 ▸ Rd.inA_mod ma32 (by omega)
    have hBy := inB_bytes hB0 hB
    refine ⟨⟨by rw [hkB]; exact Nat.le_of_eq (Nat.zero_add _), ⟨all_bytes (fun x hx => hBy x (List.mem_of_mem_drop (List.mem_of_mem_take hx)))⟩⟩, fun l41 hl41 => ?_⟩
    have hl41 : l41 = B := by rw [hl41, hkB]; simp
    subst hl41
    refine ⟨⟨hB0, by omega, by omega, ba39, wn_bd _⟩, fun zn a13 e13 hzn ha13 he13 => ?_⟩
    have ba13 := tkA_bd ha13 (wn_bd _).1 ba39
    have ma13 : a13 % 8 = 0 := ha13 ▸ tkA_mod ma39 (wn_8m _)
    refine ⟨⟨hB0, by omega, by omega, ba13, wg_bd _⟩, fun zg a14 e14 hzg ha14 he14 => ?_⟩
    have ba14 := tkA_bd ha14 (wg_bd _).1 ba13
    have ma14 : a14 % 8 = 0 := ha14 ▸ tkA_mod ma13 (wg_8m _)
    refine ⟨⟨hB0, by omega, by omega, ba14, wy_bd _⟩, fun zy a15 e15 hzy ha15 he15 => ?_⟩
    have ba15 := tkA_bd ha15 (wy_bd _).1 ba14
    have ma15 : a15 % 8 = 0 := ha15 ▸ tkA_mod ma14 (wy_8m _)
    intro zy' hzy'
    rw [wrapI64] at hzy'
    refine hk z8 zx' zm zi' zt' zn zg zy' l41 (strC l41) (.inl rfl) (by omega) ?_ ?_
    · exact ⟨by omega, tkV_64 hzm (wm_bd _), by omega, by omega, tkV_64 hzn (wn_bd _), tkV_64 hzg (wg_bd _), by omega⟩
    · rintro kind' xid' mac' ip' ticks' nonce' tag' why' l' hM hK hW
      have hRk := (rest_kind hM hW).num (by decide) (by have := hM.fk; simp; omega)
      rw [← ha3, ← he4, ← hz5, ← ha6, ← he7] at hRk
      obtain ⟨hkk, hR⟩ := hRk
      subst hkk
      rw [usR_us us] at hR
      obtain ⟨k1, k2, k3, k4, k5, k6, k7⟩ := hK
      obtain ⟨qzx, hR⟩ := rest_put hR (wx_bd _).1 k1.1 hM.fx
      rw [← hzx] at qzx
      rw [← ha9, ← he9] at hR
      obtain ⟨qzm, hR⟩ := rest_put hR (wm_bd _).1 k2.1 hM.fm
      rw [← hzm] at qzm
      rw [← ha10, ← he10] at hR
      obtain ⟨qzi, hR⟩ := rest_put hR (wi_bd _).1 k3.1 hM.fi
      rw [← hzi] at qzi
      rw [← ha11, ← he11] at hR
      obtain ⟨qzt, hR⟩ := rest_put hR (wt_bd _).1 hM.ft.1 hM.ft.2
      rw [← hzt] at qzt
      rw [← ha12, ← he12] at hR
      have hN := hM.fu us
      have hNl := hN.len
      obtain ⟨ql, hR⟩ := hR.num (n := 8) (v := (l'.length : Int)) (by decide) (by simp; omega)
      rw [← hz31] at ql
      rw [← ha32, ← he33] at hR
      obtain ⟨qb, hR⟩ := hR.bytes ma32 (fun c hc => by obtain ⟨x, hx, rfl⟩ := List.mem_map.1 hc; have := nm_chars hN x hx; omega)
      rw [List.length_map, ← ql] at qb
      rw [List.length_map, ← ql, ← ha39, ← he40] at hR
      rw [← hB, nz_toNat (nm_chars hN)] at qb
      obtain ⟨qzn, hR⟩ := rest_put hR (wn_bd _).1 k5.1 hM.fn
      rw [← hzn] at qzn
      rw [← ha13, ← he13] at hR
      obtain ⟨qzg, hR⟩ := rest_put hR (wg_bd _).1 k6.1 hM.fg
      rw [← hzg] at qzg
      rw [← ha14, ← he14] at hR
      rw [← List.append_nil (U.putR (U.wy z8) why')] at hR
      obtain ⟨qzy, hR⟩ := rest_put hR (wy_bd _).1 hM.fy.1 hM.fy.2
      rw [← hzy] at qzy
      rw [← ha15, ← he15] at hR
      have ft := fit_small (by have := wt_40 z8; omega) hM.ft.2
      have fy := fit_small (by have := wy_8 z8; omega) hM.fy.2
      refine ⟨rfl, by omega, qzm, by omega, by omega, qzn, qzg, by omega, qb⟩
  · revert hk; intro hk
    refine ⟨⟨hB0, by omega, by omega, ba6, wx_bd _⟩, fun zx a9 e9 hzx ha9 he9 => ?_⟩
    have ba9 := tkA_bd ha9 (wx_bd _).1 ba6
    have ma9 : a9 % 8 = 0 := ha9 ▸ tkA_mod ma6 (wx_8m _)
    intro zx' hzx'
    rw [wrapU32] at hzx'
    refine ⟨⟨hB0, by omega, by omega, ba9, wm_bd _⟩, fun zm a10 e10 hzm ha10 he10 => ?_⟩
    have ba10 := tkA_bd ha10 (wm_bd _).1 ba9
    have ma10 : a10 % 8 = 0 := ha10 ▸ tkA_mod ma9 (wm_8m _)
    refine ⟨⟨hB0, by omega, by omega, ba10, wi_bd _⟩, fun zi a11 e11 hzi ha11 he11 => ?_⟩
    have ba11 := tkA_bd ha11 (wi_bd _).1 ba10
    have ma11 : a11 % 8 = 0 := ha11 ▸ tkA_mod ma10 (wi_8m _)
    intro zi' hzi'
    rw [wrapU32] at hzi'
    refine ⟨⟨hB0, by omega, by omega, ba11, wt_bd _⟩, fun zt a12 e12 hzt ha12 he12 => ?_⟩
    have ba12 := tkA_bd ha12 (wt_bd _).1 ba11
    have ma12 : a12 % 8 = 0 := ha12 ▸ tkA_mod ma11 (wt_8m _)
    intro zt' hzt'
    rw [wrapI64] at hzt'
    refine ⟨⟨hB0, by omega, by omega, ba12, wn_bd _⟩, fun zn a13 e13 hzn ha13 he13 => ?_⟩
    have ba13 := tkA_bd ha13 (wn_bd _).1 ba12
    have ma13 : a13 % 8 = 0 := ha13 ▸ tkA_mod ma12 (wn_8m _)
    refine ⟨⟨hB0, by omega, by omega, ba13, wg_bd _⟩, fun zg a14 e14 hzg ha14 he14 => ?_⟩
    have ba14 := tkA_bd ha14 (wg_bd _).1 ba13
    have ma14 : a14 % 8 = 0 := ha14 ▸ tkA_mod ma13 (wg_8m _)
    refine ⟨⟨hB0, by omega, by omega, ba14, wy_bd _⟩, fun zy a15 e15 hzy ha15 he15 => ?_⟩
    have ba15 := tkA_bd ha15 (wy_bd _).1 ba14
    have ma15 : a15 % 8 = 0 := ha15 ▸ tkA_mod ma14 (wy_8m _)
    intro zy' hzy'
    rw [wrapI64] at hzy'
    refine hk z8 zx' zm zi' zt' zn zg zy' [] (.inl (.string ⟨#[]⟩)) (.inr ⟨rfl, rfl⟩) (by omega) ?_ ?_
    · exact ⟨by omega, tkV_64 hzm (wm_bd _), by omega, by omega, tkV_64 hzn (wn_bd _), tkV_64 hzg (wg_bd _), by omega⟩
    · rintro kind' xid' mac' ip' ticks' nonce' tag' why' l' hM hK hW
      have hRk := (rest_kind hM hW).num (by decide) (by have := hM.fk; simp; omega)
      rw [← ha3, ← he4, ← hz5, ← ha6, ← he7] at hRk
      obtain ⟨hkk, hR⟩ := hRk
      subst hkk
      rw [usR_no us] at hR
      obtain ⟨k1, k2, k3, k4, k5, k6, k7⟩ := hK
      obtain ⟨qzx, hR⟩ := rest_put hR (wx_bd _).1 k1.1 hM.fx
      rw [← hzx] at qzx
      rw [← ha9, ← he9] at hR
      obtain ⟨qzm, hR⟩ := rest_put hR (wm_bd _).1 k2.1 hM.fm
      rw [← hzm] at qzm
      rw [← ha10, ← he10] at hR
      obtain ⟨qzi, hR⟩ := rest_put hR (wi_bd _).1 k3.1 hM.fi
      rw [← hzi] at qzi
      rw [← ha11, ← he11] at hR
      obtain ⟨qzt, hR⟩ := rest_put hR (wt_bd _).1 hM.ft.1 hM.ft.2
      rw [← hzt] at qzt
      rw [← ha12, ← he12] at hR
      obtain ⟨qzn, hR⟩ := rest_put hR (wn_bd _).1 k5.1 hM.fn
      rw [← hzn] at qzn
      rw [← ha13, ← he13] at hR
      obtain ⟨qzg, hR⟩ := rest_put hR (wg_bd _).1 k6.1 hM.fg
      rw [← hzg] at qzg
      rw [← ha14, ← he14] at hR
      rw [← List.append_nil (U.putR (U.wy z8) why')] at hR
      obtain ⟨qzy, hR⟩ := rest_put hR (wy_bd _).1 hM.fy.1 hM.fy.2
      rw [← hzy] at qzy
      rw [← ha15, ← he15] at hR
      have ft := fit_small (by have := wt_40 z8; omega) hM.ft.2
      have fy := fit_small (by have := wy_8 z8; omega) hM.fy.2
      refine ⟨rfl, by omega, qzm, by omega, by omega, qzn, qzg, by omega, (hM.fz us).symm⟩
end Go.Proofs.Ytfgnfnmbfkjnjaa
end

section
namespace Go.Proofs.Ytfgnfnmbfkjnjaa
open Go Reck
set_option linter.unusedVariables false
theorem calls_eqv {P : Program} {f : FuncId} {vs : Array Value} {w0 w : World} {e : Env} {K K' : AV → St → Prop}
    (h : Calls P f vs w fun en w' => ∃ x σ' e' v, en = .returned v ∧ e.le e' ∧ Reck.av e' x = some v ∧ Ok w0 e' σ' w' ∧ K' x σ')
    (hK : ∀ x σ', K' x σ' → ∃ y, (∀ e v, Reck.av e x = some v → Reck.av e y = some v) ∧ K y σ') :
    Calls P f vs w fun en w' => ∃ x σ' e' v, en = .returned v ∧ e.le e' ∧ Reck.av e' x = some v ∧ Ok w0 e' σ' w' ∧ K x σ' := by
  refine h.mono ?_
  rintro en w' ⟨x, σ', e', v, h1, h2, h3, h4, h5⟩
  obtain ⟨y, k1, k2⟩ := hK x σ' h5
  exact ⟨y, σ', e', v, h1, h2, k1 _ _ h3, h4, k2⟩
theorem msg_str {kind xid mac ip ticks nonce tag why : Int} {e : Env} {v : Value} (h : av e (msgA kind xid mac ip ticks (.inl (.string ⟨#[]⟩)) nonce tag why) = some v) : av e (msgA kind xid mac ip ticks (strC []) nonce tag why) = some v := by
  have e1 : Reck.cv e (strC []) = Reck.cv e (.inl (.string ⟨#[]⟩)) := by simp [strC, Reck.cv, strZ]
  simp only [msgA, av, v1, List.map_cons, List.map_nil] at h ⊢
  rw [e1]; exact h
def tWriteT : Tbl := fun f args σ => if f == 22 then match args, σ with
    | [.inl (.inr l)], ⟨[], [], 0, [], 0⟩ => match intsT l with
      | some ([kind, xid, mac, ip, ticks, nonce, tag, why], u) => some fun K => (U.TMay kind xid mac ip ticks nonce tag why u ∧ U.TKin xid mac ip ticks nonce tag why) ∧
          ∀ (L : List Int) (n c cap : Nat), U.TWr kind xid mac ip ticks nonce tag why u L → n = L.length → n ≤ 200 → n ≤ c → c ≤ cap → K (cell (aslC ⟨0, 0, n, c⟩)) (ar [bs L cap false])
      | _ => none
    | _, _ => none
  else none
theorem tWriteT_ok : TblOk Try.prog tWriteT := by
  intro f tm σ C h K hK
  unfold tWriteT at h
  split at h
  · rename_i hf
    obtain rfl : f = 22 := by simpa using hf
    split at h
    · split at h
      · rename_i kind xid mac ip ticks nonce tag why u hl
        simp only [Option.some.injEq] at h; subst h
        intro w0 en w hok vs hvs
        refine knownC noOv names (conOk_of tT7_ok) (write_run K kind xid mac ip ticks nonce tag why u hK.1.1 hK.1.2 (fun L c cap h1 h2 h3 h4 => hK.2 L _ c cap h1 rfl h2 h3 h4)) w0 en w hok vs ?_
        cases vs with
        | nil => simp at hvs
        | cons v vs =>
          simp only [List.map_cons, List.map_nil, List.cons.injEq] at hvs ⊢
          exact ⟨intsT_ok hl hvs.1, hvs.2⟩
      · cases h
    · cases h
  · cases h
def tReadT : Tbl := fun f args σ => if f == 29 then match args, σ with
    | [s], ⟨[], [], 0, [some ⟨5, .n .u8, L, cap, ro⟩], 0⟩ => match aslX s with
      | some ⟨0, 0, m, c⟩ => some fun K => (U.By L ∧ m ≤ L.length ∧ m ≤ 16777216) ∧
          ∀ (kind xid mac ip ticks nonce tag why : Int) (u L0 : List Int), L0 = L.take m → U.TRd kind xid mac ip ticks nonce tag why u L0 → K (msgA kind xid mac ip ticks (strC u) nonce tag why) (ar [bs L cap ro])
      | _ => none
    | _, _ => none
  else none
theorem tReadT_ok : TblOk Try.prog tReadT := by
  intro f tm σ C h K hK
  unfold tReadT at h
  split at h
  · rename_i hf
    obtain rfl : f = 29 := by simpa using hf
    split at h
    · rename_i s L cap ro
      split at h
      · rename_i m c hs
        obtain rfl := aslX_eq hs
        simp only [Option.some.injEq] at h; subst h
        obtain ⟨⟨h1, h2, h3⟩, hk⟩ := hK
        intro w0 en w hok vs hvs
        have key : ∀ {x : AV} {σ' : St}, (∃ (kind xid mac ip ticks nonce tag why : Int) (u : List Int) (uc : Cell), (uc = strC u ∨ (uc = .inl (.string ⟨#[]⟩) ∧ u = [])) ∧ U.TRd kind xid mac ip ticks nonce tag why u (L.take m) ∧ x = msgA kind xid mac ip ticks uc nonce tag why ∧ σ' = ar [bs L cap ro]) →
            ∃ y, (∀ e v, Reck.av e x = some v → Reck.av e y = some v) ∧ K y σ' := by
          rintro x σ' ⟨kind, xid, mac, ip, ticks, nonce, tag, why, u, uc, huc, hR, rfl, rfl⟩
          refine ⟨_, ?_, hk kind xid mac ip ticks nonce tag why u _ rfl hR⟩
          rcases huc with rfl | ⟨rfl, rfl⟩
          · exact fun _ _ h => h
          · exact fun _ _ h => msg_str h
        cases ro with
        | true => exact calls_eqv (knownC noOv names (conOk_of tT7_ok) (readT_run _ L m c cap h1 h2 h3 (fun kind xid mac ip ticks nonce tag why u uc g1 g2 g3 g4 => ⟨kind, xid, mac, ip, ticks, nonce, tag, why, u, uc, g1, ⟨g2, g3, g4⟩, rfl, rfl⟩)) w0 en w hok vs hvs) (fun x σ' => key)
        | false => exact calls_eqv (knownC noOv names (conOk_of tT7_ok) (readF_run _ L m c cap h1 h2 h3 (fun kind xid mac ip ticks nonce tag why u uc g1 g2 g3 g4 => ⟨kind, xid, mac, ip, ticks, nonce, tag, why, u, uc, g1, ⟨g2, g3, g4⟩, rfl, rfl⟩)) w0 en w hok vs hvs) (fun x σ' => key)
      · cases h
    · cases h
  · cases h
def tTA : Tbl := tblOr tWriteT (tblOr tReadT tT7)
theorem tTA_ok : TblOk Try.prog tTA := tblOr_ok tWriteT_ok (tblOr_ok tReadT_ok tT7_ok)
set_option maxRecDepth 100000
theorem encode_vc (K : AV → St → Prop) (kind xid mac ip ticks nonce tag why : Int) (l : List Int) : (runI inv0 tTA 8 [msgA kind xid mac ip ticks (strC l) nonce tag why] emptySt K) = (U.TKin xid mac ip ticks nonce tag why ∧ (U.TMay kind xid mac ip ticks nonce tag why l → (U.TMay kind xid mac ip ticks nonce tag why l ∧ U.TKin xid mac ip ticks nonce tag why) ∧ ∀ (L0 : List Int) (n1 c2 cap3 : Nat), U.TWr kind xid mac ip ticks nonce tag why l L0 → n1 = List.length L0 → n1 ≤ (200 : Nat) → n1 ≤ c2 → c2 ≤ cap3 → K (Sum.inr [Sum.inl (Sum.inr (Sum.inr (Sum.inr (Sum.inr (Sum.inr (Sum.inr (Sum.inr (Sum.inl { a := (0 : Nat), o := OfNat.ofNat (0 : Nat), n := n1, c := c2 })))))))), Sum.inl (Sum.inr (Sum.inr (Sum.inr (Sum.inr (Sum.inr (Sum.inr (Sum.inl (IntKind.i64, (0 : Int)))))))))]) { heap := [], ints := [], opqs := (0 : Nat), arrs := [some { elem := OfNat.ofNat (5 : Nat), k := AK.n IntKind.u8, l := L0, cap := cap3, ro := false }], junks := (0 : Nat) }) ∧ (¬U.TMay kind xid mac ip ticks nonce tag why l → K (Sum.inr [Sum.inl (Sum.inl (Value.slice none (0 : Nat) (0 : Nat))), Sum.inl (Sum.inr (Sum.inr (Sum.inr (Sum.inr (Sum.inr (Sum.inr (Sum.inl (IntKind.i64, (1 : Int)))))))))]) { heap := [], ints := [], opqs := (0 : Nat), arrs := [], junks := (0 : Nat) })) := by kernel_rfl
theorem parseT_vc (K : AV → St → Prop) (L : List Int) (m c cap : Nat) : (runI inv0 tTA 16 [cell (aslC ⟨0, 0, m, c⟩)] (ar [bs L cap true]) (opn K)) = ((U.By L ∧ m ≤ List.length L ∧ m ≤ (16777216 : Nat)) ∧ ∀ (kind0 xid1 mac2 ip3 ticks4 nonce5 tag6 why7 : Int) (u8 L09 : List Int), L09 = List.take m L → U.TRd kind0 xid1 mac2 ip3 ticks4 nonce5 tag6 why7 u8 L09 → U.TKin xid1 mac2 ip3 ticks4 nonce5 tag6 why7 ∧ (U.TMay kind0 xid1 mac2 ip3 ticks4 nonce5 tag6 why7 u8 → (U.TMay kind0 xid1 mac2 ip3 ticks4 nonce5 tag6 why7 u8 ∧ U.TKin xid1 mac2 ip3 ticks4 nonce5 tag6 why7) ∧ ∀ (L10 : List Int) (n11 c12 cap13 : Nat), U.TWr kind0 xid1 mac2 ip3 ticks4 nonce5 tag6 why7 u8 L10 → n11 = List.length L10 → n11 ≤ (200 : Nat) → n11 ≤ c12 → c12 ≤ cap13 → (Nat.le (OfNat.ofNat (0 : Nat) + n11) (List.length L10) ∧ ByteL (List.take n11 (List.drop (OfNat.ofNat (0 : Nat)) L10))) ∧ ∀ (l'14 : List Int), l'14 = List.take n11 (List.drop (OfNat.ofNat (0 : Nat)) L10) → (Nat.le (OfNat.ofNat (0 : Nat) + m) (List.length L) ∧ ByteL (List.take m (List.drop (OfNat.ofNat (0 : Nat)) L))) ∧ ∀ (l'15 : List Int), l'15 = List.take m (List.drop (OfNat.ofNat (0 : Nat)) L) → (l'14 = l'15 → K (Sum.inr [Sum.inr [Sum.inr (Sum.inr (Sum.inr (Sum.inr (Sum.inr (Sum.inr (Sum.inl (IntKind.i64, kind0))))))), Sum.inr (Sum.inr (Sum.inr (Sum.inr (Sum.inr (Sum.inr (Sum.inl (IntKind.u32, xid1))))))), Sum.inr (Sum.inr (Sum.inr (Sum.inr (Sum.inr (Sum.inr (Sum.inl (IntKind.u64, mac2))))))), Sum.inr (Sum.inr (Sum.inr (Sum.inr (Sum.inr (Sum.inr (Sum.inl (IntKind.u32, ip3))))))), Sum.inr (Sum.inr (Sum.inr (Sum.inr (Sum.inr (Sum.inr (Sum.inl (IntKind.i64, ticks4))))))), Sum.inr (Sum.inr (Sum.inr (Sum.inr (Sum.inr (Sum.inr (Sum.inr (Sum.inr (Sum.inr (Sum.inr u8))))))))), Sum.inr (Sum.inr (Sum.inr (Sum.inr (Sum.inr (Sum.inr (Sum.inl (IntKind.u64, nonce5))))))), Sum.inr (Sum.inr (Sum.inr (Sum.inr (Sum.inr (Sum.inr (Sum.inl (IntKind.u64, tag6))))))), Sum.inr (Sum.inr (Sum.inr (Sum.inr (Sum.inr (Sum.inr (Sum.inl (IntKind.i64, why7)))))))], Sum.inl (Sum.inr (Sum.inr (Sum.inr (Sum.inr (Sum.inr (Sum.inr (Sum.inl (IntKind.i64, (0 : Int)))))))))]) { heap := [], ints := [], opqs := (0 : Nat), arrs := [some { elem := OfNat.ofNat (5 : Nat), k := AK.n IntKind.u8, l := L, cap := cap, ro := true }], junks := (0 : Nat) }) ∧ (¬l'14 = l'15 → K (Sum.inr [Sum.inr [Sum.inr (Sum.inr (Sum.inr (Sum.inr (Sum.inr (Sum.inr (Sum.inl (IntKind.i64, (0 : Int)))))))), Sum.inr (Sum.inr (Sum.inr (Sum.inr (Sum.inr (Sum.inr (Sum.inl (IntKind.u32, (0 : Int)))))))), Sum.inr (Sum.inr (Sum.inr (Sum.inr (Sum.inr (Sum.inr (Sum.inl (IntKind.u64, (0 : Int)))))))), Sum.inr (Sum.inr (Sum.inr (Sum.inr (Sum.inr (Sum.inr (Sum.inl (IntKind.u32, (0 : Int)))))))), Sum.inr (Sum.inr (Sum.inr (Sum.inr (Sum.inr (Sum.inr (Sum.inl (IntKind.i64, (0 : Int)))))))), Sum.inl (Value.string { data := { toList := [] } }), Sum.inr (Sum.inr (Sum.inr (Sum.inr (Sum.inr (Sum.inr (Sum.inl (IntKind.u64, (0 : Int)))))))), Sum.inr (Sum.inr (Sum.inr (Sum.inr (Sum.inr (Sum.inr (Sum.inl (IntKind.u64, (0 : Int)))))))), Sum.inr (Sum.inr (Sum.inr (Sum.inr (Sum.inr (Sum.inr (Sum.inl (IntKind.i64, (0 : Int))))))))], Sum.inl (Sum.inr (Sum.inr (Sum.inr (Sum.inr (Sum.inr (Sum.inr (Sum.inl (IntKind.i64, (5 : Int)))))))))]) { heap := [], ints := [], opqs := (0 : Nat), arrs := [some { elem := OfNat.ofNat (5 : Nat), k := AK.n IntKind.u8, l := L, cap := cap, ro := true }], junks := (0 : Nat) })) ∧ (¬U.TMay kind0 xid1 mac2 ip3 ticks4 nonce5 tag6 why7 u8 → K (Sum.inr [Sum.inr [Sum.inr (Sum.inr (Sum.inr (Sum.inr (Sum.inr (Sum.inr (Sum.inl (IntKind.i64, (0 : Int)))))))), Sum.inr (Sum.inr (Sum.inr (Sum.inr (Sum.inr (Sum.inr (Sum.inl (IntKind.u32, (0 : Int)))))))), Sum.inr (Sum.inr (Sum.inr (Sum.inr (Sum.inr (Sum.inr (Sum.inl (IntKind.u64, (0 : Int)))))))), Sum.inr (Sum.inr (Sum.inr (Sum.inr (Sum.inr (Sum.inr (Sum.inl (IntKind.u32, (0 : Int)))))))), Sum.inr (Sum.inr (Sum.inr (Sum.inr (Sum.inr (Sum.inr (Sum.inl (IntKind.i64, (0 : Int)))))))), Sum.inl (Value.string { data := { toList := [] } }), Sum.inr (Sum.inr (Sum.inr (Sum.inr (Sum.inr (Sum.inr (Sum.inl (IntKind.u64, (0 : Int)))))))), Sum.inr (Sum.inr (Sum.inr (Sum.inr (Sum.inr (Sum.inr (Sum.inl (IntKind.u64, (0 : Int)))))))), Sum.inr (Sum.inr (Sum.inr (Sum.inr (Sum.inr (Sum.inr (Sum.inl (IntKind.i64, (0 : Int))))))))], Sum.inl (Sum.inr (Sum.inr (Sum.inr (Sum.inr (Sum.inr (Sum.inr (Sum.inl (IntKind.i64, (5 : Int)))))))))]) { heap := [], ints := [], opqs := (0 : Nat), arrs := [some { elem := OfNat.ofNat (5 : Nat), k := AK.n IntKind.u8, l := L, cap := cap, ro := true }], junks := (0 : Nat) })) := by kernel_rfl
theorem parseF_vc (K : AV → St → Prop) (L : List Int) (m c cap : Nat) : (runI inv0 tTA 16 [cell (aslC ⟨0, 0, m, c⟩)] (ar [bs L cap false]) (opn K)) = ((U.By L ∧ m ≤ List.length L ∧ m ≤ (16777216 : Nat)) ∧ ∀ (kind0 xid1 mac2 ip3 ticks4 nonce5 tag6 why7 : Int) (u8 L09 : List Int), L09 = List.take m L → U.TRd kind0 xid1 mac2 ip3 ticks4 nonce5 tag6 why7 u8 L09 → U.TKin xid1 mac2 ip3 ticks4 nonce5 tag6 why7 ∧ (U.TMay kind0 xid1 mac2 ip3 ticks4 nonce5 tag6 why7 u8 → (U.TMay kind0 xid1 mac2 ip3 ticks4 nonce5 tag6 why7 u8 ∧ U.TKin xid1 mac2 ip3 ticks4 nonce5 tag6 why7) ∧ ∀ (L10 : List Int) (n11 c12 cap13 : Nat), U.TWr kind0 xid1 mac2 ip3 ticks4 nonce5 tag6 why7 u8 L10 → n11 = List.length L10 → n11 ≤ (200 : Nat) → n11 ≤ c12 → c12 ≤ cap13 → (Nat.le (OfNat.ofNat (0 : Nat) + n11) (List.length L10) ∧ ByteL (List.take n11 (List.drop (OfNat.ofNat (0 : Nat)) L10))) ∧ ∀ (l'14 : List Int), l'14 = List.take n11 (List.drop (OfNat.ofNat (0 : Nat)) L10) → (Nat.le (OfNat.ofNat (0 : Nat) + m) (List.length L) ∧ ByteL (List.take m (List.drop (OfNat.ofNat (0 : Nat)) L))) ∧ ∀ (l'15 : List Int), l'15 = List.take m (List.drop (OfNat.ofNat (0 : Nat)) L) → (l'14 = l'15 → K (Sum.inr [Sum.inr [Sum.inr (Sum.inr (Sum.inr (Sum.inr (Sum.inr (Sum.inr (Sum.inl (IntKind.i64, kind0))))))), Sum.inr (Sum.inr (Sum.inr (Sum.inr (Sum.inr (Sum.inr (Sum.inl (IntKind.u32, xid1))))))), Sum.inr (Sum.inr (Sum.inr (Sum.inr (Sum.inr (Sum.inr (Sum.inl (IntKind.u64, mac2))))))), Sum.inr (Sum.inr (Sum.inr (Sum.inr (Sum.inr (Sum.inr (Sum.inl (IntKind.u32, ip3))))))), Sum.inr (Sum.inr (Sum.inr (Sum.inr (Sum.inr (Sum.inr (Sum.inl (IntKind.i64, ticks4))))))), Sum.inr (Sum.inr (Sum.inr (Sum.inr (Sum.inr (Sum.inr (Sum.inr (Sum.inr (Sum.inr (Sum.inr u8))))))))), Sum.inr (Sum.inr (Sum.inr (Sum.inr (Sum.inr (Sum.inr (Sum.inl (IntKind.u64, nonce5))))))), Sum.inr (Sum.inr (Sum.inr (Sum.inr (Sum.inr (Sum.inr (Sum.inl (IntKind.u64, tag6))))))), Sum.inr (Sum.inr (Sum.inr (Sum.inr (Sum.inr (Sum.inr (Sum.inl (IntKind.i64, why7)))))))], Sum.inl (Sum.inr (Sum.inr (Sum.inr (Sum.inr (Sum.inr (Sum.inr (Sum.inl (IntKind.i64, (0 : Int)))))))))]) { heap := [], ints := [], opqs := (0 : Nat), arrs := [some { elem := OfNat.ofNat (5 : Nat), k := AK.n IntKind.u8, l := L, cap := cap, ro := false }], junks := (0 : Nat) }) ∧ (¬l'14 = l'15 → K (Sum.inr [Sum.inr [Sum.inr (Sum.inr (Sum.inr (Sum.inr (Sum.inr (Sum.inr (Sum.inl (IntKind.i64, (0 : Int)))))))), Sum.inr (Sum.inr (Sum.inr (Sum.inr (Sum.inr (Sum.inr (Sum.inl (IntKind.u32, (0 : Int)))))))), Sum.inr (Sum.inr (Sum.inr (Sum.inr (Sum.inr (Sum.inr (Sum.inl (IntKind.u64, (0 : Int)))))))), Sum.inr (Sum.inr (Sum.inr (Sum.inr (Sum.inr (Sum.inr (Sum.inl (IntKind.u32, (0 : Int)))))))), Sum.inr (Sum.inr (Sum.inr (Sum.inr (Sum.inr (Sum.inr (Sum.inl (IntKind.i64, (0 : Int)))))))), Sum.inl (Value.string { data := { toList := [] } }), Sum.inr (Sum.inr (Sum.inr (Sum.inr (Sum.inr (Sum.inr (Sum.inl (IntKind.u64, (0 : Int)))))))), Sum.inr (Sum.inr (Sum.inr (Sum.inr (Sum.inr (Sum.inr (Sum.inl (IntKind.u64, (0 : Int)))))))), Sum.inr (Sum.inr (Sum.inr (Sum.inr (Sum.inr (Sum.inr (Sum.inl (IntKind.i64, (0 : Int))))))))], Sum.inl (Sum.inr (Sum.inr (Sum.inr (Sum.inr (Sum.inr (Sum.inr (Sum.inl (IntKind.i64, (5 : Int)))))))))]) { heap := [], ints := [], opqs := (0 : Nat), arrs := [some { elem := OfNat.ofNat (5 : Nat), k := AK.n IntKind.u8, l := L, cap := cap, ro := false }], junks := (0 : Nat) })) ∧ (¬U.TMay kind0 xid1 mac2 ip3 ticks4 nonce5 tag6 why7 u8 → K (Sum.inr [Sum.inr [Sum.inr (Sum.inr (Sum.inr (Sum.inr (Sum.inr (Sum.inr (Sum.inl (IntKind.i64, (0 : Int)))))))), Sum.inr (Sum.inr (Sum.inr (Sum.inr (Sum.inr (Sum.inr (Sum.inl (IntKind.u32, (0 : Int)))))))), Sum.inr (Sum.inr (Sum.inr (Sum.inr (Sum.inr (Sum.inr (Sum.inl (IntKind.u64, (0 : Int)))))))), Sum.inr (Sum.inr (Sum.inr (Sum.inr (Sum.inr (Sum.inr (Sum.inl (IntKind.u32, (0 : Int)))))))), Sum.inr (Sum.inr (Sum.inr (Sum.inr (Sum.inr (Sum.inr (Sum.inl (IntKind.i64, (0 : Int)))))))), Sum.inl (Value.string { data := { toList := [] } }), Sum.inr (Sum.inr (Sum.inr (Sum.inr (Sum.inr (Sum.inr (Sum.inl (IntKind.u64, (0 : Int)))))))), Sum.inr (Sum.inr (Sum.inr (Sum.inr (Sum.inr (Sum.inr (Sum.inl (IntKind.u64, (0 : Int)))))))), Sum.inr (Sum.inr (Sum.inr (Sum.inr (Sum.inr (Sum.inr (Sum.inl (IntKind.i64, (0 : Int))))))))], Sum.inl (Sum.inr (Sum.inr (Sum.inr (Sum.inr (Sum.inr (Sum.inr (Sum.inl (IntKind.i64, (5 : Int)))))))))]) { heap := [], ints := [], opqs := (0 : Nat), arrs := [some { elem := OfNat.ofNat (5 : Nat), k := AK.n IntKind.u8, l := L, cap := cap, ro := false }], junks := (0 : Nat) })) := by kernel_rfl
end Go.Proofs.Ytfgnfnmbfkjnjaa
end

section
set_option linter.unusedVariables false
set_option linter.unusedSimpArgs false
namespace Go.Proofs.Ytfgnfnmbfkjnjaa
open Go Reck

def msgL (kind xid mac ip ticks : Int) (u : Cell) (nonce tag why : Int) : List Cell := [xintC .i64 kind, xintC .u32 xid, xintC .u64 mac, xintC .u32 ip, xintC .i64 ticks, u, xintC .u64 nonce, xintC .u64 tag, xintC .i64 why]
def msg0 : List Cell := msgL 0 0 0 0 0 (.inl (.string ⟨#[]⟩)) 0 0 0
def paT (l : List Cell) (e : Int) : AV := .inr [.inr l, .inl (xintC .i64 e)]
/-- They are a message's bytes. -/
structure U.TIs (L : List Int) : Prop where
  out : ∃ (kind xid mac ip ticks nonce tag why : Int) (l : List Int), U.TMay kind xid mac ip ticks nonce tag why l ∧ U.TKin xid mac ip ticks nonce tag why ∧ U.TWr kind xid mac ip ticks nonce tag why l L
theorem out_by' {L : List Int} {N : Int} {l : List Bool} (h : U.Out L N l) : U.By L := by
  obtain ⟨cs, h1, h2, _⟩ := h
  exact ⟨cs, h1, h2.1⟩
theorem by_mem {L : List Int} (h : U.By L) : ∀ x ∈ L, 0 ≤ x ∧ x < 256 := by
  obtain ⟨cs, rfl, hc⟩ := h
  intro x hx
  obtain ⟨c, hc', rfl⟩ := List.mem_map.1 hx
  have := hc c hc'
  omega
theorem twr_det {kind xid mac ip ticks nonce tag why : Int} {l L L' : List Int} (h : U.TWr kind xid mac ip ticks nonce tag why l L) (h' : U.TWr kind xid mac ip ticks nonce tag why l L') : L = L' := by
  obtain ⟨N, cs, e1, p1, _⟩ := h
  obtain ⟨N', cs', e2, p2, _⟩ := h'
  rw [e1, e2, p1.eq p2]
theorem encode_run (K : AV → St → Prop) (kind xid mac ip ticks nonce tag why : Int) (l : List Int) (hK : U.TKin xid mac ip ticks nonce tag why)
    (h1 : U.TMay kind xid mac ip ticks nonce tag why l → ∀ (L : List Int) (n c cap : Nat), U.TWr kind xid mac ip ticks nonce tag why l L → n = L.length → n ≤ 200 → n ≤ c → c ≤ cap → K (.inr [.inl (aslC ⟨0, 0, n, c⟩), .inl (xintC .i64 0)]) (ar [bs L cap false]))
    (h2 : ¬ U.TMay kind xid mac ip ticks nonce tag why l → K (.inr [.inl (.inl (.slice none 0 0)), .inl (xintC .i64 1)]) emptySt) : runI inv0 tTA 8 [msgA kind xid mac ip ticks (strC l) nonce tag why] emptySt K := by
  rw [encode_vc]
  exact ⟨hK, fun hM => ⟨⟨hM, hK⟩, fun L n c cap q1 q2 q3 q4 q5 => h1 hM L n c cap q1 q2 q3 q4 q5⟩, fun hM => h2 hM⟩
theorem parseT_run (K : AV → St → Prop) (L : List Int) (m c cap : Nat) (hB : U.By L) (hm : m ≤ L.length) (hm2 : m ≤ 16777216)
    (h1 : ∀ (kind xid mac ip ticks nonce tag why : Int) (u : List Int), U.TMay kind xid mac ip ticks nonce tag why u → U.TKin xid mac ip ticks nonce tag why → U.TWr kind xid mac ip ticks nonce tag why u (L.take m) → K (paT (msgL kind xid mac ip ticks (strC u) nonce tag why) 0) (ar [bs L cap true]))
    (h2 : ¬ U.TIs (L.take m) → K (paT msg0 5) (ar [bs L cap true])) : runI inv0 tTA 16 [cell (aslC ⟨0, 0, m, c⟩)] (ar [bs L cap true]) (opn K) := by
  rw [parseT_vc]
  refine ⟨⟨hB, hm, hm2⟩, fun kind xid mac ip ticks nonce tag why u L0 hL0 hR => ⟨hR.kin, fun hM => ⟨⟨hM, hR.kin⟩, fun W n cw pw hW hn hn2 hcw hpw => ?_⟩, fun hM => h2 ?_⟩⟩
  · have hWb : U.By W := by obtain ⟨N, hN⟩ := hW; exact out_by' hN
    refine ⟨⟨by show 0 + n ≤ W.length; omega, ⟨all_bytes (by_mem (by_take hWb _))⟩⟩, fun l1 e1 => ⟨⟨by show 0 + m ≤ L.length; omega, ⟨all_bytes (by_mem (by_take hB _))⟩⟩, fun l2 e2 => ⟨fun he => ?_, fun hne => h2 ?_⟩⟩⟩
    · have ew : W = L.take m := by
        have q1 : l1 = W := by rw [e1, hn]; exact List.take_length
        have q2 : l2 = L.take m := e2
        rw [← q1, he, q2]
      exact h1 kind xid mac ip ticks nonce tag why u hM hR.kin (ew ▸ hW)
    · rintro ⟨kind', xid', mac', ip', ticks', nonce', tag', why', l', hM', hK', hW'⟩
      obtain ⟨rfl, rfl, rfl, rfl, rfl, rfl, rfl, rfl, rfl⟩ := hR.uni _ _ _ _ _ _ _ _ _ hM' hK' (hL0 ▸ hW')
      have ew := twr_det hW hW'
      have q1 : l1 = W := by rw [e1, hn]; exact List.take_length
      have q2 : l2 = L.take m := e2
      exact hne (by rw [q1, q2, ew])
  · rintro ⟨kind', xid', mac', ip', ticks', nonce', tag', why', l', hM', hK', hW'⟩
    obtain ⟨rfl, rfl, rfl, rfl, rfl, rfl, rfl, rfl, rfl⟩ := hR.uni _ _ _ _ _ _ _ _ _ hM' hK' (hL0 ▸ hW')
    exact hM hM'
theorem parseF_run (K : AV → St → Prop) (L : List Int) (m c cap : Nat) (hB : U.By L) (hm : m ≤ L.length) (hm2 : m ≤ 16777216)
    (h1 : ∀ (kind xid mac ip ticks nonce tag why : Int) (u : List Int), U.TMay kind xid mac ip ticks nonce tag why u → U.TKin xid mac ip ticks nonce tag why → U.TWr kind xid mac ip ticks nonce tag why u (L.take m) → K (paT (msgL kind xid mac ip ticks (strC u) nonce tag why) 0) (ar [bs L cap false]))
    (h2 : ¬ U.TIs (L.take m) → K (paT msg0 5) (ar [bs L cap false])) : runI inv0 tTA 16 [cell (aslC ⟨0, 0, m, c⟩)] (ar [bs L cap false]) (opn K) := by
  rw [parseF_vc]
  refine ⟨⟨hB, hm, hm2⟩, fun kind xid mac ip ticks nonce tag why u L0 hL0 hR => ⟨hR.kin, fun hM => ⟨⟨hM, hR.kin⟩, fun W n cw pw hW hn hn2 hcw hpw => ?_⟩, fun hM => h2 ?_⟩⟩
  · have hWb : U.By W := by obtain ⟨N, hN⟩ := hW; exact out_by' hN
    refine ⟨⟨by show 0 + n ≤ W.length; omega, ⟨all_bytes (by_mem (by_take hWb _))⟩⟩, fun l1 e1 => ⟨⟨by show 0 + m ≤ L.length; omega, ⟨all_bytes (by_mem (by_take hB _))⟩⟩, fun l2 e2 => ⟨fun he => ?_, fun hne => h2 ?_⟩⟩⟩
    · have ew : W = L.take m := by
        have q1 : l1 = W := by rw [e1, hn]; exact List.take_length
        have q2 : l2 = L.take m := e2
        rw [← q1, he, q2]
      exact h1 kind xid mac ip ticks nonce tag why u hM hR.kin (ew ▸ hW)
    · rintro ⟨kind', xid', mac', ip', ticks', nonce', tag', why', l', hM', hK', hW'⟩
      obtain ⟨rfl, rfl, rfl, rfl, rfl, rfl, rfl, rfl, rfl⟩ := hR.uni _ _ _ _ _ _ _ _ _ hM' hK' (hL0 ▸ hW')
      have ew := twr_det hW hW'
      have q1 : l1 = W := by rw [e1, hn]; exact List.take_length
      have q2 : l2 = L.take m := e2
      exact hne (by rw [q1, q2, ew])
  · rintro ⟨kind', xid', mac', ip', ticks', nonce', tag', why', l', hM', hK', hW'⟩
    obtain ⟨rfl, rfl, rfl, rfl, rfl, rfl, rfl, rfl, rfl⟩ := hR.uni _ _ _ _ _ _ _ _ _ hM' hK' (hL0 ▸ hW')
    exact hM hM'

def tEncodeT : Tbl := fun f args σ => if f == 8 then match args, σ with
    | [.inl (.inr l)], ⟨[], [], 0, [], 0⟩ => match intsT l with
      | some ([kind, xid, mac, ip, ticks, nonce, tag, why], u) => some fun K => U.TKin xid mac ip ticks nonce tag why ∧
          (U.TMay kind xid mac ip ticks nonce tag why u → ∀ (L : List Int) (n c cap : Nat), U.TWr kind xid mac ip ticks nonce tag why u L → n = L.length → n ≤ 200 → n ≤ c → c ≤ cap → K (.inr [.inl (aslC ⟨0, 0, n, c⟩), .inl (xintC .i64 0)]) (ar [bs L cap false])) ∧
          (¬ U.TMay kind xid mac ip ticks nonce tag why u → K (.inr [.inl (.inl (.slice none 0 0)), .inl (xintC .i64 1)]) emptySt)
      | _ => none
    | _, _ => none
  else none
theorem tEncodeT_ok : TblOk Try.prog tEncodeT := by
  intro f tm σ C h K hK
  unfold tEncodeT at h
  split at h
  · rename_i hf
    obtain rfl : f = 8 := by simpa using hf
    split at h
    · split at h
      · rename_i kind xid mac ip ticks nonce tag why u hl
        simp only [Option.some.injEq] at h; subst h
        intro w0 en w hok vs hvs
        refine knownC noOv names (conOk_of tTA_ok) (encode_run K kind xid mac ip ticks nonce tag why u hK.1 hK.2.1 hK.2.2) w0 en w hok vs ?_
        cases vs with
        | nil => simp at hvs
        | cons v vs =>
          simp only [List.map_cons, List.map_nil, List.cons.injEq] at hvs ⊢
          exact ⟨intsT_ok hl hvs.1, hvs.2⟩
      · cases h
    · cases h
  · cases h
def tParseT : Tbl := fun f args σ => if f == 16 then match args, σ with
    | [s], ⟨[], [], 0, [some ⟨5, .n .u8, L, cap, ro⟩], 0⟩ => match aslX s with
      | some ⟨0, 0, m, c⟩ => some fun K => (U.By L ∧ m ≤ L.length ∧ m ≤ 16777216) ∧ ∀ L0 : List Int, L0 = L.take m →
          (∀ (kind xid mac ip ticks nonce tag why : Int) (u : List Int), U.TMay kind xid mac ip ticks nonce tag why u → U.TKin xid mac ip ticks nonce tag why → U.TWr kind xid mac ip ticks nonce tag why u L0 → K (paT (msgL kind xid mac ip ticks (strC u) nonce tag why) 0) (ar [bs L cap ro])) ∧
          (¬ U.TIs L0 → K (paT msg0 5) (ar [bs L cap ro]))
      | _ => none
    | _, _ => none
  else none
theorem tParseT_ok : TblOk Try.prog tParseT := by
  intro f tm σ C h K hK
  unfold tParseT at h
  split at h
  · rename_i hf
    obtain rfl : f = 16 := by simpa using hf
    split at h
    · rename_i s L cap ro
      split at h
      · rename_i m c hs
        obtain rfl := aslX_eq hs
        simp only [Option.some.injEq] at h; subst h
        obtain ⟨⟨h1, h2, h3⟩, hk⟩ := hK
        have hk := hk _ rfl
        intro w0 en w hok vs hvs
        cases ro with
        | true => exact calls_open (knownC noOv names (conOk_of tTA_ok) (parseT_run K L m c cap h1 h2 h3 hk.1 hk.2) w0 en w hok vs hvs)
        | false => exact calls_open (knownC noOv names (conOk_of tTA_ok) (parseF_run K L m c cap h1 h2 h3 hk.1 hk.2) w0 en w hok vs hvs)
      · cases h
    · cases h
  · cases h
def tTB : Tbl := tblOr tEncodeT (tblOr tParseT tTA)
theorem tTB_ok : TblOk Try.prog tTB := tblOr_ok tEncodeT_ok (tblOr_ok tParseT_ok tTA_ok)
end Go.Proofs.Ytfgnfnmbfkjnjaa
end
