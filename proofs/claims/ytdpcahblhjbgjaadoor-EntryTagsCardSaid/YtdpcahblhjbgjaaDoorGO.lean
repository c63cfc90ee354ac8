/- Parts of a proof, one behind the other: E17d E20. No condition. -/
import Derived.Test.YtdpcahblhjbgjaaDoorGM
import Derived.Test.YtdpcahblhjbgjaaDoorGN
import Derived.Test.YtdpcahblhjbgjaaDoorGK
section
namespace Go.Proofs.YtdpcahblhjbgjaaDoor
open Go Reck Ost
set_option linter.unusedVariables false
set_option maxRecDepth 100000
--PLAIN
theorem tagsd_vc (p a b c d x s t : Int) (o ep i h bo us tag born now : Int) : (runTags false false 4 [.inl (.inr (eC p a b c d x s t false false o ep i h bo us)), xi .i64 tag, xi .i64 born, xi .i64 now]) = (∀ (z0 : Int), z0 = (1 : Int) → ∀ (z1 : Int), z1 = andI IntKind.i64 born (549755813887 : Int) → ∀ (z2 : Int), z2 = andI IntKind.i64 now (549755813887 : Int) → ∃ (y3 : Prs), ((U.pow = U.pow ∧ (0 : Nat) = (0 : Nat) ∧ (0 : Nat) = (0 : Nat) ∧ (0 : Nat) = (0 : Nat)) ∧ U.shI (0 : Nat) (0 : Nat) U.nilL (0 : Nat) U.nilL y3 ∧ (0 : Nat) ≤ (100000 : Nat) ∧ U.KK a b c d x s t ∧ (-9223372036854775808 : Int) ≤ p ∧ p ≤ (9223372036854775807 : Int)) ∧ (¬U.May p a b c d x s t o i h → (¬(1 : Int) = (0 : Int) → (U.May p a b c d x s t o i h → Err [(200 : Nat)]) ∧ (¬U.May p a b c d x s t o i h → U.pow = U.pow ∧ True)) ∧ (¬¬(1 : Int) = (0 : Int) → ∃ (y4 : Prs), ((U.pow = U.pow ∧ (0 : Nat) = (0 : Nat) ∧ (0 : Nat) = (0 : Nat) ∧ (0 : Nat) = (0 : Nat)) ∧ U.shI (0 : Nat) (0 : Nat) U.nilL (0 : Nat) U.nilL y4 ∧ (0 : Nat) ≤ (100000 : Nat) ∧ U.KK a b c d x s t ∧ (-9223372036854775808 : Int) ≤ p ∧ p ≤ (9223372036854775807 : Int)) ∧ ∃ (y5 : Int), ∃ (y6 : Int), ∃ (y7 : Int), ∃ (y8 : Int), ∃ (y9 : Int), ∃ (y10 : Int), ∃ (y11 : Int), ∃ (y12 : Int), ∃ (y13 : Int), ∃ (y14 : Int), ∃ (y15 : Int), ∃ (y16 : Int), ∃ (y17 : Int), ∃ (y18 : Int), U.HasE y4 (U.txt p a b c d x s t) y5 y6 y7 y8 y9 y10 y11 y12 false false y13 y14 y15 y16 y17 y18 ∧ (U.Is tag z2 false y14 y15 y16 y17 y18 → ∀ (L'19 : Rws) (n'20 c''21 : Nat) (M'22 : Rws) (d''23 : Nat) (P'24 : Prs), n'20 = U.len P'24 → U.Put y4 (U.txt p a b c d x s t) { p := y5, a := y6, b := y7, c := y8, d := y9, x := y10, s := y11, t := y12, en := false, la := false, o := y13, ep := y14, i := y15, h := y16, bo := y17, us := z2 } P'24 → U.shI n'20 c''21 L'19 d''23 M'22 P'24 → ∀ (z25 : Int), z25 = IntKind.wrap IntKind.i64 (z2 - z1) → (z25 < h → ∀ (z26 : Int), z26 = IntKind.wrap IntKind.i64 (z2 - z1) → (z26 < i → ((0 : Int) ≤ tag → ∀ (z27 : Int), z27 = IntKind.wrap IntKind.i64 ep → (tag = z27 → (y13 = o → (z2 = z2 → U.pow = U.pow ∧ True) ∧ (¬z2 = z2 → Err [(200 : Nat)])) ∧ (¬y13 = o → Err [(200 : Nat)])) ∧ (¬tag = z27 → Err [(200 : Nat)])) ∧ (¬(0 : Int) ≤ tag → Err [(200 : Nat)])) ∧ (¬z26 < i → (i = (0 : Int) → ((0 : Int) ≤ tag → ∀ (z28 : Int), z28 = IntKind.wrap IntKind.i64 ep → (tag = z28 → (y13 = o → (z2 = z2 → U.pow = U.pow ∧ True) ∧ (¬z2 = z2 → Err [(200 : Nat)])) ∧ (¬y13 = o → Err [(200 : Nat)])) ∧ (¬tag = z28 → Err [(200 : Nat)])) ∧ (¬(0 : Int) ≤ tag → Err [(200 : Nat)])) ∧ (¬i = (0 : Int) → Err [(200 : Nat)]))) ∧ (¬z25 < h → (h = (0 : Int) → ∀ (z29 : Int), z29 = IntKind.wrap IntKind.i64 (z2 - z1) → (z29 < i → ((0 : Int) ≤ tag → ∀ (z30 : Int), z30 = IntKind.wrap IntKind.i64 ep → (tag = z30 → (y13 = o → (z2 = z2 → U.pow = U.pow ∧ True) ∧ (¬z2 = z2 → Err [(200 : Nat)])) ∧ (¬y13 = o → Err [(200 : Nat)])) ∧ (¬tag = z30 → Err [(200 : Nat)])) ∧ (¬(0 : Int) ≤ tag → Err [(200 : Nat)])) ∧ (¬z29 < i → (i = (0 : Int) → ((0 : Int) ≤ tag → ∀ (z31 : Int), z31 = IntKind.wrap IntKind.i64 ep → (tag = z31 → (y13 = o → (z2 = z2 → U.pow = U.pow ∧ True) ∧ (¬z2 = z2 → Err [(200 : Nat)])) ∧ (¬y13 = o → Err [(200 : Nat)])) ∧ (¬tag = z31 → Err [(200 : Nat)])) ∧ (¬(0 : Int) ≤ tag → Err [(200 : Nat)])) ∧ (¬i = (0 : Int) → Err [(200 : Nat)]))) ∧ (¬h = (0 : Int) → Err [(200 : Nat)]))) ∧ (¬U.Is tag z2 false y14 y15 y16 y17 y18 → ∀ (z32 : Int), z32 = IntKind.wrap IntKind.i64 (z2 - z1) → (z32 < h → ∀ (z33 : Int), z33 = IntKind.wrap IntKind.i64 (z2 - z1) → (z33 < i → ((0 : Int) ≤ tag → ∀ (z34 : Int), z34 = IntKind.wrap IntKind.i64 ep → (tag = z34 → Err [(200 : Nat)]) ∧ (¬tag = z34 → U.pow = U.pow ∧ True)) ∧ (¬(0 : Int) ≤ tag → U.pow = U.pow ∧ True)) ∧ (¬z33 < i → (i = (0 : Int) → ((0 : Int) ≤ tag → ∀ (z35 : Int), z35 = IntKind.wrap IntKind.i64 ep → (tag = z35 → Err [(200 : Nat)]) ∧ (¬tag = z35 → U.pow = U.pow ∧ True)) ∧ (¬(0 : Int) ≤ tag → U.pow = U.pow ∧ True)) ∧ (¬i = (0 : Int) → U.pow = U.pow ∧ True))) ∧ (¬z32 < h → (h = (0 : Int) → ∀ (z36 : Int), z36 = IntKind.wrap IntKind.i64 (z2 - z1) → (z36 < i → ((0 : Int) ≤ tag → ∀ (z37 : Int), z37 = IntKind.wrap IntKind.i64 ep → (tag = z37 → Err [(200 : Nat)]) ∧ (¬tag = z37 → U.pow = U.pow ∧ True)) ∧ (¬(0 : Int) ≤ tag → U.pow = U.pow ∧ True)) ∧ (¬z36 < i → (i = (0 : Int) → ((0 : Int) ≤ tag → ∀ (z38 : Int), z38 = IntKind.wrap IntKind.i64 ep → (tag = z38 → Err [(200 : Nat)]) ∧ (¬tag = z38 → U.pow = U.pow ∧ True)) ∧ (¬(0 : Int) ≤ tag → U.pow = U.pow ∧ True)) ∧ (¬i = (0 : Int) → U.pow = U.pow ∧ True))) ∧ (¬h = (0 : Int) → U.pow = U.pow ∧ True))))) ∧ (U.May p a b c d x s t o i h → (¬U.Room y3 (U.txt p a b c d x s t) z0 → (¬(4 : Int) = (0 : Int) → (U.May p a b c d x s t o i h → Err [(200 : Nat)]) ∧ (¬U.May p a b c d x s t o i h → U.pow = U.pow ∧ True)) ∧ (¬¬(4 : Int) = (0 : Int) → ∃ (y39 : Prs), ((U.pow = U.pow ∧ (0 : Nat) = (0 : Nat) ∧ (0 : Nat) = (0 : Nat) ∧ (0 : Nat) = (0 : Nat)) ∧ U.shI (0 : Nat) (0 : Nat) U.nilL (0 : Nat) U.nilL y39 ∧ (0 : Nat) ≤ (100000 : Nat) ∧ U.KK a b c d x s t ∧ (-9223372036854775808 : Int) ≤ p ∧ p ≤ (9223372036854775807 : Int)) ∧ ∃ (y40 : Int), ∃ (y41 : Int), ∃ (y42 : Int), ∃ (y43 : Int), ∃ (y44 : Int), ∃ (y45 : Int), ∃ (y46 : Int), ∃ (y47 : Int), ∃ (y48 : Int), ∃ (y49 : Int), ∃ (y50 : Int), ∃ (y51 : Int), ∃ (y52 : Int), ∃ (y53 : Int), U.HasE y39 (U.txt p a b c d x s t) y40 y41 y42 y43 y44 y45 y46 y47 false false y48 y49 y50 y51 y52 y53 ∧ (U.Is tag z2 false y49 y50 y51 y52 y53 → ∀ (L'54 : Rws) (n'55 c''56 : Nat) (M'57 : Rws) (d''58 : Nat) (P'59 : Prs), n'55 = U.len P'59 → U.Put y39 (U.txt p a b c d x s t) { p := y40, a := y41, b := y42, c := y43, d := y44, x := y45, s := y46, t := y47, en := false, la := false, o := y48, ep := y49, i := y50, h := y51, bo := y52, us := z2 } P'59 → U.shI n'55 c''56 L'54 d''58 M'57 P'59 → ∀ (z60 : Int), z60 = IntKind.wrap IntKind.i64 (z2 - z1) → (z60 < h → ∀ (z61 : Int), z61 = IntKind.wrap IntKind.i64 (z2 - z1) → (z61 < i → ((0 : Int) ≤ tag → ∀ (z62 : Int), z62 = IntKind.wrap IntKind.i64 ep → (tag = z62 → (y48 = o → (z2 = z2 → U.pow = U.pow ∧ True) ∧ (¬z2 = z2 → Err [(200 : Nat)])) ∧ (¬y48 = o → Err [(200 : Nat)])) ∧ (¬tag = z62 → Err [(200 : Nat)])) ∧ (¬(0 : Int) ≤ tag → Err [(200 : Nat)])) ∧ (¬z61 < i → (i = (0 : Int) → ((0 : Int) ≤ tag → ∀ (z63 : Int), z63 = IntKind.wrap IntKind.i64 ep → (tag = z63 → (y48 = o → (z2 = z2 → U.pow = U.pow ∧ True) ∧ (¬z2 = z2 → Err [(200 : Nat)])) ∧ (¬y48 = o → Err [(200 : Nat)])) ∧ (¬tag = z63 → Err [(200 : Nat)])) ∧ (¬(0 : Int) ≤ tag → Err [(200 : Nat)])) ∧ (¬i = (0 : Int) → Err [(200 : Nat)]))) ∧ (¬z60 < h → (h = (0 : Int) → ∀ (z64 : Int), z64 = IntKind.wrap IntKind.i64 (z2 - z1) → (z64 < i → ((0 : Int) ≤ tag → ∀ (z65 : Int), z65 = IntKind.wrap IntKind.i64 ep → (tag = z65 → (y48 = o → (z2 = z2 → U.pow = U.pow ∧ True) ∧ (¬z2 = z2 → Err [(200 : Nat)])) ∧ (¬y48 = o → Err [(200 : Nat)])) ∧ (¬tag = z65 → Err [(200 : Nat)])) ∧ (¬(0 : Int) ≤ tag → Err [(200 : Nat)])) ∧ (¬z64 < i → (i = (0 : Int) → ((0 : Int) ≤ tag → ∀ (z66 : Int), z66 = IntKind.wrap IntKind.i64 ep → (tag = z66 → (y48 = o → (z2 = z2 → U.pow = U.pow ∧ True) ∧ (¬z2 = z2 → Err [(200 : Nat)])) ∧ (¬y48 = o → Err [(200 : Nat)])) ∧ (¬tag = z66 → Err [(200 : Nat)])) ∧ (¬(0 : Int) ≤ tag → Err [(200 : Nat)])) ∧ (¬i = (0 : Int) → Err [(200 : Nat)]))) ∧ (¬h = (0 : Int) → Err [(200 : Nat)]))) ∧ (¬U.Is tag z2 false y49 y50 y51 y52 y53 → ∀ (z67 : Int), z67 = IntKind.wrap IntKind.i64 (z2 - z1) → (z67 < h → ∀ (z68 : Int), z68 = IntKind.wrap IntKind.i64 (z2 - z1) → (z68 < i → ((0 : Int) ≤ tag → ∀ (z69 : Int), z69 = IntKind.wrap IntKind.i64 ep → (tag = z69 → Err [(200 : Nat)]) ∧ (¬tag = z69 → U.pow = U.pow ∧ True)) ∧ (¬(0 : Int) ≤ tag → U.pow = U.pow ∧ True)) ∧ (¬z68 < i → (i = (0 : Int) → ((0 : Int) ≤ tag → ∀ (z70 : Int), z70 = IntKind.wrap IntKind.i64 ep → (tag = z70 → Err [(200 : Nat)]) ∧ (¬tag = z70 → U.pow = U.pow ∧ True)) ∧ (¬(0 : Int) ≤ tag → U.pow = U.pow ∧ True)) ∧ (¬i = (0 : Int) → U.pow = U.pow ∧ True))) ∧ (¬z67 < h → (h = (0 : Int) → ∀ (z71 : Int), z71 = IntKind.wrap IntKind.i64 (z2 - z1) → (z71 < i → ((0 : Int) ≤ tag → ∀ (z72 : Int), z72 = IntKind.wrap IntKind.i64 ep → (tag = z72 → Err [(200 : Nat)]) ∧ (¬tag = z72 → U.pow = U.pow ∧ True)) ∧ (¬(0 : Int) ≤ tag → U.pow = U.pow ∧ True)) ∧ (¬z71 < i → (i = (0 : Int) → ((0 : Int) ≤ tag → ∀ (z73 : Int), z73 = IntKind.wrap IntKind.i64 ep → (tag = z73 → Err [(200 : Nat)]) ∧ (¬tag = z73 → U.pow = U.pow ∧ True)) ∧ (¬(0 : Int) ≤ tag → U.pow = U.pow ∧ True)) ∧ (¬i = (0 : Int) → U.pow = U.pow ∧ True))) ∧ (¬h = (0 : Int) → U.pow = U.pow ∧ True))))) ∧ (U.Room y3 (U.txt p a b c d x s t) z0 → ∀ (L'74 : Rws) (n'75 c'76 : Nat) (M'77 : Rws) (d'78 : Nat) (P'79 : Prs), n'75 = U.len P'79 → U.Put y3 (U.txt p a b c d x s t) { p := p, a := a, b := b, c := c, d := d, x := x, s := s, t := t, en := false, la := false, o := o, ep := ep, i := i, h := h, bo := z1, us := z1 } P'79 → U.shI n'75 c'76 L'74 d'78 M'77 P'79 → (¬(0 : Int) = (0 : Int) → (U.May p a b c d x s t o i h → Err [(200 : Nat)]) ∧ (¬U.May p a b c d x s t o i h → U.pow = U.pow ∧ True)) ∧ (¬¬(0 : Int) = (0 : Int) → ∃ (y80 : Prs), ((U.pow = U.pow ∧ c'76 = c'76 ∧ d'78 = d'78 ∧ n'75 = n'75) ∧ U.shI n'75 c'76 L'74 d'78 M'77 y80 ∧ n'75 ≤ (100000 : Nat) ∧ U.KK a b c d x s t ∧ (-9223372036854775808 : Int) ≤ p ∧ p ≤ (9223372036854775807 : Int)) ∧ ∃ (y81 : Int), ∃ (y82 : Int), ∃ (y83 : Int), ∃ (y84 : Int), ∃ (y85 : Int), ∃ (y86 : Int), ∃ (y87 : Int), ∃ (y88 : Int), ∃ (y89 : Int), ∃ (y90 : Int), ∃ (y91 : Int), ∃ (y92 : Int), ∃ (y93 : Int), ∃ (y94 : Int), U.HasE y80 (U.txt p a b c d x s t) y81 y82 y83 y84 y85 y86 y87 y88 false false y89 y90 y91 y92 y93 y94 ∧ (U.Is tag z2 false y90 y91 y92 y93 y94 → ∀ (L'95 : Rws) (n'96 c''97 : Nat) (M'98 : Rws) (d''99 : Nat) (P'100 : Prs), n'96 = U.len P'100 → U.Put y80 (U.txt p a b c d x s t) { p := y81, a := y82, b := y83, c := y84, d := y85, x := y86, s := y87, t := y88, en := false, la := false, o := y89, ep := y90, i := y91, h := y92, bo := y93, us := z2 } P'100 → U.shI n'96 c''97 L'95 d''99 M'98 P'100 → ∀ (z101 : Int), z101 = IntKind.wrap IntKind.i64 (z2 - z1) → (z101 < h → ∀ (z102 : Int), z102 = IntKind.wrap IntKind.i64 (z2 - z1) → (z102 < i → ((0 : Int) ≤ tag → ∀ (z103 : Int), z103 = IntKind.wrap IntKind.i64 ep → (tag = z103 → (y89 = o → (z2 = z2 → U.pow = U.pow ∧ True) ∧ (¬z2 = z2 → Err [(200 : Nat)])) ∧ (¬y89 = o → Err [(200 : Nat)])) ∧ (¬tag = z103 → Err [(200 : Nat)])) ∧ (¬(0 : Int) ≤ tag → Err [(200 : Nat)])) ∧ (¬z102 < i → (i = (0 : Int) → ((0 : Int) ≤ tag → ∀ (z104 : Int), z104 = IntKind.wrap IntKind.i64 ep → (tag = z104 → (y89 = o → (z2 = z2 → U.pow = U.pow ∧ True) ∧ (¬z2 = z2 → Err [(200 : Nat)])) ∧ (¬y89 = o → Err [(200 : Nat)])) ∧ (¬tag = z104 → Err [(200 : Nat)])) ∧ (¬(0 : Int) ≤ tag → Err [(200 : Nat)])) ∧ (¬i = (0 : Int) → Err [(200 : Nat)]))) ∧ (¬z101 < h → (h = (0 : Int) → ∀ (z105 : Int), z105 = IntKind.wrap IntKind.i64 (z2 - z1) → (z105 < i → ((0 : Int) ≤ tag → ∀ (z106 : Int), z106 = IntKind.wrap IntKind.i64 ep → (tag = z106 → (y89 = o → (z2 = z2 → U.pow = U.pow ∧ True) ∧ (¬z2 = z2 → Err [(200 : Nat)])) ∧ (¬y89 = o → Err [(200 : Nat)])) ∧ (¬tag = z106 → Err [(200 : Nat)])) ∧ (¬(0 : Int) ≤ tag → Err [(200 : Nat)])) ∧ (¬z105 < i → (i = (0 : Int) → ((0 : Int) ≤ tag → ∀ (z107 : Int), z107 = IntKind.wrap IntKind.i64 ep → (tag = z107 → (y89 = o → (z2 = z2 → U.pow = U.pow ∧ True) ∧ (¬z2 = z2 → Err [(200 : Nat)])) ∧ (¬y89 = o → Err [(200 : Nat)])) ∧ (¬tag = z107 → Err [(200 : Nat)])) ∧ (¬(0 : Int) ≤ tag → Err [(200 : Nat)])) ∧ (¬i = (0 : Int) → Err [(200 : Nat)]))) ∧ (¬h = (0 : Int) → Err [(200 : Nat)]))) ∧ (¬U.Is tag z2 false y90 y91 y92 y93 y94 → ∀ (z108 : Int), z108 = IntKind.wrap IntKind.i64 (z2 - z1) → (z108 < h → ∀ (z109 : Int), z109 = IntKind.wrap IntKind.i64 (z2 - z1) → (z109 < i → ((0 : Int) ≤ tag → ∀ (z110 : Int), z110 = IntKind.wrap IntKind.i64 ep → (tag = z110 → Err [(200 : Nat)]) ∧ (¬tag = z110 → U.pow = U.pow ∧ True)) ∧ (¬(0 : Int) ≤ tag → U.pow = U.pow ∧ True)) ∧ (¬z109 < i → (i = (0 : Int) → ((0 : Int) ≤ tag → ∀ (z111 : Int), z111 = IntKind.wrap IntKind.i64 ep → (tag = z111 → Err [(200 : Nat)]) ∧ (¬tag = z111 → U.pow = U.pow ∧ True)) ∧ (¬(0 : Int) ≤ tag → U.pow = U.pow ∧ True)) ∧ (¬i = (0 : Int) → U.pow = U.pow ∧ True))) ∧ (¬z108 < h → (h = (0 : Int) → ∀ (z112 : Int), z112 = IntKind.wrap IntKind.i64 (z2 - z1) → (z112 < i → ((0 : Int) ≤ tag → ∀ (z113 : Int), z113 = IntKind.wrap IntKind.i64 ep → (tag = z113 → Err [(200 : Nat)]) ∧ (¬tag = z113 → U.pow = U.pow ∧ True)) ∧ (¬(0 : Int) ≤ tag → U.pow = U.pow ∧ True)) ∧ (¬z112 < i → (i = (0 : Int) → ((0 : Int) ≤ tag → ∀ (z114 : Int), z114 = IntKind.wrap IntKind.i64 ep → (tag = z114 → Err [(200 : Nat)]) ∧ (¬tag = z114 → U.pow = U.pow ∧ True)) ∧ (¬(0 : Int) ≤ tag → U.pow = U.pow ∧ True)) ∧ (¬i = (0 : Int) → U.pow = U.pow ∧ True))) ∧ (¬h = (0 : Int) → U.pow = U.pow ∧ True))))))) := by kernel_rfl
end Go.Proofs.YtdpcahblhjbgjaaDoor
end

section
set_option linter.unusedVariables false
set_option linter.unusedSimpArgs false
set_option maxRecDepth 10000
namespace Go.Proofs.YtdpcahblhjbgjaaDoor
open Go Reck Ost
theorem and39 (x : Int) : 0 ≤ andI .i64 x 549755813887 ∧ andI .i64 x 549755813887 ≤ 549755813887 := by
  have h : (BitVec.ofInt 64 x &&& BitVec.ofInt 64 549755813887).toNat ≤ 549755813887 := by
    rw [BitVec.toNat_and]
    exact Nat.le_trans Nat.and_le_right (by decide)
  unfold andI
  show 0 ≤ IntKind.i64.wrap ((BitVec.ofInt 64 x &&& BitVec.ofInt 64 549755813887).toNat : Int) ∧ IntKind.i64.wrap ((BitVec.ofInt 64 x &&& BitVec.ofInt 64 549755813887).toNat : Int) ≤ 549755813887
  rw [IntWalk.i64_in _ (by omega)]
  omega
theorem over_iff {i h z1 z2 : Int} (hw : IntKind.wrap .i64 (z2 - z1) = z2 - z1) : U.Over i h z1 z1 z2 ↔ (¬ h = 0 ∧ h ≤ z2 - z1) ∨ (¬ i = 0 ∧ i ≤ z2 - z1) := by
  constructor
  · rintro ⟨hx⟩; rw [hw] at hx; exact hx
  · intro hx; exact ⟨by rw [hw]; exact hx⟩
set_option maxHeartbeats 4000000 in
theorem tagsa_run (p a b c d x s t o ep i h bo us tag born now : Int) (kk : U.KK a b c d x s t) (hp : -9223372036854775808 ≤ p ∧ p ≤ 9223372036854775807) (hep : 0 ≤ ep ∧ ep ≤ 4294967295) : runTags true true 4 [.inl (.inr (eC p a b c d x s t true true o ep i h bo us)), xi .i64 tag, xi .i64 born, xi .i64 now] := by
  rw [tagsa_vc]
  rintro z0 rfl z1 h1 z2 h2
  have b1 := and39 born
  have b2 := and39 now
  rw [← h1] at b1
  rw [← h2] at b2
  clear h1 h2
  have hw : IntKind.wrap .i64 (z2 - z1) = z2 - z1 := IntWalk.i64_in _ (by omega)
  have hw2 : IntKind.wrap .i64 ep = ep := IntWalk.i64_in _ (by omega)
  refine ⟨[], ⟨⟨rfl, rfl, rfl, rfl⟩, shI_0, by omega, kk, hp⟩, fun hno => ⟨fun _ => ⟨fun h => absurd h hno, fun _ => ⟨rfl, trivial⟩⟩, fun h => absurd (by decide) h⟩, fun hm => ⟨fun hr => (hr ⟨.inr (by decide)⟩).elim, fun hr L n cc M dd P7 e3 p7 i7 => ⟨fun h => absurd rfl h, fun _ => ?_⟩⟩⟩
  obtain ⟨l7, m7⟩ := put_0 p7
  have hi := hm.i
  have hh := hm.h
  refine ⟨P7, ⟨⟨rfl, rfl, rfl, rfl⟩, i7, by omega, kk, hp⟩, p, a, b, c, d, x, s, t, o, ep, i, h, z1, z1, ⟨(m7 _ _).2 ⟨rfl, rfl⟩⟩, fun hit L' n' c' M' d' P' e4 p4 i4 => ?_, fun hno => ?_⟩
  · have f1 : tag = -1 := hit.fit
    have f2 : ¬ ((¬ h = 0 ∧ h ≤ z2 - z1) ∨ (¬ i = 0 ∧ i ≤ z2 - z1)) := fun hx => hit.over ((over_iff hw).2 hx)
    clear hit p4 i4 p7 i7 m7 e3 e4 l7
    simp only [hw, hw2] at f1 ⊢
    repeat' (first | with_reducible apply And.intro | intro _)
    all_goals (first | exact rfl | exact trivial | exact absurd trivial (by assumption) | (exfalso; omega))
  · have f : ¬ (tag = -1 ∧ ¬ ((¬ h = 0 ∧ h ≤ z2 - z1) ∨ (¬ i = 0 ∧ i ≤ z2 - z1))) := fun hx => hno ⟨hx.1, fun ho => hx.2 ((over_iff hw).1 ho)⟩
    clear hno p7 i7 m7 e3 l7
    simp only [hw, hw2] at f ⊢
    repeat' (first | with_reducible apply And.intro | intro _)
    all_goals (first | exact rfl | exact trivial | exact absurd trivial (by assumption) | (exfalso; omega))
set_option maxHeartbeats 4000000 in
theorem tagsb_run (p a b c d x s t o ep i h bo us tag born now : Int) (kk : U.KK a b c d x s t) (hp : -9223372036854775808 ≤ p ∧ p ≤ 9223372036854775807) (hep : 0 ≤ ep ∧ ep ≤ 4294967295) : runTags true false 4 [.inl (.inr (eC p a b c d x s t true false o ep i h bo us)), xi .i64 tag, xi .i64 born, xi .i64 now] := by
  rw [tagsb_vc]
  rintro z0 rfl z1 h1 z2 h2
  have b1 := and39 born
  have b2 := and39 now
  rw [← h1] at b1
  rw [← h2] at b2
  clear h1 h2
  have hw : IntKind.wrap .i64 (z2 - z1) = z2 - z1 := IntWalk.i64_in _ (by omega)
  have hw2 : IntKind.wrap .i64 ep = ep := IntWalk.i64_in _ (by omega)
  refine ⟨[], ⟨⟨rfl, rfl, rfl, rfl⟩, shI_0, by omega, kk, hp⟩, fun hno => ⟨fun _ => ⟨fun h => absurd h hno, fun _ => ⟨rfl, trivial⟩⟩, fun h => absurd (by decide) h⟩, fun hm => ⟨fun hr => (hr ⟨.inr (by decide)⟩).elim, fun hr L n cc M dd P7 e3 p7 i7 => ⟨fun h => absurd rfl h, fun _ => ?_⟩⟩⟩
  obtain ⟨l7, m7⟩ := put_0 p7
  have hi := hm.i
  have hh := hm.h
  refine ⟨P7, ⟨⟨rfl, rfl, rfl, rfl⟩, i7, by omega, kk, hp⟩, p, a, b, c, d, x, s, t, o, ep, i, h, z1, z1, ⟨(m7 _ _).2 ⟨rfl, rfl⟩⟩, fun hit L' n' c' M' d' P' e4 p4 i4 => ?_, fun hno => ?_⟩
  · have f1 : tag = -1 := hit.fit
    have f2 : ¬ ((¬ h = 0 ∧ h ≤ z2 - z1) ∨ (¬ i = 0 ∧ i ≤ z2 - z1)) := fun hx => hit.over ((over_iff hw).2 hx)
    clear hit p4 i4 p7 i7 m7 e3 e4 l7
    simp only [hw, hw2] at f1 ⊢
    repeat' (first | with_reducible apply And.intro | intro _)
    all_goals (first | exact rfl | exact trivial | exact absurd trivial (by assumption) | (exfalso; omega))
  · have f : ¬ (tag = -1 ∧ ¬ ((¬ h = 0 ∧ h ≤ z2 - z1) ∨ (¬ i = 0 ∧ i ≤ z2 - z1))) := fun hx => hno ⟨hx.1, fun ho => hx.2 ((over_iff hw).1 ho)⟩
    clear hno p7 i7 m7 e3 l7
    simp only [hw, hw2] at f ⊢
    repeat' (first | with_reducible apply And.intro | intro _)
    all_goals (first | exact rfl | exact trivial | exact absurd trivial (by assumption) | (exfalso; omega))
set_option maxHeartbeats 4000000 in
theorem tagsc_run (p a b c d x s t o ep i h bo us tag born now : Int) (kk : U.KK a b c d x s t) (hp : -9223372036854775808 ≤ p ∧ p ≤ 9223372036854775807) (hep : 0 ≤ ep ∧ ep ≤ 4294967295) : runTags false true 4 [.inl (.inr (eC p a b c d x s t false true o ep i h bo us)), xi .i64 tag, xi .i64 born, xi .i64 now] := by
  rw [tagsc_vc]
  rintro z0 rfl z1 h1 z2 h2
  have b1 := and39 born
  have b2 := and39 now
  rw [← h1] at b1
  rw [← h2] at b2
  clear h1 h2
  have hw : IntKind.wrap .i64 (z2 - z1) = z2 - z1 := IntWalk.i64_in _ (by omega)
  have hw2 : IntKind.wrap .i64 ep = ep := IntWalk.i64_in _ (by omega)
  refine ⟨[], ⟨⟨rfl, rfl, rfl, rfl⟩, shI_0, by omega, kk, hp⟩, fun hno => ⟨fun _ => ⟨fun h => absurd h hno, fun _ => ⟨rfl, trivial⟩⟩, fun h => absurd (by decide) h⟩, fun hm => ⟨fun hr => (hr ⟨.inr (by decide)⟩).elim, fun hr L n cc M dd P7 e3 p7 i7 => ⟨fun h => absurd rfl h, fun _ => ?_⟩⟩⟩
  obtain ⟨l7, m7⟩ := put_0 p7
  have hi := hm.i
  have hh := hm.h
  refine ⟨P7, ⟨⟨rfl, rfl, rfl, rfl⟩, i7, by omega, kk, hp⟩, p, a, b, c, d, x, s, t, o, ep, i, h, z1, z1, ⟨(m7 _ _).2 ⟨rfl, rfl⟩⟩, fun hit L' n' c' M' d' P' e4 p4 i4 => ?_, fun hno => ?_⟩
  · have f1 : tag = IntKind.wrap .i64 ep := hit.fit
    have f2 : ¬ ((¬ h = 0 ∧ h ≤ z2 - z1) ∨ (¬ i = 0 ∧ i ≤ z2 - z1)) := fun hx => hit.over ((over_iff hw).2 hx)
    clear hit p4 i4 p7 i7 m7 e3 e4 l7
    simp only [hw, hw2] at f1 ⊢
    repeat' (first | with_reducible apply And.intro | intro _)
    all_goals (first | exact rfl | exact trivial | exact absurd trivial (by assumption) | (exfalso; omega))
  · have f : ¬ (tag = IntKind.wrap .i64 ep ∧ ¬ ((¬ h = 0 ∧ h ≤ z2 - z1) ∨ (¬ i = 0 ∧ i ≤ z2 - z1))) := fun hx => hno ⟨hx.1, fun ho => hx.2 ((over_iff hw).1 ho)⟩
    clear hno p7 i7 m7 e3 l7
    simp only [hw, hw2] at f ⊢
    repeat' (first | with_reducible apply And.intro | intro _)
    all_goals (first | exact rfl | exact trivial | exact absurd trivial (by assumption) | (exfalso; omega))
set_option maxHeartbeats 4000000 in
theorem tagsd_run (p a b c d x s t o ep i h bo us tag born now : Int) (kk : U.KK a b c d x s t) (hp : -9223372036854775808 ≤ p ∧ p ≤ 9223372036854775807) (hep : 0 ≤ ep ∧ ep ≤ 4294967295) : runTags false false 4 [.inl (.inr (eC p a b c d x s t false false o ep i h bo us)), xi .i64 tag, xi .i64 born, xi .i64 now] := by
  rw [tagsd_vc]
  rintro z0 rfl z1 h1 z2 h2
  have b1 := and39 born
  have b2 := and39 now
  rw [← h1] at b1
  rw [← h2] at b2
  clear h1 h2
  have hw : IntKind.wrap .i64 (z2 - z1) = z2 - z1 := IntWalk.i64_in _ (by omega)
  have hw2 : IntKind.wrap .i64 ep = ep := IntWalk.i64_in _ (by omega)
  refine ⟨[], ⟨⟨rfl, rfl, rfl, rfl⟩, shI_0, by omega, kk, hp⟩, fun hno => ⟨fun _ => ⟨fun h => absurd h hno, fun _ => ⟨rfl, trivial⟩⟩, fun h => absurd (by decide) h⟩, fun hm => ⟨fun hr => (hr ⟨.inr (by decide)⟩).elim, fun hr L n cc M dd P7 e3 p7 i7 => ⟨fun h => absurd rfl h, fun _ => ?_⟩⟩⟩
  obtain ⟨l7, m7⟩ := put_0 p7
  have hi := hm.i
  have hh := hm.h
  refine ⟨P7, ⟨⟨rfl, rfl, rfl, rfl⟩, i7, by omega, kk, hp⟩, p, a, b, c, d, x, s, t, o, ep, i, h, z1, z1, ⟨(m7 _ _).2 ⟨rfl, rfl⟩⟩, fun hit L' n' c' M' d' P' e4 p4 i4 => ?_, fun hno => ?_⟩
  · have f1 : tag = IntKind.wrap .i64 ep := hit.fit
    have f2 : ¬ ((¬ h = 0 ∧ h ≤ z2 - z1) ∨ (¬ i = 0 ∧ i ≤ z2 - z1)) := fun hx => hit.over ((over_iff hw).2 hx)
    clear hit p4 i4 p7 i7 m7 e3 e4 l7
    simp only [hw, hw2] at f1 ⊢
    repeat' (first | with_reducible apply And.intro | intro _)
    all_goals (first | exact rfl | exact trivial | exact absurd trivial (by assumption) | (exfalso; omega))
  · have f : ¬ (tag = IntKind.wrap .i64 ep ∧ ¬ ((¬ h = 0 ∧ h ≤ z2 - z1) ∨ (¬ i = 0 ∧ i ≤ z2 - z1))) := fun hx => hno ⟨hx.1, fun ho => hx.2 ((over_iff hw).1 ho)⟩
    clear hno p7 i7 m7 e3 l7
    simp only [hw, hw2] at f ⊢
    repeat' (first | with_reducible apply And.intro | intro _)
    all_goals (first | exact rfl | exact trivial | exact absurd trivial (by assumption) | (exfalso; omega))
theorem tag_wf {n : Int} (h : (Lit.int .i64 n).wf = true) : True := trivial
theorem entryTags_walk (e : En) (tag born now : Int) (w : World) (he : e.ok w) (ht : (Lit.int .i64 tag).wf = true) (hb : (Lit.int .i64 born).wf = true) (hn : (Lit.int .i64 now).wf = true) (h : GlobIs w 0 U.pow) : Calls Tryd.prog 4 #[e.val, .int .i64 tag, .int .i64 born, .int .i64 now] w fun en w' => en = .returned (.bool true) ∧ Only (fun _ => False) w w' := by
  have ke := en_kin he
  obtain ⟨p, a, b, c, d, x, s, t, en, la, o, ep, i, h', bo, us⟩ := e
  obtain ⟨kk, hp, hep, _⟩ := ke
  have hvs : ∀ (en la : Bool), [.inl (.inr (eC p a b c d x s t en la o ep i h' bo us)), xi .i64 tag, xi .i64 born, xi .i64 now].map (Reck.av (arE [.inr (0, 0)])) = [(⟨p, a, b, c, d, x, s, t, en, la, o, ep, i, h', bo, us⟩ : En).val, .int .i64 tag, .int .i64 born, .int .i64 now].map some := fun _ _ => rfl
  cases en <;> cases la
  · exact true_ok (ovs_of noOv) (names_of names) (opMV_ok ovIs) (conOk_ofR (tTags_ok false false)) (tagsd_run p a b c d x s t o ep i h' bo us tag born now kk hp hep) (ok_pow h) (hvs false false)
  · exact true_ok (ovs_of noOv) (names_of names) (opMV_ok ovIs) (conOk_ofR (tTags_ok false true)) (tagsc_run p a b c d x s t o ep i h' bo us tag born now kk hp hep) (ok_pow h) (hvs false true)
  · exact true_ok (ovs_of noOv) (names_of names) (opMV_ok ovIs) (conOk_ofR (tTags_ok true false)) (tagsb_run p a b c d x s t o ep i h' bo us tag born now kk hp hep) (ok_pow h) (hvs true false)
  · exact true_ok (ovs_of noOv) (names_of names) (opMV_ok ovIs) (conOk_ofR (tTags_ok true true)) (tagsa_run p a b c d x s t o ep i h' bo us tag born now kk hp hep) (ok_pow h) (hvs true true)
end Go.Proofs.YtdpcahblhjbgjaaDoor
end
