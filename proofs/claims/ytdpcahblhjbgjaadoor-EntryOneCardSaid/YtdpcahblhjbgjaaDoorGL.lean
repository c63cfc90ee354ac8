/- Parts of a proof, one behind the other: E18 E19. No condition. -/
import Derived.Test.YtdpcahblhjbgjaaDoorGK
section
namespace Go.Proofs.YtdpcahblhjbgjaaDoor
open Go Reck Ost
set_option linter.unusedVariables false
set_option maxRecDepth 100000
/-- The first entry (at 5), for which there is room; another one (at 6). Both may be. -/
def pAddO : Pat := fun args σ => match args with
  | [.inl (.inl (.inr (.inl (0, 0)))), .inl (.inr l), now] => match eX l, intX now, tbX σ with
    | some e, some (.i64, now), some (n, c, L, d, M, m, vs) => if decide (now = 5) then
        some fun K => ∃ P, (tbY σ vs ∧ U.shI n c L d M P ∧ n ≤ 100000 ∧ U.KK e.a e.b e.c e.d e.x e.s e.t ∧ U.May e.p e.a e.b e.c e.d e.x e.s e.t e.o e.i e.h ∧ U.Room P (U.txt e.p e.a e.b e.c e.d e.x e.s e.t) m) ∧
          ∀ (L' : Rws) (n' c' : Nat) (M' : Rws) (d' : Nat) (P' : Prs), n' = U.len P' → U.Put P (U.txt e.p e.a e.b e.c e.d e.x e.s e.t) ⟨e.p, e.a, e.b, e.c, e.d, e.x, e.s, e.t, e.en, e.la, e.o, e.ep, e.i, e.h, now, now⟩ P' → U.shI n' c' L' d' M' P' → K (xi .i64 0) (tbNw n' c' L' d' M' m)
      else some fun K => ∃ P, (tbY σ vs ∧ U.shI n c L d M P ∧ n ≤ 100000 ∧ U.KK e.a e.b e.c e.d e.x e.s e.t ∧ U.May e.p e.a e.b e.c e.d e.x e.s e.t e.o e.i e.h) ∧
          (¬ U.Room P (U.txt e.p e.a e.b e.c e.d e.x e.s e.t) m → K (xi .i64 4) (tbSt n c L d M m)) ∧
          (U.Room P (U.txt e.p e.a e.b e.c e.d e.x e.s e.t) m → ∀ (L' : Rws) (n' c' : Nat) (M' : Rws) (d' : Nat) (P' : Prs), n' = U.len P' → U.Put P (U.txt e.p e.a e.b e.c e.d e.x e.s e.t) ⟨e.p, e.a, e.b, e.c, e.d, e.x, e.s, e.t, e.en, e.la, e.o, e.ep, e.i, e.h, now, now⟩ P' → U.shI n' c' L' d' M' P' → K (xi .i64 0) (tbNw n' c' L' d' M' m))
    | _, _, _ => none
  | _ => none
theorem pAddO_ok : PatOk 16 pAddO := by
  intro tm σ C h K hK w0 e w hk vs hvs
  unfold pAddO at h
  split at h
  · split at h
    · rename_i hl hn hσ
      split at h
      · simp only [Option.some.injEq] at h; subst h
        obtain ⟨P, ⟨hy, h1, h2, h3, h4, h5⟩, h6⟩ := hK
        obtain rfl := tbX_eq hσ hy
        obtain rfl := eX_eq hl
        obtain ⟨x, y, z, rfl, q1, q2, q3⟩ := threes hvs
        have hp := h4.p
        exact knownD noOv names (opMV_ok ovIs) (conOk_ofR tEnt_ok) (addr_run K _ _ _ _ _ _ _ _ P h1 h2 h3 (by omega) (fun a => (a h4).elim) (fun _ b => (b h5).elim) (fun _ _ => h6)) w0 e w hk _ (three_map q1 q2 (as_int hn q3))
      · simp only [Option.some.injEq] at h; subst h
        obtain ⟨P, ⟨hy, h1, h2, h3, h4⟩, h5, h6⟩ := hK
        obtain rfl := tbX_eq hσ hy
        obtain rfl := eX_eq hl
        obtain ⟨x, y, z, rfl, q1, q2, q3⟩ := threes hvs
        have hp := h4.p
        exact knownD noOv names (opMV_ok ovIs) (conOk_ofR tEnt_ok) (addr_run K _ _ _ _ _ _ _ _ P h1 h2 h3 (by omega) (fun a => (a h4).elim) (fun _ b => h5 b) (fun _ b => h6 b)) w0 e w hk _ (three_map q1 q2 (as_int hn q3))
    · cases h
  · cases h
def tOne : Tbl := tblOr tAw (tblOr (tblIf 16 pAddO) tEnt)
theorem tOne_ok : TblOk Tryd.prog tOne := tblOr_ok tAw_ok (tblOr_ok (tblIf_ok pAddO_ok) tEnt_ok)
abbrev runOne (f : Nat) (args : List AV) : Prop := goT Tryd.prog [] (orcR inv0 nmt tOne) (opMV Tryd.prog ovI) 3000 (.inr (.inr (.inr (.inr f)))) args powSt isTrue
--PLAIN
theorem one_vc (p a b c d x s t : Int) (en la : Bool) (o ep i h bo us : Int) (p' a' b' c' d' x' s' t' : Int) (en' la' : Bool) (o' ep' i' h' bo' us' : Int) : (runOne 5 [.inl (.inr (eC p a b c d x s t en la o ep i h bo us)), .inl (.inr (eC p' a' b' c' d' x' s' t' en' la' o' ep' i' h' bo' us'))]) = ((U.May p a b c d x s t o i h → (U.May p' a' b' c' d' x' s' t' o' i' h' → ∀ (z0 : Int), z0 = (1 : Int) → p' = p' ∧ a' = a' ∧ b' = b' ∧ c' = c' ∧ d' = d' ∧ x' = x' ∧ s' = s' ∧ t' = t' ∧ en' = en' ∧ la' = la' ∧ o' = o' ∧ ep' = ep' ∧ i' = i' ∧ h' = h' ∧ bo' = bo' ∧ us' = us' ∧ p = p ∧ a = a ∧ b = b ∧ c = c ∧ d = d ∧ x = x ∧ s = s ∧ t = t ∧ en = en ∧ la = la ∧ o = o ∧ ep = ep ∧ i = i ∧ h = h ∧ bo = bo ∧ us = us ∧ ∃ (y1 : Prs), ((U.pow = U.pow ∧ (0 : Nat) = (0 : Nat) ∧ (0 : Nat) = (0 : Nat) ∧ (0 : Nat) = (0 : Nat)) ∧ U.shI (0 : Nat) (0 : Nat) U.nilL (0 : Nat) U.nilL y1 ∧ (0 : Nat) ≤ (100000 : Nat) ∧ U.KK a b c d x s t ∧ U.May p a b c d x s t o i h ∧ U.Room y1 (U.txt p a b c d x s t) z0) ∧ ∀ (L'2 : Rws) (n'3 c'4 : Nat) (M'5 : Rws) (d'6 : Nat) (P'7 : Prs), n'3 = U.len P'7 → U.Put y1 (U.txt p a b c d x s t) { p := p, a := a, b := b, c := c, d := d, x := x, s := s, t := t, en := en, la := la, o := o, ep := ep, i := i, h := h, bo := (5 : Int), us := (5 : Int) } P'7 → U.shI n'3 c'4 L'2 d'6 M'5 P'7 → p' = p' ∧ a' = a' ∧ b' = b' ∧ c' = c' ∧ d' = d' ∧ x' = x' ∧ s' = s' ∧ t' = t' ∧ en' = en' ∧ la' = la' ∧ o' = o' ∧ ep' = ep' ∧ i' = i' ∧ h' = h' ∧ bo' = bo' ∧ us' = us' ∧ p = p ∧ a = a ∧ b = b ∧ c = c ∧ d = d ∧ x = x ∧ s = s ∧ t = t ∧ en = en ∧ la = la ∧ o = o ∧ ep = ep ∧ i = i ∧ h = h ∧ bo = bo ∧ us = us ∧ p' = p' ∧ a' = a' ∧ b' = b' ∧ c' = c' ∧ d' = d' ∧ x' = x' ∧ s' = s' ∧ t' = t' ∧ en' = en' ∧ la' = la' ∧ o' = o' ∧ ep' = ep' ∧ i' = i' ∧ h' = h' ∧ bo' = bo' ∧ us' = us' ∧ p = p ∧ a = a ∧ b = b ∧ c = c ∧ d = d ∧ x = x ∧ s = s ∧ t = t ∧ en = en ∧ la = la ∧ o = o ∧ ep = ep ∧ i = i ∧ h = h ∧ bo = bo ∧ us = us ∧ ∃ (y8 : Prs), ((U.pow = U.pow ∧ c'4 = c'4 ∧ d'6 = d'6 ∧ n'3 = n'3) ∧ U.shI n'3 c'4 L'2 d'6 M'5 y8 ∧ n'3 ≤ (100000 : Nat) ∧ U.KK a' b' c' d' x' s' t' ∧ U.May p' a' b' c' d' x' s' t' o' i' h') ∧ (¬U.Room y8 (U.txt p' a' b' c' d' x' s' t') z0 → p' = p' ∧ a' = a' ∧ b' = b' ∧ c' = c' ∧ d' = d' ∧ x' = x' ∧ s' = s' ∧ t' = t' ∧ en' = en' ∧ la' = la' ∧ o' = o' ∧ ep' = ep' ∧ i' = i' ∧ h' = h' ∧ bo' = bo' ∧ us' = us' ∧ p = p ∧ a = a ∧ b = b ∧ c = c ∧ d = d ∧ x = x ∧ s = s ∧ t = t ∧ en = en ∧ la = la ∧ o = o ∧ ep = ep ∧ i = i ∧ h = h ∧ bo = bo ∧ us = us ∧ ∃ (y9 : Prs), ((c'4 = c'4 ∧ d'6 = d'6 ∧ n'3 = n'3) ∧ U.shI n'3 c'4 L'2 d'6 M'5 y9) ∧ ∀ (L'10 : Rws) (n'11 c'12 : Nat), n'11 = n'3 → n'11 ≤ c'12 → L'10 = U.vs y9 → ∀ (z13 : Int), z13 = (↑n'11 : Int) → (¬z13 = (1 : Int) → Err [(200 : Nat)]) ∧ (¬¬z13 = (1 : Int) → (¬(0 : Int) = (0 : Int) → Err [(200 : Nat)]) ∧ (¬¬(0 : Int) = (0 : Int) → (p = p' → (a = a' ∧ b = b' ∧ c = c' ∧ d = d' ∧ x = x' ∧ s = s' ∧ t = t' ∧ True → ((4 : Int) = (0 : Int) → ((0 : Int) ≤ (0 : Int) ∧ (0 : Int) < (↑n'11 : Int)) ∧ ∀ (j14 : Nat), (↑j14 : Int) = (↑((0 : Nat)) : Int) + (0 : Int) → j14 < List.length L'10 ∧ ∀ (z15 : Int), z15 = U.fi L'10 j14 ((0 : Nat) + (10 : Nat)) → (z15 = o' → ((0 : Int) ≤ (0 : Int) ∧ (0 : Int) < (↑n'11 : Int)) ∧ ∀ (j16 : Nat), (↑j16 : Int) = (↑((0 : Nat)) : Int) + (0 : Int) → j16 < List.length L'10 ∧ ∀ (z17 : Int), z17 = U.fi L'10 j16 ((0 : Nat) + (14 : Nat)) → (z17 = (6 : Int) → U.pow = U.pow ∧ U.cellAt L'10 j16 ((0 : Nat) + (14 : Nat)) (CV.i z17) ∧ o' = o' ∧ U.cellAt L'10 j14 ((0 : Nat) + (10 : Nat)) (CV.i z15) ∧ True) ∧ (¬z17 = (6 : Int) → Err [(200 : Nat)])) ∧ (¬z15 = o' → Err [(200 : Nat)])) ∧ (¬(4 : Int) = (0 : Int) → Err [(200 : Nat)])) ∧ (¬(a = a' ∧ b = b' ∧ c = c' ∧ d = d' ∧ x = x' ∧ s = s' ∧ t = t' ∧ True) → ((4 : Int) = (4 : Int) → ((0 : Int) ≤ (0 : Int) ∧ (0 : Int) < (↑n'11 : Int)) ∧ ∀ (j18 : Nat), (↑j18 : Int) = (↑((0 : Nat)) : Int) + (0 : Int) → j18 < List.length L'10 ∧ ∀ (z19 : Int), z19 = U.fi L'10 j18 ((0 : Nat) + (10 : Nat)) → (z19 = o → ((0 : Int) ≤ (0 : Int) ∧ (0 : Int) < (↑n'11 : Int)) ∧ ∀ (j20 : Nat), (↑j20 : Int) = (↑((0 : Nat)) : Int) + (0 : Int) → j20 < List.length L'10 ∧ ∀ (z21 : Int), z21 = U.fi L'10 j20 ((0 : Nat) + (14 : Nat)) → (z21 = (5 : Int) → U.pow = U.pow ∧ U.cellAt L'10 j20 ((0 : Nat) + (14 : Nat)) (CV.i z21) ∧ o = o ∧ U.cellAt L'10 j18 ((0 : Nat) + (10 : Nat)) (CV.i z19) ∧ True) ∧ (¬z21 = (5 : Int) → Err [(200 : Nat)])) ∧ (¬z19 = o → Err [(200 : Nat)])) ∧ (¬(4 : Int) = (4 : Int) → Err [(200 : Nat)]))) ∧ (¬p = p' → ((4 : Int) = (4 : Int) → ((0 : Int) ≤ (0 : Int) ∧ (0 : Int) < (↑n'11 : Int)) ∧ ∀ (j22 : Nat), (↑j22 : Int) = (↑((0 : Nat)) : Int) + (0 : Int) → j22 < List.length L'10 ∧ ∀ (z23 : Int), z23 = U.fi L'10 j22 ((0 : Nat) + (10 : Nat)) → (z23 = o → ((0 : Int) ≤ (0 : Int) ∧ (0 : Int) < (↑n'11 : Int)) ∧ ∀ (j24 : Nat), (↑j24 : Int) = (↑((0 : Nat)) : Int) + (0 : Int) → j24 < List.length L'10 ∧ ∀ (z25 : Int), z25 = U.fi L'10 j24 ((0 : Nat) + (14 : Nat)) → (z25 = (5 : Int) → U.pow = U.pow ∧ U.cellAt L'10 j24 ((0 : Nat) + (14 : Nat)) (CV.i z25) ∧ o = o ∧ U.cellAt L'10 j22 ((0 : Nat) + (10 : Nat)) (CV.i z23) ∧ True) ∧ (¬z25 = (5 : Int) → Err [(200 : Nat)])) ∧ (¬z23 = o → Err [(200 : Nat)])) ∧ (¬(4 : Int) = (4 : Int) → Err [(200 : Nat)]))))) ∧ (U.Room y8 (U.txt p' a' b' c' d' x' s' t') z0 → ∀ (L'26 : Rws) (n'27 c'28 : Nat) (M'29 : Rws) (d'30 : Nat) (P'31 : Prs), n'27 = U.len P'31 → U.Put y8 (U.txt p' a' b' c' d' x' s' t') { p := p', a := a', b := b', c := c', d := d', x := x', s := s', t := t', en := en', la := la', o := o', ep := ep', i := i', h := h', bo := (6 : Int), us := (6 : Int) } P'31 → U.shI n'27 c'28 L'26 d'30 M'29 P'31 → p' = p' ∧ a' = a' ∧ b' = b' ∧ c' = c' ∧ d' = d' ∧ x' = x' ∧ s' = s' ∧ t' = t' ∧ en' = en' ∧ la' = la' ∧ o' = o' ∧ ep' = ep' ∧ i' = i' ∧ h' = h' ∧ bo' = bo' ∧ us' = us' ∧ p = p ∧ a = a ∧ b = b ∧ c = c ∧ d = d ∧ x = x ∧ s = s ∧ t = t ∧ en = en ∧ la = la ∧ o = o ∧ ep = ep ∧ i = i ∧ h = h ∧ bo = bo ∧ us = us ∧ ∃ (y32 : Prs), ((c'28 = c'28 ∧ d'30 = d'30 ∧ n'27 = n'27) ∧ U.shI n'27 c'28 L'26 d'30 M'29 y32) ∧ ∀ (L'33 : Rws) (n'34 c'35 : Nat), n'34 = n'27 → n'34 ≤ c'35 → L'33 = U.vs y32 → ∀ (z36 : Int), z36 = (↑n'34 : Int) → (¬z36 = (1 : Int) → Err [(200 : Nat)]) ∧ (¬¬z36 = (1 : Int) → (¬(0 : Int) = (0 : Int) → Err [(200 : Nat)]) ∧ (¬¬(0 : Int) = (0 : Int) → (p = p' → (a = a' ∧ b = b' ∧ c = c' ∧ d = d' ∧ x = x' ∧ s = s' ∧ t = t' ∧ True → ((0 : Int) = (0 : Int) → ((0 : Int) ≤ (0 : Int) ∧ (0 : Int) < (↑n'34 : Int)) ∧ ∀ (j37 : Nat), (↑j37 : Int) = (↑((0 : Nat)) : Int) + (0 : Int) → j37 < List.length L'33 ∧ ∀ (z38 : Int), z38 = U.fi L'33 j37 ((0 : Nat) + (10 : Nat)) → (z38 = o' → ((0 : Int) ≤ (0 : Int) ∧ (0 : Int) < (↑n'34 : Int)) ∧ ∀ (j39 : Nat), (↑j39 : Int) = (↑((0 : Nat)) : Int) + (0 : Int) → j39 < List.length L'33 ∧ ∀ (z40 : Int), z40 = U.fi L'33 j39 ((0 : Nat) + (14 : Nat)) → (z40 = (6 : Int) → U.pow = U.pow ∧ U.cellAt L'33 j39 ((0 : Nat) + (14 : Nat)) (CV.i z40) ∧ o' = o' ∧ U.cellAt L'33 j37 ((0 : Nat) + (10 : Nat)) (CV.i z38) ∧ True) ∧ (¬z40 = (6 : Int) → Err [(200 : Nat)])) ∧ (¬z38 = o' → Err [(200 : Nat)])) ∧ (¬(0 : Int) = (0 : Int) → Err [(200 : Nat)])) ∧ (¬(a = a' ∧ b = b' ∧ c = c' ∧ d = d' ∧ x = x' ∧ s = s' ∧ t = t' ∧ True) → ((0 : Int) = (4 : Int) → ((0 : Int) ≤ (0 : Int) ∧ (0 : Int) < (↑n'34 : Int)) ∧ ∀ (j41 : Nat), (↑j41 : Int) = (↑((0 : Nat)) : Int) + (0 : Int) → j41 < List.length L'33 ∧ ∀ (z42 : Int), z42 = U.fi L'33 j41 ((0 : Nat) + (10 : Nat)) → (z42 = o → ((0 : Int) ≤ (0 : Int) ∧ (0 : Int) < (↑n'34 : Int)) ∧ ∀ (j43 : Nat), (↑j43 : Int) = (↑((0 : Nat)) : Int) + (0 : Int) → j43 < List.length L'33 ∧ ∀ (z44 : Int), z44 = U.fi L'33 j43 ((0 : Nat) + (14 : Nat)) → (z44 = (5 : Int) → U.pow = U.pow ∧ U.cellAt L'33 j43 ((0 : Nat) + (14 : Nat)) (CV.i z44) ∧ o = o ∧ U.cellAt L'33 j41 ((0 : Nat) + (10 : Nat)) (CV.i z42) ∧ True) ∧ (¬z44 = (5 : Int) → Err [(200 : Nat)])) ∧ (¬z42 = o → Err [(200 : Nat)])) ∧ (¬(0 : Int) = (4 : Int) → Err [(200 : Nat)]))) ∧ (¬p = p' → ((0 : Int) = (4 : Int) → ((0 : Int) ≤ (0 : Int) ∧ (0 : Int) < (↑n'34 : Int)) ∧ ∀ (j45 : Nat), (↑j45 : Int) = (↑((0 : Nat)) : Int) + (0 : Int) → j45 < List.length L'33 ∧ ∀ (z46 : Int), z46 = U.fi L'33 j45 ((0 : Nat) + (10 : Nat)) → (z46 = o → ((0 : Int) ≤ (0 : Int) ∧ (0 : Int) < (↑n'34 : Int)) ∧ ∀ (j47 : Nat), (↑j47 : Int) = (↑((0 : Nat)) : Int) + (0 : Int) → j47 < List.length L'33 ∧ ∀ (z48 : Int), z48 = U.fi L'33 j47 ((0 : Nat) + (14 : Nat)) → (z48 = (5 : Int) → U.pow = U.pow ∧ U.cellAt L'33 j47 ((0 : Nat) + (14 : Nat)) (CV.i z48) ∧ o = o ∧ U.cellAt L'33 j45 ((0 : Nat) + (10 : Nat)) (CV.i z46) ∧ True) ∧ (¬z48 = (5 : Int) → Err [(200 : Nat)])) ∧ (¬z46 = o → Err [(200 : Nat)])) ∧ (¬(0 : Int) = (4 : Int) → Err [(200 : Nat)])))))) ∧ (¬U.May p' a' b' c' d' x' s' t' o' i' h' → U.pow = U.pow ∧ True)) ∧ (¬U.May p a b c d x s t o i h → U.pow = U.pow ∧ True)) := by kernel_rfl
end Go.Proofs.YtdpcahblhjbgjaaDoor
end

section
set_option linter.unusedVariables false
set_option linter.unusedSimpArgs false
set_option maxRecDepth 10000
namespace Go.Proofs.YtdpcahblhjbgjaaDoor
open Go Reck Ost
/-! ### Texts are those of one port and key alone -/
theorem nb_inj {n v v' : Int} {m : Int} (hn : 0 ≤ n ∧ n ≤ 8) (hm : (256 : Int) ^ n.toNat = m) (h : U.nb n v = U.nb n v') (hv : 0 ≤ v ∧ v < m) (hv' : 0 ≤ v' ∧ v' < m) : v = v' := by
  have e := congrArg U.vb h
  rw [vb_nb n v hn (by rw [hm]; exact hv), vb_nb n v' hn (by rw [hm]; exact hv')] at e
  exact e
theorem kb_inj {a b c d x s t a' b' c' d' x' s' t' : Int} (k : U.KK a b c d x s t) (g : U.KG a b c d x s t) (k' : U.KK a' b' c' d' x' s' t') (g' : U.KG a' b' c' d' x' s' t') (h : U.kb a b c d x s t = U.kb a' b' c' d' x' s' t') : a = a' ∧ b = b' ∧ c = c' ∧ d = d' ∧ x = x' ∧ s = s' ∧ t = t' := by
  obtain ⟨k1, k2, k3, k4, _, _, _⟩ := k
  obtain ⟨l1, l2, l3, l4, _, _, _⟩ := k'
  obtain ⟨g1, g2, g3, _⟩ := g
  obtain ⟨i1, i2, i3, _⟩ := g'
  unfold U.kb at h
  obtain ⟨h, h7⟩ := List.append_inj' h (by rw [nb_length, nb_length])
  obtain ⟨h, h6⟩ := List.append_inj' h (by rw [nb_length, nb_length])
  obtain ⟨h, h5⟩ := List.append_inj' h (by rw [nb_length, nb_length])
  obtain ⟨h, h4⟩ := List.append_inj' h (by rw [nb_length, nb_length])
  obtain ⟨h, h3⟩ := List.append_inj' h (by rw [nb_length, nb_length])
  obtain ⟨h1, h2⟩ := List.append_inj' h (by rw [nb_length, nb_length])
  have p6 : (256 : Int) ^ (6 : Int).toNat = 281474976710656 := by decide
  have p4 : (256 : Int) ^ (4 : Int).toNat = 4294967296 := by decide
  have p1 : (256 : Int) ^ (1 : Int).toNat = 256 := by decide
  have p2 : (256 : Int) ^ (2 : Int).toNat = 65536 := by decide
  exact ⟨nb_inj (by decide) p6 h1 (by omega) (by omega), nb_inj (by decide) p6 h2 (by omega) (by omega), nb_inj (by decide) p4 h3 (by omega) (by omega), nb_inj (by decide) p4 h4 (by omega) (by omega), nb_inj (by decide) p1 h5 (by omega) (by omega), nb_inj (by decide) p2 h6 (by omega) (by omega), nb_inj (by decide) p2 h7 (by omega) (by omega)⟩
theorem itoa_dig {n : Int} (h : 0 ≤ n ∧ n ≤ 9) : U.itoa n = [48 + n] := by
  unfold U.itoa Lib.itoa
  rw [if_neg (by omega), Lib.decDigits, dif_pos (by omega)]
  simp only [List.map_cons, List.map_nil]
  have : ((UInt8.ofNat (48 + n.toNat)).toNat : Int) = 48 + n := by rw [UInt8.toNat_ofNat']; omega
  rw [this]
theorem txt_inj {p a b c d x s t p' a' b' c' d' x' s' t' : Int} (hp : 1 ≤ p ∧ p ≤ 8) (hp' : 1 ≤ p' ∧ p' ≤ 8) (k : U.KK a b c d x s t) (g : U.KG a b c d x s t) (k' : U.KK a' b' c' d' x' s' t') (g' : U.KG a' b' c' d' x' s' t') (h : U.txt p a b c d x s t = U.txt p' a' b' c' d' x' s' t') : p = p' ∧ a = a' ∧ b = b' ∧ c = c' ∧ d = d' ∧ x = x' ∧ s = s' ∧ t = t' := by
  rw [txt_T g, txt_T g', itoa_dig (by omega), itoa_dig (by omega)] at h
  simp only [List.cons_append, List.nil_append, List.cons.injEq] at h
  exact ⟨by omega, kb_inj k g k' g' h.2⟩
theorem one_list {P : Prs} {k : List Int} {e : En} (hl : U.len P = 1) (hm : ∀ x y, (x, y) ∈ P ↔ x = k ∧ y = e) : P = [(k, e)] := by
  have h1 : P.length = 1 := hl
  obtain ⟨q, rfl⟩ := List.length_eq_one_iff.1 h1
  have := (hm q.1 q.2).1 (List.mem_singleton.2 rfl)
  rw [← this.1, ← this.2]
theorem vs_one {P : Prs} {k : List Int} {e : En} {L : Rws} (hl : U.len P = 1) (hm : ∀ x y, (x, y) ∈ P ↔ x = k ∧ y = e) (h : L = U.vs P) : L = [e.row] := by
  rw [h, one_list hl hm]; rfl
theorem fi_10 {L : Rws} {e : En} {j : Nat} (h : L = [e.row]) (hj : (j : Int) = 0 + 0) : U.fi L j 10 = e.o ∧ U.fi L j 14 = e.bo ∧ U.cellAt L j 10 (CV.i e.o) ∧ U.cellAt L j 14 (CV.i e.bo) := by
  obtain rfl : j = 0 := by omega
  subst h
  exact ⟨rfl, rfl, ⟨⟨e.row, rfl, rfl⟩⟩, ⟨⟨e.row, rfl, rfl⟩⟩⟩
def Tail (L : Rws) (n : Nat) (o k : Int) : Prop :=
  ((0 : Int) ≤ 0 ∧ (0 : Int) < n) ∧ ∀ (j : Nat), (j : Int) = 0 + 0 → j < L.length ∧ ∀ (z : Int), z = U.fi L j (0 + 10) → (z = o → ((0 : Int) ≤ 0 ∧ (0 : Int) < n) ∧ ∀ (j' : Nat), (j' : Int) = 0 + 0 → j' < L.length ∧ ∀ (z' : Int), z' = U.fi L j' (0 + 14) → (z' = k → U.pow = U.pow ∧ U.cellAt L j' (0 + 14) (CV.i z') ∧ o = o ∧ U.cellAt L j (0 + 10) (CV.i z) ∧ True) ∧ (¬ z' = k → Err [200])) ∧ (¬ z = o → Err [200])
theorem tail_run {L : Rws} {n : Nat} {e : En} {o k : Int} (hL : L = [e.row]) (hn : n = 1) (ho : e.o = o) (hk : e.bo = k) : Tail L n o k := by
  have hl : L.length = 1 := by rw [hL]; rfl
  subst hn
  refine ⟨by omega, fun j hj => ⟨by omega, fun z hz => ?_⟩⟩
  obtain ⟨f1, f2, f3, f4⟩ := fi_10 hL hj
  have ez : z = o := (hz.trans f1).trans ho
  refine ⟨fun _ => ⟨by omega, fun j' hj' => ⟨by omega, fun z' hz' => ?_⟩⟩, fun h => absurd ez h⟩
  obtain ⟨g1, g2, g3, g4⟩ := fi_10 hL hj'
  have ez' : z' = k := (hz'.trans g2).trans hk
  refine ⟨fun _ => ⟨rfl, ?_, rfl, ?_, trivial⟩, fun h => absurd ez' h⟩
  · rw [ez', ← hk]; exact g4
  · rw [ez, ← ho]; exact f3
set_option maxHeartbeats 4000000 in
theorem one_run (e e' : En) (ke : e.kin) (ke' : e'.kin) : runOne 5 [.inl (.inr e.cells), .inl (.inr e'.cells)] := by
  obtain ⟨p, a, b, c, d, x, s, t, en, la, o, ep, i, h, bo, us⟩ := e
  obtain ⟨p', a', b', c', d', x', s', t', en', la', o', ep', i', h', bo', us'⟩ := e'
  obtain ⟨kk, _, _, _⟩ := ke
  obtain ⟨kk', _, _, _⟩ := ke'
  dsimp only [En.cells] at kk kk' ⊢
  rw [one_vc]
  refine ⟨fun hm => ⟨fun hm' => ?_, fun _ => ⟨rfl, trivial⟩⟩, fun _ => ⟨rfl, trivial⟩⟩
  rintro z0 rfl
  have inj := txt_inj hm.p hm'.p kk hm.k kk' hm'.k
  refine ⟨rfl, rfl, rfl, rfl, rfl, rfl, rfl, rfl, rfl, rfl, rfl, rfl, rfl, rfl, rfl, rfl, rfl, rfl, rfl, rfl, rfl, rfl, rfl, rfl, rfl, rfl, rfl, rfl, rfl, rfl, rfl, rfl, [], ⟨⟨rfl, rfl, rfl, rfl⟩, shI_0, by omega, kk, hm, ⟨.inr (by decide)⟩⟩, fun L2 n3 c4 M5 d6 P7 e3 p7 i7 => ?_⟩
  obtain ⟨l7, m7⟩ := put_0 p7
  have l7' : P7.length = 1 := l7
  have n31 : n3 = 1 := by rw [e3, l7]
  refine ⟨rfl, rfl, rfl, rfl, rfl, rfl, rfl, rfl, rfl, rfl, rfl, rfl, rfl, rfl, rfl, rfl, rfl, rfl, rfl, rfl, rfl, rfl, rfl, rfl, rfl, rfl, rfl, rfl, rfl, rfl, rfl, rfl, rfl, rfl, rfl, rfl, rfl, rfl, rfl, rfl, rfl, rfl, rfl, rfl, rfl, rfl, rfl, rfl, rfl, rfl, rfl, rfl, rfl, rfl, rfl, rfl, rfl, rfl, rfl, rfl, rfl, rfl, rfl, rfl, P7, ⟨⟨rfl, rfl, rfl, rfl⟩, i7, by omega, kk', hm'⟩, fun hr => ?_, fun hr L26 n27 c28 M29 d30 P31 e27 p31 i31 => ?_⟩
  · refine ⟨rfl, rfl, rfl, rfl, rfl, rfl, rfl, rfl, rfl, rfl, rfl, rfl, rfl, rfl, rfl, rfl, rfl, rfl, rfl, rfl, rfl, rfl, rfl, rfl, rfl, rfl, rfl, rfl, rfl, rfl, rfl, rfl, P7, ⟨⟨rfl, rfl, rfl⟩, i7⟩, fun L10 n11 c12 e11 e12 e10 => ?_⟩
    have hL := vs_one l7 m7 e10
    have hn : n11 = 1 := by omega
    have T : Tail L10 n11 o 5 := tail_run hL hn rfl rfl
    rintro z13 rfl
    refine ⟨fun hx => absurd (by omega) hx, fun _ => ⟨fun hx => absurd rfl hx, fun _ => ⟨fun hp => ⟨fun hq => ?_, fun _ => ⟨fun _ => T, fun hx => absurd rfl hx⟩⟩, fun _ => ⟨fun _ => T, fun hx => absurd rfl hx⟩⟩⟩⟩
    exfalso
    obtain ⟨rfl, rfl, rfl, rfl, rfl, rfl, rfl, _⟩ := hq
    subst hp
    exact hr ⟨.inl ⟨_, (m7 _ _).2 ⟨rfl, rfl⟩⟩⟩
  · have hk : U.txt p' a' b' c' d' x' s' t' = U.txt p a b c d x s t := by
      rcases hr.out with ⟨e1, he1⟩ | hx
      · exact ((m7 _ _).1 he1).1
      · omega
    obtain ⟨rfl, rfl, rfl, rfl, rfl, rfl, rfl, rfl⟩ := inj hk.symm
    obtain ⟨l8, m8⟩ := put_1 l7 m7 p31
    refine ⟨rfl, rfl, rfl, rfl, rfl, rfl, rfl, rfl, rfl, rfl, rfl, rfl, rfl, rfl, rfl, rfl, rfl, rfl, rfl, rfl, rfl, rfl, rfl, rfl, rfl, rfl, rfl, rfl, rfl, rfl, rfl, rfl, P31, ⟨⟨rfl, rfl, rfl⟩, i31⟩, fun L33 n34 c35 e34 e35 e33 => ?_⟩
    have hL := vs_one l8 m8 e33
    have hn : n34 = 1 := by rw [e34, e27, l8]
    have T : Tail L33 n34 o' 6 := tail_run hL hn rfl rfl
    rintro z36 rfl
    refine ⟨fun hx => absurd (by omega) hx, fun _ => ⟨fun hx => absurd rfl hx, fun _ => ⟨fun _ => ⟨fun _ => ⟨fun _ => T, fun hx => absurd rfl hx⟩, fun hx => absurd ⟨rfl, rfl, rfl, rfl, rfl, rfl, rfl, trivial⟩ hx⟩, fun hx => absurd rfl hx⟩⟩⟩
theorem entryOne_walk (e e' : En) (w : World) (he : e.ok w) (he' : e'.ok w) (h : GlobIs w 0 U.pow) : Calls Tryd.prog 5 #[e.val, e'.val] w fun en w' => en = .returned (.bool true) ∧ Only (fun _ => False) w w' :=
  true_ok (ovs_of noOv) (names_of names) (opMV_ok ovIs) (conOk_ofR tOne_ok) (one_run e e' (en_kin he) (en_kin he')) (ok_pow h) (vs := [e.val, e'.val]) (by simp only [List.map_cons, List.map_nil, en_av])
end Go.Proofs.YtdpcahblhjbgjaaDoor
end
