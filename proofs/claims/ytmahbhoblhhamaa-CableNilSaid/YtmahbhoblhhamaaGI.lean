/- Parts of a proof, one behind the other: XU4 XO XU5. No condition. -/
import Derived.Test.YtmahbhoblhhamaaGH
import Derived.Deep.Fields
import Derived.OpenShut
import Derived.Test.YtmahbhoblhhamaaRkZ
section
set_option linter.unusedVariables false
set_option linter.unusedSimpArgs false
set_option maxRecDepth 10000
namespace Go.Proofs.Ytmahbhoblhhamaa
open Go Reck Ost
theorem nr_same {P P' : CSP} {R : Rws} {n c d q : Nat} {L M : Rws} (hP : U.NetI P) (hR : U.Rel P R) (hlen : q = R.length) (hm : ∀ q e, (q, e) ∈ P' ↔ (q, e) ∈ P) (h : U.csshI n c L d M P') : U.NR n c L d M R q ∧ U.NetI P' ∧ U.Rel P' R := by
  have h1 : U.NetI P' := ⟨fun k e h => hP.key k e ((hm _ _).1 h), fun k x y h hh => by
    obtain ⟨g1, g2, g3, g4⟩ := hP.sw _ _ _ _ ((hm _ _).1 hh)
    exact ⟨g1, g2, g3, (hm _ _).2 g4⟩, fun k q x y h hh => hP.kind _ _ _ _ _ ((hm _ _).1 hh), fun k k' x y x' y' h hh hh' => hP.host _ _ _ _ _ _ _ ((hm _ _).1 hh) ((hm _ _).1 hh')⟩
  have h2 : U.Rel P' R := ⟨hR.ty, hR.wf, fun k e => (hm k e).trans (hR.mem k e)⟩
  exact ⟨⟨P', h, h1, h2, hlen⟩, h1, h2⟩
theorem noJ_z {P : CSP} {a b a' b' z : Int} (h : U.noJ P a b a' b' z) : ¬ z = 0 := by
  rcases h.out with ⟨_, h⟩ | ⟨_, _, _, _, h⟩ <;> omega
theorem noA_z {P : CSP} {a b h z : Int} (hh : U.noA P h a b z) : ¬ z = 0 := by
  rcases hh.out with ⟨_, h⟩ | ⟨_, _, _, h⟩ <;> omega
theorem undo_att {P P' : CSP} {a b h k x y q : Int} (hm : U.mayA P h a b) (hp : U.csPut P (U.num a b) ⟨2, 0, 0, h⟩ P') (ho : U.Oth P' a b k x y q) : k = 2 ∧ q = h := by
  have hin : (U.num a b, (⟨2, 0, 0, h⟩ : CSv)) ∈ P' := (hp.mem _ _).2 (.inl ⟨rfl, rfl⟩)
  rcases ho.out with ⟨_, ⟨e⟩⟩ | ⟨g, _⟩
  · obtain ⟨e1, _, _, e2⟩ := v_eq (cs_one hp.srt e hin)
    exact ⟨e1, e2⟩
  · exact (g hm.g ⟨_, hin⟩).elim
theorem undo_attm {P P' P2 : CSP} {a b h k x y q : Int} (hm : U.mayA P h a b) (hp : U.csPut P (U.num a b) ⟨2, 0, 0, h⟩ P') (ho : U.Oth P' a b k x y q) (hu : U.Pulled P' a b k x y P2) (r : Int) (e : CSv) : (r, e) ∈ P2 ↔ (r, e) ∈ P := by
  have hk := (undo_att hm hp ho).1
  rw [hu.mem, hp.mem]
  constructor
  · rintro ⟨⟨h1, _⟩ | ⟨h1, _⟩, h2, _⟩
    · exact (h2 h1).elim
    · exact h1
  · intro h1
    have hne : r ≠ U.num a b := fun he => hm.n ⟨e, by rw [← he]; exact h1⟩
    exact ⟨.inr ⟨h1, hne⟩, hne, fun h => by omega⟩
theorem undo_attn {P P' : CSP} {a b h : Int} (hm : U.mayA P h a b) (hp : U.csPut P (U.num a b) ⟨2, 0, 0, h⟩ P') (hn : U.Gd a b → ¬ U.csHasK P' (U.num a b)) : False :=
  hn hm.g ⟨_, (hp.mem _ _).2 (.inl ⟨rfl, rfl⟩)⟩
theorem undo_j {P P' P2 : CSP} {a b a' b' k x y q : Int} (hm : U.mayJ P a b a' b') (hJ : U.Joined P a b a' b' P') (ho : U.Oth P' a b k x y q) (hu : U.Pulled P' a b k x y P2) (r : Int) (e : CSv) : (r, e) ∈ P2 ↔ (r, e) ∈ P := by
  have hin : (U.num a b, (⟨1, a', b', 0⟩ : CSv)) ∈ P' := (hJ.mem _ _).2 (.inl ⟨rfl, rfl⟩)
  have hk : k = 1 ∧ x = a' ∧ y = b' := by
    rcases ho.out with ⟨_, ⟨e⟩⟩ | ⟨g, _⟩
    · obtain ⟨e1, e2, e3, _⟩ := v_eq (cs_one hJ.srt e hin)
      exact ⟨e1, e2, e3⟩
    · exact (g hm.g ⟨_, hin⟩).elim
  obtain ⟨rfl, rfl, rfl⟩ := hk
  rw [hu.mem, hJ.mem]
  constructor
  · rintro ⟨⟨h1, _⟩ | ⟨h1, _⟩ | ⟨h1, _⟩, h2, h3⟩
    · exact (h2 h1).elim
    · exact (h3 rfl h1).elim
    · exact h1
  · intro h1
    have n1 : r ≠ U.num a b := fun he => hm.n ⟨e, by rw [← he]; exact h1⟩
    have n2 : r ≠ U.num x y := fun he => hm.n' ⟨e, by rw [← he]; exact h1⟩
    exact ⟨.inr (.inr ⟨h1, n1, n2⟩), n1, fun _ => n2⟩
theorem undo_j' {P P' P2 : CSP} {a b a' b' k x y q : Int} (hm : U.mayJ P a b a' b') (hJ : U.Joined P a b a' b' P') (ho : U.Oth P' a' b' k x y q) (hu : U.Pulled P' a' b' k x y P2) (r : Int) (e : CSv) : (r, e) ∈ P2 ↔ (r, e) ∈ P := by
  refine undo_j (a := a') (b := b') (a' := a) (b' := b) ⟨hm.g', hm.g, fun h => hm.ne ⟨h.1.symm, h.2.symm⟩, hm.n', hm.n⟩ ⟨hJ.srt, fun q e => ?_⟩ ho hu r e
  rw [hJ.mem]
  constructor
  · rintro (h | h | ⟨h1, h2, h3⟩)
    · exact .inr (.inl h)
    · exact .inl h
    · exact .inr (.inr ⟨h1, h3, h2⟩)
  · rintro (h | h | ⟨h1, h2, h3⟩)
    · exact .inr (.inl h)
    · exact .inl h
    · exact .inr (.inr ⟨h1, h3, h2⟩)
theorem undo_n {P P' : CSP} {a b a' b' : Int} (hm : U.mayJ P a b a' b') (hJ : U.Joined P a b a' b' P') (hn : U.Gd a b → ¬ U.csHasK P' (U.num a b)) : False :=
  hn hm.g ⟨_, (hJ.mem _ _).2 (.inl ⟨rfl, rfl⟩)⟩
theorem undo_n' {P P' : CSP} {a b a' b' : Int} (hm : U.mayJ P a b a' b') (hJ : U.Joined P a b a' b' P') (hn : U.Gd a' b' → ¬ U.csHasK P' (U.num a' b')) : False :=
  hn hm.g' ⟨_, (hJ.mem _ _).2 (.inr (.inl ⟨rfl, rfl⟩))⟩
set_option maxHeartbeats 4000000 in
theorem cableUndoT_run (Z : Rws) (n c : Nat) (a b a' b' h : Int) (hn : n = Z.length) (hb : n ≤ 9223372036854775807) : runP invLw tN4 6 [cell (rslC ⟨0, 6, 0, n, c⟩), plA a b, plA a' b', xi .i64 h, lit (.bool true)] ⟨[], [], 0, [some (opsB Z)], 0⟩ := by
  rw [cableUndoT_vc]
  intro z0 h0
  constructor
  · refine ⟨(0, (0, (0, ([], (0, ([], ([], (0, 0)))))))), ?_⟩
    repeat' (first | exact rfl | exact lw_0 n | with_reducible apply And.intro)
  rintro ⟨i, n1, c1, L1, d1, M1, R1, q1, rc1⟩ hI
  have hI' := hI
  obtain ⟨⟨i1, i2⟩, hN, ⟨k1, k2⟩, hrc⟩ := hI'
  dsimp only at i1 i2 hN k1 k2 hrc hI ⊢
  refine ⟨fun hi => ⟨by omega, fun j hj => ⟨by omega, fun z4 _ z5 _ z6 _ z7 _ z8 _ z9 _ => ⟨fun h40 => ?_, fun h40 => ?_⟩⟩⟩, fun hi => ?_⟩
  · refine ⟨⟨⟨rfl, rfl, rfl, rfl⟩, hN, by omega, rfl⟩, ?_, ?_, ?_⟩
    · intro z hz
      have e := iw hz (by omega)
      refine ⟨(z, (n1, (c1, (L1, (d1, (M1, (R1, (q1, rc1)))))))), ?_⟩
      repeat' (first | exact rfl | exact lw_next hI (by omega) e (.inl (Nat.le_refl _)) hrc hN | with_reducible apply And.intro)
      dsimp only; omega
    · intro n' c' L' d' M' O q' oc h1 h2 h3 z hz
      have e := iw hz (by omega)
      refine ⟨(z, (n', (c', (L', (d', (M', (O, (q', oc)))))))), ?_⟩
      repeat' (first | exact rfl | exact lw_next hI (by omega) e (.inr ⟨by omega, h2⟩) h3 h1 | with_reducible apply And.intro)
      dsimp only; omega
    · intro O q' oc h1 h2 h3 z hz
      have e := iw hz (by omega)
      refine ⟨(z, (n1, (c1, (L1, (d1, (M1, (O, (q', oc)))))))), ?_⟩
      repeat' (first | exact rfl | exact lw_next hI (by omega) e (.inl h2) h3 h1 | with_reducible apply And.intro)
      dsimp only; omega
  · intro z hz
    have e := iw hz (by omega)
    refine ⟨(z, (n1, (c1, (L1, (d1, (M1, (R1, (q1, rc1)))))))), ?_⟩
    repeat' (first | exact rfl | exact lw_next hI (by omega) e (.inl (Nat.le_refl _)) hrc hN | with_reducible apply And.intro)
    dsimp only; omega
  · have hle := nr_le hN
    obtain ⟨P, hsh, hP, hR, hlen⟩ := hN.out
    have hq1 : q1 ≤ 100000 := by omega
    refine ⟨P, ⟨⟨rfl, rfl, rfl⟩, hsh, hle, hP, rfl⟩, fun z hz => ⟨fun h => absurd h (noJ_z hz), fun _ => ?_⟩, fun hm L2 n2 c2 M2 d2 P2 e2 hJ hi2 => ⟨fun _ => ⟨P2, ⟨⟨rfl, rfl, rfl⟩, hi2, pulled_len (P := P) hi2 (netI_join hP hm hJ), netI_join hP hm hJ⟩, fun k x y q ho hk L3 n3 M3 P3 e3 hu hi3 => ?_, fun g => (undo_n' hm hJ g).elim⟩, fun g => absurd rfl g⟩⟩
    · refine ⟨P, ⟨⟨rfl, rfl, rfl⟩, hsh, hle, hP, rfl⟩, fun z hz => ⟨fun h => absurd h (noA_z hz), fun _ => ⟨⟨⟨rfl, rfl, rfl, rfl⟩, hN, hq1⟩, trivial⟩⟩, fun ha L5 n5 c5 M5 d5 P5 e5 hp hi5 => ⟨fun _ => ⟨P5, ⟨⟨rfl, rfl, rfl⟩, hi5, pulled_len (P := P) hi5 (netI_att hP ha.g ha.hh ha.n ha.no hp), netI_att hP ha.g ha.hh ha.n ha.no hp⟩, fun k x y q ho hk L6 n6 M6 P6 e6 hu hi6 => ⟨fun g => absurd (undo_att ha hp ho).1 g, fun _ => ⟨fun g => absurd (undo_att ha hp ho).2 g, fun _ => ⟨⟨⟨rfl, rfl, rfl, rfl⟩, (nr_same hP hR hlen (undo_attm ha hp ho hu) hi6).1, hq1⟩, trivial⟩⟩⟩, fun g => (undo_attn ha hp g).elim⟩, fun g => absurd rfl g⟩⟩
    · have hmm := undo_j' hm hJ ho hu
      obtain ⟨s1, s2, s3⟩ := nr_same hP hR hlen hmm hi3
      have s4 := nr_le s1
      refine ⟨⟨⟨rfl, rfl, rfl, rfl⟩, s1, hq1⟩, ?_⟩
      refine ⟨P3, ⟨⟨rfl, rfl, rfl⟩, hi3, s4, s2, rfl⟩, fun z hz => ⟨fun h => absurd h (noA_z hz), fun _ => ⟨⟨⟨rfl, rfl, rfl, rfl⟩, s1, hq1⟩, trivial⟩⟩, fun ha L5 n5 c5 M5 d5 P5 e5 hp hi5 => ⟨fun _ => ⟨P5, ⟨⟨rfl, rfl, rfl⟩, hi5, pulled_len (P := P) hi5 (netI_att s2 ha.g ha.hh ha.n ha.no hp), netI_att s2 ha.g ha.hh ha.n ha.no hp⟩, fun k x y q ho hk L6 n6 M6 P6 e6 hu hi6 => ⟨fun g => absurd (undo_att ha hp ho).1 g, fun _ => ⟨fun g => absurd (undo_att ha hp ho).2 g, fun _ => ⟨⟨⟨rfl, rfl, rfl, rfl⟩, (nr_same s2 s3 hlen (undo_attm ha hp ho hu) hi6).1, hq1⟩, trivial⟩⟩⟩, fun g => (undo_attn ha hp g).elim⟩, fun g => absurd rfl g⟩⟩
set_option maxHeartbeats 4000000 in
theorem cableUndoF_run (Z : Rws) (n c : Nat) (a b a' b' h : Int) (hn : n = Z.length) (hb : n ≤ 9223372036854775807) : runP invLw tN4 6 [cell (rslC ⟨0, 6, 0, n, c⟩), plA a b, plA a' b', xi .i64 h, lit (.bool false)] ⟨[], [], 0, [some (opsB Z)], 0⟩ := by
  rw [cableUndoF_vc]
  intro z0 h0
  constructor
  · refine ⟨(0, (0, (0, ([], (0, ([], ([], (0, 0)))))))), ?_⟩
    repeat' (first | exact rfl | exact lw_0 n | with_reducible apply And.intro)
  rintro ⟨i, n1, c1, L1, d1, M1, R1, q1, rc1⟩ hI
  have hI' := hI
  obtain ⟨⟨i1, i2⟩, hN, ⟨k1, k2⟩, hrc⟩ := hI'
  dsimp only at i1 i2 hN k1 k2 hrc hI ⊢
  refine ⟨fun hi => ⟨by omega, fun j hj => ⟨by omega, fun z4 _ z5 _ z6 _ z7 _ z8 _ z9 _ => ⟨fun h40 => ?_, fun h40 => ?_⟩⟩⟩, fun hi => ?_⟩
  · refine ⟨⟨⟨rfl, rfl, rfl, rfl⟩, hN, by omega, rfl⟩, ?_, ?_, ?_⟩
    · intro z hz
      have e := iw hz (by omega)
      refine ⟨(z, (n1, (c1, (L1, (d1, (M1, (R1, (q1, rc1)))))))), ?_⟩
      repeat' (first | exact rfl | exact lw_next hI (by omega) e (.inl (Nat.le_refl _)) hrc hN | with_reducible apply And.intro)
      dsimp only; omega
    · intro n' c' L' d' M' O q' oc h1 h2 h3 z hz
      have e := iw hz (by omega)
      refine ⟨(z, (n', (c', (L', (d', (M', (O, (q', oc)))))))), ?_⟩
      repeat' (first | exact rfl | exact lw_next hI (by omega) e (.inr ⟨by omega, h2⟩) h3 h1 | with_reducible apply And.intro)
      dsimp only; omega
    · intro O q' oc h1 h2 h3 z hz
      have e := iw hz (by omega)
      refine ⟨(z, (n1, (c1, (L1, (d1, (M1, (O, (q', oc)))))))), ?_⟩
      repeat' (first | exact rfl | exact lw_next hI (by omega) e (.inl h2) h3 h1 | with_reducible apply And.intro)
      dsimp only; omega
  · intro z hz
    have e := iw hz (by omega)
    refine ⟨(z, (n1, (c1, (L1, (d1, (M1, (R1, (q1, rc1)))))))), ?_⟩
    repeat' (first | exact rfl | exact lw_next hI (by omega) e (.inl (Nat.le_refl _)) hrc hN | with_reducible apply And.intro)
    dsimp only; omega
  · have hle := nr_le hN
    obtain ⟨P, hsh, hP, hR, hlen⟩ := hN.out
    have hq1 : q1 ≤ 100000 := by omega
    refine ⟨P, ⟨⟨rfl, rfl, rfl⟩, hsh, hle, hP, rfl⟩, fun z hz => ⟨fun h => absurd h (noJ_z hz), fun _ => ?_⟩, fun hm L2 n2 c2 M2 d2 P2 e2 hJ hi2 => ⟨fun _ => ⟨P2, ⟨⟨rfl, rfl, rfl⟩, hi2, pulled_len (P := P) hi2 (netI_join hP hm hJ), netI_join hP hm hJ⟩, fun k x y q ho hk L3 n3 M3 P3 e3 hu hi3 => ?_, fun g => (undo_n hm hJ g).elim⟩, fun g => absurd rfl g⟩⟩
    · refine ⟨P, ⟨⟨rfl, rfl, rfl⟩, hsh, hle, hP, rfl⟩, fun z hz => ⟨fun h => absurd h (noA_z hz), fun _ => ⟨⟨⟨rfl, rfl, rfl, rfl⟩, hN, hq1⟩, trivial⟩⟩, fun ha L5 n5 c5 M5 d5 P5 e5 hp hi5 => ⟨fun _ => ⟨P5, ⟨⟨rfl, rfl, rfl⟩, hi5, pulled_len (P := P) hi5 (netI_att hP ha.g ha.hh ha.n ha.no hp), netI_att hP ha.g ha.hh ha.n ha.no hp⟩, fun k x y q ho hk L6 n6 M6 P6 e6 hu hi6 => ⟨fun g => absurd (undo_att ha hp ho).1 g, fun _ => ⟨fun g => absurd (undo_att ha hp ho).2 g, fun _ => ⟨⟨⟨rfl, rfl, rfl, rfl⟩, (nr_same hP hR hlen (undo_attm ha hp ho hu) hi6).1, hq1⟩, trivial⟩⟩⟩, fun g => (undo_attn ha hp g).elim⟩, fun g => absurd rfl g⟩⟩
    · have hmm := undo_j hm hJ ho hu
      obtain ⟨s1, s2, s3⟩ := nr_same hP hR hlen hmm hi3
      have s4 := nr_le s1
      refine ⟨⟨⟨rfl, rfl, rfl, rfl⟩, s1, hq1⟩, ?_⟩
      refine ⟨P3, ⟨⟨rfl, rfl, rfl⟩, hi3, s4, s2, rfl⟩, fun z hz => ⟨fun h => absurd h (noA_z hz), fun _ => ⟨⟨⟨rfl, rfl, rfl, rfl⟩, s1, hq1⟩, trivial⟩⟩, fun ha L5 n5 c5 M5 d5 P5 e5 hp hi5 => ⟨fun _ => ⟨P5, ⟨⟨rfl, rfl, rfl⟩, hi5, pulled_len (P := P) hi5 (netI_att s2 ha.g ha.hh ha.n ha.no hp), netI_att s2 ha.g ha.hh ha.n ha.no hp⟩, fun k x y q ho hk L6 n6 M6 P6 e6 hu hi6 => ⟨fun g => absurd (undo_att ha hp ho).1 g, fun _ => ⟨fun g => absurd (undo_att ha hp ho).2 g, fun _ => ⟨⟨⟨rfl, rfl, rfl, rfl⟩, (nr_same s2 s3 hlen (undo_attm ha hp ho hu) hi6).1, hq1⟩, trivial⟩⟩⟩, fun g => (undo_attn ha hp g).elim⟩, fun g => absurd rfl g⟩⟩
end Go.Proofs.Ytmahbhoblhhamaa
end

section
set_option linter.unusedVariables false
set_option linter.unusedSimpArgs false
set_option maxRecDepth 100000
namespace Go.Proofs.Ytmahbhoblhhamaa
open Go Reck Go.ChangeShapes Go.WideShapes Go.Deep

structure PlI where
  (a b : Int)
def PlI.val (s : PlI) : Value := .agg #[.int .i64 s.a, .int .i64 s.b]
def plZ : PlI := ⟨0, 0⟩
structure PlI.ok (s : PlI) (W : World) : Prop where
  wa : (Lit.int .i64 s.a).wf = true
  wb : (Lit.int .i64 s.b).wf = true
theorem pl_list {α : Type} : ∀ l : List α, l.length = 2 → ∃ x0 x1, l = [x0, x1]
  | [x0, x1], _ => ⟨x0, x1, rfl⟩
theorem pl_fld {H : Type} {enc : TypeId × Value → H} {P : Program} {w : World} {base : Nat} {spare : Nat → Bool} {held : Bool} {t : TypeId} {fs : Array Field} {fuel : Nat} {cs : List Value} {x : DataW H × List MemPlace} (ht : P.underlying t = some (.struct fs)) (hone : oneCellFields P fs = true) (hC : P.cellsOf t = fs.size)
    (h : DataW.trod enc P w base spare held fuel t cs = some x) : ∃ n, cs.length = fs.size ∧ ∀ (i : Nat) (f : Field), fs[i]? = some f → ∃ y, DataW.trod enc P w base spare held n f.type [cs.getD i undef] = some y := by
  obtain ⟨ys, n, _, _, hl, hyl, hfld⟩ := DataW.trod_struct ht h
  refine ⟨n, hl.trans hC, fun i f hi => ?_⟩
  have hlt : i < fs.size := (Array.getElem?_eq_some_iff.1 hi).1
  obtain ⟨ho, hc1⟩ := hone_of hone i f hi
  have e := hfld i f hi
  rw [ho, hc1, take1_drop _ i undef (by omega)] at e
  have hy : i < ys.length := by omega
  exact ⟨ys[i], by rw [← List.getElem?_eq_getElem hy, ← e]⟩
theorem open_pl {H : Type} {enc : TypeId × Value → H} {W : World} {b0 : Nat} {held : Bool} {v : Value} {d : DataW H} {p : List MemPlace} (hval : Value.okWide Try.prog W .any b0 27 v) (h : DataW.Trod enc Try.prog W 0 (fun _ => true) held 27 v d p) : ∃ s : PlI, v = s.val ∧ s.ok W := by
  obtain ⟨cs, rfl, hsz⟩ : ∃ cs, v = .agg cs ∧ cs.size = Try.prog.cellsOf 27 := by
    simp only [Value.okWide, Try.underlying27] at hval
    obtain ⟨cs, h1, h2, _⟩ := hval
    exact ⟨cs, h1, h2⟩
  have hC : Try.prog.cellsOf 27 = 2 := by kernel_rfl
  rw [hC] at hsz
  obtain ⟨fuel, hf⟩ := h
  have hf : DataW.trod enc Try.prog W 0 (fun _ => true) held fuel 27 cs.toList = some (d, p) := hf
  obtain ⟨x0, x1, hcs⟩ := pl_list cs.toList (by simpa using hsz)
  rw [hcs] at hf
  obtain ⟨n, _, g⟩ := pl_fld Try.underlying27 (by kernel_rfl) (by kernel_rfl) hf
  obtain rfl : cs = #[x0, x1] := by cases cs; simp_all
  clear hval hcs hf
  obtain ⟨y0, hy0⟩ := g 0 _ rfl
  obtain ⟨z0, e0, _, w0⟩ := DataW.trod_int Try.underlying3 hy0
  obtain rfl : x0 = .int .i64 z0 := (List.cons.inj e0).1
  obtain ⟨y1, hy1⟩ := g 1 _ rfl
  obtain ⟨z1, e1, _, w1⟩ := DataW.trod_int Try.underlying3 hy1
  obtain rfl : x1 = .int .i64 z1 := (List.cons.inj e1).1
  exact ⟨⟨z0, z1⟩, rfl, ⟨w0, w1⟩⟩
end Go.Proofs.Ytmahbhoblhhamaa
end

section
set_option linter.unusedVariables false
set_option linter.unusedSimpArgs false
set_option maxRecDepth 10000
namespace Go.Proofs.Ytmahbhoblhhamaa
open Go Reck Ost
def opKs : List CK := [.n .i64, .n .i64, .n .i64, .n .i64, .n .i64, .n .i64]
theorem open_ops {H : Type} {enc : TypeId × Value → H} {W : World} {held : Bool} {A : Option Addr} {len cap : Nat} {d : DataW H} {p : List MemPlace} (h : DataW.Trod enc Try.prog W 0 (fun _ => true) held 22 (.slice A len cap) d p) : ∃ R, CameR opKs W A len cap R := by
  obtain ⟨fuel, hf⟩ := h
  exact open_rowsN (D := 5) (ks := opKs) Try.underlying22 (by kernel_rfl) (by kernel_rfl) (by decide) hf
theorem came_ok {w : World} {A : Option Addr} {len cap : Nat} {R : List (List CV)} (hR : CameR opKs w A len cap R) : len = R.length ∧ len ≤ 9223372036854775807 ∧ ∃ q, Ok w (arE [q]) (arS [opsB R]) w ∧ Reck.av (arE [q]) (cell (rslC ⟨0, 6, 0, len, cap⟩)) = some (.slice A len cap) := by
  obtain ⟨q, h1, h2⟩ := hR.base (by decide) 29
  have hl : len ≤ 9223372036854775807 := by
    have a := hR.2.1
    have b := hR.2.2.1
    have : maxLen ≤ 9223372036854775807 := by decide
    omega
  have hok : Ok w (arE [q]) (arS [opsB R]) w := ok_arrs w (l := [opsB R]) (bs := [q]) rfl (by simp [opsB, rowB]) (by
    intro i x q' hx hq
    cases i with
    | zero => simp at hx hq; subst hx; subst hq; exact h2 _ rfl
    | succ i => simp at hx)
  exact ⟨hR.1.symm, hl, q, hok, h1 (arE [q]) 0 rfl⟩
theorem cablePlays_walk (A : Option Addr) (len cap : Nat) (R : List (List CV)) (w : World) (hR : CameR opKs w A len cap R) :
    Calls Try.prog 3 #[.slice A len cap] w fun e w' => e = .returned (.bool true) ∧ Only (fun _ => False) w w' := by
  obtain ⟨h1, h2, q, h3, h4⟩ := came_ok hR
  exact call_true noOv names (conOk_ofR tN4_ok) (cablePlays_run R len cap h1 h2) h3 (vs := [.slice A len cap]) (by
    simp only [List.map_cons, List.map_nil]
    exact congrArg (fun x => [x]) h4)
theorem cableBoth_walk (A : Option Addr) (len cap : Nat) (R : List (List CV)) (w : World) (hR : CameR opKs w A len cap R) :
    Calls Try.prog 4 #[.slice A len cap] w fun e w' => e = .returned (.bool true) ∧ Only (fun _ => False) w w' := by
  obtain ⟨h1, h2, q, h3, h4⟩ := came_ok hR
  exact call_true noOv names (conOk_ofR tN4_ok) (cableBoth_run R len cap h1 h2) h3 (vs := [.slice A len cap]) (by
    simp only [List.map_cons, List.map_nil]
    exact congrArg (fun x => [x]) h4)
theorem cableUndo_walk (A : Option Addr) (len cap : Nat) (R : List (List CV)) (a b : PlI) (h : Int) (far : Bool) (w : World) (hR : CameR opKs w A len cap R) (ha : a.ok w) (hb : b.ok w) (hh : (Lit.int .i64 h).wf = true) :
    Calls Try.prog 6 #[.slice A len cap, a.val, b.val, .int .i64 h, .bool far] w fun e w' => e = .returned (.bool true) ∧ Only (fun _ => False) w w' := by
  obtain ⟨h1, h2, q, h3, h4⟩ := came_ok hR
  cases far with
  | true =>
    exact call_true noOv names (conOk_ofR tN4_ok) (cableUndoT_run R len cap a.a a.b b.a b.b h h1 h2) h3 (vs := [.slice A len cap, a.val, b.val, .int .i64 h, .bool true]) (by
      simp only [List.map_cons, List.map_nil]
      exact congrArg (fun x => x :: _) h4)
  | false =>
    exact call_true noOv names (conOk_ofR tN4_ok) (cableUndoF_run R len cap a.a a.b b.a b.b h h1 h2) h3 (vs := [.slice A len cap, a.val, b.val, .int .i64 h, .bool false]) (by
      simp only [List.map_cons, List.map_nil]
      exact congrArg (fun x => x :: _) h4)
theorem cableNil_walk (a : PlI) (h : Int) (w : World) (ha : a.ok w) (hh : (Lit.int .i64 h).wf = true) : Calls Try.prog 5 #[a.val, .int .i64 h] w fun en w' => en = .returned (.bool true) ∧ Only (fun _ => False) w w' :=
  call_true noOv names (conOk_ofR tAw19_ok) (cableNil_run a.a a.b h) (ok_none19 w) (vs := [a.val, .int .i64 h]) rfl
end Go.Proofs.Ytmahbhoblhhamaa
end
