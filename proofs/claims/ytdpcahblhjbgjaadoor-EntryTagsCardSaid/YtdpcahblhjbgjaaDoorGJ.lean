/- Parts of a proof, one behind the other: E12 E13. No condition. -/
import Derived.Test.YtdpcahblhjbgjaaDoorGI
section
set_option linter.unusedVariables false
set_option linter.unusedSimpArgs false
set_option maxRecDepth 10000
namespace Go.Proofs.YtdpcahblhjbgjaaDoor
open Go Reck Ost
def tbNw (n c : Nat) (L : Rws) (d : Nat) (M : Rws) (m : Int) : St := ⟨[tbB, shB (rslC ⟨3, 1, 0, n, c⟩) (rslC ⟨4, 16, 0, n, d⟩) m], [], 0, [powA, none, none, some (sB L c), some (eB M d)], 0⟩
def En.ty (e : En) : List Int := U.txt e.p e.a e.b e.c e.d e.x e.s e.t
def En.at (e : En) (now : Int) : En := ⟨e.p, e.a, e.b, e.c, e.d, e.x, e.s, e.t, e.en, e.la, e.o, e.ep, e.i, e.h, now, now⟩
set_option maxHeartbeats 4000000 in
theorem addr_run (K : AV → St → Prop) (L M : Rws) (n c d : Nat) (m : Int) (e : En) (now : Int) (P : Prs) (h : U.shI n c L d M P) (hn : n ≤ 100000) (hk : U.KK e.a e.b e.c e.d e.x e.s e.t) (hp : -9223372036854775808 ≤ e.p ∧ e.p ≤ 9223372036854775807)
    (h1 : ¬ U.May e.p e.a e.b e.c e.d e.x e.s e.t e.o e.i e.h → K (xi .i64 1) (tbSt n c L d M m))
    (h2 : U.May e.p e.a e.b e.c e.d e.x e.s e.t e.o e.i e.h → ¬ U.Room P e.ty m → K (xi .i64 4) (tbSt n c L d M m))
    (h3 : U.May e.p e.a e.b e.c e.d e.x e.s e.t e.o e.i e.h → U.Room P e.ty m → ∀ (L' : Rws) (n' c' : Nat) (M' : Rws) (d' : Nat) (P' : Prs), n' = U.len P' → U.Put P e.ty (e.at now) P' → U.shI n' c' L' d' M' P' → K (xi .i64 0) (tbNw n' c' L' d' M' m)) :
    runV ovI inv0 tEnt 16 [ptr 0 0, .inl (.inr e.cells), xi .i64 now] (tbSt n c L d M m) K := by
  obtain ⟨p, a, b, cc, dd, x, s, t, en, la, o, ep, id, hh, bo, us⟩ := e
  dsimp only [En.ty, En.at] at h1 h2 h3 hk hp
  cases en <;> cases la <;> dsimp only [En.cells] <;> (first | rw [addTT_vc] | rw [addTF_vc] | rw [addFT_vc] | rw [addFF_vc])
  all_goals
    refine ⟨fun hm => ⟨⟨rfl, hp, hk⟩, fun l0 h0 => ?_⟩, h1⟩
    subst h0
    repeat (first | refine ⟨rfl, rfl, rfl, rfl, rfl, rfl, rfl, rfl, rfl, rfl, rfl, rfl, rfl, rfl, rfl, rfl, rfl, rfl, rfl, rfl, rfl, rfl, rfl, rfl, ?_⟩ | refine ⟨⟨rfl, rfl, rfl⟩, ?_⟩)
    refine ⟨P, ⟨⟨rfl, rfl, rfl⟩, h, hn⟩, fun hr L2 n3 c4 M5 d6 P7 e3 e5 e7 => ?_, fun hr => ?_⟩
    · refine ⟨rfl, rfl, rfl, rfl, rfl, rfl, rfl, rfl, rfl, rfl, rfl, rfl, rfl, rfl, rfl, rfl, rfl, rfl, rfl, rfl, rfl, rfl, rfl, rfl, ?_⟩
      exact h3 hm hr L2 n3 c4 M5 d6 P7 e3 e5 e7
    · refine ⟨rfl, rfl, rfl, rfl, rfl, rfl, rfl, rfl, rfl, rfl, rfl, rfl, rfl, rfl, rfl, rfl, rfl, rfl, rfl, rfl, rfl, rfl, rfl, rfl, ?_⟩
      exact h2 hm hr
/-- A tag fits. -/
def U.fit (en : Bool) (ep tag : Int) : Prop := if en then tag = -1 else tag = IntKind.wrap .i64 ep
/-- This entry is matched. -/
structure U.Hit (P : Prs) (k : List Int) (tag now : Int) (p a b c d x s t : Int) (en la : Bool) (o ep i h bo us : Int) : Prop where
  mem : (k, (⟨p, a, b, c, d, x, s, t, en, la, o, ep, i, h, bo, us⟩ : En)) ∈ P
  fit : U.fit en ep tag
  over : ¬ U.Over i h bo us now
structure U.NoHit (P : Prs) (k : List Int) (tag now : Int) : Prop where
  out : ∀ e : En, (k, e) ∈ P → ¬ (U.fit e.en e.ep tag ∧ ¬ U.Over e.i e.h e.bo e.us now)
theorem srt_one {P : Prs} (h : U.Srt P) {k : List Int} {e e' : En} (h1 : (k, e) ∈ P) (h2 : (k, e') ∈ P) : e = e' := by
  obtain ⟨i, hi⟩ := List.getElem?_of_mem h1
  obtain ⟨j, hj⟩ := List.getElem?_of_mem h2
  obtain ⟨li, ei⟩ := List.getElem?_eq_some_iff.1 hi
  obtain ⟨lj, ej⟩ := List.getElem?_eq_some_iff.1 hj
  have hp := List.pairwise_iff_getElem.1 h.out
  rcases Nat.lt_trichotomy i j with hlt | rfl | hlt
  · have := hp i j li lj hlt
    rw [ei, ej] at this; exact (ltS_irr this).elim
  · rw [ei] at ej; exact (Prod.mk.inj ej).2
  · have := hp j i lj li hlt
    rw [ei, ej] at this; exact (ltS_irr this).elim
def MaT (P : Prs) (k : List Int) (tag now : Int) (m : Int) (K : AV → St → Prop) : Prop :=
  ∀ p a b c d x s t o ep i h bo us : Int,
    (U.Hit P k tag now p a b c d x s t true true o ep i h bo us → ∀ (L' : Rws) (n' c' : Nat) (M' : Rws) (d' : Nat) (P' : Prs), n' = U.len P' → U.Put P k ⟨p, a, b, c, d, x, s, t, true, true, o, ep, i, h, bo, now⟩ P' → U.shI n' c' L' d' M' P' → K (geA p a b c d x s t true true o ep i h bo now true) (tbNw n' c' L' d' M' m)) ∧
    (U.Hit P k tag now p a b c d x s t true false o ep i h bo us → ∀ (L' : Rws) (n' c' : Nat) (M' : Rws) (d' : Nat) (P' : Prs), n' = U.len P' → U.Put P k ⟨p, a, b, c, d, x, s, t, true, false, o, ep, i, h, bo, now⟩ P' → U.shI n' c' L' d' M' P' → K (geA p a b c d x s t true false o ep i h bo now true) (tbNw n' c' L' d' M' m)) ∧
    (U.Hit P k tag now p a b c d x s t false true o ep i h bo us → ∀ (L' : Rws) (n' c' : Nat) (M' : Rws) (d' : Nat) (P' : Prs), n' = U.len P' → U.Put P k ⟨p, a, b, c, d, x, s, t, false, true, o, ep, i, h, bo, now⟩ P' → U.shI n' c' L' d' M' P' → K (geA p a b c d x s t false true o ep i h bo now true) (tbNw n' c' L' d' M' m)) ∧
    (U.Hit P k tag now p a b c d x s t false false o ep i h bo us → ∀ (L' : Rws) (n' c' : Nat) (M' : Rws) (d' : Nat) (P' : Prs), n' = U.len P' → U.Put P k ⟨p, a, b, c, d, x, s, t, false, false, o, ep, i, h, bo, now⟩ P' → U.shI n' c' L' d' M' P' → K (geA p a b c d x s t false false o ep i h bo now true) (tbNw n' c' L' d' M' m))
set_option maxHeartbeats 4000000 in
theorem match_run (K : AV → St → Prop) (L M : Rws) (n c d : Nat) (m : Int) (port tag a b cc dd x s t now : Int) (P : Prs) (h : U.shI n c L d M P) (hn : n ≤ 100000) (hk : U.KK a b cc dd x s t) (hp : -9223372036854775808 ≤ port ∧ port ≤ 9223372036854775807)
    (hT : MaT P (U.txt port a b cc dd x s t) tag now m K) (hF : U.NoHit P (U.txt port a b cc dd x s t) tag now → K noA (tbSt n c L d M m)) :
    runV ovI inv0 tEnt 19 [ptr 0 0, xi .i64 port, xi .i64 tag, kyA a b cc dd x s t, xi .i64 now] (tbSt n c L d M m) K := by
  rw [match_vc]
  refine ⟨⟨rfl, hp, hk⟩, fun l0 h0 => ?_⟩
  subst h0
  refine ⟨P, ⟨⟨rfl, rfl, rfl⟩, h, hn⟩, fun p a' b' c' d' x' s' t' o ep i hh bo us => ?_, fun hno => hF ⟨fun e he => (hno ⟨e, he⟩).elim⟩⟩
  obtain ⟨t1, t2, t3, t4⟩ := hT p a' b' c' d' x' s' t' o ep i hh bo us
  have no : ∀ (en la : Bool), (U.txt port a b cc dd x s t, (⟨p, a', b', c', d', x', s', t', en, la, o, ep, i, hh, bo, us⟩ : En)) ∈ P → ¬ (U.fit en ep tag ∧ ¬ U.Over i hh bo us now) → K noA (tbSt n c L d M m) := fun en la hm hx => hF ⟨fun e he => by
    rw [srt_one h.srt he hm]; exact hx⟩
  have rm : ∀ (en la : Bool), (U.txt port a b cc dd x s t, (⟨p, a', b', c', d', x', s', t', en, la, o, ep, i, hh, bo, us⟩ : En)) ∈ P → U.Room P (U.txt port a b cc dd x s t) m := fun en la hm => ⟨.inl ⟨_, hm⟩⟩
  refine ⟨fun hm => ⟨fun ht => ⟨fun ho => no _ _ hm.out (fun hx => hx.2 ho), fun ho => ⟨P, ⟨⟨rfl, rfl, rfl⟩, h, hn⟩, fun hr L' n' c1 M' d1 P' e1 e2 e3 => ?_, fun hr => (hr (rm _ _ hm.out)).elim⟩⟩, fun ht => no _ _ hm.out (fun hx => ht hx.1)⟩,
    fun hm => ⟨fun ht => ⟨fun ho => no _ _ hm.out (fun hx => hx.2 ho), fun ho => ⟨P, ⟨⟨rfl, rfl, rfl⟩, h, hn⟩, fun hr L' n' c1 M' d1 P' e1 e2 e3 => ?_, fun hr => (hr (rm _ _ hm.out)).elim⟩⟩, fun ht => no _ _ hm.out (fun hx => ht hx.1)⟩,
    fun hm z hz => ⟨fun ht => ⟨fun ho => no _ _ hm.out (fun hx => hx.2 ho), fun ho => ⟨P, ⟨⟨rfl, rfl, rfl⟩, h, hn⟩, fun hr L' n' c1 M' d1 P' e1 e2 e3 => ?_, fun hr => (hr (rm _ _ hm.out)).elim⟩⟩, fun ht => no _ _ hm.out (fun hx => ht (hx.1.trans hz.symm))⟩,
    fun hm z hz => ⟨fun ht => ⟨fun ho => no _ _ hm.out (fun hx => hx.2 ho), fun ho => ⟨P, ⟨⟨rfl, rfl, rfl⟩, h, hn⟩, fun hr L' n' c1 M' d1 P' e1 e2 e3 => ?_, fun hr => (hr (rm _ _ hm.out)).elim⟩⟩, fun ht => no _ _ hm.out (fun hx => ht (hx.1.trans hz.symm))⟩⟩
  · refine ⟨rfl, rfl, rfl, rfl, rfl, rfl, rfl, rfl, rfl, rfl, rfl, rfl, rfl, rfl, rfl, rfl, ?_⟩
    exact t1 ⟨hm.out, ht, ho⟩ L' n' c1 M' d1 P' e1 e2 e3
  · refine ⟨rfl, rfl, rfl, rfl, rfl, rfl, rfl, rfl, rfl, rfl, rfl, rfl, rfl, rfl, rfl, rfl, ?_⟩
    exact t2 ⟨hm.out, ht, ho⟩ L' n' c1 M' d1 P' e1 e2 e3
  · refine ⟨rfl, rfl, rfl, rfl, rfl, rfl, rfl, rfl, rfl, rfl, rfl, rfl, rfl, rfl, rfl, rfl, ?_⟩
    exact t3 ⟨hm.out, ht.trans hz, ho⟩ L' n' c1 M' d1 P' e1 e2 e3
  · refine ⟨rfl, rfl, rfl, rfl, rfl, rfl, rfl, rfl, rfl, rfl, rfl, rfl, rfl, rfl, rfl, rfl, ?_⟩
    exact t4 ⟨hm.out, ht.trans hz, ho⟩ L' n' c1 M' d1 P' e1 e2 e3
/-! ### As rows of a table -/
def tbX (σ : St) : Option (Nat × Nat × Rws × Nat × Rws × Int × List Value) :=
  match σ with
  | ⟨[some ⟨63, [.inr (.inl (1, 0))], none, 1, false⟩, some ⟨79, [a, b, m], none, 3, false⟩], [], 0, [some ⟨0, .o (.glob 0 vs), [], 0, true⟩, some ⟨9, .o (.rows [.s] L), [], c0, false⟩, some ⟨50, .o (.rows ks M), [], d0, false⟩], 0⟩ => match rS a, rS b, xiX (cell m), sameK ks eK with
    | some ⟨1, 1, 0, n, c⟩, some ⟨2, 16, 0, n2, d⟩, some (.i64, m), true => some (n, c0, L, d0, M, m, vs)
    | _, _, _, _ => none
  | _ => none
def tbY (σ : St) (vs : List Value) : Prop :=
  match σ with
  | ⟨[_, some ⟨_, [a, b, _], _, _, _⟩], _, _, [_, some ⟨_, _, _, c0, _⟩, some ⟨_, _, _, d0, _⟩], _⟩ => match rS a, rS b with
    | some ⟨_, _, _, n, c⟩, some ⟨_, _, _, n2, d⟩ => vs = U.pow ∧ c = c0 ∧ d = d0 ∧ n2 = n
    | _, _ => False
  | _ => False
theorem tbX_eq {σ : St} {n c d : Nat} {L M : Rws} {m : Int} {vs : List Value} (h : tbX σ = some (n, c, L, d, M, m, vs)) (hy : tbY σ vs) : σ = tbSt n c L d M m := by
  unfold tbX at h
  split at h
  · split at h
    · rename_i h1 h2 h3 h4
      simp only [Option.some.injEq, Prod.mk.injEq] at h
      obtain ⟨rfl, rfl, rfl, rfl, rfl, rfl, rfl⟩ := h
      simp only [tbY, h1, h2] at hy
      obtain ⟨rfl, rfl, rfl, rfl⟩ := hy
      rw [rS_eq h1, rS_eq h2, cell_inj' (xiX_eq h3), sameK_eq h4]; rfl
    · cases h
  · cases h
def pAdd : Pat := fun args σ => match args with
  | [.inl (.inl (.inr (.inl (0, 0)))), .inl (.inr l), now] => match eX l, intX now, tbX σ with
    | some e, some (.i64, now), some (n, c, L, d, M, m, vs) => some fun K => ∃ P, (tbY σ vs ∧ U.shI n c L d M P ∧ n ≤ 100000 ∧ U.KK e.a e.b e.c e.d e.x e.s e.t ∧ -9223372036854775808 ≤ e.p ∧ e.p ≤ 9223372036854775807) ∧
      (¬ U.May e.p e.a e.b e.c e.d e.x e.s e.t e.o e.i e.h → K (xi .i64 1) (tbSt n c L d M m)) ∧
      (U.May e.p e.a e.b e.c e.d e.x e.s e.t e.o e.i e.h → (¬ U.Room P (U.txt e.p e.a e.b e.c e.d e.x e.s e.t) m → K (xi .i64 4) (tbSt n c L d M m)) ∧
      (U.Room P (U.txt e.p e.a e.b e.c e.d e.x e.s e.t) m → ∀ (L' : Rws) (n' c' : Nat) (M' : Rws) (d' : Nat) (P' : Prs), n' = U.len P' → U.Put P (U.txt e.p e.a e.b e.c e.d e.x e.s e.t) ⟨e.p, e.a, e.b, e.c, e.d, e.x, e.s, e.t, e.en, e.la, e.o, e.ep, e.i, e.h, now, now⟩ P' → U.shI n' c' L' d' M' P' → K (xi .i64 0) (tbNw n' c' L' d' M' m)))
    | _, _, _ => none
  | _ => none
theorem pAdd_ok : PatOk 16 pAdd := by
  intro tm σ C h K hK w0 e w hk vs hvs
  unfold pAdd at h
  split at h
  · split at h
    · rename_i hl hn hσ
      simp only [Option.some.injEq] at h; subst h
      obtain ⟨P, ⟨hy, h1, h2, h3, h4⟩, h5, h6⟩ := hK
      obtain rfl := tbX_eq hσ hy
      obtain rfl := eX_eq hl
      obtain ⟨x, y, z, rfl, q1, q2, q3⟩ := threes hvs
      exact knownD noOv names (opMV_ok ovIs) (conOk_ofR tEnt_ok) (addr_run K _ _ _ _ _ _ _ _ P h1 h2 h3 h4 h5 (fun a b => (h6 a).1 b) (fun a b => (h6 a).2 b)) w0 e w hk _ (three_map q1 q2 (as_int hn q3))
    · cases h
  · cases h
def pMatch : Pat := fun args σ => match args with
  | [.inl (.inl (.inr (.inl (0, 0)))), port, tag, .inl (.inr l), now] => match intX port, intX tag, kyX l, intX now, tbX σ with
    | some (.i64, port), some (.i64, tag), some [a, b, cc, dd, x, s, t], some (.i64, now), some (n, c, L, d, M, m, vs) => some fun K => ∃ P, (tbY σ vs ∧ U.shI n c L d M P ∧ n ≤ 100000 ∧ U.KK a b cc dd x s t ∧ -9223372036854775808 ≤ port ∧ port ≤ 9223372036854775807) ∧
      MaT P (U.txt port a b cc dd x s t) tag now m K ∧ (U.NoHit P (U.txt port a b cc dd x s t) tag now → K noA (tbSt n c L d M m))
    | _, _, _, _, _ => none
  | _ => none
theorem fives {e : Env} {x1 x2 x3 x4 x5 : AV} {vs : List Value} (h : [x1, x2, x3, x4, x5].map (Reck.av e) = vs.map some) : ∃ a b c d f, vs = [a, b, c, d, f] ∧ Reck.av e x1 = some a ∧ Reck.av e x2 = some b ∧ Reck.av e x3 = some c ∧ Reck.av e x4 = some d ∧ Reck.av e x5 = some f := by
  match vs, map_len h with
  | [a, b, c, d, f], _ => simp at h; exact ⟨a, b, c, d, f, rfl, h.1, h.2.1, h.2.2.1, h.2.2.2.1, h.2.2.2.2⟩
theorem five_map {e : Env} {x1 x2 x3 x4 x5 : AV} {a b c d f : Value} (h1 : Reck.av e x1 = some a) (h2 : Reck.av e x2 = some b) (h3 : Reck.av e x3 = some c) (h4 : Reck.av e x4 = some d) (h5 : Reck.av e x5 = some f) : [x1, x2, x3, x4, x5].map (Reck.av e) = [a, b, c, d, f].map some := by
  rw [List.map_cons, List.map_cons, List.map_cons, List.map_cons, List.map_cons, List.map_nil, h1, h2, h3, h4, h5]; rfl
theorem pMatch_ok : PatOk 19 pMatch := by
  intro tm σ C h K hK w0 e w hk vs hvs
  unfold pMatch at h
  split at h
  · split at h
    · rename_i hp ht hl hn hσ
      simp only [Option.some.injEq] at h; subst h
      obtain ⟨P, ⟨hy, h1, h2, h3, h4⟩, h5, h6⟩ := hK
      obtain rfl := tbX_eq hσ hy
      obtain rfl := kyX_eq hl
      obtain ⟨v1, v2, v3, v4, v5, rfl, q1, q2, q3, q4, q5⟩ := fives hvs
      exact knownD noOv names (opMV_ok ovIs) (conOk_ofR tEnt_ok) (match_run K _ _ _ _ _ _ _ _ _ _ _ _ _ _ _ _ P h1 h2 h3 h4 h5 h6) w0 e w hk _ (five_map q1 (as_int hp q2) (as_int ht q3) q4 (as_int hn q5))
    · cases h
  · cases h
def tTab : Tbl := tblOr (tblIf 16 pAdd) (tblOr (tblIf 19 pMatch) tEnt)
theorem tTab_ok : TblOk Tryd.prog tTab := tblOr_ok (tblIf_ok pAdd_ok) (tblOr_ok (tblIf_ok pMatch_ok) tEnt_ok)
end Go.Proofs.YtdpcahblhjbgjaaDoor
end

section
namespace Go.Proofs.YtdpcahblhjbgjaaDoor
open Go Reck Ost
set_option linter.unusedVariables false
set_option maxRecDepth 100000
/-- An entry that may be, for which there is room. -/
def pAddY : Pat := fun args σ => match args with
  | [.inl (.inl (.inr (.inl (0, 0)))), .inl (.inr l), now] => match eX l, intX now, tbX σ with
    | some e, some (.i64, now), some (n, c, L, d, M, m, vs) => some fun K => ∃ P, (tbY σ vs ∧ U.shI n c L d M P ∧ n ≤ 100000 ∧ U.KK e.a e.b e.c e.d e.x e.s e.t ∧ U.May e.p e.a e.b e.c e.d e.x e.s e.t e.o e.i e.h ∧ U.Room P (U.txt e.p e.a e.b e.c e.d e.x e.s e.t) m) ∧
      ∀ (L' : Rws) (n' c' : Nat) (M' : Rws) (d' : Nat) (P' : Prs), n' = U.len P' → U.Put P (U.txt e.p e.a e.b e.c e.d e.x e.s e.t) ⟨e.p, e.a, e.b, e.c, e.d, e.x, e.s, e.t, e.en, e.la, e.o, e.ep, e.i, e.h, now, now⟩ P' → U.shI n' c' L' d' M' P' → K (xi .i64 0) (tbNw n' c' L' d' M' m)
    | _, _, _ => none
  | _ => none
theorem pAddY_ok : PatOk 16 pAddY := by
  intro tm σ C h K hK w0 e w hk vs hvs
  unfold pAddY at h
  split at h
  · split at h
    · rename_i hl hn hσ
      simp only [Option.some.injEq] at h; subst h
      obtain ⟨P, ⟨hy, h1, h2, h3, h4, h5⟩, h6⟩ := hK
      obtain rfl := tbX_eq hσ hy
      obtain rfl := eX_eq hl
      obtain ⟨x, y, z, rfl, q1, q2, q3⟩ := threes hvs
      have hp := h4.p
      exact knownD noOv names (opMV_ok ovIs) (conOk_ofR tEnt_ok) (addr_run K _ _ _ _ _ _ _ _ P h1 h2 h3 (by omega) (fun a => (a h4).elim) (fun _ b => (b h5).elim) (fun _ _ => h6)) w0 e w hk _ (three_map q1 q2 (as_int hn q3))
    · cases h
  · cases h
theorem hit_one {P : Prs} (hs : U.Srt P) {k : List Int} {tag now : Int} {p a b c d x s t : Int} {en la : Bool} {o ep i h bo us : Int} (hh : U.Hit P k tag now p a b c d x s t en la o ep i h bo us) {p' a' b' c' d' x' s' t' : Int} {en' la' : Bool} {o' ep' i' h' bo' us' : Int} (h2 : U.Hit P k tag now p' a' b' c' d' x' s' t' en' la' o' ep' i' h' bo' us') :
    (⟨p', a', b', c', d', x', s', t', en', la', o', ep', i', h', bo', us'⟩ : En) = ⟨p, a, b, c, d, x, s, t, en, la, o, ep, i, h, bo, us⟩ := srt_one hs h2.mem hh.mem
/-- The example's questions: the first one is answered by that entry (Enter, not Last), no other one by any. -/
def pMatA : Pat := fun args σ => match args with
  | [.inl (.inl (.inr (.inl (0, 0)))), port, tag, .inl (.inr l), now] => match intX port, intX tag, kyX l, intX now, tbX σ with
    | some (.i64, port), some (.i64, tag), some [a, b, cc, dd, x, s, t], some (.i64, now), some (n, c, L, d, M, m, vs) => if decide (now = 14) && decide (tag = -1) then
        some fun K => ∃ P, (tbY σ vs ∧ U.shI n c L d M P ∧ n ≤ 100000 ∧ U.KK a b cc dd x s t ∧ -9223372036854775808 ≤ port ∧ port ≤ 9223372036854775807) ∧ ∃ p a' b' c' d' x' s' t' o ep i h bo us : Int, U.Hit P (U.txt port a b cc dd x s t) tag now p a' b' c' d' x' s' t' true false o ep i h bo us ∧
          ∀ (L' : Rws) (n' c'' : Nat) (M' : Rws) (d'' : Nat) (P' : Prs), n' = U.len P' → U.Put P (U.txt port a b cc dd x s t) ⟨p, a', b', c', d', x', s', t', true, false, o, ep, i, h, bo, now⟩ P' → U.shI n' c'' L' d'' M' P' → K (geA p a' b' c' d' x' s' t' true false o ep i h bo now true) (tbNw n' c'' L' d'' M' m)
      else some fun K => ∃ P, (tbY σ vs ∧ U.shI n c L d M P ∧ n ≤ 100000 ∧ U.KK a b cc dd x s t ∧ -9223372036854775808 ≤ port ∧ port ≤ 9223372036854775807) ∧ U.NoHit P (U.txt port a b cc dd x s t) tag now ∧ K noA (tbSt n c L d M m)
    | _, _, _, _, _ => none
  | _ => none
theorem pMatA_ok : PatOk 19 pMatA := by
  intro tm σ C h K hK w0 e w hk vs hvs
  unfold pMatA at h
  split at h
  · split at h
    · rename_i hp ht hl hn hσ
      split at h
      · simp only [Option.some.injEq] at h; subst h
        obtain ⟨P, ⟨hy, h1, h2, h3, h4⟩, p, a', b', c', d', x', s', t', o, ep, i, hh, bo, us, hit, hK⟩ := hK
        obtain rfl := tbX_eq hσ hy
        obtain rfl := kyX_eq hl
        obtain ⟨v1, v2, v3, v4, v5, rfl, q1, q2, q3, q4, q5⟩ := fives hvs
        refine knownD noOv names (opMV_ok ovIs) (conOk_ofR tEnt_ok) (match_run K _ _ _ _ _ _ _ _ _ _ _ _ _ _ _ _ P h1 h2 h3 h4 ?_ (fun hno => (hno.out _ hit.mem ⟨hit.fit, hit.over⟩).elim)) w0 e w hk _ (five_map q1 (as_int hp q2) (as_int ht q3) q4 (as_int hn q5))
        intro p1 a1 b1 c1 d1 x1 s1 t1 o1 ep1 i1 h1' bo1 us1
        refine ⟨fun h2' => ?_, fun h2' => ?_, fun h2' => ?_, fun h2' => ?_⟩
        all_goals have he := hit_one h1.srt hit h2'
        all_goals simp only [En.mk.injEq] at he
        · exact absurd he.2.2.2.2.2.2.2.2.2.1 (by decide)
        · obtain ⟨rfl, rfl, rfl, rfl, rfl, rfl, rfl, rfl, -, -, rfl, rfl, rfl, rfl, rfl, rfl⟩ := he
          exact hK
        · exact absurd he.2.2.2.2.2.2.2.2.1 (by decide)
        · exact absurd he.2.2.2.2.2.2.2.2.1 (by decide)
      · simp only [Option.some.injEq] at h; subst h
        obtain ⟨P, ⟨hy, h1, h2, h3, h4⟩, hno, hK⟩ := hK
        obtain rfl := tbX_eq hσ hy
        obtain rfl := kyX_eq hl
        obtain ⟨v1, v2, v3, v4, v5, rfl, q1, q2, q3, q4, q5⟩ := fives hvs
        refine knownD noOv names (opMV_ok ovIs) (conOk_ofR tEnt_ok) (match_run K _ _ _ _ _ _ _ _ _ _ _ _ _ _ _ _ P h1 h2 h3 h4 ?_ (fun _ => hK)) w0 e w hk _ (five_map q1 (as_int hp q2) (as_int ht q3) q4 (as_int hn q5))
        intro p1 a1 b1 c1 d1 x1 s1 t1 o1 ep1 i1 h1' bo1 us1
        exact ⟨fun h2' => (hno.out _ h2'.mem ⟨h2'.fit, h2'.over⟩).elim, fun h2' => (hno.out _ h2'.mem ⟨h2'.fit, h2'.over⟩).elim, fun h2' => (hno.out _ h2'.mem ⟨h2'.fit, h2'.over⟩).elim, fun h2' => (hno.out _ h2'.mem ⟨h2'.fit, h2'.over⟩).elim⟩
    · cases h
  · cases h
def tAwk : Tbl := tblOr (tblIf 16 pAddY) (tblOr (tblIf 19 pMatA) tEnt)
theorem tAwk_ok : TblOk Tryd.prog tAwk := tblOr_ok (tblIf_ok pAddY_ok) (tblOr_ok (tblIf_ok pMatA_ok) tEnt_ok)
--PLAIN
theorem awake_vc (K : AV → St → Prop) : (runV ovI inv0 tAwk 15 [] powSt K) = (∀ (z0 : Int), z0 = (4 : Int) → ∃ (y1 : Prs), ((U.pow = U.pow ∧ (0 : Nat) = (0 : Nat) ∧ (0 : Nat) = (0 : Nat) ∧ (0 : Nat) = (0 : Nat)) ∧ U.shI (0 : Nat) (0 : Nat) U.nilL (0 : Nat) U.nilL y1 ∧ (0 : Nat) ≤ (100000 : Nat) ∧ U.KK (1 : Int) (2 : Int) (3 : Int) (4 : Int) (6 : Int) (5 : Int) (80 : Int) ∧ U.May (1 : Int) (1 : Int) (2 : Int) (3 : Int) (4 : Int) (6 : Int) (5 : Int) (80 : Int) (2 : Int) (5 : Int) (0 : Int) ∧ U.Room y1 (U.txt (1 : Int) (1 : Int) (2 : Int) (3 : Int) (4 : Int) (6 : Int) (5 : Int) (80 : Int)) z0) ∧ ∀ (L'2 : Rws) (n'3 c'4 : Nat) (M'5 : Rws) (d'6 : Nat) (P'7 : Prs), n'3 = U.len P'7 → U.Put y1 (U.txt (1 : Int) (1 : Int) (2 : Int) (3 : Int) (4 : Int) (6 : Int) (5 : Int) (80 : Int)) { p := (1 : Int), a := (1 : Int), b := (2 : Int), c := (3 : Int), d := (4 : Int), x := (6 : Int), s := (5 : Int), t := (80 : Int), en := true, la := false, o := (2 : Int), ep := (0 : Int), i := (5 : Int), h := (0 : Int), bo := (10 : Int), us := (10 : Int) } P'7 → U.shI n'3 c'4 L'2 d'6 M'5 P'7 → ∃ (y8 : Prs), ((U.pow = U.pow ∧ c'4 = c'4 ∧ d'6 = d'6 ∧ n'3 = n'3) ∧ U.shI n'3 c'4 L'2 d'6 M'5 y8 ∧ n'3 ≤ (100000 : Nat) ∧ U.KK (1 : Int) (2 : Int) (3 : Int) (4 : Int) (6 : Int) (5 : Int) (80 : Int) ∧ (-9223372036854775808 : Int) ≤ (1 : Int) ∧ (1 : Int) ≤ (9223372036854775807 : Int)) ∧ ∃ (y9 : Int), ∃ (y10 : Int), ∃ (y11 : Int), ∃ (y12 : Int), ∃ (y13 : Int), ∃ (y14 : Int), ∃ (y15 : Int), ∃ (y16 : Int), ∃ (y17 : Int), ∃ (y18 : Int), ∃ (y19 : Int), ∃ (y20 : Int), ∃ (y21 : Int), ∃ (y22 : Int), U.Hit y8 (U.txt (1 : Int) (1 : Int) (2 : Int) (3 : Int) (4 : Int) (6 : Int) (5 : Int) (80 : Int)) (-1 : Int) (14 : Int) y9 y10 y11 y12 y13 y14 y15 y16 true false y17 y18 y19 y20 y21 y22 ∧ ∀ (L'23 : Rws) (n'24 c''25 : Nat) (M'26 : Rws) (d''27 : Nat) (P'28 : Prs), n'24 = U.len P'28 → U.Put y8 (U.txt (1 : Int) (1 : Int) (2 : Int) (3 : Int) (4 : Int) (6 : Int) (5 : Int) (80 : Int)) { p := y9, a := y10, b := y11, c := y12, d := y13, x := y14, s := y15, t := y16, en := true, la := false, o := y17, ep := y18, i := y19, h := y20, bo := y21, us := (14 : Int) } P'28 → U.shI n'24 c''25 L'23 d''27 M'26 P'28 → ∃ (y29 : Prs), ((U.pow = U.pow ∧ c''25 = c''25 ∧ d''27 = d''27 ∧ n'24 = n'24) ∧ U.shI n'24 c''25 L'23 d''27 M'26 y29 ∧ n'24 ≤ (100000 : Nat) ∧ U.KK (1 : Int) (2 : Int) (3 : Int) (4 : Int) (6 : Int) (5 : Int) (80 : Int) ∧ (-9223372036854775808 : Int) ≤ (1 : Int) ∧ (1 : Int) ≤ (9223372036854775807 : Int)) ∧ U.NoHit y29 (U.txt (1 : Int) (1 : Int) (2 : Int) (3 : Int) (4 : Int) (6 : Int) (5 : Int) (80 : Int)) (-1 : Int) (19 : Int) ∧ ∃ (y30 : Prs), ((U.pow = U.pow ∧ c''25 = c''25 ∧ d''27 = d''27 ∧ n'24 = n'24) ∧ U.shI n'24 c''25 L'23 d''27 M'26 y30 ∧ n'24 ≤ (100000 : Nat) ∧ U.KK (1 : Int) (2 : Int) (3 : Int) (4 : Int) (6 : Int) (5 : Int) (80 : Int) ∧ (-9223372036854775808 : Int) ≤ (1 : Int) ∧ (1 : Int) ≤ (9223372036854775807 : Int)) ∧ U.NoHit y30 (U.txt (1 : Int) (1 : Int) (2 : Int) (3 : Int) (4 : Int) (6 : Int) (5 : Int) (80 : Int)) (0 : Int) (14 : Int) ∧ ((0 : Int) = (0 : Int) → ∀ (z31 : Int), z31 = (↑n'24 : Int) → (z31 = (1 : Int) → K (Sum.inl (Sum.inl (Sum.inl (Value.bool true)))) { heap := [], ints := [], opqs := (0 : Nat), arrs := [some { elem := (0 : Nat), k := AK.o (Obj.glob (0 : Nat) U.pow), l := [], cap := (0 : Nat), ro := true }], junks := (0 : Nat) }) ∧ (¬z31 = (1 : Int) → K (Sum.inl (Sum.inl (Sum.inl (Value.bool false)))) { heap := [], ints := [], opqs := (0 : Nat), arrs := [some { elem := (0 : Nat), k := AK.o (Obj.glob (0 : Nat) U.pow), l := [], cap := (0 : Nat), ro := true }], junks := (0 : Nat) })) ∧ (¬(0 : Int) = (0 : Int) → K (Sum.inl (Sum.inl (Sum.inl (Value.bool false)))) { heap := [], ints := [], opqs := (0 : Nat), arrs := [some { elem := (0 : Nat), k := AK.o (Obj.glob (0 : Nat) U.pow), l := [], cap := (0 : Nat), ro := true }], junks := (0 : Nat) })) := by kernel_rfl
end Go.Proofs.YtdpcahblhjbgjaaDoor
end
