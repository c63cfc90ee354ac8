/- Parts of a proof, one behind the other: E2 E3. No condition. -/
import Derived.Test.YtdpcahblhjbgjaaDoorGE
section
set_option linter.unusedVariables false
set_option linter.unusedSimpArgs false
namespace Go.Proofs.YtdpcahblhjbgjaaDoor
open Go Reck Ost
theorem ovIs : ovI.all (isOverlaps Tryd.prog) = true := by kernel_rfl
theorem off_of {o : Nat} {c l b : Int} (h : (o : Int) = if c = l then b else b + l) (hc : ¬ c = l ∨ l = 0) : (o : Int) = b + l := by
  split at h <;> omega
set_option maxHeartbeats 4000000 in
theorem insS_run (K : AV → St → Prop) (L A : Rws) (n c : Nat) (i : Int) (k : List Int) (h : U.Fu L n c A) (hi : 0 ≤ i ∧ i ≤ n) (hn : n + 1 ≤ 1000000)
    (hA : ∀ (L' : Rws) (c' : Nat), U.Fu L' (n + 1) c' (U.insR A i [.s k]) → K (cell (rslC ⟨1, 1, 0, n + 1, c'⟩)) ⟨[some ⟨9, [strC k], none, 1, false⟩], [], 0, [none, some (sB L' c')], 0⟩)
    (hB : ∀ (L' : Rws) (c' : Nat), U.Fu L' (n + 1) c' (U.insR A i [.s k]) → K (cell (rslC ⟨1, 1, 0, n + 1, c'⟩)) ⟨[some ⟨9, [strC k], none, 1, false⟩], [], 0, [some (sB L c), some (sB L' c')], 0⟩)
    (hC : ∀ (L' : Rws) (c' : Nat), U.Fu L' (n + 1) c' (U.insR A i [.s k]) → K (cell (rslC ⟨0, 1, 0, n + 1, c'⟩)) ⟨[some ⟨9, [strC k], none, 1, false⟩], [], 0, [some (sB L' c')], 0⟩) :
    runV ovI inv0 tbl0 49 [cell (rslC ⟨0, 1, 0, n, c⟩), xi .i64 i, sl ⟨0, 0, 1, none, 1⟩] ⟨[some ⟨9, [strC k], none, 1, false⟩], [], 0, [some (sB L c)], 0⟩ K := by
  rw [insS_vc]
  have hl := h.len
  have hle := h.le
  have tk : L.take c = L := List.take_of_length_le (by omega)
  obtain ⟨j, rfl⟩ : ∃ j : Nat, i = j := ⟨i.toNat, by omega⟩
  refine ⟨⟨by omega, by omega, by omega⟩, fun o0 n1 c2 _ h1 h2 z3 h3 => ⟨fun hin => ⟨⟨by omega, by omega⟩, trivial, by omega, by omega, fun L4 T5 n6 c7 e4 e6 e7 e8 => ?_⟩, fun hin z8 h8 z9 h9 => ⟨fun hlt => ⟨⟨by omega, by omega, by omega⟩, fun o10 n11 c12 h10 h11 h12 z13 h13 z14 h14 => ?_⟩, fun hge z31 h31 => ?_⟩⟩⟩
  · subst e6
    rw [List.drop_zero, tk] at e4
    have hj : j = n := by omega
    subst hj
    exact hA _ _ (insA h e4 e8 e7 hn)
  · replace h8 := iw h8 (by omega)
    replace h13 := iw h13 (by omega)
    replace h14 := iw h14 (by omega)
    replace h10 := off_of (l := 0) h10 (.inr rfl)
    obtain rfl : o10 = 0 := by omega
    obtain rfl : n11 = j := by omega
    obtain rfl : c12 = c := by omega
    refine ⟨⟨by omega, by omega⟩, by omega, ⟨by omega, by omega⟩, by omega, fun L15 T16 n17 c18 e15 e17 e18 e19 => ?_⟩
    obtain rfl : n17 = n + 1 := by omega
    refine ⟨⟨by omega, by omega, by omega⟩, fun o19 n20 c21 h19 h20 h21 => ?_⟩
    have q19 : ¬ (c18 : Int) = n11 := by clear h19; omega
    replace h19 := off_of (l := n11) h19 (.inl q19)
    obtain rfl : o19 = n11 := by omega
    refine ⟨⟨by omega, trivial⟩, fun n22 L23 h22 e23 z24 h24 => ?_⟩
    replace h24 := iw h24 (by omega)
    refine ⟨⟨by omega, by omega, by omega⟩, fun o25 n26 c27 h25 h26 h27 => ?_⟩
    have q25 : ¬ (c18 : Int) = z24 := by clear h25; omega
    replace h25 := off_of (l := z24) h25 (.inl q25)
    refine ⟨⟨by omega, by omega, by omega⟩, fun o28 n29 c30 h28 h29 h30 => ?_⟩
    have q28 : ¬ (c12 : Int) = o19 := by clear h28; omega
    replace h28 := off_of (l := o19) h28 (.inl q28)
    obtain ⟨f23, l23⟩ := mid_one e23 (by omega) (by omega)
    clear e23
    obtain rfl : o25 = o19 + 1 := by omega
    obtain rfl : o28 = o19 := by omega
    refine ⟨⟨by omega, (by omega : o28 + n29 ≤ L.length)⟩, fun n31 L32 h31 e32 => ?_⟩
    obtain rfl : n31 = n - o28 := by omega
    obtain ⟨f32, l32⟩ := mid_row (k := n + 1) e32 (by omega) (by omega) (by omega) (by omega)
    rw [List.drop_zero, tk, show z14.toNat = n + 1 - o28 by omega] at e15
    exact hB _ _ (insB h (by omega) e15 e19 e18 f23 f32 hn)
  · replace h8 := iw h8 (by omega)
    replace h31 := iw h31 (by omega)
    refine ⟨⟨by omega, by omega, by omega⟩, fun o32 n33 c34 h32 h33 h34 z35 h35 => ?_⟩
    replace h32 := off_of (l := 0) h32 (.inr rfl)
    replace h35 := iw h35 (by omega)
    obtain rfl : o32 = 0 := by omega
    obtain rfl : n33 = n + 1 := by omega
    obtain rfl : c34 = c := by omega
    refine ⟨⟨by omega, by omega, by omega⟩, fun o36 n37 c38 h36 h37 h38 => ?_⟩
    have q36 : ¬ (c34 : Int) = z35 := by clear h36; omega
    replace h36 := off_of (l := z35) h36 (.inl q36)
    refine ⟨by omega, fun z39 h39 => ?_⟩
    replace h39 := iw h39 (by omega)
    refine ⟨⟨by omega, by omega, by omega⟩, fun o40 n41 c42 h40 h41 h42 => ?_⟩
    have q40 : ¬ (c34 : Int) = z39 := by clear h40; omega
    replace h40 := off_of (l := z39) h40 (.inl q40)
    refine ⟨⟨by omega, by omega, by omega⟩, fun o43 n44 c45 h43 h44 h45 => ?_⟩
    have q43 : ¬ (c34 : Int) = j := by clear h43; omega
    replace h43 := off_of (l := j) h43 (.inl q43)
    obtain rfl : o40 = j + 1 := by omega
    obtain rfl : o43 = j := by omega
    refine ⟨⟨by omega, (by omega : o43 + n44 ≤ L.length)⟩, fun n46 L47 h46 e47 => ⟨⟨by omega, by omega, by omega⟩, fun o48 n49 c50 h48 h49 h50 => ?_⟩⟩
    have q48 : ¬ (c34 : Int) = o43 := by clear h48; omega
    replace h48 := off_of (l := o43) h48 (.inl q48)
    obtain rfl : o48 = o43 := by omega
    obtain rfl : n46 = n - o48 := by omega
    obtain ⟨f47, l47⟩ := mid_row (k := n + 1) e47 (by omega) (by omega) (by omega) (by omega)
    clear e47
    refine ⟨⟨by omega, trivial⟩, fun n51 L52 h51 e52 => ?_⟩
    obtain ⟨f52, l52⟩ := mid_one e52 (by omega) (by omega)
    exact hC _ _ (insC h (by omega) (by omega) f47 f52 hn)
set_option maxHeartbeats 4000000 in
theorem insE_run (K : AV → St → Prop) (L A : Rws) (n c : Nat) (i : Int) (p a b cc d x s t : Int) (en la : Bool) (o ep id hh bo us : Int) (h : U.Fu L n c A) (hi : 0 ≤ i ∧ i ≤ n) (hn : n + 1 ≤ 1000000)
    (hA : ∀ (L' : Rws) (c' : Nat), U.Fu L' (n + 1) c' (U.insR A i (U.eR p a b cc d x s t en la o ep id hh bo us)) → K (cell (rslC ⟨1, 16, 0, n + 1, c'⟩)) ⟨[some ⟨50, eC p a b cc d x s t en la o ep id hh bo us, none, 16, false⟩], [], 0, [none, some (eB L' c')], 0⟩)
    (hB : ∀ (L' : Rws) (c' : Nat), U.Fu L' (n + 1) c' (U.insR A i (U.eR p a b cc d x s t en la o ep id hh bo us)) → K (cell (rslC ⟨1, 16, 0, n + 1, c'⟩)) ⟨[some ⟨50, eC p a b cc d x s t en la o ep id hh bo us, none, 16, false⟩], [], 0, [some (eB L c), some (eB L' c')], 0⟩)
    (hC : ∀ (L' : Rws) (c' : Nat), U.Fu L' (n + 1) c' (U.insR A i (U.eR p a b cc d x s t en la o ep id hh bo us)) → K (cell (rslC ⟨0, 16, 0, n + 1, c'⟩)) ⟨[some ⟨50, eC p a b cc d x s t en la o ep id hh bo us, none, 16, false⟩], [], 0, [some (eB L' c')], 0⟩) :
    runV ovI inv0 tbl0 50 [cell (rslC ⟨0, 16, 0, n, c⟩), xi .i64 i, sl ⟨0, 0, 1, none, 1⟩] ⟨[some ⟨50, eC p a b cc d x s t en la o ep id hh bo us, none, 16, false⟩], [], 0, [some (eB L c)], 0⟩ K := by
  rw [insE_vc]
  have hl := h.len
  have hle := h.le
  have tk : L.take c = L := List.take_of_length_le (by omega)
  obtain ⟨j, rfl⟩ : ∃ j : Nat, i = j := ⟨i.toNat, by omega⟩
  refine ⟨⟨by omega, by omega, by omega⟩, fun o0 n1 c2 _ h1 h2 z3 h3 => ⟨fun hin => ⟨⟨by omega, by omega⟩, trivial, by omega, by omega, fun L4 T5 n6 c7 e4 e6 e7 e8 => ?_⟩, fun hin z8 h8 z9 h9 => ⟨fun hlt => ⟨⟨by omega, by omega, by omega⟩, fun o10 n11 c12 h10 h11 h12 z13 h13 z14 h14 => ?_⟩, fun hge z31 h31 => ?_⟩⟩⟩
  · subst e6
    rw [List.drop_zero, tk] at e4
    have hj : j = n := by omega
    subst hj
    exact hA _ _ (insA h e4 e8 e7 hn)
  · replace h8 := iw h8 (by omega)
    replace h13 := iw h13 (by omega)
    replace h14 := iw h14 (by omega)
    replace h10 := off_of (l := 0) h10 (.inr rfl)
    obtain rfl : o10 = 0 := by omega
    obtain rfl : n11 = j := by omega
    obtain rfl : c12 = c := by omega
    refine ⟨⟨by omega, by omega⟩, by omega, ⟨by omega, by omega⟩, by omega, fun L15 T16 n17 c18 e15 e17 e18 e19 => ?_⟩
    obtain rfl : n17 = n + 1 := by omega
    refine ⟨⟨by omega, by omega, by omega⟩, fun o19 n20 c21 h19 h20 h21 => ?_⟩
    have q19 : ¬ (c18 : Int) = n11 := by clear h19; omega
    replace h19 := off_of (l := n11) h19 (.inl q19)
    obtain rfl : o19 = n11 := by omega
    refine ⟨⟨by omega, trivial⟩, fun n22 L23 h22 e23 z24 h24 => ?_⟩
    replace h24 := iw h24 (by omega)
    refine ⟨⟨by omega, by omega, by omega⟩, fun o25 n26 c27 h25 h26 h27 => ?_⟩
    have q25 : ¬ (c18 : Int) = z24 := by clear h25; omega
    replace h25 := off_of (l := z24) h25 (.inl q25)
    refine ⟨⟨by omega, by omega, by omega⟩, fun o28 n29 c30 h28 h29 h30 => ?_⟩
    have q28 : ¬ (c12 : Int) = o19 := by clear h28; omega
    replace h28 := off_of (l := o19) h28 (.inl q28)
    obtain ⟨f23, l23⟩ := mid_one e23 (by omega) (by omega)
    clear e23
    obtain rfl : o25 = o19 + 1 := by omega
    obtain rfl : o28 = o19 := by omega
    refine ⟨⟨by omega, (by omega : o28 + n29 ≤ L.length)⟩, fun n31 L32 h31 e32 => ?_⟩
    obtain rfl : n31 = n - o28 := by omega
    obtain ⟨f32, l32⟩ := mid_row (k := n + 1) e32 (by omega) (by omega) (by omega) (by omega)
    rw [List.drop_zero, tk, show z14.toNat = n + 1 - o28 by omega] at e15
    exact hB _ _ (insB h (by omega) e15 e19 e18 f23 f32 hn)
  · replace h8 := iw h8 (by omega)
    replace h31 := iw h31 (by omega)
    refine ⟨⟨by omega, by omega, by omega⟩, fun o32 n33 c34 h32 h33 h34 z35 h35 => ?_⟩
    replace h32 := off_of (l := 0) h32 (.inr rfl)
    replace h35 := iw h35 (by omega)
    obtain rfl : o32 = 0 := by omega
    obtain rfl : n33 = n + 1 := by omega
    obtain rfl : c34 = c := by omega
    refine ⟨⟨by omega, by omega, by omega⟩, fun o36 n37 c38 h36 h37 h38 => ?_⟩
    have q36 : ¬ (c34 : Int) = z35 := by clear h36; omega
    replace h36 := off_of (l := z35) h36 (.inl q36)
    refine ⟨by omega, fun z39 h39 => ?_⟩
    replace h39 := iw h39 (by omega)
    refine ⟨⟨by omega, by omega, by omega⟩, fun o40 n41 c42 h40 h41 h42 => ?_⟩
    have q40 : ¬ (c34 : Int) = z39 := by clear h40; omega
    replace h40 := off_of (l := z39) h40 (.inl q40)
    refine ⟨⟨by omega, by omega, by omega⟩, fun o43 n44 c45 h43 h44 h45 => ?_⟩
    have q43 : ¬ (c34 : Int) = j := by clear h43; omega
    replace h43 := off_of (l := j) h43 (.inl q43)
    obtain rfl : o40 = j + 1 := by omega
    obtain rfl : o43 = j := by omega
    refine ⟨⟨by omega, (by omega : o43 + n44 ≤ L.length)⟩, fun n46 L47 h46 e47 => ⟨⟨by omega, by omega, by omega⟩, fun o48 n49 c50 h48 h49 h50 => ?_⟩⟩
    have q48 : ¬ (c34 : Int) = o43 := by clear h48; omega
    replace h48 := off_of (l := o43) h48 (.inl q48)
    obtain rfl : o48 = o43 := by omega
    obtain rfl : n46 = n - o48 := by omega
    obtain ⟨f47, l47⟩ := mid_row (k := n + 1) e47 (by omega) (by omega) (by omega) (by omega)
    clear e47
    refine ⟨⟨by omega, trivial⟩, fun n51 L52 h51 e52 => ?_⟩
    obtain ⟨f52, l52⟩ := mid_one e52 (by omega) (by omega)
    exact hC _ _ (insC h (by omega) (by omega) f47 f52 hn)
end Go.Proofs.YtdpcahblhjbgjaaDoor
end

section
set_option linter.unusedVariables false
set_option linter.unusedSimpArgs false
set_option maxRecDepth 10000
namespace Go.Proofs.YtdpcahblhjbgjaaDoor
open Go Reck Ost
theorem cell_inj' {c d : Cell} (h : cell c = cell d) : c = d := by simpa [cell] using h
/-- An entry. -/
structure En where
  (p a b c d x s t : Int)
  (en la : Bool)
  (o ep i h bo us : Int)
def En.cells (e : En) : List Cell := eC e.p e.a e.b e.c e.d e.x e.s e.t e.en e.la e.o e.ep e.i e.h e.bo e.us
def En.row (e : En) : List CV := U.eR e.p e.a e.b e.c e.d e.x e.s e.t e.en e.la e.o e.ep e.i e.h e.bo e.us
def eX (l : List Cell) : Option En :=
  match l with
  | [p, a, b, c, d, x, s, t, .inl (.bool en), .inl (.bool la), o, ep, i, h, bo, us] => match xiX (cell p), xiX (cell a), xiX (cell b), xiX (cell c), xiX (cell d), xiX (cell x), xiX (cell s), xiX (cell t) with
    | some (.i64, p), some (.u64, a), some (.u64, b), some (.u32, c), some (.u32, d), some (.i64, x), some (.i64, s), some (.i64, t) => match xiX (cell o), xiX (cell ep), xiX (cell i), xiX (cell h), xiX (cell bo), xiX (cell us) with
      | some (.i64, o), some (.u32, ep), some (.i64, i), some (.i64, h), some (.i64, bo), some (.i64, us) => some ⟨p, a, b, c, d, x, s, t, en, la, o, ep, i, h, bo, us⟩
      | _, _, _, _, _, _ => none
    | _, _, _, _, _, _, _, _ => none
  | _ => none
theorem eX_eq {l : List Cell} {e : En} (h : eX l = some e) : l = e.cells := by
  unfold eX at h
  split at h
  · split at h
    · rename_i h1 h2 h3 h4 h5 h6 h7 h8
      split at h
      · rename_i h9 h10 h11 h12 h13 h14
        simp only [Option.some.injEq] at h; subst h
        rw [cell_inj' (xiX_eq h1), cell_inj' (xiX_eq h2), cell_inj' (xiX_eq h3), cell_inj' (xiX_eq h4), cell_inj' (xiX_eq h5), cell_inj' (xiX_eq h6), cell_inj' (xiX_eq h7), cell_inj' (xiX_eq h8), cell_inj' (xiX_eq h9), cell_inj' (xiX_eq h10), cell_inj' (xiX_eq h11), cell_inj' (xiX_eq h12), cell_inj' (xiX_eq h13), cell_inj' (xiX_eq h14)]; rfl
      · cases h
    · cases h
  · cases h
theorem three_map {e : Env} {x y z : AV} {a b c : Value} (h1 : Reck.av e x = some a) (h2 : Reck.av e y = some b) (h3 : Reck.av e z = some c) : [x, y, z].map (Reck.av e) = [a, b, c].map some := by
  rw [List.map_cons, List.map_cons, List.map_cons, List.map_nil, h1, h2, h3]; rfl
theorem two_map {e : Env} {x y : AV} {a b : Value} (h1 : Reck.av e x = some a) (h2 : Reck.av e y = some b) : [x, y].map (Reck.av e) = [a, b].map some := by
  rw [List.map_cons, List.map_cons, List.map_nil, h1, h2]; rfl
theorem strX_eq' {x : AV} {l : List Int} {e : Env} {v : Value} (h : strX x = some l) (hv : Reck.av e x = some v) : Reck.av e (cell (strC l)) = some v := as_str h hv
def strC1 (c : Cell) : Option (List Int) :=
  match c with
  | .inr (.inr (.inr (.inr (.inr (.inr (.inr (.inr (.inr (.inr (.inl l)))))))))) => some l
  | _ => none
theorem strC1_eq {c : Cell} {l : List Int} (h : strC1 c = some l) : c = strC l := by
  unfold strC1 at h
  split at h
  · simp only [Option.some.injEq] at h; subst h; rfl
  · cases h
def sV (k : List Int) : Option Blk := some ⟨9, [strC k], none, 1, false⟩
def eV (e : En) : Option Blk := some ⟨50, e.cells, none, 16, false⟩
def pInsS : Pat := fun args σ => match args, σ with
  | [s, i, .inl (.inl (.inr (.inr (.inl ⟨0, 0, 1, none, 1⟩))))], ⟨[some ⟨9, [v], none, 1, false⟩], [], 0, [some ⟨9, .o (.rows [.s] L), [], c0, false⟩], 0⟩ => match rslX s, intX i, strC1 v with
    | some ⟨0, 1, 0, n, c⟩, some (.i64, i), some k => some fun K => ∃ A, (c0 = c ∧ U.Fu L n c A ∧ (0 ≤ i ∧ i ≤ n) ∧ n + 1 ≤ 1000000) ∧ ∀ (n' c' : Nat) (L' : Rws), n' = n + 1 → U.Fu L' n' c' (U.insR A i [.s k]) → K (cell (rslC ⟨1, 1, 0, n', c'⟩)) ⟨[sV k], [], 0, [none, some (sB L' c')], 0⟩
    | _, _, _ => none
  | _, _ => none
theorem pInsS_ok : PatOk 49 pInsS := by
  intro tm σ C h K hK w0 e w hk vs hvs
  unfold pInsS at h
  split at h
  · rename_i s i v L c0
    split at h
    · rename_i n c i' k hs hi hv
      obtain rfl := rslX_eq hs
      obtain rfl := strC1_eq hv
      simp only [Option.some.injEq] at h; subst h
      obtain ⟨A, ⟨rfl, h1, h2, h3⟩, hK⟩ := hK
      obtain ⟨x, y, z, rfl, q1, q2, q3⟩ := threes hvs
      refine ins_fin (old := some (sB L c0)) (u := 1) (Q := fun n' c' L' => n' = n + 1 ∧ U.Fu L' n' c' (U.insR A i' [.s k])) (knownD noOv names (opMV_ok ovIs) (conOk_ofR tbl0_ok) (insS_run _ L A n c0 i' k h1 h2 h3 ?_ ?_ ?_) w0 e w hk _ (three_map q1 (as_int hi q2) q3)) (fun n' c' L' hq => hK n' c' L' hq.1 hq.2)
      · exact fun L' c' hF => ⟨n + 1, c', L', ⟨rfl, hF⟩, .inl ⟨rfl, rfl⟩⟩
      · exact fun L' c' hF => ⟨n + 1, c', L', ⟨rfl, hF⟩, .inr (.inl ⟨rfl, rfl⟩)⟩
      · exact fun L' c' hF => ⟨n + 1, c', L', ⟨rfl, hF⟩, .inr (.inr ⟨rfl, rfl⟩)⟩
    · cases h
  · cases h
def pInsE : Pat := fun args σ => match args, σ with
  | [s, i, .inl (.inl (.inr (.inr (.inl ⟨0, 0, 1, none, 1⟩))))], ⟨[some ⟨50, l, none, 16, false⟩], [], 0, [some ⟨50, .o (.rows ks L), [], c0, false⟩], 0⟩ => match rslX s, intX i, eX l, sameK ks eK with
    | some ⟨0, 16, 0, n, c⟩, some (.i64, i), some e, true => some fun K => ∃ A, (c0 = c ∧ U.Fu L n c A ∧ (0 ≤ i ∧ i ≤ n) ∧ n + 1 ≤ 1000000) ∧ ∀ (n' c' : Nat) (L' : Rws), n' = n + 1 → U.Fu L' n' c' (U.insR A i e.row) → K (cell (rslC ⟨1, 16, 0, n', c'⟩)) ⟨[eV e], [], 0, [none, some (eB L' c')], 0⟩
    | _, _, _, _ => none
  | _, _ => none
theorem pInsE_ok : PatOk 50 pInsE := by
  intro tm σ C h K hK w0 e w hk vs hvs
  unfold pInsE at h
  split at h
  · rename_i s i l ks L c0
    split at h
    · rename_i n c i' en hs hi hv hks
      obtain rfl := rslX_eq hs
      obtain rfl := eX_eq hv
      obtain rfl := sameK_eq hks
      simp only [Option.some.injEq] at h; subst h
      obtain ⟨A, ⟨rfl, h1, h2, h3⟩, hK⟩ := hK
      obtain ⟨x, y, z, rfl, q1, q2, q3⟩ := threes hvs
      refine ins_fin (old := some (eB L c0)) (u := 16) (Q := fun n' c' L' => n' = n + 1 ∧ U.Fu L' n' c' (U.insR A i' en.row)) (knownD noOv names (opMV_ok ovIs) (conOk_ofR tbl0_ok) (insE_run _ L A n c0 i' en.p en.a en.b en.c en.d en.x en.s en.t en.en en.la en.o en.ep en.i en.h en.bo en.us h1 h2 h3 ?_ ?_ ?_) w0 e w hk _ (three_map q1 (as_int hi q2) q3)) (fun n' c' L' hq => hK n' c' L' hq.1 hq.2)
      · exact fun L' c' hF => ⟨n + 1, c', L', ⟨rfl, hF⟩, .inl ⟨rfl, rfl⟩⟩
      · exact fun L' c' hF => ⟨n + 1, c', L', ⟨rfl, hF⟩, .inr (.inl ⟨rfl, rfl⟩)⟩
      · exact fun L' c' hF => ⟨n + 1, c', L', ⟨rfl, hF⟩, .inr (.inr ⟨rfl, rfl⟩)⟩
    · cases h
  · cases h
def tIns : Tbl := tblOr (tblIf 49 pInsS) (tblIf 50 pInsE)
theorem tIns_ok : TblOk Tryd.prog tIns := tblOr_ok (tblIf_ok pInsS_ok) (tblIf_ok pInsE_ok)
end Go.Proofs.YtdpcahblhjbgjaaDoor
end
