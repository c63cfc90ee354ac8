/- Parts of a proof, one behind the other: SS5 SS6 SS7 SS8. No condition. -/
import Derived.Test.YtfiadoboagpgkaaGB
section
set_option linter.unusedVariables false
set_option linter.unusedSimpArgs false
set_option maxRecDepth 10000
namespace Go.Proofs.Ytfiadoboagpgkaa
open Go Reck Ost
theorem ssltL_irr : ∀ a : List Int, ltL a a = false
  | [] => rfl
  | x :: a => by simp [ltL, ssltL_irr a]
theorem ssltL_tr : ∀ a b c : List Int, ltL a b = true → ltL b c = true → ltL a c = true
  | _, [], _, h, _ => by cases ‹List Int› <;> simp [ltL] at h
  | _, _ :: _, [], _, h => by simp [ltL] at h
  | [], _ :: _, _ :: _, _, _ => rfl
  | x :: a, y :: b, z :: c, h1, h2 => by
    simp only [ltL, Bool.or_eq_true, Bool.and_eq_true, decide_eq_true_eq] at h1 h2 ⊢
    rcases h1 with h1 | ⟨rfl, h1⟩ <;> rcases h2 with h2 | ⟨rfl, h2⟩
    · left; omega
    · left; omega
    · left; omega
    · right; exact ⟨rfl, ssltL_tr a b c h1 h2⟩
theorem ssltL_tri : ∀ a b : List Int, ltL a b = false → ltL b a = false → a = b
  | [], [], _, _ => rfl
  | [], _ :: _, h, _ => by simp [ltL] at h
  | _ :: _, [], _, h => by simp [ltL] at h
  | x :: a, y :: b, h1, h2 => by
    simp only [ltL, Bool.or_eq_false_iff, Bool.and_eq_false_iff, decide_eq_false_iff_not] at h1 h2
    obtain rfl : x = y := by omega
    rw [ssltL_tri a b (by rcases h1.2 with h | h <;> simp_all) (by rcases h2.2 with h | h <;> simp_all)]
theorem ssltS_irr {a : List Int} (h : LtS a a) : False := by have := h.out; rw [ssltL_irr] at this; cases this
theorem ssltS_tr {a b c : List Int} (h : LtS a b) (k : LtS b c) : LtS a c := ⟨ssltL_tr _ _ _ h.out k.out⟩
theorem ssltS_tri {a b : List Int} (h : ¬ LtS a b) (k : ¬ LtS b a) : a = b := ssltL_tri a b (by
  cases hx : ltL a b with
  | false => rfl
  | true => exact (h ⟨hx⟩).elim) (by
  cases hx : ltL b a with
  | false => rfl
  | true => exact (k ⟨hx⟩).elim)
theorem sspLess_ok : PatOk 49 sspLess := by
  intro tm σ C h K hK w0 e w hk vs hvs
  unfold sspLess at h
  split at h
  · split at h
    · rename_i a b ha hb
      simp only [Option.some.injEq] at h; subst h
      obtain ⟨v, u, rfl, hv, hu⟩ := twos hvs
      refine knownC noOv names (conOk_ofR tbl0_ok) (show runR inv0 tbl0 49 [cell (strC a), cell (strC b)] emptySt K from ?_) w0 e w hk [v, u] (map2 (as_str ha hv) (as_str hb hu))
      rw [ssless_vc]
      exact ⟨fun h => absurd rfl h, fun _ => hK⟩
    · cases h
  · cases h
/-- Keys that rise. -/
structure U.ssSrtR (L : Rws) (n : Nat) : Prop where
  out : ∀ i j : Nat, i < j → j < n → LtS (U.fs L i 0) (U.fs L j 0)
/-- Where a key stands, or would stand. -/
structure U.ssAt (L : Rws) (n : Nat) (k : List Int) (z : Int) : Prop where
  b : 0 ≤ z ∧ z ≤ n
  lo : ∀ m : Nat, (m : Int) < z → LtS (U.fs L m 0) k
  hi : ∀ m : Nat, z ≤ (m : Int) → m < n → ¬ LtS (U.fs L m 0) k
structure U.ssHasAt (L : Rws) (n : Nat) (k : List Int) (z : Int) : Prop where
  out : z < n ∧ U.fs L z.toNat 0 = k
set_option maxHeartbeats 1000000 in
theorem ssbs_run (K : AV → St → Prop) (L : Rws) (n c : Nat) (k : List Int) (hl : n ≤ L.length) (hsm : n ≤ 1000000) (hs : U.ssSrtR L n)
    (hK : ∀ z : Int, U.ssAt L n k z → (U.ssHasAt L n k z → K (zbA z true) ⟨[], [], 0, [some (sskB L c)], 0⟩) ∧ (¬ U.ssHasAt L n k z → K (zbA z false) ⟨[], [], 0, [some (sskB L c)], 0⟩)) :
    runR ssinvBS sstLess 42 [cell (rslC ⟨0, 1, 0, n, c⟩), cell (strC k)] ⟨[], [], 0, [some (sskB L c)], 0⟩ K := by
  rw [ssbs_vc]
  intro z0 h0
  refine ⟨⟨(0, z0), ?_⟩, ?_⟩
  · repeat' (first | exact rfl | with_reducible apply And.intro)
    exact ⟨Int.le_refl _, by dsimp only; omega, by dsimp only; omega, fun m hm => by dsimp only at hm; omega, fun m hm hm2 => by dsimp only at hm; omega⟩
  rintro ⟨i, j⟩ ⟨b1, b2, b3, b4, b5⟩
  dsimp only at b1 b2 b3 b4 b5 ⊢
  refine ⟨fun hij z3 h3 z4 h4 => ⟨by decide, fun z5 h5 z6 h6 => ?_⟩, fun hij => ?_⟩
  · have e3 := iw h3 (by omega)
    have e4 : z4 = i + j := by
      rw [h4, e3]; show IntKind.wrap .u64 _ = _
      rw [IntKind.wrap]; simp [IntKind.signed, IntKind.bits]; omega
    have e5 : z5 = (i + j) / 2 := by
      rw [h5, e4]
      unfold shrI
      rw [show min (1 : Int).toNat (IntKind.bits .u64) = 1 from rfl, Int.fdiv_eq_ediv_of_nonneg _ (by decide)]
      rfl
    clear h3 h4 h5
    replace h6 := iw h6 (by omega)
    refine ⟨by omega, fun j7 h7 => ⟨by omega, fun z8 h8 => ?_⟩⟩
    obtain ⟨p, hp⟩ : ∃ p : Nat, z6 = p := ⟨z6.toNat, by omega⟩
    obtain rfl : j7 = p := by omega
    refine ⟨fun hlt z9 h9 => ⟨(z9, j), ?_⟩, fun hge => ⟨(i, z6), ?_⟩⟩
    · replace h9 := iw h9 (by omega)
      repeat' (first | exact rfl | with_reducible apply And.intro)
      · refine ⟨by dsimp only; omega, by dsimp only; omega, b3, fun m hm => ?_, b5⟩
        dsimp only at hm
        rw [h8] at hlt
        by_cases hmp : m = j7
        · rw [hmp]; exact hlt
        · exact ssltS_tr (hs.out m j7 (by omega) (by omega)) hlt
      · dsimp only; omega
    · repeat' (first | exact rfl | with_reducible apply And.intro)
      · refine ⟨b1, by dsimp only; omega, by dsimp only; omega, b4, fun m hm hm2 => ?_⟩
        dsimp only at hm
        rw [h8] at hge
        by_cases hmp : m = j7
        · rw [hmp]; exact hge
        · exact fun hx => hge (ssltS_tr (hs.out j7 m (by omega) hm2) hx)
      · dsimp only; omega
  · obtain rfl : i = j := by omega
    obtain ⟨p, rfl⟩ : ∃ p : Nat, i = p := ⟨i.toNat, by omega⟩
    have hK := hK p ⟨⟨b1, b3⟩, b4, b5⟩
    refine ⟨fun hlt => ⟨by omega, fun j12 h12 => ⟨by omega, fun z13 h13 => ?_⟩⟩, fun hge => hK.2 (fun hx => by have := hx.out.1; omega)⟩
    obtain rfl : j12 = p := by omega
    refine ⟨fun heq => hK.1 ⟨by omega, by rw [Int.toNat_natCast, ← h13]; exact heq⟩, fun hne => ?_⟩
    have hno : ¬ U.ssHasAt L n k j12 := fun hx => hne (by have := hx.out.2; rw [Int.toNat_natCast] at this; rw [h13]; exact this)
    repeat' (first | with_reducible apply And.intro | intro _)
    all_goals (first | exact hK.2 hno | omega | (exfalso; rename_i hx; exact hx rfl) | (exfalso; rename_i hx _; exact hx rfl))
end Go.Proofs.Ytfiadoboagpgkaa
end

section
namespace Go.Proofs.Ytfiadoboagpgkaa
open Go Reck Ost
set_option linter.unusedVariables false
set_option maxRecDepth 100000
def sspBS : Pat := fun args σ => match args, σ with
  | [s, k], ⟨[], [], 0, [some ⟨9, .o (.rows [.s] L), [], c0, false⟩], 0⟩ => match rslX s, strX k with
    | some ⟨0, 1, 0, n, c⟩, some k => some fun K => (c0 = c ∧ n ≤ L.length ∧ n ≤ 1000000 ∧ U.ssSrtR L n) ∧ ∀ z : Int, U.ssAt L n k z → (U.ssHasAt L n k z → K (zbA z true) ⟨[], [], 0, [some (sskB L c)], 0⟩) ∧ (¬ U.ssHasAt L n k z → K (zbA z false) ⟨[], [], 0, [some (sskB L c)], 0⟩)
    | _, _ => none
  | _, _ => none
theorem sspBS_ok : PatOk 42 sspBS := by
  intro tm σ C h K hK w0 e w hk vs hvs
  unfold sspBS at h
  split at h
  · split at h
    · rename_i n c k hs hk'
      obtain rfl := rslX_eq hs
      simp only [Option.some.injEq] at h; subst h
      obtain ⟨⟨rfl, h1, h2, h3⟩, h4⟩ := hK
      obtain ⟨v, u, rfl, hv, hu⟩ := twos hvs
      exact knownC noOv names (conOk_ofR (tblIf_ok sspLess_ok)) (ssbs_run K _ _ _ k h1 h2 h3 h4) w0 e w hk _ (map2 hv (as_str hk' hu))
    · cases h
  · cases h
def sstSh : Tbl := tblOr sstID (tblIf 42 sspBS)
theorem sstSh_ok : TblOk Try.prog sstSh := tblOr_ok sstID_ok (tblIf_ok sspBS_ok)
def ssB (a b : Cell) (m : Int) : Option Blk := some ⟨43, [a, b, xintC .i64 m], none, 3, false⟩
def ssSt (n c : Nat) (L : Rws) (d : Nat) (M : Rws) (m : Int) : St := ⟨[ssB (rslC ⟨0, 1, 0, n, c⟩) (rslC ⟨1, 1, 0, n, d⟩) m], [], 0, [some (sskB L c), some (ssvB M d)], 0⟩
--PLAIN
theorem ssNew_vc (K : AV → St → Prop) (m : Int) : (runV ssov inv0 tbl0 4 [xi .i64 m] emptySt K) = (K (Sum.inl (Sum.inl (Sum.inr (Sum.inl ((0 : Nat), (0 : Nat)))))) { heap := [some { elem := nat_lit 43, cells := [Sum.inl (Value.slice none (0 : Nat) (0 : Nat)), Sum.inl (Value.slice none (0 : Nat) (0 : Nat)), Sum.inr (Sum.inr (Sum.inr (Sum.inr (Sum.inr (Sum.inr (Sum.inl (IntKind.i64, m)))))))], j := none, c := (0 : Nat) + (1 : Nat) + (1 : Nat) + (1 : Nat), z := false }], ints := [], opqs := (0 : Nat), arrs := [], junks := (0 : Nat) }) := by kernel_rfl
theorem ssSet_vc (K : AV → St → Prop) (L M : Rws) (n c d : Nat) (m : Int) (k : List Int) (v0 : Int) : (runV ssov inv0 sstSh 16 [ptr 0 0, cell (strC k), xi .i64 v0] (ssSt n c L d M m) K) = ((c = c ∧ n ≤ List.length L ∧ n ≤ (1000000 : Nat) ∧ U.ssSrtR L n) ∧ ∀ (z0 : Int), U.ssAt L n k z0 → (U.ssHasAt L n k z0 → ((0 : Int) ≤ z0 ∧ z0 < (↑n : Int)) ∧ ∀ (j1 : Nat), (↑j1 : Int) = (↑((0 : Nat)) : Int) + z0 → j1 < List.length M ∧ ∀ (L'2 : List (List CV)), L'2 = U.put M j1 ((0 : Nat)) [CV.i v0] → K (Sum.inl (Sum.inl (Sum.inr (Sum.inr (Sum.inr (Sum.inr (Sum.inr (Sum.inr (Sum.inl (IntKind.i64, (0 : Int))))))))))) { heap := [some { elem := nat_lit 43, cells := [Sum.inr (Sum.inr (Sum.inr (Sum.inr (Sum.inr (Sum.inr (Sum.inr (Sum.inr (Sum.inr (Sum.inr (Sum.inr (Sum.inl { a := (0 : Nat), u := (1 : Nat), o := (0 : Nat), n := n, c := c }))))))))))), Sum.inr (Sum.inr (Sum.inr (Sum.inr (Sum.inr (Sum.inr (Sum.inr (Sum.inr (Sum.inr (Sum.inr (Sum.inr (Sum.inl { a := (1 : Nat), u := (1 : Nat), o := (0 : Nat), n := n, c := d }))))))))))), Sum.inr (Sum.inr (Sum.inr (Sum.inr (Sum.inr (Sum.inr (Sum.inl (IntKind.i64, m)))))))], j := none, c := (3 : Nat), z := false }], ints := [], opqs := (0 : Nat), arrs := [some { elem := (9 : Nat), k := AK.o (Obj.rows [CK.s] L), l := [], cap := c, ro := false }, some { elem := nat_lit 3, k := AK.o (Obj.rows [CK.n IntKind.i64] L'2), l := [], cap := d, ro := false }], junks := (0 : Nat) }) ∧ (¬U.ssHasAt L n k z0 → ∀ (z3 : Int), z3 = (↑n : Int) → (m ≤ z3 → K (Sum.inl (Sum.inl (Sum.inr (Sum.inr (Sum.inr (Sum.inr (Sum.inr (Sum.inr (Sum.inl (IntKind.i64, (4 : Int))))))))))) { heap := [some { elem := nat_lit 43, cells := [Sum.inr (Sum.inr (Sum.inr (Sum.inr (Sum.inr (Sum.inr (Sum.inr (Sum.inr (Sum.inr (Sum.inr (Sum.inr (Sum.inl { a := (0 : Nat), u := (1 : Nat), o := (0 : Nat), n := n, c := c }))))))))))), Sum.inr (Sum.inr (Sum.inr (Sum.inr (Sum.inr (Sum.inr (Sum.inr (Sum.inr (Sum.inr (Sum.inr (Sum.inr (Sum.inl { a := (1 : Nat), u := (1 : Nat), o := (0 : Nat), n := n, c := d }))))))))))), Sum.inr (Sum.inr (Sum.inr (Sum.inr (Sum.inr (Sum.inr (Sum.inl (IntKind.i64, m)))))))], j := none, c := (3 : Nat), z := false }], ints := [], opqs := (0 : Nat), arrs := [some { elem := (9 : Nat), k := AK.o (Obj.rows [CK.s] L), l := [], cap := c, ro := false }, some { elem := (3 : Nat), k := AK.o (Obj.rows [CK.n IntKind.i64] M), l := [], cap := d, ro := false }], junks := (0 : Nat) }) ∧ (¬m ≤ z3 → ∃ (y4 : Rws), (c = c ∧ U.Fu L n c y4 ∧ ((0 : Int) ≤ z0 ∧ z0 ≤ (↑n : Int)) ∧ n + (1 : Nat) ≤ (1000000 : Nat)) ∧ ∀ (n'5 c'6 : Nat) (L'7 : Rws), n'5 = n + (1 : Nat) → U.Fu L'7 n'5 c'6 (U.insR y4 z0 [CV.s k]) → ∃ (y8 : Rws), (d = d ∧ U.Fu M n d y8 ∧ ((0 : Int) ≤ z0 ∧ z0 ≤ (↑n : Int)) ∧ n + (1 : Nat) ≤ (1000000 : Nat)) ∧ ∀ (n'9 c'10 : Nat) (L'11 : Rws), n'9 = n + (1 : Nat) → U.Fu L'11 n'9 c'10 (U.insR y8 z0 [CV.i v0]) → K (Sum.inl (Sum.inl (Sum.inr (Sum.inr (Sum.inr (Sum.inr (Sum.inr (Sum.inr (Sum.inl (IntKind.i64, (0 : Int))))))))))) { heap := [some { elem := nat_lit 43, cells := [Sum.inr (Sum.inr (Sum.inr (Sum.inr (Sum.inr (Sum.inr (Sum.inr (Sum.inr (Sum.inr (Sum.inr (Sum.inr (Sum.inl { a := (2 : Nat), u := (1 : Nat), o := (0 : Nat), n := n'5, c := c'6 }))))))))))), Sum.inr (Sum.inr (Sum.inr (Sum.inr (Sum.inr (Sum.inr (Sum.inr (Sum.inr (Sum.inr (Sum.inr (Sum.inr (Sum.inl { a := (3 : Nat), u := (1 : Nat), o := (0 : Nat), n := n'9, c := c'10 }))))))))))), Sum.inr (Sum.inr (Sum.inr (Sum.inr (Sum.inr (Sum.inr (Sum.inl (IntKind.i64, m)))))))], j := none, c := (3 : Nat), z := false }], ints := [], opqs := (0 : Nat), arrs := [none, none, some { elem := (9 : Nat), k := AK.o (Obj.rows [CK.s] L'7), l := [], cap := c'6, ro := false }, some { elem := (3 : TypeId), k := AK.o (Obj.rows [CK.n IntKind.i64] L'11), l := [], cap := c'10, ro := false }], junks := (0 : Nat) }))) := by kernel_rfl
theorem ssGet_vc (K : AV → St → Prop) (L M : Rws) (n c d : Nat) (m : Int) (k : List Int) : (runV ssov inv0 sstSh 18 [ptr 0 0, cell (strC k)] (ssSt n c L d M m) K) = ((c = c ∧ n ≤ List.length L ∧ n ≤ (1000000 : Nat) ∧ U.ssSrtR L n) ∧ ∀ (z0 : Int), U.ssAt L n k z0 → (U.ssHasAt L n k z0 → ((0 : Int) ≤ z0 ∧ z0 < (↑n : Int)) ∧ ∀ (j1 : Nat), (↑j1 : Int) = (↑((0 : Nat)) : Int) + z0 → j1 < List.length M ∧ ∀ (z2 : Int), z2 = U.fi M j1 ((0 : Nat)) → K (Sum.inr [Sum.inl (Sum.inr (Sum.inr (Sum.inr (Sum.inr (Sum.inr (Sum.inr (Sum.inl (IntKind.i64, z2)))))))), Sum.inl (Sum.inl (Value.bool true))]) { heap := [some { elem := nat_lit 43, cells := [Sum.inr (Sum.inr (Sum.inr (Sum.inr (Sum.inr (Sum.inr (Sum.inr (Sum.inr (Sum.inr (Sum.inr (Sum.inr (Sum.inl { a := (0 : Nat), u := (1 : Nat), o := (0 : Nat), n := n, c := c }))))))))))), Sum.inr (Sum.inr (Sum.inr (Sum.inr (Sum.inr (Sum.inr (Sum.inr (Sum.inr (Sum.inr (Sum.inr (Sum.inr (Sum.inl { a := (1 : Nat), u := (1 : Nat), o := (0 : Nat), n := n, c := d }))))))))))), Sum.inr (Sum.inr (Sum.inr (Sum.inr (Sum.inr (Sum.inr (Sum.inl (IntKind.i64, m)))))))], j := none, c := (3 : Nat), z := false }], ints := [], opqs := (0 : Nat), arrs := [some { elem := (9 : TypeId), k := AK.o (Obj.rows [CK.s] L), l := [], cap := c, ro := false }, some { elem := (3 : TypeId), k := AK.o (Obj.rows [CK.n IntKind.i64] M), l := [], cap := d, ro := false }], junks := (0 : Nat) }) ∧ (¬U.ssHasAt L n k z0 → K (Sum.inr [Sum.inl (Sum.inr (Sum.inr (Sum.inr (Sum.inr (Sum.inr (Sum.inr (Sum.inl (IntKind.i64, (0 : Int))))))))), Sum.inl (Sum.inl (Value.bool false))]) { heap := [some { elem := nat_lit 43, cells := [Sum.inr (Sum.inr (Sum.inr (Sum.inr (Sum.inr (Sum.inr (Sum.inr (Sum.inr (Sum.inr (Sum.inr (Sum.inr (Sum.inl { a := (0 : Nat), u := (1 : Nat), o := (0 : Nat), n := n, c := c }))))))))))), Sum.inr (Sum.inr (Sum.inr (Sum.inr (Sum.inr (Sum.inr (Sum.inr (Sum.inr (Sum.inr (Sum.inr (Sum.inr (Sum.inl { a := (1 : Nat), u := (1 : Nat), o := (0 : Nat), n := n, c := d }))))))))))), Sum.inr (Sum.inr (Sum.inr (Sum.inr (Sum.inr (Sum.inr (Sum.inl (IntKind.i64, m)))))))], j := none, c := (3 : Nat), z := false }], ints := [], opqs := (0 : Nat), arrs := [some { elem := (9 : TypeId), k := AK.o (Obj.rows [CK.s] L), l := [], cap := c, ro := false }, some { elem := (3 : TypeId), k := AK.o (Obj.rows [CK.n IntKind.i64] M), l := [], cap := d, ro := false }], junks := (0 : Nat) })) := by kernel_rfl
theorem ssDel_vc (K : AV → St → Prop) (L M : Rws) (n c d : Nat) (m : Int) (k : List Int) : (runV ssov inv0 sstSh 19 [ptr 0 0, sl ⟨1, 0, 1, none, 1⟩] ⟨[ssB (rslC ⟨0, 1, 0, n, c⟩) (rslC ⟨1, 1, 0, n, d⟩) m, sssV k], [], 0, [some (sskB L c), some (ssvB M d)], 0⟩ K) = ((c = c ∧ n ≤ List.length L ∧ n ≤ (1000000 : Nat) ∧ U.ssSrtR L n) ∧ ∀ (z0 : Int), U.ssAt L n k z0 → (U.ssHasAt L n k z0 → ∀ (z1 : Int), z1 = IntKind.wrap IntKind.i64 (z0 + (1 : Int)) → ∃ (y2 : Rws), (c = c ∧ U.Fu L n c y2 ∧ ((0 : Int) ≤ z0 ∧ z0 < (↑n : Int)) ∧ z1 = z0 + (1 : Int)) ∧ ∀ (n'3 : Nat) (L'4 : Rws), n'3 + (1 : Nat) = n → U.Fu L'4 n'3 c (U.erR y2 z0) → ∀ (z5 : Int), z5 = IntKind.wrap IntKind.i64 (z0 + (1 : Int)) → ∃ (y6 : Rws), (d = d ∧ U.Fu M n d y6 ∧ ((0 : Int) ≤ z0 ∧ z0 < (↑n : Int)) ∧ z5 = z0 + (1 : Int)) ∧ ∀ (n'7 : Nat) (L'8 : Rws), n'7 + (1 : Nat) = n → U.Fu L'8 n'7 d (U.erR y6 z0) → K (Sum.inl (Sum.inl (Sum.inr (Sum.inr (Sum.inr (Sum.inr (Sum.inr (Sum.inr (Sum.inl (IntKind.i64, (1 : Int))))))))))) { heap := [some { elem := nat_lit 43, cells := [Sum.inr (Sum.inr (Sum.inr (Sum.inr (Sum.inr (Sum.inr (Sum.inr (Sum.inr (Sum.inr (Sum.inr (Sum.inr (Sum.inl { a := (2 : Nat), u := (1 : Nat), o := (0 : Nat), n := n'3, c := c }))))))))))), Sum.inr (Sum.inr (Sum.inr (Sum.inr (Sum.inr (Sum.inr (Sum.inr (Sum.inr (Sum.inr (Sum.inr (Sum.inr (Sum.inl { a := (3 : Nat), u := (1 : Nat), o := (0 : Nat), n := n'7, c := d }))))))))))), Sum.inr (Sum.inr (Sum.inr (Sum.inr (Sum.inr (Sum.inr (Sum.inl (IntKind.i64, m)))))))], j := none, c := (3 : Nat), z := false }, some { elem := nat_lit 9, cells := [Sum.inr (Sum.inr (Sum.inr (Sum.inr (Sum.inr (Sum.inr (Sum.inr (Sum.inr (Sum.inr (Sum.inr (Sum.inl k))))))))))], j := none, c := (1 : Nat), z := false }], ints := [], opqs := (0 : Nat), arrs := [none, none, some { elem := (9 : TypeId), k := AK.o (Obj.rows [CK.s] L'4), l := [], cap := c, ro := false }, some { elem := (3 : TypeId), k := AK.o (Obj.rows [CK.n IntKind.i64] L'8), l := [], cap := d, ro := false }], junks := (0 : Nat) }) ∧ (¬U.ssHasAt L n k z0 → K (Sum.inl (Sum.inl (Sum.inr (Sum.inr (Sum.inr (Sum.inr (Sum.inr (Sum.inr (Sum.inl (IntKind.i64, (0 : Int))))))))))) { heap := [some { elem := nat_lit 43, cells := [Sum.inr (Sum.inr (Sum.inr (Sum.inr (Sum.inr (Sum.inr (Sum.inr (Sum.inr (Sum.inr (Sum.inr (Sum.inr (Sum.inl { a := (0 : Nat), u := (1 : Nat), o := (0 : Nat), n := n, c := c }))))))))))), Sum.inr (Sum.inr (Sum.inr (Sum.inr (Sum.inr (Sum.inr (Sum.inr (Sum.inr (Sum.inr (Sum.inr (Sum.inr (Sum.inl { a := (1 : Nat), u := (1 : Nat), o := (0 : Nat), n := n, c := d }))))))))))), Sum.inr (Sum.inr (Sum.inr (Sum.inr (Sum.inr (Sum.inr (Sum.inl (IntKind.i64, m)))))))], j := none, c := (3 : Nat), z := false }, some { elem := nat_lit 9, cells := [Sum.inr (Sum.inr (Sum.inr (Sum.inr (Sum.inr (Sum.inr (Sum.inr (Sum.inr (Sum.inr (Sum.inr (Sum.inl k))))))))))], j := none, c := (1 : Nat), z := false }], ints := [], opqs := (0 : Nat), arrs := [some { elem := (9 : TypeId), k := AK.o (Obj.rows [CK.s] L), l := [], cap := c, ro := false }, some { elem := (3 : TypeId), k := AK.o (Obj.rows [CK.n IntKind.i64] M), l := [], cap := d, ro := false }], junks := (0 : Nat) })) := by kernel_rfl
theorem ssVals_vc (K : AV → St → Prop) (L M : Rws) (n c d : Nat) (m : Int) : (runQ inv0 tbl0 11 [ptr 0 0] (ssSt n c L d M m) K) = ((n = (0 : Nat) → K (Sum.inl (Sum.inl (Sum.inr (Sum.inr (Sum.inr (Sum.inr (Sum.inr (Sum.inr (Sum.inr (Sum.inr (Sum.inr (Sum.inr (Sum.inr (Sum.inl { a := (2 : Nat), u := (0 : Nat) + (1 : Nat), o := (0 : Nat), n := (0 : Nat), c := (0 : Nat) })))))))))))))) { heap := [some { elem := nat_lit 43, cells := [Sum.inr (Sum.inr (Sum.inr (Sum.inr (Sum.inr (Sum.inr (Sum.inr (Sum.inr (Sum.inr (Sum.inr (Sum.inr (Sum.inl { a := (0 : Nat), u := (1 : Nat), o := (0 : Nat), n := n, c := c }))))))))))), Sum.inr (Sum.inr (Sum.inr (Sum.inr (Sum.inr (Sum.inr (Sum.inr (Sum.inr (Sum.inr (Sum.inr (Sum.inr (Sum.inl { a := (1 : Nat), u := (1 : Nat), o := (0 : Nat), n := n, c := d }))))))))))), Sum.inr (Sum.inr (Sum.inr (Sum.inr (Sum.inr (Sum.inr (Sum.inl (IntKind.i64, m)))))))], j := none, c := (3 : Nat), z := false }], ints := [], opqs := (0 : Nat), arrs := [some { elem := (9 : TypeId), k := AK.o (Obj.rows [CK.s] L), l := [], cap := c, ro := false }, some { elem := (3 : TypeId), k := AK.o (Obj.rows [CK.n IntKind.i64] M), l := [], cap := d, ro := false }, some { elem := (3 : Nat), k := AK.o (Obj.rows [CK.n IntKind.i64] U.nilL), l := [], cap := (0 : Nat), ro := false }], junks := (0 : Nat) }) ∧ True ∧ Nat.le ((0 : Nat) + n) (List.length M) ∧ (0 : Nat) ≤ (16777216 : Nat) ∧ n ≤ (16777216 : Nat) ∧ ∀ (L'0 : List (List CV)) (n'1 c'2 : Nat), L'0 = U.nilL ++ List.take n (List.drop ((0 : Nat)) M) → n'1 = (0 : Nat) + n → n'1 ≤ c'2 → K (Sum.inl (Sum.inl (Sum.inr (Sum.inr (Sum.inr (Sum.inr (Sum.inr (Sum.inr (Sum.inr (Sum.inr (Sum.inr (Sum.inr (Sum.inr (Sum.inl { a := (2 : Nat), u := (0 : Nat) + (1 : Nat), o := (0 : Nat), n := n'1, c := c'2 })))))))))))))) { heap := [some { elem := nat_lit 43, cells := [Sum.inr (Sum.inr (Sum.inr (Sum.inr (Sum.inr (Sum.inr (Sum.inr (Sum.inr (Sum.inr (Sum.inr (Sum.inr (Sum.inl { a := (0 : Nat), u := (1 : Nat), o := (0 : Nat), n := n, c := c }))))))))))), Sum.inr (Sum.inr (Sum.inr (Sum.inr (Sum.inr (Sum.inr (Sum.inr (Sum.inr (Sum.inr (Sum.inr (Sum.inr (Sum.inl { a := (1 : Nat), u := (1 : Nat), o := (0 : Nat), n := n, c := d }))))))))))), Sum.inr (Sum.inr (Sum.inr (Sum.inr (Sum.inr (Sum.inr (Sum.inl (IntKind.i64, m)))))))], j := none, c := (3 : Nat), z := false }], ints := [], opqs := (0 : Nat), arrs := [some { elem := (9 : TypeId), k := AK.o (Obj.rows [CK.s] L), l := [], cap := c, ro := false }, some { elem := (3 : TypeId), k := AK.o (Obj.rows [CK.n IntKind.i64] M), l := [], cap := d, ro := false }, some { elem := (3 : Nat), k := AK.o (Obj.rows [CK.n IntKind.i64] L'0), l := [], cap := c'2, ro := false }], junks := (0 : Nat) }) := by kernel_rfl
theorem ssKeys_vc (K : AV → St → Prop) (L M : Rws) (n c d : Nat) (m : Int) : (runQ inv0 tbl0 9 [ptr 0 0] (ssSt n c L d M m) K) = ((n = (0 : Nat) → K (Sum.inl (Sum.inl (Sum.inr (Sum.inr (Sum.inr (Sum.inr (Sum.inr (Sum.inr (Sum.inr (Sum.inr (Sum.inr (Sum.inr (Sum.inr (Sum.inl { a := (2 : Nat), u := (0 : Nat) + (1 : Nat), o := (0 : Nat), n := (0 : Nat), c := (0 : Nat) })))))))))))))) { heap := [some { elem := nat_lit 43, cells := [Sum.inr (Sum.inr (Sum.inr (Sum.inr (Sum.inr (Sum.inr (Sum.inr (Sum.inr (Sum.inr (Sum.inr (Sum.inr (Sum.inl { a := (0 : Nat), u := (1 : Nat), o := (0 : Nat), n := n, c := c }))))))))))), Sum.inr (Sum.inr (Sum.inr (Sum.inr (Sum.inr (Sum.inr (Sum.inr (Sum.inr (Sum.inr (Sum.inr (Sum.inr (Sum.inl { a := (1 : Nat), u := (1 : Nat), o := (0 : Nat), n := n, c := d }))))))))))), Sum.inr (Sum.inr (Sum.inr (Sum.inr (Sum.inr (Sum.inr (Sum.inl (IntKind.i64, m)))))))], j := none, c := (3 : Nat), z := false }], ints := [], opqs := (0 : Nat), arrs := [some { elem := (9 : TypeId), k := AK.o (Obj.rows [CK.s] L), l := [], cap := c, ro := false }, some { elem := (3 : TypeId), k := AK.o (Obj.rows [CK.n IntKind.i64] M), l := [], cap := d, ro := false }, some { elem := (9 : Nat), k := AK.o (Obj.rows [CK.s] U.nilL), l := [], cap := (0 : Nat), ro := false }], junks := (0 : Nat) }) ∧ True ∧ Nat.le ((0 : Nat) + n) (List.length L) ∧ (0 : Nat) ≤ (16777216 : Nat) ∧ n ≤ (16777216 : Nat) ∧ ∀ (L'0 : List (List CV)) (n'1 c'2 : Nat), L'0 = U.nilL ++ List.take n (List.drop ((0 : Nat)) L) → n'1 = (0 : Nat) + n → n'1 ≤ c'2 → K (Sum.inl (Sum.inl (Sum.inr (Sum.inr (Sum.inr (Sum.inr (Sum.inr (Sum.inr (Sum.inr (Sum.inr (Sum.inr (Sum.inr (Sum.inr (Sum.inl { a := (2 : Nat), u := (0 : Nat) + (1 : Nat), o := (0 : Nat), n := n'1, c := c'2 })))))))))))))) { heap := [some { elem := nat_lit 43, cells := [Sum.inr (Sum.inr (Sum.inr (Sum.inr (Sum.inr (Sum.inr (Sum.inr (Sum.inr (Sum.inr (Sum.inr (Sum.inr (Sum.inl { a := (0 : Nat), u := (1 : Nat), o := (0 : Nat), n := n, c := c }))))))))))), Sum.inr (Sum.inr (Sum.inr (Sum.inr (Sum.inr (Sum.inr (Sum.inr (Sum.inr (Sum.inr (Sum.inr (Sum.inr (Sum.inl { a := (1 : Nat), u := (1 : Nat), o := (0 : Nat), n := n, c := d }))))))))))), Sum.inr (Sum.inr (Sum.inr (Sum.inr (Sum.inr (Sum.inr (Sum.inl (IntKind.i64, m)))))))], j := none, c := (3 : Nat), z := false }], ints := [], opqs := (0 : Nat), arrs := [some { elem := (9 : TypeId), k := AK.o (Obj.rows [CK.s] L), l := [], cap := c, ro := false }, some { elem := (3 : TypeId), k := AK.o (Obj.rows [CK.n IntKind.i64] M), l := [], cap := d, ro := false }, some { elem := (9 : Nat), k := AK.o (Obj.rows [CK.s] L'0), l := [], cap := c'2, ro := false }], junks := (0 : Nat) }) := by kernel_rfl
end Go.Proofs.Ytfiadoboagpgkaa
end

section
set_option linter.unusedVariables false
set_option linter.unusedSimpArgs false
set_option maxRecDepth 10000
namespace Go.Proofs.Ytfiadoboagpgkaa
open Go Reck Ost
abbrev SSP := List (List Int × SSv)
def U.ssks (P : SSP) : Rws := P.map fun p => [.s p.1]
def U.ssvs (P : SSP) : Rws := P.map fun p => p.2.row
structure U.ssSrt (P : SSP) : Prop where
  out : P.Pairwise fun a b => LtS a.1 b.1
structure U.ssHasK (P : SSP) (k : List Int) : Prop where
  out : ∃ e, (k, e) ∈ P
/-- P' is P with an entry put in. -/
structure U.ssPut (P : SSP) (k : List Int) (e : SSv) (P' : SSP) : Prop where
  srt : U.ssSrt P'
  mem : ∀ x y, (x, y) ∈ P' ↔ (x = k ∧ y = e) ∨ ((x, y) ∈ P ∧ x ≠ k)
  has : U.ssHasK P k → P'.length = P.length
  non : ¬ U.ssHasK P k → P'.length = P.length + 1
/-- What a shelf has. -/
structure U.ssshI (n c : Nat) (L : Rws) (d : Nat) (M : Rws) (P : SSP) : Prop where
  kf : U.Fu L n c (U.ssks P)
  vf : U.Fu M n d (U.ssvs P)
  srt : U.ssSrt P
theorem ssshI_n {n c d : Nat} {L M : Rws} {P : SSP} (h : U.ssshI n c L d M P) : P.length = n := by
  have := h.kf.n; simpa [U.ssks] using this
theorem sskey_at {n c d : Nat} {L M : Rws} {P : SSP} (h : U.ssshI n c L d M P) {m : Nat} {p : List Int × SSv} (hp : P[m]? = some p) : U.fs L m 0 = p.1 := by
  have hm : m < n := by rw [← ssshI_n h]; exact (List.getElem?_eq_some_iff.1 hp).1
  have := fuGet h.kf hm
  unfold U.fs
  rw [List.getD_eq_getElem?_getD, this]
  simp [U.ssks, hp]
theorem ssrow_at {n c d : Nat} {L M : Rws} {P : SSP} (h : U.ssshI n c L d M P) {m : Nat} {p : List Int × SSv} (hp : P[m]? = some p) : M.getD m [] = p.2.row := by
  have hm : m < n := by rw [← ssshI_n h]; exact (List.getElem?_eq_some_iff.1 hp).1
  have := fuGet h.vf hm
  rw [List.getD_eq_getElem?_getD, this]
  simp [U.ssvs, hp]
theorem sssrt_R {n c d : Nat} {L M : Rws} {P : SSP} (h : U.ssshI n c L d M P) : U.ssSrtR L n := by
  refine ⟨fun i j hij hj => ?_⟩
  have hn := ssshI_n h
  rw [sskey_at h (List.getElem?_eq_getElem (show i < P.length by omega)), sskey_at h (List.getElem?_eq_getElem (show j < P.length by omega))]
  exact List.pairwise_iff_getElem.1 h.srt.out i j (by omega) (by omega) hij
theorem ssat_lo {n c d : Nat} {L M : Rws} {P : SSP} (h : U.ssshI n c L d M P) {k : List Int} {z : Nat} (ha : U.ssAt L n k z) {p : List Int × SSv} (hp : p ∈ P.take z) : LtS p.1 k := by
  obtain ⟨m, hm⟩ := List.getElem?_of_mem hp
  rw [List.getElem?_take] at hm
  split at hm
  · rename_i hlt
    have := ha.lo m (by omega)
    rwa [sskey_at h hm] at this
  · cases hm
theorem ssat_hi {n c d : Nat} {L M : Rws} {P : SSP} (h : U.ssshI n c L d M P) {k : List Int} {z : Nat} (ha : U.ssAt L n k z) {p : List Int × SSv} (hp : p ∈ P.drop z) : ¬ LtS p.1 k := by
  obtain ⟨m, hm⟩ := List.getElem?_of_mem hp
  rw [List.getElem?_drop] at hm
  have hl := (List.getElem?_eq_some_iff.1 hm).1
  have := ha.hi (z + m) (by omega) (by rw [← ssshI_n h]; exact hl)
  rwa [sskey_at h hm] at this
theorem sshas_iff {n c d : Nat} {L M : Rws} {P : SSP} (h : U.ssshI n c L d M P) {k : List Int} {z : Nat} (ha : U.ssAt L n k z) : U.ssHasAt L n k z ↔ U.ssHasK P k := by
  have hn := ssshI_n h
  constructor
  · rintro ⟨h1, h2⟩
    have hz : z < P.length := by omega
    refine ⟨P[z].2, ?_⟩
    rw [Int.toNat_natCast, sskey_at h (List.getElem?_eq_getElem hz)] at h2
    rw [← h2]; exact List.getElem_mem hz
  · rintro ⟨e, he⟩
    obtain ⟨m, hm⟩ := List.getElem?_of_mem he
    have hl := (List.getElem?_eq_some_iff.1 hm).1
    have hk := sskey_at h hm
    have h1 : ¬ (m < z) := fun hlt => by
      have := ha.lo m (by omega)
      rw [hk] at this; exact ssltS_irr this
    have h2 : ¬ (z < m) := fun hlt => by
      have a := ha.hi z (by omega) (by omega)
      have b := (sssrt_R h).out z m hlt (by omega)
      rw [hk] at b; exact a b
    obtain rfl : m = z := by omega
    exact ⟨by omega, by rw [Int.toNat_natCast]; exact hk⟩
theorem ssput_non {n c d : Nat} {L M : Rws} {P : SSP} (h : U.ssshI n c L d M P) {k : List Int} {z : Nat} (ha : U.ssAt L n k z) (hk : ¬ U.ssHasK P k) (e : SSv) :
    U.ssPut P k e (P.take z ++ [(k, e)] ++ P.drop z) ∧ U.ssks (P.take z ++ [(k, e)] ++ P.drop z) = U.insR (U.ssks P) z [.s k] ∧ U.ssvs (P.take z ++ [(k, e)] ++ P.drop z) = U.insR (U.ssvs P) z e.row := by
  have hne : ∀ p ∈ P, p.1 ≠ k := fun p hp he => hk ⟨p.2, he ▸ hp⟩
  have hgt : ∀ p ∈ P.drop z, LtS k p.1 := fun p hp => by
    by_cases hx : LtS k p.1
    · exact hx
    · exact (hne p (List.mem_of_mem_drop hp) (ssltS_tri (ssat_hi h ha hp) hx)).elim
  have hs := h.srt.out
  refine ⟨⟨⟨?_⟩, fun x y => ?_, fun hx => (hk hx).elim, fun _ => ?_⟩, ?_, ?_⟩
  · rw [← List.take_append_drop z P, List.pairwise_append] at hs
    rw [List.append_assoc, List.pairwise_append]
    refine ⟨hs.1, ?_, ?_⟩
    · rw [List.singleton_append, List.pairwise_cons]
      exact ⟨hgt, hs.2.1⟩
    · intro a ha' b hb
      rcases List.mem_cons.1 hb with rfl | hb
      · exact ssat_lo h ha ha'
      · exact hs.2.2 a ha' b hb
  · have hm : (x, y) ∈ P ↔ (x, y) ∈ P.take z ∨ (x, y) ∈ P.drop z := by
      rw [← List.mem_append, List.take_append_drop]
    simp only [List.mem_append, List.mem_singleton, Prod.mk.injEq]
    constructor
    · rintro ((hx | hx) | hx)
      · exact .inr ⟨hm.2 (.inl hx), hne _ (hm.2 (.inl hx))⟩
      · exact .inl hx
      · exact .inr ⟨hm.2 (.inr hx), hne _ (hm.2 (.inr hx))⟩
    · rintro (hx | ⟨hx, _⟩)
      · exact .inl (.inr hx)
      · rcases hm.1 hx with hx | hx
        · exact .inl (.inl hx)
        · exact .inr hx
  · have := ha.b
    have hn := ssshI_n h
    simp; omega
  · simp [U.ssks, U.insR, List.map_take, List.map_drop]
  · simp [U.ssvs, U.insR, List.map_take, List.map_drop]
theorem ssput_has {n c d : Nat} {L M : Rws} {P : SSP} (h : U.ssshI n c L d M P) {k : List Int} {z : Nat} (ha : U.ssAt L n k z) (hk : U.ssHasAt L n k z) (e : SSv) :
    U.ssPut P k e (P.set z (k, e)) ∧ U.ssks (P.set z (k, e)) = U.ssks P ∧ U.ssvs (P.set z (k, e)) = (U.ssvs P).set z e.row := by
  have hn := ssshI_n h
  obtain ⟨h1, h2⟩ := hk.out
  have hz : z < P.length := by omega
  have hkz : P[z].1 = k := by
    rw [Int.toNat_natCast, sskey_at h (List.getElem?_eq_getElem hz)] at h2; exact h2
  have hks : U.ssks (P.set z (k, e)) = U.ssks P := by
    apply List.ext_getElem?
    intro m
    simp only [U.ssks, List.getElem?_map, List.getElem?_set]
    by_cases hm : z = m
    · subst hm
      rw [if_pos rfl, if_pos hz, List.getElem?_eq_getElem hz]; simp [hkz]
    · rw [if_neg hm]
  have hlk : ∀ i (hi : i < P.length) (hi' : i < (P.set z (k, e)).length), ((P.set z (k, e))[i]).1 = (P[i]).1 := fun i hi hi' => by
    rw [List.getElem_set]
    split
    · rename_i hzi; subst hzi; exact hkz.symm
    · rfl
  refine ⟨⟨⟨?_⟩, fun x y => ?_, fun _ => List.length_set, fun hx => (hx ((sshas_iff h ha).1 hk)).elim⟩, hks, ?_⟩
  · rw [List.pairwise_iff_getElem]
    intro i j hi hj hij
    rw [List.length_set] at hi hj
    rw [hlk i hi, hlk j hj]
    exact List.pairwise_iff_getElem.1 h.srt.out i j hi hj hij
  · constructor
    · intro hx
      obtain ⟨m, hm⟩ := List.getElem?_of_mem hx
      rw [List.getElem?_set] at hm
      split at hm
      · try rw [if_pos hz] at hm
        simp only [Option.some.injEq, Prod.mk.injEq] at hm
        exact .inl ⟨hm.1.symm, hm.2.symm⟩
      · rename_i hne
        refine .inr ⟨List.mem_of_getElem? hm, fun he => ?_⟩
        have hl := (List.getElem?_eq_some_iff.1 hm).1
        have e1 := sskey_at h hm
        have e2 := sskey_at h (List.getElem?_eq_getElem hz)
        rw [hkz] at e2
        dsimp only at e1
        rcases Nat.lt_or_gt_of_ne hne with hlt | hlt
        · have := (sssrt_R h).out z m hlt (by omega)
          rw [e1, e2, he] at this; exact ssltS_irr this
        · have := (sssrt_R h).out m z hlt (by omega)
          rw [e1, e2, he] at this; exact ssltS_irr this
    · rintro (⟨rfl, rfl⟩ | ⟨hx, hne⟩)
      · exact List.mem_of_getElem? (i := z) (by rw [List.getElem?_set, if_pos rfl, if_pos hz])
      · obtain ⟨m, hm⟩ := List.getElem?_of_mem hx
        refine List.mem_of_getElem? (i := m) ?_
        rw [List.getElem?_set]
        by_cases hmz : z = m
        · subst hmz
          rw [List.getElem?_eq_getElem hz] at hm
          simp only [Option.some.injEq] at hm
          exact (hne (by rw [hm] at hkz; exact hkz)).elim
        · rw [if_neg hmz]; exact hm
  · apply List.ext_getElem?
    intro m
    simp only [U.ssvs, List.getElem?_map, List.getElem?_set, List.length_map]
    by_cases hm : z = m
    · subst hm
      rw [if_pos rfl, if_pos rfl, if_pos hz, if_pos hz]; rfl
    · rw [if_neg hm, if_neg hm]
theorem ssput_row {n c d : Nat} {L M M' : Rws} {P : SSP} (h : U.ssshI n c L d M P) {z : Nat} (hz : z < n) (e : SSv) {r : List CV} (hr : r = e.row) (hM : M' = U.put M z 0 r) : U.Fu M' n d ((U.ssvs P).set z e.row) := by
  subst hr
  have hn := ssshI_n h
  have hrow := ssrow_at h (List.getElem?_eq_getElem (show z < P.length by omega))
  have hp1 : put1 (M.getD z []) 0 e.row = e.row := by
    rw [hrow]
    simp [put1, SSv.row, ssR]
  unfold U.put at hM
  rw [hp1] at hM
  obtain ⟨v1, v2, v3, v4⟩ := h.vf
  exact ⟨by rw [hM, v1, List.take_set], by rw [hM, List.length_set]; exact v2, v3, v4⟩
def ssshNw (n c : Nat) (L : Rws) (d : Nat) (M : Rws) (m : Int) : St := ⟨[ssB (rslC ⟨2, 1, 0, n, c⟩) (rslC ⟨3, 1, 0, n, d⟩) m], [], 0, [none, none, some (sskB L c), some (ssvB M d)], 0⟩
/-- P' is P with a key taken out. -/
structure U.ssRem (P : SSP) (k : List Int) (P' : SSP) : Prop where
  srt : U.ssSrt P'
  mem : ∀ x y, (x, y) ∈ P' ↔ (x, y) ∈ P ∧ x ≠ k
  len : P'.length + 1 = P.length
theorem ssrem_has {n c d : Nat} {L M : Rws} {P : SSP} (h : U.ssshI n c L d M P) {k : List Int} {z : Nat} (ha : U.ssAt L n k z) (hk : U.ssHasAt L n k z) :
    U.ssRem P k (P.eraseIdx z) ∧ U.ssks (P.eraseIdx z) = U.erR (U.ssks P) z ∧ U.ssvs (P.eraseIdx z) = U.erR (U.ssvs P) z := by
  have hn := ssshI_n h
  obtain ⟨h1, h2⟩ := hk.out
  have hz : z < P.length := by omega
  have hkz : P[z].1 = k := by
    rw [Int.toNat_natCast, sskey_at h (List.getElem?_eq_getElem hz)] at h2; exact h2
  have hlt : ∀ i j (hi : i < P.length) (hj : j < P.length), i < j → LtS (P[i]).1 (P[j]).1 := fun i j hi hj hij => List.pairwise_iff_getElem.1 h.srt.out i j hi hj hij
  refine ⟨⟨⟨List.Pairwise.sublist (List.eraseIdx_sublist _ _) h.srt.out⟩, fun x y => ?_, by rw [List.length_eraseIdx_of_lt hz]; omega⟩, ?_, ?_⟩
  · rw [List.mem_eraseIdx_iff_getElem?]
    constructor
    · rintro ⟨i, hi, hx⟩
      refine ⟨List.mem_of_getElem? hx, fun he => ?_⟩
      obtain ⟨hl, hx⟩ := List.getElem?_eq_some_iff.1 hx
      have e1 : (P[i]).1 = k := by rw [hx]; exact he
      rcases Nat.lt_or_gt_of_ne hi with g | g
      · have := hlt i z hl hz g
        rw [e1, hkz] at this; exact ssltS_irr this
      · have := hlt z i hz hl g
        rw [e1, hkz] at this; exact ssltS_irr this
    · rintro ⟨hx, hne⟩
      obtain ⟨i, hi⟩ := List.getElem?_of_mem hx
      refine ⟨i, fun he => hne ?_, hi⟩
      subst he
      rw [List.getElem?_eq_getElem hz] at hi
      simp only [Option.some.injEq] at hi
      rw [hi] at hkz; exact hkz
  · unfold U.erR U.ssks
    rw [Int.toNat_natCast]; simp [List.eraseIdx_eq_take_drop_succ, List.map_take, List.map_drop]
  · unfold U.erR U.ssvs
    rw [Int.toNat_natCast]; simp [List.eraseIdx_eq_take_drop_succ, List.map_take, List.map_drop]
theorem ssSet_run (K : AV → St → Prop) (L M : Rws) (n c d : Nat) (m : Int) (k : List Int) (e : SSv) (P : SSP) (h : U.ssshI n c L d M P) (hn : n ≤ 100000)
    (h1 : U.ssHasK P k → ∀ (M' : Rws) (P' : SSP), U.ssPut P k e P' → U.ssshI n c L d M' P' → K (xi .i64 0) (ssSt n c L d M' m))
    (h2 : ¬ U.ssHasK P k → m ≤ n → K (xi .i64 4) (ssSt n c L d M m))
    (h3 : ¬ U.ssHasK P k → (n : Int) < m → ∀ (L' : Rws) (n' c' : Nat) (M' : Rws) (d' : Nat) (P' : SSP), n' = n + 1 → U.ssPut P k e P' → U.ssshI n' c' L' d' M' P' → K (xi .i64 0) (ssshNw n' c' L' d' M' m)) :
    runV ssov inv0 sstSh 16 [ptr 0 0, cell (strC k), xi .i64 e.v0] (ssSt n c L d M m) K := by
  obtain ⟨v0⟩ := e
  have hPn := ssshI_n h
  have hl := h.kf.len
  have hle := h.kf.le
  have hl2 := h.vf.len
  have hle2 := h.vf.le
  have G : ∀ (z : Nat), U.ssAt L n k z → (U.ssHasAt L n k z ↔ U.ssHasK P k) := fun z ha => sshas_iff h ha
  show runV ssov inv0 sstSh 16 [ptr 0 0, cell (strC k), xi .i64 v0] (ssSt n c L d M m) K
  rw [ssSet_vc]
  refine ⟨⟨rfl, by omega, by omega, sssrt_R h⟩, fun z hz => ?_⟩
  have hb := hz.b
  obtain ⟨z, rfl⟩ : ∃ y : Nat, z = y := ⟨z.toNat, by omega⟩
  refine ⟨fun hx => ⟨by have := hx.out.1; omega, fun j1 hj1 => ⟨by have := hx.out.1; omega, fun M' hM => ?_⟩⟩, fun hx z3 h3' => ⟨fun hfull => ?_, fun hroom => ⟨U.ssks P, ⟨rfl, h.kf, by omega, by omega⟩, fun n5 c6 L7 e5 e7 => ?_⟩⟩⟩
  · obtain rfl : j1 = z := by omega
    obtain ⟨q1, q2, q3⟩ := ssput_has h hz hx ⟨v0⟩
    exact h1 ((G j1 hz).1 hx) M' _ q1 ⟨by rw [q2]; exact h.kf, by rw [q3]; exact ssput_row h (by have := hx.out.1; omega) _ rfl hM, q1.srt⟩
  · exact h2 (fun hy => hx ((G z hz).2 hy)) (by omega)
  · repeat (first | refine ⟨rfl, ?_⟩ | refine ⟨⟨rfl, rfl, rfl⟩, ?_⟩)
    refine ⟨U.ssvs P, ⟨rfl, h.vf, by omega, by omega⟩, fun n9 d10 M11 e9 e11 => ?_⟩
    obtain rfl : n9 = n5 := by omega
    obtain ⟨q1, q2, q3⟩ := ssput_non h hz (fun hy => hx ((G z hz).2 hy)) ⟨v0⟩
    repeat' (first | exact rfl | with_reducible apply And.intro)
    exact h3 (fun hy => hx ((G z hz).2 hy)) (by omega) _ _ _ _ _ _ e5 q1 ⟨by rw [q2]; exact e7, by rw [q3]; exact e11, q1.srt⟩
/-- This thing is there by this key. -/
structure U.ssHasE (P : SSP) (k : List Int) (v0 : Int) : Prop where
  out : (k, (⟨v0⟩ : SSv)) ∈ P
theorem ssof {M : Rws} {j : Nat} {e : SSv} (h : M.getD j [] = e.row) : (⟨U.fi M j 0⟩ : SSv) = e := by
  unfold U.fi
  rw [h]
  rfl
abbrev ssge (v0 : Int) (ok : Bool) : AV := .inr [.inl (xintC .i64 v0), .inl (.inl (.bool ok))]
theorem ssGet_run (K : AV → St → Prop) (L M : Rws) (n c d : Nat) (m : Int) (k : List Int) (P : SSP) (h : U.ssshI n c L d M P) (hn : n ≤ 100000)
    (hT : ∀ v0 : Int, U.ssHasE P k v0 → K (ssge v0 true) (ssSt n c L d M m)) (hF : ¬ U.ssHasK P k → K (ssge 0 false) (ssSt n c L d M m)) :
    runV ssov inv0 sstSh 18 [ptr 0 0, cell (strC k)] (ssSt n c L d M m) K := by
  rw [ssGet_vc]
  have hPn := ssshI_n h
  have hl := h.kf.len
  have hle := h.kf.le
  have hl2 := h.vf.len
  have hle2 := h.vf.le
  refine ⟨⟨rfl, by omega, by omega, sssrt_R h⟩, fun z hz => ?_⟩
  have hb := hz.b
  obtain ⟨z, rfl⟩ : ∃ y : Nat, z = y := ⟨z.toNat, by omega⟩
  refine ⟨fun hx => ⟨by have := hx.out.1; omega, fun j1 hj1 => ⟨by have := hx.out.1; omega, ?_⟩⟩, fun hx => hF (fun hy => hx ((sshas_iff h hz).2 hy))⟩
  obtain rfl : j1 = z := by omega
  obtain ⟨g1, g2⟩ := hx.out
  have hzl : j1 < P.length := by omega
  have hP := List.getElem?_eq_getElem hzl
  have hrow := ssrow_at h hP
  have hkz := sskey_at h hP
  rw [Int.toNat_natCast, hkz] at g2
  have hmem : (k, P[j1].2) ∈ P := by rw [← g2]; exact List.getElem_mem hzl
  have hT := hT (U.fi M j1 0) ⟨by rw [ssof hrow]; exact hmem⟩
  rintro _ rfl
  exact hT
theorem ssDel_run (K : AV → St → Prop) (L M : Rws) (n c d : Nat) (m : Int) (k : List Int) (P : SSP) (h : U.ssshI n c L d M P) (hn : n ≤ 100000)
    (h1 : U.ssHasK P k → ∀ (L' : Rws) (n' : Nat) (M' : Rws) (P' : SSP), n' + 1 = n → U.ssRem P k P' → U.ssshI n' c L' d M' P' → K (xi .i64 1) ⟨[ssB (rslC ⟨2, 1, 0, n', c⟩) (rslC ⟨3, 1, 0, n', d⟩) m, sssV k], [], 0, [none, none, some (sskB L' c), some (ssvB M' d)], 0⟩)
    (h0 : ¬ U.ssHasK P k → K (xi .i64 0) ⟨[ssB (rslC ⟨0, 1, 0, n, c⟩) (rslC ⟨1, 1, 0, n, d⟩) m, sssV k], [], 0, [some (sskB L c), some (ssvB M d)], 0⟩) :
    runV ssov inv0 sstSh 19 [ptr 0 0, sl ⟨1, 0, 1, none, 1⟩] ⟨[ssB (rslC ⟨0, 1, 0, n, c⟩) (rslC ⟨1, 1, 0, n, d⟩) m, sssV k], [], 0, [some (sskB L c), some (ssvB M d)], 0⟩ K := by
  rw [ssDel_vc]
  have hPn := ssshI_n h
  have hl := h.kf.len
  have hle := h.kf.le
  have hl2 := h.vf.len
  have hle2 := h.vf.le
  refine ⟨⟨rfl, by omega, by omega, sssrt_R h⟩, fun z hz => ?_⟩
  have hb := hz.b
  obtain ⟨z, rfl⟩ : ∃ y : Nat, z = y := ⟨z.toNat, by omega⟩
  refine ⟨fun hx z1 hz1 => ?_, fun hx => h0 (fun hy => hx ((sshas_iff h hz).2 hy))⟩
  have hlt := hx.out.1
  have e1 := iw hz1 (by omega)
  obtain ⟨q1, q2, q3⟩ := ssrem_has h hz hx
  refine ⟨U.ssks P, ⟨rfl, h.kf, by omega, e1⟩, fun n3 L4 e3 f4 z5 h5 => ⟨U.ssvs P, ⟨rfl, h.vf, by omega, iw h5 (by omega)⟩, fun n7 L8 e7 f8 => ?_⟩⟩
  obtain rfl : n7 = n3 := by omega
  exact h1 ((sshas_iff h hz).1 hx) L4 n7 L8 _ e3 q1 ⟨by rw [q2]; exact f4, by rw [q3]; exact f8, q1.srt⟩
theorem ssVals_run (K : AV → St → Prop) (L M : Rws) (n c d : Nat) (m : Int) (P : SSP) (h : U.ssshI n c L d M P)
    (hK : ∀ (L' : Rws) (n' c' : Nat), n' = n → n' ≤ c' → L' = U.ssvs P → K (cell (rslC ⟨2, 1, 0, n', c'⟩)) ⟨[ssB (rslC ⟨0, 1, 0, n, c⟩) (rslC ⟨1, 1, 0, n, d⟩) m], [], 0, [some (sskB L c), some (ssvB M d), some (ssvB L' c')], 0⟩) :
    runQ inv0 tbl0 11 [ptr 0 0] (ssSt n c L d M m) K := by
  rw [ssVals_vc]
  have hPn := ssshI_n h
  have hv := h.vf.n
  have hl2 := h.vf.len
  have hle2 := h.vf.le
  have hsm := h.vf.sm
  refine ⟨fun h0 => hK [] 0 0 h0.symm (Nat.le_refl _) (List.eq_nil_of_length_eq_zero (by omega)).symm, trivial, (by omega : 0 + n ≤ M.length), by omega, by omega, fun L0 n1 c2 e0 e1 e2 => ?_⟩
  obtain rfl : n1 = n := by omega
  refine hK L0 n1 c2 rfl e2 ?_
  rw [e0, List.drop_zero, h.vf.eq]; rfl
theorem ssKeys_run (K : AV → St → Prop) (L M : Rws) (n c d : Nat) (m : Int) (P : SSP) (h : U.ssshI n c L d M P)
    (hK : ∀ (L' : Rws) (n' c' : Nat), n' = n → n' ≤ c' → L' = U.ssks P → K (cell (rslC ⟨2, 1, 0, n', c'⟩)) ⟨[ssB (rslC ⟨0, 1, 0, n, c⟩) (rslC ⟨1, 1, 0, n, d⟩) m], [], 0, [some (sskB L c), some (ssvB M d), some (sskB L' c')], 0⟩) :
    runQ inv0 tbl0 9 [ptr 0 0] (ssSt n c L d M m) K := by
  rw [ssKeys_vc]
  have hPn := ssshI_n h
  have hv := h.kf.n
  have hl2 := h.kf.len
  have hle2 := h.kf.le
  have hsm := h.kf.sm
  refine ⟨fun h0 => hK [] 0 0 h0.symm (Nat.le_refl _) (List.eq_nil_of_length_eq_zero (by omega)).symm, trivial, (by omega : 0 + n ≤ L.length), by omega, by omega, fun L0 n1 c2 e0 e1 e2 => ?_⟩
  obtain rfl : n1 = n := by omega
  refine hK L0 n1 c2 rfl e2 ?_
  rw [e0, List.drop_zero, h.kf.eq]; rfl
end Go.Proofs.Ytfiadoboagpgkaa
end

section
set_option linter.unusedVariables false
set_option linter.unusedSimpArgs false
set_option maxRecDepth 10000
namespace Go.Proofs.Ytfiadoboagpgkaa
open Go Reck Ost
/-- The state of a shelf. -/
def ssshC (p : Option Blk) (a1 a2 : Option ABlk) : Option (Nat × Nat × Rws × Nat × Rws × Int) :=
  match p, a1, a2 with
  | some ⟨43, [a, b, m], none, 3, false⟩, some ⟨9, .o (.rows [.s] L), [], c0, false⟩, some ⟨3, .o (.rows ks M), [], d0, false⟩ => match cRsl a, cRsl b, cInt m, sameK ks ssvK with
    | some ⟨0, 1, 0, n, c⟩, some ⟨1, 1, 0, n2, d⟩, some m, true => some (n, c0, L, d0, M, m)
    | _, _, _, _ => none
  | _, _, _ => none
/-- Its slices tell the same. -/
def ssshD (p : Option Blk) (a1 a2 : Option ABlk) : Prop :=
  match p, a1, a2 with
  | some ⟨_, [a, b, _], _, _, _⟩, some ⟨_, _, _, c0, _⟩, some ⟨_, _, _, d0, _⟩ => match cRsl a, cRsl b with
    | some ⟨_, _, _, n, c⟩, some ⟨_, _, _, n2, d⟩ => c = c0 ∧ d = d0 ∧ n2 = n
    | _, _ => False
  | _, _, _ => False
theorem ssshC_eq {p : Option Blk} {a1 a2 : Option ABlk} {n c d : Nat} {L M : Rws} {m : Int} (h : ssshC p a1 a2 = some (n, c, L, d, M, m)) (hy : ssshD p a1 a2) : p = ssB (rslC ⟨0, 1, 0, n, c⟩) (rslC ⟨1, 1, 0, n, d⟩) m ∧ a1 = some (sskB L c) ∧ a2 = some (ssvB M d) := by
  unfold ssshC at h
  split at h
  · split at h
    · rename_i h1 h2 h3 h4
      simp only [Option.some.injEq, Prod.mk.injEq] at h
      obtain ⟨rfl, rfl, rfl, rfl, rfl, rfl⟩ := h
      simp only [ssshD, h1, h2] at hy
      obtain ⟨rfl, rfl, rfl⟩ := hy
      rw [cRsl_eq h1, cRsl_eq h2, cInt_eq h3, sameK_eq h4]
      exact ⟨rfl, rfl, rfl⟩
    · cases h
  · cases h
theorem ssmv {w0 w : World} {e : Env} {n c d : Nat} {L M : Rws} {m : Int} {H : List (Option Blk)} (h : Ok w0 e ⟨ssB (rslC ⟨0, 1, 0, n, c⟩) (rslC ⟨1, 1, 0, n, d⟩) m :: H, [], 0, [some (sskB L c), some (ssvB M d)], 0⟩ w) :
    ∃ e', e.le e' ∧ Ok w0 e' ⟨ssB (rslC ⟨2, 1, 0, n, c⟩) (rslC ⟨3, 1, 0, n, d⟩) m :: H, [], 0, [none, none, some (sskB L c), some (ssvB M d)], 0⟩ w := by
  have hb : ∃ q, e.blk[0]? = some q := by
    have := h.blks
    exact ⟨_, List.getElem?_eq_getElem (by rw [this]; exact Nat.succ_pos _)⟩
  obtain ⟨q, hq⟩ := hb
  obtain ⟨_, cur, fz, _, hc, _⟩ := h.blk 0 _ q rfl hq
  obtain ⟨v0, a0, _⟩ := hc 0 _ rfl
  obtain ⟨v1, a1, _⟩ := hc 1 _ rfl
  have b0 : Reck.av e (cell (rslC ⟨0, 1, 0, n, c⟩)) = some v0 := a0
  obtain ⟨q1, m1, k1⟩ := h.mvRows (i := 0) (b := sskB L c) rfl rfl rfl b0
  have b1 := av_mono (le_arr e q1) (cell (rslC ⟨1, 1, 0, n, d⟩)) v1 a1
  obtain ⟨q2, m2, k2⟩ := k1.mvRows (i := 1) (b := ssvB M d) rfl rfl rfl b1
  have l2 := le_arr ⟨e.blk, e.int, e.opq, e.arr ++ [q1], e.S, e.junk⟩ q2
  have m1 := av_mono l2 _ _ m1
  have le := (le_arr e q1).trans l2
  refine ⟨_, le, ?_⟩
  exact k2.reCell (i := 0) (cells' := [rslC ⟨2, 1, 0, n, c⟩, rslC ⟨3, 1, 0, n, d⟩, xintC .i64 m]) rfl (by
    intro j c' hc'
    match j, hc' with
    | 0, hc' => simp at hc'; subst hc'; exact ⟨_, _, rfl, cv_mono le _ _ a0, m1⟩
    | 1, hc' => simp at hc'; subst hc'; exact ⟨_, _, rfl, cv_mono le _ _ a1, m2⟩
    | 2, hc' => simp at hc'; subst hc'; exact ⟨_, _, rfl, rfl, rfl⟩
    | n + 3, hc' => simp at hc')
def U.sslen (P : SSP) : Nat := P.length
/-- There is room for a key. -/
structure U.ssRoom (P : SSP) (k : List Int) (m : Int) : Prop where
  out : U.ssHasK P k ∨ (P.length : Int) < m
def sspNew : Pat := fun args σ => match args, σ with
  | [m], ⟨[], [], 0, [], 0⟩ => match aInt m with
    | some m => some fun K => K (ptr 0 0) ⟨[ssB (rslC ⟨0, 1, 0, 0, 0⟩) (rslC ⟨1, 1, 0, 0, 0⟩) m], [], 0, [some (sskB [] 0), some (ssvB [] 0)], 0⟩
    | _ => none
  | _, _ => none
theorem sspNew_ok : PatOk 4 sspNew := by
  intro tm σ C h K hK w0 e w hk vs hvs
  unfold sspNew at h
  split at h
  · split at h
    · rename_i m hm
      simp only [Option.some.injEq] at h; subst h
      obtain ⟨v, rfl, hv⟩ := ones hvs
      refine (knownD noOv names (opMV_ok ssovOk) (conOk_ofR tbl0_ok) (show runV ssov inv0 tbl0 4 [xi .i64 m] emptySt (fun x σ' => x = ptr 0 0 ∧ σ' = ⟨[ssB (.inl (.slice none 0 0)) (.inl (.slice none 0 0)) m], [], 0, [], 0⟩) by rw [ssNew_vc]; exact ⟨rfl, rfl⟩) w0 e w hk _ (map1 (as_aInt hm hv))).mono ?_
      rintro en w' ⟨x, σ', e', v', h1, h2, h3, h4, rfl, rfl⟩
      obtain ⟨k1, c1⟩ := h4.addNone 9 [.s] 1
      obtain ⟨k2, c2⟩ := k1.addNone 3 ssvK 1
      have l2 := le_arr ⟨e'.blk, e'.int, e'.opq, e'.arr ++ [.inl none], e'.S, e'.junk⟩ (.inl none)
      have c1 := cv_mono l2 _ _ c1
      have k3 := k2.reCell (i := 0) (cells' := [rslC ⟨0, 1, 0, 0, 0⟩, rslC ⟨1, 1, 0, 0, 0⟩, xintC .i64 m]) rfl (by
        intro j c' hc'
        match j, hc' with
        | 0, hc' => simp at hc'; subst hc'; exact ⟨_, _, rfl, rfl, c1⟩
        | 1, hc' => simp at hc'; subst hc'; exact ⟨_, _, rfl, rfl, c2⟩
        | 2, hc' => simp at hc'; subst hc'; exact ⟨_, _, rfl, rfl, rfl⟩
        | n + 3, hc' => simp at hc')
      exact ⟨_, _, _, v', h1, h2.trans ((le_arr e' (.inl none)).trans l2), av_mono ((le_arr e' (.inl none)).trans l2) _ _ h3, k3, hK⟩
    · cases h
  · cases h
def sspSet : Pat := fun args σ => match args, σ with
  | [.inl (.inl (.inr (.inl (0, 0)))), k, v], ⟨[p], [], 0, [a1, a2], 0⟩ => match strX k, aInt v, ssshC p a1 a2 with
    | some k, some v0, some (n, c, L, d, M, m) => some fun K => ∃ P, (ssshD p a1 a2 ∧ U.ssshI n c L d M P ∧ n ≤ 100000) ∧
      (U.ssRoom P k m → ∀ (L' : Rws) (n' c' : Nat) (M' : Rws) (d' : Nat) (P' : SSP), n' = U.sslen P' → U.ssPut P k (⟨v0⟩ : SSv) P' → U.ssshI n' c' L' d' M' P' → K (xi .i64 0) (ssshNw n' c' L' d' M' m)) ∧
      (¬ U.ssRoom P k m → K (xi .i64 4) (ssSt n c L d M m))
    | _, _, _ => none
  | _, _ => none
theorem sspSet_ok : PatOk 16 sspSet := by
  intro tm σ C h K hK w0 e w hk vs hvs
  unfold sspSet at h
  split at h
  · split at h
    · rename_i k en n c L d M m hkk hl hσ
      simp only [Option.some.injEq] at h; subst h
      obtain ⟨P, ⟨hy, h1, h2⟩, h3, h4⟩ := hK
      obtain ⟨rfl, rfl, rfl⟩ := ssshC_eq hσ hy
      obtain ⟨x, y, z, rfl, q1, q2, q3⟩ := threes hvs
      have hn := ssshI_n h1
      refine (knownD noOv names (opMV_ok ssovOk) (conOk_ofR sstSh_ok) (ssSet_run (fun x σ' => (x = xi .i64 0 ∧ U.ssRoom P k m ∧ ∃ (L' : Rws) (n' c' : Nat) (M' : Rws) (d' : Nat) (P' : SSP), n' = P'.length ∧ U.ssPut P k ⟨en⟩ P' ∧ U.ssshI n' c' L' d' M' P' ∧ (σ' = ssSt n' c' L' d' M' m ∨ σ' = ssshNw n' c' L' d' M' m)) ∨ (x = xi .i64 4 ∧ ¬ U.ssRoom P k m ∧ σ' = ssSt n c L d M m)) L M n c d m k ⟨en⟩ P h1 h2 ?_ ?_ ?_) w0 e w hk _ (map3 q1 (as_str hkk q2) (as_aInt hl q3))).mono ?_
      · exact fun hh M' P' hp hi => .inl ⟨rfl, ⟨.inl hh⟩, L, n, c, M', d, P', by rw [hp.has hh, hn], hp, hi, .inl rfl⟩
      · exact fun hh hm => .inr ⟨rfl, fun ⟨hx⟩ => hx.elim hh (fun h => by omega), rfl⟩
      · exact fun hh hm L' n' c' M' d' P' he hp hi => .inl ⟨rfl, ⟨.inr (by omega)⟩, L', n', c', M', d', P', by rw [hp.non hh]; omega, hp, hi, .inr rfl⟩
      · rintro en' w' ⟨x, σ', e', v, g1, g2, g3, g4, hw⟩
        rcases hw with ⟨rfl, hr, L', n', c', M', d', P', f1, f2, f3, rfl | rfl⟩ | ⟨rfl, hr, rfl⟩
        · obtain ⟨e2, l2, k2⟩ := ssmv g4
          exact ⟨_, _, e2, v, g1, g2.trans l2, av_mono l2 _ _ g3, k2, h3 hr L' n' c' M' d' P' f1 f2 f3⟩
        · exact ⟨_, _, e', v, g1, g2, g3, g4, h3 hr L' n' c' M' d' P' f1 f2 f3⟩
        · exact ⟨_, _, e', v, g1, g2, g3, g4, h4 hr⟩
    · cases h
  · cases h
def sspGet : Pat := fun args σ => match args, σ with
  | [.inl (.inl (.inr (.inl (0, 0)))), k], ⟨[p], [], 0, [a1, a2], 0⟩ => match strX k, ssshC p a1 a2 with
    | some k, some (n, c, L, d, M, m) => some fun K => ∃ P, (ssshD p a1 a2 ∧ U.ssshI n c L d M P ∧ n ≤ 100000) ∧ (∀ v0 : Int, U.ssHasE P k v0 → K (ssge v0 true) (ssSt n c L d M m)) ∧ (¬ U.ssHasK P k → K (ssge 0 false) (ssSt n c L d M m))
    | _, _ => none
  | _, _ => none
theorem sspGet_ok : PatOk 18 sspGet := by
  intro tm σ C h K hK w0 e w hk vs hvs
  unfold sspGet at h
  split at h
  · split at h
    · rename_i hkk hσ
      simp only [Option.some.injEq] at h; subst h
      obtain ⟨P, ⟨hy, h1, h2⟩, h3, h4⟩ := hK
      obtain ⟨rfl, rfl, rfl⟩ := ssshC_eq hσ hy
      obtain ⟨x, y, rfl, q1, q2⟩ := twos hvs
      exact knownD noOv names (opMV_ok ssovOk) (conOk_ofR sstSh_ok) (ssGet_run K _ _ _ _ _ _ _ P h1 h2 h3 h4) w0 e w hk _ (map2 q1 (as_str hkk q2))
    · cases h
  · cases h
/-- P' is P without a key. -/
structure U.ssRm (P : SSP) (k : List Int) (P' : SSP) : Prop where
  srt : U.ssSrt P'
  mem : ∀ x y, (x, y) ∈ P' ↔ (x, y) ∈ P ∧ x ≠ k
  len : P'.length ≤ P.length
structure U.ssRmN (P : SSP) (k : List Int) (z : Int) : Prop where
  yes : U.ssHasK P k → z = 1
  no : ¬ U.ssHasK P k → z = 0
theorem ssrm_of {P P' : SSP} {k : List Int} (h : U.ssRem P k P') : U.ssRm P k P' := ⟨h.srt, h.mem, by have := h.len; omega⟩
theorem ssrm_non {P : SSP} {k : List Int} (hs : U.ssSrt P) (h : ¬ U.ssHasK P k) : U.ssRm P k P :=
  ⟨hs, fun x y => ⟨fun hx => ⟨hx, fun he => h ⟨y, he ▸ hx⟩⟩, fun hx => hx.1⟩, Nat.le_refl _⟩
def sspDel : Pat := fun args σ => match args, σ with
  | [.inl (.inl (.inr (.inl (0, 0)))), .inl (.inl (.inr (.inr (.inl ⟨1, 0, 1, none, 1⟩))))], ⟨[p, some ⟨9, [v], none, 1, false⟩], [], 0, [a1, a2], 0⟩ => match cStr v, ssshC p a1 a2 with
    | some k, some (n, c, L, d, M, m) => some fun K => ∃ P, (ssshD p a1 a2 ∧ U.ssshI n c L d M P ∧ n ≤ 100000) ∧ ∀ (z : Int) (L' : Rws) (n' : Nat) (M' : Rws) (P' : SSP), n' = U.sslen P' → U.ssRmN P k z → U.ssRm P k P' → U.ssshI n' c L' d M' P' → K (xi .i64 z) ⟨[ssB (rslC ⟨2, 1, 0, n', c⟩) (rslC ⟨3, 1, 0, n', d⟩) m, sssV k], [], 0, [none, none, some (sskB L' c), some (ssvB M' d)], 0⟩
    | _, _ => none
  | _, _ => none
theorem sspDel_ok : PatOk 19 sspDel := by
  intro tm σ C h K hK w0 e w hk vs hvs
  unfold sspDel at h
  split at h
  · split at h
    · rename_i k n c L d M m hkk hσ
      simp only [Option.some.injEq] at h; subst h
      obtain ⟨P, ⟨hy, h1, h2⟩, h3⟩ := hK
      obtain ⟨rfl, rfl, rfl⟩ := ssshC_eq hσ hy
      obtain rfl := cStr_eq hkk
      obtain ⟨x, y, rfl, q1, q2⟩ := twos hvs
      have hn := ssshI_n h1
      refine (knownD noOv names (opMV_ok ssovOk) (conOk_ofR sstSh_ok) (ssDel_run (fun x σ' => ∃ (z : Int) (L' : Rws) (n' : Nat) (M' : Rws) (P' : SSP), x = xi .i64 z ∧ n' = U.sslen P' ∧ U.ssRmN P k z ∧ U.ssRm P k P' ∧ U.ssshI n' c L' d M' P' ∧ (σ' = ⟨[ssB (rslC ⟨0, 1, 0, n', c⟩) (rslC ⟨1, 1, 0, n', d⟩) m, sssV k], [], 0, [some (sskB L' c), some (ssvB M' d)], 0⟩ ∨ σ' = ⟨[ssB (rslC ⟨2, 1, 0, n', c⟩) (rslC ⟨3, 1, 0, n', d⟩) m, sssV k], [], 0, [none, none, some (sskB L' c), some (ssvB M' d)], 0⟩)) L M n c d m k P h1 h2 ?_ ?_) w0 e w hk _ (map2 q1 q2)).mono ?_
      · exact fun hh L' n' M' P' he hr hi => ⟨1, L', n', M', P', rfl, by have := ssshI_n hi; exact this.symm, ⟨fun _ => rfl, fun g => (g hh).elim⟩, ssrm_of hr, hi, .inr rfl⟩
      · exact fun hh => ⟨0, L, n, M, P, rfl, hn.symm, ⟨fun g => (hh g).elim, fun _ => rfl⟩, ssrm_non h1.srt hh, h1, .inl rfl⟩
      · rintro en' w' ⟨x, σ', e', v, g1, g2, g3, g4, z, L', n', M', P', rfl, f1, f2, f3, f4, rfl | rfl⟩
        · obtain ⟨e2, l2, k2⟩ := ssmv g4
          exact ⟨_, _, e2, v, g1, g2.trans l2, av_mono l2 _ _ g3, k2, h3 z L' n' M' P' f1 f2 f3 f4⟩
        · exact ⟨_, _, e', v, g1, g2, g3, g4, h3 z L' n' M' P' f1 f2 f3 f4⟩
    · cases h
  · cases h
def sspVals : Pat := fun args σ => match args, σ with
  | [.inl (.inl (.inr (.inl (0, 0))))], ⟨[p], [], 0, [a1, a2], 0⟩ => match ssshC p a1 a2 with
    | some (n, c, L, d, M, m) => some fun K => ∃ P, (ssshD p a1 a2 ∧ U.ssshI n c L d M P) ∧ ∀ (L' : Rws) (n' c' : Nat), n' = n → n' ≤ c' → L' = U.ssvs P → K (cell (rslC ⟨2, 1, 0, n', c'⟩)) ⟨[ssB (rslC ⟨0, 1, 0, n, c⟩) (rslC ⟨1, 1, 0, n, d⟩) m], [], 0, [some (sskB L c), some (ssvB M d), some (ssvB L' c')], 0⟩
    | _ => none
  | _, _ => none
theorem sspVals_ok : PatOk 11 sspVals := by
  intro tm σ C h K hK w0 e w hk vs hvs
  unfold sspVals at h
  split at h
  · split at h
    · rename_i hσ
      simp only [Option.some.injEq] at h; subst h
      obtain ⟨P, ⟨hy, h1⟩, h2⟩ := hK
      obtain ⟨rfl, rfl, rfl⟩ := ssshC_eq hσ hy
      exact knownD noOv names opMK_ok (conOk_ofR tbl0_ok) (ssVals_run K _ _ _ _ _ _ P h1 h2) w0 e w hk vs hvs
    · cases h
  · cases h
def sspKeys : Pat := fun args σ => match args, σ with
  | [.inl (.inl (.inr (.inl (0, 0))))], ⟨[p], [], 0, [a1, a2], 0⟩ => match ssshC p a1 a2 with
    | some (n, c, L, d, M, m) => some fun K => ∃ P, (ssshD p a1 a2 ∧ U.ssshI n c L d M P) ∧ ∀ (L' : Rws) (n' c' : Nat), n' = n → n' ≤ c' → L' = U.ssks P → K (cell (rslC ⟨2, 1, 0, n', c'⟩)) ⟨[ssB (rslC ⟨0, 1, 0, n, c⟩) (rslC ⟨1, 1, 0, n, d⟩) m], [], 0, [some (sskB L c), some (ssvB M d), some (sskB L' c')], 0⟩
    | _ => none
  | _, _ => none
theorem sspKeys_ok : PatOk 9 sspKeys := by
  intro tm σ C h K hK w0 e w hk vs hvs
  unfold sspKeys at h
  split at h
  · split at h
    · rename_i hσ
      simp only [Option.some.injEq] at h; subst h
      obtain ⟨P, ⟨hy, h1⟩, h2⟩ := hK
      obtain ⟨rfl, rfl, rfl⟩ := ssshC_eq hσ hy
      exact knownD noOv names opMK_ok (conOk_ofR tbl0_ok) (ssKeys_run K _ _ _ _ _ _ P h1 h2) w0 e w hk vs hvs
    · cases h
  · cases h
def sstS : Tbl := tblOr (tblIf 4 sspNew) (tblOr (tblIf 16 sspSet) (tblOr (tblIf 18 sspGet) (tblOr (tblIf 19 sspDel) (tblOr (tblIf 11 sspVals) (tblIf 9 sspKeys)))))
theorem sstS_ok : TblOk Try.prog sstS := tblOr_ok (tblIf_ok sspNew_ok) (tblOr_ok (tblIf_ok sspSet_ok) (tblOr_ok (tblIf_ok sspGet_ok) (tblOr_ok (tblIf_ok sspDel_ok) (tblOr_ok (tblIf_ok sspVals_ok) (tblIf_ok sspKeys_ok)))))
end Go.Proofs.Ytfiadoboagpgkaa
end
