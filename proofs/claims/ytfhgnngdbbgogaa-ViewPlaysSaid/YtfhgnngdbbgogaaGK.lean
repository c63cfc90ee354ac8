/- Parts of a proof, one behind the other: VW5 VW6 VW7. No condition. -/
import Derived.Test.YtfhgnngdbbgogaaGJ
import Derived.Test.YtfhgnngdbbgogaaGG
import Derived.Test.YtfhgnngdbbgogaaRkZ
section
namespace Go.Proofs.Ytfhgnngdbbgogaa
open Go Reck Ost
set_option linter.unusedVariables false
set_option maxRecDepth 100000
def pB (tm : List AV) (t : Nat) : Nat := match tm.getD t (lit undef) with
  | .inl (.inl (.inr (.inl (b, _)))) => b
  | _ => 0
def vKids (σ : St) (b : Nat) : Nat × Nat := match getBlk σ b with
  | some ⟨_, [.inr (.inl (x, _)), .inr (.inl (y, _))], _, _, _⟩ => (x, y)
  | _ => (0, 0)
def rslA (x : Cell) : Nat := match cRsl x with
  | some s => s.a
  | none => 0
def arr2 (σ : St) (b : Nat) : Nat × Nat := match getBlk σ b with
  | some ⟨_, [x, y, _], _, _, _⟩ => (rslA x, rslA y)
  | _ => (0, 0)
def arr1 (σ : St) (b : Nat) : Nat := match getBlk σ b with
  | some ⟨_, l, _, _, _⟩ => rslA (l.getLastD (.inl undef))
  | _ => 0
abbrev XV := Nat × (Nat × (Rws × (Nat × Rws)))
abbrev XR := List Bool × (List Int × (Nat × (Nat × Rws)))
structure U.avI (i now : Int) (n c : Nat) (L : Rws) (d : Nat) (M : Rws) (e f : Nat) (S : Rws) (g : Nat) (T : Rws) (kn : List Bool) (us : List Int) (q rc : Nat) (R : Rws) : Prop where
  out : 0 ≤ i ∧ 0 ≤ now ∧ now ≤ 15 * i ∧ now ≤ 600
  b : U.B n c L d M e f S g T kn us q R
  le : q ≤ rc
def bSet (σ' : St) (N b1 b2 b3 : Nat) (V W : XV) (Y : XR) : St :=
  ⟨((σ'.heap.set b1 (vuB (rslC ⟨N, 1, 0, V.1, V.2.1⟩) (rslC ⟨N + 1, 1, 0, V.1, V.2.2.2.1⟩) 8)).set b2 (vlB (rslC ⟨N + 2, 1, 0, W.1, W.2.1⟩) (rslC ⟨N + 3, 5, 0, W.1, W.2.2.2.1⟩) 32)).set b3 (rvB (n9 Y.1) (m9 Y.2.1) (rslC ⟨N + 4, 5, 0, Y.2.2.1, Y.2.2.2.1⟩)), σ'.ints, σ'.opqs, σ'.arrs.dropLast.dropLast.dropLast.dropLast.dropLast ++ [some (vukB V.2.2.1 V.2.1), some (vuvB V.2.2.2.2 V.2.2.2.1), some (vlkB W.2.2.1 W.2.1), some (vlvB W.2.2.2.2 W.2.2.2.1), some (snB Y.2.2.2.2 Y.2.2.2.1)], σ'.junks⟩
def avInv (v r i nw s : Nat) (J : List Nat) (tm : List AV) (σ : St) : Inv where
  X := Int × (Int × (XV × (XV × XR)))
  tags := [0]
  tag _ _ := 0
  J := J
  val _ x := [(i, xi .i64 x.1), (nw, xi .i64 x.2.1)]
  st _ x σ' := bSet σ' σ.arrs.length (vKids σ' (pB tm v)).1 (vKids σ' (pB tm v)).2 (pB tm r) x.2.2.1 x.2.2.2.1 x.2.2.2.2
  I _ x := U.avI x.1 x.2.1 x.2.2.1.1 x.2.2.1.2.1 x.2.2.1.2.2.1 x.2.2.1.2.2.2.1 x.2.2.1.2.2.2.2 x.2.2.2.1.1 x.2.2.2.1.2.1 x.2.2.2.1.2.2.1 x.2.2.2.1.2.2.2.1 x.2.2.2.1.2.2.2.2 (n9 x.2.2.2.2.1) (m9 x.2.2.2.2.2.1) x.2.2.2.2.2.2.1 x.2.2.2.2.2.2.2.1 x.2.2.2.2.2.2.2.2
  m _ x := ((slotR tm s).n : Int).toNat - x.1.toNat
  ren tm' σ' := ([], [(arr2 σ' (vKids σ' (pB tm' v)).1).1, (arr2 σ' (vKids σ' (pB tm' v)).1).2, (arr2 σ' (vKids σ' (pB tm' v)).2).1, (arr2 σ' (vKids σ' (pB tm' v)).2).2, arr1 σ' (pB tm' r)])
def invVA : InvF := fun c tm σ => match tm.length, firstReg c with
  | 132, some 4 => some (avInv 11 12 27 13 25 [0, 1, 2, 5, 8, 9, 14, 15, 16, 17, 18, 19, 20, 21, 22, 23, 24, 28, 29, 30, 31, 32, 33, 34, 35, 36, 37, 38, 39, 40, 41, 42, 43, 44, 45, 46, 47, 48, 49, 50, 51, 52, 53, 54, 55, 56, 57, 58, 59, 60, 61, 62, 63, 64, 65, 66, 67, 68, 69, 70, 71, 72, 73, 74, 75, 76, 77, 78, 79, 80, 81, 82, 83, 84, 85, 86, 87, 88, 89, 90, 91, 92, 93, 94, 95, 96, 97, 98, 99, 100, 101, 102, 103, 104, 105, 106, 107, 108, 109, 110, 111, 112, 113, 114, 115, 116, 117, 118, 119, 120, 121, 122, 123, 124, 125, 126, 127, 128, 129, 130, 131] tm σ)
  | _, _ => none
def vopsB (R : List (List CV)) : ABlk := ⟨34, .o (.rows [.n .i64, .n .i64, .n .i64, .n .i64, .n .i64, .n .i64, .n .i64, .n .i64] R), [], 0, true⟩
abbrev runAV (inv : InvF) (f : Nat) (args : List AV) (σ : St) : Prop := goT Try.prog [] (orcR inv nmt tVL) (opMB Try.prog) 3000 (.inr (.inr (.inr (.inr f)))) args σ isTrue
end Go.Proofs.Ytfhgnngdbbgogaa
end
section
set_option linter.unusedVariables false
set_option linter.unusedSimpArgs false
set_option maxRecDepth 10000
namespace Go.Proofs.Ytfhgnngdbbgogaa
open Go Reck Ost
theorem and15 (x : Int) : 0 ≤ andI .i64 x 15 ∧ andI .i64 x 15 ≤ 15 := by
  have h : (BitVec.ofInt 64 x &&& BitVec.ofInt 64 15).toNat ≤ 15 := by
    rw [BitVec.toNat_and]
    exact Nat.le_trans Nat.and_le_right (by decide)
  unfold andI
  show 0 ≤ IntKind.i64.wrap ((BitVec.ofInt 64 x &&& BitVec.ofInt 64 15).toNat : Int) ∧ IntKind.i64.wrap ((BitVec.ofInt 64 x &&& BitVec.ofInt 64 15).toNat : Int) ≤ 15
  rw [IntWalk.i64_in _ (by omega)]
  omega
theorem gb_0 (i : Nat) : (n9 []).getD i false = false := by
  rw [show n9 [] = List.replicate 9 false from rfl, List.getD_eq_getElem?_getD, List.getElem?_replicate]
  split <;> rfl
theorem b_nil : U.B 0 0 [] 0 [] 0 0 [] 0 [] (n9 []) (m9 []) 0 [] :=
  ⟨[], [], vw_nil, ⟨rfl, rfl, fun a _ _ => ⟨fun h => (by rw [gb_0] at h; cases h), fun ⟨v, hv⟩ => (List.not_mem_nil hv).elim⟩, fun a v hv => (List.not_mem_nil hv).elim, ⟨fun u hu => by
    rw [show m9 [] = List.replicate 9 0 from rfl] at hu
    rw [(List.mem_replicate.1 hu).2]; decide⟩, rfl, rfl, rfl⟩⟩
section
variable {n c : Nat} {L : Rws} {d : Nat} {M : Rws} {e f : Nat} {S : Rws} {g : Nat} {T : Rws} {Pu : VUP} {P P' : VLP} {a b a' b' x y x' y' now w most : Int}
theorem vw_all (h : U.Vw n c L d M e f S g T Pu P) : U.vushI n c L d M Pu ∧ n ≤ 8 ∧ U.KU Pu ∧ U.vlshI e f S g T P ∧ e ≤ 100000 := ⟨h.u, vw_n h, h.ku, h.l, by have := vw_e h; omega⟩
structure Lk (Pu : VUP) (P : VLP) (a b a' b' x y x' y' now : Int) : Prop where
  may : U.mayL Pu a b a' b'
  ord : U.Ord a b a' b' x y x' y'
  mem : (U.num x y, (⟨x, y, x', y', now⟩ : VLv)) ∈ P
  li : U.LI Pu P
  srt : U.vlSrt P
theorem Lk.is (h : Lk Pu P a b a' b' x y x' y' now) : ((a = x ∧ b = y) ∨ (a = x' ∧ b = y')) ∧ ((a' = x ∧ b' = y) ∨ (a' = x' ∧ b' = y')) := by
  rcases h.ord.out with ⟨h1, rfl, rfl, rfl, rfl⟩ | ⟨h1, rfl, rfl, rfl, rfl⟩
  · exact ⟨.inr ⟨rfl, rfl⟩, .inl ⟨rfl, rfl⟩⟩
  · exact ⟨.inl ⟨rfl, rfl⟩, .inr ⟨rfl, rfl⟩⟩
theorem Lk.no (h : Lk Pu P a b a' b' x y x' y' now) : ¬ U.Edg Pu P a b ∧ ¬ U.Edg Pu P a' b' :=
  ⟨fun hE => hE.no _ h.mem ⟨h.is.1⟩, fun hE => hE.no _ h.mem ⟨h.is.2⟩⟩
theorem Lk.one {s t k : Int} {v : VLv} (h : Lk Pu P a b a' b' x y x' y' now) (hst : (s = x ∧ t = y) ∨ (s = x' ∧ t = y')) (hx : (k, v) ∈ P) (hE : U.End v.v0 v.v1 v.v2 v.v3 s t) : k = U.num x y ∧ v = ⟨x, y, x', y', now⟩ := by
  by_cases ek : k = U.num x y
  · subst ek; exact ⟨rfl, vlone h.srt hx h.mem⟩
  · exfalso
    have p1 := h.li.ap _ _ _ _ hx h.mem ek
    have p2 := h.li.ap _ _ _ _ h.mem hx (fun e => ek e.symm)
    have p3 := (h.li.wf _ _ hx).1
    dsimp only at p1 p2
    rcases hst with ⟨rfl, rfl⟩ | ⟨rfl, rfl⟩ <;> rcases hE.out with ⟨q1, q2⟩ | ⟨q1, q2⟩
    · rw [q1, q2] at ek; exact ek p3
    · exact p2.2 (by rw [q1, q2])
    · rw [q1, q2] at p1; exact p1.2 p3
    · exact p1.1 (by rw [q1, q2])
theorem Lk.gone (h : Lk Pu P a b a' b' x y x' y' now) (hn : 0 ≤ now ∧ now ≤ 600) (hw : 0 ≤ w ∧ w ≤ 1023) (hm : most < w) : U.Edg Pu (U.rest (U.fAge (now + w) most) P) a b ∧ U.Edg Pu (U.rest (U.fAge (now + w) most) P) a' b' := by
  have key : ∀ s t, ((s = x ∧ t = y) ∨ (s = x' ∧ t = y')) → ∀ p ∈ U.rest (U.fAge (now + w) most) P, ¬ U.End p.2.v0 p.2.v1 p.2.v2 p.2.v3 s t := fun s t hst p hp hE => by
    obtain ⟨h1, h2⟩ := rest_mem.1 hp
    obtain ⟨k, v⟩ := p
    obtain ⟨rfl, rfl⟩ := h.one hst h1 hE
    unfold U.fAge at h2
    rw [dec_t (show most < IntKind.wrap .i64 (now + w - now) by rw [IntWalk.i64_in _ (by omega)]; omega)] at h2
    cases h2
  exact ⟨⟨h.may.u, key _ _ h.is.1⟩, ⟨h.may.u', key _ _ h.is.2⟩⟩
end
end Go.Proofs.Ytfhgnngdbbgogaa
end
section
set_option linter.unusedVariables false
set_option linter.unusedSimpArgs false
set_option maxRecDepth 10000
namespace Go.Proofs.Ytfhgnngdbbgogaa
open Go Reck Ost
def opKs : List CK := [.n .i64, .n .i64, .n .i64, .n .i64, .n .i64, .n .i64, .n .i64, .n .i64]
theorem open_ops {H : Type} {enc : TypeId × Value → H} {W : World} {held : Bool} {A : Option Addr} {len cap : Nat} {d : DataW H} {p : List MemPlace} (h : DataW.Trod enc Try.prog W 0 (fun _ => true) held 22 (.slice A len cap) d p) : ∃ R, CameR opKs W A len cap R := by
  obtain ⟨fuel, hf⟩ := h
  exact open_rowsN (D := 5) (ks := opKs) Try.underlying22 (by kernel_rfl) (by kernel_rfl) (by decide) hf
theorem came_ok {w : World} {A : Option Addr} {len cap : Nat} {R : List (List CV)} (hR : CameR opKs w A len cap R) : len = R.length ∧ len ≤ 9223372036854775807 ∧ ∃ q, Ok w (arE [q]) (arS [vopsB R]) w ∧ Reck.av (arE [q]) (cell (rslC ⟨0, 8, 0, len, cap⟩)) = some (.slice A len cap) := by
  obtain ⟨q, h1, h2⟩ := hR.base (by decide) 34
  have hl : len ≤ 9223372036854775807 := by
    have a := hR.2.1
    have b := hR.2.2.1
    have : maxLen ≤ 9223372036854775807 := by decide
    omega
  have hok : Ok w (arE [q]) (arS [vopsB R]) w := ok_arrs w (l := [vopsB R]) (bs := [q]) rfl (by simp [vopsB]) (by
    intro i x q' hx hq
    cases i with
    | zero => simp at hx hq; subst hx; subst hq; exact h2 _ rfl
    | succ i => simp at hx)
  exact ⟨hR.1.symm, hl, q, hok, h1 (arE [q]) 0 rfl⟩
theorem call_trueB {R : Orc} (hC : ConOk Try.prog R) {n f : Nat} {args : List AV} {σ : St} (h : goT Try.prog [] R (opMB Try.prog) n (.inr (.inr (.inr (.inr f)))) args σ isTrue)
    {w0 w : World} {e : Env} (hk : Ok w0 e σ w) {vs : List Value} (hvs : args.map (Reck.av e) = vs.map some) : Calls Try.prog f vs.toArray w fun en w' => en = .returned (.bool true) ∧ Only e.S w0 w' :=
  true_ok (ovs_of noOv) (names_of names) (opMB_ok Try.prog) hC h hk hvs
end Go.Proofs.Ytfhgnngdbbgogaa
end
