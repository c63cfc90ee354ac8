/- Parts of a proof, one behind the other: TO TM4 TP4. No condition. -/
import Derived.Test.YtpcnbhgifhiejaaGU
import Derived.Deep.Fields
import Derived.OpenShut
import Derived.Test.YtpcnbhgifhiejaaGX
section
set_option linter.unusedVariables false
set_option linter.unusedSimpArgs false
set_option maxRecDepth 100000
namespace Go.Proofs.Ytpcnbhgifhiejaa
open Go Reck Go.ChangeShapes Go.WideShapes Go.Deep

structure Mg where
  (kind xid mac ip ticks nonce tag why : Int)
  u : ByteArray
def Mg.val (s : Mg) : Value := .agg #[.int .i64 s.kind, .int .u32 s.xid, .int .u64 s.mac, .int .u32 s.ip, .int .i64 s.ticks, .string s.u, .int .u64 s.nonce, .int .u64 s.tag, .int .i64 s.why]
def mgZ : Mg := ⟨0, 0, 0, 0, 0, 0, 0, 0, ByteArray.empty⟩
structure Mg.ok (s : Mg) (W : World) : Prop where
  kin : U.TKin s.xid s.mac s.ip s.ticks s.nonce s.tag s.why
def Mg.l (s : Mg) : List Int := s.u.data.toList.map fun b => (b.toNat : Int)
theorem list9 {α : Type} : ∀ l : List α, l.length = 9 → ∃ x0 x1 x2 x3 x4 x5 x6 x7 x8, l = [x0, x1, x2, x3, x4, x5, x6, x7, x8]
  | [x0, x1, x2, x3, x4, x5, x6, x7, x8], _ => ⟨x0, x1, x2, x3, x4, x5, x6, x7, x8, rfl⟩
theorem fld9 {H : Type} {enc : TypeId × Value → H} {P : Program} {w : World} {base : Nat} {spare : Nat → Bool} {held : Bool} {t : TypeId} {fs : Array Field} {fuel : Nat} {cs : List Value} {x : DataW H × List MemPlace} (ht : P.underlying t = some (.struct fs)) (hone : oneCellFields P fs = true) (hC : P.cellsOf t = fs.size)
    (h : DataW.trod enc P w base spare held fuel t cs = some x) : ∃ n, cs.length = fs.size ∧ ∀ (i : Nat) (f : Field), fs[i]? = some f → ∃ y, DataW.trod enc P w base spare held n f.type [cs.getD i undef] = some y := by
  obtain ⟨ys, n, _, _, hl, hyl, hfld⟩ := DataW.trod_struct ht h
  refine ⟨n, hl.trans hC, fun i f hi => ?_⟩
  have hlt : i < fs.size := (Array.getElem?_eq_some_iff.1 hi).1
  obtain ⟨ho, hc1⟩ := hone_of hone i f hi
  have e := hfld i f hi
  rw [ho, hc1, take1_drop _ i undef (by omega)] at e
  have hy : i < ys.length := by omega
  exact ⟨ys[i], by rw [← List.getElem?_eq_getElem hy, ← e]⟩
theorem open_msg {H : Type} {enc : TypeId × Value → H} {W : World} {b0 : Nat} {held : Bool} {v : Value} {d : DataW H} {p : List MemPlace} (hval : Value.okWide Try.prog W .any b0 25 v) (h : DataW.Trod enc Try.prog W 0 (fun _ => true) held 25 v d p) : ∃ s : Mg, v = s.val ∧ s.ok W := by
  obtain ⟨cs, rfl, hsz⟩ : ∃ cs, v = .agg cs ∧ cs.size = Try.prog.cellsOf 25 := by
    simp only [Value.okWide, Try.underlying25] at hval
    obtain ⟨cs, h1, h2, _⟩ := hval
    exact ⟨cs, h1, h2⟩
  have hC : Try.prog.cellsOf 25 = 9 := by kernel_rfl
  rw [hC] at hsz
  obtain ⟨fuel, hf⟩ := h
  have hf : DataW.trod enc Try.prog W 0 (fun _ => true) held fuel 25 cs.toList = some (d, p) := hf
  obtain ⟨x0, x1, x2, x3, x4, x5, x6, x7, x8, hcs⟩ := list9 cs.toList (by simpa using hsz)
  rw [hcs] at hf
  obtain ⟨n, _, g⟩ := fld9 Try.underlying25 (by kernel_rfl) (by kernel_rfl) hf
  obtain rfl : cs = #[x0, x1, x2, x3, x4, x5, x6, x7, x8] := by cases cs; simp_all
  clear hval hcs hf
  obtain ⟨y0, hy0⟩ := g 0 _ rfl
  obtain ⟨z0, e0, _, w0⟩ := DataW.trod_int Try.underlying3 hy0
  obtain rfl : x0 = .int .i64 z0 := (List.cons.inj e0).1
  obtain ⟨y1, hy1⟩ := g 1 _ rfl
  obtain ⟨z1, e1, _, w1⟩ := DataW.trod_int Try.underlying22 hy1
  obtain rfl : x1 = .int .u32 z1 := (List.cons.inj e1).1
  obtain ⟨y2, hy2⟩ := g 2 _ rfl
  obtain ⟨z2, e2, _, w2⟩ := DataW.trod_int Try.underlying23 hy2
  obtain rfl : x2 = .int .u64 z2 := (List.cons.inj e2).1
  obtain ⟨y3, hy3⟩ := g 3 _ rfl
  obtain ⟨z3, e3, _, w3⟩ := DataW.trod_int Try.underlying22 hy3
  obtain rfl : x3 = .int .u32 z3 := (List.cons.inj e3).1
  obtain ⟨y4, hy4⟩ := g 4 _ rfl
  obtain ⟨z4, e4, _, w4⟩ := DataW.trod_int Try.underlying2 hy4
  obtain rfl : x4 = .int .i64 z4 := (List.cons.inj e4).1
  obtain ⟨y5, hy5⟩ := g 5 _ rfl
  obtain ⟨z5, e5, _, w5⟩ := DataW.trod_string Try.underlying9 hy5
  obtain rfl : x5 = .string z5 := (List.cons.inj e5).1
  obtain ⟨y6, hy6⟩ := g 6 _ rfl
  obtain ⟨z6, e6, _, w6⟩ := DataW.trod_int Try.underlying23 hy6
  obtain rfl : x6 = .int .u64 z6 := (List.cons.inj e6).1
  obtain ⟨y7, hy7⟩ := g 7 _ rfl
  obtain ⟨z7, e7, _, w7⟩ := DataW.trod_int Try.underlying23 hy7
  obtain rfl : x7 = .int .u64 z7 := (List.cons.inj e7).1
  obtain ⟨y8, hy8⟩ := g 8 _ rfl
  obtain ⟨z8, e8, _, w8⟩ := DataW.trod_int Try.underlying3 hy8
  obtain rfl : x8 = .int .i64 z8 := (List.cons.inj e8).1
  exact ⟨⟨z0, z1, z2, z3, z4, z6, z7, z8, z5⟩, rfl, ⟨⟨bounds_u32 w1, bounds_u64 w2, bounds_u32 w3, bounds_i64 w4, bounds_u64 w6, bounds_u64 w7, bounds_i64 w8⟩⟩⟩
theorem msg_av7 (e : Env) (s : Mg) : Reck.av e (msgA s.kind s.xid s.mac s.ip s.ticks (strC s.l) s.nonce s.tag s.why) = some s.val := by
  have h := strC_av (byteZ_lit s.u) e
  rw [strZ_lit] at h
  have h1 : Reck.cv e (strC s.l) = some (.string s.u) := h
  have h2 : ∀ k z, Reck.cv e (xintC k z) = some (.int k z) := fun _ _ => rfl
  simp only [msgA, av, v1, List.map_cons, List.map_nil, h1, h2, Mg.val]
  rfl
theorem ok_none' (w : World) : Ok w (arE []) emptySt w := ok_arrs w (l := []) (bs := []) rfl (by simp) (by intro i x q h; simp at h)
end Go.Proofs.Ytpcnbhgifhiejaa
end

section
namespace Go.Proofs.Ytpcnbhgifhiejaa
open Go Reck
set_option linter.unusedVariables false
def tTA4 : Tbl := tblOr tAwake7 (tblOr tRMay (tEncC true))
theorem tTA4_ok : TblOk Try.prog tTA4 := tblOr_ok tAwake7_ok (tblOr_ok tRMay_ok (tEncC_ok true))
set_option maxRecDepth 100000
--PLAIN
theorem talkApart_vc (kind xid mac ip ticks nonce tag why kind' xid' mac' ip' ticks' nonce' tag' why' : Int) (l l' : List Int) : (goT Try.prog [] (orcOf inv0 tTA4) (opMem Try.prog) 3000 (.inr (.inr (.inr (.inr 5)))) [msgA kind xid mac ip ticks (strC l) nonce tag why, msgA kind' xid' mac' ip' ticks' (strC l') nonce' tag' why'] emptySt isTrue) = (U.TKin xid mac ip ticks nonce tag why ∧ (U.TMay kind xid mac ip ticks nonce tag why l → U.TKin xid' mac' ip' ticks' nonce' tag' why' ∧ (U.TMay kind' xid' mac' ip' ticks' nonce' tag' why' l' → (U.TKin xid mac ip ticks nonce tag why ∧ U.TMay kind xid mac ip ticks nonce tag why l) ∧ ∀ (L0 : List Int) (n1 c2 cap3 : Nat), U.TWr kind xid mac ip ticks nonce tag why l L0 → n1 = List.length L0 → n1 ≤ (200 : Nat) → n1 ≤ c2 → c2 ≤ cap3 → (U.TKin xid' mac' ip' ticks' nonce' tag' why' ∧ U.TMay kind' xid' mac' ip' ticks' nonce' tag' why' l') ∧ ∀ (L4 : List Int) (n5 c6 cap7 : Nat), U.TWr kind' xid' mac' ip' ticks' nonce' tag' why' l' L4 → n5 = List.length L4 → n5 ≤ (200 : Nat) → n5 ≤ c6 → c6 ≤ cap7 → ((0 : Int) = (0 : Int) → ((0 : Int) = (0 : Int) → (kind = kind' ∧ xid = xid' ∧ mac = mac' ∧ ip = ip' ∧ ticks = ticks' ∧ l = l' ∧ nonce = nonce' ∧ tag = tag' ∧ why = why' ∧ True → ((Nat.le ((0 : Nat) + n1) (List.length L0) ∧ ByteL (List.take n1 (List.drop ((0 : Nat)) L0))) ∧ ∀ (l'8 : List Int), l'8 = List.take n1 (List.drop ((0 : Nat)) L0) → kind' = kind' ∧ xid' = xid' ∧ mac' = mac' ∧ ip' = ip' ∧ ticks' = ticks' ∧ l' = l' ∧ nonce' = nonce' ∧ tag' = tag' ∧ why' = why' ∧ kind = kind ∧ xid = xid ∧ mac = mac ∧ ip = ip ∧ ticks = ticks ∧ l = l ∧ nonce = nonce ∧ tag = tag ∧ why = why ∧ (Nat.le ((0 : Nat) + n5) (List.length L4) ∧ ByteL (List.take n5 (List.drop ((0 : Nat)) L4))) ∧ ∀ (l'9 : List Int), l'9 = List.take n5 (List.drop ((0 : Nat)) L4) → kind' = kind' ∧ xid' = xid' ∧ mac' = mac' ∧ ip' = ip' ∧ ticks' = ticks' ∧ l' = l' ∧ nonce' = nonce' ∧ tag' = tag' ∧ why' = why' ∧ kind = kind ∧ xid = xid ∧ mac = mac ∧ ip = ip ∧ ticks = ticks ∧ l = l ∧ nonce = nonce ∧ tag = tag ∧ why = why ∧ (l'8 = l'9 → kind' = kind' ∧ xid' = xid' ∧ mac' = mac' ∧ ip' = ip' ∧ ticks' = ticks' ∧ l' = l' ∧ nonce' = nonce' ∧ tag' = tag' ∧ why' = why' ∧ kind = kind ∧ xid = xid ∧ mac = mac ∧ ip = ip ∧ ticks = ticks ∧ l = l ∧ nonce = nonce ∧ tag = tag ∧ why = why ∧ True) ∧ (¬l'8 = l'9 → Err [(200 : Nat)])) ∧ (Nat.le ((0 : Nat) + n5) (List.length L4) ∧ ByteL (List.take n5 (List.drop ((0 : Nat)) L4))) ∧ ∀ (l'10 : List Int), l'10 = List.take n5 (List.drop ((0 : Nat)) L4) → kind' = kind' ∧ xid' = xid' ∧ mac' = mac' ∧ ip' = ip' ∧ ticks' = ticks' ∧ l' = l' ∧ nonce' = nonce' ∧ tag' = tag' ∧ why' = why' ∧ kind = kind ∧ xid = xid ∧ mac = mac ∧ ip = ip ∧ ticks = ticks ∧ l = l ∧ nonce = nonce ∧ tag = tag ∧ why = why ∧ (Nat.le ((0 : Nat) + n1) (List.length L0) ∧ ByteL (List.take n1 (List.drop ((0 : Nat)) L0))) ∧ ∀ (l'11 : List Int), l'11 = List.take n1 (List.drop ((0 : Nat)) L0) → kind' = kind' ∧ xid' = xid' ∧ mac' = mac' ∧ ip' = ip' ∧ ticks' = ticks' ∧ l' = l' ∧ nonce' = nonce' ∧ tag' = tag' ∧ why' = why' ∧ kind = kind ∧ xid = xid ∧ mac = mac ∧ ip = ip ∧ ticks = ticks ∧ l = l ∧ nonce = nonce ∧ tag = tag ∧ why = why ∧ (l'11 = l'10 → kind' = kind' ∧ xid' = xid' ∧ mac' = mac' ∧ ip' = ip' ∧ ticks' = ticks' ∧ l' = l' ∧ nonce' = nonce' ∧ tag' = tag' ∧ why' = why' ∧ kind = kind ∧ xid = xid ∧ mac = mac ∧ ip = ip ∧ ticks = ticks ∧ l = l ∧ nonce = nonce ∧ tag = tag ∧ why = why ∧ True) ∧ (¬l'11 = l'10 → Err [(200 : Nat)])) ∧ (¬(kind = kind' ∧ xid = xid' ∧ mac = mac' ∧ ip = ip' ∧ ticks = ticks' ∧ l = l' ∧ nonce = nonce' ∧ tag = tag' ∧ why = why' ∧ True) → ((Nat.le ((0 : Nat) + n1) (List.length L0) ∧ ByteL (List.take n1 (List.drop ((0 : Nat)) L0))) ∧ ∀ (l'12 : List Int), l'12 = List.take n1 (List.drop ((0 : Nat)) L0) → kind' = kind' ∧ xid' = xid' ∧ mac' = mac' ∧ ip' = ip' ∧ ticks' = ticks' ∧ l' = l' ∧ nonce' = nonce' ∧ tag' = tag' ∧ why' = why' ∧ kind = kind ∧ xid = xid ∧ mac = mac ∧ ip = ip ∧ ticks = ticks ∧ l = l ∧ nonce = nonce ∧ tag = tag ∧ why = why ∧ (Nat.le ((0 : Nat) + n5) (List.length L4) ∧ ByteL (List.take n5 (List.drop ((0 : Nat)) L4))) ∧ ∀ (l'13 : List Int), l'13 = List.take n5 (List.drop ((0 : Nat)) L4) → kind' = kind' ∧ xid' = xid' ∧ mac' = mac' ∧ ip' = ip' ∧ ticks' = ticks' ∧ l' = l' ∧ nonce' = nonce' ∧ tag' = tag' ∧ why' = why' ∧ kind = kind ∧ xid = xid ∧ mac = mac ∧ ip = ip ∧ ticks = ticks ∧ l = l ∧ nonce = nonce ∧ tag = tag ∧ why = why ∧ (l'12 = l'13 → Err [(200 : Nat)]) ∧ (¬l'12 = l'13 → kind' = kind' ∧ xid' = xid' ∧ mac' = mac' ∧ ip' = ip' ∧ ticks' = ticks' ∧ l' = l' ∧ nonce' = nonce' ∧ tag' = tag' ∧ why' = why' ∧ kind = kind ∧ xid = xid ∧ mac = mac ∧ ip = ip ∧ ticks = ticks ∧ l = l ∧ nonce = nonce ∧ tag = tag ∧ why = why ∧ True)) ∧ (Nat.le ((0 : Nat) + n5) (List.length L4) ∧ ByteL (List.take n5 (List.drop ((0 : Nat)) L4))) ∧ ∀ (l'14 : List Int), l'14 = List.take n5 (List.drop ((0 : Nat)) L4) → kind' = kind' ∧ xid' = xid' ∧ mac' = mac' ∧ ip' = ip' ∧ ticks' = ticks' ∧ l' = l' ∧ nonce' = nonce' ∧ tag' = tag' ∧ why' = why' ∧ kind = kind ∧ xid = xid ∧ mac = mac ∧ ip = ip ∧ ticks = ticks ∧ l = l ∧ nonce = nonce ∧ tag = tag ∧ why = why ∧ (Nat.le ((0 : Nat) + n1) (List.length L0) ∧ ByteL (List.take n1 (List.drop ((0 : Nat)) L0))) ∧ ∀ (l'15 : List Int), l'15 = List.take n1 (List.drop ((0 : Nat)) L0) → kind' = kind' ∧ xid' = xid' ∧ mac' = mac' ∧ ip' = ip' ∧ ticks' = ticks' ∧ l' = l' ∧ nonce' = nonce' ∧ tag' = tag' ∧ why' = why' ∧ kind = kind ∧ xid = xid ∧ mac = mac ∧ ip = ip ∧ ticks = ticks ∧ l = l ∧ nonce = nonce ∧ tag = tag ∧ why = why ∧ (l'15 = l'14 → Err [(200 : Nat)]) ∧ (¬l'15 = l'14 → kind' = kind' ∧ xid' = xid' ∧ mac' = mac' ∧ ip' = ip' ∧ ticks' = ticks' ∧ l' = l' ∧ nonce' = nonce' ∧ tag' = tag' ∧ why' = why' ∧ kind = kind ∧ xid = xid ∧ mac = mac ∧ ip = ip ∧ ticks = ticks ∧ l = l ∧ nonce = nonce ∧ tag = tag ∧ why = why ∧ True))) ∧ (¬(0 : Int) = (0 : Int) → Err [(200 : Nat)])) ∧ (¬(0 : Int) = (0 : Int) → Err [(200 : Nat)])) ∧ (¬U.TMay kind' xid' mac' ip' ticks' nonce' tag' why' l' → True)) ∧ (¬U.TMay kind xid mac ip ticks nonce tag why l → True)) := by kernel_rfl
end Go.Proofs.Ytpcnbhgifhiejaa
end

section
set_option linter.unusedVariables false
set_option linter.unusedSimpArgs false
set_option maxRecDepth 100000
namespace Go.Proofs.Ytpcnbhgifhiejaa
open Go Reck Ost
theorem twr_by {kind xid mac ip ticks nonce tag why : Int} {l L : List Int} (h : U.TWr kind xid mac ip ticks nonce tag why l L) : U.By L := by obtain ⟨N, hN⟩ := h; exact out_by' hN
theorem byL {L : List Int} (h : U.By L) (n : Nat) : ByteL (List.take n (List.drop 0 L)) := ⟨all_bytes (by_mem (by_take h _))⟩
set_option maxHeartbeats 2000000 in
theorem talkApart_run (kind xid mac ip ticks nonce tag why kind' xid' mac' ip' ticks' nonce' tag' why' : Int) (l l' : List Int) (hK : U.TKin xid mac ip ticks nonce tag why) (hK' : U.TKin xid' mac' ip' ticks' nonce' tag' why') :
    goT Try.prog [] (orcOf inv0 tTA4) (opMem Try.prog) 3000 (.inr (.inr (.inr (.inr 5)))) [msgA kind xid mac ip ticks (strC l) nonce tag why, msgA kind' xid' mac' ip' ticks' (strC l') nonce' tag' why'] emptySt isTrue := by
  rw [talkApart_vc]
  refine ⟨hK, fun hM => ⟨hK', fun hM' => ⟨⟨hK, hM⟩, fun La na ca pa hW hna hna2 _ _ => ⟨⟨hK', hM'⟩, fun Lb nb cb pb hW' hnb hnb2 _ _ => ⟨fun _ => ⟨fun _ => ⟨fun he => ?_, fun hne => ?_⟩, fun h => absurd rfl h⟩, fun h => absurd rfl h⟩⟩⟩, fun _ => trivial⟩, fun _ => trivial⟩
  · have hab : La = Lb := by
      obtain ⟨rfl, rfl, rfl, rfl, rfl, rfl, rfl, rfl, rfl, _⟩ := he
      exact twr_det hW hW'
    clear he
    have hta : List.take na (List.drop 0 La) = La := by rw [hna]; exact List.take_length
    have htb : List.take nb (List.drop 0 Lb) = Lb := by rw [hnb]; exact List.take_length
    have ba := byL (twr_by hW) na
    have bb := byL (twr_by hW') nb
    have ga : Nat.le (0 + na) La.length := by show 0 + na ≤ La.length; omega
    have gb : Nat.le (0 + nb) Lb.length := by show 0 + nb ≤ Lb.length; omega
    repeat' (first | exact rfl | exact trivial | assumption | (intro h; try subst h) | with_reducible apply And.intro)
    all_goals (rename_i h; exact absurd (by first | exact hta.trans (hab.trans htb.symm) | exact (hta.trans (hab.trans htb.symm)).symm) h)
  · have hab : ¬ La = Lb := fun e => by
      subst e
      obtain ⟨q1, q2, q3, q4, q5, q6, q7, q8, q9⟩ := twr_inj hM hM' hK hK' hW hW'
      exact hne ⟨q1, q2, q3, q4, q5, q9, q6, q7, q8, trivial⟩
    clear hne
    have hta : List.take na (List.drop 0 La) = La := by rw [hna]; exact List.take_length
    have htb : List.take nb (List.drop 0 Lb) = Lb := by rw [hnb]; exact List.take_length
    have ba := byL (twr_by hW) na
    have bb := byL (twr_by hW') nb
    have ga : Nat.le (0 + na) La.length := by show 0 + na ≤ La.length; omega
    have gb : Nat.le (0 + nb) Lb.length := by show 0 + nb ≤ Lb.length; omega
    have hta' : ∀ x, x = List.take na (List.drop 0 La) → x = La := fun x h => h.trans hta
    have htb' : ∀ x, x = List.take nb (List.drop 0 Lb) → x = Lb := fun x h => h.trans htb
    repeat' (first | exact rfl | exact trivial | assumption | intro h | with_reducible apply And.intro)
    all_goals (rename_i h; exact absurd ((hta' _ (by assumption)).symm.trans (h.trans (htb' _ (by assumption)))) hab)
theorem talkApart_walk (s t : Mg) (w : World) (hs : s.ok w) (ht : t.ok w) : Calls Try.prog 5 #[s.val, t.val] w fun en w' => en = .returned (.bool true) ∧ Only (fun _ => False) w w' :=
  call_true noOv names (conOk_of tTA4_ok) (talkApart_run s.kind s.xid s.mac s.ip s.ticks s.nonce s.tag s.why t.kind t.xid t.mac t.ip t.ticks t.nonce t.tag t.why s.l t.l hs.kin ht.kin) (ok_none' w) (vs := [s.val, t.val]) (by simp only [List.map_cons, List.map_nil, msg_av7])
end Go.Proofs.Ytpcnbhgifhiejaa
end
