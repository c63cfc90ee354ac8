/- A reckoner of calls: rows that are taken out of a slice: three-index slices, append in place, clear. No condition. -/
import Derived.Test.YtcjcdimlcfegbaaGreatDoorRkU
set_option linter.unusedVariables false
set_option linter.unusedSimpArgs false
namespace Reck
open Go Ost

/-- A slice of rows with all three bounds. -/
def cut3 (P : Program) (t : TypeId) (x : AV) (lo hi mx : AV) (σ : St) : Option MR :=
  match P.underlying t, rslX x, intX lo, intX hi, intX mx with
  | some (.slice e), some s, some (_, lo), some (_, hi), some (_, mx) => match sizeT P e with
    | some u => if Nat.beq u s.u then some fun K => (0 ≤ lo ∧ lo ≤ hi ∧ hi ≤ mx ∧ mx ≤ (s.c : Int)) ∧ ∀ o n c : Nat, (o : Int) = (if mx = lo then (s.o : Int) else (s.o : Int) + lo) → (n : Int) = hi - lo → (c : Int) = mx - lo → K (cell (rslC ⟨s.a, s.u, o, n, c⟩)) σ else none
    | none => none
  | _, _, _, _, _ => none
/-- Noughts in place of what a slice of rows holds. -/
def clearR (P : Program) (t : TypeId) (x : AV) (σ : St) : Option MR :=
  match P.underlying t, rslX x with
  | some (.slice el), some s => match P.info? el, getArr σ s.a with
    | some i, some b => match i.zero, b.k with
      | some z, .o (.rows ks L) => if !b.ro && Nat.blt 0 ks.length && Nat.beq s.u ks.length && Nat.beq z.cells.size ks.length && (z.cells.toList.all fun v => v.oneCell') then match rowOf ks (z.cells.toList.map .inl) with
          | some r => some fun K => (s.o + s.n ≤ L.length) ∧ ∀ L' : List (List CV), L' = L.take s.o ++ List.replicate s.n r ++ L.drop (s.o + s.n) → K (lit (.tuple #[])) (setArr σ s.a (some ⟨b.elem, .o (.rows ks L'), [], b.cap, b.ro⟩))
          | none => none
        else none
      | _, _ => none
    | _, _ => none
  | _, _ => none
/-- append where there is room. -/
def appI (el : TypeId) (ks : List CK) (n : Nat) (d : DstR) (s : SrcR) : MR := fun K =>
  d.ok ∧ s.ok ∧ (n ≤ 16777216 ∧ s.n ≤ 16777216 ∧ n + s.n ≤ d.n) ∧ ∀ (L' : List (List CV)) (n' : Nat), L' = d.L.take n ++ s.L ++ d.L.drop (n + s.n) → n' = n + s.n → K (cell (rslC ⟨d.st.arrs.length, ks.length, 0, n', d.n⟩)) (addArr d.st ⟨el, .o (.rows ks L'), [], d.n, false⟩)
def appendI (P : Program) (t u : TypeId) (x y : AV) (σ : St) : Option MR :=
  match P.underlying t, P.underlying u with
  | some (.slice el), some (.slice _) => match kindsOf P 10 el, P.info? el with
    | some ks, some i => if Nat.blt 0 ks.length && Nat.beq i.size ks.length && Nat.blt 0 i.bytes && Nat.ble i.bytes 65536 then match destF ks el σ x, readR ks σ y with
          | some (n, d), some s => some (appI el ks n d s)
          | _, _ => none
        else none
    | _, _ => none
  | _, _ => none

/-- append, where numbers are rows, too. -/
def appendK (P : Program) (t u : TypeId) (x y : AV) (σ : St) : Option MR :=
  match P.underlying t, P.underlying u with
  | some (.slice _), some (.int _) => none
  | some (.slice el), some _ => match kindsOf P 10 el, P.info? el with
    | some ks, some i => match i.zero with
      | some z => if Nat.blt 0 ks.length && Nat.beq i.size ks.length && Nat.beq z.cells.size ks.length && (z.cells.toList.all fun v => v.oneCell') && Nat.blt 0 i.bytes && Nat.ble i.bytes 65536 then match destR ks el σ x, readR ks σ y with
          | some d, some s => some (appR el ks d s σ)
          | _, _ => none
        else none
      | none => none
    | _, _ => none
  | _, _ => none

/-- nil as rows of none, numbers, too. -/
def nilK (P : Program) (t : TypeId) (x : AV) (σ : St) : Option MR :=
  match x with
  | .inl (.inl (.inl (.slice none 0 0))) => match P.underlying t with
    | some (.slice el) => match kindsOf P 10 el with
      | some ks => some fun K => K (cell (rslC ⟨σ.arrs.length, ks.length, 0, 0, 0⟩)) (addArr σ ⟨el, .o (.rows ks []), [], 0, false⟩)
      | none => none
    | _ => none
  | _ => none

section
variable {P : Program} {w0 w : World} {e : Env} {σ : St} {tm : List AV} {a : Act}
theorem run_cut3 {t el : TypeId} {u : Nat} (hu : P.underlying t = some (.slice el)) (hs : sizeT P el = some u) (A : Option Addr) (n c l h m : Nat) (hl : l ≤ h) (hh : h ≤ m) (hm : m ≤ c) (k1 k2 k3 : IntKind) (w : World) :
    (Instr.sliceAt t (.slice A n c) (some (.int k1 (l : Int))) (some (.int k2 (h : Int))) (some (.int k3 (m : Int)))).run P w = .ok (.slice (if m = l then A else A.map (·.add (l * u))) (h - l) (m - l)) w := by
  have sb : ∀ (w : World) (k : IntKind) (i y : Nat) (code : BoundsCode), i ≤ y → (Instr.sliceBound (.int k (i : Int)) y code).run P w = .ok i w := by
    intro w k i y code hi
    have : (i : Int) ≤ (y : Int) := by omega
    simp [Instr.sliceBound, asIntOf, this]
  simp [Instr.sliceAt, run_underlying hu, Instr.slice, Instr.sliceBounds, run_sizeT hs, sb w k3 m _ _ hm, sb w k2 h _ _ hh, sb w k1 l _ _ hl]
theorem cut3_ok {t : TypeId} {x lo hi mx : AV} {v vlo vhi vmx : Value} {T : MR} {K : AV → St → Prop} (h : cut3 P t x lo hi mx σ = some T) (hK : T K) (hv : av e x = some v) (hlo : av e lo = some vlo) (hhi : av e hi = some vhi) (hmx : av e mx = some vmx) :
    ∃ y r, K y σ ∧ av e y = some r ∧ (Instr.sliceAt t v (some vlo) (some vhi) (some vmx)).run P w = .ok r w := by
  unfold cut3 at h
  split at h
  · rename_i el s k1 l k2 hh k3 m hu hs h1 h2 h3
    obtain rfl := rslX_eq hs
    obtain rfl := intX_ok h1 hlo
    obtain rfl := intX_ok h2 hhi
    obtain rfl := intX_ok h3 hmx
    split at h
    · rename_i u hz
      split at h
      · rename_i hc
        have hc : u = s.u := by simpa using hc
        simp only [Option.some.injEq] at h; subst h
        obtain ⟨⟨b1, b2, b3, b4⟩, hK⟩ := hK
        obtain ⟨l, rfl⟩ := Int.eq_ofNat_of_zero_le b1
        obtain ⟨hh, rfl⟩ := Int.eq_ofNat_of_zero_le (Int.le_trans b1 b2)
        obtain ⟨m, rfl⟩ := Int.eq_ofNat_of_zero_le (Int.le_trans (Int.le_trans b1 b2) b3)
        have hK' := hK (if m = l then s.o else s.o + l) (hh - l) (m - l) (by split <;> split <;> omega) (by omega) (by omega)
        rcases rsl_ok hv with ⟨A, hq, g1, g2, rfl⟩ | ⟨q, hq, g1, rfl⟩
        · have e1 : hh = 0 := by omega
          have e2 : l = 0 := by omega
          have e3 : m = 0 := by omega
          subst e1; subst e2; subst e3
          refine ⟨_, .slice A 0 0, hK', rsl_nil hq (by simp) (by simp), ?_⟩
          have := run_cut3 (P := P) hu hz A 0 0 0 0 0 (by omega) (by omega) (by omega) k1 k2 k3 w
          simpa using this
        · refine ⟨_, _, hK', rsl_av hq (by dsimp only; omega), ?_⟩
          have := run_cut3 (P := P) hu hz (some ⟨q.1, q.2 + s.o * s.u, none⟩) s.n s.c l hh m (by omega) (by omega) (by omega) k1 k2 k3 w
          rw [this]
          dsimp only
          congr 2
          by_cases hcl : m = l <;> simp [hcl, Addr.add_lit, Nat.add_assoc, Nat.add_mul, hc]
      · cases h
    · cases h
  · cases h
theorem clearR_ok (hk : Ok w0 e σ w) {t : TypeId} {x : AV} {xv : Value} {ts : Array TypeId} {ty : TypeId} {xs : Array Value} {T : MR} {K : AV → St → Prop} (h : clearR P t x σ = some T) (hK : T K) (hx : av e x = some xv)
    (hts0 : ts[0]? = some t) (hxs0 : xs[0]? = some xv) : ∃ v σ' r w', K v σ' ∧ av e v = some r ∧ Ok w0 e σ' w' ∧ (Builtin.clear_ ts ty xs).run P w = .ok r w' := by
  unfold clearR at h
  split at h
  · rename_i el s ht hs
    rw [rslX_eq hs] at hx
    split at h
    · rename_i i b hi hb
      split at h
      · rename_i z ks L hz hbk
        split at h
        · rename_i hc
          simp only [Bool.and_eq_true, Nat.beq_eq, Bool.not_eq_eq_eq_not, Bool.not_true, Nat.blt_eq, List.all_eq_true] at hc
          obtain ⟨⟨⟨⟨hro, c0⟩, hu⟩, c2⟩, c3⟩ := hc
          split at h
          · rename_i r hr
            simp only [Option.some.injEq] at h; subst h
            obtain ⟨h1, hK⟩ := hK
            have hzr := rowOf_ok (e := e) (ys := z.cells.toList) hr (by rw [List.map_map]; rfl)
            have hst : Typ ks (List.replicate s.n r) := fun x hx => by rw [List.mem_replicate] at hx; rw [hx.2]; exact hzr.1
            have hlt : (List.replicate s.n r).length = s.n := List.length_replicate
            have hlen : (flatV ks (List.replicate s.n r)).length = s.n * ks.length := by rw [flat_len hst, hlt]
            have ha := getArr_some hb
            have hzc : ∀ m, (Builtin.zeroCells z.cells m).toList = flatV ks (List.replicate m r) := fun m => by rw [zeroCells_rep _ (by omega), flat_rep, hzr.2]
            rcases rsl_ok hx with ⟨A, hq, hn, hc, rfl⟩ | ⟨q, hq, hn, rfl⟩
            · obtain ⟨q', hq', hA⟩ := hk.arrAt hb
              rw [hq] at hq'; simp at hq'; subst hq'
              obtain ⟨hbl, hA⟩ := hA
              have hL : L = [] := by
                rcases hA with ⟨k, hA⟩ | ⟨ks', hA⟩ | ⟨F, hA⟩ | ⟨F, hA⟩
                · rw [hbk] at hA; cases hA
                · rw [hbk] at hA; simp at hA; exact hA.2
                · rw [hbk] at hA; cases hA
                · rw [hbk] at hA; cases hA
              have hsame : setArr σ s.a (some ⟨b.elem, .o (.rows ks L), [], b.cap, b.ro⟩) = σ := by
                rw [← hbk, ← hbl]
                obtain ⟨h1, h2, h3, h4, h5⟩ := σ
                simp only [setArr, St.mk.injEq, true_and, and_true]
                exact List.ext_getElem? fun i => by
                  by_cases hi : s.a = i
                  · subst hi
                    have hlt := (List.getElem?_eq_some_iff.1 ha).1
                    rw [List.getElem?_set_self hlt]
                    exact ha.symm
                  · rw [List.getElem?_set_ne hi]
              refine ⟨_, _, _, w, hK L (by rw [hn, hL]; simp), lit_av e _, by rw [hsame]; exact hk, ?_⟩
              cases A with
              | none => simp [Builtin.clear_, hts0, hxs0, run_underlying ht]
              | some A => simp [Builtin.clear_, hts0, hxs0, run_underlying ht]
            · obtain ⟨h0, cur, el', fz, g1, g2, g3⟩ := hk.rowsAt hb hbk hq
              obtain ⟨⟨rfl, hfz⟩, g5, g6, g7⟩ := g3 hro
              obtain ⟨k3, k4⟩ := rowsAt_iff.1 g2
              have hown : w0.heap.size ≤ q.1 ∨ e.S q.1 := by
                rcases (hk.arrs.ok _ _ _ ha hq).own with ⟨h, _⟩ | ⟨_, h⟩
                · rw [hro] at h; cases h
                · exact h
              have hmul : (s.o + s.n) * ks.length ≤ b.cap * ks.length := Nat.mul_le_mul_right _ (by omega)
              rw [Nat.add_mul] at hmul
              have hst' := run_storeCells_fz P q.1 (q.2 + s.o * s.u) b.elem fz (flatV ks (List.replicate s.n r)) 0 cur w g1 hfz (by rw [hlen, hu]; omega) (flat_one hst)
              have hT : Typ ks (L.take s.o ++ List.replicate s.n r ++ L.drop (s.o + s.n)) := ((k3.sub fun x hx => List.mem_of_mem_take hx).app hst).app (k3.sub fun x hx => List.mem_of_mem_drop hx)
              refine ⟨_, _, _, w.setRow q.1 (cur.toList.take (q.2 + s.o * s.u + 0) ++ flatV ks (List.replicate s.n r) ++ cur.toList.drop (q.2 + s.o * s.u + 0 + (flatV ks (List.replicate s.n r)).length)).toArray, hK _ rfl, lit_av e _, hk.arrSet ha hro hq (arr_only w q.1 _) _ ?_, ?_⟩
              · intro y hy
                simp only [Option.some.injEq] at hy; subst hy
                refine ⟨hro, AOk.ofRows rfl h0 hT ⟨_, b.elem, fz, setRow_heap w q.1 cur _ b.elem _ g1, ?_, hro, hown, ⟨rfl, hfz.imp id (fun h => ?_)⟩, ?_, ?_, ?_⟩⟩
                · intro j v hj
                  rw [List.getElem?_toArray, Nat.add_zero, sand_get _ _ _ (by simp; rw [hu]; omega), hlen, hu]
                  rw [flat_app, flat_app, flat_take _ k3, flat_drop _ k3, Nat.add_mul] at hj
                  have := sand_get (flatV ks L) (flatV ks (List.replicate s.n r)) (s.o * ks.length) (by rw [flat_len k3]; exact Nat.mul_le_mul_right _ (by omega)) j
                  rw [hlen] at this
                  rw [this] at hj
                  by_cases c1 : j < s.o * ks.length
                  · rw [if_pos c1] at hj; rw [if_pos (by omega), Array.getElem?_toList]; exact k4 j v hj
                  · rw [if_neg c1] at hj; rw [if_neg (by omega)]
                    by_cases c2 : j < s.o * ks.length + s.n * ks.length
                    · rw [if_pos c2] at hj; rw [if_pos (by omega), show q.2 + j - (q.2 + s.o * ks.length) = j - s.o * ks.length by omega]; exact hj
                    · rw [if_neg c2] at hj; rw [if_neg (by omega), Array.getElem?_toList]; exact k4 j v hj
                · simp only [List.size_toArray, List.length_append, List.length_take, List.length_drop, Array.length_toList, hlen, hu]; omega
                · simp only [List.size_toArray, List.length_append, List.length_take, List.length_drop, Array.length_toList, hlen, hu]; omega
                · simp only [List.length_append, List.length_take, List.length_drop, hlt]; omega
                · intro v hv
                  simp only [List.mem_toArray, List.mem_append] at hv
                  rcases hv with (hv | hv) | hv
                  · exact g7 v (by simpa using List.mem_of_mem_take hv)
                  · exact flat_one hst v hv
                  · exact g7 v (by simpa using List.mem_of_mem_drop hv)
              · have h2 : (storeCells ⟨q.1, q.2 + s.o * s.u, none⟩ (flatV ks (List.replicate s.n r))).run P w = .ok () (w.setRow q.1 (cur.toList.take (q.2 + s.o * s.u + 0) ++ flatV ks (List.replicate s.n r) ++ cur.toList.drop (q.2 + s.o * s.u + 0 + (flatV ks (List.replicate s.n r)).length)).toArray) := by simpa using hst'
                generalize (w.setRow q.1 (cur.toList.take (q.2 + s.o * s.u + 0) ++ flatV ks (List.replicate s.n r) ++ cur.toList.drop (q.2 + s.o * s.u + 0 + (flatV ks (List.replicate s.n r)).length)).toArray) = w2 at h2
                cases hsn : s.n with
                | zero =>
                  rw [hsn] at h2
                  have h3 : (storeCells ⟨q.1, q.2 + s.o * s.u, none⟩ ([] : List Value)).run P w = .ok () w2 := h2
                  simp [storeCells] at h3
                  subst h3
                  simp [Builtin.clear_, hts0, hxs0, run_underlying ht, hsn]
                | succ m =>
                  rw [hsn] at h2 hxs0
                  simp [Builtin.clear_, hts0, hxs0, run_underlying ht, run_zeroT hi hz, hzc]
                  rw [h2]; simp
          · cases h
        · cases h
      · cases h
    · cases h
  · cases h
theorem appI_ok {ks : List CK} {el t u : TypeId} {n c : Nat} {d d' : DstR} {s : SrcR} {base : Option Addr} {x : Value} {ts : Array TypeId} {ty : TypeId} {xs : Array Value} {i : TypeInfo} {K : AV → St → Prop} (h : appI el ks n d s K) (h0 : 0 < ks.length) (hn : n ≤ c) (hdn : d.n = c)
    (hF : DstROk P w0 w e ks el d (.slice base c c)) (e1 : d'.st = d.st) (e2 : d'.n = n) (e3 : d'.L = d.L.take n) (hd : DstROk P w0 w e ks el d' (.slice base n c)) (hst : Typ ks s.L) (hsl : s.L.length = s.n) (hN : News P w t u x s.n (flatV ks s.L)) (hts0 : ts[0]? = some t) (hts1 : ts[1]? = some u)
    (hxs0 : xs[0]? = some (.slice base n c)) (hxs1 : xs[1]? = some x) (ht : P.underlying t = some (.slice el)) (hi : P.info? el = some i) (hsize : i.size = ks.length) (hb0 : 0 < i.bytes) (hb : i.bytes ≤ 65536) :
    ∃ v σ' e' r w', K v σ' ∧ e.le e' ∧ av e' v = some r ∧ Ok w0 e' σ' w' ∧ (Builtin.append_ ts ty xs).run P w = .ok r w' := by
  obtain ⟨_, _, ⟨h1, h2, hfit⟩, hK⟩ := h
  obtain ⟨hdt, hdl, hdf, _, _⟩ := hd
  obtain ⟨hFt, hFl, _, hdst, base', c', hbe, _, hmem⟩ := hF
  rw [hdn] at hbe hmem hFl hK hfit
  obtain ⟨rfl, _, rfl⟩ := Value.slice.inj hbe
  rw [e2] at hdl hdf
  have hLn : d'.L.length = n := hdl
  rw [← e3] at hK
  have hnl : (flatV ks s.L).length = s.n * ks.length := by rw [flat_len hst, hsl]
  have hol : (flatV ks d'.L).length = n * ks.length := by rw [flat_len hdt, hLn]
  have hlen := hdst.arrs.len
  have fin : ∀ (w' : World) (bs : Option Addr ⊕ (Nat × Nat)), Ok w0 e d.st w' → AOk w0 w' e ⟨el, .o (.rows ks (d'.L ++ s.L ++ d.L.drop (n + s.n))), [], c, false⟩ bs → (∀ A, bs = .inl A → c = 0) →
      (∀ p, bs = .inr p → (∀ (b : Nat) y q', d.st.heap[b]? = some (some y) → e.blk[b]? = some q' → q'.1 ≠ p.1) ∧ (∀ (i : Nat) y q', d.st.arrs[i]? = some (some y) → y.ro = false → e.arr[i]? = some (.inr q') → q'.1 ≠ p.1) ∧ ¬ FrzP d.st p.1) →
      (Builtin.append_ ts ty xs).run P w = .ok (.slice (match bs with | .inl A => A | .inr p => some ⟨p.1, p.2, none⟩) (n + s.n) c) w' →
      ∃ v σ' e' r w', K v σ' ∧ e.le e' ∧ av e' v = some r ∧ Ok w0 e' σ' w' ∧ (Builtin.append_ ts ty xs).run P w = .ok r w' := by
    intro w' bs hok hA hnone hdis hr
    refine ⟨_, _, ⟨e.blk, e.int, e.opq, e.arr ++ [bs], e.S, e.junk, e.Z⟩, _, w', hK (d'.L ++ s.L ++ d.L.drop (n + s.n)) (n + s.n) rfl rfl, le_arr e bs, ?_, hok.arrAdd hA rfl (fun p hp => ⟨(hdis p hp).1, (hdis p hp).2.1⟩) ⟨(fun F hF => by rcases hF with h | h <;> cases h), fun p hp => (hdis p hp).2.2⟩, hr⟩
    cases bs with
    | inl A =>
      have n2 := hnone A rfl
      have n1 : n + s.n = 0 := by omega
      rw [n1, n2]
      exact rsl_nil (s := ⟨d.st.arrs.length, ks.length, 0, 0, 0⟩) (by simp [← hlen]) rfl rfl
    | inr p => exact rsl_new (q := p) (by simp [← hlen]) hfit
  by_cases hm0 : s.n = 0
  · have hsl0 : s.L = [] := List.eq_nil_of_length_eq_zero (by omega)
    rw [hm0] at hN
    have hr := run_none (P := P) (w := w) (ty := ty) hts0 hts1 hxs0 hxs1 ht hi hsize hN (by rw [hsl0]; rfl) hn
    rcases hmem with ⟨n1, n2⟩ | ⟨g, o, cur, fz, rfl, g1, hfz, g2, g3, g4, g5, g6, g7, g8⟩
    · have hd0 : d'.L = [] := List.eq_nil_of_length_eq_zero (by omega)
      have hd1 : d.L = [] := List.eq_nil_of_length_eq_zero (by omega)
      refine fin w (.inl base) hdst ?_ (fun _ _ => by omega) (by intro p hp; cases hp) (by rw [hr]; simp [hm0])
      exact ⟨rfl, .inr (.inl ⟨ks, by rw [hd0, hsl0, hd1]; simp⟩)⟩
    · have hwh : d'.L ++ s.L ++ d.L.drop (n + s.n) = d.L := by rw [hsl0, List.append_nil, e3, hm0, Nat.add_zero, List.take_append_drop]
      refine fin w (.inr (g, o)) hdst (by rw [hwh]; exact AOk.ofRows rfl h0 hFt ⟨cur, el, fz, g1, g2, rfl, g5, ⟨rfl, hfz⟩, g3, by dsimp only; omega, g4⟩) (by intro A h; cases h) (by rintro p hp; simp at hp; subst hp; exact ⟨g7, g8⟩) (by rw [hr]; simp [hm0])
  · have hpos : 0 < s.n := by omega
    rcases hmem with ⟨n1, n2⟩ | ⟨g, o, cur, fz, rfl, g1, hfz, g2, g3, g4, g5, g6, g7, g8⟩
    · omega
    · have hr := run_fit (P := P) (w := w) (ty := ty) hts0 hts1 hxs0 hxs1 ht hi hsize h0 hb hN hpos h2 hfit
      have hmul : (n + s.n) * ks.length ≤ c * ks.length := Nat.mul_le_mul_right _ hfit
      rw [Nat.add_mul] at hmul
      have hst' := run_storeCells_fz P g (o + n * ks.length) el fz (flatV ks s.L) 0 cur w g1 hfz (by rw [hnl]; omega) (flat_one hst)
      rw [hst'] at hr
      simp only [Result.andThen_ok] at hr
      have hon := arr_only w g (cur.toList.take (o + n * ks.length + 0) ++ flatV ks s.L ++ cur.toList.drop (o + n * ks.length + 0 + (flatV ks s.L).length)).toArray
      have hTd : Typ ks (d.L.drop (n + s.n)) := hFt.sub fun x hx => List.mem_of_mem_drop hx
      have hTw : Typ ks (d'.L ++ s.L ++ d.L.drop (n + s.n)) := (hdt.app hst).app hTd
      have hlw : (d'.L ++ s.L ++ d.L.drop (n + s.n)).length = c := by rw [List.length_append, List.length_append, List.length_drop]; omega
      refine fin _ (.inr (g, o)) (g6 _ hon) (AOk.ofRows rfl h0 hTw ⟨_, el, fz, setRow_heap w g cur _ el _ g1, ?_, rfl, g5, ⟨rfl, hfz.imp id (fun h => by simp; omega)⟩, ?_, by dsimp only; omega, ?_⟩) (by intro A h; cases h) (by rintro p hp; simp at hp; subst hp; exact ⟨g7, g8⟩) hr
      · intro j v hj
        dsimp only
        rw [List.getElem?_toArray, Nat.add_zero, sand_get _ _ _ (by simp; omega)]
        rw [flat_app, flat_app] at hj
        by_cases hjd : j < n * ks.length
        · rw [if_pos (by omega)]
          rw [List.append_assoc, List.getElem?_append_left (by omega)] at hj
          rw [Array.getElem?_toList]
          refine g2 j v ?_
          rw [e3, flat_take _ hFt, List.getElem?_take] at hj
          rw [if_pos hjd] at hj; exact hj
        · rw [if_neg (by omega)]
          by_cases hj2 : j < n * ks.length + s.n * ks.length
          · rw [List.getElem?_append_left (by rw [List.length_append]; omega), List.getElem?_append_right (by omega), hol] at hj
            rw [if_pos (by omega), show o + j - (o + n * ks.length) = j - n * ks.length by omega, hj]
          · rw [List.getElem?_append_right (by rw [List.length_append]; omega), List.length_append, hol, hnl, flat_drop _ hFt, List.getElem?_drop, Nat.add_mul] at hj
            rw [if_neg (by omega), Array.getElem?_toList]
            refine g2 j v ?_
            rw [← hj]; congr 1; omega
      · simp; omega
      · intro v hv
        simp only [List.mem_toArray, List.mem_append] at hv
        rcases hv with (hv | hv) | hv
        · exact g4 v (by simpa using List.mem_of_mem_take hv)
        · exact flat_one hst v hv
        · exact g4 v (by simpa using List.mem_of_mem_drop hv)
theorem appendI_ok (hk : Ok w0 e σ w) {t u : TypeId} {x y : AV} {sv xv : Value} {T : MR} {K : AV → St → Prop} {ts : Array TypeId} {ty : TypeId} {xs : Array Value} (h : appendI P t u x y σ = some T) (hK : T K) (hx : av e x = some sv) (hy : av e y = some xv) (hts0 : ts[0]? = some t) (hts1 : ts[1]? = some u)
    (hxs0 : xs[0]? = some sv) (hxs1 : xs[1]? = some xv) : ∃ v σ' e' r w', K v σ' ∧ e.le e' ∧ av e' v = some r ∧ Ok w0 e' σ' w' ∧ (Builtin.append_ ts ty xs).run P w = .ok r w' := by
  unfold appendI at h
  split at h
  · rename_i el el2 ht hu
    split at h
    · rename_i ks i hks hi
      split at h
      · rename_i hc
        simp only [Bool.and_eq_true, Nat.beq_eq, Nat.blt_eq, Nat.ble_eq] at hc
        obtain ⟨⟨⟨c0, c1⟩, c4⟩, c5⟩ := hc
        split at h
        · rename_i n d s hd hs
          simp only [Option.some.injEq] at h; subst h
          obtain ⟨base, c, rfl, f1, f2, f3, d', f4, f5, f6, f7⟩ := destF_ok (P := P) hk c0 hd hK.1 hx
          have hS := readR_ok hk hs hK.2.1 hy
          have hslo := hS.lenOf (P := P)
          have hsf := hS.first (P := P)
          have hne : ∀ k : IntKind, (TypeDesc.slice el2) ≠ .int k := fun k h => by cases h
          exact appI_ok hK c0 f1 f2 f3 f4 f5 f6 f7 hS.typ hS.len (.inr ⟨.slice el2, hu, hne, hslo, el, i, ht, hi, fun w' hw' => by rw [c1]; exact hsf w' hw'⟩) hts0 hts1 hxs0 hxs1 ht hi c1 c4 c5
        · cases h
      · cases h
    · cases h
  · cases h

/-- For what takes rows out of a slice. -/
def opMW (P : Program) (ov : List FuncId) : OpM := fun tm o σ =>
  match o.op with
  | .slice t x (some lo) (some hi) (some mx) => cut3 P t (evalA tm x) (evalA tm lo) (evalA tm hi) (evalA tm mx) σ
  | .call c => match c.callee, c.args.toList, c.argTypes.toList with
    | .builtin .append, [x, y], t :: u :: _ => match appendI P t u (evalA tm x) (evalA tm y) σ with
      | some T => some T
      | none => opMV P ov tm o σ
    | .builtin .clear, [x], t :: _ => match clearR P t (evalA tm x) σ with
      | some T => some T
      | none => opMV P ov tm o σ
    | _, _, _ => opMV P ov tm o σ
  | _ => opMV P ov tm o σ
theorem opMW_ok {ov : List FuncId} (hov : ov.all (isOverlaps P) = true) : OpMOk P (opMW P ov) := by
  intro tm o σ T h
  unfold opMW at h
  split at h
  · rename_i t x lo hi mx ho
    intro K hK w0 e w a hk ht
    obtain ⟨y, r, h1, h2, h3⟩ := cut3_ok (w := w) h hK (evalA_ok ht x) (evalA_ok ht lo) (evalA_ok ht hi) (evalA_ok ht mx)
    refine ⟨y, σ, e, r, w, h1, Env.le.refl e, h2, hk, .inl ?_⟩
    skip
    simp only [execOp, ho, Option.map_some, Sem.run_bind, h3, Result.andThen_ok]
    rfl
  · rename_i c ho
    split at h
    · rename_i x y t u l hc hxy hts
      split at h
      · rename_i T' hT
        simp only [Option.some.injEq] at h; subst h
        intro K hK w0 e w a hk ht
        obtain ⟨callee, args, ts⟩ := c
        dsimp only at hc hxy hts
        subst hc
        obtain rfl : args = #[x, y] := Array.toList_inj.1 hxy
        have hts0 : ts[0]? = some t := by rw [← Array.getElem?_toList, hts]; rfl
        have hts1 : ts[1]? = some u := by rw [← Array.getElem?_toList, hts]; rfl
        obtain ⟨v, σ', e', r, w', h1, h2, h3, h4, h5⟩ := appendI_ok (ty := o.type) (xs := #[a.eval x, a.eval y]) hk hT hK (evalA_ok ht x) (evalA_ok ht y) hts0 hts1 rfl rfl
        refine ⟨v, σ', e', r, w', h1, h2, h3, h4, .inl ?_⟩
        simp only [execOp, ho, resolve, Sem.run_bind, Sem.run_pure, Result.andThen_ok, invoke, List.map_toArray, List.map_cons, List.map_nil]
        simp [builtin, h5]
      · exact opMV_ok hov tm o σ T h
    · rename_i x t l hc hxy hts
      split at h
      · rename_i T' hT
        simp only [Option.some.injEq] at h; subst h
        intro K hK w0 e w a hk ht
        obtain ⟨callee, args, ts⟩ := c
        dsimp only at hc hxy hts
        subst hc
        obtain rfl : args = #[x] := Array.toList_inj.1 hxy
        have hts0 : ts[0]? = some t := by rw [← Array.getElem?_toList, hts]; rfl
        obtain ⟨v, σ', r, w', h1, h3, h4, h5⟩ := clearR_ok (ty := o.type) (xs := #[a.eval x]) hk hT hK (evalA_ok ht x) hts0 rfl
        refine ⟨v, σ', e, r, w', h1, Env.le.refl e, h3, h4, .inl ?_⟩
        simp only [execOp, ho, resolve, Sem.run_bind, Sem.run_pure, Result.andThen_ok, invoke, List.map_toArray, List.map_cons, List.map_nil]
        simp [builtin, h5]
      · exact opMV_ok hov tm o σ T h
    · exact opMV_ok hov tm o σ T h
  · exact opMV_ok hov tm o σ T h
theorem appendK_ok (hk : Ok w0 e σ w) {t u : TypeId} {x y : AV} {sv xv : Value} {T : MR} {K : AV → St → Prop} {ts : Array TypeId} {ty : TypeId} {xs : Array Value} (h : appendK P t u x y σ = some T) (hK : T K) (hx : av e x = some sv) (hy : av e y = some xv) (hts0 : ts[0]? = some t) (hts1 : ts[1]? = some u)
    (hxs0 : xs[0]? = some sv) (hxs1 : xs[1]? = some xv) : ∃ v σ' e' r w', K v σ' ∧ e.le e' ∧ av e' v = some r ∧ Ok w0 e' σ' w' ∧ (Builtin.append_ ts ty xs).run P w = .ok r w' := by
  unfold appendK at h
  split at h
  · cases h
  · rename_i el du hno ht hu
    split at h
    · rename_i ks i hks hi
      split at h
      · rename_i z hz
        split at h
        · rename_i hc
          simp only [Bool.and_eq_true, Nat.beq_eq, List.all_eq_true, Nat.blt_eq, Nat.ble_eq] at hc
          obtain ⟨⟨⟨⟨⟨c0, c1⟩, c2⟩, c3⟩, c4⟩, c5⟩ := hc
          split at h
          · rename_i d s hd hs
            simp only [Option.some.injEq] at h; subst h
            exact appR_ok hK c0 (destR_ok hk c0 hd hK.1 hx) (readR_ok hk hs hK.2.1 hy) hts0 hts1 hxs0 hxs1 ht hu (fun k' he' => hno k' he') hi hz c1 c2 c3 c4 c5
          · cases h
        · cases h
      · cases h
    · cases h
  · cases h
theorem nilK_ok (hk : Ok w0 e σ w) {t : TypeId} {x : AV} {v : Value} {T : MR} {K : AV → St → Prop} (h : nilK P t x σ = some T) (hK : T K) (hx : av e x = some v) :
    ∃ y σ' e', K y σ' ∧ e.le e' ∧ av e' y = some v ∧ Ok w0 e' σ' w := by
  unfold nilK at h
  split at h
  · obtain rfl := av_lit hx
    split at h
    · rename_i el hu
      split at h
      · rename_i ks hks
        simp only [Option.some.injEq] at h; subst h
        refine ⟨_, _, _, hK, le_arr e (.inl none), ?_, hk.arrAdd (x := ⟨el, .o (.rows ks []), [], 0, false⟩) (q := .inl none) ⟨rfl, .inr (.inl ⟨ks, rfl⟩)⟩ rfl (by intro p hp; cases hp) (frNil (fun F hF => by rcases hF with h | h <;> cases h))⟩
        exact rsl_nil (s := ⟨σ.arrs.length, ks.length, 0, 0, 0⟩) (by simp [hk.arrs.len]) rfl rfl
      · cases h
    · cases h
  · cases h
/-- For copies of rows of numbers. -/
def opMK (P : Program) : OpM := fun tm o σ =>
  match o.op with
  | .assign x => match nilK P o.type (evalA tm x) σ with
    | some T => some T
    | none => opMem P tm o σ
  | .call c => match c.callee, c.args.toList, c.argTypes.toList with
    | .builtin .append, [x, y], t :: u :: _ => match appendK P t u (evalA tm x) (evalA tm y) σ with
      | some T => some T
      | none => opMem P tm o σ
    | _, _, _ => opMem P tm o σ
  | _ => opMem P tm o σ
theorem opMK_ok : OpMOk P (opMK P) := by
  intro tm o σ T h
  unfold opMK at h
  split at h
  · rename_i x ho
    split at h
    · rename_i T' hT
      simp only [Option.some.injEq] at h; subst h
      intro K hK w0 e w a hk ht
      obtain ⟨y, σ', e', h1, h2, h3, h4⟩ := nilK_ok hk hT hK (evalA_ok ht x)
      refine ⟨y, σ', e', _, w, h1, h2, h3, h4, .inl ?_⟩
      simp [execOp, ho]
    · exact opMem_ok P tm o σ T h
  · rename_i c ho
    split at h
    · rename_i x y t u l hc hxy hts
      split at h
      · rename_i T' hT
        simp only [Option.some.injEq] at h; subst h
        intro K hK w0 e w a hk ht
        obtain ⟨callee, args, ts⟩ := c
        dsimp only at hc hxy hts
        subst hc
        obtain rfl : args = #[x, y] := Array.toList_inj.1 hxy
        have hts0 : ts[0]? = some t := by rw [← Array.getElem?_toList, hts]; rfl
        have hts1 : ts[1]? = some u := by rw [← Array.getElem?_toList, hts]; rfl
        obtain ⟨v, σ', e', r, w', h1, h2, h3, h4, h5⟩ := appendK_ok (ty := o.type) (xs := #[a.eval x, a.eval y]) hk hT hK (evalA_ok ht x) (evalA_ok ht y) hts0 hts1 rfl rfl
        refine ⟨v, σ', e', r, w', h1, h2, h3, h4, .inl ?_⟩
        simp only [execOp, ho, resolve, Sem.run_bind, Sem.run_pure, Result.andThen_ok, invoke, List.map_toArray, List.map_cons, List.map_nil]
        simp [builtin, h5]
      · exact opMem_ok P tm o σ T h
    · exact opMem_ok P tm o σ T h
  · exact opMem_ok P tm o σ T h
end
end Reck
