/- A reckoner of calls: append to arrays. No condition. -/
import Derived.Test.YtcjcdimlcfegbaaGreatDoorRkM
set_option linter.unusedVariables false
set_option linter.unusedSimpArgs false
namespace Reck
open Go Ost

/-- The numbers of cells that are numbers of kind k. -/
def intsC (k : IntKind) : List Cell → Option (List Int)
  | [] => some []
  | c :: l => match intX (cell c), intsC k l with
    | some (k', z), some zs => if decide (k' = k) then some (z :: zs) else none
    | _, _ => none

structure Src where
  n : Nat
  l : List Int
  ok : Prop

/-- What a slice, or a string, holds: how many, which; under what condition. -/
def readX (k : IntKind) (σ : St) (x : AV) : Option Src :=
  match aslX x with
  | some s => match getArr σ s.a with
    | some b => if isN b.k k then some ⟨s.n, (b.l.drop s.o).take s.n, s.o + s.n ≤ b.l.length⟩ else none
    | none => none
  | none => match x with
    | .inl (.inl (.inr (.inr (.inl s)))) => match loadA σ s.b s.o s.n with
      | some cs => match intsC k cs with
        | some l => some ⟨s.n, l, True⟩
        | none => none
      | none => none
    | .inl (.inl (.inl (.slice none 0 _))) => some ⟨0, [], True⟩
    | _ => match strX x with
      | some l => if decide (k = .u8) then some ⟨l.length, l, True⟩ else none
      | none => none

structure Dst where
  n : Nat
  l : List Int
  ok : Prop
  st : St

/-- To what is appended: what it holds; the state without it. -/
def destX (k : IntKind) (el : TypeId) (σ : St) (x : AV) : Option Dst :=
  match x with
  | .inl (.inl (.inl (.slice none 0 0))) => some ⟨0, [], True, σ⟩
  | .inl (.inl (.inr (.inr (.inl s)))) => match getBlk σ s.b, loadA σ s.b s.o s.n with
    | some bk, some cs => match intsC k cs with
      | some l => if bk.elem == el && !bk.z && ((s.j.isNone && bk.j.isNone && Nat.ble (s.o + s.c) bk.c) || (s.j.isSome && decide (bk.j = s.j) && (Nat.beq bk.c 0 && Nat.ble s.o s.c))) then some ⟨s.n, l, True, putBlk σ s.b none⟩ else none
      | none => none
    | _, _ => none
  | .inl (.inl (.inr (.inr (.inr (.inr (.inr (.inr (.inr (.inl s))))))))) => match getArr σ s.a with
    | some b => if isN b.k k && b.elem == el && !b.ro then some ⟨s.n, (b.l.drop s.o).take s.n, s.o + s.n ≤ b.l.length ∧ s.o + s.c ≤ b.cap, setArr σ s.a none⟩ else none
    | none => none
  | _ => none

def appX (el : TypeId) (k : IntKind) (d : Dst) (s : Src) (σ : St) : MT := fun K =>
  d.ok ∧ s.ok ∧ d.n ≤ 16777216 ∧ s.n ≤ 16777216 ∧ ∀ (l' : List Int) (n' c' : Nat), l' = d.l ++ s.l → n' = d.n + s.n → n' ≤ c' → K (cell (aslC ⟨d.st.arrs.length, 0, n', c'⟩)) (addArr d.st ⟨el, k, l', c', false⟩)

def appendX (P : Program) (t u : TypeId) (x y : AV) (σ : St) : Option MT :=
  match P.underlying t, P.underlying u with
  | some (.slice _), some (.int _) => none
  | some (.slice el), some _ => match P.underlying el, P.info? el with
    | some (.int k), some i => match i.zero with
      | some z => if Nat.beq i.size 1 && Nat.beq z.cells.size 1 && (z.cells.toList.all fun v => v.oneCell') && Nat.blt 0 i.bytes && Nat.ble i.bytes 256 then match destX k el σ x, readX k σ y with
          | some d, some s => some (appX el k d s σ)
          | _, _ => none
        else none
      | none => none
    | _, _ => none
  | _, _ => none

section
variable {P : Program} {w0 w w' : World} {e : Env} {σ : St} {tm : List AV} {a : Act}

theorem intsC_ok {k : IntKind} : ∀ {cs : List Cell} {l : List Int} {vs : List Value}, intsC k cs = some l → cs.map (cv e) = vs.map some → vs = l.map (Value.int k)
  | [], l, vs, h, hv => by simp [intsC] at h; subst h; cases vs <;> simp at hv ⊢
  | c :: cs, l, [], h, hv => by simp at hv
  | c :: cs, l, v :: vs, h, hv => by
    simp only [intsC] at h
    split at h
    · rename_i k' z zs hz hzs
      split at h
      · rename_i hk
        simp at hk; subst hk
        simp at h; subst h
        simp only [List.map_cons, List.cons.injEq] at hv ⊢
        exact ⟨intX_ok (x := cell c) hz hv.1, intsC_ok hzs hv.2⟩
      · cases h
    · cases h

/-- What is read. -/
structure SrcOk (P : Program) (w : World) (k : IntKind) (s : Src) (v : Value) : Prop where
  len : s.l.length = s.n
  from_ : (∃ A c, v = .slice (some A) s.n c ∧ ∀ (j : Nat) z, s.l[j]? = some z → w.cell? (A.add j) = some (.int k z)) ∨ (s.n = 0 ∧ ∃ c, v = .slice none 0 c) ∨ (k = .u8 ∧ v = .string (strZ s.l) ∧ s.l.all byteZ = true)

theorem strZ_cells (l : List Int) (h : l.all byteZ = true) : (strZ l).data.map (fun b => Value.int .u8 b.toNat) = (l.map (Value.int .u8)).toArray := by
  apply Array.ext'
  simp only [strZ, List.map_toArray, List.map_map]
  apply List.map_congr_left
  intro z hz
  have := List.all_eq_true.1 h z hz
  simp only [byteZ, decide_eq_true_eq] at this
  simp only [Function.comp, UInt8.toNat_ofNat', Value.int.injEq, true_and]
  have e : z.toNat % 2 ^ 8 = z.toNat := Nat.mod_eq_of_lt (by omega)
  omega

theorem SrcOk.lenOf {k : IntKind} {s : Src} {v : Value} (h : SrcOk P w k s v) (w' : World) : (Builtin.lenOf v).run P w' = .ok s.n w' := by
  rcases h.from_ with ⟨A, c, rfl, _⟩ | ⟨h0, c, rfl⟩ | ⟨_, rfl, _⟩
  · simp [Builtin.lenOf]
  · simp [Builtin.lenOf, h0]
  · simp [Builtin.lenOf, strZ_size, h.len]
theorem SrcOk.firstM {k : IntKind} {s : Src} {v : Value} (h : SrcOk P w k s v) (m : Nat) (hm : m ≤ s.n) (w' : World) (hw : ∀ p, w'.cell? p = w.cell? p) : (Builtin.firstCells 1 m v).run P w' = .ok ((s.l.take m).map (Value.int k)).toArray w' := by
  rcases h.from_ with ⟨A, c, rfl, hc⟩ | ⟨h0, c, rfl⟩ | ⟨rfl, rfl, hb⟩
  · have := run_loadCells_list (P := P) w' A ((s.l.take m).map (Value.int k)) (fun j v hj => by
      rw [hw]
      rw [List.getElem?_map] at hj
      cases hx : (s.l.take m)[j]? with
      | none => simp [hx] at hj
      | some z =>
        rw [hx] at hj; simp at hj; subst hj
        rw [List.getElem?_take] at hx
        split at hx
        · exact hc j z hx
        · cases hx)
    rw [List.length_map, List.length_take, h.len, Nat.min_eq_left hm] at this
    simp only [Builtin.firstCells, Nat.mul_one]
    exact this
  · have : m = 0 := by omega
    subst this
    simp [Builtin.firstCells]
  · have h1 : (strZ s.l).extract 0 m = strZ (s.l.take m) := by
      have := strZ_extract s.l 0 m (by rw [h.len]; exact hm)
      simpa using this
    simp only [Builtin.firstCells, Sem.run_pure, h1]
    rw [strZ_cells _ (all_byte_sub hb (fun x hx => List.mem_of_mem_take hx))]
theorem SrcOk.first {k : IntKind} {s : Src} {v : Value} (h : SrcOk P w k s v) (w' : World) (hw : w' = w ∨ w' = w.drew) : (Builtin.firstCells 1 s.n v).run P w' = .ok (s.l.map (Value.int k)).toArray w' := by
  have := h.firstM s.n (Nat.le_refl _) w' (by rcases hw with rfl | rfl <;> intro p <;> rfl)
  rwa [List.take_of_length_le (by rw [h.len]; exact Nat.le_refl _)] at this

theorem readX_ok (hk : Ok w0 e σ w) {k : IntKind} {x : AV} {s : Src} {v : Value} (h : readX k σ x = some s) (hok : s.ok) (hv : av e x = some v) : SrcOk P w k s v := by
  unfold readX at h
  split at h
  · rename_i s' hs'
    obtain rfl := aslX_eq hs'
    split at h
    · rename_i b hb
      split at h
      · rename_i hkk
        have hkk := isN_eq hkk
        simp only [Option.some.injEq] at h; subst h
        dsimp only at hok
        have hlen : ((b.l.drop s'.o).take s'.n).length = s'.n := by simp; omega
        rcases aslX_ok (x := cell (aslC s')) rfl hv with ⟨A, hq, hn, hc, rfl⟩ | ⟨q, hq, hn, rfl⟩
        · refine ⟨hlen, ?_⟩
          cases A with
          | none => exact .inr (.inl ⟨hn, 0, rfl⟩)
          | some A => exact .inl ⟨A, 0, by dsimp only; rw [hn], fun j z hj => by dsimp only at hj; rw [hn] at hj; simp at hj⟩
        · refine ⟨hlen, .inl ⟨_, _, rfl, fun j z hj => ?_⟩⟩
          obtain ⟨q', hq', hA⟩ := hk.arrAt hb
          rw [hq] at hq'; simp at hq'; subst hq'
          obtain ⟨cur, el, fz, g1, g2, _⟩ := hA.num hkk
          rw [Addr.add_lit]
          dsimp only at hj
          rw [List.getElem?_take] at hj
          split at hj
          · rw [List.getElem?_drop] at hj
            have := g2 _ z hj
            simp [World.cell?, g1, Nat.add_assoc, this]
          · cases hj
      · cases h
    · cases h
  · split at h
    · rename_i s'
      split at h
      · rename_i cs hcs
        split at h
        · rename_i l hl
          simp only [Option.some.injEq] at h; subst h
          obtain ⟨q, c, hq, hc, hn, rfl⟩ := av_sl hv
          obtain ⟨vs, h1, h2, h3, h4⟩ := hk.load hcs hq
          obtain rfl := intsC_ok hl h1
          refine ⟨by simpa using h2, .inl ⟨_, _, rfl, fun j z hj => ?_⟩⟩
          rw [Addr.add_lit]
          exact h3 j _ (by rw [List.getElem?_map, hj]; rfl)
        · cases h
      · cases h
    · simp only [Option.some.injEq] at h; subst h
      exact ⟨rfl, .inr (.inl ⟨rfl, _, av_lit hv⟩)⟩
    · split at h
      · rename_i l hl
        split at h
        · rename_i hk8
          have hk8 : k = .u8 := by simpa using hk8
          simp only [Option.some.injEq] at h; subst h
          obtain ⟨rfl, hb⟩ := strX_ok hl hv
          exact ⟨rfl, .inr (.inr ⟨hk8, rfl, hb⟩)⟩
        · cases h
      · cases h

/-- Where a slice's memory is, and that it may be written up to its capacity. -/
structure DstOk (P : Program) (w0 w : World) (e : Env) (k : IntKind) (el : TypeId) (d : Dst) (v : Value) : Prop where
  len : d.l.length = d.n
  first : (Builtin.firstCells 1 d.n v).run P w.drew = .ok (d.l.map (Value.int k)).toArray w.drew
  st : Ok w0 e d.st w
  mem : ∃ base c, v = .slice base d.n c ∧ d.n ≤ c ∧ ((d.n = 0 ∧ c = 0) ∨ ∃ g o cur fz, base = some ⟨g, o, none⟩ ∧ w.heap[g]? = some (.cells cur el fz) ∧ (fz = (0, 0) ∨ cur.size ≤ fz.1) ∧ (∀ (j : Nat) z, d.l[j]? = some z → cur[o + j]? = some (.int k z)) ∧ o + c ≤ cur.size ∧ (∀ v ∈ cur, v.oneCell' = true) ∧
    (w0.heap.size ≤ g ∨ e.S g) ∧ (∀ w', Only (fun k => k = g) w w' → Ok w0 e d.st w') ∧ (∀ (b : Nat) y q', d.st.heap[b]? = some (some y) → e.blk[b]? = some q' → q'.1 ≠ g) ∧ (∀ (i : Nat) y q', d.st.arrs[i]? = some (some y) → y.ro = false → e.arr[i]? = some (.inr q') → q'.1 ≠ g) ∧ ¬ FrzP d.st g)
theorem destX_ok (hk : Ok w0 e σ w) {k : IntKind} {el : TypeId} {x : AV} {d : Dst} {v : Value} (h : destX k el σ x = some d) (hok : d.ok) (hv : av e x = some v) : DstOk P w0 w e k el d v := by
  unfold destX at h
  split at h
  · obtain rfl := av_lit hv
    simp only [Option.some.injEq] at h; subst h
    exact ⟨rfl, by simp [Builtin.firstCells], hk, none, 0, rfl, Nat.le_refl _, .inl ⟨rfl, rfl⟩⟩
  · rename_i s
    split at h
    · rename_i bk cs hbk hl
      split at h
      · rename_i l hli
        split at h
        · rename_i hc
          simp only [Option.some.injEq] at h; subst h
          simp only [Bool.and_eq_true, Bool.or_eq_true, beq_iff_eq, Bool.not_eq_eq_eq_not, Bool.not_true, Option.isNone_iff_eq_none, Nat.ble_eq, Nat.beq_eq, decide_eq_true_eq] at hc
          obtain ⟨⟨hel, hz⟩, hcap⟩ := hc
          obtain ⟨q, c, hq, hcc, hn, rfl⟩ := av_sl hv
          have hbl := getBlk_some hbk
          obtain ⟨g1, cur, fz, g2, g3, ⟨N0, g4, g5⟩, g6, g7, g8⟩ := hk.blk _ _ _ hbl hq
          obtain ⟨vs, h1, h2, h3, h4⟩ := hk.load hl hq
          obtain rfl := intsC_ok hli h1
          have hfz := g7 hz
          subst hfz; subst hel
          have hlen : l.length = s.n := by simpa using h2
          have hin : s.o + s.n ≤ bk.cells.length := by
            unfold loadA at hl
            rw [hbk] at hl
            dsimp only at hl
            split at hl
            · assumption
            · cases hl
          have hsz0 := (hk.blk _ _ _ hbl hq).size g2 (k := s.o) (by omega)
          have hbu : bu bk = 1 := by
            rcases hcap with ⟨⟨j1, j2⟩, j3⟩ | ⟨⟨j1, j2⟩, j3, j4⟩
            · unfold bu; rw [j2]; rfl
            · unfold bu; rw [j3]; split <;> rfl
          rw [hbu, Nat.mul_one] at g5
          have hsz : c = 0 ∨ s.o + c ≤ N0 := by
            rcases hcap with ⟨⟨j1, j2⟩, j3⟩ | ⟨⟨j1, j2⟩, j4, j3⟩
            · rw [j1] at hcc; rw [show b0 bk = bk.c by unfold b0; rw [j2]; rfl, j2] at g4
              simp [capv] at hcc g4; omega
            · cases hj : s.j with
              | none => rw [hj] at j1; simp at j1
              | some j =>
                rw [show b0 bk = 0 by unfold b0; rw [j2, hj]; rfl, j2, hj] at g4
                rw [hj] at hcc
                simp only [capv] at g4 hcc
                cases he : e.int[j]? with
                | none => simp [he] at hcc
                | some k =>
                  rw [he] at g4 hcc
                  cases k <;> simp at g4 hcc
                  omega
          have hblt : s.b < σ.heap.length := (List.getElem?_eq_some_iff.1 hbl).1
          refine ⟨hlen, ?_, hk.kill hbl hq (Only.refl _ w), _, c, rfl, hn, .inr ⟨q.1, q.2 + s.o, cur, (0, 0), rfl, g2, .inl rfl, ?_, by omega, g6, g1, fun w' ho => hk.kill hbl hq ho, ?_, fun i y q' k1 _ k3 => hk.arrs.blk_ne hbl hq g1 i y q' k1 k3, hk.froz.not (.inl ⟨s.b, bk, q, hbl, hq, rfl⟩)⟩⟩
          · have := run_loadCells_list (P := P) w.drew ⟨q.1, q.2 + s.o, none⟩ (l.map (Value.int k)) (fun j v hj => by rw [Addr.add_lit]; exact h3 j v hj)
            rw [h2] at this
            simp [Builtin.firstCells, this]
          · intro j z hj
            have hj' : (l.map (Value.int k))[j]? = some (.int k z) := by simp [hj]
            have := h3 j _ hj'
            simp [World.cell?, g2] at this
            exact this
          · intro b y q' k1 k2
            simp only [putBlk] at k1
            by_cases hbb : s.b = b
            · subst hbb; rw [List.getElem?_set_self hblt] at k1; simp at k1
            · rw [List.getElem?_set_ne hbb] at k1
              exact fun he => hk.apart s.b b bk y q q' hbb hbl k1 hq k2 he.symm
        · cases h
      · cases h
    · cases h
  · rename_i s
    split at h
    · rename_i b hb
      split at h
      · rename_i hc
        simp only [Bool.and_eq_true, beq_iff_eq, Bool.not_eq_eq_eq_not, Bool.not_true, decide_eq_true_eq] at hc
        obtain ⟨⟨hkk, hel⟩, hro⟩ := hc
        have hkk := isN_eq hkk
        simp only [Option.some.injEq] at h; subst h
        dsimp only at hok
        have ha := getArr_some hb
        have hlen : ((b.l.drop s.o).take s.n).length = s.n := by simp; omega
        rcases aslX_ok (x := cell (aslC s)) rfl hv with ⟨A, hq, hn, hc, rfl⟩ | ⟨q, hq, hn, rfl⟩
        · refine ⟨hlen, ?_, hk.arrKill _, A, 0, by rw [hn], by dsimp only; omega, .inl ⟨hn, rfl⟩⟩
          dsimp only
          rw [hn]; cases A <;> simp [Builtin.firstCells, loadCells, loadCellsFrom]
        · obtain ⟨cur, el, fz, g1, g2, ⟨g3, _⟩ | ⟨_, g3, ⟨rfl, hfz⟩, g5, g6, g7⟩⟩ := (hk.arrs.ok _ _ _ ha hq).num hkk
          · rw [hro] at g3; cases g3
          have hget : ∀ (j : Nat) z, ((b.l.drop s.o).take s.n)[j]? = some z → cur[q.2 + s.o + j]? = some (.int k z) := by
            intro j z hx
            rw [List.getElem?_take] at hx
            split at hx
            · rw [List.getElem?_drop] at hx
              have := g2 _ z hx
              rw [Nat.add_assoc]; exact this
            · cases hx
          refine ⟨hlen, ?_, hk.arrKill _, _, s.c, rfl, hn, .inr ⟨q.1, q.2 + s.o, cur, fz, rfl, by rw [← hel]; exact g1, hfz, hget, by omega, g7, g3, fun w' ho => hk.arrSet ha hro hq ho none (by simp), ?_, ?_, fun hP => hk.froz.not (.inr ⟨s.a, b, q, ha, hro, hq, rfl⟩) hP.kill⟩⟩
          · have := run_loadCells_list (P := P) w.drew ⟨q.1, q.2 + s.o, none⟩ (((b.l.drop s.o).take s.n).map (Value.int k)) (fun j v hj => by
              rw [Addr.add_lit]
              rw [List.getElem?_map] at hj
              cases hx : ((b.l.drop s.o).take s.n)[j]? with
              | none => simp [hx] at hj
              | some z =>
                rw [hx] at hj; simp at hj; subst hj
                have := hget j z hx
                simp only [World.cell?, World.drew, g1]; simpa using this)
            rw [List.length_map, hlen] at this
            simp only [Builtin.firstCells, Nat.mul_one]
            exact (by simpa using this)
          · intro b2 y q' k1 k2 he
            exact hk.arrs.off s.a b q b2 y q' ha hro hq k1 k2 he.symm
          · intro i y q' k1 k2 k3 he
            rcases set_get k1 with ⟨_, h6⟩ | ⟨hne, h6⟩
            · cases h6
            · exact hk.arrs.apart s.a i b y q q' hne ha h6 hro k2 hq k3 he.symm
      · cases h
    · cases h
  · cases h

theorem appX_ok {k : IntKind} {el t u : TypeId} {d : Dst} {s : Src} {sv x : Value} {ts : Array TypeId} {ty : TypeId} {xs : Array Value} {i : TypeInfo} {z : Value} {K : AV → St → Prop} (h : appX el k d s σ K) (hd : DstOk P w0 w e k el d sv) (hs : SrcOk P w k s x) (hts0 : ts[0]? = some t) (hts1 : ts[1]? = some u)
    (hxs0 : xs[0]? = some sv) (hxs1 : xs[1]? = some x) (ht : P.underlying t = some (.slice el)) {du : TypeDesc} (hu : P.underlying u = some du) (hdu : ∀ k, du ≠ .int k) (hi : P.info? el = some i) (hz : i.zero = some z) (hsize : i.size = 1) (hzs : z.cells.size = 1) (hzp : ∀ v ∈ z.cells.toList, v.oneCell' = true) (hb0 : 0 < i.bytes) (hb : i.bytes ≤ 256) :
    ∃ v σ' e' r w', K v σ' ∧ e.le e' ∧ av e' v = some r ∧ Ok w0 e' σ' w' ∧ (Builtin.append_ ts ty xs).run P w = .ok r w' := by
  obtain ⟨_, _, h1, h2, hK⟩ := h
  obtain ⟨hdl, hdf, hdst, base, c, rfl, hnc, hmem⟩ := hd
  have hsl := hs.len
  have hslo := hs.lenOf
  have hsf := hs.first
  have hN : News P w t u x s.n (s.l.map (Value.int k)) := .inr ⟨du, hu, hdu, hslo, el, i, ht, hi, fun w' hw' => by rw [hsize]; exact hsf w' hw'⟩
  have hnl : (s.l.map (Value.int k)).length = s.n := by simpa using hsl
  have hlen := hdst.arrs.len
  have fin : ∀ (w' : World) (bs : Option Addr ⊕ (Nat × Nat)) (c' : Nat), d.n + s.n ≤ c' → Ok w0 e d.st w' → AOk w0 w' e ⟨el, k, d.l ++ s.l, c', false⟩ bs → (∀ A, bs = .inl A → d.n + s.n = 0 ∧ c' = 0) →
      (∀ p, bs = .inr p → (∀ (b : Nat) y q', d.st.heap[b]? = some (some y) → e.blk[b]? = some q' → q'.1 ≠ p.1) ∧ (∀ (i : Nat) y q', d.st.arrs[i]? = some (some y) → y.ro = false → e.arr[i]? = some (.inr q') → q'.1 ≠ p.1) ∧ ¬ FrzP d.st p.1) →
      (Builtin.append_ ts ty xs).run P w = .ok (.slice (match bs with | .inl A => A | .inr p => some ⟨p.1, p.2, none⟩) (d.n + s.n) c') w' →
      ∃ v σ' e' r w', K v σ' ∧ e.le e' ∧ av e' v = some r ∧ Ok w0 e' σ' w' ∧ (Builtin.append_ ts ty xs).run P w = .ok r w' := by
    intro w' bs c' hc' hok hA hnone hdis hr
    refine ⟨_, _, ⟨e.blk, e.int, e.opq, e.arr ++ [bs], e.S, e.junk, e.Z⟩, _, w', hK (d.l ++ s.l) (d.n + s.n) c' rfl rfl hc', le_arr e bs, ?_, hok.arrAdd hA rfl (fun p hp => ⟨(hdis p hp).1, (hdis p hp).2.1⟩) ⟨(fun F hF => by rcases hF with h | h <;> cases h), fun p hp => (hdis p hp).2.2⟩, hr⟩
    cases bs with
    | inl A =>
      obtain ⟨n1, n2⟩ := hnone A rfl
      rw [n1, n2]
      exact asl_nil (s := ⟨d.st.arrs.length, 0, 0, 0⟩) (by simp [← hlen]) rfl rfl
    | inr p => exact asl_av (s := ⟨d.st.arrs.length, 0, d.n + s.n, c'⟩) (q := p) (by simp [← hlen]) hc'
  by_cases hm0 : s.n = 0
  · have hsl0 : s.l = [] := List.eq_nil_of_length_eq_zero (by omega)
    rw [hm0] at hN
    have hr := run_none (P := P) (w := w) (ty := ty) hts0 hts1 hxs0 hxs1 ht hi hsize hN (by rw [hsl0]; rfl) hnc
    rcases hmem with ⟨n1, n2⟩ | ⟨g, o, cur, fz, rfl, g1, hfz, g2, g3, g4, g5, g6, g7, g8⟩
    · refine fin w (.inl base) 0 (by omega) hdst ?_ (fun _ _ => ⟨by omega, rfl⟩) (by intro p hp; cases hp) (by rw [hr]; simp [hm0, n2])
      have : d.l = [] := List.eq_nil_of_length_eq_zero (by omega)
      exact ⟨by simp [this, hsl0], .inl ⟨k, rfl⟩⟩
    · refine fin w (.inr (g, o)) c (by omega) hdst (AOk.ofNum (k := k) rfl ⟨cur, el, fz, g1, ?_, .inr ⟨rfl, g5, ⟨rfl, hfz⟩, g3, by simp [hsl0]; omega, g4⟩⟩) (by intro A h; cases h) (by rintro p hp; simp at hp; subst hp; exact ⟨g7, g8⟩) (by rw [hr]; simp [hm0])
      intro j v hj
      simp only [hsl0, List.append_nil] at hj
      exact g2 j v hj
  · have hpos : 0 < s.n := by omega
    by_cases hfit : d.n + s.n ≤ c
    · rcases hmem with ⟨n1, n2⟩ | ⟨g, o, cur, fz, rfl, g1, hfz, g2, g3, g4, g5, g6, g7, g8⟩
      · omega
      · have hr := run_fit (P := P) (w := w) (ty := ty) hts0 hts1 hxs0 hxs1 ht hi hsize (by decide) (by omega) hN hpos h2 hfit
        rw [Nat.mul_one] at hr
        have hst := run_storeCells_fz P g (o + d.n) el fz (s.l.map (Value.int k)) 0 cur w g1 hfz (by rw [hnl]; omega) (by intro v hv; obtain ⟨z, _, rfl⟩ := List.mem_map.1 hv; rfl)
        rw [hst] at hr
        simp only [Result.andThen_ok] at hr
        have hon := arr_only w g (cur.toList.take (o + d.n + 0) ++ s.l.map (Value.int k) ++ cur.toList.drop (o + d.n + 0 + (s.l.map (Value.int k)).length)).toArray
        refine fin _ (.inr (g, o)) c hfit (g6 _ hon) (AOk.ofNum (k := k) rfl ⟨_, el, fz, setRow_heap w g cur _ el _ g1, ?_, .inr ⟨rfl, g5, ⟨rfl, hfz.imp id (fun h => by simp; omega)⟩, ?_, by simp; omega, ?_⟩⟩) (by intro A h; cases h) (by rintro p hp; simp at hp; subst hp; exact ⟨g7, g8⟩) hr
        · intro j v hj
          dsimp only
          rw [List.getElem?_toArray, Nat.add_zero, sand_get _ _ _ (by simp; omega)]
          by_cases hjd : j < d.n
          · rw [if_pos (by omega)]
            rw [List.getElem?_append_left (by omega)] at hj
            rw [Array.getElem?_toList]; exact g2 j v hj
          · rw [if_neg (by omega)]
            rw [List.getElem?_append_right (by omega)] at hj
            have hlt := (List.getElem?_eq_some_iff.1 hj).1
            rw [if_pos (by simp; omega), List.getElem?_map, show o + j - (o + d.n) = j - d.l.length by omega, hj]; rfl
        · simp; omega
        · intro v hv
          simp only [List.mem_toArray, List.mem_append] at hv
          rcases hv with (hv | hv) | hv
          · exact g4 v (by simpa using List.mem_of_mem_take hv)
          · obtain ⟨z, _, rfl⟩ := List.mem_map.1 hv; rfl
          · exact g4 v (by simpa using List.mem_of_mem_drop hv)
    · have hr := run_grow (P := P) (w := w) (ty := ty) (olds := d.l.map (Value.int k)) hts0 hts1 hxs0 hxs1 ht hi hz hsize (by decide) hb0 (by omega) hN hpos h2 h1 (by omega) (by rw [hsize]; exact hdf)
      have hge := grownCap_ge w (d.n + s.n) c el
      have hzl : ∀ k, (Builtin.zeroCells z.cells k).toList = rep z.cells.toList k := fun k => by rw [zeroCells_rep _ (by omega)]
      have hrp : ∀ k, ∀ v ∈ (Builtin.zeroCells z.cells k).toList, v.oneCell' = true := fun k v hv => hzp v (rep_mem _ k v (by rw [← hzl]; exact hv))
      have hrl : ∀ k, (Builtin.zeroCells z.cells k).toList.length = k := fun k => by rw [hzl, rep_length]; simp [hzs]
      have hw := hdst.world (((Only.refl (fun _ => False) w).drew).alloc (.cells (d.l.map (Value.int k) ++ s.l.map (Value.int k) ++ (Builtin.zeroCells z.cells (grownCap w (d.n + s.n) c el - (d.n + s.n))).toList).toArray el))
      refine fin _ (.inr (w.heap.size, 0)) _ hge hw (AOk.ofNum (k := k) rfl ⟨_, el, (0, 0), heap_alloc_new w.drew _, ?_, .inr ⟨rfl, .inl hdst.only.size, ⟨rfl, .inl rfl⟩, ?_, by simp; omega, ?_⟩⟩) (by intro A h; cases h) ?_ hr
      · intro j v hj
        have hlt := (List.getElem?_eq_some_iff.1 hj).1
        simp only [List.length_append] at hlt
        dsimp only
        rw [List.getElem?_toArray, Nat.zero_add, ← List.map_append, List.getElem?_append_left (by simpa using hlt), List.getElem?_map, hj]; rfl
      · have := hrl (grownCap w (d.n + s.n) c el - (d.n + s.n))
        simp only [List.size_toArray, List.length_append, List.length_map, this]; omega
      · intro v hv
        simp only [List.mem_toArray, List.mem_append] at hv
        rcases hv with (hv | hv) | hv
        · obtain ⟨z, _, rfl⟩ := List.mem_map.1 hv; rfl
        · obtain ⟨z, _, rfl⟩ := List.mem_map.1 hv; rfl
        · exact hrp _ v hv
      · rintro p hp
        simp at hp; subst hp
        refine ⟨fun b y q' k1 k2 => ?_, fun i y q' k1 k2 k3 => ?_, hdst.froz.fresh⟩
        · have := (hdst.blk b y q' k1 k2).lt; dsimp only; omega
        · have := (hdst.arrs.ok i y _ k1 k3).lt; dsimp only; omega

theorem appendX_ok (hk : Ok w0 e σ w) {t u : TypeId} {x y : AV} {sv xv : Value} {T : MT} {K : AV → St → Prop} {ts : Array TypeId} {ty : TypeId} {xs : Array Value} (h : appendX P t u x y σ = some T) (hK : T K) (hx : av e x = some sv) (hy : av e y = some xv) (hts0 : ts[0]? = some t) (hts1 : ts[1]? = some u)
    (hxs0 : xs[0]? = some sv) (hxs1 : xs[1]? = some xv) : ∃ v σ' e' r w', K v σ' ∧ e.le e' ∧ av e' v = some r ∧ Ok w0 e' σ' w' ∧ (Builtin.append_ ts ty xs).run P w = .ok r w' := by
  unfold appendX at h
  split at h
  · cases h
  · rename_i el du hno ht hu
    split at h
    · rename_i k i he hi
      split at h
      · rename_i z hz
        split at h
        · rename_i hc
          simp only [Bool.and_eq_true, Nat.beq_eq, List.all_eq_true, Nat.blt_eq, Nat.ble_eq] at hc
          obtain ⟨⟨⟨⟨c1, c2⟩, c3⟩, c4⟩, c5⟩ := hc
          split at h
          · rename_i d s hd hs
            simp only [Option.some.injEq] at h; subst h
            exact appX_ok hK (destX_ok hk hd hK.1 hx) (readX_ok hk hs hK.2.1 hy) hts0 hts1 hxs0 hxs1 ht hu (fun k' he' => hno k' he') hi hz c1 c2 c3 c4 c5
          · cases h
        · cases h
      · cases h
    · cases h
  · cases h
end
end Reck
