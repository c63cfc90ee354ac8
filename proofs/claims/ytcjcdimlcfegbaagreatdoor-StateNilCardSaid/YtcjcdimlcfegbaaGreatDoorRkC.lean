/- A reckoner of calls: copies into arrays, arrays made of any length, texts made of bytes. No condition. -/
import Derived.Test.YtcjcdimlcfegbaaGreatDoorRkA
import Derived.Laws.BytesString
set_option linter.unusedVariables false
set_option linter.unusedSimpArgs false
namespace Reck
open Go Ost

/-- A text made of bytes. -/
def strOfX (P : Program) (src dst : TypeId) (x : AV) (σ : St) : Option MT :=
  match P.underlying src, P.underlying dst with
  | some (.slice el), some .string => match P.underlying el, strX x, readX .u8 σ x with
    | some (.int .u8), none, some s => some fun K => (s.ok ∧ ByteL s.l) ∧ ∀ l' : List Int, l' = s.l → K (cell (strC l')) σ
    | _, _, _ => none
  | _, _ => none

/-- A copy into an array. -/
def copyN (k : IntKind) (s : ASl) (b : ABlk) (x : AV) (σ : St) : Option MT :=
  if b.ro then none else match readX k σ x with
    | some r => some fun K => (s.o + s.n ≤ b.l.length ∧ r.ok) ∧ ∀ (n : Nat) (l' : List Int), n = min r.n s.n → l' = b.l.take s.o ++ r.l.take n ++ b.l.drop (s.o + n) → K (cell (xintC .i64 n)) (setArr σ s.a (some ⟨b.elem, .n k, l', b.cap, b.ro⟩))
    | none => none
def copyX (P : Program) (t : TypeId) (d x : AV) (σ : St) : Option MT :=
  match P.underlying t, aslX d with
  | some (.slice el), some s => match sizeT P el, getArr σ s.a with
    | some 1, some b => match b.k with
      | .o _ => none
      | .n k => copyN k s b x σ
    | _, _ => none
  | _, _ => none

def isNought (k : IntKind) : Value → Bool
  | .int k' n => decide (k' = k ∧ n = 0)
  | _ => false
/-- Noughts in place of what an array's slice holds. -/
def clearX (P : Program) (t : TypeId) (x : AV) (σ : St) : Option MT :=
  match P.underlying t, aslX x with
  | some (.slice el), some s => match P.info? el, getArr σ s.a with
    | some i, some b => match i.zero, b.k with
      | some z, .n k => if Nat.beq i.size 1 && isNought k z && !b.ro then
          some fun K => (s.o + s.n ≤ b.l.length) ∧ ∀ l' : List Int, l' = b.l.take s.o ++ List.replicate s.n 0 ++ b.l.drop (s.o + s.n) → K (lit (.tuple #[])) (setArr σ s.a (some ⟨b.elem, .n k, l', b.cap, b.ro⟩)) else none
      | _, _ => none
    | _, _ => none
  | _, _ => none

/-- An array of noughts. -/
def makeX (P : Program) (t : TypeId) (l c : AV) (σ : St) : Option MT :=
  match P.underlying t, intX l, intX c with
  | some (.slice el), some (_, l), some (_, c) => match P.underlying el, P.info? el with
    | some (.int k), some i => match i.zero with
      | some z => if Nat.beq i.size 1 && isNought k z && Nat.ble i.bytes 256 then
          some fun K => (0 ≤ l ∧ l ≤ c ∧ c ≤ 16777216) ∧ ∀ (n m : Nat) (l' : List Int), (n : Int) = l → (m : Int) = c → l' = List.replicate m 0 → K (cell (aslC ⟨σ.arrs.length, 0, n, m⟩)) (addArr σ ⟨el, k, l', m, false⟩) else none
      | none => none
    | some (.array _ _), some i => if i.zero.isSome && Nat.ble i.bytes 65536 then
          some fun K => (0 ≤ l ∧ l ≤ c ∧ c ≤ 16777216) ∧ ∀ (n m : Nat), (n : Int) = l → (m : Int) = c → K (cell (aslC ⟨σ.arrs.length, 0, n, m⟩)) (addArr σ ⟨el, .o .row, [], 0, false⟩) else none
    | _, _ => none
  | _, _, _ => none

/-- A slice of a block told as an array. -/
def toArr (k : IntKind) (el : TypeId) (σ : St) (x : AV) : Option (ASl × List Int × (List Int → St)) :=
  match x with
  | .inl (.inl (.inr (.inr (.inl s)))) => match s.j, destX k el σ x with
    | none, some d => some (⟨d.st.arrs.length, 0, s.n, s.c⟩, d.l, fun l => addArr d.st ⟨el, k, l, s.c, false⟩)
    | _, _ => none
  | _ => none
/-- A literal of bytes. -/
def buildX (P : Program) (t : TypeId) (n : Nat) (ps : List (Nat × AV)) (σ : St) : Option MT :=
  match P.underlying t with
  | some (.slice el) => match P.underlying el, opBuildSlice0 P t n ps σ with
    | some (.int k), .ok [(x, σ')] => match toArr k el σ' x with
      | some (a, l, f) => some fun K => ∀ l' : List Int, l' = l → K (cell (aslC a)) (f l')
      | none => none
    | _, _ => none
  | _ => none

/-- The bytes of an open text. -/
def bytesX (P : Program) (src dst : TypeId) (x : AV) (σ : St) : Option MT :=
  match P.underlying src, P.underlying dst, strX x with
  | some .string, some (.slice el), some l => match P.underlying el with
    | some (.int .u8) => some fun K => ∀ (n c : Nat) (l' : List Int), l' = l → n = l.length → n ≤ c → K (cell (aslC ⟨σ.arrs.length, 0, n, c⟩)) (addArr σ ⟨el, .n .u8, l', c, false⟩)
    | _ => none
  | _, _, _ => none

section
variable {P : Program} {w0 w w' : World} {e : Env} {σ : St} {tm : List AV} {a : Act}

theorem bytesX_ok (hk : Ok w0 e σ w) {src dst : TypeId} {x : AV} {v : Value} {T : MT} {K : AV → St → Prop} (h : bytesX P src dst x σ = some T) (hK : T K) (hx : av e x = some v) :
    ∃ y σ' e' u w', K y σ' ∧ e.le e' ∧ av e' y = some u ∧ Ok w0 e' σ' w' ∧ (convert src dst v).run P w = .ok u w' := by
  unfold bytesX at h
  split at h
  · rename_i el l hs hd hl
    split at h
    · rename_i he
      simp only [Option.some.injEq] at h; subst h
      obtain ⟨rfl, hb⟩ := strX_ok hl hx
      have hr := run_bytes_of_string (P := P) w src dst el (strZ l) hs hd he
      have hge : (strZ l).size ≤ grownCap w (strZ l).size 0 el := grownCap_ge w (strZ l).size 0 el
      have hss : (strZ l).data.size = (strZ l).size := rfl
      have hsz : (bytesRow (strZ l) (grownCap w (strZ l).size 0 el)).size = grownCap w (strZ l).size 0 el := by simp [bytesRow]; omega
      have hw := hk.world (((Only.refl (fun _ => False) w).drew).alloc (.cells (bytesRow (strZ l) (grownCap w (strZ l).size 0 el)) el ((bytesRow (strZ l) (grownCap w (strZ l).size 0 el)).size, (bytesRow (strZ l) (grownCap w (strZ l).size 0 el)).size + 1)))
      have hsl := strZ_size l
      have hlen := hk.arrs.len
      have hA : AOk w0 (w.drew.alloc (.cells (bytesRow (strZ l) (grownCap w (strZ l).size 0 el)) el ((bytesRow (strZ l) (grownCap w (strZ l).size 0 el)).size, (bytesRow (strZ l) (grownCap w (strZ l).size 0 el)).size + 1))) e ⟨el, .n .u8, l, grownCap w (strZ l).size 0 el, false⟩ (.inr (w.heap.size, 0)) := by
        refine AOk.ofNum (k := .u8) rfl ⟨_, el, _, heap_alloc_new w.drew _, ?_, .inr ⟨rfl, .inl hk.only.size, ⟨rfl, .inr (Nat.le_refl _)⟩, by dsimp only; omega, by dsimp only; omega, ?_⟩⟩
        · intro j z hj
          dsimp only at hj ⊢
          have hlt := (List.getElem?_eq_some_iff.1 hj).1
          unfold bytesRow
          rw [Nat.zero_add, Array.getElem?_append_left (by simp; omega), strZ_cells l hb]
          simp [hj]
        · intro v hv
          simp [bytesRow] at hv
          rcases hv with ⟨b, _, rfl⟩ | ⟨_, rfl⟩ <;> rfl
      refine ⟨_, _, _, _, _, hK (strZ l).size (grownCap w (strZ l).size 0 el) l rfl (strZ_size l) hge, le_arr e (.inr (w.heap.size, 0)), ?_, hw.arrAdd hA rfl ?_ (frNew hk (fun F hF => by rcases hF with h | h <;> cases h)), hr⟩
      · have := asl_av (e := ⟨e.blk, e.int, e.opq, e.arr ++ [.inr (w.heap.size, 0)], e.S, e.junk, e.Z⟩) (s := ⟨σ.arrs.length, 0, (strZ l).size, grownCap w (strZ l).size 0 el⟩) (q := (w.heap.size, 0)) (by simp [← hlen]) hge
        simpa using this
      · rintro p hp
        simp at hp; subst hp
        refine ⟨fun b y q' k1 k2 => ?_, fun i y q' k1 k2 k3 => ?_⟩
        · have := (hk.blk b y q' k1 k2).lt; dsimp only; omega
        · have := (hk.arrs.ok i y _ k1 k3).lt; dsimp only at this ⊢; omega
    · cases h
  · cases h
theorem toArr_ok (P : Program) (hk : Ok w0 e σ w) {k : IntKind} {el : TypeId} {x : AV} {a : ASl} {l : List Int} {f : List Int → St} {v : Value} (h : toArr k el σ x = some (a, l, f)) (hv : av e x = some v) :
    ∃ e', e.le e' ∧ Ok w0 e' (f l) w ∧ av e' (cell (aslC a)) = some v := by
  unfold toArr at h
  split at h
  · rename_i s
    split at h
    · rename_i d hj hd
      simp only [Option.some.injEq, Prod.mk.injEq] at h
      obtain ⟨rfl, rfl, rfl⟩ := h
      have hok : d.ok := by
        unfold destX at hd
        simp only at hd
        split at hd
        · split at hd
          · split at hd
            · simp only [Option.some.injEq] at hd; subst hd; exact trivial
            · cases hd
          · cases hd
        · cases hd
      have hD := destX_ok (P := P) hk hd hok hv
      have hdn : d.n = s.n := by
        unfold destX at hd
        simp only at hd
        split at hd
        · split at hd
          · split at hd
            · simp only [Option.some.injEq] at hd; subst hd; rfl
            · cases hd
          · cases hd
        · cases hd
      obtain ⟨q, c, hq, hc, hn, rfl⟩ := av_sl hv
      rw [hj] at hc
      simp only [capv, Option.some.injEq] at hc
      obtain ⟨base, c', hv', hnc, hmem⟩ := hD.mem
      simp only [Value.slice.injEq] at hv'
      obtain ⟨rfl, h2, rfl⟩ := hv'
      have hal := hD.st.arrs.len
      rcases hmem with ⟨h0, h1⟩ | ⟨g, o, cur, fz, hb, g1, hfz, g2, g3, g4, g5, g6, g7, g8⟩
      · have hl0 : d.l = [] := List.eq_nil_of_length_eq_zero (by rw [hD.len, h0])
        refine ⟨_, le_arr e (.inl (some ⟨q.1, q.2 + s.o, none⟩)), hD.st.arrAdd (x := ⟨el, k, d.l, s.c, false⟩) (q := .inl (some ⟨q.1, q.2 + s.o, none⟩)) ⟨hl0, .inl ⟨k, rfl⟩⟩ rfl (by intro p hp; cases hp) (frNil (fun F hF => by rcases hF with h | h <;> cases h)), ?_⟩
        have hs0 : s.n = 0 := by omega
        have hc0 : s.c = 0 := by omega
        rw [hs0, hc0]
        have := asl_nil (e := ⟨e.blk, e.int, e.opq, e.arr ++ [.inl (some ⟨q.1, q.2 + s.o, none⟩)], e.S, e.junk, e.Z⟩) (s := ⟨d.st.arrs.length, 0, 0, 0⟩) (A := some ⟨q.1, q.2 + s.o, none⟩) (by simp [← hal]) rfl rfl
        rw [this, ← hc, hc0]
      · simp only [Option.some.injEq, Addr.mk.injEq] at hb
        obtain ⟨rfl, rfl, _⟩ := hb
        refine ⟨_, le_arr e (.inr (q.1, q.2 + s.o)), hD.st.arrAdd (x := ⟨el, k, d.l, s.c, false⟩) (q := .inr (q.1, q.2 + s.o)) (AOk.ofNum (k := k) rfl ⟨cur, el, fz, g1, g2, .inr ⟨rfl, g5, ⟨rfl, hfz⟩, by dsimp only; omega, by dsimp only; rw [hD.len]; omega, g4⟩⟩) rfl ?_ ⟨(fun F hF => by rcases hF with h | h <;> cases h), fun p hp => by simp at hp; subst hp; exact g8.2⟩, ?_⟩
        · intro p hp
          simp at hp; subst hp
          exact ⟨g7, fun i y q' k1 k2 k3 => g8.1 i y q' k1 k2 k3⟩
        · have := asl_av (e := ⟨e.blk, e.int, e.opq, e.arr ++ [.inr (q.1, q.2 + s.o)], e.S, e.junk, e.Z⟩) (s := ⟨d.st.arrs.length, 0, s.n, s.c⟩) (q := (q.1, q.2 + s.o)) (by simp [← hal]) (by dsimp only; omega)
          rw [this, ← hc]; simp
    · cases h
  · cases h
theorem buildX_ok (hk : Ok w0 e σ w) {t : TypeId} {n : Nat} {ps : List (Nat × AV)} {vs : Array (Nat × Value)} {T : MT} {K : AV → St → Prop} (h : buildX P t n ps σ = some T) (hK : T K) (hp : Parts e ps vs.toList) :
    ∃ v σ' e' r w', K v σ' ∧ e.le e' ∧ av e' v = some r ∧ Ok w0 e' σ' w' ∧ (Instr.buildSlice t n vs).run P w = .ok r w' := by
  unfold buildX at h
  split at h
  · split at h
    · rename_i k x σ' hel hr
      split at h
      · rename_i a l f hto
        simp only [Option.some.injEq] at h; subst h
        obtain ⟨r, hmem, e1, u, w1, h1, h2, h3, h4⟩ := opBuildSlice0_ok hk hr hp
        simp only [List.mem_singleton] at hmem
        subst hmem
        obtain ⟨e2, k1, k2, k3⟩ := toArr_ok P h3 hto h2
        exact ⟨_, _, e2, u, w1, hK l rfl, h1.trans k1, k3, k2, h4⟩
      · cases h
    · cases h
  · cases h
theorem fold_pushZ (l : List Int) (A : ByteArray) : l.foldl (fun r n => r.push (UInt8.ofNat n.toNat)) A = ⟨A.data ++ (l.map fun n => UInt8.ofNat n.toNat).toArray⟩ := by
  induction l generalizing A with
  | nil => simp
  | cons n l ih =>
    simp only [List.foldl_cons, ih]
    congr 1
    apply Array.ext'
    simp [ByteArray.push]

theorem strOfX_ok (hk : Ok w0 e σ w) {src dst : TypeId} {x : AV} {v : Value} {T : MT} {K : AV → St → Prop} (h : strOfX P src dst x σ = some T) (hK : T K) (hx : av e x = some v) :
    ∃ y u, K y σ ∧ av e y = some u ∧ (convert src dst v).run P w = .ok u w := by
  unfold strOfX at h
  split at h
  · rename_i el hs hd
    split at h
    · rename_i s he hns hr
      simp only [Option.some.injEq] at h; subst h
      obtain ⟨⟨h1, h2⟩, hK⟩ := hK
      have hsrc := readX_ok (P := P) hk hr h1 hx
      refine ⟨_, _, hK _ rfl, strC_av h2.out e, ?_⟩
      rcases hsrc.from_ with ⟨A, c, rfl, hc⟩ | ⟨h0, c, rfl⟩ | ⟨_, rfl, _⟩
      · have hload := run_loadCells_list (P := P) w A (s.l.map (Value.int .u8)) (fun j v hj => by
          rw [List.getElem?_map] at hj
          cases hx : s.l[j]? with
          | none => simp [hx] at hj
          | some z => rw [hx] at hj; simp at hj; subst hj; exact hc j z hx)
        rw [List.length_map, hsrc.len] at hload
        rw [run_convert_bytes_string w src dst el _ _ _ hs he hd, run_bytesToString w A s.n c s.l hload, fold_pushZ]
        simp [strZ]
      · have : s.l = [] := List.eq_nil_of_length_eq_zero (by rw [hsrc.len, h0])
        rw [run_convert_bytes_string w src dst el _ _ _ hs he hd, this]
        rfl
      · exfalso
        clear hsrc
        unfold readX at hr
        split at hr
        · rename_i s' hs'
          rw [aslX_eq hs'] at hx
          rcases aslX_ok (x := cell (aslC s')) rfl hx with ⟨_, _, _, _, h⟩ | ⟨_, _, _, h⟩ <;> cases h
        · split at hr
          · obtain ⟨_, _, _, _, _, h⟩ := av_sl hx; cases h
          · have := av_lit hx; cases this
          · rw [hns] at hr; cases hr
    · cases h
  · cases h

theorem copyX_ok (hk : Ok w0 e σ w) {t : TypeId} {d x : AV} {dv xv : Value} {ts : Array TypeId} {ty : TypeId} {xs : Array Value} {T : MT} {K : AV → St → Prop} (h : copyX P t d x σ = some T) (hK : T K) (hd : av e d = some dv) (hx : av e x = some xv)
    (hts0 : ts[0]? = some t) (hxs0 : xs[0]? = some dv) (hxs1 : xs[1]? = some xv) : ∃ v σ' r w', K v σ' ∧ av e v = some r ∧ Ok w0 e σ' w' ∧ (Builtin.copy_ ts ty xs).run P w = .ok r w' := by
  unfold copyX at h
  split at h
  · rename_i el s ht hs
    obtain rfl := aslX_eq hs
    split at h
    · rename_i b hz hb
      obtain ⟨k, hbk, h⟩ : ∃ k, b.k = .n k ∧ copyN k s b x σ = some T := by
        split at h
        · cases h
        · rename_i k hbk; exact ⟨k, hbk, h⟩
      unfold copyN at h
      split at h
      · cases h
      · rename_i hro
        have hro : b.ro = false := by simpa using hro
        split at h
        · rename_i r hr
          simp only [Option.some.injEq] at h; subst h
          obtain ⟨⟨h1, h2⟩, hK⟩ := hK
          have hsrc := readX_ok (P := P) hk hr h2 hx
          have hlo := hsrc.lenOf w
          have hf := hsrc.firstM (min r.n s.n) (Nat.min_le_left _ _) w (fun _ => rfl)
          have hlen : (r.l.take (min r.n s.n)).length = min r.n s.n := by rw [List.length_take, hsrc.len]; omega
          have ha := getArr_some hb
          rcases aslX_ok (x := cell (aslC s)) rfl hd with ⟨A, hq, hn, hc, rfl⟩ | ⟨q, hq, hn, rfl⟩
          · have hm : min r.n s.n = 0 := by omega
            have hA : b.l = [] := by
              obtain ⟨q', hq', hA⟩ := hk.arrAt hb
              rw [hq] at hq'; simp at hq'; subst hq'
              exact hA.1
            have hsame : setArr σ s.a (some ⟨b.elem, .n k, b.l, b.cap, b.ro⟩) = σ := by
              rw [← hbk]
              obtain ⟨h1, h2, h3, h4, h5⟩ := σ
              simp only [setArr, St.mk.injEq, true_and, and_true]
              exact List.ext_getElem? fun i => by
                by_cases hi : s.a = i
                · subst hi
                  have hlt := (List.getElem?_eq_some_iff.1 ha).1
                  rw [List.getElem?_set_self hlt]
                  exact ha.symm
                · rw [List.getElem?_set_ne hi]
            refine ⟨_, _, _, w, hK (min r.n s.n) b.l rfl (by rw [hm, hA]; simp), xint_av e .i64 _, by rw [hsame]; exact hk, ?_⟩
            rw [hm] at hf ⊢
            have hnm : Nat.min r.n 0 = 0 := by simp
            cases A with
            | none => simp [Builtin.copy_, hts0, hxs0, hxs1, run_underlying ht, hlo, run_sizeT hz, hnm, hf, goInt]
            | some A => simp [Builtin.copy_, hts0, hxs0, hxs1, run_underlying ht, hlo, run_sizeT hz, hnm, hf, goInt, storeCells]
          · obtain ⟨cur, el', fz, g1, g2, ⟨g3, _⟩ | ⟨_, g3, ⟨rfl, hfz⟩, g5, g6, g7⟩⟩ := (hk.arrs.ok _ _ _ ha hq).num hbk
            · rw [hro] at g3; cases g3
            have hcn : (r.l.take (min r.n s.n)).map (Value.int k) = (r.l.take (min r.n s.n)).map (Value.int k) := rfl
            have hst := run_storeCells_fz P q.1 (q.2 + s.o) b.elem fz ((r.l.take (min r.n s.n)).map (Value.int k)) 0 cur w g1 hfz (by rw [List.length_map, hlen]; omega) (by intro v hv; obtain ⟨z, _, rfl⟩ := List.mem_map.1 hv; rfl)
            refine ⟨_, _, _, _, hK (min r.n s.n) _ rfl rfl, xint_av e .i64 _, hk.arrSet ha hro hq (arr_only w q.1 (cur.toList.take (q.2 + s.o + 0) ++ (r.l.take (min r.n s.n)).map (Value.int k) ++ cur.toList.drop (q.2 + s.o + 0 + ((r.l.take (min r.n s.n)).map (Value.int k)).length)).toArray) _ ?_, ?_⟩
            · intro y hy
              simp only [Option.some.injEq] at hy; subst hy
              refine ⟨hro, AOk.ofNum (k := k) rfl ⟨_, b.elem, fz, setRow_heap w q.1 cur _ b.elem _ g1, ?_, .inr ⟨hro, g3, ⟨rfl, hfz.imp id (fun h => by simp only [List.size_toArray, List.length_append, List.length_take, List.length_drop, List.length_map, Array.length_toList]; have := hsrc.len; omega)⟩, ?_, ?_, ?_⟩⟩⟩
              · intro j v hj
                dsimp only at hj ⊢
                rw [List.getElem?_toArray]
                simp only [Nat.add_zero, List.length_map, hlen]
                have hto : (b.l.take s.o).length = s.o := by rw [List.length_take]; omega
                rw [List.append_assoc] at hj ⊢
                have hct : (cur.toList.take (q.2 + s.o)).length = q.2 + s.o := by rw [List.length_take, Array.length_toList]; omega
                by_cases hjo : j < s.o
                · rw [List.getElem?_append_left (by omega), List.getElem?_take, if_pos hjo] at hj
                  rw [List.getElem?_append_left (by omega), List.getElem?_take, if_pos (by omega), Array.getElem?_toList]
                  exact g2 j v hj
                · rw [List.getElem?_append_right (by omega), hto] at hj
                  rw [List.getElem?_append_right (by omega), hct, show q.2 + j - (q.2 + s.o) = j - s.o by omega]
                  by_cases hjm : j - s.o < min r.n s.n
                  · rw [List.getElem?_append_left (by omega)] at hj
                    rw [List.getElem?_append_left (by rw [List.length_map]; omega), List.getElem?_map, hj]; rfl
                  · rw [List.getElem?_append_right (by omega), hlen, List.getElem?_drop] at hj
                    rw [List.getElem?_append_right (by rw [List.length_map]; omega), List.length_map, hlen, List.getElem?_drop, Array.getElem?_toList]
                    have := g2 _ v hj
                    rw [← this]; congr 1; omega
              · simp only [List.size_toArray, List.length_append, List.length_take, List.length_drop, List.length_map, Array.length_toList]
                have := hsrc.len
                omega
              · simp only [List.length_append, List.length_take, List.length_drop]
                have := hsrc.len
                omega
              · intro v hv
                simp only [List.mem_toArray, List.mem_append] at hv
                rcases hv with (hv | hv) | hv
                · exact g7 v (by simpa using List.mem_of_mem_take hv)
                · obtain ⟨z, _, rfl⟩ := List.mem_map.1 hv; rfl
                · exact g7 v (by simpa using List.mem_of_mem_drop hv)
            · have hnm : Nat.min r.n s.n = min r.n s.n := rfl
              simp only [Builtin.copy_, hts0, hxs0, hxs1, Sem.run_bind, run_underlying ht, Result.andThen_ok, hlo, run_sizeT hz, hnm, hf, Sem.run_pure, goInt]
              have : (storeCells ⟨q.1, q.2 + s.o, none⟩ ((r.l.take (min r.n s.n)).map (Value.int k))).run P w = .ok () (w.setRow q.1 (cur.toList.take (q.2 + s.o + 0) ++ (r.l.take (min r.n s.n)).map (Value.int k) ++ cur.toList.drop (q.2 + s.o + 0 + ((r.l.take (min r.n s.n)).map (Value.int k)).length)).toArray) := by simpa using hst
              rw [this]; rfl
        · cases h
    · cases h
  · cases h

theorem rep_one {α : Type} (v : α) : ∀ n, rep [v] n = List.replicate n v
  | 0 => rfl
  | n + 1 => by simp [rep, rep_one v n, List.replicate_succ]
theorem clearX_ok (hk : Ok w0 e σ w) {t : TypeId} {x : AV} {xv : Value} {ts : Array TypeId} {ty : TypeId} {xs : Array Value} {T : MT} {K : AV → St → Prop} (h : clearX P t x σ = some T) (hK : T K) (hx : av e x = some xv)
    (hts0 : ts[0]? = some t) (hxs0 : xs[0]? = some xv) : ∃ v σ' r w', K v σ' ∧ av e v = some r ∧ Ok w0 e σ' w' ∧ (Builtin.clear_ ts ty xs).run P w = .ok r w' := by
  unfold clearX at h
  split at h
  · rename_i el s ht hs
    obtain rfl := aslX_eq hs
    split at h
    · rename_i i b hi hb
      split at h
      · rename_i z k hz hbk
        split at h
        · rename_i hcond
          simp only [Bool.and_eq_true, Nat.beq_eq, Bool.not_eq_true'] at hcond
          obtain ⟨⟨c1, c2⟩, hro⟩ := hcond
          have hz0 : z = .int k 0 := by
            unfold isNought at c2
            split at c2
            · simp at c2; rw [c2.1, c2.2]
            · cases c2
          subst hz0
          simp only [Option.some.injEq] at h; subst h
          obtain ⟨h1, hK⟩ := hK
          have ha := getArr_some hb
          rcases aslX_ok (x := cell (aslC s)) rfl hx with ⟨A, hq, hn, hc, rfl⟩ | ⟨q, hq, hn, rfl⟩
          · have hA : b.l = [] := by
              obtain ⟨q', hq', hA⟩ := hk.arrAt hb
              rw [hq] at hq'; simp at hq'; subst hq'
              exact hA.1
            have hsame : setArr σ s.a (some ⟨b.elem, .n k, b.l, b.cap, b.ro⟩) = σ := by
              rw [← hbk]
              obtain ⟨h1, h2, h3, h4, h5⟩ := σ
              simp only [setArr, St.mk.injEq, true_and, and_true]
              exact List.ext_getElem? fun i => by
                by_cases hi : s.a = i
                · subst hi
                  have hlt := (List.getElem?_eq_some_iff.1 ha).1
                  rw [List.getElem?_set_self hlt]
                  exact ha.symm
                · rw [List.getElem?_set_ne hi]
            refine ⟨_, _, _, w, hK b.l (by rw [hn, hA]; simp), lit_av e _, by rw [hsame]; exact hk, ?_⟩
            cases A with
            | none => simp [Builtin.clear_, hts0, hxs0, run_underlying ht]
            | some A => simp [Builtin.clear_, hts0, hxs0, run_underlying ht]
          · obtain ⟨cur, el', fz, g1, g2, ⟨g3, _⟩ | ⟨_, g3, ⟨rfl, hfz⟩, g5, g6, g7⟩⟩ := (hk.arrs.ok _ _ _ ha hq).num hbk
            · rw [hro] at g3; cases g3
            have hst := run_storeCells_fz P q.1 (q.2 + s.o) b.elem fz (List.replicate s.n (Value.int k 0)) 0 cur w g1 hfz (by rw [List.length_replicate]; omega) (by intro v hv; rw [(List.mem_replicate.1 hv).2]; rfl)
            refine ⟨_, _, _, _, hK _ rfl, lit_av e _, hk.arrSet ha hro hq (arr_only w q.1 (cur.toList.take (q.2 + s.o + 0) ++ List.replicate s.n (Value.int k 0) ++ cur.toList.drop (q.2 + s.o + 0 + (List.replicate s.n (Value.int k 0)).length)).toArray) _ ?_, ?_⟩
            · intro y hy
              simp only [Option.some.injEq] at hy; subst hy
              refine ⟨hro, AOk.ofNum (k := k) rfl ⟨_, b.elem, fz, setRow_heap w q.1 cur _ b.elem _ g1, ?_, .inr ⟨hro, g3, ⟨rfl, hfz.imp id (fun h => by simp only [List.size_toArray, List.length_append, List.length_take, List.length_drop, List.length_replicate, Array.length_toList]; omega)⟩, ?_, ?_, ?_⟩⟩⟩
              · intro j v hj
                dsimp only at hj ⊢
                rw [List.getElem?_toArray]
                simp only [Nat.add_zero, List.length_replicate]
                have hto : (b.l.take s.o).length = s.o := by rw [List.length_take]; omega
                rw [List.append_assoc] at hj ⊢
                have hct : (cur.toList.take (q.2 + s.o)).length = q.2 + s.o := by rw [List.length_take, Array.length_toList]; omega
                by_cases hjo : j < s.o
                · rw [List.getElem?_append_left (by omega), List.getElem?_take, if_pos hjo] at hj
                  rw [List.getElem?_append_left (by omega), List.getElem?_take, if_pos (by omega), Array.getElem?_toList]
                  exact g2 j v hj
                · rw [List.getElem?_append_right (by omega), hto] at hj
                  rw [List.getElem?_append_right (by omega), hct, show q.2 + j - (q.2 + s.o) = j - s.o by omega]
                  by_cases hjm : j - s.o < s.n
                  · rw [List.getElem?_append_left (by rw [List.length_replicate]; omega), List.getElem?_replicate, if_pos hjm] at hj
                    rw [List.getElem?_append_left (by rw [List.length_replicate]; omega), List.getElem?_replicate, if_pos hjm]
                    simp at hj; rw [← hj]
                  · rw [List.getElem?_append_right (by rw [List.length_replicate]; omega), List.length_replicate, List.getElem?_drop] at hj
                    rw [List.getElem?_append_right (by rw [List.length_replicate]; omega), List.length_replicate, List.getElem?_drop, Array.getElem?_toList]
                    have := g2 _ v hj
                    rw [← this]; congr 1; omega
              · simp only [List.size_toArray, List.length_append, List.length_take, List.length_drop, List.length_replicate, Array.length_toList]
                omega
              · simp only [List.length_append, List.length_take, List.length_drop, List.length_replicate]
                omega
              · intro v hv
                simp only [List.mem_toArray, List.mem_append] at hv
                rcases hv with (hv | hv) | hv
                · exact g7 v (by simpa using List.mem_of_mem_take hv)
                · rw [(List.mem_replicate.1 hv).2]; rfl
                · exact g7 v (by simpa using List.mem_of_mem_drop hv)
            · have hzc : (Builtin.zeroCells #[Value.int k 0] s.n).toList = List.replicate s.n (Value.int k 0) := by rw [zeroCells_rep _ (by simp)]; simp [rep_one]
              cases hsn : s.n with
              | zero =>
                have hid : (cur.toList.take (q.2 + s.o + 0) ++ List.replicate 0 (Value.int k 0) ++ cur.toList.drop (q.2 + s.o + 0 + (List.replicate 0 (Value.int k 0)).length)).toArray = cur := by simp
                rw [hid]
                have hw : w.setRow q.1 cur = w := by
                  have h0 := hst
                  rw [hsn] at h0
                  rw [hid] at h0
                  simp [storeCells] at h0
                  exact h0.symm
                rw [hw]
                simp [Builtin.clear_, hts0, hxs0, run_underlying ht, hsn]
              | succ m =>
                rw [hsn] at hzc hst hxs0
                have h2 : (storeCells ⟨q.1, q.2 + s.o, none⟩ (List.replicate (m + 1) (Value.int k 0))).run P w = .ok () (w.setRow q.1 (cur.toList.take (q.2 + s.o + 0) ++ List.replicate (m + 1) (Value.int k 0) ++ cur.toList.drop (q.2 + s.o + 0 + (List.replicate (m + 1) (Value.int k 0)).length)).toArray) := by simpa using hst
                simp [Builtin.clear_, hts0, hxs0, run_underlying ht, run_zeroT hi hz, Value.cells, hzc]
                rw [h2]; simp
        · cases h
      · cases h
    · cases h
  · cases h

theorem makeX_ok (hk : Ok w0 e σ w) {t : TypeId} {l c : AV} {vl vc : Value} {T : MT} {K : AV → St → Prop} (h : makeX P t l c σ = some T) (hK : T K) (hl : av e l = some vl) (hc : av e c = some vc) :
    ∃ v σ' e' r w', K v σ' ∧ e.le e' ∧ av e' v = some r ∧ Ok w0 e' σ' w' ∧ (Instr.makeSlice t vl vc).run P w = .ok r w' := by
  unfold makeX at h
  split at h
  · rename_i el kl l' kc c' hu hl' hc'
    have e1 := intX_ok hl' hl
    have e2 := intX_ok hc' hc
    subst e1; subst e2
    split at h
    · rename_i k i he hi
      split at h
      · rename_i z hz
        split at h
        · rename_i hcond
          simp only [Bool.and_eq_true, Nat.beq_eq, Nat.ble_eq] at hcond
          obtain ⟨⟨c1, c2⟩, c3⟩ := hcond
          have hz0 : z = .int k 0 := by
            unfold isNought at c2
            split at c2
            · simp at c2; rw [c2.1, c2.2]
            · cases c2
          subst hz0
          simp only [Option.some.injEq] at h; subst h
          obtain ⟨⟨h1, h2, h3⟩, hK⟩ := hK
          obtain ⟨n, rfl⟩ : ∃ n : Nat, l' = n := ⟨l'.toNat, by omega⟩
          obtain ⟨m, rfl⟩ : ∃ m : Nat, c' = m := ⟨c'.toNat, by omega⟩
          have hlen := hk.arrs.len
          have hwd := hk.world (((Only.refl (fun _ => False) w)).alloc (.cells (Array.replicate m (Value.int k 0)) el))
          have hA : AOk w0 (w.alloc (.cells (Array.replicate m (Value.int k 0)) el)) e ⟨el, k, List.replicate m 0, m, false⟩ (.inr (w.heap.size, 0)) := by
            refine AOk.ofNum (k := k) rfl ⟨_, el, (0, 0), heap_alloc_new w _, ?_, .inr ⟨rfl, .inl hk.only.size, ⟨rfl, .inl rfl⟩, by simp, by simp, ?_⟩⟩
            · intro j v hj
              dsimp only at hj ⊢
              have hlt := (List.getElem?_eq_some_iff.1 hj).1
              simp at hlt
              rw [List.getElem?_replicate, if_pos hlt] at hj
              simp at hj; subst hj
              simp [hlt]
            · intro v hv
              simp at hv
              rw [hv.2]; rfl
          refine ⟨_, _, _, .slice (some ⟨w.heap.size, 0, none⟩) n m, _, hK n m _ rfl rfl rfl, le_arr e (.inr (w.heap.size, 0)), ?_, hwd.arrAdd hA rfl ?_ (frNew hk (fun F hF => by rcases hF with h | h <;> cases h)), ?_⟩
          · have : (e.arr ++ [(.inr (w.heap.size, 0) : Option Addr ⊕ (Nat × Nat))])[σ.arrs.length]? = some (.inr (w.heap.size, 0)) := by rw [← hlen]; simp
            have := asl_av (e := ⟨e.blk, e.int, e.opq, e.arr ++ [.inr (w.heap.size, 0)], e.S, e.junk, e.Z⟩) (s := ⟨σ.arrs.length, 0, n, m⟩) (q := (w.heap.size, 0)) this (by dsimp only; omega)
            simpa using this
          · rintro p hp
            simp at hp; subst hp
            refine ⟨fun b y q' k1 k2 => ?_, fun i y q' k1 k2 k3 => ?_⟩
            · have := (hk.blk b y q' k1 k2).lt; dsimp only; omega
            · have := (hk.arrs.ok i y _ k1 k3).lt; dsimp only at this ⊢; omega
          · have w1 : IntKind.i64.wrap (n : Int) = n := IntWalk.i64_in _ (by omega)
            have w2 : IntKind.i64.wrap (m : Int) = m := IntWalk.i64_in _ (by omega)
            have t1 : ¬ ((m : Int) < 0) := by omega
            have hby : i.bytes * m ≤ 256 * 16777216 := Nat.mul_le_mul c3 (by omega)
            have t2 : ¬ ((i.bytes : Int) * (m : Int) > 2 ^ 48) := by rw [← Int.natCast_mul]; omega
            have t3 : ¬ ((n : Int) < 0) := by omega
            have t4 : ¬ ((n : Int) > (m : Int)) := by omega
            have hsO : (Go.sizeOf el).run P w = .ok i.size w := run_sizeT (by simp [sizeT, hi]) w
            have hti : (typeInfo el).run P w = .ok i w := by simp [typeInfo, hi]
            have arr : (Array.range m).map (fun x => (#[Value.int k 0] : Array Value)[x % 1]!) = Array.replicate m (Value.int k 0) := by
              apply Array.ext
              · simp
              · intro j hj1 hj2
                simp [Nat.mod_one]
            by_cases h0 : m = 0
            · subst h0
              have hn0 : n = 0 := by omega
              subst hn0
              have r0 : Array.range 0 = #[] := rfl
              simp [Instr.makeSlice, run_underlying hu, asInt, asIntOf, hti, hsO, c1, run_newRowT, r0]
              try simp [IntKind.wrap_i64, run_newRowT, r0]
            · simp [Instr.makeSlice, run_underlying hu, asInt, asIntOf, hti, w1, w2, t1, t2, t3, t4, hsO, c1, h0, run_zeroT hi hz, run_newRowT, Value.cells]
              have t2' : ¬ (281474976710656 < (i.bytes : Int) * (m : Int)) := by simpa using t2
              have t4' : ¬ (m < n) := by omega
              have arr' : (Array.range m).map (fun x => ([Value.int k 0] : List Value)[x % 1]?.getD default) = Array.replicate m (Value.int k 0) := by
                apply Array.ext
                · simp
                · intro j hj1 hj2
                  simp [Nat.mod_one]
              simp [t2', t4', run_newRowT, arr']
        · cases h
      · cases h
    · rename_i i he hi
      split at h
      · rename_i hcond
        simp only [Bool.and_eq_true, Nat.ble_eq] at hcond
        obtain ⟨c1, c3⟩ := hcond
        obtain ⟨z, hz⟩ := Option.isSome_iff_exists.1 c1
        simp only [Option.some.injEq] at h; subst h
        obtain ⟨⟨h1, h2, h3⟩, hK⟩ := hK
        obtain ⟨n, rfl⟩ : ∃ n : Nat, l' = n := ⟨l'.toNat, by omega⟩
        obtain ⟨m, rfl⟩ : ∃ m : Nat, c' = m := ⟨c'.toNat, by omega⟩
        have hlen := hk.arrs.len
        have hby : i.bytes * m ≤ 65536 * 16777216 := Nat.mul_le_mul c3 (by omega)
        have hr := run_make (P := P) w t el i z hu hi hz kl kc n m (by omega) (by omega) (by rw [← Int.natCast_mul]; omega) (by omega)
        simp only [Int.toNat_natCast] at hr
        have hwd := hk.world (((Only.refl (fun _ => False) w)).alloc (.cells (madeCells z.cells (m * i.size)) el))
        have hA : AOk w0 (w.alloc (.cells (madeCells z.cells (m * i.size)) el)) e ⟨el, .o .row, [], 0, false⟩ (.inr (w.heap.size, 0)) :=
          ⟨⟨_, heap_alloc_new w _, trivial⟩, .inr ⟨rfl, .inl hk.only.size⟩⟩
        refine ⟨_, _, _, .slice (some ⟨w.heap.size, 0, none⟩) n m, _, hK n m rfl rfl, le_arr e (.inr (w.heap.size, 0)), ?_, hwd.arrAdd hA rfl ?_ (frNew hk (fun F hF => by rcases hF with h | h <;> cases h)), hr⟩
        · have : (e.arr ++ [(.inr (w.heap.size, 0) : Option Addr ⊕ (Nat × Nat))])[σ.arrs.length]? = some (.inr (w.heap.size, 0)) := by rw [← hlen]; simp
          have := asl_av (e := ⟨e.blk, e.int, e.opq, e.arr ++ [.inr (w.heap.size, 0)], e.S, e.junk, e.Z⟩) (s := ⟨σ.arrs.length, 0, n, m⟩) (q := (w.heap.size, 0)) this (by dsimp only; omega)
          simpa using this
        · rintro p hp
          simp at hp; subst hp
          refine ⟨fun b y q' k1 k2 => ?_, fun i y q' k1 k2 k3 => ?_⟩
          · have := (hk.blk b y q' k1 k2).lt; dsimp only; omega
          · have := (hk.arrs.ok i y _ k1 k3).lt; dsimp only at this ⊢; omega
      · cases h
    · cases h
  · cases h
end
end Reck
