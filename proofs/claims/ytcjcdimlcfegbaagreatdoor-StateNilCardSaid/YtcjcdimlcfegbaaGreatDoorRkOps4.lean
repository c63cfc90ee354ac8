/- A reckoner of calls: what is built in. No condition. -/
import Derived.Test.YtcjcdimlcfegbaaGreatDoorRkOps3
import Derived.Laws.BytesString
import Derived.Laws.IdiomStrings
import Derived.Laws.AppendOwn
import Derived.Lib.Overlaps
set_option linter.unusedVariables false
set_option linter.unusedSimpArgs false
namespace Reck
open Go Ost

section
variable {P : Program} {w0 w : World} {e : Env} {σ : St} {res : List (AV × St)}

theorem grownAt_ok (hk : Ok w0 e σ w) {el : TypeId} {cells : List Cell} {n N : Nat} {q : Nat × Nat} {cur : Array Value} {fz : Nat × Nat} {z : Bool} {u : Nat} (hq : w0.heap.size ≤ q.1 ∨ e.S q.1) (hcur : w.heap[q.1]? = some (.cells cur el fz))
    (hcells : ∀ (j : Nat) c, cells[j]? = some c → ∃ v, cv e c = some v ∧ cur[q.2 + j]? = some v) (hN : n ≤ N) (hsz : q.2 + N * (u + 1) ≤ cur.size) (hp : ∀ v ∈ cur, v.oneCell' = true) (hz1 : z = false → fz = (0, 0)) (hz2 : fz = (0, 0) ∨ cur.size ≤ fz.1)
    (hd : ∀ (b : Nat) y q', σ.heap[b]? = some (some y) → e.blk[b]? = some q' → q'.1 ≠ q.1) (hda : ∀ (a : Nat) y q', σ.arrs[a]? = some (some y) → e.arr[a]? = some (.inr q') → q'.1 ≠ q.1) (hz : ¬ FrzP σ q.1) :
    e.le ⟨e.blk ++ [q], e.int ++ [(N : Int)], e.opq, e.arr, e.S, e.junk, e.Z⟩ ∧ Ok w0 ⟨e.blk ++ [q], e.int ++ [(N : Int)], e.opq, e.arr, e.S, e.junk, e.Z⟩ (grownU σ el cells n u z).2 w ∧ av ⟨e.blk ++ [q], e.int ++ [(N : Int)], e.opq, e.arr, e.S, e.junk, e.Z⟩ (grownU σ el cells n u z).1 = some (.slice (some ⟨q.1, q.2, none⟩) n N) := by
  have hle : e.le ⟨e.blk ++ [q], e.int ++ [(N : Int)], e.opq, e.arr, e.S, e.junk, e.Z⟩ := ⟨⟨_, rfl⟩, ⟨_, rfl⟩, List.prefix_rfl, List.prefix_rfl, rfl, List.prefix_rfl, rfl⟩
  have h1 := hk.addInt (N : Int) (some (.ofNat n), none) ⟨by intro l hl; simp at hl; omega, by simp⟩
  have hx : BlkOk w0 w ⟨e.blk ++ [q], e.int ++ [(N : Int)], e.opq, e.arr, e.S, e.junk, e.Z⟩ ⟨el, cells, some σ.ints.length, u, z⟩ q := by
    refine ⟨hq, cur, fz, hcur, fun j c hc => let ⟨v, a, b⟩ := hcells j c hc; ⟨v, cv_mono hle c v a, b⟩, ⟨N, ?_, hsz⟩, hp, hz1, hz2⟩
    simp [capv, b0, ← hk.ints]
  have h2 := Ok.add (e := ⟨e.blk, e.int ++ [(N : Int)], e.opq, e.arr, e.S, e.junk, e.Z⟩) h1 hx (by simpa [addI] using hd) (by simpa [addI] using hda) hz
  refine ⟨hle, by simpa [grownU, addI] using h2, ?_⟩
  simp only [grownU, sl, cell, av, v1, cv, capv]
  simp [← hk.blks, ← hk.ints, hN]

theorem av_int {k : IntKind} {i : Nat} {v : Value} (h : av e (.inl (.inl (.inr (.inr (.inr (.inl (k, i))))))) = some v) : ∃ n, v = .int k n := by
  simp only [av, v1, cv] at h
  split at h
  · rename_i n hn; simp at h; exact ⟨n, h.symm⟩
  · cases h
theorem funcV_eq (f : FuncId) (vs : List Value) : ∃ g x y, funcV f vs = .func (.func g) x y := by
  unfold funcV; split <;> exact ⟨_, _, _, rfl⟩
theorem av_func {f : FuncId} {l : List (Nat × Nat)} {v : Value} (h : av e (.inl (.inl (.inr (.inr (.inr (.inr (.inl (f, l)))))))) = some v) : ∃ vs : List Value, l.map (ptrV e) = vs.map some ∧ v = funcV f vs := by
  simp only [av, v1, cv] at h
  split at h
  · rename_i vs hvs; simp at h; exact ⟨vs, seqO_some.1 hvs, h.symm⟩
  · cases h

theorem bvC_cv (e : Env) (b : BV) : cv e (bvC b) = bvV b := by cases b <;> rfl
theorem bvOf_eq {c : Cell} {b : BV} (h : bvOf c = some b) : c = bvC b := by
  unfold bvOf at h
  split at h
  · simp only [Option.some.injEq] at h; subst h; rfl
  · simp only [Option.some.injEq] at h; subst h; rfl
  · simp only [Option.some.injEq] at h; subst h; rfl
  · cases h
theorem av_bf {p : BF} {v : Value} (h : av e (cell (bfC p)) = some v) : ∃ vs : List Value, p.l.map bvV = vs.map some ∧ v = .func (.func p.f) #[.agg vs.toArray] #[] := by
  simp only [cell, av, v1, bfC, cv, bfV] at h
  split at h
  · rename_i vs hvs; simp at h; exact ⟨vs, seqO_some.1 hvs, h.symm⟩
  · cases h
theorem cmpNil_ok (hk : Ok w0 e σ w) {op : BinOp} {b : Bool} (h : cmpNil op b σ = .ok res) (t : TypeId) (x y : Value) (h1 : (binOp .eql t x y).run P w = .ok (.bool b) w) (h2 : (binOp .neq t x y).run P w = .ok (.bool !b) w) : SemOk P w0 e w res (binOp op t x y) := by
  unfold cmpNil at h
  split at h
  · exact SemOk.one h _ (lit_av e _) hk h1
  · exact SemOk.one h _ (lit_av e _) hk h2
  · cases h

theorem eq_nil1 (d : Nat) {t el : TypeId} (hu : P.underlying t = some (.pointer el)) (a : Addr) : (Op.equalIn (d + 1) t (.pointer (some a)) (.pointer none)).run P w = .ok false w := by simp [Op.equalIn, run_underlying hu]
theorem eq_nil2 (d : Nat) {t el : TypeId} (hu : P.underlying t = some (.pointer el)) (a : Addr) : (Op.equalIn (d + 1) t (.pointer none) (.pointer (some a))).run P w = .ok false w := by simp [Op.equalIn, run_underlying hu]
theorem eq_nil3 (d : Nat) {t el : TypeId} (hu : P.underlying t = some (.slice el)) (a : Addr) (n c m k : Nat) : (Op.equalIn (d + 1) t (.slice (some a) n c) (.slice none m k)).run P w = .ok false w := by simp [Op.equalIn, run_underlying hu]
theorem eq_nil4 (d : Nat) {t el : TypeId} (hu : P.underlying t = some (.slice el)) (a : Addr) (n c m k : Nat) : (Op.equalIn (d + 1) t (.slice none m k) (.slice (some a) n c)).run P w = .ok false w := by simp [Op.equalIn, run_underlying hu]
theorem eq_nil5 (d : Nat) {t : TypeId} {p r : Array TypeId} {b : Bool} (hu : P.underlying t = some (.func p r b)) (f : Fn) (x y : Array Value) : (Op.equalIn (d + 1) t (.func f x y) .nilFunc).run P w = .ok false w := by simp [Op.equalIn, run_underlying hu]

theorem opBin_ok (hk : Ok w0 e σ w) {op : BinOp} {t : TypeId} {x y : AV} {vx vy : Value} (h : opBin P op t x y σ = .ok res) (hx : av e x = some vx) (hy : av e y = some vy) (xo yo : Operand) :
    SemOk P w0 e w res (do eqGuard op t xo yo vx vy; binOp op t vx vy) := by
  have key : vx.oneCell' = true → vx ≠ .nilIface → SemOk P w0 e w res (binOp op t vx vy) → SemOk P w0 e w res (do eqGuard op t xo yo vx vy; binOp op t vx vy) := by
    rintro g1 g2 ⟨r, hr, e', v, w', a1, a2, a3, a4⟩
    refine ⟨r, hr, e', v, w', a1, a2, a3, ?_⟩
    rw [Sem.run_bind, run_eqGuard op t xo yo vx vy g1 g2]
    exact a4
  unfold opBin at h
  split at h
  · rename_i k i k' i' hxi hyi
    obtain ⟨n, rfl, hn⟩ := intOf_ok hxi hx
    obtain ⟨m, rfl, hm⟩ := intOf_ok hyi hy
    split at h
    · rename_i hkk
      subst hkk
      exact key rfl (by simp) (opInt_ok hk h hn hm t)
    · cases h
  · have eqd : ∀ (t : TypeId) (x y : Value) (b : Bool), (Op.equal t x y).run P w = .ok b w → (∀ s, x ≠ .string s) → (∀ k n, x ≠ .int k n) → (∀ k n, x ≠ .float k n) → (∀ k n m, x ≠ .complex k n m) → (binOp .eql t x y).run P w = .ok (.bool b) w ∧ (binOp .neq t x y).run P w = .ok (.bool !b) w := by
      intro t x y b hb n1 n2 n3 n4
      cases x <;> first | exact absurd rfl (n1 _) | exact absurd rfl (n2 _ _) | exact absurd rfl (n3 _ _) | exact absurd rfl (n4 _ _ _) | exact ⟨by simp [binOp, hb], by simp [binOp, hb]⟩
    split at h
    · rename_i hu hno
      obtain ⟨q, hq, rfl⟩ := av_ptr hx
      obtain rfl := av_lit hy
      exact key rfl (by simp) (cmpNil_ok hk h t _ _ (eqd t _ _ false (eq_nil1 9999 hu _) (by simp) (by simp) (by simp) (by simp)).1 (eqd t _ _ false (eq_nil1 9999 hu _) (by simp) (by simp) (by simp) (by simp)).2)
    · rename_i hu hno
      obtain ⟨q, hq, rfl⟩ := av_ptr hy
      obtain rfl := av_lit hx
      exact key rfl (by simp) (cmpNil_ok hk h t _ _ (eqd t _ _ false (eq_nil2 9999 hu _) (by simp) (by simp) (by simp) (by simp)).1 (eqd t _ _ false (eq_nil2 9999 hu _) (by simp) (by simp) (by simp) (by simp)).2)
    · rename_i hu hno
      obtain ⟨q, c, hq, hc, hn, rfl⟩ := av_sl hx
      obtain rfl := av_lit hy
      exact key rfl (by simp) (cmpNil_ok hk h t _ _ (eqd t _ _ false (eq_nil3 9999 hu _ _ _ _ _) (by simp) (by simp) (by simp) (by simp)).1 (eqd t _ _ false (eq_nil3 9999 hu _ _ _ _ _) (by simp) (by simp) (by simp) (by simp)).2)
    · rename_i hu hno
      obtain ⟨q, c, hq, hc, hn, rfl⟩ := av_sl hy
      obtain rfl := av_lit hx
      exact key rfl (by simp) (cmpNil_ok hk h t _ _ (eqd t _ _ false (eq_nil4 9999 hu _ _ _ _ _) (by simp) (by simp) (by simp) (by simp)).1 (eqd t _ _ false (eq_nil4 9999 hu _ _ _ _ _) (by simp) (by simp) (by simp) (by simp)).2)
    · rename_i hu hno
      obtain ⟨vs, h1, rfl⟩ := av_func hx
      obtain rfl := av_lit hy
      obtain ⟨g, xs, ys, hg⟩ := funcV_eq _ vs
      rw [hg] at key ⊢
      exact key rfl (by simp) (cmpNil_ok hk h t _ _ (eqd t _ _ false (eq_nil5 9999 hu _ _ _) (by simp) (by simp) (by simp) (by simp)).1 (eqd t _ _ false (eq_nil5 9999 hu _ _ _) (by simp) (by simp) (by simp) (by simp)).2)
    · rename_i hu hno
      obtain ⟨vs, h1, rfl⟩ := av_bf hx
      obtain rfl := av_lit hy
      exact key rfl (by simp) (cmpNil_ok hk h t _ _ (eqd t _ _ false (eq_nil5 9999 hu _ _ _) (by simp) (by simp) (by simp) (by simp)).1 (eqd t _ _ false (eq_nil5 9999 hu _ _ _) (by simp) (by simp) (by simp) (by simp)).2)
    · cases h

theorem bytesOf_ok : ∀ {cs : List Cell} {ns : List Nat}, bytesOf cs = some ns → cs.map (cv e) = (ns.map fun (n : Nat) => Value.int .u8 (n : Int)).map some := by
  intro cs
  induction cs with
  | nil => intro ns h; simp [bytesOf] at h; subst h; rfl
  | cons c cs ih =>
    intro ns h
    unfold bytesOf at h
    split at h
    · rename_i heq; cases heq
    · rename_i n l heq
      simp at heq
      obtain ⟨rfl, rfl⟩ := heq
      split at h
      · rename_i ms hms
        split at h
        · simp at h; subst h
          simp [ih hms, cv]
        · cases h
      · cases h
    · cases h
theorem fold_push : ∀ (ns : List Nat) (A : ByteArray), (ns.map fun (n : Nat) => (n : Int)).foldl (fun r n => r.push (UInt8.ofNat n.toNat)) A = ⟨A.data ++ (ns.map fun (n : Nat) => UInt8.ofNat n).toArray⟩
  | [], A => by simp
  | n :: ns, A => by
    simp only [List.map_cons, List.foldl_cons, fold_push ns]
    congr 1
    apply Array.ext'
    simp [ByteArray.push]

theorem opConvert_ok (hk : Ok w0 e σ w) {src dst : TypeId} {x : AV} {vx : Value} (h : opConvert P src dst x σ = .ok res) (hx : av e x = some vx) : SemOk P w0 e w res (convert src dst vx) := by
  unfold opConvert at h
  split at h
  · rename_i el s hs hd
    obtain ⟨q, c, hq, hc, hn, rfl⟩ := av_sl hx
    split at h
    · rename_i he hsz
      split at h
      · rename_i cs hl
        split at h
        · rename_i ns hns
          obtain ⟨vs, h1, h2, h3, h4⟩ := hk.load hl hq
          have hb := bytesOf_ok (e := e) hns
          rw [hb] at h1
          have hvs : vs = ns.map fun (n : Nat) => Value.int .u8 (n : Int) := ((List.map_inj_right (fun _ _ h => Option.some.inj h)).1 h1).symm
          refine SemOk.one h _ (lit_av e _) hk ?_
          have hload := run_loadCells_list (P := P) w ⟨q.1, q.2 + s.o, none⟩ vs (fun j v hj => by rw [Addr.add_lit]; exact h3 j v hj)
          rw [h2] at hload
          rw [run_convert_bytes_string w src dst el _ _ _ hs he hd, run_bytesToString w _ s.n c (ns.map fun (n : Nat) => (n : Int)) (by rw [hload, hvs]; simp [Function.comp_def])]
          rw [fold_push]
          simp [strOfBytes]
        · cases h
      · cases h
    · cases h
  · rename_i el s hs hd
    obtain rfl := av_lit hx
    split at h
    · rename_i he
      simp only [Except.ok.injEq] at h; subst h
      have hr := run_bytes_of_string (P := P) w src dst el s hs hd he
      have hge : s.size ≤ grownCap w s.size 0 el := grownCap_ge w s.size 0 el
      have hss : s.data.size = s.size := rfl
      have hsz : (bytesRow s (grownCap w s.size 0 el)).size = grownCap w s.size 0 el := by simp [bytesRow]; omega
      have hw := hk.world (((Only.refl (fun _ => False) w).drew).alloc (.cells (bytesRow s (grownCap w s.size 0 el)) el ((bytesRow s (grownCap w s.size 0 el)).size, (bytesRow s (grownCap w s.size 0 el)).size + 1)))
      have := grownAt_ok hw (el := el) (cells := s.data.toList.map fun b => .inl (.int .u8 (.ofNat b.toNat))) (n := s.size) (N := grownCap w s.size 0 el) (q := (w.heap.size, 0)) (z := true) (u := 0) (.inl hk.only.size) (heap_alloc_new w.drew _) ?_ hge (by dsimp only; omega) ?_ (fun h => by cases h) (.inr (Nat.le_refl _)) ?_ ?_ hk.froz.fresh
      · exact ⟨_, List.mem_singleton_self _, _, _, _, this.1, this.2.2, this.2.1, hr⟩
      · intro j c hc
        rw [List.getElem?_map] at hc
        obtain ⟨b, hb', rfl⟩ := Option.map_eq_some_iff.1 hc
        have hlt := (List.getElem?_eq_some_iff.1 hb').1
        simp at hlt
        refine ⟨.int .u8 (b.toNat : Int), rfl, ?_⟩
        unfold bytesRow
        rw [Nat.zero_add, Array.getElem?_append_left (by simpa using hlt), Array.getElem?_map]
        rw [Array.getElem?_toList] at hb'
        rw [hb']; rfl
      · intro v hv
        simp [bytesRow] at hv
        rcases hv with ⟨b, _, rfl⟩ | ⟨_, rfl⟩ <;> rfl
      · intro b y q' k1 k2
        have := (hk.blk b y q' k1 k2).lt
        dsimp only; omega
      · intro a y q' k1 k2
        have := (hk.arrs.ok a y _ k1 k2).lt
        dsimp only; omega
    · cases h
  · rename_i ds k ki hs hd
    obtain ⟨n, rfl⟩ := av_int hx
    exact openInt_ok hk _ h _ ⟨_, by simp [convert, run_underlying hs, run_underlying hd, Conv.intToInt]; rfl⟩
  · cases h
end
end Reck
