/- A reckoner of calls: what is built in. No condition. -/
import Derived.Test.YthfgkojombhppaaRkOps3
import Derived.Laws.BytesString
import Derived.Laws.AppendOwn
import Derived.Lib.Overlaps
set_option linter.unusedVariables false
set_option linter.unusedSimpArgs false
namespace Reck
open Go Ost

section
variable {P : Program} {w0 w : World} {e : Env} {σ : St} {res : List (AV × St)}

theorem av_int {k : IntKind} {i : Nat} {v : Value} (h : av e (.inl (.inl (.inr (.inr (.inr (.inl (k, i))))))) = some v) : ∃ n, v = .int k n := by
  simp only [av, v1, cv] at h
  split at h
  · rename_i n hn; simp at h; exact ⟨n, h.symm⟩
  · cases h
theorem av_func {f : FuncId} {l : List (Nat × Nat)} {v : Value} (h : av e (.inl (.inl (.inr (.inr (.inr (.inr (.inl (f, l)))))))) = some v) : ∃ vs : List Value, l.map (ptrV e) = vs.map some ∧ v = .func (.func f) #[] vs.toArray := by
  simp only [av, v1, cv] at h
  split at h
  · rename_i vs hvs; simp at h; exact ⟨vs, seqO_some.1 hvs, h.symm⟩
  · cases h

theorem cmpNil_ok (hk : Ok w0 e σ w) {op : BinOp} {b : Bool} (h : cmpNil op b σ = .ok res) (t : TypeId) (x y : Value) (h1 : (binOp .eql t x y).run P w = .ok (.bool b) w) (h2 : (binOp .neq t x y).run P w = .ok (.bool !b) w) : SemOk P w0 e w res (binOp op t x y) := by
  unfold cmpNil at h
  split at h
  · exact SemOk.one h _ (lit_av e _) hk h1
  · exact SemOk.one h _ (lit_av e _) hk h2
  · cases h

theorem eq_nil1 (d : Nat) {t el : TypeId} (hu : P.underlying t = some (.pointer el)) (a : Addr) : (Op.equalIn (d + 1) t (.pointer (some a)) (.pointer none)).run P w = .ok false w := by simp [Op.equalIn, run_underlying hu]
theorem eq_nil2 (d : Nat) {t el : TypeId} (hu : P.underlying t = some (.pointer el)) (a : Addr) : (Op.equalIn (d + 1) t (.pointer none) (.pointer (some a))).run P w = .ok false w := by simp [Op.equalIn, run_underlying hu]
theorem eq_nil3 (d : Nat) {t el : TypeId} (hu : P.underlying t = some (.slice el)) (a : Addr) (n c m k : Nat) : (Op.equalIn (d + 1) t (.slice (some a) n c) (.slice none m k)).run P w = .ok false w := by simp [Op.equalIn, run_underlying hu]
theorem eq_nil4 (d : Nat) {t el : TypeId} (hu : P.underlying t = some (.slice el)) (a : Addr) (n c m k : Nat) : (Op.equalIn (d + 1) t (.slice none m k) (.slice (some a) n c)).run P w = .ok false w := by simp [Op.equalIn, run_underlying hu]
theorem eq_nil5 (d : Nat) {t : TypeId} {p r : Array TypeId} {b : Bool} (hu : P.underlying t = some (.func p r b)) (f : Fn) (x y : Array Value) : (Op.equalIn (d + 1) t (.func f x y) .nilFunc).run P w = .ok false w := by simp [Op.equalIn, run_underlying hu]

theorem opBin_ok (hk : Ok w0 e σ w) {op : BinOp} {t : TypeId} {x y : AV} {vx vy : Value} (h : opBin P op t x y σ = .ok res) (hx : av e x = some vx) (hy : av e y = some vy) (xo yo : Operand) :
    SemOk P w0 e w res (do eqGuard op t xo yo vx vy; binOp op t vx vy) := by
  have key : vx.oneCell' = true → vx ≠ .nilIface → SemOk P w0 e w res (binOp op t vx vy) → SemOk P w0 e w res (do eqGuard op t xo yo vx vy; binOp op t vx vy) := by
    rintro g1 g2 ⟨r, hr, e', v, w', a1, a2, a3, a4⟩
    refine ⟨r, hr, e', v, w', a1, a2, a3, ?_⟩
    rw [Sem.run_bind, run_eqGuard op t xo yo vx vy g1 g2]
    exact a4
  unfold opBin at h
  split at h
  · rename_i k i k' i' hxi hyi
    obtain ⟨n, rfl, hn⟩ := intOf_ok hxi hx
    obtain ⟨m, rfl, hm⟩ := intOf_ok hyi hy
    split at h
    · rename_i hkk
      subst hkk
      exact key rfl (by simp) (opInt_ok hk h hn hm t)
    · cases h
  · have eqd : ∀ (t : TypeId) (x y : Value) (b : Bool), (Op.equal t x y).run P w = .ok b w → (∀ s, x ≠ .string s) → (∀ k n, x ≠ .int k n) → (∀ k n, x ≠ .float k n) → (∀ k n m, x ≠ .complex k n m) → (binOp .eql t x y).run P w = .ok (.bool b) w ∧ (binOp .neq t x y).run P w = .ok (.bool !b) w := by
      intro t x y b hb n1 n2 n3 n4
      cases x <;> first | exact absurd rfl (n1 _) | exact absurd rfl (n2 _ _) | exact absurd rfl (n3 _ _) | exact absurd rfl (n4 _ _ _) | exact ⟨by simp [binOp, hb], by simp [binOp, hb]⟩
    split at h
    · rename_i hu hno
      obtain ⟨q, hq, rfl⟩ := av_ptr hx
      obtain rfl := av_lit hy
      exact key rfl (by simp) (cmpNil_ok hk h t _ _ (eqd t _ _ false (eq_nil1 9999 hu _) (by simp) (by simp) (by simp) (by simp)).1 (eqd t _ _ false (eq_nil1 9999 hu _) (by simp) (by simp) (by simp) (by simp)).2)
    · rename_i hu hno
      obtain ⟨q, hq, rfl⟩ := av_ptr hy
      obtain rfl := av_lit hx
      exact key rfl (by simp) (cmpNil_ok hk h t _ _ (eqd t _ _ false (eq_nil2 9999 hu _) (by simp) (by simp) (by simp) (by simp)).1 (eqd t _ _ false (eq_nil2 9999 hu _) (by simp) (by simp) (by simp) (by simp)).2)
    · rename_i hu hno
      obtain ⟨q, c, hq, hc, hn, rfl⟩ := av_sl hx
      obtain rfl := av_lit hy
      exact key rfl (by simp) (cmpNil_ok hk h t _ _ (eqd t _ _ false (eq_nil3 9999 hu _ _ _ _ _) (by simp) (by simp) (by simp) (by simp)).1 (eqd t _ _ false (eq_nil3 9999 hu _ _ _ _ _) (by simp) (by simp) (by simp) (by simp)).2)
    · rename_i hu hno
      obtain ⟨q, c, hq, hc, hn, rfl⟩ := av_sl hy
      obtain rfl := av_lit hx
      exact key rfl (by simp) (cmpNil_ok hk h t _ _ (eqd t _ _ false (eq_nil4 9999 hu _ _ _ _ _) (by simp) (by simp) (by simp) (by simp)).1 (eqd t _ _ false (eq_nil4 9999 hu _ _ _ _ _) (by simp) (by simp) (by simp) (by simp)).2)
    · rename_i hu hno
      obtain ⟨vs, h1, rfl⟩ := av_func hx
      obtain rfl := av_lit hy
      exact key rfl (by simp) (cmpNil_ok hk h t _ _ (eqd t _ _ false (eq_nil5 9999 hu _ _ _) (by simp) (by simp) (by simp) (by simp)).1 (eqd t _ _ false (eq_nil5 9999 hu _ _ _) (by simp) (by simp) (by simp) (by simp)).2)
    · cases h

theorem bytesOf_ok : ∀ {cs : List Cell} {ns : List Nat}, bytesOf cs = some ns → cs.map (cv e) = (ns.map fun (n : Nat) => Value.int .u8 (n : Int)).map some := by
  intro cs
  induction cs with
  | nil => intro ns h; simp [bytesOf] at h; subst h; rfl
  | cons c cs ih =>
    intro ns h
    unfold bytesOf at h
    split at h
    · rename_i heq; cases heq
    · rename_i n l heq
      simp at heq
      obtain ⟨rfl, rfl⟩ := heq
      split at h
      · rename_i ms hms
        split at h
        · simp at h; subst h
          simp [ih hms, cv]
        · cases h
      · cases h
    · cases h
theorem fold_push : ∀ (ns : List Nat) (A : ByteArray), (ns.map fun (n : Nat) => (n : Int)).foldl (fun r n => r.push (UInt8.ofNat n.toNat)) A = ⟨A.data ++ (ns.map fun (n : Nat) => UInt8.ofNat n).toArray⟩
  | [], A => by simp
  | n :: ns, A => by
    simp only [List.map_cons, List.foldl_cons, fold_push ns]
    congr 1
    apply Array.ext'
    simp [ByteArray.push]

theorem opConvert_ok (hk : Ok w0 e σ w) {src dst : TypeId} {x : AV} {vx : Value} (h : opConvert P src dst x σ = .ok res) (hx : av e x = some vx) : SemOk P w0 e w res (convert src dst vx) := by
  unfold opConvert at h
  split at h
  · rename_i el s hs hd
    obtain ⟨q, c, hq, hc, hn, rfl⟩ := av_sl hx
    split at h
    · rename_i he hsz
      split at h
      · rename_i cs hl
        split at h
        · rename_i ns hns
          obtain ⟨vs, h1, h2, h3, h4⟩ := hk.load hl hq
          have hb := bytesOf_ok (e := e) hns
          rw [hb] at h1
          have hvs : vs = ns.map fun (n : Nat) => Value.int .u8 (n : Int) := ((List.map_inj_right (fun _ _ h => Option.some.inj h)).1 h1).symm
          refine SemOk.one h _ (lit_av e _) hk ?_
          have hload := run_loadCells_list (P := P) w ⟨q.1, q.2 + s.o, none⟩ vs (fun j v hj => by rw [Addr.add_lit]; exact h3 j v hj)
          rw [h2] at hload
          rw [run_convert_bytes_string w src dst el _ _ _ hs he hd, run_bytesToString w _ s.n c (ns.map fun (n : Nat) => (n : Int)) (by rw [hload, hvs]; simp [Function.comp_def])]
          rw [fold_push]
          simp [strOfBytes]
        · cases h
      · cases h
    · cases h
  · split at h <;> cases h
  · rename_i ds k ki hs hd
    obtain ⟨n, rfl⟩ := av_int hx
    exact openInt_ok hk _ h _ ⟨_, by simp [convert, run_underlying hs, run_underlying hd, Conv.intToInt]; rfl⟩
  · cases h
end
end Reck
