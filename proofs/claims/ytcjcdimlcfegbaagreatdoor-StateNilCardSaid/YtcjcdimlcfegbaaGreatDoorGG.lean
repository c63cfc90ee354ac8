/- Parts of a proof, one behind the other: SB8 SB9 SBA SBB SBO SBC. No condition. -/
import Derived.Test.YtcjcdimlcfegbaaGreatDoorGF
import Derived.Test.YtcjcdimlcfegbaaGreatDoorRkZ
import Derived.Deep.Fields
import Derived.Deep.Slices
import Derived.OpenShut
import Derived.Test.YtcjcdimlcfegbaaGreatDoorRkG
section
set_option linter.unusedVariables false
set_option linter.unusedSimpArgs false
set_option maxRecDepth 100000
set_option maxHeartbeats 1000000
namespace Go.Proofs.YtcjcdimlcfegbaaGreatDoor
open Go Reck Ost
def kSel (z : Int) (l : List Cell) : Option (List Value) :=
  match cvals l with
  | some (.int .i64 k :: ws) => if decide (k = z) then some (.int .i64 k :: ws) else none
  | _ => none
theorem kSel_ok {z : Int} {l : List Cell} {ws : List Value} (h : kSel z l = some ws) : cvals l = some ws := by
  unfold kSel at h
  split at h
  · rename_i hc
    split at h
    · rw [hc]; exact h
    · cases h
  · cases h
def noTx : Cell → Bool
  | .inl (.string s) => Nat.beq s.data.size 0
  | _ => false
theorem noTx_eq {c : Cell} (h : noTx c = true) : c = .inl (.string ⟨#[]⟩) := by
  unfold noTx at h
  split at h
  · rename_i s
    obtain ⟨d⟩ := s
    have : d = #[] := Array.eq_empty_of_size_eq_zero (by simpa using h)
    rw [this]
  · cases h
def pApU : Pat := fun args σ => match args, σ with
  | [.inl (.inl (.inr (.inl (0, 0)))), .inl (.inr l)], ⟨[some ⟨93, [ep, tx, .inr (.inl (1, 0)), .inr (.inl (2, 0)), .inr (.inl (3, 0)), .inr (.inl (4, 0))], none, 6, false⟩, some ⟨131, [a1, a2, a3], none, 3, false⟩, some ⟨133, [b1, b2, b3], none, 3, false⟩, some ⟨136, [d1, d2, d3], none, 3, false⟩, some ⟨139, [.inl (.slice none 0 0), .inl (.slice none 0 0), h3], none, 3, false⟩], [], 0, [some ⟨0, .o (.glob 0 vs), [], 0, true⟩, some ⟨9, .o (.rows k1 L), [], c, false⟩, some ⟨95, .o (.rows k2 M), [], d, false⟩, some ⟨9, .o (.rows k3 []), [], 0, false⟩, some ⟨42, .o (.rows k4 []), [], 0, false⟩, some ⟨9, .o (.rows k5 L2), [], c2, false⟩], 0⟩ => match kSel 3 l, noTx tx, cIntK .u32 ep, cRsl a1, cRsl a2, cInt a3, cRsl b1, cRsl b2, cInt b3, cRsl d1, opnX d2, cInt d3, cInt h3, sameK k1 [.s], sameK k2 wuvK, sameK k3 [.s], sameK k4 whvK, sameK k5 [.s] with
    | some ws, true, some ep, some ⟨1, 1, 0, n, c0⟩, some ⟨2, 2, 0, n0, d0⟩, some m1, some ⟨3, 1, 0, 0, 0⟩, some ⟨4, 1, 0, 0, 0⟩, some m2, some ⟨5, 1, 0, n2, e2⟩, some v, some m3, some m4, true, true, true, true, true => some fun K => (ws = exV 3 0 ⟨#[97, 110, 110]⟩ ∧ vs = U.resWords ∧ n0 = n ∧ c0 = c ∧ d0 = d ∧ e2 = c2 ∧ m1 = 16 ∧ m2 = 16 ∧ m3 = 64 ∧ m4 = 1024) ∧ (ep = 0 ∧ n = 0 ∧ c = 0 ∧ d = 0 ∧ L = [] ∧ M = [] ∧ n2 = 0 ∧ c2 = 0 ∧ L2 = [] ∧ v = .slice none 0 0) ∧ ∀ (L : Rws) (n c : Nat) (M : Rws) (d : Nat) (P : WUP), n = U.wulen P → U.wuPut [] ann28 ⟨0, 0⟩ P → U.wushI n c L d M P → K (xi .i64 0) (sU n c L d M)
    | _, _, _, _, _, _, _, _, _, _, _, _, _, _, _, _, _, _ => none
  | _, _ => none
theorem pApU_ok : PatOk 14 pApU := by
  intro tm σ C h K hK w0 e w hk xs hvs
  unfold pApU at h
  split at h
  · split at h
    · rename_i g0 gt g1 g2 g3 g4 g5 g6 g7 g8 g9 g10 g11 g12 g13 g14 g15 g16
      simp only [Option.some.injEq] at h; subst h
      obtain ⟨⟨hx, rfl, rfl, rfl, rfl, rfl, rfl, rfl, rfl, rfl⟩, hK⟩ := hK
      subst hx
      obtain ⟨y0, y1, rfl, q0, q1⟩ := twos hvs
      rw [noTx_eq gt, cIntK_eq g1, cRsl_eq g2, cRsl_eq g3, cInt_eq g4, cRsl_eq g5, cRsl_eq g6, cInt_eq g7, cRsl_eq g8, opnX_eq g9, cInt_eq g10, cInt_eq g11, sameK_eq g12, sameK_eq g13, sameK_eq g14, sameK_eq g15, sameK_eq g16] at hk
      have hu := av_cvals (kSel_ok g0) q1
      obtain ⟨⟨rfl, rfl, rfl, rfl, rfl, rfl, rfl, rfl, rfl, rfl⟩, hK⟩ := hK
      exact knownD noOv names (opMZ_ok (opMV_ok wuovK)) (conOk_ofR tSA_ok) (apU_run K hK) w0 e w hk _ (map2 q0 (by rw [hu]; exact ex_av 3 0 ⟨#[97, 110, 110]⟩))
    · cases h
  · cases h
def pApE : Pat := fun args σ => match args, σ with
  | [.inl (.inl (.inr (.inl (0, 0)))), .inl (.inr l)], ⟨[some ⟨93, [ep, tx, .inr (.inl (1, 0)), .inr (.inl (2, 0)), .inr (.inl (3, 0)), .inr (.inl (4, 0))], none, 6, false⟩, some ⟨131, [a1, a2, a3], none, 3, false⟩, some ⟨133, [b1, b2, b3], none, 3, false⟩, some ⟨136, [d1, d2, d3], none, 3, false⟩, some ⟨139, [.inl (.slice none 0 0), .inl (.slice none 0 0), h3], none, 3, false⟩], [], 0, [some ⟨0, .o (.glob 0 vs), [], 0, true⟩, some ⟨9, .o (.rows k1 L), [], c, false⟩, some ⟨95, .o (.rows k2 M), [], d, false⟩, some ⟨9, .o (.rows k3 []), [], 0, false⟩, some ⟨42, .o (.rows k4 []), [], 0, false⟩, some ⟨9, .o (.rows k5 L2), [], c2, false⟩], 0⟩ => match kSel 1 l, noTx tx, cIntK .u32 ep, cRsl a1, cRsl a2, cInt a3, cRsl b1, cRsl b2, cInt b3, cRsl d1, opnX d2, cInt d3, cInt h3, sameK k1 [.s], sameK k2 wuvK, sameK k3 [.s], sameK k4 whvK, sameK k5 [.s] with
    | some ws, true, some ep, some ⟨1, 1, 0, n, c0⟩, some ⟨2, 2, 0, n0, d0⟩, some m1, some ⟨3, 1, 0, 0, 0⟩, some ⟨4, 1, 0, 0, 0⟩, some m2, some ⟨5, 1, 0, n2, e2⟩, some v, some m3, some m4, true, true, true, true, true => some fun K => (ws = exV 1 3 ⟨#[]⟩ ∧ vs = U.resWords ∧ n0 = n ∧ c0 = c ∧ d0 = d ∧ e2 = c2 ∧ m1 = 16 ∧ m2 = 16 ∧ m3 = 64 ∧ m4 = 1024) ∧ (ep = 0 ∧ n2 = 0 ∧ c2 = 0 ∧ L2 = [] ∧ v = .slice none 0 0) ∧ K (xi .i64 0) (sE n c L d M)
    | _, _, _, _, _, _, _, _, _, _, _, _, _, _, _, _, _, _ => none
  | _, _ => none
theorem pApE_ok : PatOk 14 pApE := by
  intro tm σ C h K hK w0 e w hk xs hvs
  unfold pApE at h
  split at h
  · split at h
    · rename_i g0 gt g1 g2 g3 g4 g5 g6 g7 g8 g9 g10 g11 g12 g13 g14 g15 g16
      simp only [Option.some.injEq] at h; subst h
      obtain ⟨⟨hx, rfl, rfl, rfl, rfl, rfl, rfl, rfl, rfl, rfl⟩, hK⟩ := hK
      subst hx
      obtain ⟨y0, y1, rfl, q0, q1⟩ := twos hvs
      rw [noTx_eq gt, cIntK_eq g1, cRsl_eq g2, cRsl_eq g3, cInt_eq g4, cRsl_eq g5, cRsl_eq g6, cInt_eq g7, cRsl_eq g8, opnX_eq g9, cInt_eq g10, cInt_eq g11, sameK_eq g12, sameK_eq g13, sameK_eq g14, sameK_eq g15, sameK_eq g16] at hk
      have hu := av_cvals (kSel_ok g0) q1
      obtain ⟨⟨rfl, rfl, rfl, rfl, rfl⟩, hK⟩ := hK
      exact knownD noOv names (opMZ_ok (opMV_ok wuovK)) (conOk_ofR tSA_ok) (apE_run K _ _ _ _ _ hK) w0 e w hk _ (map2 q0 (by rw [hu]; exact ex_av 1 3 ⟨#[]⟩))
    · cases h
  · cases h
def pApR : Pat := fun args σ => match args, σ with
  | [.inl (.inl (.inr (.inl (0, 0)))), .inl (.inr l)], ⟨[some ⟨93, [ep, tx, .inr (.inl (1, 0)), .inr (.inl (2, 0)), .inr (.inl (3, 0)), .inr (.inl (4, 0))], none, 6, false⟩, some ⟨131, [a1, a2, a3], none, 3, false⟩, some ⟨133, [b1, b2, b3], none, 3, false⟩, some ⟨136, [d1, d2, d3], none, 3, false⟩, some ⟨139, [.inl (.slice none 0 0), .inl (.slice none 0 0), h3], none, 3, false⟩], [], 0, [some ⟨0, .o (.glob 0 vs), [], 0, true⟩, some ⟨9, .o (.rows k1 L), [], c, false⟩, some ⟨95, .o (.rows k2 M), [], d, false⟩, some ⟨9, .o (.rows k3 []), [], 0, false⟩, some ⟨42, .o (.rows k4 []), [], 0, false⟩, some ⟨9, .o (.rows k5 L2), [], c2, false⟩], 0⟩ => match kSel 5 l, noTx tx, cIntK .u32 ep, cRsl a1, cRsl a2, cInt a3, cRsl b1, cRsl b2, cInt b3, cRsl d1, opnX d2, cInt d3, cInt h3, sameK k1 [.s], sameK k2 wuvK, sameK k3 [.s], sameK k4 whvK, sameK k5 [.s] with
    | some ws, true, some ep, some ⟨1, 1, 0, n, c0⟩, some ⟨2, 2, 0, n0, d0⟩, some m1, some ⟨3, 1, 0, 0, 0⟩, some ⟨4, 1, 0, 0, 0⟩, some m2, some ⟨5, 1, 0, n2, e2⟩, some v, some m3, some m4, true, true, true, true, true => some fun K => (ws = exV 5 0 ⟨#[97, 110, 110]⟩ ∧ vs = U.resWords ∧ n0 = n ∧ c0 = c ∧ d0 = d ∧ e2 = c2 ∧ m1 = 16 ∧ m2 = 16 ∧ m3 = 64 ∧ m4 = 1024) ∧ (ep = 3 ∧ n2 = 0 ∧ c2 = 0 ∧ L2 = [] ∧ v = .slice none 0 0) ∧ ∃ P, (U.wushI n c L d M P ∧ n ≤ 100000 ∧ U.wuHasK P ann28) ∧ ∀ (L' : Rws) (n' : Nat) (M' : Rws) (P' : WUP) (L2 : Rws) (n2 c2 : Nat) (v : Value) (P2 : WUP), n' = U.wulen P' → U.wuRm P ann28 P' → U.wushI n' c L' d M' P' →
      n2 = U.wulen P2 → U.wuPut [] ann28 ⟨0, 0⟩ P2 → U.rzI n2 c2 L2 v P2 → K (xi .i64 0) (sR n' c L' d M' 0 [] [] n2 c2 L2 v)
    | _, _, _, _, _, _, _, _, _, _, _, _, _, _, _, _, _, _ => none
  | _, _ => none
theorem pApR_ok : PatOk 14 pApR := by
  intro tm σ C h K hK w0 e w hk xs hvs
  unfold pApR at h
  split at h
  · split at h
    · rename_i g0 gt g1 g2 g3 g4 g5 g6 g7 g8 g9 g10 g11 g12 g13 g14 g15 g16
      simp only [Option.some.injEq] at h; subst h
      obtain ⟨⟨hx, rfl, rfl, rfl, rfl, rfl, rfl, rfl, rfl, rfl⟩, hK⟩ := hK
      subst hx
      obtain ⟨y0, y1, rfl, q0, q1⟩ := twos hvs
      rw [noTx_eq gt, cIntK_eq g1, cRsl_eq g2, cRsl_eq g3, cInt_eq g4, cRsl_eq g5, cRsl_eq g6, cInt_eq g7, cRsl_eq g8, opnX_eq g9, cInt_eq g10, cInt_eq g11, sameK_eq g12, sameK_eq g13, sameK_eq g14, sameK_eq g15, sameK_eq g16] at hk
      have hu := av_cvals (kSel_ok g0) q1
      obtain ⟨⟨rfl, rfl, rfl, rfl, rfl⟩, P, ⟨hu1, hu2, hu3⟩, hK⟩ := hK
      exact knownD noOv names (opMZ_ok (opMV_ok wuovK)) (conOk_ofR tSA_ok) (apR_run K _ _ _ _ _ P hu1 hu2 hu3 hK) w0 e w hk _ (map2 q0 (by rw [hu]; exact ex_av 5 0 ⟨#[97, 110, 110]⟩))
    · cases h
  · cases h
def pRecs28 : Pat := fun args σ => match args, σ with
  | [.inl (.inl (.inr (.inl (0, 0)))), x], ⟨[some ⟨93, [ep, tx, .inr (.inl (1, 0)), .inr (.inl (2, 0)), .inr (.inl (3, 0)), .inr (.inl (4, 0))], none, 6, false⟩, some ⟨131, [a1, a2, a3], none, 3, false⟩, some ⟨133, [b1, b2, b3], none, 3, false⟩, some ⟨136, [d1, d2, d3], none, 3, false⟩, some ⟨139, [.inl (.slice none 0 0), .inl (.slice none 0 0), h3], none, 3, false⟩], [], 0, [some ⟨0, .o (.glob 0 vs), [], 0, true⟩, some ⟨9, .o (.rows k1 L), [], c, false⟩, some ⟨95, .o (.rows k2 M), [], d, false⟩, some ⟨9, .o (.rows k3 []), [], 0, false⟩, some ⟨42, .o (.rows k4 []), [], 0, false⟩, some ⟨9, .o (.rows k5 L2), [], c2, false⟩], 0⟩ => match aInt x, noTx tx, cIntK .u32 ep, cRsl a1, cRsl a2, cInt a3, cRsl b1, cRsl b2, cInt b3, cRsl d1, opnX d2, cInt d3, cInt h3, sameK k1 [.s], sameK k2 wuvK, sameK k3 [.s], sameK k4 whvK, sameK k5 [.s] with
    | some now, true, some ep, some ⟨1, 1, 0, n, c0⟩, some ⟨2, 2, 0, n0, d0⟩, some m1, some ⟨3, 1, 0, 0, 0⟩, some ⟨4, 1, 0, 0, 0⟩, some m2, some ⟨5, 1, 0, n2, e2⟩, some v, some m3, some m4, true, true, true, true, true => some fun K => (ep = 3 ∧ vs = U.resWords ∧ n0 = n ∧ c0 = c ∧ d0 = d ∧ e2 = c2 ∧ m1 = 16 ∧ m2 = 16 ∧ m3 = 64 ∧ m4 = 1024) ∧ (U.wushI n c L d M [] ∧ ∃ P2 : WUP, U.rzI n2 c2 L2 v P2 ∧ U.wulen P2 = 1) ∧
      ∀ (R : Rws) (m cc : Nat), m = 3 → m ≤ cc → R.length = cc → U.fi R 0 0 = 1 → U.fi R 2 0 = 5 → K (cell (rslC ⟨6, 29, 0, m, cc⟩)) ⟨(sS 3 n c L d M n2 c2 L2 v).heap, [], 0, (sS 3 n c L d M n2 c2 L2 v).arrs ++ [some ⟨52, .o (.rows recKs R), [], cc, false⟩], 0⟩
    | _, _, _, _, _, _, _, _, _, _, _, _, _, _, _, _, _, _ => none
  | _, _ => none
theorem pRecs28_ok : PatOk 11 pRecs28 := by
  intro tm σ C h K hK w0 e w hk xs hvs
  unfold pRecs28 at h
  split at h
  · split at h
    · rename_i g0 gt g1 g2 g3 g4 g5 g6 g7 g8 g9 g10 g11 g12 g13 g14 g15 g16
      simp only [Option.some.injEq] at h; subst h
      obtain ⟨⟨rfl, rfl, rfl, rfl, rfl, rfl, rfl, rfl, rfl, rfl⟩, ⟨hu1, P2, hz, hP⟩, hK⟩ := hK
      obtain ⟨y0, y1, rfl, q0, q1⟩ := twos hvs
      rw [noTx_eq gt, cIntK_eq g1, cRsl_eq g2, cRsl_eq g3, cInt_eq g4, cRsl_eq g5, cRsl_eq g6, cInt_eq g7, cRsl_eq g8, opnX_eq g9, cInt_eq g10, cInt_eq g11, sameK_eq g12, sameK_eq g13, sameK_eq g14, sameK_eq g15, sameK_eq g16] at hk
      exact knownD noOv names (opMZ_ok (opMV_ok wuovK)) (conOk_ofR tSA_ok) (recs_run K _ _ _ _ _ _ _ _ _ _ P2 hu1 hz hP hK) w0 e w hk _ (map2 q0 (as_aInt g0 q1))
    · cases h
  · cases h
def tSD : Tbl := tblOr (tblIf 14 pApU) (tblOr (tblIf 14 pApE) (tblOr (tblIf 14 pApR) (tblOr (tblIf 11 pRecs28) tSA)))
theorem tSD_ok : TblOk Tryz.prog tSD := tblOr_ok (tblIf_ok pApU_ok) (tblOr_ok (tblIf_ok pApE_ok) (tblOr_ok (tblIf_ok pApR_ok) (tblOr_ok (tblIf_ok pRecs28_ok) tSA_ok)))
end Go.Proofs.YtcjcdimlcfegbaaGreatDoor
end

section
namespace Go.Proofs.YtcjcdimlcfegbaaGreatDoor
open Go Reck Ost
set_option linter.unusedVariables false
set_option maxRecDepth 100000
--PLAIN
theorem awake28_vc (K : AV → St → Prop) : (runZ inv0 tSD 9 [] ⟨[], [], 0, [U.resA], 0⟩ K) = (([Value.int IntKind.i64 (3 : Int), Value.int IntKind.i64 (0 : Int), Value.int IntKind.u32 (0 : Int), Value.int IntKind.u32 (0 : Int), Value.int IntKind.i64 (0 : Int), Value.int IntKind.i64 (0 : Int), Value.string { data := { toList := [97, 110, 110] } }, Value.string { data := { toList := [] } }, Value.int IntKind.u64 (0 : Int), Value.int IntKind.u64 (0 : Int), Value.int IntKind.u64 (0 : Int), Value.int IntKind.u32 (0 : Int), Value.int IntKind.i64 (0 : Int), Value.int IntKind.i64 (0 : Int), Value.int IntKind.i64 (0 : Int), Value.int IntKind.i64 (0 : Int), Value.int IntKind.i64 (0 : Int), Value.string { data := { toList := [] } }, Value.string { data := { toList := [] } }, Value.string { data := { toList := [] } }, Value.string { data := { toList := [] } }, Value.int IntKind.u64 (0 : Int), Value.int IntKind.u64 (0 : Int), Value.int IntKind.u32 (0 : Int), Value.int IntKind.u32 (0 : Int), Value.int IntKind.i64 (0 : Int), Value.int IntKind.i64 (0 : Int), Value.int IntKind.i64 (0 : Int), Value.slice none (0 : Nat) (0 : Nat)] = [Value.int IntKind.i64 (3 : Int), Value.int IntKind.i64 (0 : Int), Value.int IntKind.u32 (0 : Int), Value.int IntKind.u32 (0 : Int), Value.int IntKind.i64 (0 : Int), Value.int IntKind.i64 (0 : Int), Value.string { data := { toList := [97, 110, 110] } }, Value.string { data := { toList := [] } }, Value.int IntKind.u64 (0 : Int), Value.int IntKind.u64 (0 : Int), Value.int IntKind.u64 (0 : Int), Value.int IntKind.u32 (0 : Int), Value.int IntKind.i64 (0 : Int), Value.int IntKind.i64 (0 : Int), Value.int IntKind.i64 (0 : Int), Value.int IntKind.i64 (0 : Int), Value.int IntKind.i64 (0 : Int), Value.string { data := { toList := [] } }, Value.string { data := { toList := [] } }, Value.string { data := { toList := [] } }, Value.string { data := { toList := [] } }, Value.int IntKind.u64 (0 : Int), Value.int IntKind.u64 (0 : Int), Value.int IntKind.u32 (0 : Int), Value.int IntKind.u32 (0 : Int), Value.int IntKind.i64 (0 : Int), Value.int IntKind.i64 (0 : Int), Value.int IntKind.i64 (0 : Int), Value.slice none (0 : Nat) (0 : Nat)] ∧ U.resWords = U.resWords ∧ (0 : Nat) = (0 : Nat) ∧ (0 : Nat) = (0 : Nat) ∧ (0 : Nat) = (0 : Nat) ∧ (0 : Nat) = (0 : Nat) ∧ (16 : Int) = (16 : Int) ∧ (16 : Int) = (16 : Int) ∧ (64 : Int) = (64 : Int) ∧ (1024 : Int) = (1024 : Int)) ∧ ((0 : Int) = (0 : Int) ∧ (0 : Nat) = (0 : Nat) ∧ (0 : Nat) = (0 : Nat) ∧ (0 : Nat) = (0 : Nat) ∧ U.nilL = U.nilL ∧ U.nilL = U.nilL ∧ (0 : Nat) = (0 : Nat) ∧ (0 : Nat) = (0 : Nat) ∧ U.nilL = U.nilL ∧ Value.slice none (0 : Nat) (0 : Nat) = Value.slice none (0 : Nat) (0 : Nat)) ∧ ∀ (L0 : Rws) (n1 c2 : Nat) (M3 : Rws) (d4 : Nat) (P5 : WUP), n1 = U.wulen P5 → U.wuPut [] [(97 : Int), (110 : Int), (110 : Int)] { v0 := (0 : Int), v1 := (0 : Int) } P5 → U.wushI n1 c2 L0 d4 M3 P5 → ([Value.int IntKind.i64 (1 : Int), Value.int IntKind.i64 (0 : Int), Value.int IntKind.u32 (3 : Int), Value.int IntKind.u32 (0 : Int), Value.int IntKind.i64 (0 : Int), Value.int IntKind.i64 (0 : Int), Value.string { data := { toList := [] } }, Value.string { data := { toList := [] } }, Value.int IntKind.u64 (0 : Int), Value.int IntKind.u64 (0 : Int), Value.int IntKind.u64 (0 : Int), Value.int IntKind.u32 (0 : Int), Value.int IntKind.i64 (0 : Int), Value.int IntKind.i64 (0 : Int), Value.int IntKind.i64 (0 : Int), Value.int IntKind.i64 (0 : Int), Value.int IntKind.i64 (0 : Int), Value.string { data := { toList := [] } }, Value.string { data := { toList := [] } }, Value.string { data := { toList := [] } }, Value.string { data := { toList := [] } }, Value.int IntKind.u64 (0 : Int), Value.int IntKind.u64 (0 : Int), Value.int IntKind.u32 (0 : Int), Value.int IntKind.u32 (0 : Int), Value.int IntKind.i64 (0 : Int), Value.int IntKind.i64 (0 : Int), Value.int IntKind.i64 (0 : Int), Value.slice none (0 : Nat) (0 : Nat)] = [Value.int IntKind.i64 (1 : Int), Value.int IntKind.i64 (0 : Int), Value.int IntKind.u32 (3 : Int), Value.int IntKind.u32 (0 : Int), Value.int IntKind.i64 (0 : Int), Value.int IntKind.i64 (0 : Int), Value.string { data := { toList := [] } }, Value.string { data := { toList := [] } }, Value.int IntKind.u64 (0 : Int), Value.int IntKind.u64 (0 : Int), Value.int IntKind.u64 (0 : Int), Value.int IntKind.u32 (0 : Int), Value.int IntKind.i64 (0 : Int), Value.int IntKind.i64 (0 : Int), Value.int IntKind.i64 (0 : Int), Value.int IntKind.i64 (0 : Int), Value.int IntKind.i64 (0 : Int), Value.string { data := { toList := [] } }, Value.string { data := { toList := [] } }, Value.string { data := { toList := [] } }, Value.string { data := { toList := [] } }, Value.int IntKind.u64 (0 : Int), Value.int IntKind.u64 (0 : Int), Value.int IntKind.u32 (0 : Int), Value.int IntKind.u32 (0 : Int), Value.int IntKind.i64 (0 : Int), Value.int IntKind.i64 (0 : Int), Value.int IntKind.i64 (0 : Int), Value.slice none (0 : Nat) (0 : Nat)] ∧ U.resWords = U.resWords ∧ n1 = n1 ∧ c2 = c2 ∧ d4 = d4 ∧ (0 : Nat) = (0 : Nat) ∧ (16 : Int) = (16 : Int) ∧ (16 : Int) = (16 : Int) ∧ (64 : Int) = (64 : Int) ∧ (1024 : Int) = (1024 : Int)) ∧ ((0 : Int) = (0 : Int) ∧ (0 : Nat) = (0 : Nat) ∧ (0 : Nat) = (0 : Nat) ∧ U.nilL = U.nilL ∧ Value.slice none (0 : Nat) (0 : Nat) = Value.slice none (0 : Nat) (0 : Nat)) ∧ ([Value.int IntKind.i64 (5 : Int), Value.int IntKind.i64 (0 : Int), Value.int IntKind.u32 (0 : Int), Value.int IntKind.u32 (0 : Int), Value.int IntKind.i64 (0 : Int), Value.int IntKind.i64 (0 : Int), Value.string { data := { toList := [97, 110, 110] } }, Value.string { data := { toList := [] } }, Value.int IntKind.u64 (0 : Int), Value.int IntKind.u64 (0 : Int), Value.int IntKind.u64 (0 : Int), Value.int IntKind.u32 (0 : Int), Value.int IntKind.i64 (0 : Int), Value.int IntKind.i64 (0 : Int), Value.int IntKind.i64 (0 : Int), Value.int IntKind.i64 (0 : Int), Value.int IntKind.i64 (0 : Int), Value.string { data := { toList := [] } }, Value.string { data := { toList := [] } }, Value.string { data := { toList := [] } }, Value.string { data := { toList := [] } }, Value.int IntKind.u64 (0 : Int), Value.int IntKind.u64 (0 : Int), Value.int IntKind.u32 (0 : Int), Value.int IntKind.u32 (0 : Int), Value.int IntKind.i64 (0 : Int), Value.int IntKind.i64 (0 : Int), Value.int IntKind.i64 (0 : Int), Value.slice none (0 : Nat) (0 : Nat)] = [Value.int IntKind.i64 (5 : Int), Value.int IntKind.i64 (0 : Int), Value.int IntKind.u32 (0 : Int), Value.int IntKind.u32 (0 : Int), Value.int IntKind.i64 (0 : Int), Value.int IntKind.i64 (0 : Int), Value.string { data := { toList := [97, 110, 110] } }, Value.string { data := { toList := [] } }, Value.int IntKind.u64 (0 : Int), Value.int IntKind.u64 (0 : Int), Value.int IntKind.u64 (0 : Int), Value.int IntKind.u32 (0 : Int), Value.int IntKind.i64 (0 : Int), Value.int IntKind.i64 (0 : Int), Value.int IntKind.i64 (0 : Int), Value.int IntKind.i64 (0 : Int), Value.int IntKind.i64 (0 : Int), Value.string { data := { toList := [] } }, Value.string { data := { toList := [] } }, Value.string { data := { toList := [] } }, Value.string { data := { toList := [] } }, Value.int IntKind.u64 (0 : Int), Value.int IntKind.u64 (0 : Int), Value.int IntKind.u32 (0 : Int), Value.int IntKind.u32 (0 : Int), Value.int IntKind.i64 (0 : Int), Value.int IntKind.i64 (0 : Int), Value.int IntKind.i64 (0 : Int), Value.slice none (0 : Nat) (0 : Nat)] ∧ U.resWords = U.resWords ∧ n1 = n1 ∧ c2 = c2 ∧ d4 = d4 ∧ (0 : Nat) = (0 : Nat) ∧ (16 : Int) = (16 : Int) ∧ (16 : Int) = (16 : Int) ∧ (64 : Int) = (64 : Int) ∧ (1024 : Int) = (1024 : Int)) ∧ ((3 : Int) = (3 : Int) ∧ (0 : Nat) = (0 : Nat) ∧ (0 : Nat) = (0 : Nat) ∧ U.nilL = U.nilL ∧ Value.slice none (0 : Nat) (0 : Nat) = Value.slice none (0 : Nat) (0 : Nat)) ∧ ∃ (y6 : WUP), (U.wushI n1 c2 L0 d4 M3 y6 ∧ n1 ≤ (100000 : Nat) ∧ U.wuHasK y6 [(97 : Int), (110 : Int), (110 : Int)]) ∧ ∀ (L'7 : Rws) (n'8 : Nat) (M'9 : Rws) (P'10 : WUP) (L211 : Rws) (n212 c213 : Nat) (v14 : Value) (P215 : WUP), n'8 = U.wulen P'10 → U.wuRm y6 [(97 : Int), (110 : Int), (110 : Int)] P'10 → U.wushI n'8 c2 L'7 d4 M'9 P'10 → n212 = U.wulen P215 → U.wuPut [] [(97 : Int), (110 : Int), (110 : Int)] { v0 := (0 : Int), v1 := (0 : Int) } P215 → U.rzI n212 c213 L211 v14 P215 → ((3 : Int) = (3 : Int) ∧ U.resWords = U.resWords ∧ n'8 = n'8 ∧ c2 = c2 ∧ d4 = d4 ∧ c213 = c213 ∧ (16 : Int) = (16 : Int) ∧ (16 : Int) = (16 : Int) ∧ (64 : Int) = (64 : Int) ∧ (1024 : Int) = (1024 : Int)) ∧ (U.wushI n'8 c2 L'7 d4 M'9 [] ∧ ∃ (y16 : WUP), U.rzI n212 c213 L211 v14 y16 ∧ U.wulen y16 = (1 : Nat)) ∧ ∀ (R17 : Rws) (m18 cc19 : Nat), m18 = (3 : Nat) → m18 ≤ cc19 → List.length R17 = cc19 → U.fi R17 (0 : Nat) (0 : Nat) = (1 : Int) → U.fi R17 (2 : Nat) (0 : Nat) = (5 : Int) → ((0 : Int) = (0 : Int) → ((0 : Int) = (0 : Int) → ((0 : Int) = (0 : Int) → ∃ (y20 : WUP), ((c2 = c2 ∧ d4 = d4 ∧ n'8 = n'8) ∧ U.wushI n'8 c2 L'7 d4 M'9 y20) ∧ ∀ (L'21 : Rws) (n'22 c'23 : Nat), n'22 = n'8 → n'22 ≤ c'23 → L'21 = U.wuks y20 → ∀ (z24 : Int), z24 = (↑n'22 : Int) → (z24 = (0 : Int) → ∃ (y25 : WUP), (c213 = c213 ∧ U.rzI n212 c213 L211 v14 y25) ∧ ∀ (L'26 : Rws) (n'27 c'28 : Nat), n'27 = n212 → n'27 ≤ c'28 → L'26 = U.wuks y25 → ∀ (z29 : Int), z29 = (↑n'27 : Int) → (z29 = (1 : Int) → ∀ (z30 : Int), z30 = (↑m18 : Int) → (z30 = (3 : Int) → ((0 : Int) ≤ (0 : Int) ∧ (0 : Int) < (↑m18 : Int)) ∧ ∀ (j31 : Nat), (↑j31 : Int) = (↑((0 : Nat)) : Int) + (0 : Int) → j31 < List.length R17 ∧ ∀ (z32 : Int), z32 = U.fi R17 j31 ((0 : Nat) + (0 : Nat)) → (z32 = (1 : Int) → ((0 : Int) ≤ (2 : Int) ∧ (2 : Int) < (↑m18 : Int)) ∧ ∀ (j33 : Nat), (↑j33 : Int) = (↑((0 : Nat)) : Int) + (2 : Int) → j33 < List.length R17 ∧ ∀ (z34 : Int), z34 = U.fi R17 j33 ((0 : Nat) + (0 : Nat)) → (z34 = (5 : Int) → K (Sum.inl (Sum.inl (Sum.inl (Value.bool true)))) { heap := [], ints := [], opqs := (0 : Nat), arrs := [some { elem := (0 : Nat), k := AK.o (Obj.glob (0 : Nat) U.resWords), l := [], cap := (0 : Nat), ro := true }], junks := (0 : Nat) }) ∧ (¬z34 = (5 : Int) → K (Sum.inl (Sum.inl (Sum.inl (Value.bool false)))) { heap := [], ints := [], opqs := (0 : Nat), arrs := [some { elem := (0 : Nat), k := AK.o (Obj.glob (0 : Nat) U.resWords), l := [], cap := (0 : Nat), ro := true }], junks := (0 : Nat) })) ∧ (¬z32 = (1 : Int) → K (Sum.inl (Sum.inl (Sum.inl (Value.bool false)))) { heap := [], ints := [], opqs := (0 : Nat), arrs := [some { elem := (0 : Nat), k := AK.o (Obj.glob (0 : Nat) U.resWords), l := [], cap := (0 : Nat), ro := true }], junks := (0 : Nat) })) ∧ (¬z30 = (3 : Int) → K (Sum.inl (Sum.inl (Sum.inl (Value.bool false)))) { heap := [], ints := [], opqs := (0 : Nat), arrs := [some { elem := (0 : Nat), k := AK.o (Obj.glob (0 : Nat) U.resWords), l := [], cap := (0 : Nat), ro := true }], junks := (0 : Nat) })) ∧ (¬z29 = (1 : Int) → K (Sum.inl (Sum.inl (Sum.inl (Value.bool false)))) { heap := [], ints := [], opqs := (0 : Nat), arrs := [some { elem := (0 : Nat), k := AK.o (Obj.glob (0 : Nat) U.resWords), l := [], cap := (0 : Nat), ro := true }], junks := (0 : Nat) })) ∧ (¬z24 = (0 : Int) → K (Sum.inl (Sum.inl (Sum.inl (Value.bool false)))) { heap := [], ints := [], opqs := (0 : Nat), arrs := [some { elem := (0 : Nat), k := AK.o (Obj.glob (0 : Nat) U.resWords), l := [], cap := (0 : Nat), ro := true }], junks := (0 : Nat) })) ∧ (¬(0 : Int) = (0 : Int) → K (Sum.inl (Sum.inl (Sum.inl (Value.bool false)))) { heap := [], ints := [], opqs := (0 : Nat), arrs := [some { elem := (0 : Nat), k := AK.o (Obj.glob (0 : Nat) U.resWords), l := [], cap := (0 : Nat), ro := true }], junks := (0 : Nat) })) ∧ (¬(0 : Int) = (0 : Int) → K (Sum.inl (Sum.inl (Sum.inl (Value.bool false)))) { heap := [], ints := [], opqs := (0 : Nat), arrs := [some { elem := (0 : Nat), k := AK.o (Obj.glob (0 : Nat) U.resWords), l := [], cap := (0 : Nat), ro := true }], junks := (0 : Nat) })) ∧ (¬(0 : Int) = (0 : Int) → K (Sum.inl (Sum.inl (Sum.inl (Value.bool false)))) { heap := [], ints := [], opqs := (0 : Nat), arrs := [some { elem := (0 : Nat), k := AK.o (Obj.glob (0 : Nat) U.resWords), l := [], cap := (0 : Nat), ro := true }], junks := (0 : Nat) })) := by kernel_rfl
end Go.Proofs.YtcjcdimlcfegbaaGreatDoor
end

section
set_option linter.unusedVariables false
set_option linter.unusedSimpArgs false
set_option maxRecDepth 100000
set_option maxHeartbeats 1000000
namespace Go.Proofs.YtcjcdimlcfegbaaGreatDoor
open Go Reck Ost
theorem put1_has {P : WUP} (h : U.wuPut [] ann28 ⟨0, 0⟩ P) : U.wuHasK P ann28 := ⟨_, (h.mem _ _).2 (.inl ⟨rfl, rfl⟩)⟩
theorem put1_len {P : WUP} (h : U.wuPut [] ann28 ⟨0, 0⟩ P) : U.wulen P = 1 := h.non (fun hh => wuhas_nil hh)
theorem rm1_nil {P P' : WUP} (h : U.wuPut [] ann28 ⟨0, 0⟩ P) (h2 : U.wuRm P ann28 P') : P' = [] := by
  cases P' with
  | nil => rfl
  | cons x l =>
    obtain ⟨a, b⟩ := x
    have h3 := (h2.mem a b).1 (by simp)
    rcases (h.mem a b).1 h3.1 with ⟨h4, _⟩ | ⟨h4, _⟩
    · exact absurd h4 h3.2
    · cases h4
theorem awake28_run (K : AV → St → Prop) (hK : K (lit (.bool true)) ⟨[], [], 0, [U.resA], 0⟩) : runZ inv0 tSD 9 [] ⟨[], [], 0, [U.resA], 0⟩ K := by
  rw [awake28_vc]
  refine ⟨?_, ?_, fun L0 n1 c2 M3 d4 P5 e1 e2 e3 => ⟨?_, ?_, ?_, ?_, P5, ⟨e3, ?_, put1_has e2⟩, fun L7 n8 M9 P10 L21 n21 c21 v14 P215 f1 f2 f3 f4 f5 f6 => ?_⟩⟩
  · repeat' (first | exact rfl | with_reducible apply And.intro)
  · repeat' (first | exact rfl | with_reducible apply And.intro)
  · repeat' (first | exact rfl | with_reducible apply And.intro)
  · repeat' (first | exact rfl | with_reducible apply And.intro)
  · repeat' (first | exact rfl | with_reducible apply And.intro)
  · repeat' (first | exact rfl | with_reducible apply And.intro)
  · rw [e1, put1_len e2]; decide
  · obtain rfl := rm1_nil e2 f2
    have hn8 : n8 = 0 := f1
    refine ⟨?_, ⟨f3, P215, f6, put1_len f5⟩, fun R m cc g1 g2 g3 g4 g5 => ⟨fun _ => ⟨fun _ => ⟨fun _ => ⟨[], ⟨?_, f3⟩, fun L23 n24 c25 h1 h2 h3 z24 h4 => ⟨fun _ => ⟨P215, ⟨?_, f6⟩, fun L26 n27 c28 i1 i2 i3 z29 i4 => ⟨fun _ z30 j1 => ⟨fun _ => ⟨by omega, fun j31 k1 => ⟨by omega, fun z32 k2 => ⟨fun _ => ⟨by omega, fun j33 k3 => ⟨by omega, fun z34 k4 => ⟨fun _ => hK, fun h => (h ?_).elim⟩⟩⟩, fun h => (h ?_).elim⟩⟩⟩, fun h => (h (by omega)).elim⟩, fun h => (h ?_).elim⟩⟩, fun h => (h (by omega)).elim⟩⟩, fun h => (h rfl).elim⟩, fun h => (h rfl).elim⟩, fun h => (h rfl).elim⟩⟩
    · repeat' (first | exact rfl | with_reducible apply And.intro)
    · repeat' (first | exact rfl | with_reducible apply And.intro)
    · repeat' (first | exact rfl | with_reducible apply And.intro)
    · rw [k4, show j33 = 2 by omega]; exact g5
    · rw [k2, show j31 = 0 by omega]; exact g4
    · have := put1_len f5; omega
def pAw28 : Pat := fun args σ => match args, σ with
  | [], ⟨[], [], 0, [some ⟨0, .o (.glob 0 vs), [], 0, true⟩], 0⟩ => some fun K => vs = U.resWords ∧ K (lit (.bool true)) ⟨[], [], 0, [U.resA], 0⟩
  | _, _ => none
theorem pAw28_ok : PatOk 9 pAw28 := by
  intro tm σ C h K hK
  unfold pAw28 at h
  split at h
  · simp only [Option.some.injEq] at h; subst h
    obtain ⟨rfl, hK⟩ := hK
    exact knownD noOv names (opMZ_ok (opMV_ok wuovK)) (conOk_ofR tSD_ok) (awake28_run K hK)
  · cases h
def tSN : Tbl := tblIf 9 pAw28
theorem tSN_ok : TblOk Tryz.prog tSN := tblIf_ok pAw28_ok
def hopKs : List CK := [.n .i64, .n .i64, .n .i64]
def hopB (A : List (List CV)) : ABlk := ⟨162, .o (.rows hopKs A), [], 0, true⟩
/-- A record as it comes in: its numbers, its texts, its path. -/
structure RcI where
  (z0 z1 z2 z3 z4 z5 : Int)
  (s6 s7 : ByteArray)
  (z8 z9 z10 z11 z12 z13 z14 z15 z16 : Int)
  (s17 s18 s19 s20 : ByteArray)
  (z21 z22 z23 z24 z25 z26 z27 : Int)
  A : Option Addr
  (len cap : Nat)
def rcC (z0 z1 z2 z3 z4 z5 : Int) (l6 l7 : List Int) (z8 z9 z10 z11 z12 z13 z14 z15 z16 : Int) (l17 l18 l19 l20 : List Int) (z21 z22 z23 z24 z25 z26 z27 : Int) (c : Cell) : List Cell := [xintC .i64 z0, xintC .i64 z1, xintC .u32 z2, xintC .u32 z3, xintC .i64 z4, xintC .i64 z5, strC l6, strC l7, xintC .u64 z8, xintC .u64 z9, xintC .u64 z10, xintC .u32 z11, xintC .i64 z12, xintC .i64 z13, xintC .i64 z14, xintC .i64 z15, xintC .i64 z16, strC l17, strC l18, strC l19, strC l20, xintC .u64 z21, xintC .u64 z22, xintC .u32 z23, xintC .u32 z24, xintC .i64 z25, xintC .i64 z26, xintC .i64 z27, c]
end Go.Proofs.YtcjcdimlcfegbaaGreatDoor
end

section
namespace Go.Proofs.YtcjcdimlcfegbaaGreatDoor
open Go Reck Ost
set_option linter.unusedVariables false
set_option maxRecDepth 100000
abbrev runZB (inv : InvF) (tbl : Tbl) (f : Nat) (args : List AV) (σ : St) : Prop := goT Tryz.prog [] (orcR inv nmt tbl) (opMB Tryz.prog) 3000 (.inr (.inr (.inr (.inr f)))) args σ isTrue
--PLAIN
theorem stateNil_vc (z0 z1 z2 z3 z4 z5 : Int) (l6 l7 : List Int) (z8 z9 z10 z11 z12 z13 z14 z15 z16 : Int) (l17 l18 l19 l20 : List Int) (z21 z22 z23 z24 z25 z26 z27 : Int) (A : List (List CV)) (n c : Nat) : (runZB inv0 tSN 6 [.inl (.inr (rcC z0 z1 z2 z3 z4 z5 l6 l7 z8 z9 z10 z11 z12 z13 z14 z15 z16 l17 l18 l19 l20 z21 z22 z23 z24 z25 z26 z27 (rslC ⟨1, 3, 0, n, c⟩)))] ⟨[], [], 0, [U.resA, some (hopB A)], 0⟩) = (∀ (z0 : Int), z0 = (↑(List.length l7) : Int) → ((900 : Int) < z0 → ((0 : Int) ≤ (0 : Int) ∧ (0 : Int) ≤ (900 : Nat) ∧ (900 : Nat) ≤ (↑(List.length l7) : Int)) ∧ ∀ (a1 b2 : Nat), (↑a1 : Int) = (0 : Int) → (↑b2 : Int) = (900 : Nat) - (0 : Int) → ∀ (l'3 : List Int), l'3 = List.take b2 (List.drop a1 l7) → ∀ (z4 : Int), z4 = (↑(List.length l6) : Int) → ((20 : Int) < z4 → ((0 : Int) ≤ (0 : Int) ∧ (0 : Int) ≤ (20 : Nat) ∧ (20 : Nat) ≤ (↑(List.length l6) : Int)) ∧ ∀ (a5 b6 : Nat), (↑a5 : Int) = (0 : Int) → (↑b6 : Int) = (20 : Nat) - (0 : Int) → ∀ (l'7 : List Int), l'7 = List.take b6 (List.drop a5 l6) → ∀ (z8 : Int), z8 = (↑n : Int) → ((70 : Int) < z8 → ((0 : Int) ≤ (0 : Int) ∧ (0 : Int) ≤ (70 : Nat) ∧ (70 : Nat) ≤ (↑c : Int)) ∧ ∀ (o9 n10 c11 : Nat), ((↑o9 : Int) = if (↑c : Int) = Option.getD none (0 : Int) then (0 : Int) else (0 : Int)) → (↑n10 : Int) = (70 : Nat) - (0 : Int) → (↑c11 : Int) = (↑c : Int) - (0 : Int) → ∀ (z12 : Int), z12 = (↑((0 : Nat)) : Int) → (z12 = (0 : Int) → ∀ (z13 : Int), z13 = (↑((0 : Nat)) : Int) → (z13 = (0 : Int) → ∀ (z14 : Int), z14 = (↑((0 : Nat)) : Int) → (z14 = (0 : Int) → ∀ (z15 : Int), z15 = (↑((0 : Nat)) : Int) → (z15 = (0 : Int) → ∀ (z16 : Int), z16 = (↑((0 : Nat)) : Int) → (z16 = (0 : Int) → U.resWords = U.resWords ∧ True) ∧ (¬z16 = (0 : Int) → Err [(200 : Nat)])) ∧ (¬z15 = (0 : Int) → Err [(200 : Nat)])) ∧ (¬z14 = (0 : Int) → Err [(200 : Nat)])) ∧ (¬z13 = (0 : Int) → Err [(200 : Nat)])) ∧ (¬z12 = (0 : Int) → Err [(200 : Nat)])) ∧ (¬(70 : Int) < z8 → ∀ (z17 : Int), z17 = (↑((0 : Nat)) : Int) → (z17 = (0 : Int) → ∀ (z18 : Int), z18 = (↑((0 : Nat)) : Int) → (z18 = (0 : Int) → ∀ (z19 : Int), z19 = (↑((0 : Nat)) : Int) → (z19 = (0 : Int) → ∀ (z20 : Int), z20 = (↑((0 : Nat)) : Int) → (z20 = (0 : Int) → ∀ (z21 : Int), z21 = (↑((0 : Nat)) : Int) → (z21 = (0 : Int) → U.resWords = U.resWords ∧ True) ∧ (¬z21 = (0 : Int) → Err [(200 : Nat)])) ∧ (¬z20 = (0 : Int) → Err [(200 : Nat)])) ∧ (¬z19 = (0 : Int) → Err [(200 : Nat)])) ∧ (¬z18 = (0 : Int) → Err [(200 : Nat)])) ∧ (¬z17 = (0 : Int) → Err [(200 : Nat)]))) ∧ (¬(20 : Int) < z4 → ∀ (z22 : Int), z22 = (↑n : Int) → ((70 : Int) < z22 → ((0 : Int) ≤ (0 : Int) ∧ (0 : Int) ≤ (70 : Nat) ∧ (70 : Nat) ≤ (↑c : Int)) ∧ ∀ (o23 n24 c25 : Nat), ((↑o23 : Int) = if (↑c : Int) = Option.getD none (0 : Int) then (0 : Int) else (0 : Int)) → (↑n24 : Int) = (70 : Nat) - (0 : Int) → (↑c25 : Int) = (↑c : Int) - (0 : Int) → ∀ (z26 : Int), z26 = (↑((0 : Nat)) : Int) → (z26 = (0 : Int) → ∀ (z27 : Int), z27 = (↑((0 : Nat)) : Int) → (z27 = (0 : Int) → ∀ (z28 : Int), z28 = (↑((0 : Nat)) : Int) → (z28 = (0 : Int) → ∀ (z29 : Int), z29 = (↑((0 : Nat)) : Int) → (z29 = (0 : Int) → ∀ (z30 : Int), z30 = (↑((0 : Nat)) : Int) → (z30 = (0 : Int) → U.resWords = U.resWords ∧ True) ∧ (¬z30 = (0 : Int) → Err [(200 : Nat)])) ∧ (¬z29 = (0 : Int) → Err [(200 : Nat)])) ∧ (¬z28 = (0 : Int) → Err [(200 : Nat)])) ∧ (¬z27 = (0 : Int) → Err [(200 : Nat)])) ∧ (¬z26 = (0 : Int) → Err [(200 : Nat)])) ∧ (¬(70 : Int) < z22 → ∀ (z31 : Int), z31 = (↑((0 : Nat)) : Int) → (z31 = (0 : Int) → ∀ (z32 : Int), z32 = (↑((0 : Nat)) : Int) → (z32 = (0 : Int) → ∀ (z33 : Int), z33 = (↑((0 : Nat)) : Int) → (z33 = (0 : Int) → ∀ (z34 : Int), z34 = (↑((0 : Nat)) : Int) → (z34 = (0 : Int) → ∀ (z35 : Int), z35 = (↑((0 : Nat)) : Int) → (z35 = (0 : Int) → U.resWords = U.resWords ∧ True) ∧ (¬z35 = (0 : Int) → Err [(200 : Nat)])) ∧ (¬z34 = (0 : Int) → Err [(200 : Nat)])) ∧ (¬z33 = (0 : Int) → Err [(200 : Nat)])) ∧ (¬z32 = (0 : Int) → Err [(200 : Nat)])) ∧ (¬z31 = (0 : Int) → Err [(200 : Nat)])))) ∧ (¬(900 : Int) < z0 → ∀ (z36 : Int), z36 = (↑(List.length l6) : Int) → ((20 : Int) < z36 → ((0 : Int) ≤ (0 : Int) ∧ (0 : Int) ≤ (20 : Nat) ∧ (20 : Nat) ≤ (↑(List.length l6) : Int)) ∧ ∀ (a37 b38 : Nat), (↑a37 : Int) = (0 : Int) → (↑b38 : Int) = (20 : Nat) - (0 : Int) → ∀ (l'39 : List Int), l'39 = List.take b38 (List.drop a37 l6) → ∀ (z40 : Int), z40 = (↑n : Int) → ((70 : Int) < z40 → ((0 : Int) ≤ (0 : Int) ∧ (0 : Int) ≤ (70 : Nat) ∧ (70 : Nat) ≤ (↑c : Int)) ∧ ∀ (o41 n42 c43 : Nat), ((↑o41 : Int) = if (↑c : Int) = Option.getD none (0 : Int) then (0 : Int) else (0 : Int)) → (↑n42 : Int) = (70 : Nat) - (0 : Int) → (↑c43 : Int) = (↑c : Int) - (0 : Int) → ∀ (z44 : Int), z44 = (↑((0 : Nat)) : Int) → (z44 = (0 : Int) → ∀ (z45 : Int), z45 = (↑((0 : Nat)) : Int) → (z45 = (0 : Int) → ∀ (z46 : Int), z46 = (↑((0 : Nat)) : Int) → (z46 = (0 : Int) → ∀ (z47 : Int), z47 = (↑((0 : Nat)) : Int) → (z47 = (0 : Int) → ∀ (z48 : Int), z48 = (↑((0 : Nat)) : Int) → (z48 = (0 : Int) → U.resWords = U.resWords ∧ True) ∧ (¬z48 = (0 : Int) → Err [(200 : Nat)])) ∧ (¬z47 = (0 : Int) → Err [(200 : Nat)])) ∧ (¬z46 = (0 : Int) → Err [(200 : Nat)])) ∧ (¬z45 = (0 : Int) → Err [(200 : Nat)])) ∧ (¬z44 = (0 : Int) → Err [(200 : Nat)])) ∧ (¬(70 : Int) < z40 → ∀ (z49 : Int), z49 = (↑((0 : Nat)) : Int) → (z49 = (0 : Int) → ∀ (z50 : Int), z50 = (↑((0 : Nat)) : Int) → (z50 = (0 : Int) → ∀ (z51 : Int), z51 = (↑((0 : Nat)) : Int) → (z51 = (0 : Int) → ∀ (z52 : Int), z52 = (↑((0 : Nat)) : Int) → (z52 = (0 : Int) → ∀ (z53 : Int), z53 = (↑((0 : Nat)) : Int) → (z53 = (0 : Int) → U.resWords = U.resWords ∧ True) ∧ (¬z53 = (0 : Int) → Err [(200 : Nat)])) ∧ (¬z52 = (0 : Int) → Err [(200 : Nat)])) ∧ (¬z51 = (0 : Int) → Err [(200 : Nat)])) ∧ (¬z50 = (0 : Int) → Err [(200 : Nat)])) ∧ (¬z49 = (0 : Int) → Err [(200 : Nat)]))) ∧ (¬(20 : Int) < z36 → ∀ (z54 : Int), z54 = (↑n : Int) → ((70 : Int) < z54 → ((0 : Int) ≤ (0 : Int) ∧ (0 : Int) ≤ (70 : Nat) ∧ (70 : Nat) ≤ (↑c : Int)) ∧ ∀ (o55 n56 c57 : Nat), ((↑o55 : Int) = if (↑c : Int) = Option.getD none (0 : Int) then (0 : Int) else (0 : Int)) → (↑n56 : Int) = (70 : Nat) - (0 : Int) → (↑c57 : Int) = (↑c : Int) - (0 : Int) → ∀ (z58 : Int), z58 = (↑((0 : Nat)) : Int) → (z58 = (0 : Int) → ∀ (z59 : Int), z59 = (↑((0 : Nat)) : Int) → (z59 = (0 : Int) → ∀ (z60 : Int), z60 = (↑((0 : Nat)) : Int) → (z60 = (0 : Int) → ∀ (z61 : Int), z61 = (↑((0 : Nat)) : Int) → (z61 = (0 : Int) → ∀ (z62 : Int), z62 = (↑((0 : Nat)) : Int) → (z62 = (0 : Int) → U.resWords = U.resWords ∧ True) ∧ (¬z62 = (0 : Int) → Err [(200 : Nat)])) ∧ (¬z61 = (0 : Int) → Err [(200 : Nat)])) ∧ (¬z60 = (0 : Int) → Err [(200 : Nat)])) ∧ (¬z59 = (0 : Int) → Err [(200 : Nat)])) ∧ (¬z58 = (0 : Int) → Err [(200 : Nat)])) ∧ (¬(70 : Int) < z54 → ∀ (z63 : Int), z63 = (↑((0 : Nat)) : Int) → (z63 = (0 : Int) → ∀ (z64 : Int), z64 = (↑((0 : Nat)) : Int) → (z64 = (0 : Int) → ∀ (z65 : Int), z65 = (↑((0 : Nat)) : Int) → (z65 = (0 : Int) → ∀ (z66 : Int), z66 = (↑((0 : Nat)) : Int) → (z66 = (0 : Int) → ∀ (z67 : Int), z67 = (↑((0 : Nat)) : Int) → (z67 = (0 : Int) → U.resWords = U.resWords ∧ True) ∧ (¬z67 = (0 : Int) → Err [(200 : Nat)])) ∧ (¬z66 = (0 : Int) → Err [(200 : Nat)])) ∧ (¬z65 = (0 : Int) → Err [(200 : Nat)])) ∧ (¬z64 = (0 : Int) → Err [(200 : Nat)])) ∧ (¬z63 = (0 : Int) → Err [(200 : Nat)]))))) := by kernel_rfl
end Go.Proofs.YtcjcdimlcfegbaaGreatDoor
end

section
set_option linter.unusedVariables false
set_option linter.unusedSimpArgs false
set_option maxRecDepth 100000
set_option maxHeartbeats 1000000
namespace Go.Proofs.YtcjcdimlcfegbaaGreatDoor
open Go Reck Go.ChangeShapes Go.WideShapes Go.Deep
def RcI.val (s : RcI) : Value := .agg #[.int .i64 s.z0, .int .i64 s.z1, .int .u32 s.z2, .int .u32 s.z3, .int .i64 s.z4, .int .i64 s.z5, .string s.s6, .string s.s7, .int .u64 s.z8, .int .u64 s.z9, .int .u64 s.z10, .int .u32 s.z11, .int .i64 s.z12, .int .i64 s.z13, .int .i64 s.z14, .int .i64 s.z15, .int .i64 s.z16, .string s.s17, .string s.s18, .string s.s19, .string s.s20, .int .u64 s.z21, .int .u64 s.z22, .int .u32 s.z23, .int .u32 s.z24, .int .i64 s.z25, .int .i64 s.z26, .int .i64 s.z27, .slice s.A s.len s.cap]
def rcZ : RcI := ⟨0, 0, 0, 0, 0, 0, ByteArray.empty, ByteArray.empty, 0, 0, 0, 0, 0, 0, 0, 0, 0, ByteArray.empty, ByteArray.empty, ByteArray.empty, ByteArray.empty, 0, 0, 0, 0, 0, 0, 0, none, 0, 0⟩
structure RcI.ok (s : RcI) (W : World) : Prop where
  w : ∃ R, CameR hopKs W s.A s.len s.cap R
theorem rc_list {α : Type} : ∀ l : List α, l.length = 29 → ∃ x0 x1 x2 x3 x4 x5 x6 x7 x8 x9 x10 x11 x12 x13 x14 x15 x16 x17 x18 x19 x20 x21 x22 x23 x24 x25 x26 x27 x28, l = [x0, x1, x2, x3, x4, x5, x6, x7, x8, x9, x10, x11, x12, x13, x14, x15, x16, x17, x18, x19, x20, x21, x22, x23, x24, x25, x26, x27, x28]
  | [x0, x1, x2, x3, x4, x5, x6, x7, x8, x9, x10, x11, x12, x13, x14, x15, x16, x17, x18, x19, x20, x21, x22, x23, x24, x25, x26, x27, x28], _ => ⟨x0, x1, x2, x3, x4, x5, x6, x7, x8, x9, x10, x11, x12, x13, x14, x15, x16, x17, x18, x19, x20, x21, x22, x23, x24, x25, x26, x27, x28, rfl⟩
theorem fl_fld {H : Type} {enc : TypeId × Value → H} {P : Program} {w : World} {base : Nat} {spare : Nat → Bool} {held : Bool} {t : TypeId} {fs : Array Field} {fuel : Nat} {cs : List Value} {x : DataW H × List MemPlace} (ht : P.underlying t = some (.struct fs))
    (h : DataW.trod enc P w base spare held fuel t cs = some x) : ∀ (i : Nat) (f : Field) (k : Nat), fs[i]? = some f → P.cellsOf f.type = k → ∃ n y, DataW.trod enc P w base spare held n f.type ((cs.drop f.offset).take k) = some y := by
  obtain ⟨ys, n, _, _, hl, hyl, hfld⟩ := DataW.trod_struct ht h
  intro i f k hi hk
  have e := hfld i f hi
  rw [hk] at e
  have hy : i < ys.length := by rw [hyl]; exact (Array.getElem?_eq_some_iff.1 hi).1
  exact ⟨n, ys[i], by rw [← List.getElem?_eq_getElem hy, ← e]⟩
theorem open_rec {H : Type} {enc : TypeId × Value → H} {W : World} {b0 : Nat} {held : Bool} {v : Value} {d : DataW H} {p : List MemPlace} (hval : Value.okWide Tryz.prog W .any b0 60 v) (h : DataW.Trod enc Tryz.prog W 0 (fun _ => true) held 60 v d p) : ∃ s : RcI, v = s.val ∧ s.ok W := by
  obtain ⟨cs, rfl, hsz⟩ : ∃ cs, v = .agg cs ∧ cs.size = Tryz.prog.cellsOf 60 := by
    simp only [Value.okWide, Tryz.underlying60] at hval
    obtain ⟨cs, h1, h2, _⟩ := hval
    exact ⟨cs, h1, h2⟩
  have hC : Tryz.prog.cellsOf 60 = 29 := by kernel_rfl
  rw [hC] at hsz
  obtain ⟨fuel, hf⟩ := h
  have hf : DataW.trod enc Tryz.prog W 0 (fun _ => true) held fuel 60 cs.toList = some (d, p) := hf
  obtain ⟨x0, x1, x2, x3, x4, x5, x6, x7, x8, x9, x10, x11, x12, x13, x14, x15, x16, x17, x18, x19, x20, x21, x22, x23, x24, x25, x26, x27, x28, hcs⟩ := rc_list cs.toList (by simpa using hsz)
  rw [hcs] at hf
  have g := fl_fld Tryz.underlying60 hf
  obtain rfl : cs = #[x0, x1, x2, x3, x4, x5, x6, x7, x8, x9, x10, x11, x12, x13, x14, x15, x16, x17, x18, x19, x20, x21, x22, x23, x24, x25, x26, x27, x28] := by cases cs; simp_all
  clear hval hcs hf
  obtain ⟨n0, y0, hy0⟩ := g 0 _ 1 rfl (by kernel_rfl)
  have hy0 : DataW.trod enc Tryz.prog W 0 (fun _ => true) held n0 3 [x0] = some y0 := hy0
  obtain ⟨z0, e0, _, w0⟩ := DataW.trod_int Tryz.underlying3 hy0
  obtain rfl : x0 = .int .i64 z0 := (List.cons.inj e0).1
  obtain ⟨n1, y1, hy1⟩ := g 1 _ 1 rfl (by kernel_rfl)
  have hy1 : DataW.trod enc Tryz.prog W 0 (fun _ => true) held n1 2 [x1] = some y1 := hy1
  obtain ⟨z1, e1, _, w1⟩ := DataW.trod_int Tryz.underlying2 hy1
  obtain rfl : x1 = .int .i64 z1 := (List.cons.inj e1).1
  obtain ⟨n2, y2, hy2⟩ := g 2 _ 1 rfl (by kernel_rfl)
  have hy2 : DataW.trod enc Tryz.prog W 0 (fun _ => true) held n2 24 [x2] = some y2 := hy2
  obtain ⟨z2, e2, _, w2⟩ := DataW.trod_int Tryz.underlying24 hy2
  obtain rfl : x2 = .int .u32 z2 := (List.cons.inj e2).1
  obtain ⟨n3, y3, hy3⟩ := g 3 _ 1 rfl (by kernel_rfl)
  have hy3 : DataW.trod enc Tryz.prog W 0 (fun _ => true) held n3 24 [x3] = some y3 := hy3
  obtain ⟨z3, e3, _, w3⟩ := DataW.trod_int Tryz.underlying24 hy3
  obtain rfl : x3 = .int .u32 z3 := (List.cons.inj e3).1
  obtain ⟨n4, y4, hy4⟩ := g 4 _ 1 rfl (by kernel_rfl)
  have hy4 : DataW.trod enc Tryz.prog W 0 (fun _ => true) held n4 3 [x4] = some y4 := hy4
  obtain ⟨z4, e4, _, w4⟩ := DataW.trod_int Tryz.underlying3 hy4
  obtain rfl : x4 = .int .i64 z4 := (List.cons.inj e4).1
  obtain ⟨n5, y5, hy5⟩ := g 5 _ 1 rfl (by kernel_rfl)
  have hy5 : DataW.trod enc Tryz.prog W 0 (fun _ => true) held n5 3 [x5] = some y5 := hy5
  obtain ⟨z5, e5, _, w5⟩ := DataW.trod_int Tryz.underlying3 hy5
  obtain rfl : x5 = .int .i64 z5 := (List.cons.inj e5).1
  obtain ⟨n6, y6, hy6⟩ := g 6 _ 1 rfl (by kernel_rfl)
  have hy6 : DataW.trod enc Tryz.prog W 0 (fun _ => true) held n6 9 [x6] = some y6 := hy6
  obtain ⟨z6, e6, _, w6⟩ := DataW.trod_string Tryz.underlying9 hy6
  obtain rfl : x6 = .string z6 := (List.cons.inj e6).1
  obtain ⟨n7, y7, hy7⟩ := g 7 _ 1 rfl (by kernel_rfl)
  have hy7 : DataW.trod enc Tryz.prog W 0 (fun _ => true) held n7 9 [x7] = some y7 := hy7
  obtain ⟨z7, e7, _, w7⟩ := DataW.trod_string Tryz.underlying9 hy7
  obtain rfl : x7 = .string z7 := (List.cons.inj e7).1
  obtain ⟨n8, y8, hy8⟩ := g 8 _ 1 rfl (by kernel_rfl)
  have hy8 : DataW.trod enc Tryz.prog W 0 (fun _ => true) held n8 41 [x8] = some y8 := hy8
  obtain ⟨z8, e8, _, w8⟩ := DataW.trod_int Tryz.underlying41 hy8
  obtain rfl : x8 = .int .u64 z8 := (List.cons.inj e8).1
  obtain ⟨n9, y9, hy9⟩ := g 9 _ 1 rfl (by kernel_rfl)
  have hy9 : DataW.trod enc Tryz.prog W 0 (fun _ => true) held n9 41 [x9] = some y9 := hy9
  obtain ⟨z9, e9, _, w9⟩ := DataW.trod_int Tryz.underlying41 hy9
  obtain rfl : x9 = .int .u64 z9 := (List.cons.inj e9).1
  obtain ⟨n10, y10, hy10⟩ := g 10 _ 1 rfl (by kernel_rfl)
  have hy10 : DataW.trod enc Tryz.prog W 0 (fun _ => true) held n10 41 [x10] = some y10 := hy10
  obtain ⟨z10, e10, _, w10⟩ := DataW.trod_int Tryz.underlying41 hy10
  obtain rfl : x10 = .int .u64 z10 := (List.cons.inj e10).1
  obtain ⟨n11, y11, hy11⟩ := g 11 _ 1 rfl (by kernel_rfl)
  have hy11 : DataW.trod enc Tryz.prog W 0 (fun _ => true) held n11 24 [x11] = some y11 := hy11
  obtain ⟨z11, e11, _, w11⟩ := DataW.trod_int Tryz.underlying24 hy11
  obtain rfl : x11 = .int .u32 z11 := (List.cons.inj e11).1
  obtain ⟨n12, y12, hy12⟩ := g 12 _ 1 rfl (by kernel_rfl)
  have hy12 : DataW.trod enc Tryz.prog W 0 (fun _ => true) held n12 2 [x12] = some y12 := hy12
  obtain ⟨z12, e12, _, w12⟩ := DataW.trod_int Tryz.underlying2 hy12
  obtain rfl : x12 = .int .i64 z12 := (List.cons.inj e12).1
  obtain ⟨mm0, vv0, hh0⟩ := g 13 _ 2 rfl (by kernel_rfl)
  have hh0 : DataW.trod enc Tryz.prog W 0 (fun _ => true) held mm0 45 [x13, x14] = some vv0 := hh0
  have gg0 := fl_fld Tryz.underlying45 hh0
  obtain ⟨n13, y13, hy13⟩ := gg0 0 _ 1 rfl (by kernel_rfl)
  have hy13 : DataW.trod enc Tryz.prog W 0 (fun _ => true) held n13 3 [x13] = some y13 := hy13
  obtain ⟨z13, e13, _, w13⟩ := DataW.trod_int Tryz.underlying3 hy13
  obtain rfl : x13 = .int .i64 z13 := (List.cons.inj e13).1
  obtain ⟨n14, y14, hy14⟩ := gg0 1 _ 1 rfl (by kernel_rfl)
  have hy14 : DataW.trod enc Tryz.prog W 0 (fun _ => true) held n14 3 [x14] = some y14 := hy14
  obtain ⟨z14, e14, _, w14⟩ := DataW.trod_int Tryz.underlying3 hy14
  obtain rfl : x14 = .int .i64 z14 := (List.cons.inj e14).1
  obtain ⟨mm1, vv1, hh1⟩ := g 14 _ 2 rfl (by kernel_rfl)
  have hh1 : DataW.trod enc Tryz.prog W 0 (fun _ => true) held mm1 45 [x15, x16] = some vv1 := hh1
  have gg1 := fl_fld Tryz.underlying45 hh1
  obtain ⟨n15, y15, hy15⟩ := gg1 0 _ 1 rfl (by kernel_rfl)
  have hy15 : DataW.trod enc Tryz.prog W 0 (fun _ => true) held n15 3 [x15] = some y15 := hy15
  obtain ⟨z15, e15, _, w15⟩ := DataW.trod_int Tryz.underlying3 hy15
  obtain rfl : x15 = .int .i64 z15 := (List.cons.inj e15).1
  obtain ⟨n16, y16, hy16⟩ := gg1 1 _ 1 rfl (by kernel_rfl)
  have hy16 : DataW.trod enc Tryz.prog W 0 (fun _ => true) held n16 3 [x16] = some y16 := hy16
  obtain ⟨z16, e16, _, w16⟩ := DataW.trod_int Tryz.underlying3 hy16
  obtain rfl : x16 = .int .i64 z16 := (List.cons.inj e16).1
  obtain ⟨mm2, vv2, hh2⟩ := g 15 _ 2 rfl (by kernel_rfl)
  have hh2 : DataW.trod enc Tryz.prog W 0 (fun _ => true) held mm2 58 [x17, x18] = some vv2 := hh2
  have gg2 := fl_fld Tryz.underlying58 hh2
  obtain ⟨n17, y17, hy17⟩ := gg2 0 _ 1 rfl (by kernel_rfl)
  have hy17 : DataW.trod enc Tryz.prog W 0 (fun _ => true) held n17 9 [x17] = some y17 := hy17
  obtain ⟨z17, e17, _, w17⟩ := DataW.trod_string Tryz.underlying9 hy17
  obtain rfl : x17 = .string z17 := (List.cons.inj e17).1
  obtain ⟨n18, y18, hy18⟩ := gg2 1 _ 1 rfl (by kernel_rfl)
  have hy18 : DataW.trod enc Tryz.prog W 0 (fun _ => true) held n18 9 [x18] = some y18 := hy18
  obtain ⟨z18, e18, _, w18⟩ := DataW.trod_string Tryz.underlying9 hy18
  obtain rfl : x18 = .string z18 := (List.cons.inj e18).1
  obtain ⟨mm3, vv3, hh3⟩ := g 16 _ 2 rfl (by kernel_rfl)
  have hh3 : DataW.trod enc Tryz.prog W 0 (fun _ => true) held mm3 58 [x19, x20] = some vv3 := hh3
  have gg3 := fl_fld Tryz.underlying58 hh3
  obtain ⟨n19, y19, hy19⟩ := gg3 0 _ 1 rfl (by kernel_rfl)
  have hy19 : DataW.trod enc Tryz.prog W 0 (fun _ => true) held n19 9 [x19] = some y19 := hy19
  obtain ⟨z19, e19, _, w19⟩ := DataW.trod_string Tryz.underlying9 hy19
  obtain rfl : x19 = .string z19 := (List.cons.inj e19).1
  obtain ⟨n20, y20, hy20⟩ := gg3 1 _ 1 rfl (by kernel_rfl)
  have hy20 : DataW.trod enc Tryz.prog W 0 (fun _ => true) held n20 9 [x20] = some y20 := hy20
  obtain ⟨z20, e20, _, w20⟩ := DataW.trod_string Tryz.underlying9 hy20
  obtain rfl : x20 = .string z20 := (List.cons.inj e20).1
  obtain ⟨mm4, vv4, hh4⟩ := g 17 _ 7 rfl (by kernel_rfl)
  have hh4 : DataW.trod enc Tryz.prog W 0 (fun _ => true) held mm4 49 [x21, x22, x23, x24, x25, x26, x27] = some vv4 := hh4
  have gg4 := fl_fld Tryz.underlying49 hh4
  obtain ⟨n21, y21, hy21⟩ := gg4 0 _ 1 rfl (by kernel_rfl)
  have hy21 : DataW.trod enc Tryz.prog W 0 (fun _ => true) held n21 42 [x21] = some y21 := hy21
  obtain ⟨z21, e21, _, w21⟩ := DataW.trod_int Tryz.underlying42 hy21
  obtain rfl : x21 = .int .u64 z21 := (List.cons.inj e21).1
  obtain ⟨n22, y22, hy22⟩ := gg4 1 _ 1 rfl (by kernel_rfl)
  have hy22 : DataW.trod enc Tryz.prog W 0 (fun _ => true) held n22 42 [x22] = some y22 := hy22
  obtain ⟨z22, e22, _, w22⟩ := DataW.trod_int Tryz.underlying42 hy22
  obtain rfl : x22 = .int .u64 z22 := (List.cons.inj e22).1
  obtain ⟨n23, y23, hy23⟩ := gg4 2 _ 1 rfl (by kernel_rfl)
  have hy23 : DataW.trod enc Tryz.prog W 0 (fun _ => true) held n23 43 [x23] = some y23 := hy23
  obtain ⟨z23, e23, _, w23⟩ := DataW.trod_int Tryz.underlying43 hy23
  obtain rfl : x23 = .int .u32 z23 := (List.cons.inj e23).1
  obtain ⟨n24, y24, hy24⟩ := gg4 3 _ 1 rfl (by kernel_rfl)
  have hy24 : DataW.trod enc Tryz.prog W 0 (fun _ => true) held n24 43 [x24] = some y24 := hy24
  obtain ⟨z24, e24, _, w24⟩ := DataW.trod_int Tryz.underlying43 hy24
  obtain rfl : x24 = .int .u32 z24 := (List.cons.inj e24).1
  obtain ⟨n25, y25, hy25⟩ := gg4 4 _ 1 rfl (by kernel_rfl)
  have hy25 : DataW.trod enc Tryz.prog W 0 (fun _ => true) held n25 3 [x25] = some y25 := hy25
  obtain ⟨z25, e25, _, w25⟩ := DataW.trod_int Tryz.underlying3 hy25
  obtain rfl : x25 = .int .i64 z25 := (List.cons.inj e25).1
  obtain ⟨n26, y26, hy26⟩ := gg4 5 _ 1 rfl (by kernel_rfl)
  have hy26 : DataW.trod enc Tryz.prog W 0 (fun _ => true) held n26 3 [x26] = some y26 := hy26
  obtain ⟨z26, e26, _, w26⟩ := DataW.trod_int Tryz.underlying3 hy26
  obtain rfl : x26 = .int .i64 z26 := (List.cons.inj e26).1
  obtain ⟨n27, y27, hy27⟩ := gg4 6 _ 1 rfl (by kernel_rfl)
  have hy27 : DataW.trod enc Tryz.prog W 0 (fun _ => true) held n27 3 [x27] = some y27 := hy27
  obtain ⟨z27, e27, _, w27⟩ := DataW.trod_int Tryz.underlying3 hy27
  obtain rfl : x27 = .int .i64 z27 := (List.cons.inj e27).1
  obtain ⟨n28, y28, hy28⟩ := g 18 _ 1 rfl (by kernel_rfl)
  have hy28 : DataW.trod enc Tryz.prog W 0 (fun _ => true) held n28 50 [x28] = some y28 := hy28
  obtain ⟨A, len, cap, e28⟩ : ∃ A len cap, x28 = .slice A len cap := by
    rcases open_slice Tryz.underlying50 hy28 with ⟨h, _⟩ | ⟨a, len, cap, _, _, _, _, h, _⟩
    · exact ⟨_, _, _, (List.cons.inj h).1⟩
    · exact ⟨_, _, _, (List.cons.inj h).1⟩
  subst e28
  exact ⟨⟨z0, z1, z2, z3, z4, z5, z6, z7, z8, z9, z10, z11, z12, z13, z14, z15, z16, z17, z18, z19, z20, z21, z22, z23, z24, z25, z26, z27, A, len, cap⟩, rfl, ⟨open_rowsN (D := 5) (ks := hopKs) Tryz.underlying50 (by kernel_rfl) (by kernel_rfl) (by decide) hy28⟩⟩
def bz (s : ByteArray) : List Int := s.data.toList.map fun b => (b.toNat : Int)
theorem bz_cv (s : ByteArray) (e : Env) : Reck.cv e (strC (bz s)) = some (.string s) := by
  have h := strC_av (byteZ_lit s) e
  rw [strZ_lit] at h
  exact h
def RcI.cs (s : RcI) (a : Nat) : List Cell := rcC s.z0 s.z1 s.z2 s.z3 s.z4 s.z5 (bz s.s6) (bz s.s7) s.z8 s.z9 s.z10 s.z11 s.z12 s.z13 s.z14 s.z15 s.z16 (bz s.s17) (bz s.s18) (bz s.s19) (bz s.s20) s.z21 s.z22 s.z23 s.z24 s.z25 s.z26 s.z27 (rslC ⟨a, 3, 0, s.len, s.cap⟩)
theorem rc_av (s : RcI) (e : Env) (a : Nat) (h : Reck.cv e (rslC ⟨a, 3, 0, s.len, s.cap⟩) = some (.slice s.A s.len s.cap)) : Reck.av e (.inl (.inr (s.cs a))) = some s.val := by
  have h2 : ∀ k z, Reck.cv e (xintC k z) = some (.int k z) := fun _ _ => rfl
  simp only [Reck.av, Reck.v1, RcI.cs, rcC, List.map_cons, List.map_nil, bz_cv, h2, h, RcI.val]
  rfl
end Go.Proofs.YtcjcdimlcfegbaaGreatDoor
end

section
set_option linter.unusedVariables false
set_option linter.unusedSimpArgs false
set_option maxRecDepth 100000
set_option maxHeartbeats 1000000
namespace Go.Proofs.YtcjcdimlcfegbaaGreatDoor
open Go Reck Ost
theorem stateNil_run (z0 z1 z2 z3 z4 z5 : Int) (l6 l7 : List Int) (z8 z9 z10 z11 z12 z13 z14 z15 z16 : Int) (l17 l18 l19 l20 : List Int) (z21 z22 z23 z24 z25 z26 z27 : Int) (A : List (List CV)) (n c : Nat) (hc : n ≤ c) : runZB inv0 tSN 6 [.inl (.inr (rcC z0 z1 z2 z3 z4 z5 l6 l7 z8 z9 z10 z11 z12 z13 z14 z15 z16 l17 l18 l19 l20 z21 z22 z23 z24 z25 z26 z27 (rslC ⟨1, 3, 0, n, c⟩)))] ⟨[], [], 0, [U.resA, some (hopB A)], 0⟩ := by
  rw [stateNil_vc]
  exact fun z0 h0 => ⟨fun hlt => ⟨⟨by omega, by omega, by omega⟩, fun a1 b2 _ _ l3 _ => fun zn hn => ⟨fun hlt => ⟨⟨by omega, by omega, by omega⟩, fun a5 b6 _ _ l7 _ => fun zp hp => ⟨fun hlt => ⟨⟨by omega, by omega, by omega⟩, fun o9 n10 c11 _ _ _ => fun z0 h0 => ⟨fun _ => fun z1 h1 => ⟨fun _ => fun z2 h2 => ⟨fun _ => fun z3 h3 => ⟨fun _ => fun z4 h4 => ⟨fun _ => ⟨rfl, trivial⟩, fun h => (h (by simpa using h4)).elim⟩, fun h => (h (by simpa using h3)).elim⟩, fun h => (h (by simpa using h2)).elim⟩, fun h => (h (by simpa using h1)).elim⟩, fun h => (h (by simpa using h0)).elim⟩⟩, fun _ => fun z0 h0 => ⟨fun _ => fun z1 h1 => ⟨fun _ => fun z2 h2 => ⟨fun _ => fun z3 h3 => ⟨fun _ => fun z4 h4 => ⟨fun _ => ⟨rfl, trivial⟩, fun h => (h (by simpa using h4)).elim⟩, fun h => (h (by simpa using h3)).elim⟩, fun h => (h (by simpa using h2)).elim⟩, fun h => (h (by simpa using h1)).elim⟩, fun h => (h (by simpa using h0)).elim⟩⟩⟩, fun _ => fun zp hp => ⟨fun hlt => ⟨⟨by omega, by omega, by omega⟩, fun o9 n10 c11 _ _ _ => fun z0 h0 => ⟨fun _ => fun z1 h1 => ⟨fun _ => fun z2 h2 => ⟨fun _ => fun z3 h3 => ⟨fun _ => fun z4 h4 => ⟨fun _ => ⟨rfl, trivial⟩, fun h => (h (by simpa using h4)).elim⟩, fun h => (h (by simpa using h3)).elim⟩, fun h => (h (by simpa using h2)).elim⟩, fun h => (h (by simpa using h1)).elim⟩, fun h => (h (by simpa using h0)).elim⟩⟩, fun _ => fun z0 h0 => ⟨fun _ => fun z1 h1 => ⟨fun _ => fun z2 h2 => ⟨fun _ => fun z3 h3 => ⟨fun _ => fun z4 h4 => ⟨fun _ => ⟨rfl, trivial⟩, fun h => (h (by simpa using h4)).elim⟩, fun h => (h (by simpa using h3)).elim⟩, fun h => (h (by simpa using h2)).elim⟩, fun h => (h (by simpa using h1)).elim⟩, fun h => (h (by simpa using h0)).elim⟩⟩⟩⟩, fun _ => fun zn hn => ⟨fun hlt => ⟨⟨by omega, by omega, by omega⟩, fun a5 b6 _ _ l7 _ => fun zp hp => ⟨fun hlt => ⟨⟨by omega, by omega, by omega⟩, fun o9 n10 c11 _ _ _ => fun z0 h0 => ⟨fun _ => fun z1 h1 => ⟨fun _ => fun z2 h2 => ⟨fun _ => fun z3 h3 => ⟨fun _ => fun z4 h4 => ⟨fun _ => ⟨rfl, trivial⟩, fun h => (h (by simpa using h4)).elim⟩, fun h => (h (by simpa using h3)).elim⟩, fun h => (h (by simpa using h2)).elim⟩, fun h => (h (by simpa using h1)).elim⟩, fun h => (h (by simpa using h0)).elim⟩⟩, fun _ => fun z0 h0 => ⟨fun _ => fun z1 h1 => ⟨fun _ => fun z2 h2 => ⟨fun _ => fun z3 h3 => ⟨fun _ => fun z4 h4 => ⟨fun _ => ⟨rfl, trivial⟩, fun h => (h (by simpa using h4)).elim⟩, fun h => (h (by simpa using h3)).elim⟩, fun h => (h (by simpa using h2)).elim⟩, fun h => (h (by simpa using h1)).elim⟩, fun h => (h (by simpa using h0)).elim⟩⟩⟩, fun _ => fun zp hp => ⟨fun hlt => ⟨⟨by omega, by omega, by omega⟩, fun o9 n10 c11 _ _ _ => fun z0 h0 => ⟨fun _ => fun z1 h1 => ⟨fun _ => fun z2 h2 => ⟨fun _ => fun z3 h3 => ⟨fun _ => fun z4 h4 => ⟨fun _ => ⟨rfl, trivial⟩, fun h => (h (by simpa using h4)).elim⟩, fun h => (h (by simpa using h3)).elim⟩, fun h => (h (by simpa using h2)).elim⟩, fun h => (h (by simpa using h1)).elim⟩, fun h => (h (by simpa using h0)).elim⟩⟩, fun _ => fun z0 h0 => ⟨fun _ => fun z1 h1 => ⟨fun _ => fun z2 h2 => ⟨fun _ => fun z3 h3 => ⟨fun _ => fun z4 h4 => ⟨fun _ => ⟨rfl, trivial⟩, fun h => (h (by simpa using h4)).elim⟩, fun h => (h (by simpa using h3)).elim⟩, fun h => (h (by simpa using h2)).elim⟩, fun h => (h (by simpa using h1)).elim⟩, fun h => (h (by simpa using h0)).elim⟩⟩⟩⟩
theorem call_true28 {R : Orc} (hC : ConOk Tryz.prog R) {n f : Nat} {args : List AV} {σ : St} (h : goT Tryz.prog [] R (opMB Tryz.prog) n (.inr (.inr (.inr (.inr f)))) args σ isTrue)
    {w0 w : World} {e : Env} (hk : Ok w0 e σ w) {vs : List Value} (hvs : args.map (Reck.av e) = vs.map some) : Calls Tryz.prog f vs.toArray w fun en w' => en = .returned (.bool true) ∧ Only e.S w0 w' :=
  true_ok (ovs_of noOv) (names_of names) (opMB_ok Tryz.prog) hC h hk hvs
theorem rc_base {w : World} {s : RcI} (hs : s.ok w) : ∃ (R : List (List CV)) (q : Option Addr ⊕ (Nat × Nat)), CameR hopKs w s.A s.len s.cap R ∧ (∀ e, AOk w w (arE e) (hopB R) q) ∧ ∀ (e : Env) (a : Nat), e.arr[a]? = some q → Reck.cv e (rslC ⟨a, 3, 0, s.len, s.cap⟩) = some (.slice s.A s.len s.cap) := by
  obtain ⟨R, hR⟩ := hs.w
  obtain ⟨q, h1, h2⟩ := hR.base (by decide) 162
  exact ⟨R, q, hR, fun e => h2 _ rfl, fun e a h => h1 e a h⟩
theorem stateNil_walk (s : RcI) (w : World) (hs : s.ok w) (hg : GlobIs w 0 U.resWords) : Calls Tryz.prog 6 #[s.val] w fun e w' => e = .returned (.bool true) ∧ Only (fun _ => False) w w' := by
  obtain ⟨R, q, hR, h2, h1⟩ := rc_base hs
  have hok : Ok w (arE [.inr (0, 0), q]) ⟨[], [], 0, [U.resA, some (hopB R)], 0⟩ w := ok_arrs w (l := [globB 0 U.resWords, hopB R]) (bs := [.inr (0, 0), q]) rfl (by simp [hopB, globB]) (by
    intro i x q' hx hq
    match i with
    | 0 => simp at hx hq; subst hx; subst hq; exact globB_ok hg _ rfl
    | 1 => simp at hx hq; subst hx; subst hq; exact h2 _
    | i + 2 => simp at hx)
  exact call_true28 (conOk_ofR tSN_ok) (stateNil_run s.z0 s.z1 s.z2 s.z3 s.z4 s.z5 (bz s.s6) (bz s.s7) s.z8 s.z9 s.z10 s.z11 s.z12 s.z13 s.z14 s.z15 s.z16 (bz s.s17) (bz s.s18) (bz s.s19) (bz s.s20) s.z21 s.z22 s.z23 s.z24 s.z25 s.z26 s.z27 R s.len s.cap hR.2.1) hok (vs := [s.val]) (by
    simp only [List.map_cons, List.map_nil]
    rw [show rcC s.z0 s.z1 s.z2 s.z3 s.z4 s.z5 (bz s.s6) (bz s.s7) s.z8 s.z9 s.z10 s.z11 s.z12 s.z13 s.z14 s.z15 s.z16 (bz s.s17) (bz s.s18) (bz s.s19) (bz s.s20) s.z21 s.z22 s.z23 s.z24 s.z25 s.z26 s.z27 (rslC ⟨1, 3, 0, s.len, s.cap⟩) = s.cs 1 from rfl, rc_av s _ 1 (h1 _ 1 rfl)])
end Go.Proofs.YtcjcdimlcfegbaaGreatDoor
end
