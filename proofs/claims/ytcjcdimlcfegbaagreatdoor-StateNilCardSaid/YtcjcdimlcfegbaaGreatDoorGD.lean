/- Parts of a proof, one behind the other: RZ1 RZ2 RZ3 RZ4 JM1 JM2. No condition. -/
import Derived.Test.YtcjcdimlcfegbaaGreatDoorGA
import Derived.Test.YtcjcdimlcfegbaaGreatDoorRkZs
import Derived.Test.YtcjcdimlcfegbaaGreatDoorGB
section
namespace Go.Proofs.YtcjcdimlcfegbaaGreatDoor
open Go Reck Ost
set_option linter.unusedVariables false
set_option maxRecDepth 100000
abbrev runZ (inv : InvF) (tbl : Tbl) (f : Nat) (args : List AV) (σ : St) (K : AV → St → Prop) : Prop := goT Tryz.prog [] (orcR inv nmt tbl) (opMZ Tryz.prog (opMV Tryz.prog [129])) 3000 (.inr (.inr (.inr (.inr f)))) args σ (retC σ K)
--PLAIN
theorem rzIns_vc (K : AV → St → Prop) (v u : Value) (i : Int) : (runZ inv0 tbl0 114 [cell (opnC v), xi .i64 i, cell (opnC u)] emptySt K) = (∃ (y0 : Nat), ∃ (y1 : Nat), U.Zs v y0 y1 ∧ ((0 : Int) ≤ i ∧ i ≤ (↑y0 : Int)) ∧ ∀ (v'2 : Value) (n'3 c'4 : Nat), (↑n'3 : Int) = (↑y0 : Int) - i → (↑c'4 : Int) = (↑y1 : Int) - i → U.Zs v'2 n'3 c'4 → ∃ (y5 : Nat), ∃ (y6 : Nat), U.Zs u y5 y6 ∧ ∀ (z7 : Int), z7 = (↑y5 : Int) → (z7 = (0 : Int) → K (Sum.inl (Sum.inl (Sum.inr (Sum.inr (Sum.inr (Sum.inr (Sum.inr (Sum.inr (Sum.inr (Sum.inr (Sum.inr (Sum.inr (Sum.inr (Sum.inr (Sum.inr (Sum.inr v)))))))))))))))) { heap := [], ints := [], opqs := (0 : Nat), arrs := [], junks := (0 : Nat) }) ∧ (¬z7 = (0 : Int) → ∃ (y8 : Nat), ∃ (y9 : Nat), U.Zs v y8 y9 ∧ ∀ (z10 : Int), z10 = (↑y8 : Int) → (i = z10 → ∃ (y11 : Nat), ∃ (y12 : Nat), ∃ (y13 : Nat), U.Zs v y11 y12 ∧ (∃ (y14 : Nat), U.Zs u y13 y14) ∧ y11 + y13 ≤ (16777216 : Nat) ∧ ∀ (v'15 : Value) (c'16 : Nat), U.Zs v'15 (y11 + y13) c'16 → K (Sum.inl (Sum.inl (Sum.inr (Sum.inr (Sum.inr (Sum.inr (Sum.inr (Sum.inr (Sum.inr (Sum.inr (Sum.inr (Sum.inr (Sum.inr (Sum.inr (Sum.inr (Sum.inr v'15)))))))))))))))) { heap := [], ints := [], opqs := (0 : Nat), arrs := [], junks := (0 : Nat) }) ∧ (¬i = z10 → ∀ (z17 : Int), z17 = IntKind.wrap IntKind.i64 (z10 + z7) → ∃ (y18 : Nat), ∃ (y19 : Nat), U.Zs v y18 y19 ∧ ∀ (z20 : Int), z20 = (↑y19 : Int) → (z20 < z17 → ∃ (y21 : Nat), ∃ (y22 : Nat), U.Zs v y21 y22 ∧ ((0 : Int) ≤ (0 : Int) ∧ (0 : Int) ≤ i ∧ i ≤ (↑y22 : Int)) ∧ ∀ (v'23 : Value) (n'24 c'25 : Nat), (↑n'24 : Int) = i - (0 : Int) → (↑c'25 : Int) = (↑y22 : Int) - (0 : Int) → U.Zs v'23 n'24 c'25 → ∀ (z26 : Int), z26 = IntKind.wrap IntKind.i64 (z10 + z7) → ∀ (z27 : Int), z27 = IntKind.wrap IntKind.i64 (z26 - i) → ∃ (y28 : Nat), ∃ (y29 : Nat), ∃ (y30 : Nat), U.Zs v'23 y28 y29 ∧ (↑y30 : Int) = z27 ∧ y28 + y30 ≤ (16777216 : Nat) ∧ ∀ (v'31 : Value) (c'32 : Nat), U.Zs v'31 (y28 + y30) c'32 → ∃ (y33 : Nat), ∃ (y34 : Nat), U.Zs v'31 y33 y34 ∧ ((0 : Int) ≤ i ∧ i ≤ (↑y33 : Int)) ∧ ∀ (v'35 : Value) (n'36 c'37 : Nat), (↑n'36 : Int) = (↑y33 : Int) - i → (↑c'37 : Int) = (↑y34 : Int) - i → U.Zs v'35 n'36 c'37 → ∃ (y38 : Nat), ∃ (y39 : Nat), ∃ (y40 : Nat), ∃ (y41 : Nat), U.Zs v'35 y38 y39 ∧ U.Zs u y40 y41 ∧ ∀ (z42 : Int), z42 = (↑(min y40 y38) : Int) → ∀ (z43 : Int), z43 = IntKind.wrap IntKind.i64 (i + z7) → (∃ (y44 : Nat), ∃ (y45 : Nat), U.Zs v'31 y44 y45 ∧ ((0 : Int) ≤ z43 ∧ z43 ≤ (↑y44 : Int)) ∧ ∀ (v'46 : Value) (n'47 c'48 : Nat), (↑n'47 : Int) = (↑y44 : Int) - z43 → (↑c'48 : Int) = (↑y45 : Int) - z43 → U.Zs v'46 n'47 c'48 → ∃ (y49 : Nat), ∃ (y50 : Nat), U.Zs v y49 y50 ∧ ((0 : Int) ≤ i ∧ i ≤ (↑y49 : Int)) ∧ ∀ (v'51 : Value) (n'52 c'53 : Nat), (↑n'52 : Int) = (↑y49 : Int) - i → (↑c'53 : Int) = (↑y50 : Int) - i → U.Zs v'51 n'52 c'53 → ∃ (y54 : Nat), ∃ (y55 : Nat), ∃ (y56 : Nat), ∃ (y57 : Nat), U.Zs v'46 y54 y55 ∧ U.Zs v'51 y56 y57 ∧ ∀ (z58 : Int), z58 = (↑(min y56 y54) : Int) → K (Sum.inl (Sum.inl (Sum.inr (Sum.inr (Sum.inr (Sum.inr (Sum.inr (Sum.inr (Sum.inr (Sum.inr (Sum.inr (Sum.inr (Sum.inr (Sum.inr (Sum.inr (Sum.inr v'31)))))))))))))))) { heap := [], ints := [], opqs := (0 : Nat), arrs := [], junks := (0 : Nat) }) ∧ ∃ (y59 : Nat), ∃ (y60 : Nat), U.Zs v y59 y60 ∧ ((0 : Int) ≤ i ∧ i ≤ (↑y59 : Int)) ∧ ∀ (v'61 : Value) (n'62 c'63 : Nat), (↑n'62 : Int) = (↑y59 : Int) - i → (↑c'63 : Int) = (↑y60 : Int) - i → U.Zs v'61 n'62 c'63 → ∃ (y64 : Nat), ∃ (y65 : Nat), U.Zs v'31 y64 y65 ∧ ((0 : Int) ≤ z43 ∧ z43 ≤ (↑y64 : Int)) ∧ ∀ (v'66 : Value) (n'67 c'68 : Nat), (↑n'67 : Int) = (↑y64 : Int) - z43 → (↑c'68 : Int) = (↑y65 : Int) - z43 → U.Zs v'66 n'67 c'68 → ∃ (y69 : Nat), ∃ (y70 : Nat), ∃ (y71 : Nat), ∃ (y72 : Nat), U.Zs v'66 y69 y70 ∧ U.Zs v'61 y71 y72 ∧ ∀ (z73 : Int), z73 = (↑(min y71 y69) : Int) → K (Sum.inl (Sum.inl (Sum.inr (Sum.inr (Sum.inr (Sum.inr (Sum.inr (Sum.inr (Sum.inr (Sum.inr (Sum.inr (Sum.inr (Sum.inr (Sum.inr (Sum.inr (Sum.inr v'31)))))))))))))))) { heap := [], ints := [], opqs := (0 : Nat), arrs := [], junks := (0 : Nat) }) ∧ (¬z20 < z17 → ∀ (z74 : Int), z74 = IntKind.wrap IntKind.i64 (z10 + z7) → ∃ (y75 : Nat), ∃ (y76 : Nat), U.Zs v y75 y76 ∧ ((0 : Int) ≤ (0 : Int) ∧ (0 : Int) ≤ z74 ∧ z74 ≤ (↑y76 : Int)) ∧ ∀ (v'77 : Value) (n'78 c'79 : Nat), (↑n'78 : Int) = z74 - (0 : Int) → (↑c'79 : Int) = (↑y76 : Int) - (0 : Int) → U.Zs v'77 n'78 c'79 → ∀ (z80 : Int), z80 = IntKind.wrap IntKind.i64 (i + z7) → ∃ (y81 : Nat), ∃ (y82 : Nat), U.Zs v'77 y81 y82 ∧ ((0 : Int) ≤ z80 ∧ z80 ≤ (↑y81 : Int)) ∧ ∀ (v'83 : Value) (n'84 c'85 : Nat), (↑n'84 : Int) = (↑y81 : Int) - z80 → (↑c'85 : Int) = (↑y82 : Int) - z80 → U.Zs v'83 n'84 c'85 → ∃ (y86 : Nat), ∃ (y87 : Nat), ∃ (y88 : Nat), ∃ (y89 : Nat), U.Zs u y86 y87 ∧ U.Zs v'83 y88 y89 ∧ ∀ (z90 : Int), z90 = IntKind.wrap IntKind.i64 (i + z7) → (∃ (y91 : Nat), ∃ (y92 : Nat), U.Zs v'77 y91 y92 ∧ ((0 : Int) ≤ z90 ∧ z90 ≤ (↑y91 : Int)) ∧ ∀ (v'93 : Value) (n'94 c'95 : Nat), (↑n'94 : Int) = (↑y91 : Int) - z90 → (↑c'95 : Int) = (↑y92 : Int) - z90 → U.Zs v'93 n'94 c'95 → ∃ (y96 : Nat), ∃ (y97 : Nat), U.Zs v'77 y96 y97 ∧ ((0 : Int) ≤ i ∧ i ≤ (↑y96 : Int)) ∧ ∀ (v'98 : Value) (n'99 c'100 : Nat), (↑n'99 : Int) = (↑y96 : Int) - i → (↑c'100 : Int) = (↑y97 : Int) - i → U.Zs v'98 n'99 c'100 → ∃ (y101 : Nat), ∃ (y102 : Nat), ∃ (y103 : Nat), ∃ (y104 : Nat), U.Zs v'93 y101 y102 ∧ U.Zs v'98 y103 y104 ∧ ∀ (z105 : Int), z105 = (↑(min y103 y101) : Int) → ∃ (y106 : Nat), ∃ (y107 : Nat), U.Zs v'77 y106 y107 ∧ ((0 : Int) ≤ i ∧ i ≤ (↑y106 : Int)) ∧ ∀ (v'108 : Value) (n'109 c'110 : Nat), (↑n'109 : Int) = (↑y106 : Int) - i → (↑c'110 : Int) = (↑y107 : Int) - i → U.Zs v'108 n'109 c'110 → ∃ (y111 : Nat), ∃ (y112 : Nat), ∃ (y113 : Nat), ∃ (y114 : Nat), U.Zs v'108 y111 y112 ∧ U.Zs u y113 y114 ∧ ∀ (z115 : Int), z115 = (↑(min y113 y111) : Int) → K (Sum.inl (Sum.inl (Sum.inr (Sum.inr (Sum.inr (Sum.inr (Sum.inr (Sum.inr (Sum.inr (Sum.inr (Sum.inr (Sum.inr (Sum.inr (Sum.inr (Sum.inr (Sum.inr v'77)))))))))))))))) { heap := [], ints := [], opqs := (0 : Nat), arrs := [], junks := (0 : Nat) }) ∧ ∃ (y116 : Nat), ∃ (y117 : Nat), U.Zs v'77 y116 y117 ∧ ((0 : Int) ≤ i ∧ i ≤ (↑y116 : Int)) ∧ ∀ (v'118 : Value) (n'119 c'120 : Nat), (↑n'119 : Int) = (↑y116 : Int) - i → (↑c'120 : Int) = (↑y117 : Int) - i → U.Zs v'118 n'119 c'120 → ∃ (y121 : Nat), ∃ (y122 : Nat), U.Zs v'77 y121 y122 ∧ ((0 : Int) ≤ z90 ∧ z90 ≤ (↑y121 : Int)) ∧ ∀ (v'123 : Value) (n'124 c'125 : Nat), (↑n'124 : Int) = (↑y121 : Int) - z90 → (↑c'125 : Int) = (↑y122 : Int) - z90 → U.Zs v'123 n'124 c'125 → ∃ (y126 : Nat), ∃ (y127 : Nat), ∃ (y128 : Nat), ∃ (y129 : Nat), U.Zs v'123 y126 y127 ∧ U.Zs v'118 y128 y129 ∧ ∀ (z130 : Int), z130 = (↑(min y128 y126) : Int) → ∃ (y131 : Nat), ∃ (y132 : Nat), U.Zs v'77 y131 y132 ∧ ((0 : Int) ≤ i ∧ i ≤ (↑y131 : Int)) ∧ ∀ (v'133 : Value) (n'134 c'135 : Nat), (↑n'134 : Int) = (↑y131 : Int) - i → (↑c'135 : Int) = (↑y132 : Int) - i → U.Zs v'133 n'134 c'135 → ∃ (y136 : Nat), ∃ (y137 : Nat), ∃ (y138 : Nat), ∃ (y139 : Nat), U.Zs v'133 y136 y137 ∧ U.Zs u y138 y139 ∧ ∀ (z140 : Int), z140 = (↑(min y138 y136) : Int) → K (Sum.inl (Sum.inl (Sum.inr (Sum.inr (Sum.inr (Sum.inr (Sum.inr (Sum.inr (Sum.inr (Sum.inr (Sum.inr (Sum.inr (Sum.inr (Sum.inr (Sum.inr (Sum.inr v'77)))))))))))))))) { heap := [], ints := [], opqs := (0 : Nat), arrs := [], junks := (0 : Nat) })))) := by kernel_rfl
end Go.Proofs.YtcjcdimlcfegbaaGreatDoor
end

section
set_option linter.unusedVariables false
set_option linter.unusedSimpArgs false
set_option maxRecDepth 10000
namespace Go.Proofs.YtcjcdimlcfegbaaGreatDoor
open Go Reck Ost
theorem wuovK : [129].all (isOverlaps Tryz.prog) = true := by kernel_rfl
theorem zs_eq {v : Value} {n c m d : Nat} (h : U.Zs v n c) (g : U.Zs v m d) : n = m ∧ c = d := by
  obtain ⟨a, rfl, _⟩ := h
  obtain ⟨b, hb, _⟩ := g
  cases hb; exact ⟨rfl, rfl⟩
theorem rzIns_run (K : AV → St → Prop) (v u : Value) (n c m d : Nat) (i : Int) (hv : U.Zs v n c) (hu : U.Zs u m d) (hi : 0 ≤ i ∧ i ≤ n) (hn : n + m ≤ 1000000)
    (hK : ∀ (v' : Value) (c' : Nat), U.Zs v' (n + m) c' → K (cell (opnC v')) emptySt) :
    runZ inv0 tbl0 114 [cell (opnC v), xi .i64 i, cell (opnC u)] emptySt K := by
  rw [rzIns_vc]
  refine ⟨n, c, hv, ⟨by omega, by omega⟩, fun v2 n3 c4 h3 h4 hz2 => ⟨m, d, hu, fun z7 h7 => ⟨fun h0 => ?_, fun h0 => ⟨n, c, hv, fun z10 h10 => ⟨fun he => ?_, fun he z17 h17 => ⟨n, c, hv, fun z20 h20 => ⟨fun hlt => ?_, fun hge => ?_⟩⟩⟩⟩⟩⟩⟩
  · obtain rfl : m = 0 := by omega
    exact hK v c (by simpa using hv)
  · exact ⟨n, c, m, hv, ⟨d, hu⟩, by omega, fun v' c' h => hK v' c' h⟩
  · replace h17 := iw h17 (by omega)
    refine ⟨n, c, hv, ⟨by omega, by omega, by omega⟩, fun v23 n24 c25 h24 h25 hz23 z26 h26 z27 h27 => ?_⟩
    replace h26 := iw h26 (by omega)
    replace h27 := iw h27 (by omega)
    refine ⟨n24, c25, z27.toNat, hz23, by omega, by omega, fun v31 c32 hz31 => ?_⟩
    have hlen : n24 + z27.toNat = n + m := by omega
    rw [hlen] at hz31
    have hc32 : n + m ≤ c32 := by obtain ⟨_, _, h, _⟩ := hz31; exact h
    refine ⟨n + m, c32, hz31, ⟨by omega, by omega⟩, fun v35 n36 c37 h36 h37 hz35 => ⟨n36, c37, m, d, hz35, hu, fun z42 h42 z43 h43 => ?_⟩⟩
    replace h43 := iw h43 (by omega)
    refine ⟨⟨n + m, c32, hz31, ⟨by omega, by omega⟩, fun v46 n47 c48 h47 h48 hz46 => ⟨n, c, hv, ⟨by omega, by omega⟩, fun v51 n52 c53 h52 h53 hz51 => ⟨n47, c48, n52, c53, hz46, hz51, fun z58 h58 => hK v31 c32 hz31⟩⟩⟩, n, c, hv, ⟨by omega, by omega⟩, fun v61 n62 c63 h62 h63 hz61 => ⟨n + m, c32, hz31, ⟨by omega, by omega⟩, fun v66 n67 c68 h67 h68 hz66 => ⟨n67, c68, n62, c63, hz66, hz61, fun z73 h73 => hK v31 c32 hz31⟩⟩⟩
  · replace h17 := iw h17 (by omega)
    intro z74 h74
    replace h74 := iw h74 (by omega)
    refine ⟨n, c, hv, ⟨by omega, by omega, by omega⟩, fun v77 n78 c79 h78 h79 hz77 z80 h80 => ?_⟩
    obtain rfl : n78 = n + m := by omega
    replace h80 := iw h80 (by omega)
    have hc79 : n + m ≤ c79 := by omega
    refine ⟨n + m, c79, hz77, ⟨by omega, by omega⟩, fun v83 n84 c85 h84 h85 hz83 => ⟨m, d, n84, c85, hu, hz83, fun z90 h90 => ?_⟩⟩
    replace h90 := iw h90 (by omega)
    refine ⟨⟨n + m, c79, hz77, ⟨by omega, by omega⟩, fun v93 n94 c95 h94 h95 hz93 => ⟨n + m, c79, hz77, ⟨by omega, by omega⟩, fun v98 n99 c100 h99 h100 hz98 => ⟨n94, c95, n99, c100, hz93, hz98, fun z105 h105 => ⟨n + m, c79, hz77, ⟨by omega, by omega⟩, fun v108 n109 c110 h109 h110 hz108 => ⟨n109, c110, m, d, hz108, hu, fun z115 h115 => hK v77 c79 hz77⟩⟩⟩⟩⟩, n + m, c79, hz77, ⟨by omega, by omega⟩, fun v118 n119 c120 h119 h120 hz118 => ⟨n + m, c79, hz77, ⟨by omega, by omega⟩, fun v123 n124 c125 h124 h125 hz123 => ⟨n124, c125, n119, c120, hz123, hz118, fun z130 h130 => ⟨n + m, c79, hz77, ⟨by omega, by omega⟩, fun v133 n134 c135 h134 h135 hz133 => ⟨n134, c135, m, d, hz133, hu, fun z140 h140 => hK v77 c79 hz77⟩⟩⟩⟩⟩
/-- An argument that stands for an open value. -/
theorem as_opn {e : Env} {x : AV} {v u : Value} (h : zv x = some v) (hu : Reck.av e x = some u) (ho : v.oneCell' = true) : Reck.av e (cell (opnC v)) = some u := by
  rw [zv_ok h hu]; exact opnC_av ho
def pInsZ : Pat := fun args σ => match args, σ with
  | [s, i, u], ⟨[], [], 0, [], 0⟩ => match zv s, intX i, zv u with
    | some v, some (.i64, i), some u => some fun K => ∃ n c m d : Nat, (U.Zs v n c ∧ U.Zs u m d ∧ (0 ≤ i ∧ i ≤ n) ∧ n + m ≤ 1000000) ∧ ∀ (v' : Value) (n' c' : Nat), n' = n + m → U.Zs v' n' c' → K (cell (opnC v')) emptySt
    | _, _, _ => none
  | _, _ => none
theorem pInsZ_ok : PatOk 114 pInsZ := by
  intro tm σ C h K hK w0 e w hk vs hvs
  unfold pInsZ at h
  split at h
  · split at h
    · rename_i v i u h1 h2 h3
      simp only [Option.some.injEq] at h; subst h
      obtain ⟨n, c, m, d, ⟨g1, g2, g3, g4⟩, hK⟩ := hK
      obtain ⟨x, y, z, rfl, q1, q2, q3⟩ := threes hvs
      exact knownD noOv names (opMZ_ok (opMV_ok wuovK)) (conOk_ofR tbl0_ok) (rzIns_run K v u n c m d i g1 g2 g3 g4 (fun v' c' hz => hK v' _ c' rfl hz)) w0 e w hk _ (map3 (as_opn h1 q1 (zs_one g1)) (as_int h2 q2) (as_opn h3 q3 (zs_one g2)))
    · cases h
  · cases h
end Go.Proofs.YtcjcdimlcfegbaaGreatDoor
end

section
namespace Go.Proofs.YtcjcdimlcfegbaaGreatDoor
open Go Reck Ost
set_option linter.unusedVariables false
set_option maxRecDepth 100000
def rztSh : Tbl := tblOr wutSh (tblIf 114 pInsZ)
theorem rztSh_ok : TblOk Tryz.prog rztSh := tblOr_ok wutSh_ok (tblIf_ok pInsZ_ok)
def rzB (a : Cell) (v : Value) (m : Int) : Option Blk := some ⟨136, [a, opnC v, xintC .i64 m], none, 3, false⟩
def rzSt (n c : Nat) (L : Rws) (v : Value) (m : Int) : St := ⟨[rzB (rslC ⟨0, 1, 0, n, c⟩) v m], [], 0, [some (wukB L c)], 0⟩
--PLAIN
theorem rzNew_vc (K : AV → St → Prop) (m : Int) : (runV wuov inv0 tbl0 41 [xi .i64 m] emptySt K) = (K (Sum.inl (Sum.inl (Sum.inr (Sum.inl ((0 : Nat), (0 : Nat)))))) { heap := [some { elem := nat_lit 136, cells := [Sum.inl (Value.slice none (0 : Nat) (0 : Nat)), Sum.inl (Value.slice none (0 : Nat) (0 : Nat)), Sum.inr (Sum.inr (Sum.inr (Sum.inr (Sum.inr (Sum.inr (Sum.inl (IntKind.i64, m)))))))], j := none, c := (0 : Nat) + (1 : Nat) + (1 : Nat) + (1 : Nat), z := false }], ints := [], opqs := (0 : Nat), arrs := [], junks := (0 : Nat) }) := by kernel_rfl
theorem rzSet_vc (K : AV → St → Prop) (L : Rws) (v : Value) (n c : Nat) (m : Int) (k : List Int) : (runZ inv0 rztSh 80 [ptr 0 0, cell (strC k), .inl (.inr [])] (rzSt n c L v m) K) = ((c = c ∧ n ≤ List.length L ∧ n ≤ (1000000 : Nat) ∧ U.wuSrtR L n) ∧ ∀ (z0 : Int), U.wuAt L n k z0 → (U.wuHasAt L n k z0 → ∃ (y1 : Nat), ∃ (y2 : Nat), U.Zs v y1 y2 ∧ ((0 : Int) ≤ z0 ∧ z0 < (↑y1 : Int)) ∧ ∀ (p3 : Value), U.Zp p3 → v = v ∧ U.Zp p3 ∧ K (Sum.inl (Sum.inl (Sum.inr (Sum.inr (Sum.inr (Sum.inr (Sum.inr (Sum.inr (Sum.inl (IntKind.i64, (0 : Int))))))))))) { heap := [some { elem := nat_lit 136, cells := [Sum.inr (Sum.inr (Sum.inr (Sum.inr (Sum.inr (Sum.inr (Sum.inr (Sum.inr (Sum.inr (Sum.inr (Sum.inr (Sum.inl { a := (0 : Nat), u := (1 : Nat), o := (0 : Nat), n := n, c := c }))))))))))), Sum.inr (Sum.inr (Sum.inr (Sum.inr (Sum.inr (Sum.inr (Sum.inr (Sum.inr (Sum.inr (Sum.inr (Sum.inr (Sum.inr (Sum.inr (Sum.inr v))))))))))))), Sum.inr (Sum.inr (Sum.inr (Sum.inr (Sum.inr (Sum.inr (Sum.inl (IntKind.i64, m)))))))], j := none, c := (3 : Nat), z := false }], ints := [], opqs := (0 : Nat), arrs := [some { elem := (9 : Nat), k := AK.o (Obj.rows [CK.s] L), l := [], cap := c, ro := false }], junks := (0 : Nat) }) ∧ (¬U.wuHasAt L n k z0 → ∀ (z4 : Int), z4 = (↑n : Int) → (m ≤ z4 → K (Sum.inl (Sum.inl (Sum.inr (Sum.inr (Sum.inr (Sum.inr (Sum.inr (Sum.inr (Sum.inl (IntKind.i64, (4 : Int))))))))))) { heap := [some { elem := nat_lit 136, cells := [Sum.inr (Sum.inr (Sum.inr (Sum.inr (Sum.inr (Sum.inr (Sum.inr (Sum.inr (Sum.inr (Sum.inr (Sum.inr (Sum.inl { a := (0 : Nat), u := (1 : Nat), o := (0 : Nat), n := n, c := c }))))))))))), Sum.inr (Sum.inr (Sum.inr (Sum.inr (Sum.inr (Sum.inr (Sum.inr (Sum.inr (Sum.inr (Sum.inr (Sum.inr (Sum.inr (Sum.inr (Sum.inr v))))))))))))), Sum.inr (Sum.inr (Sum.inr (Sum.inr (Sum.inr (Sum.inr (Sum.inl (IntKind.i64, m)))))))], j := none, c := (3 : Nat), z := false }], ints := [], opqs := (0 : Nat), arrs := [some { elem := (9 : Nat), k := AK.o (Obj.rows [CK.s] L), l := [], cap := c, ro := false }], junks := (0 : Nat) }) ∧ (¬m ≤ z4 → ∃ (y5 : Rws), (c = c ∧ U.Fu L n c y5 ∧ ((0 : Int) ≤ z0 ∧ z0 ≤ (↑n : Int)) ∧ n + (1 : Nat) ≤ (1000000 : Nat)) ∧ ∀ (n'6 c'7 : Nat) (L'8 : Rws), n'6 = n + (1 : Nat) → U.Fu L'8 n'6 c'7 (U.insR y5 z0 [CV.s k]) → ∀ (v'9 : Value), U.Zs v'9 (1 : Nat) (1 : Nat) → v = v ∧ ∃ (y10 : Nat), ∃ (y11 : Nat), ∃ (y12 : Nat), ∃ (y13 : Nat), (U.Zs v y10 y11 ∧ U.Zs v'9 y12 y13 ∧ ((0 : Int) ≤ z0 ∧ z0 ≤ (↑y10 : Int)) ∧ y10 + y12 ≤ (1000000 : Nat)) ∧ ∀ (v'14 : Value) (n'15 c'16 : Nat), n'15 = y10 + y12 → U.Zs v'14 n'15 c'16 → v = v ∧ K (Sum.inl (Sum.inl (Sum.inr (Sum.inr (Sum.inr (Sum.inr (Sum.inr (Sum.inr (Sum.inl (IntKind.i64, (0 : Int))))))))))) { heap := [some { elem := nat_lit 136, cells := [Sum.inr (Sum.inr (Sum.inr (Sum.inr (Sum.inr (Sum.inr (Sum.inr (Sum.inr (Sum.inr (Sum.inr (Sum.inr (Sum.inl { a := (1 : Nat), u := (1 : Nat), o := (0 : Nat), n := n'6, c := c'7 }))))))))))), Sum.inr (Sum.inr (Sum.inr (Sum.inr (Sum.inr (Sum.inr (Sum.inr (Sum.inr (Sum.inr (Sum.inr (Sum.inr (Sum.inr (Sum.inr (Sum.inr v'14))))))))))))), Sum.inr (Sum.inr (Sum.inr (Sum.inr (Sum.inr (Sum.inr (Sum.inl (IntKind.i64, m)))))))], j := none, c := (3 : Nat), z := false }], ints := [], opqs := (0 : Nat), arrs := [none, some { elem := (9 : Nat), k := AK.o (Obj.rows [CK.s] L'8), l := [], cap := c'7, ro := false }], junks := (0 : Nat) }))) := by kernel_rfl
theorem rzGet_vc (K : AV → St → Prop) (L : Rws) (v : Value) (n c : Nat) (m : Int) (k : List Int) : (runZ inv0 rztSh 107 [ptr 0 0, cell (strC k)] (rzSt n c L v m) K) = ((c = c ∧ n ≤ List.length L ∧ n ≤ (1000000 : Nat) ∧ U.wuSrtR L n) ∧ ∀ (z0 : Int), U.wuAt L n k z0 → (U.wuHasAt L n k z0 → ∃ (y1 : Nat), ∃ (y2 : Nat), U.Zs v y1 y2 ∧ ((0 : Int) ≤ z0 ∧ z0 < (↑y1 : Int)) ∧ ∀ (p3 : Value), U.Zp p3 → U.Zp p3 ∧ K (Sum.inr [Sum.inr [], Sum.inl (Sum.inl (Value.bool true))]) { heap := [some { elem := nat_lit 136, cells := [Sum.inr (Sum.inr (Sum.inr (Sum.inr (Sum.inr (Sum.inr (Sum.inr (Sum.inr (Sum.inr (Sum.inr (Sum.inr (Sum.inl { a := (0 : Nat), u := (1 : Nat), o := (0 : Nat), n := n, c := c }))))))))))), Sum.inr (Sum.inr (Sum.inr (Sum.inr (Sum.inr (Sum.inr (Sum.inr (Sum.inr (Sum.inr (Sum.inr (Sum.inr (Sum.inr (Sum.inr (Sum.inr v))))))))))))), Sum.inr (Sum.inr (Sum.inr (Sum.inr (Sum.inr (Sum.inr (Sum.inl (IntKind.i64, m)))))))], j := none, c := (3 : Nat), z := false }], ints := [], opqs := (0 : Nat), arrs := [some { elem := (9 : TypeId), k := AK.o (Obj.rows [CK.s] L), l := [], cap := c, ro := false }], junks := (0 : Nat) }) ∧ (¬U.wuHasAt L n k z0 → K (Sum.inr [Sum.inr [], Sum.inl (Sum.inl (Value.bool false))]) { heap := [some { elem := nat_lit 136, cells := [Sum.inr (Sum.inr (Sum.inr (Sum.inr (Sum.inr (Sum.inr (Sum.inr (Sum.inr (Sum.inr (Sum.inr (Sum.inr (Sum.inl { a := (0 : Nat), u := (1 : Nat), o := (0 : Nat), n := n, c := c }))))))))))), Sum.inr (Sum.inr (Sum.inr (Sum.inr (Sum.inr (Sum.inr (Sum.inr (Sum.inr (Sum.inr (Sum.inr (Sum.inr (Sum.inr (Sum.inr (Sum.inr v))))))))))))), Sum.inr (Sum.inr (Sum.inr (Sum.inr (Sum.inr (Sum.inr (Sum.inl (IntKind.i64, m)))))))], j := none, c := (3 : Nat), z := false }], ints := [], opqs := (0 : Nat), arrs := [some { elem := (9 : TypeId), k := AK.o (Obj.rows [CK.s] L), l := [], cap := c, ro := false }], junks := (0 : Nat) })) := by kernel_rfl
theorem rzKeys_vc (K : AV → St → Prop) (L : Rws) (v : Value) (n c : Nat) (m : Int) : (runQ inv0 tbl0 59 [ptr 0 0] (rzSt n c L v m) K) = ((n = (0 : Nat) → K (Sum.inl (Sum.inl (Sum.inr (Sum.inr (Sum.inr (Sum.inr (Sum.inr (Sum.inr (Sum.inr (Sum.inr (Sum.inr (Sum.inr (Sum.inr (Sum.inl { a := (1 : Nat), u := (0 : Nat) + (1 : Nat), o := (0 : Nat), n := (0 : Nat), c := (0 : Nat) })))))))))))))) { heap := [some { elem := nat_lit 136, cells := [Sum.inr (Sum.inr (Sum.inr (Sum.inr (Sum.inr (Sum.inr (Sum.inr (Sum.inr (Sum.inr (Sum.inr (Sum.inr (Sum.inl { a := (0 : Nat), u := (1 : Nat), o := (0 : Nat), n := n, c := c }))))))))))), Sum.inr (Sum.inr (Sum.inr (Sum.inr (Sum.inr (Sum.inr (Sum.inr (Sum.inr (Sum.inr (Sum.inr (Sum.inr (Sum.inr (Sum.inr (Sum.inr v))))))))))))), Sum.inr (Sum.inr (Sum.inr (Sum.inr (Sum.inr (Sum.inr (Sum.inl (IntKind.i64, m)))))))], j := none, c := (3 : Nat), z := false }], ints := [], opqs := (0 : Nat), arrs := [some { elem := (9 : TypeId), k := AK.o (Obj.rows [CK.s] L), l := [], cap := c, ro := false }, some { elem := (9 : Nat), k := AK.o (Obj.rows [CK.s] U.nilL), l := [], cap := (0 : Nat), ro := false }], junks := (0 : Nat) }) ∧ True ∧ Nat.le ((0 : Nat) + n) (List.length L) ∧ (0 : Nat) ≤ (16777216 : Nat) ∧ n ≤ (16777216 : Nat) ∧ ∀ (L'0 : List (List CV)) (n'1 c'2 : Nat), L'0 = U.nilL ++ List.take n (List.drop ((0 : Nat)) L) → n'1 = (0 : Nat) + n → n'1 ≤ c'2 → K (Sum.inl (Sum.inl (Sum.inr (Sum.inr (Sum.inr (Sum.inr (Sum.inr (Sum.inr (Sum.inr (Sum.inr (Sum.inr (Sum.inr (Sum.inr (Sum.inl { a := (1 : Nat), u := (0 : Nat) + (1 : Nat), o := (0 : Nat), n := n'1, c := c'2 })))))))))))))) { heap := [some { elem := nat_lit 136, cells := [Sum.inr (Sum.inr (Sum.inr (Sum.inr (Sum.inr (Sum.inr (Sum.inr (Sum.inr (Sum.inr (Sum.inr (Sum.inr (Sum.inl { a := (0 : Nat), u := (1 : Nat), o := (0 : Nat), n := n, c := c }))))))))))), Sum.inr (Sum.inr (Sum.inr (Sum.inr (Sum.inr (Sum.inr (Sum.inr (Sum.inr (Sum.inr (Sum.inr (Sum.inr (Sum.inr (Sum.inr (Sum.inr v))))))))))))), Sum.inr (Sum.inr (Sum.inr (Sum.inr (Sum.inr (Sum.inr (Sum.inl (IntKind.i64, m)))))))], j := none, c := (3 : Nat), z := false }], ints := [], opqs := (0 : Nat), arrs := [some { elem := (9 : TypeId), k := AK.o (Obj.rows [CK.s] L), l := [], cap := c, ro := false }, some { elem := (9 : Nat), k := AK.o (Obj.rows [CK.s] L'0), l := [], cap := c'2, ro := false }], junks := (0 : Nat) }) := by kernel_rfl
end Go.Proofs.YtcjcdimlcfegbaaGreatDoor
end

section
set_option linter.unusedVariables false
set_option linter.unusedSimpArgs false
set_option maxRecDepth 10000
namespace Go.Proofs.YtcjcdimlcfegbaaGreatDoor
open Go Reck Ost
/-- What such a shelf has: names, each with nothing. -/
structure U.rzI (n c : Nat) (L : Rws) (v : Value) (P : WUP) : Prop where
  sh : U.wushI n c L n (U.wuvs P) P
  z : ∃ c', U.Zs v n c'
theorem rz_mk {n c : Nat} {L : Rws} {v : Value} {P : WUP} (hk : U.Fu L n c (U.wuks P)) (hs : U.wuSrt P) (hz : ∃ c', U.Zs v n c') : U.rzI n c L v P := by
  refine ⟨⟨hk, ?_, hs⟩, hz⟩
  have hl : (U.wuvs P).length = n := by have := hk.n; simpa [U.wuks, U.wuvs] using this
  exact ⟨(List.take_of_length_le (by omega)).symm, hl, Nat.le_refl _, hk.sm⟩
def rzNw (n c : Nat) (L : Rws) (v : Value) (m : Int) : St := ⟨[rzB (rslC ⟨1, 1, 0, n, c⟩) v m], [], 0, [none, some (wukB L c)], 0⟩
theorem rzSet_run (K : AV → St → Prop) (L : Rws) (v : Value) (n c : Nat) (m : Int) (k : List Int) (P : WUP) (h : U.rzI n c L v P) (hn : n ≤ 100000)
    (h1 : U.wuHasK P k → ∀ P' : WUP, U.wuPut P k ⟨0, 0⟩ P' → U.rzI n c L v P' → K (xi .i64 0) (rzSt n c L v m))
    (h2 : ¬ U.wuHasK P k → m ≤ n → K (xi .i64 4) (rzSt n c L v m))
    (h3 : ¬ U.wuHasK P k → (n : Int) < m → ∀ (L' : Rws) (n' c' : Nat) (v' : Value) (P' : WUP), n' = n + 1 → U.wuPut P k ⟨0, 0⟩ P' → U.rzI n' c' L' v' P' → K (xi .i64 0) (rzNw n' c' L' v' m)) :
    runZ inv0 rztSh 80 [ptr 0 0, cell (strC k), .inl (.inr [])] (rzSt n c L v m) K := by
  have hPn := wushI_n h.sh
  have hl := h.sh.kf.len
  have hle := h.sh.kf.le
  obtain ⟨d, hz⟩ := h.z
  have G : ∀ (z : Nat), U.wuAt L n k z → (U.wuHasAt L n k z ↔ U.wuHasK P k) := fun z ha => wuhas_iff h.sh ha
  rw [rzSet_vc]
  refine ⟨⟨rfl, by omega, by omega, wusrt_R h.sh⟩, fun z ha => ?_⟩
  have hb := ha.b
  obtain ⟨z, rfl⟩ : ∃ y : Nat, z = y := ⟨z.toNat, by omega⟩
  refine ⟨fun hx => ⟨n, d, hz, ⟨by omega, by have := hx.out.1; omega⟩, fun p3 hp3 => ?_⟩, fun hx z4 h4 => ⟨fun hfull => ?_, fun hroom => ⟨U.wuks P, ⟨rfl, h.sh.kf, by omega, by omega⟩, fun n6 c7 L8 e6 e8 v9 hv9 => ?_⟩⟩⟩
  · obtain ⟨q1, q2, q3⟩ := wuput_has h.sh ha hx ⟨0, 0⟩
    repeat' (first | exact rfl | exact hp3 | with_reducible apply And.intro)
    exact h1 ((G z ha).1 hx) _ q1 (rz_mk (by rw [q2]; exact h.sh.kf) q1.srt h.z)
  · exact h2 (fun hy => hx ((G z ha).2 hy)) (by omega)
  · obtain ⟨q1, q2, q3⟩ := wuput_non h.sh ha (fun hy => hx ((G z ha).2 hy)) ⟨0, 0⟩
    repeat (first | refine ⟨rfl, ?_⟩ | refine ⟨⟨rfl, rfl, rfl⟩, ?_⟩)
    refine ⟨n, d, 1, 1, ⟨hz, hv9, by omega, by omega⟩, fun v14 n15 c16 e15 e16 => ?_⟩
    repeat' (first | exact rfl | with_reducible apply And.intro)
    exact h3 (fun hy => hx ((G z ha).2 hy)) (by omega) _ _ _ _ _ e6 q1 (rz_mk (by rw [q2]; exact e8) q1.srt ⟨c16, by rw [e6, ← e15]; exact e16⟩)
theorem rzGet_run (K : AV → St → Prop) (L : Rws) (v : Value) (n c : Nat) (m : Int) (k : List Int) (P : WUP) (h : U.rzI n c L v P) (hn : n ≤ 100000)
    (hT : U.wuHasK P k → K (.inr [.inr [], .inl (.inl (.bool true))]) (rzSt n c L v m)) (hF : ¬ U.wuHasK P k → K (.inr [.inr [], .inl (.inl (.bool false))]) (rzSt n c L v m)) :
    runZ inv0 rztSh 107 [ptr 0 0, cell (strC k)] (rzSt n c L v m) K := by
  rw [rzGet_vc]
  have hl := h.sh.kf.len
  have hle := h.sh.kf.le
  obtain ⟨d, hz⟩ := h.z
  refine ⟨⟨rfl, by omega, by omega, wusrt_R h.sh⟩, fun z ha => ?_⟩
  have hb := ha.b
  obtain ⟨z, rfl⟩ : ∃ y : Nat, z = y := ⟨z.toNat, by omega⟩
  exact ⟨fun hx => ⟨n, d, hz, ⟨by omega, by have := hx.out.1; omega⟩, fun p3 hp3 => ⟨hp3, hT ((wuhas_iff h.sh ha).1 hx)⟩⟩, fun hx => hF (fun hy => hx ((wuhas_iff h.sh ha).2 hy))⟩
theorem rzKeys_run (K : AV → St → Prop) (L : Rws) (v : Value) (n c : Nat) (m : Int) (P : WUP) (h : U.rzI n c L v P)
    (hK : ∀ (L' : Rws) (n' c' : Nat), n' = n → n' ≤ c' → L' = U.wuks P → K (cell (rslC ⟨1, 1, 0, n', c'⟩)) ⟨[rzB (rslC ⟨0, 1, 0, n, c⟩) v m], [], 0, [some (wukB L c), some (wukB L' c')], 0⟩) :
    runQ inv0 tbl0 59 [ptr 0 0] (rzSt n c L v m) K := by
  rw [rzKeys_vc]
  have hv := h.sh.kf.n
  have hl2 := h.sh.kf.len
  have hle2 := h.sh.kf.le
  have hsm := h.sh.kf.sm
  refine ⟨fun h0 => hK [] 0 0 h0.symm (Nat.le_refl _) (List.eq_nil_of_length_eq_zero (by omega)).symm, trivial, (by omega : 0 + n ≤ L.length), by omega, by omega, fun L0 n1 c2 e0 e1 e2 => ?_⟩
  obtain rfl : n1 = n := by omega
  refine hK L0 n1 c2 rfl e2 ?_
  rw [e0, List.drop_zero, h.sh.kf.eq]; rfl
/-- The state of such a shelf. -/
def rzC (p : Option Blk) (a1 : Option ABlk) : Option (Nat × Nat × Rws × Value × Int) :=
  match p, a1 with
  | some ⟨136, [a, b, m], none, 3, false⟩, some ⟨9, .o (.rows [.s] L), [], c0, false⟩ => match cRsl a, opnX b, cInt m with
    | some ⟨0, 1, 0, n, c⟩, some v, some m => some (n, c0, L, v, m)
    | _, _, _ => none
  | _, _ => none
def rzD (p : Option Blk) (a1 : Option ABlk) : Prop :=
  match p, a1 with
  | some ⟨_, [a, _, _], _, _, _⟩, some ⟨_, _, _, c0, _⟩ => match cRsl a with
    | some ⟨_, _, _, n, c⟩ => c = c0
    | _ => False
  | _, _ => False
theorem rzC_eq {p : Option Blk} {a1 : Option ABlk} {n c : Nat} {L : Rws} {v : Value} {m : Int} (h : rzC p a1 = some (n, c, L, v, m)) (hy : rzD p a1) : p = rzB (rslC ⟨0, 1, 0, n, c⟩) v m ∧ a1 = some (wukB L c) := by
  unfold rzC at h
  split at h
  · split at h
    · rename_i h1 h2 h3
      simp only [Option.some.injEq, Prod.mk.injEq] at h
      obtain ⟨rfl, rfl, rfl, rfl, rfl⟩ := h
      simp only [rzD, h1] at hy
      obtain rfl := hy
      rw [cRsl_eq h1, opnX_eq h2, cInt_eq h3]
      exact ⟨rfl, rfl⟩
    · cases h
  · cases h
theorem rzmv {w0 w : World} {e : Env} {n c : Nat} {L : Rws} {v : Value} {m : Int} {H : List (Option Blk)} (h : Ok w0 e ⟨rzB (rslC ⟨0, 1, 0, n, c⟩) v m :: H, [], 0, [some (wukB L c)], 0⟩ w) :
    ∃ e', e.le e' ∧ Ok w0 e' ⟨rzB (rslC ⟨1, 1, 0, n, c⟩) v m :: H, [], 0, [none, some (wukB L c)], 0⟩ w := by
  have hb : ∃ q, e.blk[0]? = some q := by
    have := h.blks
    exact ⟨_, List.getElem?_eq_getElem (by rw [this]; exact Nat.succ_pos _)⟩
  obtain ⟨q, hq⟩ := hb
  obtain ⟨_, cur, fz, _, hc, _⟩ := h.blk 0 _ q rfl hq
  obtain ⟨v0, a0, _⟩ := hc 0 _ rfl
  obtain ⟨v1, a1, _⟩ := hc 1 _ rfl
  have b0 : Reck.av e (cell (rslC ⟨0, 1, 0, n, c⟩)) = some v0 := a0
  obtain ⟨q1, m1, k1⟩ := h.mvRows (i := 0) (b := wukB L c) rfl rfl rfl b0
  have le := le_arr e q1
  refine ⟨_, le, ?_⟩
  exact k1.reCell (i := 0) (cells' := [rslC ⟨1, 1, 0, n, c⟩, opnC v, xintC .i64 m]) rfl (by
    intro j c' hc'
    match j, hc' with
    | 0, hc' => simp at hc'; subst hc'; exact ⟨_, _, rfl, cv_mono le _ _ a0, m1⟩
    | 1, hc' => simp at hc'; subst hc'; exact ⟨_, _, rfl, cv_mono le _ _ a1, cv_mono le _ _ a1⟩
    | 2, hc' => simp at hc'; subst hc'; exact ⟨_, _, rfl, rfl, rfl⟩
    | n + 3, hc' => simp at hc')
def rzpNew : Pat := fun args σ => match args, σ with
  | [m], ⟨[], [], 0, [], 0⟩ => match aInt m with
    | some m => some fun K => K (ptr 0 0) ⟨[rzB (rslC ⟨0, 1, 0, 0, 0⟩) (.slice none 0 0) m], [], 0, [some (wukB [] 0)], 0⟩
    | _ => none
  | _, _ => none
theorem rzpNew_ok : PatOk 41 rzpNew := by
  intro tm σ C h K hK w0 e w hk vs hvs
  unfold rzpNew at h
  split at h
  · split at h
    · rename_i m hm
      simp only [Option.some.injEq] at h; subst h
      obtain ⟨v, rfl, hv⟩ := ones hvs
      refine (knownD noOv names (opMV_ok wuovOk) (conOk_ofR tbl0_ok) (show runV wuov inv0 tbl0 41 [xi .i64 m] emptySt (fun x σ' => x = ptr 0 0 ∧ σ' = ⟨[some ⟨136, [.inl (.slice none 0 0), .inl (.slice none 0 0), xintC .i64 m], none, 3, false⟩], [], 0, [], 0⟩) by rw [rzNew_vc]; exact ⟨rfl, rfl⟩) w0 e w hk _ (map1 (as_aInt hm hv))).mono ?_
      rintro en w' ⟨x, σ', e', v', h1, h2, h3, h4, rfl, rfl⟩
      obtain ⟨k1, c1⟩ := h4.addNone 9 [.s] 1
      have k3 := k1.reCell (i := 0) (cells' := [rslC ⟨0, 1, 0, 0, 0⟩, opnC (.slice none 0 0), xintC .i64 m]) rfl (by
        intro j c' hc'
        match j, hc' with
        | 0, hc' => simp at hc'; subst hc'; exact ⟨_, _, rfl, rfl, c1⟩
        | 1, hc' => simp at hc'; subst hc'; exact ⟨_, _, rfl, rfl, rfl⟩
        | 2, hc' => simp at hc'; subst hc'; exact ⟨_, _, rfl, rfl, rfl⟩
        | n + 3, hc' => simp at hc')
      exact ⟨_, _, _, v', h1, h2.trans (le_arr e' (.inl none)), av_mono (le_arr e' (.inl none)) _ _ h3, k3, hK⟩
    · cases h
  · cases h
theorem as_emp {e : Env} {x : AV} {u : Value} (h : isEmp x = true) (hu : Reck.av e x = some u) : Reck.av e (.inl (.inr [])) = some u := by
  rw [emp_av h hu]; rfl
def rzpSet : Pat := fun args σ => match args, σ with
  | [.inl (.inl (.inr (.inl (0, 0)))), k, x], ⟨[p], [], 0, [a1], 0⟩ => match strX k, isEmp x, rzC p a1 with
    | some k, true, some (n, c, L, v, m) => some fun K => ∃ P, (rzD p a1 ∧ U.rzI n c L v P ∧ n ≤ 100000) ∧
      (U.wuRoom P k m → ∀ (L' : Rws) (n' c' : Nat) (v' : Value) (P' : WUP), n' = U.wulen P' → U.wuPut P k ⟨0, 0⟩ P' → U.rzI n' c' L' v' P' → K (xi .i64 0) (rzNw n' c' L' v' m)) ∧
      (¬ U.wuRoom P k m → K (xi .i64 4) (rzSt n c L v m))
    | _, _, _ => none
  | _, _ => none
theorem rzpSet_ok : PatOk 80 rzpSet := by
  intro tm σ C h K hK w0 e w hk vs hvs
  unfold rzpSet at h
  split at h
  · split at h
    · rename_i k n c L v m hkk hl hσ
      simp only [Option.some.injEq] at h; subst h
      obtain ⟨P, ⟨hy, h1, h2⟩, h3, h4⟩ := hK
      obtain ⟨rfl, rfl⟩ := rzC_eq hσ hy
      obtain ⟨x, y, z, rfl, q1, q2, q3⟩ := threes hvs
      have hn := wushI_n h1.sh
      refine (knownD noOv names (opMZ_ok (opMV_ok wuovK)) (conOk_ofR rztSh_ok) (rzSet_run (fun x σ' => (x = xi .i64 0 ∧ U.wuRoom P k m ∧ ∃ (L' : Rws) (n' c' : Nat) (v' : Value) (P' : WUP), n' = P'.length ∧ U.wuPut P k ⟨0, 0⟩ P' ∧ U.rzI n' c' L' v' P' ∧ (σ' = rzSt n' c' L' v' m ∨ σ' = rzNw n' c' L' v' m)) ∨ (x = xi .i64 4 ∧ ¬ U.wuRoom P k m ∧ σ' = rzSt n c L v m)) L v n c m k P h1 h2 ?_ ?_ ?_) w0 e w hk _ (map3 q1 (as_str hkk q2) (as_emp hl q3))).mono ?_
      · exact fun hh P' hp hi => .inl ⟨rfl, ⟨.inl hh⟩, L, n, c, v, P', by rw [hp.has hh, hn], hp, hi, .inl rfl⟩
      · exact fun hh hm => .inr ⟨rfl, fun ⟨hx⟩ => hx.elim hh (fun h => by omega), rfl⟩
      · exact fun hh hm L' n' c' v' P' he hp hi => .inl ⟨rfl, ⟨.inr (by omega)⟩, L', n', c', v', P', by rw [hp.non hh]; omega, hp, hi, .inr rfl⟩
      · rintro en' w' ⟨x, σ', e', v2, g1, g2, g3, g4, hw⟩
        rcases hw with ⟨rfl, hr, L', n', c', v', P', f1, f2, f3, rfl | rfl⟩ | ⟨rfl, hr, rfl⟩
        · obtain ⟨e2, l2, k2⟩ := rzmv g4
          exact ⟨_, _, e2, v2, g1, g2.trans l2, av_mono l2 _ _ g3, k2, h3 hr L' n' c' v' P' f1 f2 f3⟩
        · exact ⟨_, _, e', v2, g1, g2, g3, g4, h3 hr L' n' c' v' P' f1 f2 f3⟩
        · exact ⟨_, _, e', v2, g1, g2, g3, g4, h4 hr⟩
    · cases h
  · cases h
def rzpGet : Pat := fun args σ => match args, σ with
  | [.inl (.inl (.inr (.inl (0, 0)))), k], ⟨[p], [], 0, [a1], 0⟩ => match strX k, rzC p a1 with
    | some k, some (n, c, L, v, m) => some fun K => ∃ P, (rzD p a1 ∧ U.rzI n c L v P ∧ n ≤ 100000) ∧ (U.wuHasK P k → K (.inr [.inr [], .inl (.inl (.bool true))]) (rzSt n c L v m)) ∧ (¬ U.wuHasK P k → K (.inr [.inr [], .inl (.inl (.bool false))]) (rzSt n c L v m))
    | _, _ => none
  | _, _ => none
theorem rzpGet_ok : PatOk 107 rzpGet := by
  intro tm σ C h K hK w0 e w hk vs hvs
  unfold rzpGet at h
  split at h
  · split at h
    · rename_i hkk hσ
      simp only [Option.some.injEq] at h; subst h
      obtain ⟨P, ⟨hy, h1, h2⟩, h3, h4⟩ := hK
      obtain ⟨rfl, rfl⟩ := rzC_eq hσ hy
      obtain ⟨x, y, rfl, q1, q2⟩ := twos hvs
      exact knownD noOv names (opMZ_ok (opMV_ok wuovK)) (conOk_ofR rztSh_ok) (rzGet_run K _ _ _ _ _ _ P h1 h2 h3 h4) w0 e w hk _ (map2 q1 (as_str hkk q2))
    · cases h
  · cases h
def rzpKeys : Pat := fun args σ => match args, σ with
  | [.inl (.inl (.inr (.inl (0, 0))))], ⟨[p], [], 0, [a1], 0⟩ => match rzC p a1 with
    | some (n, c, L, v, m) => some fun K => ∃ P, (rzD p a1 ∧ U.rzI n c L v P) ∧ ∀ (L' : Rws) (n' c' : Nat), n' = n → n' ≤ c' → L' = U.wuks P → K (cell (rslC ⟨1, 1, 0, n', c'⟩)) ⟨[rzB (rslC ⟨0, 1, 0, n, c⟩) v m], [], 0, [some (wukB L c), some (wukB L' c')], 0⟩
    | _ => none
  | _, _ => none
theorem rzpKeys_ok : PatOk 59 rzpKeys := by
  intro tm σ C h K hK w0 e w hk vs hvs
  unfold rzpKeys at h
  split at h
  · split at h
    · rename_i hσ
      simp only [Option.some.injEq] at h; subst h
      obtain ⟨P, ⟨hy, h1⟩, h2⟩ := hK
      obtain ⟨rfl, rfl⟩ := rzC_eq hσ hy
      exact knownD noOv names opMK_ok (conOk_ofR tbl0_ok) (rzKeys_run K _ _ _ _ _ P h1 h2) w0 e w hk vs hvs
    · cases h
  · cases h
def rztS : Tbl := tblOr (tblIf 41 rzpNew) (tblOr (tblIf 80 rzpSet) (tblOr (tblIf 107 rzpGet) (tblIf 59 rzpKeys)))
theorem rztS_ok : TblOk Tryz.prog rztS := tblOr_ok (tblIf_ok rzpNew_ok) (tblOr_ok (tblIf_ok rzpSet_ok) (tblOr_ok (tblIf_ok rzpGet_ok) (tblIf_ok rzpKeys_ok)))
end Go.Proofs.YtcjcdimlcfegbaaGreatDoor
end

section
namespace Go.Proofs.YtcjcdimlcfegbaaGreatDoor
open Go Reck
set_option linter.unusedVariables false
def U.NmB (i : Nat) (c : Int) : Prop := (97 ≤ c ∧ c ≤ 122) ∨ (i ≠ 0 ∧ 48 ≤ c ∧ c ≤ 57)
/-- A text that is a name. -/
structure U.Nm (l : List Int) : Prop where
  len : 1 ≤ l.length ∧ l.length ≤ 8
  all : ∀ i, i < l.length → U.NmB i (l.getD i 0)
structure U.NmI (l : List Int) (p : Nat) : Prop where
  len : p ≤ l.length
  all : ∀ i, i < p → U.NmB i (l.getD i 0)
structure U.NmJ (l : List Int) (z : Int) : Prop where
  out : ∃ p : Nat, z = p ∧ U.NmI l p
def iterS (tm : List AV) (t : Nat) (σ : St) : List Int :=
  match aptrX (tm.getD t (lit undef)) with
  | some (a, _) => match getObjX σ a with
    | some (.iter s _, _) => s
    | _ => []
  | none => []
def slotT (tm : List AV) (t : Nat) : List Int :=
  match strX (tm.getD t (lit undef)) with
  | some l => l
  | none => []
def nameInv (c : Code) (t : Nat) (tm : List AV) (σ : St) : Inv where
  X := Nat
  tags := [0]
  tag _ _ := 0
  J := wrBut [] c
  val _ _ := []
  st _ x σ' := match aptrX (tm.getD t (lit undef)) with
    | some (a, _) => setArr σ' a (some (obj (.iter (iterS tm t σ) x)))
    | none => σ'
  I _ x := U.NmI (iterS tm t σ) x
  m _ x := (iterS tm t σ).length - x
  ren := noRen
def rnameInv (c : Code) (tm : List AV) (σ : St) : Inv where
  X := Int
  tags := [0]
  tag _ _ := 0
  J := wrBut [3] c
  val _ x := [(3, xi .i64 x)]
  st _ _ σ' := σ'
  I _ x := U.NmJ (slotT tm 0) x
  m _ x := ((slotT tm 0).length - x).toNat
  ren := noRen
def invT1 : InvF := fun c tm σ => match tm.length, firstReg c with
  | 31, some 4 => some (nameInv c 14 tm σ)
  | 42, some 4 => some (rnameInv c tm σ)
  | _, _ => none
set_option maxRecDepth 100000
theorem name_vc (K : AV → St → Prop) (l : List Int) : (runI invT1 tbl0 128 [cell (strC l)] emptySt K) = (∀ (z0 : Int), z0 = (↑(List.length l) : Int) → (z0 < (1 : Int) → K (Sum.inl (Sum.inl (Sum.inl (Value.bool false)))) { heap := [], ints := [], opqs := (0 : Nat), arrs := [], junks := (0 : Nat) }) ∧ (¬z0 < (1 : Int) → ∀ (z1 : Int), z1 = (↑(List.length l) : Int) → ((8 : Int) < z1 → K (Sum.inl (Sum.inl (Sum.inl (Value.bool false)))) { heap := [], ints := [], opqs := (0 : Nat), arrs := [], junks := (0 : Nat) }) ∧ (¬(8 : Int) < z1 → (∃ (y2 : Nat), l = l ∧ l = l ∧ z0 = z0 ∧ false = false ∧ false = false ∧ l = l ∧ z1 = z1 ∧ false = false ∧ false = false ∧ l = l ∧ (0 : Nat) = (0 : Nat) ∧ (l = l ∧ (0 : Nat) = y2) ∧ U.NmI l y2) ∧ ∀ (x3 : Nat), U.NmI l x3 → (x3 < List.length l → ∀ (i4 c5 : Int) (n6 p7 : Nat), i4 = (↑x3 : Int) → RuneAt l x3 c5 n6 → p7 = x3 + n6 → ((97 : Int) ≤ c5 → (c5 ≤ (122 : Int) → ∃ (y8 : Nat), l = l ∧ l = l ∧ z0 = z0 ∧ false = false ∧ false = false ∧ l = l ∧ z1 = z1 ∧ false = false ∧ false = false ∧ l = l ∧ (0 : Nat) = (0 : Nat) ∧ (l = l ∧ p7 = y8) ∧ U.NmI l y8 ∧ List.length l - y8 < List.length l - x3) ∧ (¬c5 ≤ (122 : Int) → (i4 = (0 : Int) → K (Sum.inl (Sum.inl (Sum.inl (Value.bool false)))) { heap := [], ints := [], opqs := (0 : Nat), arrs := [], junks := (0 : Nat) }) ∧ (¬i4 = (0 : Int) → ((48 : Int) ≤ c5 → (c5 ≤ (57 : Int) → ∃ (y9 : Nat), l = l ∧ l = l ∧ z0 = z0 ∧ false = false ∧ false = false ∧ l = l ∧ z1 = z1 ∧ false = false ∧ false = false ∧ l = l ∧ (0 : Nat) = (0 : Nat) ∧ (l = l ∧ p7 = y9) ∧ U.NmI l y9 ∧ List.length l - y9 < List.length l - x3) ∧ (¬c5 ≤ (57 : Int) → K (Sum.inl (Sum.inl (Sum.inl (Value.bool false)))) { heap := [], ints := [], opqs := (0 : Nat), arrs := [], junks := (0 : Nat) })) ∧ (¬(48 : Int) ≤ c5 → K (Sum.inl (Sum.inl (Sum.inl (Value.bool false)))) { heap := [], ints := [], opqs := (0 : Nat), arrs := [], junks := (0 : Nat) })))) ∧ (¬(97 : Int) ≤ c5 → (i4 = (0 : Int) → K (Sum.inl (Sum.inl (Sum.inl (Value.bool false)))) { heap := [], ints := [], opqs := (0 : Nat), arrs := [], junks := (0 : Nat) }) ∧ (¬i4 = (0 : Int) → ((48 : Int) ≤ c5 → (c5 ≤ (57 : Int) → ∃ (y10 : Nat), l = l ∧ l = l ∧ z0 = z0 ∧ false = false ∧ false = false ∧ l = l ∧ z1 = z1 ∧ false = false ∧ false = false ∧ l = l ∧ (0 : Nat) = (0 : Nat) ∧ (l = l ∧ p7 = y10) ∧ U.NmI l y10 ∧ List.length l - y10 < List.length l - x3) ∧ (¬c5 ≤ (57 : Int) → K (Sum.inl (Sum.inl (Sum.inl (Value.bool false)))) { heap := [], ints := [], opqs := (0 : Nat), arrs := [], junks := (0 : Nat) })) ∧ (¬(48 : Int) ≤ c5 → K (Sum.inl (Sum.inl (Sum.inl (Value.bool false)))) { heap := [], ints := [], opqs := (0 : Nat), arrs := [], junks := (0 : Nat) })))) ∧ (¬x3 < List.length l → K (Sum.inl (Sum.inl (Sum.inl (Value.bool true)))) { heap := [], ints := [], opqs := (0 : Nat), arrs := [], junks := (0 : Nat) })))) := by kernel_rfl
theorem rname_vc (K : AV → St → Prop) (l : List Int) : (runI invT1 tbl0 96 [cell (strC l)] emptySt K) = (∀ (z0 : Int), z0 = (↑(List.length l) : Int) → (z0 < (1 : Int) → K (Sum.inl (Sum.inl (Sum.inl (Value.bool false)))) { heap := [], ints := [], opqs := (0 : Nat), arrs := [], junks := (0 : Nat) }) ∧ (¬z0 < (1 : Int) → ∀ (z1 : Int), z1 = (↑(List.length l) : Int) → ((8 : Int) < z1 → K (Sum.inl (Sum.inl (Sum.inl (Value.bool false)))) { heap := [], ints := [], opqs := (0 : Nat), arrs := [], junks := (0 : Nat) }) ∧ (¬(8 : Int) < z1 → (∃ (y2 : Int), l = l ∧ (0 : Int) = y2 ∧ l = l ∧ z0 = z0 ∧ false = false ∧ false = false ∧ l = l ∧ z1 = z1 ∧ false = false ∧ false = false ∧ U.NmJ l y2) ∧ ∀ (x3 : Int), U.NmJ l x3 → ∀ (z4 : Int), z4 = (↑(List.length l) : Int) → (x3 < z4 → ((0 : Int) ≤ x3 ∧ x3 < (↑(List.length l) : Int)) ∧ ∀ (z5 : Int), z5 = List.getD l (Int.toNat x3) (0 : Int) → (0 : Int) ≤ z5 → z5 < (256 : Int) → ((97 : Int) ≤ z5 → (z5 ≤ (122 : Int) → ∀ (z6 : Int), z6 = IntKind.wrap IntKind.i64 (x3 + (1 : Int)) → ∃ (y7 : Int), l = l ∧ z6 = y7 ∧ l = l ∧ z0 = z0 ∧ false = false ∧ false = false ∧ l = l ∧ z1 = z1 ∧ false = false ∧ false = false ∧ U.NmJ l y7 ∧ Int.toNat ((↑(List.length l) : Int) - y7) < Int.toNat ((↑(List.length l) : Int) - x3)) ∧ (¬z5 ≤ (122 : Int) → ((0 : Int) < x3 → ((48 : Int) ≤ z5 → (z5 ≤ (57 : Int) → ∀ (z8 : Int), z8 = IntKind.wrap IntKind.i64 (x3 + (1 : Int)) → ∃ (y9 : Int), l = l ∧ z8 = y9 ∧ l = l ∧ z0 = z0 ∧ false = false ∧ false = false ∧ l = l ∧ z1 = z1 ∧ false = false ∧ false = false ∧ U.NmJ l y9 ∧ Int.toNat ((↑(List.length l) : Int) - y9) < Int.toNat ((↑(List.length l) : Int) - x3)) ∧ (¬z5 ≤ (57 : Int) → K (Sum.inl (Sum.inl (Sum.inl (Value.bool false)))) { heap := [], ints := [], opqs := (0 : Nat), arrs := [], junks := (0 : Nat) })) ∧ (¬(48 : Int) ≤ z5 → K (Sum.inl (Sum.inl (Sum.inl (Value.bool false)))) { heap := [], ints := [], opqs := (0 : Nat), arrs := [], junks := (0 : Nat) })) ∧ (¬(0 : Int) < x3 → K (Sum.inl (Sum.inl (Sum.inl (Value.bool false)))) { heap := [], ints := [], opqs := (0 : Nat), arrs := [], junks := (0 : Nat) }))) ∧ (¬(97 : Int) ≤ z5 → ((0 : Int) < x3 → ((48 : Int) ≤ z5 → (z5 ≤ (57 : Int) → ∀ (z10 : Int), z10 = IntKind.wrap IntKind.i64 (x3 + (1 : Int)) → ∃ (y11 : Int), l = l ∧ z10 = y11 ∧ l = l ∧ z0 = z0 ∧ false = false ∧ false = false ∧ l = l ∧ z1 = z1 ∧ false = false ∧ false = false ∧ U.NmJ l y11 ∧ Int.toNat ((↑(List.length l) : Int) - y11) < Int.toNat ((↑(List.length l) : Int) - x3)) ∧ (¬z5 ≤ (57 : Int) → K (Sum.inl (Sum.inl (Sum.inl (Value.bool false)))) { heap := [], ints := [], opqs := (0 : Nat), arrs := [], junks := (0 : Nat) })) ∧ (¬(48 : Int) ≤ z5 → K (Sum.inl (Sum.inl (Sum.inl (Value.bool false)))) { heap := [], ints := [], opqs := (0 : Nat), arrs := [], junks := (0 : Nat) })) ∧ (¬(0 : Int) < x3 → K (Sum.inl (Sum.inl (Sum.inl (Value.bool false)))) { heap := [], ints := [], opqs := (0 : Nat), arrs := [], junks := (0 : Nat) }))) ∧ (¬x3 < z4 → K (Sum.inl (Sum.inl (Sum.inl (Value.bool true)))) { heap := [], ints := [], opqs := (0 : Nat), arrs := [], junks := (0 : Nat) })))) := by kernel_rfl
end Go.Proofs.YtcjcdimlcfegbaaGreatDoor
end

section
set_option linter.unusedVariables false
set_option linter.unusedSimpArgs false
namespace Go.Proofs.YtcjcdimlcfegbaaGreatDoor
open Go Reck

theorem wrapI64 (n : Int) : IntKind.wrap .i64 n = (n + 9223372036854775808) % 18446744073709551616 - 9223372036854775808 := by
  simp [IntKind.wrap, IntKind.signed, IntKind.bits, Int.bmod]
  split <;> omega
theorem nmB_rune {l : List Int} {p n : Nat} {c : Int} (h : RuneAt l p c n) (hb : c < 128) : c = l.getD p 0 ∧ n = 1 := by
  by_cases hh : l.getD p 0 < 128
  · exact h.low hh
  · have := h.high (by omega); omega
theorem nmI_step {l : List Int} {p n q : Nat} {c : Int} (hI : U.NmI l p) (h : RuneAt l p c n) (hq : q = p + n) (hb : U.NmB p c) : U.NmI l q ∧ l.length - q < l.length - p := by
  obtain ⟨e1, e2⟩ := nmB_rune h (by rcases hb with hb | hb <;> omega)
  have := h.fits
  subst hq; subst e2
  refine ⟨⟨by omega, fun i hi => ?_⟩, by omega⟩
  by_cases hip : i = p
  · subst hip; rw [← e1]; exact hb
  · exact hI.all i (by omega)
theorem nm_no {l : List Int} {p n : Nat} {c : Int} (h : RuneAt l p c n) (hb : ¬ U.NmB p c) : ¬ U.Nm l := by
  intro hN
  have h2 := hN.all p (by have := h.fits; have := h.least; omega)
  by_cases hh : l.getD p 0 < 128
  · obtain ⟨e, _⟩ := h.low hh
    exact hb (e ▸ h2)
  · rcases h2 with h2 | h2 <;> omega
theorem name_run (K : AV → St → Prop) (l : List Int) (h1 : U.Nm l → K (lit (.bool true)) emptySt) (h2 : ¬ U.Nm l → K (lit (.bool false)) emptySt) : runI invT1 tbl0 128 [cell (strC l)] emptySt K := by
  rw [name_vc]
  intro z0 e0
  refine ⟨fun h => h2 fun hN => by have := hN.len; omega, fun g0 z1 e1 => ⟨fun h => h2 fun hN => by have := hN.len; omega, fun g1 => ⟨⟨0, ?_⟩, ?_⟩⟩⟩
  · have i0 : U.NmI l 0 := ⟨Nat.zero_le _, fun i hi => absurd hi (Nat.not_lt_zero _)⟩
    repeat' (first | exact rfl | exact i0 | with_reducible apply And.intro)
  · intro p hI
    refine ⟨fun hp i c n q hi hR hq => ?_, fun hp => h1 ⟨by omega, fun i hi => hI.all i (by omega)⟩⟩
    have yes : U.NmB p c → U.NmI l q ∧ l.length - q < l.length - p := fun hb => nmI_step hI hR hq hb
    have no : ¬ U.NmB p c → K (lit (.bool false)) emptySt := fun hb => h2 (nm_no hR hb)
    refine ⟨fun a1 => ⟨fun a2 => ⟨q, by have w := yes (.inl ⟨a1, a2⟩); repeat' (first | exact rfl | exact w.1 | exact w.2 | with_reducible apply And.intro)⟩, fun a2 => ⟨fun a3 => no ?_, fun a3 => ⟨fun a4 => ⟨fun a5 => ⟨q, by have w := yes (.inr ⟨by omega, a4, a5⟩); repeat' (first | exact rfl | exact w.1 | exact w.2 | with_reducible apply And.intro)⟩, fun a5 => no ?_⟩, fun a4 => no ?_⟩⟩⟩, fun a1 => ⟨fun a3 => no ?_, fun a3 => ⟨fun a4 => ⟨fun a5 => ⟨q, by have w := yes (.inr ⟨by omega, a4, a5⟩); repeat' (first | exact rfl | exact w.1 | exact w.2 | with_reducible apply And.intro)⟩, fun a5 => no ?_⟩, fun a4 => no ?_⟩⟩⟩
    all_goals (rintro (hb | hb) <;> omega)
theorem rname_run (K : AV → St → Prop) (l : List Int) (h1 : U.Nm l → K (lit (.bool true)) emptySt) (h2 : ¬ U.Nm l → K (lit (.bool false)) emptySt) : runI invT1 tbl0 96 [cell (strC l)] emptySt K := by
  rw [rname_vc]
  intro z0 e0
  refine ⟨fun h => h2 fun hN => by have := hN.len; omega, fun g0 z1 e1 => ⟨fun h => h2 fun hN => by have := hN.len; omega, fun g1 => ⟨⟨0, ?_⟩, ?_⟩⟩⟩
  · have i0 : U.NmJ l 0 := ⟨0, rfl, Nat.zero_le _, fun i hi => absurd hi (Nat.not_lt_zero _)⟩
    repeat' (first | exact rfl | exact i0 | with_reducible apply And.intro)
  · rintro x ⟨p, hx, hI⟩ z4 e4
    subst hx
    refine ⟨fun hp => ⟨⟨by omega, by omega⟩, fun z5 e5 b1 b2 => ?_⟩, fun hp => h1 ⟨by omega, fun i hi => hI.all i (by omega)⟩⟩
    rw [Int.toNat_natCast] at e5
    have hlt : p < l.length := by omega
    have yes : U.NmB p z5 → ∀ z : Int, z = IntKind.wrap IntKind.i64 ((p : Int) + 1) → U.NmJ l z ∧ Int.toNat ((l.length : Int) - z) < Int.toNat ((l.length : Int) - p) := fun hb z hz => by
      rw [wrapI64] at hz
      have hz : z = ((p + 1 : Nat) : Int) := by omega
      refine ⟨⟨p + 1, hz, by omega, fun i hi => ?_⟩, by omega⟩
      by_cases hip : i = p
      · subst hip; rw [← e5]; exact hb
      · exact hI.all i (by omega)
    have no : ¬ U.NmB p z5 → K (lit (.bool false)) emptySt := fun hb => h2 fun hN => hb (e5 ▸ hN.all p hlt)
    refine ⟨fun a1 => ⟨fun a2 => (fun z hz => ⟨z, by have q := yes (.inl ⟨a1, a2⟩) z hz; repeat' (first | exact rfl | exact q.1 | exact q.2 | with_reducible apply And.intro)⟩), fun a2 => ⟨fun a3 => ⟨fun a4 => ⟨fun a5 => (fun z hz => ⟨z, by have q := yes (.inr ⟨by omega, a4, a5⟩) z hz; repeat' (first | exact rfl | exact q.1 | exact q.2 | with_reducible apply And.intro)⟩), fun a5 => no ?_⟩, fun a4 => no ?_⟩, fun a3 => no ?_⟩⟩, fun a1 => ⟨fun a3 => ⟨fun a4 => ⟨fun a5 => (fun z hz => ⟨z, by have q := yes (.inr ⟨by omega, a4, a5⟩) z hz; repeat' (first | exact rfl | exact q.1 | exact q.2 | with_reducible apply And.intro)⟩), fun a5 => no ?_⟩, fun a4 => no ?_⟩, fun a3 => no ?_⟩⟩
    all_goals (rintro (hb | hb) <;> omega)
def tName : Tbl := fun f args σ => if f == 128 || f == 96 then match args, σ with
    | [x], ⟨[], [], 0, [], 0⟩ => match strX x with
      | some l => some fun K => (U.Nm l → K (lit (.bool true)) emptySt) ∧ (¬ U.Nm l → K (lit (.bool false)) emptySt)
      | none => none
    | _, _ => none
  else none
theorem strX_cell {e : Env} {x : AV} {l : List Int} (h : strX x = some l) {vs : List Value} (hv : [x].map (av e) = vs.map some) : [cell (strC l)].map (av e) = vs.map some := by
  cases vs with
  | nil => simp at hv
  | cons v vs =>
    simp only [List.map_cons, List.map_nil, List.cons.injEq] at hv ⊢
    obtain ⟨rfl, hb⟩ := strX_ok h hv.1
    exact ⟨strC_av hb e, hv.2⟩
theorem tName_ok : TblOk Tryz.prog tName := by
  intro f tm σ C h K hK
  unfold tName at h
  split at h
  · rename_i hf
    split at h
    · split at h
      · rename_i l hl
        simp only [Option.some.injEq] at h; subst h
        intro w0 en w hok vs hvs
        have hvs' := strX_cell hl hvs
        have hf : f = 128 ∨ f = 96 := by simpa using hf
        rcases hf with rfl | rfl
        · exact knownC noOv names (conOk_of tbl0_ok) (name_run K l hK.1 hK.2) w0 en w hok vs hvs'
        · exact knownC noOv names (conOk_of tbl0_ok) (rname_run K l hK.1 hK.2) w0 en w hok vs hvs'
      · cases h
    · cases h
  · cases h
end Go.Proofs.YtcjcdimlcfegbaaGreatDoor
end
