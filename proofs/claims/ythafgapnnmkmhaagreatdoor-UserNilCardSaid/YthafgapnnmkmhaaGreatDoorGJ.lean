/- Parts of a proof, one behind the other: LBR US1 US2. No condition. -/
import Derived.Test.YthafgapnnmkmhaaGreatDoorGA
import Derived.Test.YthafgapnnmkmhaaGreatDoorRkV
import Derived.Test.YthafgapnnmkmhaaGreatDoorGB
import Derived.Test.YthafgapnnmkmhaaGreatDoorGC
import Derived.Test.YthafgapnnmkmhaaGreatDoorGE
import Derived.Test.YthafgapnnmkmhaaGreatDoorGI
section
namespace Go.Proofs.YthafgapnnmkmhaaGreatDoor
open Go Reck
set_option linter.unusedVariables false
set_option maxRecDepth 100000
def U.resBytes : List (List UInt8) := [[103, 114, 111, 117, 112], [97, 108, 108, 111, 119], [100, 101, 110, 121], [111, 117, 116, 98, 111, 117, 110, 100], [118, 105, 97], [97, 110, 121], [116, 99, 112], [117, 100, 112], [105, 112], [112, 111, 114, 116]]
def U.resWords : List Value := U.resBytes.map fun s => Value.string ⟨s.toArray⟩
def U.resA : Option ABlk := some ⟨0, .o (.glob 0 U.resWords), [], 0, true⟩
def resSt : St := ⟨[], [], 0, [U.resA], 0⟩
end Go.Proofs.YthafgapnnmkmhaaGreatDoor
end
section
namespace Go.Proofs.YthafgapnnmkmhaaGreatDoor
open Go Reck Ost
set_option linter.unusedVariables false
set_option maxRecDepth 100000
def tUs0 : Tbl := tblOr uatS (tblOr uhtS ultS)
theorem tUs0_ok : TblOk Tryz.prog tUs0 := tblOr_ok uatS_ok (tblOr_ok uhtS_ok ultS_ok)
end Go.Proofs.YthafgapnnmkmhaaGreatDoor
end
section
namespace Go.Proofs.YthafgapnnmkmhaaGreatDoor
open Go Reck Ost
set_option linter.unusedVariables false
set_option maxRecDepth 100000
def ubSt (n c : Nat) (L : Rws) (d : Nat) (M : Rws) (m c2 : Nat) (L2 : Rws) (d2 : Nat) (M2 : Rws) (G : List (Option ABlk)) : St := ⟨[some ⟨79, [.inr (.inl (1, 0)), .inr (.inl (2, 0)), .inr (.inl (3, 0)), .inr (.inl (4, 0)), xintC .i64 50], none, 5, false⟩, uaB (rslC ⟨0, 1, 0, n, c⟩) (rslC ⟨1, 4, 0, n, d⟩) 16, uhB (rslC ⟨2, 1, 0, 0, 0⟩) (rslC ⟨3, 1, 0, 0, 0⟩) 16, some ⟨114, [.inl (.slice none 0 0), .inl (.slice none 0 0), xintC .i64 4096], none, 3, false⟩, ulB (rslC ⟨4, 1, 0, m, c2⟩) (rslC ⟨5, 2, 0, m, d2⟩) 64], [], 0, [some (uakB L c), some (uavB M d), some (uhkB [] 0), some (uhvB [] 0), some (ulkB L2 c2), some (ulvB M2 d2)] ++ G, 0⟩
def tUs2 : Tbl := tblOr tPfs (tblOr tName tUs0)
theorem tUs2_ok : TblOk Tryz.prog tUs2 := tblOr_ok tPfs_ok (tblOr_ok tName_ok tUs0_ok)
def annL : List Int := [97, 110, 110]
def annA : AV := lit (.string ⟨⟨[97, 110, 110]⟩⟩)
end Go.Proofs.YthafgapnnmkmhaaGreatDoor
end
