/-
  DERIVED. GIVEN WITH THE SEED: THE CARDS: each row of YthafgapnnmkmhaaGreatDoorRows.lean that lists a variable, with what it lists TIED to the program's text (the seventh form; the later family's looks); each row that meets fmt, with fmt's text TOLD by the authors' own Lean function (tested against real Go, not proved from fmt's source: count such statements apart). THE CARD IS WHAT COUNTS. Prove the row's statement (the work); the ties are given (YthafgapnnmkmhaaGreatDoorTie.lean); close each card by the builder's one call (the guide's Derived/Test/ToyasCard.lean, 'card_holds'). Laid BY PROGRAM, IN A SANDBOX (cutbox-door.mjs). By AI agents, Wed Nov 11 2026. No macro, syntax, notation, axiom, sorry.
-/
import Derived.Test.YthafgapnnmkmhaaGreatDoorRows
import GoSem.ClaimSeven
namespace Go.Proofs.YthafgapnnmkmhaaGreatDoor
namespace Rows
def userPlaysCard : Claim7 := { stood := { row := userPlaysRow, standIns := [], harness := (true, "1ce471ff7f8210253065d6b1da07e513226597ba2221f71dc0320807da7846fc"), looks := false }, kinds := [], alts := [], laidByText := true, laidKinds := [.data], laidTests := true, laidLooks := .later }
def UserPlaysCardSaid : Prop := Claim7.holds Tryz.pinned (.plain (OpenSpec.ofChange userPlaysSpec)) userPlaysCard
def userProvesCard : Claim7 := { stood := { row := userProvesRow, standIns := [], harness := (true, "1ce471ff7f8210253065d6b1da07e513226597ba2221f71dc0320807da7846fc"), looks := false }, kinds := [], alts := [], laidByText := true, laidKinds := [.data], laidTests := true, laidLooks := .later }
def UserProvesCardSaid : Prop := Claim7.holds Tryz.pinned (.plain (OpenSpec.ofChange userProvesSpec)) userProvesCard
def userOnceCard : Claim7 := { stood := { row := userOnceRow, standIns := [], harness := (true, "1ce471ff7f8210253065d6b1da07e513226597ba2221f71dc0320807da7846fc"), looks := false }, kinds := [], alts := [], laidByText := true, laidKinds := [.data], laidTests := true, laidLooks := .later }
def UserOnceCardSaid : Prop := Claim7.holds Tryz.pinned (.plain (OpenSpec.ofChange userOnceSpec)) userOnceCard
def userNilCard : Claim7 := { stood := { row := userNilRow, standIns := [], harness := (true, "1ce471ff7f8210253065d6b1da07e513226597ba2221f71dc0320807da7846fc"), looks := false }, kinds := [], alts := [], laidByText := true, laidKinds := [.data], laidTests := true, laidLooks := .later }
def UserNilCardSaid : Prop := Claim7.holds Tryz.pinned (.plain (OpenSpec.ofChange userNilSpec)) userNilCard
def userRevokedCard : Claim7 := { stood := { row := userRevokedRow, standIns := [], harness := (true, "1ce471ff7f8210253065d6b1da07e513226597ba2221f71dc0320807da7846fc"), looks := false }, kinds := [], alts := [], laidByText := true, laidKinds := [.data], laidTests := true, laidLooks := .later }
def UserRevokedCardSaid : Prop := Claim7.holds Tryz.pinned (.plain (OpenSpec.ofChange userRevokedSpec)) userRevokedCard
def userPlaysUptoCard : Claim7 := { stood := { row := userPlaysUptoRow, standIns := [], harness := (true, "1ce471ff7f8210253065d6b1da07e513226597ba2221f71dc0320807da7846fc"), looks := false }, kinds := [], alts := [], laidByText := true, laidKinds := [.data], laidTests := true, laidLooks := .later }
def UserPlaysUptoCardSaid : Prop := Claim7.holds Tryz.pinned (.plain (OpenSpec.upto userPlaysSpec)) userPlaysUptoCard
def userProvesUptoCard : Claim7 := { stood := { row := userProvesUptoRow, standIns := [], harness := (true, "1ce471ff7f8210253065d6b1da07e513226597ba2221f71dc0320807da7846fc"), looks := false }, kinds := [], alts := [], laidByText := true, laidKinds := [.data], laidTests := true, laidLooks := .later }
def UserProvesUptoCardSaid : Prop := Claim7.holds Tryz.pinned (.plain (OpenSpec.upto userProvesSpec)) userProvesUptoCard
def userOnceUptoCard : Claim7 := { stood := { row := userOnceUptoRow, standIns := [], harness := (true, "1ce471ff7f8210253065d6b1da07e513226597ba2221f71dc0320807da7846fc"), looks := false }, kinds := [], alts := [], laidByText := true, laidKinds := [.data], laidTests := true, laidLooks := .later }
def UserOnceUptoCardSaid : Prop := Claim7.holds Tryz.pinned (.plain (OpenSpec.upto userOnceSpec)) userOnceUptoCard
def userNilUptoCard : Claim7 := { stood := { row := userNilUptoRow, standIns := [], harness := (true, "1ce471ff7f8210253065d6b1da07e513226597ba2221f71dc0320807da7846fc"), looks := false }, kinds := [], alts := [], laidByText := true, laidKinds := [.data], laidTests := true, laidLooks := .later }
def UserNilUptoCardSaid : Prop := Claim7.holds Tryz.pinned (.plain (OpenSpec.upto userNilSpec)) userNilUptoCard
def userRevokedUptoCard : Claim7 := { stood := { row := userRevokedUptoRow, standIns := [], harness := (true, "1ce471ff7f8210253065d6b1da07e513226597ba2221f71dc0320807da7846fc"), looks := false }, kinds := [], alts := [], laidByText := true, laidKinds := [.data], laidTests := true, laidLooks := .later }
def UserRevokedUptoCardSaid : Prop := Claim7.holds Tryz.pinned (.plain (OpenSpec.upto userRevokedSpec)) userRevokedUptoCard
end Rows
end Go.Proofs.YthafgapnnmkmhaaGreatDoor
