/- Parts of a proof, one behind the other: XA XS01 XS02 XS03 XS04 XS05 XB1. No condition. -/
import Derived.Test.YtnnloikmjofkfaaGG
section
namespace Go.Proofs.Ytnnloikmjofkfaa
open Go Reck
set_option linter.unusedVariables false
set_option linter.unusedSimpArgs false
set_option maxRecDepth 100000
/-- What is open is as it was. -/
abbrev eqf (dst src type op sha spa tha tpa fr to proto ttl id sport dport seq ack flags win : Int) (r : Prop) : Prop := dst = dst ∧ src = src ∧ type = type ∧ op = op ∧ sha = sha ∧ spa = spa ∧ tha = tha ∧ tpa = tpa ∧ fr = fr ∧ to = to ∧ proto = proto ∧ ttl = ttl ∧ id = id ∧ sport = sport ∧ dport = dport ∧ seq = seq ∧ ack = ack ∧ flags = flags ∧ win = win ∧ r
abbrev eqm (dst src type op sha spa tha tpa fr to proto ttl id sport dport seq ack flags win : Int) (o n c : Nat) (B : List Int) (cap : Nat) (ro : Bool) : Prop := ∃ y : Int, eqf dst src type op sha spa tha tpa fr to proto ttl id sport dport seq ack flags win ((o = o ∧ n = n ∧ c = c) ∧ dst = dst ∧ src = src ∧ type = type ∧ type = type ∧ eqf dst src type op sha spa tha tpa fr to proto ttl id sport dport seq ack flags win ((o = o ∧ n = n ∧ c = c) ∧ (B = B ∧ cap = cap ∧ ro = ro) ∧ True))
structure U.A0 (op sha spa tha tpa : Int) : Prop where
  out : op = 0 ∧ sha = 0 ∧ spa = 0 ∧ tha = 0 ∧ tpa = 0
structure U.H0 (fr to proto ttl id : Int) : Prop where
  out : fr = 0 ∧ to = 0 ∧ proto = 0 ∧ ttl = 0 ∧ id = 0
structure U.E0 (seq ack flags win : Int) : Prop where
  out : seq = 0 ∧ ack = 0 ∧ flags = 0 ∧ win = 0
structure U.P0 (sport dport : Int) : Prop where
  out : sport = 0 ∧ dport = 0
/-- What a region tells: a slot that is known, or forgotten. -/
def bInv (s g : Nat) (c : Code) : Inv where
  X := Int
  tags := [if Nat.beq g 2 then 0 else g]
  tag := if Nat.beq g 2 then fun _ _ => 0 else boolAt s
  J := if Nat.beq g 2 then wrBut [] c else wrBut [s] c
  val t _ := if Nat.beq g 2 then [] else [(s, tagB t)]
  st _ _ σ' := σ'
  I _ _ := True
  m _ _ := 0
  ren := noRen
def soundMeet (k7 k11 ta th te tp : Nat) (c : Code) (tm : List AV) (σ : St) : Option Inv :=
  if Nat.beq tm.length 200 then match c with
    | .region r _ _ => match r with
        | 3 => some (bInv 3 ta c)
        | 4 => some (bInv 4 th c)
        | 5 => some (bInv 5 te c)
        | 6 => some (bInv 6 tp c)
        | 7 => some (bInv 99 k7 c)
        | 11 => some (bInv 137 k11 c)
        | _ => none
    | _ => none
  else none
end Go.Proofs.Ytnnloikmjofkfaa
end

section
namespace Go.Proofs.Ytnnloikmjofkfaa
open Go Reck
set_option linter.unusedVariables false
set_option maxRecDepth 100000
theorem s_54_111_vc (K : AV → St → Prop) (dst src type op sha spa tha tpa fr to proto ttl id sport dport seq ack flags win : Int) (B : List Int) (o n c cap : Nat) (ro : Bool) : (goT Try.prog [] (orcM inv0 (soundMeet 1 2 2 1 1 1) tbl0) (opMem Try.prog) 3000 (.inr (.inr (.inr (.inr 13)))) [rfA dst src type op sha spa tha tpa fr to proto ttl id sport dport seq ack flags win (aslC ⟨0, o, n, c⟩)] (ar [bs B cap ro]) (retC (ar [bs B cap ro]) K)) = (((281474976710656 : Int) ≤ dst → K (lit (.bool false)) (ar [bs B cap ro])) ∧ (¬(281474976710656 : Int) ≤ dst → ((281474976710656 : Int) ≤ src → K (lit (.bool false)) (ar [bs B cap ro])) ∧ (¬(281474976710656 : Int) ≤ src → (type < (1536 : Int) → K (lit (.bool false)) (ar [bs B cap ro])) ∧ (¬type < (1536 : Int) → ((65535 : Int) < type → K (lit (.bool false)) (ar [bs B cap ro])) ∧ (¬(65535 : Int) < type → ((op = (0 : Int) → (sha = (0 : Int) → (spa = (0 : Int) → (tha = (0 : Int) → (tpa = (0 : Int) → eqm dst src type op sha spa tha tpa fr to proto ttl id sport dport seq ack flags win o n c B cap ro) ∧ (¬tpa = (0 : Int) → eqm dst src type op sha spa tha tpa fr to proto ttl id sport dport seq ack flags win o n c B cap ro)) ∧ (¬tha = (0 : Int) → eqm dst src type op sha spa tha tpa fr to proto ttl id sport dport seq ack flags win o n c B cap ro)) ∧ (¬spa = (0 : Int) → eqm dst src type op sha spa tha tpa fr to proto ttl id sport dport seq ack flags win o n c B cap ro)) ∧ (¬sha = (0 : Int) → eqm dst src type op sha spa tha tpa fr to proto ttl id sport dport seq ack flags win o n c B cap ro)) ∧ (¬op = (0 : Int) → eqm dst src type op sha spa tha tpa fr to proto ttl id sport dport seq ack flags win o n c B cap ro)) ∧ ∀ (x6 : Int), True → ((fr = (0 : Int) → (to = (0 : Int) → (proto = (0 : Int) → (ttl = (0 : Int) → (id = (0 : Int) → eqm dst src type op sha spa tha tpa fr to proto ttl id sport dport seq ack flags win o n c B cap ro) ∧ (¬id = (0 : Int) → Err [(150 : Nat)])) ∧ (¬ttl = (0 : Int) → Err [(150 : Nat)])) ∧ (¬proto = (0 : Int) → Err [(150 : Nat)])) ∧ (¬to = (0 : Int) → Err [(150 : Nat)])) ∧ (¬fr = (0 : Int) → Err [(150 : Nat)])) ∧ ∀ (x8 : Int), True → ((seq = (0 : Int) → (ack = (0 : Int) → (flags = (0 : Int) → (win = (0 : Int) → eqm dst src type op sha spa tha tpa fr to proto ttl id sport dport seq ack flags win o n c B cap ro) ∧ (¬win = (0 : Int) → Err [(150 : Nat)])) ∧ (¬flags = (0 : Int) → Err [(150 : Nat)])) ∧ (¬ack = (0 : Int) → Err [(150 : Nat)])) ∧ (¬seq = (0 : Int) → Err [(150 : Nat)])) ∧ ∀ (x10 : Int), True → ((sport = (0 : Int) → (dport = (0 : Int) → eqm dst src type op sha spa tha tpa fr to proto ttl id sport dport seq ack flags win o n c B cap ro) ∧ (¬dport = (0 : Int) → Err [(150 : Nat)])) ∧ (¬sport = (0 : Int) → Err [(150 : Nat)])) ∧ ∀ (x12 : Int), True → ((type = (2054 : Int) → eqm dst src type op sha spa tha tpa fr to proto ttl id sport dport seq ack flags win o n c B cap ro) ∧ (¬type = (2054 : Int) → Err [(150 : Nat)])) ∧ ∀ (x14 : Int), True → ∀ (z15 : Int), z15 = (↑n : Int) → (z15 = (0 : Int) → (op = (1 : Int) → (sha < (281474976710656 : Int) → (tha < (281474976710656 : Int) → K (lit (.bool true)) (ar [bs B cap ro])) ∧ (¬tha < (281474976710656 : Int) → K (lit (.bool false)) (ar [bs B cap ro]))) ∧ (¬sha < (281474976710656 : Int) → K (lit (.bool false)) (ar [bs B cap ro]))) ∧ (¬op = (1 : Int) → (op = (2 : Int) → (sha < (281474976710656 : Int) → (tha < (281474976710656 : Int) → K (lit (.bool true)) (ar [bs B cap ro])) ∧ (¬tha < (281474976710656 : Int) → K (lit (.bool false)) (ar [bs B cap ro]))) ∧ (¬sha < (281474976710656 : Int) → K (lit (.bool false)) (ar [bs B cap ro]))) ∧ (¬op = (2 : Int) → K (lit (.bool false)) (ar [bs B cap ro])))) ∧ (¬z15 = (0 : Int) → K (lit (.bool false)) (ar [bs B cap ro]))))))) := by kernel_rfl
end Go.Proofs.Ytnnloikmjofkfaa
end

section
namespace Go.Proofs.Ytnnloikmjofkfaa
open Go Reck
set_option linter.unusedVariables false
set_option maxRecDepth 100000
theorem s_54_022_vc (K : AV → St → Prop) (dst src type op sha spa tha tpa fr to proto ttl id sport dport seq ack flags win : Int) (B : List Int) (o n c cap : Nat) (ro : Bool) : (goT Try.prog [] (orcM inv0 (soundMeet 1 2 2 0 2 2) tbl0) (opMem Try.prog) 3000 (.inr (.inr (.inr (.inr 13)))) [rfA dst src type op sha spa tha tpa fr to proto ttl id sport dport seq ack flags win (aslC ⟨0, o, n, c⟩)] (ar [bs B cap ro]) (retC (ar [bs B cap ro]) K)) = (((281474976710656 : Int) ≤ dst → K (lit (.bool false)) (ar [bs B cap ro])) ∧ (¬(281474976710656 : Int) ≤ dst → ((281474976710656 : Int) ≤ src → K (lit (.bool false)) (ar [bs B cap ro])) ∧ (¬(281474976710656 : Int) ≤ src → (type < (1536 : Int) → K (lit (.bool false)) (ar [bs B cap ro])) ∧ (¬type < (1536 : Int) → ((65535 : Int) < type → K (lit (.bool false)) (ar [bs B cap ro])) ∧ (¬(65535 : Int) < type → ((op = (0 : Int) → (sha = (0 : Int) → (spa = (0 : Int) → (tha = (0 : Int) → (tpa = (0 : Int) → eqm dst src type op sha spa tha tpa fr to proto ttl id sport dport seq ack flags win o n c B cap ro) ∧ (¬tpa = (0 : Int) → eqm dst src type op sha spa tha tpa fr to proto ttl id sport dport seq ack flags win o n c B cap ro)) ∧ (¬tha = (0 : Int) → eqm dst src type op sha spa tha tpa fr to proto ttl id sport dport seq ack flags win o n c B cap ro)) ∧ (¬spa = (0 : Int) → eqm dst src type op sha spa tha tpa fr to proto ttl id sport dport seq ack flags win o n c B cap ro)) ∧ (¬sha = (0 : Int) → eqm dst src type op sha spa tha tpa fr to proto ttl id sport dport seq ack flags win o n c B cap ro)) ∧ (¬op = (0 : Int) → eqm dst src type op sha spa tha tpa fr to proto ttl id sport dport seq ack flags win o n c B cap ro)) ∧ ∀ (x6 : Int), True → ((fr = (0 : Int) → (to = (0 : Int) → (proto = (0 : Int) → (ttl = (0 : Int) → (id = (0 : Int) → Err [(150 : Nat)]) ∧ (¬id = (0 : Int) → eqm dst src type op sha spa tha tpa fr to proto ttl id sport dport seq ack flags win o n c B cap ro)) ∧ (¬ttl = (0 : Int) → eqm dst src type op sha spa tha tpa fr to proto ttl id sport dport seq ack flags win o n c B cap ro)) ∧ (¬proto = (0 : Int) → eqm dst src type op sha spa tha tpa fr to proto ttl id sport dport seq ack flags win o n c B cap ro)) ∧ (¬to = (0 : Int) → eqm dst src type op sha spa tha tpa fr to proto ttl id sport dport seq ack flags win o n c B cap ro)) ∧ (¬fr = (0 : Int) → eqm dst src type op sha spa tha tpa fr to proto ttl id sport dport seq ack flags win o n c B cap ro)) ∧ ∀ (x12 : Int), True → ((seq = (0 : Int) → (ack = (0 : Int) → (flags = (0 : Int) → (win = (0 : Int) → eqm dst src type op sha spa tha tpa fr to proto ttl id sport dport seq ack flags win o n c B cap ro) ∧ (¬win = (0 : Int) → eqm dst src type op sha spa tha tpa fr to proto ttl id sport dport seq ack flags win o n c B cap ro)) ∧ (¬flags = (0 : Int) → eqm dst src type op sha spa tha tpa fr to proto ttl id sport dport seq ack flags win o n c B cap ro)) ∧ (¬ack = (0 : Int) → eqm dst src type op sha spa tha tpa fr to proto ttl id sport dport seq ack flags win o n c B cap ro)) ∧ (¬seq = (0 : Int) → eqm dst src type op sha spa tha tpa fr to proto ttl id sport dport seq ack flags win o n c B cap ro)) ∧ ∀ (x18 : Int), True → ((sport = (0 : Int) → (dport = (0 : Int) → eqm dst src type op sha spa tha tpa fr to proto ttl id sport dport seq ack flags win o n c B cap ro) ∧ (¬dport = (0 : Int) → eqm dst src type op sha spa tha tpa fr to proto ttl id sport dport seq ack flags win o n c B cap ro)) ∧ (¬sport = (0 : Int) → eqm dst src type op sha spa tha tpa fr to proto ttl id sport dport seq ack flags win o n c B cap ro)) ∧ ∀ (x22 : Int), True → ((type = (2054 : Int) → eqm dst src type op sha spa tha tpa fr to proto ttl id sport dport seq ack flags win o n c B cap ro) ∧ (¬type = (2054 : Int) → Err [(150 : Nat)])) ∧ ∀ (x24 : Int), True → K (lit (.bool false)) (ar [bs B cap ro])))))) := by kernel_rfl
end Go.Proofs.Ytnnloikmjofkfaa
end

section
namespace Go.Proofs.Ytnnloikmjofkfaa
open Go Reck
set_option linter.unusedVariables false
set_option maxRecDepth 100000
theorem s_54_102_vc (K : AV → St → Prop) (dst src type op sha spa tha tpa fr to proto ttl id sport dport seq ack flags win : Int) (B : List Int) (o n c cap : Nat) (ro : Bool) : (goT Try.prog [] (orcM inv0 (soundMeet 1 2 2 1 0 2) tbl0) (opMem Try.prog) 3000 (.inr (.inr (.inr (.inr 13)))) [rfA dst src type op sha spa tha tpa fr to proto ttl id sport dport seq ack flags win (aslC ⟨0, o, n, c⟩)] (ar [bs B cap ro]) (retC (ar [bs B cap ro]) K)) = (((281474976710656 : Int) ≤ dst → K (lit (.bool false)) (ar [bs B cap ro])) ∧ (¬(281474976710656 : Int) ≤ dst → ((281474976710656 : Int) ≤ src → K (lit (.bool false)) (ar [bs B cap ro])) ∧ (¬(281474976710656 : Int) ≤ src → (type < (1536 : Int) → K (lit (.bool false)) (ar [bs B cap ro])) ∧ (¬type < (1536 : Int) → ((65535 : Int) < type → K (lit (.bool false)) (ar [bs B cap ro])) ∧ (¬(65535 : Int) < type → ((op = (0 : Int) → (sha = (0 : Int) → (spa = (0 : Int) → (tha = (0 : Int) → (tpa = (0 : Int) → eqm dst src type op sha spa tha tpa fr to proto ttl id sport dport seq ack flags win o n c B cap ro) ∧ (¬tpa = (0 : Int) → eqm dst src type op sha spa tha tpa fr to proto ttl id sport dport seq ack flags win o n c B cap ro)) ∧ (¬tha = (0 : Int) → eqm dst src type op sha spa tha tpa fr to proto ttl id sport dport seq ack flags win o n c B cap ro)) ∧ (¬spa = (0 : Int) → eqm dst src type op sha spa tha tpa fr to proto ttl id sport dport seq ack flags win o n c B cap ro)) ∧ (¬sha = (0 : Int) → eqm dst src type op sha spa tha tpa fr to proto ttl id sport dport seq ack flags win o n c B cap ro)) ∧ (¬op = (0 : Int) → eqm dst src type op sha spa tha tpa fr to proto ttl id sport dport seq ack flags win o n c B cap ro)) ∧ ∀ (x6 : Int), True → ((fr = (0 : Int) → (to = (0 : Int) → (proto = (0 : Int) → (ttl = (0 : Int) → (id = (0 : Int) → eqm dst src type op sha spa tha tpa fr to proto ttl id sport dport seq ack flags win o n c B cap ro) ∧ (¬id = (0 : Int) → Err [(150 : Nat)])) ∧ (¬ttl = (0 : Int) → Err [(150 : Nat)])) ∧ (¬proto = (0 : Int) → Err [(150 : Nat)])) ∧ (¬to = (0 : Int) → Err [(150 : Nat)])) ∧ (¬fr = (0 : Int) → Err [(150 : Nat)])) ∧ ∀ (x8 : Int), True → ((seq = (0 : Int) → (ack = (0 : Int) → (flags = (0 : Int) → (win = (0 : Int) → Err [(150 : Nat)]) ∧ (¬win = (0 : Int) → eqm dst src type op sha spa tha tpa fr to proto ttl id sport dport seq ack flags win o n c B cap ro)) ∧ (¬flags = (0 : Int) → eqm dst src type op sha spa tha tpa fr to proto ttl id sport dport seq ack flags win o n c B cap ro)) ∧ (¬ack = (0 : Int) → eqm dst src type op sha spa tha tpa fr to proto ttl id sport dport seq ack flags win o n c B cap ro)) ∧ (¬seq = (0 : Int) → eqm dst src type op sha spa tha tpa fr to proto ttl id sport dport seq ack flags win o n c B cap ro)) ∧ ∀ (x13 : Int), True → ((sport = (0 : Int) → (dport = (0 : Int) → eqm dst src type op sha spa tha tpa fr to proto ttl id sport dport seq ack flags win o n c B cap ro) ∧ (¬dport = (0 : Int) → eqm dst src type op sha spa tha tpa fr to proto ttl id sport dport seq ack flags win o n c B cap ro)) ∧ (¬sport = (0 : Int) → eqm dst src type op sha spa tha tpa fr to proto ttl id sport dport seq ack flags win o n c B cap ro)) ∧ ∀ (x17 : Int), True → ((type = (2054 : Int) → eqm dst src type op sha spa tha tpa fr to proto ttl id sport dport seq ack flags win o n c B cap ro) ∧ (¬type = (2054 : Int) → Err [(150 : Nat)])) ∧ ∀ (x19 : Int), True → K (lit (.bool false)) (ar [bs B cap ro])))))) := by kernel_rfl
end Go.Proofs.Ytnnloikmjofkfaa
end

section
namespace Go.Proofs.Ytnnloikmjofkfaa
open Go Reck
set_option linter.unusedVariables false
set_option maxRecDepth 100000
theorem s_54_110_vc (K : AV → St → Prop) (dst src type op sha spa tha tpa fr to proto ttl id sport dport seq ack flags win : Int) (B : List Int) (o n c cap : Nat) (ro : Bool) : (goT Try.prog [] (orcM inv0 (soundMeet 1 2 2 1 1 0) tbl0) (opMem Try.prog) 3000 (.inr (.inr (.inr (.inr 13)))) [rfA dst src type op sha spa tha tpa fr to proto ttl id sport dport seq ack flags win (aslC ⟨0, o, n, c⟩)] (ar [bs B cap ro]) (retC (ar [bs B cap ro]) K)) = (((281474976710656 : Int) ≤ dst → K (lit (.bool false)) (ar [bs B cap ro])) ∧ (¬(281474976710656 : Int) ≤ dst → ((281474976710656 : Int) ≤ src → K (lit (.bool false)) (ar [bs B cap ro])) ∧ (¬(281474976710656 : Int) ≤ src → (type < (1536 : Int) → K (lit (.bool false)) (ar [bs B cap ro])) ∧ (¬type < (1536 : Int) → ((65535 : Int) < type → K (lit (.bool false)) (ar [bs B cap ro])) ∧ (¬(65535 : Int) < type → ((op = (0 : Int) → (sha = (0 : Int) → (spa = (0 : Int) → (tha = (0 : Int) → (tpa = (0 : Int) → eqm dst src type op sha spa tha tpa fr to proto ttl id sport dport seq ack flags win o n c B cap ro) ∧ (¬tpa = (0 : Int) → eqm dst src type op sha spa tha tpa fr to proto ttl id sport dport seq ack flags win o n c B cap ro)) ∧ (¬tha = (0 : Int) → eqm dst src type op sha spa tha tpa fr to proto ttl id sport dport seq ack flags win o n c B cap ro)) ∧ (¬spa = (0 : Int) → eqm dst src type op sha spa tha tpa fr to proto ttl id sport dport seq ack flags win o n c B cap ro)) ∧ (¬sha = (0 : Int) → eqm dst src type op sha spa tha tpa fr to proto ttl id sport dport seq ack flags win o n c B cap ro)) ∧ (¬op = (0 : Int) → eqm dst src type op sha spa tha tpa fr to proto ttl id sport dport seq ack flags win o n c B cap ro)) ∧ ∀ (x6 : Int), True → ((fr = (0 : Int) → (to = (0 : Int) → (proto = (0 : Int) → (ttl = (0 : Int) → (id = (0 : Int) → eqm dst src type op sha spa tha tpa fr to proto ttl id sport dport seq ack flags win o n c B cap ro) ∧ (¬id = (0 : Int) → Err [(150 : Nat)])) ∧ (¬ttl = (0 : Int) → Err [(150 : Nat)])) ∧ (¬proto = (0 : Int) → Err [(150 : Nat)])) ∧ (¬to = (0 : Int) → Err [(150 : Nat)])) ∧ (¬fr = (0 : Int) → Err [(150 : Nat)])) ∧ ∀ (x8 : Int), True → ((seq = (0 : Int) → (ack = (0 : Int) → (flags = (0 : Int) → (win = (0 : Int) → eqm dst src type op sha spa tha tpa fr to proto ttl id sport dport seq ack flags win o n c B cap ro) ∧ (¬win = (0 : Int) → Err [(150 : Nat)])) ∧ (¬flags = (0 : Int) → Err [(150 : Nat)])) ∧ (¬ack = (0 : Int) → Err [(150 : Nat)])) ∧ (¬seq = (0 : Int) → Err [(150 : Nat)])) ∧ ∀ (x10 : Int), True → ((sport = (0 : Int) → (dport = (0 : Int) → Err [(150 : Nat)]) ∧ (¬dport = (0 : Int) → eqm dst src type op sha spa tha tpa fr to proto ttl id sport dport seq ack flags win o n c B cap ro)) ∧ (¬sport = (0 : Int) → eqm dst src type op sha spa tha tpa fr to proto ttl id sport dport seq ack flags win o n c B cap ro)) ∧ ∀ (x13 : Int), True → ((type = (2054 : Int) → eqm dst src type op sha spa tha tpa fr to proto ttl id sport dport seq ack flags win o n c B cap ro) ∧ (¬type = (2054 : Int) → Err [(150 : Nat)])) ∧ ∀ (x15 : Int), True → K (lit (.bool false)) (ar [bs B cap ro])))))) := by kernel_rfl
end Go.Proofs.Ytnnloikmjofkfaa
end

section
namespace Go.Proofs.Ytnnloikmjofkfaa
open Go Reck
set_option linter.unusedVariables false
set_option maxRecDepth 100000
theorem s_48_A_vc (K : AV → St → Prop) (dst src type op sha spa tha tpa fr to proto ttl id sport dport seq ack flags win : Int) (B : List Int) (o n c cap : Nat) (ro : Bool) : (goT Try.prog [] (orcM inv0 (soundMeet 0 0 0 2 2 2) tbl0) (opMem Try.prog) 3000 (.inr (.inr (.inr (.inr 13)))) [rfA dst src type op sha spa tha tpa fr to proto ttl id sport dport seq ack flags win (aslC ⟨0, o, n, c⟩)] (ar [bs B cap ro]) (retC (ar [bs B cap ro]) K)) = (((281474976710656 : Int) ≤ dst → K (lit (.bool false)) (ar [bs B cap ro])) ∧ (¬(281474976710656 : Int) ≤ dst → ((281474976710656 : Int) ≤ src → K (lit (.bool false)) (ar [bs B cap ro])) ∧ (¬(281474976710656 : Int) ≤ src → (type < (1536 : Int) → K (lit (.bool false)) (ar [bs B cap ro])) ∧ (¬type < (1536 : Int) → ((65535 : Int) < type → K (lit (.bool false)) (ar [bs B cap ro])) ∧ (¬(65535 : Int) < type → ((op = (0 : Int) → (sha = (0 : Int) → (spa = (0 : Int) → (tha = (0 : Int) → (tpa = (0 : Int) → Err [(150 : Nat)]) ∧ (¬tpa = (0 : Int) → eqm dst src type op sha spa tha tpa fr to proto ttl id sport dport seq ack flags win o n c B cap ro)) ∧ (¬tha = (0 : Int) → eqm dst src type op sha spa tha tpa fr to proto ttl id sport dport seq ack flags win o n c B cap ro)) ∧ (¬spa = (0 : Int) → eqm dst src type op sha spa tha tpa fr to proto ttl id sport dport seq ack flags win o n c B cap ro)) ∧ (¬sha = (0 : Int) → eqm dst src type op sha spa tha tpa fr to proto ttl id sport dport seq ack flags win o n c B cap ro)) ∧ (¬op = (0 : Int) → eqm dst src type op sha spa tha tpa fr to proto ttl id sport dport seq ack flags win o n c B cap ro)) ∧ ∀ (x5 : Int), True → ((fr = (0 : Int) → (to = (0 : Int) → (proto = (0 : Int) → (ttl = (0 : Int) → (id = (0 : Int) → eqm dst src type op sha spa tha tpa fr to proto ttl id sport dport seq ack flags win o n c B cap ro) ∧ (¬id = (0 : Int) → eqm dst src type op sha spa tha tpa fr to proto ttl id sport dport seq ack flags win o n c B cap ro)) ∧ (¬ttl = (0 : Int) → eqm dst src type op sha spa tha tpa fr to proto ttl id sport dport seq ack flags win o n c B cap ro)) ∧ (¬proto = (0 : Int) → eqm dst src type op sha spa tha tpa fr to proto ttl id sport dport seq ack flags win o n c B cap ro)) ∧ (¬to = (0 : Int) → eqm dst src type op sha spa tha tpa fr to proto ttl id sport dport seq ack flags win o n c B cap ro)) ∧ (¬fr = (0 : Int) → eqm dst src type op sha spa tha tpa fr to proto ttl id sport dport seq ack flags win o n c B cap ro)) ∧ ∀ (x12 : Int), True → ((seq = (0 : Int) → (ack = (0 : Int) → (flags = (0 : Int) → (win = (0 : Int) → eqm dst src type op sha spa tha tpa fr to proto ttl id sport dport seq ack flags win o n c B cap ro) ∧ (¬win = (0 : Int) → eqm dst src type op sha spa tha tpa fr to proto ttl id sport dport seq ack flags win o n c B cap ro)) ∧ (¬flags = (0 : Int) → eqm dst src type op sha spa tha tpa fr to proto ttl id sport dport seq ack flags win o n c B cap ro)) ∧ (¬ack = (0 : Int) → eqm dst src type op sha spa tha tpa fr to proto ttl id sport dport seq ack flags win o n c B cap ro)) ∧ (¬seq = (0 : Int) → eqm dst src type op sha spa tha tpa fr to proto ttl id sport dport seq ack flags win o n c B cap ro)) ∧ ∀ (x18 : Int), True → ((sport = (0 : Int) → (dport = (0 : Int) → eqm dst src type op sha spa tha tpa fr to proto ttl id sport dport seq ack flags win o n c B cap ro) ∧ (¬dport = (0 : Int) → eqm dst src type op sha spa tha tpa fr to proto ttl id sport dport seq ack flags win o n c B cap ro)) ∧ (¬sport = (0 : Int) → eqm dst src type op sha spa tha tpa fr to proto ttl id sport dport seq ack flags win o n c B cap ro)) ∧ ∀ (x22 : Int), True → ((type = (2054 : Int) → Err [(150 : Nat)]) ∧ (¬type = (2054 : Int) → eqm dst src type op sha spa tha tpa fr to proto ttl id sport dport seq ack flags win o n c B cap ro)) ∧ ∀ (x24 : Int), True → K (lit (.bool false)) (ar [bs B cap ro])))))) := by kernel_rfl
end Go.Proofs.Ytnnloikmjofkfaa
end

section
set_option linter.unusedVariables false
set_option linter.unusedSimpArgs false
set_option maxRecDepth 100000
namespace Go.Proofs.Ytnnloikmjofkfaa
open Go Reck
set_option maxHeartbeats 4000000 in
theorem s_54_111_run (K : AV → St → Prop) (dst src type op sha spa tha tpa fr to proto ttl id sport dport seq ack flags win : Int) (B : List Int) (o n c cap : Nat) (ro : Bool) (ht : type = 2054) (hH : fr = 0 ∧ to = 0 ∧ proto = 0 ∧ ttl = 0 ∧ id = 0) (hE : seq = 0 ∧ ack = 0 ∧ flags = 0 ∧ win = 0) (hP : sport = 0 ∧ dport = 0) (hT : U.Fits dst src type op sha spa tha tpa fr to proto ttl id sport dport seq ack flags win n → K (lit (.bool true)) (ar [bs B cap ro])) (hN : ¬ U.Fits dst src type op sha spa tha tpa fr to proto ttl id sport dport seq ack flags win n → K (lit (.bool false)) (ar [bs B cap ro])) :
    goT Try.prog [] (orcM inv0 (soundMeet 1 2 2 1 1 1) tbl0) (opMem Try.prog) 3000 (.inr (.inr (.inr (.inr 13)))) [rfA dst src type op sha spa tha tpa fr to proto ttl id sport dport seq ack flags win (aslC ⟨0, o, n, c⟩)] (ar [bs B cap ro]) (retC (ar [bs B cap ro]) K) := by
  rw [s_54_111_vc]
  repeat' (first | exact trivial | rfl | with_reducible apply And.intro | intro _ | with_reducible apply Exists.intro (0 : Int) | fail)
  all_goals (first
    | (refine hN (fun hF => ?_); have e := hF.arp ht; have g := hF.eth; (try unfold arp0 at e); (try unfold head0 at e); (try unfold ends0 at e); omega)
    | (refine hT ⟨⟨⟨by omega, by omega⟩, by omega, by omega⟩, fun _ => ?_, fun _ => ?_, fun _ _ => ?_⟩ <;> ((try unfold arp0); (try unfold head0); (try unfold ends0); omega))
    | (exfalso; omega))

set_option maxHeartbeats 4000000 in
theorem s_54_022_run (K : AV → St → Prop) (dst src type op sha spa tha tpa fr to proto ttl id sport dport seq ack flags win : Int) (B : List Int) (o n c cap : Nat) (ro : Bool) (ht : type = 2054) (hH : ¬ (fr = 0 ∧ to = 0 ∧ proto = 0 ∧ ttl = 0 ∧ id = 0)) (hT : U.Fits dst src type op sha spa tha tpa fr to proto ttl id sport dport seq ack flags win n → K (lit (.bool true)) (ar [bs B cap ro])) (hN : ¬ U.Fits dst src type op sha spa tha tpa fr to proto ttl id sport dport seq ack flags win n → K (lit (.bool false)) (ar [bs B cap ro])) :
    goT Try.prog [] (orcM inv0 (soundMeet 1 2 2 0 2 2) tbl0) (opMem Try.prog) 3000 (.inr (.inr (.inr (.inr 13)))) [rfA dst src type op sha spa tha tpa fr to proto ttl id sport dport seq ack flags win (aslC ⟨0, o, n, c⟩)] (ar [bs B cap ro]) (retC (ar [bs B cap ro]) K) := by
  rw [s_54_022_vc]
  repeat' (first | exact trivial | rfl | with_reducible apply And.intro | intro _ | with_reducible apply Exists.intro (0 : Int) | fail)
  all_goals (first
    | (refine hN (fun hF => ?_); have e := hF.arp ht; have g := hF.eth; (try unfold arp0 at e); (try unfold head0 at e); (try unfold ends0 at e); omega)
    | (refine hT ⟨⟨⟨by omega, by omega⟩, by omega, by omega⟩, fun _ => ?_, fun _ => ?_, fun _ _ => ?_⟩ <;> ((try unfold arp0); (try unfold head0); (try unfold ends0); omega))
    | (exfalso; omega))

set_option maxHeartbeats 4000000 in
theorem s_54_102_run (K : AV → St → Prop) (dst src type op sha spa tha tpa fr to proto ttl id sport dport seq ack flags win : Int) (B : List Int) (o n c cap : Nat) (ro : Bool) (ht : type = 2054) (hH : fr = 0 ∧ to = 0 ∧ proto = 0 ∧ ttl = 0 ∧ id = 0) (hE : ¬ (seq = 0 ∧ ack = 0 ∧ flags = 0 ∧ win = 0)) (hT : U.Fits dst src type op sha spa tha tpa fr to proto ttl id sport dport seq ack flags win n → K (lit (.bool true)) (ar [bs B cap ro])) (hN : ¬ U.Fits dst src type op sha spa tha tpa fr to proto ttl id sport dport seq ack flags win n → K (lit (.bool false)) (ar [bs B cap ro])) :
    goT Try.prog [] (orcM inv0 (soundMeet 1 2 2 1 0 2) tbl0) (opMem Try.prog) 3000 (.inr (.inr (.inr (.inr 13)))) [rfA dst src type op sha spa tha tpa fr to proto ttl id sport dport seq ack flags win (aslC ⟨0, o, n, c⟩)] (ar [bs B cap ro]) (retC (ar [bs B cap ro]) K) := by
  rw [s_54_102_vc]
  repeat' (first | exact trivial | rfl | with_reducible apply And.intro | intro _ | with_reducible apply Exists.intro (0 : Int) | fail)
  all_goals (first
    | (refine hN (fun hF => ?_); have e := hF.arp ht; have g := hF.eth; (try unfold arp0 at e); (try unfold head0 at e); (try unfold ends0 at e); omega)
    | (refine hT ⟨⟨⟨by omega, by omega⟩, by omega, by omega⟩, fun _ => ?_, fun _ => ?_, fun _ _ => ?_⟩ <;> ((try unfold arp0); (try unfold head0); (try unfold ends0); omega))
    | (exfalso; omega))

set_option maxHeartbeats 4000000 in
theorem s_54_110_run (K : AV → St → Prop) (dst src type op sha spa tha tpa fr to proto ttl id sport dport seq ack flags win : Int) (B : List Int) (o n c cap : Nat) (ro : Bool) (ht : type = 2054) (hH : fr = 0 ∧ to = 0 ∧ proto = 0 ∧ ttl = 0 ∧ id = 0) (hE : seq = 0 ∧ ack = 0 ∧ flags = 0 ∧ win = 0) (hP : ¬ (sport = 0 ∧ dport = 0)) (hT : U.Fits dst src type op sha spa tha tpa fr to proto ttl id sport dport seq ack flags win n → K (lit (.bool true)) (ar [bs B cap ro])) (hN : ¬ U.Fits dst src type op sha spa tha tpa fr to proto ttl id sport dport seq ack flags win n → K (lit (.bool false)) (ar [bs B cap ro])) :
    goT Try.prog [] (orcM inv0 (soundMeet 1 2 2 1 1 0) tbl0) (opMem Try.prog) 3000 (.inr (.inr (.inr (.inr 13)))) [rfA dst src type op sha spa tha tpa fr to proto ttl id sport dport seq ack flags win (aslC ⟨0, o, n, c⟩)] (ar [bs B cap ro]) (retC (ar [bs B cap ro]) K) := by
  rw [s_54_110_vc]
  repeat' (first | exact trivial | rfl | with_reducible apply And.intro | intro _ | with_reducible apply Exists.intro (0 : Int) | fail)
  all_goals (first
    | (refine hN (fun hF => ?_); have e := hF.arp ht; have g := hF.eth; (try unfold arp0 at e); (try unfold head0 at e); (try unfold ends0 at e); omega)
    | (refine hT ⟨⟨⟨by omega, by omega⟩, by omega, by omega⟩, fun _ => ?_, fun _ => ?_, fun _ _ => ?_⟩ <;> ((try unfold arp0); (try unfold head0); (try unfold ends0); omega))
    | (exfalso; omega))

set_option maxHeartbeats 4000000 in
theorem s_48_A_run (K : AV → St → Prop) (dst src type op sha spa tha tpa fr to proto ttl id sport dport seq ack flags win : Int) (B : List Int) (o n c cap : Nat) (ro : Bool) (ht : type = 2048) (hA : ¬ (op = 0 ∧ sha = 0 ∧ spa = 0 ∧ tha = 0 ∧ tpa = 0)) (hT : U.Fits dst src type op sha spa tha tpa fr to proto ttl id sport dport seq ack flags win n → K (lit (.bool true)) (ar [bs B cap ro])) (hN : ¬ U.Fits dst src type op sha spa tha tpa fr to proto ttl id sport dport seq ack flags win n → K (lit (.bool false)) (ar [bs B cap ro])) :
    goT Try.prog [] (orcM inv0 (soundMeet 0 0 0 2 2 2) tbl0) (opMem Try.prog) 3000 (.inr (.inr (.inr (.inr 13)))) [rfA dst src type op sha spa tha tpa fr to proto ttl id sport dport seq ack flags win (aslC ⟨0, o, n, c⟩)] (ar [bs B cap ro]) (retC (ar [bs B cap ro]) K) := by
  rw [s_48_A_vc]
  repeat' (first | exact trivial | rfl | with_reducible apply And.intro | intro _ | with_reducible apply Exists.intro (0 : Int) | fail)
  all_goals (first
    | (refine hN (fun hF => ?_); have e := hF.ip ht; have g := hF.eth; (try unfold arp0 at e); (try unfold head0 at e); (try unfold ends0 at e); omega)
    | (refine hT ⟨⟨⟨by omega, by omega⟩, by omega, by omega⟩, fun _ => ?_, fun _ => ?_, fun _ _ => ?_⟩ <;> ((try unfold arp0); (try unfold head0); (try unfold ends0); omega))
    | (exfalso; omega))
end Go.Proofs.Ytnnloikmjofkfaa
end
