/- A reckoner of calls: a nil slice of numbers told as an array of none. No condition. -/
import Derived.Test.YtfhgnngdbbgogaaRkF
set_option linter.unusedVariables false
set_option linter.unusedSimpArgs false
namespace Reck
open Go Ost
def nilC : Cell := .inl (.slice none 0 0)
section
variable {P : Program} {w0 w w' : World} {e : Env} {σ : St}
end
end Reck
