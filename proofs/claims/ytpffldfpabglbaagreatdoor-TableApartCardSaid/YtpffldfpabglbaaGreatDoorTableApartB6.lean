/- Texts merged: QuB -/
import Derived.Test.YtpffldfpabglbaaGreatDoorTableApartB5
import Derived.LoopTactic

/- The document's own queue: right, Check. -/
section
namespace Go.Proofs.YtpffldfpabglbaaGreatDoor
open Go.RowKit
set_option linter.unusedVariables false      -- a contract need not use every name

end Go.Proofs.YtpffldfpabglbaaGreatDoor
end
