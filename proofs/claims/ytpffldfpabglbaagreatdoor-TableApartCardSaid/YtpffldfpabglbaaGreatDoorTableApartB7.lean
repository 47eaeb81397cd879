/- Texts merged: QuC -/
import Derived.Test.YtpffldfpabglbaaGreatDoorTableApartB6

/- The document's own queue: Check. -/
section
namespace Go.Proofs.YtpffldfpabglbaaGreatDoor
open Go.RowKit
set_option linter.unusedVariables false      -- a contract need not use every name

end Go.Proofs.YtpffldfpabglbaaGreatDoor
end
