/- What the laws hand over of a need. -/
import Derived.Test.YtobalkbddefaiaaNeed
namespace Go.Proofs.Ytobalkbddefaiaa
open Go.RowKit

end Go.Proofs.Ytobalkbddefaiaa
