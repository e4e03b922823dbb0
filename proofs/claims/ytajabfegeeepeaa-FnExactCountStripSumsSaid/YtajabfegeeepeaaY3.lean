/- Opening: the neighbours that were not open, by the program. -/
import Derived.Test.YtajabfegeeepeaaY2
import Derived.Outline
namespace Go.Proofs.Ytajabfegeeepeaa
open Go.RowKit

end Go.Proofs.Ytajabfegeeepeaa
