/- Listed boards by the program: their texts; the first board with the greatest sum. -/
import Derived.Test.YtajabfegeeepeaaGKD
import Derived.Outline
namespace Go.Proofs.Ytajabfegeeepeaa
open Go.RowKit


end Go.Proofs.Ytajabfegeeepeaa
