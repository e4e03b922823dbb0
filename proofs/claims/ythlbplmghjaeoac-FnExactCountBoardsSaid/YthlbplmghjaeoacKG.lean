/- Listed boards by the program: their texts; the first board with the greatest sum. -/
import Derived.Test.YthlbplmghjaeoacGKD
import Derived.Outline
namespace Go.Proofs.Ythlbplmghjaeoac
open Go.RowKit


end Go.Proofs.Ythlbplmghjaeoac
