/- The law FnExactFirstDesk holds. -/
import Derived.Test.YteajhjiibenenaaP3
