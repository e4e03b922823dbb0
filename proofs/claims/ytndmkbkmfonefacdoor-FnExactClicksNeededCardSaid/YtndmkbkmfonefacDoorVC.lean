/- Clicks: whether all free cells are open behind them, by the program. -/
import Derived.Test.YtndmkbkmfonefacDoorVB
import Derived.Test.YtndmkbkmfonefacDoorV8
import Derived.Test.YtndmkbkmfonefacDoorYP
import Derived.Test.YtndmkbkmfonefacDoorVL
import Derived.Deep.QuietTactic
import Derived.BigQuiet
import Derived.Outline
namespace Go.Proofs.YtndmkbkmfonefacDoor
open Go.RowKit

theorem enters_isFreeC (args : Array Value) (w' : World) : (callFunc 58 args).run Tryd.prog w' = .ok (.enter 58 args) w' := by
  go_simp
theorem aftL_lt (cells : List UInt8) (W : Nat) : ∀ (cs L : List Nat), (∀ x ∈ L, x < cells.length) → ∀ x ∈ aftL cells W L cs, x < cells.length
  | [], _, h => h
  | c :: r, L, h => by
    rw [aftL]
    exact aftL_lt cells W r _ (aft_lt h c)

end Go.Proofs.YtndmkbkmfonefacDoor
