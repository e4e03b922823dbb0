/- Walks: the model's size of a board and what is none. -/
import Derived.Test.YthlbplmghjaeoaeS1
namespace Go.Proofs.Ythlbplmghjaeoae
open Go.RowKit

def allLen (n : Nat) : List (List UInt8) → Bool
  | [] => true
  | r :: rs => if r.length = n then allLen n rs else false
def headLen (rows : List (List UInt8)) : Nat := (rows.headD []).length
def szOf (rows : List (List UInt8)) : Nat × Nat :=
  if allLen (headLen rows) rows = true ∧ rows.length ≤ 8 ∧ 1 ≤ headLen rows ∧ headLen rows ≤ 8 then (headLen rows, rows.length) else (0, 0)
def boSizeM (l : List UInt8) : Nat × Nat := szOf (splitB 47 l)

end Go.Proofs.Ythlbplmghjaeoae
