/- Walks: the model's mines of a text. -/
import Derived.Test.YtcnjpejlobompabS3
import Derived.Outline
namespace Go.Proofs.Ytcnjpejlobompab
open Go.RowKit

/-- The places of a sign in a text, told from i on. -/
def placesGo (b : UInt8) (i : Nat) : List UInt8 → List Nat
  | [] => []
  | c :: r => if c = b then i :: placesGo b (i + 1) r else placesGo b (i + 1) r
def places (b : UInt8) (l : List UInt8) : List Nat := placesGo b 0 l
theorem placesGo_le (b : UInt8) : ∀ (l : List UInt8) (i : Nat), (placesGo b i l).length ≤ l.length
  | [], _ => by simp [placesGo]
  | c :: r, i => by
    have := placesGo_le b r (i + 1)
    unfold placesGo; split <;> simp <;> omega
theorem places_le (b : UInt8) (l : List UInt8) : (places b l).length ≤ l.length := placesGo_le b l 0
/-- Numbers as a row of ints. -/
def nats (xs : List Nat) : List Value := ints (xs.map Int.ofNat)
@[simp] theorem nats_length (xs : List Nat) : (nats xs).length = xs.length := by simp [nats]
theorem nats_snoc (xs : List Nat) (x : Nat) : nats xs ++ [.int .i64 (x : Int)] = nats (xs ++ [x]) := by simp [nats, ints]


/-- What the model tells of a board's size and mines: zero if there is no board. -/
def gW (l : List UInt8) : Nat := if boGoodM l = true then (boSizeM l).1 else 0
def gH (l : List UInt8) : Nat := if boGoodM l = true then (boSizeM l).2 else 0
def gC (l : List UInt8) : Nat := if boGoodM l = true then (places 42 l).length else 0



/-- What MinesOf of the model hands back. -/
def minesM (l : List UInt8) : List Nat := if boGoodM l = true then places 42 (cellsM l) else []
end Go.Proofs.Ytcnjpejlobompab
