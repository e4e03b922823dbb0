/- Walks: the rows of a grid as texts. -/
import Derived.Test.YthlbplmghjaeoacN6
import Derived.Outline
namespace Go.Proofs.Ythlbplmghjaeoac
open Go.RowKit

theorem Owns.cap {w : World} {B e : Nat} {a : Option Addr} {n cap : Nat} {xs : List Value} (h : Owns w B e (.slice a n cap) xs) : n ≤ cap := by
  obtain ⟨h1, h2⟩ := h
  rcases h2 with ⟨hv, _⟩ | ⟨g, cap', cur, hv, hg, hh, hle, _⟩
  · simp at hv; omega
  · simp at hv; omega

/-- Row k of some cells of a width. -/
def rowM (cells : List UInt8) (W k : Nat) : List UInt8 := (cells.drop (k * W)).take W

end Go.Proofs.Ythlbplmghjaeoac
