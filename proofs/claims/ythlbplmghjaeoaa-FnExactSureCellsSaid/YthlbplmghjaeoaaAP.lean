/- The first solution, by the model and by the program. -/
import Derived.Test.YthlbplmghjaeoaaAN
import Derived.Test.YthlbplmghjaeoaaKG
namespace Go.Proofs.Ythlbplmghjaeoaa
open Go.RowKit

/-- The signs of a listed board. -/
theorem preB_take (W n : Nat) (u : List UInt8) (hu : u.length = n) (hn : n ≤ 12) : (preB W n u).1.take n = u := by
  show (preP W n u).take n = u
  unfold preP
  rw [List.take_append_of_le_length (by simp; omega)]
  apply List.ext_getElem
  · simp; omega
  · intro i h1 h2
    simp [h2]
/-- The text of the first solution; no text where there is none. -/
def fsT (x y : Int) (cs : List Clu) : List UInt8 := if pzB x y cs = true then (match solC x.toNat (x.toNat * y.toNat) cs with | [] => [] | u :: _ => textM u x.toNat y.toNat) else []
/-- Is there a solution? -/
def fsB (x y : Int) (cs : List Clu) : Bool := pzB x y cs && !(solC x.toNat (x.toNat * y.toNat) cs).isEmpty
theorem fs_no {x y : Int} {cs : List Clu} (h : pzB x y cs = false) : fsT x y cs = [] ∧ fsB x y cs = false := by simp [fsT, fsB, h]
theorem fs_none {W H : Nat} {cs : List Clu} (hs : solC W (W * H) cs = []) : fsT W H cs = [] ∧ fsB W H cs = false := by simp [fsT, fsB, hs]
theorem fs_yes {W H : Nat} {cs : List Clu} (h : pzB W H cs = true) {u : List UInt8} {r : List (List UInt8)} (hs : solC W (W * H) cs = u :: r) : fsT W H cs = textM u W H ∧ fsB W H cs = true := by simp [fsT, fsB, h, hs]
end Go.Proofs.Ythlbplmghjaeoaa
