/- Notes: signs put in a list of unknown cells: NoteMines and NoteFree by the program; the same by the model. -/
import Derived.Test.YthlbplmghjaeoacDoorCB
import Derived.Test.YthlbplmghjaeoacDoorGC6
import Derived.Outline
namespace Go.Proofs.YthlbplmghjaeoacDoor
open Go.RowKit

theorem nuM_mines (l : List UInt8) (xs : List Int) (s t : UInt8) : textM (noteL (noteL (nuC l xs) (nuX l xs) s) [] t) (nuW l xs) (nuH l xs) = nuM l xs s := by rw [noteL_nil, nuM]
theorem nuM_free (l : List UInt8) (xs : List Int) (s t : UInt8) : textM (noteL (noteL (nuC l xs) [] t) (nuX l xs) s) (nuW l xs) (nuH l xs) = nuM l xs s := by rw [noteL_nil, nuM]


end Go.Proofs.YthlbplmghjaeoacDoor
