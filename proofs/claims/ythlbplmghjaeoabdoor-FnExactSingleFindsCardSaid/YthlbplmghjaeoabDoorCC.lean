/- Notes: signs put in a list of unknown cells: NoteMines and NoteFree by the program; the same by the model. -/
import Derived.Test.YthlbplmghjaeoabDoorCB
import Derived.Test.YthlbplmghjaeoabDoorGC6
import Derived.Outline
namespace Go.Proofs.YthlbplmghjaeoabDoor
open Go.RowKit

theorem nuM_mines (l : List UInt8) (xs : List Int) (s t : UInt8) : textM (noteL (noteL (nuC l xs) (nuX l xs) s) [] t) (nuW l xs) (nuH l xs) = nuM l xs s := by rw [noteL_nil, nuM]
theorem nuM_free (l : List UInt8) (xs : List Int) (s t : UInt8) : textM (noteL (noteL (nuC l xs) [] t) (nuX l xs) s) (nuW l xs) (nuH l xs) = nuM l xs s := by rw [noteL_nil, nuM]

set_option maxRecDepth 100000 in
set_option maxHeartbeats 1600000 in
theorem iNoteMines_any (l : List UInt8) (xs : List Int) (a : Option Addr) (cap : Nat) (w : World) (hM : HasLib w) (hl : l.length ≤ 1048576) (hat : At w a (ints xs)) (hx : xs.length ≤ 1048576) :
    Calls Tryd.prog 22 #[.string ⟨l.toArray⟩, .slice a xs.length cap] w fun e w' => e = .returned (.tuple #[.string ⟨(nuM l xs 42).toArray⟩, .bool (nuOK l xs)]) ∧ Below w.heap.size w w' := by
  have h64 : (nuC l xs).length ≤ 64 := by
    unfold nuC
    split
    · exact grC_le _ _
    · simp
  obtain ⟨hsz, hcl⟩ := nu_size l xs
  have hcel := nu_cel l xs
  have HWI := Lib.hid (fun w h => with_any (nuW l xs) (nuH l xs) (nuC l xs) (nuX l xs) [] w h h64 hcel (Cel.nil _))
  have hcl2 : (noteL (noteL (nuC l xs) (nuX l xs) 42) [] 46).length = nuW l xs * nuH l xs := by rw [noteL_length, noteL_length, hcl]
  have HNG := Lib.hid (fun w => ngrid_any (nuW l xs) (nuH l xs) (noteL (noteL (nuC l xs) (nuX l xs) 42) [] 46) w)
  have HTX := Lib.hid (fun a cap w h hc => text_any (nuW l xs) (nuH l xs) a (noteL (noteL (nuC l xs) (nuX l xs) 42) [] 46) cap w h hc hcl2 hsz)
  have HE := Lib.hid (nuM_mines l xs 42 46)
  rw [HE.out] at HTX
  have HRD := Lib.hid (readUnknown_any l xs a cap w hM.max hl hat hx)
  generalize noteL (noteL (nuC l xs) (nuX l xs) 42) [] 46 = cs at *
  generalize nuM l xs 42 = tx at *
  unfold ntV fdV at *
  have em : ((maskM [] : Nat) : Int) = 0 := rfl
  rw [em] at HWI
  clear hsz hcl hcl2 hcel em HE
  go_enter Tryd.func22, Tryd.ntmps22
  go_wp2_with fail
  refine HRD.out.mono ?_
  rintro e w1 ⟨rfl, hb1⟩
  have hb1a := hb1.alloc hb1.size (.cells #[.int .i64 (nuW l xs), .int .i64 (nuH l xs), .string ⟨(nuC l xs).toArray⟩] 44)
  have HB1 := Lib.hid hb1a
  have HT1 := Lib.hid (hM.tab.later hb1a)
  have s1 := hb1a.size
  clear hb1a hb1
  go_wp2_with fail
  refine (HWI.out _ HT1.out).mono ?_
  rintro e w2 ⟨rfl, hb2⟩
  have HB2 := Lib.hid (HB1.out.trans (hb2.mono s1))
  clear hb2
  go_wp2_with fail
  refine (HNG.out _).mono ?_
  rintro e w3 ⟨a3, c3, rfl, hown, hb3⟩
  have HB3 := Lib.hid (HB2.out.trans (hb3.mono HB2.out.size))
  have HT := Lib.hid (HTX.out a3 c3 w3 hown.at hown.cap)
  clear hb3 hown
  go_wp2_with fail
  refine HT.out.mono ?_
  rintro e w4 ⟨rfl, hb4⟩
  go_wp2_with fail
  go_ret2
  exact ⟨rfl, HB3.out.trans (hb4.mono HB3.out.size)⟩

set_option maxRecDepth 100000 in
set_option maxHeartbeats 1600000 in
theorem iNoteFree_any (l : List UInt8) (xs : List Int) (a : Option Addr) (cap : Nat) (w : World) (hM : HasLib w) (hl : l.length ≤ 1048576) (hat : At w a (ints xs)) (hx : xs.length ≤ 1048576) :
    Calls Tryd.prog 24 #[.string ⟨l.toArray⟩, .slice a xs.length cap] w fun e w' => e = .returned (.tuple #[.string ⟨(nuM l xs 46).toArray⟩, .bool (nuOK l xs)]) ∧ Below w.heap.size w w' := by
  have h64 : (nuC l xs).length ≤ 64 := by
    unfold nuC
    split
    · exact grC_le _ _
    · simp
  obtain ⟨hsz, hcl⟩ := nu_size l xs
  have hcel := nu_cel l xs
  have HWI := Lib.hid (fun w h => with_any (nuW l xs) (nuH l xs) (nuC l xs) [] (nuX l xs) w h h64 (Cel.nil _) hcel)
  have hcl2 : (noteL (noteL (nuC l xs) [] 42) (nuX l xs) 46).length = nuW l xs * nuH l xs := by rw [noteL_length, noteL_length, hcl]
  have HNG := Lib.hid (fun w => ngrid_any (nuW l xs) (nuH l xs) (noteL (noteL (nuC l xs) [] 42) (nuX l xs) 46) w)
  have HTX := Lib.hid (fun a cap w h hc => text_any (nuW l xs) (nuH l xs) a (noteL (noteL (nuC l xs) [] 42) (nuX l xs) 46) cap w h hc hcl2 hsz)
  have HE := Lib.hid (nuM_free l xs 46 42)
  rw [HE.out] at HTX
  have HRD := Lib.hid (readUnknown_any l xs a cap w hM.max hl hat hx)
  generalize noteL (noteL (nuC l xs) [] 42) (nuX l xs) 46 = cs at *
  generalize nuM l xs 46 = tx at *
  unfold ntV fdV at *
  have em : ((maskM [] : Nat) : Int) = 0 := rfl
  rw [em] at HWI
  clear hsz hcl hcl2 hcel em HE
  go_enter Tryd.func24, Tryd.ntmps24
  go_wp2_with fail
  refine HRD.out.mono ?_
  rintro e w1 ⟨rfl, hb1⟩
  have hb1a := hb1.alloc hb1.size (.cells #[.int .i64 (nuW l xs), .int .i64 (nuH l xs), .string ⟨(nuC l xs).toArray⟩] 44)
  have HB1 := Lib.hid hb1a
  have HT1 := Lib.hid (hM.tab.later hb1a)
  have s1 := hb1a.size
  clear hb1a hb1
  go_wp2_with fail
  refine (HWI.out _ HT1.out).mono ?_
  rintro e w2 ⟨rfl, hb2⟩
  have HB2 := Lib.hid (HB1.out.trans (hb2.mono s1))
  clear hb2
  go_wp2_with fail
  refine (HNG.out _).mono ?_
  rintro e w3 ⟨a3, c3, rfl, hown, hb3⟩
  have HB3 := Lib.hid (HB2.out.trans (hb3.mono HB2.out.size))
  have HT := Lib.hid (HTX.out a3 c3 w3 hown.at hown.cap)
  clear hb3 hown
  go_wp2_with fail
  refine HT.out.mono ?_
  rintro e w4 ⟨rfl, hb4⟩
  go_wp2_with fail
  go_ret2
  exact ⟨rfl, HB3.out.trans (hb4.mono HB3.out.size)⟩
end Go.Proofs.YthlbplmghjaeoabDoor
