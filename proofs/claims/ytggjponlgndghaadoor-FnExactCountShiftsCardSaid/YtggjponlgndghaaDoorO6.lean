/- Joined boards by the program: numbers, pictures, sums, neighbours around, and what a click opens. -/
import Derived.Test.YtggjponlgndghaaDoorO5
import Derived.Test.YtggjponlgndghaaDoorN8
import Derived.Test.YtggjponlgndghaaDoorYK
import Derived.Test.YtggjponlgndghaaDoorQ6
import Derived.Outline
namespace Go.Proofs.YtggjponlgndghaaDoor
open Go.RowKit

set_option maxRecDepth 100000 in
set_option maxHeartbeats 400000 in
theorem iIsJoined_any (l : List UInt8) (w : World) (hM : HasMax w) (hl : l.length ≤ 1048576) :
    Calls Tryd.prog 12 #[.string ⟨l.toArray⟩] w fun e w' => e = .returned (.bool (joB l)) ∧ Below w.heap.size w w' := by
  have HR := Lib.hid (readJoined_any l w hM hl)
  go_enter Tryd.func12, Tryd.ntmps12
  go_wp2_with fail
  refine HR.out.mono ?_
  rintro e w1 ⟨a, cap, rfl, hown, hb⟩
  go_wp2_with fail
  go_ret
  exact ⟨rfl, hb.alloc hb.size _⟩

set_option maxRecDepth 100000 in
set_option maxHeartbeats 400000 in
theorem iJoinedNumbers_any (l : List UInt8) (w : World) (hM : HasMax w) (hl : l.length ≤ 1048576) :
    Calls Tryd.prog 19 #[.string ⟨l.toArray⟩] w fun e w' => ∃ a cap, e = .returned (.tuple #[.slice a (jnOf l).length cap, .bool (joB l)]) ∧ Owns w' w.heap.size 3 (.slice a (jnOf l).length cap) (nats (jnOf l)) ∧ Below w.heap.size w w' := by
  have hTl : Hid ((jnOf l).length = (jC l).length) := by rw [Hid, jnOf, numsM_length]
  have hnb := fun w a cap h => numbersJ_any (J := joB l) (jW l) (jH l) a (jC l) cap w h (jC_le l) (jW_pos l) (jJ l)
  rw [show numsM (jC l) (geoOf (joB l) (jW l) (jH l)) = jnOf l from rfl] at hnb
  have HNB := Lib.hid hnb
  clear hnb
  go_enter Tryd.func19, Tryd.ntmps19
  go_wp2_with fail
  refine (readJoined_any l _ hM hl).mono ?_
  rintro e w1 ⟨a, cap, rfl, hown, hb⟩
  have s1 := hb.size
  have hat : ∀ o, At (w1.alloc o) a (byts (jC l)) := fun o => (hown.at).later rfl ((Below.refl _ _).alloc (Nat.le_refl _) _)
  go_wp2_with fail
  refine (HNB.out _ a cap (hat _)).mono ?_
  rintro e w2 ⟨a', cap', rfl, hown2, hb2⟩
  go_wp2_with fail
  go_ret2
  exact ⟨a', cap', by rw [hTl.out]; rfl, by rw [hTl.out]; exact hown2.mono (by simp; omega), (hb.alloc s1 _).trans (hb2.mono (by simp; omega))⟩

set_option maxRecDepth 100000 in
set_option maxHeartbeats 400000 in
theorem iJoinedPicture_any (l : List UInt8) (w : World) (hM : HasMax w) (hl : l.length ≤ 1048576) :
    Calls Tryd.prog 21 #[.string ⟨l.toArray⟩] w fun e w' => e = .returned (.tuple #[.string ⟨(jpiM l).toArray⟩, .bool (joB l)]) ∧ Below w.heap.size w w' := by
  have hpc := fun w a cap h => pictureJ_any (J := joB l) (jW l) (jH l) a (jC l) cap w h (jC_len l) (jSize l)
  rw [show textM (picGo (jC l) (geoOf (joB l) (jW l) (jH l)) 0 (jC l).length) (jW l) (jH l) = jpiM l from rfl] at hpc
  have HPC := Lib.hid hpc
  clear hpc
  go_enter Tryd.func21, Tryd.ntmps21
  go_wp2_with fail
  refine (readJoined_any l _ hM hl).mono ?_
  rintro e w1 ⟨a, cap, rfl, hown, hb⟩
  have s1 := hb.size
  have hat : ∀ o, At (w1.alloc o) a (byts (jC l)) := fun o => (hown.at).later rfl ((Below.refl _ _).alloc (Nat.le_refl _) _)
  go_wp2_with fail
  refine (HPC.out _ a cap (hat _)).mono ?_
  rintro e w2 ⟨rfl, hb2⟩
  go_wp2_with fail
  go_ret2
  exact ⟨rfl, (hb.alloc s1 _).trans (hb2.mono (by simp; omega))⟩

set_option maxRecDepth 100000 in
set_option maxHeartbeats 400000 in
theorem iJoinedSum_any (l : List UInt8) (w : World) (hM : HasMax w) (hl : l.length ≤ 1048576) :
    Calls Tryd.prog 23 #[.string ⟨l.toArray⟩] w fun e w' => e = .returned (.tuple #[.int .i64 (jsM l), .bool (joB l)]) ∧ Below w.heap.size w w' := by
  have hnb := fun w a cap h => sumJ_any (J := joB l) (jW l) (jH l) a (jC l) cap w h (jC_le l) (jW_pos l) (jJ l)
  rw [show sumGo (jC l) (geoOf (joB l) (jW l) (jH l)) 0 (jC l).length = jsM l from rfl] at hnb
  have HNB := Lib.hid hnb
  clear hnb
  go_enter Tryd.func23, Tryd.ntmps23
  go_wp2_with fail
  refine (readJoined_any l _ hM hl).mono ?_
  rintro e w1 ⟨a, cap, rfl, hown, hb⟩
  have s1 := hb.size
  have hat : ∀ o, At (w1.alloc o) a (byts (jC l)) := fun o => (hown.at).later rfl ((Below.refl _ _).alloc (Nat.le_refl _) _)
  go_wp2_with fail
  refine (HNB.out _ a cap (hat _)).mono ?_
  rintro e w2 ⟨rfl, hb2⟩
  go_wp2_with fail
  go_ret2
  exact ⟨rfl, (hb.alloc s1 _).trans (hb2.mono (by simp; omega))⟩

set_option maxRecDepth 100000 in
set_option maxHeartbeats 400000 in
theorem iJoinedNeighbours_any (l : List UInt8) (c : Int) (w : World) (hM : HasMax w) (hl : l.length ≤ 1048576) :
    Calls Tryd.prog 14 #[.string ⟨l.toArray⟩, .int .i64 c] w fun e w' => ∃ a cap, e = .returned (.tuple #[.slice a (jnbOf l c).length cap, .bool (jOK l c)]) ∧ Owns w' w.heap.size 3 (.slice a (jnbOf l c).length cap) (nats (jnbOf l c)) ∧ Below w.heap.size w w' := by
  cases hc : jOK l c with
  | false =>
    have HN : Hid (jnbOf l c = []) := by rw [Hid, jnbOf, hc]; rfl
    have HR := Lib.hid (readJWith_no l c w hM hl hc)
    clear hc
    go_enter Tryd.func14, Tryd.ntmps14
    go_wp2_with fail
    refine HR.out.mono ?_
    rintro e w1 ⟨rfl, hb⟩
    unfold NoGrid
    go_wp2_with fail
    go_ret2
    exact ⟨none, 0, by rw [HN.out]; rfl, by rw [HN.out]; exact Owns.nil _ _ _, hb.alloc hb.size _⟩
  | true =>
    obtain ⟨hj, k, rfl, hk⟩ := jOK_at hc
    have hk' : k < (jC l).length := by rw [(jC_yes hj).1]; exact hk
    have h64 := jC_le l
    have hnb := fun w a cap => neighboursJ_any (J := true) (jW l) (jH l) a (jC l).length cap k w (jW_pos l (by omega)) (by omega) h64 (fun _ => jJ l hj)
    have HN : Hid (jnbOf l (k : Int) = nearM (geoOf true (jW l) (jH l)) (jC l).length k) := by
      rw [Hid, jnbOf, if_pos hc, jG, hj]; rfl
    have HR := Lib.hid (readJWith_yes l k w hM hl hc)
    have HNB := Lib.hid hnb
    clear hc hnb
    go_enter Tryd.func14, Tryd.ntmps14
    go_wp2_with fail
    refine HR.out.mono ?_
    rintro e w1 ⟨a, cap, rfl, hown, hb⟩
    have s1 := hb.size
    go_wp2_with fail
    refine (HNB.out _ a cap).mono ?_
    rintro e w2 ⟨a', cap', rfl, hown2, hb2⟩
    go_wp2_with fail
    go_ret2
    exact ⟨a', cap', by rw [HN.out]; rfl, by rw [HN.out]; exact hown2.mono (by simp; omega), (hb.alloc s1 _).trans (hb2.mono (by simp; omega))⟩

/-- What JoinedClicks hands back. -/
def jcM (l : List UInt8) : Nat := (fcM (jC l) (jG l)).length

/-- What JoinedOpened hands back. -/
def joOK (l : List UInt8) (c : Int) : Bool := jOK l c && !((jC l).getD c.toNat 0 == 42)
def jopOf (l : List UInt8) (c : Int) : List Nat := if joOK l c = true then opM (jC l) (jG l) c.toNat else []
theorem jopOf_len (l : List UInt8) (c : Int) : (jopOf l c).length ≤ 1048576 := by
  unfold jopOf
  split
  · exact Nat.le_trans (opM_le _ _ _) (Nat.le_trans (jC_le l) (by decide))
  · simp

/-- What JoinedGroups hands back. -/
noncomputable def jgM (l : List UInt8) : List (List Nat) := grpsGo (jG l) (jW l) (jC l).length ((minM (jC l)).map (spOf (jW l))) (minM (jC l))
end Go.Proofs.YtggjponlgndghaaDoor
