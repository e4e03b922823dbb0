/- Joined boards by the program: numbers, pictures, sums, neighbours around, and what a click opens. -/
import Derived.Test.YtbnoallcdjpihaaDoorO5
import Derived.Test.YtbnoallcdjpihaaDoorN8
import Derived.Test.YtbnoallcdjpihaaDoorYK
import Derived.Test.YtbnoallcdjpihaaDoorQ6
import Derived.Outline
namespace Go.Proofs.YtbnoallcdjpihaaDoor
open Go.RowKit






/-- What JoinedClicks hands back. -/
def jcM (l : List UInt8) : Nat := (fcM (jC l) (jG l)).length
set_option maxRecDepth 100000 in
set_option maxHeartbeats 400000 in
theorem iJoinedClicks_any (l : List UInt8) (w : World) (hM : HasMax w) (hl : l.length ≤ 1048576) :
    Calls Tryd.prog 20 #[.string ⟨l.toArray⟩] w fun e w' => e = .returned (.tuple #[.int .i64 (jcM l), .bool (joB l)]) ∧ Below w.heap.size w w' := by
  have hfc := fun w a cap h => firstClicksJ_any (J := joB l) (jW l) (jH l) a (jC l) cap w h (jC_le l) (jW_pos l) (jJ l)
  rw [show fcM (jC l) (geoOf (joB l) (jW l) (jH l)) = fcM (jC l) (jG l) from rfl] at hfc
  have HFC := Lib.hid hfc
  have HJ : Hid (jcM l = (fcM (jC l) (jG l)).length) := rfl
  clear hfc
  go_enter Tryd.func20, Tryd.ntmps20
  go_wp2_with fail
  refine (readJoined_any l _ hM hl).mono ?_
  rintro e w1 ⟨a, cap, rfl, hown, hb⟩
  have s1 := hb.size
  have hat : ∀ o, At (w1.alloc o) a (byts (jC l)) := fun o => (hown.at).later rfl ((Below.refl _ _).alloc (Nat.le_refl _) _)
  go_wp2_with fail
  refine (HFC.out _ a cap (hat _)).mono ?_
  rintro e w2 ⟨a', cap', rfl, hown2, hb2⟩
  go_wp2_with fail
  go_ret2
  exact ⟨by rw [HJ.out]; rfl, (hb.alloc s1 _).trans (hb2.mono (by simp; omega))⟩

/-- What JoinedOpened hands back. -/
def joOK (l : List UInt8) (c : Int) : Bool := jOK l c && !((jC l).getD c.toNat 0 == 42)
def jopOf (l : List UInt8) (c : Int) : List Nat := if joOK l c = true then opM (jC l) (jG l) c.toNat else []
theorem jopOf_len (l : List UInt8) (c : Int) : (jopOf l c).length ≤ 1048576 := by
  unfold jopOf
  split
  · exact Nat.le_trans (opM_le _ _ _) (Nat.le_trans (jC_le l) (by decide))
  · simp
set_option maxRecDepth 100000 in
set_option maxHeartbeats 800000 in
theorem iJoinedOpened_any (l : List UInt8) (c : Int) (w : World) (hM : HasMax w) (hl : l.length ≤ 1048576) :
    Calls Tryd.prog 15 #[.string ⟨l.toArray⟩, .int .i64 c] w fun e w' => ∃ a cap, e = .returned (.tuple #[.slice a (jopOf l c).length cap, .bool (joOK l c)]) ∧ Owns w' w.heap.size 3 (.slice a (jopOf l c).length cap) (nats (jopOf l c)) ∧ Below w.heap.size w w' := by
  cases hc : jOK l c with
  | false =>
    have HO : Hid (joOK l c = false) := by rw [Hid, joOK, hc]; rfl
    have HN : Hid (jopOf l c = []) := by rw [Hid, jopOf, HO.out]; rfl
    have HR := Lib.hid (readJWith_no l c w hM hl hc)
    clear hc
    go_enter Tryd.func15, Tryd.ntmps15
    go_wp2_with fail
    refine HR.out.mono ?_
    rintro e w1 ⟨rfl, hb⟩
    unfold NoGrid
    go_wp2_with fail
    go_ret2
    exact ⟨none, 0, by rw [HN.out, HO.out]; rfl, by rw [HN.out]; exact Owns.nil _ _ _, hb.alloc hb.size _⟩
  | true =>
    obtain ⟨hj, k, rfl, hk⟩ := jOK_at hc
    have hk' : k < (jC l).length := by rw [(jC_yes hj).1]; exact hk
    have h64 := jC_le l
    have hgd : (jC l).getD k 0 = (jC l)[k] := by simp [List.getD, hk']
    have hmi := fun w a cap h => isMine_any (J := true) (jW l) (jH l) a (jC l) cap k w h hk' h64
    have hW1 := jW_pos l (by omega)
    have HR := Lib.hid (readJWith_yes l k w hM hl hc)
    by_cases h42 : (jC l)[k] = 42
    · have hd : (((jC l)[k].toNat : Int) == 42) = true := by rw [is42]; simp [h42]
      have HO : Hid (joOK l (k : Int) = false) := by rw [Hid, joOK, hc, Int.toNat_natCast, hgd, h42]; rfl
      have HN : Hid (jopOf l (k : Int) = []) := by rw [Hid, jopOf, HO.out]; rfl
      rw [hd] at hmi
      have HMI := Lib.hid hmi
      clear hc hmi h42 hgd
      go_enter Tryd.func15, Tryd.ntmps15
      go_wp2_with fail
      refine HR.out.mono ?_
      rintro e w1 ⟨a, cap, rfl, hown, hb⟩
      have s1 := hb.size
      have hat : ∀ o, At (w1.alloc o) a (byts (jC l)) := fun o => (hown.at).later rfl ((Below.refl _ _).alloc (Nat.le_refl _) _)
      go_wp2_with fail
      refine (HMI.out _ a cap (hat _)).mono ?_
      rintro e w2 ⟨rfl, hb2⟩
      go_wp2_with fail
      go_ret2
      exact ⟨none, 0, by rw [HN.out, HO.out]; rfl, by rw [HN.out]; exact Owns.nil _ _ _, (hb.alloc s1 _).trans (hb2.mono (by simp; omega))⟩
    · have hd : (((jC l)[k].toNat : Int) == 42) = false := by rw [is42]; simp [h42]
      have HO : Hid (joOK l (k : Int) = true) := by
        rw [Hid, joOK, hc, Int.toNat_natCast, hgd]; simp [h42]
      have HN : Hid (jopOf l (k : Int) = opM (jC l) (geoOf true (jW l) (jH l)) k) := by
        rw [Hid, jopOf, if_pos HO.out, jG, hj]; rfl
      have hop := fun w a cap h => openedByJ_any (J := true) (jW l) (jH l) a (jC l) cap k w h hW1 h64 hk' (fun _ => jJ l hj)
      rw [hd] at hmi
      have HMI := Lib.hid hmi
      have HOP := Lib.hid hop
      clear hc hmi h42 hgd hop
      go_enter Tryd.func15, Tryd.ntmps15
      go_wp2_with fail
      refine HR.out.mono ?_
      rintro e w1 ⟨a, cap, rfl, hown, hb⟩
      have s1 := hb.size
      have hba : ∀ o, Below w1.heap.size w1 (w1.alloc o) := fun o => (Below.refl _ _).alloc (Nat.le_refl _) _
      have hGa := heap_alloc_new w1 (.cells #[.int .i64 (jW l), .int .i64 (jH l), .slice a (jC l).length cap, .bool true] 39)
      have hsa : w1.heap.size < (w1.alloc (.cells #[.int .i64 (jW l), .int .i64 (jH l), .slice a (jC l).length cap, .bool true] 39)).heap.size := by simp
      have hb1 := hb.alloc s1 (.cells #[.int .i64 (jW l), .int .i64 (jH l), .slice a (jC l).length cap, .bool true] 39)
      have hat := (hown.at).later rfl (hba (.cells #[.int .i64 (jW l), .int .i64 (jH l), .slice a (jC l).length cap, .bool true] 39))
      clear hba
      go_wp2_with fail
      generalize w1.alloc (.cells #[.int .i64 (jW l), .int .i64 (jH l), .slice a (jC l).length cap, .bool true] 39) = w2 at *
      refine (HMI.out _ a cap hat).mono ?_
      rintro e w3 ⟨rfl, hb3⟩
      have hG3 := (hb3.block _ hsa).trans hGa
      have hf0 := cell_of_block hG3 0
      have hf1 := cell_of_block hG3 1
      have hf2 := cell_of_block hG3 2
      have hf3 := cell_of_block hG3 3
      simp at hf0 hf1 hf2 hf3
      clear hGa hG3
      have hat3 := hat.later rfl hb3
      go_wp2_with fail
      refine (HOP.out _ a cap hat3).mono ?_
      rintro e w4 ⟨a', cap', rfl, hown4, hb4⟩
      have s3 := hb3.size
      have s2 := hb1.size
      go_wp2_with fail
      go_ret2
      exact ⟨a', cap', by rw [HN.out, HO.out]; rfl, by rw [HN.out]; exact hown4.mono (by omega), (hb1.trans (hb3.mono s2)).trans (hb4.mono (by omega))⟩

/-- What JoinedGroups hands back. -/
noncomputable def jgM (l : List UInt8) : List (List Nat) := grpsGo (jG l) (jW l) (jC l).length ((minM (jC l)).map (spOf (jW l))) (minM (jC l))
set_option maxRecDepth 100000 in
set_option maxHeartbeats 800000 in
theorem iJoinedGroups_any (l : List UInt8) (w : World) (hM : HasMax w) (hl : l.length ≤ 1048576) :
    Calls Tryd.prog 10 #[.string ⟨l.toArray⟩] w fun e w' => ∃ a cap us, e = .returned (.tuple #[.slice a (jgM l).length cap, .bool (joB l)]) ∧ us.length = (jgM l).length ∧
      Fam w' w.heap.size ((.slice a (jgM l).length cap, 30, us) :: rowsF us (jgM l)) ∧ Below w.heap.size w w' := by
  have hgl := jC_le l
  have hW : 0 < (jC l).length → 1 ≤ jW l ∧ jW l ≤ 8 := fun h => ⟨jW_pos l h, jW_le l⟩
  have hgr := fun w a cap h => groupsJ_any (J := joB l) (jW l) (jH l) a (jC l) cap w h hgl hW (fun q _ => jJ l q)
  rw [show grpsGo (geoOf (joB l) (jW l) (jH l)) (jW l) (jC l).length ((minM (jC l)).map (spOf (jW l))) (minM (jC l)) = jgM l from rfl] at hgr
  have HGR := Lib.hid hgr
  clear hgr
  go_enter Tryd.func10, Tryd.ntmps10
  go_wp2_with fail
  refine (readJoined_any l _ hM hl).mono ?_
  rintro e w1 ⟨a, cap, rfl, hown, hb⟩
  have s1 := hb.size
  have hat : ∀ o, At (w1.alloc o) a (byts (jC l)) := fun o => (hown.at).later rfl ((Below.refl _ _).alloc (Nat.le_refl _) _)
  go_wp2_with fail
  refine (HGR.out _ a cap (hat _)).mono ?_
  rintro e w2 ⟨a', cap', us, rfl, hus, hF, hb2⟩
  go_wp2_with fail
  go_ret2
  exact ⟨a', cap', us, rfl, hus, hF.mono (by simp; omega), (hb.alloc s1 _).trans (hb2.mono (by simp; omega))⟩
end Go.Proofs.YtbnoallcdjpihaaDoor
