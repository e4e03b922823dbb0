/- The law of NeedlessClicks, walked: at all arguments the program answers as the model, and what it hands back is its own. -/
import Derived.Test.YtndmkbkmfonefadDoorVD
import Derived.Test.YtndmkbkmfonefadDoorZ4
import Derived.Test.YtndmkbkmfonefadDoorE2
namespace Go.Proofs.YtndmkbkmfonefadDoor
open Go.RowKit

set_option maxRecDepth 100000 in
set_option maxHeartbeats 3200000 in
theorem law_NeedlessClicks (l : List UInt8) (xs : List Int) (a : Option Addr) (cap : Nat) (w : World) (hM : HasMax w) (hat : At w a (ints xs)) (hs : l.length ≤ 9223372036854775807) (hs2 : xs.length ≤ 9223372036854775807) :
    Calls Tryd.prog 5 #[.string ⟨l.toArray⟩, .slice a xs.length cap] w fun e w' => e = .returned (.bool true) ∧ Below w.heap.size w w' := by
  by_cases hl : l.length ≤ 1048576
  · by_cases hx : xs.length ≤ 1048576
    · have d0 : (clkOK l xs != clkOK l xs) = false := by simp
      have d1 : ((1 : Int) + ((ndOf l xs).length : Int) != 1 + ((ndOf l xs).length : Int)) = false := by simp
      have hlen : (ndOf l xs).length ≤ 1048576 := ndOf_len l xs
      go_enter Tryd.func5, Tryd.ntmps5
      go_wp2_with fail
      refine (toIntS_any xs a cap _ hat hx).mono ?_
      rintro e v1 ⟨b1, k1, rfl, ho1, hv1⟩
      have t1 := hv1.size
      go_wp2_with fail
      refine (sNeedlessClicks_any l xs b1 k1 _ hl ho1.at hx).mono ?_
      rintro e v2 ⟨a1, c1, rfl, hown1, hv2⟩
      have t2 := hv2.size
      have hb1 : Below w.heap.size w v2 := hv1.trans (hv2.mono t1)
      have hwlt := Lib.hid (fun j hj => (hown1.lt j hj).2)
      clear ho1
      go_wp2_with fail
      refine (toIntS_any xs a cap _ (hat.later rfl hb1) hx).mono ?_
      rintro e v3 ⟨b3, k3, rfl, ho3, hv3⟩
      have t3 := hv3.size
      have hxlt := Lib.hid (fun j hj => (ho3.lt j hj).2)
      have hb3 : Below w.heap.size w v3 := hb1.trans (hv3.mono hb1.size)
      go_wp2_with fail
      refine (iNeedlessClicks_any l xs b3 k3 _ (hM.later hb3) hl ho3.at hx).mono ?_
      rintro e v4 ⟨a2, c2, rfl, hown2, hv4⟩
      have t4 := hv4.size
      have hb4 : Below w.heap.size w v4 := hb3.trans (hv4.mono hb3.size)
      have ho4 := ho3.later hv4
      have hw4 := (hown1.later hv3).later hv4
      clear ho3 hown1
      go_wp2_with fail
      refine (eqIntS_same _ _ ((ndOf l xs).map Int.ofNat) _ _ _ _ (by simp) hown2.at hw4.at (by simp; omega)).mono ?_
      rintro e v5 ⟨rfl, hv5⟩
      have t5 := hv5.size
      have hb5 : Below w.heap.size w v5 := hb4.trans (hv5.mono hb4.size)
      have ho5 := ho4.later hv5
      have hw5 := hw4.later hv5
      have hg5 := hown2.later hv5
      clear ho4 hw4 hown2
      go_wp2_with fail
      refine (toIntS_any xs a cap _ (hat.later rfl hb5) hx).mono ?_
      rintro e v6 ⟨b6, k6, rfl, ho6, hv6⟩
      have t6 := hv6.size
      have hb6 : Below w.heap.size w v6 := hb5.trans (hv6.mono hb5.size)
      have hx6 := ho5.later hv6
      have hw6 := hw5.later hv6
      have hg6 := hg5.later hv6
      clear ho5 hw5 hg5
      go_wp2_with fail
      refine (eqIntS_same _ _ xs _ _ _ _ rfl hx6.at ho6.at (by omega)).mono ?_
      rintro e v7 ⟨rfl, hv7⟩
      have t7 := hv7.size
      have hb7 : Below w.heap.size w v7 := hb6.trans (hv7.mono hb6.size)
      have hx7 := hx6.later hv7
      have hw7 := hw6.later hv7
      have hg7 := hg6.later hv7
      clear ho6 hx6 hw6 hg6
      go_wp2_with fail
      refine (markIntS_keep v2.heap.size _ xs _ _ _ _ rfl rfl hx7 (by omega)).mono ?_
      rintro e v8 ⟨rfl, hx8, hv8, hk8⟩
      have t8 := hv8.size
      have hb8 : Below w.heap.size w v8 := hb7.trans (hv8.mono (by omega))
      have hlow : ∀ j, (Value.slice a1 (ndOf l xs).length c1).ownBlock = some j → j < v2.heap.size := hwlt.out
      have hw8 := hw7.heapOf (fun j hj => hk8 j (fun q => by have := hlow j hj; have := (hx7.lt j q).1; omega))
      have hg8 := hg7.heapOf (fun j hj => hk8 j (fun q => by have := hxlt.out j q; have := (hg7.lt j hj).1; omega))
      have hM8 : HasMax v8 := hM.later hb8
      clear hk8 hx8 hw7 hg7 hx7 hlow
      go_wp2_with fail
      refine (eqIntS_same _ _ ((ndOf l xs).map Int.ofNat) _ _ _ _ (by simp) hg8.at hw8.at (by simp; omega)).mono ?_
      rintro e v9 ⟨rfl, hv9⟩
      have t9 := hv9.size
      have hb9 : Below w.heap.size w v9 := hb8.trans (hv9.mono hb8.size)
      have hw9 := hw8.later hv9
      have hg9 := hg8.later hv9
      clear hw8 hg8
      go_wp2_with fail
      refine (markIntS_keep v3.heap.size _ ((ndOf l xs).map Int.ofNat) _ _ _ _ rfl (by simp) hg9 (by simp; omega)).mono ?_
      rintro e u1 ⟨rfl, hg10, hu1, hk10⟩
      have hb10 : Below w.heap.size w u1 := hb9.trans (hu1.mono (by omega))
      have hw10 := hw9.heapOf (fun j hj => hk10 j (fun q => by have := hwlt.out j hj; have := (hg9.lt j q).1; omega))
      clear hk10 hw9 hg9
      go_wp2_with fail
      refine (heldIntS_seq _ _ _ _ _ rfl hg10.at (by omega)).mono ?_
      rintro e u1' ⟨rfl, rfl⟩
      go_wp2_with fail
      refine (toIntS_any xs a cap _ (hat.later rfl hb10) hx).mono ?_
      rintro e u2 ⟨b7, k7, rfl, ho7, hu2⟩
      have hb11 : Below w.heap.size w u2 := hb10.trans (hu2.mono hb10.size)
      have hw11 := hw10.later hu2
      have hg11 := hg10.later hu2
      clear hw10 hg10
      go_wp2_with fail
      refine (iNeedlessClicks_any l xs b7 k7 _ (hM.later hb11) hl ho7.at hx).mono ?_
      rintro e u3 ⟨a5, c5, rfl, hown5, hu3⟩
      have hb12 : Below w.heap.size w u3 := hb11.trans (hu3.mono hb11.size)
      have hw12 := hw11.later hu3
      have hg12 := hg11.later hu3
      clear hw11 hg11 ho7
      go_wp2_with fail
      refine (eqIntS_same _ _ ((ndOf l xs).map Int.ofNat) _ _ _ _ (by simp) hown5.at hw12.at (by simp; omega)).mono ?_
      rintro e u4 ⟨rfl, hu4⟩
      have hb13 : Below w.heap.size w u4 := hb12.trans (hu4.mono hb12.size)
      have hg13 := hg12.later hu4
      clear hw12 hg12 hown5
      go_wp2_with fail
      refine (heldIntS_seq _ _ _ _ _ rfl hg13.at (by omega)).mono ?_
      rintro e u4' ⟨rfl, rfl⟩
      go_wp2_with fail
      go_ret
      exact ⟨rfl, hb13⟩

    · have hx' : 1048576 < xs.length := by omega
      clear hx
      go_enter Tryd.func5, Tryd.ntmps5
      go_wp2_with fail
      go_ret
      exact ⟨rfl, Below.refl _ _⟩
  · have hl' : 1048576 < l.length := by omega
    clear hl
    go_enter Tryd.func5, Tryd.ntmps5
    go_wp2_with fail
    go_ret
    exact ⟨rfl, Below.refl _ _⟩
end Go.Proofs.YtndmkbkmfonefadDoor
