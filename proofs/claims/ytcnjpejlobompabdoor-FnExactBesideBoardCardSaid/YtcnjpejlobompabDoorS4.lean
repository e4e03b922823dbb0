/- Walks: the model's mines of a text. -/
import Derived.Test.YtcnjpejlobompabDoorS3
import Derived.Outline
namespace Go.Proofs.YtcnjpejlobompabDoor
open Go.RowKit

/-- The places of a sign in a text, told from i on. -/
def placesGo (b : UInt8) (i : Nat) : List UInt8 → List Nat
  | [] => []
  | c :: r => if c = b then i :: placesGo b (i + 1) r else placesGo b (i + 1) r
def places (b : UInt8) (l : List UInt8) : List Nat := placesGo b 0 l
theorem placesGo_le (b : UInt8) : ∀ (l : List UInt8) (i : Nat), (placesGo b i l).length ≤ l.length
  | [], _ => by simp [placesGo]
  | c :: r, i => by
    have := placesGo_le b r (i + 1)
    unfold placesGo; split <;> simp <;> omega
theorem places_le (b : UInt8) (l : List UInt8) : (places b l).length ≤ l.length := placesGo_le b l 0
/-- Numbers as a row of ints. -/
def nats (xs : List Nat) : List Value := ints (xs.map Int.ofNat)
@[simp] theorem nats_length (xs : List Nat) : (nats xs).length = xs.length := by simp [nats]
theorem nats_snoc (xs : List Nat) (x : Nat) : nats xs ++ [.int .i64 (x : Int)] = nats (xs ++ [x]) := by simp [nats, ints]

set_option maxRecDepth 100000 in
set_option maxHeartbeats 800000 in
theorem boMines_any (l : List UInt8) (b : UInt8) (c : Int) (hc : c = (b.toNat : Int)) (w : World) (hl : l.length ≤ 1048576) :
    Calls Tryd.prog 29 #[.string ⟨l.toArray⟩, .int .u8 c] w fun e w' => ∃ a cap, e = .returned (.slice a (places b l).length cap) ∧ Owns w' w.heap.size 3 (.slice a (places b l).length cap) (nats (places b l)) ∧ Below w.heap.size w w' := by
  subst hc
  go_enter Tryd.func29, Tryd.ntmps29
  go_wp2_with fail
  go_loopw [5, 6] (fun v i wr => ∃ k : Nat, k ≤ l.length ∧ i = .int .i64 k ∧ ∃ acc : List Nat, acc.length ≤ k ∧ Owns wr w.heap.size 3 v (nats acc) ∧ Below w.heap.size w wr ∧ Hid (places b l = acc ++ placesGo b k (l.drop k))) (fun _ i _ => l.length - (intOf i).toNat)
  case atStart => exact ⟨0, Nat.zero_le _, rfl, [], by simp, Owns.nil _ _ _, Below.refl _ _, by simp [Hid, places]⟩
  case round =>
    obtain ⟨k, hk, rfl, acc, hacc, hown, hb, hR⟩ := hrel
    by_cases hlt : k < l.length
    · have Ht := Lib.hid (List.drop_eq_getElem_cons hlt)
      by_cases hcb : l[k] = b
      · have hd : ((l[k].toNat : Int) == (b.toNat : Int)) = true := by rw [u8_eq_int]; simp [hcb]
        have Hcb := Lib.hid hcb
        clear hcb
        go_wp2_with (at_builtin; refine wpList_app1 rfl _ _ _ rfl _ _ _ _ elemInt _ _ _ _ rfl rfl rfl hown rfl (by simp; omega) hb.size (by simp; omega) ?_; intro v1 w1 hown1 hb1 hs1)
        rw [nats_snoc] at hown1
        go_roundw
        case rel => exact ⟨k + 1, by omega, by go_num, _, by simp; omega, hown1, hb.trans hb1, by rw [Hid, hR.out, Ht.out, placesGo, if_pos Hcb.out]; simp⟩
        case measure => simp [intOf]; omega
      · have hd : ((l[k].toNat : Int) == (b.toNat : Int)) = false := by rw [u8_eq_int]; simp [hcb]
        have Hcb := Lib.hid hcb
        clear hcb
        go_wp2_with fail
        go_roundw
        case rel => exact ⟨k + 1, by omega, by go_num, acc, by omega, hown, hb, by rw [Hid, hR.out, Ht.out, placesGo, if_neg Hcb.out]⟩
        case measure => simp [intOf]; omega
    · obtain rfl : k = l.length := by omega
      go_wp2_with fail
      go_ret
      have hfin : acc = places b l := by rw [hR.out]; simp [placesGo]
      rw [hfin] at hown
      obtain ⟨a, cap, hv⟩ := hown.shape
      simp only [nats_length] at hv
      exact ⟨a, cap, by rw [← hv]; rfl, by rw [← hv]; exact hown, hb⟩


/-- What the model tells of a board's size and mines: zero if there is no board. -/
def gW (l : List UInt8) : Nat := if boGoodM l = true then (boSizeM l).1 else 0
def gH (l : List UInt8) : Nat := if boGoodM l = true then (boSizeM l).2 else 0
def gC (l : List UInt8) : Nat := if boGoodM l = true then (places 42 l).length else 0



/-- What MinesOf of the model hands back. -/
def minesM (l : List UInt8) : List Nat := if boGoodM l = true then places 42 (cellsM l) else []
end Go.Proofs.YtcnjpejlobompabDoor
