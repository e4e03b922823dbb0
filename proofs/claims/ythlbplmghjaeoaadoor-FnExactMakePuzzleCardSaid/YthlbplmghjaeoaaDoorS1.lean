/- Walks: the model's texts (cut, size, cells, mines). -/
import Derived.Test.YthlbplmghjaeoaaDoorAid
import Derived.Outline
namespace Go.Proofs.YthlbplmghjaeoaaDoor
open Go.RowKit

def splitGo (b : UInt8) (cur : List UInt8) : List UInt8 → List (List UInt8)
  | [] => [cur]
  | c :: r => if c = b then cur :: splitGo b [] r else splitGo b (cur ++ [c]) r
def splitB (b : UInt8) (l : List UInt8) : List (List UInt8) := splitGo b [] l

theorem u8_eq_int (x y : UInt8) : ((x.toNat : Int) == (y.toNat : Int)) = decide (x = y) := by
  by_cases h : x = y
  · simp [h]
  · have : ¬ x.toNat = y.toNat := fun e => h (UInt8.toNat_inj.1 e)
    simp [h]; omega

theorem seg_snoc {α : Type} (l : List α) (f k : Nat) (hf : f ≤ k) (hk : k < l.length) : (l.drop f).take (k + 1 - f) = (l.drop f).take (k - f) ++ [l[k]] := by
  have : k + 1 - f = (k - f) + 1 := by omega
  rw [this, List.take_succ_eq_append_getElem (by simp; omega)]
  simp [show f + (k - f) = k by omega]

set_option maxRecDepth 100000 in
set_option maxHeartbeats 800000 in
theorem l1Split_any (l : List UInt8) (b : UInt8) (c : Int) (hc : c = (b.toNat : Int)) (w : World) (hl : l.length ≤ 1048576) :
    Calls Tryd.prog 62 #[.string ⟨l.toArray⟩, .int .u8 c] w fun e w' => ∃ a cap, e = .returned (.slice a (splitB b l).length cap) ∧ Owns w' w.heap.size 9 (.slice a (splitB b l).length cap) (txts (splitB b l)) ∧ Below w.heap.size w w' := by
  subst hc
  go_enter Tryd.func62, Tryd.ntmps62
  go_wp2
  go_loopw [5, 6, 7] (fun v fr i wr => ∃ k f : Nat, k ≤ l.length ∧ f ≤ k ∧ i = .int .i64 k ∧ fr = .int .i64 f ∧ ∃ acc : List (List UInt8), acc.length ≤ k ∧ Owns wr w.heap.size 9 v (txts acc) ∧ Below w.heap.size w wr ∧ Hid (splitB b l = acc ++ splitGo b ((l.drop f).take (k - f)) (l.drop k))) (fun _ _ i _ => l.length - (intOf i).toNat)
  case atStart => exact ⟨0, 0, Nat.zero_le _, Nat.le_refl _, rfl, rfl, [], by simp, Owns.nil _ _ _, Below.refl _ _, by simp [Hid, splitB]⟩
  case round =>
    obtain ⟨k, f, hk, hf, rfl, rfl, acc, hacc, hown, hb, hR⟩ := hrel
    by_cases hlt : k < l.length
    · have Ht := Lib.hid (List.drop_eq_getElem_cons hlt)
      by_cases hcb : l[k] = b
      · have hd : ((l[k].toNat : Int) == (b.toNat : Int)) = true := by rw [u8_eq_int]; simp [hcb]
        have Hcb := Lib.hid hcb
        clear hcb
        go_wp2_with (at_builtin; refine wpList_app1 rfl _ _ _ rfl _ _ _ _ elemStr _ _ _ _ rfl rfl rfl hown rfl (by simp; omega) hb.size (by simp; omega) ?_; intro v1 w1 hown1 hb1 hs1)
        rw [txts_snoc] at hown1
        go_roundw
        case rel => exact ⟨k + 1, k + 1, by omega, by omega, by go_num, by go_num, _, by simp; omega, hown1, hb.trans hb1, by rw [Hid, hR.out, Ht.out, splitGo, if_pos Hcb.out]; simp⟩
        case measure => simp [intOf]; omega
      · have hd : ((l[k].toNat : Int) == (b.toNat : Int)) = false := by rw [u8_eq_int]; simp [hcb]
        have Hcb := Lib.hid hcb
        clear hcb
        go_wp2_with fail
        go_roundw
        case rel => exact ⟨k + 1, f, by omega, by omega, by go_num, rfl, acc, by omega, hown, hb, by rw [Hid, hR.out, Ht.out, splitGo, if_neg Hcb.out, seg_snoc l f k hf hlt]⟩
        case measure => simp [intOf]; omega
    · obtain rfl : k = l.length := by omega
      go_wp2_with (at_builtin; refine wpList_app1 rfl _ _ _ rfl _ _ _ _ elemStr _ _ _ _ rfl rfl rfl hown rfl (by simp; omega) hb.size (by simp; omega) ?_; intro v1 w1 hown1 hb1 hs1)
      rw [txts_snoc] at hown1
      go_ret
      have hfin : acc ++ [List.take (l.length - f) (List.drop f l)] = splitB b l := by rw [hR.out]; simp [splitGo]
      rw [hfin] at hown1
      obtain ⟨a, cap, hv⟩ := hown1.shape
      simp only [txts_length] at hv
      exact ⟨a, cap, by rw [← hv]; rfl, by rw [← hv]; exact hown1, hb.trans hb1⟩

theorem splitGo_pos (b : UInt8) : ∀ (l cur : List UInt8), 0 < (splitGo b cur l).length
  | [], _ => by simp [splitGo]
  | c :: r, cur => by
    unfold splitGo; split
    · simp
    · exact splitGo_pos b r _
theorem splitB_pos (b : UInt8) (l : List UInt8) : 0 < (splitB b l).length := splitGo_pos b l []
theorem splitGo_le (b : UInt8) : ∀ (l cur : List UInt8), (splitGo b cur l).length ≤ l.length + 1
  | [], _ => by simp [splitGo]
  | c :: r, cur => by
    unfold splitGo; split
    · have := splitGo_le b r []; simp; omega
    · have := splitGo_le b r (cur ++ [c]); simp; omega
theorem splitB_le (b : UInt8) (l : List UInt8) : (splitB b l).length ≤ l.length + 1 := splitGo_le b l []
theorem splitGo_part (b : UInt8) : ∀ (l cur : List UInt8), ∀ x ∈ splitGo b cur l, x.length ≤ cur.length + l.length
  | [], cur => by simp [splitGo]
  | c :: r, cur => by
    unfold splitGo; split
    · intro x hx
      rcases List.mem_cons.1 hx with rfl | hx
      · omega
      · have := splitGo_part b r [] x hx; simp at this; simp; omega
    · intro x hx
      have := splitGo_part b r (cur ++ [c]) x hx; simp at this; simp; omega
theorem splitB_part (b : UInt8) (l : List UInt8) (k : Nat) (hk : k < (splitB b l).length) : (splitB b l)[k].length ≤ l.length := by
  have := splitGo_part b l [] _ (List.getElem_mem hk)
  simpa using this

def inB (n lo hi : Int) : Bool := decide (lo ≤ n) && decide (n ≤ hi)

theorem l1In_yes (n lo hi : Int) (w : World) (h : lo ≤ n ∧ n ≤ hi) :
    Calls Tryd.prog 38 #[.int .i64 n, .int .i64 lo, .int .i64 hi] w fun e w' => e = .returned (.bool true) ∧ w = w' := by
  obtain ⟨h1, h2⟩ := h
  go_enter Tryd.func38, Tryd.ntmps38
  go_wp2
  go_ret
  exact ⟨rfl, rfl⟩
theorem l1In_no (n lo hi : Int) (w : World) (h : ¬ (lo ≤ n ∧ n ≤ hi)) :
    Calls Tryd.prog 38 #[.int .i64 n, .int .i64 lo, .int .i64 hi] w fun e w' => e = .returned (.bool false) ∧ w = w' := by
  by_cases h1 : lo ≤ n
  · have h2 : ¬ n ≤ hi := fun q => h ⟨h1, q⟩
    clear h
    go_enter Tryd.func38, Tryd.ntmps38
    go_wp2
    go_ret
    exact ⟨rfl, rfl⟩
  · clear h
    go_enter Tryd.func38, Tryd.ntmps38
    go_wp2
    go_ret
    exact ⟨rfl, rfl⟩
theorem l1In_any (n lo hi : Int) (w : World) :
    Calls Tryd.prog 38 #[.int .i64 n, .int .i64 lo, .int .i64 hi] w fun e w' => e = .returned (.bool (inB n lo hi)) ∧ w = w' := by
  by_cases h : lo ≤ n ∧ n ≤ hi
  · refine (l1In_yes n lo hi w h).mono ?_
    rintro e w' ⟨rfl, rfl⟩
    exact ⟨by simp [inB, h], rfl⟩
  · refine (l1In_no n lo hi w h).mono ?_
    rintro e w' ⟨rfl, rfl⟩
    exact ⟨by simp [inB]; omega, rfl⟩

end Go.Proofs.YthlbplmghjaeoaaDoor
