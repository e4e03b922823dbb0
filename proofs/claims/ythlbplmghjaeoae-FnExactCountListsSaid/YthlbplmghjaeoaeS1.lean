/- Walks: the model's texts (cut, size, cells, mines). -/
import Derived.Test.YthlbplmghjaeoaeAid
import Derived.Outline
namespace Go.Proofs.Ythlbplmghjaeoae
open Go.RowKit

def splitGo (b : UInt8) (cur : List UInt8) : List UInt8 → List (List UInt8)
  | [] => [cur]
  | c :: r => if c = b then cur :: splitGo b [] r else splitGo b (cur ++ [c]) r
def splitB (b : UInt8) (l : List UInt8) : List (List UInt8) := splitGo b [] l

theorem u8_eq_int (x y : UInt8) : ((x.toNat : Int) == (y.toNat : Int)) = decide (x = y) := by
  by_cases h : x = y
  · simp [h]
  · have : ¬ x.toNat = y.toNat := fun e => h (UInt8.toNat_inj.1 e)
    simp [h]; omega

theorem seg_snoc {α : Type} (l : List α) (f k : Nat) (hf : f ≤ k) (hk : k < l.length) : (l.drop f).take (k + 1 - f) = (l.drop f).take (k - f) ++ [l[k]] := by
  have : k + 1 - f = (k - f) + 1 := by omega
  rw [this, List.take_succ_eq_append_getElem (by simp; omega)]
  simp [show f + (k - f) = k by omega]

theorem splitGo_pos (b : UInt8) : ∀ (l cur : List UInt8), 0 < (splitGo b cur l).length
  | [], _ => by simp [splitGo]
  | c :: r, cur => by
    unfold splitGo; split
    · simp
    · exact splitGo_pos b r _
theorem splitB_pos (b : UInt8) (l : List UInt8) : 0 < (splitB b l).length := splitGo_pos b l []
theorem splitGo_le (b : UInt8) : ∀ (l cur : List UInt8), (splitGo b cur l).length ≤ l.length + 1
  | [], _ => by simp [splitGo]
  | c :: r, cur => by
    unfold splitGo; split
    · have := splitGo_le b r []; simp; omega
    · have := splitGo_le b r (cur ++ [c]); simp; omega
theorem splitB_le (b : UInt8) (l : List UInt8) : (splitB b l).length ≤ l.length + 1 := splitGo_le b l []
theorem splitGo_part (b : UInt8) : ∀ (l cur : List UInt8), ∀ x ∈ splitGo b cur l, x.length ≤ cur.length + l.length
  | [], cur => by simp [splitGo]
  | c :: r, cur => by
    unfold splitGo; split
    · intro x hx
      rcases List.mem_cons.1 hx with rfl | hx
      · omega
      · have := splitGo_part b r [] x hx; simp at this; simp; omega
    · intro x hx
      have := splitGo_part b r (cur ++ [c]) x hx; simp at this; simp; omega
theorem splitB_part (b : UInt8) (l : List UInt8) (k : Nat) (hk : k < (splitB b l).length) : (splitB b l)[k].length ≤ l.length := by
  have := splitGo_part b l [] _ (List.getElem_mem hk)
  simpa using this

def inB (n lo hi : Int) : Bool := decide (lo ≤ n) && decide (n ≤ hi)

theorem l1In_yes (n lo hi : Int) (w : World) (h : lo ≤ n ∧ n ≤ hi) :
    Calls Try.prog 34 #[.int .i64 n, .int .i64 lo, .int .i64 hi] w fun e w' => e = .returned (.bool true) ∧ w = w' := by
  obtain ⟨h1, h2⟩ := h
  go_enter Try.func34, Try.ntmps34
  go_wp2
  go_ret
  exact ⟨rfl, rfl⟩
theorem l1In_no (n lo hi : Int) (w : World) (h : ¬ (lo ≤ n ∧ n ≤ hi)) :
    Calls Try.prog 34 #[.int .i64 n, .int .i64 lo, .int .i64 hi] w fun e w' => e = .returned (.bool false) ∧ w = w' := by
  by_cases h1 : lo ≤ n
  · have h2 : ¬ n ≤ hi := fun q => h ⟨h1, q⟩
    clear h
    go_enter Try.func34, Try.ntmps34
    go_wp2
    go_ret
    exact ⟨rfl, rfl⟩
  · clear h
    go_enter Try.func34, Try.ntmps34
    go_wp2
    go_ret
    exact ⟨rfl, rfl⟩
theorem l1In_any (n lo hi : Int) (w : World) :
    Calls Try.prog 34 #[.int .i64 n, .int .i64 lo, .int .i64 hi] w fun e w' => e = .returned (.bool (inB n lo hi)) ∧ w = w' := by
  by_cases h : lo ≤ n ∧ n ≤ hi
  · refine (l1In_yes n lo hi w h).mono ?_
    rintro e w' ⟨rfl, rfl⟩
    exact ⟨by simp [inB, h], rfl⟩
  · refine (l1In_no n lo hi w h).mono ?_
    rintro e w' ⟨rfl, rfl⟩
    exact ⟨by simp [inB]; omega, rfl⟩

end Go.Proofs.Ythlbplmghjaeoae
