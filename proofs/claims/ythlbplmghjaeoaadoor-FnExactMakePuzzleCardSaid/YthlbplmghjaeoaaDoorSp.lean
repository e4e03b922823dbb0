/- strings.Split at the sign '/', by the library's contract. -/
import Derived.Test.YthlbplmghjaeoaaDoorS1
import Derived.Test.YthlbplmghjaeoaaDoorShelf
import Derived.Lib.Index
import Derived.Lib.Split
import Derived.Lib.SplitLaws
namespace Go.Proofs.YthlbplmghjaeoaaDoor
open Go.RowKit

/-- The library's variable that a cut of a text reads. -/
def HasMax (w : World) : Prop := ∃ m, w.cell? ⟨1, 0, none⟩ = some (.int .i64 m)
theorem HasMax.lt {w : World} (h : HasMax w) : 1 < w.heap.size := by
  obtain ⟨m, h⟩ := h
  exact World.block_lt_of_cell? w _ h
theorem HasMax.later {w w' : World} (h : HasMax w) (hb : Below w.heap.size w w') : HasMax w' := by
  have hlt := h.lt
  obtain ⟨m, h⟩ := h
  exact ⟨m, by rw [hb.cell (p := ⟨1, 0, none⟩) hlt]; exact h⟩

/-- A sign put ahead of the first piece. -/
def consHead (b : UInt8) : List (List UInt8) → List (List UInt8)
  | [] => [[b]]
  | x :: xs => (b :: x) :: xs
theorem splitGo_cons (c b : UInt8) : ∀ (l cur : List UInt8), splitGo c (b :: cur) l = consHead b (splitGo c cur l)
  | [], cur => rfl
  | x :: r, cur => by
    unfold splitGo
    by_cases h : x = c
    · rw [if_pos h, if_pos h]; rfl
    · rw [if_neg h, if_neg h]; exact splitGo_cons c b r (cur ++ [x])

theorem index_cons_ne (b c : UInt8) (l : List UInt8) (h : b ≠ c) : Lib.index (b :: l) [c] = if (Lib.index l [c] == -1) = true then -1 else Lib.index l [c] + 1 := by
  have : (List.isPrefixOf [c] (b :: l)) = false := by simp [List.isPrefixOf, Ne.symm h]
  simp [Lib.index, this]
theorem index_cons_eq (c : UInt8) (l : List UInt8) : Lib.index (c :: l) [c] = 0 := by
  simp [Lib.index, List.isPrefixOf]
theorem index_ge (c : UInt8) : ∀ l : List UInt8, -1 ≤ Lib.index l [c]
  | [] => by simp [Lib.index]
  | b :: l => by
    by_cases h : b = c
    · subst h; rw [index_cons_eq]; decide
    · rw [index_cons_ne b c l h]
      have := index_ge c l
      split <;> omega

theorem splitK_cons (c b : UInt8) (h : b ≠ c) (k : Nat) (l : List UInt8) : Lib.splitK [c] 0 k (b :: l) = consHead b (Lib.splitK [c] 0 k l) := by
  cases k with
  | zero => rfl
  | succ k =>
    unfold Lib.splitK
    rw [index_cons_ne b c l h]
    by_cases h1 : Lib.index l [c] = -1
    · simp [h1, consHead]
    · have h2 := index_ge c l
      obtain ⟨i, hi⟩ : ∃ i : Nat, Lib.index l [c] = i := ⟨(Lib.index l [c]).toNat, by omega⟩
      have e1 : ((i : Int) == -1) = false := by simp
      have e2 : ((i : Int) + 1 == -1) = false := by simp; omega
      rw [hi, e1]
      simp only [Bool.false_eq_true, if_false, e2]
      rw [show ((i : Int) + 1).toNat = i + 1 by omega, show ((i : Int)).toNat = i by omega]
      simp [consHead, List.take_succ_cons, Nat.add_assoc]

theorem splitK_eq (c : UInt8) : ∀ l : List UInt8, Lib.splitK [c] 0 (Lib.count l [c]) l = splitGo c [] l
  | [] => by
    have : Lib.count [] [c] = 0 := by rw [Lib.count_one]; rfl
    rw [this]; rfl
  | b :: r => by
    by_cases h : b = c
    · subst h
      have ih := splitK_eq b r
      rw [Lib.count_cons_eq, Nat.add_comm]
      unfold Lib.splitK splitGo
      rw [index_cons_eq, if_pos rfl]
      simp [ih]
    · rw [Lib.count_cons_ne b c r h, splitK_cons c b h, splitK_eq c r, splitGo, if_neg h]
      exact (splitGo_cons c b r []).symm

theorem split_cells (l : List UInt8) : (Lib.splitB ⟨#[47]⟩ 0 (Lib.countB ⟨l.toArray⟩ ⟨#[47]⟩) ⟨l.toArray⟩).map Value.string = txts (splitB 47 l) := by
  have h := Lib.splitB_data ⟨#[47]⟩ 0 (Lib.countB ⟨l.toArray⟩ ⟨#[47]⟩) ⟨l.toArray⟩
  have h2 : Lib.splitK [47] 0 (Lib.countB ⟨l.toArray⟩ ⟨#[47]⟩) l = splitB 47 l := splitK_eq 47 l
  have h3 : (Lib.splitB ⟨#[47]⟩ 0 (Lib.countB ⟨l.toArray⟩ ⟨#[47]⟩) ⟨l.toArray⟩).map (·.data.toList) = splitB 47 l := by rw [h]; exact h2
  rw [txts, ← h3, List.map_map]
  rfl

theorem split_any (l : List UInt8) (w : World) (hM : HasMax w) (hl : l.length ≤ 1048576) :
    Calls Tryd.prog 85 #[.string ⟨l.toArray⟩, .string ⟨#[47]⟩] w fun e w' => ∃ a cap, e = .returned (.slice a (splitB 47 l).length cap) ∧ Owns w' w.heap.size 9 (.slice a (splitB 47 l).length cap) (txts (splitB 47 l)) ∧ Below w.heap.size w w' := by
  obtain ⟨m, hm⟩ := hM
  have hlen := Lib.splitB_all ⟨#[47]⟩ (by decide) 0 _ ⟨l.toArray⟩ rfl
  have hc := split_cells l
  have hn : Lib.countB ⟨l.toArray⟩ ⟨#[47]⟩ + 1 = (splitB 47 l).length := by
    rw [← hlen, ← txts_length (splitB 47 l), ← hc, List.length_map]
  refine (Tryd.strings_Split ⟨l.toArray⟩ ⟨#[47]⟩ m w (by simp [ByteArray.size]; omega) hm (by decide)).mono ?_
  rintro e w' ⟨rfl, rfl⟩
  refine ⟨_, _, by rw [hn], ?_, (Below.refl _ _).alloc (Nat.le_refl _) _⟩
  rw [hc]
  refine ⟨by simp, .inr ⟨w.heap.size, (splitB 47 l).length, (txts (splitB 47 l)).toArray, by simp, Nat.le_refl _, heap_alloc_new w _, ?_, ?_, ?_, ?_⟩⟩
  · simp
  · have := splitB_le 47 l
    unfold maxLen; omega
  · simp
  · simp only [Nat.mul_one, txts_length]; rw [List.take_of_length_le (by simp)]

end Go.Proofs.YthlbplmghjaeoaaDoor
