/- Walks: cells as rows by the model; a grid's text in any case. -/
import Derived.Test.YthlbplmghjaeoacT2
namespace Go.Proofs.Ythlbplmghjaeoac
open Go.RowKit

theorem brGo_le (W : Nat) : ∀ (x : List UInt8) (k : Nat), (brGo W k x).length ≤ 2 * x.length
  | [], _ => by simp [brGo]
  | c :: r, k => by
    have := brGo_le W r (k + 1)
    unfold brGo
    split <;> simp <;> omega


theorem Owns.put {w : World} {B e g n cap : Nat} {xs : List Value} (h : Owns w B e (.slice (some ⟨g, 0, none⟩) n cap) xs) (j : Nat) (u : Value) :
    Owns (w.setCell ⟨g, j, none⟩ u) B e (.slice (some ⟨g, 0, none⟩) n cap) (xs.set j u) := by
  obtain ⟨a', cap', hv⟩ := h.shape
  have hn : n = xs.length := by simp at hv; exact hv.2.1
  subst hn
  have := (World.ownsRow.stored h j u).1
  unfold Owns
  rw [List.length_set]
  exact this
theorem Owns.zero {w : World} {B e n cap : Nat} {a : Option Addr} {xs : List Value} (h : Owns w B e (.slice a n cap) xs) (h0 : 0 < xs.length) :
    ∃ g, a = some ⟨g, 0, none⟩ ∧ B ≤ g ∧ g < w.heap.size := by
  obtain ⟨_, h2⟩ := id h
  rcases h2 with ⟨_, hn⟩ | ⟨g, cap', cur, hv, hg, _⟩
  · omega
  · simp at hv
    obtain ⟨rfl, _, _⟩ := hv
    exact ⟨g, rfl, h.lt g rfl⟩
theorem Owns.froz {w : World} {B e g n cap : Nat} {xs : List Value} (h : Owns w B e (.slice (some ⟨g, 0, none⟩) n cap) xs) (j : Nat) : w.frozen? ⟨g, j, none⟩ = false := by
  obtain ⟨a', cap', hv⟩ := h.shape
  simp at hv
  obtain ⟨_, rfl, _⟩ := hv
  exact World.ownsRow.frozenAt (n := xs.length) (cap := cap) h j
theorem byts_set (l : List UInt8) (k : Nat) (c : UInt8) : (byts l).set k (.int .u8 (c.toNat : Int)) = byts (l.set k c) := by
  simp [byts, List.map_set]

/-- A grid as a text: of a board, or of none. -/
theorem gSize (l : List UInt8) : (gW l = 0 ∧ gH l = 0) ∨ ((1 ≤ gW l ∧ gW l ≤ 8) ∧ (1 ≤ gH l ∧ gH l ≤ 8)) := by
  by_cases hg : boGoodM l = true
  · have hB := Brd.of hg
    obtain ⟨g1, g2, _⟩ := hB.grid
    right
    rw [g1, g2]
    exact ⟨⟨hB.w1, hB.w8⟩, hB.h1, hB.h8⟩
  · left; simp [gW, gH, hg]
end Go.Proofs.Ythlbplmghjaeoac
