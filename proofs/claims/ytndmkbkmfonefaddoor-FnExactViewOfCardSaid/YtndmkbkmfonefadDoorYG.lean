/- Opening: the openings that a cell is in. -/
import Derived.Test.YtndmkbkmfonefadDoorYF
import Derived.Outline
namespace Go.Proofs.YtndmkbkmfonefadDoor
open Go.RowKit

/-- A row of rows, read at one place. -/
theorem Fam.row {w : World} {B e n cp : Nat} {A : Option Addr} {us : List Value} {rss : List (List Nat)} {F : List Rw} (hF : Fam w B ((.slice A n cp, e, us) :: (rowsF us rss ++ F))) (hus : us.length = rss.length) (k : Nat) (hk : k < rss.length) :
    ∃ g off a c, A = some ⟨g, off, none⟩ ∧ w.cell? ⟨g, off + k, none⟩ = some (.slice a rss[k].length c) ∧ Owns w B 3 (.slice a rss[k].length c) (nats rss[k]) := by
  have hku : k < us.length := by omega
  obtain ⟨_, _, hv⟩ := hF.head.shape
  obtain ⟨g, off, hA, hc⟩ := (Owns.at hF.head) k hku
  have ho := hF.own _ (List.mem_cons_of_mem _ (List.mem_append.2 (.inl (rowsF_mem us rss k hku hk))))
  obtain ⟨a, c, hs⟩ := Owns.shape ho
  simp only [nats_length] at hs
  refine ⟨g, off, a, c, hA, by rw [hc, hs], ?_⟩
  rw [← hs]
  exact ho

theorem hasI_cons (x : Int) (r : List Int) (c : Int) : hasI (x :: r) c = (x == c || hasI r c) := rfl

/-- The indices of the rows that have a number. -/
def wiM (rss : List (List Nat)) (c : Int) : List Nat := filtM (fun i => hasI ((rss.getD i []).map Int.ofNat) c) rss.length
theorem wiM_le (rss : List (List Nat)) (c : Int) : (wiM rss c).length ≤ rss.length := filtM_le _ _

end Go.Proofs.YtndmkbkmfonefadDoor
