/- CV, CW, CX, laid as one text. -/
import Derived.Test.YthlbplmghjaeoabDoorCU
import Derived.Outline
import Derived.Test.YthlbplmghjaeoabDoorCC

/- Notes: a step by the rules, by the model. -/
namespace Go.Proofs.YthlbplmghjaeoabDoor
open Go.RowKit

theorem fst_hit (cells : List UInt8) (W : Nat) (na : List Nat) (ra : Int) : ∀ ks : List Nat, fnd (fstM cells W na ra ks).2 = true → (fstM cells W na ra ks).1 ∈ ks ∧ (fstM cells W na ra ks).2 = pairAt cells W na ra (fstM cells W na ra ks).1
  | [], h => by cases h
  | k :: r, h => by
    unfold fstM at h ⊢
    by_cases hf : fnd (pairAt cells W na ra k) = true
    · rw [if_pos hf]
      exact ⟨List.mem_cons_self, rfl⟩
    · rw [if_neg hf] at h ⊢
      obtain ⟨h1, h2⟩ := fst_hit cells W na ra r h
      exact ⟨List.mem_cons_of_mem _ h1, h2⟩
theorem fstP_hit (cells : List UInt8) (W : Nat) (ks : List Nat) : ∀ r : List Nat, fnd (fstP cells W ks r).2.2 = true → (fstP cells W ks r).1 ∈ r ∧ (fstP cells W ks r).2.1 ∈ ks ∧ (fstP cells W ks r).2.2 = pairAt cells W (nrS cells W (fstP cells W ks r).1 63) (restM cells W (fstP cells W ks r).1) (fstP cells W ks r).2.1
  | [], h => by cases h
  | a :: r, h => by
    unfold fstP at h ⊢
    by_cases hf : fnd (fstM cells W (nrS cells W a 63) (restM cells W a) ks).2 = true
    · rw [if_pos hf]
      obtain ⟨h1, h2⟩ := fst_hit cells W (nrS cells W a 63) (restM cells W a) ks hf
      exact ⟨List.mem_cons_self, h1, h2⟩
    · rw [if_neg hf] at h ⊢
      obtain ⟨h1, h2, h3⟩ := fstP_hit cells W ks r h
      exact ⟨List.mem_cons_of_mem _ h1, h2, h3⟩
theorem mem_opens {cells : List UInt8} {k : Nat} (h : k ∈ opens cells) : k < cells.length ∧ opB cells k = true := by
  rw [opens, List.mem_filter, List.mem_range] at h
  exact h
/-- What a step hands back: whether something is found, and the text then. -/
def stT (cells : List UInt8) (W H : Nat) (p : Bool) : List UInt8 := if fnd (stF cells W p) = true then textM (apM cells (stF cells W p)) W H else []
theorem note_text {cells : List UInt8} {W H : Nat} (hW : 1 ≤ W ∧ W ≤ 8) (hH : 1 ≤ H ∧ H ≤ 8) (hn : cells.length = W * H) (hp : ∀ c ∈ cells, noteSign c = true) : Grd (textM cells W H) W H cells ∧ gridM noteSign (textM cells W H) = true ∧ (textM cells W H).length ≤ 1048576 := by
  obtain ⟨h1, h2, h3⟩ := text_grid (p := noteSign) hW hH hn hp (fun c hc => note_ne47 (hp c hc))
  exact ⟨⟨h3, h2, hW.1, hW.2, hH.1, hH.2, hn⟩, h1, textM_le cells W H hW.2 hH.2 |> fun h => Nat.le_trans h (by decide)⟩

end Go.Proofs.YthlbplmghjaeoabDoor

/- Notes: StepByRule both ways. -/
namespace Go.Proofs.YthlbplmghjaeoabDoor
open Go.RowKit

theorem pair_un (cells : List UInt8) (W : Nat) (na : List Nat) (ra : Int) (k : Nat) : ∀ x, x ∈ (pairAt cells W na ra k).1 ∨ x ∈ (pairAt cells W na ra k).2 → signB cells 63 x = true := by
  have hm : ∀ x, x ∈ ((nrS cells W k 63).filter fun x => !decide (x ∈ na)) → signB cells 63 x = true := fun x hx => by
    have h1 := (List.mem_filter.1 hx).1
    rw [nrS] at h1
    exact (List.mem_filter.1 h1).2
  intro x
  unfold pairAt pairL
  split
  · split
    · intro h; rcases h with h | h
      · cases h
      · exact hm x h
    · split
      · intro h; rcases h with h | h
        · exact hm x h
        · cases h
      · intro h; rcases h with h | h <;> cases h
  · intro h; rcases h with h | h <;> cases h
theorem fst_un (cells : List UInt8) (W : Nat) (na : List Nat) (ra : Int) : ∀ ks : List Nat, ∀ x, x ∈ (fstM cells W na ra ks).2.1 ∨ x ∈ (fstM cells W na ra ks).2.2 → signB cells 63 x = true
  | [], x, h => by rcases h with h | h <;> cases h
  | k :: r, x, h => by
    unfold fstM at h
    split at h
    · exact pair_un cells W na ra k x h
    · exact fst_un cells W na ra r x h
theorem fstP_un (cells : List UInt8) (W : Nat) (ks : List Nat) : ∀ r : List Nat, ∀ x, x ∈ (fstP cells W ks r).2.2.1 ∨ x ∈ (fstP cells W ks r).2.2.2 → signB cells 63 x = true
  | [], x, h => by rcases h with h | h <;> cases h
  | a :: r, x, h => by
    unfold fstP at h
    split at h
    · exact fst_un cells W _ _ ks x h
    · exact fstP_un cells W ks r x h
theorem stF_un (cells : List UInt8) (W : Nat) (p : Bool) (x : Nat) (h : x ∈ (stF cells W p).1 ∨ x ∈ (stF cells W p).2) : cells.getD x 0 = 63 := by
  have : signB cells 63 x = true := by
    unfold stF at h
    split at h
    · exact fstP_un _ _ _ _ x h
    · exact fst_un _ _ _ _ _ x h
  simpa [signB] using this
theorem apM_same {cells : List UInt8} {W : Nat} {p : Bool} (h : fnd (stF cells W p) = false) : apM cells (stF cells W p) = cells := by
  have h1 : (stF cells W p).1 = [] ∧ (stF cells W p).2 = [] := by
    rw [fnd] at h
    simpa using h
  rw [apM, h1.1, h1.2, noteL_nil, noteL_nil]
theorem apM_get {cells : List UInt8} {f : List Nat × List Nat} {x : Nat} (hx : x < cells.length) : (apM cells f).getD x 0 = if x ∈ f.2 then 46 else if x ∈ f.1 then 42 else cells.getD x 0 := by
  rw [apM, noteL_get _ _ _ _ (by rw [noteL_length]; exact hx), noteL_get _ _ _ _ hx]
theorem apM_ne {cells : List UInt8} {W : Nat} {p : Bool} (h : fnd (stF cells W p) = true) : apM cells (stF cells W p) ≠ cells := by
  obtain ⟨c1, c2⟩ := stF_cel cells W p
  obtain ⟨x, hx, hu⟩ : ∃ x, x < cells.length ∧ (x ∈ (stF cells W p).1 ∨ x ∈ (stF cells W p).2) := by
    rw [fnd] at h
    cases e1 : (stF cells W p).1 with
    | cons a r => exact ⟨a, c1.lt a (by rw [e1]; exact List.mem_cons_self), .inl List.mem_cons_self⟩
    | nil =>
      cases e2 : (stF cells W p).2 with
      | cons a r => exact ⟨a, c2.lt a (by rw [e2]; exact List.mem_cons_self), .inr List.mem_cons_self⟩
      | nil => rw [e1, e2] at h; cases h
  have h63 := stF_un cells W p x hu
  intro he
  have hg := apM_get (f := stF cells W p) hx
  rw [he, h63] at hg
  by_cases q2 : x ∈ (stF cells W p).2
  · rw [if_pos q2] at hg; exact absurd hg (by decide)
  · rw [if_neg q2] at hg
    rcases hu with hu | hu
    · rw [if_pos hu] at hg; exact absurd hg (by decide)
    · exact q2 hu
theorem none_open : opens [] = [] := rfl
theorem stF_none (W : Nat) (p : Bool) : stF [] W p = ([], []) := by cases p <;> rfl
theorem apM_none (W : Nat) (p : Bool) : apM [] (stF [] W p) = [] := by rw [stF_none]; rfl

/-- What StepByRule hands back. -/
def sbM (l : List UInt8) (p : Bool) : List UInt8 := stT (snC l) (snW l) (snH l) p
def sbB (l : List UInt8) (p : Bool) : Bool := fnd (stF (snC l) (snW l) p)
theorem sb_no {l : List UInt8} {p : Bool} (h : isB l = false) : sbM l p = [] ∧ sbB l p = false := by
  obtain ⟨_, _, e⟩ := sn_no h
  have e2 : sbB l p = false := by rw [sbB, e, stF_none]; rfl
  refine ⟨?_, e2⟩
  rw [sbB] at e2
  rw [sbM, stT, e2]; rfl
theorem sb_off {l : List UInt8} {p : Bool} (h : sbB l p = false) : sbM l p = [] ∧ apM (snC l) (stF (snC l) (snW l) p) = snC l := by
  rw [sbB] at h
  exact ⟨by rw [sbM, stT, h]; rfl, apM_same h⟩
theorem sb_on {l : List UInt8} {p : Bool} (h : sbB l p = true) : sbM l p = textM (apM (snC l) (stF (snC l) (snW l) p)) (snW l) (snH l) ∧ apM (snC l) (stF (snC l) (snW l) p) ≠ snC l := by
  rw [sbB] at h
  exact ⟨by rw [sbM, stT, if_pos h], apM_ne h⟩
theorem sn_size (l : List UInt8) : ((snW l = 0 ∧ snH l = 0) ∨ ((1 ≤ snW l ∧ snW l ≤ 8) ∧ (1 ≤ snH l ∧ snH l ≤ 8))) ∧ (snC l).length = snW l * snH l := by
  cases h : isB l with
  | true =>
    obtain ⟨e1, e2, e3⟩ := sn_yes h
    rw [e1, e2, e3]
    exact ⟨grSize _ _, grC_len _ _⟩
  | false =>
    obtain ⟨e1, e2, e3⟩ := sn_no h
    rw [e1, e2, e3]
    exact ⟨.inl ⟨rfl, rfl⟩, rfl⟩

end Go.Proofs.YthlbplmghjaeoabDoor

/- Notes: StepByRule by the program. -/
namespace Go.Proofs.YthlbplmghjaeoabDoor
open Go.RowKit

end Go.Proofs.YthlbplmghjaeoabDoor
