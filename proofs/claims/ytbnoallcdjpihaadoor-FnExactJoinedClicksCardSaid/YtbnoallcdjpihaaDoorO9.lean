/- Joined boards by the model: the fewest clicks. -/
import Derived.Test.YtbnoallcdjpihaaDoorO7
import Derived.Test.YtbnoallcdjpihaaDoorYK
import Derived.Test.YtbnoallcdjpihaaDoorGYB
import Derived.Outline
namespace Go.Proofs.YtbnoallcdjpihaaDoor
open Go.RowKit

/-- The cells that are clicked in one round: those for which p holds and that are not open. -/
def jcGo (op : Nat → List Nat) (p : Nat → Bool) : List Nat → List Nat → List Nat
  | [], _ => []
  | c :: r, o => if p c = true ∧ c ∉ o then c :: jcGo op p r (o ++ op c) else jcGo op p r o
theorem jcGo_le (op : Nat → List Nat) (p : Nat → Bool) : ∀ (r o : List Nat), (jcGo op p r o).length ≤ r.length
  | [], _ => by simp [jcGo]
  | c :: r, o => by
    unfold jcGo
    split
    · have := jcGo_le op p r (o ++ op c); simp; omega
    · have := jcGo_le op p r o; simp; omega
theorem jcGo_fz (op : Nat → List Nat) (p : Nat → Bool) : ∀ (r o : List Nat), jcGo op p r o = fzGo op (r.filter p) o
  | [], _ => rfl
  | c :: r, o => by
    unfold jcGo
    by_cases hp : p c = true
    · rw [List.filter_cons_of_pos hp, fzGo]
      by_cases ho : c ∈ o
      · rw [if_neg (fun q => q.2 ho), if_pos ho, jcGo_fz op p r o]
      · rw [if_pos ⟨hp, ho⟩, if_neg ho, jcGo_fz op p r]
    · rw [List.filter_cons_of_neg hp, if_neg (fun q => hp q.1), jcGo_fz op p r o]
/-- Where each one opens itself alone. -/
theorem jcGo_one (op : Nat → List Nat) (p : Nat → Bool) : ∀ (r o : List Nat), r.Nodup → (∀ c ∈ r, p c = true → op c = [c]) → jcGo op p r o = r.filter fun c => p c && decide (c ∉ o)
  | [], _, _, _ => rfl
  | c :: r, o, hr, h => by
    rw [List.nodup_cons] at hr
    have h2 := fun d hd => h d (List.mem_cons_of_mem _ hd)
    unfold jcGo
    by_cases hp : p c = true ∧ c ∉ o
    · rw [if_pos hp, List.filter_cons_of_pos (by simp [hp.1, hp.2]), h c List.mem_cons_self hp.1, jcGo_one op p r _ hr.2 h2]
      congr 1
      refine List.filter_congr (fun d hd => ?_)
      have hne : d ≠ c := fun e => hr.1 (e ▸ hd)
      congr 1
      rw [decide_eq_decide]
      simp [hne]
    · rw [if_neg hp, List.filter_cons_of_neg (by simpa using hp), jcGo_one op p r o hr.2 h2]
/-- Each one is open at last. -/
theorem fzGo_all (op : Nat → List Nat) (h : ∀ z, z ∈ op z) : ∀ (r s : List Nat), ∀ z ∈ r, z ∈ s ∨ ∃ f, f ∈ fzGo op r s ∧ z ∈ op f
  | [], _, z, hz => by cases hz
  | y :: r, s, z, hz => by
    unfold fzGo
    by_cases hy : y ∈ s
    · rw [if_pos hy]
      rcases List.mem_cons.1 hz with rfl | hz
      · exact .inl hy
      · exact fzGo_all op h r s z hz
    · rw [if_neg hy]
      rcases List.mem_cons.1 hz with rfl | hz
      · exact .inr ⟨z, List.mem_cons_self, h z⟩
      · rcases fzGo_all op h r (s ++ op y) z hz with h1 | ⟨f, h1, h2⟩
        · rcases List.mem_append.1 h1 with h1 | h1
          · exact .inl h1
          · exact .inr ⟨y, List.mem_cons_self, h1⟩
        · exact .inr ⟨f, List.mem_cons_of_mem _ h1, h2⟩
theorem zGo_filter (cells : List UInt8) (V : Geo) (s : UInt8) : ∀ (m k : Nat), zGo cells V s k m = ((List.range' k m).filter fun i => decide (cells.getD i 0 = s)).filter (zeroB cells V)
  | 0, _ => rfl
  | m + 1, k => by
    rw [zGo, List.range'_succ, zGo_filter cells V s m (k + 1)]
    by_cases h1 : cells.getD k 0 = s
    · by_cases h2 : numM cells V k = 0
      · rw [if_pos ⟨h1, h2⟩, List.filter_cons_of_pos (by simpa using h1), List.filter_cons_of_pos (by simp [zeroB, h2])]
      · rw [if_neg (fun q => h2 q.2), List.filter_cons_of_pos (by simpa using h1), List.filter_cons_of_neg (by simp [zeroB, h2])]
    · rw [if_neg (fun q => h1 q.1), List.filter_cons_of_neg (by simpa using h1)]
theorem placesGo_filter (b : UInt8) : ∀ (cells : List UInt8) (k : Nat), placesGo b k cells = (List.range' k cells.length).filter fun i => decide (cells.getD (i - k) 0 = b)
  | [], _ => rfl
  | c :: r, k => by
    have e : ((List.range' (k + 1) r.length).filter fun i => decide ((c :: r).getD (i - k) 0 = b)) = (List.range' (k + 1) r.length).filter fun i => decide (r.getD (i - (k + 1)) 0 = b) := by
      refine List.filter_congr (fun i hi => ?_)
      rw [List.mem_range'_1] at hi
      rw [show i - k = (i - (k + 1)) + 1 by omega]
      rfl
    rw [placesGo, List.length_cons, List.range'_succ, placesGo_filter b r (k + 1)]
    by_cases h : c = b
    · rw [if_pos h, List.filter_cons_of_pos (by simp [h]), e]
    · rw [if_neg h, List.filter_cons_of_neg (by simp [h]), e]
theorem free_zeros (cells : List UInt8) (V : Geo) : (places 46 cells).filter (zeroB cells V) = zerosM cells V := by
  rw [zerosM, zGo_filter, places, placesGo_filter]
  rfl
theorem opM_self (cells : List UInt8) (V : Geo) (c : Nat) (hc : c < cells.length) : c ∈ opM cells V c := by
  rw [opM, mem_sortM (bfs_lt (nearM_lts V cells.length) hc), bfs0_mem (nearM_lts V cells.length) hc]
  exact .start
/-- A click on a cell with another number than 0 opens it alone. -/
theorem opM_one (cells : List UInt8) (V : Geo) (c : Nat) (hc : c < cells.length) (hz : zeroB cells V c = false) : opM cells V c = [c] := by
  refine rise_ext (sortM_rise _ _) (List.pairwise_singleton _ _) (fun x => ?_)
  rw [opM, mem_sortM (bfs_lt (nearM_lts V cells.length) hc), bfs0_mem (nearM_lts V cells.length) hc, List.mem_singleton]
  constructor
  · intro h
    induction h with
    | start => rfl
    | step _ h1 _ ih => rw [ih, hz] at h1; cases h1
  · rintro rfl; exact .start
/-- The cells that are clicked in the first and in the second round, and what is open between them. -/
def jcA (cells : List UInt8) (V : Geo) : List Nat := jcGo (opM cells V) (zeroB cells V) (places 46 cells) []
def jcO (cells : List UInt8) (V : Geo) : List Nat := (jcA cells V).flatMap (opM cells V)
def jcB (cells : List UInt8) (V : Geo) : List Nat := jcGo (opM cells V) (fun c => !zeroB cells V c) (places 46 cells) (jcO cells V)
theorem jcA_eq (cells : List UInt8) (V : Geo) : jcA cells V = firstsM cells V := by
  rw [jcA, jcGo_fz, free_zeros, firstsM]
theorem jcB_eq (cells : List UInt8) (V : Geo) (hs : ∀ c ∈ cells, c = 46 ∨ c = 42) : jcB cells V = aloneM cells V := by
  have hpl : ∀ c ∈ places 46 cells, c < cells.length := fun c hc => by
    unfold places at hc
    rw [mem_placesGo] at hc
    obtain ⟨hx, _⟩ := List.getElem?_eq_some_iff.1 hc.2
    omega
  have hr : (places 46 cells).Pairwise (· < ·) := (placesGo_rise 46 cells 0).1
  rw [jcB, jcGo_one _ _ _ _ (hr.imp (fun h => Nat.ne_of_lt h)) (fun c hc hz => opM_one cells V c (hpl c hc) (by simpa using hz))]
  refine rise_ext (List.Pairwise.filter _ hr) (aloneM_rise cells V) (fun x => ?_)
  rw [List.mem_filter, Bool.and_eq_true, decide_eq_true_eq]
  simp only [aloneM, filtM, List.mem_filter, List.mem_range, aloneB, Bool.and_eq_true]
  rw [wiM_zero, List.all_eq_true]
  have hop : (∀ r ∈ openingsM cells V, (!decide (x ∈ r)) = true) ↔ x ∉ jcO cells V := by
    rw [openingsM, jcO, jcA_eq, List.mem_flatMap]
    simp
  rw [hop]
  have hfree : ∀ h : x < cells.length, freeB cells x = true ↔ cells[x] = 46 := fun h => by
    rw [freeB_at cells x h]
    rcases hs _ (List.getElem_mem h) with q | q <;> simp [q]
  have hmem : x ∈ places 46 cells ↔ ∃ h : x < cells.length, cells[x] = 46 := by
    unfold places
    rw [mem_placesGo, Nat.sub_zero, List.getElem?_eq_some_iff]
    exact ⟨fun q => q.2, fun q => ⟨Nat.zero_le _, q⟩⟩
  constructor
  · rintro ⟨h1, _, h3⟩
    obtain ⟨hx, h46⟩ := hmem.1 h1
    exact ⟨hx, (hfree hx).2 h46, h3⟩
  · rintro ⟨hx, h2, h3⟩
    have h46 := (hfree hx).1 h2
    refine ⟨hmem.2 ⟨hx, h46⟩, ?_, h3⟩
    cases hz : zeroB cells V x with
    | false => rfl
    | true =>
      exfalso
      have hzx : x ∈ zerosM cells V := by
        rw [← free_zeros, List.mem_filter]
        exact ⟨hmem.2 ⟨hx, h46⟩, hz⟩
      apply h3
      have hzs : ∀ z ∈ zerosM cells V, z < cells.length := fun z hz => zerosM_lt cells V z hz
      rw [jcO, jcA_eq, List.mem_flatMap]
      rcases fzGo_all (fun c => if c < cells.length then opM cells V c else [c]) (fun z => by
          by_cases q : z < cells.length
          · rw [if_pos q]; exact opM_self cells V z q
          · rw [if_neg q]; exact List.mem_singleton.2 rfl) (zerosM cells V) [] x hzx with h | ⟨f, hf, hm⟩
      · cases h
      · have e : ∀ (r s : List Nat), (∀ z ∈ r, z < cells.length) → fzGo (fun c => if c < cells.length then opM cells V c else [c]) r s = fzGo (opM cells V) r s := by
          intro r
          induction r with
          | nil => intro s _; rfl
          | cons z r ih =>
            intro s hr
            have hz1 := hr z List.mem_cons_self
            unfold fzGo
            simp only [hz1, if_true]
            rw [ih _ (fun y hy => hr y (List.mem_cons_of_mem _ hy)), ih _ (fun y hy => hr y (List.mem_cons_of_mem _ hy))]
        rw [e _ _ hzs] at hf
        have hfl : f < cells.length := hzs f (fzGo_mem _ _ _ f hf)
        refine ⟨f, hf, ?_⟩
        simpa [hfl] using hm
theorem jc_len (cells : List UInt8) (V : Geo) (hs : ∀ c ∈ cells, c = 46 ∨ c = 42) : (jcA cells V).length + (jcB cells V).length = (fcM cells V).length := by
  rw [jcA_eq, jcB_eq cells V hs, fcM, sortM_len (fc_nodup cells V) (fc_lt cells V), List.length_append]
  omega
end Go.Proofs.YtbnoallcdjpihaaDoor
