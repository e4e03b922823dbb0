/- CV, CW, CX, laid as one text. -/
import Derived.Test.YthlbplmghjaeoacDoorCU
import Derived.Outline
import Derived.Test.YthlbplmghjaeoacDoorCC

/- Notes: a step by the rules, by the model. -/
namespace Go.Proofs.YthlbplmghjaeoacDoor
open Go.RowKit

theorem fst_hit (cells : List UInt8) (W : Nat) (na : List Nat) (ra : Int) : ∀ ks : List Nat, fnd (fstM cells W na ra ks).2 = true → (fstM cells W na ra ks).1 ∈ ks ∧ (fstM cells W na ra ks).2 = pairAt cells W na ra (fstM cells W na ra ks).1
  | [], h => by cases h
  | k :: r, h => by
    unfold fstM at h ⊢
    by_cases hf : fnd (pairAt cells W na ra k) = true
    · rw [if_pos hf]
      exact ⟨List.mem_cons_self, rfl⟩
    · rw [if_neg hf] at h ⊢
      obtain ⟨h1, h2⟩ := fst_hit cells W na ra r h
      exact ⟨List.mem_cons_of_mem _ h1, h2⟩
theorem fstP_hit (cells : List UInt8) (W : Nat) (ks : List Nat) : ∀ r : List Nat, fnd (fstP cells W ks r).2.2 = true → (fstP cells W ks r).1 ∈ r ∧ (fstP cells W ks r).2.1 ∈ ks ∧ (fstP cells W ks r).2.2 = pairAt cells W (nrS cells W (fstP cells W ks r).1 63) (restM cells W (fstP cells W ks r).1) (fstP cells W ks r).2.1
  | [], h => by cases h
  | a :: r, h => by
    unfold fstP at h ⊢
    by_cases hf : fnd (fstM cells W (nrS cells W a 63) (restM cells W a) ks).2 = true
    · rw [if_pos hf]
      obtain ⟨h1, h2⟩ := fst_hit cells W (nrS cells W a 63) (restM cells W a) ks hf
      exact ⟨List.mem_cons_self, h1, h2⟩
    · rw [if_neg hf] at h ⊢
      obtain ⟨h1, h2, h3⟩ := fstP_hit cells W ks r h
      exact ⟨List.mem_cons_of_mem _ h1, h2, h3⟩
theorem mem_opens {cells : List UInt8} {k : Nat} (h : k ∈ opens cells) : k < cells.length ∧ opB cells k = true := by
  rw [opens, List.mem_filter, List.mem_range] at h
  exact h
/-- What a step hands back: whether something is found, and the text then. -/
def stT (cells : List UInt8) (W H : Nat) (p : Bool) : List UInt8 := if fnd (stF cells W p) = true then textM (apM cells (stF cells W p)) W H else []
theorem note_text {cells : List UInt8} {W H : Nat} (hW : 1 ≤ W ∧ W ≤ 8) (hH : 1 ≤ H ∧ H ≤ 8) (hn : cells.length = W * H) (hp : ∀ c ∈ cells, noteSign c = true) : Grd (textM cells W H) W H cells ∧ gridM noteSign (textM cells W H) = true ∧ (textM cells W H).length ≤ 1048576 := by
  obtain ⟨h1, h2, h3⟩ := text_grid (p := noteSign) hW hH hn hp (fun c hc => note_ne47 (hp c hc))
  exact ⟨⟨h3, h2, hW.1, hW.2, hH.1, hH.2, hn⟩, h1, textM_le cells W H hW.2 hH.2 |> fun h => Nat.le_trans h (by decide)⟩

set_option maxRecDepth 100000 in
set_option maxHeartbeats 3200000 in
theorem ruStep_any (l : List UInt8) (W H : Nat) (cells : List UInt8) (p : Bool) (hB : Grd l W H cells) (hsg : ∀ c ∈ cells, noteSign c = true) (w : World) (hl : l.length ≤ 1048576) :
    Calls Tryd.prog 38 #[.string ⟨l.toArray⟩, .bool p] w fun e w' => e = .returned (.tuple #[.string ⟨(stT cells W H p).toArray⟩, .bool (fnd (stF cells W p))]) ∧ Below w.heap.size w w' := by
  have h64 := hB.n64
  have HF1 := Lib.hid (fun w => ruFirst_single l W H cells hB hsg w hl)
  have HF2 := Lib.hid (fun w => ruFirst_pair l W H cells hB hsg w hl)
  have HN1 := Lib.hid (fun xs a cap w h hx => ruNote_any l W H cells hB hsg xs a cap 42 w h hx hl)
  have hN2 : ∀ ms : List Nat, ∀ (xs : List Nat) (a : Option Addr) (cap : Nat) (w : World), At w a (nats xs) → xs.length ≤ 1048576 → Calls Tryd.prog 62 #[.string ⟨(textM (noteL cells ms 42) W H).toArray⟩, .slice a xs.length cap, .string ⟨#[46]⟩] w fun e w' => e = .returned (.string ⟨(textM (noteL (noteL cells ms 42) xs 46) W H).toArray⟩) ∧ Below w.heap.size w w' := by
    intro ms xs a cap w h hx
    have hs2 := noteL_signs (xs := ms) (s := 42) hsg rfl
    obtain ⟨g1, _, g3⟩ := note_text (cells := noteL cells ms 42) ⟨hB.w1, hB.w8⟩ ⟨hB.h1, hB.h8⟩ (by rw [noteL_length]; exact hB.len) hs2
    exact ruNote_any _ W H _ g1 hs2 xs a cap 46 w h hx g3
  have HN2 := Lib.hid hN2
  have HSI := Lib.hid (fun k hk ho w => ruSingle_any l W H cells hB k hk ho w hl)
  have HPI := Lib.hid (fun x y hx hy hox hoy w => ruPair_any l W H cells hB x y hx hy hox hoy w hl)
  clear hN2 hB hsg
  have hc1 := fst_cel cells W [] 0 (opens cells)
  have hc2 := fstP_cel cells W (opens cells) (opens cells)
  cases hf : fnd (fstM cells W [] 0 (opens cells)).2 with
  | true =>
    obtain ⟨hm, hP⟩ := fst_hit cells W [] 0 (opens cells) hf
    obtain ⟨hk, ho⟩ := mem_opens hm
    have HSK := Lib.hid (HSI.out _ hk ho)
    have HST : Hid (stF cells W p = (fstM cells W [] 0 (opens cells)).2) := by rw [Hid, stF, hf]; rfl
    have HTT : Hid (stT cells W H p = textM (noteL (noteL cells (fstM cells W [] 0 (opens cells)).2.1 42) (fstM cells W [] 0 (opens cells)).2.2 46) W H) := by rw [Hid, stT, HST.out, hf]; rfl
    have HFF : Hid (fnd (stF cells W p) = true) := by rw [Hid, HST.out, hf]
    rw [← pairAt_sing, ← hP] at HSK
    have l1 := hc1.1.len
    have l2 := hc1.2.len
    rw [hf] at HF1
    clear hm hP hk ho hf hc1 hc2 HF2 HPI HST
    generalize fstM cells W [] 0 (opens cells) = F at *
    obtain ⟨k, P⟩ := F
    obtain ⟨m, f⟩ := P
    simp only at *
    go_enter Tryd.func38, Tryd.ntmps38
    go_wp2_with fail
    refine (HF1.out _).mono ?_
    rintro e w1 ⟨rfl, hb1⟩
    go_wp2_with fail
    refine (HSK.out _).mono ?_
    rintro e w2 ⟨a1, c1, a2, c2, rfl, ho1, ho2, hb2⟩
    have hb02 := hb1.trans (hb2.mono hb1.size)
    have HA := Lib.hid (HN1.out m a1 c1 w2 ho1.at (by omega))
    go_wp2_with fail
    refine HA.out.mono ?_
    rintro e w3 ⟨rfl, hb3⟩
    have hb03 := hb02.trans (hb3.mono hb02.size)
    have HC := Lib.hid (HN2.out m f a2 c2 w3 (ho2.later hb3).at (by omega))
    clear ho1 ho2 hb1 hb2 hb02 hb3
    go_wp2_with fail
    refine HC.out.mono ?_
    rintro e w4 ⟨rfl, hb4⟩
    go_wp2_with fail
    go_ret2
    exact ⟨by rw [HTT.out, HFF.out]; rfl, hb03.trans (hb4.mono hb03.size)⟩
  | false =>
    rw [hf] at HF1
    cases p with
    | false =>
      have HST : Hid (stF cells W false = (fstM cells W [] 0 (opens cells)).2) := by rw [Hid, stF, hf]; rfl
      have HFF : Hid (fnd (stF cells W false) = false) := by rw [Hid, HST.out, hf]
      have HTT : Hid (stT cells W H false = []) := by rw [Hid, stT, HFF.out]; rfl
      clear hf hc1 hc2 HF2 HPI HST HSI
      generalize fstM cells W [] 0 (opens cells) = F at *
      go_enter Tryd.func38, Tryd.ntmps38
      go_wp2_with fail
      refine (HF1.out _).mono ?_
      rintro e w1 ⟨rfl, hb1⟩
      go_wp2_with fail
      go_ret2
      exact ⟨by rw [HTT.out, HFF.out]; rfl, hb1⟩
    | true =>
      have HST : Hid (stF cells W true = (fstP cells W (opens cells) (opens cells)).2.2) := by rw [Hid, stF, hf]; rfl
      cases hg : fnd (fstP cells W (opens cells) (opens cells)).2.2 with
      | false =>
        have HFF : Hid (fnd (stF cells W true) = false) := by rw [Hid, HST.out, hg]
        have HTT : Hid (stT cells W H true = []) := by rw [Hid, stT, HFF.out]; rfl
        rw [hg] at HF2
        clear hf hg hc1 hc2 HPI HST HSI
        generalize fstM cells W [] 0 (opens cells) = F at *
        generalize fstP cells W (opens cells) (opens cells) = G at *
        go_enter Tryd.func38, Tryd.ntmps38
        go_wp2_with fail
        refine (HF1.out _).mono ?_
        rintro e w1 ⟨rfl, hb1⟩
        go_wp2_with fail
        refine (HF2.out _).mono ?_
        rintro e w2 ⟨rfl, hb2⟩
        go_wp2_with fail
        go_ret2
        exact ⟨by rw [HTT.out, HFF.out]; rfl, hb1.trans (hb2.mono hb1.size)⟩
      | true =>
        obtain ⟨hm, hm2, hP⟩ := fstP_hit cells W (opens cells) (opens cells) hg
        obtain ⟨hk, ho⟩ := mem_opens hm
        obtain ⟨hk2, ho2⟩ := mem_opens hm2
        have HPK := Lib.hid (HPI.out _ _ hk hk2 ho ho2)
        rw [← hP] at HPK
        have HFF : Hid (fnd (stF cells W true) = true) := by rw [Hid, HST.out, hg]
        have HTT : Hid (stT cells W H true = textM (noteL (noteL cells (fstP cells W (opens cells) (opens cells)).2.2.1 42) (fstP cells W (opens cells) (opens cells)).2.2.2 46) W H) := by rw [Hid, stT, HST.out, hg]; rfl
        have l1 := hc2.1.len
        have l2 := hc2.2.len
        rw [hg] at HF2
        clear hf hg hc1 hc2 HPI HST HSI hm hm2 hP hk ho hk2 ho2
        generalize fstM cells W [] 0 (opens cells) = F at *
        generalize fstP cells W (opens cells) (opens cells) = G at *
        obtain ⟨x, y, P⟩ := G
        obtain ⟨m, f⟩ := P
        simp only at *
        go_enter Tryd.func38, Tryd.ntmps38
        go_wp2_with fail
        refine (HF1.out _).mono ?_
        rintro e w1 ⟨rfl, hb1⟩
        go_wp2_with fail
        refine (HF2.out _).mono ?_
        rintro e w2 ⟨rfl, hb2⟩
        have hb02 := hb1.trans (hb2.mono hb1.size)
        go_wp2_with fail
        refine (HPK.out _).mono ?_
        rintro e w3 ⟨a1, c1, a2, c2, rfl, ho1, ho2, hb3⟩
        have hb03 := hb02.trans (hb3.mono hb02.size)
        have HA := Lib.hid (HN1.out m a1 c1 w3 ho1.at (by omega))
        go_wp2_with fail
        refine HA.out.mono ?_
        rintro e w4 ⟨rfl, hb4⟩
        have hb04 := hb03.trans (hb4.mono hb03.size)
        have HC := Lib.hid (HN2.out m f a2 c2 w4 (ho2.later hb4).at (by omega))
        clear ho1 ho2 hb1 hb2 hb02 hb3 hb03 hb4
        go_wp2_with fail
        refine HC.out.mono ?_
        rintro e w5 ⟨rfl, hb5⟩
        go_wp2_with fail
        go_ret2
        exact ⟨by rw [HTT.out, HFF.out]; rfl, hb04.trans (hb5.mono hb04.size)⟩
end Go.Proofs.YthlbplmghjaeoacDoor

/- Notes: StepByRule both ways. -/
namespace Go.Proofs.YthlbplmghjaeoacDoor
open Go.RowKit

theorem pair_un (cells : List UInt8) (W : Nat) (na : List Nat) (ra : Int) (k : Nat) : ∀ x, x ∈ (pairAt cells W na ra k).1 ∨ x ∈ (pairAt cells W na ra k).2 → signB cells 63 x = true := by
  have hm : ∀ x, x ∈ ((nrS cells W k 63).filter fun x => !decide (x ∈ na)) → signB cells 63 x = true := fun x hx => by
    have h1 := (List.mem_filter.1 hx).1
    rw [nrS] at h1
    exact (List.mem_filter.1 h1).2
  intro x
  unfold pairAt pairL
  split
  · split
    · intro h; rcases h with h | h
      · cases h
      · exact hm x h
    · split
      · intro h; rcases h with h | h
        · exact hm x h
        · cases h
      · intro h; rcases h with h | h <;> cases h
  · intro h; rcases h with h | h <;> cases h
theorem fst_un (cells : List UInt8) (W : Nat) (na : List Nat) (ra : Int) : ∀ ks : List Nat, ∀ x, x ∈ (fstM cells W na ra ks).2.1 ∨ x ∈ (fstM cells W na ra ks).2.2 → signB cells 63 x = true
  | [], x, h => by rcases h with h | h <;> cases h
  | k :: r, x, h => by
    unfold fstM at h
    split at h
    · exact pair_un cells W na ra k x h
    · exact fst_un cells W na ra r x h
theorem fstP_un (cells : List UInt8) (W : Nat) (ks : List Nat) : ∀ r : List Nat, ∀ x, x ∈ (fstP cells W ks r).2.2.1 ∨ x ∈ (fstP cells W ks r).2.2.2 → signB cells 63 x = true
  | [], x, h => by rcases h with h | h <;> cases h
  | a :: r, x, h => by
    unfold fstP at h
    split at h
    · exact fst_un cells W _ _ ks x h
    · exact fstP_un cells W ks r x h
theorem stF_un (cells : List UInt8) (W : Nat) (p : Bool) (x : Nat) (h : x ∈ (stF cells W p).1 ∨ x ∈ (stF cells W p).2) : cells.getD x 0 = 63 := by
  have : signB cells 63 x = true := by
    unfold stF at h
    split at h
    · exact fstP_un _ _ _ _ x h
    · exact fst_un _ _ _ _ _ x h
  simpa [signB] using this
theorem apM_same {cells : List UInt8} {W : Nat} {p : Bool} (h : fnd (stF cells W p) = false) : apM cells (stF cells W p) = cells := by
  have h1 : (stF cells W p).1 = [] ∧ (stF cells W p).2 = [] := by
    rw [fnd] at h
    simpa using h
  rw [apM, h1.1, h1.2, noteL_nil, noteL_nil]
theorem apM_get {cells : List UInt8} {f : List Nat × List Nat} {x : Nat} (hx : x < cells.length) : (apM cells f).getD x 0 = if x ∈ f.2 then 46 else if x ∈ f.1 then 42 else cells.getD x 0 := by
  rw [apM, noteL_get _ _ _ _ (by rw [noteL_length]; exact hx), noteL_get _ _ _ _ hx]
theorem apM_ne {cells : List UInt8} {W : Nat} {p : Bool} (h : fnd (stF cells W p) = true) : apM cells (stF cells W p) ≠ cells := by
  obtain ⟨c1, c2⟩ := stF_cel cells W p
  obtain ⟨x, hx, hu⟩ : ∃ x, x < cells.length ∧ (x ∈ (stF cells W p).1 ∨ x ∈ (stF cells W p).2) := by
    rw [fnd] at h
    cases e1 : (stF cells W p).1 with
    | cons a r => exact ⟨a, c1.lt a (by rw [e1]; exact List.mem_cons_self), .inl List.mem_cons_self⟩
    | nil =>
      cases e2 : (stF cells W p).2 with
      | cons a r => exact ⟨a, c2.lt a (by rw [e2]; exact List.mem_cons_self), .inr List.mem_cons_self⟩
      | nil => rw [e1, e2] at h; cases h
  have h63 := stF_un cells W p x hu
  intro he
  have hg := apM_get (f := stF cells W p) hx
  rw [he, h63] at hg
  by_cases q2 : x ∈ (stF cells W p).2
  · rw [if_pos q2] at hg; exact absurd hg (by decide)
  · rw [if_neg q2] at hg
    rcases hu with hu | hu
    · rw [if_pos hu] at hg; exact absurd hg (by decide)
    · exact q2 hu
theorem none_open : opens [] = [] := rfl
theorem stF_none (W : Nat) (p : Bool) : stF [] W p = ([], []) := by cases p <;> rfl
theorem apM_none (W : Nat) (p : Bool) : apM [] (stF [] W p) = [] := by rw [stF_none]; rfl

/-- What StepByRule hands back. -/
def sbM (l : List UInt8) (p : Bool) : List UInt8 := stT (snC l) (snW l) (snH l) p
def sbB (l : List UInt8) (p : Bool) : Bool := fnd (stF (snC l) (snW l) p)
theorem sb_no {l : List UInt8} {p : Bool} (h : isB l = false) : sbM l p = [] ∧ sbB l p = false := by
  obtain ⟨_, _, e⟩ := sn_no h
  have e2 : sbB l p = false := by rw [sbB, e, stF_none]; rfl
  refine ⟨?_, e2⟩
  rw [sbB] at e2
  rw [sbM, stT, e2]; rfl
theorem sb_off {l : List UInt8} {p : Bool} (h : sbB l p = false) : sbM l p = [] ∧ apM (snC l) (stF (snC l) (snW l) p) = snC l := by
  rw [sbB] at h
  exact ⟨by rw [sbM, stT, h]; rfl, apM_same h⟩
theorem sb_on {l : List UInt8} {p : Bool} (h : sbB l p = true) : sbM l p = textM (apM (snC l) (stF (snC l) (snW l) p)) (snW l) (snH l) ∧ apM (snC l) (stF (snC l) (snW l) p) ≠ snC l := by
  rw [sbB] at h
  exact ⟨by rw [sbM, stT, if_pos h], apM_ne h⟩
theorem sn_size (l : List UInt8) : ((snW l = 0 ∧ snH l = 0) ∨ ((1 ≤ snW l ∧ snW l ≤ 8) ∧ (1 ≤ snH l ∧ snH l ≤ 8))) ∧ (snC l).length = snW l * snH l := by
  cases h : isB l with
  | true =>
    obtain ⟨e1, e2, e3⟩ := sn_yes h
    rw [e1, e2, e3]
    exact ⟨grSize _ _, grC_len _ _⟩
  | false =>
    obtain ⟨e1, e2, e3⟩ := sn_no h
    rw [e1, e2, e3]
    exact ⟨.inl ⟨rfl, rfl⟩, rfl⟩

set_option maxRecDepth 100000 in
theorem sStepByRule_any (l : List UInt8) (p : Bool) (w : World) (hl : l.length ≤ 1048576) :
    Calls Tryd.prog 18 #[.string ⟨l.toArray⟩, .bool p] w fun e w' => e = .returned (.tuple #[.string ⟨(sbM l p).toArray⟩, .bool (sbB l p)]) ∧ Below w.heap.size w w' := by
  have h1 := fun w => ruGood_any l w hl
  cases hg : gridM noteSign l with
  | true =>
    rw [hg] at h1
    obtain ⟨hB, hsg⟩ := Grd.note hg
    have HS := Lib.hid (fun w => ruSound_any l _ _ _ hB hsg w hl)
    have HT := Lib.hid (fun w => ruStep_any l _ _ _ p hB hsg w hl)
    have HD : isB l = soundM (grC noteSign l) (grW noteSign l) := by rw [isB, hg, Bool.true_and]
    clear hg hB hsg
    rw [← HD] at HS
    cases hs : isB l with
    | true =>
      rw [hs] at HS
      obtain ⟨e1, e2, e3⟩ := sn_yes hs
      have HR : Hid (stT (grC noteSign l) (grW noteSign l) (grH noteSign l) p = sbM l p ∧ fnd (stF (grC noteSign l) (grW noteSign l) p) = sbB l p) := ⟨by rw [sbM, e1, e2, e3], by rw [sbB, e1, e3]⟩
      clear e1 e2 e3 hs HD
      go_enter Tryd.func18, Tryd.ntmps18
      go_wp2_with fail
      refine (h1 _).mono ?_
      rintro e w1 ⟨rfl, hb⟩
      go_wp2_with fail
      refine (HS.out _).mono ?_
      rintro e w2 ⟨rfl, hb2⟩
      have hb02 := hb.trans (hb2.mono hb.size)
      go_wp2_with fail
      refine (HT.out _).mono ?_
      rintro e w3 ⟨rfl, hb3⟩
      go_wp2_with fail
      go_ret2
      exact ⟨by rw [HR.out.1, HR.out.2]; rfl, hb02.trans (hb3.mono hb02.size)⟩
    | false =>
      rw [hs] at HS
      obtain ⟨e1, e2⟩ := sb_no (p := p) hs
      have HR := Lib.hid (And.intro e1 e2)
      clear e1 e2 hs HD HT
      go_enter Tryd.func18, Tryd.ntmps18
      go_wp2_with fail
      refine (h1 _).mono ?_
      rintro e w1 ⟨rfl, hb⟩
      go_wp2_with fail
      refine (HS.out _).mono ?_
      rintro e w2 ⟨rfl, hb2⟩
      go_wp2_with fail
      go_ret2
      exact ⟨by rw [HR.out.1, HR.out.2]; rfl, hb.trans (hb2.mono hb.size)⟩
  | false =>
    rw [hg] at h1
    obtain ⟨e1, e2⟩ := sb_no (l := l) (p := p) (by rw [isB, hg]; rfl)
    have HR := Lib.hid (And.intro e1 e2)
    clear hg e1 e2
    go_enter Tryd.func18, Tryd.ntmps18
    go_wp2_with (go_at_call 31; refine (h1 _).mono ?_; rintro e w1 ⟨rfl, hb⟩)
    go_ret2
    exact ⟨by rw [HR.out.1, HR.out.2]; rfl, hb⟩
end Go.Proofs.YthlbplmghjaeoacDoor

/- Notes: StepByRule by the program. -/
namespace Go.Proofs.YthlbplmghjaeoacDoor
open Go.RowKit

set_option maxRecDepth 100000 in
set_option maxHeartbeats 3200000 in
theorem iStepByRule_any (l : List UInt8) (p : Bool) (w : World) (hM : HasLib w) (hl : l.length ≤ 1048576) :
    Calls Tryd.prog 19 #[.string ⟨l.toArray⟩, .bool p] w fun e w' => e = .returned (.tuple #[.string ⟨(sbM l p).toArray⟩, .bool (sbB l p)]) ∧ Below w.heap.size w w' := by
  have HRS := Lib.hid (readSound_any l w hM.max hl)
  have HST := Lib.hid (fun w hT => step_any (snW l) (snH l) (snC l) p w hT (sn_pos l) (sn_le l))
  have HNG := Lib.hid (fun w => ngrid_any (snW l) (snH l) (apM (snC l) (stF (snC l) (snW l) p)) w)
  obtain ⟨hsz, hcl⟩ := sn_size l
  have HTX := Lib.hid (fun a cap w h hc => text_any (snW l) (snH l) a (apM (snC l) (stF (snC l) (snW l) p)) cap w h hc (by rw [apM_length]; exact hcl) hsz)
  have hT := hM.tab
  have hno := fun h => sb_no (l := l) (p := p) h
  have hoff := fun h => sb_off (l := l) (p := p) h
  have hon := fun h => sb_on (l := l) (p := p) h
  generalize sbM l p = TX at *
  generalize sbB l p = OK at *
  generalize isB l = S at *
  generalize textM (apM (snC l) (stF (snC l) (snW l) p)) (snW l) (snH l) = T2 at *
  generalize apM (snC l) (stF (snC l) (snW l) p) = CS at *
  unfold ntV at *
  generalize snW l = W at *
  generalize snH l = H at *
  generalize snC l = cells at *
  clear hM hsz hcl
  cases S with
  | false =>
    obtain ⟨rfl, rfl⟩ := hno rfl
    clear hno hoff hon HNG HTX
    go_enter Tryd.func19, Tryd.ntmps19
    go_wp2_with fail
    refine HRS.out.mono ?_
    rintro e w1 ⟨rfl, hb1⟩
    have hb1a := hb1.alloc hb1.size (.cells #[.int .i64 W, .int .i64 H, .string ⟨cells.toArray⟩] 41)
    have HT := Lib.hid (hT.later hb1a)
    go_wp2_with fail
    refine (HST.out _ HT.out).mono ?_
    rintro e w2 ⟨rfl, hb2⟩
    have hb02 := hb1a.trans (hb2.mono hb1a.size)
    have hb2a := hb02.alloc hb02.size (.cells #[.int .i64 W, .int .i64 H, .string ⟨CS.toArray⟩] 41)
    go_wp2_with fail
    go_ret2
    exact ⟨rfl, hb2a⟩
  | true =>
    have ne : ∀ w1 : World, ∀ w2 : World, Below w1.heap.size (w1.alloc (.cells #[.int .i64 W, .int .i64 H, .string ⟨cells.toArray⟩] 41)) w2 → True := fun _ _ _ => trivial
    clear ne
    cases OK with
    | false =>
      obtain ⟨rfl, rfl⟩ := hoff rfl
      clear hno hoff hon HNG HTX
      go_enter Tryd.func19, Tryd.ntmps19
      go_wp2_with fail
      refine HRS.out.mono ?_
      rintro e w1 ⟨rfl, hb1⟩
      have hb1a := hb1.alloc hb1.size (.cells #[.int .i64 W, .int .i64 H, .string ⟨CS.toArray⟩] 41)
      have hN1 := heap_alloc_new w1 (.cells #[.int .i64 W, .int .i64 H, .string ⟨CS.toArray⟩] 41)
      have HT := Lib.hid (hT.later hb1a)
      go_wp2_with fail
      refine (HST.out _ HT.out).mono ?_
      rintro e w2 ⟨rfl, hb2⟩
      have hb02 := hb1a.trans (hb2.mono hb1a.size)
      have hb2a := hb02.alloc hb02.size (.cells #[.int .i64 W, .int .i64 H, .string ⟨CS.toArray⟩] 41)
      have hN2 := (hb2.block _ (by simp)).trans hN1
      have hN2' := (Below.heap_alloc w2 (.cells #[.int .i64 W, .int .i64 H, .string ⟨CS.toArray⟩] 41) _ (block_lt hN2)).trans hN2
      have n0 := cell_of_block hN2' 0
      have n1 := cell_of_block hN2' 1
      have n2 := cell_of_block hN2' 2
      simp at n0 n1 n2
      clear hN1 hN2 hN2'
      go_wp2_with fail
      go_ret2
      exact ⟨rfl, hb2a⟩
    | true =>
      obtain ⟨rfl, hne⟩ := hon rfl
      have hne1 : (CS == cells) = false := by simpa using hne
      have hne2 : ((⟨CS.toArray⟩ : ByteArray) == ⟨cells.toArray⟩) = false := by rw [beq_toListBytes, ByteArray.toList_eq, ByteArray.toList_eq]; simpa using hne
      clear hno hoff hon
      go_enter Tryd.func19, Tryd.ntmps19
      go_wp2_with fail
      refine HRS.out.mono ?_
      rintro e w1 ⟨rfl, hb1⟩
      have hb1a := hb1.alloc hb1.size (.cells #[.int .i64 W, .int .i64 H, .string ⟨cells.toArray⟩] 41)
      have hN1 := heap_alloc_new w1 (.cells #[.int .i64 W, .int .i64 H, .string ⟨cells.toArray⟩] 41)
      have HT := Lib.hid (hT.later hb1a)
      go_wp2_with fail
      refine (HST.out _ HT.out).mono ?_
      rintro e w2 ⟨rfl, hb2⟩
      have hb02 := hb1a.trans (hb2.mono hb1a.size)
      have hb2a := hb02.alloc hb02.size (.cells #[.int .i64 W, .int .i64 H, .string ⟨CS.toArray⟩] 41)
      have hN2 := (hb2.block _ (by simp)).trans hN1
      have hN2' := (Below.heap_alloc w2 (.cells #[.int .i64 W, .int .i64 H, .string ⟨CS.toArray⟩] 41) _ (block_lt hN2)).trans hN2
      have n0 := cell_of_block hN2' 0
      have n1 := cell_of_block hN2' 1
      have n2 := cell_of_block hN2' 2
      simp at n0 n1 n2
      have HB2 := Lib.hid hb2a
      clear hN1 hN2 hN2' hb1 hb1a hb2 hb02 hb2a
      go_wp2_with fail
      refine (HNG.out _).mono ?_
      rintro e w3 ⟨a3, c3, rfl, hown, hb3⟩
      have HB3 := Lib.hid (HB2.out.trans (hb3.mono HB2.out.size))
      have HT2 := Lib.hid (HTX.out a3 c3 w3 hown.at hown.cap)
      clear hb3 hown
      go_wp2_with fail
      refine HT2.out.mono ?_
      rintro e w4 ⟨rfl, hb4⟩
      go_wp2_with fail
      go_ret2
      exact ⟨rfl, HB3.out.trans (hb4.mono HB3.out.size)⟩
end Go.Proofs.YthlbplmghjaeoacDoor
