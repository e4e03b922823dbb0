/- CL, CM, laid as one text. -/
import Derived.Test.YthlbplmghjaeoacDoorCB
import Derived.Test.YthlbplmghjaeoacDoorCK
import Derived.Outline
import Derived.RegionTactic

/- Notes: what a pair of open cells finds, by the program's rule. -/
namespace Go.Proofs.YthlbplmghjaeoacDoor
open Go.RowKit

/-- What a pair finds: mines, and free cells. -/
def pairL (na nb : List Nat) (d : Int) : List Nat × List Nat :=
  if (na.filter fun x => !decide (x ∈ nb)) = [] then
    (if d = 0 then ([], nb.filter fun x => !decide (x ∈ na)) else if d = ((nb.filter fun x => !decide (x ∈ na)).length : Int) then (nb.filter fun x => !decide (x ∈ na), []) else ([], []))
  else ([], [])
theorem pairL_cel {n : Nat} {na nb : List Nat} (d : Int) (hb : Cel n nb) : Cel n (pairL na nb d).1 ∧ Cel n (pairL na nb d).2 := by
  unfold pairL
  split
  · split
    · exact ⟨Cel.nil _, hb.filter _⟩
    · split
      · exact ⟨hb.filter _, Cel.nil _⟩
      · exact ⟨Cel.nil _, Cel.nil _⟩
  · exact ⟨Cel.nil _, Cel.nil _⟩
def singL (nb : List Nat) (d : Int) : List Nat × List Nat := if d = 0 then ([], nb) else if d = (nb.length : Int) then (nb, []) else ([], [])
theorem pair_sing (nb : List Nat) (d : Int) : pairL [] nb d = singL nb d := by
  have e : (nb.filter fun x => !decide (x ∈ ([] : List Nat))) = nb := List.filter_eq_self.2 fun x _ => by simp
  unfold pairL singL
  rw [e]
  simp
theorem pair_none (d : Int) : pairL [] [] d = ([], []) := by
  rw [pair_sing]
  unfold singL
  split
  · rfl
  · split <;> rfl

theorem enters_pair1 (args : Array Value) (w' : World) : (callFunc 56 args).run Tryd.prog w' = .ok (.enter 56 args) w' := by
  go_simp
theorem find_ret {B : Nat} {w w' : World} {m f : Int} {t0 t1 t2 : Value} {r : List Value} (h : w'.heap[B]? = some (.cells #[.int .u64 m, .int .u64 f] 55 (0, 0))) {a : Act} {X : Value}
    (ha : a = { tmps := (t0 :: t1 :: t2 :: .pointer (some ⟨B, 0, none⟩) :: r).toArray, defers := [] }) (hx : X = .agg #[.int .u64 m, .int .u64 f]) (hb : Below w.heap.size w w') :
    bodyPost Tryd.prog Tryd.f56 (fun e w' => e = .returned X ∧ Below w.heap.size w w') .ret a w' := by
  subst ha
  subst hx
  have r0 := cell_of_block h 0
  have r1 := cell_of_block h 1
  simp at r0 r1
  exact bodyPost_ret (v := .agg #[.int .u64 m, .int .u64 f]) (by simp [results, Tryd.results56, go_sem, r0, r1]) rfl ⟨rfl, hb⟩

set_option maxRecDepth 100000 in
set_option maxHeartbeats 3200000 in
theorem pair1_any (n : Nat) (hn : n ≤ 64) (na nb : List Nat) (ha : Cel n na) (hb : Cel n nb) (fc sc ra rb : Int) (g : Nat) (w : World) (hra : -100 ≤ ra ∧ ra ≤ 300) (hrb : -100 ≤ rb ∧ rb ≤ 300)
    (hG : w.heap[g]? = some (.cells #[.int .i64 fc, .int .i64 ra, .int .u64 (maskM na : Nat)] 51 (0, 0))) :
    Calls Tryd.prog 56 #[.agg #[.int .i64 sc, .int .i64 rb, .int .u64 (maskM nb : Nat)], .pointer (some ⟨g, 0, none⟩)] w fun e w' => e = .returned (fdV (pairL na nb (rb - ra)).1 (pairL na nb (rb - ra)).2) ∧ Below w.heap.size w w' := by
  have ha64 : ∀ c ∈ na, c < 64 := fun c hc => by have := ha.lt c hc; omega
  have hb64 : ∀ c ∈ nb, c < 64 := fun c hc => by have := hb.lt c hc; omega
  have E1 := u64_andN hb64 ha64
  have E2 := u64_andN ha64 hb64
  have hz2 := maskM_zero (xs := na.filter fun x => !decide (x ∈ nb)) (fun c hc => ha64 c (List.mem_filter.1 hc).1)
  have ho := hb.filter fun x => !decide (x ∈ na)
  have hom := ho.mask hn
  have holt := ho.mlt hn
  have hol := ho.len
  have HP : Hid (pairL na nb (rb - ra) = if (na.filter fun x => !decide (x ∈ nb)) = [] then
    (if rb - ra = 0 then ([], nb.filter fun x => !decide (x ∈ na)) else if rb - ra = ((nb.filter fun x => !decide (x ∈ na)).length : Int) then (nb.filter fun x => !decide (x ∈ na), []) else ([], []))
    else ([], [])) := rfl
  have HFD : Hid (∀ p : List Nat × List Nat, fdV p.1 p.2 = .agg #[.int .u64 (maskM p.1 : Nat), .int .u64 (maskM p.2 : Nat)]) := fun _ => rfl
  have hac := fun w => areaCount_any (maskM (nb.filter fun x => !decide (x ∈ na))) w holt
  rw [hom] at hac
  have HAC := Lib.hid hac
  generalize pairL na nb (rb - ra) = P at *
  have hne : (∀ c ∈ na.filter (fun x => !decide (x ∈ nb)), c < 64) := fun c hc => ha64 c (List.mem_filter.1 hc).1
  clear hac hom ho ha hb ha64 hb64 holt hne
  generalize hoo : (nb.filter fun x => !decide (x ∈ na)) = o at *
  generalize huu : (na.filter fun x => !decide (x ∈ nb)) = u at *
  have HOO := Lib.hid hoo
  have HUU := Lib.hid huu
  clear hoo huu
  generalize maskM na = ma at *
  generalize maskM nb = mb at *
  have hb0 : Below w.heap.size w ((w.alloc (.cells #[.int .i64 sc, .int .i64 rb, .int .u64 mb] 51)).alloc (.cells #[.int .u64 0, .int .u64 0] 55)) := ((Below.refl _ _).alloc (Nat.le_refl _) _).alloc (by simp) _
  have hS1 := heap_alloc_new w (.cells #[.int .i64 sc, .int .i64 rb, .int .u64 mb] 51)
  have hS0 := (Below.heap_alloc (w.alloc (.cells #[.int .i64 sc, .int .i64 rb, .int .u64 mb] 51)) (.cells #[.int .u64 0, .int .u64 0] 55) _ (block_lt hS1)).trans hS1
  have hR0 := heap_alloc_new (w.alloc (.cells #[.int .i64 sc, .int .i64 rb, .int .u64 mb] 51)) (.cells #[.int .u64 0, .int .u64 0] 55)
  rw [show (w.alloc (.cells #[.int .i64 sc, .int .i64 rb, .int .u64 mb] 51)).heap.size = w.heap.size + 1 by simp] at hR0
  have hG0 := (hb0.block g (block_lt hG)).trans hG
  clear hG hS1
  go_enter Tryd.func56, Tryd.ntmps56
  go_wp2_with fail
  generalize (w.alloc (.cells #[.int .i64 sc, .int .i64 rb, .int .u64 mb] 51)).alloc (.cells #[.int .u64 0, .int .u64 0] 55) = w1 at *
  have g1 : w1.cell? ⟨g, 1, none⟩ = some (.int .i64 ra) := by rw [cell_of_block hG0]; rfl
  have g2 : w1.cell? ⟨g, 2, none⟩ = some (.int .u64 ma) := by rw [cell_of_block hG0]; rfl
  have s1 : w1.cell? ⟨w.heap.size, 1, none⟩ = some (.int .i64 rb) := by rw [cell_of_block hS0]; rfl
  have s2 : w1.cell? ⟨w.heap.size, 2, none⟩ = some (.int .u64 mb) := by rw [cell_of_block hS0]; rfl
  have hglt := block_lt hG0
  have hslt := block_lt hS0
  have hrlt := block_lt hR0
  go_quiet (fail)
  have hbq := below_drewN hb0 nq
  have g2 : (w1.drewN nq).cell? ⟨g, 2, none⟩ = some (.int .u64 ma) := g2
  have s2 : (w1.drewN nq).cell? ⟨w.heap.size, 2, none⟩ = some (.int .u64 mb) := s2
  have hR2 : (w1.drewN nq).heap[w.heap.size + 1]? = some (.cells #[.int .u64 0, .int .u64 0] 55 (0, 0)) := hR0
  have r0 : (w1.drewN nq).cell? ⟨w.heap.size + 1, 0, none⟩ = some (.int .u64 0) := by rw [cell_of_block hR2]; rfl
  have r1 : (w1.drewN nq).cell? ⟨w.heap.size + 1, 1, none⟩ = some (.int .u64 0) := by rw [cell_of_block hR2]; rfl
  have q0 := frozen_of_block hR2 0
  have q1 := frozen_of_block hR2 1
  have HR := Lib.hid hR2
  have hrlt2 := block_lt hR2
  clear hG0 hS0 hR0 hR2 hb0
  generalize w1.drewN nq = w2 at *
  have hst : ∀ m f : Int, Hid (((w2.setCell ⟨w.heap.size + 1, 0, none⟩ (.int .u64 m)).setCell ⟨w.heap.size + 1, 1, none⟩ (.int .u64 f)).heap[w.heap.size + 1]? = some (.cells #[.int .u64 m, .int .u64 f] 55 (0, 0))) := fun m f => by
    have b2 := block_set (block_set HR.out 0 (.int .u64 m)) 1 (.int .u64 f)
    simpa [Hid] using b2
  have hbs : ∀ m f : Int, Hid (Below w.heap.size w ((w2.setCell ⟨w.heap.size + 1, 0, none⟩ (.int .u64 m)).setCell ⟨w.heap.size + 1, 1, none⟩ (.int .u64 f))) := fun m f => hbq.trans (((Below.set 0 _).trans (Below.set 1 _)).mono (by omega))
  have HST := Lib.hid hst
  have HBS := Lib.hid hbs
  clear hst hbs hbq
  by_cases hu : u = []
  · have hmu : maskM u = 0 := hz2.2 hu
    have d1 : (((maskM u : Nat) : Int) != 0) = false := by rw [hmu]; rfl
    rw [if_pos hu] at HP
    clear hu hz2 hmu
    by_cases h0 : rb - ra = 0
    · have e0 : ((rb - ra : Int) == 0) = true := by simp [h0]
      rw [if_pos h0] at HP
      clear h0
      go_wp2_with fail
      exact find_ret (HST.out 0 (maskM o : Nat)).out rfl (by rw [HFD.out, HP.out]; rfl) (HBS.out _ _).out
    · have e0 : ((rb - ra : Int) == 0) = false := by simp [h0]
      rw [if_neg h0] at HP
      by_cases h1 : rb - ra = (o.length : Int)
      · have e1 : ((rb - ra : Int) == (o.length : Int)) = true := by simp [h1]
        rw [if_pos h1] at HP
        clear h0 h1
        go_wp2_with fail
        refine (HAC.out _).mono ?_
        rintro e w3 ⟨rfl, rfl⟩
        go_wp2_with fail
        exact find_ret (HST.out (maskM o : Nat) 0).out rfl (by rw [HFD.out, HP.out]; rfl) (HBS.out _ _).out
      · have e1 : ((rb - ra : Int) == (o.length : Int)) = false := by simp [h1]
        rw [if_neg h1] at HP
        clear h0 h1
        go_wp2_with fail
        refine (HAC.out _).mono ?_
        rintro e w3 ⟨rfl, rfl⟩
        go_wp2_with fail
        exact find_ret (HST.out 0 0).out rfl (by rw [HFD.out, HP.out]; rfl) (HBS.out _ _).out
  · have hmu : ¬ maskM u = 0 := fun h => hu (hz2.1 h)
    have d1 : (((maskM u : Nat) : Int) != 0) = true := by simp; omega
    rw [if_neg hu] at HP
    clear hu hz2 hmu
    go_wp2_with fail
    exact find_ret (HST.out 0 0).out rfl (by rw [HFD.out, HP.out]; rfl) (HBS.out _ _).out

set_option maxRecDepth 100000 in
theorem pairRule_any (fc ra : Int) (mk : Nat) (w : World) :
    Calls Tryd.prog 29 #[.agg #[.int .i64 fc, .int .i64 ra, .int .u64 (mk : Int)]] w fun e w' => e = .returned (.func (.func 56) #[] #[.pointer (some ⟨w.heap.size, 0, none⟩)]) ∧ w' = w.alloc (.cells #[.int .i64 fc, .int .i64 ra, .int .u64 (mk : Int)] 51) := by
  go_enter Tryd.func29, Tryd.ntmps29
  go_wp2_with fail
  go_ret
  exact ⟨rfl, rfl⟩
set_option maxRecDepth 100000 in
theorem singleRule_any (w : World) :
    Calls Tryd.prog 34 #[] w fun e w' => e = .returned (.func (.func 56) #[] #[.pointer (some ⟨w.heap.size, 0, none⟩)]) ∧ w' = w.alloc (.cells #[.int .i64 0, .int .i64 0, .int .u64 ((maskM [] : Nat) : Int)] 51) := by
  have h := pairRule_any 0 0 0 w
  go_enter Tryd.func34, Tryd.ntmps34
  go_wp2_with fail
  refine h.mono ?_
  rintro e w1 ⟨rfl, rfl⟩
  go_wp2_with fail
  go_ret
  exact ⟨rfl, rfl⟩
end Go.Proofs.YthlbplmghjaeoacDoor

/- Notes: the first open cell that finds something by a rule, by the program. -/
namespace Go.Proofs.YthlbplmghjaeoacDoor
open Go.RowKit

/-- Is something found? -/
def fnd (p : List Nat × List Nat) : Bool := !(p.1.isEmpty && p.2.isEmpty)
def pairAt (cells : List UInt8) (W : Nat) (na : List Nat) (ra : Int) (k : Nat) : List Nat × List Nat := pairL na (nrS cells W k 63) (restM cells W k - ra)
/-- The first one of some cells that finds something by a rule, and what it finds. -/
def fstM (cells : List UInt8) (W : Nat) (na : List Nat) (ra : Int) : List Nat → Nat × (List Nat × List Nat)
  | [] => (0, ([], []))
  | k :: r => if fnd (pairAt cells W na ra k) = true then (k, pairAt cells W na ra k) else fstM cells W na ra r
theorem fst_cel (cells : List UInt8) (W : Nat) (na : List Nat) (ra : Int) : ∀ ks : List Nat, Cel cells.length (fstM cells W na ra ks).2.1 ∧ Cel cells.length (fstM cells W na ra ks).2.2
  | [] => ⟨Cel.nil _, Cel.nil _⟩
  | k :: r => by
    unfold fstM
    split
    · exact pairL_cel _ (Cel.near _ _ _ _)
    · exact fst_cel cells W na ra r
theorem fnd_mask {n : Nat} {p : List Nat × List Nat} (hn : n ≤ 64) (h1 : Cel n p.1) (h2 : Cel n p.2) : fnd p = !(maskM p.1 == 0 && maskM p.2 == 0) := by
  have e1 := maskM_zero (xs := p.1) (fun c hc => by have := h1.lt c hc; omega)
  have e2 := maskM_zero (xs := p.2) (fun c hc => by have := h2.lt c hc; omega)
  have q : ∀ (l : List Nat) (m : Nat), (m = 0 ↔ l = []) → l.isEmpty = (m == 0) := fun l m h => by
    cases l with
    | nil => rw [h.2 rfl]; rfl
    | cons x r => have : ¬ m = 0 := fun q => by have := h.1 q; cases this
                  simp [this]
  rw [fnd, q _ _ e1, q _ _ e2]

set_option maxRecDepth 100000 in
set_option maxHeartbeats 3200000 in
theorem first_any (W : Nat) (cells : List UInt8) (hn : cells.length ≤ 64) (na : List Nat) (ha : Cel cells.length na) (fc ra : Int) (hra : -100 ≤ ra ∧ ra ≤ 300) (g : Nat) (B : Nat) (a : Option Addr) (cap : Nat) (w : World)
    (hG : w.heap[g]? = some (.cells #[.int .i64 fc, .int .i64 ra, .int .u64 (maskM na : Nat)] 51 (0, 0))) (hown : Own3 w B (.slice a (openL cells W).length cap) (openL cells W)) :
    Calls Tryd.prog 35 #[.func (.func 56) #[] #[.pointer (some ⟨g, 0, none⟩)], .slice a (openL cells W).length cap] w fun e w' => e = .returned (.tuple #[.int .i64 ((fstM cells W na ra (opens cells)).1 : Nat), fdV (fstM cells W na ra (opens cells)).2.1 (fstM cells W na ra (opens cells)).2.2]) ∧ Below w.heap.size w w' := by
  have HLEN : Hid ((openL cells W).length = (opens cells).length) := by rw [Hid, openL, List.length_map]
  have HGET : Hid (∀ k (h : k < (opens cells).length) (h2 : k < (openL cells W).length), (openL cells W)[k] = ((opens cells)[k], restM cells W (opens cells)[k], maskM (nrS cells W (opens cells)[k] 63))) := by
    intro k h h2
    simp [openL, ocT]
  have hopl : (opens cells).length ≤ 64 := by
    refine Nat.le_trans (List.length_filter_le _ _) ?_
    rw [List.length_range]
    exact hn
  rw [HLEN.out] at hown ⊢
  generalize openL cells W = OL at *
  generalize opens cells = ks at *
  have hR0 := heap_alloc_new w (.cells #[.int .u64 0, .int .u64 0] 55)
  have hb0 : Below w.heap.size w (w.alloc (.cells #[.int .u64 0, .int .u64 0] 55)) := (Below.refl _ _).alloc (Nat.le_refl _) _
  have hG0 := (hb0.block g (block_lt hG)).trans hG
  have hown0 := hown.later hb0
  have hs0 : w.heap.size < (w.alloc (.cells #[.int .u64 0, .int .u64 0] 55)).heap.size := by simp
  have hglt := block_lt hG
  clear hG hown
  go_enter Tryd.func35, Tryd.ntmps35
  go_wp2_with fail
  generalize w.alloc (.cells #[.int .u64 0, .int .u64 0] 55) = w0 at *
  have HR0 := Lib.hid hR0
  have HG0 := Lib.hid hG0
  clear hR0 hG0
  go_loopw [11] (fun i wr => ∃ k : Nat, k ≤ ks.length ∧ i = .int .i64 k ∧ Below w0.heap.size w0 wr ∧ Hid (fstM cells W na ra ks = fstM cells W na ra (ks.drop k))) (fun i _ => ks.length - (intOf i).toNat)
  case atStart => exact ⟨0, Nat.zero_le _, rfl, Below.refl _ _, rfl⟩
  case round =>
    obtain ⟨k, hk, rfl, hbr, hF⟩ := hrel
    have sr := hbr.size
    by_cases hlt : k < ks.length
    · have hltO : k < OL.length := by rw [HLEN.out]; exact hlt
      have HD : Hid (fstM cells W na ra (ks.drop k) = if fnd (pairAt cells W na ra ks[k]) = true then (ks[k], pairAt cells W na ra ks[k]) else fstM cells W na ra (ks.drop (k + 1))) := by rw [Hid, List.drop_eq_getElem_cons hlt, fstM]
      obtain ⟨q, hga, c0, c1, c2⟩ := (hown0.later hbr).at k hltO
      subst hga
      rw [HGET.out k hlt hltO] at c0 c1 c2
      simp only at c0 c1 c2
      have hGr := (hbr.block g (by omega)).trans HG0.out
      have hcl := pairL_cel (na := na) (restM cells W ks[k] - ra) (Cel.near cells W ks[k] 63)
      have hfm := fnd_mask (p := pairAt cells W na ra ks[k]) hn hcl.1 hcl.2
      have hrk := rest_range cells W ks[k] hn
      have HP1 := Lib.hid (fun w h => pair1_any cells.length hn na (nrS cells W ks[k] 63) ha (Cel.near cells W ks[k] 63) fc ks[k] ra (restM cells W ks[k]) g w hra hrk h)
      have HPA : Hid (pairAt cells W na ra ks[k] = pairL na (nrS cells W ks[k] 63) (restM cells W ks[k] - ra)) := rfl
      have HFD : Hid (∀ p : List Nat × List Nat, fdV p.1 p.2 = .agg #[.int .u64 (maskM p.1 : Nat), .int .u64 (maskM p.2 : Nat)]) := fun _ => rfl
      rw [HFD.out, ← HPA.out] at HP1
      have HR1 := Lib.hid ((hbr.block _ hs0).trans HR0.out)
      generalize ks[k] = x at *
      generalize pairAt cells W na ra x = P at *
      generalize restM cells W x = rk at *
      generalize maskM (nrS cells W x 63) = mk at *
      have hba : Below wr.heap.size wr (wr.alloc (.cells #[.int .i64 x, .int .i64 rk, .int .u64 mk] 51)) := (Below.refl _ _).alloc (Nat.le_refl _) _
      have hPa := heap_alloc_new wr (.cells #[.int .i64 x, .int .i64 rk, .int .u64 mk] 51)
      have HPX := Lib.hid (HP1.out _ ((hba.block g (by omega)).trans hGr))
      have hbx := hbr.trans (hba.mono sr)
      clear hcl hrk hGr HP1
      have hPa0 : ∀ w', Below (wr.alloc (.cells #[.int .i64 x, .int .i64 rk, .int .u64 mk] 51)).heap.size (wr.alloc (.cells #[.int .i64 x, .int .i64 rk, .int .u64 mk] 51)) w' → w'.heap[wr.heap.size]? = some (.cells #[.int .i64 x, .int .i64 rk, .int .u64 mk] 51 (0, 0)) := fun w' h => (h.block _ (by simp)).trans hPa
      have hR3 : ∀ w', Below (wr.alloc (.cells #[.int .i64 x, .int .i64 rk, .int .u64 mk] 51)).heap.size (wr.alloc (.cells #[.int .i64 x, .int .i64 rk, .int .u64 mk] 51)) w' → w'.heap[w.heap.size]? = some (.cells #[.int .u64 0, .int .u64 0] 55 (0, 0)) := fun w' h => (h.block _ (by simp; omega)).trans ((hba.block _ (by omega)).trans HR1.out)
      have HPA0 := Lib.hid hPa0
      have HR3 := Lib.hid hR3
      have HBX := Lib.hid hbx
      have hsz0 : (wr.alloc (.cells #[.int .i64 x, .int .i64 rk, .int .u64 mk] 51)).heap.size = wr.heap.size + 1 := by simp
      generalize hm1 : maskM P.1 = m1 at *
      generalize hm2 : maskM P.2 = m2 at *
      have HM1 := Lib.hid hm1
      have HM2 := Lib.hid hm2
      clear hPa hba hPa0 hR3 hbx hm1 hm2
      by_cases hf : m1 = 0 ∧ m2 = 0
      · obtain ⟨rfl, rfl⟩ := hf
        have HN : Hid (fnd P = false) := by rw [Hid, hfm]; rfl
        clear hfm
        go_wp2_with (go_at_call 56; refine HPX.out.mono ?_; rintro e w3 ⟨rfl, hb3⟩)
        have hb4 := HBX.out.trans (hb3.mono HBX.out.size)
        go_roundw
        case rel => exact ⟨k + 1, by omega, by go_num, hb4.alloc hb4.size _, by rw [Hid, hF.out, HD.out, if_neg (by rw [HN.out]; decide)]⟩
        case measure => simp [intOf]; omega
      · have HY : Hid (fnd P = true) := by
          rw [Hid, hfm]
          simp only [Bool.not_eq_true', Bool.and_eq_false_iff, beq_eq_false_iff_ne]
          omega
        have HFIN : Hid (fstM cells W na ra ks = (x, P)) := by rw [Hid, hF.out, HD.out, if_pos HY.out]
        clear hfm
        have hcase : (¬ ((m1 : Int) = 0)) ∨ (m1 = 0 ∧ ¬ ((m2 : Int) = 0)) := by omega
        clear hf
        rcases hcase with n1 | ⟨rfl, n2⟩
        · have n1' : ((m1 : Int) == 0) = false := by simpa using n1
          go_wp2_with (go_at_call 56; refine HPX.out.mono ?_; rintro e w3 ⟨rfl, hb3⟩)
          have hP3 := HPA0.out w3 hb3
          have hR3 := HR3.out w3 hb3
          have hb4 := (HBX.out.trans (hb3.mono HBX.out.size)).alloc (HBX.out.trans (hb3.mono HBX.out.size)).size (.cells #[.int .u64 m1, .int .u64 m2] 55)
          have hX4 := heap_alloc_new w3 (.cells #[.int .u64 m1, .int .u64 m2] 55)
          have hP4 := (Below.heap_alloc w3 (.cells #[.int .u64 m1, .int .u64 m2] 55) _ (block_lt hP3)).trans hP3
          have hR4 := (Below.heap_alloc w3 (.cells #[.int .u64 m1, .int .u64 m2] 55) _ (block_lt hR3)).trans hR3
          generalize w3.alloc (.cells #[.int .u64 m1, .int .u64 m2] 55) = w4 at *
          have p0 : w4.cell? ⟨wr.heap.size, 0, none⟩ = some (.int .i64 x) := by rw [cell_of_block hP4]; rfl
          have x0 : w4.cell? ⟨w3.heap.size, 0, none⟩ = some (.int .u64 m1) := by rw [cell_of_block hX4]; rfl
          have x1 : w4.cell? ⟨w3.heap.size, 1, none⟩ = some (.int .u64 m2) := by rw [cell_of_block hX4]; rfl
          have r0 : w4.cell? ⟨w.heap.size, 0, none⟩ = some (.int .u64 0) := by rw [cell_of_block hR4]; rfl
          have r1 : w4.cell? ⟨w.heap.size, 1, none⟩ = some (.int .u64 0) := by rw [cell_of_block hR4]; rfl
          have q0 := frozen_of_block hR4 0
          have q1 := frozen_of_block hR4 1
          have HR4 := Lib.hid hR4
          have hrlt := block_lt hR4
          have hplt := block_lt hP4
          have hxlt := block_lt hX4
          clear hP3 hR3 hb3 hP4 hX4 hR4
          go_region
          go_wp2_with fail
          have b2 := block_set (block_set HR4.out 0 (.int .u64 m1)) 1 (.int .u64 m2)
          refine bodyPost_ret (v := .tuple #[.int .i64 x, .agg #[.int .u64 m1, .int .u64 m2]]) ?_ rfl ?_
          · have z0 := cell_of_block b2 0
            have z1 := cell_of_block b2 1
            simp at z0 z1
            simp [results, Tryd.results35, go_sem, z0, z1]
          · exact ⟨by (rw [HFIN.out, HFD.out, HM1.out, HM2.out]) <;> rfl, toDrew ((hb0.trans (hb4.mono (by omega))).trans (((Below.set 0 _).trans (Below.set 1 _)).mono (Nat.le_refl _)))⟩
        · have n2' : ((m2 : Int) == 0) = false := by simpa using n2
          go_wp2_with (go_at_call 56; refine HPX.out.mono ?_; rintro e w3 ⟨rfl, hb3⟩)
          have hP3 := HPA0.out w3 hb3
          have hR3 := HR3.out w3 hb3
          have hb4 := (HBX.out.trans (hb3.mono HBX.out.size)).alloc (HBX.out.trans (hb3.mono HBX.out.size)).size (.cells #[.int .u64 0, .int .u64 m2] 55)
          have hX4 := heap_alloc_new w3 (.cells #[.int .u64 0, .int .u64 m2] 55)
          have hP4 := (Below.heap_alloc w3 (.cells #[.int .u64 0, .int .u64 m2] 55) _ (block_lt hP3)).trans hP3
          have hR4 := (Below.heap_alloc w3 (.cells #[.int .u64 0, .int .u64 m2] 55) _ (block_lt hR3)).trans hR3
          generalize w3.alloc (.cells #[.int .u64 0, .int .u64 m2] 55) = w4 at *
          have p0 : w4.cell? ⟨wr.heap.size, 0, none⟩ = some (.int .i64 x) := by rw [cell_of_block hP4]; rfl
          have x0 : w4.cell? ⟨w3.heap.size, 0, none⟩ = some (.int .u64 0) := by rw [cell_of_block hX4]; rfl
          have x1 : w4.cell? ⟨w3.heap.size, 1, none⟩ = some (.int .u64 m2) := by rw [cell_of_block hX4]; rfl
          have r0 : w4.cell? ⟨w.heap.size, 0, none⟩ = some (.int .u64 0) := by rw [cell_of_block hR4]; rfl
          have r1 : w4.cell? ⟨w.heap.size, 1, none⟩ = some (.int .u64 0) := by rw [cell_of_block hR4]; rfl
          have q0 := frozen_of_block hR4 0
          have q1 := frozen_of_block hR4 1
          have HR4 := Lib.hid hR4
          have hrlt := block_lt hR4
          have hplt := block_lt hP4
          have hxlt := block_lt hX4
          clear hP3 hR3 hb3 hP4 hX4 hR4
          go_region
          go_wp2_with fail
          have b2 := block_set (block_set HR4.out 0 (.int .u64 0)) 1 (.int .u64 m2)
          refine bodyPost_ret (v := .tuple #[.int .i64 x, .agg #[.int .u64 0, .int .u64 m2]]) ?_ rfl ?_
          · have z0 := cell_of_block b2 0
            have z1 := cell_of_block b2 1
            simp at z0 z1
            simp [results, Tryd.results35, go_sem, z0, z1]
          · exact ⟨by (rw [HFIN.out, HFD.out, HM1.out, HM2.out]) <;> rfl, toDrew ((hb0.trans (hb4.mono (by omega))).trans (((Below.set 0 _).trans (Below.set 1 _)).mono (Nat.le_refl _)))⟩
    · obtain rfl : k = ks.length := by omega
      have hRr := (hbr.block _ hs0).trans HR0.out
      have r0 := cell_of_block hRr 0
      have r1 := cell_of_block hRr 1
      simp at r0 r1
      have q0 := frozen_of_block hRr 0
      have q1 := frozen_of_block hRr 1
      have HRr := Lib.hid hRr
      have hrlt := block_lt hRr
      have HFIN : Hid (fstM cells W na ra ks = (0, ([], []))) := by rw [Hid, hF.out, List.drop_length]; rfl
      clear hRr
      go_wp2_with fail
      have b2 := block_set (block_set HRr.out 0 (.int .u64 0)) 1 (.int .u64 0)
      refine bodyPost_ret (v := .tuple #[.int .i64 0, .agg #[.int .u64 0, .int .u64 0]]) ?_ rfl ?_
      · have z0 := cell_of_block b2 0
        have z1 := cell_of_block b2 1
        simp at z0 z1
        simp [results, Tryd.results35, go_sem, z0, z1]
      · exact ⟨by rw [HFIN.out]; rfl, (hb0.trans (hbr.mono (by omega))).trans (((Below.set 0 _).trans (Below.set 1 _)).mono (Nat.le_refl _))⟩
end Go.Proofs.YthlbplmghjaeoacDoor
