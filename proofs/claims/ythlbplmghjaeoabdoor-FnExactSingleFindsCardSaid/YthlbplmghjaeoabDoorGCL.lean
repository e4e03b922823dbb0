/- CL, CM, laid as one text. -/
import Derived.Test.YthlbplmghjaeoabDoorCB
import Derived.Test.YthlbplmghjaeoabDoorCK
import Derived.Outline
import Derived.RegionTactic

/- Notes: what a pair of open cells finds, by the program's rule. -/
namespace Go.Proofs.YthlbplmghjaeoabDoor
open Go.RowKit

/-- What a pair finds: mines, and free cells. -/
def pairL (na nb : List Nat) (d : Int) : List Nat × List Nat :=
  if (na.filter fun x => !decide (x ∈ nb)) = [] then
    (if d = 0 then ([], nb.filter fun x => !decide (x ∈ na)) else if d = ((nb.filter fun x => !decide (x ∈ na)).length : Int) then (nb.filter fun x => !decide (x ∈ na), []) else ([], []))
  else ([], [])
theorem pairL_cel {n : Nat} {na nb : List Nat} (d : Int) (hb : Cel n nb) : Cel n (pairL na nb d).1 ∧ Cel n (pairL na nb d).2 := by
  unfold pairL
  split
  · split
    · exact ⟨Cel.nil _, hb.filter _⟩
    · split
      · exact ⟨hb.filter _, Cel.nil _⟩
      · exact ⟨Cel.nil _, Cel.nil _⟩
  · exact ⟨Cel.nil _, Cel.nil _⟩
def singL (nb : List Nat) (d : Int) : List Nat × List Nat := if d = 0 then ([], nb) else if d = (nb.length : Int) then (nb, []) else ([], [])
theorem pair_sing (nb : List Nat) (d : Int) : pairL [] nb d = singL nb d := by
  have e : (nb.filter fun x => !decide (x ∈ ([] : List Nat))) = nb := List.filter_eq_self.2 fun x _ => by simp
  unfold pairL singL
  rw [e]
  simp
theorem pair_none (d : Int) : pairL [] [] d = ([], []) := by
  rw [pair_sing]
  unfold singL
  split
  · rfl
  · split <;> rfl

theorem enters_pair1 (args : Array Value) (w' : World) : (callFunc 96 args).run Tryd.prog w' = .ok (.enter 96 args) w' := by
  go_simp
theorem find_ret {B : Nat} {w w' : World} {m f : Int} {t0 t1 t2 : Value} {r : List Value} (h : w'.heap[B]? = some (.cells #[.int .u64 m, .int .u64 f] 69 (0, 0))) {a : Act} {X : Value}
    (ha : a = { tmps := (t0 :: t1 :: t2 :: .pointer (some ⟨B, 0, none⟩) :: r).toArray, defers := [] }) (hx : X = .agg #[.int .u64 m, .int .u64 f]) (hb : Below w.heap.size w w') :
    bodyPost Tryd.prog Tryd.f96 (fun e w' => e = .returned X ∧ Below w.heap.size w w') .ret a w' := by
  subst ha
  subst hx
  have r0 := cell_of_block h 0
  have r1 := cell_of_block h 1
  simp at r0 r1
  exact bodyPost_ret (v := .agg #[.int .u64 m, .int .u64 f]) (by simp [results, Tryd.results96, go_sem, r0, r1]) rfl ⟨rfl, hb⟩

set_option maxRecDepth 100000 in
set_option maxHeartbeats 3200000 in
theorem pair1_any (n : Nat) (hn : n ≤ 64) (na nb : List Nat) (ha : Cel n na) (hb : Cel n nb) (fc sc ra rb : Int) (g : Nat) (w : World) (hra : -100 ≤ ra ∧ ra ≤ 300) (hrb : -100 ≤ rb ∧ rb ≤ 300)
    (hG : w.heap[g]? = some (.cells #[.int .i64 fc, .int .i64 ra, .int .u64 (maskM na : Nat)] 61 (0, 0))) :
    Calls Tryd.prog 96 #[.agg #[.int .i64 sc, .int .i64 rb, .int .u64 (maskM nb : Nat)], .pointer (some ⟨g, 0, none⟩)] w fun e w' => e = .returned (fdV (pairL na nb (rb - ra)).1 (pairL na nb (rb - ra)).2) ∧ Below w.heap.size w w' := by
  have ha64 : ∀ c ∈ na, c < 64 := fun c hc => by have := ha.lt c hc; omega
  have hb64 : ∀ c ∈ nb, c < 64 := fun c hc => by have := hb.lt c hc; omega
  have E1 := u64_andN hb64 ha64
  have E2 := u64_andN ha64 hb64
  have hz2 := maskM_zero (xs := na.filter fun x => !decide (x ∈ nb)) (fun c hc => ha64 c (List.mem_filter.1 hc).1)
  have ho := hb.filter fun x => !decide (x ∈ na)
  have hom := ho.mask hn
  have holt := ho.mlt hn
  have hol := ho.len
  have HP : Hid (pairL na nb (rb - ra) = if (na.filter fun x => !decide (x ∈ nb)) = [] then
    (if rb - ra = 0 then ([], nb.filter fun x => !decide (x ∈ na)) else if rb - ra = ((nb.filter fun x => !decide (x ∈ na)).length : Int) then (nb.filter fun x => !decide (x ∈ na), []) else ([], []))
    else ([], [])) := rfl
  have HFD : Hid (∀ p : List Nat × List Nat, fdV p.1 p.2 = .agg #[.int .u64 (maskM p.1 : Nat), .int .u64 (maskM p.2 : Nat)]) := fun _ => rfl
  have hac := fun w => areaCount_any (maskM (nb.filter fun x => !decide (x ∈ na))) w holt
  rw [hom] at hac
  have HAC := Lib.hid hac
  generalize pairL na nb (rb - ra) = P at *
  have hne : (∀ c ∈ na.filter (fun x => !decide (x ∈ nb)), c < 64) := fun c hc => ha64 c (List.mem_filter.1 hc).1
  clear hac hom ho ha hb ha64 hb64 holt hne
  generalize hoo : (nb.filter fun x => !decide (x ∈ na)) = o at *
  generalize huu : (na.filter fun x => !decide (x ∈ nb)) = u at *
  have HOO := Lib.hid hoo
  have HUU := Lib.hid huu
  clear hoo huu
  generalize maskM na = ma at *
  generalize maskM nb = mb at *
  have hb0 : Below w.heap.size w ((w.alloc (.cells #[.int .i64 sc, .int .i64 rb, .int .u64 mb] 61)).alloc (.cells #[.int .u64 0, .int .u64 0] 69)) := ((Below.refl _ _).alloc (Nat.le_refl _) _).alloc (by simp) _
  have hS1 := heap_alloc_new w (.cells #[.int .i64 sc, .int .i64 rb, .int .u64 mb] 61)
  have hS0 := (Below.heap_alloc (w.alloc (.cells #[.int .i64 sc, .int .i64 rb, .int .u64 mb] 61)) (.cells #[.int .u64 0, .int .u64 0] 69) _ (block_lt hS1)).trans hS1
  have hR0 := heap_alloc_new (w.alloc (.cells #[.int .i64 sc, .int .i64 rb, .int .u64 mb] 61)) (.cells #[.int .u64 0, .int .u64 0] 69)
  rw [show (w.alloc (.cells #[.int .i64 sc, .int .i64 rb, .int .u64 mb] 61)).heap.size = w.heap.size + 1 by simp] at hR0
  have hG0 := (hb0.block g (block_lt hG)).trans hG
  clear hG hS1
  go_enter Tryd.func96, Tryd.ntmps96
  go_wp2_with fail
  generalize (w.alloc (.cells #[.int .i64 sc, .int .i64 rb, .int .u64 mb] 61)).alloc (.cells #[.int .u64 0, .int .u64 0] 69) = w1 at *
  have g1 : w1.cell? ⟨g, 1, none⟩ = some (.int .i64 ra) := by rw [cell_of_block hG0]; rfl
  have g2 : w1.cell? ⟨g, 2, none⟩ = some (.int .u64 ma) := by rw [cell_of_block hG0]; rfl
  have s1 : w1.cell? ⟨w.heap.size, 1, none⟩ = some (.int .i64 rb) := by rw [cell_of_block hS0]; rfl
  have s2 : w1.cell? ⟨w.heap.size, 2, none⟩ = some (.int .u64 mb) := by rw [cell_of_block hS0]; rfl
  have hglt := block_lt hG0
  have hslt := block_lt hS0
  have hrlt := block_lt hR0
  go_quiet (fail)
  have hbq := below_drewN hb0 nq
  have g2 : (w1.drewN nq).cell? ⟨g, 2, none⟩ = some (.int .u64 ma) := g2
  have s2 : (w1.drewN nq).cell? ⟨w.heap.size, 2, none⟩ = some (.int .u64 mb) := s2
  have hR2 : (w1.drewN nq).heap[w.heap.size + 1]? = some (.cells #[.int .u64 0, .int .u64 0] 69 (0, 0)) := hR0
  have r0 : (w1.drewN nq).cell? ⟨w.heap.size + 1, 0, none⟩ = some (.int .u64 0) := by rw [cell_of_block hR2]; rfl
  have r1 : (w1.drewN nq).cell? ⟨w.heap.size + 1, 1, none⟩ = some (.int .u64 0) := by rw [cell_of_block hR2]; rfl
  have q0 := frozen_of_block hR2 0
  have q1 := frozen_of_block hR2 1
  have HR := Lib.hid hR2
  have hrlt2 := block_lt hR2
  clear hG0 hS0 hR0 hR2 hb0
  generalize w1.drewN nq = w2 at *
  have hst : ∀ m f : Int, Hid (((w2.setCell ⟨w.heap.size + 1, 0, none⟩ (.int .u64 m)).setCell ⟨w.heap.size + 1, 1, none⟩ (.int .u64 f)).heap[w.heap.size + 1]? = some (.cells #[.int .u64 m, .int .u64 f] 69 (0, 0))) := fun m f => by
    have b2 := block_set (block_set HR.out 0 (.int .u64 m)) 1 (.int .u64 f)
    simpa [Hid] using b2
  have hbs : ∀ m f : Int, Hid (Below w.heap.size w ((w2.setCell ⟨w.heap.size + 1, 0, none⟩ (.int .u64 m)).setCell ⟨w.heap.size + 1, 1, none⟩ (.int .u64 f))) := fun m f => hbq.trans (((Below.set 0 _).trans (Below.set 1 _)).mono (by omega))
  have HST := Lib.hid hst
  have HBS := Lib.hid hbs
  clear hst hbs hbq
  by_cases hu : u = []
  · have hmu : maskM u = 0 := hz2.2 hu
    have d1 : (((maskM u : Nat) : Int) != 0) = false := by rw [hmu]; rfl
    rw [if_pos hu] at HP
    clear hu hz2 hmu
    by_cases h0 : rb - ra = 0
    · have e0 : ((rb - ra : Int) == 0) = true := by simp [h0]
      rw [if_pos h0] at HP
      clear h0
      go_wp2_with fail
      exact find_ret (HST.out 0 (maskM o : Nat)).out rfl (by rw [HFD.out, HP.out]; rfl) (HBS.out _ _).out
    · have e0 : ((rb - ra : Int) == 0) = false := by simp [h0]
      rw [if_neg h0] at HP
      by_cases h1 : rb - ra = (o.length : Int)
      · have e1 : ((rb - ra : Int) == (o.length : Int)) = true := by simp [h1]
        rw [if_pos h1] at HP
        clear h0 h1
        go_wp2_with fail
        refine (HAC.out _).mono ?_
        rintro e w3 ⟨rfl, rfl⟩
        go_wp2_with fail
        exact find_ret (HST.out (maskM o : Nat) 0).out rfl (by rw [HFD.out, HP.out]; rfl) (HBS.out _ _).out
      · have e1 : ((rb - ra : Int) == (o.length : Int)) = false := by simp [h1]
        rw [if_neg h1] at HP
        clear h0 h1
        go_wp2_with fail
        refine (HAC.out _).mono ?_
        rintro e w3 ⟨rfl, rfl⟩
        go_wp2_with fail
        exact find_ret (HST.out 0 0).out rfl (by rw [HFD.out, HP.out]; rfl) (HBS.out _ _).out
  · have hmu : ¬ maskM u = 0 := fun h => hu (hz2.1 h)
    have d1 : (((maskM u : Nat) : Int) != 0) = true := by simp; omega
    rw [if_neg hu] at HP
    clear hu hz2 hmu
    go_wp2_with fail
    exact find_ret (HST.out 0 0).out rfl (by rw [HFD.out, HP.out]; rfl) (HBS.out _ _).out

set_option maxRecDepth 100000 in
theorem pairRule_any (fc ra : Int) (mk : Nat) (w : World) :
    Calls Tryd.prog 84 #[.agg #[.int .i64 fc, .int .i64 ra, .int .u64 (mk : Int)]] w fun e w' => e = .returned (.func (.func 96) #[] #[.pointer (some ⟨w.heap.size, 0, none⟩)]) ∧ w' = w.alloc (.cells #[.int .i64 fc, .int .i64 ra, .int .u64 (mk : Int)] 61) := by
  go_enter Tryd.func84, Tryd.ntmps84
  go_wp2_with fail
  go_ret
  exact ⟨rfl, rfl⟩
set_option maxRecDepth 100000 in
theorem singleRule_any (w : World) :
    Calls Tryd.prog 59 #[] w fun e w' => e = .returned (.func (.func 96) #[] #[.pointer (some ⟨w.heap.size, 0, none⟩)]) ∧ w' = w.alloc (.cells #[.int .i64 0, .int .i64 0, .int .u64 ((maskM [] : Nat) : Int)] 61) := by
  have h := pairRule_any 0 0 0 w
  go_enter Tryd.func59, Tryd.ntmps59
  go_wp2_with fail
  refine h.mono ?_
  rintro e w1 ⟨rfl, rfl⟩
  go_wp2_with fail
  go_ret
  exact ⟨rfl, rfl⟩
end Go.Proofs.YthlbplmghjaeoabDoor

/- Notes: the first open cell that finds something by a rule, by the program. -/
namespace Go.Proofs.YthlbplmghjaeoabDoor
open Go.RowKit

/-- Is something found? -/
def fnd (p : List Nat × List Nat) : Bool := !(p.1.isEmpty && p.2.isEmpty)
def pairAt (cells : List UInt8) (W : Nat) (na : List Nat) (ra : Int) (k : Nat) : List Nat × List Nat := pairL na (nrS cells W k 63) (restM cells W k - ra)
/-- The first one of some cells that finds something by a rule, and what it finds. -/
def fstM (cells : List UInt8) (W : Nat) (na : List Nat) (ra : Int) : List Nat → Nat × (List Nat × List Nat)
  | [] => (0, ([], []))
  | k :: r => if fnd (pairAt cells W na ra k) = true then (k, pairAt cells W na ra k) else fstM cells W na ra r
theorem fst_cel (cells : List UInt8) (W : Nat) (na : List Nat) (ra : Int) : ∀ ks : List Nat, Cel cells.length (fstM cells W na ra ks).2.1 ∧ Cel cells.length (fstM cells W na ra ks).2.2
  | [] => ⟨Cel.nil _, Cel.nil _⟩
  | k :: r => by
    unfold fstM
    split
    · exact pairL_cel _ (Cel.near _ _ _ _)
    · exact fst_cel cells W na ra r
theorem fnd_mask {n : Nat} {p : List Nat × List Nat} (hn : n ≤ 64) (h1 : Cel n p.1) (h2 : Cel n p.2) : fnd p = !(maskM p.1 == 0 && maskM p.2 == 0) := by
  have e1 := maskM_zero (xs := p.1) (fun c hc => by have := h1.lt c hc; omega)
  have e2 := maskM_zero (xs := p.2) (fun c hc => by have := h2.lt c hc; omega)
  have q : ∀ (l : List Nat) (m : Nat), (m = 0 ↔ l = []) → l.isEmpty = (m == 0) := fun l m h => by
    cases l with
    | nil => rw [h.2 rfl]; rfl
    | cons x r => have : ¬ m = 0 := fun q => by have := h.1 q; cases this
                  simp [this]
  rw [fnd, q _ _ e1, q _ _ e2]

end Go.Proofs.YthlbplmghjaeoabDoor
