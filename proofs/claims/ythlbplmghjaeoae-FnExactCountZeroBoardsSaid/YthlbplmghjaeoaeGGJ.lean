/- GJ, GK, laid as one text. -/
import Derived.Test.YthlbplmghjaeoaeGGG
import Derived.Outline

/- Do all conditions hold for a board? -/
namespace Go.Proofs.Ythlbplmghjaeoae
open Go.RowKit

/-- A condition: a function, what it has captured, what it tells. -/
structure Cnd where
  f : Nat
  cb : Array Value
  p : LB → Bool
def Cnd.v (c : Cnd) : Value := .func (.func c.f) #[] c.cb
/-- It tells so in every world behind w. -/
def Cnd.ok (c : Cnd) (w : World) : Prop := (∀ args w, (callFunc c.f args).run Try.prog w = .ok (.enter c.f args) w) ∧ ∀ (x : LB) (W : World), Below w.heap.size w W → Calls Try.prog c.f (#[.agg (encB x).toArray] ++ c.cb) W fun e w' => e = .returned (.bool (c.p x)) ∧ Below W.heap.size W w'
theorem Cnd.ok.later {c : Cnd} {w w' : World} (h : c.ok w) (hb : Below w.heap.size w w') : c.ok w' := ⟨h.1, fun x W hW => h.2 x W (hb.trans (hW.mono hb.size))⟩
set_option maxRecDepth 100000 in
set_option maxHeartbeats 400000 in
theorem haCl_any (c : Cnd) (x : LB) (b : Nat) (w0 w : World) (hc : c.ok w0) (hw : Below w0.heap.size w0 w) (hR : w.rangeAt b 0 (encB x)) :
    Calls Try.prog 95 #[c.v, .pointer (some ⟨b, 0, none⟩)] w fun e w' => e = .returned (.bool (!c.p x)) ∧ Below w.heap.size w w' := by
  obtain ⟨f, cb, p⟩ := c
  obtain ⟨eg, h2⟩ := hc
  have hcl := h2 x w hw
  have HC := Lib.hid hcl
  clear h2 hcl
  show Calls Try.prog 95 #[.func (.func f) #[] cb, .pointer (some ⟨b, 0, none⟩)] w fun e w' => e = .returned (.bool (!p x)) ∧ Below w.heap.size w w'
  go_enter Try.func95, Try.ntmps95
  go_wp2_with (first
    | (refine wpList_load_mid rfl 45 _ rfl b 0 rfl (encB x) _ hR Try.underlying45 rfl (inf67.trans (by rw [encB_len])) ?_)
    | (go_at_fn f; refine HC.out.mono ?_; rintro e w3 ⟨rfl, hb3⟩))
  go_ret
  exact ⟨rfl, hb3⟩
end Go.Proofs.Ythlbplmghjaeoae

/- All conditions, one by one. -/
namespace Go.Proofs.Ythlbplmghjaeoae
open Go.RowKit

set_option maxRecDepth 100000 in
set_option maxHeartbeats 400000 in
theorem idxC_any (cs : List Cnd) (x : LB) (a : Option Addr) (cap b : Nat) (w0 w : World) (hl : cs.length ≤ 1000) (hc : ∀ c ∈ cs, c.ok w0) (hw : Below w0.heap.size w0 w) (hat : At w a (cs.map Cnd.v)) (hR : w.rangeAt b 0 (encB x)) :
    Calls Try.prog 103 #[.slice a cs.length cap, .func (.func 95) #[] #[.pointer (some ⟨b, 0, none⟩)]] w fun e w' => ∃ r : Int, e = .returned (.int .i64 r) ∧ decide (0 ≤ r) = !(cs.all fun c => c.p x) ∧ Below w.heap.size w w' := by
  have eg : ∀ args w, (callFunc 95 args).run Try.prog w = .ok (.enter 95 args) w := enters_of Try.func95 (by kernel_rfl) rfl
  have HCO := Lib.hid hc
  have HAT := Lib.hid hat
  clear hc hat
  go_enter Try.func103, Try.ntmps103
  go_wp2_with fail
  go_loopw [8] (fun i wr => ∃ k : Nat, k ≤ cs.length ∧ i = .int .i64 k ∧ Hid ((cs.take k).all (fun c => c.p x) = true) ∧ Below w.heap.size w wr) (fun i _ => cs.length - (intOf i).toNat)
  case atStart => exact ⟨0, Nat.zero_le _, rfl, by simp [Hid], Below.refl _ _⟩
  case round =>
    obtain ⟨k, hk, rfl, HA, hb⟩ := hrel
    by_cases hlt : k < cs.length
    · obtain ⟨g, o, ha, hce⟩ := HAT.out k (by simpa using hlt)
      subst ha
      have hce2 : wr.cell? ⟨g, o + k, none⟩ = some cs[k].v := by
        rw [hb.cell (p := ⟨g, o + k, none⟩) (World.block_lt_of_cell? _ _ hce), hce]; simp
      have hcl := haCl_any cs[k] x b w0 wr (HCO.out _ (List.getElem_mem hlt)) (hw.trans (hb.mono hw.size)) (range_later hR hb)
      have HST : Hid ((cs.take (k + 1)).all (fun c => c.p x) = ((cs.take k).all (fun c => c.p x) && cs[k].p x)) := by
        rw [Hid, List.take_succ_eq_append_getElem hlt, List.all_append]; simp
      have HNO : Hid (cs[k].p x = false → cs.all (fun c => c.p x) = false) := fun h => by
        rw [Bool.eq_false_iff, ne_eq, List.all_eq_true]
        intro q
        rw [q _ (List.getElem_mem hlt)] at h
        cases h
      generalize cs[k] = c at *
      generalize hcv : c.v = cv at *
      have HCL := Lib.hid hcl
      clear hcl hce hcv
      cases hp : c.p x with
      | true =>
        rw [hp] at HCL HST
        clear HNO
        go_wp2_with (go_at_fn 95; refine HCL.out.mono ?_; rintro e w3 ⟨rfl, hb3⟩)
        go_roundw
        case rel => exact ⟨k + 1, by omega, by go_num, by rw [Hid, HST.out, HA.out]; rfl, hb.trans (hb3.mono hb.size)⟩
        case measure => simp [intOf]; omega
      | false =>
        rw [hp] at HCL
        have HN := Lib.hid (HNO.out hp)
        clear HNO
        go_wp2_with (go_at_fn 95; refine HCL.out.mono ?_; rintro e w3 ⟨rfl, hb3⟩)
        go_ret
        exact ⟨(k : Int), rfl, by rw [HN.out]; simp, hb.trans (hb3.mono hb.size)⟩
    · obtain rfl : k = cs.length := by omega
      rw [List.take_length] at HA
      go_wp2_with fail
      go_ret
      exact ⟨-1, rfl, by rw [HA.out]; rfl, hb⟩
set_option maxRecDepth 100000 in
set_option maxHeartbeats 400000 in
theorem hasC_any (cs : List Cnd) (x : LB) (a : Option Addr) (cap b : Nat) (w0 w : World) (hl : cs.length ≤ 1000) (hc : ∀ c ∈ cs, c.ok w0) (hw : Below w0.heap.size w0 w) (hat : At w a (cs.map Cnd.v)) (hR : w.rangeAt b 0 (encB x)) :
    Calls Try.prog 94 #[.slice a cs.length cap, .func (.func 95) #[] #[.pointer (some ⟨b, 0, none⟩)]] w fun e w' => e = .returned (.bool (!(cs.all fun c => c.p x))) ∧ Below w.heap.size w w' := by
  have h := idxC_any cs x a cap b w0 w hl hc hw hat hR
  have H := Lib.hid h
  clear h hc hat
  generalize hn : cs.length = n at *
  generalize cs.all (fun c => c.p x) = q at *
  go_enter Try.func94, Try.ntmps94
  go_wp2_with fail
  refine H.out.mono ?_
  rintro e w2 ⟨r, rfl, hr, hb2⟩
  have HRR := Lib.hid hr
  clear hr
  go_wp2_with fail
  go_ret
  exact ⟨by rw [← HRR.out]; rfl, hb2⟩
set_option maxRecDepth 100000 in
set_option maxHeartbeats 400000 in
theorem holdsAll_any (cs : List Cnd) (x : LB) (a : Option Addr) (cap : Nat) (w0 w : World) (hl : cs.length ≤ 1000) (hc : ∀ c ∈ cs, c.ok w0) (hw : Below w0.heap.size w0 w) (hat : At w a (cs.map Cnd.v)) :
    Calls Try.prog 79 #[.agg (encB x).toArray, .slice a cs.length cap] w fun e w' => e = .returned (.bool (cs.all fun c => c.p x)) ∧ Below w.heap.size w w' := by
  have hB1 := heap_alloc_new w (.cells (encB x).toArray 45)
  have hb1 : Below w.heap.size w (w.alloc (.cells (encB x).toArray 45)) := (Below.refl _ _).alloc (Nat.le_refl _) _
  have h := hasC_any cs x a cap w.heap.size w0 (w.alloc (.cells (encB x).toArray 45)) hl hc (hw.trans (hb1.mono hw.size)) (hat.later rfl hb1) (range24 hB1)
  have H := Lib.hid h
  clear h hc hat hB1 hw
  generalize hn : cs.length = n at *
  generalize cs.all (fun c => c.p x) = q at *
  go_enter Try.func79, Try.ntmps79
  go_wp2_with fail
  refine H.out.mono ?_
  rintro e w2 ⟨rfl, hb2⟩
  go_wp2_with fail
  go_ret
  exact ⟨by cases q <;> rfl, hb1.trans (hb2.mono hb1.size)⟩
end Go.Proofs.Ythlbplmghjaeoae
