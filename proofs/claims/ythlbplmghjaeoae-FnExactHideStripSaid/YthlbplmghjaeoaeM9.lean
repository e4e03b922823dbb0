/- Strips: the strip of a list of mines in which some cells are hidden, by the program. -/
import Derived.Test.YthlbplmghjaeoaeM8
namespace Go.Proofs.Ythlbplmghjaeoae
open Go.RowKit

theorem hasI_consH (x : Int) (r : List Int) (c : Int) : hasI (x :: r) c = (x == c || hasI r c) := rfl
set_option maxRecDepth 100000 in
set_option maxHeartbeats 800000 in
theorem indexH_any (xs : List Int) (c : Int) (a : Option Addr) (cap : Nat) (w : World) (hat : At w a (ints xs)) (hl : xs.length ≤ 1048576) :
    Calls Try.prog 71 #[.slice a xs.length cap, .int .i64 c] w fun e w' => (∃ k : Int, e = .returned (.int .i64 k) ∧ -1 ≤ k ∧ k ≤ 1048576 ∧ (decide (0 ≤ k) = hasI xs c)) ∧ w = w' := by
  go_enter Try.func71, Try.ntmps71
  go_wp2_with fail
  go_loop [8] (fun i => ∃ k : Nat, k ≤ xs.length ∧ i = .int .i64 k ∧ Hid (hasI xs c = hasI (xs.drop k) c)) (fun i => xs.length - (intOf i).toNat)
  case atStart => exact ⟨0, Nat.zero_le _, rfl, rfl⟩
  case round =>
    obtain ⟨k, hk, rfl, hR⟩ := hrel
    by_cases hlt : k < xs.length
    · have Ht := Lib.hid (List.drop_eq_getElem_cons hlt)
      obtain ⟨g, off, rfl, hc⟩ := ints_at hat k hlt
      by_cases hx : c = xs[k]
      · have hd : (c == xs[k]) = true := by simpa using hx
        have HX := Lib.hid hx
        clear hx
        have hyes : hasI xs c = true := by rw [hR.out, Ht.out, hasI_consH, ← HX.out]; simp
        have HY := Lib.hid hyes
        clear hyes
        go_wp2_with fail
        go_ret
        exact ⟨⟨k, rfl, by omega, by omega, by rw [HY.out]; simp⟩, rfl⟩
      · have hd : (c == xs[k]) = false := by simpa using hx
        have HX := Lib.hid hx
        clear hx
        go_wp2_with fail
        go_round
        case rel => exact ⟨k + 1, by omega, by go_num, by rw [Hid, hR.out, Ht.out, hasI_consH, show (xs[k] == c) = false by simpa using fun e => HX.out e.symm, Bool.false_or]⟩
        case measure => simp [intOf]; omega
    · go_wp2_with fail
      go_ret
      exact ⟨⟨-1, rfl, by omega, by omega, by rw [hR.out, List.drop_of_length_le (by omega)]; rfl⟩, rfl⟩
theorem containsH_any (xs : List Int) (c : Int) (a : Option Addr) (cap : Nat) (w : World) (hat : At w a (ints xs)) (hl : xs.length ≤ 1048576) :
    Calls Try.prog 53 #[.slice a xs.length cap, .int .i64 c] w fun e w' => e = .returned (.bool (hasI xs c)) ∧ w = w' := by
  go_enter Try.func53, Try.ntmps53
  go_wp2_with fail
  refine (indexH_any xs c a cap _ hat hl).mono ?_
  rintro e w1 ⟨⟨k, rfl, h1, h2, h3⟩, rfl⟩
  have H3 := Lib.hid h3
  clear h3
  go_wp2_with fail
  go_ret
  exact ⟨by rw [← H3.out]; rfl, rfl⟩
theorem enters_hide1 (args : Array Value) (w' : World) : (callFunc 52 args).run Try.prog w' = .ok (.enter 52 args) w' := by
  go_simp
theorem hide1_any (xs : List Int) (a : Option Addr) (cap : Nat) (bx k : Nat) (w : World) (hB : w.heap[bx]? = some (.cells #[.slice a xs.length cap] 33 (0, 0))) (hat : At w a (ints xs)) (hx : xs.length ≤ 1048576) :
    Calls Try.prog 52 #[.int .i64 (k : Int), .pointer (some ⟨bx, 0, none⟩)] w fun e w' => e = .returned (.bool (hasI xs (k : Int))) ∧ Below w.heap.size w w' := by
  have hc0 := cell_of_block hB 0
  simp at hc0
  go_enter Try.func52, Try.ntmps52
  go_wp2_with fail
  refine (containsH_any xs (k : Int) a cap _ hat hx).mono ?_
  rintro e w1 ⟨rfl, rfl⟩
  go_wp2_with fail
  go_ret
  exact ⟨rfl, Below.refl _ _⟩

set_option maxRecDepth 100000 in
set_option maxHeartbeats 1600000 in
theorem iHideStrip_any (b : List UInt8) (xs : List Int) (a : Option Addr) (cap : Nat) (w : World) (hb : b.length ≤ 1048576) (hat : At w a (ints xs)) (hx : xs.length ≤ 1048576) :
    Calls Try.prog 22 #[.string ⟨b.toArray⟩, .slice a xs.length cap] w fun e w' => e = .returned (.tuple #[.string ⟨(hsV b xs).toArray⟩, .bool (hsB b xs)]) ∧ Below w.heap.size w w' := by
  have HB : Hid (hsB b xs = (mlM b && risesM (b.length : Int) (-1) xs)) := rfl
  have hA0 : (w.alloc (.cells #[.slice a xs.length cap] 33)).heap[w.heap.size]? = some (.cells #[.slice a xs.length cap] 33 (0, 0)) := heap_alloc_new w _
  have hb0 : Below w.heap.size w (w.alloc (.cells #[.slice a xs.length cap] 33)) := (Below.refl _ _).alloc (Nat.le_refl _) _
  have hat0 : At (w.alloc (.cells #[.slice a xs.length cap] 33)) a (ints xs) := hat.later rfl hb0
  cases h1 : mlM b with
  | false =>
    have hrd := fun w => readMineList_no b w hb h1
    have HRD := Lib.hid hrd
    have e : hsB b xs = false := by rw [HB.out, h1]; rfl
    rw [hs_no e, e]
    clear hrd h1 hA0 e
    go_enter Try.func22, Try.ntmps22
    go_wp2_with fail
    generalize w.alloc (.cells #[.slice a xs.length cap] 33) = w0 at *
    refine (HRD.out _).mono ?_
    rintro e w1 ⟨rfl, hb1⟩
    have hbx := hb1.alloc hb1.size (.cells #[.int .i64 0, .int .i64 0, .slice none 0 0, .bool false] 66)
    go_wp2_with fail
    go_ret2
    exact ⟨rfl, hb0.trans (hbx.mono hb0.size)⟩
  | true =>
    have hrd := fun w => readMineList_yes b w hb h1
    have HRD := Lib.hid hrd
    have hai := fun w h => areInc_any xs (b.length : Int) a cap w h hx
    have hA0l := block_lt hA0
    cases h2 : risesM (b.length : Int) (-1) xs with
    | false =>
      rw [h2] at hai
      have HAI := Lib.hid hai
      have e : hsB b xs = false := by rw [HB.out, h1, h2]; rfl
      rw [hs_no e, e]
      clear hrd hai h1 h2 e
      go_enter Try.func22, Try.ntmps22
      go_wp2_with fail
      generalize w.alloc (.cells #[.slice a xs.length cap] 33) = w0 at *
      refine (HRD.out _).mono ?_
      rintro e w1 ⟨ab, capb, rfl, hatb, hb1⟩
      have hbx := hb1.alloc hb1.size (.cells #[.int .i64 (b.length : Nat), .int .i64 1, .slice ab b.length capb, .bool false] 66)
      have hA2 := (hbx.block _ hA0l).trans hA0
      have hG2 := heap_alloc_new w1 (.cells #[.int .i64 (b.length : Nat), .int .i64 1, .slice ab b.length capb, .bool false] 66)
      have hat2 := hat0.later rfl hbx
      clear hA0 hb1
      go_upto_region 2 with fail
      generalize w1.alloc (.cells #[.int .i64 (b.length : Nat), .int .i64 1, .slice ab b.length capb, .bool false] 66) = w2 at *
      generalize w1.heap.size = G at *
      have hc0 := cell_of_block hA2 0
      have hg2 := cell_of_block hG2 2
      have hg3 := cell_of_block hG2 3
      simp at hc0 hg2 hg3
      clear hA2 hG2
      go_wp2_with fail
      refine (HAI.out _ hat2).mono ?_
      rintro e w3 ⟨rfl, rfl⟩
      go_wp2_with fail
      go_ret2
      exact ⟨rfl, hb0.trans (hbx.mono hb0.size)⟩
    | true =>
      rw [h2] at hai
      have HAI := Lib.hid hai
      have e : hsB b xs = true := by rw [HB.out, h1, h2]; rfl
      rw [hs_yes e, e]
      obtain ⟨hn1, hn40, _⟩ := mlM_facts h1
      have hsee := see_hi hn40 (fun k => hasI xs (k : Int))
      have hhc := fun (ab : Option Addr) (capb : Nat) (w' : World) (hatb : At w' ab (byts b)) (hat' : At w' a (ints xs)) (hB : w'.heap[w.heap.size]? = some (.cells #[.slice a xs.length cap] 33 (0, 0))) =>
        hideCells_any b.length 1 ab b capb (fun k => hasI xs (k : Int)) 52 #[] #[.pointer (some ⟨w.heap.size, 0, none⟩)] w' hatb (by omega) (by omega) rfl enters_hide1 (fun w'' k hbl _ => hide1_any xs a cap w.heap.size k w'' ((hbl.block _ (block_lt hB)).trans hB) (hat'.later rfl hbl) hx)
      rw [hsee] at hhc
      have HHC := Lib.hid hhc
      clear hrd hai h1 h2 e hsee hhc HB
      generalize hiM b (fun k => hasI xs (k : Int)) = see at *
      go_enter Try.func22, Try.ntmps22
      go_wp2_with fail
      generalize w.alloc (.cells #[.slice a xs.length cap] 33) = w0 at *
      refine (HRD.out _).mono ?_
      rintro e w1 ⟨ab, capb, rfl, hatb, hb1⟩
      have hbx := hb1.alloc hb1.size (.cells #[.int .i64 (b.length : Nat), .int .i64 1, .slice ab b.length capb, .bool false] 66)
      have hA2 := (hbx.block _ hA0l).trans hA0
      have hG2 := heap_alloc_new w1 (.cells #[.int .i64 (b.length : Nat), .int .i64 1, .slice ab b.length capb, .bool false] 66)
      have hat2 := hat0.later rfl hbx
      have hatb2 : At (w1.alloc (.cells #[.int .i64 (b.length : Nat), .int .i64 1, .slice ab b.length capb, .bool false] 66)) ab (byts b) := hatb.later rfl ((Below.refl _ w1).alloc (Nat.le_refl _) _)
      have HCALL := Lib.hid (HHC.out ab capb _ hatb2 hat2 hA2)
      clear hA0 hb1 hatb hatb2 HHC
      go_upto_region 2 with fail
      generalize w1.alloc (.cells #[.int .i64 (b.length : Nat), .int .i64 1, .slice ab b.length capb, .bool false] 66) = w2 at *
      generalize w1.heap.size = G at *
      have hc0 := cell_of_block hA2 0
      have hg0 := cell_of_block hG2 0
      have hg1 := cell_of_block hG2 1
      have hg2 := cell_of_block hG2 2
      have hg3 := cell_of_block hG2 3
      simp at hc0 hg0 hg1 hg2 hg3
      clear hA2 hG2
      go_wp2_with fail
      refine (HAI.out _ hat2).mono ?_
      rintro e w3 ⟨rfl, rfl⟩
      go_wp2_with fail
      refine (HCALL.out).mono ?_
      rintro e w4 ⟨rfl, hb4⟩
      go_wp2_with fail
      go_ret2
      exact ⟨rfl, (hb0.trans (hbx.mono hb0.size)).trans (hb4.mono (by have := hb0.size; have := hbx.size; omega))⟩
end Go.Proofs.Ythlbplmghjaeoae
