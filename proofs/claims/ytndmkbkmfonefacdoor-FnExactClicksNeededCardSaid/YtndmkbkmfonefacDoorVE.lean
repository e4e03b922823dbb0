/- How many clicks more open all free cells, by the model and by the program. -/
import Derived.Test.YtndmkbkmfonefacDoorVC
import Derived.Test.YtndmkbkmfonefacDoorYL
import Derived.Outline
namespace Go.Proofs.YtndmkbkmfonefacDoor
open Go.RowKit

/-- How many of a list are not in another one. -/
def cntN (L : List Nat) : List Nat → Nat
  | [] => 0
  | c :: r => (if c ∈ L then 0 else 1) + cntN L r
theorem cntN_le (L : List Nat) : ∀ r : List Nat, cntN L r ≤ r.length
  | [] => Nat.le_refl _
  | c :: r => by have := cntN_le L r; unfold cntN; simp; split <;> omega
theorem cntN_congr {L L' : List Nat} (h : ∀ x, x ∈ L ↔ x ∈ L') : ∀ r : List Nat, cntN L r = cntN L' r
  | [] => rfl
  | c :: r => by rw [cntN, cntN, cntN_congr h r]; simp [h c]
def cnOf (l : List UInt8) (xs : List Int) : Nat := if clkOK l xs = true then cntN (oaOf l xs) (fcM (gCells l) (gW l)) else 0
theorem cn_k (l : List UInt8) (xs : List Int) : cnOf l xs = cntN (oaOf l xs) (fcM (kC l xs) (kW l xs)) := by
  unfold cnOf kC kW
  split
  · rfl
  · rfl
theorem cntN_yes {L : List Nat} {c : Nat} {r : List Nat} (h : c ∈ L) : cntN L (c :: r) = cntN L r := by rw [cntN, if_pos h]; omega
theorem cntN_no {L : List Nat} {c : Nat} {r : List Nat} (h : c ∉ L) : cntN L (c :: r) = 1 + cntN L r := by rw [cntN, if_neg h]

set_option maxRecDepth 100000 in
set_option maxHeartbeats 1600000 in
theorem sClicksNeeded_any (l : List UInt8) (xs : List Int) (a : Option Addr) (cap : Nat) (w : World) (hl : l.length ≤ 1048576) (hat : At w a (ints xs)) (hx : xs.length ≤ 1048576) :
    Calls Tryd.prog 34 #[.string ⟨l.toArray⟩, .slice a xs.length cap] w fun e w' => e = .returned (.tuple #[.int .i64 (cnOf l xs : Nat), .bool (clkOK l xs)]) ∧ Below w.heap.size w w' := by
  have hck := fun w h => opClicks_any l xs a cap w hl h hx
  cases hv : clkOK l xs with
  | false =>
    have HO : Hid (cnOf l xs = 0) := by rw [Hid, cnOf, if_neg (by rw [hv]; decide)]
    rw [hv] at hck
    clear hv
    go_enter Tryd.func34, Tryd.ntmps34
    go_wp2_with fail
    refine (hck _ hat).mono ?_
    rintro e w1 ⟨rfl, hb1⟩
    go_wp2_with fail
    go_ret2
    exact ⟨by rw [HO.out]; rfl, hb1⟩
  | true =>
    obtain ⟨hg, h64, _⟩ := clk_yes hv
    obtain ⟨hcs, hcc⟩ := clk_cells hv
    have hB := Brd.of hg
    obtain ⟨g1, g2, g3⟩ := hB.grid
    have HO : Hid (oaOf l xs = aftM (cellsM l) (headLen (splitB 47 l)) (csOf xs)) := by rw [Hid, oaOf, if_pos hv, g1, g3]
    have HV : Hid (cnOf l xs = cntN (oaOf l xs) (fcM (cellsM l) (headLen (splitB 47 l)))) := by
      rw [Hid, cnOf, if_pos hv, g1, g3]
    rw [g3] at hcc
    have hn64 := hB.n64
    have hof := fun w => opFirst_any l _ _ _ w hl hB
    have hfl := fcM_le (cellsM l) (headLen (splitB 47 l))
    have hol : (oaOf l xs).length ≤ 64 := by rw [HO.out, aftM]; exact Nat.le_trans (sortM_le _ _) hn64
    rw [hv] at hck
    have hop := fun w h => opAfter_any l _ _ _ (csOf xs) a cap w hl hB h (by simpa using h64) (fun c hc => (hcc c hc).1) (fun c hc => (hcc c hc).2)
    rw [csOf_length, ← hcs] at hop
    rw [← HO.out] at hop
    have HOP := Lib.hid hop
    have HCK := Lib.hid hck
    generalize fcM (cellsM l) (headLen (splitB 47 l)) = fc at *
    generalize cnOf l xs = cn at *
    generalize oaOf l xs = oa at *
    clear hv hcs hcc hB g1 g2 g3 hop hck hg
    go_enter Tryd.func34, Tryd.ntmps34
    go_wp2_with fail
    refine (HCK.out _ hat).mono ?_
    rintro e w1 ⟨rfl, hb1⟩
    go_wp2_with fail
    refine (HOP.out _ (hat.later rfl hb1)).mono ?_
    rintro e w2 ⟨a1, c1, a2, c2, rfl, ho1, ho2, hb2⟩
    go_wp2_with fail
    refine (hof _).mono ?_
    rintro e w3 ⟨a3, c3, rfl, ho3, hb3⟩
    have hbw : Below w.heap.size w w3 := (hb1.trans (hb2.mono hb1.size)).trans (hb3.mono (by have := hb1.size; have := hb2.size; omega))
    have hat1 := (ho1.later hb3).at
    have hat3 := ho3.at
    clear ho1 ho2 ho3 hb1 hb2 hb3
    go_wp2_with fail
    go_loop [8, 24] (fun n i => ∃ k m : Nat, k ≤ fc.length ∧ i = .int .i64 k ∧ n = .int .i64 m ∧ m ≤ k ∧ Hid (cn = m + cntN oa (fc.drop k))) (fun _ i => fc.length - (intOf i).toNat)
    case atStart => exact ⟨0, 0, Nat.zero_le _, rfl, rfl, Nat.le_refl _, by rw [Hid, HV.out]; simp⟩
    case round =>
      obtain ⟨k, m, hk, rfl, rfl, hmk, hR⟩ := hrel
      by_cases hlt : k < fc.length
      · have Ht := Lib.hid (List.drop_eq_getElem_cons hlt)
        obtain ⟨b, off, he, hcx⟩ := nats_at hat3 k hlt
        subst he
        have hh := l1HasN_any oa fc[k] a1 c1 w3 hat1 (by omega)
        by_cases hc : fc[k] ∈ oa
        · rw [decide_eq_true hc] at hh
          have HCC := Lib.hid hc
          clear hc
          go_wp2_with fail
          refine hh.mono ?_
          rintro e w4 ⟨rfl, rfl⟩
          go_wp2_with fail
          go_round
          case rel => exact ⟨k + 1, m, by omega, by go_num, rfl, by omega, by rw [Hid, hR.out, Ht.out, cntN_yes HCC.out]⟩
          case measure => simp [intOf]; omega
        · rw [decide_eq_false hc] at hh
          have HCC := Lib.hid hc
          clear hc
          go_wp2_with fail
          refine hh.mono ?_
          rintro e w4 ⟨rfl, rfl⟩
          go_wp2_with fail
          go_round
          case rel => exact ⟨k + 1, m + 1, by omega, by go_num, by go_num, by omega, by rw [Hid, hR.out, Ht.out, cntN_no HCC.out]; omega⟩
          case measure => simp [intOf]; omega
      · obtain rfl : k = fc.length := by omega
        have hm : Hid (cn = m) := by rw [Hid, hR.out, List.drop_length]; rfl
        clear hR
        go_wp2_with fail
        go_ret2
        exact ⟨by rw [hm.out]; rfl, hbw⟩
end Go.Proofs.YtndmkbkmfonefacDoor
