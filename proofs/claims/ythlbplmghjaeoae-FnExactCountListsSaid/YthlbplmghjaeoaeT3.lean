/- Walks: cells as rows by the model; a grid's text in any case. -/
import Derived.Test.YthlbplmghjaeoaeT2
namespace Go.Proofs.Ythlbplmghjaeoae
open Go.RowKit

theorem brGo_le (W : Nat) : ∀ (x : List UInt8) (k : Nat), (brGo W k x).length ≤ 2 * x.length
  | [], _ => by simp [brGo]
  | c :: r, k => by
    have := brGo_le W r (k + 1)
    unfold brGo
    split <;> simp <;> omega

set_option maxRecDepth 100000 in
set_option maxHeartbeats 1600000 in
theorem boRows_any (cells : List UInt8) (W : Nat) (w : World) (hl : cells.length ≤ 64) (hW : 1 ≤ W) (hW2 : W ≤ 1048576) :
    Calls Try.prog 32 #[.string ⟨cells.toArray⟩, .int .i64 W] w fun e w' => e = .returned (.string ⟨(brGo W 0 cells).toArray⟩) ∧ w = w' := by
  go_enter Try.func32, Try.ntmps32
  go_wp2_with fail
  go_loop [5, 6] (fun o i => ∃ k : Nat, k ≤ cells.length ∧ i = .int .i64 k ∧ ∃ acc : List UInt8, acc.length ≤ 2 * k ∧ o = .string ⟨acc.toArray⟩ ∧ Hid (brGo W 0 cells = acc ++ brGo W k (cells.drop k))) (fun _ i => cells.length - (intOf i).toNat)
  case atStart => exact ⟨0, Nat.zero_le _, rfl, [], by simp, rfl, by simp [Hid]⟩
  case round =>
    obtain ⟨k, hk, rfl, acc, hacc, rfl, hR⟩ := hrel
    by_cases hlt : k < cells.length
    · have Ht := Lib.hid (List.drop_eq_getElem_cons hlt)
      have e1 : Hid ((cells.drop k).take 1 = [cells[k]]) := by
        rw [Hid, Ht.out]; rfl
      rcases Nat.eq_zero_or_pos k with h0 | h0
      · subst h0
        go_wp2_with fail
        go_round
        case rel => exact ⟨0 + 1, by omega, by go_num, acc ++ [cells[0]], by simp; omega, by rw [← e1.out]; rfl, by rw [Hid, hR.out, Ht.out, brGo, if_neg (by omega)]; simp⟩
        case measure => simp [intOf]; omega
      · have hp : ((k : Int) > 0) := by omega
        have hm : Int.tmod (k : Int) (W : Int) = ((k % W : Nat) : Int) := by rw [Int.tmod_eq_emod_of_nonneg (by omega)]; simp
        by_cases hz : k % W = 0
        · have hz' : (((k % W : Nat) : Int) == 0) = true := by rw [hz]; rfl
          have Hz := Lib.hid hz
          clear hz
          go_wp2_with fail
          go_round
          case rel => exact ⟨k + 1, by omega, by go_num, acc ++ 47 :: [cells[k]], by simp; omega, by rw [e1.out], by rw [Hid, hR.out, Ht.out, brGo, if_pos ⟨h0, Hz.out⟩]; simp⟩
          case measure => simp [intOf]; omega
        · have hz' : (((k % W : Nat) : Int) == 0) = false := by
            rw [beq_eq_false_iff_ne]; omega
          have Hz := Lib.hid hz
          clear hz
          go_wp2_with fail
          go_round
          case rel => exact ⟨k + 1, by omega, by go_num, acc ++ [cells[k]], by simp; omega, by rw [e1.out], by rw [Hid, hR.out, Ht.out, brGo, if_neg (fun q => Hz.out q.2)]; simp⟩
          case measure => simp [intOf]; omega
    · obtain rfl : k = cells.length := by omega
      go_wp2_with fail
      go_ret
      exact ⟨by rw [hR.out]; simp [brGo], rfl⟩

set_option maxRecDepth 100000 in
set_option maxHeartbeats 1600000 in
theorem text_none (a : Option Addr) (cap : Nat) (w : World) :
    Calls Try.prog 62 #[.agg #[.int .i64 0, .int .i64 0, .slice a 0 cap, .bool false]] w fun e w' => e = .returned (.string ⟨#[]⟩) ∧ Below w.heap.size w w' := by
  have hj := fun wr => Try.strings_Join_none none 0 ⟨#[47]⟩ wr
  go_enter Try.func62, Try.ntmps62
  go_wp2_with fail
  go_loopw [3, 7] (fun v i wr => i = .int .i64 0 ∧ v = .slice none 0 0 ∧ Below w.heap.size w wr) (fun _ _ _ => 0)
  case atStart => exact ⟨rfl, rfl, (Below.refl _ _).alloc (Nat.le_refl _) _⟩
  case round =>
    obtain ⟨rfl, rfl, hb⟩ := hrel
    go_wp2_with fail
    refine (hj _).mono ?_
    rintro e w5 ⟨rfl, rfl⟩
    go_wp2_with fail
    go_ret
    exact ⟨rfl, hb⟩

theorem Owns.put {w : World} {B e g n cap : Nat} {xs : List Value} (h : Owns w B e (.slice (some ⟨g, 0, none⟩) n cap) xs) (j : Nat) (u : Value) :
    Owns (w.setCell ⟨g, j, none⟩ u) B e (.slice (some ⟨g, 0, none⟩) n cap) (xs.set j u) := by
  obtain ⟨a', cap', hv⟩ := h.shape
  have hn : n = xs.length := by simp at hv; exact hv.2.1
  subst hn
  have := (World.ownsRow.stored h j u).1
  unfold Owns
  rw [List.length_set]
  exact this
theorem Owns.zero {w : World} {B e n cap : Nat} {a : Option Addr} {xs : List Value} (h : Owns w B e (.slice a n cap) xs) (h0 : 0 < xs.length) :
    ∃ g, a = some ⟨g, 0, none⟩ ∧ B ≤ g ∧ g < w.heap.size := by
  obtain ⟨_, h2⟩ := id h
  rcases h2 with ⟨_, hn⟩ | ⟨g, cap', cur, hv, hg, _⟩
  · omega
  · simp at hv
    obtain ⟨rfl, _, _⟩ := hv
    exact ⟨g, rfl, h.lt g rfl⟩
theorem Owns.froz {w : World} {B e g n cap : Nat} {xs : List Value} (h : Owns w B e (.slice (some ⟨g, 0, none⟩) n cap) xs) (j : Nat) : w.frozen? ⟨g, j, none⟩ = false := by
  obtain ⟨a', cap', hv⟩ := h.shape
  simp at hv
  obtain ⟨_, rfl, _⟩ := hv
  exact World.ownsRow.frozenAt (n := xs.length) (cap := cap) h j
theorem byts_set (l : List UInt8) (k : Nat) (c : UInt8) : (byts l).set k (.int .u8 (c.toNat : Int)) = byts (l.set k c) := by
  simp [byts, List.map_set]

/-- A grid as a text: of a board, or of none. -/
theorem text_any (W H : Nat) (a : Option Addr) (cells : List UInt8) (cap : Nat) (w : World) (hat : At w a (byts cells)) (hcap : cells.length ≤ cap) (hn : cells.length = W * H) (hWH : (W = 0 ∧ H = 0) ∨ ((1 ≤ W ∧ W ≤ 8) ∧ (1 ≤ H ∧ H ≤ 8))) :
    Calls Try.prog 62 #[.agg #[.int .i64 W, .int .i64 H, .slice a cells.length cap, .bool false]] w fun e w' => e = .returned (.string ⟨(textM cells W H).toArray⟩) ∧ Below w.heap.size w w' := by
  rcases hWH with ⟨rfl, rfl⟩ | ⟨h1, h2⟩
  · rw [show cells.length = 0 by simpa using hn]
    exact text_none a cap w
  · exact text_some W H a cells cap w hat hcap hn h1 h2
theorem gSize (l : List UInt8) : (gW l = 0 ∧ gH l = 0) ∨ ((1 ≤ gW l ∧ gW l ≤ 8) ∧ (1 ≤ gH l ∧ gH l ≤ 8)) := by
  by_cases hg : boGoodM l = true
  · have hB := Brd.of hg
    obtain ⟨g1, g2, _⟩ := hB.grid
    right
    rw [g1, g2]
    exact ⟨⟨hB.w1, hB.w8⟩, hB.h1, hB.h8⟩
  · left; simp [gW, gH, hg]
end Go.Proofs.Ythlbplmghjaeoae
