/- Walks: the rows of a grid as texts. -/
import Derived.Test.YthlbplmghjaeoaeGN1
import Derived.Outline
namespace Go.Proofs.Ythlbplmghjaeoae
open Go.RowKit

theorem Owns.cap {w : World} {B e : Nat} {a : Option Addr} {n cap : Nat} {xs : List Value} (h : Owns w B e (.slice a n cap) xs) : n ≤ cap := by
  obtain ⟨h1, h2⟩ := h
  rcases h2 with ⟨hv, _⟩ | ⟨g, cap', cur, hv, hg, hh, hle, _⟩
  · simp at hv; omega
  · simp at hv; omega

/-- Row k of some cells of a width. -/
def rowM (cells : List UInt8) (W k : Nat) : List UInt8 := (cells.drop (k * W)).take W

set_option maxRecDepth 100000 in
set_option maxHeartbeats 1600000 in
theorem rowText_any {J : Bool} (W H : Nat) (a : Option Addr) (cells : List UInt8) (cap : Nat) (k : Nat) (w : World) (hat : At w a (byts cells)) (hcap : cells.length ≤ cap) (hn : cells.length = W * H) (hW : 1 ≤ W ∧ W ≤ 8) (hH : H ≤ 8) (hk : k < H) :
    Calls Try.prog 75 #[.agg #[.int .i64 W, .int .i64 H, .slice a cells.length cap, .bool J], .int .i64 k] w fun e w' => e = .returned (.string ⟨(rowM cells W k).toArray⟩) ∧ Below w.heap.size w w' := by
  obtain ⟨hW1, hW8⟩ := hW
  have hq : k * W + W ≤ cells.length := by
    rw [hn, ← Nat.succ_mul, Nat.mul_comm]; exact Nat.mul_le_mul_left W hk
  have h64 : cells.length ≤ 64 := by rw [hn]; exact Nat.mul_le_mul hW8 hH
  have e1 : ((k : Int) * (W : Int)) = ((k * W : Nat) : Int) := by simp
  have e2 : (((k : Int) + 1) * (W : Int)) = ((k * W : Nat) : Int) + (W : Int) := by rw [Int.add_mul, e1]; omega
  obtain ⟨p, hp⟩ : ∃ p, k * W = p := ⟨_, rfl⟩
  rw [hp] at e1 e2 hq
  have HP := Lib.hid hp
  clear hp
  have m1 : wrap64 ((k : Int) * (W : Int)) = (p : Int) := by rw [e1, IntWalk.wrap64_in _ ⟨by omega, by omega⟩]
  have m2 : wrap64 (((k : Int) + 1) * (W : Int)) = (p : Int) + (W : Int) := by rw [e2, IntWalk.wrap64_in _ ⟨by omega, by omega⟩]
  have HN := Lib.hid hn
  clear hn e1 e2
  obtain ⟨b, off, he, hc0⟩ := byts_at hat 0 (by omega)
  subst he
  have hbl := World.block_lt_of_cell? w _ hc0
  have hcells : ∀ o, ∀ j (hj : j < (rowM cells W k).length), (w.alloc o).cell? ((⟨b, off + p, none⟩ : Addr).add j) = some (.int .u8 ((rowM cells W k)[j].toNat : Int)) := by
    intro o j hj
    have hj' : j < W := by simp [rowM] at hj; omega
    obtain ⟨b', off', he', hc'⟩ := byts_at hat (p + j) (by omega)
    simp only [Option.some.injEq, Addr.mk.injEq, and_true] at he'
    obtain ⟨rfl, rfl⟩ := he'
    have e3 : (⟨b, off + p, none⟩ : Addr).add j = ⟨b, off + (p + j), none⟩ := by
      unfold Addr.add
      by_cases hz : j = 0
      · subst hz; rw [if_pos rfl]; rfl
      · rw [if_neg hz]; simp [Nat.add_assoc]
    rw [e3, cell_new w o b hbl, hc']
    simp [rowM, HP.out]
  have hlen : Hid ((rowM cells W k).length = W) := by rw [Hid, rowM, HP.out]; simp; omega
  have hcv := fun o c => run_convert_bytes_back (P := Try.prog) (w.alloc o) 64 9 5 ⟨b, off + p, none⟩ c (rowM cells W k) Try.underlying64 Try.underlying5 Try.underlying9 (hcells o)
  rw [hlen.out] at hcv
  clear hcells hc0
  go_enter Try.func75, Try.ntmps75
  go_wp2_with fail
  go_ret
  exact ⟨rfl, (Below.refl _ _).alloc (Nat.le_refl _) _⟩
end Go.Proofs.Ythlbplmghjaeoae
