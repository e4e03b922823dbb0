/- G3, G4, laid as one text. -/
import Derived.Test.YthlbplmghjaeoaeGG1
import Derived.Test.YthlbplmghjaeoaeShelf
import Derived.Shelf.SlSortCmp.KitK
import Derived.Shelf.SlSortFuncK.PartitionK
import Derived.Sort.WalkC4
import Derived.Sort.WalkB2
import Derived.Sort.WalkB12
import Derived.Deep.LoopGhost
import Derived.Outline

/- Stable sorts, walked: the exchange of two blocks. -/
namespace Go.Proofs.Ythlbplmghjaeoae
open Go.RowKit Go.Sort Go.Lib Go.Shelf

set_option maxHeartbeats 8000000 in
set_option maxRecDepth 1000000 in
theorem swapRange_any {α : Type} [Inhabited α] (k : Nat) (zE : ∀ w, (Go.sizeOf 45).run Try.prog w = .ok k w) (enc : α → List Value) (g : Nat) (cb : Array Value) (blk off cap a b n : Nat) (d0 d : Array α) (w0 w : World)
    (R : RowK enc k w0 blk off d0) (hs : d0.size = d.size) (S : SWK enc k w0 blk off d w) (hab : a + n ≤ b) (hb : b + n ≤ d.size) (hsz : d.size < 4611686018427387904) :
    Calls Try.prog 114 #[.slice (some ⟨blk, off, none⟩) d.size cap, .int .i64 a, .int .i64 b, .int .i64 n, .func (.func g) #[] cb] w fun e w' => e = .returned (.tuple #[]) ∧ ∃ d', d'.size = d.size ∧ (∀ t, d'[t]! = d[swR a b n t]!) ∧ PermIn a (b + n) d d' ∧ SWK enc k w0 blk off d' w' := by
  have mixed : Try.prog.follows .mixedOrders = true := by kernel_rfl
  have S0 : Aside (SWK enc k w0 blk off d w) := S
  clear S
  go_enter Try.func114, Try.ntmps114
  go_wp2
  go_loopg [10] n (fun kx si wr => ∃ (i : Nat) (dk : Array α), si = .int .i64 i ∧ i ≤ n ∧ n - i ≤ kx ∧ dk.size = d.size ∧ Aside (SWK enc k w0 blk off dk wr) ∧ Aside ((∀ t, dk[t]! = d[swR a b i t]!) ∧ PermIn a (b + n) d dk))
  case atStart => exact ⟨0, d, rfl, Nat.zero_le _, by omega, rfl, S0, (⟨fun t => by rw [swR_zero], permIn_refl d a (b + n)⟩ : (∀ t, d[t]! = d[swR a b 0 t]!) ∧ PermIn a (b + n) d d)⟩
  case round =>
    clear S0
    obtain ⟨i, dk, rfl, hin, hkx, hds, S1, I⟩ := hrel
    by_cases hlt : i < n
    · have hlz : (i : Int) < (n : Int) := by omega
      go_wp2_with fail
      have ea44 : ((a : Int) + (i : Int)).toNat = a + i := by omega
      have pa44 : (0 : Int) ≤ (a : Int) + (i : Int) := by omega
      have ba44 : (a : Int) + (i : Int) < (d.size : Int) := by omega
      have ra44 : IntKind.i64.wrap ((a : Int) + (i : Int)) = (a : Int) + (i : Int) := by rw [IntKind.wrap_i64]; omega
      have ec44 : ((b : Int) + (i : Int)).toNat = b + i := by omega
      have pc44 : (0 : Int) ≤ (b : Int) + (i : Int) := by omega
      have bc44 : (b : Int) + (i : Int) < (d.size : Int) := by omega
      have rc44 : IntKind.i64.wrap ((b : Int) + (i : Int)) = (b : Int) + (i : Int) := by rw [IntKind.wrap_i64]; omega
      have S2 : Aside (SWK enc k w0 blk off (swp dk (a + i) (b + i)) ((wr.drew.setCells blk (off + (a + i) * k) (enc dk[b + i]!)).setCells blk (off + (b + i) * k) (enc dk[a + i]!))) := S1.out.swapped R (a + i) (b + i) (by omega) (by omega)
      have I2 : Aside ((∀ t, (swp dk (a + i) (b + i))[t]! = d[swR a b (i + 1) t]!) ∧ PermIn a (b + n) d (swp dk (a + i) (b + i))) := by
        refine ⟨fun t => ?_, permIn_trans _ _ _ _ _ I.out.2 (swp_permIn dk a (b + n) (a + i) (b + i) (by omega) (by omega) (by omega) (by omega) (by omega))⟩
        obtain ⟨e1, e2⟩ := swR_at a b i (by omega)
        rw [swp_get dk (by omega) (by omega), I.out.1, I.out.1, I.out.1, e1, e2, ← swR_succ a b i t (by omega)]
        split
        · rfl
        · split <;> rfl
      have l44a := S1.out.ld1 R (by omega) Try.prog (a + i) (by omega)
      have l44b := S1.out.ld1 R (by omega) Try.prog (b + i) (by omega)
      have s44a := S1.out.st1 R (by omega) Try.prog (a + i) (by omega) dk[b + i]!
      have s44b := S1.out.st2 R (by omega) Try.prog (a + i) (b + i) (by omega) (by omega) dk[b + i]! dk[a + i]!
      have n44a : (enc dk[a + i]!).length = k := R.hk _
      have n44b : (enc dk[b + i]!).length = k := R.hk _
      generalize enc dk[a + i]! = cI44 at S2 l44a s44b n44a
      generalize enc dk[b + i]! = cJ44 at S2 l44b s44a s44b n44b
      clear S1 I
      go_wp2_with fail
      go_big_region_o
      clear l44a l44b s44a s44b
      generalize (wr.drew.setCells blk (off + (a + i) * k) cJ44).setCells blk (off + (b + i) * k) cI44 = w2 at S2 ⊢
      go_wp2
      go_roundg (n - (i + 1))
      case measure => omega
      case rel => exact ⟨i + 1, swp dk (a + i) (b + i), by simp, by omega, Nat.le_refl _, by rw [size_swp]; exact hds, S2, I2⟩
    · obtain rfl : i = n := by omega
      go_wp2
      go_end0
      exact ⟨rfl, dk, hds, I.out.1, I.out.2, S1.out⟩
end Go.Proofs.Ythlbplmghjaeoae

/- Stable sorts, walked: the rotation of two neighbouring blocks. -/
namespace Go.Proofs.Ythlbplmghjaeoae
open Go.RowKit Go.Sort Go.Lib Go.Shelf

set_option maxHeartbeats 8000000 in
set_option maxRecDepth 1000000 in
theorem rotate_any {α : Type} [Inhabited α] (k : Nat) (zE : ∀ w, (Go.sizeOf 45).run Try.prog w = .ok k w) (enc : α → List Value) (g : Nat) (cb : Array Value) (blk off cap a m b : Nat) (d0 d : Array α) (w0 w : World)
    (R : RowK enc k w0 blk off d0) (hs : d0.size = d.size) (S : SWK enc k w0 blk off d w) (ham : a < m) (hmb : m < b) (hb : b ≤ d.size) (hsz : d.size < 4611686018427387904) :
    Calls Try.prog 109 #[.slice (some ⟨blk, off, none⟩) d.size cap, .int .i64 a, .int .i64 m, .int .i64 b, .func (.func g) #[] cb] w fun e w' => e = .returned (.tuple #[]) ∧ ∃ d', d'.size = d.size ∧ (∀ t, d'[t]! = d[rotP a m b t]!) ∧ PermIn a b d d' ∧ SWK enc k w0 blk off d' w' := by
  have S0 : Aside (SWK enc k w0 blk off d w) := S
  clear S
  go_enter Try.func109, Try.ntmps109
  go_wp2
  go_loopg [10, 11] (b - a) (fun kx si sj wr => ∃ (i j : Nat) (dk : Array α), si = .int .i64 i ∧ sj = .int .i64 j ∧ 0 < i ∧ 0 < j ∧ i ≤ m ∧ a ≤ m - i ∧ m + j ≤ b ∧ i + j ≤ kx ∧ dk.size = d.size ∧ Aside (SWK enc k w0 blk off dk wr) ∧ Aside ((∀ t, dk[rotP (m - i) m (m + j) t]! = d[rotP a m b t]!) ∧ PermIn a b d dk))
  case atStart =>
    refine ⟨m - a, b - m, d, by go_num, by go_num, by omega, by omega, by omega, by omega, by omega, by omega, rfl, S0, ?_⟩
    exact (⟨fun t => by rw [show m - (m - a) = a by omega, show m + (b - m) = b by omega], permIn_refl d a b⟩ : (∀ t, d[rotP (m - (m - a)) m (m + (b - m)) t]! = d[rotP a m b t]!) ∧ PermIn a b d d)
  case round =>
    clear S0
    obtain ⟨i, j, dk, rfl, rfl, hi0, hj0, him, hai, hjb, hkx, hds, S1, I⟩ := hrel
    have ei : ((m - i : Nat) : Int) = (m : Int) - (i : Int) := by omega
    rcases Nat.lt_trichotomy i j with hij | hij | hij
    · -- the left block is the shorter one
      have ej : ((m + j - i : Nat) : Int) = (m : Int) + (j : Int) - (i : Int) := by omega
      have hc := swapRange_any k zE enc g cb blk off cap (m - i) (m + j - i) i d0 dk w0 wr R (by omega) S1.out (by omega) (by omega) (by omega)
      rw [hds, ei, ej] at hc
      have t1 : ((i : Int) != (j : Int)) = true := by simp; omega
      have t2 : ¬ (j : Int) < (i : Int) := by omega
      go_wp2_with (go_at_call 114; refine hc.mono ?_; rintro e w2 ⟨rfl, d2, h1, h2, h3, h4⟩)
      have S2 : Aside (SWK enc k w0 blk off d2 w2) := h4
      have I2 : Aside ((∀ t, d2[rotP (m - i) m (m + (j - i)) t]! = d[rotP a m b t]!) ∧ PermIn a b d d2) := ⟨fun t => by rw [h2, rot_less m i j t hij him hi0]; exact I.out.1 t, permIn_trans _ _ _ _ _ I.out.2 (permIn_mono dk d2 (m - i) (m + j - i + i) a b (by omega) (by omega) (by omega) h3)⟩
      clear h4 h3 h2 I S1 hc
      go_roundg (i + (j - i))
      case measure => omega
      case rel => exact ⟨i, j - i, d2, rfl, by go_num, hi0, by omega, him, hai, by omega, Nat.le_refl _, by omega, S2, I2⟩
    · subst hij
      have hc := swapRange_any k zE enc g cb blk off cap (m - i) m i d0 dk w0 wr R (by omega) S1.out (by omega) (by omega) (by omega)
      rw [hds, ei] at hc
      go_wp2_with (go_at_call 114; refine hc.mono ?_; rintro e w2 ⟨rfl, d2, h1, h2, h3, h4⟩)
      go_end0
      refine ⟨rfl, d2, by omega, fun t => ?_, permIn_trans _ _ _ _ _ I.out.2 (permIn_mono dk d2 (m - i) (m + i) a b (by omega) (by omega) (by omega) h3), h4⟩
      rw [h2, rot_same m i t him]
      exact I.out.1 t
    · have hc := swapRange_any k zE enc g cb blk off cap (m - i) m j d0 dk w0 wr R (by omega) S1.out (by omega) (by omega) (by omega)
      rw [hds, ei] at hc
      have t1 : ((i : Int) != (j : Int)) = true := by simp; omega
      have t2 : (j : Int) < (i : Int) := by omega
      go_wp2_with (go_at_call 114; refine hc.mono ?_; rintro e w2 ⟨rfl, d2, h1, h2, h3, h4⟩)
      have S2 : Aside (SWK enc k w0 blk off d2 w2) := h4
      have I2 : Aside ((∀ t, d2[rotP (m - (i - j)) m (m + j) t]! = d[rotP a m b t]!) ∧ PermIn a b d d2) := ⟨fun t => by rw [h2, rot_more m i j t hij him]; exact I.out.1 t, permIn_trans _ _ _ _ _ I.out.2 (permIn_mono dk d2 (m - i) (m + j) a b (by omega) (by omega) (by omega) h3)⟩
      clear h4 h3 h2 I S1 hc
      go_roundg (i - j + j)
      case measure => omega
      case rel => exact ⟨i - j, j, d2, by go_num, rfl, by omega, hj0, by omega, by omega, hjb, Nat.le_refl _, by omega, S2, I2⟩
end Go.Proofs.Ythlbplmghjaeoae
