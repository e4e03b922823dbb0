/- G8, G9, laid as one text. -/
import Derived.Test.YthlbplmghjaeoaeGG3
import Derived.Deep.DeepCutAuto
import Derived.Outline
import Derived.Lib.Hide

/- Stable sorts, walked: blocks sorted by insertion, then merged. -/
namespace Go.Proofs.Ythlbplmghjaeoae
open Go.RowKit Go.Sort Go.Lib Go.Shelf

set_option maxHeartbeats 400000 in
set_option maxRecDepth 1000000 in
theorem stable_of {α : Type} [Inhabited α] (k : Nat) (enc : α → List Value) (key idx : α → Nat) (g : Nat) (cb : Array Value) (blk off cap n : Nat) (w0 : World)
    (hins : ∀ (a b : Nat) (d : Array α) (w : World), d.size = n → SWK enc k w0 blk off d w → a ≤ b → b ≤ n → Calls Try.prog 99 #[.slice (some ⟨blk, off, none⟩) n cap, .int .i64 a, .int .i64 b, .func (.func g) #[] cb] w fun e w' => e = .returned (.tuple #[]) ∧ SWK enc k w0 blk off (Sort.insertionSort (ltK key) d a b) w')
    (hmrg : ∀ (a m b : Nat) (d : Array α) (w : World), d.size = n → SWK enc k w0 blk off d w → a < m → m < b → b ≤ n → MrgIn key idx a m b d → Calls Try.prog 100 #[.slice (some ⟨blk, off, none⟩) n cap, .int .i64 a, .int .i64 m, .int .i64 b, .func (.func g) #[] cb] w fun e w' => e = .returned (.tuple #[]) ∧ ∃ d', PermIn a b d d' ∧ SortedIn (ltX key idx) a b d' ∧ SWK enc k w0 blk off d' w')
    (d : Array α) (w : World) (hs : d.size = n) (S : SWK enc k w0 blk off d w) (hsz : n < 1099511627776) (hidx : ∀ t s, t < s → s < n → idx d[t]! < idx d[s]!) :
    Calls Try.prog 88 #[.slice (some ⟨blk, off, none⟩) n cap, .int .i64 n, .func (.func g) #[] cb] w fun e w' => e = .returned (.tuple #[]) ∧ ∃ d', PermIn 0 n d d' ∧ SortedIn (ltX key idx) 0 n d' ∧ SWK enc k w0 blk off d' w' := by
  have HI := Lib.hid hins
  have HM := Lib.hid hmrg
  have HS := Lib.hid hs
  have S0 : Hid (SWK enc k w0 blk off d w) := S
  have I0 : Hid (Ins20 key idx 20 0 n d) := Ins20.start key idx 20 n d hidx
  clear hins hmrg hs S hidx
  go_enter Try.func88, Try.ntmps88
  go_wp2_with fail
  go_loopw [7, 8] (fun va vb wr => ∃ (q A B : Nat) (dk : Array α), va = .int .i64 A ∧ vb = .int .i64 B ∧ Hid (A = q * 20 ∧ B = A + 20) ∧ A ≤ n ∧ Hid (PermIn 0 n d dk) ∧ Hid (Ins20 key idx 20 q n dk) ∧ Hid (SWK enc k w0 blk off dk wr)) (fun va _ _ => n + 20 - (intOf va).toNat)
  case atStart => exact ⟨0, 0, 20, d, rfl, rfl, (⟨rfl, rfl⟩ : (0 : Nat) = 0 * 20 ∧ (20 : Nat) = 0 + 20), Nat.zero_le _, permIn_refl d 0 n, I0, S0⟩
  case round =>
    clear I0 S0
    obtain ⟨q, A, B, dk, rfl, rfl, HAB, hAn, HP, HN, HW⟩ := hrel
    have hB1 : A + 20 ≤ B := by rw [HAB.out.2]; omega
    have hB2 : B ≤ A + 20 := by rw [HAB.out.2]; omega
    have hdz : dk.size = n := by have := HP.out.1; rw [HS.out] at this; exact this
    have HDZ := Lib.hid hdz
    by_cases hlt : B ≤ n
    · have hst := insertion_stable key idx dk A B (by omega) (by omega) (fun t s h1 h2 h3 => HN.out.incr key idx t s (by rw [← HAB.out.1]; exact h1) h2 (by omega))
      have hc := HI.out A B dk wr hdz HW.out (by omega) hlt
      generalize Sort.insertionSort (ltK key) dk A B = d2 at *
      have HST := Lib.hid hst
      have HC := Lib.hid hc
      clear hst hc hdz
      go_wp2_with fail
      refine HC.out.mono ?_
      rintro e w2 ⟨rfl, S2⟩
      go_wp2_with fail
      go_roundw
      case rel =>
        have he1 : B = (q + 1) * 20 := by rw [HAB.out.2, HAB.out.1]; omega
        refine ⟨q + 1, B, B + 20, d2, rfl, by go_num, (⟨he1, rfl⟩ : B = (q + 1) * 20 ∧ B + 20 = B + 20), hlt, ?_, ?_, S2⟩
        · exact permIn_trans _ _ _ _ _ HP.out (permIn_mono _ _ A B 0 n (Nat.zero_le _) hlt (by rw [HDZ.out]; exact Nat.le_refl _) HST.out.1)
        · have e3 : q * 20 + 20 = B := by rw [HAB.out.2, HAB.out.1]
          refine HN.out.step key idx (by rw [HDZ.out]; exact Nat.le_refl _) (by rw [e3]; exact hlt) ?_ ?_
          · rw [e3, ← HAB.out.1]; exact HST.out.1
          · rw [e3, ← HAB.out.1]; exact HST.out.2
      case measure => simp [intOf]; omega
    · have hst := insertion_stable key idx dk A n (by omega) (by omega) (fun t s h1 h2 h3 => HN.out.incr key idx t s (by rw [← HAB.out.1]; exact h1) h2 (by omega))
      have hc := HI.out A n dk wr hdz HW.out hAn (Nat.le_refl _)
      have hbk := HN.out.blks key idx (by rw [hdz]; exact Nat.le_refl _) (by rw [← HAB.out.1]; exact hAn) (by rw [← HAB.out.1]; omega) (by rw [← HAB.out.1]; exact hst.1) (by rw [← HAB.out.1]; exact hst.2)
      have hp2 := permIn_trans _ _ _ _ _ HP.out (permIn_mono _ _ A n 0 n (Nat.zero_le _) (Nat.le_refl _) (by rw [hdz]; exact Nat.le_refl _) hst.1)
      generalize Sort.insertionSort (ltK key) dk A n = d2 at *
      have HC := Lib.hid hc
      have HBK : Hid (Blks key idx 20 n d2) := hbk
      have HP2 := Lib.hid hp2
      clear hst hc hdz hbk hp2 HDZ HP HN HW
      go_wp2_with fail
      refine HC.out.mono ?_
      rintro e w2 ⟨rfl, S2⟩
      have S2 : Hid (SWK enc k w0 blk off d2 w2) := S2
      clear HC HAB hB1 hB2
      go_wp2_with fail
      go_loopw [6, 7, 8] (fun vs _ _ wr => ∃ (bs : Nat) (dk : Array α), vs = .int .i64 bs ∧ 0 < bs ∧ bs ≤ 2199023255552 ∧ Hid (PermIn 0 n d dk) ∧ Hid (Blks key idx bs n dk) ∧ Hid (SWK enc k w0 blk off dk wr)) (fun vs _ _ _ => n - (intOf vs).toNat)
      case atStart => exact ⟨20, d2, rfl, by omega, by omega, HP2, HBK, S2⟩
      case round =>
        clear HP2 HBK S2
        obtain ⟨bs, dk, rfl, hb0, hbm, HP, HB, HW⟩ := hrel
        by_cases hbn : bs < n
        · have HM0 : Hid (Mid key idx bs 0 n dk) := HB.out.mid key idx
          have h2i : (2 : Int) * (bs : Int) = ((2 * bs : Nat) : Int) := by omega
          obtain ⟨b2, hb2⟩ : ∃ b2 : Nat, b2 = 2 * bs := ⟨_, rfl⟩
          rw [← hb2] at h2i
          have hb3 : b2 ≤ bs + bs := by omega
          have hb4 : bs + bs ≤ b2 := by omega
          have HB2 := Lib.hid hb2
          clear hb2 HB
          go_wp2_with fail
          go_loopw [7, 8] (fun va vb wr => ∃ (q A B : Nat) (dk : Array α), va = .int .i64 A ∧ vb = .int .i64 B ∧ Hid (A = q * (2 * bs) ∧ B = A + 2 * bs) ∧ A ≤ n ∧ Hid (PermIn 0 n d dk) ∧ Hid (Mid key idx bs q n dk) ∧ Hid (SWK enc k w0 blk off dk wr)) (fun va _ _ => n - (intOf va).toNat)
          case atStart => exact ⟨0, 0, b2, dk, rfl, rfl, (⟨by omega, by rw [HB2.out]; omega⟩ : (0 : Nat) = 0 * (2 * bs) ∧ b2 = 0 + 2 * bs), Nat.zero_le _, HP, HM0, HW⟩
          case round =>
            clear HP HM0 HW
            obtain ⟨q, A, B, dk, rfl, rfl, HAB, hAn, HP, HN, HW⟩ := hrel
            have hB1 : A + b2 ≤ B := by rw [HAB.out.2, HB2.out]; omega
            have hB2 : B ≤ A + b2 := by rw [HAB.out.2, HB2.out]; omega
            have hdz : dk.size = n := by have := HP.out.1; rw [HS.out] at this; exact this
            have HDZ := Lib.hid hdz
            obtain ⟨M, hM⟩ : ∃ M : Nat, (A : Int) + (bs : Int) = (M : Int) := ⟨A + bs, by omega⟩
            by_cases hlt : B ≤ n
            · have hrd := HN.out.ready key idx (b := B) (by rw [← HAB.out.1]; omega) hlt (by rw [← HAB.out.1, ← HB2.out]; exact hB2)
              rw [← HAB.out.1, show A + bs = M by omega] at hrd
              have hc := HM.out A M B dk wr hdz HW.out (by omega) (by omega) hlt hrd
              have HC := Lib.hid hc
              clear hrd hc hdz
              go_wp2_with fail
              refine HC.out.mono ?_
              rintro e w2 ⟨rfl, d2, p2, s2, S2⟩
              have P2 : Hid (PermIn A B dk d2) := p2
              have X2 : Hid (SortedIn (ltX key idx) A B d2) := s2
              clear p2 s2 hM
              have hwr : IntKind.i64.wrap ((B : Int) + (b2 : Int)) = (B : Int) + (b2 : Int) := IntWalk.i64_in _ ⟨by omega, by omega⟩
              go_wp2_with fail
              go_roundw
              case rel =>
                have e3 : q * (2 * bs) + 2 * bs = B := by rw [HAB.out.2, HAB.out.1]
                have he1 : B = (q + 1) * (2 * bs) := by rw [Nat.succ_mul, e3]
                have he2 : B + b2 = B + 2 * bs := by rw [HB2.out]
                refine ⟨q + 1, B, B + b2, d2, rfl, by go_num, (⟨he1, he2⟩ : B = (q + 1) * (2 * bs) ∧ B + b2 = B + 2 * bs), hlt, ?_, ?_, S2⟩
                · exact permIn_trans _ _ _ _ _ HP.out (permIn_mono _ _ A B 0 n (Nat.zero_le _) hlt (by rw [HDZ.out]; exact Nat.le_refl _) P2.out)
                · refine HN.out.step key idx (by rw [HDZ.out]; exact Nat.le_refl _) (by rw [e3]; exact hlt) ?_ ?_
                  · rw [e3, ← HAB.out.1]; exact P2.out
                  · rw [e3, ← HAB.out.1]; exact X2.out
              case measure => simp [intOf]; omega
            · by_cases hmn : M < n
              · have hrd := HN.out.ready key idx (b := n) (by rw [← HAB.out.1]; omega) (Nat.le_refl _) (by rw [← HAB.out.1, ← HB2.out]; omega)
                rw [← HAB.out.1, show A + bs = M by omega] at hrd
                have hc := HM.out A M n dk wr hdz HW.out (by omega) hmn (Nat.le_refl _) hrd
                have HC := Lib.hid hc
                clear hrd hc hdz
                go_wp2_with fail
                refine HC.out.mono ?_
                rintro e w2 ⟨rfl, d2, p2, s2, S2⟩
                have hbl : Hid (Blks key idx b2 n d2) := by
                  rw [Hid, HB2.out]
                  exact HN.out.last key idx (by rw [HDZ.out]; exact Nat.le_refl _) (by rw [← HAB.out.1]; omega) (by rw [← HAB.out.1, ← HB2.out]; omega) (by rw [← HAB.out.1]; exact p2) (by rw [← HAB.out.1]; exact s2)
                have hpp : Hid (PermIn 0 n d d2) := permIn_trans _ _ _ _ _ HP.out (permIn_mono _ _ A n 0 n (Nat.zero_le _) (Nat.le_refl _) (by rw [HDZ.out]; exact Nat.le_refl _) p2)
                have S2 : Hid (SWK enc k w0 blk off d2 w2) := S2
                clear p2 s2 HC HAB HN HP HW
                go_wp2_with fail
                go_roundw
                case rel => exact ⟨b2, d2, by go_num, by omega, by omega, hpp, hbl, S2⟩
                case measure => simp [intOf]; omega
              · have hbl : Hid (Blks key idx b2 n dk) := by
                  rw [Hid, HB2.out]
                  exact HN.out.over key idx (by rw [← HAB.out.1]; omega)
                clear HAB HN hdz
                go_wp2_with fail
                go_roundw
                case rel => exact ⟨b2, dk, by go_num, by omega, by omega, HP, hbl, HW⟩
                case measure => simp [intOf]; omega
        · have hfin := HB.out.end key idx (by omega)
          have HF := Lib.hid hfin
          clear hfin HB
          go_wp2_with fail
          go_end0
          exact ⟨rfl, dk, HP.out, HF.out, HW.out⟩
end Go.Proofs.Ythlbplmghjaeoae

/- Stable sorts, walked: the whole; insertion laid. -/
namespace Go.Proofs.Ythlbplmghjaeoae
open Go.RowKit Go.Sort Go.Lib Go.Shelf

set_option maxHeartbeats 400000 in
set_option maxRecDepth 1000000 in
theorem sortStable_of {α : Type} [Inhabited α] (k : Nat) (enc : α → List Value) (key idx : α → Nat) (g : Nat) (cb : Array Value) (blk off cap n : Nat) (w0 : World)
    (hst : ∀ (d : Array α) (w : World), d.size = n → SWK enc k w0 blk off d w → (∀ t s, t < s → s < n → idx d[t]! < idx d[s]!) → Calls Try.prog 88 #[.slice (some ⟨blk, off, none⟩) n cap, .int .i64 n, .func (.func g) #[] cb] w fun e w' => e = .returned (.tuple #[]) ∧ ∃ d', PermIn 0 n d d' ∧ SortedIn (ltX key idx) 0 n d' ∧ SWK enc k w0 blk off d' w')
    (d : Array α) (w : World) (hs : d.size = n) (S : SWK enc k w0 blk off d w) (hidx : ∀ t s, t < s → s < n → idx d[t]! < idx d[s]!) :
    Calls Try.prog 73 #[.slice (some ⟨blk, off, none⟩) n cap, .func (.func g) #[] cb] w fun e w' => e = .returned (.tuple #[]) ∧ ∃ d', PermIn 0 n d d' ∧ SortedIn (ltX key idx) 0 n d' ∧ SWK enc k w0 blk off d' w' := by
  have hc := hst d w hs S hidx
  have HC := Lib.hid hc
  clear hst hs S hidx hc
  go_enter Try.func73, Try.ntmps73
  go_wp2_with fail
  refine HC.out.mono ?_
  rintro e w2 ⟨rfl, d2, h⟩
  go_wp2_with fail
  go_end0
  exact ⟨rfl, d2, h⟩
end Go.Proofs.Ythlbplmghjaeoae
