/- Lists of numbers that strips have: by the model. -/
import Derived.Test.YthlbplmghjaeoaeMG
import Derived.Test.YthlbplmghjaeoaeT7
import Derived.Test.YthlbplmghjaeoaeGS2
import Derived.Outline
namespace Go.Proofs.Ythlbplmghjaeoae
open Go.RowKit

theorem bitT (b q : Nat) : ((b : Int) / 2 ^ q).tmod 2 = (((b.testBit q).toNat : Nat) : Int) := by
  have e : (b : Int) / 2 ^ q = ((b / 2 ^ q : Nat) : Int) := by simp
  rw [e, show (2 : Int) = ((2 : Nat) : Int) from rfl, ← Int.ofNat_tmod, Nat.testBit_eq_decide_div_mod_eq]
  have h2 : b / 2 ^ q % 2 = 0 ∨ b / 2 ^ q % 2 = 1 := by omega
  rcases h2 with h2 | h2 <;> rw [h2] <;> rfl
theorem code1 (c s : Nat) (hc : c ≤ 531441) (h1 : s ≤ 1) : wrap64 (3 * (c : Int) + wrap64 (s : Int)) = ((3 * c + s : Nat) : Int) := by
  rw [IntWalk.wrap64_in (s : Int) ⟨by omega, by omega⟩, IntWalk.wrap64_in _ ⟨by omega, by omega⟩]
  omega
theorem code2 (c s t : Nat) (hc : c ≤ 531441) (h1 : s ≤ 1) (h2 : t ≤ 1) : wrap64 (3 * (c : Int) + wrap64 (wrap64 (s : Int) + (t : Int))) = ((3 * c + (s + t) : Nat) : Int) := by
  rw [IntWalk.wrap64_in (s : Int) ⟨by omega, by omega⟩, IntWalk.wrap64_in ((s : Int) + (t : Int)) ⟨by omega, by omega⟩, IntWalk.wrap64_in _ ⟨by omega, by omega⟩]
  omega
theorem bit1 (b : Nat) : (b : Int) / 2 % 2 = (((b.testBit 1).toNat : Nat) : Int) := by
  rw [Nat.testBit_eq_decide_div_mod_eq]
  have h2 : b / 2 ^ 1 % 2 = 0 ∨ b / 2 ^ 1 % 2 = 1 := by omega
  rcases h2 with h2 | h2 <;> rw [h2] <;> simp <;> omega
theorem hasI_natL (xs : List Nat) (n : Nat) : hasI (xs.map Int.ofNat) (n : Int) = decide (n ∈ xs) := by
  rw [Bool.eq_iff_iff]
  simp only [hasI, List.any_eq_true, List.mem_map, beq_iff_eq, decide_eq_true_eq]
  constructor
  · rintro ⟨x, ⟨y, hy, rfl⟩, h⟩
    have : y = n := Int.ofNat.inj h
    rwa [← this]
  · intro h
    exact ⟨(n : Int), ⟨n, h, rfl⟩, rfl⟩
theorem nats_app1 (xs : List Nat) (y : Nat) : nats (xs ++ [y]) = nats xs ++ [.int .i64 (y : Int)] := by simp [nats, ints]
theorem l1HasL_any (xs : List Nat) (n : Nat) (a : Option Addr) (cap : Nat) (w : World) (hat : At w a (nats xs)) (hl : xs.length ≤ 1048576) :
    Calls Try.prog 43 #[.slice a xs.length cap, .int .i64 n] w fun e w' => e = .returned (.bool (decide (n ∈ xs))) ∧ w = w' := by
  have h := l1Has_any (xs.map Int.ofNat) (n : Int) a cap w hat (by simpa using hl)
  rw [hasI_natL, List.length_map] at h
  exact h
set_option maxRecDepth 100000 in
set_option maxHeartbeats 200000 in
theorem sCountLists_any (c : Int) (ws : World) :
    Calls Try.prog 18 #[.int .i64 c] ws fun e w' => e = .returned (.tuple #[.int .i64 (clV c : Nat), .bool (inB c 1 12)]) ∧ Below ws.heap.size ws w' := by
  have HI := Lib.hid (fun w => l1In_any c 1 12 w)
  cases hs : inB c 1 12 with
  | false =>
    have HM : Hid (clV c = 0) := by rw [Hid, clV, hs]; rfl
    rw [hs] at HI
    clear hs
    go_enter Try.func18, Try.ntmps18
    go_wp2_with fail
    refine (HI.out _).mono ?_
    rintro e w1 ⟨rfl, rfl⟩
    go_wp2_with fail
    go_ret2
    exact ⟨by rw [HM.out]; rfl, Below.refl _ _⟩
  | true =>
    have hc := inB_iff.1 hs
    obtain ⟨n, rfl⟩ : ∃ n : Nat, c = n := ⟨c.toNat, by omega⟩
    have hn1 : 1 ≤ n := by omega
    have hn2 : n ≤ 12 := by omega
    have HM : Hid (clV n = clN n) := by rw [Hid, clV, if_pos hs]; rfl
    rw [hs] at HI
    clear hs hc
    have hp12 : 2 ^ n ≤ 4096 := Nat.pow_le_pow_right (by decide) hn2
    have hpz : (1 : Int) * 2 ^ n = ((2 ^ n : Nat) : Int) := by simp
    have HN : Hid (clN n = (ddp ((List.range (2 ^ n)).map (clC n))).length) := rfl
    have HK : Hid (∀ b, clC n b = codeGo (clD n b) n) := fun _ => rfl
    generalize hpn : 2 ^ n = p at *
    clear hpn
    go_enter Try.func18, Try.ntmps18
    go_wp2_with fail
    refine (HI.out _).mono ?_
    rintro e w1 ⟨rfl, rfl⟩
    go_wp2_with fail
    go_loopw [4, 5] (fun v i wr => ∃ b : Nat, b ≤ p ∧ i = .int .i64 b ∧ Owns wr ws.heap.size 3 v (nats (ddp ((List.range b).map (clC n)))) ∧ Below ws.heap.size ws wr) (fun _ i _ => p - (intOf i).toNat)
    case atStart => exact ⟨0, Nat.zero_le _, rfl, Owns.nil _ _ _, Below.refl _ _⟩
    case round =>
      obtain ⟨b, hb, rfl, hown, hbw⟩ := hrel
      by_cases hlt : b < p
      · go_wp2_with fail
        go_loop [6, 7] (fun c i => ∃ k : Nat, k ≤ n ∧ i = .int .i64 k ∧ c = .int .i64 (codeGo (clD n b) k : Nat)) (fun _ i => n - (intOf i).toNat)
        case atStart => exact ⟨0, Nat.zero_le _, rfl, rfl⟩
        case round =>
          obtain ⟨k, hk, rfl, rfl⟩ := hrel
          by_cases hkn : k < n
          · have hcl : codeGo (clD n b) k ≤ 531441 := by
              have h1 := codeGo_le (clD n b) k fun j _ => clD_le n b j
              have h2 : 3 ^ k ≤ 3 ^ 12 := Nat.pow_le_pow_right (by decide) (by omega)
              omega
            have HC : Hid (codeGo (clD n b) (k + 1) = 3 * codeGo (clD n b) k + clD n b k) := rfl
            generalize codeGo (clD n b) k = c at *
            by_cases h0 : 0 < k
            · obtain ⟨q, rfl⟩ : ∃ q, k = q + 1 := ⟨k - 1, by omega⟩
              have hqi : ((q + 1 : Nat) : Int) - 1 = (q : Int) := by omega
              by_cases h1 : q + 1 + 1 < n
              · have HD : Hid (clD n b (q + 1) = (b.testBit q).toNat + (b.testBit (q + 1 + 1)).toNat) := by rw [Hid, clD, if_pos h0, if_pos h1]; rfl
                go_wp2_with fail
                go_round
                case rel => exact ⟨q + 1 + 1, by omega, by go_num, by rw [bitT, bitT, HC.out, HD.out]; exact congrArg _ (code2 c _ _ hcl (Bool.toNat_le _) (Bool.toNat_le _))⟩
                case measure => simp [intOf] <;> omega
              · have HD : Hid (clD n b (q + 1) = (b.testBit q).toNat) := by rw [Hid, clD, if_pos h0, if_neg h1]; rfl
                go_wp2_with fail
                go_round
                case rel => exact ⟨q + 1 + 1, by omega, by go_num, by rw [bitT, HC.out, HD.out]; exact congrArg _ (code1 c _ hcl (Bool.toNat_le _))⟩
                case measure => simp [intOf] <;> omega
            · obtain rfl : k = 0 := by omega
              by_cases h1 : 0 + 1 < n
              · have HD : Hid (clD n b 0 = (b.testBit 1).toNat) := by rw [Hid, clD, if_neg h0, if_pos h1, Nat.zero_add]
                go_wp2_with fail
                go_round
                case rel => exact ⟨1, by omega, by go_num, by rw [bit1, HC.out, HD.out]; rfl⟩
                case measure => simp [intOf] <;> omega
              · have HD : Hid (clD n b 0 = 0) := by rw [Hid, clD, if_neg h0, if_neg h1]
                go_wp2_with fail
                go_round
                case rel => exact ⟨1, by omega, by go_num, by rw [HC.out, HD.out]; rfl⟩
                case measure => simp [intOf] <;> omega
          · obtain rfl : k = n := by omega
            rw [← HK.out b]
            have HS : Hid (ddp ((List.range (b + 1)).map (clC k)) = if clC k b ∈ ddp ((List.range b).map (clC k)) then ddp ((List.range b).map (clC k)) else ddp ((List.range b).map (clC k)) ++ [clC k b]) := by
              rw [Hid, List.range_succ, List.map_append, List.map_singleton, ddp_snoc]
            have hdl : (ddp ((List.range b).map (clC k))).length ≤ 4096 := Nat.le_trans (ddp_length _) (by simp; omega)
            generalize ddp ((List.range b).map (clC k)) = xs at *
            generalize clC k b = y at *
            obtain ⟨a4, c4, hv⟩ := hown.shape
            subst hv
            have hat := hown.at
            simp only [nats_length] at hat hown ⊢
            have HL := Lib.hid (l1HasL_any xs y a4 c4 wr hat (by omega))
            cases hd : decide (y ∈ xs) with
            | true =>
              rw [if_pos (of_decide_eq_true hd)] at HS
              rw [hd] at HL
              clear hd
              go_wp2_with fail
              refine (HL.out).mono ?_
              rintro e w3 ⟨rfl, rfl⟩
              go_wp2_with fail
              go_roundw
              case rel => exact ⟨b + 1, by omega, by go_num, by rw [HS.out]; exact hown, hbw⟩
              case measure => simp [intOf]; omega
            | false =>
              rw [if_neg (of_decide_eq_false hd)] at HS
              rw [hd] at HL
              clear hd
              go_wp2_with fail
              refine (HL.out).mono ?_
              rintro e w3 ⟨rfl, rfl⟩
              go_wp2_with (at_builtin; refine wpList_app1 rfl _ _ _ rfl _ _ _ _ elemInt _ _ _ _ rfl rfl rfl hown rfl (by simp; omega) hbw.size (by simp; omega) ?_; intro v1 w7 hown7 hb7 hs7)
              go_roundw
              case rel => exact ⟨b + 1, by omega, by go_num, by rw [HS.out, nats_app1]; exact hown7, hbw.trans hb7⟩
              case measure => simp [intOf]; omega
      · obtain rfl : b = p := by omega
        have HV : Hid (clV n = (ddp ((List.range b).map (clC n))).length) := HM.out.trans HN.out
        clear HM HN
        generalize ddp ((List.range b).map (clC n)) = xs at *
        obtain ⟨a4, c4, hv⟩ := hown.shape
        subst hv
        simp only [nats_length]
        go_wp2_with fail
        go_ret2
        exact ⟨by rw [HV.out]; rfl, hbw⟩
end Go.Proofs.Ythlbplmghjaeoae
