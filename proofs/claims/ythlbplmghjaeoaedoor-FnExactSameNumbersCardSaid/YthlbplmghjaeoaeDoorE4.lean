/- Walks: the laws' own helpers on lists of texts: held against each other, marked, asked for their marks. -/
import Derived.Test.YthlbplmghjaeoaeDoorE
import Derived.Test.YthlbplmghjaeoaeDoorT9
import Derived.Test.YthlbplmghjaeoaeDoorGN1
import Derived.Outline
namespace Go.Proofs.YthlbplmghjaeoaeDoor
open Go.RowKit

/-- The digits of a number ahead of a text. -/
def decG : Nat → Nat → List UInt8 → List UInt8
  | 0, _, acc => acc
  | f + 1, k, acc => if k = 0 then acc else decG f (k / 10) (digB (k % 10) :: acc)
theorem decG_step (f k : Nat) (acc : List UInt8) (h : 1 ≤ k) : decG (f + 1) k acc = decG f (k / 10) (digB (k % 10) :: acc) := by rw [decG, if_neg (by omega)]
theorem decG_zero (f : Nat) (acc : List UInt8) : decG f 0 acc = acc := by cases f <;> rfl
/-- The mark of a number. -/
def mkT (k : Nat) : List UInt8 := 109 :: decG k k []

set_option maxRecDepth 100000 in
set_option maxHeartbeats 1600000 in
theorem markText_any (K : Nat) (hK : 1 ≤ K) (hl : K ≤ 1099511627776) (w : World) :
    Calls Tryd.prog 20 #[.int .i64 K] w fun e w' => e = .returned (.string ⟨(mkT K).toArray⟩) ∧ Below w.heap.size w w' := by
  go_enter Tryd.func20, Tryd.ntmps20
  have hK0 : decide ((K : Int) ≤ 0) = false := by simp; omega
  go_wp2_with fail
  clear hK0
  go_loopw [0, 3] (fun q s wr => ∃ (f k : Nat) (acc : List UInt8), q = .int .i64 k ∧ s = .string ⟨acc.toArray⟩ ∧ k ≤ f ∧ acc.length + k ≤ K ∧ Hid (decG K K [] = decG f k acc) ∧ Below w.heap.size w wr) (fun q _ _ => (intOf q).toNat)
  case atStart => exact ⟨K, K, [], rfl, rfl, Nat.le_refl _, by simp, rfl, Below.refl _ _⟩
  case round =>
    obtain ⟨f, k, acc, rfl, rfl, hf, hal, hR, hb⟩ := hrel
    by_cases hlt : 1 ≤ k
    · obtain ⟨f, rfl⟩ : ∃ f', f = f' + 1 := ⟨f - 1, by omega⟩
      have HR : Hid (decG K K [] = decG f (k / 10) (digB (k % 10) :: acc)) := hR.out.trans (decG_step f k acc hlt)
      have hbs := hb.size
      have hgt : decide ((k : Int) > 0) = true := by simp; omega
      obtain ⟨d, hd⟩ : ∃ d : Nat, d = k % 10 := ⟨_, rfl⟩
      obtain ⟨z, hz⟩ : ∃ z : Nat, z = k / 10 := ⟨_, rfl⟩
      rw [← hd, ← hz] at HR
      have hd9 : d ≤ 9 := by omega
      have hzk : z < k := by omega
      have hdi : (k : Int).tmod 10 = (d : Int) := by rw [Int.tmod_eq_emod_of_nonneg (by omega)]; omega
      have hzi : (k : Int).tdiv 10 = (z : Int) := by rw [Int.tdiv_eq_ediv_of_nonneg (by omega)]; omega
      have hzf : z ≤ f := by omega
      clear hd hz hR
      have hdn := digB_nat d hd9
      have hcv := run_convert_bytes_back (P := Tryd.prog) (wr.alloc (.cells #[.int .u8 (48 + (d : Int))] 5)) 33 9 5 ⟨wr.heap.size, 0, none⟩ 1 [digB d] Tryd.underlying33 Tryd.underlying5 Tryd.underlying9 (fun j hj => by
        obtain rfl : j = 0 := by simp at hj; omega
        refine cell_one_new _ _ _ 0 _ ?_
        simp [hdn])
      simp only [List.length_cons, List.length_nil, Nat.zero_add] at hcv
      have hsm : ¬ (9223372036854775807 < 1 + acc.length) := by omega
      go_wp2_with fail
      go_roundw
      case rel => exact ⟨f, z, digB d :: acc, rfl, rfl, hzf, by simp; omega, HR, hb.alloc hbs _⟩
      case measure => simp [intOf] <;> omega
    · obtain rfl : k = 0 := by omega
      have HM : Hid (mkT K = 109 :: acc) := by rw [Hid, mkT, hR.out, decG_zero]
      have hsm : ¬ (9223372036854775807 < 1 + acc.length) := by omega
      go_wp2_with fail
      go_ret
      exact ⟨by rw [HM.out] <;> rfl, hb⟩

/-- The marks of the numbers k, k + 1, .. . -/
def mkL (k n : Nat) : List (List UInt8) := (List.range n).map fun i => mkT (k + i)
@[simp] theorem mkL_length (k n : Nat) : (mkL k n).length = n := by simp [mkL]
theorem mkL_get (k n j : Nat) (h : j < (mkL k n).length) : (mkL k n)[j] = mkT (k + j) := by simp [mkL]
theorem mkL_snoc (k j : Nat) : mkL k (j + 1) = mkL k j ++ [mkT (k + j)] := by simp [mkL, List.range_succ]

set_option maxRecDepth 100000 in
set_option maxHeartbeats 800000 in
theorem eqStringS_same (a b : Option Addr) (xs : List (List UInt8)) (n c d : Nat) (w : World) (hn : n = xs.length) (ha : At w a (txts xs)) (hb : At w b (txts xs)) (hl : xs.length ≤ 1099511627776) :
    Calls Tryd.prog 6 #[.slice a n c, .slice b n d] w fun e w' => e = .returned (.bool true) ∧ Below w.heap.size w w' := by
  subst hn
  have d0 : ((xs.length : Int) != (xs.length : Int)) = false := by simp
  go_enter Tryd.func6, Tryd.ntmps6
  go_wp2_with fail
  go_loopw [5] (fun i wr => ∃ k : Nat, k ≤ xs.length ∧ i = .int .i64 k ∧ At wr a (txts xs) ∧ At wr b (txts xs) ∧ Below w.heap.size w wr) (fun i _ => xs.length - (intOf i).toNat)
  case atStart => exact ⟨0, Nat.zero_le _, rfl, ha, hb, Below.refl _ _⟩
  case round =>
    obtain ⟨k, hk, rfl, har, hbr, hw⟩ := hrel
    by_cases hlt : k < xs.length
    · obtain ⟨g1, o1, rfl, hc1⟩ := txts_at har k hlt
      obtain ⟨g2, o2, rfl, hc2⟩ := txts_at hbr k hlt
      have i1 : (k : Int) < (xs.length : Int) := by omega
      have hd : (xs[k] == xs[k]) = true := by simp
      generalize xs[k] = x at *
      go_wp2_with fail
      go_quiet (fail)
      go_wp2_with fail
      go_roundw
      case rel => exact ⟨k + 1, by omega, by go_num, har.drewN _, hbr.drewN _, below_drewN hw _⟩
      case measure => simp [intOf]; omega
    · go_wp2_with fail
      go_ret
      exact ⟨rfl, hw⟩

set_option maxRecDepth 100000 in
set_option maxHeartbeats 800000 in
theorem markStringS_own (B : Nat) (a : Option Addr) (xs : List (List UInt8)) (n c : Nat) (k : Int) (w : World) (hk : k = 1) (hn : n = xs.length) (ho : Owns w B 9 (.slice a n c) (txts xs)) (hl : xs.length ≤ 1048576) :
    Calls Tryd.prog 7 #[.slice a n c, .int .i64 k] w fun e w' => e = .returned (.int .i64 (1 + n)) ∧ Owns w' B 9 (.slice a n c) (txts (mkL 1 n)) ∧ Below B w w' := by
  subst hk
  subst hn
  have HMT := Lib.hid (fun (j : Nat) (hj : j < xs.length) w => markText_any (1 + j) (by omega) (by omega) w)
  go_enter Tryd.func7, Tryd.ntmps7
  go_wp2_with fail
  go_loopw [1, 5] (fun q i wr => ∃ j : Nat, j ≤ xs.length ∧ i = .int .i64 j ∧ q = .int .i64 (1 + j) ∧ Owns wr B 9 (.slice a xs.length c) (txts (mkL 1 j ++ xs.drop j)) ∧ Below B w wr) (fun _ i _ => xs.length - (intOf i).toNat)
  case atStart => exact ⟨0, Nat.zero_le _, rfl, rfl, by simpa [mkL] using ho, Below.refl _ _⟩
  case round =>
    obtain ⟨j, hj, rfl, rfl, hown, hb⟩ := hrel
    by_cases hlt : j < xs.length
    · obtain ⟨g, hag⟩ : ∃ g, a = some ⟨g, 0, none⟩ := by
        obtain ⟨h1, h2⟩ := hown
        rcases h2 with ⟨_, hn0⟩ | ⟨g, cap, cur, hv, _⟩
        · simp at hn0; omega
        · simp at hv; exact ⟨g, hv.1⟩
      subst hag
      have hgB := hown.lt g rfl
      have HMk := Lib.hid (HMT.out j hlt)
      rw [Int.natCast_add] at HMk
      have e2 : (txts (mkL 1 j ++ xs.drop j)).set j (.string ⟨(mkT (1 + j)).toArray⟩) = txts (mkL 1 (j + 1) ++ xs.drop (j + 1)) := by
        rw [mkL_snoc, List.drop_eq_getElem_cons hlt, txts, txts, List.map_append, List.map_cons, List.set_append_right _ _ (by simp)]
        simp
      have hlen : j < (txts (mkL 1 j ++ xs.drop j)).length := by simp [txts]; omega
      have e3 : (txts (mkL 1 j ++ xs.drop j)).length = xs.length := by simp [txts]; omega
      have E2 := Lib.hid e2
      clear e2
      generalize mkT (1 + j) = mk at *
      generalize txts (mkL 1 j ++ xs.drop j) = Y at *
      go_wp2_with fail
      refine (HMk.out _).mono ?_
      rintro e w5 ⟨rfl, hb5⟩
      have hown5 := hown.later (hb5.mono (by omega))
      have hb05 := hb.trans (hb5.mono (by omega))
      obtain ⟨g', o', he, hc⟩ := hown5.at j hlen
      simp only [Option.some.injEq, Addr.mk.injEq, and_true] at he
      obtain ⟨rfl, rfl⟩ := he
      simp only [Nat.zero_add] at hc
      have hfr := World.ownsRow.frozenAt (n := Y.length) (cap := c) (by
        have := hown5; unfold Owns at this; rw [e3] at this ⊢; exact this) j
      have hst := hown5.store j (.string ⟨mk.toArray⟩)
      rw [E2.out] at hst
      generalize hold : Y[j] = old at hc
      clear hold hown hown5 hb hb5
      go_wp2_with fail
      go_roundw
      case rel => exact ⟨j + 1, by omega, by go_num, by congr 1, hst, hb05.trans ((Below.set j _).mono hgB.1)⟩
      case measure => simp [intOf]; omega
    · obtain rfl : j = xs.length := by omega
      go_wp2_with fail
      go_ret
      exact ⟨rfl, by simpa using hown, hb⟩

set_option maxRecDepth 100000 in
set_option maxHeartbeats 800000 in
theorem heldStringS_seq (a : Option Addr) (n c : Nat) (k : Int) (w : World) (hk : k = 1) (ha : At w a (txts (mkL 1 n))) (hl : n ≤ 1048576) :
    Calls Tryd.prog 8 #[.slice a n c, .int .i64 k] w fun e w' => e = .returned (.int .i64 (1 + n)) ∧ Below w.heap.size w w' := by
  subst hk
  have HMT := Lib.hid (fun (j : Nat) (hj : j < n) w => markText_any (1 + j) (by omega) (by omega) w)
  go_enter Tryd.func8, Tryd.ntmps8
  go_wp2_with fail
  go_loopw [1, 5] (fun q i wr => ∃ j : Nat, j ≤ n ∧ i = .int .i64 j ∧ q = .int .i64 (1 + j) ∧ At wr a (txts (mkL 1 n)) ∧ Below w.heap.size w wr) (fun _ i _ => n - (intOf i).toNat)
  case atStart => exact ⟨0, Nat.zero_le _, rfl, rfl, ha, Below.refl _ _⟩
  case round =>
    obtain ⟨j, hj, rfl, rfl, hat, hb⟩ := hrel
    by_cases hlt : j < n
    · obtain ⟨g, o, rfl, hc⟩ := txts_at hat j (by simpa using hlt)
      rw [mkL_get] at hc
      have HMk := Lib.hid (HMT.out j hlt)
      rw [Int.natCast_add] at HMk
      have hbs := hb.size
      generalize mkT (1 + j) = mk at *
      have hd : (mk == mk) = true := by simp
      have hjn : (j : Int) < (n : Int) := by omega
      have HK : Hid (∀ w', Below wr.heap.size wr w' → w'.cell? ⟨g, o + j, none⟩ = some (.string ⟨mk.toArray⟩)) := fun w' h => by rw [h.cell (p := ⟨g, o + j, none⟩) (World.block_lt_of_cell? wr _ hc)]; exact hc
      have hdr : Below wr.heap.size wr wr.drew := (Below.refl _ wr).drew
      go_wp2_with fail
      go_region_held3 (fun w' => w'.cell? ⟨g, o + j, none⟩ = some (.string ⟨mk.toArray⟩)) (first | with_reducible exact HK.out _ hdr | with_reducible exact HK.out _ hb6) ((go_at_call 20; refine (HMk.out _).mono ?_; rintro e w5 ⟨rfl, hb5⟩; have hb6 : Below wr.heap.size wr w5 := ofDrew hb5))
      go_wp2_with fail
      go_roundw
      case rel => exact ⟨j + 1, by omega, by go_num, by congr 1, hat.later rfl hb6, hb.trans (hb6.mono hbs)⟩
      case measure => simp [intOf]; omega
    · obtain rfl : j = n := by omega
      go_wp2_with fail
      go_ret
      exact ⟨rfl, hb⟩
end Go.Proofs.YthlbplmghjaeoaeDoor
