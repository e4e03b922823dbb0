/- G5, G6, laid as one text. -/
import Derived.Test.YthlbplmghjaeoaeGG3
import Derived.Deep.DeepCutAuto
import Derived.Outline

/- Stable sorts, walked: the merge of two sorted neighbours. -/
namespace Go.Proofs.Ythlbplmghjaeoae
open Go.RowKit Go.Sort Go.Lib Go.Shelf

set_option maxHeartbeats 8000000 in
set_option maxRecDepth 1000000 in
theorem symOneL {α : Type} [Inhabited α] (k : Nat) (zE : ∀ w, (Go.sizeOf 45).run Try.prog w = .ok k w) (enc : α → List Value) (key idx : α → Nat) (cf : α → α → Int) (hcf : ∀ x y, ltK key x y = decide (cf x y < 0)) (g : Nat) (cb : Array Value) (blk off cap a m b : Nat) (d0 d : Array α) (w0 w : World)
    (eg : ∀ args w, (callFunc g args).run Try.prog w = .ok (.enter g args) w) (hcmp : CmpLays Try.prog g cb enc k cf blk off d0.size w0)
    (R : RowK enc k w0 blk off d0) (hs : d0.size = d.size) (S : SWK enc k w0 blk off d w) (hma : m = a + 1) (hmb : m < b) (hb : b ≤ d.size) (hsz : d.size < 4611686018427387904) (hM : MrgIn key idx a m b d) :
    Calls Try.prog 100 #[.slice (some ⟨blk, off, none⟩) d.size cap, .int .i64 a, .int .i64 m, .int .i64 b, .func (.func g) #[] cb] w fun e w' => e = .returned (.tuple #[]) ∧ ∃ d', PermIn a b d d' ∧ SortedIn (ltX key idx) a b d' ∧ SWK enc k w0 blk off d' w' := by
  have mixed : Try.prog.follows .mixedOrders = true := by kernel_rfl
  have HC : Aside _ := hcmp
  have HM : Aside _ := hM
  have HCF : Aside _ := hcf
  have S0 : Aside (SWK enc k w0 blk off d w) := S
  have HMA : Aside _ := hma
  have tm : ((m : Int) - (a : Int) == 1) = true := by simp; omega
  have ham : a < m := by omega
  clear S hcmp hM hcf hma
  go_enter Try.func100, Try.ntmps100
  go_wp2
  go_loopg [10, 11] (b - a) (fun kx si sj wr => ∃ (i j : Nat), si = .int .i64 i ∧ sj = .int .i64 j ∧ m ≤ i ∧ i ≤ j ∧ j ≤ b ∧ j - i ≤ kx ∧ Aside (SWK enc k w0 blk off d wr) ∧ Aside ((i = m ∨ ltK key d[i - 1]! d[a]! = true) ∧ (j = b ∨ ltK key d[j]! d[a]! = false)))
  case atStart => exact ⟨m, b, rfl, rfl, Nat.le_refl _, by omega, Nat.le_refl _, by omega, S0, (⟨.inl rfl, .inl rfl⟩ : (m = m ∨ ltK key d[m - 1]! d[a]! = true) ∧ (b = b ∨ ltK key d[b]! d[a]! = false))⟩
  case round =>
    clear S0
    obtain ⟨i, j, rfl, rfl, hai, hij, hjb, hkx, SU, I⟩ := hrel
    by_cases hlt : i < j
    · have hlz : (i : Int) < (j : Int) := by omega
      go_upto_region 5 with fail
      cases hlv : ltK key d[(i + j) / 2]! d[a]! with
      | true =>
        have ea44 : (((i : Int) + (j : Int)) / 2).toNat = (i + j) / 2 := by omega
        have pa44 : (0 : Int) ≤ ((i : Int) + (j : Int)) / 2 := by omega
        have ba44 : ((i : Int) + (j : Int)) / 2 < (d.size : Int) := by omega
        have ra44 : IntKind.i64.wrap (((i : Int) + (j : Int)) / 2) = ((i : Int) + (j : Int)) / 2 := by rw [IntKind.wrap_i64]; omega
        have ec44 : ((a : Int)).toNat = a := by omega
        have pc44 : (0 : Int) ≤ (a : Int) := by omega
        have bc44 : (a : Int) < (d.size : Int) := by omega
        have rc44 : IntKind.i64.wrap ((a : Int)) = (a : Int) := by rw [IntKind.wrap_i64]; omega
        obtain ⟨x44, hx44⟩ : ∃ x, x = d[(i + j) / 2]! := ⟨_, rfl⟩
        obtain ⟨y44, hy44⟩ : ∃ x, x = d[a]! := ⟨_, rfl⟩
        have l44a := SU.out.ld R (by omega) Try.prog ((i + j) / 2) (by omega)
        have l44b := SU.out.ld R (by omega) Try.prog (a) (by omega)
        rw [← hx44] at l44a
        rw [← hy44] at l44b
        have hc44 := SU.out.cmp HC.out (by omega) x44 y44
        have hd44 : decide (cf x44 y44 < 0) = true := by rw [hx44, hy44, ← HCF.out]; exact hlv
        have hv44 : cf x44 y44 < 0 := of_decide_eq_true hd44
        clear hx44 hy44
        go_wp2_with fail
        go_quiet_grown (first | (go_at_fn g; refine Calls.grown_of (hc44 _ _)))
        have SU2 : Aside (SWK enc k w0 blk off d (grow (wr.drewN nq) osq)) := SU.out.grown nq osq
        clear l44a l44b hc44 SU
        generalize grow (wr.drewN nq) osq = wu2 at SU2 ⊢
        clear nq osq
        go_wp2
        go_roundg (j - ((i + j) / 2 + 1))
        case measure => omega
        case rel => exact ⟨(i + j) / 2 + 1, j, by go_num, rfl, by omega, by omega, hjb, Nat.le_refl _, SU2, (⟨.inr hlv, I.out.2⟩ : ((i + j) / 2 + 1 = m ∨ ltK key d[(i + j) / 2 + 1 - 1]! d[a]! = true) ∧ (j = b ∨ ltK key d[j]! d[a]! = false))⟩
      | false =>
        have ea45 : (((i : Int) + (j : Int)) / 2).toNat = (i + j) / 2 := by omega
        have pa45 : (0 : Int) ≤ ((i : Int) + (j : Int)) / 2 := by omega
        have ba45 : ((i : Int) + (j : Int)) / 2 < (d.size : Int) := by omega
        have ra45 : IntKind.i64.wrap (((i : Int) + (j : Int)) / 2) = ((i : Int) + (j : Int)) / 2 := by rw [IntKind.wrap_i64]; omega
        have ec45 : ((a : Int)).toNat = a := by omega
        have pc45 : (0 : Int) ≤ (a : Int) := by omega
        have bc45 : (a : Int) < (d.size : Int) := by omega
        have rc45 : IntKind.i64.wrap ((a : Int)) = (a : Int) := by rw [IntKind.wrap_i64]; omega
        obtain ⟨x45, hx45⟩ : ∃ x, x = d[(i + j) / 2]! := ⟨_, rfl⟩
        obtain ⟨y45, hy45⟩ : ∃ x, x = d[a]! := ⟨_, rfl⟩
        have l45a := SU.out.ld R (by omega) Try.prog ((i + j) / 2) (by omega)
        have l45b := SU.out.ld R (by omega) Try.prog (a) (by omega)
        rw [← hx45] at l45a
        rw [← hy45] at l45b
        have hc45 := SU.out.cmp HC.out (by omega) x45 y45
        have hd45 : decide (cf x45 y45 < 0) = false := by rw [hx45, hy45, ← HCF.out]; exact hlv
        have hv45 : ¬ cf x45 y45 < 0 := of_decide_eq_false hd45
        clear hx45 hy45
        go_wp2_with fail
        go_quiet_grown (first | (go_at_fn g; refine Calls.grown_of (hc45 _ _)))
        have SU2 : Aside (SWK enc k w0 blk off d (grow (wr.drewN nq) osq)) := SU.out.grown nq osq
        clear l45a l45b hc45 SU
        generalize grow (wr.drewN nq) osq = wu2 at SU2 ⊢
        clear nq osq
        go_wp2
        go_roundg ((i + j) / 2 - i)
        case measure => omega
        case rel => exact ⟨i, (i + j) / 2, rfl, by go_num, hai, by omega, by omega, Nat.le_refl _, SU2, (⟨I.out.1, .inr hlv⟩ : (i = m ∨ ltK key d[i - 1]! d[a]! = true) ∧ ((i + j) / 2 = b ∨ ltK key d[(i + j) / 2]! d[a]! = false))⟩
    · obtain rfl : j = i := by omega
      go_wp2
      have HI : Aside _ := I
      clear I
      go_loopg [13] (b - a) (fun kx sk wr => ∃ (q : Nat) (dk : Array α), sk = .int .i64 q ∧ a ≤ q ∧ q ≤ j - 1 ∧ j - 1 - q ≤ kx ∧ dk.size = d.size ∧ Aside (SWK enc k w0 blk off dk wr) ∧ Aside ((∀ t, dk[t]! = if a ≤ t ∧ t < q then d[t + 1]! else if t = q then d[a]! else d[t]!) ∧ PermIn a b d dk))
      case atStart => exact ⟨a, d, rfl, Nat.le_refl _, by omega, by omega, rfl, SU, (⟨fun t => by rw [if_neg (by omega)]; split <;> (try subst_vars) <;> rfl, permIn_refl d a b⟩ : (∀ t, d[t]! = if a ≤ t ∧ t < a then d[t + 1]! else if t = a then d[a]! else d[t]!) ∧ PermIn a b d d)⟩
      case round =>
        clear SU
        obtain ⟨q, dk, rfl, haq, hqj, hkx2, hds, S1, I⟩ := hrel
        by_cases hql : q < j - 1
        · have hqz : (q : Int) < (j : Int) - 1 := by omega
          have I2 : Aside ((∀ t, (swp dk q (q + 1))[t]! = if a ≤ t ∧ t < q + 1 then d[t + 1]! else if t = q + 1 then d[a]! else d[t]!) ∧ PermIn a b d (swp dk q (q + 1))) := by
            refine ⟨fun t => ?_, permIn_trans _ _ _ _ _ I.out.2 (swp_permIn dk a b q (q + 1) (by omega) (by omega) (by omega) (by omega) (by omega))⟩
            rw [swp_get dk (by omega) (by omega), I.out.1, I.out.1, I.out.1]
            by_cases c1 : t = q + 1
            · subst c1
              rw [if_pos rfl, if_neg (by omega), if_pos rfl, if_neg (by omega), if_pos rfl]
            · rw [if_neg c1]
              by_cases c2 : t = q
              · subst c2
                rw [if_pos rfl, if_neg (by omega), if_neg (by omega), if_pos (by omega)]
              · rw [if_neg c2]
                by_cases c3 : a ≤ t ∧ t < q
                · rw [if_pos c3, if_pos (by omega)]
                · rw [if_neg c3, if_neg c2, if_neg (by omega), if_neg c1]
          have ea46 : ((q : Int)).toNat = q := by omega
          have pa46 : (0 : Int) ≤ (q : Int) := by omega
          have ba46 : (q : Int) < (d.size : Int) := by omega
          have ra46 : IntKind.i64.wrap ((q : Int)) = (q : Int) := by rw [IntKind.wrap_i64]; omega
          have ec46 : ((q : Int) + 1).toNat = q + 1 := by omega
          have pc46 : (0 : Int) ≤ (q : Int) + 1 := by omega
          have bc46 : (q : Int) + 1 < (d.size : Int) := by omega
          have rc46 : IntKind.i64.wrap ((q : Int) + 1) = (q : Int) + 1 := by rw [IntKind.wrap_i64]; omega
          have S2 : Aside (SWK enc k w0 blk off (swp dk (q) (q + 1)) ((wr.drew.setCells blk (off + (q) * k) (enc dk[q + 1]!)).setCells blk (off + (q + 1) * k) (enc dk[q]!))) := S1.out.swapped R (q) (q + 1) (by omega) (by omega)
          have l46a := S1.out.ld1 R (by omega) Try.prog (q) (by omega)
          have l46b := S1.out.ld1 R (by omega) Try.prog (q + 1) (by omega)
          have s46a := S1.out.st1 R (by omega) Try.prog (q) (by omega) dk[q + 1]!
          have s46b := S1.out.st2 R (by omega) Try.prog (q) (q + 1) (by omega) (by omega) dk[q + 1]! dk[q]!
          have n46a : (enc dk[q]!).length = k := R.hk _
          have n46b : (enc dk[q + 1]!).length = k := R.hk _
          generalize enc dk[q]! = cI46 at S2 l46a s46b n46a
          generalize enc dk[q + 1]! = cJ46 at S2 l46b s46a s46b n46b
          clear S1 I
          go_wp2_with fail
          go_big_region_o
          clear l46a l46b s46a s46b
          generalize (wr.drew.setCells blk (off + (q) * k) cJ46).setCells blk (off + (q + 1) * k) cI46 = w2 at S2 ⊢
          go_wp2
          go_roundg (j - 1 - (q + 1))
          case measure => omega
          case rel => exact ⟨q + 1, swp dk q (q + 1), by go_num, by omega, by omega, Nat.le_refl _, by rw [size_swp]; exact hds, S2, I2⟩
        · obtain rfl : q = j - 1 := by omega
          have hqz : ¬ (((j - 1 : Nat) : Int) < (j : Int) - 1) := by omega
          go_wp2
          refine bodyPost_ret (results_none rfl _ _ _) rfl ?_
          refine ⟨rfl, dk, I.out.2, ?_, S1.out⟩
          have M := HM.out
          have e := HMA.out
          subst e
          exact mrg_one_left key idx M (by omega) hjb HI.out.1 HI.out.2 fun t h1 h2 => by
            rw [I.out.1]
            by_cases c1 : t < j - 1
            · rw [if_pos ⟨h1, c1⟩, if_pos c1]
            · rw [if_neg (fun h => c1 h.2), if_neg c1]
end Go.Proofs.Ythlbplmghjaeoae

/- Stable sorts, walked: the merge of a row with one neighbour. -/
namespace Go.Proofs.Ythlbplmghjaeoae
open Go.RowKit Go.Sort Go.Lib Go.Shelf

set_option maxHeartbeats 8000000 in
set_option maxRecDepth 1000000 in
theorem symOneR {α : Type} [Inhabited α] (k : Nat) (zE : ∀ w, (Go.sizeOf 45).run Try.prog w = .ok k w) (enc : α → List Value) (key idx : α → Nat) (cf : α → α → Int) (hcf : ∀ x y, ltK key x y = decide (cf x y < 0)) (g : Nat) (cb : Array Value) (blk off cap a m b : Nat) (d0 d : Array α) (w0 w : World)
    (eg : ∀ args w, (callFunc g args).run Try.prog w = .ok (.enter g args) w) (hcmp : CmpLays Try.prog g cb enc k cf blk off d0.size w0)
    (R : RowK enc k w0 blk off d0) (hs : d0.size = d.size) (S : SWK enc k w0 blk off d w) (hma : ¬ m = a + 1) (ham : a < m) (hbm : b = m + 1) (hb : b ≤ d.size) (hsz : d.size < 4611686018427387904) (hM : MrgIn key idx a m b d) :
    Calls Try.prog 100 #[.slice (some ⟨blk, off, none⟩) d.size cap, .int .i64 a, .int .i64 m, .int .i64 b, .func (.func g) #[] cb] w fun e w' => e = .returned (.tuple #[]) ∧ ∃ d', PermIn a b d d' ∧ SortedIn (ltX key idx) a b d' ∧ SWK enc k w0 blk off d' w' := by
  have mixed : Try.prog.follows .mixedOrders = true := by kernel_rfl
  have HC : Aside _ := hcmp
  have HM : Aside _ := hM
  have HCF : Aside _ := hcf
  have S0 : Aside (SWK enc k w0 blk off d w) := S
  have HBM : Aside _ := hbm
  have tm : ((m : Int) - (a : Int) == 1) = false := by simp; omega
  have tb : ((b : Int) - (m : Int) == 1) = true := by simp; omega
  have hmb : m < b := by omega
  clear S hcmp hM hcf hma hbm
  go_enter Try.func100, Try.ntmps100
  go_wp2
  go_loopg [14, 15] (b - a) (fun kx si sj wr => ∃ (i j : Nat), si = .int .i64 i ∧ sj = .int .i64 j ∧ a ≤ i ∧ i ≤ j ∧ j ≤ m ∧ j - i ≤ kx ∧ Aside (SWK enc k w0 blk off d wr) ∧ Aside ((i = a ∨ ltK key d[m]! d[i - 1]! = false) ∧ (j = m ∨ ltK key d[m]! d[j]! = true)))
  case atStart => exact ⟨a, m, rfl, rfl, Nat.le_refl _, by omega, Nat.le_refl _, by omega, S0, (⟨.inl rfl, .inl rfl⟩ : (a = a ∨ ltK key d[m]! d[a - 1]! = false) ∧ (m = m ∨ ltK key d[m]! d[m]! = true))⟩
  case round =>
    clear S0
    obtain ⟨i, j, rfl, rfl, hai, hij, hjb, hkx, SU, I⟩ := hrel
    by_cases hlt : i < j
    · have hlz : (i : Int) < (j : Int) := by omega
      go_upto_region 16 with fail
      cases hlv : ltK key d[m]! d[(i + j) / 2]! with
      | false =>
        have ea47 : (((i : Int) + (j : Int)) / 2).toNat = (i + j) / 2 := by omega
        have pa47 : (0 : Int) ≤ ((i : Int) + (j : Int)) / 2 := by omega
        have ba47 : ((i : Int) + (j : Int)) / 2 < (d.size : Int) := by omega
        have ra47 : IntKind.i64.wrap (((i : Int) + (j : Int)) / 2) = ((i : Int) + (j : Int)) / 2 := by rw [IntKind.wrap_i64]; omega
        have ec47 : ((m : Int)).toNat = m := by omega
        have pc47 : (0 : Int) ≤ (m : Int) := by omega
        have bc47 : (m : Int) < (d.size : Int) := by omega
        have rc47 : IntKind.i64.wrap ((m : Int)) = (m : Int) := by rw [IntKind.wrap_i64]; omega
        obtain ⟨x47, hx47⟩ : ∃ x, x = d[m]! := ⟨_, rfl⟩
        obtain ⟨y47, hy47⟩ : ∃ x, x = d[(i + j) / 2]! := ⟨_, rfl⟩
        have l47a := SU.out.ld R (by omega) Try.prog (m) (by omega)
        have l47b := SU.out.ld R (by omega) Try.prog ((i + j) / 2) (by omega)
        rw [← hx47] at l47a
        rw [← hy47] at l47b
        have hc47 := SU.out.cmp HC.out (by omega) x47 y47
        have hd47 : decide (cf x47 y47 < 0) = false := by rw [hx47, hy47, ← HCF.out]; exact hlv
        have hv47 : ¬ cf x47 y47 < 0 := of_decide_eq_false hd47
        clear hx47 hy47
        go_wp2_with fail
        go_quiet_grown (first | (go_at_fn g; refine Calls.grown_of (hc47 _ _)))
        have SU2 : Aside (SWK enc k w0 blk off d (grow (wr.drewN nq) osq)) := SU.out.grown nq osq
        clear l47a l47b hc47 SU
        generalize grow (wr.drewN nq) osq = wu2 at SU2 ⊢
        clear nq osq
        go_wp2
        go_roundg (j - ((i + j) / 2 + 1))
        case measure => omega
        case rel => exact ⟨(i + j) / 2 + 1, j, by go_num, rfl, by omega, by omega, hjb, Nat.le_refl _, SU2, (⟨.inr hlv, I.out.2⟩ : ((i + j) / 2 + 1 = a ∨ ltK key d[m]! d[(i + j) / 2 + 1 - 1]! = false) ∧ (j = m ∨ ltK key d[m]! d[j]! = true))⟩
      | true =>
        have ea48 : (((i : Int) + (j : Int)) / 2).toNat = (i + j) / 2 := by omega
        have pa48 : (0 : Int) ≤ ((i : Int) + (j : Int)) / 2 := by omega
        have ba48 : ((i : Int) + (j : Int)) / 2 < (d.size : Int) := by omega
        have ra48 : IntKind.i64.wrap (((i : Int) + (j : Int)) / 2) = ((i : Int) + (j : Int)) / 2 := by rw [IntKind.wrap_i64]; omega
        have ec48 : ((m : Int)).toNat = m := by omega
        have pc48 : (0 : Int) ≤ (m : Int) := by omega
        have bc48 : (m : Int) < (d.size : Int) := by omega
        have rc48 : IntKind.i64.wrap ((m : Int)) = (m : Int) := by rw [IntKind.wrap_i64]; omega
        obtain ⟨x48, hx48⟩ : ∃ x, x = d[m]! := ⟨_, rfl⟩
        obtain ⟨y48, hy48⟩ : ∃ x, x = d[(i + j) / 2]! := ⟨_, rfl⟩
        have l48a := SU.out.ld R (by omega) Try.prog (m) (by omega)
        have l48b := SU.out.ld R (by omega) Try.prog ((i + j) / 2) (by omega)
        rw [← hx48] at l48a
        rw [← hy48] at l48b
        have hc48 := SU.out.cmp HC.out (by omega) x48 y48
        have hd48 : decide (cf x48 y48 < 0) = true := by rw [hx48, hy48, ← HCF.out]; exact hlv
        have hv48 :  cf x48 y48 < 0 := of_decide_eq_true hd48
        clear hx48 hy48
        go_wp2_with fail
        go_quiet_grown (first | (go_at_fn g; refine Calls.grown_of (hc48 _ _)))
        have SU2 : Aside (SWK enc k w0 blk off d (grow (wr.drewN nq) osq)) := SU.out.grown nq osq
        clear l48a l48b hc48 SU
        generalize grow (wr.drewN nq) osq = wu2 at SU2 ⊢
        clear nq osq
        go_wp2
        go_roundg ((i + j) / 2 - i)
        case measure => omega
        case rel => exact ⟨i, (i + j) / 2, rfl, by go_num, hai, by omega, by omega, Nat.le_refl _, SU2, (⟨I.out.1, .inr hlv⟩ : (i = a ∨ ltK key d[m]! d[i - 1]! = false) ∧ ((i + j) / 2 = m ∨ ltK key d[m]! d[(i + j) / 2]! = true))⟩
    · obtain rfl : j = i := by omega
      go_wp2
      have HI : Aside _ := I
      clear I
      go_loopg [17] (b - a) (fun kx sk wr => ∃ (q : Nat) (dk : Array α), sk = .int .i64 q ∧ j ≤ q ∧ q ≤ m ∧ q - j ≤ kx ∧ dk.size = d.size ∧ Aside (SWK enc k w0 blk off dk wr) ∧ Aside ((∀ t, dk[t]! = if t = q then d[m]! else if q < t ∧ t ≤ m then d[t - 1]! else d[t]!) ∧ PermIn a b d dk))
      case atStart =>
        have I0 : (∀ t, d[t]! = if t = m then d[m]! else if m < t ∧ t ≤ m then d[t - 1]! else d[t]!) ∧ PermIn a b d d := by
          refine ⟨fun t => ?_, permIn_refl d a b⟩
          by_cases c : t = m
          · rw [if_pos c, c]
          · rw [if_neg c, if_neg (by omega)]
        exact ⟨m, d, rfl, hjb, Nat.le_refl _, by omega, rfl, SU, I0⟩
      case round =>
        clear SU
        obtain ⟨q, dk, rfl, haq, hqj, hkx2, hds, S1, I⟩ := hrel
        by_cases hql : j < q
        · have hqz : (j : Int) < (q : Int) := by omega
          have I2 : Aside ((∀ t, (swp dk q (q - 1))[t]! = if t = q - 1 then d[m]! else if q - 1 < t ∧ t ≤ m then d[t - 1]! else d[t]!) ∧ PermIn a b d (swp dk q (q - 1))) := by
            refine ⟨fun t => ?_, permIn_trans _ _ _ _ _ I.out.2 (swp_permIn dk a b q (q - 1) (by omega) (by omega) (by omega) (by omega) (by omega))⟩
            rw [swp_get dk (by omega) (by omega), I.out.1, I.out.1, I.out.1]
            by_cases c1 : t = q - 1
            · subst c1
              rw [if_pos rfl, if_pos rfl, if_pos rfl]
            · rw [if_neg c1, if_neg c1]
              by_cases c2 : t = q
              · subst c2
                rw [if_pos rfl, if_neg (by omega), if_neg (by omega), if_pos (by omega)]
              · rw [if_neg c2, if_neg c2]
                by_cases c3 : q < t ∧ t ≤ m
                · rw [if_pos c3, if_pos (by omega)]
                · rw [if_neg c3, if_neg (by omega)]
          have ea46 : ((q : Int)).toNat = q := by omega
          have pa46 : (0 : Int) ≤ (q : Int) := by omega
          have ba46 : (q : Int) < (d.size : Int) := by omega
          have ra46 : IntKind.i64.wrap ((q : Int)) = (q : Int) := by rw [IntKind.wrap_i64]; omega
          have ec46 : ((q : Int) - 1).toNat = q - 1 := by omega
          have pc46 : (0 : Int) ≤ (q : Int) - 1 := by omega
          have bc46 : (q : Int) - 1 < (d.size : Int) := by omega
          have rc46 : IntKind.i64.wrap ((q : Int) - 1) = (q : Int) - 1 := by rw [IntKind.wrap_i64]; omega
          have S2 : Aside (SWK enc k w0 blk off (swp dk (q) (q - 1)) ((wr.drew.setCells blk (off + (q) * k) (enc dk[q - 1]!)).setCells blk (off + (q - 1) * k) (enc dk[q]!))) := S1.out.swapped R (q) (q - 1) (by omega) (by omega)
          have l46a := S1.out.ld1 R (by omega) Try.prog (q) (by omega)
          have l46b := S1.out.ld1 R (by omega) Try.prog (q - 1) (by omega)
          have s46a := S1.out.st1 R (by omega) Try.prog (q) (by omega) dk[q - 1]!
          have s46b := S1.out.st2 R (by omega) Try.prog (q) (q - 1) (by omega) (by omega) dk[q - 1]! dk[q]!
          have n46a : (enc dk[q]!).length = k := R.hk _
          have n46b : (enc dk[q - 1]!).length = k := R.hk _
          generalize enc dk[q]! = cI46 at S2 l46a s46b n46a
          generalize enc dk[q - 1]! = cJ46 at S2 l46b s46a s46b n46b
          clear S1 I
          go_wp2_with fail
          go_big_region_o
          clear l46a l46b s46a s46b
          generalize (wr.drew.setCells blk (off + (q) * k) cJ46).setCells blk (off + (q - 1) * k) cI46 = w2 at S2 ⊢
          go_wp2
          go_roundg (q - 1 - j)
          case measure => omega
          case rel => exact ⟨q - 1, swp dk q (q - 1), by go_num, by omega, by omega, Nat.le_refl _, by rw [size_swp]; exact hds, S2, I2⟩
        · obtain rfl : q = j := by omega
          have hqz : ¬ ((q : Int) < (q : Int)) := by omega
          go_wp2
          refine bodyPost_ret (results_none rfl _ _ _) rfl ?_
          refine ⟨rfl, dk, I.out.2, ?_, S1.out⟩
          have M := HM.out
          have e := HBM.out
          subst e
          exact mrg_one_right key idx M hai hjb HI.out.1 HI.out.2 fun t h1 h2 => by
            rw [I.out.1]
            by_cases c1 : t < q
            · rw [if_neg (by omega), if_neg (by omega), if_pos c1]
            · rw [if_neg c1]
              by_cases c2 : t = q
              · rw [if_pos c2, if_pos c2]
              · rw [if_neg c2, if_neg c2, if_pos (by omega)]
end Go.Proofs.Ythlbplmghjaeoae
