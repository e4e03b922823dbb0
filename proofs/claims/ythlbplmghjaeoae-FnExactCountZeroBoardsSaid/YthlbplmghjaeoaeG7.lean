/- Stable sorts, walked: the merge of two sorted neighbours. -/
import Derived.Test.YthlbplmghjaeoaeGG5
import Derived.Lib.Hide
namespace Go.Proofs.Ythlbplmghjaeoae
open Go.RowKit Go.Sort Go.Lib Go.Shelf

section
variable {α : Type} [Inhabited α] (key idx : α → Nat)
/-- A merge is done when its halves are merged behind the rotation. -/
theorem mrg_done {a m b mid s e : Nat} {d d1 d2 d3 : Array α} (h : MrgIn key idx a m b d) (hb : b ≤ d.size) (h0 : a ≤ mid) (h00 : mid ≤ b) (hse : s + e = mid + m) (h1 : a ≤ s) (h2 : s ≤ m) (h3 : m ≤ e) (h4 : e ≤ b)
    (hl : s = a ∨ e = b ∨ ltK key d[e]! d[s - 1]! = false) (hr : s = m ∨ e = m ∨ ltK key d[e - 1]! d[s]! = true)
    (hd : ∀ t, a ≤ t → t < b → d1[t]! = d[rotP s m e t]!) (p1 : PermIn a b d d1) (p2 : PermIn a mid d1 d2) (s2 : SortedIn (ltX key idx) a mid d2) (p3 : PermIn mid b d2 d3) (s3 : SortedIn (ltX key idx) mid b d3) :
    PermIn a b d d3 ∧ SortedIn (ltX key idx) a b d3 := by
  have z1 := p1.1
  have z2 := p2.1
  have z3 := p3.1
  refine ⟨permIn_trans _ _ _ _ _ p1 (permIn_trans _ _ _ _ _ (permIn_mono d1 d2 a mid a b (Nat.le_refl _) h00 (by omega) p2) (permIn_mono d2 d3 mid b a b h0 (Nat.le_refl _) (by omega) p3)), sorted_halves key idx ?_ s3 ?_⟩
  · intro i j g1 g2 g3
    rw [p3.2.1 i (.inl (by omega)), p3.2.1 j (.inl (by omega))]
    exact s2 i j g1 g2 g3
  · have X := mrg_cross key idx h hse h1 h2 h3 h4 hl hr hd
    have X2 : ∀ x y, a ≤ x → x < mid → mid ≤ y → y < b → ltX key idx d2[y]! d2[x]! = false := fun x y g1 g2 g3 g4 => by
      rw [p2.2.1 y (.inr g3)]
      exact permIn_all d1 d2 a mid (fun v => ltX key idx d1[y]! v = false) (by omega) p2 (fun u g5 g6 => X u y g5 g6 g3 g4) x g1 g2
    intro x y g1 g2 g3 g4
    rw [p3.2.1 x (.inl g2)]
    exact permIn_all d2 d3 mid b (fun v => ltX key idx v d2[x]! = false) (by omega) p3 (fun u g5 g6 => X2 x u g1 g2 g5 g6) y g3 g4
/-- The second half is still to be merged when the first has been. -/
theorem mrg_keep {a b mid e : Nat} {d1 d2 : Array α} (h : MrgIn key idx mid e b d1) (hme : mid ≤ e) (p2 : PermIn a mid d1 d2) : MrgIn key idx mid e b d2 := by
  have ex : ∀ t, mid ≤ t → d2[t]! = d1[t]! := fun t ht => p2.2.1 t (.inr ht)
  refine ⟨fun i j g1 g2 g3 => ?_, fun i j g1 g2 g3 => ?_, fun i j g1 g2 g3 g4 => ?_⟩
  · rw [ex i (by omega), ex j (by omega)]; exact h.left i j g1 g2 g3
  · rw [ex i (by omega), ex j (by omega)]; exact h.right i j g1 g2 g3
  · rw [ex i (by omega), ex j (by omega)]; exact h.cross i j g1 g2 g3 g4
end

set_option maxHeartbeats 8000000 in
set_option maxRecDepth 1000000 in
theorem symMerge_any {α : Type} [Inhabited α] (k : Nat) (zE : ∀ w, (Go.sizeOf 45).run Try.prog w = .ok k w) (enc : α → List Value) (key idx : α → Nat) (cf : α → α → Int) (hcf : ∀ x y, ltK key x y = decide (cf x y < 0)) (g : Nat) (cb : Array Value) (blk off cap : Nat) (d0 : Array α) (w0 : World)
    (eg : ∀ args w, (callFunc g args).run Try.prog w = .ok (.enter g args) w) (hcmp : CmpLays Try.prog g cb enc k cf blk off d0.size w0)
    (R : RowK enc k w0 blk off d0) (N : Nat) : ∀ (a m b : Nat) (d : Array α) (w : World), b - a ≤ N → d0.size = d.size → SWK enc k w0 blk off d w → a < m → m < b → b ≤ d.size → d.size < 4611686018427387904 → MrgIn key idx a m b d →
    Calls Try.prog 100 #[.slice (some ⟨blk, off, none⟩) d.size cap, .int .i64 a, .int .i64 m, .int .i64 b, .func (.func g) #[] cb] w fun e w' => e = .returned (.tuple #[]) ∧ ∃ d', PermIn a b d d' ∧ SortedIn (ltX key idx) a b d' ∧ SWK enc k w0 blk off d' w' := by
  induction N with
  | zero => intro a m b d w h1 h2 h3 h4 h5; omega
  | succ N ih =>
  intro a m b d w hN hs S ham hmb hb hsz hM
  by_cases hma : m = a + 1
  · exact symOneL k zE enc key idx cf hcf g cb blk off cap a m b d0 d w0 w eg hcmp R hs S hma hmb hb hsz hM
  by_cases hbm : b = m + 1
  · exact symOneR k zE enc key idx cf hcf g cb blk off cap a m b d0 d w0 w eg hcmp R hs S hma ham hbm hb hsz hM
  have mixed : Try.prog.follows .mixedOrders = true := by kernel_rfl
  have HC : Aside _ := hcmp
  have HM : Aside _ := hM
  have HCF : Aside _ := hcf
  have IH : Aside _ := ih
  have S0 : Aside (SWK enc k w0 blk off d w) := S
  have tm : ((m : Int) - (a : Int) == 1) = false := by simp; omega
  have tb : ((b : Int) - (m : Int) == 1) = false := by simp; omega
  clear S hcmp hM hcf ih
  go_enter Try.func100, Try.ntmps100
  go_upto_region 25 with fail
  obtain ⟨mid, hmid⟩ : ∃ mid : Nat, mid = (a + b) / 2 := ⟨_, rfl⟩
  have em : ((a : Int) + (b : Int)) / 2 = (mid : Int) := by omega
  rw [em]
  have e1 : mid + mid ≤ a + b := by omega
  have e2 : a + b ≤ mid + mid + 1 := by omega
  have e3 : mid < b := by omega
  have e4 : a < mid := by omega
  clear em hmid
  go_upto_if 140 with fail
  go_cut [20, 21] (fun ss sr wx => ∃ s0 r0 : Nat, ss = .int .i64 s0 ∧ sr = .int .i64 r0 ∧ s0 ≤ r0 ∧ a ≤ s0 ∧ r0 ≤ mid ∧ r0 ≤ m ∧ mid + m ≤ b + s0 ∧ Aside (s0 = a ∨ mid + m - s0 = b) ∧ Aside (r0 = m ∨ mid + m - r0 = m) ∧ wx = w)
  case first => as_aux_lemma =>
    by_cases hmm : mid < m
    · have hmz : (mid : Int) < (m : Int) := by omega
      have x1 : mid + m - (mid + m - b) = b := by omega
      have x2 : mid + m - mid = m := by omega
      go_wp2_with fail
      go_meet
      exact ⟨mid + m - b, mid, by go_num, rfl, by omega, by omega, by omega, by omega, by omega, (Or.inr x1 : mid + m - b = a ∨ mid + m - (mid + m - b) = b), (Or.inr x2 : mid = m ∨ mid + m - mid = m), rfl⟩
    · have hmz : ¬ (mid : Int) < (m : Int) := by omega
      go_wp2_with fail
      go_meet
      exact ⟨a, m, rfl, rfl, by omega, by omega, by omega, by omega, by omega, (Or.inl rfl : a = a ∨ mid + m - a = b), (Or.inl rfl : m = m ∨ mid + m - m = m), rfl⟩
  case rest =>
  obtain ⟨s0, r0, rfl, rfl, q1, q2, q3, q4, q5, I0, J0, rfl⟩ := hcut
  go_wp2
  go_loopg [20, 21] (b - a) (fun kx ss sr wr => ∃ (s r : Nat), ss = .int .i64 s ∧ sr = .int .i64 r ∧ a ≤ s ∧ s ≤ r ∧ r ≤ mid ∧ r ≤ m ∧ mid + m ≤ b + s ∧ r - s ≤ kx ∧ Aside (SWK enc k w0 blk off d wr) ∧ Aside ((s = a ∨ mid + m - s = b ∨ ltK key d[mid + m - s]! d[s - 1]! = false) ∧ (r = m ∨ mid + m - r = m ∨ ltK key d[mid + m - r - 1]! d[r]! = true)))
  case atStart =>
    have K0 : (s0 = a ∨ mid + m - s0 = b ∨ ltK key d[mid + m - s0]! d[s0 - 1]! = false) ∧ (r0 = m ∨ mid + m - r0 = m ∨ ltK key d[mid + m - r0 - 1]! d[r0]! = true) := by
      refine ⟨?_, ?_⟩
      · rcases I0.out with h | h
        · exact .inl h
        · exact .inr (.inl h)
      · rcases J0.out with h | h
        · exact .inl h
        · exact .inr (.inl h)
    exact ⟨s0, r0, rfl, rfl, q2, q1, q3, q4, q5, by omega, S0, K0⟩
  case round =>
    clear S0
    obtain ⟨s, r, rfl, rfl, has, hsr, hr1, hr2, hbs, hkx, SU, I⟩ := hrel
    clear I0 J0 q1 q2 q3 q4 q5
    by_cases hlt : s < r
    · have hlz : (s : Int) < (r : Int) := by omega
      go_upto_region 35 with fail
      obtain ⟨c, hc0⟩ : ∃ c : Nat, c = (s + r) / 2 := ⟨_, rfl⟩
      have ecz : ((s : Int) + (r : Int)) / 2 = (c : Int) := by omega
      rw [ecz]
      have c1 : s ≤ c := by omega
      have c2 : c < r := by omega
      clear ecz hc0
      cases hlv : ltK key d[mid + m - 1 - c]! d[c]! with
      | false =>
        obtain ⟨pn44, hpn44⟩ : ∃ q, q = mid + m - 1 - c := ⟨_, rfl⟩
        have ea44 : ((mid : Int) + (m : Int) - 1 - (c : Int)).toNat = pn44 := by omega
        have qa44 : (c : Int) ≤ (mid : Int) + (m : Int) - 1 := by omega
        have pa44 : (0 : Int) ≤ (mid : Int) + (m : Int) - 1 - (c : Int) := by omega
        have ba44 : (mid : Int) + (m : Int) - 1 - (c : Int) < (d.size : Int) := by omega
        have ra44 : IntKind.i64.wrap ((mid : Int) + (m : Int) - 1 - (c : Int)) = (mid : Int) + (m : Int) - 1 - (c : Int) := by rw [IntKind.wrap_i64]; omega
        have ec44 : ((c : Int)).toNat = c := by omega
        have pc44 : (0 : Int) ≤ (c : Int) := by omega
        have bc44 : (c : Int) < (d.size : Int) := by omega
        have rc44 : IntKind.i64.wrap ((c : Int)) = (c : Int) := by rw [IntKind.wrap_i64]; omega
        obtain ⟨x44, hx44⟩ : ∃ x, x = d[mid + m - 1 - c]! := ⟨_, rfl⟩
        obtain ⟨y44, hy44⟩ : ∃ x, x = d[c]! := ⟨_, rfl⟩
        have l44a := SU.out.ld R (by omega) Try.prog (mid + m - 1 - c) (by omega)
        have l44b := SU.out.ld R (by omega) Try.prog (c) (by omega)
        rw [← hx44, ← hpn44] at l44a
        rw [← hy44] at l44b
        have hc44 := SU.out.cmp HC.out (by omega) x44 y44
        have hd44 : decide (cf x44 y44 < 0) = false := by rw [hx44, hy44, ← HCF.out]; exact hlv
        have hv44 : ¬ cf x44 y44 < 0 := of_decide_eq_false hd44
        clear hx44 hy44 hpn44
        go_wp2_with fail
        go_quiet_grown (first | (go_at_fn g; refine Calls.grown_of (hc44 _ _)))
        have SU2 : Aside (SWK enc k w0 blk off d (grow (wr.drewN nq) osq)) := SU.out.grown nq osq
        clear l44a l44b hc44 SU
        generalize grow (wr.drewN nq) osq = wu2 at SU2 ⊢
        clear nq osq
        go_wp2
        go_roundg (r - (c + 1))
        case measure => omega
        case rel =>
          have I2 : (c + 1 = a ∨ mid + m - (c + 1) = b ∨ ltK key d[mid + m - (c + 1)]! d[c + 1 - 1]! = false) ∧ (r = m ∨ mid + m - r = m ∨ ltK key d[mid + m - r - 1]! d[r]! = true) := ⟨.inr (.inr (by rw [show mid + m - (c + 1) = mid + m - 1 - c by omega]; exact hlv)), I.out.2⟩
          exact ⟨c + 1, r, by go_num, rfl, by omega, by omega, hr1, hr2, by omega, Nat.le_refl _, SU2, I2⟩
      | true =>
        obtain ⟨pn45, hpn45⟩ : ∃ q, q = mid + m - 1 - c := ⟨_, rfl⟩
        have ea45 : ((mid : Int) + (m : Int) - 1 - (c : Int)).toNat = pn45 := by omega
        have qa45 : (c : Int) ≤ (mid : Int) + (m : Int) - 1 := by omega
        have pa45 : (0 : Int) ≤ (mid : Int) + (m : Int) - 1 - (c : Int) := by omega
        have ba45 : (mid : Int) + (m : Int) - 1 - (c : Int) < (d.size : Int) := by omega
        have ra45 : IntKind.i64.wrap ((mid : Int) + (m : Int) - 1 - (c : Int)) = (mid : Int) + (m : Int) - 1 - (c : Int) := by rw [IntKind.wrap_i64]; omega
        have ec45 : ((c : Int)).toNat = c := by omega
        have pc45 : (0 : Int) ≤ (c : Int) := by omega
        have bc45 : (c : Int) < (d.size : Int) := by omega
        have rc45 : IntKind.i64.wrap ((c : Int)) = (c : Int) := by rw [IntKind.wrap_i64]; omega
        obtain ⟨x45, hx45⟩ : ∃ x, x = d[mid + m - 1 - c]! := ⟨_, rfl⟩
        obtain ⟨y45, hy45⟩ : ∃ x, x = d[c]! := ⟨_, rfl⟩
        have l45a := SU.out.ld R (by omega) Try.prog (mid + m - 1 - c) (by omega)
        have l45b := SU.out.ld R (by omega) Try.prog (c) (by omega)
        rw [← hx45, ← hpn45] at l45a
        rw [← hy45] at l45b
        have hc45 := SU.out.cmp HC.out (by omega) x45 y45
        have hd45 : decide (cf x45 y45 < 0) = true := by rw [hx45, hy45, ← HCF.out]; exact hlv
        have hv45 :  cf x45 y45 < 0 := of_decide_eq_true hd45
        clear hx45 hy45 hpn45
        go_wp2_with fail
        go_quiet_grown (first | (go_at_fn g; refine Calls.grown_of (hc45 _ _)))
        have SU2 : Aside (SWK enc k w0 blk off d (grow (wr.drewN nq) osq)) := SU.out.grown nq osq
        clear l45a l45b hc45 SU
        generalize grow (wr.drewN nq) osq = wu2 at SU2 ⊢
        clear nq osq
        go_wp2
        go_roundg (c - s)
        case measure => omega
        case rel =>
          have I2 : (s = a ∨ mid + m - s = b ∨ ltK key d[mid + m - s]! d[s - 1]! = false) ∧ (c = m ∨ mid + m - c = m ∨ ltK key d[mid + m - c - 1]! d[c]! = true) := ⟨I.out.1, .inr (.inr (by rw [show mid + m - c - 1 = mid + m - 1 - c by omega]; exact hlv))⟩
          exact ⟨s, c, rfl, rfl, has, by omega, by omega, by omega, hbs, Nat.le_refl _, SU2, I2⟩
    · obtain rfl : r = s := by omega
      have hlz : ¬ (r : Int) < (r : Int) := by omega
      go_upto_region 39 with fail
      have ez : ((mid + m - r : Nat) : Int) = (mid : Int) + (m : Int) - (r : Int) := by omega
      go_cut [185] (fun sb wx => ∃ tb : Bool, sb = .bool tb ∧ Aside (tb = true ↔ r < m ∧ m < mid + m - r) ∧ wx = wr)
      case first => as_aux_lemma =>
        by_cases c1 : r < m
        · have c1z : (r : Int) < (m : Int) := by omega
          by_cases c2 : m < mid + m - r
          · have c2z : (m : Int) < (mid : Int) + (m : Int) - (r : Int) := by omega
            go_wp2_with fail
            go_meet
            exact ⟨true, by go_num, (⟨fun _ => ⟨c1, c2⟩, fun _ => rfl⟩ : true = true ↔ r < m ∧ m < mid + m - r), rfl⟩
          · have c2z : ¬ (m : Int) < (mid : Int) + (m : Int) - (r : Int) := by omega
            go_wp2_with fail
            go_meet
            exact ⟨false, by go_num, (⟨fun h => absurd h (by decide), fun h => absurd h.2 c2⟩ : false = true ↔ r < m ∧ m < mid + m - r), rfl⟩
        · have c1z : ¬ (r : Int) < (m : Int) := by omega
          go_wp2_with fail
          go_meet
          exact ⟨false, by go_num, (⟨fun h => absurd h (by decide), fun h => absurd h.1 c1⟩ : false = true ↔ r < m ∧ m < mid + m - r), rfl⟩
      case rest =>
      obtain ⟨tb, rfl, hTB, rfl⟩ := hcut
      go_upto_if 185 with fail
      go_cut [20] (fun ss wx => ss = .int .i64 r ∧ ∃ d1 : Array α, d1.size = d.size ∧ Aside (SWK enc k w0 blk off d1 wx) ∧ Aside ((∀ t, a ≤ t → t < b → d1[t]! = d[rotP r m (mid + m - r) t]!) ∧ PermIn a b d d1))
      case first => as_aux_lemma =>
        cases tb with
        | true =>
          have hA := hTB.out.1 rfl
          have hc := rotate_any k zE enc g cb blk off cap r m (mid + m - r) d0 d w0 _ R hs SU.out hA.1 hA.2 (by omega) hsz
          rw [ez] at hc
          go_wp2_with (go_at_call 109; refine hc.mono ?_; rintro e w2 ⟨rfl, d2, h1, h2, h3, h4⟩)
          go_meet
          have D1 : (∀ t, a ≤ t → t < b → d2[t]! = d[rotP r m (mid + m - r) t]!) ∧ PermIn a b d d2 := ⟨fun t _ _ => h2 t, permIn_mono d d2 r (mid + m - r) a b has (by omega) hb h3⟩
          exact ⟨rfl, d2, h1, h4, D1⟩
        | false =>
          have hA : ¬ (r < m ∧ m < mid + m - r) := fun h => absurd (hTB.out.2 h) (by decide)
          have D1 : (∀ t, a ≤ t → t < b → d[t]! = d[rotP r m (mid + m - r) t]!) ∧ PermIn a b d d := ⟨fun t _ _ => by rw [rotP_none r m (mid + m - r) t (by omega) (by omega) (by omega)], permIn_refl d a b⟩
          go_wp2_with fail
          go_meet
          exact ⟨rfl, d, rfl, SU, D1⟩
      case rest =>
      obtain ⟨rfl, d1, hz1, S1, D1⟩ := hcut
      clear SU hTB
      have M1 : Aside (MrgIn key idx a r mid d1) := mrg_first key idx HM.out (show r + (mid + m - r) = mid + m by omega) has hr2 (by omega) (by omega) hr1 D1.out.1
      have M2 : Aside (MrgIn key idx mid (mid + m - r) b d1) := mrg_second key idx HM.out (show r + (mid + m - r) = mid + m by omega) has hr2 (by omega) (by omega) hr1 D1.out.1
      go_upto_region 41 with fail
      go_cut [199] (fun sb wx => ∃ tb : Bool, sb = .bool tb ∧ Aside (tb = true ↔ a < r ∧ r < mid) ∧ wx = wc)
      case first => as_aux_lemma =>
        by_cases c1 : a < r
        · have c1z : (a : Int) < (r : Int) := by omega
          by_cases c2 : r < mid
          · have c2z : (r : Int) < (mid : Int) := by omega
            go_wp2_with fail
            go_meet
            exact ⟨true, by go_num, (⟨fun _ => ⟨c1, c2⟩, fun _ => rfl⟩ : true = true ↔ a < r ∧ r < mid), rfl⟩
          · have c2z : ¬ (r : Int) < (mid : Int) := by omega
            go_wp2_with fail
            go_meet
            exact ⟨false, by go_num, (⟨fun h => absurd h (by decide), fun h => absurd h.2 c2⟩ : false = true ↔ a < r ∧ r < mid), rfl⟩
        · have c1z : ¬ (a : Int) < (r : Int) := by omega
          go_wp2_with fail
          go_meet
          exact ⟨false, by go_num, (⟨fun h => absurd h (by decide), fun h => absurd h.1 c1⟩ : false = true ↔ a < r ∧ r < mid), rfl⟩
      case rest =>
      obtain ⟨tb, rfl, hTB, rfl⟩ := hcut
      go_upto_if 199 with fail
      go_cut [20] (fun ss wx => ss = .int .i64 r ∧ ∃ d2 : Array α, d2.size = d.size ∧ Aside (SWK enc k w0 blk off d2 wx) ∧ Aside (PermIn a mid d1 d2 ∧ SortedIn (ltX key idx) a mid d2))
      case first => as_aux_lemma =>
        cases tb with
        | true =>
          have hA := hTB.out.1 rfl
          have hc := IH.out a r mid d1 _ (by omega) (by omega) S1.out hA.1 hA.2 (by omega) (by omega) M1.out
          rw [hz1] at hc
          go_wp2_with (go_at_call 100; refine hc.mono ?_; rintro e w2 ⟨rfl, d2, h1, h2, h3⟩)
          go_meet
          exact ⟨rfl, d2, by rw [h1.1]; exact hz1, h3, (⟨h1, h2⟩ : PermIn a mid d1 d2 ∧ SortedIn (ltX key idx) a mid d2)⟩
        | false =>
          have hA : ¬ (a < r ∧ r < mid) := fun h => absurd (hTB.out.2 h) (by decide)
          have X : SortedIn (ltX key idx) a mid d1 := by
            rcases (show r = a ∨ r = mid by omega) with h | h
            · exact h ▸ M1.out.right
            · exact h ▸ M1.out.left
          go_wp2_with fail
          go_meet
          exact ⟨rfl, d1, hz1, S1, (⟨permIn_refl d1 a mid, X⟩ : PermIn a mid d1 d1 ∧ SortedIn (ltX key idx) a mid d1)⟩
      case rest =>
      obtain ⟨rfl, d2, hz2, S2, D2⟩ := hcut
      clear S1 hTB M1
      have M3 : Aside (MrgIn key idx mid (mid + m - r) b d2) := mrg_keep key idx M2.out (by omega) D2.out.1
      clear M2
      go_upto_region 43 with fail
      go_cut [213] (fun sb wx => ∃ tb : Bool, sb = .bool tb ∧ Aside (tb = true ↔ mid < mid + m - r ∧ mid + m - r < b) ∧ wx = wc)
      case first => as_aux_lemma =>
        by_cases c1 : mid < mid + m - r
        · have c1z : (mid : Int) < (mid : Int) + (m : Int) - (r : Int) := by omega
          by_cases c2 : mid + m - r < b
          · have c2z : (mid : Int) + (m : Int) - (r : Int) < (b : Int) := by omega
            go_wp2_with fail
            go_meet
            exact ⟨true, by go_num, (⟨fun _ => ⟨c1, c2⟩, fun _ => rfl⟩ : true = true ↔ mid < mid + m - r ∧ mid + m - r < b), rfl⟩
          · have c2z : ¬ (mid : Int) + (m : Int) - (r : Int) < (b : Int) := by omega
            go_wp2_with fail
            go_meet
            exact ⟨false, by go_num, (⟨fun h => absurd h (by decide), fun h => absurd h.2 c2⟩ : false = true ↔ mid < mid + m - r ∧ mid + m - r < b), rfl⟩
        · have c1z : ¬ (mid : Int) < (mid : Int) + (m : Int) - (r : Int) := by omega
          go_wp2_with fail
          go_meet
          exact ⟨false, by go_num, (⟨fun h => absurd h (by decide), fun h => absurd h.1 c1⟩ : false = true ↔ mid < mid + m - r ∧ mid + m - r < b), rfl⟩
      case rest =>
      obtain ⟨tb, rfl, hTB, rfl⟩ := hcut
      go_upto_if 213 with fail
      have fin : ∀ d3 : Array α, PermIn mid b d2 d3 → SortedIn (ltX key idx) mid b d3 → PermIn a b d d3 ∧ SortedIn (ltX key idx) a b d3 := fun d3 h1 h2 =>
        mrg_done key idx HM.out hb (by omega) (by omega) (show r + (mid + m - r) = mid + m by omega) has hr2 (by omega) (by omega) I.out.1 I.out.2 D1.out.1 D1.out.2 D2.out.1 D2.out.2 h1 h2
      have FIN := Lib.hid fin
      clear fin I D1 D2 HM
      cases tb with
      | true =>
        have hA := hTB.out.1 rfl
        have hc := IH.out mid (mid + m - r) b d2 _ (by omega) (by omega) S2.out hA.1 hA.2 (by omega) (by omega) M3.out
        rw [hz2, ez] at hc
        go_wp2_with (go_at_call 100; refine hc.mono ?_; rintro e w2 ⟨rfl, d3, h1, h2, h3⟩)
        go_end0
        exact ⟨rfl, d3, (FIN.out d3 h1 h2).1, (FIN.out d3 h1 h2).2, h3⟩
      | false =>
        have hA : ¬ (mid < mid + m - r ∧ mid + m - r < b) := fun h => absurd (hTB.out.2 h) (by decide)
        have X : SortedIn (ltX key idx) mid b d2 := by
          rcases (show mid + m - r = mid ∨ mid + m - r = b by omega) with h | h
          · have := M3.out.right; rw [h] at this; exact this
          · have := M3.out.left; rw [h] at this; exact this
        go_wp2_with fail
        go_end0
        exact ⟨rfl, d2, (FIN.out d2 (permIn_refl d2 mid b) X).1, (FIN.out d2 (permIn_refl d2 mid b) X).2, S2.out⟩
end Go.Proofs.Ythlbplmghjaeoae
