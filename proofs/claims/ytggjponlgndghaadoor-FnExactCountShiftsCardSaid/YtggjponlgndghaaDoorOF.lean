/- Joined boards by the program: steps of a shift, and boards shifted. -/
import Derived.Test.YtggjponlgndghaaDoorOE
import Derived.Test.YtggjponlgndghaaDoorGY1
namespace Go.Proofs.YtggjponlgndghaaDoor
open Go.RowKit

/-- So many steps. -/
def itM {α : Type} (f : α → α) : Nat → α → α
  | 0, x => x
  | k + 1, x => f (itM f k x)
theorem owns_room {w : World} {B e n c : Nat} {a : Option Addr} {xs : List Value} (h : Owns w B e (.slice a n c) xs) (hn : xs.length = n) : n ≤ c := by
  rcases h.2 with ⟨h1, h2⟩ | ⟨g, cap, cur, h1, _, _, hc, _⟩
  · simp at h1; omega
  · simp only [Value.slice.injEq] at h1
    obtain ⟨_, _, rfl⟩ := h1
    omega

theorem owns_far {w : World} {B e n c g : Nat} {a : Option Addr} {xs : List Value} (h : Owns w B e (.slice a n c) xs) (hg : g < B) : ∀ b off, a = some ⟨b, off, none⟩ → b ≠ g := by
  rintro b off rfl rfl
  rcases h.2 with ⟨h1, _⟩ | ⟨g', cap, cur, h1, h2, _⟩
  · simp at h1
  · simp only [Value.slice.injEq, Option.some.injEq, Addr.mk.injEq] at h1
    obtain ⟨⟨rfl, _⟩, _⟩ := h1
    omega
theorem at_far {w : World} {a : Option Addr} {xs : List Value} (h : At w a xs) (hx : 0 < xs.length) {g : Nat} (hg : w.heap.size ≤ g) : ∀ b off, a = some ⟨b, off, none⟩ → b ≠ g := by
  rintro b off rfl rfl
  obtain ⟨b', off', he, hc⟩ := h 0 hx
  simp only [Option.some.injEq, Addr.mk.injEq, and_true] at he
  obtain ⟨rfl, rfl⟩ := he
  have : w.heap[b]? = none := Array.getElem?_eq_none hg
  simp [World.cell?, this] at hc
theorem At.apart {w : World} {a : Option Addr} {xs : List Value} (h : At w a xs) (g j : Nat) (v : Value) (hg : ∀ b off, a = some ⟨b, off, none⟩ → b ≠ g) : At (w.setCell ⟨g, j, none⟩ v) a xs := by
  intro k hk
  obtain ⟨b, off, rfl, hc⟩ := h k hk
  refine ⟨b, off, rfl, ?_⟩
  have := awayH (w := w) (hg b off rfl) j v
  rw [← hc]
  simp [World.cell?, this]

set_option maxRecDepth 100000 in
set_option maxHeartbeats 1600000 in
theorem moved_any (F : Nat) (f : List UInt8 → List UInt8) (W H n : Nat) (J : Bool) (hE : ∀ (args : Array Value) (w' : World), (callFunc F args).run Tryd.prog w' = .ok (.enter F args) w')
    (hF : ∀ (a : Option Addr) (cells : List UInt8) (cap : Nat) (w : World), At w a (byts cells) → n ≤ cap → cells.length = n →
      Calls Tryd.prog F #[.agg #[.int .i64 W, .int .i64 H, .slice a n cap, .bool J]] w fun e w' => ∃ a' cap', e = .returned (.agg #[.int .i64 W, .int .i64 H, .slice a' n cap', .bool J]) ∧ Owns w' w.heap.size 5 (.slice a' n cap') (byts (f cells)) ∧ Below w.heap.size w w')
    (hfl : ∀ cells : List UInt8, cells.length = n → (f cells).length = n)
    (a : Option Addr) (cells : List UInt8) (cap s : Nat) (w : World) (hat : At w a (byts cells)) (hcap : n ≤ cap) (hn : cells.length = n) (hn1 : 1 ≤ n) (hs : s ≤ 1000) :
    Calls Tryd.prog 66 #[.agg #[.int .i64 W, .int .i64 H, .slice a n cap, .bool J], .func (.func F) #[] #[], .int .i64 s] w fun e w' => ∃ a' cap', e = .returned (.agg #[.int .i64 W, .int .i64 H, .slice a' n cap', .bool J]) ∧
      At w' a' (byts (itM f s cells)) ∧ n ≤ cap' ∧ Below w.heap.size w w' := by
  have hb0 : Below w.heap.size w ((w.alloc (.cells #[.int .i64 W, .int .i64 H, .slice a n cap, .bool J] 43)).alloc (.cells #[.int .i64 0, .int .i64 0, .slice none 0 0, .bool false] 43)) := ((Below.refl _ w).alloc (Nat.le_refl _) _).alloc (by simp) _
  have hG0 : ((w.alloc (.cells #[.int .i64 W, .int .i64 H, .slice a n cap, .bool J] 43)).alloc (.cells #[.int .i64 0, .int .i64 0, .slice none 0 0, .bool false] 43)).heap[w.heap.size]? = some (.cells #[.int .i64 W, .int .i64 H, .slice a n cap, .bool J] 43 (0, 0)) := by
    rw [(((Below.refl _ (w.alloc (.cells #[.int .i64 W, .int .i64 H, .slice a n cap, .bool J] 43))).alloc (Nat.le_refl _) _).block _ (by simp))]
    exact heap_alloc_new w _
  have hR0 : ((w.alloc (.cells #[.int .i64 W, .int .i64 H, .slice a n cap, .bool J] 43)).alloc (.cells #[.int .i64 0, .int .i64 0, .slice none 0 0, .bool false] 43)).heap[w.heap.size + 1]? = some (.cells #[.int .i64 0, .int .i64 0, .slice none 0 0, .bool false] 43 (0, 0)) := by
    have := heap_alloc_new (w.alloc (.cells #[.int .i64 W, .int .i64 H, .slice a n cap, .bool J] 43)) (.cells #[.int .i64 0, .int .i64 0, .slice none 0 0, .bool false] 43)
    simpa using this
  have hs0 : ((w.alloc (.cells #[.int .i64 W, .int .i64 H, .slice a n cap, .bool J] 43)).alloc (.cells #[.int .i64 0, .int .i64 0, .slice none 0 0, .bool false] 43)).heap.size = w.heap.size + 2 := by simp
  have hit : ∀ k, (itM f k cells).length = n := fun k => by
    induction k with
    | zero => exact hn
    | succ k ih => exact hfl _ ih
  have HFAR := Lib.hid (at_far hat (by rw [byts_length]; omega) (g := w.heap.size + 1) (by omega))
  have HF := Lib.hid hF
  have HIT := Lib.hid hit
  have HN := Lib.hid hn
  clear hF hfl hit hn
  go_enter Tryd.func66, Tryd.ntmps66
  go_wp2_with fail
  generalize (w.alloc (.cells #[.int .i64 W, .int .i64 H, .slice a n cap, .bool J] 43)).alloc (.cells #[.int .i64 0, .int .i64 0, .slice none 0 0, .bool false] 43) = w0 at *
  have hat0 := hat.later rfl hb0
  go_loopw [8] (fun i wr => ∃ (k : Nat) (a' : Option Addr) (cap' : Nat), k ≤ s ∧ i = .int .i64 k ∧ wr.heap[w.heap.size]? = some (.cells #[.int .i64 W, .int .i64 H, .slice a' n cap', .bool J] 43 (0, 0)) ∧
    wr.heap[w.heap.size + 1]? = some (.cells #[.int .i64 0, .int .i64 0, .slice none 0 0, .bool false] 43 (0, 0)) ∧ At wr a' (byts (itM f k cells)) ∧ n ≤ cap' ∧ Below w.heap.size w wr ∧ Hid (∀ b off, a' = some ⟨b, off, none⟩ → b ≠ w.heap.size + 1)) (fun i _ => s - (intOf i).toNat)
  case atStart => exact ⟨0, a, cap, Nat.zero_le _, rfl, hG0, hR0, hat0, hcap, hb0, HFAR⟩
  case round =>
    clear HFAR hG0 hR0 hat0 hb0 hs0 hcap hat
    obtain ⟨k, a', cap', hk, rfl, hG, hR, hat, hcap, hb, HV⟩ := hrel
    have hRlt := block_lt hR
    have hf0 := cell_of_block hG 0
    have hf1 := cell_of_block hG 1
    have hf2 := cell_of_block hG 2
    have hf3 := cell_of_block hG 3
    simp at hf0 hf1 hf2 hf3
    by_cases hlt : k < s
    · have HC := Lib.hid (HF.out a' (itM f k cells) cap' wr hat hcap (HIT.out k))
      have HG := Lib.hid hG
      have HR := Lib.hid hR
      have HB := Lib.hid hb
      clear hG hR hat hb
      go_wp2_with fail
      refine HC.out.mono ?_
      rintro e w2 ⟨a2, cap2, rfl, hown2, hb2⟩
      have hG2 := (hb2.block w.heap.size (by omega)).trans HG.out
      have hR2 := (hb2.block (w.heap.size + 1) (by omega)).trans HR.out
      have hc2 : n ≤ cap2 := owns_room hown2 (by rw [byts_length]; exact HIT.out (k + 1))
      have hq0 := frozen_of_block hG2 0
      have hq1 := frozen_of_block hG2 1
      have hq2 := frozen_of_block hG2 2
      have hq3 := frozen_of_block hG2 3
      have hf0 := cell_of_block hG2 0
      have hf1 := cell_of_block hG2 1
      have hf2 := cell_of_block hG2 2
      have hf3 := cell_of_block hG2 3
      simp at hf0 hf1 hf2 hf3
      have HV2 := Lib.hid (owns_far hown2 (g := w.heap.size + 1) hRlt)
      have hv : (Value.slice a2 n cap2).ownBlock ≠ some w.heap.size := fun h => by
        have := (Owns.lt hown2 _ h).1
        omega
      have hown3 := (((hown2.setOther _ 0 (.int .i64 W) hv).setOther _ 1 (.int .i64 H) hv).setOther _ 2 (.slice a2 n cap2) hv).setOther _ 3 (.bool J) hv
      have hG3 := block_set (block_set (block_set (block_set hG2 0 (.int .i64 W)) 1 (.int .i64 H)) 2 (.slice a2 n cap2)) 3 (.bool J)
      have hne : w.heap.size + 1 ≠ w.heap.size := by omega
      have hR3 := ((awayH (w := ((w2.setCell ⟨w.heap.size, 0, none⟩ (.int .i64 W)).setCell ⟨w.heap.size, 1, none⟩ (.int .i64 H)).setCell ⟨w.heap.size, 2, none⟩ (.slice a2 n cap2)) hne 3 (.bool J)).trans
        ((awayH (w := (w2.setCell ⟨w.heap.size, 0, none⟩ (.int .i64 W)).setCell ⟨w.heap.size, 1, none⟩ (.int .i64 H)) hne 2 (.slice a2 n cap2)).trans
        ((awayH (w := w2.setCell ⟨w.heap.size, 0, none⟩ (.int .i64 W)) hne 1 (.int .i64 H)).trans (awayH (w := w2) hne 0 (.int .i64 W))))).trans hR2
      have hb3 := (HB.out.trans (hb2.mono (by omega))).trans ((((Below.set (g := w.heap.size) (w := w2) 0 (.int .i64 W)).trans (Below.set 1 (.int .i64 H))).trans (Below.set 2 (.slice a2 n cap2))).trans (Below.set 3 (.bool J)))
      have HG3 := Lib.hid hG3
      have HR3 := Lib.hid hR3
      have HB3 := Lib.hid hb3
      have HO3 := Lib.hid hown3
      clear hG2 hR2 hG3 hR3 hb3 hown3 hb2 hown2
      go_wp2_with fail
      go_roundw
      case rel => exact ⟨k + 1, a2, cap2, by omega, by go_num, by simpa using HG3.out, HR3.out, HO3.out.at, hc2, HB3.out, HV2⟩
      case measure => simp [intOf]; omega
    · obtain rfl : k = s := by omega
      have hR0' := cell_of_block hR 0
      have hR1' := cell_of_block hR 1
      have hR2' := cell_of_block hR 2
      have hR3' := cell_of_block hR 3
      simp at hR0' hR1' hR2' hR3'
      have hq0 := frozen_of_block hR 0
      have hq1 := frozen_of_block hR 1
      have hq2 := frozen_of_block hR 2
      have hq3 := frozen_of_block hR 3
      have HR := Lib.hid hR
      have HG := Lib.hid hG
      have HA := Lib.hid hat
      have HB := Lib.hid hb
      clear hR hG hat hb
      go_wp2_with fail
      have b3 := block_set (block_set (block_set (block_set HR.out 0 (.int .i64 W)) 1 (.int .i64 H)) 2 (.slice a' n cap')) 3 (.bool J)
      refine bodyPost_ret (v := .agg #[.int .i64 W, .int .i64 H, .slice a' n cap', .bool J]) ?_ rfl ?_
      · have r0 := cell_of_block b3 0
        have r1 := cell_of_block b3 1
        have r2 := cell_of_block b3 2
        have r3 := cell_of_block b3 3
        simp at r0 r1 r2 r3
        simp [results, Tryd.results66, go_sem, r0, r1, r2, r3]
      · refine ⟨_, cap', rfl, ?_, hcap, ?_⟩
        · exact (((HA.out.apart _ _ _ HV.out).apart _ _ _ HV.out).apart _ _ _ HV.out).apart _ _ _ HV.out
        · exact HB.out.trans (((((Below.set 0 _).trans (Below.set 1 _)).trans (Below.set 2 _)).trans (Below.set 3 _)).mono (by omega))

/-- All cells so many steps to the right, and so many down. -/
def shM (W H r d : Nat) (cells : List UInt8) : List UInt8 := itM (dnM W) d (itM (rtM W H) r cells)
theorem itM_len {f : List UInt8 → List UInt8} {n : Nat} (hf : ∀ c : List UInt8, c.length = n → (f c).length = n) {cells : List UInt8} (hn : cells.length = n) : ∀ k, (itM f k cells).length = n
  | 0 => hn
  | k + 1 => hf _ (itM_len hf hn k)
theorem rt_len {W H : Nat} (hW : 1 ≤ W) : ∀ c : List UInt8, c.length = W * H → (rtM W H c).length = W * H := fun c h => by rw [rtM_length W H c h hW, h]
theorem dn_len {W n : Nat} : ∀ c : List UInt8, c.length = n → (dnM W c).length = n := fun c h => by rw [dnM_length, h]
theorem shM_length {W H : Nat} (hW : 1 ≤ W) (r d : Nat) {cells : List UInt8} (hn : cells.length = W * H) : (shM W H r d cells).length = W * H :=
  itM_len dn_len (itM_len (rt_len hW) hn r) d

theorem at_kind {w : World} {a : Option Addr} {X : List UInt8} {R : Nat} {cur : Array Value} {e : TypeId} {fr : Nat × Nat} (h : At w a (byts X)) (hx : 0 < X.length) (hR : w.heap[R]? = some (.cells cur e fr))
    (hk : ∀ v ∈ cur.toList, ∀ c, v ≠ .int .u8 c) : ∀ b off, a = some ⟨b, off, none⟩ → b ≠ R := by
  rintro b off rfl rfl
  obtain ⟨b', off', he, hc⟩ := byts_at h 0 hx
  simp only [Option.some.injEq, Addr.mk.injEq, and_true] at he
  obtain ⟨rfl, rfl⟩ := he
  rw [cell_of_block hR] at hc
  exact hk _ (by rw [Array.mem_toList_iff]; exact Array.mem_of_getElem? hc) _ rfl

theorem enters_toRight (args : Array Value) (w' : World) : (callFunc 67 args).run Tryd.prog w' = .ok (.enter 67 args) w' := by
  go_simp
theorem enters_toDown (args : Array Value) (w' : World) : (callFunc 68 args).run Tryd.prog w' = .ok (.enter 68 args) w' := by
  go_simp
set_option maxRecDepth 100000 in
set_option maxHeartbeats 1600000 in
theorem shifted_any (W H : Nat) (J : Bool) (a : Option Addr) (cells : List UInt8) (cap r d : Nat) (w : World) (hat : At w a (byts cells)) (hcap : cells.length ≤ cap) (hn : cells.length = W * H) (hW : 1 ≤ W ∧ W ≤ 8) (hH : 1 ≤ H ∧ H ≤ 8) (hr : r ≤ 1000) (hd : d ≤ 1000) :
    Calls Tryd.prog 49 #[.agg #[.int .i64 W, .int .i64 H, .slice a cells.length cap, .bool J], .int .i64 r, .int .i64 d] w fun e w' => ∃ a' cap', e = .returned (.agg #[.int .i64 W, .int .i64 H, .slice a' cells.length cap', .bool J]) ∧
      At w' a' (byts (shM W H r d cells)) ∧ cells.length ≤ cap' ∧ Below w.heap.size w w' := by
  have hp : 1 ≤ cells.length := by rw [hn]; exact Nat.mul_pos hW.1 hH.1
  have h64 : cells.length ≤ 64 := by rw [hn]; exact Nat.mul_le_mul hW.2 hH.2
  have hWn : W ≤ cells.length := by rw [hn]; exact Nat.le_mul_of_pos_right W hH.1
  have HR1 := Lib.hid (fun a' cap' w' (h : At w' a' (byts cells) ∧ cells.length ≤ cap') => moved_any 67 (rtM W H) W H cells.length J enters_toRight
    (fun a c cap w hat hcap hc => by
      have := toRight_any W H J a c cap w hat (by omega) (by omega) hW hH
      rw [hc] at this
      exact this) (fun c hc => by rw [hn] at hc ⊢; exact rt_len hW.1 c hc) a' cells cap' r w' h.1 h.2 rfl hp hr)
  have HD1 := Lib.hid (fun a' cap' w' (h : At w' a' (byts (itM (rtM W H) r cells)) ∧ cells.length ≤ cap') => moved_any 68 (dnM W) W H cells.length J enters_toDown
    (fun a c cap w hat hcap hc => by
      have := toDown_any W H J a c cap w hat (by omega) hW.1 (by omega) (by omega)
      rw [hc] at this
      exact this) dn_len a' (itM (rtM W H) r cells) cap' d w' h.1 h.2 (by rw [hn]; exact itM_len (rt_len hW.1) hn r) hp hd)
  have hb0 : Below w.heap.size w ((w.alloc (.cells #[.int .i64 W, .int .i64 H, .slice a cells.length cap, .bool J] 43)).alloc (.cells #[.int .i64 0, .int .i64 0, .slice none 0 0, .bool false] 43)) := ((Below.refl _ w).alloc (Nat.le_refl _) _).alloc (by simp) _
  have hR0 : ((w.alloc (.cells #[.int .i64 W, .int .i64 H, .slice a cells.length cap, .bool J] 43)).alloc (.cells #[.int .i64 0, .int .i64 0, .slice none 0 0, .bool false] 43)).heap[w.heap.size + 1]? = some (.cells #[.int .i64 0, .int .i64 0, .slice none 0 0, .bool false] 43 (0, 0)) := by
    have := heap_alloc_new (w.alloc (.cells #[.int .i64 W, .int .i64 H, .slice a cells.length cap, .bool J] 43)) (.cells #[.int .i64 0, .int .i64 0, .slice none 0 0, .bool false] 43)
    simpa using this
  have hs0 : ((w.alloc (.cells #[.int .i64 W, .int .i64 H, .slice a cells.length cap, .bool J] 43)).alloc (.cells #[.int .i64 0, .int .i64 0, .slice none 0 0, .bool false] 43)).heap.size = w.heap.size + 2 := by simp
  have HN := Lib.hid hn
  clear hn hWn hp
  go_enter Tryd.func49, Tryd.ntmps49
  go_wp2_with fail
  generalize (w.alloc (.cells #[.int .i64 W, .int .i64 H, .slice a cells.length cap, .bool J] 43)).alloc (.cells #[.int .i64 0, .int .i64 0, .slice none 0 0, .bool false] 43) = w0 at *
  refine (HR1.out a cap _ ⟨hat.later rfl hb0, hcap⟩).mono ?_
  rintro e w1 ⟨a1, cap1, rfl, hat1, hc1, hb1⟩
  go_wp2_with fail
  refine (HD1.out a1 cap1 _ ⟨hat1, hc1⟩).mono ?_
  rintro e w2 ⟨a2, cap2, rfl, hat2, hc2, hb2⟩
  have hb02 := hb1.trans (hb2.mono hb1.size)
  have hR := (hb02.block (w.heap.size + 1) (by omega)).trans hR0
  have HFAR := Lib.hid (at_kind hat2 (by rw [itM_len dn_len (itM_len (rt_len hW.1) HN.out r) d]; exact Nat.mul_pos hW.1 hH.1) hR (by simp))
  have hb := hb0.trans (hb02.mono (by omega))
  have hR0' := cell_of_block hR 0
  have hR1' := cell_of_block hR 1
  have hR2' := cell_of_block hR 2
  have hR3' := cell_of_block hR 3
  simp at hR0' hR1' hR2' hR3'
  have hq0 := frozen_of_block hR 0
  have hq1 := frozen_of_block hR 1
  have hq2 := frozen_of_block hR 2
  have hq3 := frozen_of_block hR 3
  have HR := Lib.hid hR
  have HA := Lib.hid hat2
  have HB := Lib.hid hb
  clear hR hat2 hb hb02 hb1 hb2 hat1 hR0 hb0
  go_wp2_with fail
  have b3 := block_set (block_set (block_set (block_set HR.out 0 (.int .i64 W)) 1 (.int .i64 H)) 2 (.slice a2 cells.length cap2)) 3 (.bool J)
  refine bodyPost_ret (v := .agg #[.int .i64 W, .int .i64 H, .slice a2 cells.length cap2, .bool J]) ?_ rfl ?_
  · have r0 := cell_of_block b3 0
    have r1 := cell_of_block b3 1
    have r2 := cell_of_block b3 2
    have r3 := cell_of_block b3 3
    simp at r0 r1 r2 r3
    simp [results, Tryd.results49, go_sem, r0, r1, r2, r3]
  · refine ⟨_, cap2, rfl, ?_, hc2, ?_⟩
    · exact (((HA.out.apart _ _ _ HFAR.out).apart _ _ _ HFAR.out).apart _ _ _ HFAR.out).apart _ _ _ HFAR.out
    · exact HB.out.trans (((((Below.set 0 _).trans (Below.set 1 _)).trans (Below.set 2 _)).trans (Below.set 3 _)).mono (by omega))
end Go.Proofs.YtggjponlgndghaaDoor
