/- Boards told by their numbers: by the program. -/
import Derived.Test.YthlbplmghjaeoadME
import Derived.Test.YthlbplmghjaeoadJK
import Derived.Test.YthlbplmghjaeoadKP
import Derived.Test.YthlbplmghjaeoadK1
import Derived.Outline
namespace Go.Proofs.Ythlbplmghjaeoad
open Go.RowKit

theorem eqN_iff (x y : LB) : x.eqN y = true ↔ x.1.drop 12 = y.1.drop 12 := by
  unfold LB.eqN
  rw [List.all_eq_true]
  constructor
  · intro h
    refine List.ext_getElem (by simp [x.2, y.2]) fun i h1 h2 => ?_
    have hi : i < 12 := by simp [x.2] at h1; omega
    have e := h i (List.mem_range.2 hi)
    have e2 : (x.at (12 + i)).toNat = (y.at (12 + i)).toNat := by
      have e3 : ((x.at (12 + i)).toNat : Int) = ((y.at (12 + i)).toNat : Int) := by simpa using e
      omega
    have e4 := UInt8.toNat_inj.1 e2
    simp only [LB.at, List.getD, x.2, y.2, show 12 + i < 24 by omega, List.getElem?_eq_getElem, Option.getD_some] at e4
    rw [List.getElem_drop, List.getElem_drop]
    exact e4
  · intro h i hi
    have hi : i < 12 := List.mem_range.1 hi
    have e : x.at (12 + i) = y.at (12 + i) := by
      have h2 := congrArg (fun l => l.getD i 0) h
      simpa [LB.at, List.getD, List.getElem?_drop] using h2
    rw [e]; simp

/-- Lists of images that are told apart alike have as many that are there once. -/
def onceG {α : Type} [DecidableEq α] (l : List α) : Nat := (l.filter fun x => decide (l.count x = 1)).length
theorem count_img {α β : Type} [DecidableEq β] (F : α → β) (a : α) : ∀ A : List α, (A.map F).count (F a) = A.countP fun b => decide (F b = F a)
  | [] => rfl
  | b :: A => by rw [List.map_cons, List.count_cons, count_img F a A, List.countP_cons]; congr 1
theorem onceG_img {α β γ : Type} [DecidableEq β] [DecidableEq γ] (F : α → β) (G : α → γ) (A : List α) (h : ∀ a, a ∈ A → ∀ b, b ∈ A → (F a = F b ↔ G a = G b)) : onceG (A.map F) = onceG (A.map G) := by
  have e : ∀ (δ : Type) [DecidableEq δ] (K : α → δ), onceG (A.map K) = (A.filter fun a => decide ((A.countP fun b => decide (K b = K a)) = 1)).length := by
    intro δ _ K
    rw [onceG, List.filter_map, List.length_map]
    congr 1
    refine List.filter_congr fun a _ => ?_
    simp only [Function.comp, count_img]
  rw [e _ F, e _ G]
  congr 1
  refine List.filter_congr fun a ha => ?_
  congr 2
  refine List.countP_congr fun b hb => ?_
  rw [decide_eq_true_iff, decide_eq_true_iff]
  exact h b hb a ha
theorem count_beq {α : Type} (i1 i2 : BEq α) (h1 : @LawfulBEq α i1) (h2 : @LawfulBEq α i2) (a : α) (l : List α) : @List.count α i1 a l = @List.count α i2 a l := by
  unfold List.count
  refine List.countP_congr fun b _ => ?_
  rw [@beq_iff_eq α i1 h1, @beq_iff_eq α i2 h2]
theorem onceN_G (l : List (List UInt8)) : onceN l = onceG l := by
  unfold onceN onceG
  congr 1
  refine List.filter_congr fun a _ => ?_
  have h := count_beq (inferInstance : BEq (List UInt8)) instBEqOfDecidableEq inferInstance inferInstance a l
  exact congrArg (fun n : Nat => decide (n = 1)) h
theorem numsL_12 (L : List LB) : ∀ x ∈ numsL L, x.length = 12 := by
  intro x hx
  obtain ⟨y, _, rfl⟩ := List.mem_map.1 hx
  simp [y.2]
theorem cntF_some {l : List (List UInt8)} {p : List UInt8} {v : Value} (h : cntF l p = some v) : v = .int .i64 (l.count p : Nat) := by
  unfold cntF at h
  by_cases q : p ∈ l
  · rw [if_pos q] at h; exact (Option.some.inj h).symm
  · rw [if_neg q] at h; cases h
theorem told_eq (W H : Nat) (hW : W ≤ 8) (hH : H ≤ 8) (h12 : W * H ≤ 12) : onceN (numsL (listGo W (W * H) (W * H))) = onceN (nmL W (allM (W * H) (-1))) := by
  rw [listGo_all W (W * H) h12, numsL, List.map_map, nmL, onceN_G, onceN_G]
  refine onceG_img (β := List UInt8) (γ := List UInt8) ((fun x : LB => x.1.drop 12) ∘ preB W (W * H)) (fun c => nmT c W) _ fun a ha b hb => ?_
  have h1 := eqN_snB W H hW hH h12 a b (allM_len ha) (allM_len hb)
  have h2 := eqN_iff (preB W (W * H) a) (preB W (W * H) b)
  rw [h1, snB, decide_eq_true_iff] at h2
  exact h2.symm
/-- One key struck out. -/
theorem strike_len {α : Type} [BEq α] [LawfulBEq α] [DecidableEq α] (q : α → Bool) (p : α) : ∀ l : List α, (l.filter q).length = (l.filter fun x => q x && !decide (x = p)).length + if q p = true then l.count p else 0
  | [] => by simp
  | a :: l => by
    have ih := strike_len q p l
    rw [List.filter_cons, List.filter_cons, List.count_cons]
    by_cases e : a = p
    · subst e
      cases hq : q a <;> simp [hq] at ih ⊢ <;> omega
    · have e2 : (a == p) = false := by simpa using e
      cases hq : q a <;> simp [e] <;> split at ih <;> simp_all <;> omega
set_option maxRecDepth 100000 in
set_option maxHeartbeats 200000 in
theorem iCountToldBoards_any (w h : Int) (ws : World) :
    Calls Try.prog 27 #[.int .i64 w, .int .i64 h] ws fun e w' => e = .returned (.tuple #[.int .i64 (tdM w h : Nat), .bool (szB w h 12)]) ∧ Below ws.heap.size ws w' := by
  have h1 := fun wr => isSmall_any w h wr
  rcases sz_case w h 12 with hs | ⟨hs, W, H, rfl, rfl, hW1, hW2, hH1, hH2, hn⟩
  · rw [hs] at h1
    have HM : Hid (tdM w h = 0) := by rw [Hid, tdM, hs]; rfl
    rw [hs]
    have H1 := Lib.hid h1
    clear hs h1
    go_enter Try.func27, Try.ntmps27
    go_wp2_with fail
    refine (H1.out _).mono ?_
    rintro e w1 ⟨rfl, rfl⟩
    go_wp2_with fail
    go_ret2
    exact ⟨by rw [HM.out]; rfl, Below.refl _ _⟩
  · rw [hs] at h1
    have hn12 : W * H ≤ 12 := by omega
    have HM : Hid (tdM W H = onceN (numsL (listGo W (W * H) (W * H)))) := by rw [Hid, told_eq W H hW2 hH2 hn12, tdM, if_pos hs]; rfl
    rw [hs]
    have H1 := Lib.hid h1
    have hLl : (listGo W (W * H) (W * H)).length ≤ 4096 := by rw [listGo_length W (W * H) (W * H) hn12]; exact Nat.pow_le_pow_right (by decide) hn12
    have hcb := fun wr => countByNumbers_of W H (listGo W (W * H) (W * H)) hLl (fun w => listBoards_any W H ⟨hW1, hW2⟩ ⟨hH1, hH2⟩ hn12 w) wr
    have hll : (numsL (listGo W (W * H) (W * H))).length ≤ 4096 := by simpa [numsL] using hLl
    have hok := Lib.hid (numsL_12 (listGo W (W * H) (W * H)))
    have HCB := Lib.hid hcb
    clear hs h1 hcb hLl
    generalize numsL (listGo W (W * H) (W * H)) = l at *
    go_enter Try.func27, Try.ntmps27
    go_wp2_with fail
    refine (H1.out _).mono ?_
    rintro e w1 ⟨rfl, rfl⟩
    go_wp2_with fail
    refine (HCB.out _).mono ?_
    rintro e w2 ⟨b, rfl, hM, hb2⟩
    have hMv := hM.vm keyK
    clear hM
    generalize (ddp l).length = n0 at *
    go_wp2_with (first | (at_range; refine wpList_vm_range keyK rfl _ _ _ rfl Try.underlying71 b n0 _ rfl hMv ?_; intro w5 cnt hvr hg5 hs5))
    have hb5 : Below ws.heap.size ws w5 := hb2.trans ⟨hg5.os, hg5.tape, hg5.output, hg5.size, fun k hk => hg5.block k (by have := hb2.size; omega) (by simp)⟩
    have hC0 : Hid (0 + (l.filter fun x => (cntF l x).isSome && decide (l.count x = 1)).length = onceN l) := by
      rw [Hid, Nat.zero_add, onceN]
      congr 1
      refine List.filter_congr fun x hx => ?_
      rw [cntF, if_pos hx]; rfl
    have hbl : b < w2.heap.size := hMv.lt keyK
    have hwl : ws.heap.size ≤ w2.heap.size := hb2.size
    clear hMv hg5 hb2
    generalize w2.heap.size = I at *
    clear hs5
    simp only [Act.put, List.setIfInBounds_toArray, List.set_cons_zero, List.set_cons_succ]
    go_loopw [6] (fun a wr => ∃ (T : List UInt8 → Bool) (cnt acc : Nat), a = .int .i64 acc ∧ Hid (VR keyK wr b I n0 (cntF l) T cnt) ∧ Hid (acc + (l.filter fun x => T x && decide (l.count x = 1)).length = onceN l) ∧ Below ws.heap.size ws wr) (fun _ wr => wr.rangeLeft b I)
    case atStart => exact ⟨_, _, 0, rfl, hvr, hC0, hb5⟩
    case round =>
      clear hvr hC0 hb5
      obtain ⟨T, cnt, acc, rfl, HVR, HC, hb⟩ := hrel
      have hal : acc ≤ 4096 := by
        have h1 := HC.out
        have h2 : onceN l ≤ l.length := List.length_filter_le _ _
        omega
      go_wp2_with (first | (at_next; refine wpList_vm_next keyK rfl _ rfl b I n0 (cntF l) T cnt rfl HVR.out ?_ ?_))
      case refine_1 =>
        intro h0 hT0
        have hacc : acc = onceN l := by
          have h1 := HC.out
          have h2 : (l.filter fun x => T x && decide (l.count x = 1)) = [] := List.filter_eq_nil_iff.2 fun x hx => by rw [hT0 x (hok.out x hx)]; simp
          rw [h2] at h1
          simpa using h1
        clear hT0 HC HVR h0
        subst hacc
        go_wp2_with fail
        go_ret2
        exact ⟨by rw [HM.out]; rfl, hb⟩
      case refine_2 =>
        intro p v w7 cnt7 hpk hpT hpM hvr7 hlt7 hg7 hs7 hen
        obtain rfl := cntF_some hpM
        have hst := strike_len (fun x => T x && decide (l.count x = 1)) p l
        have hfe : (l.filter fun x => (T x && decide (l.count x = 1)) && !decide (x = p)) = l.filter fun x => (T x && !decide (x = p)) && decide (l.count x = 1) := List.filter_congr fun x _ => by cases T x <;> cases decide (l.count x = 1) <;> cases decide (x = p) <;> rfl
        rw [hfe] at hst
        have HMS := Lib.hid HVR.out.left_eq
        have hb7 : Below ws.heap.size ws w7 := hb.trans ⟨hg7.os, hg7.tape, hg7.output, hg7.size, fun k hk => hg7.block k (by have := hb.size; omega) (by simp; omega)⟩
        have hcc : l.count p ≤ 4096 := Nat.le_trans List.count_le_length hll
        rw [show keyK.enc p = encK p from rfl] at hen ⊢
        generalize encK p = ep at hen ⊢
        have h7 := HC.out
        have HV7 := Lib.hid hvr7
        have HM7 : Hid (w7.rangeLeft b I < wr.rangeLeft b I) := by rw [Hid, hvr7.left_eq, HMS.out]; exact hlt7
        clear HMS hlt7 hvr7 HVR HC hb hg7 hs7 hpM
        by_cases hc1 : l.count p = 1
        · have h8 : Hid (acc + 1 + (l.filter fun x => (T x && !decide (x = p)) && decide (l.count x = 1)).length = onceN l) := by
            rw [Hid, ← h7, hst, hpT, hc1]
            simp
            omega
          have hci : ((l.count p : Nat) : Int) = 1 := by omega
          rw [hci] at hen ⊢
          clear hst h7 hc1 hci hfe hcc
          go_wp2_with fail
          go_roundw
          case rel => exact ⟨_, cnt7, acc + 1, by go_num, HV7, h8, hb7⟩
          case measure => exact HM7.out
        · have h8 : Hid (acc + (l.filter fun x => (T x && !decide (x = p)) && decide (l.count x = 1)).length = onceN l) := by
            rw [Hid, ← h7, hst, hpT, decide_eq_false hc1]
            simp
          have hci : (((l.count p : Nat) : Int) == 1) = false := by simp; omega
          generalize l.count p = c at *
          clear hst h7 hc1 hfe
          go_wp2_with fail
          go_roundw
          case rel => exact ⟨_, cnt7, acc, rfl, HV7, h8, hb7⟩
          case measure => exact HM7.out
end Go.Proofs.Ythlbplmghjaeoad
