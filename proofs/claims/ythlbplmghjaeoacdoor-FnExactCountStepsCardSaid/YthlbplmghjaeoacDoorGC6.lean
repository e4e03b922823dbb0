/- C6, C7, C8, laid as one text. -/
import Derived.Test.YthlbplmghjaeoacDoorC3
import Derived.Test.YthlbplmghjaeoacDoorC5
import Derived.Outline
import Derived.Test.YthlbplmghjaeoacDoorGN1

/- Sets of cells by the program: the set of a list, the unknown neighbours of a cell, the unknown cells. -/
namespace Go.Proofs.YthlbplmghjaeoacDoor
open Go.RowKit

theorem maskM_take (xs : List Nat) (h : ∀ c ∈ xs, c < 64) (k : Nat) : maskM (xs.take k) < 18446744073709551616 := maskM_lt _ fun c hc => h c (List.mem_of_mem_take hc)
theorem u64_put (s c : Nat) (hs : s < 18446744073709551616) (hc : c < 64) : bits .or .u64 (s : Int) (IntKind.u64.wrap ((2 : Int) ^ c)) = ((s ||| 2 ^ c : Nat) : Int) := by
  have h2 : 2 ^ c < 18446744073709551616 := Nat.pow_lt_pow_right (by decide) hc
  have e : ((2 : Int) ^ c) = ((2 ^ c : Nat) : Int) := by simp
  rw [e]
  generalize 2 ^ c = q at h2 ⊢
  rw [wrap_u64 _ (by omega) (by omega)]
  exact (bits_nat .u64 64 (by decide) wrap_u64 s q hs h2).2


/-- The neighbours of a cell that have a sign. -/
def signB (cells : List UInt8) (s : UInt8) (k : Nat) : Bool := cells.getD k 0 == s
def nrS (cells : List UInt8) (W c : Nat) (s : UInt8) : List Nat := (nearM W cells.length c).filter (signB cells s)
theorem nearGo_rise (W c : Nat) : ∀ (m k : Nat), (nearGo W c k m).Pairwise (· < ·) ∧ ∀ o ∈ nearGo W c k m, k ≤ o
  | 0, _ => by simp [nearGo]
  | m + 1, k => by
    obtain ⟨h1, h2⟩ := nearGo_rise W c m (k + 1)
    unfold nearGo
    split
    · refine ⟨List.pairwise_cons.2 ⟨fun o ho => by have := h2 o ho; omega, h1⟩, fun o ho => ?_⟩
      rcases List.mem_cons.1 ho with rfl | ho
      · exact Nat.le_refl _
      · have := h2 o ho; omega
    · exact ⟨h1, fun o ho => by have := h2 o ho; omega⟩
theorem nearM_rise (W n c : Nat) : (nearM W n c).Pairwise (· < ·) := (nearGo_rise W c n 0).1
theorem nrS_rise (cells : List UInt8) (W c : Nat) (s : UInt8) : (nrS cells W c s).Pairwise (· < ·) := List.Pairwise.filter _ (nearM_rise _ _ _)
theorem nrS_lt {cells : List UInt8} {W c : Nat} {s : UInt8} {x : Nat} (h : x ∈ nrS cells W c s) : x < cells.length := nearM_lt _ _ _ _ (List.mem_filter.1 h).1
theorem nrS_le (cells : List UInt8) (W c : Nat) (s : UInt8) : (nrS cells W c s).length ≤ cells.length := Nat.le_trans (List.length_filter_le _ _) (nearM_le _ _ _)
theorem nrS_sign {cells : List UInt8} {W c : Nat} {s : UInt8} {x : Nat} (h : x ∈ nrS cells W c s) : cells.getD x 0 = s := by
  have := (List.mem_filter.1 h).2
  simpa [signB] using this
theorem filter_step {p : Nat → Bool} (N : List Nat) (k : Nat) (hk : k < N.length) : (N.take (k + 1)).filter p = (N.take k).filter p ++ (if p N[k] = true then [N[k]] else []) := by
  rw [List.take_succ_eq_append_getElem hk, List.filter_append]
  by_cases h : p N[k] = true <;> simp [h]
theorem nrS_mask {cells : List UInt8} (W c : Nat) (s : UInt8) (h : cells.length ≤ 64) : bitsM (maskM (nrS cells W c s)) = nrS cells W c s :=
  bitsM_mask (nrS_rise _ _ _ _) fun x hx => by have := nrS_lt hx; omega
theorem nrS_mlt {cells : List UInt8} (W c : Nat) (s : UInt8) (h : cells.length ≤ 64) : maskM (nrS cells W c s) < 18446744073709551616 :=
  maskM_lt _ fun x hx => by have := nrS_lt hx; omega
theorem hidM_mask {cells : List UInt8} (h : cells.length ≤ 64) : bitsM (maskM (hidM cells)) = hidM cells :=
  bitsM_mask (List.Pairwise.filter _ List.pairwise_lt_range) fun x hx => by have := hidM_lt _ _ hx; omega
theorem hidM_mlt {cells : List UInt8} (h : cells.length ≤ 64) : maskM (hidM cells) < 18446744073709551616 :=
  maskM_lt _ fun x hx => by have := hidM_lt _ _ hx; omega

set_option maxRecDepth 100000 in
set_option maxHeartbeats 1600000 in
theorem unknownNear_any (W H : Nat) (a : Option Addr) (cells : List UInt8) (cap : Nat) (c : Nat) (w : World) (hat : At w a (byts cells)) (hW : 1 ≤ W) (hc : c < cells.length) (hn : cells.length ≤ 64) :
    Calls Tryd.prog 55 #[.agg #[.int .i64 W, .int .i64 H, .slice a cells.length cap, .bool false], .int .i64 c] w fun e w' => e = .returned (.int .u64 (maskM (nrS cells W c 63) : Nat)) ∧ Below w.heap.size w w' := by
  have hNlt : ∀ o ∈ nearM W cells.length c, o < cells.length := fun o ho => nearM_lt _ _ _ _ ho
  have hNle := nearM_le W cells.length c
  have hT : Hid (nrS cells W c 63 = (nearM W cells.length c).filter (unsB cells)) := rfl
  go_enter Tryd.func55, Tryd.ntmps55
  go_wp2_with fail
  have hG1 : (w.alloc (.cells #[.int .i64 W, .int .i64 H, .slice a cells.length cap, .bool false] 46)).heap[w.heap.size]? = some (.cells #[.int .i64 W, .int .i64 H, .slice a cells.length cap, .bool false] 46 (0, 0)) := heap_alloc_new w _
  have hw0 : Below w.heap.size w (w.alloc (.cells #[.int .i64 W, .int .i64 H, .slice a cells.length cap, .bool false] 46)) := (Below.refl _ _).alloc (Nat.le_refl _) _
  have hs0 : w.heap.size < (w.alloc (.cells #[.int .i64 W, .int .i64 H, .slice a cells.length cap, .bool false] 46)).heap.size := by simp
  generalize w.alloc (.cells #[.int .i64 W, .int .i64 H, .slice a cells.length cap, .bool false] 46) = w0 at *
  refine (neighbours_any W H a cells.length cap c _ hW (by omega) hn).mono ?_
  rintro e w1 ⟨a1, cap1, rfl, hown, hb1⟩
  have hatN : At w1 a1 (nats (nearM W cells.length c)) := hown.at
  have hat1 : At w1 a (byts cells) := (hat.later rfl hw0).later rfl hb1
  have s1 := hb1.size
  have hG2 : Hid (w1.heap[w.heap.size]? = some (.cells #[.int .i64 W, .int .i64 H, .slice a cells.length cap, .bool false] 46 (0, 0))) := by rw [Hid, hb1.block _ hs0]; exact hG1
  have hb01 : Below w.heap.size w w1 := hw0.trans (hb1.mono (by omega))
  clear hown hG1
  generalize nearM W cells.length c = N at *
  generalize hGG : w.heap.size = G at *
  have HGG := Lib.hid hGG
  clear hGG
  go_wp2_with fail
  go_loopw [5, 12] (fun q i wr => ∃ k : Nat, k ≤ N.length ∧ i = .int .i64 k ∧ q = .int .u64 (maskM ((N.take k).filter (unsB cells)) : Nat) ∧ Below w1.heap.size w1 wr) (fun _ i _ => N.length - (intOf i).toNat)
  case atStart => exact ⟨0, Nat.zero_le _, rfl, rfl, Below.refl _ _⟩
  case round =>
    obtain ⟨k, hk, rfl, rfl, hb⟩ := hrel
    have sr := hb.size
    by_cases hlt : k < N.length
    · have hGr : wr.heap[G]? = some (.cells #[.int .i64 W, .int .i64 H, .slice a cells.length cap, .bool false] 46 (0, 0)) := by rw [hb.block _ (by omega)]; exact hG2.out
      have hf0 := cell_of_block hGr 0
      have hf1 := cell_of_block hGr 1
      have hf2 := cell_of_block hGr 2
      have hf3 := cell_of_block hGr 3
      simp at hf0 hf1 hf2 hf3
      clear hGr
      have hatr : At wr a (byts cells) := hat1.later rfl hb
      obtain ⟨b, off, he, hcell⟩ := nats_at (hatN.later rfl hb) k hlt
      subst he
      have HS := Lib.hid (filter_step (p := unsB cells) N k hlt)
      have ho := hNlt _ (List.getElem_mem hlt)
      have hm : maskM ((N.take k).filter (unsB cells)) < 18446744073709551616 := maskM_lt _ fun x hx => by have := hNlt x (List.mem_of_mem_take (List.mem_filter.1 hx).1); omega
      generalize N[k] = o at *
      have hu := isUnseen_any W H a cells cap o wr hatr ho hn
      cases h63 : unsB cells o with
      | true =>
        rw [h63] at hu
        have H63 := Lib.hid h63
        have HU := Lib.hid (u64_put _ o hm (by omega))
        clear h63
        go_wp2_with (go_at_call 73; refine hu.mono ?_; rintro e w2 ⟨rfl, hb2⟩)
        go_roundw
        case rel => exact ⟨k + 1, by omega, by go_num, by rw [HS.out, if_pos H63.out, maskM_snoc, HU.out], hb.trans (hb2.mono sr)⟩
        case measure => simp [intOf]; omega
      | false =>
        rw [h63] at hu
        have H63 := Lib.hid h63
        clear h63
        go_wp2_with (go_at_call 73; refine hu.mono ?_; rintro e w2 ⟨rfl, hb2⟩)
        go_roundw
        case rel => exact ⟨k + 1, by omega, by go_num, by rw [HS.out, if_neg (by rw [H63.out]; decide), List.append_nil], hb.trans (hb2.mono sr)⟩
        case measure => simp [intOf]; omega
    · obtain rfl : k = N.length := by omega
      go_wp2_with fail
      go_ret
      rw [HGG.out]
      exact ⟨by rw [hT.out, List.take_length]; rfl, hb01.trans (hb.mono (by omega))⟩

end Go.Proofs.YthlbplmghjaeoacDoor

/- Notes: their unknown cells, the unknown neighbours of a cell, whether none is unknown: by the program and by the model. -/
namespace Go.Proofs.YthlbplmghjaeoacDoor
open Go.RowKit

/-- What the functions hand back. -/
def unkOf (l : List UInt8) : List Nat := hidM (grC noteSign l)
def dnOK (l : List UInt8) : Bool := gridM noteSign l && (maskM (hidM (grC noteSign l)) == 0)
def unOf (l : List UInt8) (c : Int) : List Nat := if inC (grC noteSign l).length c = true then nrS (grC noteSign l) (grW noteSign l) c.toNat 63 else []
theorem unkOf_len (l : List UInt8) : (unkOf l).length ≤ 1048576 := Nat.le_trans (filtM_le _ _) (Nat.le_trans (grC_le noteSign l) (by decide))
theorem unOf_len (l : List UInt8) (c : Int) : (unOf l c).length ≤ 1048576 := by
  unfold unOf
  split
  · exact Nat.le_trans (nrS_le _ _ _ _) (Nat.le_trans (grC_le noteSign l) (by decide))
  · simp
theorem mask_nil {cells : List UInt8} (h : cells.length ≤ 64) : maskM (hidM cells) = 0 ↔ (hidM cells).length = 0 := by
  rw [← bitsM_nil (hidM_mlt h), hidM_mask h, List.length_eq_zero_iff]
theorem grC_none {p : UInt8 → Bool} {l : List UInt8} (h : gridM p l = false) : grC p l = [] := by rw [grC, h]; rfl

/-- What is known of the library's variables. -/
structure HasLib (w : World) : Prop where
  max : HasMax w
  tab : HasTab w
theorem HasLib.later {w w' : World} (h : HasLib w) (hb : Below w.heap.size w w') : HasLib w' := ⟨h.max.later hb, h.tab.later hb⟩





end Go.Proofs.YthlbplmghjaeoacDoor

/- Notes: the model's neighbours of a cell with a sign, and a cell that there is. -/
namespace Go.Proofs.YthlbplmghjaeoacDoor
open Go.RowKit

theorem inB_in (n : Nat) (c : Int) : inB c 0 ((n : Int) - 1) = inC n c := by
  simp only [inB, inC]
  congr 1
  exact decide_eq_decide.2 (by omega)
theorem l1In_cell (n : Nat) (c : Int) (w : World) : Calls Tryd.prog 60 #[.int .i64 c, .int .i64 0, .int .i64 ((n : Int) - 1)] w fun e w' => e = .returned (.bool (inC n c)) ∧ w = w' := by
  rw [← inB_in]
  exact l1In_any _ _ _ _

set_option maxRecDepth 100000 in
set_option maxHeartbeats 800000 in
theorem ruCell_any (l : List UInt8) (c : Int) (w : World) (hl : l.length ≤ 1048576) :
    Calls Tryd.prog 43 #[.string ⟨l.toArray⟩, .int .i64 c] w fun e w' => e = .returned (.bool (inC (grC noteSign l).length c)) ∧ Below w.heap.size w w' := by
  have h1 := fun w => ruGood_any l w hl
  cases hg : gridM noteSign l with
  | true =>
    rw [hg] at h1
    have hc : grC noteSign l = cellsM l := by rw [grC, if_pos hg]
    have hin := Lib.hid (fun w => l1In_cell (cellsM l).length c w)
    have hcl := cellsM_le l
    rw [hc]
    clear hg hc
    generalize hcc : (cellsM l).length = n at *
    have HCC := Lib.hid hcc
    go_enter Tryd.func43, Tryd.ntmps43
    go_wp2_with fail
    refine (h1 _).mono ?_
    rintro e w1 ⟨rfl, hb⟩
    go_wp2_with fail
    refine (boCells_any l _ hl).mono ?_
    rintro e w2 ⟨rfl, rfl⟩
    go_wp2_with fail
    refine (hin.out _).mono ?_
    rintro e w2 ⟨rfl, rfl⟩
    go_wp2_with fail
    go_ret
    exact ⟨rfl, hb⟩
  | false =>
    rw [hg] at h1
    have HO : Hid (inC (grC noteSign l).length c = false) := by rw [Hid, grC_none hg]; simp [inC]
    clear hg
    go_enter Tryd.func43, Tryd.ntmps43
    go_wp2_with (go_at_call 31; refine (h1 _).mono ?_; rintro e w1 ⟨rfl, hb⟩)
    go_ret
    exact ⟨by rw [HO.out]; rfl, hb⟩

theorem sign_eq (cells : List UInt8) (s : UInt8) (k : Nat) (hk : k < cells.length) : ((cells[k].toNat : Int) == (s.toNat : Int)) = signB cells s k := by
  rw [u8_eq_int]
  have e : cells.getD k 0 = cells[k] := by simp [List.getD, hk]
  rw [signB, e]
  by_cases h : cells[k] = s <;> simp [h]

set_option maxRecDepth 100000 in
set_option maxHeartbeats 1600000 in
theorem ruNear_any (l : List UInt8) (W H : Nat) (cells : List UInt8) (hB : Grd l W H cells) (c : Nat) (hc : c < cells.length) (s : UInt8) (si : Int) (hsi : si = (s.toNat : Int)) (w : World) (hl : l.length ≤ 1048576) :
    Calls Tryd.prog 46 #[.string ⟨l.toArray⟩, .int .i64 c, .int .u8 si] w fun e w' => ∃ a cap, e = .returned (.slice a (nrS cells W c s).length cap) ∧ Owns w' w.heap.size 3 (.slice a (nrS cells W c s).length cap) (nats (nrS cells W c s)) ∧ Below w.heap.size w w' := by
  subst hsi
  obtain ⟨hsz, hcs, hw1, hw8, hh1, hh8, hlen⟩ := hB
  have hn := Grd.n64 ⟨hsz, hcs, hw1, hw8, hh1, hh8, hlen⟩
  have hne := near_eq W H c hw8 hh8 (by omega)
  rw [← hlen] at hne
  have hNlt : ∀ o ∈ nearM W cells.length c, o < cells.length := fun o ho => nearM_lt _ _ _ _ ho
  have hNle := nearM_le W cells.length c
  have hT : Hid (nrS cells W c s = (nearM W cells.length c).filter (signB cells s)) := rfl
  have hz := fun w => boSize_any l w hl
  rw [hsz] at hz
  have hbc := fun w => boCells_any l w hl
  rw [hcs] at hbc
  have HNE := Lib.hid hne
  have HLN := Lib.hid hlen
  clear hne hsz hcs hlen
  go_enter Tryd.func46, Tryd.ntmps46
  go_wp2_with fail
  refine (hz _).mono ?_
  rintro e w1 ⟨rfl, hb⟩
  go_wp2_with fail
  refine (hbc _).mono ?_
  rintro e w2 ⟨rfl, rfl⟩
  have s1 := hb.size
  go_wp2_with fail
  refine (boNear_any W H c _ ⟨hw1, hw8⟩ hh8 (by omega)).mono ?_
  rintro e w2 ⟨a, cap, rfl, hown, hb2⟩
  rw [HNE.out] at hown ⊢
  have hat : At w2 a (nats (nearM W cells.length c)) := hown.at
  have s2 := hb2.size
  have hbw := hb.trans (hb2.mono s1)
  simp only [List.length_map]
  clear HNE hown
  generalize nearM W cells.length c = N at *
  go_wp2_with fail
  go_loopw [10, 25] (fun v i wr => ∃ k : Nat, k ≤ N.length ∧ i = .int .i64 k ∧ Owns wr w2.heap.size 3 v (nats ((N.take k).filter (signB cells s))) ∧ Below w2.heap.size w2 wr) (fun _ i _ => N.length - (intOf i).toNat)
  case atStart => exact ⟨0, Nat.zero_le _, rfl, Owns.nil _ _ _, Below.refl _ _⟩
  case round =>
    obtain ⟨k, hk, rfl, hown, hbr⟩ := hrel
    have sr := hbr.size
    by_cases hlt : k < N.length
    · obtain ⟨b, off, he, hcell⟩ := nats_at (hat.later rfl hbr) k hlt
      subst he
      have HS := Lib.hid (filter_step (p := signB cells s) N k hlt)
      have ho := hNlt _ (List.getElem_mem hlt)
      have hfl : ((N.take k).filter (signB cells s)).length ≤ 64 := Nat.le_trans (List.length_filter_le _ _) (by simp; omega)
      generalize N[k] = o at *
      have hsg := sign_eq cells s o ho
      cases hs : signB cells s o with
      | true =>
        rw [hs] at hsg
        have H63 := Lib.hid hs
        clear hs
        go_wp2_with (at_builtin; refine wpList_app1 rfl _ _ _ rfl _ _ _ _ elemInt _ _ _ _ rfl rfl rfl hown rfl (by simp; omega) sr (by simp; omega) ?_; intro v1 w3 hown1 hb3 hs3)
        rw [nats_snoc] at hown1
        go_roundw
        case rel => exact ⟨k + 1, by omega, by go_num, by rw [HS.out, if_pos H63.out]; exact hown1, hbr.trans hb3⟩
        case measure => simp [intOf]; omega
      | false =>
        rw [hs] at hsg
        have H63 := Lib.hid hs
        clear hs
        go_wp2_with fail
        go_roundw
        case rel => exact ⟨k + 1, by omega, by go_num, by rw [HS.out, if_neg (by rw [H63.out]; decide), List.append_nil]; exact hown, hbr⟩
        case measure => simp [intOf]; omega
    · obtain rfl : k = N.length := by omega
      go_wp2_with fail
      go_ret
      rw [List.take_length, ← hT.out] at hown
      obtain ⟨a', cap', hv⟩ := hown.shape
      simp only [nats_length] at hv
      exact ⟨a', cap', by rw [← hv]; rfl, by rw [← hv]; exact hown.mono hbw.size, hbw.trans (hbr.mono hbw.size)⟩

end Go.Proofs.YthlbplmghjaeoacDoor
