/- S2, S3, S4, laid as one text. -/
import Derived.Test.YthlbplmghjaeoaaDoorS1
import Derived.Outline

/- Walks: the model's size of a board and what is none. -/
namespace Go.Proofs.YthlbplmghjaeoaaDoor
open Go.RowKit

def allLen (n : Nat) : List (List UInt8) → Bool
  | [] => true
  | r :: rs => if r.length = n then allLen n rs else false
def headLen (rows : List (List UInt8)) : Nat := (rows.headD []).length
def szOf (rows : List (List UInt8)) : Nat × Nat :=
  if allLen (headLen rows) rows = true ∧ rows.length ≤ 8 ∧ 1 ≤ headLen rows ∧ headLen rows ≤ 8 then (headLen rows, rows.length) else (0, 0)
def boSizeM (l : List UInt8) : Nat × Nat := szOf (splitB 47 l)

set_option maxRecDepth 100000 in
set_option maxHeartbeats 800000 in
theorem boSize_any (l : List UInt8) (w : World) (hl : l.length ≤ 1048576) :
    Calls Tryd.prog 31 #[.string ⟨l.toArray⟩] w fun e w' => e = .returned (.tuple #[.int .i64 (boSizeM l).1, .int .i64 (boSizeM l).2]) ∧ Below w.heap.size w w' := by
  go_enter Tryd.func31, Tryd.ntmps31
  go_wp2_with fail
  refine (l1Split_any l 47 _ rfl _ hl).mono ?_
  rintro e w1 ⟨a, cap, rfl, hown, hb⟩
  have hpos := splitB_pos 47 l
  have hle := splitB_le 47 l
  have hpart := splitB_part 47 l
  have HM : Hid (boSizeM l = szOf (splitB 47 l)) := rfl
  generalize splitB 47 l = rows at *
  have hat := hown.at
  obtain ⟨b0, off0, rfl, hc0⟩ := txts_at hat 0 hpos
  simp only [Nat.add_zero] at hc0
  have hh : Hid (headLen rows = rows[0].length) := by cases rows with | nil => simp at hpos | cons x r => simp [Hid, headLen]
  have hp0 := hpart 0 hpos
  have hb0 := hb
  have hw1 : w.heap.size ≤ w1.heap.size := hb.size
  go_wp2_with fail
  go_loop [11] (fun i => ∃ k : Nat, k ≤ rows.length ∧ i = .int .i64 k ∧ Hid (allLen rows[0].length rows = allLen rows[0].length (rows.drop k))) (fun i => rows.length - (intOf i).toNat)
  case atStart => exact ⟨0, Nat.zero_le _, rfl, rfl⟩
  case round =>
    obtain ⟨k, hk, rfl, hno⟩ := hrel
    by_cases hlt : k < rows.length
    · obtain ⟨b1, off1, he1, hc1⟩ := txts_at hat k hlt
      simp only [Option.some.injEq, Addr.mk.injEq, and_true] at he1
      obtain ⟨rfl, rfl⟩ := he1
      have hpk := hpart k hlt
      have Ht := Lib.hid (List.drop_eq_getElem_cons hlt)
      by_cases hq : rows[k].length = rows[0].length
      · have hd : ((rows[k].length : Int) != (rows[0].length : Int)) = false := by simp [hq]
        have Hq := Lib.hid hq
        clear hq
        go_wp2_with fail
        go_round
        case rel => exact ⟨k + 1, by omega, by go_num, by rw [Hid, hno.out, Ht.out, allLen, if_pos Hq.out]⟩
        case measure => simp [intOf]; omega
      · have hd : ((rows[k].length : Int) != (rows[0].length : Int)) = true := by simp; omega
        go_wp2_with fail
        go_ret2
        have hall : allLen rows[0].length rows = false := by rw [hno.out, Ht.out, allLen, if_neg hq]
        exact ⟨by rw [HM.out, szOf, hh.out]; simp [hall], hb0⟩
    · have hall : Hid (allLen rows[0].length rows = true) := by rw [Hid, hno.out, List.drop_of_length_le (by omega)]; rfl
      clear hno
      by_cases h8 : rows.length ≤ 8
      · have d1 : inB (rows.length : Int) 1 8 = true := by simp [inB]; omega
        by_cases hw8 : 1 ≤ rows[0].length ∧ rows[0].length ≤ 8
        · have d2 : inB (rows[0].length : Int) 1 8 = true := by simp [inB]; omega
          go_wp2_with (go_at_call 38; refine (l1In_any _ _ _ _).mono ?_; rintro e w' ⟨rfl, rfl⟩)
          go_ret2
          exact ⟨by rw [HM.out, szOf, hh.out]; simp [hall.out, h8, hw8], hb0⟩
        · have d2 : inB (rows[0].length : Int) 1 8 = false := by simp [inB]; omega
          go_wp2_with (go_at_call 38; refine (l1In_any _ _ _ _).mono ?_; rintro e w' ⟨rfl, rfl⟩)
          go_ret2
          exact ⟨by rw [HM.out, szOf, hh.out]; simp [hall.out, h8, hw8], hb0⟩
      · have d1 : inB (rows.length : Int) 1 8 = false := by simp [inB]; omega
        go_wp2_with (go_at_call 38; refine (l1In_any _ _ _ _).mono ?_; rintro e w' ⟨rfl, rfl⟩)
        go_ret2
        exact ⟨by rw [HM.out, szOf, hh.out]; simp [hall.out, h8], hb0⟩
end Go.Proofs.YthlbplmghjaeoaaDoor

/- Walks: the model's boards, cells and mines. -/
namespace Go.Proofs.YthlbplmghjaeoaaDoor
open Go.RowKit

def okSign (c : UInt8) : Bool := c == 46 || c == 42 || c == 47
theorem okSign_no {c : UInt8} (h1 : ¬ (c == 46) = true) (h2 : ¬ (c == 42) = true) (h3 : ¬ (c == 47) = true) : ¬ okSign c = true := by simp_all [okSign]
def okSigns : List UInt8 → Bool
  | [] => true
  | c :: r => if okSign c = true then okSigns r else false
def boGoodM (l : List UInt8) : Bool := if l.length ≤ 72 then (if (boSizeM l).1 = 0 then false else okSigns l) else false

theorem byte_beq (x : UInt8) (n : Nat) (h : n < 256) : ((x.toNat : Int) == (n : Int)) = (x == UInt8.ofNat n) := by
  have := u8_eq_int x (UInt8.ofNat n)
  have e : (UInt8.ofNat n).toNat = n := by simp; omega
  rw [e] at this
  rw [this]
  by_cases hx : x = UInt8.ofNat n <;> simp [hx]

set_option maxRecDepth 100000 in
set_option maxHeartbeats 800000 in
theorem boGood_any (l : List UInt8) (w : World) (hl : l.length ≤ 1048576) :
    Calls Tryd.prog 60 #[.string ⟨l.toArray⟩] w fun e w' => e = .returned (.bool (boGoodM l)) ∧ Below w.heap.size w w' := by
  by_cases h72 : l.length ≤ 72
  · go_enter Tryd.func60, Tryd.ntmps60
    go_wp2_with fail
    refine (boSize_any l _ hl).mono ?_
    rintro e w1 ⟨rfl, hb⟩
    by_cases h0 : (boSizeM l).1 = 0
    · have d0 : (((boSizeM l).1 : Int) == 0) = true := by simp [h0]
      have H0 := Lib.hid h0
      clear h0
      go_wp2_with fail
      go_ret
      exact ⟨by simp [boGoodM, h72, H0.out], hb⟩
    · have d0 : (((boSizeM l).1 : Int) == 0) = false := by simp [h0]
      have H0 := Lib.hid h0
      clear h0
      go_wp2_with fail
      go_loop [5] (fun i => ∃ k : Nat, k ≤ l.length ∧ i = .int .i64 k ∧ Hid (okSigns l = okSigns (l.drop k))) (fun i => l.length - (intOf i).toNat)
      case atStart => exact ⟨0, Nat.zero_le _, rfl, rfl⟩
      case round =>
        obtain ⟨k, hk, rfl, hno⟩ := hrel
        by_cases hlt : k < l.length
        · have Ht := Lib.hid (List.drop_eq_getElem_cons hlt)
          have q1 := byte_beq l[k] 46 (by omega)
          have q2 := byte_beq l[k] 42 (by omega)
          have q3 := byte_beq l[k] 47 (by omega)
          by_cases c1 : (l[k] == 46) = true
          · have d1 : ((l[k].toNat : Int) != 46) = false := by simp only [bne]; rw [show ((46 : Int)) = ((46 : Nat) : Int) from rfl, q1]; simpa using c1
            have C1 := Lib.hid c1
            clear c1 q1 q2 q3
            go_wp2_with fail
            go_round
            case rel => exact ⟨k + 1, by omega, by go_num, by rw [Hid, hno.out, Ht.out, okSigns, if_pos (by rw [okSign, C1.out]; rfl)]⟩
            case measure => simp [intOf]; omega
          · have d1 : ((l[k].toNat : Int) != 46) = true := by simp only [bne]; rw [show ((46 : Int)) = ((46 : Nat) : Int) from rfl, q1]; simpa using c1
            have C1 := Lib.hid c1
            clear c1 q1
            by_cases c2 : (l[k] == 42) = true
            · have d2 : ((l[k].toNat : Int) != 42) = false := by simp only [bne]; rw [show ((42 : Int)) = ((42 : Nat) : Int) from rfl, q2]; simpa using c2
              have C2 := Lib.hid c2
              clear c2 q2 q3
              go_wp2_with fail
              go_round
              case rel => exact ⟨k + 1, by omega, by go_num, by rw [Hid, hno.out, Ht.out, okSigns, if_pos (by rw [okSign, C2.out]; simp)]⟩
              case measure => simp [intOf]; omega
            · have d2 : ((l[k].toNat : Int) != 42) = true := by simp only [bne]; rw [show ((42 : Int)) = ((42 : Nat) : Int) from rfl, q2]; simpa using c2
              have C2 := Lib.hid c2
              clear c2 q2
              by_cases c3 : (l[k] == 47) = true
              · have d3 : ((l[k].toNat : Int) != 47) = false := by simp only [bne]; rw [show ((47 : Int)) = ((47 : Nat) : Int) from rfl, q3]; simpa using c3
                have C3 := Lib.hid c3
                clear c3 q3
                go_wp2_with fail
                go_round
                case rel => exact ⟨k + 1, by omega, by go_num, by rw [Hid, hno.out, Ht.out, okSigns, if_pos (by rw [okSign, C3.out]; simp)]⟩
                case measure => simp [intOf]; omega
              · have d3 : ((l[k].toNat : Int) != 47) = true := by simp only [bne]; rw [show ((47 : Int)) = ((47 : Nat) : Int) from rfl, q3]; simpa using c3
                have C3 := Lib.hid c3
                clear c3 q3
                go_wp2_with fail
                go_ret
                exact ⟨by rw [boGoodM, if_pos h72, if_neg H0.out, hno.out, Ht.out, okSigns, if_neg (okSign_no C1.out C2.out C3.out)]; rfl, hb⟩
        · go_wp2_with fail
          go_ret
          exact ⟨by rw [boGoodM, if_pos h72, if_neg H0.out, hno.out, List.drop_of_length_le (by omega)]; rfl, hb⟩
  · have h72' : 72 < l.length := by omega
    have h0 : boGoodM l = false := by rw [boGoodM, if_neg h72]
    clear h72
    go_enter Tryd.func60, Tryd.ntmps60
    go_wp2_with fail
    go_ret
    exact ⟨by rw [h0]; rfl, Below.refl _ _⟩

theorem boGood_len {l : List UInt8} (h : boGoodM l = true) : l.length ≤ 72 := by
  unfold boGoodM at h
  by_cases h72 : l.length ≤ 72
  · exact h72
  · simp [h72] at h

/-- The cells of a text: all signs but the breaks. -/
def cellsM (l : List UInt8) : List UInt8 := l.filter (· != 47)
theorem cellsM_snoc (l : List UInt8) (k : Nat) (hk : k < l.length) : cellsM (l.take (k + 1)) = cellsM (l.take k) ++ (if (l[k] == 47) = true then [] else [l[k]]) := by
  rw [List.take_succ_eq_append_getElem hk, cellsM, List.filter_append]
  by_cases h : l[k] = 47 <;> simp [cellsM, h]
theorem cellsM_le (l : List UInt8) : (cellsM l).length ≤ l.length := List.length_filter_le _ _

set_option maxRecDepth 100000 in
set_option maxHeartbeats 800000 in
theorem boCells_any (l : List UInt8) (w : World) (hl : l.length ≤ 1048576) :
    Calls Tryd.prog 57 #[.string ⟨l.toArray⟩] w fun e w' => e = .returned (.string ⟨(cellsM l).toArray⟩) ∧ w = w' := by
  go_enter Tryd.func57, Tryd.ntmps57
  go_wp2_with fail
  go_loop [3, 4] (fun o i => ∃ k : Nat, k ≤ l.length ∧ i = .int .i64 k ∧ o = .string ⟨(cellsM (l.take k)).toArray⟩) (fun _ i => l.length - (intOf i).toNat)
  case atStart => exact ⟨0, Nat.zero_le _, rfl, rfl⟩
  case round =>
    obtain ⟨k, hk, rfl, rfl⟩ := hrel
    have hle : (cellsM (l.take k)).length ≤ l.length := Nat.le_trans (cellsM_le _) (by simp; omega)
    by_cases hlt : k < l.length
    · have Hs := Lib.hid (cellsM_snoc l k hlt)
      have q := byte_beq l[k] 47 (by omega)
      by_cases c1 : (l[k] == 47) = true
      · have d1 : ((l[k].toNat : Int) != 47) = false := by simp only [bne]; rw [show ((47 : Int)) = ((47 : Nat) : Int) from rfl, q]; simpa using c1
        have C1 := Lib.hid c1
        clear c1 q
        go_wp2_with fail
        go_round
        case rel => exact ⟨k + 1, by omega, by go_num, by rw [Hs.out, if_pos C1.out]; simp⟩
        case measure => simp [intOf]; omega
      · have d1 : ((l[k].toNat : Int) != 47) = true := by simp only [bne]; rw [show ((47 : Int)) = ((47 : Nat) : Int) from rfl, q]; simpa using c1
        have C1 := Lib.hid c1
        have e1 : Hid ((l.drop k).take 1 = [l[k]]) := by
          rw [Hid, List.drop_eq_getElem_cons hlt]; rfl
        clear c1 q
        generalize cellsM (l.take k) = acc at *
        go_wp2_with fail
        go_round
        case rel => exact ⟨k + 1, by omega, by go_num, by rw [Hs.out, if_neg C1.out, e1.out]⟩
        case measure => simp [intOf]; omega
    · obtain rfl : k = l.length := by omega
      go_wp2_with fail
      go_ret
      exact ⟨by simp, rfl⟩
end Go.Proofs.YthlbplmghjaeoaaDoor

/- Walks: the model's mines of a text. -/
namespace Go.Proofs.YthlbplmghjaeoaaDoor
open Go.RowKit

/-- The places of a sign in a text, told from i on. -/
def placesGo (b : UInt8) (i : Nat) : List UInt8 → List Nat
  | [] => []
  | c :: r => if c = b then i :: placesGo b (i + 1) r else placesGo b (i + 1) r
def places (b : UInt8) (l : List UInt8) : List Nat := placesGo b 0 l
theorem placesGo_le (b : UInt8) : ∀ (l : List UInt8) (i : Nat), (placesGo b i l).length ≤ l.length
  | [], _ => by simp [placesGo]
  | c :: r, i => by
    have := placesGo_le b r (i + 1)
    unfold placesGo; split <;> simp <;> omega
theorem places_le (b : UInt8) (l : List UInt8) : (places b l).length ≤ l.length := placesGo_le b l 0
theorem mem_placesGo (b : UInt8) : ∀ (l : List UInt8) (i k : Nat), k ∈ placesGo b i l ↔ i ≤ k ∧ l[k - i]? = some b
  | [], i, k => by simp [placesGo]
  | c :: r, i, k => by
    have ih := mem_placesGo b r (i + 1) k
    have e : ∀ h : i < k, (c :: r)[k - i]? = r[k - (i + 1)]? := fun h => by
      rw [show k - i = (k - (i + 1)) + 1 by omega, List.getElem?_cons_succ]
    have e0 : k = i → (c :: r)[k - i]? = some c := fun h => by rw [h, Nat.sub_self]; rfl
    unfold placesGo
    by_cases hc : c = b
    · rw [if_pos hc, List.mem_cons, ih]
      rcases Nat.lt_trichotomy k i with h | h | h
      · constructor
        · rintro (h2 | h2) <;> omega
        · rintro ⟨h2, _⟩; omega
      · rw [e0 h, hc]
        exact ⟨fun _ => ⟨by omega, rfl⟩, fun _ => .inl h⟩
      · rw [e h]
        exact ⟨fun q => ⟨by omega, (q.resolve_left (by omega)).2⟩, fun q => .inr ⟨h, q.2⟩⟩
    · rw [if_neg hc, ih]
      rcases Nat.lt_trichotomy k i with h | h | h
      · exact ⟨fun q => by omega, fun q => by omega⟩
      · rw [e0 h]
        exact ⟨fun q => by omega, fun q => absurd (Option.some.inj q.2) hc⟩
      · rw [e h]
        exact ⟨fun q => ⟨by omega, q.2⟩, fun q => ⟨h, q.2⟩⟩
theorem placesGo_rise (b : UInt8) : ∀ (l : List UInt8) (i : Nat), (placesGo b i l).Pairwise (· < ·) ∧ ∀ x ∈ placesGo b i l, i ≤ x
  | [], _ => by simp [placesGo]
  | c :: r, i => by
    have ih := placesGo_rise b r (i + 1)
    unfold placesGo
    split
    · refine ⟨List.pairwise_cons.2 ⟨fun x hx => by have := ih.2 x hx; omega, ih.1⟩, ?_⟩
      intro x hx
      rcases List.mem_cons.1 hx with rfl | hx
      · exact Nat.le_refl _
      · have := ih.2 x hx; omega
    · exact ⟨ih.1, fun x hx => by have := ih.2 x hx; omega⟩
/-- Numbers as a row of ints. -/
def nats (xs : List Nat) : List Value := ints (xs.map Int.ofNat)
@[simp] theorem nats_length (xs : List Nat) : (nats xs).length = xs.length := by simp [nats]
theorem nats_snoc (xs : List Nat) (x : Nat) : nats xs ++ [.int .i64 (x : Int)] = nats (xs ++ [x]) := by simp [nats, ints]

set_option maxRecDepth 100000 in
set_option maxHeartbeats 800000 in
theorem boMines_any (l : List UInt8) (b : UInt8) (c : Int) (hc : c = (b.toNat : Int)) (w : World) (hl : l.length ≤ 1048576) :
    Calls Tryd.prog 56 #[.string ⟨l.toArray⟩, .int .u8 c] w fun e w' => ∃ a cap, e = .returned (.slice a (places b l).length cap) ∧ Owns w' w.heap.size 3 (.slice a (places b l).length cap) (nats (places b l)) ∧ Below w.heap.size w w' := by
  subst hc
  go_enter Tryd.func56, Tryd.ntmps56
  go_wp2_with fail
  go_loopw [5, 6] (fun v i wr => ∃ k : Nat, k ≤ l.length ∧ i = .int .i64 k ∧ ∃ acc : List Nat, acc.length ≤ k ∧ Owns wr w.heap.size 3 v (nats acc) ∧ Below w.heap.size w wr ∧ Hid (places b l = acc ++ placesGo b k (l.drop k))) (fun _ i _ => l.length - (intOf i).toNat)
  case atStart => exact ⟨0, Nat.zero_le _, rfl, [], by simp, Owns.nil _ _ _, Below.refl _ _, by simp [Hid, places]⟩
  case round =>
    obtain ⟨k, hk, rfl, acc, hacc, hown, hb, hR⟩ := hrel
    by_cases hlt : k < l.length
    · have Ht := Lib.hid (List.drop_eq_getElem_cons hlt)
      by_cases hcb : l[k] = b
      · have hd : ((l[k].toNat : Int) == (b.toNat : Int)) = true := by rw [u8_eq_int]; simp [hcb]
        have Hcb := Lib.hid hcb
        clear hcb
        go_wp2_with (at_builtin; refine wpList_app1 rfl _ _ _ rfl _ _ _ _ elemInt _ _ _ _ rfl rfl rfl hown rfl (by simp; omega) hb.size (by simp; omega) ?_; intro v1 w1 hown1 hb1 hs1)
        rw [nats_snoc] at hown1
        go_roundw
        case rel => exact ⟨k + 1, by omega, by go_num, _, by simp; omega, hown1, hb.trans hb1, by rw [Hid, hR.out, Ht.out, placesGo, if_pos Hcb.out]; simp⟩
        case measure => simp [intOf]; omega
      · have hd : ((l[k].toNat : Int) == (b.toNat : Int)) = false := by rw [u8_eq_int]; simp [hcb]
        have Hcb := Lib.hid hcb
        clear hcb
        go_wp2_with fail
        go_roundw
        case rel => exact ⟨k + 1, by omega, by go_num, acc, by omega, hown, hb, by rw [Hid, hR.out, Ht.out, placesGo, if_neg Hcb.out]⟩
        case measure => simp [intOf]; omega
    · obtain rfl : k = l.length := by omega
      go_wp2_with fail
      go_ret
      have hfin : acc = places b l := by rw [hR.out]; simp [placesGo]
      rw [hfin] at hown
      obtain ⟨a, cap, hv⟩ := hown.shape
      simp only [nats_length] at hv
      exact ⟨a, cap, by rw [← hv]; rfl, by rw [← hv]; exact hown, hb⟩


/-- What the model tells of a board's size and mines: zero if there is no board. -/
def gW (l : List UInt8) : Nat := if boGoodM l = true then (boSizeM l).1 else 0
def gH (l : List UInt8) : Nat := if boGoodM l = true then (boSizeM l).2 else 0
def gC (l : List UInt8) : Nat := if boGoodM l = true then (places 42 l).length else 0



/-- What MinesOf of the model hands back. -/
def minesM (l : List UInt8) : List Nat := if boGoodM l = true then places 42 (cellsM l) else []
end Go.Proofs.YthlbplmghjaeoaaDoor
