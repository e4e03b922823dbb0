/- K0, KB, KC, laid as one text. -/
import Derived.Test.YthlbplmghjaeoaaDoorE
import Derived.Outline
import Derived.Deep.QuietTactic
import Derived.Deep.RegionHeld3
import Derived.Test.YthlbplmghjaeoaaDoorGN1
import Derived.Deep.DeepCutAuto
import Derived.Deep.MidRow

/- Listed boards: their signs and numbers, as the program keeps them. -/
namespace Go.Proofs.YthlbplmghjaeoaaDoor
open Go.RowKit

/-- A listed board: its twelve signs, then its twelve numbers. -/
def LB : Type := {p : List UInt8 // p.length = 24}
instance : Inhabited LB := ⟨⟨List.replicate 24 0, by simp⟩⟩
def encB (x : LB) : List Value := byts x.1
theorem encB_len (x : LB) : (encB x).length = 24 := by simp [encB, x.2]
theorem encB_one (x : LB) : ∀ v ∈ encB x, v.oneCell' = true := by
  intro v hv
  simp only [encB, byts, List.mem_map] at hv
  obtain ⟨c, _, rfl⟩ := hv
  rfl

/-- A number goes up by one. -/
def bump (p : List UInt8) (o : Nat) : List UInt8 := p.set (12 + o) (p.getD (12 + o) 0 + 1)
@[simp] theorem bump_length (p : List UInt8) (o : Nat) : (bump p o).length = p.length := by simp [bump]
@[simp] theorem bumps_length : ∀ (near : List Nat) (p : List UInt8), (near.foldl bump p).length = p.length
  | [], _ => rfl
  | o :: r, p => by rw [List.foldl_cons, bumps_length r, bump_length]
theorem bump_getD (p : List UInt8) (o k : Nat) (hp : p.length = 24) (hk : k < 24) : (bump p o).getD k 0 = p.getD k 0 + UInt8.ofNat (if 12 + o = k then 1 else 0) := by
  unfold bump
  by_cases h : 12 + o = k
  · subst h
    simp [List.getD, hp, hk]
  · rw [if_neg h]
    simp [List.getD, List.getElem?_set, h]
theorem bumps_getD (k : Nat) (hk : k < 24) : ∀ (near : List Nat) (p : List UInt8), p.length = 24 → (near.foldl bump p).getD k 0 = p.getD k 0 + UInt8.ofNat (near.countP fun o => decide (12 + o = k))
  | [], p, _ => by simp
  | o :: r, p, hp => by
    rw [List.foldl_cons, bumps_getD k hk r _ (by rw [bump_length, hp]), bump_getD p o k hp hk, List.countP_cons, UInt8.add_assoc, ← UInt8.ofNat_add]
    congr 2
    by_cases h : 12 + o = k <;> simp [h, Nat.add_comm]
/-- What the program calls 'with'. -/
def withP (p : List UInt8) (c : Nat) (s : UInt8) (near : List Nat) : List UInt8 := if s = 42 then near.foldl bump (p.set c s) else p.set c s
theorem withP_length (p : List UInt8) (c : Nat) (s : UInt8) (near : List Nat) : (withP p c s near).length = p.length := by
  unfold withP; split <;> simp
def LB.wth (x : LB) (c : Nat) (s : UInt8) (near : List Nat) : LB := ⟨withP x.1 c s near, by rw [withP_length, x.2]⟩


end Go.Proofs.YthlbplmghjaeoaaDoor

/- Listed boards by the program: their traits. -/
namespace Go.Proofs.YthlbplmghjaeoaaDoor
open Go.RowKit

/-- A sign (from 0 on) or a number (from 12 on) of a listed board. -/
def LB.at (x : LB) (i : Nat) : UInt8 := x.1.getD i 0
theorem encB_get (x : LB) (i : Nat) (hi : i < 24) : (encB x)[i]? = some (.int .u8 ((x.at i).toNat : Int)) := by
  have h : i < x.1.length := by rw [x.2]; exact hi
  simp [encB, byts, LB.at, List.getD, h]
/-- The twelve signs, the twelve numbers, as the walk meets them. -/
def sgA (x : LB) : Array Value := (byts (x.1.take 12)).toArray
def nmA (x : LB) : Array Value := (byts (x.1.drop 12)).toArray
theorem sgA_get (x : LB) (i : Nat) (hi : i < 12) : (sgA x)[i]? = some (.int .u8 ((x.at i).toNat : Int)) := by
  have h : i < x.1.length := by rw [x.2]; omega
  simp [sgA, byts, LB.at, List.getD, h, hi]
theorem sgA_eq (x : LB) : #[Value.int .u8 ((x.at 0).toNat : Int), .int .u8 ((x.at 1).toNat : Int), .int .u8 ((x.at 2).toNat : Int), .int .u8 ((x.at 3).toNat : Int), .int .u8 ((x.at 4).toNat : Int), .int .u8 ((x.at 5).toNat : Int), .int .u8 ((x.at 6).toNat : Int), .int .u8 ((x.at 7).toNat : Int), .int .u8 ((x.at 8).toNat : Int), .int .u8 ((x.at 9).toNat : Int), .int .u8 ((x.at 10).toNat : Int), .int .u8 ((x.at 11).toNat : Int)] = sgA x := by
  obtain ⟨p, hp⟩ := x
  match p, hp with
  | [a0, a1, a2, a3, a4, a5, a6, a7, a8, a9, a10, a11, b0, b1, b2, b3, b4, b5, b6, b7, b8, b9, b10, b11], _ => rfl
/-- What is in the box of a listed board. -/
theorem boxB_cell (x : LB) (w : World) (t : TypeId) (i : Nat) (hi : i < 24) : (w.alloc (.cells (encB x).toArray t)).cell? ⟨w.heap.size, i, none⟩ = some (.int .u8 ((x.at i).toNat : Int)) := by
  have h := cell_of_block (heap_alloc_new w (.cells (encB x).toArray t)) i
  rw [h]
  exact (List.getElem?_toArray ..).trans (encB_get x i hi)
theorem idx12 (arr : Array Value) (k : Nat) (v : Value) (hk : k < 12) (h : arr[k]? = some v) (w : World) : (Instr.index 63 (.agg arr) (.int .i64 k)).run Tryd.prog w = .ok v w := by
  have h1 : (0 : Int) ≤ (k : Int) ∧ (k : Int) < 12 := by omega
  simp [Instr.index, asIntOf, run_underlying Tryd.underlying63, Tryd.sizeOf5, part, Tryd.isAgg5, h, h1]
  intro h2; omega
/-- How many mines the first cells have; the sum of their numbers; whether there is a zero, or a mine beside a mine, among them. -/
def LB.mnK (x : LB) : Nat → Nat
  | 0 => 0
  | k + 1 => x.mnK k + if (((x.at k).toNat : Int) == 42) = true then 1 else 0
def LB.smK (x : LB) : Nat → Nat
  | 0 => 0
  | k + 1 => x.smK k + if (((x.at k).toNat : Int) == 46) = true then (x.at (12 + k)).toNat else 0
def LB.hzK (x : LB) : Nat → Bool
  | 0 => false
  | k + 1 => x.hzK k || ((((x.at k).toNat : Int) == 46) && (((x.at (12 + k)).toNat : Int) == 0))
def LB.baK (x : LB) : Nat → Bool
  | 0 => false
  | k + 1 => x.baK k || ((((x.at k).toNat : Int) == 42) && decide (0 < ((x.at (12 + k)).toNat : Int)))
theorem LB.mnK_le (x : LB) : ∀ k, x.mnK k ≤ k
  | 0 => Nat.le_refl _
  | k + 1 => by have := x.mnK_le k; unfold LB.mnK; split <;> omega
theorem byte_le (c : UInt8) : c.toNat ≤ 255 := by have := c.toNat_lt; omega
theorem LB.smK_le (x : LB) : ∀ k, x.smK k ≤ k * 255
  | 0 => Nat.le_refl _
  | k + 1 => by
    have h1 := x.smK_le k
    have h2 := byte_le (x.at (12 + k))
    rw [LB.smK]
    generalize x.smK k = a at *
    generalize (x.at (12 + k)).toNat = b at *
    generalize (((x.at k).toNat : Int) == 46) = c
    cases c with
    | false => exact Nat.le_trans h1 (Nat.mul_le_mul_right _ (Nat.le_succ k))
    | true => rw [Nat.succ_mul]; exact Nat.add_le_add h1 h2
theorem LB.hzK_up (x : LB) {k n : Nat} (h : k ≤ n) : x.hzK k = true → x.hzK n = true := by
  induction h with
  | refl => exact id
  | step _ ih => intro hk; rw [LB.hzK, ih hk]; rfl
theorem LB.baK_up (x : LB) {k n : Nat} (h : k ≤ n) : x.baK k = true → x.baK n = true := by
  induction h with
  | refl => exact id
  | step _ ih => intro hk; rw [LB.baK, ih hk]; rfl
def LB.mns (x : LB) : Nat := x.mnK 12
def LB.sms (x : LB) : Nat := x.smK 12
def LB.hz (x : LB) : Bool := x.hzK 12
def LB.ba (x : LB) : Bool := x.baK 12

set_option maxRecDepth 100000 in
set_option maxHeartbeats 1600000 in
theorem lbMines_any (x : LB) (w : World) :
    Calls Tryd.prog 99 #[.agg (encB x).toArray] w fun e w' => e = .returned (.int .i64 (x.mns : Nat)) ∧ Below w.heap.size w w' := by
  have h0 := encB_get x 0 (by decide)
  have h1 := encB_get x 1 (by decide)
  have h2 := encB_get x 2 (by decide)
  have h3 := encB_get x 3 (by decide)
  have h4 := encB_get x 4 (by decide)
  have h5 := encB_get x 5 (by decide)
  have h6 := encB_get x 6 (by decide)
  have h7 := encB_get x 7 (by decide)
  have h8 := encB_get x 8 (by decide)
  have h9 := encB_get x 9 (by decide)
  have h10 := encB_get x 10 (by decide)
  have h11 := encB_get x 11 (by decide)
  go_enter Tryd.func99, Tryd.ntmps99
  go_wp2_with fail
  rw [sgA_eq]
  have HA : ∀ i : Nat, i < 12 → (sgA x)[i]? = some (.int .u8 ((x.at i).toNat : Int)) := sgA_get x
  generalize sgA x = arr at *
  have hw1 : Below w.heap.size w (w.alloc (.cells (encB x).toArray 65)) := (Below.refl _ _).alloc (Nat.le_refl _) _
  have HB : ∀ i : Nat, i < 24 → (w.alloc (.cells (encB x).toArray 65)).cell? ⟨w.heap.size, i, none⟩ = some (.int .u8 ((x.at i).toNat : Int)) := boxB_cell x w _
  generalize w.alloc (.cells (encB x).toArray 65) = w1 at *
  clear h0 h1 h2 h3 h4 h5 h6 h7 h8 h9 h10 h11
  have HAh := Lib.hid HA
  have HBh := Lib.hid HB
  clear HA HB
  go_loop [3, 8] (fun cnt i => ∃ k : Nat, k ≤ 12 ∧ i = .int .i64 k ∧ cnt = .int .i64 ((x.mnK k : Nat) : Int)) (fun _ i => 12 - (intOf i).toNat)
  case atStart => exact ⟨0, Nat.zero_le _, rfl, rfl⟩
  case round =>
    obtain ⟨k, hk, rfl, rfl⟩ := hrel
    by_cases hlt : k < 12
    · have ha := idx12 arr k _ hlt (HAh.out k hlt)
      have hle := x.mnK_le k
      have HS : Hid (x.mnK (k + 1) = x.mnK k + if (((x.at k).toNat : Int) == 42) = true then 1 else 0) := rfl
      cases d : (((x.at k).toNat : Int) == 42) with
      | true =>
        rw [d] at HS
        go_wp2_with fail
        go_round
        case rel => exact ⟨k + 1, by omega, by go_num, by rw [HS.out, if_pos rfl]; go_num⟩
        case measure => simp [intOf]; omega
      | false =>
        rw [d] at HS
        go_wp2_with fail
        go_round
        case rel => exact ⟨k + 1, by omega, by go_num, by rw [HS.out, if_neg (by decide)]; rfl⟩
        case measure => simp [intOf]; omega
    · obtain rfl : k = 12 := by omega
      go_wp2_with fail
      go_ret
      exact ⟨rfl, hw1⟩
set_option maxRecDepth 100000 in
set_option maxHeartbeats 1600000 in
theorem lbSum_any (x : LB) (w : World) :
    Calls Tryd.prog 100 #[.agg (encB x).toArray] w fun e w' => e = .returned (.int .i64 (x.sms : Nat)) ∧ Below w.heap.size w w' := by
  have h0 := encB_get x 0 (by decide)
  have h1 := encB_get x 1 (by decide)
  have h2 := encB_get x 2 (by decide)
  have h3 := encB_get x 3 (by decide)
  have h4 := encB_get x 4 (by decide)
  have h5 := encB_get x 5 (by decide)
  have h6 := encB_get x 6 (by decide)
  have h7 := encB_get x 7 (by decide)
  have h8 := encB_get x 8 (by decide)
  have h9 := encB_get x 9 (by decide)
  have h10 := encB_get x 10 (by decide)
  have h11 := encB_get x 11 (by decide)
  go_enter Tryd.func100, Tryd.ntmps100
  go_wp2_with fail
  rw [sgA_eq]
  have HA : ∀ i : Nat, i < 12 → (sgA x)[i]? = some (.int .u8 ((x.at i).toNat : Int)) := sgA_get x
  generalize sgA x = arr at *
  have hw1 : Below w.heap.size w (w.alloc (.cells (encB x).toArray 65)) := (Below.refl _ _).alloc (Nat.le_refl _) _
  have HB : ∀ i : Nat, i < 24 → (w.alloc (.cells (encB x).toArray 65)).cell? ⟨w.heap.size, i, none⟩ = some (.int .u8 ((x.at i).toNat : Int)) := boxB_cell x w _
  generalize w.alloc (.cells (encB x).toArray 65) = w1 at *
  clear h0 h1 h2 h3 h4 h5 h6 h7 h8 h9 h10 h11
  have HAh := Lib.hid HA
  have HBh := Lib.hid HB
  clear HA HB
  go_loop [3, 8] (fun cnt i => ∃ k : Nat, k ≤ 12 ∧ i = .int .i64 k ∧ cnt = .int .i64 ((x.smK k : Nat) : Int)) (fun _ i => 12 - (intOf i).toNat)
  case atStart => exact ⟨0, Nat.zero_le _, rfl, rfl⟩
  case round =>
    obtain ⟨k, hk, rfl, rfl⟩ := hrel
    by_cases hlt : k < 12
    · have ha := idx12 arr k _ hlt (HAh.out k hlt)
      have hb := HBh.out (12 + k) (by omega)
      have hle := x.smK_le k
      have hby := byte_le (x.at (12 + k))
      have HS : Hid (x.smK (k + 1) = x.smK k + if (((x.at k).toNat : Int) == 46) = true then (x.at (12 + k)).toNat else 0) := rfl
      cases d : (((x.at k).toNat : Int) == 46) with
      | true =>
        rw [d] at HS
        go_wp2_with fail
        go_round
        case rel => exact ⟨k + 1, by omega, by go_num, by rw [HS.out, if_pos rfl]; go_num⟩
        case measure => simp [intOf]; omega
      | false =>
        rw [d] at HS
        go_wp2_with fail
        go_round
        case rel => exact ⟨k + 1, by omega, by go_num, by rw [HS.out, if_neg (by decide)]; rfl⟩
        case measure => simp [intOf]; omega
    · obtain rfl : k = 12 := by omega
      go_wp2_with fail
      go_ret
      exact ⟨rfl, hw1⟩
end Go.Proofs.YthlbplmghjaeoaaDoor

/- Listed boards by the program: a board with one more cell. -/
namespace Go.Proofs.YthlbplmghjaeoaaDoor
open Go.RowKit

def zer : Array Value := #[.int .u8 0, .int .u8 0, .int .u8 0, .int .u8 0, .int .u8 0, .int .u8 0, .int .u8 0, .int .u8 0, .int .u8 0, .int .u8 0, .int .u8 0, .int .u8 0, .int .u8 0, .int .u8 0, .int .u8 0, .int .u8 0, .int .u8 0, .int .u8 0, .int .u8 0, .int .u8 0, .int .u8 0, .int .u8 0, .int .u8 0, .int .u8 0]
theorem zer24 (i : Nat) (hi : i < 24) : zer[i]? = some (.int .u8 0) := by
  show ((List.replicate 24 (Value.int .u8 0)).toArray)[i]? = _
  exact (List.getElem?_toArray ..).trans (by simp only [List.getElem?_replicate, if_pos hi])
theorem away_setK {w : World} {g b : Nat} (h : b ≠ g) {j : Nat} {v : Value} : (w.setCell ⟨g, j, none⟩ v).heap[b]? = w.heap[b]? := by
  simp [World.setCell, Array.getElem?_modify, Ne.symm h]
theorem u8_succ (b : UInt8) : IntKind.u8.wrap ((b.toNat : Int) + 1) = ((b + 1).toNat : Int) := by
  have h := b.toNat_lt
  rw [UInt8.toNat_add]
  simp [IntKind.wrap, IntKind.bits, IntKind.signed]
theorem byts_setK (l : List UInt8) (k : Nat) (c : UInt8) : (byts l).set k (.int .u8 (c.toNat : Int)) = byts (l.set k c) := by
  simp [byts, List.map_set]
theorem encB_set (y z : LB) (i : Nat) (b : UInt8) (h : z.1 = y.1.set i b) : (encB y).toArray.setIfInBounds i (.int .u8 (b.toNat : Int)) = (encB z).toArray := by
  unfold encB
  rw [List.setIfInBounds_toArray, byts_setK, h]

theorem range24 {w : World} {g : Nat} {y : LB} {t : TypeId} (h : w.heap[g]? = some (.cells (encB y).toArray t (0, 0))) : w.rangeAt g 0 (encB y) := fun j v hv => by
  rw [Nat.zero_add, cell_of_block h j]; exact (List.getElem?_toArray ..).trans hv
theorem there24 {w : World} {g : Nat} {cur : Array Value} {t : TypeId} (h : w.heap[g]? = some (.cells cur t (0, 0))) (hc : cur.size = 24) : w.there g 0 24 := fun j hj => by
  rw [Nat.zero_add, cell_of_block h j]
  exact ⟨by simp [hc, hj], frozen_of_block h j⟩
theorem encB_size (y : LB) : (encB y).toArray.size = 24 := by rw [List.size_toArray, encB_len]
theorem results_cell {P : Program} {fn : Func} {a : Tmp} {t : TypeId} {tmps : Array Value} {w : World} {ad : Addr} {v : Value} (h : fn.results = #[.cell a t]) (ha : tmps.getD a undef = .pointer (some ad)) (hl : (loadVar t ad).run P w = .ok v w) : (results fn tmps).run P w = .ok v w := by
  have ha' : tmps[a]?.getD undef = .pointer (some ad) := by simpa using ha
  simp [results, h, ha', asAddr, hl]
theorem below_setCells {g : Nat} : ∀ (vs : List Value) (o : Nat) {B : Nat} {w w' : World}, Below B w w' → B ≤ g → Below B w (w'.setCells g o vs)
  | [], _, _, _, _, h, _ => h
  | v :: r, o, B, w, w', h, hg => by
    rw [World.setCells]
    exact below_setCells r (o + 1) (h.trans ((Below.set o v).mono hg)) hg
theorem und67 : Tryd.prog.underlying 65 = Tryd.prog.underlying 65 := rfl
theorem inf67 : (Tryd.prog.info? 65).map (·.size) = some 24 := by kernel_rfl

set_option maxRecDepth 100000 in
set_option maxHeartbeats 6400000 in
theorem lbWith_any (x : LB) (c : Nat) (s : UInt8) (near : List Nat) (a : Option Addr) (cap : Nat) (w : World) (hc : c < 12) (hn : ∀ o ∈ near, o < 12) (hl : near.length ≤ 12) (hat : At w a (nats near)) :
    Calls Tryd.prog 71 #[.agg (encB x).toArray, .int .i64 c, .int .u8 (s.toNat : Int), .slice a near.length cap] w fun e w' => e = .returned (.agg (encB (x.wth c s near)).toArray) ∧ Below w.heap.size w w' := by
  have hxc := encB_get x c (by omega)
  go_enter Tryd.func71, Tryd.ntmps71
  go_upto_region 1 with fail
  have hB1 : ((w.alloc (.cells (encB x).toArray 65)).alloc (.cells #[.int .u8 0, .int .u8 0, .int .u8 0, .int .u8 0, .int .u8 0, .int .u8 0, .int .u8 0, .int .u8 0, .int .u8 0, .int .u8 0, .int .u8 0, .int .u8 0, .int .u8 0, .int .u8 0, .int .u8 0, .int .u8 0, .int .u8 0, .int .u8 0, .int .u8 0, .int .u8 0, .int .u8 0, .int .u8 0, .int .u8 0, .int .u8 0] 65)).heap[w.heap.size]? = some (.cells (encB x).toArray 65 (0, 0)) := by
    rw [Below.heap_alloc _ _ _ (by simp)]; exact heap_alloc_new w _
  have hR1 : Hid (((w.alloc (.cells (encB x).toArray 65)).alloc (.cells #[.int .u8 0, .int .u8 0, .int .u8 0, .int .u8 0, .int .u8 0, .int .u8 0, .int .u8 0, .int .u8 0, .int .u8 0, .int .u8 0, .int .u8 0, .int .u8 0, .int .u8 0, .int .u8 0, .int .u8 0, .int .u8 0, .int .u8 0, .int .u8 0, .int .u8 0, .int .u8 0, .int .u8 0, .int .u8 0, .int .u8 0, .int .u8 0] 65)).heap[w.heap.size + 1]? = some (.cells zer 65 (0, 0))) := by
    have h := heap_alloc_new (w.alloc (.cells (encB x).toArray 65)) (.cells #[.int .u8 0, .int .u8 0, .int .u8 0, .int .u8 0, .int .u8 0, .int .u8 0, .int .u8 0, .int .u8 0, .int .u8 0, .int .u8 0, .int .u8 0, .int .u8 0, .int .u8 0, .int .u8 0, .int .u8 0, .int .u8 0, .int .u8 0, .int .u8 0, .int .u8 0, .int .u8 0, .int .u8 0, .int .u8 0, .int .u8 0, .int .u8 0] 65)
    rw [show (w.alloc (.cells (encB x).toArray 65)).heap.size = w.heap.size + 1 by simp] at h
    exact h
  have hb1 : Below w.heap.size w ((w.alloc (.cells (encB x).toArray 65)).alloc (.cells #[.int .u8 0, .int .u8 0, .int .u8 0, .int .u8 0, .int .u8 0, .int .u8 0, .int .u8 0, .int .u8 0, .int .u8 0, .int .u8 0, .int .u8 0, .int .u8 0, .int .u8 0, .int .u8 0, .int .u8 0, .int .u8 0, .int .u8 0, .int .u8 0, .int .u8 0, .int .u8 0, .int .u8 0, .int .u8 0, .int .u8 0, .int .u8 0] 65)) := ((Below.refl _ _).alloc (Nat.le_refl _) _).alloc (by simp) _
  generalize (w.alloc (.cells (encB x).toArray 65)).alloc (.cells #[.int .u8 0, .int .u8 0, .int .u8 0, .int .u8 0, .int .u8 0, .int .u8 0, .int .u8 0, .int .u8 0, .int .u8 0, .int .u8 0, .int .u8 0, .int .u8 0, .int .u8 0, .int .u8 0, .int .u8 0, .int .u8 0, .int .u8 0, .int .u8 0, .int .u8 0, .int .u8 0, .int .u8 0, .int .u8 0, .int .u8 0, .int .u8 0] 65) = w1 at *
  have hc1 : w1.cell? ⟨w.heap.size, c, none⟩ = some (.int .u8 ((x.at c).toNat : Int)) := by
    rw [cell_of_block hB1 c]; exact (List.getElem?_toArray ..).trans hxc
  have hf1 := frozen_of_block hB1 c
  obtain ⟨y0, hy0⟩ : ∃ y : LB, y.1 = x.1.set c s := ⟨⟨x.1.set c s, by rw [List.length_set, x.2]⟩, rfl⟩
  have hBr : Hid ((w1.setCell ⟨w.heap.size, c, none⟩ (.int .u8 (s.toNat : Int))).heap[w.heap.size]? = some (.cells (encB y0).toArray 65 (0, 0))) := by
    rw [Hid, block_set hB1 c _, encB_set x y0 c s hy0]
  have hRr : Hid ((w1.setCell ⟨w.heap.size, c, none⟩ (.int .u8 (s.toNat : Int))).heap[w.heap.size + 1]? = some (.cells zer 65 (0, 0))) := by
    rw [Hid, away_setK (by omega)]; exact hR1.out
  have hbr : Below w.heap.size w (w1.setCell ⟨w.heap.size, c, none⟩ (.int .u8 (s.toNat : Int))) := hb1.trans (Below.set c _)
  clear hB1 hR1 hb1 hxc
  cases d : ((s.toNat : Int) == 42) with
  | false =>
    have HY : Hid (x.wth c s near = y0) := by
      have : ¬ s = 42 := by rw [is42] at d; simpa using d
      exact Subtype.ext (by rw [hy0]; exact if_neg this)
    go_upto_region 8 with fail
    generalize w1.setCell ⟨w.heap.size, c, none⟩ (.int .u8 (s.toNat : Int)) = wr at *
    clear hc1 hf1 hat
    refine wp_region_lit ?_
    refine wpList_load_mid rfl 65 _ rfl w.heap.size 0 rfl (encB y0) _ (range24 hBr.out) Tryd.underlying65 rfl (inf67.trans (by rw [encB_len])) ?_
    refine wpList_store_mid rfl 65 _ _ rfl (w.heap.size + 1) 0 (encB y0).toArray rfl rfl (by rw [encB_size]; exact there24 hRr.out rfl) (inf67.trans (by rw [encB_size])) (all_oneCell_toArray (encB_one y0)) ?_
    refine wpList_nil ?_
    have hR2 := World.rangeAt_setCells_same wr (w.heap.size + 1) 0 (encB y0) (by rw [encB_len]; exact there24 hRr.out rfl)
    have hb2 := below_setCells (g := w.heap.size + 1) (encB y0) 0 hbr (Nat.le_succ _)
    go_wp2_with fail
    refine bodyPost_ret (v := .agg (encB y0).toArray) (results_cell rfl rfl (run_loadVar_mid _ _ _ 65 (encB y0) _ hR2 Tryd.underlying65 rfl (inf67.trans (by rw [encB_len])))) rfl ?_
    exact ⟨by rw [HY.out], hb2⟩
  | true =>
    have hs42 : s = 42 := by rw [is42] at d; simpa using d
    have HW : Hid (∀ y : LB, y.1 = near.foldl bump (x.1.set c s) → x.wth c s near = y) := fun y hy => Subtype.ext ((if_pos hs42).trans hy.symm)
    clear hs42
    go_upto_region 4 with fail
    clear hc1 hf1
    generalize w1.setCell ⟨w.heap.size, c, none⟩ (.int .u8 (s.toNat : Int)) = w2 at *
    go_loopw [19] (fun i wr => ∃ k : Nat, k ≤ near.length ∧ i = .int .i64 k ∧ ∃ y : LB, Hid (y.1 = (near.take k).foldl bump (x.1.set c s)) ∧ Hid (wr.heap[w.heap.size]? = some (.cells (encB y).toArray 65 (0, 0))) ∧ Hid (wr.heap[w.heap.size + 1]? = some (.cells zer 65 (0, 0))) ∧ Below w.heap.size w wr) (fun i _ => near.length - (intOf i).toNat)
    case atStart => exact ⟨0, Nat.zero_le _, rfl, y0, hy0, hBr, hRr, hbr⟩
    case round =>
      clear hBr hRr hbr
      obtain ⟨k, hk, rfl, y, hy, hBr, hRr, hbr⟩ := hrel
      by_cases hlt : k < near.length
      · have hatr : At wr a (nats near) := hat.later rfl hbr
        obtain ⟨ab, ao, hab, hcell⟩ := nats_at hatr k hlt
        subst hab
        have ho := hn near[k] (List.getElem_mem hlt)
        have hNX : Hid ((near.take (k + 1)).foldl bump (x.1.set c s) = bump ((near.take k).foldl bump (x.1.set c s)) near[k]) := by
          rw [Hid, List.take_succ_eq_append_getElem hlt, List.foldl_append]; rfl
        generalize near[k] = o at *
        have hcb : wr.cell? ⟨w.heap.size, 12 + o, none⟩ = some (.int .u8 ((y.at (12 + o)).toNat : Int)) := by
          rw [cell_of_block hBr.out]; exact (List.getElem?_toArray ..).trans (encB_get y (12 + o) (by omega))
        have hfb := frozen_of_block hBr.out (12 + o)
        have hu := u8_succ (y.at (12 + o))
        obtain ⟨y', hy'⟩ : ∃ y' : LB, y'.1 = bump y.1 o := ⟨⟨bump y.1 o, by rw [bump_length, y.2]⟩, rfl⟩
        have hBr' : Hid ((wr.setCell ⟨w.heap.size, 12 + o, none⟩ (.int .u8 ((y.at (12 + o) + 1).toNat : Int))).heap[w.heap.size]? = some (.cells (encB y').toArray 65 (0, 0))) := by
          rw [Hid, block_set hBr.out (12 + o) _, encB_set y y' (12 + o) (y.at (12 + o) + 1) hy']
        have hRr' : Hid ((wr.setCell ⟨w.heap.size, 12 + o, none⟩ (.int .u8 ((y.at (12 + o) + 1).toNat : Int))).heap[w.heap.size + 1]? = some (.cells zer 65 (0, 0))) := by
          rw [Hid, away_setK (by omega)]; exact hRr.out
        have hbr' : Below w.heap.size w (wr.setCell ⟨w.heap.size, 12 + o, none⟩ (.int .u8 ((y.at (12 + o) + 1).toNat : Int))) := hbr.trans (Below.set _ _)
        have HY' : Hid (y'.1 = (near.take (k + 1)).foldl bump (x.1.set c s)) := by rw [Hid, hNX.out, ← hy.out, hy']
        go_wp2_with fail
        go_roundw
        case rel => exact ⟨k + 1, by omega, by go_num, y', HY', hBr', hRr', hbr'⟩
        case measure => simp [intOf]; omega
      · obtain rfl : k = near.length := by omega
        have HY : Hid (x.wth c s near = y) := HW.out y (by rw [hy.out, List.take_length])
        go_upto_region 8 with fail
        refine wp_region_lit ?_
        refine wpList_load_mid rfl 65 _ rfl w.heap.size 0 rfl (encB y) _ (range24 hBr.out) Tryd.underlying65 rfl (inf67.trans (by rw [encB_len])) ?_
        refine wpList_store_mid rfl 65 _ _ rfl (w.heap.size + 1) 0 (encB y).toArray rfl rfl (by rw [encB_size]; exact there24 hRr.out rfl) (inf67.trans (by rw [encB_size])) (all_oneCell_toArray (encB_one y)) ?_
        refine wpList_nil ?_
        have hR2 := World.rangeAt_setCells_same wr (w.heap.size + 1) 0 (encB y) (by rw [encB_len]; exact there24 hRr.out rfl)
        have hb2 := below_setCells (g := w.heap.size + 1) (encB y) 0 hbr (Nat.le_succ _)
        go_wp2_with fail
        refine bodyPost_ret (v := .agg (encB y).toArray) (results_cell rfl rfl (run_loadVar_mid _ _ _ 65 (encB y) _ hR2 Tryd.underlying65 rfl (inf67.trans (by rw [encB_len])))) rfl ?_
        exact ⟨by rw [HY.out], hb2⟩
end Go.Proofs.YthlbplmghjaeoaaDoor
