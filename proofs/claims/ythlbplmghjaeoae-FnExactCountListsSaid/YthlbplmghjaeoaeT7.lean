/- Walks: a number in a list; cells with mines in some of them; each cell's other sign: the model of it. -/
import Derived.Test.YthlbplmghjaeoaeT3
namespace Go.Proofs.Ythlbplmghjaeoae
open Go.RowKit

def hasI (xs : List Int) (n : Int) : Bool := xs.any (· == n)

set_option maxRecDepth 100000 in
set_option maxHeartbeats 800000 in
theorem l1Has_any (xs : List Int) (n : Int) (a : Option Addr) (cap : Nat) (w : World) (hat : At w a (ints xs)) (hl : xs.length ≤ 1048576) :
    Calls Try.prog 43 #[.slice a xs.length cap, .int .i64 n] w fun e w' => e = .returned (.bool (hasI xs n)) ∧ w = w' := by
  go_enter Try.func43, Try.ntmps43
  go_wp2_with fail
  go_loop [9] (fun i => ∃ k : Nat, k ≤ xs.length ∧ i = .int .i64 k ∧ Hid (hasI xs n = hasI (xs.drop k) n)) (fun i => xs.length - (intOf i).toNat)
  case atStart => exact ⟨0, Nat.zero_le _, rfl, by simp [Hid]⟩
  case round =>
    obtain ⟨k, hk, rfl, hR⟩ := hrel
    by_cases hlt : k < xs.length
    · have Ht := Lib.hid (List.drop_eq_getElem_cons hlt)
      obtain ⟨b, off, he, hc⟩ := ints_at hat k hlt
      subst he
      by_cases hq : xs[k] = n
      · have hd : (xs[k] == n) = true := by simpa using hq
        have HQ := Lib.hid hd
        clear hq
        go_wp2_with fail
        go_ret
        exact ⟨by rw [hR.out, Ht.out, hasI, List.any_cons, HQ.out]; rfl, rfl⟩
      · have hd : (xs[k] == n) = false := by simpa using hq
        have HQ := Lib.hid hd
        clear hq
        go_wp2_with fail
        go_round
        case rel => exact ⟨k + 1, by omega, by go_num, by rw [Hid, hR.out, Ht.out, hasI, List.any_cons, HQ.out]; rfl⟩
        case measure => simp [intOf]; omega
    · obtain rfl : k = xs.length := by omega
      go_wp2_with fail
      go_ret
      exact ⟨by rw [hR.out]; simp [hasI], rfl⟩

/-- The cells from k on, with mines in some of them. -/
def ofGo (xs : List Int) (k : Nat) : Nat → List UInt8
  | 0 => []
  | m + 1 => (if hasI xs k = true then 42 else 46) :: ofGo xs (k + 1) m
@[simp] theorem ofGo_length (xs : List Int) : ∀ (m k : Nat), (ofGo xs k m).length = m
  | 0, _ => rfl
  | m + 1, k => by rw [ofGo, List.length_cons, ofGo_length xs m]


/-- A cell's other sign. -/
def othB (c : UInt8) : UInt8 := if c = 42 then 46 else 42
theorem hasI_places (b : UInt8) (cells : List UInt8) (k : Nat) (hk : k < cells.length) : hasI ((places b cells).map Int.ofNat) k = (cells[k] == b) := by
  rw [Bool.eq_iff_iff]
  simp only [hasI, List.any_map, List.any_eq_true, Function.comp, beq_iff_eq]
  constructor
  · rintro ⟨x, hx, h⟩
    have hx' := (mem_placesGo b cells 0 x).1 hx
    have : x = k := by have h3 : (x : Int) = (k : Int) := by simpa using h
                       omega
    subst this
    have h2 := hx'.2
    rw [Nat.sub_zero, List.getElem?_eq_getElem hk] at h2
    exact Option.some.inj h2
  · intro h
    exact ⟨k, (mem_placesGo b cells 0 k).2 ⟨Nat.zero_le _, by rw [Nat.sub_zero, List.getElem?_eq_getElem hk, h]⟩, rfl⟩
theorem ofGo_other (cells : List UInt8) (hs : ∀ c ∈ cells, c = 46 ∨ c = 42) : ∀ (m k : Nat), k + m = cells.length → ofGo ((places 46 cells).map Int.ofNat) k m = (cells.drop k).map othB
  | 0, k, h => by rw [List.drop_of_length_le (by omega)]; rfl
  | m + 1, k, h => by
    have hk : k < cells.length := by omega
    rw [ofGo, ofGo_other cells hs m (k + 1) (by omega), hasI_places 46 cells k hk, List.drop_eq_getElem_cons hk, List.map_cons]
    congr 1
    rcases hs _ (List.getElem_mem hk) with h2 | h2 <;> rw [h2] <;> rfl
end Go.Proofs.Ythlbplmghjaeoae
