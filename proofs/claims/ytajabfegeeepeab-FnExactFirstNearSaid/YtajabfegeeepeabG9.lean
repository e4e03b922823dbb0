/- Stable sorts, walked: the whole; insertion laid. -/
import Derived.Test.YtajabfegeeepeabG8
namespace Go.Proofs.Ytajabfegeeepeab
open Go.RowKit Go.Sort Go.Lib Go.Shelf

set_option maxHeartbeats 400000 in
set_option maxRecDepth 1000000 in
theorem sortStable_of {α : Type} [Inhabited α] (k : Nat) (enc : α → List Value) (key idx : α → Nat) (g : Nat) (cb : Array Value) (blk off cap n : Nat) (w0 : World)
    (hst : ∀ (d : Array α) (w : World), d.size = n → SWK enc k w0 blk off d w → (∀ t s, t < s → s < n → idx d[t]! < idx d[s]!) → Calls Try.prog 81 #[.slice (some ⟨blk, off, none⟩) n cap, .int .i64 n, .func (.func g) #[] cb] w fun e w' => e = .returned (.tuple #[]) ∧ ∃ d', PermIn 0 n d d' ∧ SortedIn (ltX key idx) 0 n d' ∧ SWK enc k w0 blk off d' w')
    (d : Array α) (w : World) (hs : d.size = n) (S : SWK enc k w0 blk off d w) (hidx : ∀ t s, t < s → s < n → idx d[t]! < idx d[s]!) :
    Calls Try.prog 70 #[.slice (some ⟨blk, off, none⟩) n cap, .func (.func g) #[] cb] w fun e w' => e = .returned (.tuple #[]) ∧ ∃ d', PermIn 0 n d d' ∧ SortedIn (ltX key idx) 0 n d' ∧ SWK enc k w0 blk off d' w' := by
  have hc := hst d w hs S hidx
  have HC := Lib.hid hc
  clear hst hs S hidx hc
  go_enter Try.func70, Try.ntmps70
  go_wp2_with fail
  refine HC.out.mono ?_
  rintro e w2 ⟨rfl, d2, h⟩
  go_wp2_with fail
  go_end0
  exact ⟨rfl, d2, h⟩
end Go.Proofs.Ytajabfegeeepeab
