/- Sums of listed boards are the model's. -/
import Derived.Test.YthlbplmghjaeoaaDoorKA
import Derived.Test.YthlbplmghjaeoaaDoorGK0
import Derived.Test.YthlbplmghjaeoaaDoorKR
import Derived.Test.YthlbplmghjaeoaaDoorJ5
namespace Go.Proofs.YthlbplmghjaeoaaDoor

theorem sumGo_snoc (cells : List UInt8) (W : Nat) : ∀ m k, sumGo cells W k (m + 1) = sumGo cells W k m + if cells.getD (k + m) 0 = 42 then 0 else numM cells W (k + m)
  | 0, k => by simp only [sumGo, Nat.add_zero]; split <;> omega
  | m + 1, k => by
    rw [sumGo, sumGo_snoc cells W m (k + 1), sumGo, show k + 1 + m = k + (m + 1) by omega]
    split <;> omega
theorem pre_sums (W H : Nat) (hW : W ≤ 8) (hH : H ≤ 8) (h12 : W * H ≤ 12) (c : List UInt8) (hn : c.length = W * H) (hb : Brd2 c) : (preB W (W * H) c).sms = sumGo c W 0 c.length := by
  have step : ∀ k, k ≤ W * H → (preB W (W * H) c).smK k = sumGo c W 0 k := by
    intro k
    induction k with
    | zero => intro _; rfl
    | succ k ih =>
      intro hk
      have hk' : k < c.length := by omega
      rw [LB.smK, ih (by omega), sumGo_snoc, Nat.zero_add, pre_at _ _ _ _ (by omega), pre_numM W H hW hH h12 c hn k (by omega)]
      have e : c.getD k 0 = c[k] := by simp [List.getD, hk']
      rw [e]
      rcases hb c[k] (List.getElem_mem hk') with h | h <;> rw [h] <;> simp
  have rest : ∀ d, W * H + d ≤ 12 → (preB W (W * H) c).smK (W * H + d) = (preB W (W * H) c).smK (W * H) := by
    intro d
    induction d with
    | zero => intro _; rfl
    | succ d ih =>
      intro hd
      rw [← Nat.add_assoc, LB.smK, ih (by omega), pre_at _ _ _ _ (by omega)]
      have e : c.getD (W * H + d) 0 = 0 := by simp [List.getD, hn]
      rw [e]
      simp
  have := rest (12 - W * H) (by omega)
  rw [show W * H + (12 - W * H) = 12 by omega] at this
  rw [LB.sms, this, step _ (Nat.le_refl _), hn]
end Go.Proofs.YthlbplmghjaeoaaDoor
