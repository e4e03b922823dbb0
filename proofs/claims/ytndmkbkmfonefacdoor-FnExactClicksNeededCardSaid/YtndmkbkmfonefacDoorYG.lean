/- Opening: the openings that a cell is in. -/
import Derived.Test.YtndmkbkmfonefacDoorYF
import Derived.Outline
namespace Go.Proofs.YtndmkbkmfonefacDoor
open Go.RowKit

/-- A row of rows, read at one place. -/
theorem Fam.row {w : World} {B e n cp : Nat} {A : Option Addr} {us : List Value} {rss : List (List Nat)} {F : List Rw} (hF : Fam w B ((.slice A n cp, e, us) :: (rowsF us rss ++ F))) (hus : us.length = rss.length) (k : Nat) (hk : k < rss.length) :
    ∃ g off a c, A = some ⟨g, off, none⟩ ∧ w.cell? ⟨g, off + k, none⟩ = some (.slice a rss[k].length c) ∧ Owns w B 3 (.slice a rss[k].length c) (nats rss[k]) := by
  have hku : k < us.length := by omega
  obtain ⟨_, _, hv⟩ := hF.head.shape
  obtain ⟨g, off, hA, hc⟩ := (Owns.at hF.head) k hku
  have ho := hF.own _ (List.mem_cons_of_mem _ (List.mem_append.2 (.inl (rowsF_mem us rss k hku hk))))
  obtain ⟨a, c, hs⟩ := Owns.shape ho
  simp only [nats_length] at hs
  refine ⟨g, off, a, c, hA, by rw [hc, hs], ?_⟩
  rw [← hs]
  exact ho

theorem hasI_cons (x : Int) (r : List Int) (c : Int) : hasI (x :: r) c = (x == c || hasI r c) := rfl
set_option maxRecDepth 100000 in
set_option maxHeartbeats 800000 in
theorem index_any (xs : List Int) (c : Int) (a : Option Addr) (cap : Nat) (w : World) (hat : At w a (ints xs)) (hl : xs.length ≤ 1048576) :
    Calls Tryd.prog 93 #[.slice a xs.length cap, .int .i64 c] w fun e w' => (∃ k : Int, e = .returned (.int .i64 k) ∧ -1 ≤ k ∧ k ≤ 1048576 ∧ (decide (0 ≤ k) = hasI xs c)) ∧ w = w' := by
  go_enter Tryd.func93, Tryd.ntmps93
  go_wp2_with fail
  go_loop [8] (fun i => ∃ k : Nat, k ≤ xs.length ∧ i = .int .i64 k ∧ Hid (hasI xs c = hasI (xs.drop k) c)) (fun i => xs.length - (intOf i).toNat)
  case atStart => exact ⟨0, Nat.zero_le _, rfl, rfl⟩
  case round =>
    obtain ⟨k, hk, rfl, hR⟩ := hrel
    by_cases hlt : k < xs.length
    · have Ht := Lib.hid (List.drop_eq_getElem_cons hlt)
      obtain ⟨g, off, rfl, hc⟩ := ints_at hat k hlt
      by_cases hx : c = xs[k]
      · have hd : (c == xs[k]) = true := by simpa using hx
        have HX := Lib.hid hx
        clear hx
        have hyes : hasI xs c = true := by rw [hR.out, Ht.out, hasI_cons, ← HX.out]; simp
        have HY := Lib.hid hyes
        clear hyes
        go_wp2_with fail
        go_ret
        exact ⟨⟨k, rfl, by omega, by omega, by rw [HY.out]; simp⟩, rfl⟩
      · have hd : (c == xs[k]) = false := by simpa using hx
        have HX := Lib.hid hx
        clear hx
        go_wp2_with fail
        go_round
        case rel => exact ⟨k + 1, by omega, by go_num, by rw [Hid, hR.out, Ht.out, hasI_cons, show (xs[k] == c) = false by simpa using fun e => HX.out e.symm, Bool.false_or]⟩
        case measure => simp [intOf]; omega
    · go_wp2_with fail
      go_ret
      exact ⟨⟨-1, rfl, by omega, by omega, by rw [hR.out, List.drop_of_length_le (by omega)]; rfl⟩, rfl⟩
theorem contains_any (xs : List Int) (c : Int) (a : Option Addr) (cap : Nat) (w : World) (hat : At w a (ints xs)) (hl : xs.length ≤ 1048576) :
    Calls Tryd.prog 82 #[.slice a xs.length cap, .int .i64 c] w fun e w' => e = .returned (.bool (hasI xs c)) ∧ w = w' := by
  go_enter Tryd.func82, Tryd.ntmps82
  go_wp2_with fail
  refine (index_any xs c a cap _ hat hl).mono ?_
  rintro e w1 ⟨⟨k, rfl, h1, h2, h3⟩, rfl⟩
  have H3 := Lib.hid h3
  clear h3
  go_wp2_with fail
  go_ret
  exact ⟨by rw [← H3.out]; rfl, rfl⟩

/-- The indices of the rows that have a number. -/
def wiM (rss : List (List Nat)) (c : Int) : List Nat := filtM (fun i => hasI ((rss.getD i []).map Int.ofNat) c) rss.length
theorem wiM_le (rss : List (List Nat)) (c : Int) : (wiM rss c).length ≤ rss.length := filtM_le _ _

set_option maxRecDepth 100000 in
set_option maxHeartbeats 1600000 in
theorem openingsWith_any (rss : List (List Nat)) (c : Int) (a : Option Addr) (cap : Nat) (us : List Value) (F : List Rw) (B : Nat) (w : World) (hus : us.length = rss.length) (hF : Fam w B ((.slice a rss.length cap, 25, us) :: (rowsF us rss ++ F))) (hl : rss.length ≤ 1048576) (hr : ∀ r ∈ rss, r.length ≤ 1048576) :
    Calls Tryd.prog 60 #[.slice a rss.length cap, .int .i64 c] w fun e w' => ∃ a' cap', e = .returned (.slice a' (wiM rss c).length cap') ∧ Owns w' w.heap.size 3 (.slice a' (wiM rss c).length cap') (nats (wiM rss c)) ∧ Below w.heap.size w w' := by
  have HUS := Lib.hid hus
  have HR := Lib.hid hr
  have HW : Hid (wiM rss c = filtM (fun i => hasI ((rss.getD i []).map Int.ofNat) c) rss.length) := rfl
  clear hus hr
  generalize hp : (fun i => hasI ((rss.getD i []).map Int.ofNat) c) = p at *
  have HP := Lib.hid hp
  clear hp
  go_enter Tryd.func60, Tryd.ntmps60
  go_wp2_with fail
  go_loopw [5, 10] (fun v i wr => ∃ k : Nat, k ≤ rss.length ∧ i = .int .i64 k ∧ Owns wr w.heap.size 3 v (nats (filtM p k)) ∧ Below w.heap.size w wr) (fun _ i _ => rss.length - (intOf i).toNat)
  case atStart => exact ⟨0, Nat.zero_le _, rfl, Owns.nil _ _ _, Below.refl _ _⟩
  case round =>
    obtain ⟨k, hk, rfl, hown, hbr⟩ := hrel
    have hle := filtM_le p k
    have hsr := hbr.size
    by_cases hlt : k < rss.length
    · obtain ⟨g, off, ar, cr, rfl, hc, ho⟩ := (hF.later hbr).row HUS.out k hlt
      have hrl := HR.out _ (List.getElem_mem hlt)
      have hcon := contains_any (rss[k].map Int.ofNat) c ar cr wr ho.at (by simpa using hrl)
      rw [List.length_map] at hcon
      have hpk : Hid (hasI (rss[k].map Int.ofNat) c = p k) := by rw [Hid, ← HP.out]; simp [List.getD, hlt]
      rw [hpk.out] at hcon
      clear hpk ho
      cases hv : p k with
      | true =>
        rw [hv] at hcon
        have HV := Lib.hid hv
        have HC := Lib.hid hcon
        clear hv hcon
        go_wp2_with fail
        refine HC.out.mono ?_
        rintro e w2 ⟨rfl, rfl⟩
        go_wp2_with (at_builtin; refine wpList_app1 rfl _ _ _ rfl _ _ _ _ elemInt _ _ _ _ rfl rfl rfl hown rfl (by simp; omega) hsr (by simp; omega) ?_; intro v1 w3 hown1 hb3 hs3)
        rw [nats_snoc, ← filtM_yes HV.out] at hown1
        go_roundw
        case rel =>
          first
            | exact ⟨k + 1, by omega, by go_num, hown1, hbr.trans hb3⟩
            | ((repeat apply Exists.intro); exact ⟨⟨k + 1, by omega, by go_num, hown1, hbr.trans hb3⟩, rfl⟩)
        case measure => simp [intOf]; omega
      | false =>
        rw [hv] at hcon
        have HV := Lib.hid hv
        have HC := Lib.hid hcon
        clear hv hcon
        go_wp2_with fail
        refine HC.out.mono ?_
        rintro e w2 ⟨rfl, rfl⟩
        go_wp2_with fail
        go_roundw
        case rel =>
          first
            | exact ⟨k + 1, by omega, by go_num, by rw [filtM_no HV.out]; exact hown, hbr⟩
            | ((repeat apply Exists.intro); exact ⟨⟨k + 1, by omega, by go_num, by rw [filtM_no HV.out]; exact hown, hbr⟩, rfl⟩)
        case measure => simp [intOf]; omega
    · obtain rfl : k = rss.length := by omega
      go_wp2_with fail
      go_ret
      obtain ⟨a', cap', hv⟩ := hown.shape
      simp only [nats_length] at hv
      rw [HW.out]
      exact ⟨a', cap', by rw [← hv]; rfl, by rw [← hv]; exact hown, hbr⟩
end Go.Proofs.YtndmkbkmfonefacDoor
