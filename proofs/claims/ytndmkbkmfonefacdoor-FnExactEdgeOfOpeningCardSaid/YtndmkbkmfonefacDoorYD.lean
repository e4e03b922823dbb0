/- Opening: all openings and their first zeros, by the model. -/
import Derived.Test.YtndmkbkmfonefacDoorYC
import Derived.Outline
namespace Go.Proofs.YtndmkbkmfonefacDoor
open Go.RowKit

/-- The first zero of each opening: op tells what a click opens, seen what was opened before. -/
def fzGo (op : Nat → List Nat) : List Nat → List Nat → List Nat
  | [], _ => []
  | z :: r, seen => if z ∈ seen then fzGo op r seen else z :: fzGo op r (seen ++ op z)
theorem fzGo_congr (op : Nat → List Nat) : ∀ (r s s' : List Nat), (∀ x, x ∈ s ↔ x ∈ s') → fzGo op r s = fzGo op r s'
  | [], _, _, _ => rfl
  | z :: r, s, s', h => by
    unfold fzGo
    by_cases hz : z ∈ s
    · rw [if_pos hz, if_pos ((h z).1 hz)]; exact fzGo_congr op r s s' h
    · rw [if_neg hz, if_neg (fun e => hz ((h z).2 e))]
      rw [fzGo_congr op r (s ++ op z) (s' ++ op z) (fun x => by rw [List.mem_append, List.mem_append, h x])]
theorem fzGo_mem (op : Nat → List Nat) : ∀ (r s : List Nat), ∀ x ∈ fzGo op r s, x ∈ r
  | [], _, x, h => by cases h
  | z :: r, s, x, h => by
    unfold fzGo at h
    split at h
    · exact List.mem_cons_of_mem _ (fzGo_mem op r s x h)
    · rcases List.mem_cons.1 h with rfl | h
      · exact List.mem_cons_self
      · exact List.mem_cons_of_mem _ (fzGo_mem op r _ x h)
theorem fzGo_len (op : Nat → List Nat) : ∀ (r s : List Nat), (fzGo op r s).length ≤ r.length
  | [], _ => by simp [fzGo]
  | z :: r, s => by
    unfold fzGo
    split
    · have := fzGo_len op r s; simp; omega
    · have := fzGo_len op r (s ++ op z); simp; omega
theorem zGo_lt (cells : List UInt8) (W : Geo) (s : UInt8) : ∀ (m k : Nat), ∀ x ∈ zGo cells W s k m, k ≤ x ∧ x < k + m
  | 0, _, x, h => by simp [zGo] at h
  | m + 1, k, x, h => by
    unfold zGo at h
    split at h
    · rcases List.mem_cons.1 h with rfl | h
      · omega
      · have := zGo_lt cells W s m (k + 1) x h; omega
    · have := zGo_lt cells W s m (k + 1) x h; omega
/-- The zeros of a board, the first zeros of its openings, and the openings. -/
def zerosM (cells : List UInt8) (W : Geo) : List Nat := zGo cells W 46 0 cells.length
def firstsM (cells : List UInt8) (W : Geo) : List Nat := fzGo (opM cells W) (zerosM cells W) []
def openingsM (cells : List UInt8) (W : Geo) : List (List Nat) := (firstsM cells W).map (opM cells W)
theorem zerosM_lt (cells : List UInt8) (W : Geo) (x : Nat) (h : x ∈ zerosM cells W) : x < cells.length := by
  have := zGo_lt cells W 46 _ _ x h; omega
theorem zerosM_le (cells : List UInt8) (W : Geo) : (zerosM cells W).length ≤ cells.length := zGo_le _ _ _ _ _
theorem firstsM_lt (cells : List UInt8) (W : Geo) (x : Nat) (h : x ∈ firstsM cells W) : x < cells.length := zerosM_lt cells W x (fzGo_mem _ _ _ x h)
theorem firstsM_le (cells : List UInt8) (W : Geo) : (firstsM cells W).length ≤ cells.length := Nat.le_trans (fzGo_len _ _ _) (zerosM_le _ _)

theorem elemRow : Elem Tryd.prog 37 25 (.slice none 0 0) 24 := ⟨Tryd.underlying37, info_parts (by kernel_rfl), rfl⟩
theorem perm5 (a b c d e : Rw) (T : List Rw) : (a :: b :: c :: d :: e :: T).Perm (c :: b :: a :: e :: (T ++ [d])) := by
  refine List.Perm.trans (l₂ := c :: b :: a :: d :: e :: T) ?_ ?_
  · exact (List.Perm.swap b a _).trans (((List.Perm.swap c a _).cons b).trans (List.Perm.swap c b _))
  · exact ((((List.perm_append_singleton d (e :: T)).symm).cons a).cons b).cons c

set_option maxRecDepth 100000 in
set_option maxHeartbeats 3200000 in
theorem opAll_any (l : List UInt8) (W H : Nat) (cells : List UInt8) (w : World) (hl : l.length ≤ 1048576) (hB : Brd l W H cells) :
    Calls Tryd.prog 38 #[.string ⟨l.toArray⟩] w fun e w' => ∃ v1 v2 us, e = .returned (.tuple #[v1, v2]) ∧ us.length = (openingsM cells W).length ∧
      Fam w' w.heap.size ((v1, 25, us) :: (v2, 3, nats (firstsM cells W)) :: rowsF us (openingsM cells W)) ∧ Below w.heap.size w w' := by
  have hn64 := hB.n64
  have hzl := zerosM_le cells W
  have HZ : Hid (∀ x ∈ zerosM cells W, x < cells.length) := fun x hx => zerosM_lt cells W x hx
  have HF : Hid (firstsM cells W = [] ++ fzGo (opM cells W) (zerosM cells W) []) := rfl
  have HO : Hid (openingsM cells W = (firstsM cells W).map (opM cells W)) := rfl
  have hz := fun w => opZeros_any l W H cells w hl hB
  have hzz : zGo cells W 46 0 cells.length = zerosM cells W := rfl
  rw [hzz] at hz
  clear hzz
  have hop := fun c w hc => opClick_any l W H cells c w hl hB hc
  have hole := fun c => opM_le cells W c
  have HZC := Lib.hid hz
  have HOP := Lib.hid hop
  have HOL := Lib.hid hole
  clear hB hz hop hole
  generalize openingsM cells W = openings at *
  generalize firstsM cells W = firsts at *
  generalize zerosM cells W = zeros at *
  generalize opM cells W = op at *
  generalize hnn : cells.length = n at *
  clear hnn
  go_enter Tryd.func38, Tryd.ntmps38
  go_wp2_with fail
  refine (HZC.out _).mono ?_
  rintro e w1 ⟨a0, cap0, rfl, hown0, hb1⟩
  have hF0 : Fam w1 w.heap.size ((.slice none 0 0, 3, []) :: (.slice none 0 0, 25, []) :: (.slice none 0 0, 3, []) :: (.slice a0 zeros.length cap0, 3, nats zeros) :: rowsF [] []) := (((Fam.empty w w.heap.size).fresh hb1 hown0 (Nat.le_refl _)).nil.nil).nil
  clear hown0
  go_wp2_with fail
  go_loopw [4, 5, 6, 13] (fun v4 v5 v6 i wr => ∃ (k : Nat) (us : List Value) (fs seen : List Nat), k ≤ zeros.length ∧ i = .int .i64 k ∧ fs.length ≤ k ∧ us.length = fs.length ∧ seen.length ≤ 64 * k ∧ Fam wr w.heap.size ((v6, 3, nats seen) :: (v4, 25, us) :: (v5, 3, nats fs) :: (.slice a0 zeros.length cap0, 3, nats zeros) :: rowsF us (fs.map op)) ∧ Below w.heap.size w wr ∧ Hid (firsts = fs ++ fzGo op (zeros.drop k) seen)) (fun _ _ _ i _ => zeros.length - (intOf i).toNat)
  case atStart => exact ⟨0, [], [], [], Nat.zero_le _, rfl, by simp, rfl, by simp, hF0, hb1, HF⟩
  case round =>
    clear hF0
    obtain ⟨k, us, fs, seen, hk, rfl, hfk, hus, hsn, hF, hbr, hR⟩ := hrel
    have HUS := Lib.hid hus
    have hus' : us.length ≤ k := by omega
    clear hus
    have sr := hbr.size
    by_cases hlt : k < zeros.length
    · have Ht := Lib.hid (List.drop_eq_getElem_cons hlt)
      have hzn : zeros[k] < n := HZ.out _ (List.getElem_mem hlt)
      have hown0 := hF.own (.slice a0 zeros.length cap0, 3, nats zeros) (by simp)
      obtain ⟨g0, off0, he0, hc0⟩ := nats_at hown0.at k hlt
      have hsl : seen.length ≤ 1048576 := by omega
      obtain ⟨a6, cap6, hv⟩ := hF.head.shape
      simp only [nats_length] at hv
      subst hv
      have hHas := l1HasN_any seen zeros[k] a6 cap6 wr hF.head.at hsl
      subst he0
      clear hown0
      by_cases hin : zeros[k] ∈ seen
      · rw [show decide (zeros[k] ∈ seen) = true by simpa using hin] at hHas
        have HIN := Lib.hid hin
        have HH := Lib.hid hHas
        clear hin hHas
        go_wp2_with fail
        refine HH.out.mono ?_
        rintro e w5 ⟨rfl, rfl⟩
        go_wp2_with fail
        go_roundw
        case rel =>
          first
            | exact ⟨k + 1, us, fs, seen, by omega, by go_num, by omega, HUS.out, by omega, hF, hbr, by rw [Hid, hR.out, Ht.out, fzGo, if_pos HIN.out]⟩
            | ((repeat apply Exists.intro); exact ⟨⟨k + 1, us, fs, seen, by omega, by go_num, by omega, HUS.out, by omega, hF, hbr, by rw [Hid, hR.out, Ht.out, fzGo, if_pos HIN.out]⟩, rfl⟩)
        case measure => simp [intOf]; omega
      · rw [show decide (zeros[k] ∈ seen) = false by simpa using hin] at hHas
        have HIN := Lib.hid hin
        have HH := Lib.hid hHas
        clear hin hHas
        go_wp2_with fail
        refine HH.out.mono ?_
        rintro e w5 ⟨rfl, rfl⟩
        go_wp2_with fail
        refine (HOP.out _ _ hzn).mono ?_
        rintro e w6 ⟨au, capu, rfl, hownu, hb6⟩
        have s6 := hb6.size
        have hol := HOL.out zeros[k]
        have hatu := hownu.at
        have hF6 := (hF.fresh hb6 hownu sr).swap
        have hbr6 := hbr.trans (hb6.mono sr)
        clear hF hbr hownu hc0
        go_wp2_with (first
          | (at_builtin; refine wpList_appAF rfl (.tmp 23) (.tmp 24) _ rfl w.heap.size _ _ _ elemInt _ _ _ rfl hF6 _ _ _ _ rfl (nats_length _) hatu (nats_one _) (by simp; omega) (by simp; omega) (by omega) ?_; intro v7 w7 hF7 hb7)
          | (at_builtin; refine wpList_app1F rfl (.tmp 26) (.tmp 28) _ rfl w.heap.size _ _ _ elemRow _ _ _ _ _ rfl rfl rfl hF7.swap3 rfl (by omega) (by have := hb7.size; omega) (by omega) ?_; intro v8 w8 hF8 hb8 hs8)
          | (at_builtin; refine wpList_app1F rfl (.tmp 30) (.tmp 32) _ rfl w.heap.size _ _ _ elemInt _ _ _ _ _ rfl rfl rfl hF8.swap4 rfl (by simp; omega) (by have := hb7.size; omega) (by simp; omega) ?_; intro v9 w9 hF9 hb9 hs9))
        rw [nats_snoc, nats_append] at hF9
        have hF10 := hF9.perm (perm5 _ _ _ _ _ _)
        have e1 : rowsF us (fs.map op) ++ [(.slice au (op zeros[k]).length capu, 3, nats (op zeros[k]))] = rowsF (us ++ [.slice au (op zeros[k]).length capu]) ((fs ++ [zeros[k]]).map op) := by
          rw [List.map_append, List.map_cons, List.map_nil, rowsF_snoc _ _ us (fs.map op) (by rw [List.length_map]; exact HUS.out)]
        rw [e1] at hF10
        clear e1 hF9 hF8 hF7 hF6 hatu
        go_roundw
        case rel =>
          first
            | exact ⟨k + 1, _, _, _, by omega, by go_num, by simp; omega, by simp [HUS.out], by simp; omega, hF10, ((hbr6.trans hb7).trans hb8).trans hb9, by rw [Hid, hR.out, Ht.out, fzGo, if_neg HIN.out]; simp⟩
            | ((repeat apply Exists.intro); exact ⟨⟨k + 1, _, _, _, by omega, by go_num, by simp; omega, by simp [HUS.out], by simp; omega, hF10, ((hbr6.trans hb7).trans hb8).trans hb9, by rw [Hid, hR.out, Ht.out, fzGo, if_neg HIN.out]; simp⟩, rfl⟩)
        case measure => simp [intOf]; omega
    · obtain rfl : k = zeros.length := by omega
      have hfin : firsts = fs := by rw [hR.out, List.drop_length]; simp [fzGo]
      go_wp2_with fail
      go_ret2
      subst hfin
      rw [HO.out]
      refine ⟨_, _, us, rfl, by rw [List.length_map]; exact HUS.out, ?_, hbr⟩
      exact (hF.tail.swap3).tail.perm (List.Perm.refl _)
end Go.Proofs.YtndmkbkmfonefacDoor
