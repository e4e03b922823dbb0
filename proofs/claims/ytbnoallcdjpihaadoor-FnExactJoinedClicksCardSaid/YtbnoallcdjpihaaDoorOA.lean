/- Joined boards by the model: JoinedClicks. -/
import Derived.Test.YtbnoallcdjpihaaDoorO9
import Derived.Outline
namespace Go.Proofs.YtbnoallcdjpihaaDoor
open Go.RowKit

set_option maxRecDepth 100000 in
set_option maxHeartbeats 3200000 in
theorem sJoinedClicks_any (l : List UInt8) (w : World) (hl : l.length ≤ 1048576) :
    Calls Tryd.prog 19 #[.string ⟨l.toArray⟩] w fun e w' => e = .returned (.tuple #[.int .i64 (jcM l), .bool (joB l)]) ∧ Below w.heap.size w w' := by
  have HG := Lib.hid (fun w => joGood_any l w hl)
  cases hj : joB l with
  | false =>
    rw [hj] at HG
    have HN : Hid (jcM l = 0) := by rw [Hid, jcM, (jC_no hj).1]; rfl
    clear hj
    go_enter Tryd.func19, Tryd.ntmps19
    go_wp2_with fail
    refine (HG.out _).mono ?_
    rintro e w1 ⟨rfl, hb⟩
    go_wp2_with fail
    go_ret2
    exact ⟨by rw [HN.out]; rfl, hb⟩
  | true =>
    have HJ := Lib.hid (fun w => joOf_any l w hl hj)
    have hB := Brd.g (joB_good hj)
    have HC := Lib.hid (fun w => boCells_any l w hl)
    rw [hB.cs] at HC
    have h64 := hB.n64
    have HMN := Lib.hid (fun w => boMines_any (gCells l) 46 46 rfl w (by omega))
    have HK := Lib.hid (fun c w hc => joClick_any l c w hl hj hc)
    have HL : Hid (jcM l = (jcA (gCells l) (.around (gW l) (gH l))).length + (jcB (gCells l) (.around (gW l) (gH l))).length) := by
      rw [Hid, jc_len _ _ hB.sign, jcM, jG_yes hj, (jC_yes hj).1]
    rw [hj] at HG
    clear hj hB
    generalize Geo.around (gW l) (gH l) = V at *
    generalize gCells l = cells at *
    have hpl : ∀ c ∈ places 46 cells, c < cells.length := fun c hc => by
      unfold places at hc
      rw [mem_placesGo] at hc
      obtain ⟨hx, _⟩ := List.getElem?_eq_some_iff.1 hc.2
      omega
    have HPL := Lib.hid hpl
    have hFl : (places 46 cells).length ≤ 64 := Nat.le_trans (places_le 46 cells) h64
    have hA : Hid (jcA cells V = jcGo (opM cells V) (zeroB cells V) (places 46 cells) []) := rfl
    have hO : Hid (jcO cells V = (jcA cells V).flatMap (opM cells V)) := rfl
    have hBB : Hid (jcB cells V = jcGo (opM cells V) (fun c => !zeroB cells V c) (places 46 cells) (jcO cells V)) := rfl
    have hop := Lib.hid (fun c => Nat.le_trans (opM_le cells V c) h64)
    have hzb : Hid (∀ c, zeroB cells V c = (numM cells V c == 0)) := fun _ => rfl
    clear hpl
    generalize jcA cells V = RA at *
    generalize jcB cells V = RB at *
    generalize jcO cells V = OA at *
    generalize places 46 cells = F at *
    generalize zeroB cells V = zb at *
    generalize hopp : opM cells V = op at *
    go_enter Tryd.func19, Tryd.ntmps19
    go_wp2_with fail
    refine (HG.out _).mono ?_
    rintro e w1 ⟨rfl, hb1⟩
    go_wp2_with fail
    refine (HJ.out _).mono ?_
    rintro e w2 ⟨a4, c4, rfl, hown4, hb2⟩
    go_wp2_with fail
    refine (HC.out _).mono ?_
    rintro e w2' ⟨rfl, rfl⟩
    go_wp2_with fail
    refine (HMN.out _).mono ?_
    rintro e w3 ⟨a5, c5, rfl, hown5, hb3⟩
    have s1 := hb1.size
    have s2 := hb2.size
    have s3 := hb3.size
    have hb03 : Below w.heap.size w w3 := (hb1.trans (hb2.mono s1)).trans (hb3.mono (by omega))
    have hat4 := (hown4.later hb3).at
    have hat5 := hown5.at
    clear hown4 hown5 hb1 hb2 hb3
    go_wp2_with fail
    go_loopw [6, 7, 8] (fun v6 v7 v8 wr => ∃ (z s : Nat) (O : List Nat), z ≤ 2 ∧ v8 = .int .i64 z ∧ v7 = .int .i64 s ∧ s ≤ 64 * z ∧ O.length ≤ 4096 * z ∧ Owns wr w3.heap.size 3 v6 (nats O) ∧ Below w3.heap.size w3 wr ∧ Hid ((z = 0 ∧ O = [] ∧ s = 0) ∨ (z = 1 ∧ O = OA ∧ s = RA.length) ∨ (z = 2 ∧ s = RA.length + RB.length))) (fun _ _ v8 _ => 2 - (intOf v8).toNat)
    case atStart => exact ⟨0, 0, [], by omega, rfl, rfl, by omega, by simp, Owns.nil _ _ _, Below.refl _ _, .inl ⟨rfl, rfl, rfl⟩⟩
    case round =>
      obtain ⟨z, s, O, hz2, rfl, rfl, hsz, hOl, hown, hbr, hst⟩ := hrel
      by_cases hz : z < 2
      · obtain ⟨p, R0, hp, hR0, hnx⟩ : ∃ (p : Nat → Bool) (R0 : List Nat), Hid (∀ c, (((numM cells V c : Int) == 0) == ((z : Int) == 0)) = p c) ∧ Hid (R0 = jcGo op p F O) ∧ Hid (∀ O', O' = O ++ R0.flatMap op → ((z + 1 = 0 ∧ O' = [] ∧ s + R0.length = 0) ∨ (z + 1 = 1 ∧ O' = OA ∧ s + R0.length = RA.length) ∨ (z + 1 = 2 ∧ s + R0.length = RA.length + RB.length))) := by
          have e0 : ∀ c, ((numM cells V c : Int) == 0) = zb c := fun c => by
            rw [hzb.out c, Bool.eq_iff_iff]; simp
          rcases hst.out with ⟨rfl, rfl, rfl⟩ | ⟨rfl, rfl, rfl⟩ | ⟨rfl, _⟩
          · exact ⟨zb, RA, Lib.hid (fun c => by rw [e0]; simp), hA, Lib.hid (fun O' h => .inr (.inl ⟨rfl, by rw [h, hO.out]; rfl, by omega⟩))⟩
          · exact ⟨fun c => !zb c, RB, Lib.hid (fun c => by rw [e0]; show (zb c == (((1 : Nat) : Int) == 0)) = !zb c; cases zb c <;> simp), hBB, Lib.hid (fun O' h => .inr (.inr ⟨rfl, by omega⟩))⟩
          · omega
        clear hst
        have hzd : decide ((z : Int) < 2) = true := by simp; omega
        go_wp2_with fail
        go_loopw [6, 7, 25] (fun v6 v7 i wr => ∃ (k s' : Nat) (O' : List Nat), k ≤ F.length ∧ i = .int .i64 k ∧ v7 = .int .i64 s' ∧ s' ≤ s + k ∧ O'.length ≤ O.length + 64 * k ∧ Owns wr w3.heap.size 3 v6 (nats O') ∧ Below w3.heap.size w3 wr ∧ Hid (∃ done, R0 = done ++ jcGo op p (F.drop k) O' ∧ O' = O ++ done.flatMap op ∧ s' = s + done.length)) (fun _ _ i _ => F.length - (intOf i).toNat)
        case atStart => exact ⟨0, s, O, Nat.zero_le _, rfl, rfl, by omega, by omega, hown, hbr, Lib.hid ⟨[], by rw [hR0.out]; rfl, by simp, rfl⟩⟩
        case round =>
          clear hown hbr
          obtain ⟨k, s', O', hk, rfl, rfl, hs', hOl', hown, hbr, hdn⟩ := hrel
          have sr := hbr.size
          obtain ⟨a6, c6, hv6⟩ := hown.shape
          simp only [nats_length] at hv6
          subst hv6
          by_cases hlt : k < F.length
          · have Ht := Lib.hid (List.drop_eq_getElem_cons hlt)
            have hcn := HPL.out _ (List.getElem_mem hlt)
            obtain ⟨g5, off5, he5, hc5⟩ := nats_at (hat5.later rfl hbr) k hlt
            subst he5
            obtain ⟨g4, off4, he4, hc4⟩ := nats_at (hat4.later rfl hbr) F[k] (by simpa using hcn)
            subst he4
            rw [numsM_get] at hc4
            have hpc := hp.out F[k]
            cases hpk : p F[k] with
            | false =>
              rw [hpk] at hpc
              have HD : Hid (∃ done, R0 = done ++ jcGo op p (F.drop (k + 1)) O' ∧ O' = O ++ done.flatMap op ∧ s' = s + done.length) := by
                obtain ⟨d, h1, h2, h3⟩ := hdn.out
                exact ⟨d, by rw [h1, Ht.out, jcGo, if_neg (fun q => by rw [hpk] at q; exact absurd q.1 (by decide))], h2, h3⟩
              clear hpk hdn
              go_wp2_with fail
              go_roundw
              case rel =>
                first
                  | exact ⟨k + 1, s', O', by omega, by go_num, rfl, by omega, by omega, hown, hbr, HD⟩
                  | ((repeat apply Exists.intro); exact ⟨⟨k + 1, s', O', by omega, by go_num, rfl, by omega, by omega, hown, hbr, HD⟩, rfl⟩)
              case measure => simp [intOf]; omega
            | true =>
              rw [hpk] at hpc
              have hHas := l1HasN_any O' F[k] a6 c6 wr hown.at (by omega)
              by_cases hin : F[k] ∈ O'
              · rw [decide_eq_true hin] at hHas
                have HH := Lib.hid hHas
                have HD : Hid (∃ done, R0 = done ++ jcGo op p (F.drop (k + 1)) O' ∧ O' = O ++ done.flatMap op ∧ s' = s + done.length) := by
                  obtain ⟨d, h1, h2, h3⟩ := hdn.out
                  exact ⟨d, by rw [h1, Ht.out, jcGo, if_neg (fun q => q.2 hin)], h2, h3⟩
                clear hpk hdn hin hHas
                go_wp2_with fail
                refine HH.out.mono ?_
                rintro e w5 ⟨rfl, rfl⟩
                go_wp2_with fail
                go_roundw
                case rel =>
                  first
                    | exact ⟨k + 1, s', O', by omega, by go_num, rfl, by omega, by omega, hown, hbr, HD⟩
                    | ((repeat apply Exists.intro); exact ⟨⟨k + 1, s', O', by omega, by go_num, rfl, by omega, by omega, hown, hbr, HD⟩, rfl⟩)
                case measure => simp [intOf]; omega
              · rw [decide_eq_false hin] at hHas
                have HH := Lib.hid hHas
                have HD : Hid (∃ done, R0 = done ++ jcGo op p (F.drop (k + 1)) (O' ++ op F[k]) ∧ O' ++ op F[k] = O ++ done.flatMap op ∧ s' + 1 = s + done.length) := by
                  obtain ⟨d, h1, h2, h3⟩ := hdn.out
                  exact ⟨d ++ [F[k]], by rw [h1, Ht.out, jcGo, if_pos ⟨hpk, hin⟩, List.append_assoc]; rfl, by rw [h2, List.flatMap_append, List.append_assoc]; simp, by simp; omega⟩
                have hopl := hop.out F[k]
                clear hpk hdn hin hHas
                go_wp2_with fail
                refine HH.out.mono ?_
                rintro e w5 ⟨rfl, rfl⟩
                go_wp2_with fail
                refine (HK.out F[k] _ hcn).mono ?_
                rintro e w6 ⟨a7, c7, rfl, hown7, hb7⟩
                have hown6 := hown.later hb7
                have hat7 := hown7.at
                have s7 := hb7.size
                have hbr7 := hbr.trans (hb7.mono sr)
                clear hown7 hown hb7 hbr hc4 hc5
                generalize op F[k] = news at *
                go_wp2_with (at_builtin; refine wpList_appA rfl _ _ _ (by rfl) w3.heap.size _ _ _ elemInt _ (nats O') (by rfl) hown6 _ _ _ (nats news) (by rfl) (nats_length _) hat7 (nats_one _) (by simp; omega) (by simp; omega) (by omega) ?_; intro v8' w8 hown8 hb8)
                rw [nats_append] at hown8
                go_roundw
                case rel =>
                  first
                    | exact ⟨k + 1, s' + 1, O' ++ news, by omega, by go_num, by go_num, by omega, by simp; omega, hown8, hbr7.trans hb8, HD⟩
                    | ((repeat apply Exists.intro); exact ⟨⟨k + 1, s' + 1, O' ++ news, by omega, by go_num, by go_num, by omega, by simp; omega, hown8, hbr7.trans hb8, HD⟩, rfl⟩)
                case measure => simp [intOf]; omega
          · obtain rfl : k = F.length := by omega
            have HF : Hid ((z + 1 = 0 ∧ O' = [] ∧ s' = 0) ∨ (z + 1 = 1 ∧ O' = OA ∧ s' = RA.length) ∨ (z + 1 = 2 ∧ s' = RA.length + RB.length)) := by
              obtain ⟨d, h1, h2, h3⟩ := hdn.out
              rw [List.drop_length, jcGo, List.append_nil] at h1
              subst h1
              rw [h3]
              exact hnx.out O' h2
            clear hdn hnx
            go_wp2_with fail
            go_roundw
            case rel =>
              first
                | exact ⟨z + 1, s', O', by omega, by go_num, rfl, by omega, by omega, hown, hbr, HF⟩
                | ((repeat apply Exists.intro); exact ⟨⟨z + 1, s', O', by omega, by go_num, rfl, by omega, by omega, hown, hbr, HF⟩, rfl⟩)
            case measure => simp [intOf]; omega
      · obtain rfl : z = 2 := by omega
        have hfin : Hid (s = jcM l) := by
          rw [Hid, HL.out]
          rcases hst.out with ⟨h, _⟩ | ⟨h, _⟩ | ⟨_, h⟩
          · cases h
          · cases h
          · exact h
        go_wp2_with fail
        go_ret2
        exact ⟨by rw [← hfin.out]; rfl, hb03.trans (hbr.mono hb03.size)⟩
end Go.Proofs.YtbnoallcdjpihaaDoor
