/- Notes: signs put in a list of unknown cells, by the model. -/
import Derived.Test.YthlbplmghjaeoabDoorCD
import Derived.Outline
namespace Go.Proofs.YthlbplmghjaeoabDoor
open Go.RowKit

theorem all_drop {α : Type} (p : α → Bool) (xs : List α) (k : Nat) (hk : k < xs.length) : (xs.drop k).all p = (p xs[k] && (xs.drop (k + 1)).all p) := by
  rw [List.drop_eq_getElem_cons hk, List.all_cons]

set_option maxRecDepth 100000 in
set_option maxHeartbeats 1600000 in
theorem ruNoted_any (l : List UInt8) (xs : List Int) (s : UInt8) (a : Option Addr) (cap : Nat) (w : World) (hl : l.length ≤ 1048576) (hat : At w a (ints xs)) (hx : xs.length ≤ 1048576) :
    Calls Tryd.prog 45 #[.string ⟨l.toArray⟩, .slice a xs.length cap, .string ⟨#[s]⟩] w fun e w' => e = .returned (.tuple #[.string ⟨(nuM l xs s).toArray⟩, .bool (nuOK l xs)]) ∧ Below w.heap.size w w' := by
  have h1 := fun w => ruGood_any l w hl
  cases hg : gridM noteSign l with
  | false =>
    have e5 : nuOK l xs = false := by rw [nuOK, nuRise, hg]; rfl
    obtain ⟨_, _, _, _, e6⟩ := nu_no e5
    have HO := Lib.hid e5
    have HT := Lib.hid (e6 s)
    rw [hg] at h1
    clear hg e5 e6
    go_enter Tryd.func45, Tryd.ntmps45
    go_wp2_with (go_at_call 31; refine (h1 _).mono ?_; rintro e w1 ⟨rfl, hb⟩)
    go_ret2
    exact ⟨by rw [HO.out, HT.out]; rfl, hb⟩
  | true =>
    rw [hg] at h1
    obtain ⟨hB, hsg⟩ := Grd.note hg
    have hbc := fun w => boCells_any l w hl
    rw [hB.cs] at hbc
    have h64 := hB.n64
    have hri := fun w h => l1Rising_any xs (grC noteSign l).length ((grC noteSign l).length - 1) (by omega) a cap w h hx
    cases hr : risesM (grC noteSign l).length (-1) xs with
    | false =>
      have e5 : nuOK l xs = false := by rw [nuOK, nuRise, hr]; simp
      obtain ⟨_, _, _, _, e6⟩ := nu_no e5
      have HO := Lib.hid e5
      have HT := Lib.hid (e6 s)
      rw [hr] at hri
      clear hg e5 e6 hr hB hsg
      generalize hcc : grC noteSign l = cells at *
      have HCC := Lib.hid hcc
      clear hcc
      go_enter Tryd.func45, Tryd.ntmps45
      go_wp2_with fail
      refine (h1 _).mono ?_
      rintro e w1 ⟨rfl, hb⟩
      have hri1 := hri _ (hat.later rfl hb)
      clear hri
      go_wp2_with fail
      refine (hbc _).mono ?_
      rintro e w2 ⟨rfl, rfl⟩
      go_wp2_with fail
      refine hri1.mono ?_
      rintro e w2 ⟨rfl, rfl⟩
      go_wp2_with fail
      go_ret2
      exact ⟨by rw [HO.out, HT.out]; rfl, hb⟩
    | true =>
      have hnr : nuRise l xs = true := by rw [nuRise, hg, hr]; rfl
      obtain ⟨_, hmap, hcel⟩ := nu_rise hnr
      have hok : nuOK l xs = nuAll l xs := by rw [nuOK, hnr, Bool.true_and]
      have HIN := Lib.hid (fun x h => rises_in xs (-1) (Int.le_refl _) hr x h)
      have HALL : Hid (nuAll l xs = xs.all fun x => unsB (grC noteSign l) x.toNat) := rfl
      have HNO := Lib.hid (fun (h : nuAll l xs = false) => (show nuOK l xs = false ∧ nuM l xs s = [] from ⟨hok.trans h, (nu_no (hok.trans h)).2.2.2.2 s⟩))
      have HYES := Lib.hid (fun (h : nuAll l xs = true) => (show nuOK l xs = true ∧ nuM l xs s = textM (noteL (grC noteSign l) (xs.map Int.toNat) s) (grW noteSign l) (grH noteSign l) from by
        obtain ⟨e1, e2, e3, e4⟩ := nu_yes (hok.trans h)
        exact ⟨hok.trans h, by rw [nuM, e1, e2, e3, e4]⟩))
      have hnats : nats (xs.map Int.toNat) = ints xs := by rw [nats, hmap]
      have hnote := fun w h => ruNote_any l _ _ _ hB hsg (xs.map Int.toNat) a cap s w h (by rw [List.length_map]; exact hx) hl
      rw [hnats, List.length_map] at hnote
      have HNT := Lib.hid hnote
      rw [hr] at hri
      clear hg hr hB hsg hnote hnats hok hnr hmap hcel
      generalize textM (noteL (grC noteSign l) (xs.map Int.toNat) s) (grW noteSign l) (grH noteSign l) = tx at *
      generalize hcc : grC noteSign l = cells at *
      have HCC := Lib.hid hcc
      clear hcc
      go_enter Tryd.func45, Tryd.ntmps45
      go_wp2_with fail
      refine (h1 _).mono ?_
      rintro e w1 ⟨rfl, hb⟩
      have hat1 := hat.later rfl hb
      have hri1 := hri _ hat1
      have HNT1 := Lib.hid (HNT.out _ hat1)
      clear hri
      go_wp2_with fail
      refine (hbc _).mono ?_
      rintro e w2 ⟨rfl, rfl⟩
      go_wp2_with fail
      refine hri1.mono ?_
      rintro e w2 ⟨rfl, rfl⟩
      go_wp2_with fail
      go_loop [24] (fun i => ∃ k : Nat, k ≤ xs.length ∧ i = .int .i64 k ∧ Hid (nuAll l xs = (xs.drop k).all fun x => unsB cells x.toNat)) (fun i => xs.length - (intOf i).toNat)
      case atStart => exact ⟨0, Nat.zero_le _, rfl, HALL.out⟩
      case round =>
        obtain ⟨k, hk, rfl, hR⟩ := hrel
        by_cases hlt : k < xs.length
        · have HD := Lib.hid (all_drop (fun x : Int => unsB cells x.toNat) xs k hlt)
          obtain ⟨hx0, hxn⟩ := HIN.out _ (List.getElem_mem hlt)
          obtain ⟨b, off, he, hcell⟩ := ints_at hat1 k hlt
          subst he
          obtain ⟨y, hy⟩ : ∃ y : Nat, xs[k] = y := ⟨xs[k].toNat, by omega⟩
          rw [hy] at hcell hx0 hxn
          have hyl : y < cells.length := by omega
          have hun : unsB cells xs[k].toNat = ((cells[y].toNat : Int) == 63) := by
            rw [hy, Int.toNat_natCast, show ((63 : Int)) = ((63 : Nat) : Int) from rfl, byte_beq cells[y] 63 (by omega)]
            simp [unsB, List.getD, hyl]
          cases hu : unsB cells xs[k].toNat with
          | true =>
            rw [hu] at hun
            have hd : ((cells[y].toNat : Int) != 63) = false := by rw [bne, ← hun]; rfl
            have HU := Lib.hid hu
            clear hu hun hy hx0 hxn
            go_wp2_with (go_at_call 33; refine (hbc _).mono ?_; rintro e w2 ⟨rfl, rfl⟩)
            go_round
            case rel => exact ⟨k + 1, by omega, by go_num, by rw [Hid, hR.out, HD.out, HU.out]; rfl⟩
            case measure => simp [intOf]; omega
          | false =>
            rw [hu] at hun
            have hd : ((cells[y].toNat : Int) != 63) = true := by rw [bne, ← hun]; rfl
            obtain ⟨e1, e2⟩ := HNO.out (by rw [hR.out, HD.out, hu]; rfl)
            have HO := Lib.hid e1
            have HT := Lib.hid e2
            clear hu hun hy hx0 hxn e1 e2
            go_wp2_with (go_at_call 33; refine (hbc _).mono ?_; rintro e w2 ⟨rfl, rfl⟩)
            go_ret2
            exact ⟨by rw [HO.out, HT.out]; rfl, hb⟩
        · obtain rfl : k = xs.length := by omega
          obtain ⟨e1, e2⟩ := HYES.out (by rw [hR.out, List.drop_length]; rfl)
          have HO := Lib.hid e1
          have HT := Lib.hid e2
          clear e1 e2
          go_wp2_with fail
          refine HNT1.out.mono ?_
          rintro e w3 ⟨rfl, hb3⟩
          go_wp2_with fail
          go_ret2
          exact ⟨by rw [HO.out, HT.out]; rfl, hb.trans (hb3.mono hb.size)⟩

theorem sNoteMines_any (l : List UInt8) (xs : List Int) (a : Option Addr) (cap : Nat) (w : World) (hl : l.length ≤ 1048576) (hat : At w a (ints xs)) (hx : xs.length ≤ 1048576) :
    Calls Tryd.prog 20 #[.string ⟨l.toArray⟩, .slice a xs.length cap] w fun e w' => e = .returned (.tuple #[.string ⟨(nuM l xs 42).toArray⟩, .bool (nuOK l xs)]) ∧ Below w.heap.size w w' := by
  have h := ruNoted_any l xs 42 a cap w hl hat hx
  go_enter Tryd.func20, Tryd.ntmps20
  go_wp2_with fail
  refine h.mono ?_
  rintro e w1 ⟨rfl, hb⟩
  go_wp2_with fail
  go_ret2
  exact ⟨rfl, hb⟩
theorem sNoteFree_any (l : List UInt8) (xs : List Int) (a : Option Addr) (cap : Nat) (w : World) (hl : l.length ≤ 1048576) (hat : At w a (ints xs)) (hx : xs.length ≤ 1048576) :
    Calls Tryd.prog 23 #[.string ⟨l.toArray⟩, .slice a xs.length cap] w fun e w' => e = .returned (.tuple #[.string ⟨(nuM l xs 46).toArray⟩, .bool (nuOK l xs)]) ∧ Below w.heap.size w w' := by
  have h := ruNoted_any l xs 46 a cap w hl hat hx
  go_enter Tryd.func23, Tryd.ntmps23
  go_wp2_with fail
  refine h.mono ?_
  rintro e w1 ⟨rfl, hb⟩
  go_wp2_with fail
  go_ret2
  exact ⟨rfl, hb⟩
end Go.Proofs.YthlbplmghjaeoabDoor
