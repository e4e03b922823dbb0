/- YB, YC, YD, YE, laid as one text. -/
import Derived.Test.YtndmkbkmfonefacDoorGY8
import Derived.Outline

/- Rows that a call owns, several at once: no two share a block. -/
namespace Go.Proofs.YtndmkbkmfonefacDoor
open Go.RowKit

/-- A row: its slice, its elements' type and its cells. -/
abbrev Rw := Value × Nat × List Value
/-- The call owns each of these rows, from block B on, and no two lie in one block. -/
structure Fam (w : World) (B : Nat) (F : List Rw) : Prop where
  own : ∀ x ∈ F, Owns w B x.2.1 x.1 x.2.2
  apart : F.Pairwise fun a b => Apart a.1 b.1

theorem Fam.empty (w : World) (B : Nat) : Fam w B [] := ⟨(by intro x hx; cases hx), List.Pairwise.nil⟩
theorem Fam.later {w w' : World} {B : Nat} {F : List Rw} (h : Fam w B F) (hb : Below w.heap.size w w') : Fam w' B F := ⟨fun x hx => (h.own x hx).later hb, h.apart⟩
theorem Fam.perm {w : World} {B : Nat} {F F' : List Rw} (h : Fam w B F) (hp : F.Perm F') : Fam w B F' :=
  ⟨fun x hx => h.own x (hp.mem_iff.2 hx), (hp.pairwise_iff (fun {_ _} h => Apart.symm h)).1 h.apart⟩
theorem Fam.head {w : World} {B e : Nat} {v : Value} {xs : List Value} {F : List Rw} (h : Fam w B ((v, e, xs) :: F)) : Owns w B e v xs := h.own _ List.mem_cons_self
theorem Fam.tail {w : World} {B : Nat} {x : Rw} {F : List Rw} (h : Fam w B (x :: F)) : Fam w B F := ⟨fun y hy => h.own y (List.mem_cons_of_mem _ hy), (List.pairwise_cons.1 h.apart).2⟩
theorem Fam.swap {w : World} {B : Nat} {x y : Rw} {F : List Rw} (h : Fam w B (x :: y :: F)) : Fam w B (y :: x :: F) := h.perm (List.Perm.swap _ _ _)
theorem Fam.swap3 {w : World} {B : Nat} {x y z : Rw} {F : List Rw} (h : Fam w B (x :: y :: z :: F)) : Fam w B (z :: x :: y :: F) :=
  h.perm (((List.Perm.swap z y F).cons x).trans (List.Perm.swap z x (y :: F)))
theorem Fam.swap4 {w : World} {B : Nat} {x y z u : Rw} {F : List Rw} (h : Fam w B (x :: y :: z :: u :: F)) : Fam w B (u :: x :: y :: z :: F) :=
  h.perm ((((List.Perm.swap u z F).cons y).trans (List.Perm.swap u y (z :: F))).cons x |>.trans (List.Perm.swap u x (y :: z :: F)))
theorem Fam.last {w : World} {B : Nat} {x : Rw} {F : List Rw} (h : Fam w B (x :: F)) : Fam w B (F ++ [x]) := h.perm (List.perm_append_singleton x F).symm
theorem Fam.mono {w : World} {B B' : Nat} {F : List Rw} (h : Fam w B F) (hB : B' ≤ B) : Fam w B' F := ⟨fun x hx => (h.own x hx).mono hB, h.apart⟩
theorem Fam.nil {w : World} {B e : Nat} {F : List Rw} (h : Fam w B F) : Fam w B ((.slice none 0 0, e, []) :: F) := by
  refine ⟨?_, List.pairwise_cons.2 ⟨?_, h.apart⟩⟩
  · intro x hx
    rcases List.mem_cons.1 hx with rfl | hx
    · exact Owns.nil _ _ _
    · exact h.own x hx
  · intro y _ k hk
    cases hk
/-- A row that came anew. -/
theorem Fam.fresh {w w' : World} {B e : Nat} {v : Value} {xs : List Value} {F : List Rw} (h : Fam w B F) (hb : Below w.heap.size w w') (ho : Owns w' w.heap.size e v xs) (hB : B ≤ w.heap.size) : Fam w' B ((v, e, xs) :: F) := by
  refine ⟨?_, List.pairwise_cons.2 ⟨?_, h.apart⟩⟩
  · intro x hx
    rcases List.mem_cons.1 hx with rfl | hx
    · exact ho.mono hB
    · exact (h.own x hx).later hb
  · intro y hy
    exact (Apart.fresh (h.own y hy) (fun k hk => (ho.lt k hk).1)).symm

/-- append of one element to the first row. -/
theorem wpList_app1F {P : Program} {ops : Array Oper} {rest : List Oper} {o : Oper} {a : Act} {Q : Exit → Act → World → Prop} {w : World} (hgd : o.guard = none) (s x : Operand) (t : TypeId)
    (ho : o.op = .call { callee := .builtin .append, args := #[s, x], argTypes := #[t, t] })
    (B e bytes : Nat) (z : Value) (E : Elem P t e z bytes) (v : Value) (xs : List Value) (F : List Rw) (x0 : Value) (w0 : World) (hw : w = w0.alloc (.cells #[x0] e)) (hx1 : x0.oneCell' = true)
    (hs : a.eval s = v) (hF : Fam w0 B ((v, e, xs) :: F)) (hx : a.eval x = .slice (some ⟨w0.heap.size, 0, none⟩) 1 1)
    (hlen : (xs.length + 1) * bytes ≤ 140737488355328) (hB : B ≤ w0.heap.size) (hlen' : xs.length < 1099511627776)
    (h : ∀ v' w', Fam w' B ((v', e, xs ++ [x0]) :: F) → Below B w0 w' → w0.heap.size < w'.heap.size → wpList P ops Q rest (a.put o.dst v') w') : wpList P ops Q (o :: rest) a w := by
  refine wpList_app1K hgd s x t ho B e bytes z E v xs x0 w0 hw hx1 hs hF.head hx hlen hB hlen' ?_
  intro v' w' h1 h2 h3 hK
  have hp := (List.pairwise_cons.1 hF.apart)
  refine h v' w' ⟨?_, List.pairwise_cons.2 ⟨?_, hp.2⟩⟩ h2 h3
  · intro y hy
    rcases List.mem_cons.1 hy with rfl | hy
    · exact h1
    · exact (hK B _ _ _ (hF.own y (List.mem_cons_of_mem _ hy)) (hp.1 y hy)).1
  · intro y hy
    exact (hK B _ _ _ (hF.own y (List.mem_cons_of_mem _ hy)) (hp.1 y hy)).2

/-- append of a whole row to the first row. -/
theorem run_appAF {P : Program} (w : World) (B t ty e bytes : Nat) (z : Value) (E : Elem P t e z bytes) (v : Value) (xs : List Value) (F : List Rw) (hF : Fam w B ((v, e, xs) :: F))
    (A : Option Addr) (c : Nat) (news : List Value) (hat : At w A news) (h1 : ∀ u ∈ news, u.oneCell' = true) (hlen : (xs.length + news.length) * bytes ≤ 140737488355328) (hlen' : xs.length + news.length < 1099511627776) (hB : B ≤ w.heap.size) :
    ∃ v' w', (Builtin.append_ #[t, t] ty #[v, .slice A news.length c]).run P w = .ok v' w' ∧ Fam w' B ((v', e, xs ++ news) :: F) ∧ Below B w w' := by
  obtain ⟨i, hi, hz, hsz, hby⟩ := E.info
  have hown := hF.head
  have hp := (List.pairwise_cons.1 hF.apart)
  cases A with
  | none =>
    obtain rfl := hat.ofNone
    refine ⟨v, w, ?_, by simpa using hF, Below.refl _ _⟩
    rcases hown.2 with ⟨rfl, _⟩ | ⟨g, cap, cur, rfl, _, _, hnc, _⟩
    · simp [Builtin.append_, run_underlying E.und, sizeOf, typeInfo, hi, Builtin.lenOf, Builtin.firstCells]
    · simp [Builtin.append_, run_underlying E.und, sizeOf, typeInfo, hi, Builtin.lenOf, Builtin.firstCells, hnc, storeCells]
  | some ad =>
    have hnews : ∀ j u, news[j]? = some u → w.cell? (ad.add j) = some u := by
      intro j u hu
      obtain ⟨hj, rfl⟩ := List.getElem?_eq_some_iff.1 hu
      obtain ⟨b, off, hab, hc⟩ := hat j hj
      obtain rfl : ad = ⟨b, off, none⟩ := by simpa using hab
      rw [Addr.add_lit]
      exact hc
    obtain ⟨v', w', hr, h2, h3, _, h5⟩ := run_append_own_at (P := P) w B t ty e i z 1 bytes E.und hi hz hsz hby E.one (by decide) v xs.length xs hown ad news.length c news (by simp) hnews h1 (by unfold maxLen; omega) hlen hB
    refine ⟨v', w', hr, ⟨?_, List.pairwise_cons.2 ⟨?_, hp.2⟩⟩, (Below.refl B w).grown h3 hB (fun k hk => (Owns.lt hown k hk).1)⟩
    · intro y hy
      rcases List.mem_cons.1 hy with rfl | hy
      · unfold Owns; rw [List.length_append]; exact h2
      · have hu := hF.own y (List.mem_cons_of_mem _ hy)
        refine World.ownsRow.kept hu h3 ?_
        cases hv : y.1.ownBlock with
        | none => exact .inl rfl
        | some k => exact .inr fun e => hp.1 y hy k e.symm hv
    · intro y hy k hk hk2
      have hu := hF.own y (List.mem_cons_of_mem _ hy)
      rcases h5 with h5 | h5
      · exact hp.1 y hy k (h5 ▸ hk) hk2
      · rw [h5] at hk
        have h6 := (Owns.lt hu k hk2).2
        simp at hk
        omega
theorem wpList_appAF {P : Program} {ops : Array Oper} {rest : List Oper} {o : Oper} {a : Act} {Q : Exit → Act → World → Prop} {w : World} (hgd : o.guard = none) (s x : Operand) (t : TypeId)
    (ho : o.op = .call { callee := .builtin .append, args := #[s, x], argTypes := #[t, t] })
    (B e bytes : Nat) (z : Value) (E : Elem P t e z bytes) (v : Value) (xs : List Value) (F : List Rw) (hs : a.eval s = v) (hF : Fam w B ((v, e, xs) :: F)) (A : Option Addr) (n c : Nat) (news : List Value) (hx : a.eval x = .slice A n c) (hn : news.length = n) (hat : At w A news) (h1 : ∀ u ∈ news, u.oneCell' = true)
    (hlen : (xs.length + news.length) * bytes ≤ 140737488355328) (hlen' : xs.length + news.length < 1099511627776) (hB : B ≤ w.heap.size)
    (h : ∀ v' w', Fam w' B ((v', e, xs ++ news) :: F) → Below B w w' → wpList P ops Q rest (a.put o.dst v') w') : wpList P ops Q (o :: rest) a w := by
  subst hn
  refine wpList_plain hgd fun K hK => ?_
  obtain ⟨v', w', hrun, h2, h3⟩ := run_appAF (P := P) w B t o.type e bytes z E v xs F hF A c news hat h1 hlen hlen' hB
  unfold Oper.wp execOp
  simp only [ho, resolve, invoke, builtin, Sem.run_bind, Sem.run_pure, Result.andThen_ok, List.map_toArray, List.map_cons, List.map_nil, hs, hx, hrun]
  exact hK _ _ (h v' w' h2 h3)

/-- Rows of numbers, each with its slice. -/
def rowsF : List Value → List (List Nat) → List Rw
  | u :: us, r :: rs => (u, 3, nats r) :: rowsF us rs
  | _, _ => []
theorem rowsF_snoc (u : Value) (r : List Nat) : ∀ (us : List Value) (rs : List (List Nat)), us.length = rs.length → rowsF (us ++ [u]) (rs ++ [r]) = rowsF us rs ++ [(u, 3, nats r)]
  | [], [], _ => rfl
  | x :: us, y :: rs, h => by
    simp only [List.cons_append, rowsF]
    rw [rowsF_snoc u r us rs (by simpa using h)]
  | [], _ :: _, h => by simp at h
  | _ :: _, [], h => by simp at h
theorem rowsF_mem : ∀ (us : List Value) (rs : List (List Nat)) (k : Nat) (hu : k < us.length) (hr : k < rs.length), (us[k], 3, nats rs[k]) ∈ rowsF us rs
  | u :: us, r :: rs, 0, _, _ => List.mem_cons_self
  | u :: us, r :: rs, k + 1, hu, hr => List.mem_cons_of_mem _ (rowsF_mem us rs k (by simpa using hu) (by simpa using hr))
  | [], _, k, hu, _ => by simp at hu
  | _ :: _, [], k, _, hr => by simp at hr
end Go.Proofs.YtndmkbkmfonefacDoor

/- Opening: the zeros of a board, by the model. -/
namespace Go.Proofs.YtndmkbkmfonefacDoor
open Go.RowKit

set_option maxRecDepth 100000 in
set_option maxHeartbeats 1600000 in
theorem opZeros_any (l : List UInt8) (W H : Nat) (cells : List UInt8) (w : World) (hl : l.length ≤ 1048576) (hB : Brd l W H cells) :
    Calls Tryd.prog 43 #[.string ⟨l.toArray⟩] w fun e w' => ∃ a cap, e = .returned (.slice a (zGo cells W 46 0 cells.length).length cap) ∧ Owns w' w.heap.size 3 (.slice a (zGo cells W 46 0 cells.length).length cap) (nats (zGo cells W 46 0 cells.length)) ∧ Below w.heap.size w w' := by
  have hn64 := hB.n64
  have HS := Lib.hid hB.size
  have HC := Lib.hid hB.cs
  have HL := Lib.hid hB.len
  have hsg := hB.sign
  have hw1 := hB.w1
  have hw8 := hB.w8
  have hh8 := hB.h8
  clear hB
  go_enter Tryd.func43, Tryd.ntmps43
  go_wp2_with fail
  refine (boSize_any l _ hl).mono ?_
  rintro e w1 ⟨rfl, hb1⟩
  rw [HS.out]
  go_wp2_with fail
  refine (boCells_any l _ hl).mono ?_
  rintro e w1' ⟨rfl, rfl⟩
  rw [HC.out]
  go_wp2_with fail
  have hI : (w1.iter ⟨cells.toArray⟩ 0).heap[w1.heap.size]? = some (.stringIter ⟨cells.toArray⟩ 0) := World.iter_heap w1 _ _
  have hb2 : Below w1.heap.size w1 (w1.iter ⟨cells.toArray⟩ 0) := (Below.refl _ _).alloc (Nat.le_refl _) _
  have hs2 : w1.heap.size < (w1.iter ⟨cells.toArray⟩ 0).heap.size := by simp [World.iter]
  have hb12 := hb1.trans (hb2.mono hb1.size)
  have hsz := hb1.size
  generalize w1.iter ⟨cells.toArray⟩ 0 = w2 at *
  generalize hII : w1.heap.size = I at *
  have HII := Lib.hid hII
  clear hII hb2
  go_loopw [6] (fun v wr => ∃ k : Nat, k ≤ cells.length ∧ Hid (wr.heap[I]? = some (.stringIter ⟨cells.toArray⟩ k)) ∧ ∃ acc : List Nat, acc.length ≤ k ∧ Owns wr (I + 1) 3 v (nats acc) ∧ Below I w2 wr ∧ Hid (zGo cells W 46 0 cells.length = acc ++ zGo cells W 46 k (cells.length - k))) (fun _ wr => cells.length - wr.iterPos I)
  case atStart => exact ⟨0, Nat.zero_le _, hI, [], by simp, Owns.nil _ _ _, Below.refl _ _, by simp [Hid]⟩
  case round =>
    obtain ⟨k, hk, hIr, acc, hacc, hown, hb, hR⟩ := hrel
    have hIlt := block_lt hIr.out
    by_cases hlt : k < cells.length
    · have hasc := sign_ascii (hsg _ (List.getElem_mem hlt))
      have hnx := fun ty => Lib.run_next_ascii_at (P := Tryd.prog) wr I ⟨cells.toArray⟩ k ty hIr.out (by simpa [ByteArray.size] using hlt) (by simpa using hasc)
      have hpos := Lib.hid (iterPos_at hIr.out)
      have i1 := iterAt_at hIlt ⟨cells.toArray⟩ (k + 1)
      have i2 := iterAt_below wr I ⟨cells.toArray⟩ (k + 1)
      have i3 := iterAt_size wr I ⟨cells.toArray⟩ (k + 1)
      have i4 := hown.iter I ⟨cells.toArray⟩ (k + 1) (by omega)
      have hgd : Hid (cells.getD k 0 = cells[k]) := by simp [Hid, List.getD, hlt]
      have hst : Hid (zGo cells W 46 k (cells.length - k) = if cells[k] = 46 ∧ numM cells W k = 0 then k :: zGo cells W 46 (k + 1) (cells.length - (k + 1)) else zGo cells W 46 (k + 1) (cells.length - (k + 1))) := by
        rw [Hid, show cells.length - k = (cells.length - (k + 1)) + 1 by omega, zGo, hgd.out]
      have q := byte_beq cells[k] 46 (by omega)
      by_cases h46 : cells[k] = 46
      · have hd : ((cells[k].toNat : Int) == 46) = true := by rw [show (46 : Int) = ((46 : Nat) : Int) from rfl, q]; simp [h46]
        have H46 := Lib.hid h46
        clear h46 q
        by_cases h0 : numM cells W k = 0
        · have hd0 : ((numM cells W k : Int) == 0) = true := by simp [h0]
          have H0 := Lib.hid h0
          clear h0
          go_wp2_with fail
          clear hnx
          generalize wr.iterAt I ⟨cells.toArray⟩ (k + 1) = wi at *
          refine (boNumber_any W H cells k _ ⟨hw1, hw8⟩ hh8 HL.out hlt).mono ?_
          rintro e w3 ⟨rfl, hb3⟩
          have s3 := hb3.size
          have i5 := Lib.hid ((hb3.block I (by omega)).trans i1)
          clear i1
          go_wp2_with (at_builtin; refine wpList_app1 rfl _ _ _ rfl _ _ _ _ elemInt _ _ _ _ rfl rfl rfl (i4.later hb3) rfl (by simp; omega) (by omega) (by simp; omega) ?_; intro v1 w4 hown1 hb4 hs4)
          rw [nats_snoc] at hown1
          have i6 := (hb4.block I (by omega)).trans i5.out
          have ip := Lib.hid (iterPos_at i6)
          have I6 := Lib.hid i6
          clear i6
          go_roundw
          case rel =>
            first
              | exact ⟨k + 1, by omega, I6, _, by simp; omega, hown1, ((hb.trans i2).trans (hb3.mono (by omega))).trans (hb4.mono (by omega)), by rw [Hid, hR.out, hst.out, if_pos ⟨H46.out, H0.out⟩]; simp⟩
              | ((repeat apply Exists.intro); exact ⟨⟨k + 1, by omega, I6, _, by simp; omega, hown1, ((hb.trans i2).trans (hb3.mono (by omega))).trans (hb4.mono (by omega)), by rw [Hid, hR.out, hst.out, if_pos ⟨H46.out, H0.out⟩]; simp⟩, rfl⟩)
          case measure => rw [hpos.out, ip.out]; omega
        · have hd0 : ((numM cells W k : Int) == 0) = false := by simp [h0]
          have H0 := Lib.hid h0
          clear h0
          go_wp2_with fail
          clear hnx
          generalize wr.iterAt I ⟨cells.toArray⟩ (k + 1) = wi at *
          refine (boNumber_any W H cells k _ ⟨hw1, hw8⟩ hh8 HL.out hlt).mono ?_
          rintro e w3 ⟨rfl, hb3⟩
          have s3 := hb3.size
          have i6 := (hb3.block I (by omega)).trans i1
          have ip := Lib.hid (iterPos_at i6)
          have I6 := Lib.hid i6
          clear i6 i1
          go_wp2_with fail
          go_roundw
          case rel =>
            first
              | exact ⟨k + 1, by omega, I6, acc, by omega, i4.later hb3, ((hb.trans i2).trans (hb3.mono (by omega))), by rw [Hid, hR.out, hst.out, if_neg (fun e => H0.out e.2)]⟩
              | ((repeat apply Exists.intro); exact ⟨⟨k + 1, by omega, I6, acc, by omega, i4.later hb3, ((hb.trans i2).trans (hb3.mono (by omega))), by rw [Hid, hR.out, hst.out, if_neg (fun e => H0.out e.2)]⟩, rfl⟩)
          case measure => rw [hpos.out, ip.out]; omega
      · have hd : ((cells[k].toNat : Int) == 46) = false := by rw [show (46 : Int) = ((46 : Nat) : Int) from rfl, q]; simp [h46]
        have H46 := Lib.hid h46
        clear h46 q
        go_wp2_with fail
        clear hnx
        have ip := Lib.hid (iterPos_at i1)
        have I6 := Lib.hid i1
        clear i1
        generalize wr.iterAt I ⟨cells.toArray⟩ (k + 1) = wi at *
        go_roundw
        case rel =>
          first
            | exact ⟨k + 1, by omega, I6, acc, by omega, i4, hb.trans i2, by rw [Hid, hR.out, hst.out, if_neg (fun e => H46.out e.1)]⟩
            | ((repeat apply Exists.intro); exact ⟨⟨k + 1, by omega, I6, acc, by omega, i4, hb.trans i2, by rw [Hid, hR.out, hst.out, if_neg (fun e => H46.out e.1)]⟩, rfl⟩)
        case measure => rw [hpos.out, ip.out]; omega
    · obtain rfl : k = cells.length := by omega
      have hnx := fun ty => Lib.run_next_end_at (P := Tryd.prog) wr I ⟨cells.toArray⟩ cells.length ty hIr.out (by simp [ByteArray.size])
      have hfin : acc = zGo cells W 46 0 cells.length := by rw [hR.out]; simp [zGo]
      go_wp2_with fail
      go_ret
      rw [hfin] at hown
      obtain ⟨a', cap', hv⟩ := hown.shape
      simp only [nats_length] at hv
      exact ⟨a', cap', by rw [← hv]; rfl, by rw [← hv]; exact hown.mono (by omega), hb12.trans (hb.mono hsz)⟩
end Go.Proofs.YtndmkbkmfonefacDoor

/- Opening: all openings and their first zeros, by the model. -/
namespace Go.Proofs.YtndmkbkmfonefacDoor
open Go.RowKit

/-- The first zero of each opening: op tells what a click opens, seen what was opened before. -/
def fzGo (op : Nat → List Nat) : List Nat → List Nat → List Nat
  | [], _ => []
  | z :: r, seen => if z ∈ seen then fzGo op r seen else z :: fzGo op r (seen ++ op z)
theorem fzGo_congr (op : Nat → List Nat) : ∀ (r s s' : List Nat), (∀ x, x ∈ s ↔ x ∈ s') → fzGo op r s = fzGo op r s'
  | [], _, _, _ => rfl
  | z :: r, s, s', h => by
    unfold fzGo
    by_cases hz : z ∈ s
    · rw [if_pos hz, if_pos ((h z).1 hz)]; exact fzGo_congr op r s s' h
    · rw [if_neg hz, if_neg (fun e => hz ((h z).2 e))]
      rw [fzGo_congr op r (s ++ op z) (s' ++ op z) (fun x => by rw [List.mem_append, List.mem_append, h x])]
theorem fzGo_mem (op : Nat → List Nat) : ∀ (r s : List Nat), ∀ x ∈ fzGo op r s, x ∈ r
  | [], _, x, h => by cases h
  | z :: r, s, x, h => by
    unfold fzGo at h
    split at h
    · exact List.mem_cons_of_mem _ (fzGo_mem op r s x h)
    · rcases List.mem_cons.1 h with rfl | h
      · exact List.mem_cons_self
      · exact List.mem_cons_of_mem _ (fzGo_mem op r _ x h)
theorem fzGo_len (op : Nat → List Nat) : ∀ (r s : List Nat), (fzGo op r s).length ≤ r.length
  | [], _ => by simp [fzGo]
  | z :: r, s => by
    unfold fzGo
    split
    · have := fzGo_len op r s; simp; omega
    · have := fzGo_len op r (s ++ op z); simp; omega
theorem zGo_lt (cells : List UInt8) (W : Geo) (s : UInt8) : ∀ (m k : Nat), ∀ x ∈ zGo cells W s k m, k ≤ x ∧ x < k + m
  | 0, _, x, h => by simp [zGo] at h
  | m + 1, k, x, h => by
    unfold zGo at h
    split at h
    · rcases List.mem_cons.1 h with rfl | h
      · omega
      · have := zGo_lt cells W s m (k + 1) x h; omega
    · have := zGo_lt cells W s m (k + 1) x h; omega
/-- The zeros of a board, the first zeros of its openings, and the openings. -/
def zerosM (cells : List UInt8) (W : Geo) : List Nat := zGo cells W 46 0 cells.length
def firstsM (cells : List UInt8) (W : Geo) : List Nat := fzGo (opM cells W) (zerosM cells W) []
def openingsM (cells : List UInt8) (W : Geo) : List (List Nat) := (firstsM cells W).map (opM cells W)
theorem zerosM_lt (cells : List UInt8) (W : Geo) (x : Nat) (h : x ∈ zerosM cells W) : x < cells.length := by
  have := zGo_lt cells W 46 _ _ x h; omega
theorem zerosM_le (cells : List UInt8) (W : Geo) : (zerosM cells W).length ≤ cells.length := zGo_le _ _ _ _ _
theorem firstsM_lt (cells : List UInt8) (W : Geo) (x : Nat) (h : x ∈ firstsM cells W) : x < cells.length := zerosM_lt cells W x (fzGo_mem _ _ _ x h)
theorem firstsM_le (cells : List UInt8) (W : Geo) : (firstsM cells W).length ≤ cells.length := Nat.le_trans (fzGo_len _ _ _) (zerosM_le _ _)

theorem elemRow : Elem Tryd.prog 37 25 (.slice none 0 0) 24 := ⟨Tryd.underlying37, info_parts (by kernel_rfl), rfl⟩
theorem perm5 (a b c d e : Rw) (T : List Rw) : (a :: b :: c :: d :: e :: T).Perm (c :: b :: a :: e :: (T ++ [d])) := by
  refine List.Perm.trans (l₂ := c :: b :: a :: d :: e :: T) ?_ ?_
  · exact (List.Perm.swap b a _).trans (((List.Perm.swap c a _).cons b).trans (List.Perm.swap c b _))
  · exact ((((List.perm_append_singleton d (e :: T)).symm).cons a).cons b).cons c

set_option maxRecDepth 100000 in
set_option maxHeartbeats 3200000 in
theorem opAll_any (l : List UInt8) (W H : Nat) (cells : List UInt8) (w : World) (hl : l.length ≤ 1048576) (hB : Brd l W H cells) :
    Calls Tryd.prog 38 #[.string ⟨l.toArray⟩] w fun e w' => ∃ v1 v2 us, e = .returned (.tuple #[v1, v2]) ∧ us.length = (openingsM cells W).length ∧
      Fam w' w.heap.size ((v1, 25, us) :: (v2, 3, nats (firstsM cells W)) :: rowsF us (openingsM cells W)) ∧ Below w.heap.size w w' := by
  have hn64 := hB.n64
  have hzl := zerosM_le cells W
  have HZ : Hid (∀ x ∈ zerosM cells W, x < cells.length) := fun x hx => zerosM_lt cells W x hx
  have HF : Hid (firstsM cells W = [] ++ fzGo (opM cells W) (zerosM cells W) []) := rfl
  have HO : Hid (openingsM cells W = (firstsM cells W).map (opM cells W)) := rfl
  have hz := fun w => opZeros_any l W H cells w hl hB
  have hzz : zGo cells W 46 0 cells.length = zerosM cells W := rfl
  rw [hzz] at hz
  clear hzz
  have hop := fun c w hc => opClick_any l W H cells c w hl hB hc
  have hole := fun c => opM_le cells W c
  have HZC := Lib.hid hz
  have HOP := Lib.hid hop
  have HOL := Lib.hid hole
  clear hB hz hop hole
  generalize openingsM cells W = openings at *
  generalize firstsM cells W = firsts at *
  generalize zerosM cells W = zeros at *
  generalize opM cells W = op at *
  generalize hnn : cells.length = n at *
  clear hnn
  go_enter Tryd.func38, Tryd.ntmps38
  go_wp2_with fail
  refine (HZC.out _).mono ?_
  rintro e w1 ⟨a0, cap0, rfl, hown0, hb1⟩
  have hF0 : Fam w1 w.heap.size ((.slice none 0 0, 3, []) :: (.slice none 0 0, 25, []) :: (.slice none 0 0, 3, []) :: (.slice a0 zeros.length cap0, 3, nats zeros) :: rowsF [] []) := (((Fam.empty w w.heap.size).fresh hb1 hown0 (Nat.le_refl _)).nil.nil).nil
  clear hown0
  go_wp2_with fail
  go_loopw [4, 5, 6, 13] (fun v4 v5 v6 i wr => ∃ (k : Nat) (us : List Value) (fs seen : List Nat), k ≤ zeros.length ∧ i = .int .i64 k ∧ fs.length ≤ k ∧ us.length = fs.length ∧ seen.length ≤ 64 * k ∧ Fam wr w.heap.size ((v6, 3, nats seen) :: (v4, 25, us) :: (v5, 3, nats fs) :: (.slice a0 zeros.length cap0, 3, nats zeros) :: rowsF us (fs.map op)) ∧ Below w.heap.size w wr ∧ Hid (firsts = fs ++ fzGo op (zeros.drop k) seen)) (fun _ _ _ i _ => zeros.length - (intOf i).toNat)
  case atStart => exact ⟨0, [], [], [], Nat.zero_le _, rfl, by simp, rfl, by simp, hF0, hb1, HF⟩
  case round =>
    clear hF0
    obtain ⟨k, us, fs, seen, hk, rfl, hfk, hus, hsn, hF, hbr, hR⟩ := hrel
    have HUS := Lib.hid hus
    have hus' : us.length ≤ k := by omega
    clear hus
    have sr := hbr.size
    by_cases hlt : k < zeros.length
    · have Ht := Lib.hid (List.drop_eq_getElem_cons hlt)
      have hzn : zeros[k] < n := HZ.out _ (List.getElem_mem hlt)
      have hown0 := hF.own (.slice a0 zeros.length cap0, 3, nats zeros) (by simp)
      obtain ⟨g0, off0, he0, hc0⟩ := nats_at hown0.at k hlt
      have hsl : seen.length ≤ 1048576 := by omega
      obtain ⟨a6, cap6, hv⟩ := hF.head.shape
      simp only [nats_length] at hv
      subst hv
      have hHas := l1HasN_any seen zeros[k] a6 cap6 wr hF.head.at hsl
      subst he0
      clear hown0
      by_cases hin : zeros[k] ∈ seen
      · rw [show decide (zeros[k] ∈ seen) = true by simpa using hin] at hHas
        have HIN := Lib.hid hin
        have HH := Lib.hid hHas
        clear hin hHas
        go_wp2_with fail
        refine HH.out.mono ?_
        rintro e w5 ⟨rfl, rfl⟩
        go_wp2_with fail
        go_roundw
        case rel =>
          first
            | exact ⟨k + 1, us, fs, seen, by omega, by go_num, by omega, HUS.out, by omega, hF, hbr, by rw [Hid, hR.out, Ht.out, fzGo, if_pos HIN.out]⟩
            | ((repeat apply Exists.intro); exact ⟨⟨k + 1, us, fs, seen, by omega, by go_num, by omega, HUS.out, by omega, hF, hbr, by rw [Hid, hR.out, Ht.out, fzGo, if_pos HIN.out]⟩, rfl⟩)
        case measure => simp [intOf]; omega
      · rw [show decide (zeros[k] ∈ seen) = false by simpa using hin] at hHas
        have HIN := Lib.hid hin
        have HH := Lib.hid hHas
        clear hin hHas
        go_wp2_with fail
        refine HH.out.mono ?_
        rintro e w5 ⟨rfl, rfl⟩
        go_wp2_with fail
        refine (HOP.out _ _ hzn).mono ?_
        rintro e w6 ⟨au, capu, rfl, hownu, hb6⟩
        have s6 := hb6.size
        have hol := HOL.out zeros[k]
        have hatu := hownu.at
        have hF6 := (hF.fresh hb6 hownu sr).swap
        have hbr6 := hbr.trans (hb6.mono sr)
        clear hF hbr hownu hc0
        go_wp2_with (first
          | (at_builtin; refine wpList_appAF rfl (.tmp 23) (.tmp 24) _ rfl w.heap.size _ _ _ elemInt _ _ _ rfl hF6 _ _ _ _ rfl (nats_length _) hatu (nats_one _) (by simp; omega) (by simp; omega) (by omega) ?_; intro v7 w7 hF7 hb7)
          | (at_builtin; refine wpList_app1F rfl (.tmp 26) (.tmp 28) _ rfl w.heap.size _ _ _ elemRow _ _ _ _ _ rfl rfl rfl hF7.swap3 rfl (by omega) (by have := hb7.size; omega) (by omega) ?_; intro v8 w8 hF8 hb8 hs8)
          | (at_builtin; refine wpList_app1F rfl (.tmp 30) (.tmp 32) _ rfl w.heap.size _ _ _ elemInt _ _ _ _ _ rfl rfl rfl hF8.swap4 rfl (by simp; omega) (by have := hb7.size; omega) (by simp; omega) ?_; intro v9 w9 hF9 hb9 hs9))
        rw [nats_snoc, nats_append] at hF9
        have hF10 := hF9.perm (perm5 _ _ _ _ _ _)
        have e1 : rowsF us (fs.map op) ++ [(.slice au (op zeros[k]).length capu, 3, nats (op zeros[k]))] = rowsF (us ++ [.slice au (op zeros[k]).length capu]) ((fs ++ [zeros[k]]).map op) := by
          rw [List.map_append, List.map_cons, List.map_nil, rowsF_snoc _ _ us (fs.map op) (by rw [List.length_map]; exact HUS.out)]
        rw [e1] at hF10
        clear e1 hF9 hF8 hF7 hF6 hatu
        go_roundw
        case rel =>
          first
            | exact ⟨k + 1, _, _, _, by omega, by go_num, by simp; omega, by simp [HUS.out], by simp; omega, hF10, ((hbr6.trans hb7).trans hb8).trans hb9, by rw [Hid, hR.out, Ht.out, fzGo, if_neg HIN.out]; simp⟩
            | ((repeat apply Exists.intro); exact ⟨⟨k + 1, _, _, _, by omega, by go_num, by simp; omega, by simp [HUS.out], by simp; omega, hF10, ((hbr6.trans hb7).trans hb8).trans hb9, by rw [Hid, hR.out, Ht.out, fzGo, if_neg HIN.out]; simp⟩, rfl⟩)
        case measure => simp [intOf]; omega
    · obtain rfl : k = zeros.length := by omega
      have hfin : firsts = fs := by rw [hR.out, List.drop_length]; simp [fzGo]
      go_wp2_with fail
      go_ret2
      subst hfin
      rw [HO.out]
      refine ⟨_, _, us, rfl, by rw [List.length_map]; exact HUS.out, ?_, hbr⟩
      exact (hF.tail.swap3).tail.perm (List.Perm.refl _)
end Go.Proofs.YtndmkbkmfonefacDoor

/- Opening: all openings and their first zeros, by the program. -/
namespace Go.Proofs.YtndmkbkmfonefacDoor
open Go.RowKit

theorem nearM_lts (W : Geo) (n y : Nat) : ∀ x ∈ nearM W n y, x < n := fun x hx => nearM_lt W n y x hx
/-- What a click makes open, put to what was open. -/
theorem click_mem (cells : List UInt8) (W : Geo) (c : Nat) (L : List Nat) (hc : c < cells.length) (hL : Closed (nearM W cells.length) (zeroB cells W) L) (x : Nat) :
    x ∈ L ++ bfs (nearM W cells.length) (zeroB cells W) L cells.length 0 [c] ↔ x ∈ L ++ opM cells W c := by
  rw [bfs_mem (nearM_lts W cells.length) hc hL, List.mem_append, opM, mem_sortM (bfs_lt (nearM_lts W cells.length) hc), bfs0_mem (nearM_lts W cells.length) hc]

set_option maxRecDepth 100000 in
set_option maxHeartbeats 3200000 in
theorem firstZerosJ_any {J : Bool} (W H : Nat) (a : Option Addr) (cells : List UInt8) (cap : Nat) (w : World) (hat : At w a (byts cells)) (h64 : cells.length ≤ 64) (hw1 : 0 < cells.length → 1 ≤ W) (hJ : J = true → (1 ≤ W ∧ W ≤ 1048576) ∧ (1 ≤ H ∧ H ≤ 1048576)) :
    Calls Tryd.prog 40 #[.agg #[.int .i64 W, .int .i64 H, .slice a cells.length cap, .bool J]] w fun e w' => ∃ a' cap', e = .returned (.slice a' (firstsM cells (geoOf J W H)).length cap') ∧ Owns w' w.heap.size 3 (.slice a' (firstsM cells (geoOf J W H)).length cap') (nats (firstsM cells (geoOf J W H))) ∧ Below w.heap.size w w' := by
  have hzl := zerosM_le cells (geoOf J W H)
  have HZ : Hid (∀ x ∈ zerosM cells (geoOf J W H), x < cells.length) := fun x hx => zerosM_lt cells (geoOf J W H) x hx
  have HF : Hid (firstsM cells (geoOf J W H) = [] ++ fzGo (opM cells (geoOf J W H)) (zerosM cells (geoOf J W H)) []) := rfl
  have hb0 : Below w.heap.size w (w.alloc (.cells #[.int .i64 W, .int .i64 H, .slice a cells.length cap, .bool J] 42)) := (Below.refl _ _).alloc (Nat.le_refl _) _
  have hG0 : (w.alloc (.cells #[.int .i64 W, .int .i64 H, .slice a cells.length cap, .bool J] 42)).heap[w.heap.size]? = some (.cells #[.int .i64 W, .int .i64 H, .slice a cells.length cap, .bool J] 42 (0, 0)) := heap_alloc_new w _
  have hs0 : (w.alloc (.cells #[.int .i64 W, .int .i64 H, .slice a cells.length cap, .bool J] 42)).heap.size = w.heap.size + 1 := by simp
  have hf0 := cell_of_block hG0 0
  have hf1 := cell_of_block hG0 1
  have hf2 := cell_of_block hG0 2
  have hf3 := cell_of_block hG0 3
  simp only [List.getElem?_toArray, List.getElem?_cons_zero, List.getElem?_cons_succ] at hf0 hf1 hf2 hf3
  generalize firstsM cells (geoOf J W H) = firsts at *
  have hmm := @run_makeMap Tryd.prog
  go_enter Tryd.func40, Tryd.ntmps40
  go_wp2_with fail
  have hat0 : At (w.alloc (.cells #[.int .i64 W, .int .i64 H, .slice a cells.length cap, .bool J] 42)) a (byts cells) := hat.later rfl hb0
  generalize w.alloc (.cells #[.int .i64 W, .int .i64 H, .slice a cells.length cap, .bool J] 42) = w0 at *
  have hbm : Below w0.heap.size w0 (w0.alloc (.map #[] 0)) := (Below.refl _ _).alloc (Nat.le_refl _) _
  have hMm := Marks.made w0
  rw [hs0] at hMm
  have HS0 := Lib.hid hs0
  have hGm := (hbm.block w.heap.size (by omega)).trans hG0
  have hatm := hat0.later rfl hbm
  have hsm : w0.heap.size < (w0.alloc (.map #[] 0)).heap.size := by simp
  have hbw : Below w.heap.size w (w0.alloc (.map #[] 0)) := hb0.trans (hbm.mono (by omega))
  clear hf0 hf1 hf2 hf3 hmm hs0 hG0 hat0 hbm hb0
  have HGM := Lib.hid hGm
  clear hGm
  generalize w0.alloc (.map #[] 0) = wm at *
  refine (withoutJ_any W H a cells cap 46 46 rfl _ hatm h64 hw1 hJ).mono ?_
  rintro e w1 ⟨a1, cap1, rfl, hown1, hb1⟩
  rw [show zGo cells (geoOf J W H) 46 0 cells.length = zerosM cells (geoOf J W H) from rfl] at hown1 ⊢
  have s1 := hb1.size
  have hM1 := hMm.later hb1
  have hat1 := hatm.later rfl hb1
  have hG1 : Hid (w1.heap[w.heap.size]? = some (.cells #[.int .i64 W, .int .i64 H, .slice a cells.length cap, .bool J] 42 (0, 0))) := (hb1.block _ (by have := HS0.out; omega)).trans HGM.out
  have hz1 := hown1.at
  have hbw1 := hbw.trans (hb1.mono (by have := HS0.out; omega))
  have hbl : w.heap.size + 1 < w1.heap.size := by have := HS0.out; omega
  clear hMm hatm hbw hown1 hb1
  generalize zerosM cells (geoOf J W H) = zeros at *
  go_wp2_with fail
  go_loopw [4, 11] (fun v i wr => ∃ (k : Nat) (acc L : List Nat), k ≤ zeros.length ∧ i = .int .i64 k ∧ acc.length ≤ k ∧ L.length ≤ 64 * k ∧ Owns wr w1.heap.size 3 v (nats acc) ∧ Marks wr (w.heap.size + 1) L ∧ Touch (w.heap.size + 1) w1 wr ∧ Hid (Closed (nearM (geoOf J W H) cells.length) (zeroB cells (geoOf J W H)) L) ∧ Hid (firsts = acc ++ fzGo (opM cells (geoOf J W H)) (zeros.drop k) L)) (fun _ i _ => zeros.length - (intOf i).toNat)
  case atStart => exact ⟨0, [], [], Nat.zero_le _, rfl, by simp, by simp, Owns.nil _ _ _, hM1, Touch.refl _ _, closed_nil, HF⟩
  case round =>
    obtain ⟨k, acc, L, hk, rfl, hak, hLk, hown, hM, ht, hC, hR⟩ := hrel
    have sr := ht.size
    by_cases hlt : k < zeros.length
    · have Ht := Lib.hid (List.drop_eq_getElem_cons hlt)
      have hzn : zeros[k] < cells.length := HZ.out _ (List.getElem_mem hlt)
      have hzs : zeros[k] < 1099511627776 := by omega
      have hW1 := hw1 (by omega)
      obtain ⟨g0, off0, he0, hc0⟩ := nats_at (hz1.touch ht hM1.nocells) k hlt
      subst he0
      by_cases hin : zeros[k] ∈ L
      · have hd : decide (zeros[k] ∈ L) = true := by simpa using hin
        have HIN := Lib.hid hin
        have HD := Lib.hid hd
        clear hin hd
        go_wp2_with (at_lookup; refine wpList_mark_look rfl _ _ rfl (w.heap.size + 1) _ rfl hM _ rfl hzs true HD.out ?_)
        go_roundw
        case rel =>
          first
            | exact ⟨k + 1, acc, L, by omega, by go_num, by omega, by omega, hown, hM, ht, hC, by rw [Hid, hR.out, Ht.out, fzGo, if_pos HIN.out]⟩
            | ((repeat apply Exists.intro); exact ⟨⟨k + 1, acc, L, by omega, by go_num, by omega, by omega, hown, hM, ht, hC, by rw [Hid, hR.out, Ht.out, fzGo, if_pos HIN.out]⟩, rfl⟩)
        case measure => simp [intOf]; omega
      · have hd : decide (zeros[k] ∈ L) = false := by simpa using hin
        have HIN := Lib.hid hin
        have HD := Lib.hid hd
        clear hin hd
        have hGr : ∀ w', Below w1.heap.size wr w' → w'.heap[w.heap.size]? = some (.cells #[.int .i64 W, .int .i64 H, .slice a cells.length cap, .bool J] 42 (0, 0)) := fun w' h => by
          rw [h.block _ (by omega), ht.block _ (by omega) (by simp)]; exact hG1.out
        have HGR := Lib.hid hGr
        clear hGr
        go_wp2_with (first
          | (at_lookup; refine wpList_mark_look rfl _ _ rfl (w.heap.size + 1) _ rfl hM _ rfl hzs false HD.out ?_)
          | (at_builtin; refine wpList_app1 rfl _ _ _ rfl _ _ _ _ elemInt _ _ _ _ rfl rfl rfl hown rfl (by simp; omega) sr (by simp; omega) ?_; intro v3 w3 hown3 hb3 hs3; have q0 := cell_of_block (HGR.out w3 hb3) 0; have q1 := cell_of_block (HGR.out w3 hb3) 1; have q2 := cell_of_block (HGR.out w3 hb3) 2; have q3 := cell_of_block (HGR.out w3 hb3) 3; simp at q0 q1 q2 q3))
        rw [nats_snoc] at hown3
        have hM3 := hM.kept hbl hb3
        have ht3 := ht.then hb3 (Nat.le_refl _)
        clear q0 q1 q2 q3 hM
        refine (clickJ_any W H a cells cap (w.heap.size + 1) L zeros[k] w3 (hat1.touch ht3 hM1.nocells) hM3 (by omega) hW1 h64 hzn hJ).mono ?_
        rintro e w4 ⟨rfl, hM4, ht4⟩
        have hcl : (bfs (nearM (geoOf J W H) cells.length) (zeroB cells (geoOf J W H)) L cells.length 0 [zeros[k]]).length ≤ cells.length := bfs_len (nearM_lts (geoOf J W H) cells.length) hzn
        have hC4 : Hid (Closed (nearM (geoOf J W H) cells.length) (zeroB cells (geoOf J W H)) (L ++ bfs (nearM (geoOf J W H) cells.length) (zeroB cells (geoOf J W H)) L cells.length 0 [zeros[k]])) := bfs_closed (nearM_lts (geoOf J W H) cells.length) hzn hC.out
        have hcg : Hid (fzGo (opM cells (geoOf J W H)) (zeros.drop (k + 1)) (L ++ opM cells (geoOf J W H) zeros[k]) = fzGo (opM cells (geoOf J W H)) (zeros.drop (k + 1)) (L ++ bfs (nearM (geoOf J W H) cells.length) (zeroB cells (geoOf J W H)) L cells.length 0 [zeros[k]])) :=
          fzGo_congr _ _ _ _ (fun x => (click_mem cells (geoOf J W H) zeros[k] L hzn hC.out x).symm)
        go_wp2_with fail
        go_roundw
        case rel =>
          first
            | exact ⟨k + 1, _, _, by omega, by go_num, by simp; omega, by simp; omega, hown3.touch ht4 (by omega), hM4, ht3.trans ht4, hC4, by rw [Hid, hR.out, Ht.out, fzGo, if_neg HIN.out, hcg.out]; simp⟩
            | ((repeat apply Exists.intro); exact ⟨⟨k + 1, _, _, by omega, by go_num, by simp; omega, by simp; omega, hown3.touch ht4 (by omega), hM4, ht3.trans ht4, hC4, by rw [Hid, hR.out, Ht.out, fzGo, if_neg HIN.out, hcg.out]; simp⟩, rfl⟩)
        case measure => simp [intOf]; omega
    · obtain rfl : k = zeros.length := by omega
      have hfin : acc = firsts := by rw [hR.out, List.drop_length]; simp [fzGo]
      go_wp2_with fail
      go_ret
      rw [hfin] at hown
      obtain ⟨a', cap', hv⟩ := hown.shape
      simp only [nats_length] at hv
      exact ⟨a', cap', by rw [← hv]; rfl, by rw [← hv]; exact hown.mono (by omega), hbw1.trans (ht.below (by omega) (by omega))⟩
/-- The same where rows are not joined. -/
theorem firstZeros_any (W H : Nat) (a : Option Addr) (cells : List UInt8) (cap : Nat) (w : World) (hat : At w a (byts cells)) (h64 : cells.length ≤ 64) (hw1 : 0 < cells.length → 1 ≤ W) :
    Calls Tryd.prog 40 #[.agg #[.int .i64 W, .int .i64 H, .slice a cells.length cap, .bool false]] w fun e w' => ∃ a' cap', e = .returned (.slice a' (firstsM cells W).length cap') ∧ Owns w' w.heap.size 3 (.slice a' (firstsM cells W).length cap') (nats (firstsM cells W)) ∧ Below w.heap.size w w' :=
  firstZerosJ_any W H a cells cap w hat h64 hw1 nofun

set_option maxRecDepth 100000 in
set_option maxHeartbeats 3200000 in
theorem openingsJ_any {J : Bool} (W H : Nat) (a : Option Addr) (cells : List UInt8) (cap : Nat) (w : World) (hat : At w a (byts cells)) (h64 : cells.length ≤ 64) (hw1 : 0 < cells.length → 1 ≤ W) (hJ : J = true → (1 ≤ W ∧ W ≤ 1048576) ∧ (1 ≤ H ∧ H ≤ 1048576)) :
    Calls Tryd.prog 54 #[.agg #[.int .i64 W, .int .i64 H, .slice a cells.length cap, .bool J]] w fun e w' => ∃ v us, e = .returned v ∧ us.length = (openingsM cells (geoOf J W H)).length ∧
      Fam w' w.heap.size ((v, 25, us) :: rowsF us (openingsM cells (geoOf J W H))) ∧ Below w.heap.size w w' := by
  have hfl := firstsM_le cells (geoOf J W H)
  have HL : Hid (∀ x ∈ firstsM cells (geoOf J W H), x < cells.length) := fun x hx => firstsM_lt cells (geoOf J W H) x hx
  have HO : Hid (openingsM cells (geoOf J W H) = (firstsM cells (geoOf J W H)).map (opM cells (geoOf J W H))) := rfl
  have hole := fun c => opM_le cells (geoOf J W H) c
  have HOL := Lib.hid hole
  have hop := fun (w : World) (k : Nat) (h : At w a (byts cells)) (h1 : 1 ≤ W) (hk : k < cells.length) => openedByJ_any W H a cells cap k w h h1 h64 hk hJ
  have HOP := Lib.hid hop
  have hfz := fun (w : World) (h : At w a (byts cells)) => firstZerosJ_any W H a cells cap w h h64 hw1 hJ
  have HFZ := Lib.hid hfz
  clear hop hole hfz
  have hb0 : Below w.heap.size w (w.alloc (.cells #[.int .i64 W, .int .i64 H, .slice a cells.length cap, .bool J] 42)) := (Below.refl _ _).alloc (Nat.le_refl _) _
  have hG0 : (w.alloc (.cells #[.int .i64 W, .int .i64 H, .slice a cells.length cap, .bool J] 42)).heap[w.heap.size]? = some (.cells #[.int .i64 W, .int .i64 H, .slice a cells.length cap, .bool J] 42 (0, 0)) := heap_alloc_new w _
  have hs0 : w.heap.size < (w.alloc (.cells #[.int .i64 W, .int .i64 H, .slice a cells.length cap, .bool J] 42)).heap.size := by simp
  generalize openingsM cells (geoOf J W H) = openings at *
  generalize firstsM cells (geoOf J W H) = firsts at *
  generalize opM cells (geoOf J W H) = op at *
  go_enter Tryd.func54, Tryd.ntmps54
  go_wp2_with fail
  have hat0 : At (w.alloc (.cells #[.int .i64 W, .int .i64 H, .slice a cells.length cap, .bool J] 42)) a (byts cells) := hat.later rfl hb0
  generalize w.alloc (.cells #[.int .i64 W, .int .i64 H, .slice a cells.length cap, .bool J] 42) = w0 at *
  have HG0 := Lib.hid hG0
  clear hG0
  refine (HFZ.out _ hat0).mono ?_
  rintro e w1 ⟨a1, cap1, rfl, hown1, hb1⟩
  have s1 := hb1.size
  have hat1 := hat0.later rfl hb1
  have HG1 : Hid (w1.heap[w.heap.size]? = some (.cells #[.int .i64 W, .int .i64 H, .slice a cells.length cap, .bool J] 42 (0, 0))) := (hb1.block _ hs0).trans HG0.out
  have hz1 := hown1.at
  have hb01 := hb0.trans (hb1.mono (by omega))
  clear hown1 hb1 hb0 hat0
  go_wp2_with fail
  go_loopw [3, 9] (fun v i wr => ∃ (k : Nat) (us : List Value), k ≤ firsts.length ∧ i = .int .i64 k ∧ us.length = k ∧ Fam wr w1.heap.size ((v, 25, us) :: rowsF us ((firsts.take k).map op)) ∧ Below w1.heap.size w1 wr) (fun _ i _ => firsts.length - (intOf i).toNat)
  case atStart => exact ⟨0, [], Nat.zero_le _, rfl, rfl, (Fam.empty _ _).nil, Below.refl _ _⟩
  case round =>
    obtain ⟨k, us, hk, rfl, hus, hF, hbr⟩ := hrel
    have HUS := Lib.hid hus
    have hus' : us.length ≤ k := by omega
    clear hus
    have sr := hbr.size
    by_cases hlt : k < firsts.length
    · have hzn : firsts[k] < cells.length := HL.out _ (List.getElem_mem hlt)
      have hW1 := hw1 (by omega)
      obtain ⟨g0, off0, he0, hc0⟩ := nats_at (hz1.below hz1 (Nat.le_refl _) hbr) k hlt
      subst he0
      have hGr : wr.heap[w.heap.size]? = some (.cells #[.int .i64 W, .int .i64 H, .slice a cells.length cap, .bool J] 42 (0, 0)) := (hbr.block _ (by omega)).trans HG1.out
      have hf0 := cell_of_block hGr 0
      have hf1 := cell_of_block hGr 1
      have hf2 := cell_of_block hGr 2
      have hf3 := cell_of_block hGr 3
      simp at hf0 hf1 hf2 hf3
      clear hGr
      go_wp2_with fail
      refine (HOP.out wr _ (hat1.below hat1 (Nat.le_refl _) hbr) hW1 hzn).mono ?_
      rintro e w2 ⟨au, capu, rfl, hownu, hb2⟩
      have s2 := hb2.size
      have hF2 := (hF.fresh hb2 hownu sr).swap
      clear hF hf0 hf1 hf2 hf3 hc0 hownu
      go_wp2_with (at_builtin; refine wpList_app1F rfl _ _ _ rfl w1.heap.size _ _ _ elemRow _ _ _ _ _ rfl rfl rfl hF2 rfl (by omega) (by omega) (by omega) ?_; intro v8 w8 hF8 hb8 hs8)
      have hF9 := hF8.perm ((List.Perm.cons _ (List.perm_append_singleton _ _).symm))
      have e1 : rowsF us ((firsts.take k).map op) ++ [(.slice au (op firsts[k]).length capu, 3, nats (op firsts[k]))] = rowsF (us ++ [.slice au (op firsts[k]).length capu]) ((firsts.take (k + 1)).map op) := by
        rw [List.take_succ_eq_append_getElem hlt, List.map_append, List.map_cons, List.map_nil, rowsF_snoc _ _ us _ (by rw [List.length_map, List.length_take, HUS.out]; omega)]
      rw [e1] at hF9
      clear e1 hF8 hF2
      go_roundw
      case rel =>
        first
          | exact ⟨k + 1, _, by omega, by go_num, by simp [HUS.out], hF9, (hbr.trans (hb2.mono sr)).trans hb8⟩
          | ((repeat apply Exists.intro); exact ⟨⟨k + 1, _, by omega, by go_num, by simp [HUS.out], hF9, (hbr.trans (hb2.mono sr)).trans hb8⟩, rfl⟩)
      case measure => simp [intOf]; omega
    · obtain rfl : k = firsts.length := by omega
      go_wp2_with fail
      go_ret
      rw [List.take_length, ← HO.out] at hF
      exact ⟨_, us, rfl, by rw [HO.out, List.length_map]; exact HUS.out, hF.mono (by omega), hb01.trans (hbr.mono (by omega))⟩
/-- The same where rows are not joined. -/
theorem openings_any (W H : Nat) (a : Option Addr) (cells : List UInt8) (cap : Nat) (w : World) (hat : At w a (byts cells)) (h64 : cells.length ≤ 64) (hw1 : 0 < cells.length → 1 ≤ W) :
    Calls Tryd.prog 54 #[.agg #[.int .i64 W, .int .i64 H, .slice a cells.length cap, .bool false]] w fun e w' => ∃ v us, e = .returned v ∧ us.length = (openingsM cells W).length ∧
      Fam w' w.heap.size ((v, 25, us) :: rowsF us (openingsM cells W)) ∧ Below w.heap.size w w' :=
  openingsJ_any W H a cells cap w hat h64 hw1 nofun
end Go.Proofs.YtndmkbkmfonefacDoor
