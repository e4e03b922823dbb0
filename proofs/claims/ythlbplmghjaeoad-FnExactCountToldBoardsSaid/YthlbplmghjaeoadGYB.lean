/- YB, YC, YD, laid as one text. -/
import Derived.Test.YthlbplmghjaeoadGY8
import Derived.Outline

/- Rows that a call owns, several at once: no two share a block. -/
namespace Go.Proofs.Ythlbplmghjaeoad
open Go.RowKit

/-- A row: its slice, its elements' type and its cells. -/
abbrev Rw := Value × Nat × List Value
/-- The call owns each of these rows, from block B on, and no two lie in one block. -/
structure Fam (w : World) (B : Nat) (F : List Rw) : Prop where
  own : ∀ x ∈ F, Owns w B x.2.1 x.1 x.2.2
  apart : F.Pairwise fun a b => Apart a.1 b.1

theorem Fam.empty (w : World) (B : Nat) : Fam w B [] := ⟨(by intro x hx; cases hx), List.Pairwise.nil⟩
theorem Fam.later {w w' : World} {B : Nat} {F : List Rw} (h : Fam w B F) (hb : Below w.heap.size w w') : Fam w' B F := ⟨fun x hx => (h.own x hx).later hb, h.apart⟩
theorem Fam.perm {w : World} {B : Nat} {F F' : List Rw} (h : Fam w B F) (hp : F.Perm F') : Fam w B F' :=
  ⟨fun x hx => h.own x (hp.mem_iff.2 hx), (hp.pairwise_iff (fun {_ _} h => Apart.symm h)).1 h.apart⟩
theorem Fam.head {w : World} {B e : Nat} {v : Value} {xs : List Value} {F : List Rw} (h : Fam w B ((v, e, xs) :: F)) : Owns w B e v xs := h.own _ List.mem_cons_self
theorem Fam.tail {w : World} {B : Nat} {x : Rw} {F : List Rw} (h : Fam w B (x :: F)) : Fam w B F := ⟨fun y hy => h.own y (List.mem_cons_of_mem _ hy), (List.pairwise_cons.1 h.apart).2⟩
theorem Fam.swap {w : World} {B : Nat} {x y : Rw} {F : List Rw} (h : Fam w B (x :: y :: F)) : Fam w B (y :: x :: F) := h.perm (List.Perm.swap _ _ _)
theorem Fam.swap3 {w : World} {B : Nat} {x y z : Rw} {F : List Rw} (h : Fam w B (x :: y :: z :: F)) : Fam w B (z :: x :: y :: F) :=
  h.perm (((List.Perm.swap z y F).cons x).trans (List.Perm.swap z x (y :: F)))
theorem Fam.swap4 {w : World} {B : Nat} {x y z u : Rw} {F : List Rw} (h : Fam w B (x :: y :: z :: u :: F)) : Fam w B (u :: x :: y :: z :: F) :=
  h.perm ((((List.Perm.swap u z F).cons y).trans (List.Perm.swap u y (z :: F))).cons x |>.trans (List.Perm.swap u x (y :: z :: F)))
theorem Fam.last {w : World} {B : Nat} {x : Rw} {F : List Rw} (h : Fam w B (x :: F)) : Fam w B (F ++ [x]) := h.perm (List.perm_append_singleton x F).symm
theorem Fam.mono {w : World} {B B' : Nat} {F : List Rw} (h : Fam w B F) (hB : B' ≤ B) : Fam w B' F := ⟨fun x hx => (h.own x hx).mono hB, h.apart⟩
theorem Fam.nil {w : World} {B e : Nat} {F : List Rw} (h : Fam w B F) : Fam w B ((.slice none 0 0, e, []) :: F) := by
  refine ⟨?_, List.pairwise_cons.2 ⟨?_, h.apart⟩⟩
  · intro x hx
    rcases List.mem_cons.1 hx with rfl | hx
    · exact Owns.nil _ _ _
    · exact h.own x hx
  · intro y _ k hk
    cases hk
/-- A row that came anew. -/
theorem Fam.fresh {w w' : World} {B e : Nat} {v : Value} {xs : List Value} {F : List Rw} (h : Fam w B F) (hb : Below w.heap.size w w') (ho : Owns w' w.heap.size e v xs) (hB : B ≤ w.heap.size) : Fam w' B ((v, e, xs) :: F) := by
  refine ⟨?_, List.pairwise_cons.2 ⟨?_, h.apart⟩⟩
  · intro x hx
    rcases List.mem_cons.1 hx with rfl | hx
    · exact ho.mono hB
    · exact (h.own x hx).later hb
  · intro y hy
    exact (Apart.fresh (h.own y hy) (fun k hk => (ho.lt k hk).1)).symm

/-- append of one element to the first row. -/
theorem wpList_app1F {P : Program} {ops : Array Oper} {rest : List Oper} {o : Oper} {a : Act} {Q : Exit → Act → World → Prop} {w : World} (hgd : o.guard = none) (s x : Operand) (t : TypeId)
    (ho : o.op = .call { callee := .builtin .append, args := #[s, x], argTypes := #[t, t] })
    (B e bytes : Nat) (z : Value) (E : Elem P t e z bytes) (v : Value) (xs : List Value) (F : List Rw) (x0 : Value) (w0 : World) (hw : w = w0.alloc (.cells #[x0] e)) (hx1 : x0.oneCell' = true)
    (hs : a.eval s = v) (hF : Fam w0 B ((v, e, xs) :: F)) (hx : a.eval x = .slice (some ⟨w0.heap.size, 0, none⟩) 1 1)
    (hlen : (xs.length + 1) * bytes ≤ 140737488355328) (hB : B ≤ w0.heap.size) (hlen' : xs.length < 1099511627776)
    (h : ∀ v' w', Fam w' B ((v', e, xs ++ [x0]) :: F) → Below B w0 w' → w0.heap.size < w'.heap.size → wpList P ops Q rest (a.put o.dst v') w') : wpList P ops Q (o :: rest) a w := by
  refine wpList_app1K hgd s x t ho B e bytes z E v xs x0 w0 hw hx1 hs hF.head hx hlen hB hlen' ?_
  intro v' w' h1 h2 h3 hK
  have hp := (List.pairwise_cons.1 hF.apart)
  refine h v' w' ⟨?_, List.pairwise_cons.2 ⟨?_, hp.2⟩⟩ h2 h3
  · intro y hy
    rcases List.mem_cons.1 hy with rfl | hy
    · exact h1
    · exact (hK B _ _ _ (hF.own y (List.mem_cons_of_mem _ hy)) (hp.1 y hy)).1
  · intro y hy
    exact (hK B _ _ _ (hF.own y (List.mem_cons_of_mem _ hy)) (hp.1 y hy)).2

/-- append of a whole row to the first row. -/
theorem run_appAF {P : Program} (w : World) (B t ty e bytes : Nat) (z : Value) (E : Elem P t e z bytes) (v : Value) (xs : List Value) (F : List Rw) (hF : Fam w B ((v, e, xs) :: F))
    (A : Option Addr) (c : Nat) (news : List Value) (hat : At w A news) (h1 : ∀ u ∈ news, u.oneCell' = true) (hlen : (xs.length + news.length) * bytes ≤ 140737488355328) (hlen' : xs.length + news.length < 1099511627776) (hB : B ≤ w.heap.size) :
    ∃ v' w', (Builtin.append_ #[t, t] ty #[v, .slice A news.length c]).run P w = .ok v' w' ∧ Fam w' B ((v', e, xs ++ news) :: F) ∧ Below B w w' := by
  obtain ⟨i, hi, hz, hsz, hby⟩ := E.info
  have hown := hF.head
  have hp := (List.pairwise_cons.1 hF.apart)
  cases A with
  | none =>
    obtain rfl := hat.ofNone
    refine ⟨v, w, ?_, by simpa using hF, Below.refl _ _⟩
    rcases hown.2 with ⟨rfl, _⟩ | ⟨g, cap, cur, rfl, _, _, hnc, _⟩
    · simp [Builtin.append_, run_underlying E.und, sizeOf, typeInfo, hi, Builtin.lenOf, Builtin.firstCells]
    · simp [Builtin.append_, run_underlying E.und, sizeOf, typeInfo, hi, Builtin.lenOf, Builtin.firstCells, hnc, storeCells]
  | some ad =>
    have hnews : ∀ j u, news[j]? = some u → w.cell? (ad.add j) = some u := by
      intro j u hu
      obtain ⟨hj, rfl⟩ := List.getElem?_eq_some_iff.1 hu
      obtain ⟨b, off, hab, hc⟩ := hat j hj
      obtain rfl : ad = ⟨b, off, none⟩ := by simpa using hab
      rw [Addr.add_lit]
      exact hc
    obtain ⟨v', w', hr, h2, h3, _, h5⟩ := run_append_own_at (P := P) w B t ty e i z 1 bytes E.und hi hz hsz hby E.one (by decide) v xs.length xs hown ad news.length c news (by simp) hnews h1 (by unfold maxLen; omega) hlen hB
    refine ⟨v', w', hr, ⟨?_, List.pairwise_cons.2 ⟨?_, hp.2⟩⟩, (Below.refl B w).grown h3 hB (fun k hk => (Owns.lt hown k hk).1)⟩
    · intro y hy
      rcases List.mem_cons.1 hy with rfl | hy
      · unfold Owns; rw [List.length_append]; exact h2
      · have hu := hF.own y (List.mem_cons_of_mem _ hy)
        refine World.ownsRow.kept hu h3 ?_
        cases hv : y.1.ownBlock with
        | none => exact .inl rfl
        | some k => exact .inr fun e => hp.1 y hy k e.symm hv
    · intro y hy k hk hk2
      have hu := hF.own y (List.mem_cons_of_mem _ hy)
      rcases h5 with h5 | h5
      · exact hp.1 y hy k (h5 ▸ hk) hk2
      · rw [h5] at hk
        have h6 := (Owns.lt hu k hk2).2
        simp at hk
        omega
theorem wpList_appAF {P : Program} {ops : Array Oper} {rest : List Oper} {o : Oper} {a : Act} {Q : Exit → Act → World → Prop} {w : World} (hgd : o.guard = none) (s x : Operand) (t : TypeId)
    (ho : o.op = .call { callee := .builtin .append, args := #[s, x], argTypes := #[t, t] })
    (B e bytes : Nat) (z : Value) (E : Elem P t e z bytes) (v : Value) (xs : List Value) (F : List Rw) (hs : a.eval s = v) (hF : Fam w B ((v, e, xs) :: F)) (A : Option Addr) (n c : Nat) (news : List Value) (hx : a.eval x = .slice A n c) (hn : news.length = n) (hat : At w A news) (h1 : ∀ u ∈ news, u.oneCell' = true)
    (hlen : (xs.length + news.length) * bytes ≤ 140737488355328) (hlen' : xs.length + news.length < 1099511627776) (hB : B ≤ w.heap.size)
    (h : ∀ v' w', Fam w' B ((v', e, xs ++ news) :: F) → Below B w w' → wpList P ops Q rest (a.put o.dst v') w') : wpList P ops Q (o :: rest) a w := by
  subst hn
  refine wpList_plain hgd fun K hK => ?_
  obtain ⟨v', w', hrun, h2, h3⟩ := run_appAF (P := P) w B t o.type e bytes z E v xs F hF A c news hat h1 hlen hlen' hB
  unfold Oper.wp execOp
  simp only [ho, resolve, invoke, builtin, Sem.run_bind, Sem.run_pure, Result.andThen_ok, List.map_toArray, List.map_cons, List.map_nil, hs, hx, hrun]
  exact hK _ _ (h v' w' h2 h3)

/-- Rows of numbers, each with its slice. -/
def rowsF : List Value → List (List Nat) → List Rw
  | u :: us, r :: rs => (u, 3, nats r) :: rowsF us rs
  | _, _ => []
theorem rowsF_snoc (u : Value) (r : List Nat) : ∀ (us : List Value) (rs : List (List Nat)), us.length = rs.length → rowsF (us ++ [u]) (rs ++ [r]) = rowsF us rs ++ [(u, 3, nats r)]
  | [], [], _ => rfl
  | x :: us, y :: rs, h => by
    simp only [List.cons_append, rowsF]
    rw [rowsF_snoc u r us rs (by simpa using h)]
  | [], _ :: _, h => by simp at h
  | _ :: _, [], h => by simp at h
theorem rowsF_mem : ∀ (us : List Value) (rs : List (List Nat)) (k : Nat) (hu : k < us.length) (hr : k < rs.length), (us[k], 3, nats rs[k]) ∈ rowsF us rs
  | u :: us, r :: rs, 0, _, _ => List.mem_cons_self
  | u :: us, r :: rs, k + 1, hu, hr => List.mem_cons_of_mem _ (rowsF_mem us rs k (by simpa using hu) (by simpa using hr))
  | [], _, k, hu, _ => by simp at hu
  | _ :: _, [], k, _, hr => by simp at hr
end Go.Proofs.Ythlbplmghjaeoad

/- Opening: the zeros of a board, by the model. -/
namespace Go.Proofs.Ythlbplmghjaeoad
open Go.RowKit

end Go.Proofs.Ythlbplmghjaeoad

/- Opening: all openings and their first zeros, by the model. -/
namespace Go.Proofs.Ythlbplmghjaeoad
open Go.RowKit

/-- The first zero of each opening: op tells what a click opens, seen what was opened before. -/
def fzGo (op : Nat → List Nat) : List Nat → List Nat → List Nat
  | [], _ => []
  | z :: r, seen => if z ∈ seen then fzGo op r seen else z :: fzGo op r (seen ++ op z)
theorem fzGo_congr (op : Nat → List Nat) : ∀ (r s s' : List Nat), (∀ x, x ∈ s ↔ x ∈ s') → fzGo op r s = fzGo op r s'
  | [], _, _, _ => rfl
  | z :: r, s, s', h => by
    unfold fzGo
    by_cases hz : z ∈ s
    · rw [if_pos hz, if_pos ((h z).1 hz)]; exact fzGo_congr op r s s' h
    · rw [if_neg hz, if_neg (fun e => hz ((h z).2 e))]
      rw [fzGo_congr op r (s ++ op z) (s' ++ op z) (fun x => by rw [List.mem_append, List.mem_append, h x])]
theorem fzGo_mem (op : Nat → List Nat) : ∀ (r s : List Nat), ∀ x ∈ fzGo op r s, x ∈ r
  | [], _, x, h => by cases h
  | z :: r, s, x, h => by
    unfold fzGo at h
    split at h
    · exact List.mem_cons_of_mem _ (fzGo_mem op r s x h)
    · rcases List.mem_cons.1 h with rfl | h
      · exact List.mem_cons_self
      · exact List.mem_cons_of_mem _ (fzGo_mem op r _ x h)
theorem fzGo_len (op : Nat → List Nat) : ∀ (r s : List Nat), (fzGo op r s).length ≤ r.length
  | [], _ => by simp [fzGo]
  | z :: r, s => by
    unfold fzGo
    split
    · have := fzGo_len op r s; simp; omega
    · have := fzGo_len op r (s ++ op z); simp; omega
theorem zGo_lt (cells : List UInt8) (W : Geo) (s : UInt8) : ∀ (m k : Nat), ∀ x ∈ zGo cells W s k m, k ≤ x ∧ x < k + m
  | 0, _, x, h => by simp [zGo] at h
  | m + 1, k, x, h => by
    unfold zGo at h
    split at h
    · rcases List.mem_cons.1 h with rfl | h
      · omega
      · have := zGo_lt cells W s m (k + 1) x h; omega
    · have := zGo_lt cells W s m (k + 1) x h; omega
/-- The zeros of a board, the first zeros of its openings, and the openings. -/
def zerosM (cells : List UInt8) (W : Geo) : List Nat := zGo cells W 46 0 cells.length
def firstsM (cells : List UInt8) (W : Geo) : List Nat := fzGo (opM cells W) (zerosM cells W) []
def openingsM (cells : List UInt8) (W : Geo) : List (List Nat) := (firstsM cells W).map (opM cells W)
theorem zerosM_lt (cells : List UInt8) (W : Geo) (x : Nat) (h : x ∈ zerosM cells W) : x < cells.length := by
  have := zGo_lt cells W 46 _ _ x h; omega
theorem zerosM_le (cells : List UInt8) (W : Geo) : (zerosM cells W).length ≤ cells.length := zGo_le _ _ _ _ _
theorem firstsM_lt (cells : List UInt8) (W : Geo) (x : Nat) (h : x ∈ firstsM cells W) : x < cells.length := zerosM_lt cells W x (fzGo_mem _ _ _ x h)
theorem firstsM_le (cells : List UInt8) (W : Geo) : (firstsM cells W).length ≤ cells.length := Nat.le_trans (fzGo_len _ _ _) (zerosM_le _ _)

theorem elemRow : Elem Try.prog 25 39 (.slice none 0 0) 24 := ⟨Try.underlying25, info_parts (by kernel_rfl), rfl⟩
theorem perm5 (a b c d e : Rw) (T : List Rw) : (a :: b :: c :: d :: e :: T).Perm (c :: b :: a :: e :: (T ++ [d])) := by
  refine List.Perm.trans (l₂ := c :: b :: a :: d :: e :: T) ?_ ?_
  · exact (List.Perm.swap b a _).trans (((List.Perm.swap c a _).cons b).trans (List.Perm.swap c b _))
  · exact ((((List.perm_append_singleton d (e :: T)).symm).cons a).cons b).cons c

end Go.Proofs.Ythlbplmghjaeoad
