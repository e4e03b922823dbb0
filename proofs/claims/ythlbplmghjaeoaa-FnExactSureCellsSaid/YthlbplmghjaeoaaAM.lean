/- All solutions of a puzzle, by the model. -/
import Derived.Test.YthlbplmghjaeoaaAG
import Derived.Test.YthlbplmghjaeoaaAE
import Derived.Test.YthlbplmghjaeoaaGT1
import Derived.Test.YthlbplmghjaeoaaW0
import Derived.Test.YthlbplmghjaeoaaA1
import Derived.Outline
namespace Go.Proofs.Ythlbplmghjaeoaa
open Go.RowKit

theorem blt_of {w : World} {b : Nat} {o : Obj} (h : w.heap[b]? = some o) : b < w.heap.size := (Array.getElem?_eq_some_iff.1 h).1
/-- What is no row of texts and no given block stays. -/
def Kp (O : Nat) (w w' : World) : Prop := w.heap.size ≤ w'.heap.size ∧ ∀ (b : Nat) (o : Obj), w.heap[b]? = some o → b ≠ O → (∀ cur fr, o ≠ Obj.cells cur 9 fr) → w'.heap[b]? = some o
theorem Kp.trans {O : Nat} {w w1 w2 : World} (h : Kp O w w1) (h2 : Kp O w1 w2) : Kp O w w2 :=
  ⟨Nat.le_trans h.1 h2.1, fun b o hb hne ht => h2.2 b o (h.2 b o hb hne ht) hne ht⟩
theorem Kp.of {O : Nat} {w w' : World} (h : Below w.heap.size w w') : Kp O w w' :=
  ⟨h.size, fun b _ hb _ _ => (h.block b (blt_of hb)).trans hb⟩
theorem Kp.set {O j : Nat} {w : World} {u : Value} : Kp O w (w.setCell ⟨O, j, none⟩ u) :=
  ⟨by simp, fun b o hb hne _ => by rw [← hb]; simp [World.setCell, Array.getElem?_modify, Ne.symm hne]⟩

/-- append of one text to a row that the call owns, and what stays. -/
theorem wpList_app1k {P : Program} {ops : Array Oper} {rest : List Oper} {o : Oper} {a : Act} {Q : Exit → Act → World → Prop} {w : World} (hgd : o.guard = none) (s x : Operand) (t : TypeId)
    (ho : o.op = .call { callee := .builtin .append, args := #[s, x], argTypes := #[t, t] })
    (B bytes : Nat) (z : Value) (E : Elem P t 9 z bytes) (v : Value) (xs : List Value) (x0 : Value) (w0 : World) (hw : w = w0.alloc (.cells #[x0] 9)) (hx1 : x0.oneCell' = true)
    (hs : a.eval s = v) (hown : Owns w0 B 9 v xs) (hx : a.eval x = .slice (some ⟨w0.heap.size, 0, none⟩) 1 1)
    (hlen : (xs.length + 1) * bytes ≤ 140737488355328) (hB : B ≤ w0.heap.size) (hlen' : xs.length < 1099511627776)
    (h : ∀ v' w', Owns w' B 9 v' (xs ++ [x0]) → Below B w0 w' → (∀ O, Kp O w0 w') → wpList P ops Q rest (a.put o.dst v') w') : wpList P ops Q (o :: rest) a w := by
  subst hw
  obtain ⟨i, hi, hz, hsz, hby⟩ := E.info
  refine wpList_append_own _ hgd s x t ho B 9 i z 1 bytes E.und hi hz hsz hby E.one (by decide) v xs.length xs hs (World.ownsRow.alloc hown _) ⟨w0.heap.size, 0, none⟩ 1 1 [x0] hx rfl ?_ ?_ ?_ hlen (by simp; omega) ?_
  · exact cell_one_new _ _ _
  · simpa using hx1
  · unfold maxLen; omega
  · intro v' w' h1 h2 _
    refine h v' w' (by simpa [Owns] using h1) ?_ fun O => ⟨by have := h2.size; simp at this; omega, fun b o hb _ ht => ?_⟩
    · exact ((Below.refl B w0).alloc hB _).grown h2 (by simp; omega) (fun k hk => (Owns.lt hown k hk).1)
    · have hbl := blt_of hb
      rw [h2.block b (by simp; omega) (fun e => ?_), Below.heap_alloc _ _ _ hbl]
      · exact hb
      · obtain ⟨_, h5⟩ := hown
        rcases h5 with ⟨hv, _⟩ | ⟨g, cap, cur, hv, hg, hh, _⟩
        · rw [hv] at e; simp [Value.ownBlock] at e
        · rw [hv] at e
          simp [Value.ownBlock] at e
          subst e
          rw [hb] at hh
          simp only [Option.some.injEq] at hh
          exact ht _ _ hh

theorem text_brd {W H : Nat} {u : List UInt8} (hW : 1 ≤ W ∧ W ≤ 8) (hH : 1 ≤ H ∧ H ≤ 8) (hu : u.length = W * H) (hub : Brd2 u) : Brd (textM u W H) W H u := by
  obtain ⟨t1, t2, t3⟩ := text_grid (p := rowSign) hW hH hu (fun c hc => by rcases hub c hc with rfl | rfl <;> rfl) (fun c hc => by rcases hub c hc with rfl | rfl <;> decide)
  exact ⟨by rw [← grid_good]; exact t1, t3, t2, hW.1, hW.2, hH.1, hH.2, hu, hub⟩
/-- The texts of the boards that begin with some signs and fit all clues. -/
def lookC (W H : Nat) (cs : List Clu) (d : Nat) (u : List UInt8) : List (List UInt8) := (((seqs d).map (u ++ ·)).filter fun v => cs.all (fitC W v)).map fun v => textM v W H
theorem lookC_zero (W H : Nat) (cs : List Clu) (u : List UInt8) : lookC W H cs 0 u = if cs.all (fitC W u) = true then [textM u W H] else [] := by
  simp only [lookC, seqs, List.map_cons, List.map_nil, List.append_nil]
  cases h : cs.all (fitC W u) <;> simp [h]
theorem lookC_succ (W H : Nat) (cs : List Clu) (d : Nat) (u : List UInt8) : lookC W H cs (d + 1) u = lookC W H cs d (u ++ [42]) ++ lookC W H cs d (u ++ [46]) := by
  have e : ∀ c : UInt8, ((seqs d).map (c :: ·)).map (u ++ ·) = (seqs d).map ((u ++ [c]) ++ ·) := fun c => by
    rw [List.map_map]; exact List.map_congr_left fun v _ => by simp
  rw [lookC, lookC, lookC, seqs, List.map_append, e, e, List.filter_append, List.map_append]
theorem lookC_le (W H : Nat) (cs : List Clu) (d : Nat) (u : List UInt8) : (lookC W H cs d u).length ≤ 2 ^ d := by
  rw [lookC, List.length_map]
  refine Nat.le_trans (List.length_filter_le _ _) ?_
  rw [List.length_map, seqs_length]
  exact Nat.le_refl _
theorem lookC_sol (W H : Nat) (cs : List Clu) : lookC W H cs (W * H) [] = (solC W (W * H) cs).map fun v => textM v W H := by
  rw [lookC, solC]; simp

set_option maxRecDepth 100000 in
set_option maxHeartbeats 3200000 in
theorem look_zero (W H n cap O : Nat) (a : Option Addr) (cs : List Clu) (u : List UInt8) (v : Value) (L : List (List UInt8)) (w0 w : World) (hW : 1 ≤ W ∧ W ≤ 8) (hH : 1 ≤ H ∧ H ≤ 8) (h9 : W * H ≤ 9) (hn : n = cs.length) (h8 : cs.length ≤ 8) (hc : ∀ c ∈ cs, cluB W H c = true)
    (hat : At w0 a (flatC cs)) (hb0 : Below w0.heap.size w0 w) (hu : u.length = W * H) (hub : Brd2 u) (hO : w.heap[O]? = some (.cells #[v] 51 (0, 0))) (hown : Owns w (O + 1) 9 v (txts L)) (hL : L.length ≤ 1000) :
    Calls Try.prog 36 #[.agg #[.int .i64 W, .int .i64 H, .slice a n cap], .string ⟨u.toArray⟩, .pointer (some ⟨O, 0, none⟩)] w fun e w' => e = .returned (.tuple #[]) ∧ ∃ v', w'.heap[O]? = some (.cells #[v'] 51 (0, 0)) ∧ Owns w' (O + 1) 9 v' (txts (L ++ lookC W H cs 0 u)) ∧ Kp O w w' ∧ Below O w w' := by
  subst hn
  have hO1 : O < w.heap.size := blt_of hO
  have hbx : Below w.heap.size w (w.alloc (.cells #[.int .i64 W, .int .i64 H, .slice a cs.length cap] 30)) := (Below.refl _ _).alloc (Nat.le_refl _) _
  have hG := heap_alloc_new w (.cells #[.int .i64 W, .int .i64 H, .slice a cs.length cap] 30)
  have hO2 := (hbx.block O hO1).trans hO
  have hown2 := hown.later hbx
  have hB2 : Below O w (w.alloc (.cells #[.int .i64 W, .int .i64 H, .slice a cs.length cap] 30)) := hbx.mono (Nat.le_of_lt hO1)
  have hK2 : Kp O w (w.alloc (.cells #[.int .i64 W, .int .i64 H, .slice a cs.length cap] 30)) := Kp.of hbx
  have hat2 := Lib.hid hat
  have HB0 := Lib.hid (hb0.trans (hbx.mono hb0.size))
  have hBR := fun w => boRows_any u W w (by omega) hW.1 (by omega)
  rw [brGo_text W H hW.1 u hu] at hBR
  have hls : (textM u W H).length ≤ 1048576 := by
    have := textM_le u W H hW.2 hH.2; omega
  have HF := Lib.hid (fun c (hcm : c ∈ cs) w => pzFits_any (textM u W H) W H u c w hls (text_brd hW hH hu hub) (hc c hcm))
  have hlu : (u.length : Int) = (W : Int) * (H : Int) := by rw [hu]; exact Int.natCast_mul _ _
  have HL0 := Lib.hid (lookC_zero W H cs u)
  have HBR := Lib.hid hBR
  clear hc hub hBR hls hown hO hbx hat hb0
  have hwh : (W : Int) * H ≤ 9 := by rw [← hlu, hu]; exact_mod_cast h9
  go_enter Try.func36, Try.ntmps36
  go_upto_region 1 with fail
  generalize w.alloc (.cells #[.int .i64 W, .int .i64 H, .slice a cs.length cap] 30) = w1 at *
  generalize w.heap.size = G at *
  have f0 := cell_of_block hG 0
  have f1 := cell_of_block hG 1
  have f2 := cell_of_block hG 2
  simp at f0 f1 f2
  have HG := Lib.hid hG
  clear hG
  go_wp2_with fail
  refine (HBR.out _).mono ?_
  rintro e w2 ⟨rfl, rfl⟩
  generalize textM u W H = t at *
  unfold valC at HF
  have hGl : G < w1.heap.size := block_lt HG.out
  have hat20 := hat2
  clear hat2
  go_wp2_with fail
  go_loopw [24] (fun i wr => ∃ k : Nat, k ≤ cs.length ∧ i = .int .i64 k ∧ (∀ c ∈ cs.take k, fitC W u c = true) ∧ Below w1.heap.size w1 wr) (fun i _ => cs.length - (intOf i).toNat)
  case atStart => exact ⟨0, Nat.zero_le _, rfl, by simp, Below.refl _ _⟩
  case round =>
    obtain ⟨k, hk, rfl, hgood, hbr⟩ := hrel
    have hGr := (hbr.block _ hGl).trans HG.out
    clear f0 f1 f2
    by_cases hlt : k < cs.length
    · obtain ⟨g, off, rfl, hgl, q0, q1, q2⟩ := clu_at (hat20.out.later rfl (HB0.out.trans (hbr.mono HB0.out.size))) k hlt
      have hcf := fun w => HF.out cs[k] (List.getElem_mem hlt) w
      have hGD : Hid (fitC W u cs[k] = true → ∀ c ∈ cs.take (k + 1), fitC W u c = true) := fun h c hx => by
        rw [List.take_succ_eq_append_getElem hlt, List.mem_append, List.mem_singleton] at hx
        rcases hx with hx | rfl
        · exact hgood c hx
        · exact h
      have hBD : Hid (fitC W u cs[k] = false → cs.all (fitC W u) = false) := fun h => List.all_eq_false.2 ⟨cs[k], List.getElem_mem hlt, by simp [h]⟩
      generalize cs[k] = c at *
      have hbr3 := hbr.alloc hbr.size (.cells #[.int .i64 c.k, .int .i64 c.a, .int .i64 c.b] 34)
      go_upto_region 6 with fail
      have hC3 : (wr.alloc (.cells #[.int .i64 c.k, .int .i64 c.a, .int .i64 c.b] 34)).heap[wr.heap.size]? = some (.cells #[.int .i64 c.k, .int .i64 c.a, .int .i64 c.b] 34 (0, 0)) := heap_alloc_new wr _
      clear hGr q0 q1 q2 hbr
      generalize wr.alloc (.cells #[.int .i64 c.k, .int .i64 c.a, .int .i64 c.b] 34) = w3 at *
      have q0 := cell_of_block hC3 0
      have q1 := cell_of_block hC3 1
      have q2 := cell_of_block hC3 2
      simp at q0 q1 q2
      clear hC3
      go_wp2_with fail
      refine (hcf _).mono ?_
      rintro e w2 ⟨rfl, hb4⟩
      have hbr5 := hbr3.trans (hb4.mono hbr3.size)
      clear q0 q1 q2 hb4 hbr3 hcf
      cases hck : fitC W u c with
      | true =>
        rw [hck] at hGD hBD
        clear hck
        go_wp2_with fail
        go_roundw
        case rel => exact ⟨k + 1, by omega, by go_num, hGD.out (by simp), hbr5⟩
        case measure => simp [intOf]; omega
      | false =>
        rw [hck] at hGD hBD
        clear hck
        go_wp2_with fail
        try simp only [Exit.inBlock, Exit.then]
        refine bodyPost_ret (results_none rfl _ _ _) rfl ⟨rfl, v, (hbr5.block O (blt_of hO2)).trans hO2, ?_, hK2.trans (Kp.of hbr5), hB2.trans (hbr5.mono (Nat.le_of_lt (blt_of hO2)))⟩
        rw [HL0.out, hBD.out (by simp), if_neg (by simp), List.append_nil]
        exact hown2.later hbr5
    · obtain rfl : k = cs.length := by omega
      rw [List.take_length] at hgood
      have hA : Hid (cs.all (fitC W u) = true) := List.all_eq_true.2 hgood
      clear hGr hgood
      have hbO := (hbr.block O (blt_of hO2)).trans hO2
      have hownr := hown2.later hbr
      have hBr := hB2.trans (hbr.mono (Nat.le_of_lt (blt_of hO2)))
      have hKr := hK2.trans (Kp.of hbr)
      have z0 := cell_of_block hbO 0
      simp at z0
      go_wp2_with (at_builtin; refine wpList_app1k rfl _ _ _ rfl _ _ _ elemStr _ _ _ _ rfl rfl rfl hownr rfl (by simp; omega) (blt_of hbO) (by simp; omega) ?_; intro v1 w3 hown3 hb3 hk3; obtain ⟨a3, c3, hv3⟩ := hown3.shape; subst hv3; have hO3 := (hk3 (O + 1)).2 O _ hbO (by omega) (by intro cur fr h; simp at h); have y0 := cell_of_block hO3 0; have yf := frozen_of_block hO3; have HO3 := Lib.hid hO3; simp at y0; clear z0 hO3)
      try simp only [Exit.inBlock, Exit.then]
      have hfin := block_set HO3.out 0 (.slice a3 (L.length + 1) c3)
      refine bodyPost_ret (results_none rfl _ _ _) rfl ⟨rfl, _, hfin, ?_, hKr.trans ((hk3 O).trans Kp.set), (hBr.trans (hb3.mono (Nat.le_succ O))).trans (Below.set 0 _)⟩
      rw [HL0.out, hA.out, if_pos rfl, ← txts_snoc]
      have hown4 := hown3.set O 0 (.slice a3 (L.length + 1) c3) (Nat.lt_succ_self O)
      simpa using hown4
set_option maxRecDepth 100000 in
set_option maxHeartbeats 3200000 in
theorem look_any (W H n cap O : Nat) (a : Option Addr) (cs : List Clu) (w0 : World) (hW : 1 ≤ W ∧ W ≤ 8) (hH : 1 ≤ H ∧ H ≤ 8) (h9 : W * H ≤ 9) (hn : n = cs.length) (h8 : cs.length ≤ 8) (hc : ∀ c ∈ cs, cluB W H c = true)
    (hat : At w0 a (flatC cs)) (h0 : w0.heap.size ≤ O) : ∀ (d : Nat) (u : List UInt8) (v : Value) (L : List (List UInt8)) (w : World), Below w0.heap.size w0 w → u.length + d = W * H → Brd2 u → w.heap[O]? = some (.cells #[v] 51 (0, 0)) → Owns w (O + 1) 9 v (txts L) → L.length + 2 ^ d ≤ 1000 →
    Calls Try.prog 36 #[.agg #[.int .i64 W, .int .i64 H, .slice a n cap], .string ⟨u.toArray⟩, .pointer (some ⟨O, 0, none⟩)] w fun e w' => e = .returned (.tuple #[]) ∧ ∃ v', w'.heap[O]? = some (.cells #[v'] 51 (0, 0)) ∧ Owns w' (O + 1) 9 v' (txts (L ++ lookC W H cs d u)) ∧ Kp O w w' ∧ Below O w w'
  | 0, u, v, L, w, hb0, hu, hub, hO, hown, hL => look_zero W H n cap O a cs u v L w0 w hW hH h9 hn h8 hc hat hb0 hu hub hO hown (by omega)
  | d + 1, u, v, L, w, hb0, hu, hub, hO, hown, hL => by
    have hp2 : 2 ^ (d + 1) = 2 ^ d + 2 ^ d := by rw [Nat.pow_succ]; omega
    have IH := Lib.hid (look_any W H n cap O a cs w0 hW hH h9 hn h8 hc hat h0 d)
    subst hn
    have HS := Lib.hid (lookC_succ W H cs d u)
    have hle := lookC_le W H cs d (u ++ [42])
    have h42 : Brd2 (u ++ [42]) := fun c hx => by
      rcases List.mem_append.1 hx with h | h
      · exact hub c h
      · exact .inr (List.mem_singleton.1 h)
    have h46 : Brd2 (u ++ [46]) := fun c hx => by
      rcases List.mem_append.1 hx with h | h
      · exact hub c h
      · exact .inl (List.mem_singleton.1 h)
    have H42 := Lib.hid h42
    have H46 := Lib.hid h46
    have hO1 : O < w.heap.size := blt_of hO
    have hbx : Below w.heap.size w (w.alloc (.cells #[.int .i64 W, .int .i64 H, .slice a cs.length cap] 30)) := (Below.refl _ _).alloc (Nat.le_refl _) _
    have hG := heap_alloc_new w (.cells #[.int .i64 W, .int .i64 H, .slice a cs.length cap] 30)
    have hO2 := (hbx.block O hO1).trans hO
    have hown2 := hown.later hbx
    have hB2 : Below O w (w.alloc (.cells #[.int .i64 W, .int .i64 H, .slice a cs.length cap] 30)) := hbx.mono (Nat.le_of_lt hO1)
    have hK2 : Kp O w (w.alloc (.cells #[.int .i64 W, .int .i64 H, .slice a cs.length cap] 30)) := Kp.of hbx
    have hb02 := hb0.trans (hbx.mono hb0.size)
    have hlu : ((u.length : Int) == (W : Int) * (H : Int)) = false := by
      rw [beq_eq_false_iff_ne]
      have : ((W * H : Nat) : Int) = (W : Int) * H := Int.natCast_mul _ _
      omega
    have hwh : (W : Int) * H ≤ 9 := by exact_mod_cast h9
    have hu9 : u.length ≤ 9 := by omega
    have HU := Lib.hid hu
    clear hc hat hbx hub h42 h46 hown hb0 hO hu
    go_enter Try.func36, Try.ntmps36
    go_upto_region 1 with fail
    generalize w.alloc (.cells #[.int .i64 W, .int .i64 H, .slice a cs.length cap] 30) = w1 at *
    have hGO : w.heap.size ≠ O := by omega
    generalize w.heap.size = G at *
    have f0 := cell_of_block hG 0
    have f1 := cell_of_block hG 1
    have f2 := cell_of_block hG 2
    simp at f0 f1 f2
    have HG := Lib.hid hG
    clear hG
    go_wp2_with fail
    refine (IH.out (u ++ [42]) v L w1 hb02 (by have := HU.out; simp; omega) H42.out hO2 hown2 (by omega)).mono ?_
    rintro e w2 ⟨rfl, v2, hO3, hown3, hk3, hb3⟩
    have hG3 := hk3.2 G _ HG.out hGO (by intro cur fr h; simp at h)
    have hb03 := hb02.trans (hb3.mono h0)
    have hB3 := hB2.trans hb3
    have hK3 := hK2.trans hk3
    clear hk3 hb3 hK2 hB2 hb02 hown2 hO2 f0 f1 f2
    have f0 := cell_of_block hG3 0
    have f1 := cell_of_block hG3 1
    have f2 := cell_of_block hG3 2
    simp at f0 f1 f2
    clear hG3
    go_wp2_with fail
    refine (IH.out (u ++ [46]) v2 _ w2 hb03 (by have := HU.out; simp; omega) H46.out hO3 hown3 (by rw [List.length_append]; omega)).mono ?_
    rintro e w3 ⟨rfl, v3, hO4, hown4, hk4, hb4⟩
    have hB4 := hB3.trans hb4
    have hK4 := hK3.trans hk4
    rw [List.append_assoc, ← HS.out] at hown4
    clear f0 f1 f2 hk4 hb4
    go_wp2_with fail
    exact bodyPost_end (results_none rfl _ _ _) rfl ⟨rfl, v3, hO4, hown4, hK4, hB4⟩
set_option maxRecDepth 100000 in
set_option maxHeartbeats 1600000 in
theorem pzAll_any (W H n cap : Nat) (a : Option Addr) (cs : List Clu) (w : World) (hW : 1 ≤ W ∧ W ≤ 8) (hH : 1 ≤ H ∧ H ≤ 8) (h9 : W * H ≤ 9) (hn : n = cs.length) (h8 : cs.length ≤ 8) (hc : ∀ c ∈ cs, cluB W H c = true) (hat : At w a (flatC cs)) :
    Calls Try.prog 25 #[.agg #[.int .i64 W, .int .i64 H, .slice a n cap]] w fun e w' => ∃ a' c', e = .returned (.slice a' (solC W (W * H) cs).length c') ∧ Owns w' w.heap.size 9 (.slice a' (solC W (W * H) cs).length c') (txts ((solC W (W * H) cs).map fun u => textM u W H)) ∧ Below w.heap.size w w' := by
  subst hn
  have hb1 : Below w.heap.size w (w.alloc (.cells #[.int .i64 W, .int .i64 H, .slice a cs.length cap] 30)) := (Below.refl _ _).alloc (Nat.le_refl _) _
  have hp2 : 2 ^ (W * H) ≤ 512 := Nat.pow_le_pow_right (by decide) h9
  have hO := blk1 w (.cells #[.int .i64 W, .int .i64 H, .slice a cs.length cap] 30) (.cells #[.slice none 0 0] 51)
  have hb2 : Below w.heap.size w ((w.alloc (.cells #[.int .i64 W, .int .i64 H, .slice a cs.length cap] 30)).alloc (.cells #[.slice none 0 0] 51)) := hb1.alloc hb1.size _
  have hs1 : (w.alloc (.cells #[.int .i64 W, .int .i64 H, .slice a cs.length cap] 30)).heap.size = w.heap.size + 1 := by simp
  have hl := look_any W H cs.length cap (w.heap.size + 1) a cs (w.alloc (.cells #[.int .i64 W, .int .i64 H, .slice a cs.length cap] 30)) hW hH h9 rfl h8 hc (hat.later rfl hb1) (Nat.le_of_eq hs1) (W * H) [] (.slice none 0 0) [] ((w.alloc (.cells #[.int .i64 W, .int .i64 H, .slice a cs.length cap] 30)).alloc (.cells #[.slice none 0 0] 51)) ((Below.refl _ _).alloc (Nat.le_refl _) _) (by simp) (by intro c hx; simp at hx) hO (Owns.nil _ _ _) (by simp; omega)
  rw [List.nil_append, lookC_sol] at hl
  have HL := Lib.hid hl
  clear hl hat hc
  go_enter Try.func25, Try.ntmps25
  go_wp2_with fail
  refine HL.out.mono ?_
  rintro e w3 ⟨rfl, v3, hO3, hown3, hk3, hb3⟩
  obtain ⟨a3, c3, hv3⟩ := hown3.shape
  subst hv3
  have z0 := cell_of_block hO3 0
  simp at z0
  have hb5 := hb2.trans (hb3.mono (Nat.le_succ _))
  have hown4 := hown3.mono (show w.heap.size ≤ w.heap.size + 1 + 1 by omega)
  clear hO3 hk3 hb3 hO hown3 HL
  simp only [txts_length, List.length_map] at hown4
  go_wp2_with fail
  go_ret
  exact ⟨_, _, rfl, hown4, hb5⟩
end Go.Proofs.Ythlbplmghjaeoaa
