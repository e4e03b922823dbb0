/- Stable sorts: the library's insertion sort, laid. -/
import Derived.Test.YthlbplmghjaeoaeG7
import Derived.Test.YthlbplmghjaeoaeGG8
import Derived.Shelf.SlSortCmp.InsertionK
import Derived.Shelf.SlLaysF0
import Derived.Shelf.SlGeneric
namespace Go.Proofs.Ythlbplmghjaeoae
open Go.RowKit Go.Sort Go.Lib Go.Shelf

def insRen : Go.Shelf.Ren := ⟨fun | 20 => 99 | n => n, fun | 24 => 45 | 22 => 70 | 3 => 3 | 25 => 85 | 4 => 4 | 0 => 0 | n => n, fun | n => n⟩
theorem insLays : Go.Proofs.SlLaysF0.n20 Try.prog insRen := {
  mixed := by kernel_rfl
  f20 := ⟨Try.f99.name, by decide, Try.func99.trans (congrArg some (by kernel_rfl))⟩
  t0 := Try.underlying0
  a0 := Try.isAgg0
  z0 := Try.sizeOf0
  v0 := Try.zeroValue0
  t3 := Try.underlying3
  a3 := Try.isAgg3
  z3 := Try.sizeOf3
  v3 := Try.zeroValue3
  t4 := Try.underlying4
  a4 := Try.isAgg4
  z4 := Try.sizeOf4
  v4 := Try.zeroValue4
  t22 := Try.underlying70
  a22 := Try.isAgg70
  z22 := Try.sizeOf70
  v22 := Try.zeroValue70
  t25 := Try.underlying85
  a25 := Try.isAgg85
  z25 := Try.sizeOf85
  v25 := Try.zeroValue85 }
/-- The insertion sort, from a world of the sort's to a world of the sort's. -/
theorem insertion_w {α : Type} [Inhabited α] (k : Nat) (aE : ∀ w, (isAgg 45).run Try.prog w = .ok true w) (zE : ∀ w, (Go.sizeOf 45).run Try.prog w = .ok k w) (enc : α → List Value) (key : α → Nat) (cf : α → α → Int) (hcf : ∀ x y, ltK key x y = decide (cf x y < 0)) (g : Nat) (cb : Array Value) (blk off cap a b : Nat) (d0 d : Array α) (w0 w : World)
    (eg : ∀ args w, (callFunc g args).run Try.prog w = .ok (.enter g args) w) (hcmp : CmpLays Try.prog g cb enc k cf blk off d0.size w0) (R : RowK enc k w0 blk off d0) (hs : d.size = d0.size) (S : SWK enc k w0 blk off d w) (hab : a ≤ b) (hb : b ≤ d.size) (hsz : d.size < 4611686018427387904) :
    Calls Try.prog 99 #[.slice (some ⟨blk, off, none⟩) d.size cap, .int .i64 a, .int .i64 b, .func (.func g) #[] cb] w fun e w' => e = .returned (.tuple #[]) ∧ SWK enc k w0 blk off (Sort.insertionSort (ltK key) d a b) w' := by
  have hlt : ltOf cf = ltK key := by
    funext x y
    rw [hcf]; rfl
  have hO : SWO (ltK key) := {
    irrefl := fun x => by simp [ltK]
    trans := fun x y z h1 h2 => by simp [ltK] at *; omega
    ntrans := fun x y z h1 h2 => by simp [ltK] at *; omega }
  have hs' : (Sort.insertionSort (ltK key) d a b).size = d.size := (insertionSort_holds hO d a b hab hb).1.1
  have hC : CmpLays Try.prog g cb enc k cf blk off d.size w := fun m os dk hdk x y => by
    obtain ⟨n0, os0, rfl⟩ := S
    rw [sortWorldK_on enc k w0 blk off n0 m d dk os0 os R.hblk hdk]
    exact hcmp _ _ dk (by omega) x y
  have h := AnyQ.insertionSortCmpFunc insLays k aE zE enc R.hk R.h1 cf g cb blk off cap a b d w eg hC (S.holds R.hblk R.hH hs) (S.lt R.hblk) hab hb hsz
  refine Calls.mono h ?_
  rintro e w' ⟨rfl, n, os, rfl⟩
  rw [hlt]
  exact ⟨rfl, S.on R.hblk n _ os hs'⟩
/-- A stable sort of a row of boards by a comparison. -/
theorem sortRow_any {α : Type} [Inhabited α] (k : Nat) (aE : ∀ w, (isAgg 45).run Try.prog w = .ok true w) (zE : ∀ w, (Go.sizeOf 45).run Try.prog w = .ok k w) (enc : α → List Value) (key idx : α → Nat) (cf : α → α → Int) (hcf : ∀ x y, ltK key x y = decide (cf x y < 0)) (g : Nat) (cb : Array Value) (blk off cap n : Nat) (d0 : Array α) (w0 : World)
    (eg : ∀ args w, (callFunc g args).run Try.prog w = .ok (.enter g args) w) (hcmp : CmpLays Try.prog g cb enc k cf blk off d0.size w0) (R : RowK enc k w0 blk off d0) (hs : d0.size = n) (hsz : n < 1099511627776) (hidx : ∀ t s, t < s → s < n → idx d0[t]! < idx d0[s]!) :
    Calls Try.prog 73 #[.slice (some ⟨blk, off, none⟩) n cap, .func (.func g) #[] cb] w0 fun e w' => e = .returned (.tuple #[]) ∧ ∃ d', PermIn 0 n d0 d' ∧ SortedIn (ltX key idx) 0 n d' ∧ SWK enc k w0 blk off d' w' := by
  refine sortStable_of k enc key idx g cb blk off cap n w0 (fun d w h1 h2 h3 => ?_) d0 w0 hs (SWK.start R.hH) hidx
  refine stable_of k enc key idx g cb blk off cap n w0 (fun a b d w h1 h2 h3 h4 => ?_) (fun a m b d w h1 h2 h3 h4 h5 h6 => ?_) d w h1 h2 hsz h3
  · have := insertion_w k aE zE enc key cf hcf g cb blk off cap a b d0 d w0 w eg hcmp R (by omega) h2 h3 (by omega) (by omega)
    rw [h1] at this
    exact this
  · have := symMerge_any k zE enc key idx cf hcf g cb blk off cap d0 w0 eg hcmp R (b - a) a m b d w (Nat.le_refl _) (by omega) h2 h3 h4 (by omega) (by omega) h6
    rw [h1] at this
    exact this
end Go.Proofs.Ythlbplmghjaeoae
