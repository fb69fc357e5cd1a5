/- The walk of the document's AddUse, up to where one more use is refused. -/
import Derived.Test.YtdifndnogpcbkaaWalkd
import Derived.Test.YtdifndnogpcbkaaWalked
import Derived.Test.YtdifndnogpcbkaaWalkg
namespace Go.Proofs.Ytdifndnogpcbkaa
open Go.RowKit

theorem ents_one (w : World) (x : Int × Int) : Ents (w.alloc (.cells #[.int .i64 x.1, .int .i64 x.2] 58)) (some ⟨w.heap.size, 0, none⟩) [x] := by
  refine ⟨by simp [maxLen], Or.inr ⟨w.heap.size, 0, rfl, by simp, fun i hi => ?_⟩⟩
  have h0 : i = 0 := by simp at hi; exact hi
  subst h0
  constructor
  · rw [World.cell?_alloc_at _ _ _ _ rfl]; rfl
  · rw [World.cell?_alloc_at _ _ _ _ rfl]; rfl

theorem refUses_one (x : Int × Int) (b : Nat) (w : World) (hb : b = w.heap.size) :
    Calls Try.prog 39 #[.slice (some ⟨b, 0, none⟩) 1 1] (w.alloc (.cells #[.int .i64 x.1, .int .i64 x.2] 58)) fun e w' =>
      e = .returned (.agg #[.int .i64 (uses [x]).1, .int .i64 (uses [x]).2]) ∧ Below (w.alloc (.cells #[.int .i64 x.1, .int .i64 x.2] 58)).heap.size (w.alloc (.cells #[.int .i64 x.1, .int .i64 x.2] 58)) w' := by
  subst hb
  exact refUses_any _ 1 [x] _ (ents_one w x)

set_option maxHeartbeats 2000000 in
theorem refAdd_pace (p : Pa) (a : Option Addr) (cap : Nat) (L : List (Int × Int)) (x : Int × Int) (w : World) (h1 : wrongP p ≠ 0) :
    Calls Try.prog 44 #[pv p, .slice a L.length cap, uv x] w (Answers w (addU p L x)) := by
  have HP := hid ((addU_bad (by rw [wrongAdd_pace h1]; exact h1)).trans (by rw [wrongAdd_pace (L := L) (x := x) h1] : (([], wrongAdd p L x) : List (Int × Int) × Int) = ([], wrongP p)))
  have hne : (wrongP p != 0) = true := by simpa using h1
  clear h1
  unfold pv uv
  go_enter Try.func44, Try.ntmps44
  go_wp2_with fail
  refine (refWrong_any p _).mono ?_
  rintro e w1 ⟨rfl, hb1⟩
  obtain ⟨bb, -, -, -⟩ := boxes hb1
  generalize wrongP p = r at *
  go_wp2
  go_ret2
  unfold Answers
  rw [HP.out]
  exact ⟨.slice none 0 0, rfl, World.ownsRow_nil _ _ _ _, bb⟩

set_option maxHeartbeats 2000000 in
theorem refAdd_uses (p : Pa) (a : Option Addr) (cap : Nat) (L : List (Int × Int)) (x : Int × Int) (w : World) (hL : Ents w a L) (h1 : wrongP p = 0) (h2 : (uses L).1 ≠ 0) :
    Calls Try.prog 44 #[pv p, .slice a L.length cap, uv x] w (Answers w (addU p L x)) := by
  have HP := hid ((addU_bad (by rw [wrongAdd_uses h1 h2]; exact h2)).trans (by rw [wrongAdd_uses (L := L) (x := x) h1 h2] : (([], wrongAdd p L x) : List (Int × Int) × Int) = ([], (uses L).1)))
  have hne : (wrongP p != 0) = false := by simpa using h1
  have hne2 : ((uses L).1 != 0) = true := by simpa using h2
  clear h1 h2
  unfold pv uv
  go_enter Try.func44, Try.ntmps44
  go_wp2_with fail
  refine (refWrong_any p _).mono ?_
  rintro e w1 ⟨rfl, hb1⟩
  obtain ⟨bb, hs1, -, -⟩ := boxes hb1
  generalize wrongP p = r at *
  have hL1 := hL.below bb
  go_wp2_with fail
  refine (refUses_any a cap L _ hL1).mono ?_
  rintro e w2 ⟨rfl, hb2⟩
  generalize (uses L).1 = r1 at *
  generalize (uses L).2 = r2 at *
  have bb2 : Below w.heap.size w w2 := bb.trans (hb2.mono bb.size)
  go_wp2
  go_quiet (fail)
  go_wp2
  go_ret2
  unfold Answers
  rw [HP.out]
  exact ⟨.slice none 0 0, rfl, World.ownsRow_nil _ _ _ _, below_drewN (bb2.alloc bb2.size _) _⟩

/-- What is known behind the two tests. -/
theorem boxes_on {w w1 w2 : World} {p : Pa} {x : Int × Int} {o : Obj} (bb : Below w.heap.size w w1) (hs : w.heap.size + 1 < w1.heap.size) (hp : w1.heap[w.heap.size]? = some (.cells #[.int .i64 p.t, .int .i64 p.c, .int .i64 p.s] 55)) (hx : w1.heap[w.heap.size + 1]? = some (.cells #[.int .i64 x.1, .int .i64 x.2] 58))
    (hb2 : Below w1.heap.size w1 w2) : Below w.heap.size w (w2.alloc o) ∧ w.heap.size + 1 < w2.heap.size ∧ (w2.alloc o).heap[w.heap.size]? = some (.cells #[.int .i64 p.t, .int .i64 p.c, .int .i64 p.s] 55) ∧ (w2.alloc o).heap[w.heap.size + 1]? = some (.cells #[.int .i64 x.1, .int .i64 x.2] 58) := by
  have s2 := hb2.size
  refine ⟨(bb.trans (hb2.mono bb.size)).alloc (by omega) o, by omega, ?_, ?_⟩
  · rw [Below.heap_alloc _ _ _ (by omega), hb2.block _ (by omega)]; exact hp
  · rw [Below.heap_alloc _ _ _ (by omega), hb2.block _ (by omega)]; exact hx

set_option maxHeartbeats 2000000 in
theorem refAdd_x (p : Pa) (a : Option Addr) (cap : Nat) (L : List (Int × Int)) (x : Int × Int) (w : World) (hL : Ents w a L) (h1 : wrongP p = 0) (h2 : (uses L).1 = 0) (h3 : inU x = false) :
    Calls Try.prog 44 #[pv p, .slice a L.length cap, uv x] w (Answers w (addU p L x)) := by
  have h4 := wrongAdd_x (L := L) h1 h2 h3
  have HP := hid ((addU_bad (by rw [h4]; decide)).trans (by rw [h4] : (([], wrongAdd p L x) : List (Int × Int) × Int) = ([], 3)))
  have hne : (wrongP p != 0) = false := by simpa using h1
  have hne2 : ((uses L).1 != 0) = false := by simpa using h2
  have hu : (uses [x]).1 = 3 := by rw [uses_one, h3]; rfl
  clear h1 h2 h3 h4
  unfold pv uv
  go_enter Try.func44, Try.ntmps44
  go_wp2_with fail
  refine (refWrong_any p _).mono ?_
  rintro e w1 ⟨rfl, hb1⟩
  obtain ⟨bb, hs1, hp1, hx1⟩ := boxes hb1
  generalize wrongP p = r at *
  have hL1 := hL.below bb
  go_wp2_with fail
  refine (refUses_any a cap L _ hL1).mono ?_
  rintro e w2 ⟨rfl, hb2⟩
  generalize (uses L).1 = r1 at *
  generalize (uses L).2 = r2 at *
  have B := fun o => boxes_on (o := o) bb hs1 hp1 hx1 hb2
  have X0 := fun o => (use_cells (B o).2.2.2).1
  have X1 := fun o => (use_cells (B o).2.2.2).2
  have hs2 := (B (.cells #[] 0)).2.1
  have B1 := fun o => (B o).1
  clear B hb1 hb2 bb hp1 hx1
  go_wp2_with fail
  refine (refUses_one x _ _ (by simp)).mono ?_
  rintro e w3 ⟨rfl, hb3⟩
  rw [hu]
  generalize (uses [x]).2 = r3 at *
  have bb3 : Below w.heap.size w w3 := ((B1 _).alloc (by simp; omega) _).trans (hb3.mono (by simp; omega))
  go_wp2
  go_quiet (fail)
  go_wp2
  go_ret2
  unfold Answers
  rw [HP.out]
  exact ⟨.slice none 0 0, rfl, World.ownsRow_nil _ _ _ _, below_drewN (bb3.alloc bb3.size _) _⟩
end Go.Proofs.Ytdifndnogpcbkaa
