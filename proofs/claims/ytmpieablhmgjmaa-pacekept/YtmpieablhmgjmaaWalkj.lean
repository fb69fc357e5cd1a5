/- The walk of the closed fact that is asked first. -/
import Derived.Test.YtmpieablhmgjmaaWalkg
import Derived.Test.YtmpieablhmgjmaaMathb
namespace Go.Proofs.Ytmpieablhmgjmaa
open Go.RowKit

theorem ents_two (w : World) (x y : Int × Int) (b : Nat) (hb : b = w.heap.size) : Ents (w.alloc (.cells #[.int .i64 x.1, .int .i64 x.2, .int .i64 y.1, .int .i64 y.2] 58)) (some ⟨b, 0, none⟩) [x, y] := by
  subst hb
  refine ⟨by simp [maxLen], Or.inr ⟨w.heap.size, 0, rfl, by simp, fun i hi => ?_⟩⟩
  match i, hi with
  | 0, _ => constructor <;> (rw [World.cell?_alloc_at _ _ _ _ rfl]; rfl)
  | 1, _ => constructor <;> (rw [World.cell?_alloc_at _ _ _ _ rfl]; rfl)

theorem alive1 : addU ⟨10, 2, 100⟩ [(1, 60), (5, 30)] (11, 70) = ([(5, 30), (11, 70)], 0) := by decide
theorem alive2 : addU ⟨10, 2, 100⟩ [(5, 30), (11, 70)] (12, 1) = ([], 11) := by decide

set_option maxHeartbeats 1000000 in
theorem alive_any (w : World) :
    Calls Try.prog 44 #[] w fun e w' => e = .returned (.bool true) ∧ Below w.heap.size w w' := by
  have b0 : ∀ o o', Below w.heap.size w ((w.alloc o).alloc o') := fun o o' => ((Below.refl _ _).alloc (Nat.le_refl _) _).alloc (by simp) _
  have H1 := hid alive1
  have H2 := hid alive2
  go_enter Try.func44, Try.ntmps44
  go_wp2_with fail
  refine (add_any ⟨10, 2, 100⟩ _ 2 [(1, 60), (5, 30)] (11, 70) _ (ents_two _ (1, 60) (5, 30) _ (by simp))).mono ?_
  rw [H1.out]
  intro e w1 hA
  obtain ⟨a1, cap1, rfl, hE1, hb1⟩ := hA.read
  clear hA
  have bb : Below w.heap.size w w1 := (b0 _ _).trans (hb1.mono (by simp; omega))
  have P0 : w1.cell? ⟨w.heap.size, 0, none⟩ = some (.int .i64 10) := (hb1.cell (p := ⟨w.heap.size, 0, none⟩) (by simp; omega)).trans (by simp [go_sem])
  have P1 : w1.cell? ⟨w.heap.size, 1, none⟩ = some (.int .i64 2) := (hb1.cell (p := ⟨w.heap.size, 1, none⟩) (by simp; omega)).trans (by simp [go_sem])
  have P2 : w1.cell? ⟨w.heap.size, 2, none⟩ = some (.int .i64 100) := (hb1.cell (p := ⟨w.heap.size, 2, none⟩) (by simp; omega)).trans (by simp [go_sem])
  clear hb1 b0
  go_wp2_with fail
  refine (add_any ⟨10, 2, 100⟩ a1 cap1 [(5, 30), (11, 70)] (12, 1) _ hE1).mono ?_
  rw [H2.out]
  intro e w2 hA
  obtain ⟨a2, cap2, rfl, -, hb2⟩ := hA.read
  clear hA
  go_wp2
  go_ret
  exact ⟨rfl, bb.trans (hb2.mono bb.size)⟩
end Go.Proofs.Ytmpieablhmgjmaa
