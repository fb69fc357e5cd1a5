/- The walk of the closed fact that is asked first. -/
import Derived.Test.YtdifndnogpcbkabCarde
namespace Go.Proofs.Ytdifndnogpcbkab
open Go.RowKit

theorem alive1 : allowC ⟨100, 0, ⟨10, 5, 1000⟩, []⟩ 70 3 = (⟨100, 70, ⟨10, 5, 1000⟩, [(3, 70)]⟩, 0) := by rfl
theorem alive2 : allowC ⟨100, 70, ⟨10, 5, 1000⟩, [(3, 70)]⟩ 31 3 = (zeroC, 10) := by rfl

set_option maxHeartbeats 1000000 in
theorem alive_any (w : World) :
    Calls Try.prog 6 #[] w fun e w' => e = .returned (.bool true) ∧ Below w.heap.size w w' := by
  have H1 := hid alive1
  have H2 := hid alive2
  go_enter Try.func6, Try.ntmps6
  go_wp2_with fail
  refine (allow_any ⟨100, 0, ⟨10, 5, 1000⟩, []⟩ none 0 70 3 _ (lies_nil _)).mono ?_
  rw [H1.out]
  rintro e w1 ⟨a1, cap1, rfl, hl1, hb1⟩
  unfold cv
  dsimp only [List.length_cons, List.length_nil]
  have bb : Below w.heap.size w w1 := (below_alloc _ _).trans (hb1.mono (by simp))
  have X1 := card_new w1 ⟨100, 70, ⟨10, 5, 1000⟩, [(3, 70)]⟩ a1 cap1 hl1
  clear hb1
  go_wp2_with fail
  refine (allow_any ⟨100, 70, ⟨10, 5, 1000⟩, [(3, 70)]⟩ a1 cap1 31 3 _ X1.lies).mono ?_
  rw [H2.out]
  rintro e w2 ⟨a2, cap2, rfl, hl2, hb2⟩
  unfold cv zeroC
  dsimp only [List.length_cons, List.length_nil]
  have bb2 : Below w.heap.size w w2 := bb.trans (((below_alloc _ _).trans (hb2.mono (by simp))).mono bb.size)
  have X2 := fun o => (X1.on hb2).alloc o
  clear hb2 X1 bb
  have C0 := fun o => (X2 o).cells.1
  have C1 := fun o => (X2 o).cells.2.1
  have C2 := fun o => (X2 o).cells.2.2.1
  have C3 := fun o => (X2 o).cells.2.2.2.1
  have C4 := fun o => (X2 o).cells.2.2.2.2.1
  have C5 := fun o => (X2 o).cells.2.2.2.2.2
  go_wp2_with fail
  refine (free_any ⟨100, 70, ⟨10, 5, 1000⟩, [(3, 70)]⟩ a1 cap1 _ (by decide) (by decide) (by decide) (by decide)).mono ?_
  rintro e w3 ⟨rfl, hb3⟩
  have X3 := (X2 _).on hb3
  have bb3 := (bb2.alloc bb2.size _).trans (hb3.mono (by have := bb2.size; simp; omega))
  clear C0 C1 C2 C3 C4 C5 X2 hb3
  obtain ⟨-, -, -, -, -, C5⟩ := X3.cells
  go_wp2
  go_ret
  exact ⟨rfl, bb3⟩
end Go.Proofs.Ytdifndnogpcbkab
