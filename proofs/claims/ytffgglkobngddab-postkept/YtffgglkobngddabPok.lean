/- The walk of the closed fact that is asked first. -/
import Derived.Test.YtffgglkobngddabPoe
namespace Go.Proofs.Ytffgglkobngddab.Po
open Go.RowKit Go.Proofs.Ytffgglkobngddab.Gn

theorem row_at' {e : TypeId} {W : World} {base : Nat} {v : Value} {L : List Tr} (h : Row kT e W base v L) : ∃ a cap, v = .slice a L.length cap ∧ Row kT e W base (.slice a L.length cap) L ∧ Lies kT W a cap L := by
  obtain ⟨a, cap, rfl, hl, -, -⟩ := h.lies
  exact ⟨a, cap, rfl, h, hl⟩

theorem alive1 : putS ⟨0, []⟩ ⟨0, 1, 3, 50⟩ = (⟨1, [⟨1, 1, 3, 50⟩]⟩, 0) := by rfl
theorem alive2 : backS ⟨1, [⟨1, 1, 3, 50⟩]⟩ 1 = (⟨1, []⟩, 0) := by rfl

set_option maxHeartbeats 1000000 in
theorem alive_any (w : World) :
    Calls Try.prog 24 #[] w fun e w' => e = .returned (.bool true) ∧ Below w.heap.size w w' := by
  have H1 := hid alive1
  have H2 := hid alive2
  go_enter Try.func24, Try.ntmps24
  go_wp2_with fail
  refine (put_any ⟨0, []⟩ none 0 ⟨0, 1, 3, 50⟩ _ (lies_nil _ _)).mono ?_
  rw [H1.out]
  rintro e w1 ⟨v1, rfl, hrow1, hb1⟩
  obtain ⟨a1, cap1, rfl, -, hl1⟩ := row_at' hrow1
  dsimp only [List.length_cons, List.length_nil] at hl1 ⊢
  have hS : (w1.alloc (so ⟨1, [⟨1, 1, 3, 50⟩]⟩ a1 cap1)).heap[w1.heap.size]? = some (so ⟨1, [⟨1, 1, 3, 50⟩]⟩ a1 cap1) := heap_alloc_at _ _ _ rfl
  have hl2 := hl1.alloc (so ⟨1, [⟨1, 1, 3, 50⟩]⟩ a1 cap1)
  have bb := hb1.alloc hb1.size (so ⟨1, [⟨1, 1, 3, 50⟩]⟩ a1 cap1)
  unfold so at hS hl2 bb
  dsimp only [List.length_cons, List.length_nil] at hS hl2 bb
  go_upto_region 2 with fail
  generalize w1.alloc (.cells #[.int .i64 1, .slice a1 (0 + 1) cap1] 40) = W1 at *
  obtain ⟨C0, C1⟩ := so_cells (s := ⟨1, [⟨1, 1, 3, 50⟩]⟩) hS
  obtain ⟨b, off, rfl, hbl, e1, e2, e3, e4⟩ := tr_cells hl2 (i := 0) (by simp)
  simp at e1 e2 e3 e4
  dsimp only [List.length_cons, List.length_nil, Nat.zero_add] at C0 C1
  go_wp2_with fail
  refine (take_any 0 ⟨1, 1, 3, 50⟩ _).mono ?_
  rw [show taken 0 1 = true from rfl, show took 0 1 = 1 from rfl]
  rintro e w2 ⟨rfl, hb2⟩
  have hl3 := hl2.below hb2
  have hS3 := (hb2.block _ (lt_of_block hS)).trans hS
  have bb3 := bb.trans (hb2.mono bb.size)
  clear hb2 hl2 hS bb C0 C1 e1 e2 e3 e4 hrow1 hl1 hb1
  obtain ⟨C0, C1⟩ := so_cells (s := ⟨1, [⟨1, 1, 3, 50⟩]⟩) hS3
  dsimp only [List.length_cons, List.length_nil, Nat.zero_add] at C0 C1
  go_wp2_with fail
  refine (back_any ⟨1, [⟨1, 1, 3, 50⟩]⟩ (some ⟨b, off, none⟩) cap1 1 _ hl3).mono ?_
  rw [H2.out]
  rintro e w4 ⟨v4, rfl, hrow4, hb4⟩
  obtain ⟨a4, cap4, rfl, -, -⟩ := row_at' hrow4
  have hS4 := (hb4.block _ (lt_of_block hS3)).trans hS3
  have bb4 := bb3.trans (hb4.mono bb3.size)
  have hlt4 := lt_of_block hS4
  clear hb4 hl3 hS3 bb3 C0 C1 hrow4
  obtain ⟨C0, C1⟩ := so_cells (s := ⟨1, [⟨1, 1, 3, 50⟩]⟩) hS4
  dsimp only [List.length_cons, List.length_nil, Nat.zero_add] at C0 C1 ⊢
  have C0' : ∀ o, (w4.alloc o).cell? ⟨w1.heap.size, 0, none⟩ = some (.int .i64 1) := fun o => (World.cell?_alloc_past _ _ _ hlt4).trans C0
  clear hS4
  go_wp2
  go_ret
  exact ⟨rfl, bb4.alloc bb4.size _⟩
end Go.Proofs.Ytffgglkobngddab.Po
