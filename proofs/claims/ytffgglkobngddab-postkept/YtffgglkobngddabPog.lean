/- The walk of the document's SameSender, at two senders that are the same. -/
import Derived.Test.YtffgglkobngddabPoe
namespace Go.Proofs.Ytffgglkobngddab.Po
open Go.RowKit Go.Proofs.Ytffgglkobngddab.Gn

set_option maxHeartbeats 1000000 in
theorem same_any (s : Se) (a : Option Addr) (cap : Nat) (a2 : Option Addr) (cap2 : Nat) (w : World) (hl : Lies kT w a cap s.kept) (hE : Lies kT w a2 cap2 s.kept) :
    Calls Try.prog 20 #[sv s a cap, sv s a2 cap2] w fun e w' => e = .returned (.bool true) ∧ Below w.heap.size w w' := by
  have hm := hl.len
  unfold maxLen at hm
  have P1 : ((w.alloc (so s a cap)).alloc (so s a2 cap2)).heap[w.heap.size]? = some (so s a cap) := by rw [Below.heap_alloc _ _ _ (by simp), heap_alloc_at _ _ _ rfl]
  have P2 : ((w.alloc (so s a cap)).alloc (so s a2 cap2)).heap[w.heap.size + 1]? = some (so s a2 cap2) := heap_alloc_at _ _ _ (by simp)
  have hb0 : Below w.heap.size w ((w.alloc (so s a cap)).alloc (so s a2 cap2)) := (below_alloc _ _).alloc (by simp) _
  have hz0 : w.heap.size + 1 < ((w.alloc (so s a cap)).alloc (so s a2 cap2)).heap.size := by simp
  unfold so at P1 P2 hb0 hz0
  unfold sv
  go_enter Try.func20, Try.ntmps20
  go_upto_region 1 with fail
  generalize (w.alloc (.cells #[.int .i64 s.sent, .slice a s.kept.length cap] 40)).alloc (.cells #[.int .i64 s.sent, .slice a2 s.kept.length cap2] 40) = W0 at *
  obtain ⟨B0, B1⟩ := so_cells P1
  obtain ⟨D0, D1⟩ := so_cells P2
  go_wp2
  go_loopw [23] (fun i wr => ∃ k : Nat, k ≤ s.kept.length ∧ i = .int .i64 k ∧ Below W0.heap.size W0 wr) (fun i _ => s.kept.length - (intOf i).toNat)
  case atStart => exact ⟨0, Nat.zero_le _, rfl, Below.refl _ _⟩
  case round =>
    obtain ⟨k, hk, rfl, hb⟩ := hrel
    generalize wr = W at *
    have hbw : Below w.heap.size w W := hb0.trans (hb.mono hb0.size)
    by_cases hlt : k < s.kept.length
    · have hlt' : (k : Int) < s.kept.length := by omega
      obtain ⟨b, off, rfl, hbl, e1, e2, e3, e4⟩ := tr_cells (hl.below hbw) hlt
      obtain ⟨b2, off2, rfl, hbl2, f1, f2, f3, f4⟩ := tr_cells (hE.below hbw) hlt
      obtain ⟨B0', B1'⟩ := so_cells ((hb.block _ (by omega)).trans P1)
      obtain ⟨D0', D1'⟩ := so_cells ((hb.block _ (by omega)).trans P2)
      clear B0 B1 D0 D1
      generalize s.kept.getD k zeroT = t at *
      go_wp2
      go_quiet (fail)
      go_wp2
      go_roundw
      case rel => exact ⟨k + 1, by omega, by go_num, below_drewN hb _⟩
      case measure => simp [intOf]; omega
    · go_wp2
      go_ret
      exact ⟨rfl, hbw⟩
end Go.Proofs.Ytffgglkobngddab.Po
