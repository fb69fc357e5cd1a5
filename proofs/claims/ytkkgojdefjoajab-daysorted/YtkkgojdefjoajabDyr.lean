/- The walk of the document's SameRecords, at two lists that are the same. -/
import Derived.Test.YtkkgojdefjoajabDyCell
namespace Go.Proofs.Ytkkgojdefjoajab.Dy
open Go.RowKit Go.Proofs.Ytkkgojdefjoajab.Gn

set_option maxHeartbeats 1000000 in
theorem same_any (L : List Rc) (v v2 : Value) (w : World) (h : At kR w v L) (h2 : At kR w v2 L) :
    Calls Try.prog 44 #[v, v2] w fun e w' => e = .returned (.bool true) ∧ Below w.heap.size w w' := by
  have hm := h.len
  unfold maxLen at hm
  obtain ⟨a, c, rfl, hl⟩ := h
  obtain ⟨a2, c2, rfl, hl2⟩ := h2
  go_enter Try.func44, Try.ntmps44
  go_wp2
  go_loopw [13] (fun i wr => ∃ k : Nat, k ≤ L.length ∧ i = .int .i64 k ∧ Below w.heap.size w wr) (fun i _ => L.length - (intOf i).toNat)
  case atStart => exact ⟨0, Nat.zero_le _, rfl, Below.refl _ _⟩
  case round =>
    obtain ⟨k, hk, rfl, hb⟩ := hrel
    generalize wr = W at *
    by_cases hlt : k < L.length
    · have hlt' : (k : Int) < L.length := by omega
      obtain ⟨b, off, rfl, hbl, e1, e2, e3, e4⟩ := rc_cells (hl.below hb) hlt
      obtain ⟨b2, off2, rfl, hbl2, f1, f2, f3, f4⟩ := rc_cells (hl2.below hb) hlt
      generalize L.getD k zR = t at *
      go_wp2
      go_quiet (fail)
      go_wp2
      go_roundw
      case rel => exact ⟨k + 1, by omega, by go_num, below_drewN hb _⟩
      case measure => simp [intOf]; omega
    · go_wp2
      go_ret
      exact ⟨rfl, hb⟩
end Go.Proofs.Ytkkgojdefjoajab.Dy
