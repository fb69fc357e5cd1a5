/- The walk of the document's SameStand, at two stands that are the same. -/
import Derived.Test.YtmhcdiimamadfabSta
namespace Go.Proofs.Ytmhcdiimamadfab.St
open Go.RowKit Go.Proofs.Ytmhcdiimamadfab.Gn

set_option maxHeartbeats 2000000 in
theorem same_any (n : Int) (v1 v2 u1 u2 : Value) (U : List Int) (A : List Ad) (w : World) (h1 : At kI w v1 U) (h2 : At kA w v2 A) (h3 : At kI w u1 U) (h4 : At kA w u2 A) :
    Calls Try.prog 30 #[dv n v1 v2, dv n u1 u2] w fun e w' => e = .returned (.bool true) ∧ Below w.heap.size w w' := by
  have hm1 := h1.len
  have hm2 := h2.len
  unfold maxLen at hm1 hm2
  obtain ⟨a1, c1, rfl, hl1⟩ := h1
  obtain ⟨a2, c2, rfl, hl2⟩ := h2
  obtain ⟨a3, c3, rfl, hl3⟩ := h3
  obtain ⟨a4, c4, rfl, hl4⟩ := h4
  have P1 : ((w.alloc (dob n (.slice a1 U.length c1) (.slice a2 A.length c2))).alloc (dob n (.slice a3 U.length c3) (.slice a4 A.length c4))).heap[w.heap.size]? = some (dob n (.slice a1 U.length c1) (.slice a2 A.length c2)) := by rw [Below.heap_alloc _ _ _ (by simp), heap_alloc_at _ _ _ rfl]
  have P2 : ((w.alloc (dob n (.slice a1 U.length c1) (.slice a2 A.length c2))).alloc (dob n (.slice a3 U.length c3) (.slice a4 A.length c4))).heap[w.heap.size + 1]? = some (dob n (.slice a3 U.length c3) (.slice a4 A.length c4)) := heap_alloc_at _ _ _ (by simp)
  have hb0 : Below w.heap.size w ((w.alloc (dob n (.slice a1 U.length c1) (.slice a2 A.length c2))).alloc (dob n (.slice a3 U.length c3) (.slice a4 A.length c4))) := (below_alloc _ _).alloc (by simp) _
  have hz0 : w.heap.size + 1 < ((w.alloc (dob n (.slice a1 U.length c1) (.slice a2 A.length c2))).alloc (dob n (.slice a3 U.length c3) (.slice a4 A.length c4))).heap.size := by simp
  unfold dob at P1 P2 hb0 hz0
  unfold dv
  go_enter Try.func30, Try.ntmps30
  go_upto_region 1 with fail
  generalize (w.alloc (.cells #[.int .i64 n, .slice a1 U.length c1, .slice a2 A.length c2] 61)).alloc (.cells #[.int .i64 n, .slice a3 U.length c3, .slice a4 A.length c4] 61) = W0 at *
  obtain ⟨B0, B1, B2⟩ := dob_cells P1
  obtain ⟨D0, D1, D2⟩ := dob_cells P2
  go_wp2
  go_loopw [33] (fun i wr => ∃ k : Nat, k ≤ U.length ∧ i = .int .i64 k ∧ Below W0.heap.size W0 wr) (fun i _ => U.length - (intOf i).toNat)
  case atStart => exact ⟨0, Nat.zero_le _, rfl, Below.refl _ _⟩
  case round =>
    obtain ⟨k, hk, rfl, hb⟩ := hrel
    generalize wr = W at *
    have hbw : Below w.heap.size w W := hb0.trans (hb.mono hb0.size)
    obtain ⟨B0', B1', B2'⟩ := dob_cells ((hb.block _ (by omega)).trans P1)
    obtain ⟨D0', D1', D2'⟩ := dob_cells ((hb.block _ (by omega)).trans P2)
    clear B0 B1 B2 D0 D1 D2
    by_cases hlt : k < U.length
    · have hlt' : (k : Int) < U.length := by omega
      obtain ⟨b, off, rfl, hbl, e1⟩ := int_cell (hl1.below hbw) hlt
      obtain ⟨b2, off2, rfl, hbl2, f1⟩ := int_cell (hl3.below hbw) hlt
      generalize U.getD k 0 = t at *
      go_wp2
      go_quiet (fail)
      go_wp2
      go_roundw
      case rel => exact ⟨k + 1, by omega, by go_num, below_drewN hb _⟩
      case measure => simp [intOf]; omega
    · go_wp2
      go_loopw [51] (fun i wr => ∃ k : Nat, k ≤ A.length ∧ i = .int .i64 k ∧ Below W0.heap.size W0 wr) (fun i _ => A.length - (intOf i).toNat)
      case atStart => exact ⟨0, Nat.zero_le _, rfl, hb⟩
      case round =>
        clear B0' B1' B2' D0' D1' D2' hb hbw
        obtain ⟨k, hk, rfl, hb⟩ := hrel
        generalize wr = W at *
        have hbw : Below w.heap.size w W := hb0.trans (hb.mono hb0.size)
        obtain ⟨B0', B1', B2'⟩ := dob_cells ((hb.block _ (by omega)).trans P1)
        obtain ⟨D0', D1', D2'⟩ := dob_cells ((hb.block _ (by omega)).trans P2)
        by_cases hlt : k < A.length
        · have hlt' : (k : Int) < A.length := by omega
          obtain ⟨b, off, rfl, hbl, e1, e2, e3, e4⟩ := ad_cells (hl2.below hbw) hlt
          obtain ⟨b2, off2, rfl, hbl2, f1, f2, f3, f4⟩ := ad_cells (hl4.below hbw) hlt
          generalize A.getD k zA = t at *
          go_wp2
          go_quiet (fail)
          go_wp2
          go_roundw
          case rel => exact ⟨k + 1, by omega, by go_num, below_drewN hb _⟩
          case measure => simp [intOf]; omega
        · go_wp2
          go_ret
          exact ⟨rfl, hbw⟩
end Go.Proofs.Ytmhcdiimamadfab.St
