/- The walk of the document's SameRecords, at any two lists. -/
import Derived.Test.YtodkcagingnelabDyCell
import Derived.Test.YtodkcagingnelabDyMathb
namespace Go.Proofs.Ytodkcagingnelab.Dy
open Go.RowKit Go.Proofs.Ytodkcagingnelab.Gn

theorem same_len {s t : List Rc} (h : s.length ≠ t.length) : sameL s t = false := by
  cases hs : sameL s t
  · rfl
  · rw [sameL_true] at hs; rw [hs] at h; exact absurd rfl h
/-- What stands ahead of the k-th ones is the same. -/
def SameTo (s t : List Rc) (k : Nat) : Prop := sameL s t = sameL (s.drop k) (t.drop k)
theorem SameTo.next {s t : List Rc} {k : Nat} (h : SameTo s t k) (hs : k < s.length) (ht : k < t.length) (he : s.getD k zR = t.getD k zR) : SameTo s t (k + 1) := by
  unfold SameTo at *
  rw [h, drop_at hs, drop_at ht, he, sameL, (eqR_true).2 rfl, Bool.true_and]
theorem SameTo.bad {s t : List Rc} {k : Nat} (h : SameTo s t k) (hs : k < s.length) (ht : k < t.length) (he : s.getD k zR ≠ t.getD k zR) : sameL s t = false := by
  unfold SameTo at *
  rw [h, drop_at hs, drop_at ht, sameL]
  cases hq : eqR (s.getD k zR) (t.getD k zR)
  · rfl
  · exact absurd ((eqR_true).1 hq) he
theorem SameTo.done {s t : List Rc} {k : Nat} (h : SameTo s t k) (hs : s.length ≤ k) (ht : t.length ≤ k) : sameL s t = true := by
  unfold SameTo at *
  rw [h, List.drop_eq_nil_of_le hs, List.drop_eq_nil_of_le ht]; rfl
/-- The ways through a comparison of two records. -/
theorem rc_ways (x y : Rc) : (Hid (x = y) ∧ x.sh = y.sh ∧ x.au = y.au ∧ x.k = y.k ∧ x.m = y.m) ∨ (Hid (x ≠ y) ∧ ¬ (x.sh = y.sh)) ∨ (Hid (x ≠ y) ∧ x.sh = y.sh ∧ ¬ (x.au = y.au)) ∨ (Hid (x ≠ y) ∧ x.sh = y.sh ∧ x.au = y.au ∧ ¬ (x.k = y.k)) ∨ (Hid (x ≠ y) ∧ x.sh = y.sh ∧ x.au = y.au ∧ x.k = y.k ∧ ¬ (x.m = y.m)) := by
  obtain ⟨a, b, c, d⟩ := x
  obtain ⟨a', b', c', d'⟩ := y
  simp only [Hid, Rc.mk.injEq, ne_eq]
  omega

set_option maxHeartbeats 2000000 in
theorem sameAny (L M : List Rc) (v v2 : Value) (w : World) (h : At kR w v L) (h2 : At kR w v2 M) :
    Calls Try.prog 44 #[v, v2] w fun e w' => e = .returned (.bool (sameL L M)) ∧ Below w.heap.size w w' := by
  have hm := h.len
  have hm2 := h2.len
  unfold maxLen at hm hm2
  obtain ⟨a, c, rfl, hl⟩ := h
  obtain ⟨a2, c2, rfl, hl2⟩ := h2
  by_cases hlen : L.length = M.length
  case neg =>
    have hq : ((L.length : Int) != (M.length : Int)) = true := by rw [bne_iff_ne]; omega
    have hE := hid (same_len hlen)
    clear hlen
    go_enter Try.func44, Try.ntmps44
    go_wp2
    go_ret
    exact ⟨ret_bool hE.out.symm, Below.refl _ _⟩
  have hq : ((L.length : Int) != (M.length : Int)) = false := by rw [bne_eq_false_iff_eq]; omega
  have Hlen := hid hlen
  clear hlen
  go_enter Try.func44, Try.ntmps44
  go_wp2
  go_loopw [13] (fun i wr => ∃ k : Nat, k ≤ L.length ∧ i = .int .i64 k ∧ Hid (SameTo L M k) ∧ Below w.heap.size w wr) (fun i _ => L.length - (intOf i).toNat)
  case atStart => exact ⟨0, Nat.zero_le _, rfl, hid rfl, Below.refl _ _⟩
  case round =>
    obtain ⟨k, hk, rfl, hs, hb⟩ := hrel
    generalize wr = W at *
    by_cases hlt : k < L.length
    · have hlt' : (k : Int) < L.length := by omega
      have hltM : k < M.length := by have := Hlen.out; omega
      have hltM' : (k : Int) < M.length := by omega
      obtain ⟨b, off, rfl, hbl, e1, e2, e3, e4⟩ := rc_cells (hl.below hb) hlt
      obtain ⟨b2, off2, rfl, hbl2, f1, f2, f3, f4⟩ := rc_cells (hl2.below hb) hltM
      have S1 := hid (hs.out.next hlt hltM)
      have S2 := hid (hs.out.bad hlt hltM)
      generalize L.getD k zR = t at *
      generalize M.getD k zR = u at *
      rcases rc_ways t u with ⟨hE, q1, q2, q3, q4⟩ | ⟨hE, q1⟩ | ⟨hE, q1, q2⟩ | ⟨hE, q1, q2, q3⟩ | ⟨hE, q1, q2, q3, q4⟩
      case inl =>
        have S3 := hid (S1.out hE.out)
        have hE' := hE.out
        subst hE'
        clear S1 S2 q1 q2 q3 q4 hE
        go_wp2
        go_quiet (fail)
        go_wp2
        go_roundw
        case rel => exact ⟨k + 1, by omega, by go_num, S3, below_drewN hb _⟩
        case measure => simp [intOf]; omega
      all_goals
        have S3 := hid (S2.out hE.out)
        clear S1 S2 hE
        go_wp2
        go_quiet (fail)
        go_wp2
        go_ret
        exact ⟨ret_bool S3.out.symm, below_drewN hb _⟩
    · have S3 := hid (hs.out.done (by omega) (by have := Hlen.out; omega))
      go_wp2
      go_ret
      exact ⟨ret_bool S3.out.symm, hb⟩
end Go.Proofs.Ytodkcagingnelab.Dy
