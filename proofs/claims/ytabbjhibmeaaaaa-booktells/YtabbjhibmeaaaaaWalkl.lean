/- The walks of the document's Move and SameBook. -/
import Derived.Test.YtabbjhibmeaaaaaWalkk
import Derived.Test.YtabbjhibmeaaaaaWalkh
namespace Go.Proofs.Ytabbjhibmeaaaaa
open Go.RowKit

theorem refPost_any (a : Option Addr) (cap : Nat) (l : List (Int × Int)) (a2 : Option Addr) (cap2 : Nat) (E : List (Int × Int)) (w : World) (hl : Ents w a l) (hE : Ents w a2 E) :
    Calls Try.prog 11 #[.slice a l.length cap, .slice a2 E.length cap2] w fun e w' => Answers w (post l E) e w' := by
  by_cases h1 : (wrong l).1 = 0
  · by_cases h2 : 10 < E.length
    · exact refPost_many a cap l a2 cap2 E w hl h1 h2
    · exact refPost_main a cap l a2 cap2 E w hl hE h1 (by omega)
  · exact refPost_bad a cap l a2 cap2 E w hl h1

set_option maxHeartbeats 1000000 in
theorem refMove_any (a : Option Addr) (cap : Nat) (l : List (Int × Int)) (src dst sum : Int) (w : World) (hl : Ents w a l) :
    Calls Try.prog 14 #[.slice a l.length cap, .int .i64 src, .int .i64 dst, .int .i64 sum] w fun e w' => Answers w (move l src dst sum) e w' := by
  by_cases h : sum < 0 ∨ 1000000000000 < sum
  · have HM : Hid (move l src dst sum = ([], 3)) := hid (by unfold move; rw [if_pos h])
    rcases h with h | h
    · go_enter Try.func14, Try.ntmps14
      go_wp2
      go_ret2
      unfold Answers
      rw [HM.out]
      exact ⟨none, 0, rfl, ents_nil _ _, Below.refl _ _⟩
    · have h0 : 0 ≤ sum := by omega
      go_enter Try.func14, Try.ntmps14
      go_wp2
      go_ret2
      unfold Answers
      rw [HM.out]
      exact ⟨none, 0, rfl, ents_nil _ _, Below.refl _ _⟩
  · have HM : Hid (move l src dst sum = post l [(src, -sum), (dst, sum)]) := hid (by unfold move; rw [if_neg h])
    have h0 : 0 ≤ sum := by omega
    have h1 : sum ≤ 1000000000000 := by omega
    clear h
    have hb0 : ∀ o, Below w.heap.size w (w.alloc o) := fun o => (Below.refl _ _).alloc (Nat.le_refl _) o
    go_enter Try.func14, Try.ntmps14
    go_wp2_with fail
    refine (refPost_any a cap l (some ⟨w.heap.size, 0, none⟩) 2 [(src, -sum), (dst, sum)] _ (hl.below (hb0 _)) (ents_two w src (-sum) dst sum)).mono ?_
    intro e w1 hA
    obtain ⟨a1, cap1, rfl, hE1, hb1⟩ := Answers.up (hb0 _) hA
    generalize post l [(src, -sum), (dst, sum)] = r at *
    clear hA
    go_wp2
    go_ret2
    unfold Answers
    rw [HM.out]
    exact ⟨a1, cap1, rfl, hE1, hb1⟩

set_option maxHeartbeats 1000000 in
theorem same_any (a : Option Addr) (cap : Nat) (L : List (Int × Int)) (a2 : Option Addr) (cap2 : Nat) (w : World) (hl : Ents w a L) (hE : Ents w a2 L) :
    Calls Try.prog 12 #[.slice a L.length cap, .slice a2 L.length cap2] w fun e w' => e = .returned (.bool true) ∧ Below w.heap.size w w' := by
  obtain ⟨hm, hl⟩ := hl
  obtain ⟨-, hE⟩ := hE
  unfold maxLen at hm
  go_enter Try.func12, Try.ntmps12
  go_wp2
  go_loopw [13] (fun i wr => ∃ k : Nat, k ≤ L.length ∧ i = .int .i64 k ∧ Below w.heap.size w wr) (fun i _ => L.length - (intOf i).toNat)
  case atStart => exact ⟨0, Nat.zero_le _, rfl, Below.refl _ _⟩
  case round =>
    obtain ⟨k, hk, rfl, hb⟩ := hrel
    by_cases hlt : k < L.length
    · rcases hl with rfl | ⟨b, off, rfl, hbl, hcell⟩
      · simp at hlt
      rcases hE with rfl | ⟨b2, off2, rfl, hbl2, hcell2⟩
      · simp at hlt
      obtain ⟨c1, c2⟩ := hcell k hlt
      obtain ⟨c3, c4⟩ := hcell2 k hlt
      have hlt' : (k : Int) < L.length := by omega
      have e1 := (hb.cell (p := ⟨b, off + k * 2, none⟩) hbl).trans c1
      have e2 := (hb.cell (p := ⟨b, off + k * 2 + 1, none⟩) hbl).trans c2
      have e3 := (hb.cell (p := ⟨b2, off2 + k * 2, none⟩) hbl2).trans c3
      have e4 := (hb.cell (p := ⟨b2, off2 + k * 2 + 1, none⟩) hbl2).trans c4
      clear c1 c2 c3 c4 hcell hcell2
      generalize (L.getD k (0, 0)).1 = x1 at *
      generalize (L.getD k (0, 0)).2 = x2 at *
      go_wp2
      go_quiet (fail)
      go_wp2
      go_roundw
      case rel => exact ⟨k + 1, by omega, by go_num, below_drewN hb _⟩
      case measure => simp [intOf]; omega
    · go_wp2
      go_ret
      exact ⟨rfl, hb⟩
end Go.Proofs.Ytabbjhibmeaaaaa
