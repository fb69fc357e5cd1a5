/- The walks of Move and of what is asked first. -/
import Derived.Test.YtabbjhibmeaaaaaWalkg
import Derived.Test.YtabbjhibmeaaaaaWalkb
namespace Go.Proofs.Ytabbjhibmeaaaaa
open Go.RowKit

def move (l : List (Int × Int)) (src dst sum : Int) : List (Int × Int) × Int :=
  if sum < 0 ∨ 1000000000000 < sum then ([], 3) else post l [(src, -sum), (dst, sum)]

theorem ents_two (w : World) (x y z u : Int) : Ents (w.alloc (.cells #[.int .i64 x, .int .i64 y, .int .i64 z, .int .i64 u] 35)) (some ⟨w.heap.size, 0, none⟩) [(x, y), (z, u)] := by
  refine ⟨by simp [maxLen], Or.inr ⟨w.heap.size, 0, rfl, by simp, fun i hi => ?_⟩⟩
  rw [World.cell?_alloc_at _ _ _ _ rfl, World.cell?_alloc_at _ _ _ _ rfl]
  match i, hi with
  | 0, _ => exact ⟨rfl, rfl⟩
  | 1, _ => exact ⟨rfl, rfl⟩

theorem Answers.up {w w1 w' : World} {r : List (Int × Int) × Int} {e : Ending} (hb : Below w.heap.size w w1) (h : Answers w1 r e w') : Answers w r e w' := by
  obtain ⟨a, cap, he, hE, hb'⟩ := h
  exact ⟨a, cap, he, hE, hb.trans (hb'.mono hb.size)⟩

set_option maxHeartbeats 1000000 in
theorem move_any (a : Option Addr) (cap : Nat) (l : List (Int × Int)) (src dst sum : Int) (w : World) (hl : Ents w a l) :
    Calls Try.prog 13 #[.slice a l.length cap, .int .i64 src, .int .i64 dst, .int .i64 sum] w fun e w' => Answers w (move l src dst sum) e w' := by
  by_cases h : sum < 0 ∨ 1000000000000 < sum
  · have HM : Hid (move l src dst sum = ([], 3)) := hid (by unfold move; rw [if_pos h])
    rcases h with h | h
    · go_enter Try.func13, Try.ntmps13
      go_wp2
      go_ret2
      unfold Answers
      rw [HM.out]
      exact ⟨none, 0, rfl, ents_nil _ _, Below.refl _ _⟩
    · have h0 : 0 ≤ sum := by omega
      go_enter Try.func13, Try.ntmps13
      go_wp2
      go_ret2
      unfold Answers
      rw [HM.out]
      exact ⟨none, 0, rfl, ents_nil _ _, Below.refl _ _⟩
  · have HM : Hid (move l src dst sum = post l [(src, -sum), (dst, sum)]) := hid (by unfold move; rw [if_neg h])
    have h0 : 0 ≤ sum := by omega
    have h1 : sum ≤ 1000000000000 := by omega
    clear h
    have hb0 : ∀ o, Below w.heap.size w (w.alloc o) := fun o => (Below.refl _ _).alloc (Nat.le_refl _) o
    go_enter Try.func13, Try.ntmps13
    go_wp2_with fail
    refine (post_any a cap l (some ⟨w.heap.size, 0, none⟩) 2 [(src, -sum), (dst, sum)] _ (hl.below (hb0 _)) (ents_two w src (-sum) dst sum)).mono ?_
    intro e w1 hA
    obtain ⟨a1, cap1, rfl, hE1, hb1⟩ := Answers.up (hb0 _) hA
    generalize post l [(src, -sum), (dst, sum)] = r at *
    clear hA
    go_wp2
    go_ret2
    unfold Answers
    rw [HM.out]
    exact ⟨a1, cap1, rfl, hE1, hb1⟩

theorem move_first : move [] 0 10 50 = ([(0, -50), (10, 50)], 0) := by kernel_rfl
theorem get_first : getE [(0, -50), (10, 50)] 10 = 50 := by kernel_rfl
theorem get_second : getE [(0, -50), (10, 50)] 0 = -50 := by kernel_rfl
theorem wrong_first : wrong [(0, -50), (10, 50)] = (0, 0) := by kernel_rfl

theorem field25 (x y : Int) (w : World) : (Instr.field 25 (.agg #[.int .i64 x, .int .i64 y]) 0).run Try.prog w = .ok (.int .i64 x) w := by kernel_rfl

set_option maxHeartbeats 1000000 in
theorem alive_any (w : World) : Calls Try.prog 15 #[] w fun e w' => e = .returned (.bool true) ∧ Below w.heap.size w w' := by
  have hfd := field25
  go_enter Try.func15, Try.ntmps15
  go_wp2_with fail
  refine (move_any none 0 [] 0 10 50 w (ents_nil _ _)).mono ?_
  intro e w1 hA
  rw [move_first] at hA
  obtain ⟨a1, cap1, rfl, hE1, hb1⟩ := hA
  go_wp2_with fail
  refine (get_any a1 cap1 [(0, -50), (10, 50)] 10 w1 hE1).mono ?_
  rintro e w2 ⟨rfl, hb2⟩
  rw [get_first]
  have hE2 := hE1.below hb2
  have hb12 := hb1.trans (hb2.mono hb1.size)
  go_wp2_with fail
  refine (get_any a1 cap1 [(0, -50), (10, 50)] 0 w2 hE2).mono ?_
  rintro e w3 ⟨rfl, hb3⟩
  rw [get_second]
  have hE3 := hE2.below hb3
  have hb13 := hb12.trans (hb3.mono hb12.size)
  go_wp2_with fail
  refine (wrong_any a1 cap1 [(0, -50), (10, 50)] w3 hE3).mono ?_
  rintro e w4 ⟨rfl, hb4⟩
  rw [wrong_first]
  go_wp2
  go_ret
  exact ⟨rfl, hb13.trans (hb4.mono hb13.size)⟩
end Go.Proofs.Ytabbjhibmeaaaaa
