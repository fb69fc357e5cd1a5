/- The walk of the closed fact that is asked first. -/
import Derived.Test.YtmhcdiimamadfabStd
namespace Go.Proofs.Ytmhcdiimamadfab.St
open Go.RowKit Go.Proofs.Ytmhcdiimamadfab.Gn

def s0 : Sd := ⟨100, [0, 0], []⟩
def s1 : Sd := ⟨100, [0, 70], [⟨1, 0, 70, 0⟩]⟩
theorem alive1 : newD 100 2 = (s0, 0) := by rw [new_ok (by omega) ⟨by omega, by omega⟩]; rfl
theorem right0 : Right s0 := new_right (n := 2) (by omega) ⟨by omega, by omega⟩
theorem fits0 : Fits ⟨1, 0, 70, 0⟩ s0.used.length := by unfold Fits s0; simp
theorem few0 : s0.adv.length ≠ 20 := by unfold s0; simp
theorem cap0 : ¬ s0.cap < s0.used.getD (Int.toNat 1) 0 + 70 := by unfold s0; simp
theorem alive2 : giveD s0 ⟨1, 0, 70, 0⟩ = (s1, 0) := (give_ok right0.wrong few0 fits0 cap0).trans rfl
theorem right1 : Right s1 := right0.more few0 fits0 cap0
theorem alive3 : giveD s1 ⟨1, 0, 31, 0⟩ = (zD, 10) := give_funds right1.wrong (by unfold s1; simp) (by unfold Fits s1; simp) (by unfold s1; simp)
theorem s1_len : s1.used.length = 2 := rfl
theorem s1_one : s1.used.getD 1 0 = 70 := rfl

set_option maxHeartbeats 2000000 in
theorem alive_any (w : World) :
    Calls Try.prog 36 #[] w fun e w' => e = .returned (.bool true) ∧ Below w.heap.size w w' := by
  have H1 := hid alive1
  have H2 := hid alive2
  have H3 := hid alive3
  go_enter Try.func36, Try.ntmps36
  go_wp2_with fail
  refine (new_any 100 2 _).mono ?_
  rw [H1.out]
  rintro e w1 ⟨v1, v2, rfl, r1, r2, hb1⟩
  obtain ⟨a1, c1, rfl, -, -⟩ := row_at r1
  obtain ⟨a2, c2, rfl, -, -⟩ := row_at r2
  dsimp only [dv] at r1 r2 ⊢
  have k1 := Row.at r1
  have k2 := Row.at r2
  clear r1 r2
  have hb2 := hb1.alloc hb1.size (dob s0.cap (.slice a1 s0.used.length c1) (.slice a2 s0.adv.length c2))
  have hS : (w1.alloc (dob s0.cap (.slice a1 s0.used.length c1) (.slice a2 s0.adv.length c2))).heap[w1.heap.size]? = some (dob s0.cap (.slice a1 s0.used.length c1) (.slice a2 s0.adv.length c2)) := heap_alloc_at _ _ _ rfl
  have k3 := k1.below (below_alloc w1 (dob s0.cap (.slice a1 s0.used.length c1) (.slice a2 s0.adv.length c2)))
  have k4 := k2.below (below_alloc w1 (dob s0.cap (.slice a1 s0.used.length c1) (.slice a2 s0.adv.length c2)))
  unfold dob at hb2 hS k3 k4
  clear k1 k2 hb1
  go_upto_region 2 with fail
  generalize w1.alloc (.cells #[.int .i64 s0.cap, .slice a1 s0.used.length c1, .slice a2 s0.adv.length c2] 61) = W1 at *
  obtain ⟨C0, C1, C2⟩ := dob_cells hS
  go_wp2_with fail
  refine (give_any s0 _ _ ⟨1, 0, 70, 0⟩ _ k3 k4).mono ?_
  rw [H2.out]
  rintro e w2 ⟨v1, v2, rfl, r1, r2, hb3⟩
  obtain ⟨b1, d1, rfl, -, -⟩ := row_at r1
  obtain ⟨b2, d2, rfl, -, -⟩ := row_at r2
  dsimp only [dv] at r1 r2 ⊢
  have k1 := Row.at r1
  have k2 := Row.at r2
  have hb4 := hb2.trans (hb3.mono hb2.size)
  clear r1 r2 hb3 hb2 C0 C1 C2 hS k3 k4
  have hb5 := hb4.alloc hb4.size (dob s1.cap (.slice b1 s1.used.length d1) (.slice b2 s1.adv.length d2))
  have hS : (w2.alloc (dob s1.cap (.slice b1 s1.used.length d1) (.slice b2 s1.adv.length d2))).heap[w2.heap.size]? = some (dob s1.cap (.slice b1 s1.used.length d1) (.slice b2 s1.adv.length d2)) := heap_alloc_at _ _ _ rfl
  have k3 := k1.below (below_alloc w2 (dob s1.cap (.slice b1 s1.used.length d1) (.slice b2 s1.adv.length d2)))
  have k4 := k2.below (below_alloc w2 (dob s1.cap (.slice b1 s1.used.length d1) (.slice b2 s1.adv.length d2)))
  unfold dob at hb5 hS k3 k4
  clear k1 k2 hb4
  go_upto_region 3 with fail
  generalize w2.alloc (.cells #[.int .i64 s1.cap, .slice b1 s1.used.length d1, .slice b2 s1.adv.length d2] 61) = W2 at *
  obtain ⟨C0, C1, C2⟩ := dob_cells hS
  go_wp2_with fail
  refine (give_any s1 _ _ ⟨1, 0, 31, 0⟩ _ k3 k4).mono ?_
  rw [H3.out]
  rintro e w3 ⟨v1, v2, rfl, r1, r2, hb6⟩
  obtain ⟨e1, f1, rfl, -, -⟩ := row_at r1
  obtain ⟨e2, f2, rfl, -, -⟩ := row_at r2
  dsimp only [dv] at r1 r2 ⊢
  have hb7 := hb5.trans (hb6.mono hb5.size)
  have hS3 := (hb6.block _ (lt_of_block hS)).trans hS
  have k5 := k3.below hb6
  have hlt := lt_of_block hS3
  clear r1 r2 C0 C1 C2 hS k3 k4 hb6 hb5
  obtain ⟨g1, g2, hg, hl⟩ := k5
  obtain ⟨rfl, -, rfl⟩ := Value.slice.inj hg
  obtain ⟨b, off, rfl, hbl, x1⟩ := int_cell (i := 1) hl (by rw [s1_len]; omega)
  rw [s1_one] at x1
  obtain ⟨C0, C1, C2⟩ := dob_cells hS3
  rw [s1_len] at C1
  have C1' : ∀ o, (w3.alloc o).cell? ⟨w2.heap.size, 1, none⟩ = some (.slice (some ⟨b, off, none⟩) 2 d1) := fun o => (World.cell?_alloc_past _ _ _ hlt).trans C1
  have x1' : ∀ o, (w3.alloc o).cell? ⟨b, off + 1, none⟩ = some (.int .i64 70) := fun o => (World.cell?_alloc_past _ _ _ hbl).trans x1
  clear hg hl hS3
  go_wp2
  go_ret
  exact ⟨rfl, hb7.alloc hb7.size _⟩
end Go.Proofs.Ytmhcdiimamadfab.St
