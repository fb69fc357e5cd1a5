/- The walks of the document's sum and WrongRecords. -/
import Derived.Test.YtodkcagingnelabDyj
namespace Go.Proofs.Ytodkcagingnelab.Dy
open Go.RowKit Go.Proofs.Ytodkcagingnelab.Gn

theorem rob_cells4 {W : World} {b : Nat} {t : Rc} (hb : W.heap[b]? = some (rob t)) :
    W.cell? ⟨b, 0, none⟩ = some (.int .i64 t.sh) ∧ W.cell? ⟨b, 1, none⟩ = some (.int .i64 t.au) ∧ W.cell? ⟨b, 2, none⟩ = some (.int .i64 t.k) ∧ W.cell? ⟨b, 3, none⟩ = some (.int .i64 t.m) := by
  unfold rob at hb
  refine ⟨?_, ?_, ?_, ?_⟩ <;> simp [World.cell?, hb]
def sumB (x : Int) : Bool := decide (0 ≤ x) && decide (x ≤ 1000000)
theorem sum_any (x : Int) (w : World) : Calls Try.prog 65 #[.int .i64 x] w fun e w' => e = .returned (.bool (sumB x)) ∧ w' = w := by
  unfold sumB
  by_cases h1 : 0 ≤ x <;> by_cases h2 : x ≤ 1000000
  all_goals
    go_enter Try.func65, Try.ntmps65
    go_wp2
    go_ret
    simp [h1, h2]

set_option maxHeartbeats 4000000 in
theorem refWrong_any (L : List Rc) (v : Value) (w : World) (h : At kR w v L) :
    Calls Try.prog 43 #[v] w fun e w' => e = .returned (fv (wrongL L)) ∧ Below w.heap.size w w' := by
  have hm := h.len
  unfold maxLen at hm
  obtain ⟨a, c, rfl, hl⟩ := h
  unfold fv
  by_cases h100 : 100 < L.length
  · have HG := hid (wrong_many h100)
    have h100' : (100 : Int) < L.length := by omega
    go_enter Try.func43, Try.ntmps43
    go_wp2
    refine bodyPost_ret (v := .agg #[.int .i64 5, .int .i64 0]) (by simp [results, Try.results43, go_sem]) rfl ⟨?_, ?_⟩
    · rw [HG.out]
    · repeat (first | exact Below.refl _ _ | refine Below.setCell ?_ (by simp) _ | refine bel_alloc ?_ _)
  have h100' : (L.length : Int) ≤ 100 := by omega
  have hg0 := good_zero (l := L) (by omega)
  have b0 : Below w.heap.size w (w.alloc (.cells #[.int .i64 0, .int .i64 0] 44)) := below_alloc _ _
  have hR0 : (w.alloc (.cells #[.int .i64 0, .int .i64 0] 44)).heap[w.heap.size]? = some (.cells #[.int .i64 0, .int .i64 0] 44) := heap_alloc_at _ _ _ rfl
  go_enter Try.func43, Try.ntmps43
  go_wp2
  generalize w.alloc (.cells #[.int .i64 0, .int .i64 0] 44) = W0 at *
  go_loopw [11] (fun i wr => ∃ k : Nat, k ≤ L.length ∧ i = .int .i64 k ∧ Hid (Good L k) ∧ Below W0.heap.size W0 wr) (fun i _ => L.length - (intOf i).toNat)
  case atStart => exact ⟨0, Nat.zero_le _, rfl, hg0, Below.refl _ _⟩
  case round =>
    obtain ⟨k, hk, rfl, hg, hb⟩ := hrel
    generalize wr = W at *
    have hz := lt_of_block hR0
    have hRW := (hb.block _ hz).trans hR0
    have hbw : Below w.heap.size w W := b0.trans (hb.mono b0.size)
    by_cases hlt : k < L.length
    · have hlt' : (k : Int) < L.length := by omega
      obtain ⟨b, off, rfl, hbl, e1, e2, e3, e4⟩ := rc_cells (hl.below hbw) hlt
      have G1 := hid fun h => hg.out.bad hlt h
      have G2 := hid fun h => hg.out.next hlt h
      have Wy := wr_ways (L.getD k zR)
      generalize L.getD k zR = r at *
      obtain ⟨sh, au, kk, m⟩ := r
      dsimp only at e1 e2 e3 e4 Wy
      have hz2 : w.heap.size < W.heap.size := Nat.lt_of_lt_of_le hz hb.size
      have hb2 : Below W0.heap.size W0 (W.alloc (.cells #[.int .i64 sh, .int .i64 au, .int .i64 kk, .int .i64 m] 87)) := hb.alloc hb.size _
      have hbw2 : Below w.heap.size w (W.alloc (.cells #[.int .i64 sh, .int .i64 au, .int .i64 kk, .int .i64 m] 87)) := bel_alloc hbw _
      obtain ⟨r0, r1, f0, f1⟩ := res_cells ((heap_alloc_old W (.cells #[.int .i64 sh, .int .i64 au, .int .i64 kk, .int .i64 m] 87) hz2).trans hRW)
      have hsumt : ∀ X : World, sumB m = true → Calls Try.prog 65 #[.int .i64 m] X fun e w' => e = .returned (.bool true) ∧ w' = X := fun X h => by have := sum_any m X; rw [h] at this; exact this
      have hsumf : ∀ X : World, sumB m = false → Calls Try.prog 65 #[.int .i64 m] X fun e w' => e = .returned (.bool false) ∧ w' = X := fun X h => by have := sum_any m X; rw [h] at this; exact this
      obtain ⟨x0, x1, x2, x3⟩ := rob_cells4 (W := W.alloc (.cells #[.int .i64 sh, .int .i64 au, .int .i64 kk, .int .i64 m] 87)) (b := W.heap.size) (t := ⟨sh, au, kk, m⟩) (heap_alloc_at _ _ _ rfl)
      dsimp only at x0 x1 x2 x3
      go_upto_region 6 with fail
      generalize W.alloc (.cells #[.int .i64 sh, .int .i64 au, .int .i64 kk, .int .i64 m] 87) = W1 at *
      generalize W.heap.size = Z at *
      clear e1 e2 e3 e4
      rcases Wy with ⟨hu, h | ⟨h, h1⟩⟩ | ⟨⟨k1, k2⟩, ⟨hu, q⟩ | ⟨hu, h, h1, h2, h3, h4, h5⟩⟩
      case inr.inr =>
        have HG := hid (G2.out hu.out)
        have hs := hid (hsumt · (by unfold sumB; simp; omega))
        clear G1 G2 hsumt hsumf
        go_wp2_with (go_at_call 65; refine (hs.out _).mono ?_; rintro e w1 ⟨rfl, rfl⟩)
        go_roundw
        case rel => exact ⟨k + 1, by omega, by go_num, HG, hb2⟩
        case measure => simp [intOf]; omega
      case inr.inl =>
        have HG := hid (G1.out (by rw [hu.out]; decide))
        have hu2 := hu
        rcases q with h | ⟨h, h1⟩ | ⟨h, h1, h2⟩ | ⟨h, h1, h2, h3⟩ | ⟨h, h1, h2, h3, h4⟩ | ⟨h, h1, h2, h3, h4, h5⟩
        case inr.inr.inr.inr.inr =>
          have hs := hid (hsumf · (by unfold sumB; simp; omega))
          clear G1 G2 hsumt hsumf
          go_wp2_with (go_at_call 65; refine (hs.out _).mono ?_; rintro e w1 ⟨rfl, rfl⟩)
          refine bodyPost_ret (v := .agg #[.int .i64 3, .int .i64 k]) (by simp [results, Try.results43, go_sem, r0, r1]) rfl ⟨?_, (hbw2.setCell (Nat.le_refl _) _).setCell (Nat.le_refl _) _⟩
          rw [HG.out, hu.out]
        all_goals
          clear G1 G2 hsumt hsumf
          go_wp2_with fail
          refine bodyPost_ret (v := .agg #[.int .i64 3, .int .i64 k]) (by simp [results, Try.results43, go_sem, r0, r1]) rfl ⟨?_, (hbw2.setCell (Nat.le_refl _) _).setCell (Nat.le_refl _) _⟩
          rw [HG.out, hu.out]
      all_goals
        have HG := hid (G1.out (by rw [hu.out]; decide))
        clear G1 G2 hsumt hsumf
        go_wp2_with fail
        refine bodyPost_ret (v := .agg #[.int .i64 1, .int .i64 k]) (by simp [results, Try.results43, go_sem, r0, r1]) rfl ⟨?_, (hbw2.setCell (Nat.le_refl _) _).setCell (Nat.le_refl _) _⟩
        rw [HG.out, hu.out]
    · have HG := hid (hg.out.done (by omega))
      obtain ⟨r0, r1, f0, f1⟩ := res_cells hRW
      go_wp2
      refine bodyPost_ret (v := .agg #[.int .i64 0, .int .i64 0]) (by simp [results, Try.results43, go_sem, r0, r1]) rfl ⟨?_, (hbw.setCell (Nat.le_refl _) _).setCell (Nat.le_refl _) _⟩
      rw [HG.out]
end Go.Proofs.Ytodkcagingnelab.Dy
