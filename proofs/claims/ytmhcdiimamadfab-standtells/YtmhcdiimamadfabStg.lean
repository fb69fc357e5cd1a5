/- The walk of the document's WrongStand. -/
import Derived.Test.YtmhcdiimamadfabSta
namespace Go.Proofs.Ytmhcdiimamadfab.St
open Go.RowKit Go.Proofs.Ytmhcdiimamadfab.Gn

theorem rfits_ways (a : Ad) (n : Int) :
    (a.c < 0 ∧ Hid (¬ Fits a n)) ∨ (0 ≤ a.c ∧ n ≤ a.c ∧ Hid (¬ Fits a n)) ∨ (0 ≤ a.c ∧ a.c < n ∧ a.s < 0 ∧ Hid (¬ Fits a n)) ∨ (0 ≤ a.c ∧ a.c < n ∧ 0 ≤ a.s ∧ 7 < a.s ∧ Hid (¬ Fits a n)) ∨
    (0 ≤ a.c ∧ a.c < n ∧ 0 ≤ a.s ∧ a.s ≤ 7 ∧ a.m < 1 ∧ Hid (¬ Fits a n)) ∨ (0 ≤ a.c ∧ a.c < n ∧ 0 ≤ a.s ∧ a.s ≤ 7 ∧ 1 ≤ a.m ∧ Hid (limB a.m = false) ∧ Hid (¬ Fits a n)) ∨
    (0 ≤ a.c ∧ a.c < n ∧ 0 ≤ a.s ∧ a.s ≤ 7 ∧ 1 ≤ a.m ∧ Hid (limB a.m = true) ∧ a.t < 0 ∧ Hid (¬ Fits a n)) ∨ (0 ≤ a.c ∧ a.c < n ∧ 0 ≤ a.s ∧ a.s ≤ 7 ∧ 1 ≤ a.m ∧ Hid (limB a.m = true) ∧ 0 ≤ a.t ∧ 1000000 < a.t ∧ Hid (¬ Fits a n)) ∨
    (0 ≤ a.c ∧ a.c < n ∧ 0 ≤ a.s ∧ a.s ≤ 7 ∧ 1 ≤ a.m ∧ Hid (limB a.m = true) ∧ 0 ≤ a.t ∧ a.t ≤ 1000000 ∧ Hid (Fits a n)) := by
  by_cases h1 : a.c < 0
  · exact Or.inl ⟨h1, fun h => by have := h.1; omega⟩
  by_cases h2 : n ≤ a.c
  · exact Or.inr (Or.inl ⟨by omega, h2, fun h => by have := h.2.1; omega⟩)
  by_cases h3 : a.s < 0
  · exact Or.inr (Or.inr (Or.inl ⟨by omega, by omega, h3, fun h => by have := h.2.2.1; omega⟩))
  by_cases h4 : 7 < a.s
  · exact Or.inr (Or.inr (Or.inr (Or.inl ⟨by omega, by omega, by omega, h4, fun h => by have := h.2.2.2.1; omega⟩)))
  by_cases h5 : a.m < 1
  · exact Or.inr (Or.inr (Or.inr (Or.inr (Or.inl ⟨by omega, by omega, by omega, by omega, h5, fun h => by have := h.2.2.2.2.1; omega⟩))))
  by_cases h6 : 1000000 < a.m
  · exact Or.inr (Or.inr (Or.inr (Or.inr (Or.inr (Or.inl ⟨by omega, by omega, by omega, by omega, by omega, limB_false (fun h => by have := h.2; omega), fun h => by have := h.2.2.2.2.2.1; omega⟩)))))
  have hl : Hid (limB a.m = true) := limB_true ⟨by omega, by omega⟩
  by_cases h7 : a.t < 0
  · exact Or.inr (Or.inr (Or.inr (Or.inr (Or.inr (Or.inr (Or.inl ⟨by omega, by omega, by omega, by omega, by omega, hl, h7, fun h => by have := h.2.2.2.2.2.2.1; omega⟩))))))
  by_cases h8 : 1000000 < a.t
  · exact Or.inr (Or.inr (Or.inr (Or.inr (Or.inr (Or.inr (Or.inr (Or.inl ⟨by omega, by omega, by omega, by omega, by omega, hl, by omega, h8, fun h => by have := h.2.2.2.2.2.2.2; omega⟩)))))))
  exact Or.inr (Or.inr (Or.inr (Or.inr (Or.inr (Or.inr (Or.inr (Or.inr ⟨by omega, by omega, by omega, by omega, by omega, hl, by omega, by omega, ⟨by omega, by omega, by omega, by omega, by omega, by omega, by omega, by omega⟩⟩)))))))

theorem sumOf_step {L : List Ad} {j : Nat} (hj : j < L.length) (k : Int) : sumOf k (L.take (j + 1)) = sumOf k (L.take j) + (if (L.getD j zA).c = k then (L.getD j zA).m else 0) := by
  rw [take_at hj, sumOf_append]

set_option maxHeartbeats 8000000 in
theorem refWrong_any (s : Sd) (v1 v2 : Value) (w : World) (h1 : At kI w v1 s.used) (h2 : At kA w v2 s.adv) :
    Calls Try.prog 32 #[dv s.cap v1 v2] w fun e w' => e = .returned (.int .i64 (wrongD s)) ∧ Below w.heap.size w w' := by
  have hm1 := h1.len
  have hm2 := h2.len
  unfold maxLen at hm1 hm2
  obtain ⟨a1, c1, rfl, hl1⟩ := h1
  obtain ⟨a2, c2, rfl, hl2⟩ := h2
  have b0 : Below w.heap.size w (w.alloc (dob s.cap (.slice a1 s.used.length c1) (.slice a2 s.adv.length c2))) := below_alloc _ _
  have hB : (w.alloc (dob s.cap (.slice a1 s.used.length c1) (.slice a2 s.adv.length c2))).heap[w.heap.size]? = some (dob s.cap (.slice a1 s.used.length c1) (.slice a2 s.adv.length c2)) := heap_alloc_at _ _ _ rfl
  unfold dv
  by_cases h8 : 8 < s.used.length
  · have HG := hid (wrong_many (s := s) (Or.inl h8))
    have h8' : (8 : Int) < s.used.length := by omega
    unfold dob at b0
    go_enter Try.func32, Try.ntmps32
    go_wp2
    go_ret
    exact ⟨ret_int HG.out.symm, b0⟩
  have h8' : (s.used.length : Int) ≤ 8 := by omega
  by_cases h20 : 20 < s.adv.length
  · have HG := hid (wrong_many (s := s) (Or.inr h20))
    have h20' : (20 : Int) < s.adv.length := by omega
    unfold dob at b0
    go_enter Try.func32, Try.ntmps32
    go_wp2
    go_ret
    exact ⟨ret_int HG.out.symm, b0⟩
  have h20' : (s.adv.length : Int) ≤ 20 := by omega
  have g8 : s.used.length ≤ 8 := by omega
  have g20 : s.adv.length ≤ 20 := by omega
  clear h8 h20
  by_cases hc : Lim s.cap
  case neg =>
    have HG := hid (wrong_cap g8 g20 hc)
    have HL := hid (limB_false hc)
    unfold dob at b0
    go_enter Try.func32, Try.ntmps32
    go_wp2_with (go_at_call 50; refine (sum_any _ _).mono ?_; rw [HL.out]; rintro e w' ⟨rfl, rfl⟩)
    go_ret
    exact ⟨ret_int HG.out.symm, b0⟩
  case pos =>
    have HL := hid (limB_true hc)
    have hC := hid hc
    clear hc
    unfold dob at b0 hB
    go_enter Try.func32, Try.ntmps32
    go_upto_region 1 with fail
    generalize w.alloc (.cells #[.int .i64 s.cap, .slice a1 s.used.length c1, .slice a2 s.adv.length c2] 61) = W0 at *
    obtain ⟨C0, C1, C2⟩ := dob_cells hB
    have hz := lt_of_block hB
    go_wp2_with (go_at_call 50; refine (sum_any _ _).mono ?_; rw [HL.out]; rintro e W0 ⟨rfl, rfl⟩)
    go_loopw [27] (fun i wr => ∃ k : Nat, k ≤ s.adv.length ∧ i = .int .i64 k ∧ Hid (GoodA s k) ∧ Below W0.heap.size W0 wr) (fun i _ => s.adv.length - (intOf i).toNat)
    case atStart => exact ⟨0, Nat.zero_le _, rfl, goodA_zero s, Below.refl _ _⟩
    case round =>
      obtain ⟨k, hk, rfl, hg, hb⟩ := hrel
      clear C0 C1 C2
      generalize wr = W at *
      have hbw : Below w.heap.size w W := b0.trans (hb.mono b0.size)
      have hBW := (hb.block _ hz).trans hB
      by_cases hlt : k < s.adv.length
      · have hlt' : (k : Int) < s.adv.length := by omega
        obtain ⟨b, off, rfl, hbl, e1, e2, e3, e4⟩ := ad_cells (hl2.below hbw) hlt
        have HB := hid (fun h => wrong_adv g8 g20 hC.out hlt h)
        have HN := hid (fun h => hg.out.next h)
        have hb1 := hb.alloc hb.size (aob (s.adv.getD k zA))
        have hB1 := (Below.heap_alloc W (aob (s.adv.getD k zA)) _ (lt_of_block hBW)).trans hBW
        have hA : (W.alloc (aob (s.adv.getD k zA))).heap[W.heap.size]? = some (aob (s.adv.getD k zA)) := heap_alloc_at _ _ _ rfl
        unfold aob at hb1 hA hB1
        clear hg hBW hb hbw
        generalize s.adv.getD k zA = t at *
        go_upto_region 8 with fail
        generalize W.alloc (.cells #[.int .i64 t.c, .int .i64 t.s, .int .i64 t.m, .int .i64 t.t] 63) = W1 at *
        obtain ⟨A0, A1, A2, A3⟩ := aob_cells hA
        obtain ⟨C0, C1, C2⟩ := dob_cells hB1
        have bb1 := b0.trans (hb1.mono b0.size)
        clear e1 e2 e3 e4 hA hB1
        rcases rfits_ways t s.used.length with ⟨f1, H⟩ | ⟨f1, f2, H⟩ | ⟨f1, f2, f3, H⟩ | ⟨f1, f2, f3, f4, H⟩ | ⟨f1, f2, f3, f4, f5, H⟩ | ⟨f1, f2, f3, f4, f5, f6, H⟩ | ⟨f1, f2, f3, f4, f5, f6, f7, H⟩ | ⟨f1, f2, f3, f4, f5, f6, f7, f8, H⟩ | ⟨f1, f2, f3, f4, f5, f6, f7, f8, H⟩
        · have HG := hid (HB.out H.out)
          clear HB HN H
          go_wp2
          go_ret
          exact ⟨ret_int HG.out.symm, bb1⟩
        · have HG := hid (HB.out H.out)
          clear HB HN H
          go_wp2
          go_ret
          exact ⟨ret_int HG.out.symm, bb1⟩
        · have HG := hid (HB.out H.out)
          clear HB HN H
          go_wp2
          go_ret
          exact ⟨ret_int HG.out.symm, bb1⟩
        · have HG := hid (HB.out H.out)
          clear HB HN H
          go_wp2
          go_ret
          exact ⟨ret_int HG.out.symm, bb1⟩
        · have HG := hid (HB.out H.out)
          clear HB HN H
          go_wp2
          go_ret
          exact ⟨ret_int HG.out.symm, bb1⟩
        · have HG := hid (HB.out H.out)
          clear HB HN H
          go_wp2_with (go_at_call 50; refine (sum_any _ _).mono ?_; rw [f6.out]; rintro e W1 ⟨rfl, rfl⟩)
          go_ret
          exact ⟨ret_int HG.out.symm, bb1⟩
        · have HG := hid (HB.out H.out)
          clear HB HN H
          go_wp2_with (go_at_call 50; refine (sum_any _ _).mono ?_; rw [f6.out]; rintro e W1 ⟨rfl, rfl⟩)
          go_ret
          exact ⟨ret_int HG.out.symm, bb1⟩
        · have HG := hid (HB.out H.out)
          clear HB HN H
          go_wp2_with (go_at_call 50; refine (sum_any _ _).mono ?_; rw [f6.out]; rintro e W1 ⟨rfl, rfl⟩)
          go_ret
          exact ⟨ret_int HG.out.symm, bb1⟩
        · have HN1 := hid (HN.out H.out)
          clear HB HN H
          go_wp2_with (go_at_call 50; refine (sum_any _ _).mono ?_; rw [f6.out]; rintro e W1 ⟨rfl, rfl⟩)
          go_roundw
          case rel => exact ⟨k + 1, by omega, by go_num, HN1, hb1⟩
          case measure => simp [intOf]; omega
      · have hke : k = s.adv.length := by omega
        subst hke
        obtain ⟨C0, C1, C2⟩ := dob_cells hBW
        go_wp2
        clear C0 C1 C2
        go_loopw [77] (fun i wr => ∃ j : Nat, j ≤ s.used.length ∧ i = .int .i64 j ∧ Hid (GoodU s j) ∧ Below W0.heap.size W0 wr) (fun i _ => s.used.length - (intOf i).toNat)
        case atStart => exact ⟨0, Nat.zero_le _, rfl, goodU_zero s, hb⟩
        case round =>
          clear hb hbw hBW hlt
          obtain ⟨j, hj, rfl, hu, hb⟩ := hrel
          generalize wr = W2 at *
          have hbw : Below w.heap.size w W2 := b0.trans (hb.mono b0.size)
          have hBW := (hb.block _ hz).trans hB
          by_cases hlt : j < s.used.length
          · have hlt' : (j : Int) < s.used.length := by omega
            obtain ⟨b, off, rfl, hbl, e1⟩ := int_cell (hl1.below hbw) hlt
            obtain ⟨C0, C1, C2⟩ := dob_cells hBW
            have HB := hid (fun h => wrong_fit g8 g20 hC.out hg.out hlt h)
            have HN := hid (fun h => hu.out.next (k := j) h)
            unfold Fit at HB HN
            generalize s.used.getD j 0 = x at *
            go_wp2
            clear C0 C1 C2 e1
            go_loopw [7, 85] (fun v i wr => ∃ q : Nat, q ≤ s.adv.length ∧ i = .int .i64 q ∧ v = .int .i64 (sumOf (j : Int) (s.adv.take q)) ∧ Below W0.heap.size W0 wr) (fun _ i _ => s.adv.length - (intOf i).toNat)
            case atStart => exact ⟨0, Nat.zero_le _, rfl, rfl, hb⟩
            case round =>
              clear hb hbw hBW
              obtain ⟨q, hq, rfl, rfl, hb⟩ := hrel
              generalize wr = W3 at *
              have hbw : Below w.heap.size w W3 := b0.trans (hb.mono b0.size)
              have hBW := (hb.block _ hz).trans hB
              by_cases hql : q < s.adv.length
              · have hql' : (q : Int) < s.adv.length := by omega
                obtain ⟨b3, off3, rfl, hbl3, e1, e2, e3, e4⟩ := ad_cells (hl2.below hbw) hql
                have HS := hid (sumOf_step hql (j : Int))
                obtain ⟨z1, z2⟩ := hg.out.small g20 (j : Int) q
                have hft := hg.out q hql
                have z3 := hft.2.2.2.2.1
                have z4 := hft.2.2.2.2.2.1
                clear hft
                have hb1 := hb.alloc hb.size (aob (s.adv.getD q zA))
                unfold aob at hb1
                generalize s.adv.getD q zA = t at *
                generalize sumOf (j : Int) (s.adv.take q) = y at *
                by_cases hcj : t.c = (j : Int)
                · rw [if_pos hcj] at HS
                  have hcj' : (t.c == (j : Int)) = true := by simpa using hcj
                  clear hcj
                  go_wp2
                  go_roundw
                  case rel => exact ⟨q + 1, by omega, by go_num, by rw [HS.out], hb1⟩
                  case measure => simp [intOf]; omega
                · rw [if_neg hcj] at HS
                  have hcj' : (t.c == (j : Int)) = false := by simpa using hcj
                  clear hcj
                  go_wp2
                  go_roundw
                  case rel => exact ⟨q + 1, by omega, by go_num, by rw [HS.out, Int.add_zero], hb1⟩
                  case measure => simp [intOf]; omega
              · have hqe : q = s.adv.length := by omega
                subst hqe
                rw [List.take_length]
                obtain ⟨C0, C1, C2⟩ := dob_cells hBW
                generalize sumOf (j : Int) s.adv = y at *
                by_cases hxy : x = y
                · subst hxy
                  by_cases hcap : x ≤ s.cap
                  · have HN1 := hid (HN.out ⟨rfl, hcap⟩)
                    clear HB HN
                    go_wp2
                    go_roundw
                    case rel => exact ⟨j + 1, by omega, by go_num, HN1, hb⟩
                    case measure => simp [intOf]; omega
                  · have HG := hid (HB.out (fun h => hcap h.2))
                    have hcap' : s.cap < x := by omega
                    clear HB HN hcap
                    go_wp2
                    go_ret
                    exact ⟨ret_int HG.out.symm, hbw⟩
                · have HG := hid (HB.out (fun h => hxy h.1))
                  have hne : (x != y) = true := by simpa using hxy
                  clear HB HN hxy
                  go_wp2
                  go_ret
                  exact ⟨ret_int HG.out.symm, hbw⟩
          · have hje : j = s.used.length := by omega
            subst hje
            have HG := hid (wrong_none g8 g20 hC.out hg.out hu.out)
            go_wp2
            go_ret
            exact ⟨ret_int HG.out.symm, hbw⟩
end Go.Proofs.Ytmhcdiimamadfab.St
