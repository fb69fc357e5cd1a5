/- The walks of given and of Wrong. -/
import Derived.Test.YtmhcdiimamadfabStb
namespace Go.Proofs.Ytmhcdiimamadfab.St
open Go.RowKit Go.Proofs.Ytmhcdiimamadfab.Gn

theorem sums_step {n : Nat} {L : List Ad} {k : Nat} (hk : k < L.length) {j : Nat} (hj : (L.getD k zA).c = (j : Int)) (x : Int) (hx : x = sumOf (j : Int) (L.take k)) :
    (sums n (L.take k)).set j (x + (L.getD k zA).m) = sums n (L.take (k + 1)) := by
  rw [take_at hk, ← sums_more n (L.take k) (L.getD k zA) (by omega), hx, hj]
  simp

set_option maxHeartbeats 2000000 in
theorem given_any (s : Sd) (v1 v2 : Value) (w : World) (h1 : At kI w v1 s.used) (h2 : At kA w v2 s.adv) (hu : s.used.length ≤ 8) (ha : s.adv.length ≤ 20) (hg : GoodA s s.adv.length) :
    Calls Try.prog 52 #[dv s.cap v1 v2] w fun e w' => ∃ b, e = .returned (.slice (some ⟨b, 0, none⟩) s.used.length s.used.length) ∧ w.heap.size ≤ b ∧ Ints w' 3 b (sums s.used.length s.adv) ∧ Below w.heap.size w w' := by
  obtain ⟨a1, c1, rfl, hl1⟩ := h1
  obtain ⟨a2, c2, rfl, hl2⟩ := h2
  have hmk := make_ints s.used.length (by omega)
  have hI0 := ints_made (w.alloc (dob s.cap (.slice a1 s.used.length c1) (.slice a2 s.adv.length c2))) 3 s.used.length
  have hb0 : Below w.heap.size w ((w.alloc (dob s.cap (.slice a1 s.used.length c1) (.slice a2 s.adv.length c2))).alloc (.cells (madeCells #[.int .i64 0] s.used.length) 3)) := (below_alloc _ _).alloc (by simp) _
  have hB : ((w.alloc (dob s.cap (.slice a1 s.used.length c1) (.slice a2 s.adv.length c2))).alloc (.cells (madeCells #[.int .i64 0] s.used.length) 3)).heap[w.heap.size]? = some (dob s.cap (.slice a1 s.used.length c1) (.slice a2 s.adv.length c2)) := by rw [Below.heap_alloc _ _ _ (by simp), heap_alloc_at _ _ _ rfl]
  have hbk : (w.alloc (dob s.cap (.slice a1 s.used.length c1) (.slice a2 s.adv.length c2))).heap.size = w.heap.size + 1 := by simp
  rw [hbk] at hI0
  clear hbk
  rw [← sums_nil] at hI0
  unfold dob at hI0 hb0 hB
  unfold dv
  go_enter Try.func52, Try.ntmps52
  go_upto_region 2 with fail
  generalize (w.alloc (.cells #[.int .i64 s.cap, .slice a1 s.used.length c1, .slice a2 s.adv.length c2] 61)).alloc (.cells (madeCells #[.int .i64 0] s.used.length) 3) = W0 at *
  obtain ⟨C0, C1, C2⟩ := dob_cells hB
  clear hmk
  go_wp2
  clear C0 C1 C2 hB
  go_loopw [13] (fun i wr => ∃ k : Nat, k ≤ s.adv.length ∧ i = .int .i64 k ∧ Ints wr 3 (w.heap.size + 1) (sums s.used.length (s.adv.take k)) ∧ Below w.heap.size w wr) (fun i _ => s.adv.length - (intOf i).toNat)
  case atStart => exact ⟨0, Nat.zero_le _, rfl, by simpa using hI0, hb0⟩
  case round =>
    obtain ⟨k, hk, rfl, hI, hb⟩ := hrel
    clear hI0 hb0
    generalize wr = W at *
    by_cases hlt : k < s.adv.length
    · have hlt' : (k : Int) < s.adv.length := by omega
      obtain ⟨b, off, rfl, hbl, e1, e2, e3, e4⟩ := ad_cells (hl2.below hb) hlt
      obtain ⟨f1, f2, f3, f4, f5, f6, f7, f8⟩ := hg k hlt
      obtain ⟨j, hj⟩ : ∃ j : Nat, (s.adv.getD k zA).c = (j : Int) := ⟨_, (Int.toNat_of_nonneg f1).symm⟩
      have hjn : j < s.used.length := by omega
      have hjn' : (j : Int) < s.used.length := by omega
      have HS := hid (fun x hx => sums_step (n := s.used.length) hlt hj x hx)
      obtain ⟨q1, q2⟩ := hg.small ha (j : Int) k
      have hsj := sums_getD s.used.length (s.adv.take k) hjn
      rw [hj] at e1
      have hI1 := hI.alloc (aob (s.adv.getD k zA))
      have hb1 := hb.alloc hb.size (aob (s.adv.getD k zA))
      have hA : (W.alloc (aob (s.adv.getD k zA))).heap[W.heap.size]? = some (aob (s.adv.getD k zA)) := heap_alloc_at _ _ _ rfl
      have hWs := hI.lt
      unfold aob at hI1 hb1 hA
      rw [hj] at hI1 hb1 hA
      generalize (s.adv.getD k zA).m = m at *
      generalize (s.adv.getD k zA).s = sh at *
      generalize (s.adv.getD k zA).t = ti at *
      clear hI
      go_upto_region 5 with fail
      clear e1 e2 e3 e4 hb
      generalize W.alloc (.cells #[.int .i64 j, .int .i64 sh, .int .i64 m, .int .i64 ti] 63) = W1 at *
      obtain ⟨A0, A1, A2, A3⟩ := aob_cells (t := ⟨j, sh, m, ti⟩) hA
      dsimp only at A0 A1 A2 A3
      have I0 := hI1.cell (i := j) (by rw [sums_length]; exact hjn)
      have I1 := hI1.free j
      rw [hsj] at I0
      clear hsj
      have HS1 := hid (HS.out _ rfl)
      clear HS
      generalize sumOf (j : Int) (s.adv.take k) = x at *
      generalize W.heap.size = Z at *
      go_region
      all_goals
        go_wp2
        go_roundw
        case rel => exact ⟨k + 1, by omega, by go_num, by rw [← HS1.out]; exact hI1.set j (x + m), (hb1.setCell (by simp) _).drew⟩
        case measure => simp [intOf]; omega
    · have hke : k = s.adv.length := by omega
      subst hke
      rw [List.take_length] at hI
      go_wp2
      go_ret
      exact ⟨w.heap.size + 1, rfl, by omega, hI, hb⟩

set_option maxHeartbeats 4000000 in
theorem wrong_any (s : Sd) (v1 v2 : Value) (w : World) (h1 : At kI w v1 s.used) (h2 : At kA w v2 s.adv) :
    Calls Try.prog 31 #[dv s.cap v1 v2] w fun e w' => e = .returned (.int .i64 (wrongD s)) ∧ Below w.heap.size w w' := by
  have hm1 := h1.len
  have hm2 := h2.len
  unfold maxLen at hm1 hm2
  have hh1 := h1
  have hh2 := h2
  obtain ⟨a1, c1, rfl, hl1⟩ := h1
  obtain ⟨a2, c2, rfl, hl2⟩ := h2
  have b0 : Below w.heap.size w (w.alloc (dob s.cap (.slice a1 s.used.length c1) (.slice a2 s.adv.length c2))) := below_alloc _ _
  have hB : (w.alloc (dob s.cap (.slice a1 s.used.length c1) (.slice a2 s.adv.length c2))).heap[w.heap.size]? = some (dob s.cap (.slice a1 s.used.length c1) (.slice a2 s.adv.length c2)) := heap_alloc_at _ _ _ rfl
  unfold dv
  by_cases h8 : 8 < s.used.length
  · have HG := hid (wrong_many (s := s) (Or.inl h8))
    have h8' : (8 : Int) < s.used.length := by omega
    unfold dob at b0
    go_enter Try.func31, Try.ntmps31
    go_wp2
    go_ret
    exact ⟨ret_int HG.out.symm, b0⟩
  have h8' : (s.used.length : Int) ≤ 8 := by omega
  by_cases h20 : 20 < s.adv.length
  · have HG := hid (wrong_many (s := s) (Or.inr h20))
    have h20' : (20 : Int) < s.adv.length := by omega
    unfold dob at b0
    go_enter Try.func31, Try.ntmps31
    go_wp2
    go_ret
    exact ⟨ret_int HG.out.symm, b0⟩
  have h20' : (s.adv.length : Int) ≤ 20 := by omega
  have g8 : s.used.length ≤ 8 := by omega
  have g20 : s.adv.length ≤ 20 := by omega
  clear h8 h20
  by_cases hc : Lim s.cap
  case neg =>
    have HG := hid (wrong_cap g8 g20 hc)
    have HL := hid (limB_false hc)
    unfold dob at b0
    go_enter Try.func31, Try.ntmps31
    go_wp2_with (go_at_call 49; refine (isLimit_any _ _).mono ?_; rw [HL.out]; rintro e w' ⟨rfl, rfl⟩)
    go_ret
    exact ⟨ret_int HG.out.symm, b0⟩
  case pos =>
    have HL := hid (limB_true hc)
    have hC := hid hc
    clear hc
    unfold dob at b0 hB
    go_enter Try.func31, Try.ntmps31
    go_upto_region 1 with fail
    generalize w.alloc (.cells #[.int .i64 s.cap, .slice a1 s.used.length c1, .slice a2 s.adv.length c2] 61) = W0 at *
    obtain ⟨C0, C1, C2⟩ := dob_cells hB
    have hz := lt_of_block hB
    go_wp2_with (go_at_call 49; refine (isLimit_any _ _).mono ?_; rw [HL.out]; rintro e W0 ⟨rfl, rfl⟩)
    go_loopw [24] (fun i wr => ∃ k : Nat, k ≤ s.adv.length ∧ i = .int .i64 k ∧ Hid (GoodA s k) ∧ Below W0.heap.size W0 wr) (fun i _ => s.adv.length - (intOf i).toNat)
    case atStart => exact ⟨0, Nat.zero_le _, rfl, goodA_zero s, Below.refl _ _⟩
    case round =>
      obtain ⟨k, hk, rfl, hg, hb⟩ := hrel
      clear C0 C1 C2
      generalize wr = W at *
      have hbw : Below w.heap.size w W := b0.trans (hb.mono b0.size)
      have hBW := (hb.block _ hz).trans hB
      by_cases hlt : k < s.adv.length
      · have hlt' : (k : Int) < s.adv.length := by omega
        obtain ⟨b, off, rfl, hbl, e1, e2, e3, e4⟩ := ad_cells (hl2.below hbw) hlt
        have HB := hid (fun h => wrong_adv g8 g20 hC.out hlt h)
        have HN := hid (fun h => hg.out.next h)
        have hb1 := hb.alloc hb.size (aob (s.adv.getD k zA))
        have hB1 := (Below.heap_alloc W (aob (s.adv.getD k zA)) _ (lt_of_block hBW)).trans hBW
        have hA : (W.alloc (aob (s.adv.getD k zA))).heap[W.heap.size]? = some (aob (s.adv.getD k zA)) := heap_alloc_at _ _ _ rfl
        unfold aob at hb1 hA hB1
        clear hg hBW hb hbw
        generalize s.adv.getD k zA = t at *
        go_upto_region 8 with fail
        generalize W.alloc (.cells #[.int .i64 t.c, .int .i64 t.s, .int .i64 t.m, .int .i64 t.t] 63) = W1 at *
        obtain ⟨A0, A1, A2, A3⟩ := aob_cells hA
        obtain ⟨C0, C1, C2⟩ := dob_cells hB1
        clear e1 e2 e3 e4
        by_cases hf : Fits t s.used.length
        · have HF := hid (fitsB_true hf)
          have HN1 := hid (HN.out hf)
          clear hf HB HN
          go_wp2_with (go_at_call 51; refine (isAdvice_any t _ _).mono ?_; rw [HF.out]; rintro e w' ⟨rfl, hb2⟩)
          go_roundw
          case rel => exact ⟨k + 1, by omega, by go_num, HN1, hb1.trans (hb2.mono hb1.size)⟩
          case measure => simp [intOf]; omega
        · have HF := hid (fitsB_false hf)
          have HG := hid (HB.out hf)
          clear hf HB HN
          go_wp2_with (go_at_call 51; refine (isAdvice_any t _ _).mono ?_; rw [HF.out]; rintro e w' ⟨rfl, hb2⟩)
          go_ret
          have hb3 := hb1.trans (hb2.mono hb1.size)
          exact ⟨ret_int HG.out.symm, b0.trans (hb3.mono b0.size)⟩
      · have hke : k = s.adv.length := by omega
        subst hke
        obtain ⟨C0, C1, C2⟩ := dob_cells hBW
        go_wp2_with fail
        refine (given_any s _ _ _ (hh1.below hbw) (hh2.below hbw) g8 g20 hg.out).mono ?_
        rintro e w3 ⟨S, rfl, hS, hI, hb3⟩
        have hb4 := hb.trans (hb3.mono hb.size)
        have hB4 := (hb3.block _ (lt_of_block hBW)).trans hBW
        have bw4 := hbw.trans (hb3.mono hbw.size)
        clear C0 C1 C2 hBW hb hbw hb3
        obtain ⟨C0, C1, C2⟩ := dob_cells hB4
        go_wp2
        go_loopw [38] (fun i wr => ∃ j : Nat, j ≤ s.used.length ∧ i = .int .i64 j ∧ Hid (GoodU s j) ∧ wr = w3) (fun i _ => s.used.length - (intOf i).toNat)
        case atStart => exact ⟨0, Nat.zero_le _, rfl, goodU_zero s, rfl⟩
        case round =>
          obtain ⟨j, hj, rfl, hu, rfl⟩ := hrel
          generalize wr = W at *
          by_cases hlt : j < s.used.length
          · have hlt' : (j : Int) < s.used.length := by omega
            obtain ⟨b, off, rfl, hbl, e1⟩ := int_cell (hl1.below bw4) hlt
            have I0 := hI.cell (i := j) (by rw [sums_length]; exact hlt)
            rw [sums_getD _ _ hlt] at I0
            have HB := hid (fun h => wrong_fit g8 g20 hC.out hg.out hlt h)
            have HN := hid (fun h => hu.out.next (k := j) h)
            unfold Fit at HB HN
            generalize s.used.getD j 0 = x at *
            generalize sumOf (j : Int) s.adv = y at *
            by_cases hxy : x = y
            · subst hxy
              by_cases hcap : x ≤ s.cap
              · have HN1 := hid (HN.out ⟨rfl, hcap⟩)
                clear HB HN
                go_wp2
                go_roundw
                case rel => exact ⟨j + 1, by omega, by go_num, HN1, trivial⟩
                case measure => simp [intOf]; omega
              · have HG := hid (HB.out (fun h => hcap h.2))
                have hcap' : s.cap < x := by omega
                clear HB HN hcap
                go_wp2
                go_ret
                exact ⟨ret_int HG.out.symm, bw4⟩
            · have HG := hid (HB.out (fun h => hxy h.1))
              have hne : (x != y) = true := by simpa using hxy
              clear HB HN hxy
              go_wp2
              go_ret
              exact ⟨ret_int HG.out.symm, bw4⟩
          · have hje : j = s.used.length := by omega
            subst hje
            have HG := hid (wrong_none g8 g20 hC.out hg.out hu.out)
            go_wp2
            go_ret
            exact ⟨ret_int HG.out.symm, bw4⟩
end Go.Proofs.Ytmhcdiimamadfab.St
