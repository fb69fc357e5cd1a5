/- Sorting in place: the walk of symMerge where the second part has one element. -/
import Derived.Test.YtodkcagingnelabDyd
namespace Go.Proofs.Ytodkcagingnelab.Dy
open Go.RowKit Go.Proofs.Ytodkcagingnelab.Gn

set_option maxRecDepth 10000 in
set_option maxHeartbeats 3200000 in
theorem symRight_any (P X Q : List Rc) (y : Rc) (hX : Srt X) (g N cap a m b : Nat) (ha : a = P.length) (hm : m = a + X.length) (hm1 : 0 < X.length) (hm2 : X.length ≠ 1) (hb : b = m + 1) (w : World)
    (hN : N = (P ++ (mid X y X.length ++ Q)).length) (hN2 : N ≤ 1152921504606846976) (hB : Blo w g (P ++ (mid X y X.length ++ Q))) :
    Calls Try.prog 90 #[.slice (some ⟨g, 0, none⟩) N cap, .int .i64 a, .int .i64 m, .int .i64 b, .func (.func 73) #[] #[]] w fun e w' => e = .returned (.tuple #[]) ∧ Sorts w g (P ++ (sortR (X ++ [y]) ++ Q)) w' := by
  have hNn : P.length + X.length + 1 + Q.length = N := by rw [hN, List.length_append, List.length_append, mid_length _ _ (Nat.le_refl _)]; omega
  have HN : Hid (N = (P ++ (mid X y X.length ++ Q)).length) := hN
  have hL0 : P ++ (mid X y X.length ++ Q) = P ++ (X ++ ([y] ++ Q)) := by simp [mid]
  have hgx : (P ++ (mid X y X.length ++ Q)).getD m zR = y := mid_at P X y Q (Nat.le_refl _) (by omega)
  have hgy : ∀ h, a ≤ h → h < m → (P ++ (mid X y X.length ++ Q)).getD h zR = X.getD (h - a) zR := fun h h1 h2 => by
    rw [hL0, getD_mid P X _ (by omega) (by omega), ha]
  have Hgx := hid hgx
  have Hgy := hid hgy
  have Ha := hid ha
  have Hb := hid hb
  obtain ⟨c, hc⟩ : ∃ c : Nat, m - a = c := ⟨_, rfl⟩
  have hc1 : ((c : Int) == 1) = false := by simp; omega
  have e1 : IntKind.i64.wrap ((m : Int) - a) = c := (wrap64 (by omega) (by omega)).trans (by omega)
  have e2 : IntKind.i64.wrap ((b : Int) - m) = 1 := (wrap64 (by omega) (by omega)).trans (by omega)
  have hmN : a < m := by omega
  have hbN : m < N := by omega
  have hbb : b ≤ N := by omega
  have hm' : Hid (m = a + X.length) := hm
  clear hN hL0 hgx hgy ha hb hNn hm hm1 hm2 hc
  go_enter Try.func90, Try.ntmps90
  go_wp2
  go_loopw [14, 15] (fun i j wr => ∃ (p q : Nat), i = .int .i64 p ∧ j = .int .i64 q ∧ a ≤ p ∧ p ≤ q ∧ q ≤ m ∧ Below g w wr ∧ Hid (p = a ∨ gtB (X.getD (p - 1 - a) zR) y = false) ∧ Hid (q = m ∨ gtB (X.getD (q - a) zR) y = true) ∧ Hid (Blo wr g (P ++ (mid X y X.length ++ Q)))) (fun i j _ => (intOf j).toNat - (intOf i).toNat)
  case atStart => exact ⟨a, m, rfl, rfl, Nat.le_refl _, Nat.le_of_lt hmN, Nat.le_refl _, Below.refl _ _, Or.inl rfl, Or.inl rfl, hB⟩
  case round =>
    clear hB
    obtain ⟨p, q, rfl, rfl, h1, h2, h3, hbel, hlo, hhi, hblo⟩ := hrel
    by_cases hlt : p < q
    · have hlt' : (p : Int) < q := by omega
      obtain ⟨h, hh, hh1, hh2⟩ : ∃ h : Nat, ((p : Int) + (q : Int)) / 2 = (h : Int) ∧ p ≤ h ∧ h < q := ⟨(p + q) / 2, by omega, by omega, by omega⟩
      have hgh := Hgy.out h (by omega) (by omega)
      obtain ⟨x, hy⟩ : ∃ x, Hid (X.getD (h - a) zR = x) := ⟨_, rfl⟩
      rw [hy.out] at hgh
      have hhN : h < N := by omega
      have hsz := hblo.out.lt
      have hkeep : ∀ W : World, Below wr.heap.size wr W → W.cell? ⟨g, m * 4, none⟩ = some (.int .i64 y.sh) ∧ W.cell? ⟨g, m * 4 + 1, none⟩ = some (.int .i64 y.au) ∧ W.cell? ⟨g, m * 4 + 2, none⟩ = some (.int .i64 y.k) ∧ W.cell? ⟨g, m * 4 + 3, none⟩ = some (.int .i64 y.m) ∧ W.cell? ⟨g, h * 4, none⟩ = some (.int .i64 x.sh) ∧ W.cell? ⟨g, h * 4 + 1, none⟩ = some (.int .i64 x.au) ∧ W.cell? ⟨g, h * 4 + 2, none⟩ = some (.int .i64 x.k) ∧ W.cell? ⟨g, h * 4 + 3, none⟩ = some (.int .i64 x.m) := fun W hb => (hblo.out.below hb hsz).eight (by rw [← HN.out]; exact hbN) (by rw [← HN.out]; exact hhN) Hgx.out hgh
      obtain ⟨c1, c2, c3, c4, d1, d2, d3, d4⟩ := hkeep wr (Below.refl _ _)
      have HI1 : (h : Int) < N := by omega
      have HI2 : (m : Int) < N := by omega
      obtain ⟨o, ho⟩ : ∃ o, Hid (ordR y x = o) := ⟨_, rfl⟩
      have hord : ∀ W : World, Calls Try.prog 73 #[rv y, rv x] W fun e w' => e = .returned (.int .i64 o) ∧ Below W.heap.size W w' := fun W => by rw [← ho.out]; exact order_any y x W
      unfold rv at hord
      clear hgh
      go_upto_region 17 with fail
      try simp only [hh]
      clear hh
      go_region_held3 (fun w' => w'.cell? ⟨g, m * 4, none⟩ = some (.int .i64 y.sh) ∧ w'.cell? ⟨g, m * 4 + 1, none⟩ = some (.int .i64 y.au) ∧ w'.cell? ⟨g, m * 4 + 2, none⟩ = some (.int .i64 y.k) ∧ w'.cell? ⟨g, m * 4 + 3, none⟩ = some (.int .i64 y.m) ∧ w'.cell? ⟨g, h * 4, none⟩ = some (.int .i64 x.sh) ∧ w'.cell? ⟨g, h * 4 + 1, none⟩ = some (.int .i64 x.au) ∧ w'.cell? ⟨g, h * 4 + 2, none⟩ = some (.int .i64 x.k) ∧ w'.cell? ⟨g, h * 4 + 3, none⟩ = some (.int .i64 x.m)) (first | exact ⟨c1, c2, c3, c4, d1, d2, d3, d4⟩ | exact hkeep _ hb2)
        ((go_at_call 73; refine (hord _).mono ?_; rintro e w1 ⟨rfl, hb1⟩; have hb2 : Below wr.heap.size wr w1 := (Below.refl wr.heap.size wr).drew.trans hb1; clear hb1))
      have hB3 := hid (hblo.out.below hb2 hsz)
      have hbw : Below g w w1 := hbel.trans (hb2.mono (Nat.le_of_lt hsz))
      clear hkeep hord hb2
      by_cases ho0 : o < 0
      · have hgt : gtB x y = true := ord_neg.1 (by rw [ho.out]; exact ho0)
        have hnew : Hid (h = m ∨ gtB (X.getD (h - a) zR) y = true) := hid (Or.inr (by rw [hy.out]; exact hgt))
        have hd : decide (o < 0) = true := by simpa using ho0
        simp only [hd, Bool.not_true]
        clear hgt
        go_wp2_with fail
        go_roundw
        case rel => exact ⟨p, h, rfl, rfl, h1, hh1, by omega, hbw, hlo, hnew, hB3⟩
        case measure => simp [intOf]; omega
      · have hgt : gtB x y = false := ord_pos.1 (by rw [ho.out]; exact ho0)
        have hnew : Hid (h + 1 = a ∨ gtB (X.getD (h + 1 - 1 - a) zR) y = false) := hid (Or.inr (by rw [Nat.add_sub_cancel, hy.out]; exact hgt))
        have hd : decide (o < 0) = false := by simpa using ho0
        simp only [hd, Bool.not_false]
        clear hgt
        go_wp2_with fail
        go_roundw
        case rel => exact ⟨h + 1, q, by go_num, rfl, by omega, by omega, h3, hbw, hnew, hhi, hB3⟩
        case measure => simp [intOf]; omega
    · obtain rfl : q = p := by omega
      have hfin : X.take (q - a) ++ y :: X.drop (q - a) = sortR (X ++ [y]) := by
        refine merge_right hX (by have := hm'.out; omega) ?_ ?_
        · rcases hlo.out with h | h
          · exact Or.inl (by omega)
          · refine Or.inr ?_
            rw [show q - a - 1 = q - 1 - a by omega]; exact h
        · rcases hhi.out with h | h
          · exact Or.inl (by have := hm'.out; omega)
          · exact Or.inr h
      have Hfin := hid hfin
      have HM : ∀ p, p ≤ X.length → (P ++ (mid X y p ++ Q)).length = N := fun p hp => by
        rw [HN.out, List.length_append, List.length_append, List.length_append, List.length_append, mid_length _ _ hp, mid_length _ _ (Nat.le_refl _)]
      have HM' := hid HM
      clear hfin HM hlt hlo hhi
      go_wp2_with fail
      generalize wr = W0 at *
      go_loopw [17] (fun i wr => ∃ p : Nat, i = .int .i64 p ∧ q ≤ p ∧ p ≤ m ∧ Below g w wr ∧ Hid (Blo wr g (P ++ (mid X y (p - a) ++ Q)))) (fun i _ => (intOf i).toNat)
      case atStart => exact ⟨m, rfl, h3, Nat.le_refl _, hbel, by rw [show m - a = X.length by have := hm'.out; omega]; exact hblo⟩
      case round =>
        clear hblo hbel
        obtain ⟨p, rfl, hp1, hp2, hbel, hblo⟩ := hrel
        by_cases hlt : q < p
        · obtain ⟨r, rfl⟩ : ∃ r, p = r + 1 := ⟨p - 1, by omega⟩
          have hlt' : (q : Int) < (r : Int) + 1 := by omega
          have hpX : r - a < X.length := by have := hm'.out; omega
          rw [show r + 1 - a = r - a + 1 by omega] at hblo
          have hL := hid (HM'.out (r - a + 1) (by omega))
          have hy1 := mid_at P X y Q (p := r - a + 1) (i := r + 1) (by omega) (by have := Ha.out; omega)
          have hy2 := mid_ahead P X y Q (p := r - a) (i := r) hpX (by have := Ha.out; omega)
          have hnext := hid (swp_mid P X y Q (p := r - a) (i := r) (j := r + 1) hpX (by have := Ha.out; omega) (by have := Ha.out; omega))
          obtain ⟨x, hy⟩ : ∃ x, Hid (X.getD (r - a) zR = x) := ⟨_, rfl⟩
          rw [hy.out] at hy2
          have hpN : r + 1 < N := by omega
          have hpN' : r < N := by omega
          obtain ⟨c1, c2, c3, c4, d1, d2, d3, d4⟩ := hblo.out.eight (by rw [hL.out]; exact hpN) (by rw [hL.out]; exact hpN') hy1 hy2
          have fr := hblo.out.free
          have Hy1 := hid hy1
          have Hy2 := hid hy2
          have HI1 : (r : Int) + 1 < N := by omega
          have HI2 : (r : Int) < N := by omega
          have hW1 : IntKind.i64.wrap ((r : Int) + 1 - 1) = r := (wrap64 (by omega) (by omega)).trans (by omega)
          have hW2 : IntKind.i64.wrap (r : Int) = r := wrap64 (by omega) (by omega)
          clear hy1 hy2
          go_upto_region 23 with fail
          go_region
          have hP := hblo.out.swp (i := r + 1) (j := r) (by rw [hL.out]; exact hpN) (by rw [hL.out]; exact hpN') Hy1.out Hy2.out
          have hQ := put4_below (put4_below hbel g ((r + 1) * 4) (Nat.le_refl _) x) g (r * 4) (Nat.le_refl _) y
          rw [hnext.out] at hP
          unfold put4 at hP hQ
          go_wp2_with fail
          go_roundw
          case rel => exact ⟨r, by go_num, by omega, by omega, hQ.drew, hP.drew⟩
          case measure => simp [intOf]
        · have hlt' : ¬ ((q : Int) < (p : Int)) := by omega
          have hE : Hid (Blo wr g (P ++ (sortR (X ++ [y]) ++ Q))) := by
            have := hblo.out
            rw [show p - a = q - a by omega] at this
            unfold mid at this
            rw [Hfin.out] at this
            exact this
          go_wp2_with fail
          refine bodyPost_ret (results_none rfl _ _ _) rfl ?_
          exact ⟨rfl, hbel, hE.out⟩
end Go.Proofs.Ytodkcagingnelab.Dy
