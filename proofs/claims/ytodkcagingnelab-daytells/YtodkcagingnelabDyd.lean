/- Sorting in place: the walk of symMerge where one side has one element. -/
import Derived.Test.YtodkcagingnelabDyc
namespace Go.Proofs.Ytodkcagingnelab.Dy
open Go.RowKit Go.Proofs.Ytodkcagingnelab.Gn

theorem Blo.eight {w : World} {g : Nat} {L : List Rc} (h : Blo w g L) {i j : Nat} {x y : Rc} (hi : i < L.length) (hj : j < L.length) (hx : L.getD i zR = x) (hy : L.getD j zR = y) :
    w.cell? ⟨g, i * 4, none⟩ = some (.int .i64 x.sh) ∧ w.cell? ⟨g, i * 4 + 1, none⟩ = some (.int .i64 x.au) ∧ w.cell? ⟨g, i * 4 + 2, none⟩ = some (.int .i64 x.k) ∧ w.cell? ⟨g, i * 4 + 3, none⟩ = some (.int .i64 x.m) ∧ w.cell? ⟨g, j * 4, none⟩ = some (.int .i64 y.sh) ∧ w.cell? ⟨g, j * 4 + 1, none⟩ = some (.int .i64 y.au) ∧ w.cell? ⟨g, j * 4 + 2, none⟩ = some (.int .i64 y.k) ∧ w.cell? ⟨g, j * 4 + 3, none⟩ = some (.int .i64 y.m) := by
  subst hx hy
  obtain ⟨c1, c2, c3, c4⟩ := h.cells hi
  obtain ⟨d1, d2, d3, d4⟩ := h.cells hj
  exact ⟨c1, c2, c3, c4, d1, d2, d3, d4⟩
theorem swp_mid' (P S : List Rc) (x : Rc) (Q : List Rc) {p i j : Nat} (h : p < S.length) (hi : i = P.length + p) (hj : j = P.length + p + 1) : swp (P ++ (mid S x p ++ Q)) i j = P ++ (mid S x (p + 1) ++ Q) := by
  rw [mid_split S x h, mid_split' S x h]
  have e : ∀ y z : Rc, P ++ ((S.take p ++ y :: z :: S.drop (p + 1)) ++ Q) = (P ++ S.take p) ++ y :: z :: (S.drop (p + 1) ++ Q) := fun y z => by simp
  rw [e, e]
  exact swp_two _ _ [] _ _ (by simp; omega) (by simp; omega)
theorem mid_next (P S : List Rc) (x : Rc) (Q : List Rc) {p i : Nat} (h : p < S.length) (hi : i = P.length + p + 1) : (P ++ (mid S x p ++ Q)).getD i zR = S.getD p zR := by
  have e : P ++ (mid S x p ++ Q) = (P ++ S.take p ++ [x]) ++ S.getD p zR :: (S.drop (p + 1) ++ Q) := by rw [mid_split' S x h]; simp
  rw [e]; exact getD_app' (by simp; omega) _ _
theorem getD_mid (P Y Q : List Rc) {i : Nat} (h1 : P.length ≤ i) (h2 : i < P.length + Y.length) : (P ++ (Y ++ Q)).getD i zR = Y.getD (i - P.length) zR := by
  simp only [List.getD]
  rw [List.getElem?_append_right h1, List.getElem?_append_left (by omega)]
theorem half {i j : Nat} (h : i < j) : i ≤ (i + j) / 2 ∧ (i + j) / 2 < j := by omega

set_option maxRecDepth 10000 in
set_option maxHeartbeats 3200000 in
theorem symLeft_any (P Y Q : List Rc) (x : Rc) (hY : Srt Y) (g N cap a m b : Nat) (ha : a = P.length) (hm : m = a + 1) (hb : b = m + Y.length) (w : World)
    (hN : N = (P ++ (mid Y x 0 ++ Q)).length) (hN2 : N ≤ 1152921504606846976) (hB : Blo w g (P ++ (mid Y x 0 ++ Q))) :
    Calls Try.prog 90 #[.slice (some ⟨g, 0, none⟩) N cap, .int .i64 a, .int .i64 m, .int .i64 b, .func (.func 73) #[] #[]] w fun e w' => e = .returned (.tuple #[]) ∧ Sorts w g (P ++ (sortR (x :: Y) ++ Q)) w' := by
  have hNn : P.length + 1 + Y.length + Q.length = N := by rw [hN, List.length_append, List.length_append, mid_length _ _ (Nat.zero_le _)]; omega
  have HN : Hid (N = (P ++ (mid Y x 0 ++ Q)).length) := hN
  have hL0 : P ++ (mid Y x 0 ++ Q) = (P ++ [x]) ++ (Y ++ Q) := by simp [mid]
  have hgx : (P ++ (mid Y x 0 ++ Q)).getD a zR = x := mid_at P Y x Q (Nat.zero_le _) (by omega)
  have hgy : ∀ h, m ≤ h → h < b → (P ++ (mid Y x 0 ++ Q)).getD h zR = Y.getD (h - m) zR := fun h h1 h2 => by
    rw [hL0, getD_mid (P ++ [x]) Y Q (by simp; omega) (by simp; omega)]
    congr 1
    simp; omega
  have Hgx := hid hgx
  have Hgy := hid hgy
  have Ha := hid ha
  have Hb := hid hb
  have e1 : IntKind.i64.wrap ((m : Int) - a) = 1 := (wrap64 (by omega) (by omega)).trans (by omega)
  have hmN : m ≤ b := by omega
  have hbN : b ≤ N := by omega
  have haN : a < m := by omega
  have hm' : Hid (m = a + 1) := hm
  clear hN hL0 hgx hgy ha hb hNn hm
  go_enter Try.func90, Try.ntmps90
  go_wp2
  go_loopw [10, 11] (fun i j wr => ∃ (p q : Nat), i = .int .i64 p ∧ j = .int .i64 q ∧ m ≤ p ∧ p ≤ q ∧ q ≤ b ∧ Below g w wr ∧ Hid (p = m ∨ gtB x (Y.getD (p - 1 - m) zR) = true) ∧ Hid (q = b ∨ gtB x (Y.getD (q - m) zR) = false) ∧ Hid (Blo wr g (P ++ (mid Y x 0 ++ Q)))) (fun i j _ => (intOf j).toNat - (intOf i).toNat)
  case atStart => exact ⟨m, b, rfl, rfl, Nat.le_refl _, hmN, Nat.le_refl _, Below.refl _ _, Or.inl rfl, Or.inl rfl, hB⟩
  case round =>
    clear hB
    obtain ⟨p, q, rfl, rfl, h1, h2, h3, hbel, hlo, hhi, hblo⟩ := hrel
    by_cases hlt : p < q
    · have hlt' : (p : Int) < q := by omega
      obtain ⟨h, hh, hh1, hh2⟩ : ∃ h : Nat, ((p : Int) + (q : Int)) / 2 = (h : Int) ∧ p ≤ h ∧ h < q := ⟨(p + q) / 2, by omega, by omega, by omega⟩
      have hgh := Hgy.out h (by omega) (by omega)
      obtain ⟨y, hy⟩ : ∃ y, Hid (Y.getD (h - m) zR = y) := ⟨_, rfl⟩
      rw [hy.out] at hgh
      have hhN : h < N := by omega
      have haN' : a < N := by omega
      have hsz := hblo.out.lt
      have hkeep : ∀ W : World, Below wr.heap.size wr W → W.cell? ⟨g, h * 4, none⟩ = some (.int .i64 y.sh) ∧ W.cell? ⟨g, h * 4 + 1, none⟩ = some (.int .i64 y.au) ∧ W.cell? ⟨g, h * 4 + 2, none⟩ = some (.int .i64 y.k) ∧ W.cell? ⟨g, h * 4 + 3, none⟩ = some (.int .i64 y.m) ∧ W.cell? ⟨g, a * 4, none⟩ = some (.int .i64 x.sh) ∧ W.cell? ⟨g, a * 4 + 1, none⟩ = some (.int .i64 x.au) ∧ W.cell? ⟨g, a * 4 + 2, none⟩ = some (.int .i64 x.k) ∧ W.cell? ⟨g, a * 4 + 3, none⟩ = some (.int .i64 x.m) := fun W hb => (hblo.out.below hb hsz).eight (by rw [← HN.out]; exact hhN) (by rw [← HN.out]; exact haN') hgh Hgx.out
      obtain ⟨c1, c2, c3, c4, d1, d2, d3, d4⟩ := hkeep wr (Below.refl _ _)
      have Hh := hid hh
      have HI1 : (h : Int) < N := by omega
      have HI2 : (a : Int) < N := by omega
      obtain ⟨o, ho⟩ : ∃ o, Hid (ordR y x = o) := ⟨_, rfl⟩
      have hord : ∀ W : World, Calls Try.prog 73 #[rv y, rv x] W fun e w' => e = .returned (.int .i64 o) ∧ Below W.heap.size W w' := fun W => by rw [← ho.out]; exact order_any y x W
      unfold rv at hord
      clear hgh
      go_upto_region 5 with fail
      try simp only [hh]
      clear hh
      go_region_held3 (fun w' => w'.cell? ⟨g, h * 4, none⟩ = some (.int .i64 y.sh) ∧ w'.cell? ⟨g, h * 4 + 1, none⟩ = some (.int .i64 y.au) ∧ w'.cell? ⟨g, h * 4 + 2, none⟩ = some (.int .i64 y.k) ∧ w'.cell? ⟨g, h * 4 + 3, none⟩ = some (.int .i64 y.m) ∧ w'.cell? ⟨g, a * 4, none⟩ = some (.int .i64 x.sh) ∧ w'.cell? ⟨g, a * 4 + 1, none⟩ = some (.int .i64 x.au) ∧ w'.cell? ⟨g, a * 4 + 2, none⟩ = some (.int .i64 x.k) ∧ w'.cell? ⟨g, a * 4 + 3, none⟩ = some (.int .i64 x.m)) (first | exact ⟨c1, c2, c3, c4, d1, d2, d3, d4⟩ | exact hkeep _ hb2)
        ((go_at_call 73; refine (hord _).mono ?_; rintro e w1 ⟨rfl, hb1⟩; have hb2 : Below wr.heap.size wr w1 := (Below.refl wr.heap.size wr).drew.trans hb1; clear hb1))
      have hB3 := hid (hblo.out.below hb2 hsz)
      have hbw : Below g w w1 := hbel.trans (hb2.mono (Nat.le_of_lt hsz))
      clear hkeep hord hb2
      by_cases ho0 : o < 0
      · have hgt : gtB x y = true := ord_neg.1 (by rw [ho.out]; exact ho0)
        have hnew : Hid (h + 1 = m ∨ gtB x (Y.getD (h + 1 - 1 - m) zR) = true) := hid (Or.inr (by rw [Nat.add_sub_cancel, hy.out]; exact hgt))
        clear hgt
        go_wp2_with fail
        go_roundw
        case rel => exact ⟨h + 1, q, by go_num, rfl, by omega, by omega, h3, hbw, hnew, hhi, hB3⟩
        case measure => simp [intOf]; omega
      · have hgt : gtB x y = false := ord_pos.1 (by rw [ho.out]; exact ho0)
        have hnew : Hid (h = b ∨ gtB x (Y.getD (h - m) zR) = false) := hid (Or.inr (by rw [hy.out]; exact hgt))
        clear hgt
        go_wp2_with fail
        go_roundw
        case rel => exact ⟨p, h, rfl, rfl, h1, hh1, by omega, hbw, hlo, hnew, hB3⟩
        case measure => simp [intOf]; omega
    · obtain rfl : q = p := by omega
      have hfin : Y.take (q - m) ++ x :: Y.drop (q - m) = sortR (x :: Y) := by
        refine merge_left hY (by have := Hb.out; omega) ?_ ?_
        · rcases hlo.out with h | h
          · exact Or.inl (by omega)
          · refine Or.inr ?_
            rw [show q - m - 1 = q - 1 - m by omega]; exact h
        · rcases hhi.out with h | h
          · exact Or.inl (by have := Hb.out; omega)
          · exact Or.inr h
      have Hfin := hid hfin
      have HM : ∀ p, p ≤ Y.length → (P ++ (mid Y x p ++ Q)).length = N := fun p hp => by
        rw [HN.out, List.length_append, List.length_append, List.length_append, List.length_append, mid_length _ _ hp, mid_length _ _ (Nat.zero_le _)]
      have HM' := hid HM
      have hq0 : ((q : Int) - 1) = ((q - 1 : Nat) : Int) := by have := hm'.out; omega
      have hq1 : IntKind.i64.wrap ((q : Int) - 1) = ((q - 1 : Nat) : Int) := (wrap64 (by omega) (by omega)).trans hq0
      have hqa : a ≤ q - 1 := by have := hm'.out; omega
      clear hfin HM hlt hlo hhi hq0
      go_wp2_with fail
      generalize wr = W0 at *
      go_loopw [13] (fun i wr => ∃ p : Nat, i = .int .i64 p ∧ a ≤ p ∧ p ≤ q - 1 ∧ Below g w wr ∧ Hid (Blo wr g (P ++ (mid Y x (p - a) ++ Q)))) (fun i _ => q - (intOf i).toNat)
      case atStart => exact ⟨a, rfl, Nat.le_refl _, hqa, hbel, by rw [Nat.sub_self]; exact hblo⟩
      case round =>
        clear hblo hbel
        obtain ⟨p, rfl, hp1, hp2, hbel, hblo⟩ := hrel
        by_cases hlt : p < q - 1
        · have hlt' : (p : Int) < ((q - 1 : Nat) : Int) := by omega
          have hpY : p - a < Y.length := by have := hm'.out; have := Hb.out; omega
          have hL := hid (HM'.out (p - a) (by omega))
          have hy1 := mid_at P Y x Q (p := p - a) (i := p) (by omega) (by have := Ha.out; omega)
          have hy2 := mid_next P Y x Q (p := p - a) (i := p + 1) hpY (by have := Ha.out; omega)
          have hnext := hid (swp_mid' P Y x Q (p := p - a) (i := p) (j := p + 1) hpY (by have := Ha.out; omega) (by have := Ha.out; omega))
          obtain ⟨y, hy⟩ : ∃ y, Hid (Y.getD (p - a) zR = y) := ⟨_, rfl⟩
          rw [hy.out] at hy2
          have hpN : p + 1 < N := by have := hm'.out; have := Hb.out; omega
          have hpN' : p < N := by omega
          obtain ⟨c1, c2, c3, c4, d1, d2, d3, d4⟩ := hblo.out.eight (by rw [hL.out]; exact hpN') (by rw [hL.out]; exact hpN) hy1 hy2
          have fr := hblo.out.free
          have Hy1 := hid hy1
          have Hy2 := hid hy2
          have HI1 : (p : Int) + 1 < N := by omega
          have HI2 : (p : Int) < N := by omega
          clear hy1 hy2
          go_upto_region 11 with fail
          go_region
          have hP := hblo.out.swp (i := p) (j := p + 1) (by rw [hL.out]; exact hpN') (by rw [hL.out]; exact hpN) Hy1.out Hy2.out
          have hQ := put4_below (put4_below hbel g (p * 4) (Nat.le_refl _) y) g ((p + 1) * 4) (Nat.le_refl _) x
          rw [hnext.out] at hP
          unfold put4 at hP hQ
          go_wp2_with fail
          go_roundw
          case rel => exact ⟨p + 1, by go_num, by omega, by omega, hQ.drew, by rw [show p + 1 - a = p - a + 1 by omega]; exact hP.drew⟩
          case measure => simp [intOf]; omega
        · have hlt' : ¬ ((p : Int) < ((q - 1 : Nat) : Int)) := by omega
          have hE : Hid (Blo wr g (P ++ (sortR (x :: Y) ++ Q))) := by
            have := hblo.out
            rw [show p - a = q - m by have := hm'.out; omega] at this
            unfold mid at this
            rw [Hfin.out] at this
            exact this
          go_wp2_with fail
          refine bodyPost_ret (results_none rfl _ _ _) rfl ?_
          exact ⟨rfl, hbel, hE.out⟩
end Go.Proofs.Ytodkcagingnelab.Dy
