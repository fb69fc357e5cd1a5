/- Sorting in place: the walks of swapRange, insertionSort, rotate. -/
import Derived.Test.YtodkcagingnelabDya
namespace Go.Proofs.Ytodkcagingnelab.Dy
open Go.RowKit Go.Proofs.Ytodkcagingnelab.Gn

/-- The order as a function value. -/
def fo : Value := .func (.func 73) #[] #[]
/-- What a call that sorts in place leaves. -/
structure Sorts (w : World) (g : Nat) (L : List Rc) (w' : World) : Prop where
  bel : Below g w w'
  blo : Blo w' g L

theorem wrap64 {x : Int} (h1 : -9223372036854775808 ≤ x) (h2 : x ≤ 9223372036854775807) : IntKind.i64.wrap x = x := by
  simp [IntKind.wrap, IntKind.bits, IntKind.signed]
  omega
theorem Blo.drew {w : World} {g : Nat} {L : List Rc} (h : Blo w g L) : Blo w.drew g L := h.keep rfl
theorem Blo.swp {w : World} {g : Nat} {L : List Rc} (h : Blo w g L) {i j : Nat} (hi : i < L.length) (hj : j < L.length) {x y : Rc} (hx : L.getD i zR = x) (hy : L.getD j zR = y) : Blo (put4 (put4 w g (i * 4) y) g (j * 4) x) g (swp L i j) := by
  subst hx hy
  exact (h.put hi rfl _).put (by rw [List.length_set]; exact hj) rfl _

set_option maxHeartbeats 1600000 in
theorem swapRange_any (P U V W Q : List Rc) (n : Nat) (hu : U.length = n) (hw : W.length = n) (g N cap a b : Nat) (ha : a = P.length) (hb : b = P.length + n + V.length) (w : World)
    (hN : N = (P ++ (U ++ (V ++ (W ++ Q)))).length) (hN2 : N ≤ 1152921504606846976) (hB : Blo w g (P ++ (U ++ (V ++ (W ++ Q))))) :
    Calls Try.prog 94 #[.slice (some ⟨g, 0, none⟩) N cap, .int .i64 a, .int .i64 b, .int .i64 n, fo] w fun e w' => e = .returned (.tuple #[]) ∧ Sorts w g (P ++ (W ++ (V ++ (U ++ Q)))) w' := by
  rw [← swd_zero P U V W Q] at hB hN
  rw [← swd_end (P := P) (V := V) (Q := Q) hu hw]
  have hN' : ∀ k, k ≤ n → (swd P U V W Q k).length = N := fun k hk => by rw [hN, swd_length hu hw hk, swd_length hu hw (Nat.zero_le _)]
  have hNn : P.length + n + V.length + n + Q.length = N := by rw [hN, swd_length hu hw (Nat.zero_le _)]
  clear hN
  unfold fo
  go_enter Try.func94, Try.ntmps94
  go_wp2
  go_loopw [10] (fun i wr => ∃ k : Nat, k ≤ n ∧ i = .int .i64 k ∧ Below g w wr ∧ Hid (Blo wr g (swd P U V W Q k))) (fun i _ => n - (intOf i).toNat)
  case atStart => exact ⟨0, Nat.zero_le _, rfl, Below.refl _ _, hB⟩
  case round =>
    obtain ⟨k, hk, rfl, hbel, hblo⟩ := hrel
    by_cases hlt : k < n
    · have hlt' : (k : Int) < n := by omega
      have hL := hN' k hk
      obtain ⟨c1, c2, c3, c4⟩ := hblo.out.cells (i := a + k) (by omega)
      obtain ⟨d1, d2, d3, d4⟩ := hblo.out.cells (i := b + k) (by omega)
      have fr := hblo.out.free
      have hnext := swd_next (P := P) (V := V) (Q := Q) (a := a + k) (b := b + k) hu hw hlt (by omega) (by omega)
      have hij : a + k ≠ b + k := by omega
      have hi : a + k < N := by omega
      have hj : b + k < N := by omega
      have Ha := hid ha
      have Hb := hid hb
      have Hn := hid hnext
      have HL := hid hL
      have HN := hid hN'
      have hb' : b ≤ 1152921504606846976 := by omega
      have ha' : a ≤ 1152921504606846976 := by omega
      have hk' : k ≤ 1152921504606846976 := by omega
      clear ha hb hnext hL hN' hNn hu hw
      go_upto_region 3 with fail
      generalize hx : (swd P U V W Q k).getD (a + k) zR = x at *
      generalize hy : (swd P U V W Q k).getD (b + k) zR = y at *
      go_region
      have hP := hblo.out.swp (i := a + k) (j := b + k) (by rw [HL.out]; exact hi) (by rw [HL.out]; exact hj) hx hy
      have hQ := put4_below (put4_below hbel g ((a + k) * 4) (Nat.le_refl _) y) g ((b + k) * 4) (Nat.le_refl _) x
      rw [Hn.out] at hP
      unfold put4 at hP hQ
      go_wp2_with fail
      go_roundw
      case rel => exact ⟨k + 1, by omega, by go_num, hQ.drew, hP.drew⟩
      case measure => simp [intOf]; omega
    · have hk2 : k = n := by omega
      subst hk2
      go_wp2_with fail
      go_end0
      exact ⟨rfl, hbel, hblo.out⟩

theorem sort_le_one {X : List Rc} (h : X.length ≤ 1) : sortR X = X := by
  match X, h with
  | [], _ => rfl
  | [x], _ => exact sort_of_srt (List.pairwise_singleton _ _)
theorem take_sort_length {X : List Rc} {k : Nat} (h : k ≤ X.length) : (sortR (X.take k)).length = k := by rw [sort_length]; simp; omega

set_option maxHeartbeats 3200000 in
theorem insertion_any (P X Q : List Rc) (g N cap a b : Nat) (ha : a = P.length) (hb : b = P.length + X.length) (w : World)
    (hN : N = (P ++ (X ++ Q)).length) (hN2 : N ≤ 1152921504606846976) (hB : Blo w g (P ++ (X ++ Q))) :
    Calls Try.prog 89 #[.slice (some ⟨g, 0, none⟩) N cap, .int .i64 a, .int .i64 b, fo] w fun e w' => e = .returned (.tuple #[]) ∧ Sorts w g (P ++ (sortR X ++ Q)) w' := by
  have hNn : P.length + X.length + Q.length = N := by rw [hN]; simp; omega
  clear hN
  unfold fo
  go_enter Try.func89, Try.ntmps89
  go_wp2
  go_loopw [8] (fun i wr => ∃ k : Nat, 1 ≤ k ∧ (k ≤ X.length ∨ k = 1) ∧ i = .int .i64 ((a : Int) + k) ∧ Below g w wr ∧ Hid (Blo wr g (P ++ (sortR (X.take k) ++ (X.drop k ++ Q))))) (fun i _ => b + 1 - (intOf i).toNat)
  case atStart =>
    refine ⟨1, Nat.le_refl _, Or.inr rfl, by go_num, Below.refl _ _, ?_⟩
    rw [sort_le_one (by simp; omega), ← List.append_assoc (X.take 1), List.take_append_drop]
    exact hB
  case round =>
    obtain ⟨k, hk1, hk2, rfl, hbel, hblo⟩ := hrel
    by_cases hlt : k < X.length
    · have hlt' : (a : Int) + k < b := by omega
      obtain ⟨x, hx⟩ : ∃ x, Hid (X.getD k zR = x) := ⟨_, rfl⟩
      obtain ⟨S, hS⟩ : ∃ S, Hid (sortR (X.take k) = S) := ⟨_, rfl⟩
      obtain ⟨R, hR⟩ : ∃ R, Hid (X.drop (k + 1) ++ Q = R) := ⟨_, rfl⟩
      have hSl : S.length = k := by rw [← hS.out]; exact take_sort_length (by omega)
      have h0 : Blo wr g (P ++ (mid S x k ++ R)) := by
        have := hblo.out
        rw [hS.out, drop_at hlt, hx.out, List.cons_append, hR.out] at this
        rw [← hSl, mid_end]; simpa using this
      have hend : ∀ p, pos x S S.length = p → Hid (Blo wr g (P ++ (mid S x p ++ R)) = Blo wr g (P ++ (sortR (X.take (k + 1)) ++ (X.drop (k + 1) ++ Q)))) := fun p hp => by
        refine hid ?_
        rw [sort_next hlt, hx.out, hS.out, ins_mid hp, hR.out]
      have hRl : P.length + (k + 1) + R.length = N := by rw [← hR.out]; simp; omega
      have hmid : ∀ p, p ≤ k → (P ++ (mid S x p ++ R)).length = N := fun p hp => by
        rw [List.length_append, List.length_append, mid_length _ _ (by omega)]; omega
      have Hmid := hid hmid
      have HN := hid hNn
      have Hend : ∀ W p, pos x S S.length = p → Blo W g (P ++ (mid S x p ++ R)) → Hid (Blo W g (P ++ (sortR (X.take (k + 1)) ++ (X.drop (k + 1) ++ Q)))) := fun W p hp hW => by
        refine hid ?_
        rw [sort_next hlt, hx.out, hS.out, ins_mid hp, hR.out]; exact hW
      have Ha := hid ha
      have Hb := hid hb
      have ha' : a ≤ 1152921504606846976 := by omega
      have hb' : b ≤ 1152921504606846976 := by omega
      have haN : a + k < N := by omega
      clear hend hmid hblo hRl hNn ha hb hB
      go_wp2_with fail
      generalize wr = W0 at *
      go_loopw [9] (fun j wr => ∃ q : Nat, a ≤ q ∧ q ≤ a + k ∧ j = .int .i64 (q : Int) ∧ Below g w wr ∧ Hid (pos x S S.length = pos x S (q - a)) ∧ Hid (Blo wr g (P ++ (mid S x (q - a) ++ R)))) (fun j _ => (intOf j).toNat)
      case atStart =>
        refine ⟨a + k, by omega, by omega, by go_num, hbel, ?_, ?_⟩
        · rw [hSl, Nat.add_sub_cancel_left]; exact hid rfl
        · rw [Nat.add_sub_cancel_left]; exact h0
      case round =>
        obtain ⟨q, hq1, hq2, rfl, hbel2, hpos, hblo2⟩ := hrel
        by_cases hqa : q = a
        · subst hqa
          have hz : q - q = 0 := Nat.sub_self q
          rw [hz] at hpos hblo2
          have hE := Hend wr 0 hpos.out hblo2.out
          clear hz
          go_upto_region 4 with fail
          go_quiet (fail)
          go_wp2_with fail
          go_roundw
          case rel => exact ⟨k + 1, by omega, by omega, by go_num, below_drewN hbel2 _, hE.out.keep rfl⟩
          case measure => simp [intOf]; omega
        · obtain ⟨r, rfl⟩ : ∃ r, q = r + 1 := ⟨q - 1, by omega⟩
          have hg : a < r + 1 := by omega
          have hg2 : a ≤ r := by omega
          have hd : decide ((a : Int) < (r : Int) + 1) = true := by simp; omega
          have hI0 : (0 : Int) ≤ (r : Int) + 1 := by omega
          have hI1 : (r : Int) + 1 < N := by omega
          have hI2 : (r : Int) < N := by omega
          have hI3 : r < N := by omega
          have hW1 : IntKind.i64.wrap ((r : Int) + 1 - 1) = r := (wrap64 (by omega) (by omega)).trans (by omega)
          have hW2 : IntKind.i64.wrap (r : Int) = r := wrap64 (by omega) (by omega)
          have hp : r + 1 - a = (r - a) + 1 := by omega
          rw [hp] at hpos hblo2
          have hL := Hmid.out (r - a + 1) (by omega)
          have hi : r + 1 < N := by omega
          obtain ⟨c1, c2, c3, c4⟩ := hblo2.out.cells (i := r + 1) (by omega)
          obtain ⟨d1, d2, d3, d4⟩ := hblo2.out.cells (i := r) (by omega)
          have hy1 := mid_at P S x R (p := r - a + 1) (i := r + 1) (by omega) (by rw [← Ha.out]; omega)
          have hy2 := mid_ahead P S x R (p := r - a) (i := r) (by omega) (by rw [← Ha.out]; omega)
          have hnext := swp_mid P S x R (p := r - a) (i := r) (j := r + 1) (by omega) (by rw [← Ha.out]; omega) (by rw [← Ha.out]; omega)
          obtain ⟨y, hy⟩ : ∃ y, Hid (S.getD (r - a) zR = y) := ⟨_, rfl⟩
          rw [hy.out] at hy2
          rw [hy1] at c1 c2 c3 c4
          rw [hy2] at d1 d2 d3 d4
          have fr := hblo2.out.free
          have hsz := hblo2.out.lt
          have Hnext := hid hnext
          have Hy1 := hid hy1
          have Hy2 := hid hy2
          have HL := hid hL
          clear hnext hy1 hy2 hL hp hqa
          obtain ⟨o, ho⟩ : ∃ o, Hid (ordR x y = o) := ⟨_, rfl⟩
          have hord : ∀ W : World, Calls Try.prog 73 #[rv x, rv y] W fun e w' => e = .returned (.int .i64 o) ∧ Below W.heap.size W w' := fun W => by rw [← ho.out]; exact order_any x y W
          unfold rv at hord
          have hkeep : ∀ W : World, Below wr.heap.size wr W → W.cell? ⟨g, (r + 1) * 4, none⟩ = some (.int .i64 x.sh) ∧ W.cell? ⟨g, (r + 1) * 4 + 1, none⟩ = some (.int .i64 x.au) ∧ W.cell? ⟨g, (r + 1) * 4 + 2, none⟩ = some (.int .i64 x.k) ∧ W.cell? ⟨g, (r + 1) * 4 + 3, none⟩ = some (.int .i64 x.m) ∧ W.cell? ⟨g, r * 4, none⟩ = some (.int .i64 y.sh) ∧ W.cell? ⟨g, r * 4 + 1, none⟩ = some (.int .i64 y.au) ∧ W.cell? ⟨g, r * 4 + 2, none⟩ = some (.int .i64 y.k) ∧ W.cell? ⟨g, r * 4 + 3, none⟩ = some (.int .i64 y.m) := fun W hb => ⟨(hb.cell (p := ⟨g, _, none⟩) hsz).trans c1, (hb.cell (p := ⟨g, _, none⟩) hsz).trans c2, (hb.cell (p := ⟨g, _, none⟩) hsz).trans c3, (hb.cell (p := ⟨g, _, none⟩) hsz).trans c4, (hb.cell (p := ⟨g, _, none⟩) hsz).trans d1, (hb.cell (p := ⟨g, _, none⟩) hsz).trans d2, (hb.cell (p := ⟨g, _, none⟩) hsz).trans d3, (hb.cell (p := ⟨g, _, none⟩) hsz).trans d4⟩
          have fr1 : ∀ W : World, Below wr.heap.size wr W → ∀ p, W.frozen? ⟨g, p, none⟩ = false := fun W hb => (hblo2.out.below hb hsz).free
          go_upto_region 4 with fail
          go_region_held3 (fun w' => w'.cell? ⟨g, (r + 1) * 4, none⟩ = some (.int .i64 x.sh) ∧ w'.cell? ⟨g, (r + 1) * 4 + 1, none⟩ = some (.int .i64 x.au) ∧ w'.cell? ⟨g, (r + 1) * 4 + 2, none⟩ = some (.int .i64 x.k) ∧ w'.cell? ⟨g, (r + 1) * 4 + 3, none⟩ = some (.int .i64 x.m) ∧ w'.cell? ⟨g, r * 4, none⟩ = some (.int .i64 y.sh) ∧ w'.cell? ⟨g, r * 4 + 1, none⟩ = some (.int .i64 y.au) ∧ w'.cell? ⟨g, r * 4 + 2, none⟩ = some (.int .i64 y.k) ∧ w'.cell? ⟨g, r * 4 + 3, none⟩ = some (.int .i64 y.m)) (first | exact ⟨c1, c2, c3, c4, d1, d2, d3, d4⟩ | exact hkeep _ hb2)
            ((go_at_call 73; refine (hord _).mono ?_; rintro e w1 ⟨rfl, hb1⟩; have hb2 : Below wr.heap.size wr w1 := (Below.refl wr.heap.size wr).drew.trans hb1; clear hb1))
          have hbl3 := hb2
          have hB3 := hid (hblo2.out.below hb2 hsz)
          obtain ⟨c1, c2, c3, c4, d1, d2, d3, d4⟩ := hkeep w1 hb2
          have fr3 := fr1 w1 hb2
          have hbw : Below g w w1 := hbel2.trans (hb2.mono (Nat.le_of_lt hsz))
          clear hb2 hkeep fr1 hord fr
          by_cases ho0 : o < 0
          · have hgt : gtB (S.getD (r - a) zR) x = true := by rw [hy.out]; exact ord_neg.1 (by rw [ho.out]; exact ho0)
            have hpos2 := hid (hpos.out.trans (pos_go hgt))
            have Hgt := hid hgt
            clear hgt
            go_upto_region 6 with fail
            go_region
            have hP := hB3.out.swp (i := r + 1) (j := r) (by rw [HL.out]; exact hi) (by rw [HL.out]; exact hI3) Hy1.out Hy2.out
            have hQ := put4_below (put4_below hbw g ((r + 1) * 4) (Nat.le_refl _) y) g (r * 4) (Nat.le_refl _) x
            rw [Hnext.out] at hP
            unfold put4 at hP hQ
            go_wp2_with fail
            go_roundw
            case rel => exact ⟨r, by omega, by omega, by go_num, hQ.drew, hpos2, hP.drew⟩
            case measure => simp [intOf]
          · have hgt : gtB (S.getD (r - a) zR) x = false := by rw [hy.out]; exact ord_pos.1 (by rw [ho.out]; exact ho0)
            have hE := Hend w1 (r - a + 1) (hpos.out.trans (pos_stay hgt)) hB3.out
            clear hgt
            go_wp2_with fail
            go_roundw
            case rel => exact ⟨k + 1, by omega, by omega, by go_num, hbw, hE.out⟩
            case measure => simp [intOf]; omega
    · have hblo2 : Blo wr g (P ++ (sortR X ++ Q)) := by
        have := hblo.out
        rw [List.take_of_length_le (by omega), List.drop_eq_nil_of_le (by omega)] at this
        simpa using this
      have hge : ¬ ((a : Int) + k < b) := by omega
      go_wp2_with fail
      go_end0
      exact ⟨rfl, hbel, hblo2⟩
end Go.Proofs.Ytodkcagingnelab.Dy
