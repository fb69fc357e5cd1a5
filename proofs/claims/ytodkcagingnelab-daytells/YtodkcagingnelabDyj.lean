/- The walks of sign, Net and total. -/
import Derived.Test.YtodkcagingnelabDyi
import Derived.Test.YtodkcagingnelabDyMathb
namespace Go.Proofs.Ytodkcagingnelab.Dy
open Go.RowKit Go.Proofs.Ytodkcagingnelab.Gn

theorem wrap64' {x : Int} (h1 : -9223372036854775808 ≤ x) (h2 : x ≤ 9223372036854775807) : IntKind.i64.wrap x = x := by
  simp [IntKind.wrap, IntKind.bits, IntKind.signed]
  omega
theorem sgn_ways (k : Int) : (Hid (sgn k = 1) ∧ (k = 2 ∨ k = 3)) ∨ (Hid (sgn k = -1) ∧ (k = 5 ∨ k = 7)) ∨ (Hid (sgn k = 0) ∧ k ≠ 2 ∧ k ≠ 3 ∧ k ≠ 5 ∧ k ≠ 7) := by
  unfold sgn
  by_cases h1 : k = 2 ∨ k = 3
  · exact Or.inl ⟨hid (if_pos h1), h1⟩
  by_cases h2 : k = 5 ∨ k = 7
  · exact Or.inr (Or.inl ⟨hid (by rw [if_neg h1, if_pos h2]), h2⟩)
  · exact Or.inr (Or.inr ⟨hid (by rw [if_neg h1, if_neg h2]), by omega⟩)

set_option maxHeartbeats 800000 in
theorem sign_any (k : Int) (w : World) : Calls Try.prog 74 #[.int .i64 k] w fun e w' => e = .returned (.int .i64 (sgn k)) ∧ w' = w := by
  have W := sgn_ways k
  generalize sgn k = u at *
  rcases W with ⟨hu, rfl | rfl⟩ | ⟨hu, rfl | rfl⟩ | ⟨hu, h1, h2, h3, h4⟩
  case inr.inr =>
    have g1 : (k == 2) = false := by simpa using h1
    have g2 : (k == 3) = false := by simpa using h2
    have g3 : (k == 5) = false := by simpa using h3
    have g4 : (k == 7) = false := by simpa using h4
    clear h1 h2 h3 h4
    go_enter Try.func74, Try.ntmps74
    go_wp2
    go_ret
    exact ⟨ret_int hu.out.symm, rfl⟩
  all_goals
    go_enter Try.func74, Try.ntmps74
    go_wp2
    go_ret
    exact ⟨ret_int hu.out.symm, rfl⟩

theorem each_small {L : List Rc} (h : Right L) {k : Nat} (hk : k < L.length) : 1 ≤ (L.getD k zR).m ∧ (L.getD k zR).m ≤ 1000000 := by
  have := (h.each _ (getD_mem hk)).2
  unfold far at this; omega
theorem net_small {L : List Rc} (h : Right L) (shop : Int) {k : Nat} (hk : k ≤ L.length) : -100000000 ≤ net shop (L.take k) ∧ net shop (L.take k) ≤ 100000000 := by
  have := sumBy_bound (f := netF shop) (c := 1000000) (L := L.take k) fun r hr => by
    have h1 := (h.each r (List.mem_of_mem_take hr)).2
    unfold far at h1
    unfold netF
    split
    · unfold sgn; split
      · omega
      · split <;> omega
    · omega
  have h2 := h.few
  rw [List.length_take] at this
  have h3 : min k L.length ≤ 100 := by omega
  unfold net
  omega

set_option maxHeartbeats 2000000 in
theorem net_any (L : List Rc) (v : Value) (shop : Int) (w : World) (h : At kR w v L) (hR : Right L) :
    Calls Try.prog 47 #[v, .int .i64 shop] w fun e w' => e = .returned (.int .i64 (net shop L)) ∧ Below w.heap.size w w' := by
  have hm := h.len
  unfold maxLen at hm
  obtain ⟨a, c, rfl, hl⟩ := h
  go_enter Try.func47, Try.ntmps47
  go_wp2
  go_loopw [10, 5] (fun i s wr => ∃ (k : Nat) (x : Int), k ≤ L.length ∧ i = .int .i64 k ∧ s = .int .i64 x ∧ Hid (x = net shop (L.take k)) ∧ Below w.heap.size w wr) (fun i _ _ => L.length - (intOf i).toNat)
  case atStart => exact ⟨0, 0, Nat.zero_le _, rfl, rfl, rfl, Below.refl _ _⟩
  case round =>
    obtain ⟨k, x, hk, rfl, rfl, hx, hb⟩ := hrel
    by_cases hlt : k < L.length
    · have hlt' : (k : Int) < L.length := by omega
      obtain ⟨b, off, rfl, hbl, e1, e2, e3, e4⟩ := rc_cells (hl.below hb) hlt
      have hs := each_small hR hlt
      have hn1 := net_small hR shop (k := k) hk
      have hst : net shop (L.take (k + 1)) = net shop (L.take k) + netF shop (L.getD k zR) := sumBy_step _ hlt
      rw [← hx.out] at hn1 hst
      generalize L.getD k zR = r at *
      obtain ⟨sh, au, kk, m⟩ := r
      dsimp only at e1 e2 e3 e4 hs
      unfold netF at hst
      dsimp only at hst
      by_cases hq : sh = shop
      · rw [if_pos hq] at hst
        have hq' : (sh == shop) = true := by simpa using hq
        have Hst := hid hst
        have hsg : -1 ≤ sgn kk ∧ sgn kk ≤ 1 := by unfold sgn; split; omega; split <;> omega
        have hpr : -1000000 ≤ sgn kk * m ∧ sgn kk * m ≤ 1000000 ∧ sgn kk * m = m * sgn kk := by
          refine ⟨?_, ?_, Int.mul_comm _ _⟩ <;> (obtain ⟨hu, -⟩ | ⟨hu, -⟩ | ⟨hu, -⟩ := sgn_ways kk <;> rw [hu.out] <;> omega)
        have w1 : IntKind.i64.wrap (sgn kk * m) = sgn kk * m := wrap64' (by omega) (by omega)
        have w2 : IntKind.i64.wrap (x + sgn kk * m) = x + sgn kk * m := wrap64' (by omega) (by omega)
        have hE : Hid (x + sgn kk * m = net shop (L.take (k + 1))) := hid (by rw [Hst.out]; omega)
        clear hst hq hpr hsg
        have hSg : ∀ X : World, Calls Try.prog 74 #[.int .i64 kk] X fun e w' => e = .returned (.int .i64 (sgn kk)) ∧ w' = X := fun X => sign_any kk X
        generalize sgn kk = s at *
        go_upto_region 6 with fail
        have hb2 := bel_alloc hb (.cells #[.int .i64 sh, .int .i64 au, .int .i64 kk, .int .i64 m] 87)
        have C2 : (wr.alloc (.cells #[.int .i64 sh, .int .i64 au, .int .i64 kk, .int .i64 m] 87)).cell? ⟨wr.heap.size, 2, none⟩ = some (.int .i64 kk) := by simp
        have C3 : (wr.alloc (.cells #[.int .i64 sh, .int .i64 au, .int .i64 kk, .int .i64 m] 87)).cell? ⟨wr.heap.size, 3, none⟩ = some (.int .i64 m) := by simp
        generalize wr.alloc (.cells #[.int .i64 sh, .int .i64 au, .int .i64 kk, .int .i64 m] 87) = W1 at *
        go_region_held3 (fun X => X.cell? ⟨wr.heap.size, 2, none⟩ = some (.int .i64 kk) ∧ X.cell? ⟨wr.heap.size, 3, none⟩ = some (.int .i64 m)) (exact ⟨C2, C3⟩)
          ((go_at_call 74; refine (hSg _).mono ?_; rintro e w1 ⟨rfl, rfl⟩))
        go_wp2_with fail
        go_roundw
        case rel => exact ⟨k + 1, x + s * m, by omega, by go_num, rfl, hE, by repeat (first | exact hb2 | refine Below.drew ?_ | refine below_drewN ?_ _ | refine bel_alloc ?_ _)⟩
        case measure => simp [intOf]; omega
      · rw [if_neg hq] at hst
        have hq' : (sh == shop) = false := by simpa using hq
        have Hst := hid hst
        clear hst hq
        go_wp2_with fail
        go_roundw
        case rel => exact ⟨k + 1, x, by omega, by go_num, rfl, by have := Hst.out; exact hid (by omega), by repeat (first | exact hb | refine Below.drew ?_ | refine bel_alloc ?_ _)⟩
        case measure => simp [intOf]; omega
    · have hE : Hid (x = net shop L) := by rw [hx.out, List.take_of_length_le (by omega)]; exact hid rfl
      go_wp2
      go_ret
      exact ⟨ret_int hE.out, hb⟩

set_option maxHeartbeats 2000000 in
theorem total_any (L : List Rc) (v : Value) (w : World) (h : At kR w v L) (hR : Right L) :
    Calls Try.prog 70 #[v] w fun e w' => e = .returned (.int .i64 (total L)) ∧ Below w.heap.size w w' := by
  have hm := h.len
  unfold maxLen at hm
  obtain ⟨a, c, rfl, hl⟩ := h
  go_enter Try.func70, Try.ntmps70
  go_wp2
  go_loopw [8, 3] (fun i s wr => ∃ (k : Nat) (x : Int), k ≤ L.length ∧ i = .int .i64 k ∧ s = .int .i64 x ∧ 0 ≤ x ∧ x ≤ 1000000 * k ∧ Hid (x = total (L.take k)) ∧ Below w.heap.size w wr) (fun i _ _ => L.length - (intOf i).toNat)
  case atStart => exact ⟨0, 0, Nat.zero_le _, rfl, rfl, by omega, by omega, rfl, Below.refl _ _⟩
  case round =>
    obtain ⟨k, x, hk, rfl, rfl, hx0, hx1, hx, hb⟩ := hrel
    by_cases hlt : k < L.length
    · have hlt' : (k : Int) < L.length := by omega
      obtain ⟨b, off, rfl, hbl, e1, e2, e3, e4⟩ := rc_cells (hl.below hb) hlt
      have hs := each_small hR hlt
      have hst : total (L.take (k + 1)) = total (L.take k) + (L.getD k zR).m := sumBy_step _ hlt
      have hfew := hR.few
      rw [← hx.out] at hst
      generalize L.getD k zR = r at *
      obtain ⟨sh, au, kk, m⟩ := r
      dsimp only at e1 e2 e3 e4 hs hst
      have Hst := hid hst
      clear hst
      go_wp2_with fail
      go_roundw
      case rel => exact ⟨k + 1, x + m, by omega, by go_num, by go_num, by omega, by omega, Hst.out.symm, by repeat (first | exact hb | refine Below.drew ?_ | refine bel_alloc ?_ _)⟩
      case measure => simp [intOf]; omega
    · have hE : Hid (x = total L) := by rw [hx.out, List.take_of_length_le (by omega)]; exact hid rfl
      go_wp2
      go_ret
      exact ⟨ret_int hE.out, hb⟩
end Go.Proofs.Ytodkcagingnelab.Dy
