/- The walk of DayAll. -/
import Derived.Test.YtkkgojdefjoajacDyp
namespace Go.Proofs.Ytkkgojdefjoajac.Dy
open Go.RowKit Go.Proofs.Ytkkgojdefjoajac.Gn

theorem nets_small {L : List Rc} (h : Right L) : ∀ n : Nat, -(100000000 * (n : Int)) ≤ netsTo L n ∧ netsTo L n ≤ 100000000 * (n : Int)
  | 0 => by simp [netsTo]
  | n + 1 => by
    have h1 := nets_small h n
    have h2 := net_small h (n : Int) (k := L.length) (Nat.le_refl _)
    rw [List.take_length] at h2
    unfold netsTo
    omega
theorem sgnF_small {L : List Rc} (h : Right L) {k : Nat} (hk : k ≤ L.length) : -100000000 ≤ sumBy sgnF (L.take k) ∧ sumBy sgnF (L.take k) ≤ 100000000 := by
  have := sumBy_bound (f := sgnF) (c := 1000000) (L := L.take k) fun r hr => by
    have h1 := (h.each r (List.mem_of_mem_take hr)).2
    unfold far at h1
    unfold sgnF sgn; split
    · omega
    · split <;> omega
  have h2 := h.few
  rw [List.length_take] at this
  have h3 : min k L.length ≤ 100 := by omega
  omega

theorem fieldErr (x y : Int) (w : World) : (Instr.field 26 (.agg #[.int .i64 x, .int .i64 y]) 0).run Try.prog w = .ok (.int .i64 x) w := by kernel_rfl

set_option maxHeartbeats 3200000 in
theorem dayAll_any (L : List Rc) (v : Value) (w : World) (h : At kR w v L) :
    Calls Try.prog 3 #[v] w fun e w' => e = .returned (.bool true) ∧ Below w.heap.size w w' := by
  have hfd := fieldErr
  have hh := h
  have hm := h.len
  unfold maxLen at hm
  obtain ⟨a, c, rfl, hl⟩ := h
  have hAl : Calls Try.prog 4 #[] w fun e w' => e = .returned (.bool true) ∧ Below w.heap.size w w' := alive_any w
  have hWr : ∀ X : World, Below w.heap.size w X → Calls Try.prog 5 #[.slice a L.length c] X fun e w' => e = .returned (.agg #[.int .i64 (wrongL L).1, .int .i64 (wrongL L).2]) ∧ Below X.heap.size X w' := fun X hX => wrong_any L _ X (hh.below hX)
  by_cases hw : (wrongL L).1 = 0
  case neg =>
    have hw' : ((wrongL L).1 != 0) = true := by simpa using hw
    clear hw
    generalize (wrongL L).1 = e1 at *
    generalize (wrongL L).2 = e2 at *
    go_enter Try.func3, Try.ntmps3
    go_wp2_with (first
      | (go_at_call 4; refine hAl.mono ?_; rintro e w1 ⟨rfl, hb1⟩)
      | (go_at_call 5; refine (hWr _ hb1).mono ?_; rintro e w2 ⟨rfl, hb2⟩))
    go_ret
    exact ⟨rfl, hb1.trans (hb2.mono hb1.size)⟩
  case pos =>
    have hR := wrong_ok.1 hw
    rw [wrong_zero hw] at hWr
    dsimp only at hWr
    have hNe : ∀ (X : World) (s : Int), Below w.heap.size w X → Calls Try.prog 6 #[.slice a L.length c, .int .i64 s] X fun e w' => e = .returned (.int .i64 (net s L)) ∧ Below X.heap.size X w' := fun X s hX => net_any L _ s X (hh.below hX) hR
    have hAll := hid (all_shops (l := L) fun r hr => (hR.each r hr).2)
    clear hw
    have HR := hid hR
    clear hR
    go_enter Try.func3, Try.ntmps3
    go_wp2_with (first
      | (go_at_call 4; refine hAl.mono ?_; rintro e w1 ⟨rfl, hb1⟩)
      | (go_at_call 5; refine (hWr _ hb1).mono ?_; rintro e w2 ⟨rfl, hb2⟩))
    have hb3 : Below w.heap.size w w2 := hb1.trans (hb2.mono hb1.size)
    clear hb1 hb2 hWr hAl
    go_loopw [13, 3] (fun i s wr => ∃ (k : Nat) (x : Int), k ≤ 8 ∧ i = .int .i64 k ∧ s = .int .i64 x ∧ Hid (x = netsTo L k) ∧ Below w.heap.size w wr) (fun i _ _ => 8 - (intOf i).toNat)
    case atStart => exact ⟨0, 0, by omega, rfl, rfl, rfl, hb3⟩
    case round =>
      clear hb3
      obtain ⟨k, x, hk, rfl, rfl, hx, hb⟩ := hrel
      have hxs := nets_small HR.out k
      rw [← hx.out] at hxs
      by_cases hlt : k < 8
      · have hlt' : (k : Int) < 8 := by omega
        have hns := net_small HR.out (k : Int) (k := L.length) (Nat.le_refl _)
        rw [List.take_length] at hns
        have hst : Hid (x + net (k : Int) L = netsTo L (k + 1)) := by rw [hx.out]; exact hid rfl
        have hNk := fun X => hNe X (k : Int)
        generalize net (k : Int) L = y at *
        go_wp2_with (go_at_call 6; refine (hNk _ hb).mono ?_; rintro e w3 ⟨rfl, hb3⟩)
        go_roundw
        case rel => exact ⟨k + 1, x + y, by omega, by go_num, by go_num, hst, hb.trans (hb3.mono hb.size)⟩
        case measure => simp [intOf]; omega
      · obtain rfl : k = 8 := by omega
        have hxs2 : -1000000000 ≤ x ∧ x ≤ 1000000000 := by omega
        have hx8 : Hid (x = sumBy sgnF L) := by rw [hx.out]; exact hAll
        clear hxs hx hNe
        go_wp2_with fail
        generalize wr = W0 at *
        go_loopw [24, 3] (fun i s wr => ∃ (k : Nat) (y : Int), k ≤ L.length ∧ i = .int .i64 k ∧ s = .int .i64 y ∧ Hid (y + sumBy sgnF (L.take k) = x) ∧ Below w.heap.size w wr) (fun i _ _ => L.length - (intOf i).toNat)
        case atStart => exact ⟨0, x, Nat.zero_le _, rfl, rfl, by simp [Hid, sumBy], hb⟩
        case round =>
          clear hb
          obtain ⟨k, y, hk, rfl, rfl, hy, hb⟩ := hrel
          by_cases hlt : k < L.length
          · have hlt' : (k : Int) < L.length := by omega
            obtain ⟨b, off, rfl, hbl, e1, e2, e3, e4⟩ := rc_cells (hl.below hb) hlt
            have hs := each_small HR.out hlt
            have hsm := sgnF_small HR.out (k := k) hk
            have hst : sumBy sgnF (L.take (k + 1)) = sumBy sgnF (L.take k) + sgnF (L.getD k zR) := sumBy_step _ hlt
            have hyo := hy.out
            obtain ⟨q', hq'⟩ : ∃ q', Hid (sumBy sgnF (L.take (k + 1)) = q') := ⟨_, rfl⟩
            rw [hq'.out] at hst
            generalize sumBy sgnF (L.take k) = q at *
            generalize L.getD k zR = r at *
            obtain ⟨sh, au, kk, m⟩ := r
            dsimp only at e1 e2 e3 e4 hs
            unfold sgnF at hst
            dsimp only at hst
            have hys : -2000000000 ≤ y ∧ y ≤ 2000000000 := by omega
            have Hst := hid hst
            have Hy := hid hyo
            clear hst hyo hy
            rcases sgn_ways kk with ⟨hu, rfl | rfl⟩ | ⟨hu, rfl | rfl⟩ | ⟨hu, n1, n2, n3, n4⟩
            case inr.inr =>
              have g1 : (kk == 2) = false := by simpa using n1
              have g2 : (kk == 3) = false := by simpa using n2
              have g3 : (kk == 5) = false := by simpa using n3
              have g4 : (kk == 7) = false := by simpa using n4
              have hE : Hid (y + q' = x) := by have h1 := Hst.out; rw [hu.out] at h1; have h2 := Hy.out; exact hid (by omega)
              clear n1 n2 n3 n4
              go_wp2_with fail
              go_roundw
              case rel => exact ⟨k + 1, y, by omega, by go_num, rfl, by rw [hq'.out]; exact hE, by repeat (first | exact hb | refine bel_alloc ?_ _)⟩
              case measure => simp [intOf]; omega
            case inl.inl =>
              have hE : Hid (y - m + q' = x) := by have h1 := Hst.out; rw [hu.out] at h1; have h2 := Hy.out; exact hid (by omega)
              go_wp2_with fail
              go_roundw
              case rel => exact ⟨k + 1, y - m, by omega, by go_num, by go_num, by rw [hq'.out]; exact hE, by repeat (first | exact hb | refine bel_alloc ?_ _)⟩
              case measure => simp [intOf]; omega
            case inl.inr =>
              have hE : Hid (y - m + q' = x) := by have h1 := Hst.out; rw [hu.out] at h1; have h2 := Hy.out; exact hid (by omega)
              go_wp2_with fail
              go_roundw
              case rel => exact ⟨k + 1, y - m, by omega, by go_num, by go_num, by rw [hq'.out]; exact hE, by repeat (first | exact hb | refine bel_alloc ?_ _)⟩
              case measure => simp [intOf]; omega
            all_goals
              have hE : Hid (y + m + q' = x) := by have h1 := Hst.out; rw [hu.out] at h1; have h2 := Hy.out; exact hid (by omega)
              go_wp2_with fail
              go_roundw
              case rel => exact ⟨k + 1, y + m, by omega, by go_num, by go_num, by rw [hq'.out]; exact hE, by repeat (first | exact hb | refine bel_alloc ?_ _)⟩
              case measure => simp [intOf]; omega
          · have hE : y = 0 := by
              have h1 := hy.out
              rw [List.take_of_length_le (by omega), ← hx8.out] at h1
              omega
            subst hE
            go_wp2_with fail
            go_ret
            exact ⟨rfl, hb⟩
theorem dayAll_at (a : Option Addr) (cap : Nat) (L : List Rc) (w : World) (h : Lies kR w a cap L) :
    Calls Try.prog 3 #[.slice a L.length cap] w fun e w' => e = .returned (.bool true) ∧ Below w.heap.size w w' := dayAll_any L _ w ⟨a, cap, rfl, h⟩
end Go.Proofs.Ytkkgojdefjoajac.Dy
