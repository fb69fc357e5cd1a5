/- The walk of the law AuthRight: whatever is done with a permission, step by step. -/
import Derived.Test.YtolfddiofcllcaaWalkh
namespace Go.Proofs.Ytolfddiofcllcaa
open Go.RowKit

/-- A slice of pairs of numbers, as it lies in memory. -/
def Ents (w : World) (a : Option Addr) (L : List (Int × Int)) : Prop :=
  L.length ≤ maxLen ∧ (L = [] ∨ ∃ b off, a = some ⟨b, off, none⟩ ∧ b < w.heap.size ∧ ∀ i, i < L.length →
    w.cell? ⟨b, off + i * 2, none⟩ = some (.int .i64 (L.getD i (0, 0)).1) ∧ w.cell? ⟨b, off + i * 2 + 1, none⟩ = some (.int .i64 (L.getD i (0, 0)).2))

theorem step_form {a : Au} {k n : Int} (h : mvErr a k n = 0) : ∃ bs bc br bd bsh, step a k n = ⟨a.card, a.shop, bs, bc, br, bd, a.till, bsh⟩ ∧ wrongA ⟨a.card, a.shop, bs, bc, br, bd, a.till, bsh⟩ = 0 ∧
    (a.shut = true → bsh = true) ∧ a.cap ≤ bc ∧ a.ref ≤ br := by
  obtain ⟨h1, h2, h3, h4, h5, h6⟩ := step_keeps h
  have hr := step_right h
  generalize step a k n = x at *
  obtain ⟨c, s, m, cp, rf, d, t, sh⟩ := x
  simp only at h1 h2 h3 h4 h5 h6
  subst h1 h2 h3
  exact ⟨m, cp, rf, d, sh, rfl, hr, h4, h5, h6⟩

/-- A permission written over another. -/
abbrev wrote (w : World) (b : Nat) (c s m cp rf d t : Int) (sh : Bool) : World :=
  ((((((((w.setCell ⟨b, 0, none⟩ (.int .i64 c)).setCell ⟨b, 1, none⟩ (.int .i64 s)).setCell ⟨b, 2, none⟩ (.int .i64 m)).setCell ⟨b, 3, none⟩ (.int .i64 cp)).setCell ⟨b, 4, none⟩ (.int .i64 rf)).setCell ⟨b, 5, none⟩ (.int .i64 d)).setCell ⟨b, 6, none⟩ (.int .i64 t)).setCell ⟨b, 7, none⟩ (.bool sh))

theorem perm_set {w : World} {b : Nat} {a : Au} (h : Perm w b a) (c s m cp rf d t : Int) (sh : Bool) : Perm (wrote w b c s m cp rf d t sh) b ⟨c, s, m, cp, rf, d, t, sh⟩ := by
  obtain ⟨⟨R0, R1, R2, R3, R4, R5, R6, R7⟩, F⟩ := h
  unfold Perm
  simp [go_sem, R0, R1, R2, R3, R4, R5, R6, R7, F]

theorem next_round {w w5 : World} {a : Au} {k N : Nat} {c s m cp rf d t : Int} {sh : Bool} (hlt : k < N) (hw : Hid (wrongA ⟨c, s, m, cp, rf, d, t, sh⟩ = 0)) (h : Perm w5 w.heap.size a) (hb : Below w.heap.size w w5) (hy : w.heap.size < w5.heap.size) :
    ∃ (k_1 : Nat) (cur : Au), k_1 ≤ N ∧ Value.int IntKind.i64 ((k : Int) + 1) = Value.int IntKind.i64 (k_1 : Int) ∧ Hid (wrongA cur = 0) ∧ Perm (wrote w5 w.heap.size c s m cp rf d t sh) w.heap.size cur ∧ Below w.heap.size w (wrote w5 w.heap.size c s m cp rf d t sh) ∧ w.heap.size < (wrote w5 w.heap.size c s m cp rf d t sh).heap.size := by
  refine ⟨k + 1, ⟨c, s, m, cp, rf, d, t, sh⟩, by omega, by go_num, hw, perm_set h c s m cp rf d t sh, ?_, by simp; omega⟩
  repeat refine Below.setCell ?_ (by simp) _
  exact hb

theorem hold_s (c s m cp rf d t : Int) : holdA ⟨c, s, m, cp, rf, d, t, true⟩ = 0 := by simp [holdA]
theorem hold_o (c s m cp rf d t : Int) : holdA ⟨c, s, m, cp, rf, d, t, false⟩ = m - cp := by simp [holdA]

set_option maxHeartbeats 4000000 in
set_option maxRecDepth 10000 in
theorem right_any (a : Au) (p : Option Addr) (cap : Nat) (L : List (Int × Int)) (w : World) (hL : Ents w p L) :
    Calls Try.prog 7 #[av a, .slice p L.length cap] w fun e w' => e = .returned (.bool true) ∧ Below w.heap.size w w' := by
  obtain ⟨hm, hL⟩ := hL
  unfold maxLen at hm
  unfold av
  go_enter Try.func7, Try.ntmps7
  go_wp2_with fail
  refine (alive_any _).mono ?_
  rintro e w1 ⟨rfl, hb1⟩
  obtain ⟨P, hb', hz⟩ := after1 (a := a) hb1
  have hy : w.heap.size < w1.heap.size := hz
  clear hb1 hz
  have P' := P
  obtain ⟨⟨R0, R1, R2, R3, R4, R5, R6, R7⟩, -⟩ := P'
  go_wp2_with fail
  refine (wrong_any a _).mono ?_
  rintro e w2 ⟨rfl, hb2⟩
  have P2 := P.below hy hb2
  have hb12 := hb'.trans (hb2.mono (Nat.le_of_lt hy))
  have hy2 : w.heap.size < w2.heap.size := Nat.lt_of_lt_of_le hy hb2.size
  clear hb2 P R0 R1 R2 R3 R4 R5 R6 R7 hb' hy
  by_cases hw : wrongA a = 0
  · rw [hw]
    have HW := hid hw
    clear hw
    go_wp2
    go_loopw [17] (fun i wr => ∃ (k : Nat) (cur : Au), k ≤ L.length ∧ i = .int .i64 k ∧ Hid (wrongA cur = 0) ∧ Perm wr w.heap.size cur ∧ Below w.heap.size w wr ∧ w.heap.size < wr.heap.size) (fun i _ => L.length - (intOf i).toNat)
    case atStart => exact ⟨0, a, Nat.zero_le _, rfl, HW, P2, hb12, hy2⟩
    case round =>
      obtain ⟨k, cur, hk, rfl, hwc, P, hb, hy⟩ := hrel
      by_cases hlt : k < L.length
      · rcases hL with rfl | ⟨b, off, rfl, hbl, hcell⟩
        · simp at hlt
        obtain ⟨c1, c2⟩ := hcell k hlt
        have hlt' : (k : Int) < L.length := by omega
        have e1 := (hb.cell (p := ⟨b, off + k * 2, none⟩) hbl).trans c1
        have e2 := (hb.cell (p := ⟨b, off + k * 2 + 1, none⟩) hbl).trans c2
        clear c1 c2 hcell
        generalize (L.getD k (0, 0)).1 = x1 at *
        generalize (L.getD k (0, 0)).2 = x2 at *
        obtain ⟨c, s, m, cp, rf, d, t, sh⟩ := cur
        have P' := P
        obtain ⟨⟨R0, R1, R2, R3, R4, R5, R6, R7⟩, F⟩ := P'
        simp only at R0 R1 R2 R3 R4 R5 R6 R7
        clear P2 hb12 hy2
        go_wp2_with fail
        refine (move_any ⟨c, s, m, cp, rf, d, t, sh⟩ x1 x2 _).mono ?_
        rintro e w3 ⟨rfl, hb3⟩
        have P3 := P.on hy hb3
        have hb03 := below_call1 hb3
        have hb13 := hb.trans (hb03.mono (Nat.le_of_lt hy))
        have hy3 : w.heap.size < w3.heap.size := Nat.lt_of_lt_of_le hy hb03.size
        clear hb3 hb03 P R0 R1 R2 R3 R4 R5 R6 R7 F e1 e2
        by_cases hm : mvErr ⟨c, s, m, cp, rf, d, t, sh⟩ x1 x2 = 0
        · rw [mv_yes hm]
          obtain ⟨bs, bc, br, bd, bsh, hst, hwr, hsh, hcp, hrf⟩ := step_form hm
          rw [hst]
          clear hm hst
          simp only at hwr hsh hcp hrf
          obtain ⟨⟨⟨q1, q2⟩, ⟨q3, q4⟩, ⟨q5, q6⟩, ⟨q7, q8⟩, -⟩, f1, f2⟩ := wrongA_ok.1 hwr
          simp only at q1 q2 q3 q4 q5 q6 q7 q8 f1 f2
          have Hwr := hid hwr
          clear hwr
          simp only [av]
          go_wp2_with fail
          refine (wrong_any ⟨c, s, bs, bc, br, bd, t, bsh⟩ _).mono ?_
          rintro e w4 ⟨rfl, hb4⟩
          rw [Hwr.out]
          have P4 := P3.on hy3 hb4
          obtain ⟨Q4, hb34, hy4⟩ := after1 (a := ⟨c, s, bs, bc, br, bd, t, bsh⟩) hb4
          have hb14 := hb13.trans (hb34.mono (Nat.le_of_lt hy3))
          have hx4 : w3.heap.size < w4.heap.size := hy4
          clear hb4 hb34 hy4 P3
          have P4' := P4
          have Q4' := Q4
          obtain ⟨⟨R0, R1, R2, R3, R4, R5, R6, R7⟩, -⟩ := P4'
          obtain ⟨⟨S0, S1, S2, S3, S4, S5, S6, S7⟩, -⟩ := Q4'
          simp only at R0 R1 R2 R3 R4 R5 R6 R7 S0 S1 S2 S3 S4 S5 S6 S7
          have hss : (sh = true ∧ bsh = true) ∨ (sh = false ∧ bsh = true) ∨ (sh = false ∧ bsh = false) := by
            cases sh <;> cases bsh <;> simp at hsh ⊢
          clear hsh
          rcases hss with ⟨rfl, rfl⟩ | ⟨rfl, rfl⟩ | ⟨rfl, rfl⟩
          all_goals
            go_wp2_with fail
            refine (hold_any ⟨c, s, bs, bc, br, bd, t, _⟩ _ Hwr.out).mono ?_
            rintro e w5 ⟨rfl, hb5⟩
            have P5 := P4.below (Nat.lt_trans hy3 hx4) hb5
            have Q5 := Q4.below hx4 hb5
            have hb15 := hb14.trans (hb5.mono (by omega))
            have hx5 : w3.heap.size < w5.heap.size := Nat.lt_of_lt_of_le hx4 hb5.size
            have hy5 : w.heap.size < w5.heap.size := Nat.lt_trans hy3 hx5
            clear hb5 P4 Q4 R0 R1 R2 R3 R4 R5 R6 R7 S0 S1 S2 S3 S4 S5 S6 S7
            have P5' := P5
            obtain ⟨⟨R0, R1, R2, R3, R4, R5, R6, R7⟩, F⟩ := P5'
            obtain ⟨⟨S0, S1, S2, S3, S4, S5, S6, S7⟩, -⟩ := Q5
            simp only at R0 R1 R2 R3 R4 R5 R6 R7 S0 S1 S2 S3 S4 S5 S6 S7
            first | rw [hold_s] | rw [hold_o]
            go_wp2
            go_roundw
            case rel => exact next_round hlt Hwr P5 hb15 hy5
            case measure => simp [intOf]; omega
        · rw [mv_no hm]
          have hm' : (mvErr ⟨c, s, m, cp, rf, d, t, sh⟩ x1 x2 != 0) = true := by simpa using hm
          generalize mvErr ⟨c, s, m, cp, rf, d, t, sh⟩ x1 x2 = r at *
          clear hm
          simp only [av, none0]
          go_wp2
          go_roundw
          case rel => exact ⟨k + 1, ⟨c, s, m, cp, rf, d, t, sh⟩, by omega, by go_num, hwc, P3.alloc hy3 _, hb13.alloc (Nat.le_of_lt hy3) _, by simp; omega⟩
          case measure => simp [intOf]; omega
      · go_wp2
        go_ret
        exact ⟨rfl, hb⟩
  · have hw' : (wrongA a != 0) = true := by simpa using hw
    generalize wrongA a = r at *
    clear hw
    go_wp2
    go_ret
    exact ⟨rfl, hb12⟩
end Go.Proofs.Ytolfddiofcllcaa
